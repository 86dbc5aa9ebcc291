/- A range over a bound method that goes on making blocks of its own. Cut out of Im by gen_imf.py. -/
import Derived.Test.YtpiadbdkiibdbaaQIt
set_option linter.unusedSimpArgs false
set_option linter.unusedVariables false
namespace Go.Proofs.Ytpiadbdkiibdbaa
open Go Go.RowKit
/-- The iterator's contract. O: the blocks below the caller's that a body may turn. -/
def SeqF {α : Type} (P : Program) (g : Nat) (fb lb : Array Value) (encs : α → Array Value) (O : Nat → Prop) (S Sp : List α → Prop) (w : World) : Prop :=
  ∀ (n l : Nat) (J Jx : (Nat → Prop) → List α → World → Prop) (W : World), Below w.heap.size w W → (∀ k, O k → k < W.heap.size) →
    StableM (fun _ => False) J → StableM (fun _ => False) Jx →
    (∀ m M pre x A, (∀ k, M k → W.heap.size ≤ k ∧ k < A.heap.size) → W.heap.size ≤ A.heap.size → Sp (pre ++ [x]) → J M pre A → YieldAt Fence.wide m P l (encs x) A fun e B =>
      (e = .returned (.bool true) ∧ J M (pre ++ [x]) B ∧ SpareM (fun k => (k < W.heap.size ∧ ¬ O k) ∨ M k) A B) ∨ (e = .returned (.bool false) ∧ Jx M (pre ++ [x]) B ∧ SpareM (fun k => (k < W.heap.size ∧ ¬ O k) ∨ M k) A B)) →
    J (fun _ => False) [] W →
    CallsIn Fence.wide n P g (fb ++ #[.func (.yield l) #[] #[]] ++ lb) W fun e W' => (∃ v, e = .returned v) ∧ W.heap.size ≤ W'.heap.size ∧
      ((∃ xs, S xs ∧ J (fun _ => False) xs W') ∨ (∃ pre, Sp pre ∧ Jx (fun _ => False) pre W'))

theorem wpIn_rangeFunc_f {α : Type} {n : Nat} {P : Program} {g : Operand} {ps : Array Tmp} {assign body : Code} {Q : Exit → Act → World → Prop} {a : Act} {w : World}
    {gf : Nat} {fb lb : Array Value} (hg : a.eval g = .func (.func gf) fb lb) (eg : ∀ args w, (callFunc gf args).run P w = .ok (.enter gf args) w)
    {encs : α → Array Value} (O : Nat → Prop) (hO : ∀ k, O k → k < w.heap.size) {S Sp : List α → Prop} {w0 : World}
    (hseq : SeqF P gf fb lb encs (fun k => O k ∨ k = w.heap.size + 1) S Sp w0) (hb0 : Below w0.heap.size w0 w) (hps : ∀ x, (encs x).size = ps.size)
    (I : (Nat → Prop) → List α → World → Prop) (Ix : (Nat → Prop) → Code → List α → World → Prop) (Ax : (Nat → Prop) → List α → α → Act → World → Prop)
    (hI : StableM (fun k => k = w.heap.size + 1) I) (hIx : ∀ c, StableM (fun k => k = w.heap.size + 1) (fun M => Ix M c))
    (hAx : ∀ M pre x a' A B, Ax M pre x a' A → PrivM (fun k => M k ∨ k = w.heap.size + 1) A B → Ax M pre x a' B)
    (h0 : ∀ W1, Below w.heap.size w W1 → W1.heap.size = w.heap.size + 2 → I (fun _ => False) [] W1)
    (hassign : ∀ (m l : Nat) (M : Nat → Prop) (pre : List α) (x : α) (W : World), (∀ k, M k → w.heap.size + 2 ≤ k ∧ k < W.heap.size) → w.heap.size + 2 ≤ W.heap.size → Sp (pre ++ [x]) → I M pre W →
      assign.wpIn (Fence.wide.inRound l) m P (Exit.then (fun a' W' => I M pre W' ∧ Ax M pre x a' W' ∧ Below W.heap.size W W') (fun _ _ _ => False)) { tmps := (ps.zip (encs x)).foldl (fun t (p, v) => t.setIfInBounds p v) a.tmps, defers := [] } W)
    (hbody : ∀ (m l : Nat) (M : Nat → Prop) (pre : List α) (x : α) (a' : Act) (W : World), l = w.heap.size + 1 → (∀ k, M k → w.heap.size + 2 ≤ k ∧ k < W.heap.size) → w.heap.size + 2 ≤ W.heap.size → Sp (pre ++ [x]) → I M pre W → Ax M pre x a' W →
      body.wpIn (Fence.wide.inRound l) m P (postM (KeepM O w.heap.size M) (I M) (Ix M) (pre ++ [x]) W) a' W)
    (hdone : ∀ (D : Nat) (xs : List α) (W : World), D = w.heap.size → w.heap.size + 2 ≤ W.heap.size → S xs → I (fun _ => False) xs W → W.heap[D]? = some (.deferred (some [])) → Q .normal { a with defers := { target := .collected D, args := #[] } :: a.defers } W)
    (hstop : ∀ (D : Nat) (c : Code) (pre : List α) (W : World), D = w.heap.size → w.heap.size + 2 ≤ W.heap.size → Sp pre → Ix (fun _ => False) c pre W → W.heap[D]? = some (.deferred (some [])) → c.wpIn Fence.wide n P Q { a with defers := { target := .collected D, args := #[] } :: a.defers } W) :
    (Code.rangeFunc g ps assign body).wpIn Fence.wide n P Q a w := by
  refine wpIn_rangeFunc ?_
  intro fn hfn
  obtain ⟨rec, hrec⟩ : ∃ rec : LoopState → Option Code → Loop, rec = fun st pe => { state := st, pending := pe, fn, tmps := a.tmps, params := ps, assign, body, defers := w.heap.size } := ⟨_, rfl⟩
  obtain ⟨W1, hW1⟩ : ∃ W1, (w.alloc (.deferred (some []))).alloc (.loop (rec .ready none)) = W1 := ⟨_, rfl⟩
  have hs1 : W1.heap.size = w.heap.size + 2 := by rw [← hW1]; simp
  have hL1 : W1.heap[w.heap.size + 1]? = some (.loop (rec .ready none)) := by
    rw [← hW1]; have := World.alloc_heap_new (w.alloc (.deferred (some []))) (.loop (rec .ready none)); rwa [World.size_alloc] at this
  have hK1 : W1.heap[w.heap.size]? = some (.deferred (some [])) := by
    rw [← hW1]; exact (Below.heap_alloc _ _ _ (by simp)).trans (World.alloc_heap_new w _)
  have hwW : Below w.heap.size w W1 := by rw [← hW1]; exact ((Below.refl _ w).alloc (Nat.le_refl _) _).alloc (by simp) _
  have hb1 : Below w0.heap.size w0 W1 := hb0.trans (hwW.mono hb0.size)
  refine ⟨w.heap.size + 1, [{ target := .collected w.heap.size, args := #[] }], W1, { target := .fn (.func gf) lb, args := fb ++ #[.func (.yield (w.heap.size + 1)) #[] #[]] }, W1, gf,
    fb ++ #[.func (.yield (w.heap.size + 1)) #[] #[]] ++ lb, W1, ?_, ?_, fun _ _ => trivial, ?_, (fun h => by cases h), ?_⟩
  · rw [← hW1, hrec]; exact run_enterLoop_outer _ _ _ _ _
  · simp only [resolve, hg]
    simp [go_sem]
  · simp [invoke, go_sem, eg]
  · refine (hseq (n - 1) (w.heap.size + 1)
      (fun M pre W => I M pre W ∧ (¬ M (w.heap.size + 1) ∧ ¬ M w.heap.size) ∧ w.heap.size + 2 ≤ W.heap.size ∧ W.heap[w.heap.size + 1]? = some (.loop (rec .ready none)) ∧ W.heap[w.heap.size]? = some (.deferred (some [])))
      (fun M pre W => ∃ c, Ix M c pre W ∧ (¬ M (w.heap.size + 1) ∧ ¬ M w.heap.size) ∧ w.heap.size + 2 ≤ W.heap.size ∧ W.heap[w.heap.size + 1]? = some (.loop (rec .done (some c))) ∧ W.heap[w.heap.size]? = some (.deferred (some [])))
      W1 hb1 (fun k hk => by rcases hk with hk | hk
                             · have := hO k hk; omega
                             · omega) ?_ ?_ ?_ ?_).mono ?_
    · rintro M M' pre A B ⟨hi, hm, hz, hl, hk⟩ hp hM
      refine ⟨hI M M' pre A B hi (hp.mono (by rintro k (h | h); exact .inl h; exact h.elim)) hM, ⟨fun h => ?_, fun h => ?_⟩, Nat.le_trans hz hp.size, (hp.block _ (by omega) (fun h => ?_)).trans hl, (hp.block _ (by omega) (fun h => ?_)).trans hk⟩
      · rcases hM _ h with h | h
        · exact hm.1 h
        · omega
      · rcases hM _ h with h | h
        · exact hm.2 h
        · omega
      · rcases h with h | h
        · exact hm.1 h
        · exact h
      · rcases h with h | h
        · exact hm.2 h
        · exact h
    · rintro M M' pre A B ⟨c, hi, hm, hz, hl, hk⟩ hp hM
      refine ⟨c, hIx c M M' pre A B hi (hp.mono (by rintro k (h | h); exact .inl h; exact h.elim)) hM, ⟨fun h => ?_, fun h => ?_⟩, Nat.le_trans hz hp.size, (hp.block _ (by omega) (fun h => ?_)).trans hl, (hp.block _ (by omega) (fun h => ?_)).trans hk⟩
      · rcases hM _ h with h | h
        · exact hm.1 h
        · omega
      · rcases hM _ h with h | h
        · exact hm.2 h
        · omega
      · rcases h with h | h
        · exact hm.1 h
        · exact h
      · rcases h with h | h
        · exact hm.2 h
        · exact h
    · -- one round
      rintro m M pre x W hM hsz hspx ⟨hi, hm, hz, hl, hk⟩
      rw [hs1] at hM hsz
      have hy := run_yield (P := P) (args := encs x) hl (by rw [hrec]; exact hps x)
      rw [hrec] at hy
      refine ⟨fn, _, assign, body, hy, roundIn_of_wpIn hfn ?_⟩
      refine wpIn_mono (hassign _ (w.heap.size + 1) M pre x W hM hsz hspx hi) ?_
      rintro e a' W' hp
      cases e with
      | normal =>
        obtain ⟨hi', hax, hbel⟩ := hp
        have hl' : W'.heap[w.heap.size + 1]? = some (.loop (rec .ready none)) := (hbel.block _ (by omega)).trans hl
        have hk' : W'.heap[w.heap.size]? = some (.deferred (some [])) := (hbel.block _ (by omega)).trans hk
        have hsz' : w.heap.size + 2 ≤ W'.heap.size := Nat.le_trans hsz hbel.size
        refine ⟨_, run_beginRound hl' (by rw [hrec]), ?_⟩
        have hpr : PrivM (fun k => M k ∨ k = w.heap.size + 1) W' (W'.putObj (w.heap.size + 1) (.loop { rec .ready none with state := .busy })) := PrivM.putObj _ (.inr rfl) _
        have hl2 : (W'.putObj (w.heap.size + 1) (.loop { rec .ready none with state := .busy })).heap[w.heap.size + 1]? = some (.loop { rec .ready none with state := .busy }) := World.putObj_heap_same (by omega)
        have hk2 : (W'.putObj (w.heap.size + 1) (.loop { rec .ready none with state := .busy })).heap[w.heap.size]? = some (.deferred (some [])) := (World.putObj_heap_other (by omega)).trans hk'
        have hkeep : ∀ k, (k < W1.heap.size ∧ ¬ (O k ∨ k = w.heap.size + 1)) ∨ M k → k < W.heap.size ∧ k ≠ w.heap.size + 1 := fun k hk => by
          rcases hk with ⟨h1, h2⟩ | h
          · exact ⟨by omega, fun e => h2 (.inr e)⟩
          · exact ⟨(hM k h).2, fun e => hm.1 (e ▸ h)⟩
        have hsp0 : SpareM (fun k => (k < W1.heap.size ∧ ¬ (O k ∨ k = w.heap.size + 1)) ∨ M k) W (W'.putObj (w.heap.size + 1) (.loop { rec .ready none with state := .busy })) :=
          (SpareM.of_below hbel (fun k hk => (hkeep k hk).1)).trans (SpareM.putObj _ (fun h => (hkeep _ h).2 rfl) _)
        have hM' : ∀ k, M k → w.heap.size + 2 ≤ k ∧ k < (W'.putObj (w.heap.size + 1) (.loop { rec .ready none with state := .busy })).heap.size := fun k hk => by
          have := hM k hk
          have := hbel.size
          rw [World.putObj_size]; omega
        refine wpIn_mono (hbody _ _ M pre x a' _ rfl hM' (by rw [World.putObj_size]; exact hsz') hspx (hI M M pre _ _ hi' hpr (fun k h => .inl h)) (hAx M pre x a' _ _ hax hpr)) ?_
        have fin : ∀ (jump : Option Code) (W3 : World), SpareM (KeepM O w.heap.size M) (W'.putObj (w.heap.size + 1) (.loop { rec .ready none with state := .busy })) W3 →
            (Instr.endRound (w.heap.size + 1) jump).run P W3 = .ok (.bool jump.isNone) (W3.putObj (w.heap.size + 1) (.loop (rec (if jump.isNone then .ready else .done) jump))) ∧
            (W3.putObj (w.heap.size + 1) (.loop (rec (if jump.isNone then .ready else .done) jump))).heap[w.heap.size + 1]? = some (.loop (rec (if jump.isNone then .ready else .done) jump)) ∧
            (W3.putObj (w.heap.size + 1) (.loop (rec (if jump.isNone then .ready else .done) jump))).heap[w.heap.size]? = some (.deferred (some [])) ∧ w.heap.size + 2 ≤ W3.heap.size ∧
            SpareM (fun k => (k < W1.heap.size ∧ ¬ (O k ∨ k = w.heap.size + 1)) ∨ M k) W (W3.putObj (w.heap.size + 1) (.loop (rec (if jump.isNone then .ready else .done) jump))) := fun jump W3 hsp => by
          have hl3 := (hsp.block (w.heap.size + 1) (.inl ⟨by omega, fun e => by have := hO _ e; omega⟩)).trans hl2
          have hk3 := (hsp.block w.heap.size (.inl ⟨by omega, fun e => by have := hO _ e; omega⟩)).trans hk2
          have := run_endRound (P := P) jump hl3
          rw [hrec] at this ⊢
          have hz3 : w.heap.size + 2 ≤ W3.heap.size := Nat.le_trans (by rw [World.putObj_size]; exact hsz') hsp.size
          rw [hrec] at hsp0 hsp
          refine ⟨this, World.putObj_heap_same (Array.getElem?_eq_some_iff.1 hl3).1, (World.putObj_heap_other (by omega)).trans hk3, hz3, (hsp0.trans (hsp.imp (fun k h => ?_))).trans (SpareM.putObj _ (fun h => (hkeep _ h).2 rfl) _)⟩
          rcases h with ⟨h1, h2⟩ | h
          · exact .inl ⟨by omega, fun e => h2 (.inl e)⟩
          · exact .inr h
        rintro e a3 W3 hp3
        cases e with
        | normal =>
          obtain ⟨hsp, hi3⟩ := hp3
          obtain ⟨hr, hl4, hk4, hz3, hs4⟩ := fin none W3 hsp
          exact ⟨_, _, hr, .inl ⟨rfl, ⟨hI M M _ _ _ hi3 (PrivM.putObj _ (.inr rfl) _) (fun k h => .inl h), hm, by rw [World.putObj_size]; exact hz3, hl4, hk4⟩, hs4⟩⟩
        | ret =>
          obtain ⟨hsp, hi3⟩ := hp3
          obtain ⟨hr, hl4, hk4, hz3, hs4⟩ := fin (some .ret) W3 hsp
          exact ⟨_, _, hr, .inr ⟨rfl, ⟨.ret, hIx _ M M _ _ _ hi3 (PrivM.putObj _ (.inr rfl) _) (fun k h => .inl h), hm, by rw [World.putObj_size]; exact hz3, hl4, hk4⟩, hs4⟩⟩
        | exit id =>
          obtain ⟨hsp, hi3⟩ := hp3
          obtain ⟨hr, hl4, hk4, hz3, hs4⟩ := fin (some (.exit id)) W3 hsp
          exact ⟨_, _, hr, .inr ⟨rfl, ⟨.exit id, hIx _ M M _ _ _ hi3 (PrivM.putObj _ (.inr rfl) _) (fun k h => .inl h), hm, by rw [World.putObj_size]; exact hz3, hl4, hk4⟩, hs4⟩⟩
        | goto t =>
          obtain ⟨hsp, hi3⟩ := hp3
          obtain ⟨hr, hl4, hk4, hz3, hs4⟩ := fin (some (.goto t)) W3 hsp
          exact ⟨_, _, hr, .inr ⟨rfl, ⟨.goto t, hIx _ M M _ _ _ hi3 (PrivM.putObj _ (.inr rfl) _) (fun k h => .inl h), hm, by rw [World.putObj_size]; exact hz3, hl4, hk4⟩, hs4⟩⟩
        | panic ch => exact hp3.elim
        | outgrown => exact hp3.elim
      | ret => exact hp.elim
      | exit id => exact hp.elim
      | goto t => exact hp.elim
      | panic ch => exact hp.elim
      | outgrown => exact hp.elim
    · exact ⟨h0 W1 hwW hs1, ⟨fun h => h, fun h => h⟩, by omega, hL1, hK1⟩
    · -- behind the iterator
      rintro e W2 ⟨⟨v, rfl⟩, hz0, (⟨xs, hS, hi, hm, hz, hl, hk⟩ | ⟨pre, hSp, c, hi, hm, hz, hl, hk⟩)⟩
      · exact ⟨none, _, by have := run_endLoop (P := P) hl (by rw [hrec]; simp); rw [hrec] at this; exact this,
          hdone _ xs _ rfl (by rw [World.putObj_size]; exact hz) hS (hI _ _ _ _ _ hi (PrivM.putObj _ (.inr rfl) _) (fun k h => h.elim)) ((World.putObj_heap_other (by omega)).trans hk)⟩
      · exact ⟨some c, _, by have := run_endLoop (P := P) hl (by rw [hrec]; simp); rw [hrec] at this; exact this,
          hstop _ c pre _ rfl (by rw [World.putObj_size]; exact hz) hSp (hIx c _ _ _ _ _ hi (PrivM.putObj _ (.inr rfl) _) (fun k h => h.elim)) ((World.putObj_heap_other (by omega)).trans hk)⟩
end Go.Proofs.Ytpiadbdkiibdbaa

