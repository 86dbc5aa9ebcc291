/- Ranges over functions whose iterators write nothing but blocks of their own: a contract (Seq0) that is short, for bodies that remember nothing but what lies below the loop. -/
/- Package seine: newCatch: a book, and how many notes there are of each kind (told: each of them none or more, all together as many as there are notes). -/
import Derived.Test.YtjjfpbjdcmkkhaaDoorQIt
import Derived.Test.YtjjfpbjdcmkkhaaDoorQSe
set_option linter.unusedSimpArgs false
set_option linter.unusedVariables false
namespace Go.Proofs.YtjjfpbjdcmkkhaaDoor
open Go Go.RowKit

/-- A relation that speaks of blocks below n alone. -/
def Low {α : Type} (n : Nat) (J : List α → World → Prop) : Prop := ∀ pre A B, J pre A → n ≤ A.heap.size → Below n A B → J pre B
theorem PrivM.below {M : Nat → Prop} {A B : World} (h : PrivM M A B) {n : Nat} (hn : n ≤ A.heap.size) (hm : ∀ k, M k → n ≤ k) : Below n A B := ⟨h.os, h.tape, h.output, h.size, fun k hk => h.block k (by omega) (fun e => by have := hm k e; omega)⟩
theorem PrivM.of_below' {M : Nat → Prop} {A B : World} {n : Nat} (h : Below n A B) (hm : ∀ k, n ≤ k → k < A.heap.size → M k) : PrivM M A B := ⟨h.os, h.tape, h.output, h.size, fun k hk hn => h.block k (by rcases Nat.lt_or_ge k n with h1 | h1; exact h1; exact absurd (hm k h1 hk) hn)⟩
theorem PrivM.alloc {M : Nat → Prop} {A W : World} (h : PrivM M A W) (o : Obj) : PrivM M A (W.alloc o) :=
  h.trans ⟨rfl, rfl, rfl, by simp, fun k hk _ => Below.heap_alloc W o k hk⟩
theorem PrivM.drew {M : Nat → Prop} {A W : World} (h : PrivM M A W) : PrivM M A W.drew := ⟨h.os, h.tape, h.output, h.size, h.block⟩

/-- The iterator's contract. O: the blocks below the caller's that a body may turn. -/
def Seq0 {α : Type} (P : Program) (g : Nat) (fb lb : Array Value) (encs : α → Array Value) (O : Nat → Prop) (S Sp : List α → Prop) (w : World) : Prop :=
  ∀ (n l : Nat) (J Jx : List α → World → Prop) (W : World), Below w.heap.size w W → (∀ k, O k → k < W.heap.size) →
    Low W.heap.size J → Low W.heap.size Jx →
    (∀ m pre x A, W.heap.size ≤ A.heap.size → Sp (pre ++ [x]) → J pre A → YieldAt Fence.wide m P l (encs x) A fun e B =>
      (e = .returned (.bool true) ∧ J (pre ++ [x]) B ∧ PrivM O A B) ∨ (e = .returned (.bool false) ∧ Jx (pre ++ [x]) B ∧ PrivM O A B)) →
    J [] W →
    CallsIn Fence.wide n P g (fb ++ #[.func (.yield l) #[] #[]] ++ lb) W fun e W' => (∃ v, e = .returned v) ∧ PrivM O W W' ∧
      ((∃ xs, S xs ∧ J xs W') ∨ (∃ pre, Sp pre ∧ Jx pre W'))

theorem PrivM.shut {M : Nat → Prop} {A B C : World} (h1 : Below A.heap.size A B) (h2 : PrivM M B C) {D : Nat} (hD : A.heap.size ≤ D) (o : Obj) : PrivM M A (C.putObj D o) :=
  ⟨h2.os.trans h1.os, h2.tape.trans h1.tape, h2.output.trans h1.output, by rw [World.putObj_size]; exact Nat.le_trans h1.size h2.size, fun k hk hn =>
    (World.putObj_heap_other (by omega)).trans ((h2.block k (Nat.lt_of_lt_of_le hk h1.size) hn).trans (h1.block k hk))⟩
theorem below_putObj {n D : Nat} (W : World) (hD : n ≤ D) (o : Obj) : Below n W (W.putObj D o) := ⟨rfl, rfl, rfl, by simp, fun k hk => World.putObj_heap_other (by omega)⟩
def post0 {α : Type} (O : Nat → Prop) (I : List α → World → Prop) (Ix : Code → List α → World → Prop) (xs : List α) (W : World) : Exit → Act → World → Prop
  | .normal, _, W' => PrivM O W W' ∧ I xs W'
  | .ret, _, W' => PrivM O W W' ∧ Ix .ret xs W'
  | .exit id, _, W' => PrivM O W W' ∧ Ix (.exit id) xs W'
  | .goto t, _, W' => PrivM O W W' ∧ Ix (.goto t) xs W'
  | .panic _, _, _ => False
  | .outgrown, _, _ => False

theorem wpIn_rangeFunc_0 {α : Type} {n : Nat} {P : Program} {g : Operand} {ps : Array Tmp} {assign body : Code} {Q : Exit → Act → World → Prop} {a : Act} {w : World}
    {gf : Nat} {fb lb : Array Value} (hg : a.eval g = .func (.func gf) fb lb) (eg : ∀ args w, (callFunc gf args).run P w = .ok (.enter gf args) w)
    {encs : α → Array Value} (O : Nat → Prop) (hO : ∀ k, O k → k < w.heap.size) {S Sp : List α → Prop} {w0 : World}
    (hseq : Seq0 P gf fb lb encs (fun k => O k ∨ k = w.heap.size + 1) S Sp w0) (hb0 : Below w0.heap.size w0 w) (hps : ∀ x, (encs x).size = ps.size)
    (I : List α → World → Prop) (Ix : Code → List α → World → Prop) (Ax : List α → α → Act → World → Prop)
    (hI : Low w.heap.size I) (hIx : ∀ c, Low w.heap.size (Ix c))
    (hAx : ∀ pre x a' A B, Ax pre x a' A → PrivM (fun k => k = w.heap.size + 1) A B → Ax pre x a' B)
    (h0 : ∀ W1, Below w.heap.size w W1 → I [] W1)
    (hassign : ∀ (m l : Nat) (pre : List α) (x : α) (W : World), w.heap.size + 2 ≤ W.heap.size → Sp (pre ++ [x]) → I pre W →
      assign.wpIn (Fence.wide.inRound l) m P (Exit.then (fun a' W' => Ax pre x a' W' ∧ Below W.heap.size W W') (fun _ _ _ => False)) { tmps := (ps.zip (encs x)).foldl (fun t (p, v) => t.setIfInBounds p v) a.tmps, defers := [] } W)
    (hbody : ∀ (m l : Nat) (pre : List α) (x : α) (a' : Act) (W : World), w.heap.size + 2 ≤ W.heap.size → Sp (pre ++ [x]) → I pre W → Ax pre x a' W →
      body.wpIn (Fence.wide.inRound l) m P (post0 O I Ix (pre ++ [x]) W) a' W)
    (hdone : ∀ (D : Nat) (xs : List α) (W : World), D = w.heap.size → w.heap.size + 2 ≤ W.heap.size → S xs → I xs W → PrivM O w W → W.heap[D]? = some (.deferred (some [])) → Q .normal { a with defers := { target := .collected D, args := #[] } :: a.defers } W)
    (hstop : ∀ (D : Nat) (c : Code) (pre : List α) (W : World), D = w.heap.size → w.heap.size + 2 ≤ W.heap.size → Sp pre → Ix c pre W → PrivM O w W → W.heap[D]? = some (.deferred (some [])) → c.wpIn Fence.wide n P Q { a with defers := { target := .collected D, args := #[] } :: a.defers } W) :
    (Code.rangeFunc g ps assign body).wpIn Fence.wide n P Q a w := by
  refine wpIn_rangeFunc ?_
  intro fn hfn
  obtain ⟨rec, hrec⟩ : ∃ rec : LoopState → Option Code → Loop, rec = fun st pe => { state := st, pending := pe, fn, tmps := a.tmps, params := ps, assign, body, defers := w.heap.size } := ⟨_, rfl⟩
  obtain ⟨W1, hW1⟩ : ∃ W1, (w.alloc (.deferred (some []))).alloc (.loop (rec .ready none)) = W1 := ⟨_, rfl⟩
  have hs1 : W1.heap.size = w.heap.size + 2 := by rw [← hW1]; simp
  have hL1 : W1.heap[w.heap.size + 1]? = some (.loop (rec .ready none)) := by
    rw [← hW1]; have := World.alloc_heap_new (w.alloc (.deferred (some []))) (.loop (rec .ready none)); rwa [World.size_alloc] at this
  have hK1 : W1.heap[w.heap.size]? = some (.deferred (some [])) := by
    rw [← hW1]; exact (Below.heap_alloc _ _ _ (by simp)).trans (World.alloc_heap_new w _)
  have hwW : Below w.heap.size w W1 := by rw [← hW1]; exact ((Below.refl _ w).alloc (Nat.le_refl _) _).alloc (by simp) _
  have hb1 : Below w0.heap.size w0 W1 := hb0.trans (hwW.mono hb0.size)
  refine ⟨w.heap.size + 1, [{ target := .collected w.heap.size, args := #[] }], W1, { target := .fn (.func gf) lb, args := fb ++ #[.func (.yield (w.heap.size + 1)) #[] #[]] }, W1, gf,
    fb ++ #[.func (.yield (w.heap.size + 1)) #[] #[]] ++ lb, W1, ?_, ?_, fun _ _ => trivial, ?_, (fun h => by cases h), ?_⟩
  · rw [← hW1, hrec]; exact run_enterLoop_outer _ _ _ _ _
  · simp only [resolve, hg]
    simp [go_sem]
  · simp [invoke, go_sem, eg]
  · have hput : ∀ (X : World) (o : Obj), Below w.heap.size X (X.putObj (w.heap.size + 1) o) := fun X o => ⟨rfl, rfl, rfl, by simp, fun k hk => World.putObj_heap_other (by omega)⟩
    refine (hseq (n - 1) (w.heap.size + 1)
      (fun pre W => I pre W ∧ W.heap[w.heap.size + 1]? = some (.loop (rec .ready none)) ∧ W.heap[w.heap.size]? = some (.deferred (some [])))
      (fun pre W => ∃ c, Ix c pre W ∧ W.heap[w.heap.size + 1]? = some (.loop (rec .done (some c))) ∧ W.heap[w.heap.size]? = some (.deferred (some [])))
      W1 hb1 (fun k hk => by rcases hk with hk | hk
                             · have := hO k hk; omega
                             · omega) ?_ ?_ ?_ ?_).mono ?_
    · rintro pre A B ⟨hi, hl, hk⟩ hz hp
      exact ⟨hI pre A B hi (by omega) (hp.mono (by omega)), (hp.block _ (by omega)).trans hl, (hp.block _ (by omega)).trans hk⟩
    · rintro pre A B ⟨c, hi, hl, hk⟩ hz hp
      exact ⟨c, hIx c pre A B hi (by omega) (hp.mono (by omega)), (hp.block _ (by omega)).trans hl, (hp.block _ (by omega)).trans hk⟩
    · -- one round
      rintro m pre x W hsz hspx ⟨hi, hl, hk⟩
      rw [hs1] at hsz
      have hy := run_yield (P := P) (args := encs x) hl (by rw [hrec]; exact hps x)
      rw [hrec] at hy
      refine ⟨fn, _, assign, body, hy, roundIn_of_wpIn hfn ?_⟩
      refine wpIn_mono (hassign _ (w.heap.size + 1) pre x W hsz hspx hi) ?_
      rintro e a' W' hp
      cases e with
      | normal =>
        obtain ⟨hax, hbel⟩ := hp
        have hi' : I pre W' := hI _ _ _ hi (by omega) (hbel.mono (by omega))
        have hl' : W'.heap[w.heap.size + 1]? = some (.loop (rec .ready none)) := (hbel.block _ (by omega)).trans hl
        have hk' : W'.heap[w.heap.size]? = some (.deferred (some [])) := (hbel.block _ (by omega)).trans hk
        have hsz' : w.heap.size + 2 ≤ W'.heap.size := Nat.le_trans hsz hbel.size
        refine ⟨_, run_beginRound hl' (by rw [hrec]), ?_⟩
        have hpr : PrivM (fun k => k = w.heap.size + 1) W' (W'.putObj (w.heap.size + 1) (.loop { rec .ready none with state := .busy })) := PrivM.putObj (M := fun k => k = w.heap.size + 1) _ rfl _
        have hl2 : (W'.putObj (w.heap.size + 1) (.loop { rec .ready none with state := .busy })).heap[w.heap.size + 1]? = some (.loop { rec .ready none with state := .busy }) := World.putObj_heap_same (by omega)
        have hk2 : (W'.putObj (w.heap.size + 1) (.loop { rec .ready none with state := .busy })).heap[w.heap.size]? = some (.deferred (some [])) := (World.putObj_heap_other (by omega)).trans hk'
        have hsp0 : PrivM (fun k => O k ∨ k = w.heap.size + 1) W (W'.putObj (w.heap.size + 1) (.loop { rec .ready none with state := .busy })) :=
          (PrivM.of_below hbel).trans (hpr.mono (fun k h => .inr h))
        refine wpIn_mono (hbody _ _ pre x a' _ (by rw [World.putObj_size]; exact hsz') hspx (hI pre _ _ hi' (by omega) (hput _ _)) (hAx pre x a' _ _ hax hpr)) ?_
        have fin : ∀ (jump : Option Code) (W3 : World), PrivM O (W'.putObj (w.heap.size + 1) (.loop { rec .ready none with state := .busy })) W3 →
            (Instr.endRound (w.heap.size + 1) jump).run P W3 = .ok (.bool jump.isNone) (W3.putObj (w.heap.size + 1) (.loop (rec (if jump.isNone then .ready else .done) jump))) ∧
            (W3.putObj (w.heap.size + 1) (.loop (rec (if jump.isNone then .ready else .done) jump))).heap[w.heap.size + 1]? = some (.loop (rec (if jump.isNone then .ready else .done) jump)) ∧
            (W3.putObj (w.heap.size + 1) (.loop (rec (if jump.isNone then .ready else .done) jump))).heap[w.heap.size]? = some (.deferred (some [])) ∧ w.heap.size + 2 ≤ W3.heap.size ∧
            PrivM (fun k => O k ∨ k = w.heap.size + 1) W (W3.putObj (w.heap.size + 1) (.loop (rec (if jump.isNone then .ready else .done) jump))) := fun jump W3 hsp => by
          have hz2 : w.heap.size + 2 ≤ (W'.putObj (w.heap.size + 1) (.loop { rec .ready none with state := .busy })).heap.size := by rw [World.putObj_size]; exact hsz'
          have hl3 := (hsp.block (w.heap.size + 1) (by omega) (fun e => by have := hO _ e; omega)).trans hl2
          have hk3 := (hsp.block w.heap.size (by omega) (fun e => by have := hO _ e; omega)).trans hk2
          have := run_endRound (P := P) jump hl3
          rw [hrec] at this ⊢
          have hz3 : w.heap.size + 2 ≤ W3.heap.size := Nat.le_trans hz2 hsp.size
          rw [hrec] at hsp0 hsp
          exact ⟨this, World.putObj_heap_same (Array.getElem?_eq_some_iff.1 hl3).1, (World.putObj_heap_other (by omega)).trans hk3, hz3, (hsp0.trans (hsp.mono (fun k h => .inl h))).trans (PrivM.putObj _ (.inr rfl) _)⟩
        rintro e a3 W3 hp3
        cases e with
        | normal =>
          obtain ⟨hsp, hi3⟩ := hp3
          obtain ⟨hr, hl4, hk4, hz3, hs4⟩ := fin none W3 hsp
          exact ⟨_, _, hr, .inl ⟨rfl, ⟨hI _ _ _ hi3 (by omega) (hput _ _), hl4, hk4⟩, hs4⟩⟩
        | ret =>
          obtain ⟨hsp, hi3⟩ := hp3
          obtain ⟨hr, hl4, hk4, hz3, hs4⟩ := fin (some .ret) W3 hsp
          exact ⟨_, _, hr, .inr ⟨rfl, ⟨.ret, hIx _ _ _ _ hi3 (by omega) (hput _ _), hl4, hk4⟩, hs4⟩⟩
        | exit id =>
          obtain ⟨hsp, hi3⟩ := hp3
          obtain ⟨hr, hl4, hk4, hz3, hs4⟩ := fin (some (.exit id)) W3 hsp
          exact ⟨_, _, hr, .inr ⟨rfl, ⟨.exit id, hIx _ _ _ _ hi3 (by omega) (hput _ _), hl4, hk4⟩, hs4⟩⟩
        | goto t =>
          obtain ⟨hsp, hi3⟩ := hp3
          obtain ⟨hr, hl4, hk4, hz3, hs4⟩ := fin (some (.goto t)) W3 hsp
          exact ⟨_, _, hr, .inr ⟨rfl, ⟨.goto t, hIx _ _ _ _ hi3 (by omega) (hput _ _), hl4, hk4⟩, hs4⟩⟩
        | panic ch => exact hp3.elim
        | outgrown => exact hp3.elim
      | ret => exact hp.elim
      | exit id => exact hp.elim
      | goto t => exact hp.elim
      | panic ch => exact hp.elim
      | outgrown => exact hp.elim
    · exact ⟨h0 W1 hwW, hL1, hK1⟩
    · -- behind the iterator
      have htot : ∀ (X : World) (o : Obj), PrivM (fun k => O k ∨ k = w.heap.size + 1) W1 X → PrivM O w (X.putObj (w.heap.size + 1) o) := fun X o h =>
        ⟨h.os.trans hwW.os, h.tape.trans hwW.tape, h.output.trans hwW.output, by rw [World.putObj_size]; exact Nat.le_trans hwW.size h.size, fun k hk hn =>
          (World.putObj_heap_other (by omega)).trans ((h.block k (by omega) (by rintro (e | e); exact hn e; omega)).trans (hwW.block k hk))⟩
      have hzz : ∀ (X : World), PrivM (fun k => O k ∨ k = w.heap.size + 1) W1 X → w.heap.size + 2 ≤ X.heap.size := fun X h => by have := h.size; omega
      rintro e W2 ⟨⟨v, rfl⟩, htr, (⟨xs, hS, hi, hl, hk⟩ | ⟨pre, hSp, c, hi, hl, hk⟩)⟩
      · exact ⟨none, _, by have := run_endLoop (P := P) hl (by rw [hrec]; simp); rw [hrec] at this; exact this,
          hdone _ xs _ rfl (by rw [World.putObj_size]; exact hzz _ htr) hS (hI _ _ _ hi (by have := hzz _ htr; omega) (hput _ _)) (htot _ _ htr) ((World.putObj_heap_other (by omega)).trans hk)⟩
      · exact ⟨some c, _, by have := run_endLoop (P := P) hl (by rw [hrec]; simp); rw [hrec] at this; exact this,
          hstop _ c pre _ rfl (by rw [World.putObj_size]; exact hzz _ htr) hSp (hIx c _ _ _ hi (by have := hzz _ htr; omega) (hput _ _)) (htot _ _ htr) ((World.putObj_heap_other (by omega)).trans hk)⟩
end Go.Proofs.YtjjfpbjdcmkkhaaDoor

namespace Go.Proofs.YtjjfpbjdcmkkhaaDoor
open Go Go.RowKit

/-- How many notes there are of each kind. -/
structure Kd where
  a : Int
  b : Int
  c : Int
  d : Int
  e : Int
def Kd.ok (k : Kd) (n : Nat) : Prop := 0 ≤ k.a ∧ 0 ≤ k.b ∧ 0 ≤ k.c ∧ 0 ≤ k.d ∧ 0 ≤ k.e ∧ k.a + k.b + k.c + k.d + k.e = n
/-- The cells of a catch. -/
def catC (lo hi : Int) (p : Option Addr) (n c : Nat) (k : Kd) : Array Value := #[.int .i64 lo, .int .i64 hi, .slice p n c, .int .i64 k.a, .int .i64 k.b, .int .i64 k.c, .int .i64 k.d, .int .i64 k.e]
def kindsOK (l : List Nt) : Prop := ∀ s ∈ l, 0 ≤ s.kind ∧ s.kind ≤ 4
theorem chainN_all {past : Int} {l : List Nt} (h : chainN past l = true) : ∀ s ∈ l, ntB s = true := by
  induction l generalizing past with
  | nil => intro s hs; cases hs
  | cons a l ih =>
    simp only [chainN, Bool.and_eq_true] at h
    intro s hs
    rcases List.mem_cons.1 hs with rfl | hs
    · exact h.1.1
    · exact ih h.2 s hs
theorem ntB_facts {s : Nt} (h : ntB s = true) : (0 ≤ s.kind ∧ s.kind ≤ 4) ∧ (0 ≤ s.hour ∧ s.hour ≤ 60) ∧ SpanOK s.lo s.hi (mostOf s.kind) := by
  simp only [ntB, noteB, Bool.and_eq_true] at h
  exact ⟨of_inB h.1.1, of_inB h.1.2, spanB_iff.1 h.2⟩
theorem kinds_ok {b : Sn} (h : snB b = true) : kindsOK b.ns := fun s hs => by
  simp only [snB, notesB, Bool.and_eq_true] at h
  exact (ntB_facts (chainN_all h.2.2 s hs)).1
def Kd.inc (k : Kd) (j : Int) : Kd := if j = 0 then { k with a := k.a + 1 } else if j = 1 then { k with b := k.b + 1 } else if j = 2 then { k with c := k.c + 1 } else if j = 3 then { k with d := k.d + 1 } else { k with e := k.e + 1 }
attribute [local go_sem] Oper.semAt_some frozen_alloc_lt
theorem wrap_inc {a : Int} (h0 : 0 ≤ a) (h1 : a ≤ 1000000) : wrap64 (a + 1) = a + 1 := by unfold wrap64; omega
set_option maxRecDepth 100000 in
set_option maxHeartbeats 4000000 in
theorem newCatch_any (lo hi : Int) (l : List Nt) (p : Option Addr) (c : Nat) (w : World) (hl : NotesAt w p l) (hk : kindsOK l) (h9 : l.length ≤ 100) :
    Calls Tryd.prog 52 #[.agg #[.int .i64 lo, .int .i64 hi, .slice p l.length c]] w fun e w' => ∃ k : Kd, k.ok l.length ∧ e = .returned (.agg (catC lo hi p l.length c k)) ∧ ∃ x, w' = ext w x := by
  have HL := Lib.hid hl
  clear hl
  go_enter Tryd.func52, Tryd.ntmps52
  go_upto_region 2 with fail
  generalize hW : ((w.alloc _).alloc _).alloc _ = W
  have hB : Below w.heap.size w W := by rw [← hW]; (repeat (first | (with_reducible exact Below.refl _ _) | (with_reducible assumption) | ((with_reducible refine below_ext_trans ?_ ?_ _); rotate_left; focus (((try dsimp only); repeat (first | omega | simp only [World.size_alloc, World.size_setCell, World.size_drew] | (with_reducible refine le_ext_of ?_) | (with_reducible refine le_ext_add ?_))); done)) | ((with_reducible refine Below.alloc ?_ ?_ _); rotate_left; focus (((try dsimp only); repeat (first | omega | simp only [World.size_alloc, World.size_setCell, World.size_drew] | (with_reducible refine le_ext_of ?_) | (with_reducible refine le_ext_add ?_))); done)) | ((with_reducible refine Below.setCell ?_ ?_ _); rotate_left; focus (((try dsimp only); repeat (first | omega | simp only [World.size_alloc, World.size_setCell, World.size_drew] | (with_reducible refine le_ext_of ?_) | (with_reducible refine le_ext_add ?_))); done)) | (with_reducible refine Below.drew ?_)))
  have kb : Blk W w.heap.size 26 #[.int .i64 lo, .int .i64 hi, .slice p l.length c] := by rw [← hW]; exact ((Blk.new rfl).alloc _).alloc _
  have kR : Blk W (w.heap.size + 1) 77 #[.int .i64 0, .int .i64 0, .slice none 0 0, .int .i64 0, .int .i64 0, .int .i64 0, .int .i64 0, .int .i64 0] := by rw [← hW]; exact (Blk.new (by simp)).alloc _
  have kC : Blk W (w.heap.size + 1 + 1) 77 (catC lo hi p l.length c ⟨0, 0, 0, 0, 0⟩) := by rw [← hW]; exact Blk.new (by simp)
  have HB := Lib.hid hB
  have HR := Lib.hid kR
  have HC := Lib.hid kC
  have hz : W.heap.size = w.heap.size + 1 + 1 + 1 := by rw [← hW]; simp
  have d0 := kb.cell 2
  have dl := kb.lt
  simp only [List.size_toArray, List.length_cons, List.length_nil, Nat.reduceAdd, Nat.reduceLT, getElem?_pos, List.getElem_toArray, List.getElem_cons_zero, List.getElem_cons_succ] at d0
  clear hW hB kb kR kC
  go_upto_region 3 with fail
  clear d0 dl
  go_loopw [5, 11] (fun v i wr => ∃ (k : Nat) (kd : Kd), k ≤ l.length ∧ i = .int .i64 k ∧ Hid (kd.ok k) ∧ Hid (Blk wr (w.heap.size + 1 + 1) 77 (catC lo hi p l.length c kd)) ∧ Hid (Below (w.heap.size + 1 + 1) W wr)) (fun _ i _ => l.length - (intOf i).toNat)
  case atStart => exact ⟨0, ⟨0, 0, 0, 0, 0⟩, by omega, rfl, Lib.hid (by simp [Kd.ok]), HC, Lib.hid (Below.refl _ _)⟩
  case round =>
    obtain ⟨k, kd, hkl, rfl, HKD, HK, HBr⟩ := hrel
    by_cases hlt : k < l.length
    · obtain ⟨⟨kn, hr, nlo, nhi⟩, ht⟩ := get_some l k hlt
      have hkd := hk _ (List.mem_of_getElem? ht)
      dsimp only at hkd
      have hwb : Below w.heap.size w wr := HB.out.trans (HBr.out.mono (by omega))
      obtain ⟨b, o, hp, hb, c1, c2, c3, c4⟩ := (HL.out.below hwb) k _ ht
      dsimp only at c1 c2 c3 c4
      subst hp
      have k0 : (0 : Int) ≤ (k : Int) := by omega
      have k1 : (k : Int) < (l.length : Int) := by omega
      have HW := Lib.hid (wrap_num k (by omega))
      obtain ⟨x0, x1, x2, x3, x4⟩ := kd
      obtain ⟨g0, g1, g2, g3, g4, g5⟩ := HKD.out
      dsimp only at g0 g1 g2 g3 g4 g5
      have HG := Lib.hid HKD.out
      have e0 := HK.out.cell 3
      have e1 := HK.out.cell 4
      have e2 := HK.out.cell 5
      have e3 := HK.out.cell 6
      have e4 := HK.out.cell 7
      have f3 := HK.out.frozen 3
      have f4 := HK.out.frozen 4
      have f5 := HK.out.frozen 5
      have f6 := HK.out.frozen 6
      have f7 := HK.out.frozen 7
      have ll := HK.out.lt
      unfold catC at e0 e1 e2 e3 e4
      simp only [List.size_toArray, List.length_cons, List.length_nil, Nat.reduceAdd, Nat.reduceLT, getElem?_pos, List.getElem_toArray, List.getElem_cons_zero, List.getElem_cons_succ] at e0 e1 e2 e3 e4
      have w0 := wrap_inc g0 (by omega)
      have w1 := wrap_inc g1 (by omega)
      have w2 := wrap_inc g2 (by omega)
      have w3 := wrap_inc g3 (by omega)
      have w4 := wrap_inc g4 (by omega)
      have HK2 := Lib.hid HK.out
      have HB2 := Lib.hid HBr.out
      clear ht hwb HK HBr HL HKD g5 hkl hz hk
      rcases (show kn = 0 ∨ kn = 1 ∨ kn = 2 ∨ kn = 3 ∨ kn = 4 by omega) with rfl | rfl | rfl | rfl | rfl
      · clear e1 e2 e3 e4 f4 f5 f6 f7 w1 w2 w3 w4 hkd
        go_wp2_with fail
        refine ⟨⟨k + 1, ⟨x0 + 1, x1, x2, x3, x4⟩, by omega, by go_num, Lib.hid ?_, Lib.hid ?_, Lib.hid ?_⟩, less_num _ k hlt⟩
        · have g5 := HG.out.2.2.2.2.2
          dsimp only at g5
          refine ⟨?_, ?_, ?_, ?_, ?_, ?_⟩ <;> dsimp only <;> omega
        · exact (HK2.out.set 3 _).alloc _
        · exact (HB2.out.setCell (by simp) _).alloc (by simp; omega) _
      · clear e0 e2 e3 e4 f3 f5 f6 f7 w0 w2 w3 w4 hkd
        go_wp2_with fail
        refine ⟨⟨k + 1, ⟨x0, x1 + 1, x2, x3, x4⟩, by omega, by go_num, Lib.hid ?_, Lib.hid ?_, Lib.hid ?_⟩, less_num _ k hlt⟩
        · have g5 := HG.out.2.2.2.2.2
          dsimp only at g5
          refine ⟨?_, ?_, ?_, ?_, ?_, ?_⟩ <;> dsimp only <;> omega
        · exact (HK2.out.set 4 _).alloc _
        · exact (HB2.out.setCell (by simp) _).alloc (by simp; omega) _
      · clear e0 e1 e3 e4 f3 f4 f6 f7 w0 w1 w3 w4 hkd
        go_wp2_with fail
        refine ⟨⟨k + 1, ⟨x0, x1, x2 + 1, x3, x4⟩, by omega, by go_num, Lib.hid ?_, Lib.hid ?_, Lib.hid ?_⟩, less_num _ k hlt⟩
        · have g5 := HG.out.2.2.2.2.2
          dsimp only at g5
          refine ⟨?_, ?_, ?_, ?_, ?_, ?_⟩ <;> dsimp only <;> omega
        · exact (HK2.out.set 5 _).alloc _
        · exact (HB2.out.setCell (by simp) _).alloc (by simp; omega) _
      · clear e0 e1 e2 e4 f3 f4 f5 f7 w0 w1 w2 w4 hkd
        go_wp2_with fail
        refine ⟨⟨k + 1, ⟨x0, x1, x2, x3 + 1, x4⟩, by omega, by go_num, Lib.hid ?_, Lib.hid ?_, Lib.hid ?_⟩, less_num _ k hlt⟩
        · have g5 := HG.out.2.2.2.2.2
          dsimp only at g5
          refine ⟨?_, ?_, ?_, ?_, ?_, ?_⟩ <;> dsimp only <;> omega
        · exact (HK2.out.set 6 _).alloc _
        · exact (HB2.out.setCell (by simp) _).alloc (by simp; omega) _
      · clear e0 e1 e2 e3 f3 f4 f5 f6 w0 w1 w2 w3 hkd
        go_wp2_with fail
        refine ⟨⟨k + 1, ⟨x0, x1, x2, x3, x4 + 1⟩, by omega, by go_num, Lib.hid ?_, Lib.hid ?_, Lib.hid ?_⟩, less_num _ k hlt⟩
        · have g5 := HG.out.2.2.2.2.2
          dsimp only at g5
          refine ⟨?_, ?_, ?_, ?_, ?_, ?_⟩ <;> dsimp only <;> omega
        · exact (HK2.out.set 7 _).alloc _
        · exact (HB2.out.setCell (by simp) _).alloc (by simp; omega) _
    · obtain rfl : k = l.length := by omega
      have HK2 := Lib.hid HK.out
      have hB2 := HBr.out
      have kr : Blk wr (w.heap.size + 1) 77 _ := (HBr.out.block _ (by omega)).trans HR.out
      have HKR := Lib.hid kr
      have r0 := HK.out.cell 0
      have r1 := HK.out.cell 1
      have r2 := HK.out.cell 2
      have r3 := HK.out.cell 3
      have r4 := HK.out.cell 4
      have r5 := HK.out.cell 5
      have r6 := HK.out.cell 6
      have r7 := HK.out.cell 7
      have q0 := kr.frozen 0
      have q1 := kr.frozen 1
      have q2 := kr.frozen 2
      have q3 := kr.frozen 3
      have q4 := kr.frozen 4
      have q5 := kr.frozen 5
      have q6 := kr.frozen 6
      have q7 := kr.frozen 7
      have lr := kr.lt
      have ll := HK.out.lt
      unfold catC at r0 r1 r2 r3 r4 r5 r6 r7
      simp only [List.size_toArray, List.length_cons, List.length_nil, Nat.reduceAdd, Nat.reduceLT, getElem?_pos, List.getElem_toArray, List.getElem_cons_zero, List.getElem_cons_succ] at r0 r1 r2 r3 r4 r5 r6 r7
      have s0 := kr.cell 0
      have s1 := kr.cell 1
      have s2 := kr.cell 2
      have s3 := kr.cell 3
      have s4 := kr.cell 4
      have s5 := kr.cell 5
      have s6 := kr.cell 6
      have s7 := kr.cell 7
      simp only [List.size_toArray, List.length_cons, List.length_nil, Nat.reduceAdd, Nat.reduceLT, getElem?_pos, List.getElem_toArray, List.getElem_cons_zero, List.getElem_cons_succ] at s0 s1 s2 s3 s4 s5 s6 s7
      have HKD2 := Lib.hid HKD.out
      have HB2 := Lib.hid (HB.out.trans (hB2.mono (show w.heap.size ≤ w.heap.size + 1 + 1 by omega) |>.mono (Nat.le_refl _)))
      clear hB2 HK HBr kr HKD hk HL hz
      go_wp2_with fail
      refine bodyPost_ret (v := .agg (catC lo hi p l.length c kd)) (by simp [results, Tryd.results52, go_sem, catC, lr, s0, s1, s2, s3, s4, s5, s6, s7, q0, q1, q2, q3, q4, q5, q6, q7]) rfl ⟨kd, HKD2.out, rfl, ext_of ?_⟩
      have hB := HB2.out
      (repeat (first | (with_reducible exact Below.refl _ _) | (with_reducible assumption) | ((with_reducible refine below_ext_trans ?_ ?_ _); rotate_left; focus (((try dsimp only); repeat (first | omega | simp only [World.size_alloc, World.size_setCell, World.size_drew] | (with_reducible refine le_ext_of ?_) | (with_reducible refine le_ext_add ?_))); done)) | ((with_reducible refine Below.alloc ?_ ?_ _); rotate_left; focus (((try dsimp only); repeat (first | omega | simp only [World.size_alloc, World.size_setCell, World.size_drew] | (with_reducible refine le_ext_of ?_) | (with_reducible refine le_ext_add ?_))); done)) | ((with_reducible refine Below.setCell ?_ ?_ _); rotate_left; focus (((try dsimp only); repeat (first | omega | simp only [World.size_alloc, World.size_setCell, World.size_drew] | (with_reducible refine le_ext_of ?_) | (with_reducible refine le_ext_add ?_))); done)) | (with_reducible refine Below.drew ?_)))
end Go.Proofs.YtjjfpbjdcmkkhaaDoor

