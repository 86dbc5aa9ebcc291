/- A range over a function whose iterator keeps variables of its own in memory: the iterator's blocks, made before its first round, are its own; the body's are its own. -/
/- A range over a function whose iterator goes on making blocks of its own between two rounds: whose blocks are the iterator's is told by a set that grows. -/
/- Ranges over functions whose iterators write nothing but blocks of their own: a contract (Seq0) that is short, for bodies that remember nothing but what lies below the loop. -/
import Derived.Test.YtpiadbdkiibdbaaQExt
import Derived.RangeFuncNested
import Derived.RangeFuncBound
import Derived.RangeFuncCalls
import Derived.RangeFuncLeaves
import Derived.TacticsInMore
import Derived.LoopNIn
import Derived.LoopIn
set_option linter.unusedSimpArgs false
set_option linter.unusedVariables false
namespace Go.Proofs.Ytpiadbdkiibdbaa
open Go Go.RowKit

theorem wide_fn (f : FuncId) : Fence.wide.fn f = True := eq_true trivial
theorem wide_depth : Fence.wide.depth = none := rfl
theorem wide_round : Fence.wide.round = none := rfl
theorem wideR_fn (l : Nat) (f : FuncId) : (Fence.wide.inRound l).fn f = True := eq_true trivial
theorem wideR_depth (l : Nat) : (Fence.wide.inRound l).depth = none := rfl
attribute [go_sem] wide_fn wide_depth wide_round wideR_fn wideR_depth
/-- Of what lay, only blocks from n0 to below n1 may have turned. -/
structure Priv (n0 n1 : Nat) (W W' : World) : Prop where
  os : W'.os = W.os
  tape : W'.tape = W.tape
  output : W'.output = W.output
  size : W.heap.size ≤ W'.heap.size
  block : ∀ k, k < W.heap.size → (k < n0 ∨ n1 ≤ k) → W'.heap[k]? = W.heap[k]?
/-- Of the blocks below n1, only those of O may have turned. -/
structure Spare (O : Nat → Prop) (n1 : Nat) (W W' : World) : Prop where
  os : W'.os = W.os
  tape : W'.tape = W.tape
  output : W'.output = W.output
  size : W.heap.size ≤ W'.heap.size
  block : ∀ k, k < n1 → ¬ O k → W'.heap[k]? = W.heap[k]?
theorem Priv.refl (n0 n1 : Nat) (W : World) : Priv n0 n1 W W := ⟨rfl, rfl, rfl, Nat.le_refl _, fun _ _ _ => rfl⟩
theorem Priv.trans {n0 n1 : Nat} {A B C : World} (h : Priv n0 n1 A B) (k : Priv n0 n1 B C) : Priv n0 n1 A C :=
  ⟨k.os.trans h.os, k.tape.trans h.tape, k.output.trans h.output, Nat.le_trans h.size k.size, fun i hi hn => (k.block i (Nat.lt_of_lt_of_le hi h.size) hn).trans (h.block i hi hn)⟩
theorem Priv.of_below {n0 n1 : Nat} {A B : World} (h : Below A.heap.size A B) : Priv n0 n1 A B := ⟨h.os, h.tape, h.output, h.size, fun k hk _ => h.block k hk⟩
theorem Priv.mono {n0 n0' n1 n1' : Nat} {A B : World} (h : Priv n0 n1 A B) (h0 : n0' ≤ n0) (h1 : n1 ≤ n1') : Priv n0' n1' A B :=
  ⟨h.os, h.tape, h.output, h.size, fun k hk hn => h.block k hk (by omega)⟩
theorem Priv.alloc (n0 n1 : Nat) (W : World) (o : Obj) : Priv n0 n1 W (W.alloc o) := .of_below ((Below.refl _ W).alloc (Nat.le_refl _) o)
theorem Priv.drew (n0 n1 : Nat) (W : World) : Priv n0 n1 W W.drew := ⟨rfl, rfl, rfl, Nat.le_refl _, fun _ _ _ => rfl⟩
theorem Priv.setCell {n0 n1 : Nat} (W : World) {b : Nat} (h0 : n0 ≤ b) (h1 : b < n1) (o : Nat) (v : Value) : Priv n0 n1 W (W.setCell ⟨b, o, none⟩ v) :=
  ⟨rfl, rfl, rfl, by simp, fun k hk hn => Below.heap_setCell W ⟨b, o, none⟩ v k (by dsimp only; omega)⟩
theorem Priv.putObj {n0 n1 : Nat} (W : World) {b : Nat} (h0 : n0 ≤ b) (h1 : b < n1) (o : Obj) : Priv n0 n1 W (W.putObj b o) :=
  ⟨rfl, rfl, rfl, by simp, fun k hk hn => World.putObj_heap_other (by omega)⟩
theorem Priv.cell {n0 n1 : Nat} {A B : World} (h : Priv n0 n1 A B) {b o : Nat} (hb : b < n0) (hs : b < A.heap.size) : B.cell? ⟨b, o, none⟩ = A.cell? ⟨b, o, none⟩ := World.cell?_of_block (w := A) (a := ⟨b, o, none⟩) (h.block b hs (.inl hb))
theorem Priv.frozen {n0 n1 : Nat} {A B : World} (h : Priv n0 n1 A B) {b o : Nat} (hb : b < n0) (hs : b < A.heap.size) : B.frozen? ⟨b, o, none⟩ = A.frozen? ⟨b, o, none⟩ := World.frozen?_of_block (w := A) (a := ⟨b, o, none⟩) (h.block b hs (.inl hb))
theorem Priv.below {n n0 n1 : Nat} {A B : World} (h : Priv n0 n1 A B) (hn : n ≤ n0) (hs : n ≤ A.heap.size) : Below n A B := ⟨h.os, h.tape, h.output, h.size, fun k hk => h.block k (by omega) (by omega)⟩
theorem Spare.refl (O : Nat → Prop) (n1 : Nat) (W : World) : Spare O n1 W W := ⟨rfl, rfl, rfl, Nat.le_refl _, fun _ _ _ => rfl⟩
theorem Spare.trans {O : Nat → Prop} {n1 : Nat} {A B C : World} (h : Spare O n1 A B) (k : Spare O n1 B C) : Spare O n1 A C :=
  ⟨k.os.trans h.os, k.tape.trans h.tape, k.output.trans h.output, Nat.le_trans h.size k.size, fun i hi hn => (k.block i hi hn).trans (h.block i hi hn)⟩
theorem Spare.of_below {O : Nat → Prop} {n1 : Nat} {A B : World} (h : Below n1 A B) : Spare O n1 A B := ⟨h.os, h.tape, h.output, h.size, fun k hk _ => h.block k hk⟩
theorem Spare.imp {O O' : Nat → Prop} {n1 : Nat} {A B : World} (h : Spare O n1 A B) (ho : ∀ k, O k → O' k) : Spare O' n1 A B := ⟨h.os, h.tape, h.output, h.size, fun k hk hn => h.block k hk (fun e => hn (ho k e))⟩
theorem Spare.alloc {O : Nat → Prop} {n1 : Nat} {A W : World} (h : Spare O n1 A W) (hn : n1 ≤ W.heap.size) (o : Obj) : Spare O n1 A (W.alloc o) :=
  h.trans ⟨rfl, rfl, rfl, by simp, fun k hk _ => Below.heap_alloc W o k (by omega)⟩
theorem Spare.drew {O : Nat → Prop} {n1 : Nat} {A W : World} (h : Spare O n1 A W) : Spare O n1 A W.drew := ⟨h.os, h.tape, h.output, h.size, h.block⟩
theorem Spare.setCell {O : Nat → Prop} {n1 : Nat} {A W : World} (h : Spare O n1 A W) {b : Nat} (hb : O b ∨ n1 ≤ b) (o : Nat) (v : Value) : Spare O n1 A (W.setCell ⟨b, o, none⟩ v) :=
  h.trans ⟨rfl, rfl, rfl, by simp, fun k hk hn => Below.heap_setCell W ⟨b, o, none⟩ v k (by
    dsimp only
    rintro rfl
    rcases hb with hb | hb
    · exact hn hb
    · omega)⟩
theorem Spare.putObj {O : Nat → Prop} {n1 : Nat} {A W : World} (h : Spare O n1 A W) {b : Nat} (hb : O b) (o : Obj) : Spare O n1 A (W.putObj b o) :=
  h.trans ⟨rfl, rfl, rfl, by simp, fun k hk hn => World.putObj_heap_other (by rintro rfl; exact hn hb)⟩
theorem Spare.ext {O : Nat → Prop} {n1 : Nat} {A W : World} (h : Spare O n1 A W) (hn : n1 ≤ W.heap.size) (x : Grow W) : Spare O n1 A (ext W x) :=
  h.trans (.of_below ((below_ext W x).mono hn))

/-- The iterator's contract: what it hands to yield, whoever's body is behind it, if the body leaves the iterator's blocks (and all below n1 that are not of O). -/
def SeqW {α : Type} (n : Nat) (P : Program) (g : Nat) (lb : Array Value) (encs : α → Array Value) (O : Nat → Prop) (S Sp : List α → Prop) (w : World) : Prop :=
  ∀ (l : Nat) (J Jx : Nat → List α → World → Prop) (W : World), Below w.heap.size w W → (∀ k, O k → k < W.heap.size) →
    (∀ n1 pre A B, W.heap.size ≤ n1 → n1 ≤ A.heap.size → J n1 pre A → Priv W.heap.size n1 A B → J n1 pre B) →
    (∀ n1 pre A B, W.heap.size ≤ n1 → n1 ≤ A.heap.size → Jx n1 pre A → Priv W.heap.size n1 A B → Jx n1 pre B) →
    (∀ n1 pre x A, W.heap.size ≤ n1 → n1 ≤ A.heap.size → Sp (pre ++ [x]) → J n1 pre A → YieldAt Fence.wide (n - 1) P l (encs x) A fun e B =>
      (e = .returned (.bool true) ∧ J n1 (pre ++ [x]) B ∧ Spare O n1 A B) ∨ (e = .returned (.bool false) ∧ Jx n1 (pre ++ [x]) B ∧ Spare O n1 A B)) →
    (∀ W1, Below W.heap.size W W1 → J W1.heap.size [] W1) →
    CallsIn Fence.wide n P g (#[.func (.yield l) #[] #[]] ++ lb) W fun e W' => (∃ v, e = .returned v) ∧
      ∃ n1, W.heap.size ≤ n1 ∧ n1 ≤ W'.heap.size ∧ ((∃ xs, S xs ∧ J n1 xs W') ∨ (∃ pre, Sp pre ∧ Jx n1 pre W'))

/-- How the body of a round may be left. -/
def postW {α : Type} (O : Nat → Prop) (n1 : Nat) (I : Nat → List α → World → Prop) (Ix : Nat → Code → List α → World → Prop) (xs : List α) (W : World) : Exit → Act → World → Prop
  | .normal, _, W' => Spare O n1 W W' ∧ I n1 xs W'
  | .ret, _, W' => Spare O n1 W W' ∧ Ix n1 .ret xs W'
  | .exit id, _, W' => Spare O n1 W W' ∧ Ix n1 (.exit id) xs W'
  | .goto t, _, W' => Spare O n1 W W' ∧ Ix n1 (.goto t) xs W'
  | .panic _, _, _ => False
  | .outgrown, _, _ => False

theorem wpIn_rangeFunc_w {α : Type} {n : Nat} {P : Program} {g : Operand} {ps : Array Tmp} {assign body : Code} {Q : Exit → Act → World → Prop} {a : Act} {w : World}
    {gf : Nat} {lb : Array Value} (hg : a.eval g = .func (.func gf) #[] lb) (eg : ∀ args w, (callFunc gf args).run P w = .ok (.enter gf args) w)
    {encs : α → Array Value} (O : Nat → Prop) (hO : ∀ k, O k → k < w.heap.size) {S Sp : List α → Prop} {w0 : World}
    (hseq : SeqW (n - 1) P gf lb encs (fun k => O k ∨ k = w.heap.size + 1) S Sp w0) (hb0 : Below w0.heap.size w0 w) (hps : ∀ x, (encs x).size = ps.size)
    (I : Nat → List α → World → Prop) (Ix : Nat → Code → List α → World → Prop) (Ax : Nat → List α → α → Act → World → Prop)
    (hI : ∀ n1 pre A B, w.heap.size + 2 ≤ n1 → n1 ≤ A.heap.size → I n1 pre A → Priv w.heap.size n1 A B → I n1 pre B)
    (hIx : ∀ n1 c pre A B, w.heap.size + 2 ≤ n1 → n1 ≤ A.heap.size → Ix n1 c pre A → Priv w.heap.size n1 A B → Ix n1 c pre B)
    (hAx : ∀ n1 pre x a' A B, w.heap.size + 2 ≤ n1 → n1 ≤ A.heap.size → Ax n1 pre x a' A → Priv w.heap.size n1 A B → Ax n1 pre x a' B)
    (h0 : ∀ n1 W1, Below w.heap.size w W1 → n1 = W1.heap.size → w.heap.size + 2 ≤ n1 → I n1 [] W1)
    (hassign : ∀ (l n1 : Nat) (pre : List α) (x : α) (W : World), w.heap.size + 2 ≤ n1 → n1 ≤ W.heap.size → Sp (pre ++ [x]) → I n1 pre W →
      assign.wpIn (Fence.wide.inRound l) (n - 1 - 1) P (Exit.then (fun a' W' => I n1 pre W' ∧ Ax n1 pre x a' W' ∧ Below W.heap.size W W') (fun _ _ _ => False)) { tmps := (ps.zip (encs x)).foldl (fun t (p, v) => t.setIfInBounds p v) a.tmps, defers := [] } W)
    (hbody : ∀ (l n1 : Nat) (pre : List α) (x : α) (a' : Act) (W : World), l = w.heap.size + 1 → w.heap.size + 2 ≤ n1 → n1 ≤ W.heap.size → Sp (pre ++ [x]) → I n1 pre W → Ax n1 pre x a' W → body.wpIn (Fence.wide.inRound l) (n - 1 - 1) P (postW O n1 I Ix (pre ++ [x]) W) a' W)
    (hdone : ∀ (D n1 : Nat) (xs : List α) (W : World), D = w.heap.size → w.heap.size + 2 ≤ n1 → n1 ≤ W.heap.size → S xs → I n1 xs W → W.heap[D]? = some (.deferred (some [])) → Q .normal { a with defers := { target := .collected D, args := #[] } :: a.defers } W)
    (hstop : ∀ (D n1 : Nat) (c : Code) (pre : List α) (W : World), D = w.heap.size → w.heap.size + 2 ≤ n1 → n1 ≤ W.heap.size → Sp pre → Ix n1 c pre W → W.heap[D]? = some (.deferred (some [])) → c.wpIn Fence.wide n P Q { a with defers := { target := .collected D, args := #[] } :: a.defers } W) :
    (Code.rangeFunc g ps assign body).wpIn Fence.wide n P Q a w := by
  refine wpIn_rangeFunc ?_
  intro fn hfn
  obtain ⟨rec, hrec⟩ : ∃ rec : LoopState → Option Code → Loop, rec = fun st pe => { state := st, pending := pe, fn, tmps := a.tmps, params := ps, assign, body, defers := w.heap.size } := ⟨_, rfl⟩
  obtain ⟨W1, hW1⟩ : ∃ W1, (w.alloc (.deferred (some []))).alloc (.loop (rec .ready none)) = W1 := ⟨_, rfl⟩
  have hs1 : W1.heap.size = w.heap.size + 2 := by rw [← hW1]; simp
  have hL1 : W1.heap[w.heap.size + 1]? = some (.loop (rec .ready none)) := by
    rw [← hW1]; have := World.alloc_heap_new (w.alloc (.deferred (some []))) (.loop (rec .ready none)); rwa [World.size_alloc] at this
  have hK1 : W1.heap[w.heap.size]? = some (.deferred (some [])) := by
    rw [← hW1]; exact (Below.heap_alloc _ _ _ (by simp)).trans (World.alloc_heap_new w _)
  have hwW : Below w.heap.size w W1 := by rw [← hW1]; exact ((Below.refl _ w).alloc (Nat.le_refl _) _).alloc (by simp) _
  have hb1 : Below w0.heap.size w0 W1 := hb0.trans (hwW.mono hb0.size)
  refine ⟨w.heap.size + 1, [{ target := .collected w.heap.size, args := #[] }], W1, { target := .fn (.func gf) lb, args := #[.func (.yield (w.heap.size + 1)) #[] #[]] }, W1, gf,
    #[.func (.yield (w.heap.size + 1)) #[] #[]] ++ lb, W1, ?_, ?_, fun _ _ => trivial, ?_, (fun h => by cases h), ?_⟩
  · rw [← hW1, hrec]; exact run_enterLoop_outer _ _ _ _ _
  · simp only [resolve, hg]
    simp [go_sem]
  · simp [invoke, go_sem, eg]
  · refine (hseq (w.heap.size + 1)
      (fun n1 pre W => I n1 pre W ∧ W.heap[w.heap.size + 1]? = some (.loop (rec .ready none)) ∧ W.heap[w.heap.size]? = some (.deferred (some [])))
      (fun n1 pre W => ∃ c, Ix n1 c pre W ∧ W.heap[w.heap.size + 1]? = some (.loop (rec .done (some c))) ∧ W.heap[w.heap.size]? = some (.deferred (some [])))
      W1 hb1 (fun k hk => by rcases hk with hk | hk
                             · have := hO k hk; omega
                             · omega) ?_ ?_ ?_ ?_).mono ?_
    · rintro n1 pre A B hn hA ⟨hi, hl, hk⟩ hp
      refine ⟨hI n1 pre A B (by omega) hA hi (hp.mono (by omega) (Nat.le_refl _)), (hp.block _ (by omega) (.inl (by omega))).trans hl, (hp.block _ (by omega) (.inl (by omega))).trans hk⟩
    · rintro n1 pre A B hn hA ⟨c, hi, hl, hk⟩ hp
      refine ⟨c, hIx n1 c pre A B (by omega) hA hi (hp.mono (by omega) (Nat.le_refl _)), (hp.block _ (by omega) (.inl (by omega))).trans hl, (hp.block _ (by omega) (.inl (by omega))).trans hk⟩
    · -- one round
      rintro n1 pre x W hn hsz hspx ⟨hi, hl, hk⟩
      have hy := run_yield (P := P) (args := encs x) hl (by rw [hrec]; exact hps x)
      rw [hrec] at hy
      refine ⟨fn, _, assign, body, hy, roundIn_of_wpIn hfn ?_⟩
      refine wpIn_mono (hassign (w.heap.size + 1) n1 pre x W (by omega) hsz hspx hi) ?_
      rintro e a' W' hp
      cases e with
      | normal =>
        obtain ⟨hi', hax, hbel⟩ := hp
        have hl' : W'.heap[w.heap.size + 1]? = some (.loop (rec .ready none)) := (hbel.block _ (by omega)).trans hl
        have hk' : W'.heap[w.heap.size]? = some (.deferred (some [])) := (hbel.block _ (by omega)).trans hk
        have hsz' : n1 ≤ W'.heap.size := Nat.le_trans hsz hbel.size
        refine ⟨_, run_beginRound hl' (by rw [hrec]), ?_⟩
        have hpr : Priv w.heap.size n1 W' (W'.putObj (w.heap.size + 1) (.loop { rec .ready none with state := .busy })) := Priv.putObj _ (by omega) (by omega) _
        have hl2 : (W'.putObj (w.heap.size + 1) (.loop { rec .ready none with state := .busy })).heap[w.heap.size + 1]? = some (.loop { rec .ready none with state := .busy }) := World.putObj_heap_same (by omega)
        have hk2 : (W'.putObj (w.heap.size + 1) (.loop { rec .ready none with state := .busy })).heap[w.heap.size]? = some (.deferred (some [])) := (World.putObj_heap_other (by omega)).trans hk'
        have hsp0 : Spare (fun k => O k ∨ k = w.heap.size + 1) n1 W (W'.putObj (w.heap.size + 1) (.loop { rec .ready none with state := .busy })) := (Spare.of_below (hbel.mono hsz)).putObj (.inr rfl) _
        refine wpIn_mono (hbody _ n1 pre x a' _ rfl (by omega) (by rw [World.putObj_size]; exact hsz') hspx (hI n1 pre _ _ (by omega) hsz' hi' hpr) (hAx n1 pre x a' _ _ (by omega) hsz' hax hpr)) ?_
        have fin : ∀ (jump : Option Code) (W3 : World), Spare O n1 (W'.putObj (w.heap.size + 1) (.loop { rec .ready none with state := .busy })) W3 →
            (Instr.endRound (w.heap.size + 1) jump).run P W3 = .ok (.bool jump.isNone) (W3.putObj (w.heap.size + 1) (.loop (rec (if jump.isNone then .ready else .done) jump))) ∧
            (W3.putObj (w.heap.size + 1) (.loop (rec (if jump.isNone then .ready else .done) jump))).heap[w.heap.size + 1]? = some (.loop (rec (if jump.isNone then .ready else .done) jump)) ∧
            (W3.putObj (w.heap.size + 1) (.loop (rec (if jump.isNone then .ready else .done) jump))).heap[w.heap.size]? = some (.deferred (some [])) ∧ n1 ≤ W3.heap.size ∧
            Spare (fun k => O k ∨ k = w.heap.size + 1) n1 W (W3.putObj (w.heap.size + 1) (.loop (rec (if jump.isNone then .ready else .done) jump))) := fun jump W3 hsp => by
          have hl3 := (hsp.block (w.heap.size + 1) (by omega) (fun e => by have := hO _ e; omega)).trans hl2
          have hk3 := (hsp.block w.heap.size (by omega) (fun e => by have := hO _ e; omega)).trans hk2
          have := run_endRound (P := P) jump hl3
          rw [hrec] at this ⊢
          have hz3 : n1 ≤ W3.heap.size := Nat.le_trans (by rw [World.putObj_size]; exact hsz') hsp.size
          rw [hrec] at hsp0 hsp
          exact ⟨this, World.putObj_heap_same (Array.getElem?_eq_some_iff.1 hl3).1, (World.putObj_heap_other (by omega)).trans hk3, hz3, (hsp0.trans (hsp.imp (fun k h => .inl h))).putObj (.inr rfl) _⟩
        rintro e a3 W3 hp3
        cases e with
        | normal =>
          obtain ⟨hsp, hi3⟩ := hp3
          obtain ⟨hr, hl4, hk4, hz3, hs4⟩ := fin none W3 hsp
          exact ⟨_, _, hr, .inl ⟨rfl, ⟨hI n1 _ _ _ (by omega) hz3 hi3 (Priv.putObj _ (by omega) (by omega) _), hl4, hk4⟩, hs4⟩⟩
        | ret =>
          obtain ⟨hsp, hi3⟩ := hp3
          obtain ⟨hr, hl4, hk4, hz3, hs4⟩ := fin (some .ret) W3 hsp
          exact ⟨_, _, hr, .inr ⟨rfl, ⟨.ret, hIx n1 _ _ _ _ (by omega) hz3 hi3 (Priv.putObj _ (by omega) (by omega) _), hl4, hk4⟩, hs4⟩⟩
        | exit id =>
          obtain ⟨hsp, hi3⟩ := hp3
          obtain ⟨hr, hl4, hk4, hz3, hs4⟩ := fin (some (.exit id)) W3 hsp
          exact ⟨_, _, hr, .inr ⟨rfl, ⟨.exit id, hIx n1 _ _ _ _ (by omega) hz3 hi3 (Priv.putObj _ (by omega) (by omega) _), hl4, hk4⟩, hs4⟩⟩
        | goto t =>
          obtain ⟨hsp, hi3⟩ := hp3
          obtain ⟨hr, hl4, hk4, hz3, hs4⟩ := fin (some (.goto t)) W3 hsp
          exact ⟨_, _, hr, .inr ⟨rfl, ⟨.goto t, hIx n1 _ _ _ _ (by omega) hz3 hi3 (Priv.putObj _ (by omega) (by omega) _), hl4, hk4⟩, hs4⟩⟩
        | panic ch => exact hp3.elim
        | outgrown => exact hp3.elim
      | ret => exact hp.elim
      | exit id => exact hp.elim
      | goto t => exact hp.elim
      | panic ch => exact hp.elim
      | outgrown => exact hp.elim
    · intro W2 hb2
      have h2 : Below w.heap.size w W2 := hwW.trans (hb2.mono (by omega))
      exact ⟨h0 _ W2 h2 rfl (by have := hb2.size; omega), (hb2.block _ (by omega)).trans hL1, (hb2.block _ (by omega)).trans hK1⟩
    · -- behind the iterator
      rintro e W2 ⟨⟨v, rfl⟩, n1, hn, hz, (⟨xs, hS, hi, hl, hk⟩ | ⟨pre, hSp, c, hi, hl, hk⟩)⟩
      · refine ⟨none, _, by have := run_endLoop (P := P) hl (by rw [hrec]; simp); rw [hrec] at this; exact this, hdone _ n1 xs _ rfl (by omega) (by rw [World.putObj_size]; exact hz) hS (hI n1 _ _ _ (by omega) hz hi (Priv.putObj _ (by omega) (by omega) _)) ((World.putObj_heap_other (by omega)).trans hk)⟩
      · refine ⟨some c, _, by have := run_endLoop (P := P) hl (by rw [hrec]; simp); rw [hrec] at this; exact this, hstop _ n1 c pre _ rfl (by omega) (by rw [World.putObj_size]; exact hz) hSp (hIx n1 c _ _ _ (by omega) hz hi (Priv.putObj _ (by omega) (by omega) _)) ((World.putObj_heap_other (by omega)).trans hk)⟩
end Go.Proofs.Ytpiadbdkiibdbaa

namespace Go.Proofs.Ytpiadbdkiibdbaa
open Go Go.RowKit

/-- Of what lay, only blocks of M may have turned. -/
structure PrivM (M : Nat → Prop) (W W' : World) : Prop where
  os : W'.os = W.os
  tape : W'.tape = W.tape
  output : W'.output = W.output
  size : W.heap.size ≤ W'.heap.size
  block : ∀ k, k < W.heap.size → ¬ M k → W'.heap[k]? = W.heap[k]?
/-- The blocks of K have not turned. -/
structure SpareM (K : Nat → Prop) (W W' : World) : Prop where
  os : W'.os = W.os
  tape : W'.tape = W.tape
  output : W'.output = W.output
  size : W.heap.size ≤ W'.heap.size
  block : ∀ k, K k → W'.heap[k]? = W.heap[k]?
theorem PrivM.refl (M : Nat → Prop) (W : World) : PrivM M W W := ⟨rfl, rfl, rfl, Nat.le_refl _, fun _ _ _ => rfl⟩
theorem PrivM.trans {M : Nat → Prop} {A B C : World} (h : PrivM M A B) (k : PrivM M B C) : PrivM M A C :=
  ⟨k.os.trans h.os, k.tape.trans h.tape, k.output.trans h.output, Nat.le_trans h.size k.size, fun i hi hn => (k.block i (Nat.lt_of_lt_of_le hi h.size) hn).trans (h.block i hi hn)⟩
theorem PrivM.mono {M M' : Nat → Prop} {A B : World} (h : PrivM M A B) (hm : ∀ k, M k → M' k) : PrivM M' A B := ⟨h.os, h.tape, h.output, h.size, fun k hk hn => h.block k hk (fun e => hn (hm k e))⟩
theorem PrivM.of_below {M : Nat → Prop} {A B : World} (h : Below A.heap.size A B) : PrivM M A B := ⟨h.os, h.tape, h.output, h.size, fun k hk _ => h.block k hk⟩
theorem PrivM.setCell {M : Nat → Prop} (W : World) {b : Nat} (h : M b) (o : Nat) (v : Value) : PrivM M W (W.setCell ⟨b, o, none⟩ v) :=
  ⟨rfl, rfl, rfl, by simp, fun k hk hn => Below.heap_setCell W ⟨b, o, none⟩ v k (by rintro rfl; exact hn h)⟩
theorem PrivM.putObj {M : Nat → Prop} (W : World) {b : Nat} (h : M b) (o : Obj) : PrivM M W (W.putObj b o) :=
  ⟨rfl, rfl, rfl, by simp, fun k hk hn => World.putObj_heap_other (by rintro rfl; exact hn h)⟩
theorem PrivM.of_priv {n0 n1 : Nat} {A B : World} (h : Priv n0 n1 A B) : PrivM (fun k => n0 ≤ k ∧ k < n1) A B :=
  ⟨h.os, h.tape, h.output, h.size, fun k hk hn => h.block k hk (by omega)⟩
theorem SpareM.refl (K : Nat → Prop) (W : World) : SpareM K W W := ⟨rfl, rfl, rfl, Nat.le_refl _, fun _ _ => rfl⟩
theorem SpareM.trans {K : Nat → Prop} {A B C : World} (h : SpareM K A B) (k : SpareM K B C) : SpareM K A C :=
  ⟨k.os.trans h.os, k.tape.trans h.tape, k.output.trans h.output, Nat.le_trans h.size k.size, fun i hi => (k.block i hi).trans (h.block i hi)⟩
theorem SpareM.imp {K K' : Nat → Prop} {A B : World} (h : SpareM K A B) (hk : ∀ k, K' k → K k) : SpareM K' A B := ⟨h.os, h.tape, h.output, h.size, fun k hk' => h.block k (hk k hk')⟩
theorem SpareM.of_below {K : Nat → Prop} {A B : World} (h : Below A.heap.size A B) (hk : ∀ k, K k → k < A.heap.size) : SpareM K A B := ⟨h.os, h.tape, h.output, h.size, fun k hk' => h.block k (hk k hk')⟩
theorem SpareM.setCell {K : Nat → Prop} (W : World) {b : Nat} (h : ¬ K b) (o : Nat) (v : Value) : SpareM K W (W.setCell ⟨b, o, none⟩ v) :=
  ⟨rfl, rfl, rfl, by simp, fun k hk => Below.heap_setCell W ⟨b, o, none⟩ v k (by rintro rfl; exact h hk)⟩
theorem SpareM.putObj {K : Nat → Prop} (W : World) {b : Nat} (h : ¬ K b) (o : Obj) : SpareM K W (W.putObj b o) :=
  ⟨rfl, rfl, rfl, by simp, fun k hk => World.putObj_heap_other (by rintro rfl; exact h hk)⟩

/-- What a body's relation must abide: that the iterator's blocks turn, and that what it makes becomes its own. -/
def StableM {α : Type} (X : Nat → Prop) (J : (Nat → Prop) → List α → World → Prop) : Prop :=
  ∀ M M' pre A B, J M pre A → PrivM (fun k => M k ∨ X k) A B → (∀ k, M' k → M k ∨ A.heap.size ≤ k) → J M' pre B

/-- The iterator's contract. O: the blocks below the caller's that a body may turn. -/
def SeqM {α : Type} (P : Program) (g : Nat) (lb : Array Value) (encs : α → Array Value) (O : Nat → Prop) (S Sp : List α → Prop) (w : World) : Prop :=
  ∀ (n l : Nat) (J Jx : (Nat → Prop) → List α → World → Prop) (W : World), Below w.heap.size w W → (∀ k, O k → k < W.heap.size) →
    StableM (fun _ => False) J → StableM (fun _ => False) Jx →
    (∀ m M pre x A, (∀ k, M k → W.heap.size ≤ k ∧ k < A.heap.size) → W.heap.size ≤ A.heap.size → Sp (pre ++ [x]) → J M pre A → YieldAt Fence.wide m P l (encs x) A fun e B =>
      (e = .returned (.bool true) ∧ J M (pre ++ [x]) B ∧ SpareM (fun k => (k < W.heap.size ∧ ¬ O k) ∨ M k) A B) ∨ (e = .returned (.bool false) ∧ Jx M (pre ++ [x]) B ∧ SpareM (fun k => (k < W.heap.size ∧ ¬ O k) ∨ M k) A B)) →
    J (fun _ => False) [] W →
    CallsIn Fence.wide n P g (#[.func (.yield l) #[] #[]] ++ lb) W fun e W' => (∃ v, e = .returned v) ∧ W.heap.size ≤ W'.heap.size ∧
      ((∃ xs, S xs ∧ J (fun _ => False) xs W') ∨ (∃ pre, Sp pre ∧ Jx (fun _ => False) pre W'))

def postM {α : Type} (K : Nat → Prop) (I : List α → World → Prop) (Ix : Code → List α → World → Prop) (xs : List α) (W : World) : Exit → Act → World → Prop
  | .normal, _, W' => SpareM K W W' ∧ I xs W'
  | .ret, _, W' => SpareM K W W' ∧ Ix .ret xs W'
  | .exit id, _, W' => SpareM K W W' ∧ Ix (.exit id) xs W'
  | .goto t, _, W' => SpareM K W W' ∧ Ix (.goto t) xs W'
  | .panic _, _, _ => False
  | .outgrown, _, _ => False

/-- What may not turn in a body's round, of a range that began in w. -/
def KeepM (O : Nat → Prop) (n0 : Nat) (M : Nat → Prop) (k : Nat) : Prop := (k < n0 + 2 ∧ ¬ O k) ∨ M k

theorem wpIn_rangeFunc_m {α : Type} {n : Nat} {P : Program} {g : Operand} {ps : Array Tmp} {assign body : Code} {Q : Exit → Act → World → Prop} {a : Act} {w : World}
    {gf : Nat} {lb : Array Value} (hg : a.eval g = .func (.func gf) #[] lb) (eg : ∀ args w, (callFunc gf args).run P w = .ok (.enter gf args) w)
    {encs : α → Array Value} (O : Nat → Prop) (hO : ∀ k, O k → k < w.heap.size) {S Sp : List α → Prop} {w0 : World}
    (hseq : SeqM P gf lb encs (fun k => O k ∨ k = w.heap.size + 1) S Sp w0) (hb0 : Below w0.heap.size w0 w) (hps : ∀ x, (encs x).size = ps.size)
    (I : (Nat → Prop) → List α → World → Prop) (Ix : (Nat → Prop) → Code → List α → World → Prop) (Ax : (Nat → Prop) → List α → α → Act → World → Prop)
    (hI : StableM (fun k => k = w.heap.size + 1) I) (hIx : ∀ c, StableM (fun k => k = w.heap.size + 1) (fun M => Ix M c))
    (hAx : ∀ M pre x a' A B, Ax M pre x a' A → PrivM (fun k => M k ∨ k = w.heap.size + 1) A B → Ax M pre x a' B)
    (h0 : ∀ W1, Below w.heap.size w W1 → W1.heap.size = w.heap.size + 2 → I (fun _ => False) [] W1)
    (hassign : ∀ (m l : Nat) (M : Nat → Prop) (pre : List α) (x : α) (W : World), (∀ k, M k → w.heap.size + 2 ≤ k ∧ k < W.heap.size) → w.heap.size + 2 ≤ W.heap.size → Sp (pre ++ [x]) → I M pre W →
      assign.wpIn (Fence.wide.inRound l) m P (Exit.then (fun a' W' => I M pre W' ∧ Ax M pre x a' W' ∧ Below W.heap.size W W') (fun _ _ _ => False)) { tmps := (ps.zip (encs x)).foldl (fun t (p, v) => t.setIfInBounds p v) a.tmps, defers := [] } W)
    (hbody : ∀ (m l : Nat) (M : Nat → Prop) (pre : List α) (x : α) (a' : Act) (W : World), l = w.heap.size + 1 → (∀ k, M k → w.heap.size + 2 ≤ k ∧ k < W.heap.size) → w.heap.size + 2 ≤ W.heap.size → Sp (pre ++ [x]) → I M pre W → Ax M pre x a' W →
      body.wpIn (Fence.wide.inRound l) m P (postM (KeepM O w.heap.size M) (I M) (Ix M) (pre ++ [x]) W) a' W)
    (hdone : ∀ (D : Nat) (xs : List α) (W : World), D = w.heap.size → w.heap.size + 2 ≤ W.heap.size → S xs → I (fun _ => False) xs W → W.heap[D]? = some (.deferred (some [])) → Q .normal { a with defers := { target := .collected D, args := #[] } :: a.defers } W)
    (hstop : ∀ (D : Nat) (c : Code) (pre : List α) (W : World), D = w.heap.size → w.heap.size + 2 ≤ W.heap.size → Sp pre → Ix (fun _ => False) c pre W → W.heap[D]? = some (.deferred (some [])) → c.wpIn Fence.wide n P Q { a with defers := { target := .collected D, args := #[] } :: a.defers } W) :
    (Code.rangeFunc g ps assign body).wpIn Fence.wide n P Q a w := by
  refine wpIn_rangeFunc ?_
  intro fn hfn
  obtain ⟨rec, hrec⟩ : ∃ rec : LoopState → Option Code → Loop, rec = fun st pe => { state := st, pending := pe, fn, tmps := a.tmps, params := ps, assign, body, defers := w.heap.size } := ⟨_, rfl⟩
  obtain ⟨W1, hW1⟩ : ∃ W1, (w.alloc (.deferred (some []))).alloc (.loop (rec .ready none)) = W1 := ⟨_, rfl⟩
  have hs1 : W1.heap.size = w.heap.size + 2 := by rw [← hW1]; simp
  have hL1 : W1.heap[w.heap.size + 1]? = some (.loop (rec .ready none)) := by
    rw [← hW1]; have := World.alloc_heap_new (w.alloc (.deferred (some []))) (.loop (rec .ready none)); rwa [World.size_alloc] at this
  have hK1 : W1.heap[w.heap.size]? = some (.deferred (some [])) := by
    rw [← hW1]; exact (Below.heap_alloc _ _ _ (by simp)).trans (World.alloc_heap_new w _)
  have hwW : Below w.heap.size w W1 := by rw [← hW1]; exact ((Below.refl _ w).alloc (Nat.le_refl _) _).alloc (by simp) _
  have hb1 : Below w0.heap.size w0 W1 := hb0.trans (hwW.mono hb0.size)
  refine ⟨w.heap.size + 1, [{ target := .collected w.heap.size, args := #[] }], W1, { target := .fn (.func gf) lb, args := #[.func (.yield (w.heap.size + 1)) #[] #[]] }, W1, gf,
    #[.func (.yield (w.heap.size + 1)) #[] #[]] ++ lb, W1, ?_, ?_, fun _ _ => trivial, ?_, (fun h => by cases h), ?_⟩
  · rw [← hW1, hrec]; exact run_enterLoop_outer _ _ _ _ _
  · simp only [resolve, hg]
    simp [go_sem]
  · simp [invoke, go_sem, eg]
  · refine (hseq (n - 1) (w.heap.size + 1)
      (fun M pre W => I M pre W ∧ (¬ M (w.heap.size + 1) ∧ ¬ M w.heap.size) ∧ w.heap.size + 2 ≤ W.heap.size ∧ W.heap[w.heap.size + 1]? = some (.loop (rec .ready none)) ∧ W.heap[w.heap.size]? = some (.deferred (some [])))
      (fun M pre W => ∃ c, Ix M c pre W ∧ (¬ M (w.heap.size + 1) ∧ ¬ M w.heap.size) ∧ w.heap.size + 2 ≤ W.heap.size ∧ W.heap[w.heap.size + 1]? = some (.loop (rec .done (some c))) ∧ W.heap[w.heap.size]? = some (.deferred (some [])))
      W1 hb1 (fun k hk => by rcases hk with hk | hk
                             · have := hO k hk; omega
                             · omega) ?_ ?_ ?_ ?_).mono ?_
    · rintro M M' pre A B ⟨hi, hm, hz, hl, hk⟩ hp hM
      refine ⟨hI M M' pre A B hi (hp.mono (by rintro k (h | h); exact .inl h; exact h.elim)) hM, ⟨fun h => ?_, fun h => ?_⟩, Nat.le_trans hz hp.size, (hp.block _ (by omega) (fun h => ?_)).trans hl, (hp.block _ (by omega) (fun h => ?_)).trans hk⟩
      · rcases hM _ h with h | h
        · exact hm.1 h
        · omega
      · rcases hM _ h with h | h
        · exact hm.2 h
        · omega
      · rcases h with h | h
        · exact hm.1 h
        · exact h
      · rcases h with h | h
        · exact hm.2 h
        · exact h
    · rintro M M' pre A B ⟨c, hi, hm, hz, hl, hk⟩ hp hM
      refine ⟨c, hIx c M M' pre A B hi (hp.mono (by rintro k (h | h); exact .inl h; exact h.elim)) hM, ⟨fun h => ?_, fun h => ?_⟩, Nat.le_trans hz hp.size, (hp.block _ (by omega) (fun h => ?_)).trans hl, (hp.block _ (by omega) (fun h => ?_)).trans hk⟩
      · rcases hM _ h with h | h
        · exact hm.1 h
        · omega
      · rcases hM _ h with h | h
        · exact hm.2 h
        · omega
      · rcases h with h | h
        · exact hm.1 h
        · exact h
      · rcases h with h | h
        · exact hm.2 h
        · exact h
    · -- one round
      rintro m M pre x W hM hsz hspx ⟨hi, hm, hz, hl, hk⟩
      rw [hs1] at hM hsz
      have hy := run_yield (P := P) (args := encs x) hl (by rw [hrec]; exact hps x)
      rw [hrec] at hy
      refine ⟨fn, _, assign, body, hy, roundIn_of_wpIn hfn ?_⟩
      refine wpIn_mono (hassign _ (w.heap.size + 1) M pre x W hM hsz hspx hi) ?_
      rintro e a' W' hp
      cases e with
      | normal =>
        obtain ⟨hi', hax, hbel⟩ := hp
        have hl' : W'.heap[w.heap.size + 1]? = some (.loop (rec .ready none)) := (hbel.block _ (by omega)).trans hl
        have hk' : W'.heap[w.heap.size]? = some (.deferred (some [])) := (hbel.block _ (by omega)).trans hk
        have hsz' : w.heap.size + 2 ≤ W'.heap.size := Nat.le_trans hsz hbel.size
        refine ⟨_, run_beginRound hl' (by rw [hrec]), ?_⟩
        have hpr : PrivM (fun k => M k ∨ k = w.heap.size + 1) W' (W'.putObj (w.heap.size + 1) (.loop { rec .ready none with state := .busy })) := PrivM.putObj _ (.inr rfl) _
        have hl2 : (W'.putObj (w.heap.size + 1) (.loop { rec .ready none with state := .busy })).heap[w.heap.size + 1]? = some (.loop { rec .ready none with state := .busy }) := World.putObj_heap_same (by omega)
        have hk2 : (W'.putObj (w.heap.size + 1) (.loop { rec .ready none with state := .busy })).heap[w.heap.size]? = some (.deferred (some [])) := (World.putObj_heap_other (by omega)).trans hk'
        have hkeep : ∀ k, (k < W1.heap.size ∧ ¬ (O k ∨ k = w.heap.size + 1)) ∨ M k → k < W.heap.size ∧ k ≠ w.heap.size + 1 := fun k hk => by
          rcases hk with ⟨h1, h2⟩ | h
          · exact ⟨by omega, fun e => h2 (.inr e)⟩
          · exact ⟨(hM k h).2, fun e => hm.1 (e ▸ h)⟩
        have hsp0 : SpareM (fun k => (k < W1.heap.size ∧ ¬ (O k ∨ k = w.heap.size + 1)) ∨ M k) W (W'.putObj (w.heap.size + 1) (.loop { rec .ready none with state := .busy })) :=
          (SpareM.of_below hbel (fun k hk => (hkeep k hk).1)).trans (SpareM.putObj _ (fun h => (hkeep _ h).2 rfl) _)
        have hM' : ∀ k, M k → w.heap.size + 2 ≤ k ∧ k < (W'.putObj (w.heap.size + 1) (.loop { rec .ready none with state := .busy })).heap.size := fun k hk => by
          have := hM k hk
          have := hbel.size
          rw [World.putObj_size]; omega
        refine wpIn_mono (hbody _ _ M pre x a' _ rfl hM' (by rw [World.putObj_size]; exact hsz') hspx (hI M M pre _ _ hi' hpr (fun k h => .inl h)) (hAx M pre x a' _ _ hax hpr)) ?_
        have fin : ∀ (jump : Option Code) (W3 : World), SpareM (KeepM O w.heap.size M) (W'.putObj (w.heap.size + 1) (.loop { rec .ready none with state := .busy })) W3 →
            (Instr.endRound (w.heap.size + 1) jump).run P W3 = .ok (.bool jump.isNone) (W3.putObj (w.heap.size + 1) (.loop (rec (if jump.isNone then .ready else .done) jump))) ∧
            (W3.putObj (w.heap.size + 1) (.loop (rec (if jump.isNone then .ready else .done) jump))).heap[w.heap.size + 1]? = some (.loop (rec (if jump.isNone then .ready else .done) jump)) ∧
            (W3.putObj (w.heap.size + 1) (.loop (rec (if jump.isNone then .ready else .done) jump))).heap[w.heap.size]? = some (.deferred (some [])) ∧ w.heap.size + 2 ≤ W3.heap.size ∧
            SpareM (fun k => (k < W1.heap.size ∧ ¬ (O k ∨ k = w.heap.size + 1)) ∨ M k) W (W3.putObj (w.heap.size + 1) (.loop (rec (if jump.isNone then .ready else .done) jump))) := fun jump W3 hsp => by
          have hl3 := (hsp.block (w.heap.size + 1) (.inl ⟨by omega, fun e => by have := hO _ e; omega⟩)).trans hl2
          have hk3 := (hsp.block w.heap.size (.inl ⟨by omega, fun e => by have := hO _ e; omega⟩)).trans hk2
          have := run_endRound (P := P) jump hl3
          rw [hrec] at this ⊢
          have hz3 : w.heap.size + 2 ≤ W3.heap.size := Nat.le_trans (by rw [World.putObj_size]; exact hsz') hsp.size
          rw [hrec] at hsp0 hsp
          refine ⟨this, World.putObj_heap_same (Array.getElem?_eq_some_iff.1 hl3).1, (World.putObj_heap_other (by omega)).trans hk3, hz3, (hsp0.trans (hsp.imp (fun k h => ?_))).trans (SpareM.putObj _ (fun h => (hkeep _ h).2 rfl) _)⟩
          rcases h with ⟨h1, h2⟩ | h
          · exact .inl ⟨by omega, fun e => h2 (.inl e)⟩
          · exact .inr h
        rintro e a3 W3 hp3
        cases e with
        | normal =>
          obtain ⟨hsp, hi3⟩ := hp3
          obtain ⟨hr, hl4, hk4, hz3, hs4⟩ := fin none W3 hsp
          exact ⟨_, _, hr, .inl ⟨rfl, ⟨hI M M _ _ _ hi3 (PrivM.putObj _ (.inr rfl) _) (fun k h => .inl h), hm, by rw [World.putObj_size]; exact hz3, hl4, hk4⟩, hs4⟩⟩
        | ret =>
          obtain ⟨hsp, hi3⟩ := hp3
          obtain ⟨hr, hl4, hk4, hz3, hs4⟩ := fin (some .ret) W3 hsp
          exact ⟨_, _, hr, .inr ⟨rfl, ⟨.ret, hIx _ M M _ _ _ hi3 (PrivM.putObj _ (.inr rfl) _) (fun k h => .inl h), hm, by rw [World.putObj_size]; exact hz3, hl4, hk4⟩, hs4⟩⟩
        | exit id =>
          obtain ⟨hsp, hi3⟩ := hp3
          obtain ⟨hr, hl4, hk4, hz3, hs4⟩ := fin (some (.exit id)) W3 hsp
          exact ⟨_, _, hr, .inr ⟨rfl, ⟨.exit id, hIx _ M M _ _ _ hi3 (PrivM.putObj _ (.inr rfl) _) (fun k h => .inl h), hm, by rw [World.putObj_size]; exact hz3, hl4, hk4⟩, hs4⟩⟩
        | goto t =>
          obtain ⟨hsp, hi3⟩ := hp3
          obtain ⟨hr, hl4, hk4, hz3, hs4⟩ := fin (some (.goto t)) W3 hsp
          exact ⟨_, _, hr, .inr ⟨rfl, ⟨.goto t, hIx _ M M _ _ _ hi3 (PrivM.putObj _ (.inr rfl) _) (fun k h => .inl h), hm, by rw [World.putObj_size]; exact hz3, hl4, hk4⟩, hs4⟩⟩
        | panic ch => exact hp3.elim
        | outgrown => exact hp3.elim
      | ret => exact hp.elim
      | exit id => exact hp.elim
      | goto t => exact hp.elim
      | panic ch => exact hp.elim
      | outgrown => exact hp.elim
    · exact ⟨h0 W1 hwW hs1, ⟨fun h => h, fun h => h⟩, by omega, hL1, hK1⟩
    · -- behind the iterator
      rintro e W2 ⟨⟨v, rfl⟩, hz0, (⟨xs, hS, hi, hm, hz, hl, hk⟩ | ⟨pre, hSp, c, hi, hm, hz, hl, hk⟩)⟩
      · exact ⟨none, _, by have := run_endLoop (P := P) hl (by rw [hrec]; simp); rw [hrec] at this; exact this,
          hdone _ xs _ rfl (by rw [World.putObj_size]; exact hz) hS (hI _ _ _ _ _ hi (PrivM.putObj _ (.inr rfl) _) (fun k h => h.elim)) ((World.putObj_heap_other (by omega)).trans hk)⟩
      · exact ⟨some c, _, by have := run_endLoop (P := P) hl (by rw [hrec]; simp); rw [hrec] at this; exact this,
          hstop _ c pre _ rfl (by rw [World.putObj_size]; exact hz) hSp (hIx c _ _ _ _ _ hi (PrivM.putObj _ (.inr rfl) _) (fun k h => h.elim)) ((World.putObj_heap_other (by omega)).trans hk)⟩
end Go.Proofs.Ytpiadbdkiibdbaa

namespace Go.Proofs.Ytpiadbdkiibdbaa
open Go Go.RowKit

/-- A relation that speaks of blocks below n alone. -/
def Low {α : Type} (n : Nat) (J : List α → World → Prop) : Prop := ∀ pre A B, J pre A → n ≤ A.heap.size → Below n A B → J pre B
theorem PrivM.below {M : Nat → Prop} {A B : World} (h : PrivM M A B) {n : Nat} (hn : n ≤ A.heap.size) (hm : ∀ k, M k → n ≤ k) : Below n A B := ⟨h.os, h.tape, h.output, h.size, fun k hk => h.block k (by omega) (fun e => by have := hm k e; omega)⟩
theorem PrivM.of_below' {M : Nat → Prop} {A B : World} {n : Nat} (h : Below n A B) (hm : ∀ k, n ≤ k → k < A.heap.size → M k) : PrivM M A B := ⟨h.os, h.tape, h.output, h.size, fun k hk hn => h.block k (by rcases Nat.lt_or_ge k n with h1 | h1; exact h1; exact absurd (hm k h1 hk) hn)⟩
theorem PrivM.alloc {M : Nat → Prop} {A W : World} (h : PrivM M A W) (o : Obj) : PrivM M A (W.alloc o) :=
  h.trans ⟨rfl, rfl, rfl, by simp, fun k hk _ => Below.heap_alloc W o k hk⟩
theorem PrivM.drew {M : Nat → Prop} {A W : World} (h : PrivM M A W) : PrivM M A W.drew := ⟨h.os, h.tape, h.output, h.size, h.block⟩

/-- The iterator's contract. O: the blocks below the caller's that a body may turn. -/
def Seq0 {α : Type} (P : Program) (g : Nat) (fb lb : Array Value) (encs : α → Array Value) (O : Nat → Prop) (S Sp : List α → Prop) (w : World) : Prop :=
  ∀ (n l : Nat) (J Jx : List α → World → Prop) (W : World), Below w.heap.size w W → (∀ k, O k → k < W.heap.size) →
    Low W.heap.size J → Low W.heap.size Jx →
    (∀ m pre x A, W.heap.size ≤ A.heap.size → Sp (pre ++ [x]) → J pre A → YieldAt Fence.wide m P l (encs x) A fun e B =>
      (e = .returned (.bool true) ∧ J (pre ++ [x]) B ∧ PrivM O A B) ∨ (e = .returned (.bool false) ∧ Jx (pre ++ [x]) B ∧ PrivM O A B)) →
    J [] W →
    CallsIn Fence.wide n P g (fb ++ #[.func (.yield l) #[] #[]] ++ lb) W fun e W' => (∃ v, e = .returned v) ∧ PrivM O W W' ∧
      ((∃ xs, S xs ∧ J xs W') ∨ (∃ pre, Sp pre ∧ Jx pre W'))

theorem PrivM.shut {M : Nat → Prop} {A B C : World} (h1 : Below A.heap.size A B) (h2 : PrivM M B C) {D : Nat} (hD : A.heap.size ≤ D) (o : Obj) : PrivM M A (C.putObj D o) :=
  ⟨h2.os.trans h1.os, h2.tape.trans h1.tape, h2.output.trans h1.output, by rw [World.putObj_size]; exact Nat.le_trans h1.size h2.size, fun k hk hn =>
    (World.putObj_heap_other (by omega)).trans ((h2.block k (Nat.lt_of_lt_of_le hk h1.size) hn).trans (h1.block k hk))⟩
theorem below_putObj {n D : Nat} (W : World) (hD : n ≤ D) (o : Obj) : Below n W (W.putObj D o) := ⟨rfl, rfl, rfl, by simp, fun k hk => World.putObj_heap_other (by omega)⟩
def post0 {α : Type} (O : Nat → Prop) (I : List α → World → Prop) (Ix : Code → List α → World → Prop) (xs : List α) (W : World) : Exit → Act → World → Prop
  | .normal, _, W' => PrivM O W W' ∧ I xs W'
  | .ret, _, W' => PrivM O W W' ∧ Ix .ret xs W'
  | .exit id, _, W' => PrivM O W W' ∧ Ix (.exit id) xs W'
  | .goto t, _, W' => PrivM O W W' ∧ Ix (.goto t) xs W'
  | .panic _, _, _ => False
  | .outgrown, _, _ => False

theorem wpIn_rangeFunc_0 {α : Type} {n : Nat} {P : Program} {g : Operand} {ps : Array Tmp} {assign body : Code} {Q : Exit → Act → World → Prop} {a : Act} {w : World}
    {gf : Nat} {fb lb : Array Value} (hg : a.eval g = .func (.func gf) fb lb) (eg : ∀ args w, (callFunc gf args).run P w = .ok (.enter gf args) w)
    {encs : α → Array Value} (O : Nat → Prop) (hO : ∀ k, O k → k < w.heap.size) {S Sp : List α → Prop} {w0 : World}
    (hseq : Seq0 P gf fb lb encs (fun k => O k ∨ k = w.heap.size + 1) S Sp w0) (hb0 : Below w0.heap.size w0 w) (hps : ∀ x, (encs x).size = ps.size)
    (I : List α → World → Prop) (Ix : Code → List α → World → Prop) (Ax : List α → α → Act → World → Prop)
    (hI : Low w.heap.size I) (hIx : ∀ c, Low w.heap.size (Ix c))
    (hAx : ∀ pre x a' A B, Ax pre x a' A → PrivM (fun k => k = w.heap.size + 1) A B → Ax pre x a' B)
    (h0 : ∀ W1, Below w.heap.size w W1 → I [] W1)
    (hassign : ∀ (m l : Nat) (pre : List α) (x : α) (W : World), w.heap.size + 2 ≤ W.heap.size → Sp (pre ++ [x]) → I pre W →
      assign.wpIn (Fence.wide.inRound l) m P (Exit.then (fun a' W' => Ax pre x a' W' ∧ Below W.heap.size W W') (fun _ _ _ => False)) { tmps := (ps.zip (encs x)).foldl (fun t (p, v) => t.setIfInBounds p v) a.tmps, defers := [] } W)
    (hbody : ∀ (m l : Nat) (pre : List α) (x : α) (a' : Act) (W : World), w.heap.size + 2 ≤ W.heap.size → Sp (pre ++ [x]) → I pre W → Ax pre x a' W →
      body.wpIn (Fence.wide.inRound l) m P (post0 O I Ix (pre ++ [x]) W) a' W)
    (hdone : ∀ (D : Nat) (xs : List α) (W : World), D = w.heap.size → w.heap.size + 2 ≤ W.heap.size → S xs → I xs W → PrivM O w W → W.heap[D]? = some (.deferred (some [])) → Q .normal { a with defers := { target := .collected D, args := #[] } :: a.defers } W)
    (hstop : ∀ (D : Nat) (c : Code) (pre : List α) (W : World), D = w.heap.size → w.heap.size + 2 ≤ W.heap.size → Sp pre → Ix c pre W → PrivM O w W → W.heap[D]? = some (.deferred (some [])) → c.wpIn Fence.wide n P Q { a with defers := { target := .collected D, args := #[] } :: a.defers } W) :
    (Code.rangeFunc g ps assign body).wpIn Fence.wide n P Q a w := by
  refine wpIn_rangeFunc ?_
  intro fn hfn
  obtain ⟨rec, hrec⟩ : ∃ rec : LoopState → Option Code → Loop, rec = fun st pe => { state := st, pending := pe, fn, tmps := a.tmps, params := ps, assign, body, defers := w.heap.size } := ⟨_, rfl⟩
  obtain ⟨W1, hW1⟩ : ∃ W1, (w.alloc (.deferred (some []))).alloc (.loop (rec .ready none)) = W1 := ⟨_, rfl⟩
  have hs1 : W1.heap.size = w.heap.size + 2 := by rw [← hW1]; simp
  have hL1 : W1.heap[w.heap.size + 1]? = some (.loop (rec .ready none)) := by
    rw [← hW1]; have := World.alloc_heap_new (w.alloc (.deferred (some []))) (.loop (rec .ready none)); rwa [World.size_alloc] at this
  have hK1 : W1.heap[w.heap.size]? = some (.deferred (some [])) := by
    rw [← hW1]; exact (Below.heap_alloc _ _ _ (by simp)).trans (World.alloc_heap_new w _)
  have hwW : Below w.heap.size w W1 := by rw [← hW1]; exact ((Below.refl _ w).alloc (Nat.le_refl _) _).alloc (by simp) _
  have hb1 : Below w0.heap.size w0 W1 := hb0.trans (hwW.mono hb0.size)
  refine ⟨w.heap.size + 1, [{ target := .collected w.heap.size, args := #[] }], W1, { target := .fn (.func gf) lb, args := fb ++ #[.func (.yield (w.heap.size + 1)) #[] #[]] }, W1, gf,
    fb ++ #[.func (.yield (w.heap.size + 1)) #[] #[]] ++ lb, W1, ?_, ?_, fun _ _ => trivial, ?_, (fun h => by cases h), ?_⟩
  · rw [← hW1, hrec]; exact run_enterLoop_outer _ _ _ _ _
  · simp only [resolve, hg]
    simp [go_sem]
  · simp [invoke, go_sem, eg]
  · have hput : ∀ (X : World) (o : Obj), Below w.heap.size X (X.putObj (w.heap.size + 1) o) := fun X o => ⟨rfl, rfl, rfl, by simp, fun k hk => World.putObj_heap_other (by omega)⟩
    refine (hseq (n - 1) (w.heap.size + 1)
      (fun pre W => I pre W ∧ W.heap[w.heap.size + 1]? = some (.loop (rec .ready none)) ∧ W.heap[w.heap.size]? = some (.deferred (some [])))
      (fun pre W => ∃ c, Ix c pre W ∧ W.heap[w.heap.size + 1]? = some (.loop (rec .done (some c))) ∧ W.heap[w.heap.size]? = some (.deferred (some [])))
      W1 hb1 (fun k hk => by rcases hk with hk | hk
                             · have := hO k hk; omega
                             · omega) ?_ ?_ ?_ ?_).mono ?_
    · rintro pre A B ⟨hi, hl, hk⟩ hz hp
      exact ⟨hI pre A B hi (by omega) (hp.mono (by omega)), (hp.block _ (by omega)).trans hl, (hp.block _ (by omega)).trans hk⟩
    · rintro pre A B ⟨c, hi, hl, hk⟩ hz hp
      exact ⟨c, hIx c pre A B hi (by omega) (hp.mono (by omega)), (hp.block _ (by omega)).trans hl, (hp.block _ (by omega)).trans hk⟩
    · -- one round
      rintro m pre x W hsz hspx ⟨hi, hl, hk⟩
      rw [hs1] at hsz
      have hy := run_yield (P := P) (args := encs x) hl (by rw [hrec]; exact hps x)
      rw [hrec] at hy
      refine ⟨fn, _, assign, body, hy, roundIn_of_wpIn hfn ?_⟩
      refine wpIn_mono (hassign _ (w.heap.size + 1) pre x W hsz hspx hi) ?_
      rintro e a' W' hp
      cases e with
      | normal =>
        obtain ⟨hax, hbel⟩ := hp
        have hi' : I pre W' := hI _ _ _ hi (by omega) (hbel.mono (by omega))
        have hl' : W'.heap[w.heap.size + 1]? = some (.loop (rec .ready none)) := (hbel.block _ (by omega)).trans hl
        have hk' : W'.heap[w.heap.size]? = some (.deferred (some [])) := (hbel.block _ (by omega)).trans hk
        have hsz' : w.heap.size + 2 ≤ W'.heap.size := Nat.le_trans hsz hbel.size
        refine ⟨_, run_beginRound hl' (by rw [hrec]), ?_⟩
        have hpr : PrivM (fun k => k = w.heap.size + 1) W' (W'.putObj (w.heap.size + 1) (.loop { rec .ready none with state := .busy })) := PrivM.putObj (M := fun k => k = w.heap.size + 1) _ rfl _
        have hl2 : (W'.putObj (w.heap.size + 1) (.loop { rec .ready none with state := .busy })).heap[w.heap.size + 1]? = some (.loop { rec .ready none with state := .busy }) := World.putObj_heap_same (by omega)
        have hk2 : (W'.putObj (w.heap.size + 1) (.loop { rec .ready none with state := .busy })).heap[w.heap.size]? = some (.deferred (some [])) := (World.putObj_heap_other (by omega)).trans hk'
        have hsp0 : PrivM (fun k => O k ∨ k = w.heap.size + 1) W (W'.putObj (w.heap.size + 1) (.loop { rec .ready none with state := .busy })) :=
          (PrivM.of_below hbel).trans (hpr.mono (fun k h => .inr h))
        refine wpIn_mono (hbody _ _ pre x a' _ (by rw [World.putObj_size]; exact hsz') hspx (hI pre _ _ hi' (by omega) (hput _ _)) (hAx pre x a' _ _ hax hpr)) ?_
        have fin : ∀ (jump : Option Code) (W3 : World), PrivM O (W'.putObj (w.heap.size + 1) (.loop { rec .ready none with state := .busy })) W3 →
            (Instr.endRound (w.heap.size + 1) jump).run P W3 = .ok (.bool jump.isNone) (W3.putObj (w.heap.size + 1) (.loop (rec (if jump.isNone then .ready else .done) jump))) ∧
            (W3.putObj (w.heap.size + 1) (.loop (rec (if jump.isNone then .ready else .done) jump))).heap[w.heap.size + 1]? = some (.loop (rec (if jump.isNone then .ready else .done) jump)) ∧
            (W3.putObj (w.heap.size + 1) (.loop (rec (if jump.isNone then .ready else .done) jump))).heap[w.heap.size]? = some (.deferred (some [])) ∧ w.heap.size + 2 ≤ W3.heap.size ∧
            PrivM (fun k => O k ∨ k = w.heap.size + 1) W (W3.putObj (w.heap.size + 1) (.loop (rec (if jump.isNone then .ready else .done) jump))) := fun jump W3 hsp => by
          have hz2 : w.heap.size + 2 ≤ (W'.putObj (w.heap.size + 1) (.loop { rec .ready none with state := .busy })).heap.size := by rw [World.putObj_size]; exact hsz'
          have hl3 := (hsp.block (w.heap.size + 1) (by omega) (fun e => by have := hO _ e; omega)).trans hl2
          have hk3 := (hsp.block w.heap.size (by omega) (fun e => by have := hO _ e; omega)).trans hk2
          have := run_endRound (P := P) jump hl3
          rw [hrec] at this ⊢
          have hz3 : w.heap.size + 2 ≤ W3.heap.size := Nat.le_trans hz2 hsp.size
          rw [hrec] at hsp0 hsp
          exact ⟨this, World.putObj_heap_same (Array.getElem?_eq_some_iff.1 hl3).1, (World.putObj_heap_other (by omega)).trans hk3, hz3, (hsp0.trans (hsp.mono (fun k h => .inl h))).trans (PrivM.putObj _ (.inr rfl) _)⟩
        rintro e a3 W3 hp3
        cases e with
        | normal =>
          obtain ⟨hsp, hi3⟩ := hp3
          obtain ⟨hr, hl4, hk4, hz3, hs4⟩ := fin none W3 hsp
          exact ⟨_, _, hr, .inl ⟨rfl, ⟨hI _ _ _ hi3 (by omega) (hput _ _), hl4, hk4⟩, hs4⟩⟩
        | ret =>
          obtain ⟨hsp, hi3⟩ := hp3
          obtain ⟨hr, hl4, hk4, hz3, hs4⟩ := fin (some .ret) W3 hsp
          exact ⟨_, _, hr, .inr ⟨rfl, ⟨.ret, hIx _ _ _ _ hi3 (by omega) (hput _ _), hl4, hk4⟩, hs4⟩⟩
        | exit id =>
          obtain ⟨hsp, hi3⟩ := hp3
          obtain ⟨hr, hl4, hk4, hz3, hs4⟩ := fin (some (.exit id)) W3 hsp
          exact ⟨_, _, hr, .inr ⟨rfl, ⟨.exit id, hIx _ _ _ _ hi3 (by omega) (hput _ _), hl4, hk4⟩, hs4⟩⟩
        | goto t =>
          obtain ⟨hsp, hi3⟩ := hp3
          obtain ⟨hr, hl4, hk4, hz3, hs4⟩ := fin (some (.goto t)) W3 hsp
          exact ⟨_, _, hr, .inr ⟨rfl, ⟨.goto t, hIx _ _ _ _ hi3 (by omega) (hput _ _), hl4, hk4⟩, hs4⟩⟩
        | panic ch => exact hp3.elim
        | outgrown => exact hp3.elim
      | ret => exact hp.elim
      | exit id => exact hp.elim
      | goto t => exact hp.elim
      | panic ch => exact hp.elim
      | outgrown => exact hp.elim
    · exact ⟨h0 W1 hwW, hL1, hK1⟩
    · -- behind the iterator
      have htot : ∀ (X : World) (o : Obj), PrivM (fun k => O k ∨ k = w.heap.size + 1) W1 X → PrivM O w (X.putObj (w.heap.size + 1) o) := fun X o h =>
        ⟨h.os.trans hwW.os, h.tape.trans hwW.tape, h.output.trans hwW.output, by rw [World.putObj_size]; exact Nat.le_trans hwW.size h.size, fun k hk hn =>
          (World.putObj_heap_other (by omega)).trans ((h.block k (by omega) (by rintro (e | e); exact hn e; omega)).trans (hwW.block k hk))⟩
      have hzz : ∀ (X : World), PrivM (fun k => O k ∨ k = w.heap.size + 1) W1 X → w.heap.size + 2 ≤ X.heap.size := fun X h => by have := h.size; omega
      rintro e W2 ⟨⟨v, rfl⟩, htr, (⟨xs, hS, hi, hl, hk⟩ | ⟨pre, hSp, c, hi, hl, hk⟩)⟩
      · exact ⟨none, _, by have := run_endLoop (P := P) hl (by rw [hrec]; simp); rw [hrec] at this; exact this,
          hdone _ xs _ rfl (by rw [World.putObj_size]; exact hzz _ htr) hS (hI _ _ _ hi (by have := hzz _ htr; omega) (hput _ _)) (htot _ _ htr) ((World.putObj_heap_other (by omega)).trans hk)⟩
      · exact ⟨some c, _, by have := run_endLoop (P := P) hl (by rw [hrec]; simp); rw [hrec] at this; exact this,
          hstop _ c pre _ rfl (by rw [World.putObj_size]; exact hzz _ htr) hSp (hIx c _ _ _ hi (by have := hzz _ htr; omega) (hput _ _)) (htot _ _ htr) ((World.putObj_heap_other (by omega)).trans hk)⟩
end Go.Proofs.Ytpiadbdkiibdbaa

