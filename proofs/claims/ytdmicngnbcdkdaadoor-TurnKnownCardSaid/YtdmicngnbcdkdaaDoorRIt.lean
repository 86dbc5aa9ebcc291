/- A range over a function whose iterator keeps variables of its own in memory: the iterator's blocks, made before its first round, are its own; the body's are its own. -/
/- A region that draws its order INSIDE A ROUND (none of its operations is a defer statement), all of whose operations are quiet among the worlds that have grown beyond the one in which it begins. -/
/- A range over a function whose iterator goes on making blocks of its own between two rounds: whose blocks are the iterator's is told by a set that grows. -/
/- Plain facts: lists of numbers by how few they are, and which comes first; the best of several. -/
/- An assignment inside a round. -/
/- A region that draws its order inside a round (no defer statement in it): what yields in every world that meets a condition may be taken first, if the condition holds behind each other operation. -/
import Derived.Test.YtdmicngnbcdkdaaDoorRExt
import Derived.RangeFuncNested
import Derived.RangeFuncBound
import Derived.RangeFuncCalls
import Derived.RangeFuncLeaves
import Derived.TacticsInMore
import Derived.LoopNIn
import Derived.LoopIn
import Derived.Sort.BigQuietIn
import Derived.OrdersHeld
set_option linter.unusedSimpArgs false
set_option linter.unusedVariables false
namespace Go.Proofs.YtdmicngnbcdkdaaDoor
open Go Go.RowKit

theorem wide_fn (f : FuncId) : Fence.wide.fn f = True := eq_true trivial
theorem wide_depth : Fence.wide.depth = none := rfl
theorem wide_round : Fence.wide.round = none := rfl
theorem wideR_fn (l : Nat) (f : FuncId) : (Fence.wide.inRound l).fn f = True := eq_true trivial
theorem wideR_depth (l : Nat) : (Fence.wide.inRound l).depth = none := rfl
attribute [go_sem] wide_fn wide_depth wide_round wideR_fn wideR_depth
/-- Of what lay, only blocks from n0 to below n1 may have turned. -/
structure Priv (n0 n1 : Nat) (W W' : World) : Prop where
  os : W'.os = W.os
  tape : W'.tape = W.tape
  output : W'.output = W.output
  size : W.heap.size ≤ W'.heap.size
  block : ∀ k, k < W.heap.size → (k < n0 ∨ n1 ≤ k) → W'.heap[k]? = W.heap[k]?
/-- Of the blocks below n1, only those of O may have turned. -/
structure Spare (O : Nat → Prop) (n1 : Nat) (W W' : World) : Prop where
  os : W'.os = W.os
  tape : W'.tape = W.tape
  output : W'.output = W.output
  size : W.heap.size ≤ W'.heap.size
  block : ∀ k, k < n1 → ¬ O k → W'.heap[k]? = W.heap[k]?
theorem Priv.refl (n0 n1 : Nat) (W : World) : Priv n0 n1 W W := ⟨rfl, rfl, rfl, Nat.le_refl _, fun _ _ _ => rfl⟩
theorem Priv.trans {n0 n1 : Nat} {A B C : World} (h : Priv n0 n1 A B) (k : Priv n0 n1 B C) : Priv n0 n1 A C :=
  ⟨k.os.trans h.os, k.tape.trans h.tape, k.output.trans h.output, Nat.le_trans h.size k.size, fun i hi hn => (k.block i (Nat.lt_of_lt_of_le hi h.size) hn).trans (h.block i hi hn)⟩
theorem Priv.of_below {n0 n1 : Nat} {A B : World} (h : Below A.heap.size A B) : Priv n0 n1 A B := ⟨h.os, h.tape, h.output, h.size, fun k hk _ => h.block k hk⟩
theorem Priv.mono {n0 n0' n1 n1' : Nat} {A B : World} (h : Priv n0 n1 A B) (h0 : n0' ≤ n0) (h1 : n1 ≤ n1') : Priv n0' n1' A B :=
  ⟨h.os, h.tape, h.output, h.size, fun k hk hn => h.block k hk (by omega)⟩
theorem Priv.alloc (n0 n1 : Nat) (W : World) (o : Obj) : Priv n0 n1 W (W.alloc o) := .of_below ((Below.refl _ W).alloc (Nat.le_refl _) o)
theorem Priv.drew (n0 n1 : Nat) (W : World) : Priv n0 n1 W W.drew := ⟨rfl, rfl, rfl, Nat.le_refl _, fun _ _ _ => rfl⟩
theorem Priv.setCell {n0 n1 : Nat} (W : World) {b : Nat} (h0 : n0 ≤ b) (h1 : b < n1) (o : Nat) (v : Value) : Priv n0 n1 W (W.setCell ⟨b, o, none⟩ v) :=
  ⟨rfl, rfl, rfl, by simp, fun k hk hn => Below.heap_setCell W ⟨b, o, none⟩ v k (by dsimp only; omega)⟩
theorem Priv.putObj {n0 n1 : Nat} (W : World) {b : Nat} (h0 : n0 ≤ b) (h1 : b < n1) (o : Obj) : Priv n0 n1 W (W.putObj b o) :=
  ⟨rfl, rfl, rfl, by simp, fun k hk hn => World.putObj_heap_other (by omega)⟩
theorem Priv.cell {n0 n1 : Nat} {A B : World} (h : Priv n0 n1 A B) {b o : Nat} (hb : b < n0) (hs : b < A.heap.size) : B.cell? ⟨b, o, none⟩ = A.cell? ⟨b, o, none⟩ := World.cell?_of_block (w := A) (a := ⟨b, o, none⟩) (h.block b hs (.inl hb))
theorem Priv.frozen {n0 n1 : Nat} {A B : World} (h : Priv n0 n1 A B) {b o : Nat} (hb : b < n0) (hs : b < A.heap.size) : B.frozen? ⟨b, o, none⟩ = A.frozen? ⟨b, o, none⟩ := World.frozen?_of_block (w := A) (a := ⟨b, o, none⟩) (h.block b hs (.inl hb))
theorem Priv.below {n n0 n1 : Nat} {A B : World} (h : Priv n0 n1 A B) (hn : n ≤ n0) (hs : n ≤ A.heap.size) : Below n A B := ⟨h.os, h.tape, h.output, h.size, fun k hk => h.block k (by omega) (by omega)⟩
theorem Spare.refl (O : Nat → Prop) (n1 : Nat) (W : World) : Spare O n1 W W := ⟨rfl, rfl, rfl, Nat.le_refl _, fun _ _ _ => rfl⟩
theorem Spare.trans {O : Nat → Prop} {n1 : Nat} {A B C : World} (h : Spare O n1 A B) (k : Spare O n1 B C) : Spare O n1 A C :=
  ⟨k.os.trans h.os, k.tape.trans h.tape, k.output.trans h.output, Nat.le_trans h.size k.size, fun i hi hn => (k.block i hi hn).trans (h.block i hi hn)⟩
theorem Spare.of_below {O : Nat → Prop} {n1 : Nat} {A B : World} (h : Below n1 A B) : Spare O n1 A B := ⟨h.os, h.tape, h.output, h.size, fun k hk _ => h.block k hk⟩
theorem Spare.imp {O O' : Nat → Prop} {n1 : Nat} {A B : World} (h : Spare O n1 A B) (ho : ∀ k, O k → O' k) : Spare O' n1 A B := ⟨h.os, h.tape, h.output, h.size, fun k hk hn => h.block k hk (fun e => hn (ho k e))⟩
theorem Spare.alloc {O : Nat → Prop} {n1 : Nat} {A W : World} (h : Spare O n1 A W) (hn : n1 ≤ W.heap.size) (o : Obj) : Spare O n1 A (W.alloc o) :=
  h.trans ⟨rfl, rfl, rfl, by simp, fun k hk _ => Below.heap_alloc W o k (by omega)⟩
theorem Spare.drew {O : Nat → Prop} {n1 : Nat} {A W : World} (h : Spare O n1 A W) : Spare O n1 A W.drew := ⟨h.os, h.tape, h.output, h.size, h.block⟩
theorem Spare.setCell {O : Nat → Prop} {n1 : Nat} {A W : World} (h : Spare O n1 A W) {b : Nat} (hb : O b ∨ n1 ≤ b) (o : Nat) (v : Value) : Spare O n1 A (W.setCell ⟨b, o, none⟩ v) :=
  h.trans ⟨rfl, rfl, rfl, by simp, fun k hk hn => Below.heap_setCell W ⟨b, o, none⟩ v k (by
    dsimp only
    rintro rfl
    rcases hb with hb | hb
    · exact hn hb
    · omega)⟩
theorem Spare.putObj {O : Nat → Prop} {n1 : Nat} {A W : World} (h : Spare O n1 A W) {b : Nat} (hb : O b) (o : Obj) : Spare O n1 A (W.putObj b o) :=
  h.trans ⟨rfl, rfl, rfl, by simp, fun k hk hn => World.putObj_heap_other (by rintro rfl; exact hn hb)⟩
theorem Spare.ext {O : Nat → Prop} {n1 : Nat} {A W : World} (h : Spare O n1 A W) (hn : n1 ≤ W.heap.size) (x : Grow W) : Spare O n1 A (ext W x) :=
  h.trans (.of_below ((below_ext W x).mono hn))

/-- The iterator's contract: what it hands to yield, whoever's body is behind it, if the body leaves the iterator's blocks (and all below n1 that are not of O). -/
def SeqW {α : Type} (n : Nat) (P : Program) (g : Nat) (lb : Array Value) (encs : α → Array Value) (O : Nat → Prop) (S Sp : List α → Prop) (w : World) : Prop :=
  ∀ (l : Nat) (J Jx : Nat → List α → World → Prop) (W : World), Below w.heap.size w W → (∀ k, O k → k < W.heap.size) →
    (∀ n1 pre A B, W.heap.size ≤ n1 → n1 ≤ A.heap.size → J n1 pre A → Priv W.heap.size n1 A B → J n1 pre B) →
    (∀ n1 pre A B, W.heap.size ≤ n1 → n1 ≤ A.heap.size → Jx n1 pre A → Priv W.heap.size n1 A B → Jx n1 pre B) →
    (∀ n1 pre x A, W.heap.size ≤ n1 → n1 ≤ A.heap.size → Sp (pre ++ [x]) → J n1 pre A → YieldAt Fence.wide (n - 1) P l (encs x) A fun e B =>
      (e = .returned (.bool true) ∧ J n1 (pre ++ [x]) B ∧ Spare O n1 A B) ∨ (e = .returned (.bool false) ∧ Jx n1 (pre ++ [x]) B ∧ Spare O n1 A B)) →
    (∀ W1, Below W.heap.size W W1 → J W1.heap.size [] W1) →
    CallsIn Fence.wide n P g (#[.func (.yield l) #[] #[]] ++ lb) W fun e W' => (∃ v, e = .returned v) ∧
      ∃ n1, W.heap.size ≤ n1 ∧ n1 ≤ W'.heap.size ∧ ((∃ xs, S xs ∧ J n1 xs W') ∨ (∃ pre, Sp pre ∧ Jx n1 pre W'))

/-- How the body of a round may be left. -/
def postW {α : Type} (O : Nat → Prop) (n1 : Nat) (I : Nat → List α → World → Prop) (Ix : Nat → Code → List α → World → Prop) (xs : List α) (W : World) : Exit → Act → World → Prop
  | .normal, _, W' => Spare O n1 W W' ∧ I n1 xs W'
  | .ret, _, W' => Spare O n1 W W' ∧ Ix n1 .ret xs W'
  | .exit id, _, W' => Spare O n1 W W' ∧ Ix n1 (.exit id) xs W'
  | .goto t, _, W' => Spare O n1 W W' ∧ Ix n1 (.goto t) xs W'
  | .panic _, _, _ => False
  | .outgrown, _, _ => False

theorem wpIn_rangeFunc_w {α : Type} {n : Nat} {P : Program} {g : Operand} {ps : Array Tmp} {assign body : Code} {Q : Exit → Act → World → Prop} {a : Act} {w : World}
    {gf : Nat} {lb : Array Value} (hg : a.eval g = .func (.func gf) #[] lb) (eg : ∀ args w, (callFunc gf args).run P w = .ok (.enter gf args) w)
    {encs : α → Array Value} (O : Nat → Prop) (hO : ∀ k, O k → k < w.heap.size) {S Sp : List α → Prop} {w0 : World}
    (hseq : SeqW (n - 1) P gf lb encs (fun k => O k ∨ k = w.heap.size + 1) S Sp w0) (hb0 : Below w0.heap.size w0 w) (hps : ∀ x, (encs x).size = ps.size)
    (I : Nat → List α → World → Prop) (Ix : Nat → Code → List α → World → Prop) (Ax : Nat → List α → α → Act → World → Prop)
    (hI : ∀ n1 pre A B, w.heap.size + 2 ≤ n1 → n1 ≤ A.heap.size → I n1 pre A → Priv w.heap.size n1 A B → I n1 pre B)
    (hIx : ∀ n1 c pre A B, w.heap.size + 2 ≤ n1 → n1 ≤ A.heap.size → Ix n1 c pre A → Priv w.heap.size n1 A B → Ix n1 c pre B)
    (hAx : ∀ n1 pre x a' A B, w.heap.size + 2 ≤ n1 → n1 ≤ A.heap.size → Ax n1 pre x a' A → Priv w.heap.size n1 A B → Ax n1 pre x a' B)
    (h0 : ∀ n1 W1, Below w.heap.size w W1 → n1 = W1.heap.size → w.heap.size + 2 ≤ n1 → I n1 [] W1)
    (hassign : ∀ (l n1 : Nat) (pre : List α) (x : α) (W : World), w.heap.size + 2 ≤ n1 → n1 ≤ W.heap.size → Sp (pre ++ [x]) → I n1 pre W →
      assign.wpIn (Fence.wide.inRound l) (n - 1 - 1) P (Exit.then (fun a' W' => I n1 pre W' ∧ Ax n1 pre x a' W' ∧ Below W.heap.size W W') (fun _ _ _ => False)) { tmps := (ps.zip (encs x)).foldl (fun t (p, v) => t.setIfInBounds p v) a.tmps, defers := [] } W)
    (hbody : ∀ (l n1 : Nat) (pre : List α) (x : α) (a' : Act) (W : World), l = w.heap.size + 1 → w.heap.size + 2 ≤ n1 → n1 ≤ W.heap.size → Sp (pre ++ [x]) → I n1 pre W → Ax n1 pre x a' W → body.wpIn (Fence.wide.inRound l) (n - 1 - 1) P (postW O n1 I Ix (pre ++ [x]) W) a' W)
    (hdone : ∀ (D n1 : Nat) (xs : List α) (W : World), D = w.heap.size → w.heap.size + 2 ≤ n1 → n1 ≤ W.heap.size → S xs → I n1 xs W → W.heap[D]? = some (.deferred (some [])) → Q .normal { a with defers := { target := .collected D, args := #[] } :: a.defers } W)
    (hstop : ∀ (D n1 : Nat) (c : Code) (pre : List α) (W : World), D = w.heap.size → w.heap.size + 2 ≤ n1 → n1 ≤ W.heap.size → Sp pre → Ix n1 c pre W → W.heap[D]? = some (.deferred (some [])) → c.wpIn Fence.wide n P Q { a with defers := { target := .collected D, args := #[] } :: a.defers } W) :
    (Code.rangeFunc g ps assign body).wpIn Fence.wide n P Q a w := by
  refine wpIn_rangeFunc ?_
  intro fn hfn
  obtain ⟨rec, hrec⟩ : ∃ rec : LoopState → Option Code → Loop, rec = fun st pe => { state := st, pending := pe, fn, tmps := a.tmps, params := ps, assign, body, defers := w.heap.size } := ⟨_, rfl⟩
  obtain ⟨W1, hW1⟩ : ∃ W1, (w.alloc (.deferred (some []))).alloc (.loop (rec .ready none)) = W1 := ⟨_, rfl⟩
  have hs1 : W1.heap.size = w.heap.size + 2 := by rw [← hW1]; simp
  have hL1 : W1.heap[w.heap.size + 1]? = some (.loop (rec .ready none)) := by
    rw [← hW1]; have := World.alloc_heap_new (w.alloc (.deferred (some []))) (.loop (rec .ready none)); rwa [World.size_alloc] at this
  have hK1 : W1.heap[w.heap.size]? = some (.deferred (some [])) := by
    rw [← hW1]; exact (Below.heap_alloc _ _ _ (by simp)).trans (World.alloc_heap_new w _)
  have hwW : Below w.heap.size w W1 := by rw [← hW1]; exact ((Below.refl _ w).alloc (Nat.le_refl _) _).alloc (by simp) _
  have hb1 : Below w0.heap.size w0 W1 := hb0.trans (hwW.mono hb0.size)
  refine ⟨w.heap.size + 1, [{ target := .collected w.heap.size, args := #[] }], W1, { target := .fn (.func gf) lb, args := #[.func (.yield (w.heap.size + 1)) #[] #[]] }, W1, gf,
    #[.func (.yield (w.heap.size + 1)) #[] #[]] ++ lb, W1, ?_, ?_, fun _ _ => trivial, ?_, (fun h => by cases h), ?_⟩
  · rw [← hW1, hrec]; exact run_enterLoop_outer _ _ _ _ _
  · simp only [resolve, hg]
    simp [go_sem]
  · simp [invoke, go_sem, eg]
  · refine (hseq (w.heap.size + 1)
      (fun n1 pre W => I n1 pre W ∧ W.heap[w.heap.size + 1]? = some (.loop (rec .ready none)) ∧ W.heap[w.heap.size]? = some (.deferred (some [])))
      (fun n1 pre W => ∃ c, Ix n1 c pre W ∧ W.heap[w.heap.size + 1]? = some (.loop (rec .done (some c))) ∧ W.heap[w.heap.size]? = some (.deferred (some [])))
      W1 hb1 (fun k hk => by rcases hk with hk | hk
                             · have := hO k hk; omega
                             · omega) ?_ ?_ ?_ ?_).mono ?_
    · rintro n1 pre A B hn hA ⟨hi, hl, hk⟩ hp
      refine ⟨hI n1 pre A B (by omega) hA hi (hp.mono (by omega) (Nat.le_refl _)), (hp.block _ (by omega) (.inl (by omega))).trans hl, (hp.block _ (by omega) (.inl (by omega))).trans hk⟩
    · rintro n1 pre A B hn hA ⟨c, hi, hl, hk⟩ hp
      refine ⟨c, hIx n1 c pre A B (by omega) hA hi (hp.mono (by omega) (Nat.le_refl _)), (hp.block _ (by omega) (.inl (by omega))).trans hl, (hp.block _ (by omega) (.inl (by omega))).trans hk⟩
    · -- one round
      rintro n1 pre x W hn hsz hspx ⟨hi, hl, hk⟩
      have hy := run_yield (P := P) (args := encs x) hl (by rw [hrec]; exact hps x)
      rw [hrec] at hy
      refine ⟨fn, _, assign, body, hy, roundIn_of_wpIn hfn ?_⟩
      refine wpIn_mono (hassign (w.heap.size + 1) n1 pre x W (by omega) hsz hspx hi) ?_
      rintro e a' W' hp
      cases e with
      | normal =>
        obtain ⟨hi', hax, hbel⟩ := hp
        have hl' : W'.heap[w.heap.size + 1]? = some (.loop (rec .ready none)) := (hbel.block _ (by omega)).trans hl
        have hk' : W'.heap[w.heap.size]? = some (.deferred (some [])) := (hbel.block _ (by omega)).trans hk
        have hsz' : n1 ≤ W'.heap.size := Nat.le_trans hsz hbel.size
        refine ⟨_, run_beginRound hl' (by rw [hrec]), ?_⟩
        have hpr : Priv w.heap.size n1 W' (W'.putObj (w.heap.size + 1) (.loop { rec .ready none with state := .busy })) := Priv.putObj _ (by omega) (by omega) _
        have hl2 : (W'.putObj (w.heap.size + 1) (.loop { rec .ready none with state := .busy })).heap[w.heap.size + 1]? = some (.loop { rec .ready none with state := .busy }) := World.putObj_heap_same (by omega)
        have hk2 : (W'.putObj (w.heap.size + 1) (.loop { rec .ready none with state := .busy })).heap[w.heap.size]? = some (.deferred (some [])) := (World.putObj_heap_other (by omega)).trans hk'
        have hsp0 : Spare (fun k => O k ∨ k = w.heap.size + 1) n1 W (W'.putObj (w.heap.size + 1) (.loop { rec .ready none with state := .busy })) := (Spare.of_below (hbel.mono hsz)).putObj (.inr rfl) _
        refine wpIn_mono (hbody _ n1 pre x a' _ rfl (by omega) (by rw [World.putObj_size]; exact hsz') hspx (hI n1 pre _ _ (by omega) hsz' hi' hpr) (hAx n1 pre x a' _ _ (by omega) hsz' hax hpr)) ?_
        have fin : ∀ (jump : Option Code) (W3 : World), Spare O n1 (W'.putObj (w.heap.size + 1) (.loop { rec .ready none with state := .busy })) W3 →
            (Instr.endRound (w.heap.size + 1) jump).run P W3 = .ok (.bool jump.isNone) (W3.putObj (w.heap.size + 1) (.loop (rec (if jump.isNone then .ready else .done) jump))) ∧
            (W3.putObj (w.heap.size + 1) (.loop (rec (if jump.isNone then .ready else .done) jump))).heap[w.heap.size + 1]? = some (.loop (rec (if jump.isNone then .ready else .done) jump)) ∧
            (W3.putObj (w.heap.size + 1) (.loop (rec (if jump.isNone then .ready else .done) jump))).heap[w.heap.size]? = some (.deferred (some [])) ∧ n1 ≤ W3.heap.size ∧
            Spare (fun k => O k ∨ k = w.heap.size + 1) n1 W (W3.putObj (w.heap.size + 1) (.loop (rec (if jump.isNone then .ready else .done) jump))) := fun jump W3 hsp => by
          have hl3 := (hsp.block (w.heap.size + 1) (by omega) (fun e => by have := hO _ e; omega)).trans hl2
          have hk3 := (hsp.block w.heap.size (by omega) (fun e => by have := hO _ e; omega)).trans hk2
          have := run_endRound (P := P) jump hl3
          rw [hrec] at this ⊢
          have hz3 : n1 ≤ W3.heap.size := Nat.le_trans (by rw [World.putObj_size]; exact hsz') hsp.size
          rw [hrec] at hsp0 hsp
          exact ⟨this, World.putObj_heap_same (Array.getElem?_eq_some_iff.1 hl3).1, (World.putObj_heap_other (by omega)).trans hk3, hz3, (hsp0.trans (hsp.imp (fun k h => .inl h))).putObj (.inr rfl) _⟩
        rintro e a3 W3 hp3
        cases e with
        | normal =>
          obtain ⟨hsp, hi3⟩ := hp3
          obtain ⟨hr, hl4, hk4, hz3, hs4⟩ := fin none W3 hsp
          exact ⟨_, _, hr, .inl ⟨rfl, ⟨hI n1 _ _ _ (by omega) hz3 hi3 (Priv.putObj _ (by omega) (by omega) _), hl4, hk4⟩, hs4⟩⟩
        | ret =>
          obtain ⟨hsp, hi3⟩ := hp3
          obtain ⟨hr, hl4, hk4, hz3, hs4⟩ := fin (some .ret) W3 hsp
          exact ⟨_, _, hr, .inr ⟨rfl, ⟨.ret, hIx n1 _ _ _ _ (by omega) hz3 hi3 (Priv.putObj _ (by omega) (by omega) _), hl4, hk4⟩, hs4⟩⟩
        | exit id =>
          obtain ⟨hsp, hi3⟩ := hp3
          obtain ⟨hr, hl4, hk4, hz3, hs4⟩ := fin (some (.exit id)) W3 hsp
          exact ⟨_, _, hr, .inr ⟨rfl, ⟨.exit id, hIx n1 _ _ _ _ (by omega) hz3 hi3 (Priv.putObj _ (by omega) (by omega) _), hl4, hk4⟩, hs4⟩⟩
        | goto t =>
          obtain ⟨hsp, hi3⟩ := hp3
          obtain ⟨hr, hl4, hk4, hz3, hs4⟩ := fin (some (.goto t)) W3 hsp
          exact ⟨_, _, hr, .inr ⟨rfl, ⟨.goto t, hIx n1 _ _ _ _ (by omega) hz3 hi3 (Priv.putObj _ (by omega) (by omega) _), hl4, hk4⟩, hs4⟩⟩
        | panic ch => exact hp3.elim
        | outgrown => exact hp3.elim
      | ret => exact hp.elim
      | exit id => exact hp.elim
      | goto t => exact hp.elim
      | panic ch => exact hp.elim
      | outgrown => exact hp.elim
    · intro W2 hb2
      have h2 : Below w.heap.size w W2 := hwW.trans (hb2.mono (by omega))
      exact ⟨h0 _ W2 h2 rfl (by have := hb2.size; omega), (hb2.block _ (by omega)).trans hL1, (hb2.block _ (by omega)).trans hK1⟩
    · -- behind the iterator
      rintro e W2 ⟨⟨v, rfl⟩, n1, hn, hz, (⟨xs, hS, hi, hl, hk⟩ | ⟨pre, hSp, c, hi, hl, hk⟩)⟩
      · refine ⟨none, _, by have := run_endLoop (P := P) hl (by rw [hrec]; simp); rw [hrec] at this; exact this, hdone _ n1 xs _ rfl (by omega) (by rw [World.putObj_size]; exact hz) hS (hI n1 _ _ _ (by omega) hz hi (Priv.putObj _ (by omega) (by omega) _)) ((World.putObj_heap_other (by omega)).trans hk)⟩
      · refine ⟨some c, _, by have := run_endLoop (P := P) hl (by rw [hrec]; simp); rw [hrec] at this; exact this, hstop _ n1 c pre _ rfl (by omega) (by rw [World.putObj_size]; exact hz) hSp (hIx n1 c _ _ _ (by omega) hz hi (Priv.putObj _ (by omega) (by omega) _)) ((World.putObj_heap_other (by omega)).trans hk)⟩
end Go.Proofs.YtdmicngnbcdkdaaDoor

namespace Go.Proofs.YtdmicngnbcdkdaaDoor
open Go Go.RowKit

section
variable {F : Fence} {n : Nat} {P : Program} {ops : Array Oper} {md : Region.Mode} {C : World → Prop}

def noDefer (ops : List Oper) : Bool := ops.all fun o => match o.op with | .defer _ => false | _ => true
def NoDefer (ops : Array Oper) : Prop := ∀ (i : Nat) (o : Oper), ops[i]? = some o → ∀ c, o.op ≠ .defer c
theorem noDefer_spec {l : List Oper} (h : noDefer l = true) : NoDefer l.toArray := by
  intro i o hi c hc
  have hm : o ∈ l := by
    have : l[i]? = some o := by simpa using hi
    exact List.mem_of_getElem? this
  have := List.all_eq_true.1 h o hm
  rw [hc] at this
  cases this

theorem wpIn_of_quiet_r {o : Oper} {a : Act} {K : Act → Prop} {K' : Act → World → Prop} {Q' : Exit → Act → World → Prop} {w : World} (hd0 : ∀ c, o.op ≠ .defer c) (hw : C w) (h : ∀ a w', C w' → K a → K' a w')
    (ha : o.askedIn F P a C) (hh : o.quietIn F n P a C K) : o.wpIn F n P a w K' Q' := by
  obtain ⟨v, h1, h2⟩ := hh
  have h3 := h1 w hw
  unfold Oper.quietAtIn at h3
  unfold Oper.wpIn
  refine ⟨ha w hw, ?_⟩
  rw [Oper.semAt_plain F _ _ hd0]
  generalize (execOp a.eval o).run P w = r at *
  cases r with
  | ok x w' =>
    cases x <;> simp only [Oper.quietUponIn] at h3 <;> simp only [Oper.uponIn]
    case value u =>
      obtain ⟨e1, e2⟩ := h3
      rw [e1, e2]
      exact h _ _ hw h2
    case skip =>
      obtain ⟨e1, e2⟩ := h3
      rw [e1, ← e2]
      exact h _ _ hw h2
    case enter f args =>
      obtain ⟨e1, hd, hc⟩ := h3
      rw [e1]
      exact ⟨hd, hc.mono fun e w'' ⟨he, hw''⟩ => by subst he; exact h _ _ hw'' h2⟩
  | halt x w' => simp only [Oper.quietUponIn] at h3

theorem wpOpIn_of_qOpIn_r {i : Nat} {a : Act} {K : Act → Prop} {K' : Act → World → Prop} {Q' : Exit → Act → World → Prop} {w : World} (hnd : NoDefer ops) (hC : C w) (h : ∀ a w', C w' → K a → K' a w')
    (hh : qOpIn F n P ops C i K a) : wpOpIn F n P ops Q' i K' a w := by
  unfold qOpIn at hh
  unfold wpOpIn
  split
  · rename_i ho; simp only [ho] at hh; exact h _ _ hC hh
  · rename_i o ho
    simp only [ho] at hh
    obtain ⟨ha, hh⟩ := hh
    split
    · rename_i hw; simp only [hw, if_true] at hh; exact wpIn_of_quiet_r (hnd i o ho) hC h ha hh
    · rename_i hw; simp only [hw] at hh; exact ⟨ha w hC, h _ _ hC hh⟩

theorem wpAnyIn_of_quiet_r {Q : Act → Prop} {Q' : Exit → Act → World → Prop} (hnd : NoDefer ops) (hQ : ∀ a w, C w → Q a → Q' .normal a w) : ∀ (fuel : Nat) (listed : Array Bool) (a : Act) (w : World), C w →
    wpAnyQIn F n P md ops C Q fuel listed a → wpAnyIn F n P md ops Q' fuel listed a w
  | 0, _, _, _, hw, h => ⟨h.1, hQ _ _ hw h.2⟩
  | fuel + 1, _, _, _, hw, h => ⟨fun h0 => hQ _ _ hw (h.1 h0), fun i hi => wpOpIn_of_qOpIn_r hnd hw (fun a' w' hw' => wpAnyIn_of_quiet_r hnd hQ fuel _ a' w' hw') (h.2 i hi)⟩

theorem wpIn_region_quiet_r {id : Nat} {Q : Exit → Act → World → Prop} {a : Act} {w : World} (hnd : NoDefer ops) (hm : P.follows .mixedOrders = true) (hB : Region.lexB .any ops = true) (hC : C { w with drawn := w.drawn + 1 })
    (h : wpQuietIn F n P ops C (fun a' => ∀ w', C w' → Q .normal a' w') ops.toList a) : (Code.region id ops true).wpIn F n P Q a w := by
  simp only [Region.lexB, Bool.and_eq_true] at hB
  refine wpIn_region_any hm (wpAnyIn_of_quiet_r (Q := fun a' => ∀ w', C w' → Q .normal a' w') hnd (fun _ w' hw' h => h w' hw') _ _ _ _ hC ?_)
  have := wpAnyQIn_lex (F := F) (n := n) (C := C) (md := .any) hB.1 ops.toList 0 (Array.replicate ops.size false) a (by simp) (by simpa using hB.2) h
  simpa using this

end

/-- The region's operations written out, at the class of the worlds grown beyond this one. -/
theorem wpIn_region_ext {F : Fence} {n : Nat} {P : Program} {id : Nat} {Q : Exit → Act → World → Prop} {a : Act} {w : World} {l : List Oper} (hnd : noDefer l = true) (hm : P.follows .mixedOrders = true) (hB : Region.lexB .any l.toArray = true)
    (h : wpQuietIn F n P l.toArray (fun w' => ∃ x, w' = ext w x) (fun a' => ∀ w', (∃ x, w' = ext w x) → Q .normal a' w') l a) : (Code.region id l.toArray true).wpIn F n P Q a w :=
  wpIn_region_quiet_r (C := fun w' => ∃ x, w' = ext w x) (noDefer_spec hnd) hm hB (ext_of (Below.drew (Below.refl _ _))) (by simpa using h)
end Go.Proofs.YtdmicngnbcdkdaaDoor

namespace Go.Proofs.YtdmicngnbcdkdaaDoor
open Go Go.RowKit

/-- Of what lay, only blocks of M may have turned. -/
structure PrivM (M : Nat → Prop) (W W' : World) : Prop where
  os : W'.os = W.os
  tape : W'.tape = W.tape
  output : W'.output = W.output
  size : W.heap.size ≤ W'.heap.size
  block : ∀ k, k < W.heap.size → ¬ M k → W'.heap[k]? = W.heap[k]?
/-- The blocks of K have not turned. -/
structure SpareM (K : Nat → Prop) (W W' : World) : Prop where
  os : W'.os = W.os
  tape : W'.tape = W.tape
  output : W'.output = W.output
  size : W.heap.size ≤ W'.heap.size
  block : ∀ k, K k → W'.heap[k]? = W.heap[k]?
theorem PrivM.refl (M : Nat → Prop) (W : World) : PrivM M W W := ⟨rfl, rfl, rfl, Nat.le_refl _, fun _ _ _ => rfl⟩
theorem PrivM.trans {M : Nat → Prop} {A B C : World} (h : PrivM M A B) (k : PrivM M B C) : PrivM M A C :=
  ⟨k.os.trans h.os, k.tape.trans h.tape, k.output.trans h.output, Nat.le_trans h.size k.size, fun i hi hn => (k.block i (Nat.lt_of_lt_of_le hi h.size) hn).trans (h.block i hi hn)⟩
theorem PrivM.mono {M M' : Nat → Prop} {A B : World} (h : PrivM M A B) (hm : ∀ k, M k → M' k) : PrivM M' A B := ⟨h.os, h.tape, h.output, h.size, fun k hk hn => h.block k hk (fun e => hn (hm k e))⟩
theorem PrivM.of_below {M : Nat → Prop} {A B : World} (h : Below A.heap.size A B) : PrivM M A B := ⟨h.os, h.tape, h.output, h.size, fun k hk _ => h.block k hk⟩
theorem PrivM.setCell {M : Nat → Prop} (W : World) {b : Nat} (h : M b) (o : Nat) (v : Value) : PrivM M W (W.setCell ⟨b, o, none⟩ v) :=
  ⟨rfl, rfl, rfl, by simp, fun k hk hn => Below.heap_setCell W ⟨b, o, none⟩ v k (by rintro rfl; exact hn h)⟩
theorem PrivM.putObj {M : Nat → Prop} (W : World) {b : Nat} (h : M b) (o : Obj) : PrivM M W (W.putObj b o) :=
  ⟨rfl, rfl, rfl, by simp, fun k hk hn => World.putObj_heap_other (by rintro rfl; exact hn h)⟩
theorem PrivM.of_priv {n0 n1 : Nat} {A B : World} (h : Priv n0 n1 A B) : PrivM (fun k => n0 ≤ k ∧ k < n1) A B :=
  ⟨h.os, h.tape, h.output, h.size, fun k hk hn => h.block k hk (by omega)⟩
theorem SpareM.refl (K : Nat → Prop) (W : World) : SpareM K W W := ⟨rfl, rfl, rfl, Nat.le_refl _, fun _ _ => rfl⟩
theorem SpareM.trans {K : Nat → Prop} {A B C : World} (h : SpareM K A B) (k : SpareM K B C) : SpareM K A C :=
  ⟨k.os.trans h.os, k.tape.trans h.tape, k.output.trans h.output, Nat.le_trans h.size k.size, fun i hi => (k.block i hi).trans (h.block i hi)⟩
theorem SpareM.imp {K K' : Nat → Prop} {A B : World} (h : SpareM K A B) (hk : ∀ k, K' k → K k) : SpareM K' A B := ⟨h.os, h.tape, h.output, h.size, fun k hk' => h.block k (hk k hk')⟩
theorem SpareM.of_below {K : Nat → Prop} {A B : World} (h : Below A.heap.size A B) (hk : ∀ k, K k → k < A.heap.size) : SpareM K A B := ⟨h.os, h.tape, h.output, h.size, fun k hk' => h.block k (hk k hk')⟩
theorem SpareM.setCell {K : Nat → Prop} (W : World) {b : Nat} (h : ¬ K b) (o : Nat) (v : Value) : SpareM K W (W.setCell ⟨b, o, none⟩ v) :=
  ⟨rfl, rfl, rfl, by simp, fun k hk => Below.heap_setCell W ⟨b, o, none⟩ v k (by rintro rfl; exact h hk)⟩
theorem SpareM.putObj {K : Nat → Prop} (W : World) {b : Nat} (h : ¬ K b) (o : Obj) : SpareM K W (W.putObj b o) :=
  ⟨rfl, rfl, rfl, by simp, fun k hk => World.putObj_heap_other (by rintro rfl; exact h hk)⟩

/-- What a body's relation must abide: that the iterator's blocks turn, and that what it makes becomes its own. -/
def StableM {α : Type} (X : Nat → Prop) (J : (Nat → Prop) → List α → World → Prop) : Prop :=
  ∀ M M' pre A B, J M pre A → PrivM (fun k => M k ∨ X k) A B → (∀ k, M' k → M k ∨ A.heap.size ≤ k) → J M' pre B

/-- The iterator's contract. O: the blocks below the caller's that a body may turn. -/
def SeqM {α : Type} (P : Program) (g : Nat) (lb : Array Value) (encs : α → Array Value) (O : Nat → Prop) (S Sp : List α → Prop) (w : World) : Prop :=
  ∀ (n l : Nat) (J Jx : (Nat → Prop) → List α → World → Prop) (W : World), Below w.heap.size w W → (∀ k, O k → k < W.heap.size) →
    StableM (fun _ => False) J → StableM (fun _ => False) Jx →
    (∀ m M pre x A, (∀ k, M k → W.heap.size ≤ k ∧ k < A.heap.size) → W.heap.size ≤ A.heap.size → Sp (pre ++ [x]) → J M pre A → YieldAt Fence.wide m P l (encs x) A fun e B =>
      (e = .returned (.bool true) ∧ J M (pre ++ [x]) B ∧ SpareM (fun k => (k < W.heap.size ∧ ¬ O k) ∨ M k) A B) ∨ (e = .returned (.bool false) ∧ Jx M (pre ++ [x]) B ∧ SpareM (fun k => (k < W.heap.size ∧ ¬ O k) ∨ M k) A B)) →
    J (fun _ => False) [] W →
    CallsIn Fence.wide n P g (#[.func (.yield l) #[] #[]] ++ lb) W fun e W' => (∃ v, e = .returned v) ∧ W.heap.size ≤ W'.heap.size ∧
      ((∃ xs, S xs ∧ J (fun _ => False) xs W') ∨ (∃ pre, Sp pre ∧ Jx (fun _ => False) pre W'))

def postM {α : Type} (K : Nat → Prop) (I : List α → World → Prop) (Ix : Code → List α → World → Prop) (xs : List α) (W : World) : Exit → Act → World → Prop
  | .normal, _, W' => SpareM K W W' ∧ I xs W'
  | .ret, _, W' => SpareM K W W' ∧ Ix .ret xs W'
  | .exit id, _, W' => SpareM K W W' ∧ Ix (.exit id) xs W'
  | .goto t, _, W' => SpareM K W W' ∧ Ix (.goto t) xs W'
  | .panic _, _, _ => False
  | .outgrown, _, _ => False

/-- What may not turn in a body's round, of a range that began in w. -/
def KeepM (O : Nat → Prop) (n0 : Nat) (M : Nat → Prop) (k : Nat) : Prop := (k < n0 + 2 ∧ ¬ O k) ∨ M k

theorem wpIn_rangeFunc_m {α : Type} {n : Nat} {P : Program} {g : Operand} {ps : Array Tmp} {assign body : Code} {Q : Exit → Act → World → Prop} {a : Act} {w : World}
    {gf : Nat} {lb : Array Value} (hg : a.eval g = .func (.func gf) #[] lb) (eg : ∀ args w, (callFunc gf args).run P w = .ok (.enter gf args) w)
    {encs : α → Array Value} (O : Nat → Prop) (hO : ∀ k, O k → k < w.heap.size) {S Sp : List α → Prop} {w0 : World}
    (hseq : SeqM P gf lb encs (fun k => O k ∨ k = w.heap.size + 1) S Sp w0) (hb0 : Below w0.heap.size w0 w) (hps : ∀ x, (encs x).size = ps.size)
    (I : (Nat → Prop) → List α → World → Prop) (Ix : (Nat → Prop) → Code → List α → World → Prop) (Ax : (Nat → Prop) → List α → α → Act → World → Prop)
    (hI : StableM (fun k => k = w.heap.size + 1) I) (hIx : ∀ c, StableM (fun k => k = w.heap.size + 1) (fun M => Ix M c))
    (hAx : ∀ M pre x a' A B, Ax M pre x a' A → PrivM (fun k => M k ∨ k = w.heap.size + 1) A B → Ax M pre x a' B)
    (h0 : ∀ W1, Below w.heap.size w W1 → W1.heap.size = w.heap.size + 2 → I (fun _ => False) [] W1)
    (hassign : ∀ (m l : Nat) (M : Nat → Prop) (pre : List α) (x : α) (W : World), (∀ k, M k → w.heap.size + 2 ≤ k ∧ k < W.heap.size) → w.heap.size + 2 ≤ W.heap.size → Sp (pre ++ [x]) → I M pre W →
      assign.wpIn (Fence.wide.inRound l) m P (Exit.then (fun a' W' => I M pre W' ∧ Ax M pre x a' W' ∧ Below W.heap.size W W') (fun _ _ _ => False)) { tmps := (ps.zip (encs x)).foldl (fun t (p, v) => t.setIfInBounds p v) a.tmps, defers := [] } W)
    (hbody : ∀ (m l : Nat) (M : Nat → Prop) (pre : List α) (x : α) (a' : Act) (W : World), l = w.heap.size + 1 → (∀ k, M k → w.heap.size + 2 ≤ k ∧ k < W.heap.size) → w.heap.size + 2 ≤ W.heap.size → Sp (pre ++ [x]) → I M pre W → Ax M pre x a' W →
      body.wpIn (Fence.wide.inRound l) m P (postM (KeepM O w.heap.size M) (I M) (Ix M) (pre ++ [x]) W) a' W)
    (hdone : ∀ (D : Nat) (xs : List α) (W : World), D = w.heap.size → w.heap.size + 2 ≤ W.heap.size → S xs → I (fun _ => False) xs W → W.heap[D]? = some (.deferred (some [])) → Q .normal { a with defers := { target := .collected D, args := #[] } :: a.defers } W)
    (hstop : ∀ (D : Nat) (c : Code) (pre : List α) (W : World), D = w.heap.size → w.heap.size + 2 ≤ W.heap.size → Sp pre → Ix (fun _ => False) c pre W → W.heap[D]? = some (.deferred (some [])) → c.wpIn Fence.wide n P Q { a with defers := { target := .collected D, args := #[] } :: a.defers } W) :
    (Code.rangeFunc g ps assign body).wpIn Fence.wide n P Q a w := by
  refine wpIn_rangeFunc ?_
  intro fn hfn
  obtain ⟨rec, hrec⟩ : ∃ rec : LoopState → Option Code → Loop, rec = fun st pe => { state := st, pending := pe, fn, tmps := a.tmps, params := ps, assign, body, defers := w.heap.size } := ⟨_, rfl⟩
  obtain ⟨W1, hW1⟩ : ∃ W1, (w.alloc (.deferred (some []))).alloc (.loop (rec .ready none)) = W1 := ⟨_, rfl⟩
  have hs1 : W1.heap.size = w.heap.size + 2 := by rw [← hW1]; simp
  have hL1 : W1.heap[w.heap.size + 1]? = some (.loop (rec .ready none)) := by
    rw [← hW1]; have := World.alloc_heap_new (w.alloc (.deferred (some []))) (.loop (rec .ready none)); rwa [World.size_alloc] at this
  have hK1 : W1.heap[w.heap.size]? = some (.deferred (some [])) := by
    rw [← hW1]; exact (Below.heap_alloc _ _ _ (by simp)).trans (World.alloc_heap_new w _)
  have hwW : Below w.heap.size w W1 := by rw [← hW1]; exact ((Below.refl _ w).alloc (Nat.le_refl _) _).alloc (by simp) _
  have hb1 : Below w0.heap.size w0 W1 := hb0.trans (hwW.mono hb0.size)
  refine ⟨w.heap.size + 1, [{ target := .collected w.heap.size, args := #[] }], W1, { target := .fn (.func gf) lb, args := #[.func (.yield (w.heap.size + 1)) #[] #[]] }, W1, gf,
    #[.func (.yield (w.heap.size + 1)) #[] #[]] ++ lb, W1, ?_, ?_, fun _ _ => trivial, ?_, (fun h => by cases h), ?_⟩
  · rw [← hW1, hrec]; exact run_enterLoop_outer _ _ _ _ _
  · simp only [resolve, hg]
    simp [go_sem]
  · simp [invoke, go_sem, eg]
  · refine (hseq (n - 1) (w.heap.size + 1)
      (fun M pre W => I M pre W ∧ (¬ M (w.heap.size + 1) ∧ ¬ M w.heap.size) ∧ w.heap.size + 2 ≤ W.heap.size ∧ W.heap[w.heap.size + 1]? = some (.loop (rec .ready none)) ∧ W.heap[w.heap.size]? = some (.deferred (some [])))
      (fun M pre W => ∃ c, Ix M c pre W ∧ (¬ M (w.heap.size + 1) ∧ ¬ M w.heap.size) ∧ w.heap.size + 2 ≤ W.heap.size ∧ W.heap[w.heap.size + 1]? = some (.loop (rec .done (some c))) ∧ W.heap[w.heap.size]? = some (.deferred (some [])))
      W1 hb1 (fun k hk => by rcases hk with hk | hk
                             · have := hO k hk; omega
                             · omega) ?_ ?_ ?_ ?_).mono ?_
    · rintro M M' pre A B ⟨hi, hm, hz, hl, hk⟩ hp hM
      refine ⟨hI M M' pre A B hi (hp.mono (by rintro k (h | h); exact .inl h; exact h.elim)) hM, ⟨fun h => ?_, fun h => ?_⟩, Nat.le_trans hz hp.size, (hp.block _ (by omega) (fun h => ?_)).trans hl, (hp.block _ (by omega) (fun h => ?_)).trans hk⟩
      · rcases hM _ h with h | h
        · exact hm.1 h
        · omega
      · rcases hM _ h with h | h
        · exact hm.2 h
        · omega
      · rcases h with h | h
        · exact hm.1 h
        · exact h
      · rcases h with h | h
        · exact hm.2 h
        · exact h
    · rintro M M' pre A B ⟨c, hi, hm, hz, hl, hk⟩ hp hM
      refine ⟨c, hIx c M M' pre A B hi (hp.mono (by rintro k (h | h); exact .inl h; exact h.elim)) hM, ⟨fun h => ?_, fun h => ?_⟩, Nat.le_trans hz hp.size, (hp.block _ (by omega) (fun h => ?_)).trans hl, (hp.block _ (by omega) (fun h => ?_)).trans hk⟩
      · rcases hM _ h with h | h
        · exact hm.1 h
        · omega
      · rcases hM _ h with h | h
        · exact hm.2 h
        · omega
      · rcases h with h | h
        · exact hm.1 h
        · exact h
      · rcases h with h | h
        · exact hm.2 h
        · exact h
    · -- one round
      rintro m M pre x W hM hsz hspx ⟨hi, hm, hz, hl, hk⟩
      rw [hs1] at hM hsz
      have hy := run_yield (P := P) (args := encs x) hl (by rw [hrec]; exact hps x)
      rw [hrec] at hy
      refine ⟨fn, _, assign, body, hy, roundIn_of_wpIn hfn ?_⟩
      refine wpIn_mono (hassign _ (w.heap.size + 1) M pre x W hM hsz hspx hi) ?_
      rintro e a' W' hp
      cases e with
      | normal =>
        obtain ⟨hi', hax, hbel⟩ := hp
        have hl' : W'.heap[w.heap.size + 1]? = some (.loop (rec .ready none)) := (hbel.block _ (by omega)).trans hl
        have hk' : W'.heap[w.heap.size]? = some (.deferred (some [])) := (hbel.block _ (by omega)).trans hk
        have hsz' : w.heap.size + 2 ≤ W'.heap.size := Nat.le_trans hsz hbel.size
        refine ⟨_, run_beginRound hl' (by rw [hrec]), ?_⟩
        have hpr : PrivM (fun k => M k ∨ k = w.heap.size + 1) W' (W'.putObj (w.heap.size + 1) (.loop { rec .ready none with state := .busy })) := PrivM.putObj _ (.inr rfl) _
        have hl2 : (W'.putObj (w.heap.size + 1) (.loop { rec .ready none with state := .busy })).heap[w.heap.size + 1]? = some (.loop { rec .ready none with state := .busy }) := World.putObj_heap_same (by omega)
        have hk2 : (W'.putObj (w.heap.size + 1) (.loop { rec .ready none with state := .busy })).heap[w.heap.size]? = some (.deferred (some [])) := (World.putObj_heap_other (by omega)).trans hk'
        have hkeep : ∀ k, (k < W1.heap.size ∧ ¬ (O k ∨ k = w.heap.size + 1)) ∨ M k → k < W.heap.size ∧ k ≠ w.heap.size + 1 := fun k hk => by
          rcases hk with ⟨h1, h2⟩ | h
          · exact ⟨by omega, fun e => h2 (.inr e)⟩
          · exact ⟨(hM k h).2, fun e => hm.1 (e ▸ h)⟩
        have hsp0 : SpareM (fun k => (k < W1.heap.size ∧ ¬ (O k ∨ k = w.heap.size + 1)) ∨ M k) W (W'.putObj (w.heap.size + 1) (.loop { rec .ready none with state := .busy })) :=
          (SpareM.of_below hbel (fun k hk => (hkeep k hk).1)).trans (SpareM.putObj _ (fun h => (hkeep _ h).2 rfl) _)
        have hM' : ∀ k, M k → w.heap.size + 2 ≤ k ∧ k < (W'.putObj (w.heap.size + 1) (.loop { rec .ready none with state := .busy })).heap.size := fun k hk => by
          have := hM k hk
          have := hbel.size
          rw [World.putObj_size]; omega
        refine wpIn_mono (hbody _ _ M pre x a' _ rfl hM' (by rw [World.putObj_size]; exact hsz') hspx (hI M M pre _ _ hi' hpr (fun k h => .inl h)) (hAx M pre x a' _ _ hax hpr)) ?_
        have fin : ∀ (jump : Option Code) (W3 : World), SpareM (KeepM O w.heap.size M) (W'.putObj (w.heap.size + 1) (.loop { rec .ready none with state := .busy })) W3 →
            (Instr.endRound (w.heap.size + 1) jump).run P W3 = .ok (.bool jump.isNone) (W3.putObj (w.heap.size + 1) (.loop (rec (if jump.isNone then .ready else .done) jump))) ∧
            (W3.putObj (w.heap.size + 1) (.loop (rec (if jump.isNone then .ready else .done) jump))).heap[w.heap.size + 1]? = some (.loop (rec (if jump.isNone then .ready else .done) jump)) ∧
            (W3.putObj (w.heap.size + 1) (.loop (rec (if jump.isNone then .ready else .done) jump))).heap[w.heap.size]? = some (.deferred (some [])) ∧ w.heap.size + 2 ≤ W3.heap.size ∧
            SpareM (fun k => (k < W1.heap.size ∧ ¬ (O k ∨ k = w.heap.size + 1)) ∨ M k) W (W3.putObj (w.heap.size + 1) (.loop (rec (if jump.isNone then .ready else .done) jump))) := fun jump W3 hsp => by
          have hl3 := (hsp.block (w.heap.size + 1) (.inl ⟨by omega, fun e => by have := hO _ e; omega⟩)).trans hl2
          have hk3 := (hsp.block w.heap.size (.inl ⟨by omega, fun e => by have := hO _ e; omega⟩)).trans hk2
          have := run_endRound (P := P) jump hl3
          rw [hrec] at this ⊢
          have hz3 : w.heap.size + 2 ≤ W3.heap.size := Nat.le_trans (by rw [World.putObj_size]; exact hsz') hsp.size
          rw [hrec] at hsp0 hsp
          refine ⟨this, World.putObj_heap_same (Array.getElem?_eq_some_iff.1 hl3).1, (World.putObj_heap_other (by omega)).trans hk3, hz3, (hsp0.trans (hsp.imp (fun k h => ?_))).trans (SpareM.putObj _ (fun h => (hkeep _ h).2 rfl) _)⟩
          rcases h with ⟨h1, h2⟩ | h
          · exact .inl ⟨by omega, fun e => h2 (.inl e)⟩
          · exact .inr h
        rintro e a3 W3 hp3
        cases e with
        | normal =>
          obtain ⟨hsp, hi3⟩ := hp3
          obtain ⟨hr, hl4, hk4, hz3, hs4⟩ := fin none W3 hsp
          exact ⟨_, _, hr, .inl ⟨rfl, ⟨hI M M _ _ _ hi3 (PrivM.putObj _ (.inr rfl) _) (fun k h => .inl h), hm, by rw [World.putObj_size]; exact hz3, hl4, hk4⟩, hs4⟩⟩
        | ret =>
          obtain ⟨hsp, hi3⟩ := hp3
          obtain ⟨hr, hl4, hk4, hz3, hs4⟩ := fin (some .ret) W3 hsp
          exact ⟨_, _, hr, .inr ⟨rfl, ⟨.ret, hIx _ M M _ _ _ hi3 (PrivM.putObj _ (.inr rfl) _) (fun k h => .inl h), hm, by rw [World.putObj_size]; exact hz3, hl4, hk4⟩, hs4⟩⟩
        | exit id =>
          obtain ⟨hsp, hi3⟩ := hp3
          obtain ⟨hr, hl4, hk4, hz3, hs4⟩ := fin (some (.exit id)) W3 hsp
          exact ⟨_, _, hr, .inr ⟨rfl, ⟨.exit id, hIx _ M M _ _ _ hi3 (PrivM.putObj _ (.inr rfl) _) (fun k h => .inl h), hm, by rw [World.putObj_size]; exact hz3, hl4, hk4⟩, hs4⟩⟩
        | goto t =>
          obtain ⟨hsp, hi3⟩ := hp3
          obtain ⟨hr, hl4, hk4, hz3, hs4⟩ := fin (some (.goto t)) W3 hsp
          exact ⟨_, _, hr, .inr ⟨rfl, ⟨.goto t, hIx _ M M _ _ _ hi3 (PrivM.putObj _ (.inr rfl) _) (fun k h => .inl h), hm, by rw [World.putObj_size]; exact hz3, hl4, hk4⟩, hs4⟩⟩
        | panic ch => exact hp3.elim
        | outgrown => exact hp3.elim
      | ret => exact hp.elim
      | exit id => exact hp.elim
      | goto t => exact hp.elim
      | panic ch => exact hp.elim
      | outgrown => exact hp.elim
    · exact ⟨h0 W1 hwW hs1, ⟨fun h => h, fun h => h⟩, by omega, hL1, hK1⟩
    · -- behind the iterator
      rintro e W2 ⟨⟨v, rfl⟩, hz0, (⟨xs, hS, hi, hm, hz, hl, hk⟩ | ⟨pre, hSp, c, hi, hm, hz, hl, hk⟩)⟩
      · exact ⟨none, _, by have := run_endLoop (P := P) hl (by rw [hrec]; simp); rw [hrec] at this; exact this,
          hdone _ xs _ rfl (by rw [World.putObj_size]; exact hz) hS (hI _ _ _ _ _ hi (PrivM.putObj _ (.inr rfl) _) (fun k h => h.elim)) ((World.putObj_heap_other (by omega)).trans hk)⟩
      · exact ⟨some c, _, by have := run_endLoop (P := P) hl (by rw [hrec]; simp); rw [hrec] at this; exact this,
          hstop _ c pre _ rfl (by rw [World.putObj_size]; exact hz) hSp (hIx c _ _ _ _ _ hi (PrivM.putObj _ (.inr rfl) _) (fun k h => h.elim)) ((World.putObj_heap_other (by omega)).trans hk)⟩
end Go.Proofs.YtdmicngnbcdkdaaDoor

namespace Go.Proofs.YtdmicngnbcdkdaaDoor

/-- Is a list before another one, compared element by element? -/
def lexB : List Int → List Int → Bool
  | [], [] => false
  | [], _ :: _ => true
  | _ :: _, [] => false
  | a :: l, b :: m => decide (a < b) || (decide (a = b) && lexB l m)
/-- Is a list better than another one? -/
def fewerB (l m : List Int) : Bool := decide (l.length < m.length) || (decide (l.length = m.length) && lexB l m)
theorem lexB_irrefl : ∀ l, lexB l l = false
  | [] => rfl
  | a :: l => by simp [lexB, lexB_irrefl l]
theorem lexB_trans : ∀ a b c, lexB a b = true → lexB b c = true → lexB a c = true
  | [], [], c, h, _ => by simp [lexB] at h
  | [], _ :: _, [], _, h => by simp [lexB] at h
  | [], _ :: _, _ :: _, _, _ => rfl
  | _ :: _, [], _, h, _ => by simp [lexB] at h
  | _ :: _, _ :: _, [], _, h => by simp [lexB] at h
  | x :: a, y :: b, z :: c, h, k => by
    simp only [lexB, Bool.or_eq_true, Bool.and_eq_true, decide_eq_true_eq] at h k ⊢
    rcases h with h | ⟨h, h'⟩ <;> rcases k with k | ⟨k, k'⟩
    · left; omega
    · left; omega
    · left; omega
    · right; exact ⟨by omega, lexB_trans a b c h' k'⟩
theorem lexB_total : ∀ a b, a.length = b.length → lexB a b = false → lexB b a = false → a = b
  | [], [], _, _, _ => rfl
  | [], _ :: _, h, _, _ => by simp at h
  | _ :: _, [], h, _, _ => by simp at h
  | x :: a, y :: b, hl, h, k => by
    simp only [lexB, Bool.or_eq_false_iff, Bool.and_eq_false_iff, decide_eq_false_iff_not] at h k
    have hxy : x = y := by omega
    subst hxy
    have h2 : lexB a b = false := by rcases h.2 with h | h; exact absurd rfl h; exact h
    have k2 : lexB b a = false := by rcases k.2 with h | h; exact absurd rfl h; exact h
    rw [lexB_total a b (by simpa using hl) h2 k2]
theorem fewerB_irrefl (l : List Int) : fewerB l l = false := by simp [fewerB, lexB_irrefl]
theorem fewerB_trans (a b c : List Int) (h : fewerB a b = true) (k : fewerB b c = true) : fewerB a c = true := by
  simp only [fewerB, Bool.or_eq_true, Bool.and_eq_true, decide_eq_true_eq] at h k ⊢
  rcases h with h | ⟨h, h'⟩ <;> rcases k with k | ⟨k, k'⟩
  · left; omega
  · left; omega
  · left; omega
  · right; exact ⟨by omega, lexB_trans a b c h' k'⟩
theorem fewerB_nil (l : List Int) : fewerB l [] = false := by cases l <;> simp [fewerB, lexB]
theorem fewerB_total {a b : List Int} (h : fewerB a b = false) (k : fewerB b a = false) : a = b := by
  simp only [fewerB, Bool.or_eq_false_iff, Bool.and_eq_false_iff, decide_eq_false_iff_not] at h k
  have hl : a.length = b.length := by omega
  refine lexB_total a b hl ?_ ?_
  · rcases h.2 with h | h
    · exact absurd hl h
    · exact h
  · rcases k.2 with h | h
    · exact absurd hl.symm h
    · exact h
/-- One list more is looked at. -/
def bestStep (best l : List Int) : List Int := if fewerB l best then l else best
def bestOf (best : List Int) (ls : List (List Int)) : List Int := ls.foldl bestStep best
theorem bestOf_nil (ls : List (List Int)) : bestOf [] ls = [] := by
  induction ls with
  | nil => rfl
  | cons l ls ih => simp only [bestOf, List.foldl_cons, bestStep, fewerB_nil]; exact ih
theorem bestOf_snoc (best : List Int) (ls : List (List Int)) (l : List Int) : bestOf best (ls ++ [l]) = bestStep (bestOf best ls) l := by simp [bestOf]
theorem bestOf_append (best : List Int) (ls ms : List (List Int)) : bestOf best (ls ++ ms) = bestOf (bestOf best ls) ms := by simp [bestOf]
theorem bestOf_mem (best : List Int) (ls : List (List Int)) : bestOf best ls = best ∨ bestOf best ls ∈ ls := by
  induction ls generalizing best with
  | nil => exact .inl rfl
  | cons l ls ih =>
    rw [show bestOf best (l :: ls) = bestOf (bestStep best l) ls from rfl]
    rcases ih (bestStep best l) with h | h
    · rw [h]; unfold bestStep; split
      · exact .inr (by simp)
      · exact .inl rfl
    · exact .inr (by simp [h])
theorem fewerB_step {best l m : List Int} (h : fewerB m (bestStep best l) = true) : fewerB m best = true := by
  unfold bestStep at h
  split at h
  · rename_i h'; exact fewerB_trans _ _ _ h h'
  · exact h
theorem bestOf_le (best : List Int) (ls : List (List Int)) : fewerB best (bestOf best ls) = false ∧ ∀ l ∈ ls, fewerB l (bestOf best ls) = false := by
  induction ls generalizing best with
  | nil => exact ⟨fewerB_irrefl _, by simp⟩
  | cons l ls ih =>
    rw [show bestOf best (l :: ls) = bestOf (bestStep best l) ls from rfl]
    obtain ⟨h1, h2⟩ := ih (bestStep best l)
    have up : ∀ m, (fewerB m (bestStep best l) = true ∨ m = bestStep best l ∨ fewerB (bestStep best l) m = true) := fun m => by
      by_cases a : fewerB m (bestStep best l) = true
      · exact .inl a
      · by_cases c : fewerB (bestStep best l) m = true
        · exact .inr (.inr c)
        · exact .inr (.inl (fewerB_total (by simpa using a) (by simpa using c)))
    -- what is no better than the step's choice is no better than the rest's
    have key : ∀ m, fewerB m (bestStep best l) = false → fewerB m (bestOf (bestStep best l) ls) = false := fun m hm => by
      rcases up m with a | rfl | c
      · rw [a] at hm; cases hm
      · exact h1
      · cases hx : fewerB m (bestOf (bestStep best l) ls) with
        | false => rfl
        | true => rw [fewerB_trans _ _ _ c hx] at h1; cases h1
    have hb : fewerB best (bestStep best l) = false := by
      cases hx : fewerB best (bestStep best l) with
      | false => rfl
      | true => have := fewerB_step hx; rw [fewerB_irrefl] at this; cases this
    have hl : fewerB l (bestStep best l) = false := by
      unfold bestStep
      split
      · exact fewerB_irrefl _
      · rename_i h; simpa using h
    refine ⟨key _ hb, fun x hx => ?_⟩
    rcases List.mem_cons.1 hx with rfl | hx
    · exact key _ hl
    · exact h2 x hx

/-- All choices of one element of each list, the last one changing first. -/
def prodL {α : Type} : List (List α) → List (List α)
  | [] => [[]]
  | l :: ls => l.flatMap (fun m => (prodL ls).map (m :: ·))
theorem mem_prodL {α : Type} : ∀ (ls : List (List α)) (v : List α), v ∈ prodL ls ↔ v.length = ls.length ∧ ∀ (i : Nat) (x : α) (l : List α), v[i]? = some x → ls[i]? = some l → x ∈ l
  | [], v => by
    simp only [prodL, List.mem_singleton, List.length_nil]
    constructor
    · rintro rfl; exact ⟨rfl, by simp⟩
    · rintro ⟨h, _⟩; exact List.length_eq_zero_iff.1 h
  | l :: ls, v => by
    simp only [prodL, List.mem_flatMap, List.mem_map]
    constructor
    · rintro ⟨m, hm, u, hu, rfl⟩
      obtain ⟨h1, h2⟩ := (mem_prodL ls u).1 hu
      refine ⟨by simp [h1], ?_⟩
      rintro (_ | i) x k hx hk
      · simp at hx hk; subst hx hk; exact hm
      · exact h2 i x k (by simpa using hx) (by simpa using hk)
    · rintro ⟨h1, h2⟩
      cases v with
      | nil => simp at h1
      | cons m u =>
        refine ⟨m, h2 0 m l rfl rfl, u, (mem_prodL ls u).2 ⟨by simpa using h1, fun i x k hx hk => h2 (i + 1) x k (by simpa using hx) (by simpa using hk)⟩, rfl⟩
end Go.Proofs.YtdmicngnbcdkdaaDoor

namespace Go.Proofs.YtdmicngnbcdkdaaDoor
open Go Go.RowKit
attribute [local go_sem] Oper.semAt_some
theorem wpIn_assign {F : Fence} {n : Nat} {P : Program} {id d s : Nat} {ty : TypeId} {pos : String} {Q : Exit → Act → World → Prop} {a : Act} {w : World} (h : Q .normal (a.put (some d) (a.eval (.tmp s))) w) :
    (Code.region id #[{ dst := some d, op := .assign (.tmp s), type := ty, pos := pos, after := #[], guard := none }] false).wpIn F n P Q a w := by
  refine wpIn_region_list ?_
  refine wpListIn_plain rfl fun K hK => ?_
  have h2 := hK _ _ h
  clear h hK
  unfold Oper.wpIn
  simp [go_sem, execOp, Oper.about]
  rw [Oper.semAt_plain _ _ _ (by intro c hc; cases hc)]
  simp [go_sem, execOp]
  simpa [Act.put, Act.eval, go_sem] using h2
end Go.Proofs.YtdmicngnbcdkdaaDoor

namespace Go.Proofs.YtdmicngnbcdkdaaDoor
open Go Go.RowKit

section
variable {n l : Nat} {P : Program} {ops : Array Oper} {Q : Exit → Act → World → Prop} {md : Region.Mode} {S : World → Prop}

theorem yieldsIf_wpOpIn {i : Nat} {o : Oper} {v : Value} {a : Act} {K : Act → World → Prop} {w : World} (hnd : ∀ c, o.op ≠ .defer c) (hi : ops[i]? = some o) (hy : YieldsIf P ops S o v a) (hS : S w) (h : K (a.put o.dst v) w) :
    wpOpIn (Fence.wide.inRound l) n P ops Q i K a w := by
  unfold wpOpIn
  simp only [hi]
  rcases hy with ⟨hw, hv⟩ | ⟨hw, rfl⟩
  · simp only [hw, if_true]
    unfold Oper.wpIn
    rw [Oper.semAt_plain _ _ _ hnd, hv w hS]
    exact ⟨fun _ _ => trivial, h⟩
  · simp only [hw, Bool.false_eq_true, if_false]
    exact ⟨fun _ _ => trivial, h⟩

theorem wpOpIn_putR {j : Nat} {oi oj : Oper} {v : Value} (hndj : ∀ c, oj.op ≠ .defer c) (hj : ops[j]? = some oj) (hap : oi.apart ops oj = true)
    (hsi : ∀ cs b, oi.op ≠ .select cs b) (hsj : ∀ cs b, oj.op ≠ .select cs b)
    (hQ : ∀ c a w, Q (.panic c) (a.put oi.dst v) w → Q (.panic c) a w) {K : Act → World → Prop} {a : Act} {w : World}
    (hy : YieldsIf P ops S oi v a) (h : wpOpIn (Fence.wide.inRound l) n P ops Q j K (a.put oi.dst v) w) :
    wpOpIn (Fence.wide.inRound l) n P ops Q j (fun a' w' => YieldsIf P ops S oi v a' ∧ K (a'.put oi.dst v) w') a w := by
  obtain ⟨h1, h2, h3⟩ := Oper.apart_spec hap
  have keep : ∀ (a : Act), YieldsIf P ops S oi v a → ∀ u, YieldsIf P ops S oi v (a.put oj.dst u) := fun a hy u =>
    hy.of_same (execOp_put oi hsi a oj.dst u h3) (wanted_put oi a oj.dst u h3)
  have keepD : ∀ d, YieldsIf P ops S oi v { a with defers := d :: a.defers } := fun d => hy.of_same rfl rfl
  unfold wpOpIn at *
  simp only [hj] at *
  rw [wanted_put oj a oi.dst v h1] at h
  split
  · rename_i hw
    simp only [hw, if_true] at h
    unfold Oper.wpIn at *
    refine ⟨fun _ _ => trivial, ?_⟩
    have h := h.2
    rw [Oper.semAt_plain _ _ _ hndj, execOp_put oj hsj a oi.dst v h1] at h
    rw [Oper.semAt_plain _ _ _ hndj]
    generalize (execOp a.eval oj).run P w = r at *
    cases r with
    | ok x w' =>
      cases x <;> simp only [Oper.uponIn] at h ⊢
      case value u => exact ⟨keep a hy u, by rw [← Act.put_comm a v u h2]; exact h⟩
      case skip => exact ⟨keep a hy _, by rw [← Act.put_comm a v undef h2]; exact h⟩
      case defer d =>
        refine ⟨keep _ (keepD d) _, ?_⟩
        rw [← Act.put_comm _ v undef h2, ← Act.put_defers]
        exact h
      case enter f args =>
        refine ⟨h.1, CallsIn.mono h.2 fun e w'' he => ?_⟩
        cases e with
        | returned u => exact ⟨keep a hy u, by rw [← Act.put_comm a v u h2]; exact he⟩
        | panicked c => exact hQ _ _ _ he
        | outgrown => exact he
      case row row args => exact ⟨h.1, RowsIn.mono h.2 fun u w'' he => ⟨keep a hy u, by rw [← Act.put_comm a v u h2]; exact he⟩⟩
      case round l f tmps assign body =>
        refine ⟨h.1, RoundIn.mono h.2 fun e w'' he => ?_⟩
        cases e with
        | returned u => exact ⟨keep a hy u, by rw [← Act.put_comm a v u h2]; exact he⟩
        | panicked c => exact hQ _ _ _ he
        | outgrown => exact he
    | halt x w' =>
      cases x <;> simp only [Oper.uponIn] at h ⊢
      case panic u => exact hQ _ _ _ h
  · rename_i hw
    simp only [hw] at h
    exact ⟨fun _ _ => trivial, keep a hy _, by rw [← Act.put_comm a v undef h2]; exact h.2⟩

/-- Whatever order is picked from here on, and S holds behind every operation that is carried out. -/
def wpAnyHR (l n : Nat) (P : Program) (md : Region.Mode) (ops : Array Oper) (Q : Exit → Act → World → Prop) (S : World → Prop) : Nat → Array Bool → Act → World → Prop
  | 0, listed, a, w => Region.ready md ops listed = [] ∧ Q .normal a w
  | fuel + 1, listed, a, w =>
    (Region.ready md ops listed = [] → Q .normal a w) ∧
    ∀ i ∈ Region.ready md ops listed, wpOpIn (Fence.wide.inRound l) n P ops Q i (fun a' w' => S w' ∧ wpAnyHR l n P md ops Q S fuel (listed.setIfInBounds i true) a' w') a w

theorem wpAnyIn_of_HR : ∀ (fuel : Nat) (listed : Array Bool) (a : Act) (w : World), wpAnyHR l n P md ops Q S fuel listed a w → wpAnyIn (Fence.wide.inRound l) n P md ops Q fuel listed a w
  | 0, _, _, _, h => h
  | fuel + 1, _, _, _, h => ⟨h.1, fun i hi => wpOpIn_mono (fun a' w' h' => wpAnyIn_of_HR fuel _ a' w' h'.2) (h.2 i hi)⟩

theorem wpAnyHR_first (hnd : NoDefer ops) {i : Nat} {oi : Oper} {v : Value} (hi : ops[i]? = some oi) (hsel : ∀ (j : Nat) (o : Oper) cs b, ops[j]? = some o → o.op ≠ .select cs b)
    (hQ : ∀ c a w, Q (.panic c) (a.put oi.dst v) w → Q (.panic c) a w) :
    ∀ (fuel : Nat) (listed : Array Bool) (a : Act) (w : World),
      (∀ j oj, ops[j]? = some oj → j ≠ i → listed.getD j true = false → (∀ e ∈ oj.after, Region.binds md e = true → e.on ≠ i) → oi.apart ops oj = true) →
      i ∈ Region.ready md ops listed → YieldsIf P ops S oi v a → S w →
      wpAnyHR l n P md ops Q S fuel (listed.setIfInBounds i true) (a.put oi.dst v) w → wpAnyHR l n P md ops Q S (fuel + 1) listed a w := by
  intro fuel
  induction fuel with
  | zero =>
    intro listed a w _ hr hy hS H
    refine ⟨fun h => (by rw [h] at hr; cases hr), fun j hj => ?_⟩
    by_cases hji : j = i
    · subst hji; exact yieldsIf_wpOpIn (hnd _ _ hi) hi hy hS ⟨hS, H⟩
    · have := ready_mono hj hji
      rw [H.1] at this
      cases this
  | succ fuel ih =>
    intro listed a w hfree hr hy hS H
    refine ⟨fun h => (by rw [h] at hr; cases hr), fun j hj => ?_⟩
    by_cases hji : j = i
    · subst hji; exact yieldsIf_wpOpIn (hnd _ _ hi) hi hy hS ⟨hS, H⟩
    · have h1 := H.2 j (ready_mono hj hji)
      obtain ⟨hjun, oj, hoj, hall⟩ := mem_ready.1 hj
      have hnot : ∀ e ∈ oj.after, Region.binds md e = true → e.on ≠ i := fun e he hb heq => by
        have h1 := hall e he hb
        have h0 := (mem_ready.1 hr).1
        rw [heq] at h1
        rcases Nat.lt_or_ge i listed.size with h' | h'
        · simp [h'] at h0 h1; rw [h0] at h1; cases h1
        · simp [Array.getElem?_eq_none h'] at h1
      have h2 := wpOpIn_putR (hnd _ _ hoj) hoj (hfree j oj hoj hji hjun hnot) (fun cs b => hsel i oi cs b hi) (fun cs b => hsel j oj cs b hoj) hQ hy h1
      have hfree' : ∀ k ok, ops[k]? = some ok → k ≠ i → (listed.setIfInBounds j true).getD k true = false →
          (∀ e ∈ ok.after, Region.binds md e = true → e.on ≠ i) → oi.apart ops ok = true := fun k ok hk hki hun hno => by
        refine hfree k ok hk hki ?_ hno
        by_cases hjk : j = k
        · subst hjk; exact hjun
        · rw [getD_set_ne true hjk] at hun; exact hun
      refine wpOpIn_mono (fun a' w' h3 => ⟨h3.2.1, ih (listed.setIfInBounds j true) a' w' hfree' (ready_mono hr (Ne.symm hji)) h3.1 h3.2.1 ?_⟩) h2
      rw [Array.setIfInBounds_comm _ _ hji]
      exact h3.2.2

theorem wpAnyHR_take {i : Nat} {oi : Oper} {v : Value} {fuel : Nat} {listed : Array Bool} {a : Act} {w : World} (hnd : NoDefer ops) (hi : ops[i]? = some oi)
    (hs : Region.noSelect ops = true) (hf : Region.free md ops listed i = true) (hr : (Region.ready md ops listed).contains i = true)
    (hQ : ∀ c a w, Q (.panic c) (a.put oi.dst v) w → Q (.panic c) a w) (hy : YieldsIf P ops S oi v a) (hS : S w)
    (h : wpAnyHR l n P md ops Q S fuel (listed.setIfInBounds i true) (a.put oi.dst v) w) : wpAnyHR l n P md ops Q S (fuel + 1) listed a w :=
  wpAnyHR_first hnd hi (Region.noSelect_spec hs) hQ fuel listed a w (Region.free_spec hi hf) (by simpa using hr) hy hS h

/-- One alone may come up. -/
theorem wpAnyHR_one {i : Nat} {o : Oper} {fuel : Nat} {listed : Array Bool} {a : Act} {w : World} (hr : Region.ready md ops listed = [i]) (ho : ops[i]? = some o)
    (h : ∀ K : Act → World → Prop, (∀ a w, S w → wpAnyHR l n P md ops Q S fuel (listed.setIfInBounds i true) a w → K a w) → if Region.wanted o (yielded ops a.tmps) = true then Oper.wpIn (Fence.wide.inRound l) n P o a w K Q else (∀ f, o.about P w a.eval = some f → (Fence.wide.inRound l).fn f) ∧ K (a.put o.dst undef) w) :
    wpAnyHR l n P md ops Q S (fuel + 1) listed a w := by
  refine ⟨(fun h0 => by rw [hr] at h0; cases h0), fun j hj => ?_⟩
  rw [hr] at hj
  obtain rfl : j = i := by simpa using hj
  exact wpOpIn_step ho (fun K' hK' => h K' (fun a w hS hx => hK' a w ⟨hS, hx⟩))
theorem wpAnyHR_done {listed : Array Bool} {a : Act} {w : World} (hr : Region.ready md ops listed = []) (h : Q .normal a w) : ∀ fuel, wpAnyHR l n P md ops Q S fuel listed a w
  | 0 => ⟨hr, h⟩
  | _ + 1 => ⟨fun _ => h, by rw [hr]; simp⟩
theorem wpIn_region_heldR {id : Nat} {a : Act} {w : World} (hm : P.follows .mixedOrders = true)
    (h : wpAnyHR l n P .any ops Q S ops.size (Array.replicate ops.size false) a w.drew) : (Code.region id ops true).wpIn (Fence.wide.inRound l) n P Q a w :=
  wpIn_region_any hm (wpAnyIn_of_HR _ _ _ _ h)
end
end Go.Proofs.YtdmicngnbcdkdaaDoor

