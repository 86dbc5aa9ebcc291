/- SeineKnown's first half: the books that are made at first. -/
/- SeineKnown's first half: the region that makes the books. -/
/- SeineKnown's first half: what a store into a book's notes needs; what is told of books that are none. -/
import Derived.Test.YtjjfpbjdcmkkhaaDoorQLk
import Derived.Test.YtjjfpbjdcmkkhaaDoorQSu
import Derived.Test.YtjjfpbjdcmkkhaaDoorQFa
import Derived.Test.YtjjfpbjdcmkkhaaDoorQJf
set_option linter.unusedSimpArgs false
set_option linter.unusedVariables false
namespace Go.Proofs.YtjjfpbjdcmkkhaaDoor
open Go Go.RowKit Go.Shelf
abbrev nbC : Array Value := #[.int .i64 0, .int .i64 6, .int .i64 30, .int .i64 30, .int .i64 1, .int .i64 8, .int .i64 1, .int .i64 3, .int .i64 2, .int .i64 18, .int .i64 0, .int .i64 0, .int .i64 4, .int .i64 20, .int .i64 45, .int .i64 55]
def zeroC : Array Value := madeCells #[.int .i64 0, .int .i64 0, .int .i64 0, .int .i64 0] 36
theorem zeroC_eq : zeroC = (encNs (List.replicate 9 ⟨0, 0, 0, 0⟩)).toArray := by kernel_rfl
theorem zeroC_size : zeroC.size = 36 := by kernel_rfl
attribute [local go_sem] Oper.semAt_some frozen_alloc_lt
set_option maxHeartbeats 1000000 in
theorem book_blk (w : World) : Calls Tryd.prog 49 #[.slice none 0 0] w fun e w' => ∃ g : Nat, w.heap.size ≤ g ∧ e = .returned (.agg #[.int .i64 100, .int .i64 110, .slice (some ⟨g, 0, none⟩) 4 4]) ∧ Blk w' g 38 nbC ∧ Below w.heap.size w w' := by
  go_enter Tryd.func49, Tryd.ntmps49
  go_upto_region 2 with (first
    | (go_at_call 48; refine (To_any _ _ _).mono ?_; rintro e w1 ⟨rfl, y, rfl⟩)
    | (go_at_call 39; refine (Just_any _ _).mono ?_; rintro e w1 ⟨rfl, y, rfl⟩)
    | (go_at_call 40; refine (note_any _ _ _ _ _).mono ?_; rintro e w1 ⟨rfl, y, rfl⟩))
  generalize hW : (ext _ _).alloc _ = W
  generalize hg : (ext _ _).heap.size = g
  have hgl : w.heap.size < g := by
    rw [← hg]
    refine Nat.lt_of_lt_of_le ?_ (below_ext _ _).size
    simp
  have hB : Below w.heap.size w W := by rw [← hW]; (repeat (first | (with_reducible exact Below.refl _ _) | (with_reducible assumption) | ((with_reducible refine below_ext_trans ?_ ?_ _); rotate_left; focus (((try dsimp only); repeat (first | omega | simp only [World.size_alloc, World.size_setCell, World.size_drew] | (with_reducible refine le_ext_of ?_) | (with_reducible refine le_ext_add ?_))); done)) | ((with_reducible refine Below.alloc ?_ ?_ _); rotate_left; focus (((try dsimp only); repeat (first | omega | simp only [World.size_alloc, World.size_setCell, World.size_drew] | (with_reducible refine le_ext_of ?_) | (with_reducible refine le_ext_add ?_))); done)) | ((with_reducible refine Below.setCell ?_ ?_ _); rotate_left; focus (((try dsimp only); repeat (first | omega | simp only [World.size_alloc, World.size_setCell, World.size_drew] | (with_reducible refine le_ext_of ?_) | (with_reducible refine le_ext_add ?_))); done)) | (with_reducible refine Below.drew ?_)))
  have hb : Blk W w.heap.size 26 #[.int .i64 0, .int .i64 0, .slice none 0 0] := by rw [← hW]; exact ((Blk.new rfl).ext _).alloc _
  have hn : Blk W g 38 nbC := by rw [← hW]; exact Blk.new hg.symm
  have HB := Lib.hid hB
  have Hb := Lib.hid hb
  have HN := Lib.hid hn
  have hl := hb.lt
  have f0 := hb.frozen 0
  have f1 := hb.frozen 1
  have f2 := hb.frozen 2
  have c0 := hb.cell 0
  have c1 := hb.cell 1
  have c2 := hb.cell 2
  simp only [List.size_toArray, List.length_cons, List.length_nil, Nat.reduceAdd, Nat.reduceLT, getElem?_pos, List.getElem_toArray, List.getElem_cons_zero, List.getElem_cons_succ] at c0 c1 c2
  clear hW hg hB hb hn
  go_wp2_with (first
    | (go_at_call 48; refine (To_any _ _ _).mono ?_; rintro e w1 ⟨rfl, y, rfl⟩)
    | (at_builtin; refine wpList_app_none rfl _ _ rfl g 4 4 rfl (by decide) rfl ?_))
  have hB3 : Below w.heap.size w ((((ext W y).setCell ⟨w.heap.size, 0, none⟩ (.int .i64 100)).setCell ⟨w.heap.size, 1, none⟩ (.int .i64 110)).setCell ⟨w.heap.size, 2, none⟩ (.slice (some ⟨g, 0, none⟩) 4 4)) :=
    (((HB.out.trans ((below_ext W y).mono (by omega))).setCell (by dsimp only; omega) _).setCell (by dsimp only; omega) _).setCell (by dsimp only; omega) _
  have hne : ∀ X Y Z, ((((ext W y).setCell ⟨w.heap.size, 0, none⟩ X).setCell ⟨w.heap.size, 1, none⟩ Y).setCell ⟨w.heap.size, 2, none⟩ Z).heap[g]? = W.heap[g]? := fun X Y Z =>
    (Below.heap_setCell _ _ _ _ (by dsimp only; omega)).trans ((Below.heap_setCell _ _ _ _ (by dsimp only; omega)).trans ((Below.heap_setCell _ _ _ _ (by dsimp only; omega)).trans ((below_ext W y).block g HN.out.lt)))
  have hbF := (((Hb.out.ext y).set 0 (.int .i64 100)).set 1 (.int .i64 110)).set 2 (.slice (some ⟨g, 0, none⟩) 4 4)
  have t0 := Blk.cell hbF 0
  have t1 := Blk.cell hbF 1
  have t2 := Blk.cell hbF 2
  refine bodyPost_ret (v := .agg #[.int .i64 100, .int .i64 110, .slice (some ⟨g, 0, none⟩) 4 4]) ?_ rfl ⟨g, by omega, rfl, (hne _ _ _).trans HN.out, hB3⟩
  · simp [results, Tryd.results49, go_sem, c0, c1, c2, hl]
section
variable {o : Oper} {w : World} (ρ : Operand → Value)
theorem run_mk9 (hop : o.op = .makeSlice 24 (.const (.int .i64 9)) (.const (.int .i64 9))) (hs : ρ (.const (.int .i64 9)) = .int .i64 9) : (execOp ρ o).run Tryd.prog w = .ok (.value (.slice (some ⟨w.heap.size, 0, none⟩) 9 9)) (w.alloc (.cells zeroC 38)) := by
  have hI := info_note
  cases hi : Tryd.prog.info? 38 with
  | none => rw [hi] at hI; cases hI
  | some i =>
    rw [hi] at hI
    simp only [Option.map_some, Option.some.injEq, Prod.mk.injEq] at hI
    obtain ⟨hz0, hz1, hz2⟩ := hI
    have hr := run_make (P := Tryd.prog) w 24 38 i _ Tryd.underlying24 hi hz0 .i64 .i64 9 9 (by omega) (by omega) (by rw [hz2]; omega) (by omega)
    have hc : (Value.agg #[.int .i64 0, .int .i64 0, .int .i64 0, .int .i64 0]).cells = #[.int .i64 0, .int .i64 0, .int .i64 0, .int .i64 0] := by kernel_rfl
    rw [hz1, hc] at hr
    unfold execOp; simp only [hop, hs, hr]
    simp only [Sem.run_bind, hr]
    rfl
theorem run_bBk0 {s : Nat} {x y : Int} (hop : o.op = .build 26 #[(0, .tmp s)]) (hs : ρ (.tmp s) = .agg #[.int .i64 x, .int .i64 y]) : (execOp ρ o).run Tryd.prog w = .ok (.value (.agg #[.int .i64 x, .int .i64 y, .slice none 0 0])) w := by
  unfold execOp; simp [hop, hs, go_sem]
theorem run_bBk1 {s n c : Nat} {p : Option Addr} (hop : o.op = .build 26 #[(1, .tmp s)]) (hs : ρ (.tmp s) = .slice p n c) : (execOp ρ o).run Tryd.prog w = .ok (.value (.agg #[.int .i64 0, .int .i64 0, .slice p n c])) w := by
  unfold execOp; simp [hop, hs, go_sem]
theorem run_bs11 {s0 s1 s2 s3 s4 s5 s6 s7 s8 s9 s10 g4 g5 g6 g7 g8 g9 g10 : Nat} (hop : o.op = .buildSlice 71 11 #[(0, .tmp s0), (1, .tmp s1), (2, .tmp s2), (3, .tmp s3), (4, .tmp s4), (5, .tmp s5), (6, .tmp s6), (7, .tmp s7), (8, .tmp s8), (9, .tmp s9), (10, .tmp s10)])
    (h0 : ρ (.tmp s0) = .agg #[.int .i64 1, .int .i64 0, .slice none 0 0]) (h1 : ρ (.tmp s1) = .agg #[.int .i64 (-1), .int .i64 0, .slice none 0 0]) (h2 : ρ (.tmp s2) = .agg #[.int .i64 395, .int .i64 401, .slice none 0 0]) (h3 : ρ (.tmp s3) = .agg #[.int .i64 0, .int .i64 13, .slice none 0 0]) (h4 : ρ (.tmp s4) = .agg #[.int .i64 0, .int .i64 0, .slice (some ⟨g4, 0, none⟩) 9 9])
    (h5 : ρ (.tmp s5) = .agg #[.int .i64 100, .int .i64 110, .slice (some ⟨g5, 0, none⟩) 4 4]) (h6 : ρ (.tmp s6) = .agg #[.int .i64 100, .int .i64 110, .slice (some ⟨g6, 0, none⟩) 4 4]) (h7 : ρ (.tmp s7) = .agg #[.int .i64 100, .int .i64 110, .slice (some ⟨g7, 0, none⟩) 4 4]) (h8 : ρ (.tmp s8) = .agg #[.int .i64 100, .int .i64 110, .slice (some ⟨g8, 0, none⟩) 4 4]) (h9 : ρ (.tmp s9) = .agg #[.int .i64 100, .int .i64 110, .slice (some ⟨g9, 0, none⟩) 4 4]) (h10 : ρ (.tmp s10) = .agg #[.int .i64 100, .int .i64 110, .slice (some ⟨g10, 0, none⟩) 4 4]) :
    (execOp ρ o).run Tryd.prog w = .ok (.value (.slice (some ⟨w.heap.size, 0, none⟩) 11 11)) (w.alloc (.cells #[.int .i64 1, .int .i64 0, .slice none 0 0, .int .i64 (-1), .int .i64 0, .slice none 0 0, .int .i64 395, .int .i64 401, .slice none 0 0, .int .i64 0, .int .i64 13, .slice none 0 0, .int .i64 0, .int .i64 0, .slice (some ⟨g4, 0, none⟩) 9 9, .int .i64 100, .int .i64 110, .slice (some ⟨g5, 0, none⟩) 4 4, .int .i64 100, .int .i64 110, .slice (some ⟨g6, 0, none⟩) 4 4, .int .i64 100, .int .i64 110, .slice (some ⟨g7, 0, none⟩) 4 4, .int .i64 100, .int .i64 110, .slice (some ⟨g8, 0, none⟩) 4 4, .int .i64 100, .int .i64 110, .slice (some ⟨g9, 0, none⟩) 4 4, .int .i64 100, .int .i64 110, .slice (some ⟨g10, 0, none⟩) 4 4] 26)) := by
  unfold execOp; simp [hop, h0, h1, h2, h3, h4, h5, h6, h7, h8, h9, h10, go_sem]
end
end Go.Proofs.YtjjfpbjdcmkkhaaDoor

namespace Go.Proofs.YtjjfpbjdcmkkhaaDoor
open Go Go.RowKit Go.Shelf
abbrev bkv (g : Nat) : Value := .agg #[.int .i64 100, .int .i64 110, .slice (some ⟨g, 0, none⟩) 4 4]
def isB (i : Nat) : Bool := decide (10 ≤ i ∧ i ≤ 15)
def Dist (f : Nat → Bool) (a : Act) : Prop := ∀ i j, isB i = true → isB j = true → i ≠ j → f i = true → f j = true → ∀ g g', a.tmps.getD (52 + i) undef = bkv g → a.tmps.getD (52 + j) undef = bkv g' → g ≠ g'
theorem put_far {a : Act} {s t : Nat} {v : Value} (h : s ≠ t) : (a.put (some s) v).tmps.getD t undef = a.tmps.getD t undef := by
  simp only [Act.put, Array.getD_eq_getD_getElem?, Array.getElem?_setIfInBounds, if_neg h]
theorem put_at {a : Act} {s : Nat} {v : Value} (h : s < a.tmps.size) : (a.put (some s) v).tmps.getD s undef = v := by
  simp [Act.put, h]
theorem Dist.other {f : Nat → Bool} {a : Act} {i : Nat} (h : Dist f a) (hi : isB i = false) (v : Value) : Dist (updF f i) (a.put (some (52 + i)) v) := by
  intro j k hj hk hjk fj fk g g' e e'
  have h1 : j ≠ i := fun e => by subst e; rw [hi] at hj; cases hj
  have h2 : k ≠ i := fun e => by subst e; rw [hi] at hk; cases hk
  rw [updF_ne h1] at fj
  rw [updF_ne h2] at fk
  rw [put_far (by omega)] at e e'
  exact h j k hj hk hjk fj fk g g' e e'
theorem Dist.new {f : Nat → Bool} {a : Act} {i g0 H : Nat} (h : Dist f a) (hs : 52 + i < a.tmps.size) (hg : H ≤ g0) (hold : ∀ j, isB j = true → f j = true → ∀ g, a.tmps.getD (52 + j) undef = bkv g → g < H) : Dist (updF f i) (a.put (some (52 + i)) (bkv g0)) := by
  intro j k hj hk hjk fj fk g g' e e'
  by_cases h1 : j = i
  · subst h1
    rw [put_at hs] at e
    have e1 : g0 = g := by simpa [bkv] using e
    have h2 : k ≠ j := fun x => hjk x.symm
    rw [updF_ne h2] at fk
    rw [put_far (by omega)] at e'
    have := hold k hk fk g' e'
    omega
  · rw [updF_ne h1] at fj
    rw [put_far (by omega)] at e
    by_cases h2 : k = i
    · subst h2
      rw [put_at hs] at e'
      have e1 : g0 = g' := by simpa [bkv] using e'
      have := hold j hj fj g e
      omega
    · rw [updF_ne h2] at fk
      rw [put_far (by omega)] at e'
      exact h j k hj hk hjk fj fk g g' e e'
/-- The books that are made at first. -/
structure Six (W0 : Nat) (w : World) (gB g4 g5 g6 g7 g8 g9 g10 : Nat) : Prop where
  kB : Blk w gB 26 #[.int .i64 1, .int .i64 0, .slice none 0 0, .int .i64 (-1), .int .i64 0, .slice none 0 0, .int .i64 395, .int .i64 401, .slice none 0 0, .int .i64 0, .int .i64 13, .slice none 0 0, .int .i64 0, .int .i64 0, .slice (some ⟨g4, 0, none⟩) 9 9, .int .i64 100, .int .i64 110, .slice (some ⟨g5, 0, none⟩) 4 4, .int .i64 100, .int .i64 110, .slice (some ⟨g6, 0, none⟩) 4 4, .int .i64 100, .int .i64 110, .slice (some ⟨g7, 0, none⟩) 4 4, .int .i64 100, .int .i64 110, .slice (some ⟨g8, 0, none⟩) 4 4, .int .i64 100, .int .i64 110, .slice (some ⟨g9, 0, none⟩) 4 4, .int .i64 100, .int .i64 110, .slice (some ⟨g10, 0, none⟩) 4 4]
  k4 : Blk w g4 38 zeroC
  k5 : Blk w g5 38 nbC
  k6 : Blk w g6 38 nbC
  k7 : Blk w g7 38 nbC
  k8 : Blk w g8 38 nbC
  k9 : Blk w g9 38 nbC
  k10 : Blk w g10 38 nbC
  ge : ∀ x ∈ [g5, g6, g7, g8, g9, g10], W0 ≤ x
  ne : [g5, g6, g7, g8, g9, g10].Pairwise (· ≠ ·)
theorem Six.bel {W0 : Nat} {w w' : World} {gB g4 g5 g6 g7 g8 g9 g10 : Nat} (h : Six W0 w gB g4 g5 g6 g7 g8 g9 g10) (hb : Below w.heap.size w w') : Six W0 w' gB g4 g5 g6 g7 g8 g9 g10 := ⟨h.kB.bel hb, h.k4.bel hb, h.k5.bel hb, h.k6.bel hb, h.k7.bel hb, h.k8.bel hb, h.k9.bel hb, h.k10.bel hb, h.ge, h.ne⟩
def booksR (W0 : Nat) (_f : Nat → Bool) (i : Nat) (u : Value) (w : World) : Prop :=
  match i with
  | 0 => u = .agg #[.int .i64 1, .int .i64 0]
  | 1 => u = .agg #[.int .i64 1, .int .i64 0, .slice none 0 0]
  | 2 => u = .agg #[.int .i64 (-1), .int .i64 0]
  | 3 => u = .agg #[.int .i64 (-1), .int .i64 0, .slice none 0 0]
  | 4 => u = .agg #[.int .i64 395, .int .i64 401]
  | 5 => u = .agg #[.int .i64 395, .int .i64 401, .slice none 0 0]
  | 6 => u = .agg #[.int .i64 0, .int .i64 13]
  | 7 => u = .agg #[.int .i64 0, .int .i64 13, .slice none 0 0]
  | 8 => ∃ g, u = .slice (some ⟨g, 0, none⟩) 9 9 ∧ Blk w g 38 zeroC
  | 9 => ∃ g, u = .agg #[.int .i64 0, .int .i64 0, .slice (some ⟨g, 0, none⟩) 9 9] ∧ Blk w g 38 zeroC
  | 10 => ∃ g, u = bkv g ∧ W0 ≤ g ∧ Blk w g 38 nbC
  | 11 => ∃ g, u = bkv g ∧ W0 ≤ g ∧ Blk w g 38 nbC
  | 12 => ∃ g, u = bkv g ∧ W0 ≤ g ∧ Blk w g 38 nbC
  | 13 => ∃ g, u = bkv g ∧ W0 ≤ g ∧ Blk w g 38 nbC
  | 14 => ∃ g, u = bkv g ∧ W0 ≤ g ∧ Blk w g 38 nbC
  | 15 => ∃ g, u = bkv g ∧ W0 ≤ g ∧ Blk w g 38 nbC
  | 16 => ∃ gB g4 g5 g6 g7 g8 g9 g10, u = .slice (some ⟨gB, 0, none⟩) 11 11 ∧ Six W0 w gB g4 g5 g6 g7 g8 g9 g10
  | _ => True
theorem booksR_kept (W0 : Nat) (f f' : Nat → Bool) : ∀ i, i < 17 → ∀ (u : Value) (w w' : World), booksR W0 f i u w → Below w.heap.size w w' → booksR W0 f' i u w' := by
  intro i hi u w w' h hb
  match i, hi, h with
  | 0, _, h => exact h
  | 1, _, h => exact h
  | 2, _, h => exact h
  | 3, _, h => exact h
  | 4, _, h => exact h
  | 5, _, h => exact h
  | 6, _, h => exact h
  | 7, _, h => exact h
  | 8, _, h => obtain ⟨g, h1, h2⟩ := h; exact ⟨g, h1, h2.bel hb⟩
  | 9, _, h => obtain ⟨g, h1, h2⟩ := h; exact ⟨g, h1, h2.bel hb⟩
  | 10, _, h => obtain ⟨g, h1, h0, h2⟩ := h; exact ⟨g, h1, h0, h2.bel hb⟩
  | 11, _, h => obtain ⟨g, h1, h0, h2⟩ := h; exact ⟨g, h1, h0, h2.bel hb⟩
  | 12, _, h => obtain ⟨g, h1, h0, h2⟩ := h; exact ⟨g, h1, h0, h2.bel hb⟩
  | 13, _, h => obtain ⟨g, h1, h0, h2⟩ := h; exact ⟨g, h1, h0, h2.bel hb⟩
  | 14, _, h => obtain ⟨g, h1, h0, h2⟩ := h; exact ⟨g, h1, h0, h2.bel hb⟩
  | 15, _, h => obtain ⟨g, h1, h0, h2⟩ := h; exact ⟨g, h1, h0, h2.bel hb⟩
  | 16, _, h => obtain ⟨gB, g4, g5, g6, g7, g8, g9, g10, h1, h2⟩ := h; exact ⟨gB, g4, g5, g6, g7, g8, g9, g10, h1, h2.bel hb⟩
  | k + 17, hk, _ => omega
end Go.Proofs.YtjjfpbjdcmkkhaaDoor

namespace Go.Proofs.YtjjfpbjdcmkkhaaDoor
open Go Go.RowKit Go.Shelf
section
variable {o : Oper} {w : World} (ρ : Operand → Value)
theorem run_ixB {g s k : Nat} {x : Int} (hop : o.op = .indexAddr 71 (.tmp s) (.const (.int .i64 x))) (hs : ρ (.tmp s) = .slice (some ⟨g, 0, none⟩) 11 11) (hx : x = (k : Int)) (hk : k < 11) (hl : g < w.heap.size) (hc : ρ (.const (.int .i64 x)) = .int .i64 x) :
    (execOp ρ o).run Tryd.prog w = .ok (.value (.pointer (some ⟨g, k * 3, none⟩))) w := by
  subst hx
  have k0 : (0 : Int) ≤ (k : Int) := by omega
  have k1 : (k : Int) < 11 := by omega
  unfold execOp; simp [hop, hs, hc, go_sem, hl, k0, k1]
theorem run_fB1 {g j s : Nat} (hop : o.op = .fieldAddr 26 (.tmp s) 1) (hs : ρ (.tmp s) = .pointer (some ⟨g, j, none⟩)) (hl : g < w.heap.size) : (execOp ρ o).run Tryd.prog w = .ok (.value (.pointer (some ⟨g, j + 2, none⟩))) w := by
  unfold execOp; simp [hop, hs, go_sem, hl]
theorem run_ixN {g s k : Nat} {x : Int} (hop : o.op = .indexAddr 24 (.tmp s) (.const (.int .i64 x))) (hs : ρ (.tmp s) = .slice (some ⟨g, 0, none⟩) 4 4) (hx : x = (k : Int)) (hk : k < 4) (hl : g < w.heap.size) (hc : ρ (.const (.int .i64 x)) = .int .i64 x) :
    (execOp ρ o).run Tryd.prog w = .ok (.value (.pointer (some ⟨g, k * 4, none⟩))) w := by
  subst hx
  have k0 : (0 : Int) ≤ (k : Int) := by omega
  have k1 : (k : Int) < 4 := by omega
  unfold execOp; simp [hop, hs, hc, go_sem, hl, k0, k1]
theorem run_fN2 {g j s : Nat} (hop : o.op = .fieldAddr 38 (.tmp s) 2) (hs : ρ (.tmp s) = .pointer (some ⟨g, j, none⟩)) (hl : g < w.heap.size) : (execOp ρ o).run Tryd.prog w = .ok (.value (.pointer (some ⟨g, j + 2, none⟩))) w := by
  unfold execOp; simp [hop, hs, go_sem, hl]
end
/-- What the operations leave that find a note's span, and make the new one. -/
def storR (gB m g j : Nat) (lo hi : Int) (i : Nat) (u : Value) (_w : World) : Prop :=
  match i with
  | 0 => u = .slice (some ⟨gB, 0, none⟩) 11 11
  | 1 => u = .pointer (some ⟨gB, m * 3, none⟩)
  | 2 => u = .pointer (some ⟨gB, m * 3 + 2, none⟩)
  | 3 => u = .slice (some ⟨g, 0, none⟩) 4 4
  | 4 => u = .agg #[.int .i64 lo, .int .i64 hi]
  | 5 => u = .pointer (some ⟨g, j * 4, none⟩)
  | 6 => u = .pointer (some ⟨g, j * 4 + 2, none⟩)
  | _ => True
theorem storR_kept (gB m g j : Nat) (lo hi : Int) : ∀ i, i < 7 → ∀ (u : Value) (w w' : World), storR gB m g j lo hi i u w → Below w.heap.size w w' → storR gB m g j lo hi i u w' := fun _ _ _ _ _ h _ => h
/-- A row of the books, that is none. -/
def RowN (w : World) (cs : Array Value) (k : Nat) : Prop := ∃ (b : Sn) (p : Option Addr) (n : Nat), snB b = false ∧ b.ns.length = n ∧ cs[k * 3]? = some (.int .i64 b.lo) ∧ cs[k * 3 + 1]? = some (.int .i64 b.hi) ∧ cs[k * 3 + 2]? = some (.slice p n n) ∧ NotesAt w p b.ns ∧ ∀ a, p = some a → a.block < w.heap.size
theorem rowN_nil {w : World} {cs : Array Value} {k : Nat} {lo hi : Int} (hv : snB ⟨lo, hi, []⟩ = false) (h0 : cs[k * 3]? = some (.int .i64 lo)) (h1 : cs[k * 3 + 1]? = some (.int .i64 hi)) (h2 : cs[k * 3 + 2]? = some (.slice none 0 0)) : RowN w cs k :=
  ⟨⟨lo, hi, []⟩, none, 0, hv, rfl, h0, h1, h2, fun i s h => by simp at h, fun a h => by cases h⟩
theorem rowN_blk {w : World} {cs xs : Array Value} {k g n : Nat} {lo hi : Int} {l : List Nt} (hv : snB ⟨lo, hi, l⟩ = false) (hk : Blk w g 38 xs) (hx : xs = (encNs l).toArray) (hn : l.length = n) (h9 : l.length ≤ 100) (h0 : cs[k * 3]? = some (.int .i64 lo)) (h1 : cs[k * 3 + 1]? = some (.int .i64 hi)) (h2 : cs[k * 3 + 2]? = some (.slice (some ⟨g, 0, none⟩) n n)) : RowN w cs k :=
  ⟨⟨lo, hi, l⟩, some ⟨g, 0, none⟩, n, hv, hn, h0, h1, h2, notes_of_blk hk hx (Nat.le_trans h9 (by decide)), fun a h => by cases h; exact hk.lt⟩
section
variable {b : Sn} {p : Option Addr} {n : Nat} {w : World}
theorem Right_n (hk : SBk w b p) (hv : snB b = false) (hn : b.ns.length = n) : Calls Tryd.prog 14 #[.agg #[.int .i64 b.lo, .int .i64 b.hi, .slice p n n]] w fun e w' => e = .returned (.tuple #[.bool false, .int .i64 30]) ∧ ∃ x, w' = ext w x := by
  subst hn; exact (Right_bad b p _ w hk hv).mono fun e w' h => ⟨h.1, ext_of h.2⟩
theorem Can_n (hk : SBk w b p) (hv : snB b = false) (hn : b.ns.length = n) : Calls Tryd.prog 18 #[.agg #[.int .i64 b.lo, .int .i64 b.hi, .slice p n n], .int .i64 (-1), .int .i64 (-1)] w fun e w' => e = .returned (.tuple #[.bool false, .int .i64 30]) ∧ ∃ x, w' = ext w x := by
  subst hn
  exact (Can_all b p _ (-1) (-1) 30 w hk (.inl (.inl ⟨hv, rfl⟩))).mono fun e w' ⟨h1, h2⟩ => by
    rcases h1 with ⟨-, h1⟩ | ⟨h0, -⟩
    · exact ⟨h1, ext_of h2⟩
    · cases h0
theorem Held_n (hk : SBk w b p) (hv : snB b = false) (hn : b.ns.length = n) : Calls Tryd.prog 20 #[.agg #[.int .i64 b.lo, .int .i64 b.hi, .slice p n n], .int .i64 (-1)] w fun e w' => e = .returned (.tuple #[.agg #[.int .i64 0, .int .i64 0], .int .i64 30]) ∧ ∃ x, w' = ext w x := by
  subst hn
  exact (Held_all b p _ (-1) 30 w hk (.inl (.inl ⟨hv, rfl⟩))).mono fun e w' ⟨h1, h2⟩ => by
    rcases h1 with ⟨-, h1⟩ | ⟨h0, -⟩
    · exact ⟨h1, ext_of h2⟩
    · cases h0
theorem Rate_n (hk : SBk w b p) (hv : snB b = false) (hn : b.ns.length = n) : Calls Tryd.prog 22 #[.agg #[.int .i64 b.lo, .int .i64 b.hi, .slice p n n], .int .i64 (-1)] w fun e w' => e = .returned (.tuple #[.agg #[.int .i64 0, .int .i64 0], .int .i64 30]) ∧ ∃ x, w' = ext w x := by
  subst hn
  exact (Rate_all b p _ (-1) 30 w hk (.inl (.inl ⟨hv, rfl⟩))).mono fun e w' ⟨h1, h2⟩ => by
    rcases h1 with ⟨-, h1⟩ | ⟨h0, -⟩
    · exact ⟨h1, ext_of h2⟩
    · cases h0
theorem Empty_n (hk : SBk w b p) (hv : snB b = false) (hn : b.ns.length = n) : Calls Tryd.prog 25 #[.agg #[.int .i64 b.lo, .int .i64 b.hi, .slice p n n]] w fun e w' => e = .returned (.tuple #[.int .i64 0, .int .i64 30]) ∧ ∃ x, w' = ext w x := by
  subst hn; exact (Empty_err b p _ 30 w hk (.inl ⟨hv, rfl⟩)).mono fun e w' h => ⟨h.1, ext_of h.2⟩
theorem Saved_n (hk : SBk w b p) (hv : snB b = false) (hn : b.ns.length = n) : Calls Tryd.prog 27 #[.agg #[.int .i64 b.lo, .int .i64 b.hi, .slice p n n]] w fun e w' => e = .returned (.tuple #[.agg #[.int .i64 0, .int .i64 0], .int .i64 30]) ∧ ∃ x, w' = ext w x := by
  subst hn; exact (Saved_err b p _ 30 w hk (.inl ⟨hv, rfl⟩)).mono fun e w' h => ⟨h.1, ext_of h.2⟩
theorem Fits_n (hk : SBk w b p) (hv : snB b = false) (hn : b.ns.length = n) : Calls Tryd.prog 29 #[.agg #[.int .i64 b.lo, .int .i64 b.hi, .slice p n n], .agg #[.int .i64 9, .int .i64 0, .int .i64 0, .int .i64 0]] w fun e w' => e = .returned (.tuple #[.bool false, .int .i64 30]) ∧ ∃ x, w' = ext w x := by
  subst hn; exact (Fits_bad b p _ ⟨9, 0, 0, 0⟩ w hk hv).mono fun e w' h => ⟨h.1, ext_of h.2⟩
theorem Wrong_n (hk : SBk w b p) (hv : snB b = false) (hn : b.ns.length = n) : Calls Tryd.prog 31 #[.agg #[.int .i64 b.lo, .int .i64 b.hi, .slice p n n]] w fun e w' => e = .returned (.tuple #[.slice none 0 0, .int .i64 30]) ∧ ∃ x, w' = ext w x := by
  subst hn; exact (Wrong_bad b p _ w hk hv).mono fun e w' h => ⟨h.1, ext_of h.2⟩
theorem Check_n (hk : SBk w b p) (hv : snB b = false) (hn : b.ns.length = n) : Calls Tryd.prog 16 #[.agg #[.int .i64 b.lo, .int .i64 b.hi, .slice p n n]] w fun e w' => e = .returned (.int .i64 30) ∧ ∃ x, w' = ext w x := by
  subst hn; exact Check_eq b p _ false w hk hv
end
end Go.Proofs.YtjjfpbjdcmkkhaaDoor

