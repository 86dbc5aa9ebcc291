/- Contract of the chapter's book, with where all of its memory lies. -/
/- Contracts of the chapter's own and late, with where all of the book's memory lies. -/
import Derived.Test.YtdmicngnbcdkdaaDoorRBa
import Derived.Test.YtdmicngnbcdkdaaDoorRWa
set_option linter.unusedSimpArgs false
set_option linter.unusedVariables false
namespace Go.Proofs.YtdmicngnbcdkdaaDoor
open Go Go.RowKit

def bookRN (B : Nat) (lo hi : Int) (i : Nat) (v : Value) (w : World) : Prop :=
  match i with
  | 0 => v = .agg #[.int .i64 360, .int .i64 364]
  | 1 => v = .agg #[.int .i64 540, .int .i64 545]
  | 2 => ∃ g, B ≤ g ∧ v = .slice (some ⟨g, 0, none⟩) 2 2 ∧ Blk w g 33 #[.int .i64 360, .int .i64 364, .int .i64 540, .int .i64 545]
  | 3 => ∃ g, B ≤ g ∧ v = .slice (some ⟨g, 0, none⟩) 3 3 ∧ Blk w g 3 #[.int .i64 0, .int .i64 1, .int .i64 2]
  | 4 => ∃ g, B ≤ g ∧ v = .slice (some ⟨g, 0, none⟩) 3 3 ∧ Blk w g 3 #[.int .i64 1, .int .i64 2, .int .i64 0]
  | 5 => ∃ g g3 g4, (B ≤ g ∧ B ≤ g3 ∧ B ≤ g4) ∧ v = .slice (some ⟨g, 0, none⟩) 2 2 ∧ Blk w g 28 #[.slice (some ⟨g3, 0, none⟩) 3 3, .slice (some ⟨g4, 0, none⟩) 3 3] ∧ Blk w g3 3 #[.int .i64 0, .int .i64 1, .int .i64 2] ∧ Blk w g4 3 #[.int .i64 1, .int .i64 2, .int .i64 0]
  | 6 => v = .agg #[.int .i64 362, .int .i64 366]
  | 7 => v = .agg #[.int .i64 0, .int .i64 1, .int .i64 362, .int .i64 366]
  | 8 => v = .agg #[.int .i64 400, .int .i64 400]
  | 9 => v = .agg #[.int .i64 1, .int .i64 2, .int .i64 400, .int .i64 400]
  | 10 => v = .agg #[.int .i64 359, .int .i64 359]
  | 11 => v = .agg #[.int .i64 0, .int .i64 0, .int .i64 359, .int .i64 359]
  | 12 => v = .agg #[.int .i64 lo, .int .i64 hi]
  | 13 => v = .agg #[.int .i64 1, .int .i64 0, .int .i64 lo, .int .i64 hi]
  | 14 => ∃ g, B ≤ g ∧ v = .slice (some ⟨g, 0, none⟩) 4 4 ∧ Blk w g 46 #[.int .i64 0, .int .i64 1, .int .i64 362, .int .i64 366, .int .i64 1, .int .i64 2, .int .i64 400, .int .i64 400, .int .i64 0, .int .i64 0, .int .i64 359, .int .i64 359, .int .i64 1, .int .i64 0, .int .i64 lo, .int .i64 hi]
  | 15 => ∃ g2 g5 g3 g4 g14, (B ≤ g2 ∧ B ≤ g5 ∧ B ≤ g3 ∧ B ≤ g4 ∧ B ≤ g14) ∧ v = .agg #[.int .i64 3, .slice (some ⟨g2, 0, none⟩) 2 2, .slice (some ⟨g5, 0, none⟩) 2 2, .slice (some ⟨g14, 0, none⟩) 4 4] ∧ Blk w g2 33 #[.int .i64 360, .int .i64 364, .int .i64 540, .int .i64 545] ∧ Blk w g5 28 #[.slice (some ⟨g3, 0, none⟩) 3 3, .slice (some ⟨g4, 0, none⟩) 3 3] ∧ Blk w g3 3 #[.int .i64 0, .int .i64 1, .int .i64 2] ∧ Blk w g4 3 #[.int .i64 1, .int .i64 2, .int .i64 0] ∧ Blk w g14 46 #[.int .i64 0, .int .i64 1, .int .i64 362, .int .i64 366, .int .i64 1, .int .i64 2, .int .i64 400, .int .i64 400, .int .i64 0, .int .i64 0, .int .i64 359, .int .i64 359, .int .i64 1, .int .i64 0, .int .i64 lo, .int .i64 hi]
  | _ => True
theorem bookR_keptN (B : Nat) (lo hi : Int) : ∀ (i : Nat), i < 16 → ∀ (v : Value) (w w' : World), bookRN B lo hi i v w → Below w.heap.size w w' → bookRN B lo hi i v w' := by
  intro i hi v w w' h hb
  rcases (show i = 0 ∨ i = 1 ∨ i = 2 ∨ i = 3 ∨ i = 4 ∨ i = 5 ∨ i = 6 ∨ i = 7 ∨ i = 8 ∨ i = 9 ∨ i = 10 ∨ i = 11 ∨ i = 12 ∨ i = 13 ∨ i = 14 ∨ i = 15 by omega) with hi0 | hi1 | hi2 | hi3 | hi4 | hi5 | hi6 | hi7 | hi8 | hi9 | hi10 | hi11 | hi12 | hi13 | hi14 | hi15
  · subst hi0; exact h
  · subst hi1; exact h
  · subst hi2; obtain ⟨g, h0, h1, h2⟩ := h; exact ⟨g, h0, h1, h2.bel hb⟩
  · subst hi3; obtain ⟨g, h0, h1, h2⟩ := h; exact ⟨g, h0, h1, h2.bel hb⟩
  · subst hi4; obtain ⟨g, h0, h1, h2⟩ := h; exact ⟨g, h0, h1, h2.bel hb⟩
  · subst hi5; obtain ⟨g, g3, g4, h0, h1, h2, h3, h4⟩ := h; exact ⟨g, g3, g4, h0, h1, h2.bel hb, h3.bel hb, h4.bel hb⟩
  · subst hi6; exact h
  · subst hi7; exact h
  · subst hi8; exact h
  · subst hi9; exact h
  · subst hi10; exact h
  · subst hi11; exact h
  · subst hi12; exact h
  · subst hi13; exact h
  · subst hi14; obtain ⟨g, h0, h1, h2⟩ := h; exact ⟨g, h0, h1, h2.bel hb⟩
  · subst hi15; obtain ⟨g2, g5, g3, g4, g14, h0, h1, h2, h3, h4, h5, h6⟩ := h; exact ⟨g2, g5, g3, g4, g14, h0, h1, h2.bel hb, h3.bel hb, h4.bel hb, h5.bel hb, h6.bel hb⟩
/-- The chapter's book in memory of its own. -/
def BookPostN (w : World) (lo hi : Int) (e : Ending) (w' : World) : Prop :=
  ∃ g2 g5 g3 g4 g14, (w.heap.size ≤ g2 ∧ w.heap.size ≤ g5 ∧ w.heap.size ≤ g3 ∧ w.heap.size ≤ g4 ∧ w.heap.size ≤ g14) ∧ e = .returned (.agg #[.int .i64 3, .slice (some ⟨g2, 0, none⟩) 2 2, .slice (some ⟨g5, 0, none⟩) 2 2, .slice (some ⟨g14, 0, none⟩) 4 4]) ∧ Blk w' g2 33 #[.int .i64 360, .int .i64 364, .int .i64 540, .int .i64 545] ∧ Blk w' g5 28 #[.slice (some ⟨g3, 0, none⟩) 3 3, .slice (some ⟨g4, 0, none⟩) 3 3] ∧ Blk w' g3 3 #[.int .i64 0, .int .i64 1, .int .i64 2] ∧ Blk w' g4 3 #[.int .i64 1, .int .i64 2, .int .i64 0] ∧ Blk w' g14 46 #[.int .i64 0, .int .i64 1, .int .i64 362, .int .i64 366, .int .i64 1, .int .i64 2, .int .i64 400, .int .i64 400, .int .i64 0, .int .i64 0, .int .i64 359, .int .i64 359, .int .i64 1, .int .i64 0, .int .i64 lo, .int .i64 hi] ∧ ∃ x, w' = ext w x
set_option maxHeartbeats 2000000 in
theorem book_anyN (lo hi : Int) (w : World) : Calls Tryd.prog 41 #[.agg #[.int .i64 lo, .int .i64 hi]] w (BookPostN w lo hi) := by
  go_enter Tryd.func41, Tryd.ntmps41
  go_wp2_with fail
  generalize hW : (w.alloc _).alloc _ = W0
  have hWB : Below w.heap.size w W0 := by rw [← hW]; (repeat (first | (with_reducible exact Below.refl _ _) | (with_reducible assumption) | ((with_reducible refine below_ext_trans ?_ ?_ _); rotate_left; focus (((try dsimp only); repeat (first | omega | simp only [World.size_alloc, World.size_setCell, World.size_drew] | (with_reducible refine le_ext_of ?_) | (with_reducible refine le_ext_add ?_))); done)) | ((with_reducible refine Below.alloc ?_ ?_ _); rotate_left; focus (((try dsimp only); repeat (first | omega | simp only [World.size_alloc, World.size_setCell, World.size_drew] | (with_reducible refine le_ext_of ?_) | (with_reducible refine le_ext_add ?_))); done)) | ((with_reducible refine Below.setCell ?_ ?_ _); rotate_left; focus (((try dsimp only); repeat (first | omega | simp only [World.size_alloc, World.size_setCell, World.size_drew] | (with_reducible refine le_ext_of ?_) | (with_reducible refine le_ext_add ?_))); done)) | (with_reducible refine Below.drew ?_)))
  have KB := Lib.hid (show Blk W0 w.heap.size 33 #[.int .i64 lo, .int .i64 hi] by rw [← hW]; exact (Blk.new rfl).alloc _)
  have KC := Lib.hid (show Blk W0 (w.heap.size + 1) 26 #[.int .i64 0, .slice none 0 0, .slice none 0 0, .slice none 0 0] by rw [← hW]; exact Blk.new (by simp))
  have HZ := Lib.hid (show W0.heap.size = w.heap.size + 2 by rw [← hW]; simp)
  have HW := Lib.hid hWB
  clear hW hWB
  refine wp_region_flow 16 19 (bookRN w.heap.size lo hi) (by kernel_rfl) (by kernel_rfl) rfl (bookR_keptN _ _ _) ?_ ?_
  · intro i hin a W h1 h2 h3 h4 h5 K hK
    rcases (show i = 0 ∨ i = 1 ∨ i = 2 ∨ i = 3 ∨ i = 4 ∨ i = 5 ∨ i = 6 ∨ i = 7 ∨ i = 8 ∨ i = 9 ∨ i = 10 ∨ i = 11 ∨ i = 12 ∨ i = 13 ∨ i = 14 ∨ i = 15 by omega) with hi0 | hi1 | hi2 | hi3 | hi4 | hi5 | hi6 | hi7 | hi8 | hi9 | hi10 | hi11 | hi12 | hi13 | hi14 | hi15
    · subst hi0
      obtain ⟨⟨l⟩, D⟩ := a
      match l, h1 with
      | [x0, x1, x2, x3, x4, x5, x6, x7, x8, x9, x10, x11, x12, x13, x14, x15, x16, x17, x18], _ =>
        obtain rfl : D = [] := h2
        have H5 := Lib.hid h5
        clear h1 h3 h4 h5
        refine wpOp_get rfl ?_
        go_simp
        go_wp2_with (go_at_call 26; refine (To_any _ _ _).mono ?_; rintro e w1 ⟨rfl, y, rfl⟩)
        exact hK _ _ rfl (below_ext _ _)
    · subst hi1
      obtain ⟨⟨l⟩, D⟩ := a
      match l, h1 with
      | [x0, x1, x2, x3, x4, x5, x6, x7, x8, x9, x10, x11, x12, x13, x14, x15, x16, x17, x18], _ =>
        obtain rfl : D = [] := h2
        have H5 := Lib.hid h5
        clear h1 h3 h4 h5
        refine wpOp_get rfl ?_
        go_simp
        go_wp2_with (go_at_call 26; refine (To_any _ _ _).mono ?_; rintro e w1 ⟨rfl, y, rfl⟩)
        exact hK _ _ rfl (below_ext _ _)
    · subst hi2
      obtain ⟨⟨l⟩, D⟩ := a
      match l, h1 with
      | [x0, x1, x2, x3, x4, x5, x6, x7, x8, x9, x10, x11, x12, x13, x14, x15, x16, x17, x18], _ =>
        obtain rfl : D = [] := h2
        obtain rfl := h4 0 (by kernel_rfl)
        obtain rfl := h4 1 (by kernel_rfl)
        have H5 := Lib.hid h5
        clear h1 h3 h4 h5
        refine wpOp_get rfl ?_
        go_simp
        exact hK _ _ ⟨_, by have := H5.out.size; have := HZ.out; omega, rfl, Blk.new rfl⟩ ((Below.refl _ _).alloc (Nat.le_refl _) _)
    · subst hi3
      obtain ⟨⟨l⟩, D⟩ := a
      match l, h1 with
      | [x0, x1, x2, x3, x4, x5, x6, x7, x8, x9, x10, x11, x12, x13, x14, x15, x16, x17, x18], _ =>
        obtain rfl : D = [] := h2
        have H5 := Lib.hid h5
        clear h1 h3 h4 h5
        refine wpOp_get rfl ?_
        go_simp
        exact hK _ _ ⟨_, by have := H5.out.size; have := HZ.out; omega, rfl, Blk.new rfl⟩ ((Below.refl _ _).alloc (Nat.le_refl _) _)
    · subst hi4
      obtain ⟨⟨l⟩, D⟩ := a
      match l, h1 with
      | [x0, x1, x2, x3, x4, x5, x6, x7, x8, x9, x10, x11, x12, x13, x14, x15, x16, x17, x18], _ =>
        obtain rfl : D = [] := h2
        have H5 := Lib.hid h5
        clear h1 h3 h4 h5
        refine wpOp_get rfl ?_
        go_simp
        exact hK _ _ ⟨_, by have := H5.out.size; have := HZ.out; omega, rfl, Blk.new rfl⟩ ((Below.refl _ _).alloc (Nat.le_refl _) _)
    · subst hi5
      obtain ⟨⟨l⟩, D⟩ := a
      match l, h1 with
      | [x0, x1, x2, x3, x4, x5, x6, x7, x8, x9, x10, x11, x12, x13, x14, x15, x16, x17, x18], _ =>
        obtain rfl : D = [] := h2
        obtain ⟨g3, b3, rfl, k3⟩ := h4 3 (by kernel_rfl)
        obtain ⟨g4, b4, rfl, k4⟩ := h4 4 (by kernel_rfl)
        have H5 := Lib.hid h5
        clear h1 h3 h4 h5
        refine wpOp_get rfl ?_
        go_simp
        exact hK _ _ ⟨_, g3, g4, ⟨by have := H5.out.size; have := HZ.out; omega, b3, b4⟩, rfl, Blk.new rfl, k3.alloc _, k4.alloc _⟩ ((Below.refl _ _).alloc (Nat.le_refl _) _)
    · subst hi6
      obtain ⟨⟨l⟩, D⟩ := a
      match l, h1 with
      | [x0, x1, x2, x3, x4, x5, x6, x7, x8, x9, x10, x11, x12, x13, x14, x15, x16, x17, x18], _ =>
        obtain rfl : D = [] := h2
        have H5 := Lib.hid h5
        clear h1 h3 h4 h5
        refine wpOp_get rfl ?_
        go_simp
        go_wp2_with (go_at_call 26; refine (To_any _ _ _).mono ?_; rintro e w1 ⟨rfl, y, rfl⟩)
        exact hK _ _ rfl (below_ext _ _)
    · subst hi7
      obtain ⟨⟨l⟩, D⟩ := a
      match l, h1 with
      | [x0, x1, x2, x3, x4, x5, x6, x7, x8, x9, x10, x11, x12, x13, x14, x15, x16, x17, x18], _ =>
        obtain rfl : D = [] := h2
        obtain rfl := h4 6 (by kernel_rfl)
        have H5 := Lib.hid h5
        clear h1 h3 h4 h5
        refine wpOp_get rfl ?_
        go_simp
        go_wp2_with (go_at_call 64; refine (aim_any _ _ _ _ _).mono ?_; rintro e w1 ⟨rfl, y, rfl⟩)
        exact hK _ _ rfl (below_ext _ _)
    · subst hi8
      obtain ⟨⟨l⟩, D⟩ := a
      match l, h1 with
      | [x0, x1, x2, x3, x4, x5, x6, x7, x8, x9, x10, x11, x12, x13, x14, x15, x16, x17, x18], _ =>
        obtain rfl : D = [] := h2
        have H5 := Lib.hid h5
        clear h1 h3 h4 h5
        refine wpOp_get rfl ?_
        go_simp
        go_wp2_with (go_at_call 42; refine (Just_any _ _).mono ?_; rintro e w1 ⟨rfl, y, rfl⟩)
        exact hK _ _ rfl (below_ext _ _)
    · subst hi9
      obtain ⟨⟨l⟩, D⟩ := a
      match l, h1 with
      | [x0, x1, x2, x3, x4, x5, x6, x7, x8, x9, x10, x11, x12, x13, x14, x15, x16, x17, x18], _ =>
        obtain rfl : D = [] := h2
        obtain rfl := h4 8 (by kernel_rfl)
        have H5 := Lib.hid h5
        clear h1 h3 h4 h5
        refine wpOp_get rfl ?_
        go_simp
        go_wp2_with (go_at_call 64; refine (aim_any _ _ _ _ _).mono ?_; rintro e w1 ⟨rfl, y, rfl⟩)
        exact hK _ _ rfl (below_ext _ _)
    · subst hi10
      obtain ⟨⟨l⟩, D⟩ := a
      match l, h1 with
      | [x0, x1, x2, x3, x4, x5, x6, x7, x8, x9, x10, x11, x12, x13, x14, x15, x16, x17, x18], _ =>
        obtain rfl : D = [] := h2
        have H5 := Lib.hid h5
        clear h1 h3 h4 h5
        refine wpOp_get rfl ?_
        go_simp
        go_wp2_with (go_at_call 42; refine (Just_any _ _).mono ?_; rintro e w1 ⟨rfl, y, rfl⟩)
        exact hK _ _ rfl (below_ext _ _)
    · subst hi11
      obtain ⟨⟨l⟩, D⟩ := a
      match l, h1 with
      | [x0, x1, x2, x3, x4, x5, x6, x7, x8, x9, x10, x11, x12, x13, x14, x15, x16, x17, x18], _ =>
        obtain rfl : D = [] := h2
        obtain rfl := h4 10 (by kernel_rfl)
        have H5 := Lib.hid h5
        clear h1 h3 h4 h5
        refine wpOp_get rfl ?_
        go_simp
        go_wp2_with (go_at_call 64; refine (aim_any _ _ _ _ _).mono ?_; rintro e w1 ⟨rfl, y, rfl⟩)
        exact hK _ _ rfl (below_ext _ _)
    · subst hi12
      obtain ⟨⟨l⟩, D⟩ := a
      match l, h1 with
      | [x0, x1, x2, x3, x4, x5, x6, x7, x8, x9, x10, x11, x12, x13, x14, x15, x16, x17, x18], _ =>
        obtain rfl : D = [] := h2
        obtain rfl : x1 = .pointer (some ⟨w.heap.size, 0, none⟩) := h3 1 (by kernel_rfl)
        have kb : Blk W w.heap.size 33 #[.int .i64 lo, .int .i64 hi] := (h5.block _ KB.out.lt).trans KB.out
        have q0 := kb.cell 0
        have q1 := kb.cell 1
        have ql := kb.lt
        simp only [List.size_toArray, List.length_cons, List.length_nil, Nat.reduceAdd, Nat.reduceLT, getElem?_pos, List.getElem_toArray, List.getElem_cons_zero, List.getElem_cons_succ] at q0 q1
        clear h1 h3 h4 h5 kb
        refine wpOp_get rfl ?_
        go_simp
        exact hK _ _ rfl (Below.refl _ _)
    · subst hi13
      obtain ⟨⟨l⟩, D⟩ := a
      match l, h1 with
      | [x0, x1, x2, x3, x4, x5, x6, x7, x8, x9, x10, x11, x12, x13, x14, x15, x16, x17, x18], _ =>
        obtain rfl : D = [] := h2
        obtain rfl := h4 12 (by kernel_rfl)
        have H5 := Lib.hid h5
        clear h1 h3 h4 h5
        refine wpOp_get rfl ?_
        go_simp
        go_wp2_with (go_at_call 64; refine (aim_any _ _ _ _ _).mono ?_; rintro e w1 ⟨rfl, y, rfl⟩)
        exact hK _ _ rfl (below_ext _ _)
    · subst hi14
      obtain ⟨⟨l⟩, D⟩ := a
      match l, h1 with
      | [x0, x1, x2, x3, x4, x5, x6, x7, x8, x9, x10, x11, x12, x13, x14, x15, x16, x17, x18], _ =>
        obtain rfl : D = [] := h2
        obtain rfl := h4 7 (by kernel_rfl)
        obtain rfl := h4 9 (by kernel_rfl)
        obtain rfl := h4 11 (by kernel_rfl)
        obtain rfl := h4 13 (by kernel_rfl)
        have H5 := Lib.hid h5
        clear h1 h3 h4 h5
        refine wpOp_get rfl ?_
        go_simp
        exact hK _ _ ⟨_, by have := H5.out.size; have := HZ.out; omega, rfl, Blk.new rfl⟩ ((Below.refl _ _).alloc (Nat.le_refl _) _)
    · subst hi15
      obtain ⟨⟨l⟩, D⟩ := a
      match l, h1 with
      | [x0, x1, x2, x3, x4, x5, x6, x7, x8, x9, x10, x11, x12, x13, x14, x15, x16, x17, x18], _ =>
        obtain rfl : D = [] := h2
        obtain ⟨g2, b2, rfl, k2⟩ := h4 2 (by kernel_rfl)
        obtain ⟨g5, g3, g4, b5, rfl, k5, k3, k4⟩ := h4 5 (by kernel_rfl)
        obtain ⟨g14, hg, rfl, k14⟩ := h4 14 (by kernel_rfl)
        have H5 := Lib.hid h5
        clear h1 h3 h4 h5
        refine wpOp_get rfl ?_
        go_simp
        exact hK _ _ ⟨g2, g5, g3, g4, g14, ⟨b2, b5.1, b5.2.1, b5.2.2, hg⟩, rfl, k2, k5, k3, k4, k14⟩ (Below.refl _ _)
  · intro a W h1 h2 h3 h4 h5
    obtain ⟨⟨l⟩, D⟩ := a
    match l, h1 with
    | [x0, x1, x2, x3, x4, x5, x6, x7, x8, x9, x10, x11, x12, x13, x14, x15, x16, x17, x18], _ =>
      obtain rfl : D = [] := h2
      obtain rfl : x2 = .pointer (some ⟨w.heap.size + 1, 0, none⟩) := h3 2 (by kernel_rfl)
      obtain ⟨g2, g5, g3, g4, g14, hg, rfl, k2, k5, k3, k4, k14⟩ := h4 15 (by decide)
      have kb : Blk W (w.heap.size + 1) 26 #[.int .i64 0, .slice none 0 0, .slice none 0 0, .slice none 0 0] := (h5.block _ KC.out.lt).trans KC.out
      have q0 := kb.cell 0
      have q1 := kb.cell 1
      have q2 := kb.cell 2
      have q3 := kb.cell 3
      have f0 := kb.frozen 0
      have f1 := kb.frozen 1
      have f2 := kb.frozen 2
      have f3 := kb.frozen 3
      have ql := kb.lt
      simp only [List.size_toArray, List.length_cons, List.length_nil, Nat.reduceAdd, Nat.reduceLT, getElem?_pos, List.getElem_toArray, List.getElem_cons_zero, List.getElem_cons_succ] at q0 q1 q2 q3
      have KK := Lib.hid (show g2 ≠ w.heap.size + 1 ∧ g5 ≠ w.heap.size + 1 ∧ g3 ≠ w.heap.size + 1 ∧ g4 ≠ w.heap.size + 1 ∧ g14 ≠ w.heap.size + 1 from ⟨fun e => by subst e; exact Blk.noteq k2 kb (by decide), fun e => by subst e; exact Blk.noteq k5 kb (by decide), fun e => by subst e; exact Blk.noteq k3 kb (by decide), fun e => by subst e; exact Blk.noteq k4 kb (by decide), fun e => by subst e; exact Blk.noteq k14 kb (by decide)⟩)
      have H5 := Lib.hid h5
      clear h1 h3 h4 h5 kb
      simp only [List.drop_succ_cons, List.drop_zero]
      go_wp2_with fail
      refine bodyPost_ret (v := .agg #[.int .i64 3, .slice (some ⟨g2, 0, none⟩) 2 2, .slice (some ⟨g5, 0, none⟩) 2 2, .slice (some ⟨g14, 0, none⟩) 4 4]) (by simp [results, Tryd.results41, go_sem, q0, q1, q2, q3, f0, f1, f2, f3, ql]) rfl ?_
      obtain ⟨n2, n5, n3, n4, n14⟩ := KK.out
      refine ⟨g2, g5, g3, g4, g14, hg, rfl, ?_, ?_, ?_, ?_, ?_, ?_⟩
      · exact (((k2.setOther n2 _ _).setOther n2 _ _).setOther n2 _ _).setOther n2 _ _
      · exact (((k5.setOther n5 _ _).setOther n5 _ _).setOther n5 _ _).setOther n5 _ _
      · exact (((k3.setOther n3 _ _).setOther n3 _ _).setOther n3 _ _).setOther n3 _ _
      · exact (((k4.setOther n4 _ _).setOther n4 _ _).setOther n4 _ _).setOther n4 _ _
      · exact (((k14.setOther n14 _ _).setOther n14 _ _).setOther n14 _ _).setOther n14 _ _
      · have hb : Below w.heap.size w W := HW.out.trans (H5.out.mono HW.out.size)
        exact ext_of (by (repeat (first | (with_reducible exact Below.refl _ _) | (with_reducible assumption) | ((with_reducible refine below_ext_trans ?_ ?_ _); rotate_left; focus (((try dsimp only); repeat (first | omega | simp only [World.size_alloc, World.size_setCell, World.size_drew] | (with_reducible refine le_ext_of ?_) | (with_reducible refine le_ext_add ?_))); done)) | ((with_reducible refine Below.alloc ?_ ?_ _); rotate_left; focus (((try dsimp only); repeat (first | omega | simp only [World.size_alloc, World.size_setCell, World.size_drew] | (with_reducible refine le_ext_of ?_) | (with_reducible refine le_ext_add ?_))); done)) | ((with_reducible refine Below.setCell ?_ ?_ _); rotate_left; focus (((try dsimp only); repeat (first | omega | simp only [World.size_alloc, World.size_setCell, World.size_drew] | (with_reducible refine le_ext_of ?_) | (with_reducible refine le_ext_add ?_))); done)) | (with_reducible refine Below.drew ?_))))
end Go.Proofs.YtdmicngnbcdkdaaDoor

namespace Go.Proofs.YtdmicngnbcdkdaaDoor
open Go Go.RowKit

set_option maxHeartbeats 1000000 in
theorem own_fullN (w : World) : Calls Tryd.prog 40 #[] w (BookPostN w 541 543) := by
  go_enter Tryd.func40, Tryd.ntmps40
  go_wp2_with (first | (go_at_call 26; refine (To_any _ _ _).mono ?_; rintro e w1 ⟨rfl, y, rfl⟩) | (go_at_call 41; refine (book_anyN _ _ _).mono ?_; rintro e w1 ⟨g2, g5, g3, g4, g14, ⟨n2, n5, n3, n4, n14⟩, rfl, k2, k5, k3, k4, k14, z, rfl⟩))
  rw [ext_ext] at k2 k5 k3 k4 k14
  have kb : Blk (ext _ (y.comp z)) w.heap.size 26 #[.int .i64 0, .slice none 0 0, .slice none 0 0, .slice none 0 0] := (Blk.new rfl).ext (y.comp z)
  refine bodyPost_ret (v := .agg #[.int .i64 3, .slice (some ⟨g2, 0, none⟩) 2 2, .slice (some ⟨g5, 0, none⟩) 2 2, .slice (some ⟨g14, 0, none⟩) 4 4]) (by simp [results, Tryd.results40, go_sem]) rfl ?_
  exact ⟨g2, g5, g3, g4, g14, ⟨Nat.le_trans (by ((try dsimp only); repeat (first | omega | simp only [World.size_alloc, World.size_setCell, World.size_drew] | (with_reducible refine le_ext_of ?_) | (with_reducible refine le_ext_add ?_)))) n2, Nat.le_trans (by ((try dsimp only); repeat (first | omega | simp only [World.size_alloc, World.size_setCell, World.size_drew] | (with_reducible refine le_ext_of ?_) | (with_reducible refine le_ext_add ?_)))) n5, Nat.le_trans (by ((try dsimp only); repeat (first | omega | simp only [World.size_alloc, World.size_setCell, World.size_drew] | (with_reducible refine le_ext_of ?_) | (with_reducible refine le_ext_add ?_)))) n3, Nat.le_trans (by ((try dsimp only); repeat (first | omega | simp only [World.size_alloc, World.size_setCell, World.size_drew] | (with_reducible refine le_ext_of ?_) | (with_reducible refine le_ext_add ?_)))) n4, Nat.le_trans (by ((try dsimp only); repeat (first | omega | simp only [World.size_alloc, World.size_setCell, World.size_drew] | (with_reducible refine le_ext_of ?_) | (with_reducible refine le_ext_add ?_)))) n14⟩, rfl, blk4 k2 kb (by decide) _ _ _ _, blk4 k5 kb (by decide) _ _ _ _, blk4 k3 kb (by decide) _ _ _ _, blk4 k4 kb (by decide) _ _ _ _, blk4 k14 kb (by decide) _ _ _ _, ext_of (by (repeat (first | (with_reducible exact Below.refl _ _) | (with_reducible assumption) | ((with_reducible refine below_ext_trans ?_ ?_ _); rotate_left; focus (((try dsimp only); repeat (first | omega | simp only [World.size_alloc, World.size_setCell, World.size_drew] | (with_reducible refine le_ext_of ?_) | (with_reducible refine le_ext_add ?_))); done)) | ((with_reducible refine Below.alloc ?_ ?_ _); rotate_left; focus (((try dsimp only); repeat (first | omega | simp only [World.size_alloc, World.size_setCell, World.size_drew] | (with_reducible refine le_ext_of ?_) | (with_reducible refine le_ext_add ?_))); done)) | ((with_reducible refine Below.setCell ?_ ?_ _); rotate_left; focus (((try dsimp only); repeat (first | omega | simp only [World.size_alloc, World.size_setCell, World.size_drew] | (with_reducible refine le_ext_of ?_) | (with_reducible refine le_ext_add ?_))); done)) | (with_reducible refine Below.drew ?_))))⟩
set_option maxHeartbeats 1000000 in
theorem late_fullN (w : World) : Calls Tryd.prog 46 #[] w (BookPostN w 542 542) := by
  go_enter Tryd.func46, Tryd.ntmps46
  go_wp2_with (first | (go_at_call 42; refine (Just_any _ _).mono ?_; rintro e w1 ⟨rfl, y, rfl⟩) | (go_at_call 41; refine (book_anyN _ _ _).mono ?_; rintro e w1 ⟨g2, g5, g3, g4, g14, ⟨n2, n5, n3, n4, n14⟩, rfl, k2, k5, k3, k4, k14, z, rfl⟩))
  rw [ext_ext] at k2 k5 k3 k4 k14
  have kb : Blk (ext _ (y.comp z)) w.heap.size 26 #[.int .i64 0, .slice none 0 0, .slice none 0 0, .slice none 0 0] := (Blk.new rfl).ext (y.comp z)
  refine bodyPost_ret (v := .agg #[.int .i64 3, .slice (some ⟨g2, 0, none⟩) 2 2, .slice (some ⟨g5, 0, none⟩) 2 2, .slice (some ⟨g14, 0, none⟩) 4 4]) (by simp [results, Tryd.results46, go_sem]) rfl ?_
  exact ⟨g2, g5, g3, g4, g14, ⟨Nat.le_trans (by ((try dsimp only); repeat (first | omega | simp only [World.size_alloc, World.size_setCell, World.size_drew] | (with_reducible refine le_ext_of ?_) | (with_reducible refine le_ext_add ?_)))) n2, Nat.le_trans (by ((try dsimp only); repeat (first | omega | simp only [World.size_alloc, World.size_setCell, World.size_drew] | (with_reducible refine le_ext_of ?_) | (with_reducible refine le_ext_add ?_)))) n5, Nat.le_trans (by ((try dsimp only); repeat (first | omega | simp only [World.size_alloc, World.size_setCell, World.size_drew] | (with_reducible refine le_ext_of ?_) | (with_reducible refine le_ext_add ?_)))) n3, Nat.le_trans (by ((try dsimp only); repeat (first | omega | simp only [World.size_alloc, World.size_setCell, World.size_drew] | (with_reducible refine le_ext_of ?_) | (with_reducible refine le_ext_add ?_)))) n4, Nat.le_trans (by ((try dsimp only); repeat (first | omega | simp only [World.size_alloc, World.size_setCell, World.size_drew] | (with_reducible refine le_ext_of ?_) | (with_reducible refine le_ext_add ?_)))) n14⟩, rfl, blk4 k2 kb (by decide) _ _ _ _, blk4 k5 kb (by decide) _ _ _ _, blk4 k3 kb (by decide) _ _ _ _, blk4 k4 kb (by decide) _ _ _ _, blk4 k14 kb (by decide) _ _ _ _, ext_of (by (repeat (first | (with_reducible exact Below.refl _ _) | (with_reducible assumption) | ((with_reducible refine below_ext_trans ?_ ?_ _); rotate_left; focus (((try dsimp only); repeat (first | omega | simp only [World.size_alloc, World.size_setCell, World.size_drew] | (with_reducible refine le_ext_of ?_) | (with_reducible refine le_ext_add ?_))); done)) | ((with_reducible refine Below.alloc ?_ ?_ _); rotate_left; focus (((try dsimp only); repeat (first | omega | simp only [World.size_alloc, World.size_setCell, World.size_drew] | (with_reducible refine le_ext_of ?_) | (with_reducible refine le_ext_add ?_))); done)) | ((with_reducible refine Below.setCell ?_ ?_ _); rotate_left; focus (((try dsimp only); repeat (first | omega | simp only [World.size_alloc, World.size_setCell, World.size_drew] | (with_reducible refine le_ext_of ?_) | (with_reducible refine le_ext_add ?_))); done)) | (with_reducible refine Below.drew ?_))))⟩
end Go.Proofs.YtdmicngnbcdkdaaDoor

