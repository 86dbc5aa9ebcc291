/- Contracts of what statements share: spans. -/
/- Contract of the chapter's book. -/
/- What lies in blocks that are known whole; the chapter's books, own and late. -/
/- The chapter's book torn: one shot more. -/
import Derived.Test.YtdmicngnbcdkdaaDoorRFl
import Derived.Test.YtdmicngnbcdkdaaDoorRTc
import Derived.Test.YtdmicngnbcdkdaaDoorRUa
import Derived.Test.YtdmicngnbcdkdaaDoorRUf
set_option linter.unusedSimpArgs false
set_option linter.unusedVariables false
namespace Go.Proofs.YtdmicngnbcdkdaaDoor
open Go Go.RowKit

theorem To_any (a b : Int) (w : World) : Calls Tryd.prog 26 #[.int .i64 a, .int .i64 b] w fun e w' => e = .returned (.agg #[.int .i64 a, .int .i64 b]) ∧ ∃ x, w' = ext w x := by
  go_enter Tryd.func26, Tryd.ntmps26
  go_wp2
  refine bodyPost_ret (v := .agg #[.int .i64 a, .int .i64 b]) (by simp [results, Tryd.results26, go_sem]) rfl ⟨rfl, ?_⟩
  (exact ext_of (by (repeat (first | (with_reducible exact Below.refl _ _) | (with_reducible assumption) | ((with_reducible refine below_ext_trans ?_ ?_ _); rotate_left; focus (((try dsimp only); repeat (first | omega | simp only [World.size_alloc, World.size_setCell, World.size_drew] | (with_reducible refine le_ext_of ?_) | (with_reducible refine le_ext_add ?_))); done)) | ((with_reducible refine Below.alloc ?_ ?_ _); rotate_left; focus (((try dsimp only); repeat (first | omega | simp only [World.size_alloc, World.size_setCell, World.size_drew] | (with_reducible refine le_ext_of ?_) | (with_reducible refine le_ext_add ?_))); done)) | ((with_reducible refine Below.setCell ?_ ?_ _); rotate_left; focus (((try dsimp only); repeat (first | omega | simp only [World.size_alloc, World.size_setCell, World.size_drew] | (with_reducible refine le_ext_of ?_) | (with_reducible refine le_ext_add ?_))); done)) | (with_reducible refine Below.drew ?_)))))
theorem Just_any (a : Int) (w : World) : Calls Tryd.prog 42 #[.int .i64 a] w fun e w' => e = .returned (.agg #[.int .i64 a, .int .i64 a]) ∧ ∃ x, w' = ext w x := by
  go_enter Tryd.func42, Tryd.ntmps42
  go_wp2
  refine bodyPost_ret (v := .agg #[.int .i64 a, .int .i64 a]) (by simp [results, Tryd.results42, go_sem]) rfl ⟨rfl, ?_⟩
  (exact ext_of (by (repeat (first | (with_reducible exact Below.refl _ _) | (with_reducible assumption) | ((with_reducible refine below_ext_trans ?_ ?_ _); rotate_left; focus (((try dsimp only); repeat (first | omega | simp only [World.size_alloc, World.size_setCell, World.size_drew] | (with_reducible refine le_ext_of ?_) | (with_reducible refine le_ext_add ?_))); done)) | ((with_reducible refine Below.alloc ?_ ?_ _); rotate_left; focus (((try dsimp only); repeat (first | omega | simp only [World.size_alloc, World.size_setCell, World.size_drew] | (with_reducible refine le_ext_of ?_) | (with_reducible refine le_ext_add ?_))); done)) | ((with_reducible refine Below.setCell ?_ ?_ _); rotate_left; focus (((try dsimp only); repeat (first | omega | simp only [World.size_alloc, World.size_setCell, World.size_drew] | (with_reducible refine le_ext_of ?_) | (with_reducible refine le_ext_add ?_))); done)) | (with_reducible refine Below.drew ?_)))))
theorem aim_any (s c a b : Int) (w : World) : Calls Tryd.prog 64 #[.int .i64 s, .int .i64 c, .agg #[.int .i64 a, .int .i64 b]] w fun e w' => e = .returned (.agg #[.int .i64 s, .int .i64 c, .int .i64 a, .int .i64 b]) ∧ ∃ x, w' = ext w x := by
  go_enter Tryd.func64, Tryd.ntmps64
  go_wp2
  refine bodyPost_ret (v := .agg #[.int .i64 s, .int .i64 c, .int .i64 a, .int .i64 b]) (by simp [results, Tryd.results64, go_sem]) rfl ⟨rfl, ?_⟩
  (exact ext_of (by (repeat (first | (with_reducible exact Below.refl _ _) | (with_reducible assumption) | ((with_reducible refine below_ext_trans ?_ ?_ _); rotate_left; focus (((try dsimp only); repeat (first | omega | simp only [World.size_alloc, World.size_setCell, World.size_drew] | (with_reducible refine le_ext_of ?_) | (with_reducible refine le_ext_add ?_))); done)) | ((with_reducible refine Below.alloc ?_ ?_ _); rotate_left; focus (((try dsimp only); repeat (first | omega | simp only [World.size_alloc, World.size_setCell, World.size_drew] | (with_reducible refine le_ext_of ?_) | (with_reducible refine le_ext_add ?_))); done)) | ((with_reducible refine Below.setCell ?_ ?_ _); rotate_left; focus (((try dsimp only); repeat (first | omega | simp only [World.size_alloc, World.size_setCell, World.size_drew] | (with_reducible refine le_ext_of ?_) | (with_reducible refine le_ext_add ?_))); done)) | (with_reducible refine Below.drew ?_)))))
end Go.Proofs.YtdmicngnbcdkdaaDoor

namespace Go.Proofs.YtdmicngnbcdkdaaDoor
open Go Go.RowKit

def bookW (lo hi : Int) : Bk := { n := 3, bs := [(360, 364), (540, 545)], os := [[0, 1, 2], [1, 2, 0]], ss := [⟨0, 1, 362, 366⟩, ⟨1, 2, 400, 400⟩, ⟨0, 0, 359, 359⟩, ⟨1, 0, lo, hi⟩] }
def bookR (B : Nat) (lo hi : Int) (i : Nat) (v : Value) (w : World) : Prop :=
  match i with
  | 0 => v = .agg #[.int .i64 360, .int .i64 364]
  | 1 => v = .agg #[.int .i64 540, .int .i64 545]
  | 2 => ∃ g, v = .slice (some ⟨g, 0, none⟩) 2 2 ∧ Blk w g 33 #[.int .i64 360, .int .i64 364, .int .i64 540, .int .i64 545]
  | 3 => ∃ g, v = .slice (some ⟨g, 0, none⟩) 3 3 ∧ Blk w g 3 #[.int .i64 0, .int .i64 1, .int .i64 2]
  | 4 => ∃ g, v = .slice (some ⟨g, 0, none⟩) 3 3 ∧ Blk w g 3 #[.int .i64 1, .int .i64 2, .int .i64 0]
  | 5 => ∃ g g3 g4, v = .slice (some ⟨g, 0, none⟩) 2 2 ∧ Blk w g 28 #[.slice (some ⟨g3, 0, none⟩) 3 3, .slice (some ⟨g4, 0, none⟩) 3 3] ∧ Blk w g3 3 #[.int .i64 0, .int .i64 1, .int .i64 2] ∧ Blk w g4 3 #[.int .i64 1, .int .i64 2, .int .i64 0]
  | 6 => v = .agg #[.int .i64 362, .int .i64 366]
  | 7 => v = .agg #[.int .i64 0, .int .i64 1, .int .i64 362, .int .i64 366]
  | 8 => v = .agg #[.int .i64 400, .int .i64 400]
  | 9 => v = .agg #[.int .i64 1, .int .i64 2, .int .i64 400, .int .i64 400]
  | 10 => v = .agg #[.int .i64 359, .int .i64 359]
  | 11 => v = .agg #[.int .i64 0, .int .i64 0, .int .i64 359, .int .i64 359]
  | 12 => v = .agg #[.int .i64 lo, .int .i64 hi]
  | 13 => v = .agg #[.int .i64 1, .int .i64 0, .int .i64 lo, .int .i64 hi]
  | 14 => ∃ g, B ≤ g ∧ v = .slice (some ⟨g, 0, none⟩) 4 4 ∧ Blk w g 46 #[.int .i64 0, .int .i64 1, .int .i64 362, .int .i64 366, .int .i64 1, .int .i64 2, .int .i64 400, .int .i64 400, .int .i64 0, .int .i64 0, .int .i64 359, .int .i64 359, .int .i64 1, .int .i64 0, .int .i64 lo, .int .i64 hi]
  | 15 => ∃ g2 g5 g3 g4 g14, B ≤ g14 ∧ v = .agg #[.int .i64 3, .slice (some ⟨g2, 0, none⟩) 2 2, .slice (some ⟨g5, 0, none⟩) 2 2, .slice (some ⟨g14, 0, none⟩) 4 4] ∧ Blk w g2 33 #[.int .i64 360, .int .i64 364, .int .i64 540, .int .i64 545] ∧ Blk w g5 28 #[.slice (some ⟨g3, 0, none⟩) 3 3, .slice (some ⟨g4, 0, none⟩) 3 3] ∧ Blk w g3 3 #[.int .i64 0, .int .i64 1, .int .i64 2] ∧ Blk w g4 3 #[.int .i64 1, .int .i64 2, .int .i64 0] ∧ Blk w g14 46 #[.int .i64 0, .int .i64 1, .int .i64 362, .int .i64 366, .int .i64 1, .int .i64 2, .int .i64 400, .int .i64 400, .int .i64 0, .int .i64 0, .int .i64 359, .int .i64 359, .int .i64 1, .int .i64 0, .int .i64 lo, .int .i64 hi]
  | _ => True
theorem Blk.noteq {w : World} {g : Nat} {t t' : TypeId} {cs cs' : Array Value} (h : Blk w g t cs) (h' : Blk w g t' cs') (hne : t ≠ t') : False := by
  unfold Blk at h h'
  rw [h] at h'
  simp at h'
  exact hne h'.2
theorem Blk.bel {w w' : World} {g : Nat} {t : TypeId} {cs : Array Value} (h : Blk w g t cs) (hb : Below w.heap.size w w') : Blk w' g t cs := (hb.block g h.lt).trans h
theorem bookR_kept (B : Nat) (lo hi : Int) : ∀ (i : Nat), i < 16 → ∀ (v : Value) (w w' : World), bookR B lo hi i v w → Below w.heap.size w w' → bookR B lo hi i v w' := by
  intro i hi v w w' h hb
  rcases (show i = 0 ∨ i = 1 ∨ i = 2 ∨ i = 3 ∨ i = 4 ∨ i = 5 ∨ i = 6 ∨ i = 7 ∨ i = 8 ∨ i = 9 ∨ i = 10 ∨ i = 11 ∨ i = 12 ∨ i = 13 ∨ i = 14 ∨ i = 15 by omega) with hi0 | hi1 | hi2 | hi3 | hi4 | hi5 | hi6 | hi7 | hi8 | hi9 | hi10 | hi11 | hi12 | hi13 | hi14 | hi15
  · subst hi0; exact h
  · subst hi1; exact h
  · subst hi2; obtain ⟨g, h1, h2⟩ := h; exact ⟨g, h1, h2.bel hb⟩
  · subst hi3; obtain ⟨g, h1, h2⟩ := h; exact ⟨g, h1, h2.bel hb⟩
  · subst hi4; obtain ⟨g, h1, h2⟩ := h; exact ⟨g, h1, h2.bel hb⟩
  · subst hi5; obtain ⟨g, g3, g4, h1, h2, h3, h4⟩ := h; exact ⟨g, g3, g4, h1, h2.bel hb, h3.bel hb, h4.bel hb⟩
  · subst hi6; exact h
  · subst hi7; exact h
  · subst hi8; exact h
  · subst hi9; exact h
  · subst hi10; exact h
  · subst hi11; exact h
  · subst hi12; exact h
  · subst hi13; exact h
  · subst hi14; obtain ⟨g, h0, h1, h2⟩ := h; exact ⟨g, h0, h1, h2.bel hb⟩
  · subst hi15; obtain ⟨g2, g5, g3, g4, g14, h0, h1, h2, h3, h4, h5, h6⟩ := h; exact ⟨g2, g5, g3, g4, g14, h0, h1, h2.bel hb, h3.bel hb, h4.bel hb, h5.bel hb, h6.bel hb⟩
/-- The chapter's book in memory of its own. -/
def BookPost (w : World) (lo hi : Int) (e : Ending) (w' : World) : Prop :=
  ∃ g2 g5 g3 g4 g14, w.heap.size ≤ g14 ∧ e = .returned (.agg #[.int .i64 3, .slice (some ⟨g2, 0, none⟩) 2 2, .slice (some ⟨g5, 0, none⟩) 2 2, .slice (some ⟨g14, 0, none⟩) 4 4]) ∧ Blk w' g2 33 #[.int .i64 360, .int .i64 364, .int .i64 540, .int .i64 545] ∧ Blk w' g5 28 #[.slice (some ⟨g3, 0, none⟩) 3 3, .slice (some ⟨g4, 0, none⟩) 3 3] ∧ Blk w' g3 3 #[.int .i64 0, .int .i64 1, .int .i64 2] ∧ Blk w' g4 3 #[.int .i64 1, .int .i64 2, .int .i64 0] ∧ Blk w' g14 46 #[.int .i64 0, .int .i64 1, .int .i64 362, .int .i64 366, .int .i64 1, .int .i64 2, .int .i64 400, .int .i64 400, .int .i64 0, .int .i64 0, .int .i64 359, .int .i64 359, .int .i64 1, .int .i64 0, .int .i64 lo, .int .i64 hi] ∧ ∃ x, w' = ext w x
set_option maxHeartbeats 2000000 in
theorem book_any (lo hi : Int) (w : World) : Calls Tryd.prog 41 #[.agg #[.int .i64 lo, .int .i64 hi]] w (BookPost w lo hi) := by
  go_enter Tryd.func41, Tryd.ntmps41
  go_wp2_with fail
  generalize hW : (w.alloc _).alloc _ = W0
  have hWB : Below w.heap.size w W0 := by rw [← hW]; (repeat (first | (with_reducible exact Below.refl _ _) | (with_reducible assumption) | ((with_reducible refine below_ext_trans ?_ ?_ _); rotate_left; focus (((try dsimp only); repeat (first | omega | simp only [World.size_alloc, World.size_setCell, World.size_drew] | (with_reducible refine le_ext_of ?_) | (with_reducible refine le_ext_add ?_))); done)) | ((with_reducible refine Below.alloc ?_ ?_ _); rotate_left; focus (((try dsimp only); repeat (first | omega | simp only [World.size_alloc, World.size_setCell, World.size_drew] | (with_reducible refine le_ext_of ?_) | (with_reducible refine le_ext_add ?_))); done)) | ((with_reducible refine Below.setCell ?_ ?_ _); rotate_left; focus (((try dsimp only); repeat (first | omega | simp only [World.size_alloc, World.size_setCell, World.size_drew] | (with_reducible refine le_ext_of ?_) | (with_reducible refine le_ext_add ?_))); done)) | (with_reducible refine Below.drew ?_)))
  have KB := Lib.hid (show Blk W0 w.heap.size 33 #[.int .i64 lo, .int .i64 hi] by rw [← hW]; exact (Blk.new rfl).alloc _)
  have KC := Lib.hid (show Blk W0 (w.heap.size + 1) 26 #[.int .i64 0, .slice none 0 0, .slice none 0 0, .slice none 0 0] by rw [← hW]; exact Blk.new (by simp))
  have HZ := Lib.hid (show W0.heap.size = w.heap.size + 2 by rw [← hW]; simp)
  have HW := Lib.hid hWB
  clear hW hWB
  refine wp_region_flow 16 19 (bookR w.heap.size lo hi) (by kernel_rfl) (by kernel_rfl) rfl (bookR_kept _ _ _) ?_ ?_
  · intro i hin a W h1 h2 h3 h4 h5 K hK
    rcases (show i = 0 ∨ i = 1 ∨ i = 2 ∨ i = 3 ∨ i = 4 ∨ i = 5 ∨ i = 6 ∨ i = 7 ∨ i = 8 ∨ i = 9 ∨ i = 10 ∨ i = 11 ∨ i = 12 ∨ i = 13 ∨ i = 14 ∨ i = 15 by omega) with hi0 | hi1 | hi2 | hi3 | hi4 | hi5 | hi6 | hi7 | hi8 | hi9 | hi10 | hi11 | hi12 | hi13 | hi14 | hi15
    · subst hi0
      obtain ⟨⟨l⟩, D⟩ := a
      match l, h1 with
      | [x0, x1, x2, x3, x4, x5, x6, x7, x8, x9, x10, x11, x12, x13, x14, x15, x16, x17, x18], _ =>
        obtain rfl : D = [] := h2
        have H5 := Lib.hid h5
        clear h1 h3 h4 h5
        refine wpOp_get rfl ?_
        go_simp
        go_wp2_with (go_at_call 26; refine (To_any _ _ _).mono ?_; rintro e w1 ⟨rfl, y, rfl⟩)
        exact hK _ _ rfl (below_ext _ _)
    · subst hi1
      obtain ⟨⟨l⟩, D⟩ := a
      match l, h1 with
      | [x0, x1, x2, x3, x4, x5, x6, x7, x8, x9, x10, x11, x12, x13, x14, x15, x16, x17, x18], _ =>
        obtain rfl : D = [] := h2
        have H5 := Lib.hid h5
        clear h1 h3 h4 h5
        refine wpOp_get rfl ?_
        go_simp
        go_wp2_with (go_at_call 26; refine (To_any _ _ _).mono ?_; rintro e w1 ⟨rfl, y, rfl⟩)
        exact hK _ _ rfl (below_ext _ _)
    · subst hi2
      obtain ⟨⟨l⟩, D⟩ := a
      match l, h1 with
      | [x0, x1, x2, x3, x4, x5, x6, x7, x8, x9, x10, x11, x12, x13, x14, x15, x16, x17, x18], _ =>
        obtain rfl : D = [] := h2
        obtain rfl := h4 0 (by kernel_rfl)
        obtain rfl := h4 1 (by kernel_rfl)
        have H5 := Lib.hid h5
        clear h1 h3 h4 h5
        refine wpOp_get rfl ?_
        go_simp
        exact hK _ _ ⟨_, rfl, Blk.new rfl⟩ ((Below.refl _ _).alloc (Nat.le_refl _) _)
    · subst hi3
      obtain ⟨⟨l⟩, D⟩ := a
      match l, h1 with
      | [x0, x1, x2, x3, x4, x5, x6, x7, x8, x9, x10, x11, x12, x13, x14, x15, x16, x17, x18], _ =>
        obtain rfl : D = [] := h2
        have H5 := Lib.hid h5
        clear h1 h3 h4 h5
        refine wpOp_get rfl ?_
        go_simp
        exact hK _ _ ⟨_, rfl, Blk.new rfl⟩ ((Below.refl _ _).alloc (Nat.le_refl _) _)
    · subst hi4
      obtain ⟨⟨l⟩, D⟩ := a
      match l, h1 with
      | [x0, x1, x2, x3, x4, x5, x6, x7, x8, x9, x10, x11, x12, x13, x14, x15, x16, x17, x18], _ =>
        obtain rfl : D = [] := h2
        have H5 := Lib.hid h5
        clear h1 h3 h4 h5
        refine wpOp_get rfl ?_
        go_simp
        exact hK _ _ ⟨_, rfl, Blk.new rfl⟩ ((Below.refl _ _).alloc (Nat.le_refl _) _)
    · subst hi5
      obtain ⟨⟨l⟩, D⟩ := a
      match l, h1 with
      | [x0, x1, x2, x3, x4, x5, x6, x7, x8, x9, x10, x11, x12, x13, x14, x15, x16, x17, x18], _ =>
        obtain rfl : D = [] := h2
        obtain ⟨g3, rfl, k3⟩ := h4 3 (by kernel_rfl)
        obtain ⟨g4, rfl, k4⟩ := h4 4 (by kernel_rfl)
        have H5 := Lib.hid h5
        clear h1 h3 h4 h5
        refine wpOp_get rfl ?_
        go_simp
        exact hK _ _ ⟨_, g3, g4, rfl, Blk.new rfl, k3.alloc _, k4.alloc _⟩ ((Below.refl _ _).alloc (Nat.le_refl _) _)
    · subst hi6
      obtain ⟨⟨l⟩, D⟩ := a
      match l, h1 with
      | [x0, x1, x2, x3, x4, x5, x6, x7, x8, x9, x10, x11, x12, x13, x14, x15, x16, x17, x18], _ =>
        obtain rfl : D = [] := h2
        have H5 := Lib.hid h5
        clear h1 h3 h4 h5
        refine wpOp_get rfl ?_
        go_simp
        go_wp2_with (go_at_call 26; refine (To_any _ _ _).mono ?_; rintro e w1 ⟨rfl, y, rfl⟩)
        exact hK _ _ rfl (below_ext _ _)
    · subst hi7
      obtain ⟨⟨l⟩, D⟩ := a
      match l, h1 with
      | [x0, x1, x2, x3, x4, x5, x6, x7, x8, x9, x10, x11, x12, x13, x14, x15, x16, x17, x18], _ =>
        obtain rfl : D = [] := h2
        obtain rfl := h4 6 (by kernel_rfl)
        have H5 := Lib.hid h5
        clear h1 h3 h4 h5
        refine wpOp_get rfl ?_
        go_simp
        go_wp2_with (go_at_call 64; refine (aim_any _ _ _ _ _).mono ?_; rintro e w1 ⟨rfl, y, rfl⟩)
        exact hK _ _ rfl (below_ext _ _)
    · subst hi8
      obtain ⟨⟨l⟩, D⟩ := a
      match l, h1 with
      | [x0, x1, x2, x3, x4, x5, x6, x7, x8, x9, x10, x11, x12, x13, x14, x15, x16, x17, x18], _ =>
        obtain rfl : D = [] := h2
        have H5 := Lib.hid h5
        clear h1 h3 h4 h5
        refine wpOp_get rfl ?_
        go_simp
        go_wp2_with (go_at_call 42; refine (Just_any _ _).mono ?_; rintro e w1 ⟨rfl, y, rfl⟩)
        exact hK _ _ rfl (below_ext _ _)
    · subst hi9
      obtain ⟨⟨l⟩, D⟩ := a
      match l, h1 with
      | [x0, x1, x2, x3, x4, x5, x6, x7, x8, x9, x10, x11, x12, x13, x14, x15, x16, x17, x18], _ =>
        obtain rfl : D = [] := h2
        obtain rfl := h4 8 (by kernel_rfl)
        have H5 := Lib.hid h5
        clear h1 h3 h4 h5
        refine wpOp_get rfl ?_
        go_simp
        go_wp2_with (go_at_call 64; refine (aim_any _ _ _ _ _).mono ?_; rintro e w1 ⟨rfl, y, rfl⟩)
        exact hK _ _ rfl (below_ext _ _)
    · subst hi10
      obtain ⟨⟨l⟩, D⟩ := a
      match l, h1 with
      | [x0, x1, x2, x3, x4, x5, x6, x7, x8, x9, x10, x11, x12, x13, x14, x15, x16, x17, x18], _ =>
        obtain rfl : D = [] := h2
        have H5 := Lib.hid h5
        clear h1 h3 h4 h5
        refine wpOp_get rfl ?_
        go_simp
        go_wp2_with (go_at_call 42; refine (Just_any _ _).mono ?_; rintro e w1 ⟨rfl, y, rfl⟩)
        exact hK _ _ rfl (below_ext _ _)
    · subst hi11
      obtain ⟨⟨l⟩, D⟩ := a
      match l, h1 with
      | [x0, x1, x2, x3, x4, x5, x6, x7, x8, x9, x10, x11, x12, x13, x14, x15, x16, x17, x18], _ =>
        obtain rfl : D = [] := h2
        obtain rfl := h4 10 (by kernel_rfl)
        have H5 := Lib.hid h5
        clear h1 h3 h4 h5
        refine wpOp_get rfl ?_
        go_simp
        go_wp2_with (go_at_call 64; refine (aim_any _ _ _ _ _).mono ?_; rintro e w1 ⟨rfl, y, rfl⟩)
        exact hK _ _ rfl (below_ext _ _)
    · subst hi12
      obtain ⟨⟨l⟩, D⟩ := a
      match l, h1 with
      | [x0, x1, x2, x3, x4, x5, x6, x7, x8, x9, x10, x11, x12, x13, x14, x15, x16, x17, x18], _ =>
        obtain rfl : D = [] := h2
        obtain rfl : x1 = .pointer (some ⟨w.heap.size, 0, none⟩) := h3 1 (by kernel_rfl)
        have kb : Blk W w.heap.size 33 #[.int .i64 lo, .int .i64 hi] := (h5.block _ KB.out.lt).trans KB.out
        have q0 := kb.cell 0
        have q1 := kb.cell 1
        have ql := kb.lt
        simp only [List.size_toArray, List.length_cons, List.length_nil, Nat.reduceAdd, Nat.reduceLT, getElem?_pos, List.getElem_toArray, List.getElem_cons_zero, List.getElem_cons_succ] at q0 q1
        clear h1 h3 h4 h5 kb
        refine wpOp_get rfl ?_
        go_simp
        exact hK _ _ rfl (Below.refl _ _)
    · subst hi13
      obtain ⟨⟨l⟩, D⟩ := a
      match l, h1 with
      | [x0, x1, x2, x3, x4, x5, x6, x7, x8, x9, x10, x11, x12, x13, x14, x15, x16, x17, x18], _ =>
        obtain rfl : D = [] := h2
        obtain rfl := h4 12 (by kernel_rfl)
        have H5 := Lib.hid h5
        clear h1 h3 h4 h5
        refine wpOp_get rfl ?_
        go_simp
        go_wp2_with (go_at_call 64; refine (aim_any _ _ _ _ _).mono ?_; rintro e w1 ⟨rfl, y, rfl⟩)
        exact hK _ _ rfl (below_ext _ _)
    · subst hi14
      obtain ⟨⟨l⟩, D⟩ := a
      match l, h1 with
      | [x0, x1, x2, x3, x4, x5, x6, x7, x8, x9, x10, x11, x12, x13, x14, x15, x16, x17, x18], _ =>
        obtain rfl : D = [] := h2
        obtain rfl := h4 7 (by kernel_rfl)
        obtain rfl := h4 9 (by kernel_rfl)
        obtain rfl := h4 11 (by kernel_rfl)
        obtain rfl := h4 13 (by kernel_rfl)
        have H5 := Lib.hid h5
        clear h1 h3 h4 h5
        refine wpOp_get rfl ?_
        go_simp
        exact hK _ _ ⟨_, by have := H5.out.size; have := HZ.out; omega, rfl, Blk.new rfl⟩ ((Below.refl _ _).alloc (Nat.le_refl _) _)
    · subst hi15
      obtain ⟨⟨l⟩, D⟩ := a
      match l, h1 with
      | [x0, x1, x2, x3, x4, x5, x6, x7, x8, x9, x10, x11, x12, x13, x14, x15, x16, x17, x18], _ =>
        obtain rfl : D = [] := h2
        obtain ⟨g2, rfl, k2⟩ := h4 2 (by kernel_rfl)
        obtain ⟨g5, g3, g4, rfl, k5, k3, k4⟩ := h4 5 (by kernel_rfl)
        obtain ⟨g14, hg, rfl, k14⟩ := h4 14 (by kernel_rfl)
        have H5 := Lib.hid h5
        clear h1 h3 h4 h5
        refine wpOp_get rfl ?_
        go_simp
        exact hK _ _ ⟨g2, g5, g3, g4, g14, hg, rfl, k2, k5, k3, k4, k14⟩ (Below.refl _ _)
  · intro a W h1 h2 h3 h4 h5
    obtain ⟨⟨l⟩, D⟩ := a
    match l, h1 with
    | [x0, x1, x2, x3, x4, x5, x6, x7, x8, x9, x10, x11, x12, x13, x14, x15, x16, x17, x18], _ =>
      obtain rfl : D = [] := h2
      obtain rfl : x2 = .pointer (some ⟨w.heap.size + 1, 0, none⟩) := h3 2 (by kernel_rfl)
      obtain ⟨g2, g5, g3, g4, g14, hg, rfl, k2, k5, k3, k4, k14⟩ := h4 15 (by decide)
      have kb : Blk W (w.heap.size + 1) 26 #[.int .i64 0, .slice none 0 0, .slice none 0 0, .slice none 0 0] := (h5.block _ KC.out.lt).trans KC.out
      have q0 := kb.cell 0
      have q1 := kb.cell 1
      have q2 := kb.cell 2
      have q3 := kb.cell 3
      have f0 := kb.frozen 0
      have f1 := kb.frozen 1
      have f2 := kb.frozen 2
      have f3 := kb.frozen 3
      have ql := kb.lt
      simp only [List.size_toArray, List.length_cons, List.length_nil, Nat.reduceAdd, Nat.reduceLT, getElem?_pos, List.getElem_toArray, List.getElem_cons_zero, List.getElem_cons_succ] at q0 q1 q2 q3
      have KK := Lib.hid (show g2 ≠ w.heap.size + 1 ∧ g5 ≠ w.heap.size + 1 ∧ g3 ≠ w.heap.size + 1 ∧ g4 ≠ w.heap.size + 1 ∧ g14 ≠ w.heap.size + 1 from ⟨fun e => by subst e; exact Blk.noteq k2 kb (by decide), fun e => by subst e; exact Blk.noteq k5 kb (by decide), fun e => by subst e; exact Blk.noteq k3 kb (by decide), fun e => by subst e; exact Blk.noteq k4 kb (by decide), fun e => by subst e; exact Blk.noteq k14 kb (by decide)⟩)
      have H5 := Lib.hid h5
      clear h1 h3 h4 h5 kb
      simp only [List.drop_succ_cons, List.drop_zero]
      go_wp2_with fail
      refine bodyPost_ret (v := .agg #[.int .i64 3, .slice (some ⟨g2, 0, none⟩) 2 2, .slice (some ⟨g5, 0, none⟩) 2 2, .slice (some ⟨g14, 0, none⟩) 4 4]) (by simp [results, Tryd.results41, go_sem, q0, q1, q2, q3, f0, f1, f2, f3, ql]) rfl ?_
      obtain ⟨n2, n5, n3, n4, n14⟩ := KK.out
      refine ⟨g2, g5, g3, g4, g14, hg, rfl, ?_, ?_, ?_, ?_, ?_, ?_⟩
      · exact (((k2.setOther n2 _ _).setOther n2 _ _).setOther n2 _ _).setOther n2 _ _
      · exact (((k5.setOther n5 _ _).setOther n5 _ _).setOther n5 _ _).setOther n5 _ _
      · exact (((k3.setOther n3 _ _).setOther n3 _ _).setOther n3 _ _).setOther n3 _ _
      · exact (((k4.setOther n4 _ _).setOther n4 _ _).setOther n4 _ _).setOther n4 _ _
      · exact (((k14.setOther n14 _ _).setOther n14 _ _).setOther n14 _ _).setOther n14 _ _
      · have hb : Below w.heap.size w W := HW.out.trans (H5.out.mono HW.out.size)
        exact ext_of (by (repeat (first | (with_reducible exact Below.refl _ _) | (with_reducible assumption) | ((with_reducible refine below_ext_trans ?_ ?_ _); rotate_left; focus (((try dsimp only); repeat (first | omega | simp only [World.size_alloc, World.size_setCell, World.size_drew] | (with_reducible refine le_ext_of ?_) | (with_reducible refine le_ext_add ?_))); done)) | ((with_reducible refine Below.alloc ?_ ?_ _); rotate_left; focus (((try dsimp only); repeat (first | omega | simp only [World.size_alloc, World.size_setCell, World.size_drew] | (with_reducible refine le_ext_of ?_) | (with_reducible refine le_ext_add ?_))); done)) | ((with_reducible refine Below.setCell ?_ ?_ _); rotate_left; focus (((try dsimp only); repeat (first | omega | simp only [World.size_alloc, World.size_setCell, World.size_drew] | (with_reducible refine le_ext_of ?_) | (with_reducible refine le_ext_add ?_))); done)) | (with_reducible refine Below.drew ?_))))
end Go.Proofs.YtdmicngnbcdkdaaDoor

namespace Go.Proofs.YtdmicngnbcdkdaaDoor
open Go Go.RowKit

theorem OwnInts.of_blk {w : World} {g : Nat} {l : List Int} {n : Nat} {cs : Array Value} (h : Blk w g 3 cs) (hn : n = l.length) (hc : cs = (l.map (Value.int .i64)).toArray) (hl : l.length ≤ 100000) : OwnInts w g (.slice (some ⟨g, 0, none⟩) n n) l := by
  subst hn hc
  refine ⟨by simp, .inr ⟨g, l.length, _, rfl, Nat.le_refl _, h, Nat.le_refl _, by unfold maxLen; omega, by simp, ?_⟩⟩
  rw [List.take_of_length_le (by simp)]
theorem OwnSpans.of_blk {w : World} {g : Nat} {l : List (Int × Int)} {n : Nat} {cs : Array Value} (h : Blk w g 33 cs) (hn : n = l.length) (hc : cs = (encSpans l).toArray) (hl : l.length ≤ 100000) : OwnSpans w g (.slice (some ⟨g, 0, none⟩) n n) l := by
  subst hn hc
  refine ⟨encSpans_len l, .inr ⟨g, l.length, _, rfl, Nat.le_refl _, h, Nat.le_refl _, by unfold maxLen; omega, by simp [encSpans_len], ?_⟩⟩
  rw [List.take_of_length_le (by simp [encSpans_len])]
theorem ints_of_blk {w : World} {g : Nat} {l : List Int} {cs : Array Value} (h : Blk w g 3 cs) (hc : cs = (l.map (Value.int .i64)).toArray) (hl : l.length ≤ 100000) : IntsAt w (some ⟨g, 0, none⟩) l := by
  obtain ⟨p, c, e, h2, _⟩ := (OwnInts.of_blk h rfl hc hl).at
  simp only [Value.slice.injEq] at e
  obtain ⟨rfl, -, -⟩ := e
  exact h2
theorem spans_of_blk {w : World} {g : Nat} {l : List (Int × Int)} {cs : Array Value} (h : Blk w g 33 cs) (hc : cs = (encSpans l).toArray) (hl : l.length ≤ 100000) : SpansAt w (some ⟨g, 0, none⟩) l := by
  obtain ⟨p, c, e, h2⟩ := (OwnSpans.of_blk h rfl hc hl).at
  simp only [Value.slice.injEq] at e
  obtain ⟨rfl, -, -⟩ := e
  exact h2

theorem info_shot : (Tryd.prog.info? 46).map (fun i => (i.zero, i.size, i.bytes)) = some (some (.agg #[.int .i64 0, .int .i64 0, .int .i64 0, .int .i64 0]), 4, 32) := by kernel_rfl
theorem under_shots : Tryd.prog.underlying 24 = some (.slice 46) := by kernel_rfl
def encShots (l : List Shot) : List Value := l.flatMap (fun s => [.int .i64 s.st, .int .i64 s.co, .int .i64 s.lo, .int .i64 s.hi])
def OwnShots (w : World) (B : Nat) (v : Value) (l : List Shot) : Prop := w.ownsRow B 46 4 v l.length (encShots l)
theorem encShots_cons (a : Shot) (l : List Shot) : encShots (a :: l) = .int .i64 a.st :: .int .i64 a.co :: .int .i64 a.lo :: .int .i64 a.hi :: encShots l := rfl
theorem encShots_append (l m : List Shot) : encShots (l ++ m) = encShots l ++ encShots m := by simp [encShots]
theorem encShots_len (l : List Shot) : (encShots l).length = l.length * 4 := by
  induction l with
  | nil => rfl
  | cons a l ih => rw [encShots_cons]; simp [ih]; omega
theorem encShots_get : ∀ (l : List Shot) (i : Nat) (s : Shot), l[i]? = some s → (encShots l)[i * 4]? = some (.int .i64 s.st) ∧ (encShots l)[i * 4 + 1]? = some (.int .i64 s.co) ∧ (encShots l)[i * 4 + 2]? = some (.int .i64 s.lo) ∧ (encShots l)[i * 4 + 3]? = some (.int .i64 s.hi)
  | [], i, s, h => by simp at h
  | a :: l, 0, s, h => by simp at h; subst h; simp [encShots]
  | a :: l, i + 1, s, h => by
    have := encShots_get l i s (by simpa using h)
    rw [encShots_cons, show (i + 1) * 4 = i * 4 + 1 + 1 + 1 + 1 by omega]
    simpa using this
theorem encShots_one (l : List Shot) : ∀ u ∈ encShots l, u.oneCell' = true := by
  induction l with
  | nil => simp [encShots]
  | cons a l ih =>
    intro u hu
    rw [encShots_cons] at hu
    simp only [List.mem_cons] at hu
    rcases hu with rfl | rfl | rfl | rfl | hu
    · rfl
    · rfl
    · rfl
    · rfl
    · exact ih u hu
theorem OwnShots.nil (w : World) (B : Nat) : OwnShots w B (.slice none 0 0) [] := World.ownsRow_nil _ _ _ _
theorem OwnShots.kept {w w' : World} {B : Nat} {v : Value} {l : List Shot} (h : OwnShots w B v l) (hb : ∀ g, v.ownBlock = some g → w'.heap[g]? = w.heap[g]?) : OwnShots w' B v l := by
  obtain ⟨h1, h2⟩ := h
  refine ⟨h1, ?_⟩
  rcases h2 with h2 | ⟨g, cap, cur, rfl, hg, hh, r⟩
  · exact .inl h2
  · exact .inr ⟨g, cap, cur, rfl, hg, (hb g rfl).trans hh, r⟩
theorem OwnShots.lt {w : World} {B : Nat} {v : Value} {l : List Shot} (h : OwnShots w B v l) : ∀ g, v.ownBlock = some g → B ≤ g ∧ g < w.heap.size := World.ownsRow.lt h
theorem OwnShots.below {w w' : World} {B : Nat} {v : Value} {l : List Shot} (h : OwnShots w B v l) (hb : Below w.heap.size w w') : OwnShots w' B v l := h.kept (fun g hg => hb.block g (h.lt g hg).2)
theorem OwnShots.mono {w : World} {B B' : Nat} {v : Value} {l : List Shot} (h : OwnShots w B v l) (hB : B' ≤ B) : OwnShots w B' v l := by
  obtain ⟨h1, h2⟩ := h
  refine ⟨h1, ?_⟩
  rcases h2 with h2 | ⟨g, cap, cur, rfl, hg, r⟩
  · exact .inl h2
  · exact .inr ⟨g, cap, cur, rfl, by omega, r⟩
theorem OwnShots.at {w : World} {B : Nat} {v : Value} {l : List Shot} (h : OwnShots w B v l) : ∃ p c, v = .slice p l.length c ∧ ShotsAt w p l := by
  obtain ⟨h1, h2⟩ := h
  rcases h2 with ⟨h2, h3⟩ | ⟨g, cap, cur, rfl, hg, hh, hn, hm, hs, ht⟩
  · refine ⟨none, 0, by rw [h2, h3], fun i x hx => ?_⟩
    have := (List.getElem?_eq_some_iff.1 hx).1
    omega
  · refine ⟨_, cap, rfl, fun i x hx => ⟨g, 0, rfl, (Array.getElem?_eq_some_iff.1 hh).1, ?_⟩⟩
    have hi := (List.getElem?_eq_some_iff.1 hx).1
    have ho : w.ownsRow B 46 4 (.slice (some ⟨g, 0, none⟩) l.length cap) l.length (encShots l) := ⟨h1, .inr ⟨g, cap, cur, rfl, hg, hh, hn, hm, hs, ht⟩⟩
    obtain ⟨e1, e2, e3, e4⟩ := encShots_get l i x hx
    rw [Nat.zero_add, ho.cellAt (i * 4) (by omega), ho.cellAt (i * 4 + 1) (by omega), ho.cellAt (i * 4 + 2) (by omega), ho.cellAt (i * 4 + 3) (by omega)]
    exact ⟨e1, e2, e3, e4⟩
theorem OwnShots.of_blk {w : World} {g : Nat} {l : List Shot} {n : Nat} {cs : Array Value} (h : Blk w g 46 cs) (hn : n = l.length) (hc : cs = (encShots l).toArray) (hl : l.length ≤ 100000) : OwnShots w g (.slice (some ⟨g, 0, none⟩) n n) l := by
  subst hn hc
  refine ⟨encShots_len l, .inr ⟨g, l.length, _, rfl, Nat.le_refl _, h, Nat.le_refl _, by unfold maxLen; omega, by simp [encShots_len], ?_⟩⟩
  rw [List.take_of_length_le (by simp [encShots_len])]
theorem shots_of_blk {w : World} {g : Nat} {l : List Shot} {cs : Array Value} (h : Blk w g 46 cs) (hc : cs = (encShots l).toArray) (hl : l.length ≤ 100000) : ShotsAt w (some ⟨g, 0, none⟩) l := by
  obtain ⟨p, c, e, h2⟩ := (OwnShots.of_blk h rfl hc hl).at
  simp only [Value.slice.injEq] at e
  obtain ⟨rfl, -, -⟩ := e
  exact h2
theorem rows_of_blk {w : World} {g g3 g4 : Nat} {r3 r4 : List Int} {n3 n4 : Nat} (h : Blk w g 28 #[.slice (some ⟨g3, 0, none⟩) n3 n3, .slice (some ⟨g4, 0, none⟩) n4 n4]) (h3 : IntsAt w (some ⟨g3, 0, none⟩) r3) (h4 : IntsAt w (some ⟨g4, 0, none⟩) r4) (e3 : n3 = r3.length) (e4 : n4 = r4.length) : RowsAt w (some ⟨g, 0, none⟩) [r3, r4] := by
  subst e3 e4
  intro i r hi
  match i, hi with
  | 0, hi => simp at hi; subst hi; exact ⟨g, 0, rfl, h.lt, _, _, by rw [h.cell]; rfl, h3⟩
  | 1, hi => simp at hi; subst hi; exact ⟨g, 0, rfl, h.lt, _, _, by rw [h.cell]; rfl, h4⟩

/-- A book handed back, in memory of its own. -/
def BkPost (w : World) (b : Bk) (e : Ending) (w' : World) : Prop :=
  ∃ h : Hd, e = .returned (.agg #[.int .i64 b.n, .slice h.pb b.bs.length h.cb, .slice h.po b.os.length h.co, .slice h.ps b.ss.length h.cs]) ∧ BkAt w' h b ∧ b.bs.length ≤ h.cb ∧ ∃ x, w' = ext w x
/-- The store that hands a book on spares what is not of its type. -/
theorem blk4 {w : World} {g B : Nat} {t t' : TypeId} {cs cs' : Array Value} (h : Blk w g t cs) (h' : Blk w B t' cs') (hne : t ≠ t') (v0 v1 v2 v3 : Value) : Blk ((((w.setCell ⟨B, 0, none⟩ v0).setCell ⟨B, 1, none⟩ v1).setCell ⟨B, 2, none⟩ v2).setCell ⟨B, 3, none⟩ v3) g t cs := by
  have n : g ≠ B := fun e => by subst e; exact Blk.noteq h h' hne
  exact (((h.setOther n _ _).setOther n _ _).setOther n _ _).setOther n _ _
theorem bkAt_book {w : World} {lo hi : Int} {g2 g5 g3 g4 g14 : Nat} (k2 : Blk w g2 33 #[.int .i64 360, .int .i64 364, .int .i64 540, .int .i64 545]) (k5 : Blk w g5 28 #[.slice (some ⟨g3, 0, none⟩) 3 3, .slice (some ⟨g4, 0, none⟩) 3 3]) (k3 : Blk w g3 3 #[.int .i64 0, .int .i64 1, .int .i64 2]) (k4 : Blk w g4 3 #[.int .i64 1, .int .i64 2, .int .i64 0])
    (k14 : Blk w g14 46 #[.int .i64 0, .int .i64 1, .int .i64 362, .int .i64 366, .int .i64 1, .int .i64 2, .int .i64 400, .int .i64 400, .int .i64 0, .int .i64 0, .int .i64 359, .int .i64 359, .int .i64 1, .int .i64 0, .int .i64 lo, .int .i64 hi]) :
    BkAt w { pb := some ⟨g2, 0, none⟩, cb := 2, po := some ⟨g5, 0, none⟩, co := 2, ps := some ⟨g14, 0, none⟩, cs := 4 } (bookW lo hi) :=
  ⟨spans_of_blk k2 rfl (by simp [bookW]), rows_of_blk k5 (ints_of_blk k3 rfl (by decide)) (ints_of_blk k4 rfl (by decide)) rfl rfl, shots_of_blk k14 rfl (by simp [bookW])⟩
/-- The book, stored into the variable of the result. -/
theorem close_book {w X : World} {lo hi : Int} {g2 g5 g3 g4 g14 : Nat} (kb : Blk X w.heap.size 26 #[.int .i64 0, .slice none 0 0, .slice none 0 0, .slice none 0 0]) (k2 : Blk X g2 33 #[.int .i64 360, .int .i64 364, .int .i64 540, .int .i64 545]) (k5 : Blk X g5 28 #[.slice (some ⟨g3, 0, none⟩) 3 3, .slice (some ⟨g4, 0, none⟩) 3 3]) (k3 : Blk X g3 3 #[.int .i64 0, .int .i64 1, .int .i64 2]) (k4 : Blk X g4 3 #[.int .i64 1, .int .i64 2, .int .i64 0])
    (k14 : Blk X g14 46 #[.int .i64 0, .int .i64 1, .int .i64 362, .int .i64 366, .int .i64 1, .int .i64 2, .int .i64 400, .int .i64 400, .int .i64 0, .int .i64 0, .int .i64 359, .int .i64 359, .int .i64 1, .int .i64 0, .int .i64 lo, .int .i64 hi]) (hg : w.heap.size ≤ g14) (hX : Below w.heap.size w X) :
    BookPost w lo hi (.returned (.agg #[.int .i64 3, .slice (some ⟨g2, 0, none⟩) 2 2, .slice (some ⟨g5, 0, none⟩) 2 2, .slice (some ⟨g14, 0, none⟩) 4 4])) ((((X.setCell ⟨w.heap.size, 0, none⟩ (.int .i64 3)).setCell ⟨w.heap.size, 1, none⟩ (.slice (some ⟨g2, 0, none⟩) 2 2)).setCell ⟨w.heap.size, 2, none⟩ (.slice (some ⟨g5, 0, none⟩) 2 2)).setCell ⟨w.heap.size, 3, none⟩ (.slice (some ⟨g14, 0, none⟩) 4 4)) :=
  ⟨g2, g5, g3, g4, g14, hg, rfl, blk4 k2 kb (by decide) _ _ _ _, blk4 k5 kb (by decide) _ _ _ _, blk4 k3 kb (by decide) _ _ _ _, blk4 k4 kb (by decide) _ _ _ _, blk4 k14 kb (by decide) _ _ _ _, ext_of (by (repeat (first | (with_reducible exact Below.refl _ _) | (with_reducible assumption) | ((with_reducible refine below_ext_trans ?_ ?_ _); rotate_left; focus (((try dsimp only); repeat (first | omega | simp only [World.size_alloc, World.size_setCell, World.size_drew] | (with_reducible refine le_ext_of ?_) | (with_reducible refine le_ext_add ?_))); done)) | ((with_reducible refine Below.alloc ?_ ?_ _); rotate_left; focus (((try dsimp only); repeat (first | omega | simp only [World.size_alloc, World.size_setCell, World.size_drew] | (with_reducible refine le_ext_of ?_) | (with_reducible refine le_ext_add ?_))); done)) | ((with_reducible refine Below.setCell ?_ ?_ _); rotate_left; focus (((try dsimp only); repeat (first | omega | simp only [World.size_alloc, World.size_setCell, World.size_drew] | (with_reducible refine le_ext_of ?_) | (with_reducible refine le_ext_add ?_))); done)) | (with_reducible refine Below.drew ?_))))⟩
theorem BookPost.bk {w : World} {lo hi : Int} {e : Ending} {w' : World} (h : BookPost w lo hi e w') : BkPost w (bookW lo hi) e w' := by
  obtain ⟨g2, g5, g3, g4, g14, hg, rfl, k2, k5, k3, k4, k14, hx⟩ := h
  exact ⟨{ pb := some ⟨g2, 0, none⟩, cb := 2, po := some ⟨g5, 0, none⟩, co := 2, ps := some ⟨g14, 0, none⟩, cs := 4 }, rfl, bkAt_book k2 k5 k3 k4 k14, by simp [bookW], hx⟩
set_option maxHeartbeats 1000000 in
theorem own_full (w : World) : Calls Tryd.prog 40 #[] w (BookPost w 541 543) := by
  go_enter Tryd.func40, Tryd.ntmps40
  go_wp2_with (first | (go_at_call 26; refine (To_any _ _ _).mono ?_; rintro e w1 ⟨rfl, y, rfl⟩) | (go_at_call 41; refine (book_any _ _ _).mono ?_; rintro e w1 ⟨g2, g5, g3, g4, g14, hg, rfl, k2, k5, k3, k4, k14, z, rfl⟩))
  rw [ext_ext] at k2 k5 k3 k4 k14
  have kb : Blk (ext _ (y.comp z)) w.heap.size 26 #[.int .i64 0, .slice none 0 0, .slice none 0 0, .slice none 0 0] := (Blk.new rfl).ext (y.comp z)
  refine bodyPost_ret (v := .agg #[.int .i64 3, .slice (some ⟨g2, 0, none⟩) 2 2, .slice (some ⟨g5, 0, none⟩) 2 2, .slice (some ⟨g14, 0, none⟩) 4 4]) (by simp [results, Tryd.results40, go_sem]) rfl ?_
  exact close_book kb k2 k5 k3 k4 k14 (Nat.le_trans (by ((try dsimp only); repeat (first | omega | simp only [World.size_alloc, World.size_setCell, World.size_drew] | (with_reducible refine le_ext_of ?_) | (with_reducible refine le_ext_add ?_)))) hg) (by (repeat (first | (with_reducible exact Below.refl _ _) | (with_reducible assumption) | ((with_reducible refine below_ext_trans ?_ ?_ _); rotate_left; focus (((try dsimp only); repeat (first | omega | simp only [World.size_alloc, World.size_setCell, World.size_drew] | (with_reducible refine le_ext_of ?_) | (with_reducible refine le_ext_add ?_))); done)) | ((with_reducible refine Below.alloc ?_ ?_ _); rotate_left; focus (((try dsimp only); repeat (first | omega | simp only [World.size_alloc, World.size_setCell, World.size_drew] | (with_reducible refine le_ext_of ?_) | (with_reducible refine le_ext_add ?_))); done)) | ((with_reducible refine Below.setCell ?_ ?_ _); rotate_left; focus (((try dsimp only); repeat (first | omega | simp only [World.size_alloc, World.size_setCell, World.size_drew] | (with_reducible refine le_ext_of ?_) | (with_reducible refine le_ext_add ?_))); done)) | (with_reducible refine Below.drew ?_))))
theorem own_any (w : World) : Calls Tryd.prog 40 #[] w (BkPost w (bookW 541 543)) := (own_full w).mono fun _ _ h => h.bk
set_option maxHeartbeats 1000000 in
theorem late_full (w : World) : Calls Tryd.prog 46 #[] w (BookPost w 542 542) := by
  go_enter Tryd.func46, Tryd.ntmps46
  go_wp2_with (first | (go_at_call 42; refine (Just_any _ _).mono ?_; rintro e w1 ⟨rfl, y, rfl⟩) | (go_at_call 41; refine (book_any _ _ _).mono ?_; rintro e w1 ⟨g2, g5, g3, g4, g14, hg, rfl, k2, k5, k3, k4, k14, z, rfl⟩))
  rw [ext_ext] at k2 k5 k3 k4 k14
  have kb : Blk (ext _ (y.comp z)) w.heap.size 26 #[.int .i64 0, .slice none 0 0, .slice none 0 0, .slice none 0 0] := (Blk.new rfl).ext (y.comp z)
  refine bodyPost_ret (v := .agg #[.int .i64 3, .slice (some ⟨g2, 0, none⟩) 2 2, .slice (some ⟨g5, 0, none⟩) 2 2, .slice (some ⟨g14, 0, none⟩) 4 4]) (by simp [results, Tryd.results46, go_sem]) rfl ?_
  exact close_book kb k2 k5 k3 k4 k14 (Nat.le_trans (by ((try dsimp only); repeat (first | omega | simp only [World.size_alloc, World.size_setCell, World.size_drew] | (with_reducible refine le_ext_of ?_) | (with_reducible refine le_ext_add ?_)))) hg) (by (repeat (first | (with_reducible exact Below.refl _ _) | (with_reducible assumption) | ((with_reducible refine below_ext_trans ?_ ?_ _); rotate_left; focus (((try dsimp only); repeat (first | omega | simp only [World.size_alloc, World.size_setCell, World.size_drew] | (with_reducible refine le_ext_of ?_) | (with_reducible refine le_ext_add ?_))); done)) | ((with_reducible refine Below.alloc ?_ ?_ _); rotate_left; focus (((try dsimp only); repeat (first | omega | simp only [World.size_alloc, World.size_setCell, World.size_drew] | (with_reducible refine le_ext_of ?_) | (with_reducible refine le_ext_add ?_))); done)) | ((with_reducible refine Below.setCell ?_ ?_ _); rotate_left; focus (((try dsimp only); repeat (first | omega | simp only [World.size_alloc, World.size_setCell, World.size_drew] | (with_reducible refine le_ext_of ?_) | (with_reducible refine le_ext_add ?_))); done)) | (with_reducible refine Below.drew ?_))))
theorem late_any (w : World) : Calls Tryd.prog 46 #[] w (BkPost w (bookW 542 542)) := (late_full w).mono fun _ _ h => h.bk
end Go.Proofs.YtdmicngnbcdkdaaDoor

namespace Go.Proofs.YtdmicngnbcdkdaaDoor
open Go Go.RowKit

theorem ShotsAt.enc {w : World} {ad : Addr} {l : List Shot} (h : ShotsAt w (some ad) l) : ∀ j u, (encShots l)[j]? = some u → w.cell? (ad.add j) = some u := by
  intro j u hj
  have hlt := (List.getElem?_eq_some_iff.1 hj).1
  rw [encShots_len] at hlt
  obtain ⟨s, hs⟩ := get_some l (j / 4) (by omega)
  obtain ⟨b, o, h1, h2, c0, c1, c2, c3⟩ := h (j / 4) s hs
  obtain ⟨e0, e1, e2, e3⟩ := encShots_get l (j / 4) s hs
  cases h1
  have hc : j = j / 4 * 4 ∨ j = j / 4 * 4 + 1 ∨ j = j / 4 * 4 + 2 ∨ j = j / 4 * 4 + 3 := by omega
  generalize j / 4 = i at *
  rcases hc with rfl | rfl | rfl | rfl
  · rw [e0] at hj; cases hj; rw [addr_add]; simpa [Nat.add_assoc] using c0
  · rw [e1] at hj; cases hj; rw [addr_add]; simpa [Nat.add_assoc] using c1
  · rw [e2] at hj; cases hj; rw [addr_add]; simpa [Nat.add_assoc] using c2
  · rw [e3] at hj; cases hj; rw [addr_add]; simpa [Nat.add_assoc] using c3
theorem step_grow_shot {ops : Array Oper} {o : Oper} {a : Act} {w : World} {K : Act → World → Prop} {Q : Exit → Act → World → Prop} {E : Prop} (hg : o.guard = none) (s x : Operand)
    (hop : o.op = Op.call { callee := Callee.builtin Builtin.append, args := #[s, x], argTypes := #[24, 24] })
    (ad : Addr) (n : Nat) (l : List Shot) (hs : a.eval s = .slice (some ad) n n) (hl : l.length = n) (hb : n ≤ 1000) (had : ∀ j u, (encShots l)[j]? = some u → w.cell? (ad.add j) = some u)
    (g : Nat) (y : Shot) (hx : a.eval x = .slice (some ⟨g, 0, none⟩) 1 1) (hc : Blk w g 46 #[.int .i64 y.st, .int .i64 y.co, .int .i64 y.lo, .int .i64 y.hi])
    (hK : ∀ v' w', OwnShots w' w.heap.size v' (l ++ [y]) → Below w.heap.size w w' → K (a.put o.dst v') w') :
    if Region.wanted o (yielded ops a.tmps) = true then Oper.wp Tryd.prog o a w K Q else E := by
  obtain ⟨i0, hi, hz0, hz1, hz2⟩ := info_parts info_shot
  refine step_append_grows hg s x 24 hop 46 i0 (.agg #[.int .i64 0, .int .i64 0, .int .i64 0, .int .i64 0]) 4 32 under_shots hi hz0 hz1 hz2 rfl (by decide) (some ad) n n (encShots l) hs (fun h => by cases h) (by rw [encShots_len, hl])
    (fun b hb j u hj => by cases hb; exact had j u hj) ⟨g, 0, none⟩ 1 1 (encShots [y]) hx rfl ?_ (encShots_one _) (by omega) (by unfold maxLen; omega) (by omega) ?_
  · intro j u hj
    match j, hj with
    | 0, hj => simp [encShots] at hj; subst hj; simpa [Addr.add] using hc.cell 0
    | 1, hj => simp [encShots] at hj; subst hj; simpa [Addr.add] using hc.cell 1
    | 2, hj => simp [encShots] at hj; subst hj; simpa [Addr.add] using hc.cell 2
    | 3, hj => simp [encShots] at hj; subst hj; simpa [Addr.add] using hc.cell 3
  · intro v' w' h1 h2
    refine hK v' w' ?_ ⟨h2.os, h2.tape, h2.output, h2.size, fun k hk => h2.block k hk (by simp)⟩
    unfold OwnShots
    rw [encShots_append, List.length_append, hl]
    exact h1

def tornW : Bk := { bookW 541 543 with ss := (bookW 541 543).ss ++ [⟨0, 0, 366, 366⟩] }
def tornR (B g : Nat) (i : Nat) (v : Value) (w : World) : Prop :=
  match i with
  | 0 => v = .pointer (some ⟨B, 3, none⟩)
  | 1 => v = .slice (some ⟨g, 0, none⟩) 4 4
  | 2 => v = .agg #[.int .i64 366, .int .i64 366]
  | 3 => v = .agg #[.int .i64 0, .int .i64 0, .int .i64 366, .int .i64 366]
  | 4 => ∃ q, v = .slice (some ⟨q, 0, none⟩) 1 1 ∧ Blk w q 46 #[.int .i64 0, .int .i64 0, .int .i64 366, .int .i64 366]
  | 5 => ∃ p c, v = .slice p 5 c ∧ OwnShots w (B + 1) (.slice p 5 c) tornW.ss
  | 6 => v = .pointer (some ⟨B, 3, none⟩)
  | _ => True
theorem tornR_kept (B g : Nat) : ∀ (i : Nat), i < 7 → ∀ (v : Value) (w w' : World), tornR B g i v w → Below w.heap.size w w' → tornR B g i v w' := by
  intro i hi v w w' h hb
  rcases (show i = 0 ∨ i = 1 ∨ i = 2 ∨ i = 3 ∨ i = 4 ∨ i = 5 ∨ i = 6 by omega) with hi0 | hi1 | hi2 | hi3 | hi4 | hi5 | hi6
  · subst hi0; exact h
  · subst hi1; exact h
  · subst hi2; exact h
  · subst hi3; exact h
  · subst hi4; obtain ⟨q, h1, h2⟩ := h; exact ⟨q, h1, h2.bel hb⟩
  · subst hi5; obtain ⟨p, c, h1, h2⟩ := h; exact ⟨p, c, h1, h2.below hb⟩
  · subst hi6; exact h
set_option maxHeartbeats 2000000 in
theorem torn_any (w : World) : Calls Tryd.prog 44 #[] w (BkPost w tornW) := by
  go_enter Tryd.func44, Tryd.ntmps44
  go_wp2_with (go_at_call 40; refine (own_full _).mono ?_; rintro e w1 ⟨g2, g5, g3, g4, g, hg, rfl, k2, k5, k3, k4, k14, z, rfl⟩)
  have hXB : Below w.heap.size w (ext _ z) := below_ext_trans ((Below.refl _ _).alloc (Nat.le_refl _) _) (by simp) z
  have kr : Blk (ext _ z) w.heap.size 26 #[.int .i64 0, .slice none 0 0, .slice none 0 0, .slice none 0 0] := (Blk.new rfl).ext z
  clear hg
  generalize ext _ z = X at *
  generalize hB1 : X.heap.size = B1
  generalize hW : X.alloc _ = W0
  have HW := Lib.hid (show Below w.heap.size w W0 by rw [← hW]; exact hXB.alloc hXB.size _)
  have KR := Lib.hid (show Blk W0 w.heap.size 26 #[.int .i64 0, .slice none 0 0, .slice none 0 0, .slice none 0 0] by rw [← hW]; exact kr.alloc _)
  have KB := Lib.hid (show Blk W0 B1 26 #[.int .i64 3, .slice (some ⟨g2, 0, none⟩) 2 2, .slice (some ⟨g5, 0, none⟩) 2 2, .slice (some ⟨g, 0, none⟩) 4 4] by rw [← hW]; exact Blk.new hB1.symm)
  have K2 := Lib.hid (show Blk W0 g2 _ _ by rw [← hW]; exact k2.alloc _)
  have K5 := Lib.hid (show Blk W0 g5 _ _ by rw [← hW]; exact k5.alloc _)
  have K3 := Lib.hid (show Blk W0 g3 _ _ by rw [← hW]; exact k3.alloc _)
  have K4 := Lib.hid (show Blk W0 g4 _ _ by rw [← hW]; exact k4.alloc _)
  have K14 := Lib.hid (show Blk W0 g _ _ by rw [← hW]; exact k14.alloc _)
  have HN := Lib.hid (show B1 ≠ w.heap.size ∧ w.heap.size ≤ B1 by have := kr.lt; have := hXB.size; omega)
  clear hW kr hXB k2 k5 k3 k4 k14 hB1
  refine wp_region_flow 7 11 (tornR B1 g) (by kernel_rfl) (by kernel_rfl) rfl (tornR_kept _ _) ?_ ?_
  · intro i hin a W h1 h2 h3 h4 h5 K hK
    rcases (show i = 0 ∨ i = 1 ∨ i = 2 ∨ i = 3 ∨ i = 4 ∨ i = 5 ∨ i = 6 by omega) with hi0 | hi1 | hi2 | hi3 | hi4 | hi5 | hi6
    · subst hi0
      obtain ⟨⟨l⟩, D⟩ := a
      match l, h1 with
      | [x0, x1, x2, x3, x4, x5, x6, x7, x8, x9, x10], _ =>
        obtain rfl : D = [] := h2
        obtain rfl : x1 = .pointer (some ⟨B1, 0, none⟩) := h3 1 (by kernel_rfl)
        have H5 := Lib.hid h5
        clear h1 h3 h4 h5
        refine wpOp_get rfl ?_
        go_simp
        exact hK _ _ rfl (Below.refl _ _)
    · subst hi1
      obtain ⟨⟨l⟩, D⟩ := a
      match l, h1 with
      | [x0, x1, x2, x3, x4, x5, x6, x7, x8, x9, x10], _ =>
        obtain rfl : D = [] := h2
        obtain rfl := h4 0 (by kernel_rfl)
        have kb : Blk W B1 26 #[.int .i64 3, .slice (some ⟨g2, 0, none⟩) 2 2, .slice (some ⟨g5, 0, none⟩) 2 2, .slice (some ⟨g, 0, none⟩) 4 4] := (h5.block _ KB.out.lt).trans KB.out
        have q3 := kb.cell 3
        have ql := kb.lt
        simp only [List.size_toArray, List.length_cons, List.length_nil, Nat.reduceAdd, Nat.reduceLT, getElem?_pos, List.getElem_toArray, List.getElem_cons_zero, List.getElem_cons_succ] at q3
        have H5 := Lib.hid h5
        clear h1 h3 h4 h5 kb
        refine wpOp_get rfl ?_
        go_simp
        exact hK _ _ rfl (Below.refl _ _)
    · subst hi2
      obtain ⟨⟨l⟩, D⟩ := a
      match l, h1 with
      | [x0, x1, x2, x3, x4, x5, x6, x7, x8, x9, x10], _ =>
        obtain rfl : D = [] := h2
        have H5 := Lib.hid h5
        clear h1 h3 h4 h5
        refine wpOp_get rfl ?_
        go_simp
        go_wp2_with (go_at_call 42; refine (Just_any _ _).mono ?_; rintro e w1 ⟨rfl, y, rfl⟩)
        exact hK _ _ rfl (below_ext _ _)
    · subst hi3
      obtain ⟨⟨l⟩, D⟩ := a
      match l, h1 with
      | [x0, x1, x2, x3, x4, x5, x6, x7, x8, x9, x10], _ =>
        obtain rfl : D = [] := h2
        obtain rfl := h4 2 (by kernel_rfl)
        have H5 := Lib.hid h5
        clear h1 h3 h4 h5
        refine wpOp_get rfl ?_
        go_simp
        go_wp2_with (go_at_call 64; refine (aim_any _ _ _ _ _).mono ?_; rintro e w1 ⟨rfl, y, rfl⟩)
        exact hK _ _ rfl (below_ext _ _)
    · subst hi4
      obtain ⟨⟨l⟩, D⟩ := a
      match l, h1 with
      | [x0, x1, x2, x3, x4, x5, x6, x7, x8, x9, x10], _ =>
        obtain rfl : D = [] := h2
        obtain rfl := h4 3 (by kernel_rfl)
        have H5 := Lib.hid h5
        clear h1 h3 h4 h5
        refine wpOp_get rfl ?_
        go_simp
        exact hK _ _ ⟨_, rfl, Blk.new rfl⟩ ((Below.refl _ _).alloc (Nat.le_refl _) _)
    · subst hi5
      obtain ⟨⟨l⟩, D⟩ := a
      match l, h1 with
      | [x0, x1, x2, x3, x4, x5, x6, x7, x8, x9, x10], _ =>
        obtain rfl : D = [] := h2
        obtain rfl := h4 1 (by kernel_rfl)
        obtain ⟨q, rfl, kq⟩ := h4 4 (by kernel_rfl)
        have H5 := Lib.hid h5
        clear h1 h3 h4 h5
        refine wpOp_get rfl ?_
        refine step_grow_shot rfl _ _ rfl ⟨g, 0, none⟩ 4 (bookW 541 543).ss rfl rfl (by omega) (ShotsAt.enc (shots_of_blk ((H5.out.block _ K14.out.lt).trans K14.out) rfl (by simp [bookW]))) q ⟨0, 0, 366, 366⟩ rfl kq ?_
        intro v' w' h6 h7
        obtain ⟨p, c, rfl, -⟩ := h6.at
        exact hK _ _ ⟨p, c, rfl, h6.mono (by have := H5.out.size; have := KB.out.lt; omega)⟩ h7
    · subst hi6
      obtain ⟨⟨l⟩, D⟩ := a
      match l, h1 with
      | [x0, x1, x2, x3, x4, x5, x6, x7, x8, x9, x10], _ =>
        obtain rfl : D = [] := h2
        obtain rfl : x1 = .pointer (some ⟨B1, 0, none⟩) := h3 1 (by kernel_rfl)
        have H5 := Lib.hid h5
        clear h1 h3 h4 h5
        refine wpOp_get rfl ?_
        go_simp
        exact hK _ _ rfl (Below.refl _ _)
  · intro a W h1 h2 h3 h4 h5
    obtain ⟨⟨l⟩, D⟩ := a
    match l, h1 with
    | [x0, x1, x2, x3, x4, x5, x6, x7, x8, x9, x10], _ =>
      obtain rfl : D = [] := h2
      obtain rfl : x0 = .pointer (some ⟨w.heap.size, 0, none⟩) := h3 0 (by kernel_rfl)
      obtain rfl : x1 = .pointer (some ⟨B1, 0, none⟩) := h3 1 (by kernel_rfl)
      obtain ⟨p, c, rfl, hsh⟩ := h4 5 (by decide)
      obtain rfl := h4 6 (by decide)
      have kb : Blk W B1 26 #[.int .i64 3, .slice (some ⟨g2, 0, none⟩) 2 2, .slice (some ⟨g5, 0, none⟩) 2 2, .slice (some ⟨g, 0, none⟩) 4 4] := (h5.block _ KB.out.lt).trans KB.out
      have kr : Blk W w.heap.size 26 #[.int .i64 0, .slice none 0 0, .slice none 0 0, .slice none 0 0] := (h5.block _ KR.out.lt).trans KR.out
      have q0 := kb.cell 0
      have q1 := kb.cell 1
      have q2 := kb.cell 2
      have q3 := kb.cell 3
      have f0 := kb.frozen 0
      have f1 := kb.frozen 1
      have f2 := kb.frozen 2
      have f3 := kb.frozen 3
      have ql := kb.lt
      have r0 := kr.cell 0
      have r1 := kr.cell 1
      have r2 := kr.cell 2
      have r3 := kr.cell 3
      have s0 := kr.frozen 0
      have s1 := kr.frozen 1
      have s2 := kr.frozen 2
      have s3 := kr.frozen 3
      have rl := kr.lt
      simp only [List.size_toArray, List.length_cons, List.length_nil, Nat.reduceAdd, Nat.reduceLT, getElem?_pos, List.getElem_toArray, List.getElem_cons_zero, List.getElem_cons_succ] at q0 q1 q2 q3 r0 r1 r2 r3
      obtain ⟨hn1, hn2⟩ := HN.out
      have hn3 : w.heap.size ≠ B1 := Ne.symm hn1
      have H5 := Lib.hid h5
      have HS := Lib.hid hsh
      have KR2 := Lib.hid kr
      have KB2 := Lib.hid kb
      clear h1 h3 h4 h5 kb kr hsh
      simp only [List.drop_succ_cons, List.drop_zero]
      go_wp2_with fail
      refine bodyPost_ret (v := .agg #[.int .i64 3, .slice (some ⟨g2, 0, none⟩) 2 2, .slice (some ⟨g5, 0, none⟩) 2 2, .slice p 5 c]) (by simp [results, Tryd.results44, go_sem, r0, r1, r2, r3, s0, s1, s2, s3, rl]) rfl ?_
      have kept : ∀ {j : Nat} {t : TypeId} {cs : Array Value}, Blk W0 j t cs → t ≠ 26 → Blk (((((W.setCell ⟨B1, 3, none⟩ (.slice p 5 c)).setCell ⟨w.heap.size, 0, none⟩ (.int .i64 3)).setCell ⟨w.heap.size, 1, none⟩ (.slice (some ⟨g2, 0, none⟩) 2 2)).setCell ⟨w.heap.size, 2, none⟩ (.slice (some ⟨g5, 0, none⟩) 2 2)).setCell ⟨w.heap.size, 3, none⟩ (.slice p 5 c)) j t cs := fun {j t cs} k ht => by
        have k1 : Blk W j t cs := (H5.out.block _ k.lt).trans k
        have n1 : j ≠ B1 := fun e => by subst e; exact Blk.noteq k1 KB2.out ht
        have n2 : j ≠ w.heap.size := fun e => by subst e; exact Blk.noteq k1 KR2.out ht
        exact ((((k1.setOther n1 _ _).setOther n2 _ _).setOther n2 _ _).setOther n2 _ _).setOther n2 _ _
      have own : OwnShots (((((W.setCell ⟨B1, 3, none⟩ (.slice p 5 c)).setCell ⟨w.heap.size, 0, none⟩ (.int .i64 3)).setCell ⟨w.heap.size, 1, none⟩ (.slice (some ⟨g2, 0, none⟩) 2 2)).setCell ⟨w.heap.size, 2, none⟩ (.slice (some ⟨g5, 0, none⟩) 2 2)).setCell ⟨w.heap.size, 3, none⟩ (.slice p 5 c)) (B1 + 1) (.slice p 5 c) tornW.ss := HS.out.kept (fun j hj => by
        have := (HS.out.lt j hj).1
        rw [Below.heap_setCell _ _ _ _ (by show j ≠ w.heap.size; omega), Below.heap_setCell _ _ _ _ (by show j ≠ w.heap.size; omega), Below.heap_setCell _ _ _ _ (by show j ≠ w.heap.size; omega), Below.heap_setCell _ _ _ _ (by show j ≠ w.heap.size; omega), Below.heap_setCell _ _ _ _ (by show j ≠ B1; omega)])
      obtain ⟨p2, c2, e2, hsh⟩ := own.at
      simp only [Value.slice.injEq] at e2
      obtain ⟨rfl, -, rfl⟩ := e2
      refine ⟨{ pb := some ⟨g2, 0, none⟩, cb := 2, po := some ⟨g5, 0, none⟩, co := 2, ps := p, cs := c }, rfl, ⟨spans_of_blk (kept K2.out (by decide)) rfl (by simp [tornW, bookW]), rows_of_blk (kept K5.out (by decide)) (ints_of_blk (kept K3.out (by decide)) rfl (by simp)) (ints_of_blk (kept K4.out (by decide)) rfl (by simp)) rfl rfl, hsh⟩, by simp [tornW, bookW], ?_⟩
      have hb : Below w.heap.size w W := HW.out.trans (H5.out.mono HW.out.size)
      exact ext_of (by (repeat (first | (with_reducible exact Below.refl _ _) | (with_reducible assumption) | ((with_reducible refine below_ext_trans ?_ ?_ _); rotate_left; focus (((try dsimp only); repeat (first | omega | simp only [World.size_alloc, World.size_setCell, World.size_drew] | (with_reducible refine le_ext_of ?_) | (with_reducible refine le_ext_add ?_))); done)) | ((with_reducible refine Below.alloc ?_ ?_ _); rotate_left; focus (((try dsimp only); repeat (first | omega | simp only [World.size_alloc, World.size_setCell, World.size_drew] | (with_reducible refine le_ext_of ?_) | (with_reducible refine le_ext_add ?_))); done)) | ((with_reducible refine Below.setCell ?_ ?_ _); rotate_left; focus (((try dsimp only); repeat (first | omega | simp only [World.size_alloc, World.size_setCell, World.size_drew] | (with_reducible refine le_ext_of ?_) | (with_reducible refine le_ext_add ?_))); done)) | (with_reducible refine Below.drew ?_))))
end Go.Proofs.YtdmicngnbcdkdaaDoor

