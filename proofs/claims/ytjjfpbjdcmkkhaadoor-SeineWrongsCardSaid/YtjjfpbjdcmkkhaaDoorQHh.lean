/- The reference: Valid. -/
/- The reference: Check. -/
/- The reference: asked, Right. -/
import Derived.Test.YtjjfpbjdcmkkhaaDoorQHf
import Derived.Test.YtjjfpbjdcmkkhaaDoorQJf
import Derived.Deep.CutBlock
import Derived.Outline
set_option linter.unusedSimpArgs false
set_option linter.unusedVariables false
namespace Go.Proofs.YtjjfpbjdcmkkhaaDoor
open Go Go.RowKit Go.Shelf
attribute [local go_sem] Oper.semAt_some frozen_alloc_lt
/-- Sane, as it tells it. -/
def saneB (lo hi m : Int) : Bool := decide (0 ≤ lo) && decide (hi ≤ m) && decide (lo ≤ hi)
theorem spanB_sane (lo hi m : Int) : spanB lo hi m = (saneB lo hi m && decide (hi - lo ≤ 12)) := by
  rw [Bool.eq_iff_iff]
  unfold spanB saneB inB
  simp only [Bool.and_eq_true, decide_eq_true_eq]
  omega
theorem Btw_r (n m : Int) (q : Bool) (w : World) (hq : inB n m = q) : Calls Tryd.prog 38 #[.int .i64 n, .int .i64 0, .int .i64 m] w fun e w' => e = .returned (.bool q) ∧ w = w' := by
  have : decide (0 ≤ n ∧ n ≤ m) = q := by
    rw [← hq]
    rfl
  rw [← this]
  exact Between_any n 0 m w
set_option maxHeartbeats 1000000 in
theorem Sane_r (lo hi m : Int) (q : Bool) (w : World) (hq : saneB lo hi m = q) : Calls Tryd.prog 41 #[.agg #[.int .i64 lo, .int .i64 hi], .int .i64 0, .int .i64 m] w fun e w' => e = .returned (.bool q) ∧ ∃ x, w' = ext w x := by
  subst hq
  by_cases h1 : 0 ≤ lo
  · by_cases h2 : hi ≤ m
    · by_cases h3 : lo ≤ hi
      · have HR := Lib.hid (show saneB lo hi m = true by simp [saneB, h1, h2, h3])
        rw [HR.out]
        exact Sane_yes lo hi 0 m w h1 h2 h3
      · have HR := Lib.hid (show saneB lo hi m = false by simp [saneB, h3])
        have h3' : decide (lo ≤ hi) = false := by simpa using h3
        clear h3
        go_enter Tryd.func41, Tryd.ntmps41
        go_wp2
        go_ret
        exact ⟨by rw [HR.out]; rfl, by (exact ext_of (by (repeat (first | (with_reducible exact Below.refl _ _) | (with_reducible assumption) | ((with_reducible refine below_ext_trans ?_ ?_ _); rotate_left; focus (((try dsimp only); repeat (first | omega | simp only [World.size_alloc, World.size_setCell, World.size_drew] | (with_reducible refine le_ext_of ?_) | (with_reducible refine le_ext_add ?_))); done)) | ((with_reducible refine Below.alloc ?_ ?_ _); rotate_left; focus (((try dsimp only); repeat (first | omega | simp only [World.size_alloc, World.size_setCell, World.size_drew] | (with_reducible refine le_ext_of ?_) | (with_reducible refine le_ext_add ?_))); done)) | ((with_reducible refine Below.setCell ?_ ?_ _); rotate_left; focus (((try dsimp only); repeat (first | omega | simp only [World.size_alloc, World.size_setCell, World.size_drew] | (with_reducible refine le_ext_of ?_) | (with_reducible refine le_ext_add ?_))); done)) | (with_reducible refine Below.drew ?_)))))⟩
    · have HR := Lib.hid (show saneB lo hi m = false by simp [saneB, h2])
      have h2' : decide (hi ≤ m) = false := by simpa using h2
      clear h2
      go_enter Tryd.func41, Tryd.ntmps41
      go_wp2
      go_ret
      exact ⟨by rw [HR.out]; rfl, by (exact ext_of (by (repeat (first | (with_reducible exact Below.refl _ _) | (with_reducible assumption) | ((with_reducible refine below_ext_trans ?_ ?_ _); rotate_left; focus (((try dsimp only); repeat (first | omega | simp only [World.size_alloc, World.size_setCell, World.size_drew] | (with_reducible refine le_ext_of ?_) | (with_reducible refine le_ext_add ?_))); done)) | ((with_reducible refine Below.alloc ?_ ?_ _); rotate_left; focus (((try dsimp only); repeat (first | omega | simp only [World.size_alloc, World.size_setCell, World.size_drew] | (with_reducible refine le_ext_of ?_) | (with_reducible refine le_ext_add ?_))); done)) | ((with_reducible refine Below.setCell ?_ ?_ _); rotate_left; focus (((try dsimp only); repeat (first | omega | simp only [World.size_alloc, World.size_setCell, World.size_drew] | (with_reducible refine le_ext_of ?_) | (with_reducible refine le_ext_add ?_))); done)) | (with_reducible refine Below.drew ?_)))))⟩
  · have HR := Lib.hid (show saneB lo hi m = false by simp [saneB, h1])
    have h1' : decide (0 ≤ lo) = false := by simpa using h1
    clear h1
    go_enter Tryd.func41, Tryd.ntmps41
    go_wp2
    go_ret
    exact ⟨by rw [HR.out]; rfl, by (exact ext_of (by (repeat (first | (with_reducible exact Below.refl _ _) | (with_reducible assumption) | ((with_reducible refine below_ext_trans ?_ ?_ _); rotate_left; focus (((try dsimp only); repeat (first | omega | simp only [World.size_alloc, World.size_setCell, World.size_drew] | (with_reducible refine le_ext_of ?_) | (with_reducible refine le_ext_add ?_))); done)) | ((with_reducible refine Below.alloc ?_ ?_ _); rotate_left; focus (((try dsimp only); repeat (first | omega | simp only [World.size_alloc, World.size_setCell, World.size_drew] | (with_reducible refine le_ext_of ?_) | (with_reducible refine le_ext_add ?_))); done)) | ((with_reducible refine Below.setCell ?_ ?_ _); rotate_left; focus (((try dsimp only); repeat (first | omega | simp only [World.size_alloc, World.size_setCell, World.size_drew] | (with_reducible refine le_ext_of ?_) | (with_reducible refine le_ext_add ?_))); done)) | (with_reducible refine Below.drew ?_)))))⟩
set_option maxRecDepth 100000 in
set_option maxHeartbeats 4000000 in
theorem valid_core (k h lo hi m : Int) (hm : (k = 1 ∧ m = 9) ∨ (k = 2 ∧ m = 0) ∨ (¬ k = 1 ∧ ¬ k = 2 ∧ m = 400)) (q1 q2 q3 q4 : Bool) (h1 : inB k 4 = q1) (h2 : inB h 60 = q2) (h3 : saneB lo hi m = q3) (h4 : decide (hi - lo ≤ 12) = q4) (w : World) :
    Calls Tryd.prog 57 #[.agg #[.int .i64 k, .int .i64 h, .int .i64 lo, .int .i64 hi]] w fun e w' => e = .returned (.bool (q1 && (q2 && (q3 && q4)))) ∧ ∃ x, w' = ext w x := by
  have hw : q3 = true → IntKind.i64.wrap (hi - lo) = hi - lo := by
    intro e
    rw [e] at h3
    simp only [saneB, Bool.and_eq_true, decide_eq_true_eq] at h3
    rcases hm with ⟨-, rfl⟩ | ⟨-, rfl⟩ | ⟨-, -, rfl⟩ <;> exact IntWalk.i64_in _ (by omega)
  have H1 := Lib.hid h1
  have H2 := Lib.hid h2
  have H3 := Lib.hid h3
  have HW := Lib.hid hw
  clear h1 h2 h3 hw
  rcases hm with ⟨rfl, rfl⟩ | ⟨rfl, rfl⟩ | ⟨n1, n2, rfl⟩
  · cases q1
    · clear HW H2 H3 h4
      go_enter Tryd.func57, Tryd.ntmps57
      go_upto_region 7 with fail
      go_wp2_with (go_at_call 38; refine (Btw_r 1 4 _ _ H1.out).mono ?_; rintro e w1 ⟨rfl, rfl⟩)
      go_ret
      exact ⟨rfl, by (exact ext_of (by (repeat (first | (with_reducible exact Below.refl _ _) | (with_reducible assumption) | ((with_reducible refine below_ext_trans ?_ ?_ _); rotate_left; focus (((try dsimp only); repeat (first | omega | simp only [World.size_alloc, World.size_setCell, World.size_drew] | (with_reducible refine le_ext_of ?_) | (with_reducible refine le_ext_add ?_))); done)) | ((with_reducible refine Below.alloc ?_ ?_ _); rotate_left; focus (((try dsimp only); repeat (first | omega | simp only [World.size_alloc, World.size_setCell, World.size_drew] | (with_reducible refine le_ext_of ?_) | (with_reducible refine le_ext_add ?_))); done)) | ((with_reducible refine Below.setCell ?_ ?_ _); rotate_left; focus (((try dsimp only); repeat (first | omega | simp only [World.size_alloc, World.size_setCell, World.size_drew] | (with_reducible refine le_ext_of ?_) | (with_reducible refine le_ext_add ?_))); done)) | (with_reducible refine Below.drew ?_)))))⟩
    · cases q2
      · clear HW H3 h4
        go_enter Tryd.func57, Tryd.ntmps57
        go_upto_region 7 with fail
        go_wp2_with (first | (go_at_call 38; refine (Btw_r _ _ _ _ rfl).mono ?_; rintro e w1 ⟨hq, rfl⟩; first | (rw [H1.out] at hq; subst hq) | (rw [H2.out] at hq; subst hq)))
        go_ret
        exact ⟨rfl, by (exact ext_of (by (repeat (first | (with_reducible exact Below.refl _ _) | (with_reducible assumption) | ((with_reducible refine below_ext_trans ?_ ?_ _); rotate_left; focus (((try dsimp only); repeat (first | omega | simp only [World.size_alloc, World.size_setCell, World.size_drew] | (with_reducible refine le_ext_of ?_) | (with_reducible refine le_ext_add ?_))); done)) | ((with_reducible refine Below.alloc ?_ ?_ _); rotate_left; focus (((try dsimp only); repeat (first | omega | simp only [World.size_alloc, World.size_setCell, World.size_drew] | (with_reducible refine le_ext_of ?_) | (with_reducible refine le_ext_add ?_))); done)) | ((with_reducible refine Below.setCell ?_ ?_ _); rotate_left; focus (((try dsimp only); repeat (first | omega | simp only [World.size_alloc, World.size_setCell, World.size_drew] | (with_reducible refine le_ext_of ?_) | (with_reducible refine le_ext_add ?_))); done)) | (with_reducible refine Below.drew ?_)))))⟩
      · cases q3
        · clear HW h4
          go_enter Tryd.func57, Tryd.ntmps57
          go_upto_region 7 with fail
          go_wp2_with (first | (go_at_call 38; refine (Btw_r _ _ _ _ rfl).mono ?_; rintro e w1 ⟨hq, rfl⟩; first | (rw [H1.out] at hq; subst hq) | (rw [H2.out] at hq; subst hq)) | (go_at_call 41; refine (Sane_r lo hi 9 _ _ H3.out).mono ?_; rintro e w1 ⟨rfl, y, rfl⟩))
          go_ret
          exact ⟨rfl, by (exact ext_of (by (repeat (first | (with_reducible exact Below.refl _ _) | (with_reducible assumption) | ((with_reducible refine below_ext_trans ?_ ?_ _); rotate_left; focus (((try dsimp only); repeat (first | omega | simp only [World.size_alloc, World.size_setCell, World.size_drew] | (with_reducible refine le_ext_of ?_) | (with_reducible refine le_ext_add ?_))); done)) | ((with_reducible refine Below.alloc ?_ ?_ _); rotate_left; focus (((try dsimp only); repeat (first | omega | simp only [World.size_alloc, World.size_setCell, World.size_drew] | (with_reducible refine le_ext_of ?_) | (with_reducible refine le_ext_add ?_))); done)) | ((with_reducible refine Below.setCell ?_ ?_ _); rotate_left; focus (((try dsimp only); repeat (first | omega | simp only [World.size_alloc, World.size_setCell, World.size_drew] | (with_reducible refine le_ext_of ?_) | (with_reducible refine le_ext_add ?_))); done)) | (with_reducible refine Below.drew ?_)))))⟩
        · have ew := HW.out rfl
          clear HW
          go_enter Tryd.func57, Tryd.ntmps57
          go_upto_region 7 with fail
          go_wp2_with (first | (go_at_call 38; refine (Btw_r _ _ _ _ rfl).mono ?_; rintro e w1 ⟨hq, rfl⟩; first | (rw [H1.out] at hq; subst hq) | (rw [H2.out] at hq; subst hq)) | (go_at_call 41; refine (Sane_r lo hi 9 _ _ H3.out).mono ?_; rintro e w1 ⟨rfl, y, rfl⟩))
          go_ret
          exact ⟨rfl, by (exact ext_of (by (repeat (first | (with_reducible exact Below.refl _ _) | (with_reducible assumption) | ((with_reducible refine below_ext_trans ?_ ?_ _); rotate_left; focus (((try dsimp only); repeat (first | omega | simp only [World.size_alloc, World.size_setCell, World.size_drew] | (with_reducible refine le_ext_of ?_) | (with_reducible refine le_ext_add ?_))); done)) | ((with_reducible refine Below.alloc ?_ ?_ _); rotate_left; focus (((try dsimp only); repeat (first | omega | simp only [World.size_alloc, World.size_setCell, World.size_drew] | (with_reducible refine le_ext_of ?_) | (with_reducible refine le_ext_add ?_))); done)) | ((with_reducible refine Below.setCell ?_ ?_ _); rotate_left; focus (((try dsimp only); repeat (first | omega | simp only [World.size_alloc, World.size_setCell, World.size_drew] | (with_reducible refine le_ext_of ?_) | (with_reducible refine le_ext_add ?_))); done)) | (with_reducible refine Below.drew ?_)))))⟩
  · cases q1
    · clear HW H2 H3 h4
      go_enter Tryd.func57, Tryd.ntmps57
      go_upto_region 7 with fail
      go_wp2_with (go_at_call 38; refine (Btw_r 2 4 _ _ H1.out).mono ?_; rintro e w1 ⟨rfl, rfl⟩)
      go_ret
      exact ⟨rfl, by (exact ext_of (by (repeat (first | (with_reducible exact Below.refl _ _) | (with_reducible assumption) | ((with_reducible refine below_ext_trans ?_ ?_ _); rotate_left; focus (((try dsimp only); repeat (first | omega | simp only [World.size_alloc, World.size_setCell, World.size_drew] | (with_reducible refine le_ext_of ?_) | (with_reducible refine le_ext_add ?_))); done)) | ((with_reducible refine Below.alloc ?_ ?_ _); rotate_left; focus (((try dsimp only); repeat (first | omega | simp only [World.size_alloc, World.size_setCell, World.size_drew] | (with_reducible refine le_ext_of ?_) | (with_reducible refine le_ext_add ?_))); done)) | ((with_reducible refine Below.setCell ?_ ?_ _); rotate_left; focus (((try dsimp only); repeat (first | omega | simp only [World.size_alloc, World.size_setCell, World.size_drew] | (with_reducible refine le_ext_of ?_) | (with_reducible refine le_ext_add ?_))); done)) | (with_reducible refine Below.drew ?_)))))⟩
    · cases q2
      · clear HW H3 h4
        go_enter Tryd.func57, Tryd.ntmps57
        go_upto_region 7 with fail
        go_wp2_with (first | (go_at_call 38; refine (Btw_r _ _ _ _ rfl).mono ?_; rintro e w1 ⟨hq, rfl⟩; first | (rw [H1.out] at hq; subst hq) | (rw [H2.out] at hq; subst hq)))
        go_ret
        exact ⟨rfl, by (exact ext_of (by (repeat (first | (with_reducible exact Below.refl _ _) | (with_reducible assumption) | ((with_reducible refine below_ext_trans ?_ ?_ _); rotate_left; focus (((try dsimp only); repeat (first | omega | simp only [World.size_alloc, World.size_setCell, World.size_drew] | (with_reducible refine le_ext_of ?_) | (with_reducible refine le_ext_add ?_))); done)) | ((with_reducible refine Below.alloc ?_ ?_ _); rotate_left; focus (((try dsimp only); repeat (first | omega | simp only [World.size_alloc, World.size_setCell, World.size_drew] | (with_reducible refine le_ext_of ?_) | (with_reducible refine le_ext_add ?_))); done)) | ((with_reducible refine Below.setCell ?_ ?_ _); rotate_left; focus (((try dsimp only); repeat (first | omega | simp only [World.size_alloc, World.size_setCell, World.size_drew] | (with_reducible refine le_ext_of ?_) | (with_reducible refine le_ext_add ?_))); done)) | (with_reducible refine Below.drew ?_)))))⟩
      · cases q3
        · clear HW h4
          go_enter Tryd.func57, Tryd.ntmps57
          go_upto_region 7 with fail
          go_wp2_with (first | (go_at_call 38; refine (Btw_r _ _ _ _ rfl).mono ?_; rintro e w1 ⟨hq, rfl⟩; first | (rw [H1.out] at hq; subst hq) | (rw [H2.out] at hq; subst hq)) | (go_at_call 41; refine (Sane_r lo hi 0 _ _ H3.out).mono ?_; rintro e w1 ⟨rfl, y, rfl⟩))
          go_ret
          exact ⟨rfl, by (exact ext_of (by (repeat (first | (with_reducible exact Below.refl _ _) | (with_reducible assumption) | ((with_reducible refine below_ext_trans ?_ ?_ _); rotate_left; focus (((try dsimp only); repeat (first | omega | simp only [World.size_alloc, World.size_setCell, World.size_drew] | (with_reducible refine le_ext_of ?_) | (with_reducible refine le_ext_add ?_))); done)) | ((with_reducible refine Below.alloc ?_ ?_ _); rotate_left; focus (((try dsimp only); repeat (first | omega | simp only [World.size_alloc, World.size_setCell, World.size_drew] | (with_reducible refine le_ext_of ?_) | (with_reducible refine le_ext_add ?_))); done)) | ((with_reducible refine Below.setCell ?_ ?_ _); rotate_left; focus (((try dsimp only); repeat (first | omega | simp only [World.size_alloc, World.size_setCell, World.size_drew] | (with_reducible refine le_ext_of ?_) | (with_reducible refine le_ext_add ?_))); done)) | (with_reducible refine Below.drew ?_)))))⟩
        · have ew := HW.out rfl
          clear HW
          go_enter Tryd.func57, Tryd.ntmps57
          go_upto_region 7 with fail
          go_wp2_with (first | (go_at_call 38; refine (Btw_r _ _ _ _ rfl).mono ?_; rintro e w1 ⟨hq, rfl⟩; first | (rw [H1.out] at hq; subst hq) | (rw [H2.out] at hq; subst hq)) | (go_at_call 41; refine (Sane_r lo hi 0 _ _ H3.out).mono ?_; rintro e w1 ⟨rfl, y, rfl⟩))
          go_ret
          exact ⟨rfl, by (exact ext_of (by (repeat (first | (with_reducible exact Below.refl _ _) | (with_reducible assumption) | ((with_reducible refine below_ext_trans ?_ ?_ _); rotate_left; focus (((try dsimp only); repeat (first | omega | simp only [World.size_alloc, World.size_setCell, World.size_drew] | (with_reducible refine le_ext_of ?_) | (with_reducible refine le_ext_add ?_))); done)) | ((with_reducible refine Below.alloc ?_ ?_ _); rotate_left; focus (((try dsimp only); repeat (first | omega | simp only [World.size_alloc, World.size_setCell, World.size_drew] | (with_reducible refine le_ext_of ?_) | (with_reducible refine le_ext_add ?_))); done)) | ((with_reducible refine Below.setCell ?_ ?_ _); rotate_left; focus (((try dsimp only); repeat (first | omega | simp only [World.size_alloc, World.size_setCell, World.size_drew] | (with_reducible refine le_ext_of ?_) | (with_reducible refine le_ext_add ?_))); done)) | (with_reducible refine Below.drew ?_)))))⟩
  · have k1 : (k == 1) = false := by simpa using n1
    have k2 : (k == 2) = false := by simpa using n2
    cases q1
    · clear HW H2 H3 h4
      go_enter Tryd.func57, Tryd.ntmps57
      go_upto_region 7 with fail
      go_wp2_with (go_at_call 38; refine (Btw_r k 4 _ _ H1.out).mono ?_; rintro e w1 ⟨rfl, rfl⟩)
      go_ret
      exact ⟨rfl, by (exact ext_of (by (repeat (first | (with_reducible exact Below.refl _ _) | (with_reducible assumption) | ((with_reducible refine below_ext_trans ?_ ?_ _); rotate_left; focus (((try dsimp only); repeat (first | omega | simp only [World.size_alloc, World.size_setCell, World.size_drew] | (with_reducible refine le_ext_of ?_) | (with_reducible refine le_ext_add ?_))); done)) | ((with_reducible refine Below.alloc ?_ ?_ _); rotate_left; focus (((try dsimp only); repeat (first | omega | simp only [World.size_alloc, World.size_setCell, World.size_drew] | (with_reducible refine le_ext_of ?_) | (with_reducible refine le_ext_add ?_))); done)) | ((with_reducible refine Below.setCell ?_ ?_ _); rotate_left; focus (((try dsimp only); repeat (first | omega | simp only [World.size_alloc, World.size_setCell, World.size_drew] | (with_reducible refine le_ext_of ?_) | (with_reducible refine le_ext_add ?_))); done)) | (with_reducible refine Below.drew ?_)))))⟩
    · cases q2
      · clear HW H3 h4
        go_enter Tryd.func57, Tryd.ntmps57
        go_upto_region 7 with fail
        go_wp2_with (first | (go_at_call 38; refine (Btw_r _ _ _ _ rfl).mono ?_; rintro e w1 ⟨hq, rfl⟩; first | (rw [H1.out] at hq; subst hq) | (rw [H2.out] at hq; subst hq)))
        go_ret
        exact ⟨rfl, by (exact ext_of (by (repeat (first | (with_reducible exact Below.refl _ _) | (with_reducible assumption) | ((with_reducible refine below_ext_trans ?_ ?_ _); rotate_left; focus (((try dsimp only); repeat (first | omega | simp only [World.size_alloc, World.size_setCell, World.size_drew] | (with_reducible refine le_ext_of ?_) | (with_reducible refine le_ext_add ?_))); done)) | ((with_reducible refine Below.alloc ?_ ?_ _); rotate_left; focus (((try dsimp only); repeat (first | omega | simp only [World.size_alloc, World.size_setCell, World.size_drew] | (with_reducible refine le_ext_of ?_) | (with_reducible refine le_ext_add ?_))); done)) | ((with_reducible refine Below.setCell ?_ ?_ _); rotate_left; focus (((try dsimp only); repeat (first | omega | simp only [World.size_alloc, World.size_setCell, World.size_drew] | (with_reducible refine le_ext_of ?_) | (with_reducible refine le_ext_add ?_))); done)) | (with_reducible refine Below.drew ?_)))))⟩
      · cases q3
        · clear HW h4
          go_enter Tryd.func57, Tryd.ntmps57
          go_upto_region 7 with fail
          go_wp2_with (first | (go_at_call 38; refine (Btw_r _ _ _ _ rfl).mono ?_; rintro e w1 ⟨hq, rfl⟩; first | (rw [H1.out] at hq; subst hq) | (rw [H2.out] at hq; subst hq)) | (go_at_call 41; refine (Sane_r lo hi 400 _ _ H3.out).mono ?_; rintro e w1 ⟨rfl, y, rfl⟩))
          go_ret
          exact ⟨rfl, by (exact ext_of (by (repeat (first | (with_reducible exact Below.refl _ _) | (with_reducible assumption) | ((with_reducible refine below_ext_trans ?_ ?_ _); rotate_left; focus (((try dsimp only); repeat (first | omega | simp only [World.size_alloc, World.size_setCell, World.size_drew] | (with_reducible refine le_ext_of ?_) | (with_reducible refine le_ext_add ?_))); done)) | ((with_reducible refine Below.alloc ?_ ?_ _); rotate_left; focus (((try dsimp only); repeat (first | omega | simp only [World.size_alloc, World.size_setCell, World.size_drew] | (with_reducible refine le_ext_of ?_) | (with_reducible refine le_ext_add ?_))); done)) | ((with_reducible refine Below.setCell ?_ ?_ _); rotate_left; focus (((try dsimp only); repeat (first | omega | simp only [World.size_alloc, World.size_setCell, World.size_drew] | (with_reducible refine le_ext_of ?_) | (with_reducible refine le_ext_add ?_))); done)) | (with_reducible refine Below.drew ?_)))))⟩
        · have ew := HW.out rfl
          clear HW
          go_enter Tryd.func57, Tryd.ntmps57
          go_upto_region 7 with fail
          go_wp2_with (first | (go_at_call 38; refine (Btw_r _ _ _ _ rfl).mono ?_; rintro e w1 ⟨hq, rfl⟩; first | (rw [H1.out] at hq; subst hq) | (rw [H2.out] at hq; subst hq)) | (go_at_call 41; refine (Sane_r lo hi 400 _ _ H3.out).mono ?_; rintro e w1 ⟨rfl, y, rfl⟩))
          go_ret
          exact ⟨rfl, by (exact ext_of (by (repeat (first | (with_reducible exact Below.refl _ _) | (with_reducible assumption) | ((with_reducible refine below_ext_trans ?_ ?_ _); rotate_left; focus (((try dsimp only); repeat (first | omega | simp only [World.size_alloc, World.size_setCell, World.size_drew] | (with_reducible refine le_ext_of ?_) | (with_reducible refine le_ext_add ?_))); done)) | ((with_reducible refine Below.alloc ?_ ?_ _); rotate_left; focus (((try dsimp only); repeat (first | omega | simp only [World.size_alloc, World.size_setCell, World.size_drew] | (with_reducible refine le_ext_of ?_) | (with_reducible refine le_ext_add ?_))); done)) | ((with_reducible refine Below.setCell ?_ ?_ _); rotate_left; focus (((try dsimp only); repeat (first | omega | simp only [World.size_alloc, World.size_setCell, World.size_drew] | (with_reducible refine le_ext_of ?_) | (with_reducible refine le_ext_add ?_))); done)) | (with_reducible refine Below.drew ?_)))))⟩
theorem Valid_r (s : Nt) (w : World) : Calls Tryd.prog 57 #[.agg #[.int .i64 s.kind, .int .i64 s.hour, .int .i64 s.lo, .int .i64 s.hi]] w fun e w' => e = .returned (.bool (ntB s)) ∧ ∃ x, w' = ext w x := by
  have h : ntB s = (inB s.kind 4 && (inB s.hour 60 && (saneB s.lo s.hi (mostOf s.kind) && decide (s.hi - s.lo ≤ 12)))) := by
    unfold ntB noteB
    rw [spanB_sane, Bool.and_assoc]
  rw [h]
  refine valid_core s.kind s.hour s.lo s.hi (mostOf s.kind) ?_ _ _ _ _ rfl rfl rfl rfl w
  unfold mostOf
  by_cases h1 : s.kind = 1
  · exact .inl ⟨h1, by rw [if_pos h1]⟩
  · by_cases h2 : s.kind = 2
    · exact .inr (.inl ⟨h2, by rw [if_neg h1, if_pos h2]⟩)
    · exact .inr (.inr ⟨h1, h2, by rw [if_neg h1, if_neg h2]⟩)
end Go.Proofs.YtjjfpbjdcmkkhaaDoor

namespace Go.Proofs.YtjjfpbjdcmkkhaaDoor
open Go Go.RowKit Go.Shelf
def headS (b : Sn) : Bool := spanB b.lo b.hi 400 && decide (b.ns.length ≤ 8)
theorem snB_head (b : Sn) : snB b = (headS b && chainN 0 b.ns) := by
  unfold snB headS notesB
  rw [Bool.and_assoc]
theorem Valid_eq (s : Nt) (q : Bool) (w : World) (hq : ntB s = q) : Calls Tryd.prog 57 #[.agg #[.int .i64 s.kind, .int .i64 s.hour, .int .i64 s.lo, .int .i64 s.hi]] w fun e w' => e = .returned (.bool q) ∧ ∃ x, w' = ext w x := by
  subst hq; exact Valid_r s w
attribute [local go_sem] Oper.semAt_some frozen_alloc_lt
set_option maxRecDepth 100000 in
set_option maxHeartbeats 4000000 in
theorem Check_r (b : Sn) (p : Option Addr) (c : Nat) (w : World) (hl : NotesAt w p b.ns) :
    Calls Tryd.prog 17 #[bV b p c] w fun e w' => e = .returned (.int .i64 (if snB b then 0 else 30)) ∧ ∃ x, w' = ext w x := by
  obtain ⟨lo, hi, ns⟩ := b
  dsimp only [bV] at *
  have HL := Lib.hid hl
  clear hl
  obtain ⟨code, hcd⟩ : ∃ code : Int, (if snB ⟨lo, hi, ns⟩ then (0 : Int) else 30) = code := ⟨_, rfl⟩
  rw [hcd]
  have HCD := Lib.hid hcd
  clear hcd
  go_enter Tryd.func17, Tryd.ntmps17
  go_upto_region 1 with fail
  generalize hW : w.alloc _ = W
  have hB : Below w.heap.size w W := by rw [← hW]; (repeat (first | (with_reducible exact Below.refl _ _) | (with_reducible assumption) | ((with_reducible refine below_ext_trans ?_ ?_ _); rotate_left; focus (((try dsimp only); repeat (first | omega | simp only [World.size_alloc, World.size_setCell, World.size_drew] | (with_reducible refine le_ext_of ?_) | (with_reducible refine le_ext_add ?_))); done)) | ((with_reducible refine Below.alloc ?_ ?_ _); rotate_left; focus (((try dsimp only); repeat (first | omega | simp only [World.size_alloc, World.size_setCell, World.size_drew] | (with_reducible refine le_ext_of ?_) | (with_reducible refine le_ext_add ?_))); done)) | ((with_reducible refine Below.setCell ?_ ?_ _); rotate_left; focus (((try dsimp only); repeat (first | omega | simp only [World.size_alloc, World.size_setCell, World.size_drew] | (with_reducible refine le_ext_of ?_) | (with_reducible refine le_ext_add ?_))); done)) | (with_reducible refine Below.drew ?_)))
  have kb : Blk W w.heap.size 26 #[.int .i64 lo, .int .i64 hi, .slice p ns.length c] := by rw [← hW]; exact Blk.new rfl
  have HB := Lib.hid hB
  have HKB := Lib.hid kb
  have d0 := kb.cell 0
  have d1 := kb.cell 1
  have d2 := kb.cell 2
  simp only [List.size_toArray, List.length_cons, List.length_nil, Nat.reduceAdd, Nat.reduceLT, getElem?_pos, List.getElem_toArray, List.getElem_cons_zero, List.getElem_cons_succ] at d0 d1 d2
  have hl1 := kb.lt
  clear hW hB kb
  go_cut [3] from 5 to 23 (fun s3 wx => s3 = .bool (headS ⟨lo, hi, ns⟩) ∧ Below W.heap.size W wx)
  case first =>
    by_cases g1 : saneB lo hi 400 = true
    · have G1 := Lib.hid g1
      have hb1 : 0 ≤ lo ∧ hi ≤ 400 ∧ lo ≤ hi := by
        simp only [saneB, Bool.and_eq_true, decide_eq_true_eq] at g1
        omega
      have ew : IntKind.i64.wrap (hi - lo) = hi - lo := IntWalk.i64_in _ (by omega)
      clear g1
      by_cases g2 : hi - lo ≤ 12
      · have HH := Lib.hid (show headS ⟨lo, hi, ns⟩ = decide ((ns.length : Int) ≤ 8) by
          unfold headS
          rw [spanB_sane, G1.out, decide_eq_true g2]
          simp only [Bool.true_and]
          congr 1
          exact propext ⟨fun h => by omega, fun h => by omega⟩)
        clear hb1
        go_wp2_with (go_at_call 41; refine (Sane_r lo hi 400 true _ G1.out).mono ?_; rintro e w1 ⟨rfl, y, rfl⟩)
        go_meet
        exact ⟨congrArg Value.bool HH.out.symm, below_ext _ _⟩
      · have HH := Lib.hid (show headS ⟨lo, hi, ns⟩ = false by
          unfold headS
          rw [spanB_sane, decide_eq_false g2]
          simp)
        have g2' : decide (hi - lo ≤ 12) = false := by simpa using g2
        clear g2 hb1
        go_wp2_with (go_at_call 41; refine (Sane_r lo hi 400 true _ G1.out).mono ?_; rintro e w1 ⟨rfl, y, rfl⟩)
        go_meet
        exact ⟨congrArg Value.bool HH.out.symm, below_ext _ _⟩
    · have G1 := Lib.hid (show saneB lo hi 400 = false by simpa using g1)
      have HH := Lib.hid (show headS ⟨lo, hi, ns⟩ = false by
        unfold headS
        rw [spanB_sane, G1.out]
        simp)
      clear g1
      go_wp2_with (go_at_call 41; refine (Sane_r lo hi 400 false _ G1.out).mono ?_; rintro e w1 ⟨rfl, y, rfl⟩)
      go_meet
      exact ⟨congrArg Value.bool HH.out.symm, below_ext _ _⟩
  case rest =>
    obtain ⟨rfl, hbW⟩ := hcut
    have HBW := Lib.hid hbW
    have HKW := Lib.hid (HKB.out.bel hbW)
    have HNS := Lib.hid (HL.out.below (HB.out.trans (hbW.mono HB.out.size)))
    clear hbW d0 d1 d2 hl1
    go_wp2_with fail
    go_loopw [3, 4] (fun o i wr => ∃ (k : Nat) (q : Bool), k ≤ ns.length ∧ i = .int .i64 k ∧ o = .bool q ∧ Hid ((q = true → headS ⟨lo, hi, ns⟩ = true ∧ chainN 0 ns = chainN (pastN ns k) (ns.drop k)) ∧ (q = false → snB ⟨lo, hi, ns⟩ = false)) ∧ Hid (Below wc.heap.size wc wr)) (fun _ i _ => ns.length - (intOf i).toNat)
    case atStart => exact ⟨0, headS ⟨lo, hi, ns⟩, by omega, rfl, rfl, Lib.hid ⟨fun h => ⟨h, rfl⟩, fun h => by rw [snB_head, h]; simp⟩, Lib.hid (Below.refl _ _)⟩
    case round =>
      obtain ⟨k, q, hk, rfl, rfl, HX, HBr⟩ := hrel
      have HBA := Lib.hid (HB.out.trans ((HBW.out.trans (HBr.out.mono HBW.out.size)).mono HB.out.size))
      have hk2 := HKW.out.bel HBr.out
      have d2 := hk2.cell 2
      simp only [List.size_toArray, List.length_cons, List.length_nil, Nat.reduceAdd, Nat.reduceLT, getElem?_pos, List.getElem_toArray, List.getElem_cons_zero, List.getElem_cons_succ] at d2
      have hl1' := hk2.lt
      clear hk2
      cases q
      · have HV := Lib.hid (HX.out.2 rfl)
        clear HX
        have HCE := Lib.hid (show code = 30 by have := HCD.out; rw [HV.out] at this; exact this.symm)
        go_wp2_with fail
        go_ret
        exact ⟨by rw [HCE.out]; rfl, ext_of HBA.out⟩
      · have HX1 := Lib.hid (HX.out.1 rfl)
        clear HX
        by_cases hlt : k < ns.length
        · obtain ⟨⟨kd, hr, a1, a2⟩, hsk⟩ := get_some ns k hlt
          obtain ⟨bb, o, hp, hbb, c0, c1, c2, c3⟩ := (HNS.out.below HBr.out) k _ hsk
          subst hp
          dsimp only at c0 c1 c2 c3
          have HC := Lib.hid (chainN_at hsk HX1.out.2)
          have k0 : (0 : Int) ≤ (k : Int) := by omega
          have k1 : (k : Int) < (ns.length : Int) := by omega
          have HH1 := Lib.hid HX1.out.1
          have h4 : ns.length ≤ 8 := by
            have := HX1.out.1
            unfold headS at this
            simp only [Bool.and_eq_true, decide_eq_true_eq] at this
            exact this.2
          clear HX1 hsk
          by_cases hm : ntB ⟨kd, hr, a1, a2⟩ = true
          · have HM := Lib.hid hm
            clear hm
            have hm0 := (ntB_facts HM.out).2.1
            dsimp only at hm0
            by_cases hk0 : k = 0
            · have hz : ((k : Int) == 0) = true := by simp [hk0]
              have HC2 := Lib.hid (show chainN 0 ns = chainN (pastN ns (k + 1)) (ns.drop (k + 1)) by
                rw [HC.out, HM.out, decide_eq_true (show pastN ns k ≤ hr by subst hk0; simp only [pastN]; omega)]; simp)
              clear hm0 hk0
              go_upto_region 5 with fail
              refine wp_region_ext (by kernel_rfl) (by kernel_rfl) ?_
              repeat (go_big_quiet_step (fail))
              go_big_quiet_step ((go_at_call 57; exact quiet_ext (Valid_eq ⟨kd, hr, a1, a2⟩ true _ HM.out)))
              repeat (go_big_quiet_step (fail))
              refine wpQuiet_nil ?_
              rintro wz ⟨z, hz9⟩
              have HBZ := Lib.hid (show Below wc.heap.size wc wz from HBr.out.trans (Below.mono (by rw [hz9]; (repeat (first | (with_reducible exact Below.refl _ _) | (with_reducible assumption) | ((with_reducible refine below_ext_trans ?_ ?_ _); rotate_left; focus (((try dsimp only); repeat (first | omega | simp only [World.size_alloc, World.size_setCell, World.size_drew] | (with_reducible refine le_ext_of ?_) | (with_reducible refine le_ext_add ?_))); done)) | ((with_reducible refine Below.alloc ?_ ?_ _); rotate_left; focus (((try dsimp only); repeat (first | omega | simp only [World.size_alloc, World.size_setCell, World.size_drew] | (with_reducible refine le_ext_of ?_) | (with_reducible refine le_ext_add ?_))); done)) | ((with_reducible refine Below.setCell ?_ ?_ _); rotate_left; focus (((try dsimp only); repeat (first | omega | simp only [World.size_alloc, World.size_setCell, World.size_drew] | (with_reducible refine le_ext_of ?_) | (with_reducible refine le_ext_add ?_))); done)) | (with_reducible refine Below.drew ?_)))) HBr.out.size))
              clear hz9
              go_wp2_with fail
              go_roundw
              case rel => exact ⟨k + 1, true, by omega, by go_num, rfl, Lib.hid ⟨fun _ => ⟨HH1.out, HC2.out⟩, (fun h => by cases h)⟩, HBZ⟩
              case measure => simp [intOf]; omega
            · obtain ⟨j, rfl⟩ : ∃ j, k = j + 1 := ⟨k - 1, by omega⟩
              obtain ⟨⟨kd2, hr2, b1, b2⟩, hsk2⟩ := get_some ns j (by omega)
              obtain ⟨bb', o', e', -, -, c5, -, -⟩ := (HNS.out.below HBr.out) j _ hsk2
              cases e'
              dsimp only at c5
              have HP := Lib.hid (show pastN ns (j + 1) = hr2 by simp [pastN, hsk2])
              have k2 : (0 : Int) ≤ (j : Int) := by omega
              have k3 : (j : Int) < (ns.length : Int) := by omega
              generalize hjk : j + 1 = k at *
              have hkk : IntKind.i64.wrap ((k : Int) - 1) = (j : Int) := by rw [IntWalk.i64_in _ (by omega)]; omega
              have hkk' : (k : Int) - 1 = (j : Int) := by omega
              have hzz : ((k : Int) == 0) = false := beq_false_of_ne (by omega)
              clear hm0 hsk2 hk0 hjk
              by_cases hgt : hr2 ≤ hr
              · have HC2 := Lib.hid (show chainN 0 ns = chainN (pastN ns (k + 1)) (ns.drop (k + 1)) by
                  rw [HC.out, HM.out, HP.out, decide_eq_true hgt]; simp)
                have hgd : decide (hr2 ≤ hr) = true := by simpa using hgt
                go_upto_region 5 with fail
                refine wp_region_ext (by kernel_rfl) (by kernel_rfl) ?_
                repeat (go_big_quiet_step (fail))
                go_big_quiet_step ((go_at_call 57; exact quiet_ext (Valid_eq ⟨kd, hr, a1, a2⟩ true _ HM.out)))
                repeat (go_big_quiet_step (fail))
                refine wpQuiet_nil ?_
                rintro wz ⟨z, hz9⟩
                have HBZ := Lib.hid (show Below wc.heap.size wc wz from HBr.out.trans (Below.mono (by rw [hz9]; (repeat (first | (with_reducible exact Below.refl _ _) | (with_reducible assumption) | ((with_reducible refine below_ext_trans ?_ ?_ _); rotate_left; focus (((try dsimp only); repeat (first | omega | simp only [World.size_alloc, World.size_setCell, World.size_drew] | (with_reducible refine le_ext_of ?_) | (with_reducible refine le_ext_add ?_))); done)) | ((with_reducible refine Below.alloc ?_ ?_ _); rotate_left; focus (((try dsimp only); repeat (first | omega | simp only [World.size_alloc, World.size_setCell, World.size_drew] | (with_reducible refine le_ext_of ?_) | (with_reducible refine le_ext_add ?_))); done)) | ((with_reducible refine Below.setCell ?_ ?_ _); rotate_left; focus (((try dsimp only); repeat (first | omega | simp only [World.size_alloc, World.size_setCell, World.size_drew] | (with_reducible refine le_ext_of ?_) | (with_reducible refine le_ext_add ?_))); done)) | (with_reducible refine Below.drew ?_)))) HBr.out.size))
                clear hz9
                go_wp2_with fail
                go_roundw
                case rel => exact ⟨k + 1, true, by omega, by go_num, rfl, Lib.hid ⟨fun _ => ⟨HH1.out, HC2.out⟩, (fun h => by cases h)⟩, HBZ⟩
                case measure => simp [intOf]; omega
              · have HC2 := Lib.hid (show snB ⟨lo, hi, ns⟩ = false by
                  rw [snB_head]
                  show (_ && chainN 0 ns) = false
                  rw [HC.out, HP.out, decide_eq_false hgt]; simp)
                have hgd : decide (hr2 ≤ hr) = false := by simpa using hgt
                clear hgt
                go_upto_region 5 with fail
                refine wp_region_ext (by kernel_rfl) (by kernel_rfl) ?_
                repeat (go_big_quiet_step (fail))
                go_big_quiet_step ((go_at_call 57; exact quiet_ext (Valid_eq ⟨kd, hr, a1, a2⟩ true _ HM.out)))
                repeat (go_big_quiet_step (fail))
                refine wpQuiet_nil ?_
                rintro wz ⟨z, hz9⟩
                have HBZ := Lib.hid (show Below wc.heap.size wc wz from HBr.out.trans (Below.mono (by rw [hz9]; (repeat (first | (with_reducible exact Below.refl _ _) | (with_reducible assumption) | ((with_reducible refine below_ext_trans ?_ ?_ _); rotate_left; focus (((try dsimp only); repeat (first | omega | simp only [World.size_alloc, World.size_setCell, World.size_drew] | (with_reducible refine le_ext_of ?_) | (with_reducible refine le_ext_add ?_))); done)) | ((with_reducible refine Below.alloc ?_ ?_ _); rotate_left; focus (((try dsimp only); repeat (first | omega | simp only [World.size_alloc, World.size_setCell, World.size_drew] | (with_reducible refine le_ext_of ?_) | (with_reducible refine le_ext_add ?_))); done)) | ((with_reducible refine Below.setCell ?_ ?_ _); rotate_left; focus (((try dsimp only); repeat (first | omega | simp only [World.size_alloc, World.size_setCell, World.size_drew] | (with_reducible refine le_ext_of ?_) | (with_reducible refine le_ext_add ?_))); done)) | (with_reducible refine Below.drew ?_)))) HBr.out.size))
                clear hz9
                go_wp2_with fail
                go_roundw
                case rel => exact ⟨k + 1, false, by omega, by go_num, rfl, Lib.hid ⟨(fun h => by cases h), fun _ => HC2.out⟩, HBZ⟩
                case measure => simp [intOf]; omega
          · have HM := Lib.hid (show ntB ⟨kd, hr, a1, a2⟩ = false by simpa using hm)
            have HC2 := Lib.hid (show snB ⟨lo, hi, ns⟩ = false by
              rw [snB_head]
              show (_ && chainN 0 ns) = false
              rw [HC.out, HM.out]; simp)
            clear hm
            go_upto_region 5 with fail
            refine wp_region_ext (by kernel_rfl) (by kernel_rfl) ?_
            repeat (go_big_quiet_step (fail))
            go_big_quiet_step ((go_at_call 57; exact quiet_ext (Valid_eq ⟨kd, hr, a1, a2⟩ false _ HM.out)))
            repeat (go_big_quiet_step (fail))
            refine wpQuiet_nil ?_
            rintro wz ⟨z, hz9⟩
            have HBZ := Lib.hid (show Below wc.heap.size wc wz from HBr.out.trans (Below.mono (by rw [hz9]; (repeat (first | (with_reducible exact Below.refl _ _) | (with_reducible assumption) | ((with_reducible refine below_ext_trans ?_ ?_ _); rotate_left; focus (((try dsimp only); repeat (first | omega | simp only [World.size_alloc, World.size_setCell, World.size_drew] | (with_reducible refine le_ext_of ?_) | (with_reducible refine le_ext_add ?_))); done)) | ((with_reducible refine Below.alloc ?_ ?_ _); rotate_left; focus (((try dsimp only); repeat (first | omega | simp only [World.size_alloc, World.size_setCell, World.size_drew] | (with_reducible refine le_ext_of ?_) | (with_reducible refine le_ext_add ?_))); done)) | ((with_reducible refine Below.setCell ?_ ?_ _); rotate_left; focus (((try dsimp only); repeat (first | omega | simp only [World.size_alloc, World.size_setCell, World.size_drew] | (with_reducible refine le_ext_of ?_) | (with_reducible refine le_ext_add ?_))); done)) | (with_reducible refine Below.drew ?_)))) HBr.out.size))
            clear hz9
            go_wp2_with fail
            go_roundw
            case rel => exact ⟨k + 1, false, by omega, by go_num, rfl, Lib.hid ⟨(fun h => by cases h), fun _ => HC2.out⟩, HBZ⟩
            case measure => simp [intOf]; omega
        · have hk1 : k = ns.length := by omega
          have hc : decide ((k : Int) < (ns.length : Int)) = false := by simp; omega
          have hc2 : decide (k < ns.length) = false := by simpa using hlt
          have HV := Lib.hid (show snB ⟨lo, hi, ns⟩ = true by
            rw [snB_head, HX1.out.1]
            show (true && chainN 0 ns) = true
            rw [HX1.out.2, hk1, List.drop_length]
            rfl)
          have HCE := Lib.hid (show code = 0 by have := HCD.out; rw [HV.out] at this; exact this.symm)
          clear hk1 hlt
          go_wp2_with fail
          go_ret
          exact ⟨by rw [HCE.out]; rfl, ext_of HBA.out⟩
end Go.Proofs.YtjjfpbjdcmkkhaaDoor

namespace Go.Proofs.YtjjfpbjdcmkkhaaDoor
open Go Go.RowKit Go.Shelf
attribute [local go_sem] Oper.semAt_some frozen_alloc_lt
theorem Check_code (b : Sn) (p : Option Addr) (c : Nat) (q : Bool) (w : World) (hl : NotesAt w p b.ns) (hq : snB b = q) :
    Calls Tryd.prog 17 #[bV b p c] w fun e w' => e = .returned (.int .i64 (if q then 0 else 30)) ∧ ∃ x, w' = ext w x := by
  subst hq; exact Check_r b p c w hl
theorem right_code (b : Sn) (p : Option Addr) (c : Nat) (q : Bool) (w : World) (hl : NotesAt w p b.ns) (hok : Ok9 b) (hq : rightS b = q) :
    Calls Tryd.prog 55 #[bV b p c] w fun e w' => e = .returned (.bool q) ∧ ∃ x, w' = ext w x := by
  subst hq; exact (right_r b p c w hl hok).mono fun e w' h => ⟨h.1, ext_of h.2⟩
set_option maxHeartbeats 1000000 in
theorem asked_bad (b : Sn) (p : Option Addr) (c : Nat) (qq : Bool) (w : World) (hl : NotesAt w p b.ns) (hv : snB b = false) :
    Calls Tryd.prog 62 #[bV b p c, .bool qq] w fun e w' => e = .returned (.int .i64 30) ∧ ∃ x, w' = ext w x := by
  have HL := Lib.hid hl
  have HV := Lib.hid hv
  clear hl hv
  go_enter Tryd.func62, Tryd.ntmps62
  go_wp2_with (go_at_call 17; refine (Check_code b p c false _ (HL.out.below (by (repeat (first | (with_reducible exact Below.refl _ _) | (with_reducible assumption) | ((with_reducible refine below_ext_trans ?_ ?_ _); rotate_left; focus (((try dsimp only); repeat (first | omega | simp only [World.size_alloc, World.size_setCell, World.size_drew] | (with_reducible refine le_ext_of ?_) | (with_reducible refine le_ext_add ?_))); done)) | ((with_reducible refine Below.alloc ?_ ?_ _); rotate_left; focus (((try dsimp only); repeat (first | omega | simp only [World.size_alloc, World.size_setCell, World.size_drew] | (with_reducible refine le_ext_of ?_) | (with_reducible refine le_ext_add ?_))); done)) | ((with_reducible refine Below.setCell ?_ ?_ _); rotate_left; focus (((try dsimp only); repeat (first | omega | simp only [World.size_alloc, World.size_setCell, World.size_drew] | (with_reducible refine le_ext_of ?_) | (with_reducible refine le_ext_add ?_))); done)) | (with_reducible refine Below.drew ?_))))) HV.out).mono ?_; rintro e w1 ⟨rfl, y, rfl⟩)
  go_ret
  exact ⟨rfl, by (exact ext_of (by (repeat (first | (with_reducible exact Below.refl _ _) | (with_reducible assumption) | ((with_reducible refine below_ext_trans ?_ ?_ _); rotate_left; focus (((try dsimp only); repeat (first | omega | simp only [World.size_alloc, World.size_setCell, World.size_drew] | (with_reducible refine le_ext_of ?_) | (with_reducible refine le_ext_add ?_))); done)) | ((with_reducible refine Below.alloc ?_ ?_ _); rotate_left; focus (((try dsimp only); repeat (first | omega | simp only [World.size_alloc, World.size_setCell, World.size_drew] | (with_reducible refine le_ext_of ?_) | (with_reducible refine le_ext_add ?_))); done)) | ((with_reducible refine Below.setCell ?_ ?_ _); rotate_left; focus (((try dsimp only); repeat (first | omega | simp only [World.size_alloc, World.size_setCell, World.size_drew] | (with_reducible refine le_ext_of ?_) | (with_reducible refine le_ext_add ?_))); done)) | (with_reducible refine Below.drew ?_)))))⟩
set_option maxHeartbeats 1000000 in
theorem asked_ask (b : Sn) (p : Option Addr) (c : Nat) (w : World) (hl : NotesAt w p b.ns) (hv : snB b = true) :
    Calls Tryd.prog 62 #[bV b p c, .bool false] w fun e w' => e = .returned (.int .i64 31) ∧ ∃ x, w' = ext w x := by
  have HL := Lib.hid hl
  have HV := Lib.hid hv
  clear hl hv
  go_enter Tryd.func62, Tryd.ntmps62
  go_wp2_with (go_at_call 17; refine (Check_code b p c true _ (HL.out.below (by (repeat (first | (with_reducible exact Below.refl _ _) | (with_reducible assumption) | ((with_reducible refine below_ext_trans ?_ ?_ _); rotate_left; focus (((try dsimp only); repeat (first | omega | simp only [World.size_alloc, World.size_setCell, World.size_drew] | (with_reducible refine le_ext_of ?_) | (with_reducible refine le_ext_add ?_))); done)) | ((with_reducible refine Below.alloc ?_ ?_ _); rotate_left; focus (((try dsimp only); repeat (first | omega | simp only [World.size_alloc, World.size_setCell, World.size_drew] | (with_reducible refine le_ext_of ?_) | (with_reducible refine le_ext_add ?_))); done)) | ((with_reducible refine Below.setCell ?_ ?_ _); rotate_left; focus (((try dsimp only); repeat (first | omega | simp only [World.size_alloc, World.size_setCell, World.size_drew] | (with_reducible refine le_ext_of ?_) | (with_reducible refine le_ext_add ?_))); done)) | (with_reducible refine Below.drew ?_))))) HV.out).mono ?_; rintro e w1 ⟨rfl, y, rfl⟩)
  go_ret
  exact ⟨rfl, by (exact ext_of (by (repeat (first | (with_reducible exact Below.refl _ _) | (with_reducible assumption) | ((with_reducible refine below_ext_trans ?_ ?_ _); rotate_left; focus (((try dsimp only); repeat (first | omega | simp only [World.size_alloc, World.size_setCell, World.size_drew] | (with_reducible refine le_ext_of ?_) | (with_reducible refine le_ext_add ?_))); done)) | ((with_reducible refine Below.alloc ?_ ?_ _); rotate_left; focus (((try dsimp only); repeat (first | omega | simp only [World.size_alloc, World.size_setCell, World.size_drew] | (with_reducible refine le_ext_of ?_) | (with_reducible refine le_ext_add ?_))); done)) | ((with_reducible refine Below.setCell ?_ ?_ _); rotate_left; focus (((try dsimp only); repeat (first | omega | simp only [World.size_alloc, World.size_setCell, World.size_drew] | (with_reducible refine le_ext_of ?_) | (with_reducible refine le_ext_add ?_))); done)) | (with_reducible refine Below.drew ?_)))))⟩
set_option maxHeartbeats 1000000 in
theorem asked_right (b : Sn) (p : Option Addr) (c : Nat) (q : Bool) (w : World) (hl : NotesAt w p b.ns) (hv : snB b = true) (hq : rightS b = q) :
    Calls Tryd.prog 62 #[bV b p c, .bool true] w fun e w' => e = .returned (.int .i64 (if q then 0 else 32)) ∧ ∃ x, w' = ext w x := by
  have HL := Lib.hid hl
  have HV := Lib.hid hv
  have HOK := Lib.hid (Ok9.of hv)
  have HQ := Lib.hid hq
  clear hl hv hq
  cases q
  all_goals
    go_enter Tryd.func62, Tryd.ntmps62
    go_wp2_with (first | (go_at_call 17; refine (Check_code b p c true _ (HL.out.below (by (repeat (first | (with_reducible exact Below.refl _ _) | (with_reducible assumption) | ((with_reducible refine below_ext_trans ?_ ?_ _); rotate_left; focus (((try dsimp only); repeat (first | omega | simp only [World.size_alloc, World.size_setCell, World.size_drew] | (with_reducible refine le_ext_of ?_) | (with_reducible refine le_ext_add ?_))); done)) | ((with_reducible refine Below.alloc ?_ ?_ _); rotate_left; focus (((try dsimp only); repeat (first | omega | simp only [World.size_alloc, World.size_setCell, World.size_drew] | (with_reducible refine le_ext_of ?_) | (with_reducible refine le_ext_add ?_))); done)) | ((with_reducible refine Below.setCell ?_ ?_ _); rotate_left; focus (((try dsimp only); repeat (first | omega | simp only [World.size_alloc, World.size_setCell, World.size_drew] | (with_reducible refine le_ext_of ?_) | (with_reducible refine le_ext_add ?_))); done)) | (with_reducible refine Below.drew ?_))))) HV.out).mono ?_; rintro e w1 ⟨rfl, y, rfl⟩) | (go_at_call 55; refine (right_code b p c _ _ (HL.out.below (by (repeat (first | (with_reducible exact Below.refl _ _) | (with_reducible assumption) | ((with_reducible refine below_ext_trans ?_ ?_ _); rotate_left; focus (((try dsimp only); repeat (first | omega | simp only [World.size_alloc, World.size_setCell, World.size_drew] | (with_reducible refine le_ext_of ?_) | (with_reducible refine le_ext_add ?_))); done)) | ((with_reducible refine Below.alloc ?_ ?_ _); rotate_left; focus (((try dsimp only); repeat (first | omega | simp only [World.size_alloc, World.size_setCell, World.size_drew] | (with_reducible refine le_ext_of ?_) | (with_reducible refine le_ext_add ?_))); done)) | ((with_reducible refine Below.setCell ?_ ?_ _); rotate_left; focus (((try dsimp only); repeat (first | omega | simp only [World.size_alloc, World.size_setCell, World.size_drew] | (with_reducible refine le_ext_of ?_) | (with_reducible refine le_ext_add ?_))); done)) | (with_reducible refine Below.drew ?_))))) HOK.out HQ.out).mono ?_; rintro e w1 ⟨rfl, y, rfl⟩))
    go_ret
    exact ⟨rfl, by (exact ext_of (by (repeat (first | (with_reducible exact Below.refl _ _) | (with_reducible assumption) | ((with_reducible refine below_ext_trans ?_ ?_ _); rotate_left; focus (((try dsimp only); repeat (first | omega | simp only [World.size_alloc, World.size_setCell, World.size_drew] | (with_reducible refine le_ext_of ?_) | (with_reducible refine le_ext_add ?_))); done)) | ((with_reducible refine Below.alloc ?_ ?_ _); rotate_left; focus (((try dsimp only); repeat (first | omega | simp only [World.size_alloc, World.size_setCell, World.size_drew] | (with_reducible refine le_ext_of ?_) | (with_reducible refine le_ext_add ?_))); done)) | ((with_reducible refine Below.setCell ?_ ?_ _); rotate_left; focus (((try dsimp only); repeat (first | omega | simp only [World.size_alloc, World.size_setCell, World.size_drew] | (with_reducible refine le_ext_of ?_) | (with_reducible refine le_ext_add ?_))); done)) | (with_reducible refine Below.drew ?_)))))⟩
set_option maxHeartbeats 1000000 in
theorem RRight_bad (b : Sn) (p : Option Addr) (c : Nat) (w : World) (hl : NotesAt w p b.ns) (hv : snB b = false) :
    Calls Tryd.prog 15 #[bV b p c] w fun e w' => e = .returned (.tuple #[.bool false, .int .i64 30]) ∧ ∃ x, w' = ext w x := by
  have HL := Lib.hid hl
  have HV := Lib.hid hv
  clear hl hv
  go_enter Tryd.func15, Tryd.ntmps15
  go_wp2_with (go_at_call 17; refine (Check_code b p c false _ (HL.out.below (by (repeat (first | (with_reducible exact Below.refl _ _) | (with_reducible assumption) | ((with_reducible refine below_ext_trans ?_ ?_ _); rotate_left; focus (((try dsimp only); repeat (first | omega | simp only [World.size_alloc, World.size_setCell, World.size_drew] | (with_reducible refine le_ext_of ?_) | (with_reducible refine le_ext_add ?_))); done)) | ((with_reducible refine Below.alloc ?_ ?_ _); rotate_left; focus (((try dsimp only); repeat (first | omega | simp only [World.size_alloc, World.size_setCell, World.size_drew] | (with_reducible refine le_ext_of ?_) | (with_reducible refine le_ext_add ?_))); done)) | ((with_reducible refine Below.setCell ?_ ?_ _); rotate_left; focus (((try dsimp only); repeat (first | omega | simp only [World.size_alloc, World.size_setCell, World.size_drew] | (with_reducible refine le_ext_of ?_) | (with_reducible refine le_ext_add ?_))); done)) | (with_reducible refine Below.drew ?_))))) HV.out).mono ?_; rintro e w1 ⟨rfl, y, rfl⟩)
  refine bodyPost_ret (v := .tuple #[.bool false, .int .i64 30]) (by simp [results, Tryd.results15, go_sem]) rfl ⟨rfl, ?_⟩
  (exact ext_of (by (repeat (first | (with_reducible exact Below.refl _ _) | (with_reducible assumption) | ((with_reducible refine below_ext_trans ?_ ?_ _); rotate_left; focus (((try dsimp only); repeat (first | omega | simp only [World.size_alloc, World.size_setCell, World.size_drew] | (with_reducible refine le_ext_of ?_) | (with_reducible refine le_ext_add ?_))); done)) | ((with_reducible refine Below.alloc ?_ ?_ _); rotate_left; focus (((try dsimp only); repeat (first | omega | simp only [World.size_alloc, World.size_setCell, World.size_drew] | (with_reducible refine le_ext_of ?_) | (with_reducible refine le_ext_add ?_))); done)) | ((with_reducible refine Below.setCell ?_ ?_ _); rotate_left; focus (((try dsimp only); repeat (first | omega | simp only [World.size_alloc, World.size_setCell, World.size_drew] | (with_reducible refine le_ext_of ?_) | (with_reducible refine le_ext_add ?_))); done)) | (with_reducible refine Below.drew ?_)))))
set_option maxHeartbeats 1000000 in
theorem RRight_ok (b : Sn) (p : Option Addr) (c : Nat) (q : Bool) (w : World) (hl : NotesAt w p b.ns) (hv : snB b = true) (hq : rightS b = q) :
    Calls Tryd.prog 15 #[bV b p c] w fun e w' => e = .returned (.tuple #[.bool q, .int .i64 0]) ∧ ∃ x, w' = ext w x := by
  have HL := Lib.hid hl
  have HV := Lib.hid hv
  have HOK := Lib.hid (Ok9.of hv)
  have HQ := Lib.hid hq
  clear hl hv hq
  go_enter Tryd.func15, Tryd.ntmps15
  go_wp2_with (first | (go_at_call 17; refine (Check_code b p c true _ (HL.out.below (by (repeat (first | (with_reducible exact Below.refl _ _) | (with_reducible assumption) | ((with_reducible refine below_ext_trans ?_ ?_ _); rotate_left; focus (((try dsimp only); repeat (first | omega | simp only [World.size_alloc, World.size_setCell, World.size_drew] | (with_reducible refine le_ext_of ?_) | (with_reducible refine le_ext_add ?_))); done)) | ((with_reducible refine Below.alloc ?_ ?_ _); rotate_left; focus (((try dsimp only); repeat (first | omega | simp only [World.size_alloc, World.size_setCell, World.size_drew] | (with_reducible refine le_ext_of ?_) | (with_reducible refine le_ext_add ?_))); done)) | ((with_reducible refine Below.setCell ?_ ?_ _); rotate_left; focus (((try dsimp only); repeat (first | omega | simp only [World.size_alloc, World.size_setCell, World.size_drew] | (with_reducible refine le_ext_of ?_) | (with_reducible refine le_ext_add ?_))); done)) | (with_reducible refine Below.drew ?_))))) HV.out).mono ?_; rintro e w1 ⟨rfl, y, rfl⟩) | (go_at_call 55; refine (right_code b p c _ _ (HL.out.below (by (repeat (first | (with_reducible exact Below.refl _ _) | (with_reducible assumption) | ((with_reducible refine below_ext_trans ?_ ?_ _); rotate_left; focus (((try dsimp only); repeat (first | omega | simp only [World.size_alloc, World.size_setCell, World.size_drew] | (with_reducible refine le_ext_of ?_) | (with_reducible refine le_ext_add ?_))); done)) | ((with_reducible refine Below.alloc ?_ ?_ _); rotate_left; focus (((try dsimp only); repeat (first | omega | simp only [World.size_alloc, World.size_setCell, World.size_drew] | (with_reducible refine le_ext_of ?_) | (with_reducible refine le_ext_add ?_))); done)) | ((with_reducible refine Below.setCell ?_ ?_ _); rotate_left; focus (((try dsimp only); repeat (first | omega | simp only [World.size_alloc, World.size_setCell, World.size_drew] | (with_reducible refine le_ext_of ?_) | (with_reducible refine le_ext_add ?_))); done)) | (with_reducible refine Below.drew ?_))))) HOK.out HQ.out).mono ?_; rintro e w1 ⟨rfl, y, rfl⟩))
  refine bodyPost_ret (v := .tuple #[.bool q, .int .i64 0]) (by simp [results, Tryd.results15, go_sem]) rfl ⟨rfl, ?_⟩
  (exact ext_of (by (repeat (first | (with_reducible exact Below.refl _ _) | (with_reducible assumption) | ((with_reducible refine below_ext_trans ?_ ?_ _); rotate_left; focus (((try dsimp only); repeat (first | omega | simp only [World.size_alloc, World.size_setCell, World.size_drew] | (with_reducible refine le_ext_of ?_) | (with_reducible refine le_ext_add ?_))); done)) | ((with_reducible refine Below.alloc ?_ ?_ _); rotate_left; focus (((try dsimp only); repeat (first | omega | simp only [World.size_alloc, World.size_setCell, World.size_drew] | (with_reducible refine le_ext_of ?_) | (with_reducible refine le_ext_add ?_))); done)) | ((with_reducible refine Below.setCell ?_ ?_ _); rotate_left; focus (((try dsimp only); repeat (first | omega | simp only [World.size_alloc, World.size_setCell, World.size_drew] | (with_reducible refine le_ext_of ?_) | (with_reducible refine le_ext_add ?_))); done)) | (with_reducible refine Below.drew ?_)))))
end Go.Proofs.YtjjfpbjdcmkkhaaDoor

