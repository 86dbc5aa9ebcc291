/- Contracts of the leaves of package turn. -/
/- Contracts of package turn: what makes a book valid. -/
import Derived.Test.YtdmicngnbcdkdaaDoorRExt
import Derived.Test.YtdmicngnbcdkdaaDoorProg
set_option linter.unusedSimpArgs false
set_option linter.unusedVariables false
namespace Go.Proofs.YtdmicngnbcdkdaaDoor
open Go Go.RowKit

def cnt (l : List Int) (m : Int) : Nat := (l.filter (fun t => decide (t ≤ m))).length
theorem cnt_snoc (l : List Int) (t m : Int) : cnt (l ++ [t]) m = cnt l m + if t ≤ m then 1 else 0 := by
  unfold cnt; rw [List.filter_append]; by_cases h : t ≤ m <;> simp [h]
theorem cnt_le (l : List Int) (m : Int) : cnt l m ≤ l.length := by unfold cnt; exact List.length_filter_le _ _
theorem cnt_step (t0 t1 t2 t3 m : Int) (k n : Nat) (hk : k < 4) (h : n = cnt ([t0, t1, t2, t3].take k) m) (t : Int) (ht : t = [t0, t1, t2, t3].getD k 0) :
    (t ≤ m → n + 1 = cnt ([t0, t1, t2, t3].take (k + 1)) m) ∧ (¬ t ≤ m → n = cnt ([t0, t1, t2, t3].take (k + 1)) m) := by
  have e : [t0, t1, t2, t3].take (k + 1) = [t0, t1, t2, t3].take k ++ [t] := by
    have hc : k = 0 ∨ k = 1 ∨ k = 2 ∨ k = 3 := by omega
    rcases hc with rfl | rfl | rfl | rfl <;> simp [ht]
  rw [e, cnt_snoc]
  constructor <;> intro h' <;> simp [h', h]

/-- Is a number from 0 to below another one? -/
def isN (a b : Int) : Bool := decide (0 ≤ a ∧ a < b)
theorem isN_yes {a b : Int} (h : 0 ≤ a ∧ a < b) : isN a b = true := by simp [isN, h]
theorem isN_no {a b : Int} (h : ¬ (0 ≤ a ∧ a < b)) : isN a b = false := by simp only [isN, decide_eq_false_iff_not]; exact h
theorem of_isN {a b : Int} (h : isN a b = true) : 0 ≤ a ∧ a < b := by simpa [isN] using h
theorem of_isN_false {a b : Int} (h : isN a b = false) : ¬ (0 ≤ a ∧ a < b) := by simpa only [isN, decide_eq_false_iff_not] using h
theorem isN_and (a b : Int) : (decide (0 ≤ a) && decide (a < b)) = isN a b := by simp [isN, Bool.decide_and]
theorem isNumber_any (a b : Int) (w : World) : Calls Tryd.prog 59 #[.int .i64 a, .int .i64 b] w fun e w' => e = .returned (.bool (isN a b)) ∧ w = w' := by
  rw [← isN_and]
  by_cases h : 0 ≤ a
  · go_enter Tryd.func59, Tryd.ntmps59
    go_wp2
    go_ret
    exact ⟨by simp; omega, rfl⟩
  · have h' : decide (0 ≤ a) = false := by simpa using h
    go_enter Tryd.func59, Tryd.ntmps59
    go_wp2
    go_ret
    exact ⟨by simp, rfl⟩

theorem just_any (a : Int) (w : World) : Calls Tryd.prog 50 #[.int .i64 a] w fun e w' => e = .returned (.agg #[.int .i64 a, .int .i64 a]) ∧ ∃ x, w' = ext w x := by
  go_enter Tryd.func50, Tryd.ntmps50
  go_wp2
  refine bodyPost_ret (v := .agg #[.int .i64 a, .int .i64 a]) (by simp [results, Tryd.results50, go_sem]) rfl ⟨rfl, ?_⟩
  (exact ext_of (by (repeat (first | (with_reducible exact Below.refl _ _) | (with_reducible assumption) | ((with_reducible refine below_ext_trans ?_ ?_ _); rotate_left; focus (((try dsimp only); repeat (first | omega | simp only [World.size_alloc, World.size_setCell, World.size_drew] | (with_reducible refine le_ext_of ?_) | (with_reducible refine le_ext_add ?_))); done)) | ((with_reducible refine Below.alloc ?_ ?_ _); rotate_left; focus (((try dsimp only); repeat (first | omega | simp only [World.size_alloc, World.size_setCell, World.size_drew] | (with_reducible refine le_ext_of ?_) | (with_reducible refine le_ext_add ?_))); done)) | ((with_reducible refine Below.setCell ?_ ?_ _); rotate_left; focus (((try dsimp only); repeat (first | omega | simp only [World.size_alloc, World.size_setCell, World.size_drew] | (with_reducible refine le_ext_of ?_) | (with_reducible refine le_ext_add ?_))); done)) | (with_reducible refine Below.drew ?_)))))

theorem soonest_any (a b : Int) (w : World) : Calls Tryd.prog 68 #[.agg #[.int .i64 a, .int .i64 b]] w fun e w' => e = .returned (.int .i64 a) ∧ ∃ x, w' = ext w x := by
  go_enter Tryd.func68, Tryd.ntmps68
  go_wp2
  go_ret
  exact ⟨rfl, by (exact ext_of (by (repeat (first | (with_reducible exact Below.refl _ _) | (with_reducible assumption) | ((with_reducible refine below_ext_trans ?_ ?_ _); rotate_left; focus (((try dsimp only); repeat (first | omega | simp only [World.size_alloc, World.size_setCell, World.size_drew] | (with_reducible refine le_ext_of ?_) | (with_reducible refine le_ext_add ?_))); done)) | ((with_reducible refine Below.alloc ?_ ?_ _); rotate_left; focus (((try dsimp only); repeat (first | omega | simp only [World.size_alloc, World.size_setCell, World.size_drew] | (with_reducible refine le_ext_of ?_) | (with_reducible refine le_ext_add ?_))); done)) | ((with_reducible refine Below.setCell ?_ ?_ _); rotate_left; focus (((try dsimp only); repeat (first | omega | simp only [World.size_alloc, World.size_setCell, World.size_drew] | (with_reducible refine le_ext_of ?_) | (with_reducible refine le_ext_add ?_))); done)) | (with_reducible refine Below.drew ?_)))))⟩

theorem latest_any (a b : Int) (w : World) : Calls Tryd.prog 69 #[.agg #[.int .i64 a, .int .i64 b]] w fun e w' => e = .returned (.int .i64 b) ∧ ∃ x, w' = ext w x := by
  go_enter Tryd.func69, Tryd.ntmps69
  go_wp2
  go_ret
  exact ⟨rfl, by (exact ext_of (by (repeat (first | (with_reducible exact Below.refl _ _) | (with_reducible assumption) | ((with_reducible refine below_ext_trans ?_ ?_ _); rotate_left; focus (((try dsimp only); repeat (first | omega | simp only [World.size_alloc, World.size_setCell, World.size_drew] | (with_reducible refine le_ext_of ?_) | (with_reducible refine le_ext_add ?_))); done)) | ((with_reducible refine Below.alloc ?_ ?_ _); rotate_left; focus (((try dsimp only); repeat (first | omega | simp only [World.size_alloc, World.size_setCell, World.size_drew] | (with_reducible refine le_ext_of ?_) | (with_reducible refine le_ext_add ?_))); done)) | ((with_reducible refine Below.setCell ?_ ?_ _); rotate_left; focus (((try dsimp only); repeat (first | omega | simp only [World.size_alloc, World.size_setCell, World.size_drew] | (with_reducible refine le_ext_of ?_) | (with_reducible refine le_ext_add ?_))); done)) | (with_reducible refine Below.drew ?_)))))⟩

/-- In how many truths one minute is before another one. -/
def befores (m n : Int × Int) : Int := if m.2 < n.1 then 2 else if m.1 < n.2 then 1 else 0
set_option maxHeartbeats 400000 in
theorem before_any (a b c d : Int) (w : World) : Calls Tryd.prog 62 #[.agg #[.int .i64 a, .int .i64 b], .agg #[.int .i64 c, .int .i64 d]] w fun e w' => e = .returned (.int .i64 (befores (a, b) (c, d))) ∧ ∃ x, w' = ext w x := by
  go_enter Tryd.func62, Tryd.ntmps62
  go_wp2_with fail
  refine wp_region_ext (by kernel_rfl) (by kernel_rfl) ?_
  repeat (go_big_quiet_step (first | (go_at_call 69; exact quiet_ext (latest_any _ _ _)) | (go_at_call 68; exact quiet_ext (soonest_any _ _ _))))
  (refine wpQuiet_nil ?_; rintro _ ⟨x, rfl⟩)
  go_wp2_with fail
  · have h1 : b < c := by assumption
    go_ret
    exact ⟨ret_int (by simp [befores, h1]), by (exact ext_of (by (repeat (first | (with_reducible exact Below.refl _ _) | (with_reducible assumption) | ((with_reducible refine below_ext_trans ?_ ?_ _); rotate_left; focus (((try dsimp only); repeat (first | omega | simp only [World.size_alloc, World.size_setCell, World.size_drew] | (with_reducible refine le_ext_of ?_) | (with_reducible refine le_ext_add ?_))); done)) | ((with_reducible refine Below.alloc ?_ ?_ _); rotate_left; focus (((try dsimp only); repeat (first | omega | simp only [World.size_alloc, World.size_setCell, World.size_drew] | (with_reducible refine le_ext_of ?_) | (with_reducible refine le_ext_add ?_))); done)) | ((with_reducible refine Below.setCell ?_ ?_ _); rotate_left; focus (((try dsimp only); repeat (first | omega | simp only [World.size_alloc, World.size_setCell, World.size_drew] | (with_reducible refine le_ext_of ?_) | (with_reducible refine le_ext_add ?_))); done)) | (with_reducible refine Below.drew ?_)))))⟩
  · refine wp_region_ext (by kernel_rfl) (by kernel_rfl) ?_
    repeat (go_big_quiet_step (first | (go_at_call 69; exact quiet_ext (latest_any _ _ _)) | (go_at_call 68; exact quiet_ext (soonest_any _ _ _))))
    refine wpQuiet_nil ?_
    rintro _ ⟨y, rfl⟩
    go_wp2_with fail
    · have h1 : ¬ b < c := by omega
      have h2 : a < d := by assumption
      go_ret
      exact ⟨ret_int (by simp [befores, h1, h2]), by (exact ext_of (by (repeat (first | (with_reducible exact Below.refl _ _) | (with_reducible assumption) | ((with_reducible refine below_ext_trans ?_ ?_ _); rotate_left; focus (((try dsimp only); repeat (first | omega | simp only [World.size_alloc, World.size_setCell, World.size_drew] | (with_reducible refine le_ext_of ?_) | (with_reducible refine le_ext_add ?_))); done)) | ((with_reducible refine Below.alloc ?_ ?_ _); rotate_left; focus (((try dsimp only); repeat (first | omega | simp only [World.size_alloc, World.size_setCell, World.size_drew] | (with_reducible refine le_ext_of ?_) | (with_reducible refine le_ext_add ?_))); done)) | ((with_reducible refine Below.setCell ?_ ?_ _); rotate_left; focus (((try dsimp only); repeat (first | omega | simp only [World.size_alloc, World.size_setCell, World.size_drew] | (with_reducible refine le_ext_of ?_) | (with_reducible refine le_ext_add ?_))); done)) | (with_reducible refine Below.drew ?_)))))⟩
    · have h1 : ¬ b < c := by omega
      have h2 : ¬ a < d := by omega
      go_ret
      exact ⟨ret_int (by simp [befores, h1, h2]), by (exact ext_of (by (repeat (first | (with_reducible exact Below.refl _ _) | (with_reducible assumption) | ((with_reducible refine below_ext_trans ?_ ?_ _); rotate_left; focus (((try dsimp only); repeat (first | omega | simp only [World.size_alloc, World.size_setCell, World.size_drew] | (with_reducible refine le_ext_of ?_) | (with_reducible refine le_ext_add ?_))); done)) | ((with_reducible refine Below.alloc ?_ ?_ _); rotate_left; focus (((try dsimp only); repeat (first | omega | simp only [World.size_alloc, World.size_setCell, World.size_drew] | (with_reducible refine le_ext_of ?_) | (with_reducible refine le_ext_add ?_))); done)) | ((with_reducible refine Below.setCell ?_ ?_ _); rotate_left; focus (((try dsimp only); repeat (first | omega | simp only [World.size_alloc, World.size_setCell, World.size_drew] | (with_reducible refine le_ext_of ?_) | (with_reducible refine le_ext_add ?_))); done)) | (with_reducible refine Below.drew ?_)))))⟩

set_option maxHeartbeats 400000 in
theorem turn_any (t0 t1 t2 t3 m : Int) (w : World) : Calls Tryd.prog 67 #[.agg #[.int .i64 t0, .int .i64 t1, .int .i64 t2, .int .i64 t3], .int .i64 m] w fun e w' => e = .returned (.int .i64 (cnt [t0, t1, t2, t3] m)) ∧ ∃ x, w' = ext w x := by
  go_enter Tryd.func67, Tryd.ntmps67
  go_wp2
  go_loop [5, 9] (fun p i => ∃ k n : Nat, k ≤ 4 ∧ n ≤ k ∧ i = .int .i64 k ∧ p = .int .i64 n ∧ Hid (n = cnt ([t0, t1, t2, t3].take k) m)) (fun _ i => 4 - (intOf i).toNat)
  case atStart => exact ⟨0, 0, by omega, by omega, rfl, rfl, rfl⟩
  case round =>
    obtain ⟨k, n, hk, hn, rfl, rfl, H⟩ := hrel
    by_cases hlt : k < 4
    · have hc : k = 0 ∨ k = 1 ∨ k = 2 ∨ k = 3 := by omega
      have i0 : ∀ w, (Instr.index 78 (.agg #[.int .i64 t0, .int .i64 t1, .int .i64 t2, .int .i64 t3]) (.int .i64 0)).run Tryd.prog w = .ok (.int .i64 t0) w := fun _ => by kernel_rfl
      have i1 : ∀ w, (Instr.index 78 (.agg #[.int .i64 t0, .int .i64 t1, .int .i64 t2, .int .i64 t3]) (.int .i64 1)).run Tryd.prog w = .ok (.int .i64 t1) w := fun _ => by kernel_rfl
      have i2 : ∀ w, (Instr.index 78 (.agg #[.int .i64 t0, .int .i64 t1, .int .i64 t2, .int .i64 t3]) (.int .i64 2)).run Tryd.prog w = .ok (.int .i64 t2) w := fun _ => by kernel_rfl
      have i3 : ∀ w, (Instr.index 78 (.agg #[.int .i64 t0, .int .i64 t1, .int .i64 t2, .int .i64 t3]) (.int .i64 3)).run Tryd.prog w = .ok (.int .i64 t3) w := fun _ => by kernel_rfl
      rcases hc with rfl | rfl | rfl | rfl
      all_goals
        have h0 := Lib.hid (cnt_step t0 t1 t2 t3 m _ n (by omega) H.out _ rfl)
        go_wp2
        all_goals
          go_round
          case rel =>
            first
            | exact ⟨_, n + 1, by omega, by omega, by go_num, by go_num, h0.out.1 ‹_›⟩
            | exact ⟨_, n, by omega, by omega, by go_num, by go_num, h0.out.2 (by simpa using ‹_›)⟩
          case measure => simp [intOf]
    · go_wp2
      go_ret
      obtain rfl : k = 4 := by omega
      exact ⟨by rw [H.out]; rfl, by (exact ext_of (by (repeat (first | (with_reducible exact Below.refl _ _) | (with_reducible assumption) | ((with_reducible refine below_ext_trans ?_ ?_ _); rotate_left; focus (((try dsimp only); repeat (first | omega | simp only [World.size_alloc, World.size_setCell, World.size_drew] | (with_reducible refine le_ext_of ?_) | (with_reducible refine le_ext_add ?_))); done)) | ((with_reducible refine Below.alloc ?_ ?_ _); rotate_left; focus (((try dsimp only); repeat (first | omega | simp only [World.size_alloc, World.size_setCell, World.size_drew] | (with_reducible refine le_ext_of ?_) | (with_reducible refine le_ext_add ?_))); done)) | ((with_reducible refine Below.setCell ?_ ?_ _); rotate_left; focus (((try dsimp only); repeat (first | omega | simp only [World.size_alloc, World.size_setCell, World.size_drew] | (with_reducible refine le_ext_of ?_) | (with_reducible refine le_ext_add ?_))); done)) | (with_reducible refine Below.drew ?_)))))⟩

set_option maxHeartbeats 1000000 in
theorem turns_any (s0 s1 s2 s3 l0 l1 l2 l3 a b : Int) (w : World) : Calls Tryd.prog 49 #[.agg #[.int .i64 s0, .int .i64 s1, .int .i64 s2, .int .i64 s3, .int .i64 l0, .int .i64 l1, .int .i64 l2, .int .i64 l3], .agg #[.int .i64 a, .int .i64 b]] w fun e w' =>
    e = .returned (.agg #[.int .i64 (cnt [l0, l1, l2, l3] a), .int .i64 (cnt [s0, s1, s2, s3] b)]) ∧ ∃ x, w' = ext w x := by
  go_enter Tryd.func49, Tryd.ntmps49
  go_wp2_with fail
  refine wp_region_ext_tail 11 (by kernel_rfl) (by kernel_rfl) ?_
  simp only [List.take_succ_cons, List.take_zero, List.drop_succ_cons, List.drop_zero]
  repeat (go_big_quiet_step (first | (go_at_call 68; exact quiet_ext (soonest_any _ _ _)) | (go_at_call 69; exact quiet_ext (latest_any _ _ _)) | (go_at_call 67; exact quiet_ext (turn_any _ _ _ _ _ _))))
  (refine wpQuiet_nil ?_; rintro _ ⟨x, rfl⟩)
  go_wp2_with fail
  refine bodyPost_ret (v := .agg #[.int .i64 (cnt [l0, l1, l2, l3] a), .int .i64 (cnt [s0, s1, s2, s3] b)]) (by simp [results, Tryd.results49, go_sem]) rfl ⟨rfl, ?_⟩
  (exact ext_of (by (repeat (first | (with_reducible exact Below.refl _ _) | (with_reducible assumption) | ((with_reducible refine below_ext_trans ?_ ?_ _); rotate_left; focus (((try dsimp only); repeat (first | omega | simp only [World.size_alloc, World.size_setCell, World.size_drew] | (with_reducible refine le_ext_of ?_) | (with_reducible refine le_ext_add ?_))); done)) | ((with_reducible refine Below.alloc ?_ ?_ _); rotate_left; focus (((try dsimp only); repeat (first | omega | simp only [World.size_alloc, World.size_setCell, World.size_drew] | (with_reducible refine le_ext_of ?_) | (with_reducible refine le_ext_add ?_))); done)) | ((with_reducible refine Below.setCell ?_ ?_ _); rotate_left; focus (((try dsimp only); repeat (first | omega | simp only [World.size_alloc, World.size_setCell, World.size_drew] | (with_reducible refine le_ext_of ?_) | (with_reducible refine le_ext_add ?_))); done)) | (with_reducible refine Below.drew ?_)))))
end Go.Proofs.YtdmicngnbcdkdaaDoor

namespace Go.Proofs.YtdmicngnbcdkdaaDoor
open Go Go.RowKit

theorem isMinute_any (a : Int) (w : World) : Calls Tryd.prog 48 #[.int .i64 a] w fun e w' => e = .returned (.bool (isN a 1440)) ∧ w = w' := by
  go_enter Tryd.func48, Tryd.ntmps48
  go_wp2_with (go_at_call 59; refine (isNumber_any _ _ _).mono ?_; rintro e w' ⟨rfl, rfl⟩)
  go_ret
  exact ⟨rfl, rfl⟩

theorem isStation_any (n : Int) (pb po ps : Option Addr) (nb cb no co ns cs : Nat) (a : Int) (w : World) : Calls Tryd.prog 51 #[.agg #[.int .i64 n, .slice pb nb cb, .slice po no co, .slice ps ns cs], .int .i64 a] w fun e w' => e = .returned (.bool (isN a no)) ∧ ∃ x, w' = ext w x := by
  go_enter Tryd.func51, Tryd.ntmps51
  go_wp2_with (go_at_call 59; refine (isNumber_any _ _ _).mono ?_; rintro e w' ⟨rfl, rfl⟩)
  go_ret
  exact ⟨rfl, by (exact ext_of (by (repeat (first | (with_reducible exact Below.refl _ _) | (with_reducible assumption) | ((with_reducible refine below_ext_trans ?_ ?_ _); rotate_left; focus (((try dsimp only); repeat (first | omega | simp only [World.size_alloc, World.size_setCell, World.size_drew] | (with_reducible refine le_ext_of ?_) | (with_reducible refine le_ext_add ?_))); done)) | ((with_reducible refine Below.alloc ?_ ?_ _); rotate_left; focus (((try dsimp only); repeat (first | omega | simp only [World.size_alloc, World.size_setCell, World.size_drew] | (with_reducible refine le_ext_of ?_) | (with_reducible refine le_ext_add ?_))); done)) | ((with_reducible refine Below.setCell ?_ ?_ _); rotate_left; focus (((try dsimp only); repeat (first | omega | simp only [World.size_alloc, World.size_setCell, World.size_drew] | (with_reducible refine le_ext_of ?_) | (with_reducible refine le_ext_add ?_))); done)) | (with_reducible refine Below.drew ?_)))))⟩

theorem isShot_any (n : Int) (pb po ps : Option Addr) (nb cb no co ns cs : Nat) (a : Int) (w : World) : Calls Tryd.prog 54 #[.agg #[.int .i64 n, .slice pb nb cb, .slice po no co, .slice ps ns cs], .int .i64 a] w fun e w' => e = .returned (.bool (isN a ns)) ∧ ∃ x, w' = ext w x := by
  go_enter Tryd.func54, Tryd.ntmps54
  go_wp2_with (go_at_call 59; refine (isNumber_any _ _ _).mono ?_; rintro e w' ⟨rfl, rfl⟩)
  go_ret
  exact ⟨rfl, by (exact ext_of (by (repeat (first | (with_reducible exact Below.refl _ _) | (with_reducible assumption) | ((with_reducible refine below_ext_trans ?_ ?_ _); rotate_left; focus (((try dsimp only); repeat (first | omega | simp only [World.size_alloc, World.size_setCell, World.size_drew] | (with_reducible refine le_ext_of ?_) | (with_reducible refine le_ext_add ?_))); done)) | ((with_reducible refine Below.alloc ?_ ?_ _); rotate_left; focus (((try dsimp only); repeat (first | omega | simp only [World.size_alloc, World.size_setCell, World.size_drew] | (with_reducible refine le_ext_of ?_) | (with_reducible refine le_ext_add ?_))); done)) | ((with_reducible refine Below.setCell ?_ ?_ _); rotate_left; focus (((try dsimp only); repeat (first | omega | simp only [World.size_alloc, World.size_setCell, World.size_drew] | (with_reducible refine le_ext_of ?_) | (with_reducible refine le_ext_add ?_))); done)) | (with_reducible refine Below.drew ?_)))))⟩

/-- What is known of a minute. -/
def Mom (a b : Int) : Prop := 0 ≤ a ∧ a < 1440 ∧ 0 ≤ b ∧ b < 1440 ∧ a ≤ b ∧ b - a ≤ 10
theorem valid_yes (a b : Int) (w : World) (h : Mom a b) : Calls Tryd.prog 99 #[.agg #[.int .i64 a, .int .i64 b]] w fun e w' => e = .returned (.bool true) ∧ ∃ x, w' = ext w x := by
  obtain ⟨h1, h2, h3, h4, h5, h6⟩ := h
  have e1 : isN a 1440 = true := isN_yes (by omega)
  have e2 : isN b 1440 = true := isN_yes (by omega)
  go_enter Tryd.func99, Tryd.ntmps99
  go_wp2_with (go_at_call 48; refine (isMinute_any _ _).mono ?_; rintro e w' ⟨rfl, rfl⟩)
  go_ret
  exact ⟨rfl, by (exact ext_of (by (repeat (first | (with_reducible exact Below.refl _ _) | (with_reducible assumption) | ((with_reducible refine below_ext_trans ?_ ?_ _); rotate_left; focus (((try dsimp only); repeat (first | omega | simp only [World.size_alloc, World.size_setCell, World.size_drew] | (with_reducible refine le_ext_of ?_) | (with_reducible refine le_ext_add ?_))); done)) | ((with_reducible refine Below.alloc ?_ ?_ _); rotate_left; focus (((try dsimp only); repeat (first | omega | simp only [World.size_alloc, World.size_setCell, World.size_drew] | (with_reducible refine le_ext_of ?_) | (with_reducible refine le_ext_add ?_))); done)) | ((with_reducible refine Below.setCell ?_ ?_ _); rotate_left; focus (((try dsimp only); repeat (first | omega | simp only [World.size_alloc, World.size_setCell, World.size_drew] | (with_reducible refine le_ext_of ?_) | (with_reducible refine le_ext_add ?_))); done)) | (with_reducible refine Below.drew ?_)))))⟩

theorem valid_no (a b : Int) (w : World) (h : ¬ Mom a b) : Calls Tryd.prog 99 #[.agg #[.int .i64 a, .int .i64 b]] w fun e w' => e = .returned (.bool false) ∧ ∃ x, w' = ext w x := by
  by_cases h1 : 0 ≤ a ∧ a < 1440
  · have e1 : isN a 1440 = true := isN_yes (by omega)
    by_cases h2 : 0 ≤ b ∧ b < 1440
    · have e2 : isN b 1440 = true := isN_yes (by omega)
      obtain ⟨h1, h1'⟩ := h1
      obtain ⟨h2, h2'⟩ := h2
      by_cases h3 : a ≤ b
      · have h4 : decide (b - a ≤ 10) = false := by unfold Mom at h; simp; omega
        clear h
        go_enter Tryd.func99, Tryd.ntmps99
        go_wp2_with (go_at_call 48; refine (isMinute_any _ _).mono ?_; rintro e w' ⟨rfl, rfl⟩)
        go_ret
        exact ⟨rfl, by (exact ext_of (by (repeat (first | (with_reducible exact Below.refl _ _) | (with_reducible assumption) | ((with_reducible refine below_ext_trans ?_ ?_ _); rotate_left; focus (((try dsimp only); repeat (first | omega | simp only [World.size_alloc, World.size_setCell, World.size_drew] | (with_reducible refine le_ext_of ?_) | (with_reducible refine le_ext_add ?_))); done)) | ((with_reducible refine Below.alloc ?_ ?_ _); rotate_left; focus (((try dsimp only); repeat (first | omega | simp only [World.size_alloc, World.size_setCell, World.size_drew] | (with_reducible refine le_ext_of ?_) | (with_reducible refine le_ext_add ?_))); done)) | ((with_reducible refine Below.setCell ?_ ?_ _); rotate_left; focus (((try dsimp only); repeat (first | omega | simp only [World.size_alloc, World.size_setCell, World.size_drew] | (with_reducible refine le_ext_of ?_) | (with_reducible refine le_ext_add ?_))); done)) | (with_reducible refine Below.drew ?_)))))⟩
      · have h3' : decide (a ≤ b) = false := by simp; omega
        clear h
        go_enter Tryd.func99, Tryd.ntmps99
        go_wp2_with (go_at_call 48; refine (isMinute_any _ _).mono ?_; rintro e w' ⟨rfl, rfl⟩)
        go_ret
        exact ⟨rfl, by (exact ext_of (by (repeat (first | (with_reducible exact Below.refl _ _) | (with_reducible assumption) | ((with_reducible refine below_ext_trans ?_ ?_ _); rotate_left; focus (((try dsimp only); repeat (first | omega | simp only [World.size_alloc, World.size_setCell, World.size_drew] | (with_reducible refine le_ext_of ?_) | (with_reducible refine le_ext_add ?_))); done)) | ((with_reducible refine Below.alloc ?_ ?_ _); rotate_left; focus (((try dsimp only); repeat (first | omega | simp only [World.size_alloc, World.size_setCell, World.size_drew] | (with_reducible refine le_ext_of ?_) | (with_reducible refine le_ext_add ?_))); done)) | ((with_reducible refine Below.setCell ?_ ?_ _); rotate_left; focus (((try dsimp only); repeat (first | omega | simp only [World.size_alloc, World.size_setCell, World.size_drew] | (with_reducible refine le_ext_of ?_) | (with_reducible refine le_ext_add ?_))); done)) | (with_reducible refine Below.drew ?_)))))⟩
    · have e2 : isN b 1440 = false := isN_no (by omega)
      clear h h1 h2
      go_enter Tryd.func99, Tryd.ntmps99
      go_wp2_with (go_at_call 48; refine (isMinute_any _ _).mono ?_; rintro e w' ⟨rfl, rfl⟩)
      go_ret
      exact ⟨rfl, by (exact ext_of (by (repeat (first | (with_reducible exact Below.refl _ _) | (with_reducible assumption) | ((with_reducible refine below_ext_trans ?_ ?_ _); rotate_left; focus (((try dsimp only); repeat (first | omega | simp only [World.size_alloc, World.size_setCell, World.size_drew] | (with_reducible refine le_ext_of ?_) | (with_reducible refine le_ext_add ?_))); done)) | ((with_reducible refine Below.alloc ?_ ?_ _); rotate_left; focus (((try dsimp only); repeat (first | omega | simp only [World.size_alloc, World.size_setCell, World.size_drew] | (with_reducible refine le_ext_of ?_) | (with_reducible refine le_ext_add ?_))); done)) | ((with_reducible refine Below.setCell ?_ ?_ _); rotate_left; focus (((try dsimp only); repeat (first | omega | simp only [World.size_alloc, World.size_setCell, World.size_drew] | (with_reducible refine le_ext_of ?_) | (with_reducible refine le_ext_add ?_))); done)) | (with_reducible refine Below.drew ?_)))))⟩
  · have e1 : isN a 1440 = false := isN_no (by omega)
    clear h h1
    go_enter Tryd.func99, Tryd.ntmps99
    go_wp2_with (go_at_call 48; refine (isMinute_any _ _).mono ?_; rintro e w' ⟨rfl, rfl⟩)
    go_ret
    exact ⟨rfl, by (exact ext_of (by (repeat (first | (with_reducible exact Below.refl _ _) | (with_reducible assumption) | ((with_reducible refine below_ext_trans ?_ ?_ _); rotate_left; focus (((try dsimp only); repeat (first | omega | simp only [World.size_alloc, World.size_setCell, World.size_drew] | (with_reducible refine le_ext_of ?_) | (with_reducible refine le_ext_add ?_))); done)) | ((with_reducible refine Below.alloc ?_ ?_ _); rotate_left; focus (((try dsimp only); repeat (first | omega | simp only [World.size_alloc, World.size_setCell, World.size_drew] | (with_reducible refine le_ext_of ?_) | (with_reducible refine le_ext_add ?_))); done)) | ((with_reducible refine Below.setCell ?_ ?_ _); rotate_left; focus (((try dsimp only); repeat (first | omega | simp only [World.size_alloc, World.size_setCell, World.size_drew] | (with_reducible refine le_ext_of ?_) | (with_reducible refine le_ext_add ?_))); done)) | (with_reducible refine Below.drew ?_)))))⟩

/-- A slice of spans lies in a world. -/
def SpansAt (w : World) (p : Option Addr) (l : List (Int × Int)) : Prop :=
  ∀ (i : Nat) (s : Int × Int), l[i]? = some s → ∃ b o : Nat, p = some ⟨b, o, none⟩ ∧ b < w.heap.size ∧ w.cell? ⟨b, o + i * 2, none⟩ = some (.int .i64 s.1) ∧ w.cell? ⟨b, o + i * 2 + 1, none⟩ = some (.int .i64 s.2)
theorem SpansAt.ext {w : World} {p : Option Addr} {l : List (Int × Int)} (h : SpansAt w p l) (x : Grow w) : SpansAt (ext w x) p l := fun i s hi => by
  obtain ⟨b, o, h1, h2, h3, h4⟩ := h i s hi
  exact ⟨b, o, h1, Nat.lt_of_lt_of_le h2 x.ok.size, by rw [ext_cell _ _ _ _ h2]; exact h3, by rw [ext_cell _ _ _ _ h2]; exact h4⟩
theorem get_some {α : Type} (l : List α) (k : Nat) (h : k < l.length) : ∃ s, l[k]? = some s := ⟨l[k], List.getElem?_eq_getElem h⟩
theorem drop_of_get {α : Type} {l : List α} {k : Nat} {s : α} (h : l[k]? = some s) : l.drop k = s :: l.drop (k + 1) := by
  obtain ⟨h1, h2⟩ := List.getElem?_eq_some_iff.1 h
  rw [← h2]; exact List.drop_eq_getElem_cons h1

/-- What is known of a minute, as a test. -/
def momB (a b : Int) : Bool := isN a 1440 && isN b 1440 && decide (a ≤ b) && decide (b - a ≤ 10)
theorem momB_iff {a b : Int} : momB a b = true ↔ Mom a b := by
  unfold momB Mom isN; simp only [Bool.and_eq_true, decide_eq_true_eq]; omega
theorem momB_no {a b : Int} : momB a b = false ↔ ¬ Mom a b := by rw [← momB_iff]; simp
/-- Bounds, each of them what is known of a minute, and later than the one before it. -/
def chainB : Int → List (Int × Int) → Bool
  | _, [] => true
  | past, s :: l => momB s.1 s.2 && decide (past < s.1) && chainB s.2 l
def boundsB (l : List (Int × Int)) : Bool := decide (l.length ≤ 4) && chainB (-1) l
set_option maxHeartbeats 1000000 in
theorem validBounds_any (p : Option Addr) (c : Nat) (l : List (Int × Int)) (w : World) (hs : SpansAt w p l) :
    Calls Tryd.prog 83 #[.slice p l.length c] w fun e w' => e = .returned (.bool (boundsB l)) ∧ ∃ x, w' = ext w x := by
  by_cases h4 : (l.length : Int) ≤ 4
  · have HC := Lib.hid (show boundsB l = chainB (-1) l by simp [boundsB]; omega)
    go_enter Tryd.func83, Tryd.ntmps83
    go_wp2_with fail
    go_loopw [3, 11] (fun q i wr => ∃ (k : Nat) (past : Int), k ≤ l.length ∧ i = .int .i64 k ∧ q = .int .i64 past ∧ Hid (boundsB l = chainB past (l.drop k)) ∧ ∃ x, wr = ext w x) (fun _ i _ => l.length - (intOf i).toNat)
    case atStart => exact ⟨0, -1, by omega, rfl, rfl, HC, ext_of (Below.refl _ _)⟩
    case round =>
      obtain ⟨k, past, hk, rfl, rfl, H, x, rfl⟩ := hrel
      by_cases hlt : k < l.length
      · obtain ⟨⟨lo, hi⟩, hsk⟩ := get_some l k hlt
        obtain ⟨b, o, rfl, hb, c1, c2⟩ := hs.ext x k _ hsk
        have HS := Lib.hid (show boundsB l = (momB lo hi && decide (past < lo) && chainB hi (l.drop (k + 1))) by have := H.out; rw [drop_of_get hsk] at this; exact this)
        clear hsk H HC
        dsimp only at c1 c2
        by_cases m1 : Mom lo hi
        · by_cases m2 : past < lo
          · have m4 : decide (lo ≤ past) = false := by simp; omega
            have H3 := Lib.hid (show boundsB l = chainB hi (l.drop (k + 1)) by rw [HS.out, momB_iff.2 m1]; simp [m2])
            clear HS
            go_wp2_with (go_at_call 99; refine (valid_yes _ _ _ m1).mono ?_; rintro e w' ⟨rfl, y, rfl⟩)
            go_roundw
            case rel => exact ⟨k + 1, hi, by omega, by go_num, rfl, H3, by (exact ext_of (by (repeat (first | (with_reducible exact Below.refl _ _) | (with_reducible assumption) | ((with_reducible refine below_ext_trans ?_ ?_ _); rotate_left; focus (((try dsimp only); repeat (first | omega | simp only [World.size_alloc, World.size_setCell, World.size_drew] | (with_reducible refine le_ext_of ?_) | (with_reducible refine le_ext_add ?_))); done)) | ((with_reducible refine Below.alloc ?_ ?_ _); rotate_left; focus (((try dsimp only); repeat (first | omega | simp only [World.size_alloc, World.size_setCell, World.size_drew] | (with_reducible refine le_ext_of ?_) | (with_reducible refine le_ext_add ?_))); done)) | ((with_reducible refine Below.setCell ?_ ?_ _); rotate_left; focus (((try dsimp only); repeat (first | omega | simp only [World.size_alloc, World.size_setCell, World.size_drew] | (with_reducible refine le_ext_of ?_) | (with_reducible refine le_ext_add ?_))); done)) | (with_reducible refine Below.drew ?_)))))⟩
            case measure => simp [intOf]; omega
          · have m4 : lo ≤ past := by omega
            have H3 := Lib.hid (show boundsB l = false by rw [HS.out]; simp [m2])
            clear HS
            go_wp2_with (go_at_call 99; refine (valid_yes _ _ _ m1).mono ?_; rintro e w' ⟨rfl, y, rfl⟩)
            go_ret
            exact ⟨by rw [H3.out]; rfl, by (exact ext_of (by (repeat (first | (with_reducible exact Below.refl _ _) | (with_reducible assumption) | ((with_reducible refine below_ext_trans ?_ ?_ _); rotate_left; focus (((try dsimp only); repeat (first | omega | simp only [World.size_alloc, World.size_setCell, World.size_drew] | (with_reducible refine le_ext_of ?_) | (with_reducible refine le_ext_add ?_))); done)) | ((with_reducible refine Below.alloc ?_ ?_ _); rotate_left; focus (((try dsimp only); repeat (first | omega | simp only [World.size_alloc, World.size_setCell, World.size_drew] | (with_reducible refine le_ext_of ?_) | (with_reducible refine le_ext_add ?_))); done)) | ((with_reducible refine Below.setCell ?_ ?_ _); rotate_left; focus (((try dsimp only); repeat (first | omega | simp only [World.size_alloc, World.size_setCell, World.size_drew] | (with_reducible refine le_ext_of ?_) | (with_reducible refine le_ext_add ?_))); done)) | (with_reducible refine Below.drew ?_)))))⟩
        · have H3 := Lib.hid (show boundsB l = false by rw [HS.out, momB_no.2 m1]; simp)
          clear HS
          go_wp2_with (go_at_call 99; refine (valid_no _ _ _ m1).mono ?_; rintro e w' ⟨rfl, y, rfl⟩)
          go_ret
          exact ⟨by rw [H3.out]; rfl, by (exact ext_of (by (repeat (first | (with_reducible exact Below.refl _ _) | (with_reducible assumption) | ((with_reducible refine below_ext_trans ?_ ?_ _); rotate_left; focus (((try dsimp only); repeat (first | omega | simp only [World.size_alloc, World.size_setCell, World.size_drew] | (with_reducible refine le_ext_of ?_) | (with_reducible refine le_ext_add ?_))); done)) | ((with_reducible refine Below.alloc ?_ ?_ _); rotate_left; focus (((try dsimp only); repeat (first | omega | simp only [World.size_alloc, World.size_setCell, World.size_drew] | (with_reducible refine le_ext_of ?_) | (with_reducible refine le_ext_add ?_))); done)) | ((with_reducible refine Below.setCell ?_ ?_ _); rotate_left; focus (((try dsimp only); repeat (first | omega | simp only [World.size_alloc, World.size_setCell, World.size_drew] | (with_reducible refine le_ext_of ?_) | (with_reducible refine le_ext_add ?_))); done)) | (with_reducible refine Below.drew ?_)))))⟩
      · go_wp2_with fail
        go_ret
        exact ⟨by rw [H.out, List.drop_eq_nil_of_le (by omega)]; rfl, ext_of (below_ext _ _)⟩
  · have HC := Lib.hid (show boundsB l = false by simp [boundsB]; omega)
    have h5 : (4 : Int) < (l.length : Int) := by omega
    go_enter Tryd.func83, Tryd.ntmps83
    go_wp2_with fail
    go_ret
    exact ⟨by rw [HC.out]; rfl, by (exact ext_of (by (repeat (first | (with_reducible exact Below.refl _ _) | (with_reducible assumption) | ((with_reducible refine below_ext_trans ?_ ?_ _); rotate_left; focus (((try dsimp only); repeat (first | omega | simp only [World.size_alloc, World.size_setCell, World.size_drew] | (with_reducible refine le_ext_of ?_) | (with_reducible refine le_ext_add ?_))); done)) | ((with_reducible refine Below.alloc ?_ ?_ _); rotate_left; focus (((try dsimp only); repeat (first | omega | simp only [World.size_alloc, World.size_setCell, World.size_drew] | (with_reducible refine le_ext_of ?_) | (with_reducible refine le_ext_add ?_))); done)) | ((with_reducible refine Below.setCell ?_ ?_ _); rotate_left; focus (((try dsimp only); repeat (first | omega | simp only [World.size_alloc, World.size_setCell, World.size_drew] | (with_reducible refine le_ext_of ?_) | (with_reducible refine le_ext_add ?_))); done)) | (with_reducible refine Below.drew ?_)))))⟩

/-- A slice of numbers lies in a world. -/
def IntsAt (w : World) (p : Option Addr) (l : List Int) : Prop :=
  ∀ (i : Nat) (x : Int), l[i]? = some x → ∃ b o : Nat, p = some ⟨b, o, none⟩ ∧ b < w.heap.size ∧ w.cell? ⟨b, o + i, none⟩ = some (.int .i64 x)
theorem IntsAt.ext {w : World} {p : Option Addr} {l : List Int} (h : IntsAt w p l) (x : Grow w) : IntsAt (ext w x) p l := fun i s hi => by
  obtain ⟨b, o, h1, h2, h3⟩ := h i s hi
  exact ⟨b, o, h1, Nat.lt_of_lt_of_le h2 x.ok.size, by rw [ext_cell _ _ _ _ h2]; exact h3⟩
/-- A slice of slices of numbers lies in a world. -/
def RowsAt (w : World) (p : Option Addr) (l : List (List Int)) : Prop :=
  ∀ (i : Nat) (r : List Int), l[i]? = some r → ∃ b o : Nat, p = some ⟨b, o, none⟩ ∧ b < w.heap.size ∧ ∃ (q : Option Addr) (c : Nat), w.cell? ⟨b, o + i, none⟩ = some (.slice q r.length c) ∧ IntsAt w q r
theorem RowsAt.ext {w : World} {p : Option Addr} {l : List (List Int)} (h : RowsAt w p l) (x : Grow w) : RowsAt (ext w x) p l := fun i s hi => by
  obtain ⟨b, o, h1, h2, q, c, h3, h4⟩ := h i s hi
  exact ⟨b, o, h1, Nat.lt_of_lt_of_le h2 x.ok.size, q, c, by rw [ext_cell _ _ _ _ h2]; exact h3, h4.ext x⟩
/-- A shot: its station, its company, the ends of its minute. -/
structure Shot where
  st : Int
  co : Int
  lo : Int
  hi : Int
def ShotsAt (w : World) (p : Option Addr) (l : List Shot) : Prop :=
  ∀ (i : Nat) (s : Shot), l[i]? = some s → ∃ b o : Nat, p = some ⟨b, o, none⟩ ∧ b < w.heap.size ∧ w.cell? ⟨b, o + i * 4, none⟩ = some (.int .i64 s.st) ∧ w.cell? ⟨b, o + i * 4 + 1, none⟩ = some (.int .i64 s.co) ∧
    w.cell? ⟨b, o + i * 4 + 2, none⟩ = some (.int .i64 s.lo) ∧ w.cell? ⟨b, o + i * 4 + 3, none⟩ = some (.int .i64 s.hi)
theorem ShotsAt.ext {w : World} {p : Option Addr} {l : List Shot} (h : ShotsAt w p l) (x : Grow w) : ShotsAt (ext w x) p l := fun i s hi => by
  obtain ⟨b, o, h1, h2, h3, h4, h5, h6⟩ := h i s hi
  exact ⟨b, o, h1, Nat.lt_of_lt_of_le h2 x.ok.size, by rw [ext_cell _ _ _ _ h2]; exact h3, by rw [ext_cell _ _ _ _ h2]; exact h4, by rw [ext_cell _ _ _ _ h2]; exact h5, by rw [ext_cell _ _ _ _ h2]; exact h6⟩

end Go.Proofs.YtdmicngnbcdkdaaDoor

