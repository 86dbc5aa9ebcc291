/- Contracts of Wheel, Some, Between and Sane. -/
/- Contract of sound. -/
import Derived.Test.YtmnbfjphndgmnaaDoorQWa
import Derived.IntWalk
import Derived.Test.YtmnbfjphndgmnaaDoorQTm
import Derived.Test.YtmnbfjphndgmnaaDoorQUa
import Derived.Deep.DeepCutAuto
set_option linter.unusedSimpArgs false
set_option linter.unusedVariables false
namespace Go.Proofs.YtmnbfjphndgmnaaDoor
open Go Go.RowKit

theorem tmod_cases (n m : Int) (hm : 0 < m) : (n.tmod m < 0 → n.tmod m + m = n % m) ∧ (¬ n.tmod m < 0 → n.tmod m = n % m) ∧ -m < n.tmod m ∧ n.tmod m < m := by
  have h1 := Int.tmod_add_mul_tdiv n m
  have h2 : n.tmod m < m := Int.tmod_lt_of_pos n hm
  have h3 : -m < n.tmod m := by
    rcases Int.le_total 0 n with h | h
    · have := Int.tmod_nonneg m h; omega
    · have h4 := Int.tmod_lt_of_pos (-n) hm
      rw [Int.neg_tmod] at h4
      omega
  have h5 : n % m = (n.tmod m) % m := by
    conv => lhs; rw [← h1]
    exact Int.add_mul_emod_self_left _ _ _
  refine ⟨fun h => ?_, fun h => ?_, h3, h2⟩
  · rw [h5, ← Int.add_emod_right, Int.emod_eq_of_lt (by omega) (by omega)]
  · rw [h5, Int.emod_eq_of_lt (by omega) h2]

set_option maxHeartbeats 400000 in
theorem Wheel_any (n m : Int) (w : World) (hm : 1 ≤ m) (hm2 : m ≤ 1000000) : Calls Tryd.prog 14 #[.int .i64 n, .int .i64 m] w fun e w' => e = .returned (.int .i64 (n % m)) ∧ ∃ x, w' = ext w x := by
  by_cases h2 : m < 2
  · obtain rfl : m = 1 := by omega
    have H := Lib.hid (Int.emod_one n)
    clear hm hm2 h2
    go_enter Tryd.func14, Tryd.ntmps14
    go_wp2
    go_ret
    exact ⟨ret_int (by rw [H.out]), ext_of (Below.refl _ _)⟩
  · obtain ⟨H1, H2, H3, H4⟩ := tmod_cases n m (by omega)
    have H1 := Lib.hid H1
    have H2 := Lib.hid H2
    have h0 : ¬ m = 0 := by omega
    by_cases h : n.tmod m < 0
    all_goals
      go_enter Tryd.func14, Tryd.ntmps14
      go_wp2
      go_ret
      first
        | exact ⟨rfl, ext_of (Below.refl _ _)⟩
        | exact ⟨ret_int (H2.out (by assumption)), ext_of (Below.refl _ _)⟩

set_option maxHeartbeats 1000000 in
/-- The number of a span to which any number leads. -/
theorem Some_any (lo hi n : Int) (w : World) (h0 : 0 ≤ lo) (h1 : lo ≤ hi) (h2 : hi ≤ 100000) : Calls Tryd.prog 23 #[.agg #[.int .i64 lo, .int .i64 hi], .int .i64 n] w fun e w' => e = .returned (.int .i64 (lo + n % (hi - lo + 1))) ∧ ∃ x, w' = ext w x := by
  have e1 : IntKind.i64.wrap (hi - lo) = hi - lo := IntWalk.i64_in _ (by omega)
  have e2 : IntKind.i64.wrap (hi - lo + 1) = hi - lo + 1 := IntWalk.i64_in _ (by omega)
  have hr0 : 0 ≤ n % (hi - lo + 1) := Int.emod_nonneg _ (by omega)
  have hr1 : n % (hi - lo + 1) < hi - lo + 1 := Int.emod_lt_of_pos _ (by omega)
  have e3 : IntKind.i64.wrap (lo + n % (hi - lo + 1)) = lo + n % (hi - lo + 1) := IntWalk.i64_in _ (by omega)
  have hm : 1 ≤ hi - lo + 1 ∧ hi - lo + 1 ≤ 1000000 := by omega
  clear h0 h1 h2 hr0 hr1
  go_enter Tryd.func23, Tryd.ntmps23
  go_wp2_with fail
  refine wp_region_ext (by kernel_rfl) (by kernel_rfl) ?_
  repeat (go_big_quiet_step ((go_at_call 14; exact quiet_ext (Wheel_any _ _ _ hm.1 hm.2))))
  (refine wpQuiet_nil ?_; rintro _ ⟨x, rfl⟩)
  go_wp2_with fail
  go_ret
  exact ⟨ret_int (by first | rfl | exact e3), by (exact ext_of (by (repeat (first | (with_reducible exact Below.refl _ _) | (with_reducible assumption) | ((with_reducible refine below_ext_trans ?_ ?_ _); rotate_left; focus (((try dsimp only); repeat (first | omega | simp only [World.size_alloc, World.size_setCell, World.size_drew] | (with_reducible refine le_ext_of ?_) | (with_reducible refine le_ext_add ?_))); done)) | ((with_reducible refine Below.alloc ?_ ?_ _); rotate_left; focus (((try dsimp only); repeat (first | omega | simp only [World.size_alloc, World.size_setCell, World.size_drew] | (with_reducible refine le_ext_of ?_) | (with_reducible refine le_ext_add ?_))); done)) | ((with_reducible refine Below.setCell ?_ ?_ _); rotate_left; focus (((try dsimp only); repeat (first | omega | simp only [World.size_alloc, World.size_setCell, World.size_drew] | (with_reducible refine le_ext_of ?_) | (with_reducible refine le_ext_add ?_))); done)) | (with_reducible refine Below.drew ?_)))))⟩

theorem Between_any (n a b : Int) (w : World) : Calls Tryd.prog 25 #[.int .i64 n, .int .i64 a, .int .i64 b] w fun e w' => e = .returned (.bool (decide (a ≤ n ∧ n ≤ b))) ∧ w = w' := by
  by_cases h1 : a ≤ n
  · by_cases h2 : n ≤ b
    · have H := Lib.hid (show decide (a ≤ n ∧ n ≤ b) = true by simp [h1, h2])
      go_enter Tryd.func25, Tryd.ntmps25
      go_wp2
      go_ret
      exact ⟨by rw [H.out]; rfl, rfl⟩
    · have H := Lib.hid (show decide (a ≤ n ∧ n ≤ b) = false by simp [h2])
      have h2' : decide (n ≤ b) = false := by simpa using h2
      clear h2
      go_enter Tryd.func25, Tryd.ntmps25
      go_wp2
      go_ret
      exact ⟨by rw [H.out]; rfl, rfl⟩
  · have H := Lib.hid (show decide (a ≤ n ∧ n ≤ b) = false by simp [h1])
    have h1' : decide (a ≤ n) = false := by simpa using h1
    clear h1
    go_enter Tryd.func25, Tryd.ntmps25
    go_wp2
    go_ret
    exact ⟨by rw [H.out]; rfl, rfl⟩

theorem Between_yes (n a b : Int) (w : World) (h1 : a ≤ n) (h2 : n ≤ b) : Calls Tryd.prog 25 #[.int .i64 n, .int .i64 a, .int .i64 b] w fun e w' => e = .returned (.bool true) ∧ w = w' :=
  (Between_any n a b w).mono fun e w' ⟨he, hw⟩ => ⟨by rw [he]; simp [h1, h2], hw⟩
theorem Sane_yes (lo hi a b : Int) (w : World) (h1 : a ≤ lo) (h2 : hi ≤ b) (h3 : lo ≤ hi) : Calls Tryd.prog 35 #[.agg #[.int .i64 lo, .int .i64 hi], .int .i64 a, .int .i64 b] w fun e w' => e = .returned (.bool true) ∧ ∃ x, w' = ext w x := by
  go_enter Tryd.func35, Tryd.ntmps35
  go_wp2
  go_ret
  exact ⟨rfl, by (exact ext_of (by (repeat (first | (with_reducible exact Below.refl _ _) | (with_reducible assumption) | ((with_reducible refine below_ext_trans ?_ ?_ _); rotate_left; focus (((try dsimp only); repeat (first | omega | simp only [World.size_alloc, World.size_setCell, World.size_drew] | (with_reducible refine le_ext_of ?_) | (with_reducible refine le_ext_add ?_))); done)) | ((with_reducible refine Below.alloc ?_ ?_ _); rotate_left; focus (((try dsimp only); repeat (first | omega | simp only [World.size_alloc, World.size_setCell, World.size_drew] | (with_reducible refine le_ext_of ?_) | (with_reducible refine le_ext_add ?_))); done)) | ((with_reducible refine Below.setCell ?_ ?_ _); rotate_left; focus (((try dsimp only); repeat (first | omega | simp only [World.size_alloc, World.size_setCell, World.size_drew] | (with_reducible refine le_ext_of ?_) | (with_reducible refine le_ext_add ?_))); done)) | (with_reducible refine Below.drew ?_)))))⟩
end Go.Proofs.YtmnbfjphndgmnaaDoor

namespace Go.Proofs.YtmnbfjphndgmnaaDoor
open Go Go.RowKit

set_option maxRecDepth 100000 in
set_option maxHeartbeats 4000000 in
theorem sound_no (h : Hd) (b : Bk) (w : World) (hb : BkAt w h b) (hv : bookB b = false) :
    Calls Tryd.prog 12 #[.agg #[.int .i64 b.n, .slice h.pb b.bs.length h.cb, .slice h.po b.os.length h.co, .slice h.ps b.ss.length h.cs]] w fun e w' => e = .returned (.bool false) ∧ ∃ x, w' = ext w x := by
  have HB := Lib.hid hb
  clear hb
  go_enter Tryd.func12, Tryd.ntmps12
  go_wp2_with (go_at_call 43; refine (Check_no _ _ _ (HB.out.below (by (repeat (first | (with_reducible exact Below.refl _ _) | (with_reducible assumption) | ((with_reducible refine below_ext_trans ?_ ?_ _); rotate_left; focus (((try dsimp only); repeat (first | omega | simp only [World.size_alloc, World.size_setCell, World.size_drew] | (with_reducible refine le_ext_of ?_) | (with_reducible refine le_ext_add ?_))); done)) | ((with_reducible refine Below.alloc ?_ ?_ _); rotate_left; focus (((try dsimp only); repeat (first | omega | simp only [World.size_alloc, World.size_setCell, World.size_drew] | (with_reducible refine le_ext_of ?_) | (with_reducible refine le_ext_add ?_))); done)) | ((with_reducible refine Below.setCell ?_ ?_ _); rotate_left; focus (((try dsimp only); repeat (first | omega | simp only [World.size_alloc, World.size_setCell, World.size_drew] | (with_reducible refine le_ext_of ?_) | (with_reducible refine le_ext_add ?_))); done)) | (with_reducible refine Below.drew ?_))))) hv).mono ?_; rintro e w' ⟨rfl, y, rfl⟩)
  refine wp_loop_rounds 1 ?_
  rw [rounds_succ]
  go_wp2_with fail
  refine wp_loop_rounds 1 ?_
  rw [rounds_succ]
  go_wp2_with fail
  refine wp_loop_rounds 1 ?_
  rw [rounds_succ]
  go_wp2_with fail
  go_ret
  exact ⟨rfl, by (exact ext_of (by (repeat (first | (with_reducible exact Below.refl _ _) | (with_reducible assumption) | ((with_reducible refine below_ext_trans ?_ ?_ _); rotate_left; focus (((try dsimp only); repeat (first | omega | simp only [World.size_alloc, World.size_setCell, World.size_drew] | (with_reducible refine le_ext_of ?_) | (with_reducible refine le_ext_add ?_))); done)) | ((with_reducible refine Below.alloc ?_ ?_ _); rotate_left; focus (((try dsimp only); repeat (first | omega | simp only [World.size_alloc, World.size_setCell, World.size_drew] | (with_reducible refine le_ext_of ?_) | (with_reducible refine le_ext_add ?_))); done)) | ((with_reducible refine Below.setCell ?_ ?_ _); rotate_left; focus (((try dsimp only); repeat (first | omega | simp only [World.size_alloc, World.size_setCell, World.size_drew] | (with_reducible refine le_ext_of ?_) | (with_reducible refine le_ext_add ?_))); done)) | (with_reducible refine Below.drew ?_)))))⟩

theorem chain_bounds {p : Int} {l : List (Int × Int)} (h : chainB p l = true) : ∀ s ∈ l, Mom s.1 s.2 := by
  induction l generalizing p with
  | nil => simp
  | cons s l ih =>
    simp only [chainB, Bool.and_eq_true, decide_eq_true_eq] at h
    intro x hx
    rcases List.mem_cons.1 hx with rfl | hx
    · exact momB_iff.1 h.1.1
    · exact ih h.2 x hx
theorem bookB_orders {b : Bk} (hv : bookB b = true) : (1 ≤ b.os.length ∧ b.os.length ≤ 3) ∧ ∀ r ∈ b.os, r.length = b.bs.length + 1 := by
  simp only [bookB, ordersB, Bool.and_eq_true, decide_eq_true_eq] at hv
  refine ⟨hv.1.2.1, fun r hr => ?_⟩
  have := List.all_eq_true.1 hv.1.2.2 r hr
  simp only [orderB, Bool.and_eq_true, decide_eq_true_eq] at this
  exact this.1
theorem bookB_n {b : Bk} (hv : bookB b = true) : 1 ≤ b.n ∧ b.n ≤ 4 := by
  simp only [bookB, Bool.and_eq_true, decide_eq_true_eq] at hv
  exact hv.1.1.1
set_option maxRecDepth 100000 in
set_option maxHeartbeats 4000000 in
theorem sound_yes (h : Hd) (b : Bk) (w : World) (hb : BkAt w h b) (hv : bookB b = true) :
    Calls Tryd.prog 12 #[.agg #[.int .i64 b.n, .slice h.pb b.bs.length h.cb, .slice h.po b.os.length h.co, .slice h.ps b.ss.length h.cs]] w fun e w' => e = .returned (.bool true) ∧ ∃ x, w' = ext w x := by
  obtain ⟨pb, cb, po, co, ps, cs⟩ := h
  dsimp only
  obtain ⟨hn1, hn2⟩ := bookB_n hv
  obtain ⟨hl4, _, hch⟩ := bookB_bounds hv
  obtain ⟨⟨ho1, ho3⟩, hrow⟩ := bookB_orders hv
  have hs5 := bookB_ss hv
  have HV := Lib.hid hv
  have HCH := Lib.hid (chain_bounds hch)
  have HROW := Lib.hid hrow
  have HB := Lib.hid hb
  have c1 : (b.bs.length : Int) ≤ 4 := by omega
  have c2 : (1 : Int) ≤ (b.os.length : Int) := by omega
  have c3 : (b.os.length : Int) ≤ 3 := by omega
  have c4 : (b.ss.length : Int) ≤ 5 := by omega
  clear hb hv hch hrow
  go_enter Tryd.func12, Tryd.ntmps12
  go_wp2_with (first
    | (go_at_call 43; refine (Check_yes _ _ _ (HB.out.below (by (repeat (first | (with_reducible exact Below.refl _ _) | (with_reducible assumption) | ((with_reducible refine below_ext_trans ?_ ?_ _); rotate_left; focus (((try dsimp only); repeat (first | omega | simp only [World.size_alloc, World.size_setCell, World.size_drew] | (with_reducible refine le_ext_of ?_) | (with_reducible refine le_ext_add ?_))); done)) | ((with_reducible refine Below.alloc ?_ ?_ _); rotate_left; focus (((try dsimp only); repeat (first | omega | simp only [World.size_alloc, World.size_setCell, World.size_drew] | (with_reducible refine le_ext_of ?_) | (with_reducible refine le_ext_add ?_))); done)) | ((with_reducible refine Below.setCell ?_ ?_ _); rotate_left; focus (((try dsimp only); repeat (first | omega | simp only [World.size_alloc, World.size_setCell, World.size_drew] | (with_reducible refine le_ext_of ?_) | (with_reducible refine le_ext_add ?_))); done)) | (with_reducible refine Below.drew ?_))))) HV.out).mono ?_; rintro e w' ⟨rfl, y, rfl⟩)
    | (go_at_call 25; refine (Between_yes _ _ _ _ (by assumption) (by assumption)).mono ?_; rintro e w' ⟨rfl, rfl⟩))
  go_loopw [3, 4] (fun s i wr => ∃ k : Nat, k ≤ b.bs.length ∧ i = .int .i64 k ∧ s = .bool true ∧ ∃ x, wr = ext (w.alloc (.cells #[.int .i64 b.n, .slice pb b.bs.length cb, .slice po b.os.length co, .slice ps b.ss.length cs] 26)) x) (fun _ i _ => b.bs.length - (intOf i).toNat)
  case atStart => exact ⟨0, by omega, rfl, rfl, _, rfl⟩
  case round =>
    obtain ⟨k, hk, rfl, rfl, x, rfl⟩ := hrel
    by_cases hlt : k < b.bs.length
    · obtain ⟨⟨lo, hi⟩, hsk⟩ := get_some b.bs k hlt
      obtain ⟨bb, o, rfl, hbb, q1, q2⟩ := HB.out.bs k _ hsk
      have hM := HCH.out _ (List.mem_of_getElem? hsk)
      unfold Mom at hM
      obtain ⟨m1, m2, m3, m4, m5, m6⟩ := hM
      dsimp only at q1 q2 m1 m2 m3 m4 m5 m6
      have m7 : hi ≤ 1439 := by omega
      have hbb' : bb < w.heap.size + 1 := by omega
      clear hsk
      go_wp2_with (go_at_call 35; refine (Sane_yes _ _ _ _ _ (by assumption) (by assumption) (by assumption)).mono ?_; rintro e w' ⟨rfl, y, rfl⟩)
      go_roundw
      case rel => exact ⟨k + 1, by omega, by go_num, rfl, _, rfl⟩
      case measure => simp [intOf]; omega
    · go_wp2_with fail
      go_loopw [3, 5] (fun s i wr => ∃ k : Nat, k ≤ b.os.length ∧ i = .int .i64 k ∧ s = .bool true ∧ ∃ x, wr = ext (w.alloc (.cells #[.int .i64 b.n, .slice pb b.bs.length cb, .slice po b.os.length co, .slice ps b.ss.length cs] 26)) x) (fun _ i _ => b.os.length - (intOf i).toNat)
      case atStart => exact ⟨0, by omega, rfl, rfl, _, rfl⟩
      case round =>
        clear hk hlt
        obtain ⟨k2, hk2, rfl, rfl, x2, rfl⟩ := hrel
        by_cases hlt2 : k2 < b.os.length
        · obtain ⟨r, hsk⟩ := get_some b.os k2 hlt2
          obtain ⟨bb, o, rfl, hbb, q, c, q1, _⟩ := HB.out.os k2 _ hsk
          have hrl := HROW.out r (List.mem_of_getElem? hsk)
          have e1 : IntKind.i64.wrap ((b.bs.length : Int) + 1) = (b.bs.length : Int) + 1 := IntWalk.i64_in _ (by omega)
          have e2 : ((r.length : Int) == (b.bs.length : Int) + 1) = true := by simp; omega
          have hbb' : bb < w.heap.size + 1 := by omega
          have k20 : (0 : Int) ≤ (k2 : Int) := by omega
          have k21 : (k2 : Int) < (b.os.length : Int) := by omega
          clear hsk hrl
          go_wp2_with fail
          refine wp_region_ext (by kernel_rfl) (by kernel_rfl) ?_
          repeat (go_big_quiet_step (fail))
          (refine wpQuiet_nil ?_; rintro _ ⟨x, rfl⟩)
          go_wp2_with fail
          go_roundw
          case rel => exact ⟨k2 + 1, by omega, by go_num, rfl, _, rfl⟩
          case measure => simp [intOf]; omega
        · go_wp2_with fail
          go_loopw [3, 6] (fun s i wr => ∃ k : Nat, k ≤ b.ss.length ∧ i = .int .i64 k ∧ s = .bool true ∧ ∃ x, wr = ext (w.alloc (.cells #[.int .i64 b.n, .slice pb b.bs.length cb, .slice po b.os.length co, .slice ps b.ss.length cs] 26)) x) (fun _ i _ => b.ss.length - (intOf i).toNat)
          case atStart => exact ⟨0, by omega, rfl, rfl, _, rfl⟩
          case round =>
            clear hk2 hlt2
            obtain ⟨k3, hk3, rfl, rfl, x3, rfl⟩ := hrel
            by_cases hlt3 : k3 < b.ss.length
            · obtain ⟨sh, hsk⟩ := get_some b.ss k3 hlt3
              obtain ⟨bb, o, rfl, hbb, q0, q1, q2, q3⟩ := HB.out.ss k3 _ hsk
              obtain ⟨⟨t1, t2⟩, ⟨t3, t4⟩, t5⟩ := bookB_shot HV.out hsk
              unfold Mom at t5
              obtain ⟨m1, m2, m3, m4, m5, m6⟩ := t5
              have t6 : sh.st ≤ (b.os.length : Int) - 1 := by omega
              have t7 : sh.co ≤ b.n - 1 := by omega
              have m7 : sh.hi ≤ 1439 := by omega
              have hbb' : bb < w.heap.size + 1 := by omega
              have k30 : (0 : Int) ≤ (k3 : Int) := by omega
              have k31 : (k3 : Int) < (b.ss.length : Int) := by omega
              clear hsk
              go_wp2_with (first
                | (go_at_call 25; refine (Between_yes _ _ _ _ (by assumption) (by assumption)).mono ?_; rintro e w' ⟨rfl, rfl⟩)
                | (go_at_call 35; refine (Sane_yes _ _ _ _ _ (by assumption) (by assumption) (by assumption)).mono ?_; rintro e w' ⟨rfl, y, rfl⟩))
              go_roundw
              case rel => exact ⟨k3 + 1, by omega, by go_num, rfl, by (exact ext_of (by (repeat (first | (with_reducible exact Below.refl _ _) | (with_reducible assumption) | ((with_reducible refine below_ext_trans ?_ ?_ _); rotate_left; focus (((try dsimp only); repeat (first | omega | simp only [World.size_alloc, World.size_setCell, World.size_drew] | (with_reducible refine le_ext_of ?_) | (with_reducible refine le_ext_add ?_))); done)) | ((with_reducible refine Below.alloc ?_ ?_ _); rotate_left; focus (((try dsimp only); repeat (first | omega | simp only [World.size_alloc, World.size_setCell, World.size_drew] | (with_reducible refine le_ext_of ?_) | (with_reducible refine le_ext_add ?_))); done)) | ((with_reducible refine Below.setCell ?_ ?_ _); rotate_left; focus (((try dsimp only); repeat (first | omega | simp only [World.size_alloc, World.size_setCell, World.size_drew] | (with_reducible refine le_ext_of ?_) | (with_reducible refine le_ext_add ?_))); done)) | (with_reducible refine Below.drew ?_)))))⟩
              case measure => simp [intOf]; omega
            · go_wp2_with fail
              go_ret
              exact ⟨rfl, by (exact ext_of (by (repeat (first | (with_reducible exact Below.refl _ _) | (with_reducible assumption) | ((with_reducible refine below_ext_trans ?_ ?_ _); rotate_left; focus (((try dsimp only); repeat (first | omega | simp only [World.size_alloc, World.size_setCell, World.size_drew] | (with_reducible refine le_ext_of ?_) | (with_reducible refine le_ext_add ?_))); done)) | ((with_reducible refine Below.alloc ?_ ?_ _); rotate_left; focus (((try dsimp only); repeat (first | omega | simp only [World.size_alloc, World.size_setCell, World.size_drew] | (with_reducible refine le_ext_of ?_) | (with_reducible refine le_ext_add ?_))); done)) | ((with_reducible refine Below.setCell ?_ ?_ _); rotate_left; focus (((try dsimp only); repeat (first | omega | simp only [World.size_alloc, World.size_setCell, World.size_drew] | (with_reducible refine le_ext_of ?_) | (with_reducible refine le_ext_add ?_))); done)) | (with_reducible refine Below.drew ?_)))))⟩
end Go.Proofs.YtmnbfjphndgmnaaDoor

