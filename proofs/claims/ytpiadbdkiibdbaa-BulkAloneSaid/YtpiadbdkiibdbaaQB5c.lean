/- Contracts of package bulk: how many measures are enough. -/
import Derived.Test.YtpiadbdkiibdbaaQStp
import Derived.BigQuiet
import Derived.DeepKeys5
import Derived.WalkMore
import Derived.Shelf.RegionOpen
import Derived.StillTailTactics
import Derived.Laws.EntriesVeiled
import Derived.Sort.CutIn
import Derived.RangeFuncOne
set_option linter.unusedSimpArgs false
set_option linter.unusedVariables false
namespace Go.Proofs.Ytpiadbdkiibdbaa
open Go Go.RowKit
theorem enoughI_bd {f h : Int} (hf : 0 ≤ f ∧ f ≤ 100000) (hh : 1 ≤ h ∧ h ≤ 100000) : 0 ≤ enoughI f h ∧ enoughI f h ≤ 200000 := by
  unfold enoughI
  have h1 : 0 ≤ (f + h - 1) / h := Int.ediv_nonneg (by omega) (by omega)
  have h2 : (f + h - 1) / h ≤ (f + h - 1) := Int.ediv_le_self _ (by omega)
  omega
theorem enough_any (f h : Int) (w : World) (hf : 0 ≤ f ∧ f ≤ 100000) (hh : 1 ≤ h ∧ h ≤ 100000) : Calls Try.prog 128 #[.int .i64 f, .int .i64 h] w fun e w' => e = .returned (.int .i64 (enoughI f h)) ∧ w = w' := by
  have e1 : IntKind.i64.wrap (f + h) = f + h := IntWalk.i64_in _ (by omega)
  have e2 : IntKind.i64.wrap (f + h - 1) = f + h - 1 := IntWalk.i64_in _ (by omega)
  have hb := enoughI_bd hf hh
  have e3 : (f + h - 1).tdiv h = enoughI f h := by unfold enoughI; rw [Int.tdiv_eq_ediv_of_nonneg (by omega)]
  have e4 : IntKind.i64.wrap (enoughI f h) = enoughI f h := IntWalk.i64_in _ (by omega)
  have e5 : ¬ h = 0 := by omega
  have e6 : (h == 0) = false := by simpa using e5
  go_enter Try.func128, Try.ntmps128
  go_wp2
  go_ret
  exact ⟨rfl, rfl⟩
/-- What measures can hold. -/
def MsOK (m : Ms) : Prop := (1 ≤ m.a ∧ m.a ≤ 9) ∧ (1 ≤ m.b ∧ m.b ≤ 9) ∧ (1 ≤ m.c ∧ m.c ≤ 9)
theorem MsOK.at {m : Ms} (h : MsOK m) (k : Nat) : 1 ≤ m.at k ∧ m.at k ≤ 9 := by
  match k with
  | 0 => exact h.1
  | 1 => exact h.2.1
  | n + 2 => exact h.2.2
theorem barrows_any (m : Ms) (f q : Int) (w : World) (hm : MsOK m) (hf : 0 ≤ f ∧ f ≤ 100000) : Calls Try.prog 114 #[msV m, .agg #[.int .i64 f, .int .i64 q]] w fun e w' => e = .returned (.int .i64 (enoughI f m.a)) ∧ ∃ x, w' = ext w x := by
  have h1 : 1 ≤ m.a ∧ m.a ≤ 100000 := by have := hm.1; omega
  unfold msV
  go_enter Try.func114, Try.ntmps114
  go_wp2_with (go_at_call 128; refine (enough_any _ _ _ hf h1).mono ?_; rintro e w' ⟨rfl, rfl⟩)
  go_ret
  exact ⟨rfl, by (exact ext_of (by (exact belA)))⟩
theorem rows_any (m : Ms) (f q : Int) (w : World) (hm : MsOK m) (hf : 0 ≤ f ∧ f ≤ 100000) : Calls Try.prog 115 #[msV m, .agg #[.int .i64 f, .int .i64 q]] w fun e w' => e = .returned (.int .i64 (enoughI f m.b)) ∧ ∃ x, w' = ext w x := by
  have h1 : 1 ≤ m.b ∧ m.b ≤ 100000 := by have := hm.2.1; omega
  unfold msV
  go_enter Try.func115, Try.ntmps115
  go_wp2_with (go_at_call 128; refine (enough_any _ _ _ hf h1).mono ?_; rintro e w' ⟨rfl, rfl⟩)
  go_ret
  exact ⟨rfl, by (exact ext_of (by (exact belA)))⟩
theorem casks_any (m : Ms) (f q : Int) (w : World) (hm : MsOK m) (hq : 0 ≤ q ∧ q ≤ 100000) : Calls Try.prog 116 #[msV m, .agg #[.int .i64 f, .int .i64 q]] w fun e w' => e = .returned (.int .i64 (enoughI q m.c)) ∧ ∃ x, w' = ext w x := by
  have h1 : 1 ≤ m.c ∧ m.c ≤ 100000 := by have := hm.2.2; omega
  unfold msV
  go_enter Try.func116, Try.ntmps116
  go_wp2_with (go_at_call 128; refine (enough_any _ _ _ hq h1).mono ?_; rintro e w' ⟨rfl, rfl⟩)
  go_ret
  exact ⟨rfl, by (exact ext_of (by (exact belA)))⟩
attribute [local go_sem] Oper.semAt_some frozen_alloc_lt
set_option maxRecDepth 100000 in
set_option maxHeartbeats 4000000 in
/-- How many measures of a kind are enough for a load. -/
theorem count_any (m : Ms) (k : Nat) (l : Int × Int) (w : World) (hm : MsOK m) (hk : k < 3) (h1 : 0 ≤ l.1 ∧ l.1 ≤ 100000) (h2 : 0 ≤ l.2 ∧ l.2 ≤ 100000) : Calls Try.prog 98 #[msV m, .int .i64 k, .agg #[.int .i64 l.1, .int .i64 l.2]] w fun e w' => e = .returned (.int .i64 (cntI m k l)) ∧ ∃ x, w' = ext w x := by
  unfold msV
  have HM := Lib.hid hm
  rcases (show k = 0 ∨ k = 1 ∨ k = 2 by omega) with rfl | rfl | rfl
  · show Calls Try.prog _ #[_, .int .i64 0, _] w _
    go_enter Try.func98, Try.ntmps98
    go_upto_region 2 with fail
    refine wp_region_ext (by kernel_rfl) (by kernel_rfl) ?_
    repeat (go_big_quiet_step ((go_at_call 114; exact quiet_ext (barrows_any m l.1 l.2 _ HM.out h1))))
    (refine wpQuiet_nil ?_; rintro _ ⟨x, rfl⟩)
    go_wp2_with fail
    go_ret
    exact ⟨rfl, by (exact ext_of (by (exact belA)))⟩
  · show Calls Try.prog _ #[_, .int .i64 1, _] w _
    go_enter Try.func98, Try.ntmps98
    go_upto_region 2 with fail
    refine wp_region_ext (by kernel_rfl) (by kernel_rfl) ?_
    repeat (go_big_quiet_step ((go_at_call 115; exact quiet_ext (rows_any m l.1 l.2 _ HM.out h1))))
    (refine wpQuiet_nil ?_; rintro _ ⟨x, rfl⟩)
    go_wp2_with fail
    go_ret
    exact ⟨rfl, by (exact ext_of (by (exact belA)))⟩
  · show Calls Try.prog _ #[_, .int .i64 2, _] w _
    go_enter Try.func98, Try.ntmps98
    go_upto_region 2 with fail
    refine wp_region_ext (by kernel_rfl) (by kernel_rfl) ?_
    repeat (go_big_quiet_step ((go_at_call 116; exact quiet_ext (casks_any m l.1 l.2 _ HM.out h2))))
    (refine wpQuiet_nil ?_; rintro _ ⟨x, rfl⟩)
    go_wp2_with fail
    go_ret
    exact ⟨rfl, by (exact ext_of (by (exact belA)))⟩
end Go.Proofs.Ytpiadbdkiibdbaa

