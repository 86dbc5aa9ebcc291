/- What the chapter's books give, reckoned. -/
/- The chapter's calls, each with its answer. -/
import Derived.Test.YtdmicngnbcdkdaaDoorRVe
import Derived.Test.YtdmicngnbcdkdaaDoorRVd
import Derived.Test.YtdmicngnbcdkdaaDoorRWa
import Derived.KernelRfl
import Derived.Test.YtdmicngnbcdkdaaDoorRTq
set_option linter.unusedSimpArgs false
set_option linter.unusedVariables false
namespace Go.Proofs.YtdmicngnbcdkdaaDoor
open Go Go.RowKit

abbrev ownW : Bk := bookW 541 543
abbrev lateW : Bk := bookW 542 542
theorem own_ok : bookB ownW = true := by kernel_rfl
theorem late_ok : bookB lateW = true := by kernel_rfl
theorem torn_ok : bookB tornW = true := by kernel_rfl
theorem v_turn : cnt (lateL ownW.bs) 362 = 0 ∧ cnt (soonL ownW.bs) 362 = 1 := ⟨by kernel_rfl, by kernel_rfl⟩
theorem v_fair0 : kindOf (fun t => ownf ownW.os 0 t == 1) (seg (cnt (lateL ownW.bs) 362) (cnt (soonL ownW.bs) 366)) = 1 := by kernel_rfl
theorem v_fair1 : kindOf (fun t => ownf ownW.os 1 t == 2) (seg (cnt (lateL ownW.bs) 400) (cnt (soonL ownW.bs) 400)) = 2 := by kernel_rfl
theorem v_hangs : hangsTo ownW 1 ⟨1, 0, 541, 543⟩ ownW.bs.length = [1] := by kernel_rfl
theorem v_first : befores (359, 359) (362, 366) = 2 := by kernel_rfl
theorem v_owners0 : (seg (cnt (lateL ownW.bs) 541) (cnt (soonL ownW.bs) 541)).map (fun t => ownf ownW.os 1 t) = [2, 0] := by kernel_rfl
theorem v_owners : ownersL ownW 1 (cnt (lateL ownW.bs) 541) (cnt (soonL ownW.bs) 541) = [0, 2] := by
  unfold ownersL
  rw [v_owners0]
  simp [List.mergeSort, List.MergeSort.Internal.splitInTwo, Lib.compact]
  kernel_rfl
theorem v_learn : learnN lateW = 1 := by kernel_rfl
theorem v_wrong : wrongL tornW = [4] := by kernel_rfl
theorem v_sure : runsTo (onlyAt ownW 0 1) 1440 = [(364, 539)] := by kernel_rfl
end Go.Proofs.YtdmicngnbcdkdaaDoor

namespace Go.Proofs.YtdmicngnbcdkdaaDoor
open Go Go.RowKit

abbrev bv (h : Hd) (b : Bk) : Value := .agg #[.int .i64 b.n, .slice h.pb b.bs.length h.cb, .slice h.po b.os.length h.co, .slice h.ps b.ss.length h.cs]
def OneList (w : World) (l : List Int) (n : Nat) (e : Ending) (w' : World) : Prop := ∃ p c, e = .returned (.tuple #[.slice p n c, .int .i64 0]) ∧ IntsAt w' p l ∧ ∃ x, w' = ext w x
theorem Turn_own (h : Hd) (w : World) (hb : BkAt w h ownW) (hn : NB w) : Calls Tryd.prog 15 #[bv h ownW, .int .i64 362] w fun e w' => e = .returned (.tuple #[.agg #[.int .i64 0, .int .i64 1], .int .i64 0]) ∧ ∃ x, w' = ext w x :=
  (Turn_yes h ownW 362 w hb own_ok hn (by kernel_rfl)).mono fun e w' ⟨he, hx⟩ => by
    have h1 : cnt [kspec ownW.bs 2 0 4, kspec ownW.bs 2 0 5, kspec ownW.bs 2 0 6, kspec ownW.bs 2 0 7] 362 = 0 := v_turn.1
    have h2 : cnt [kspec ownW.bs 2 0 0, kspec ownW.bs 2 0 1, kspec ownW.bs 2 0 2, kspec ownW.bs 2 0 3] 362 = 1 := v_turn.2
    rw [h1, h2] at he
    exact ⟨he, hx⟩
theorem Owners_own (h : Hd) (w : World) (hb : BkAt w h ownW) (hn : NB w) : Calls Tryd.prog 16 #[bv h ownW, .int .i64 1, .int .i64 541] w (OneList w [0, 2] 2) :=
  (Owners_yes h ownW 1 541 w hb own_ok hn (by decide) (by omega) (by omega)).mono fun e w' ⟨p, c, he, hI, hx⟩ => by
    rw [v_owners] at he hI
    exact ⟨p, c, he, hI, hx⟩
theorem Fair0_own (h : Hd) (w : World) (hb : BkAt w h ownW) (hn : NB w) : Calls Tryd.prog 22 #[bv h ownW, .int .i64 0] w fun e w' => e = .returned (.tuple #[.int .i64 1, .int .i64 0]) ∧ ∃ x, w' = ext w x :=
  (Fair_yes h ownW 0 0 ⟨0, 1, 362, 366⟩ w hb own_ok hn rfl rfl).mono fun e w' ⟨he, hx⟩ => by
    rw [v_fair0] at he
    exact ⟨he, hx⟩
theorem Fair1_own (h : Hd) (w : World) (hb : BkAt w h ownW) (hn : NB w) : Calls Tryd.prog 22 #[bv h ownW, .int .i64 1] w fun e w' => e = .returned (.tuple #[.int .i64 2, .int .i64 0]) ∧ ∃ x, w' = ext w x :=
  (Fair_yes h ownW 1 1 ⟨1, 2, 400, 400⟩ w hb own_ok hn rfl rfl).mono fun e w' ⟨he, hx⟩ => by
    rw [v_fair1] at he
    exact ⟨he, hx⟩
theorem Hangs_own (h : Hd) (w : World) (hb : BkAt w h ownW) (hn : NB w) : Calls Tryd.prog 29 #[bv h ownW, .int .i64 3] w (OneList w [1] 1) :=
  (Hangs_yes h ownW 3 1 ⟨1, 0, 541, 543⟩ w hb own_ok hn rfl rfl).mono fun e w' ⟨p, c, he, hI, hx⟩ => by
    rw [v_hangs] at he hI
    exact ⟨p, c, he, hI, hx⟩
theorem First_own (h : Hd) (w : World) (hb : BkAt w h ownW) (hn : NB w) : Calls Tryd.prog 37 #[bv h ownW, .int .i64 2, .int .i64 0] w fun e w' => e = .returned (.tuple #[.int .i64 2, .int .i64 0]) ∧ ∃ x, w' = ext w x :=
  (First_yes h ownW 2 0 ⟨0, 0, 359, 359⟩ ⟨0, 1, 362, 366⟩ w hb own_ok hn rfl rfl (by omega)).mono fun e w' ⟨he, hx⟩ => by
    rw [v_first] at he
    exact ⟨he, hx⟩
theorem Sure_own (h : Hd) (w : World) (hb : BkAt w h ownW) (hn : NB w) : Calls Tryd.prog 34 #[bv h ownW, .int .i64 0, .int .i64 1] w fun e w' => ∃ p c, e = .returned (.tuple #[.slice p 1 c, .int .i64 0]) ∧ SpansAt w' p [(364, 539)] ∧ ∃ x, w' = ext w x :=
  (Sure_yes h ownW 0 1 w hb own_ok hn (by decide) (by omega) (by decide)).mono fun e w' ⟨p, c, he, hI, hx⟩ => by
    rw [v_sure] at he hI
    exact ⟨p, c, he, hI, hx⟩
theorem Wrong_torn (h : Hd) (w : World) (hb : BkAt w h tornW) (hn : NB w) : Calls Tryd.prog 21 #[bv h tornW] w (OneList w [4] 1) :=
  (Wrong_yes h tornW w hb torn_ok hn).mono fun e w' ⟨p, c, he, hI, hx⟩ => by
    rw [v_wrong] at he hI
    exact ⟨p, c, he, hI, hx⟩
theorem Learn_late (h : Hd) (w : World) (hb : BkAt w h lateW) (hn : NB w) (hc : lateW.bs.length ≤ h.cb) : Calls Tryd.prog 38 #[bv h lateW] w fun e w' => e = .returned (.tuple #[.int .i64 1, .int .i64 0]) ∧ ∃ x, w' = ext w x :=
  (Learn_yes h lateW w hb late_ok hn hc (by simp [bookW])).mono fun e w' ⟨he, hx⟩ => by
    rw [v_learn] at he
    exact ⟨he, hx⟩
end Go.Proofs.YtdmicngnbcdkdaaDoor

