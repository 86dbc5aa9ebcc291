/- Contracts of the reference's asked and Fair. -/
/- Contracts of the reference's Hangs. -/
/- Contracts of the reference's First. -/
import Derived.Test.YteocjggepjpecaaGreatDoorQGe
import Derived.Test.YteocjggepjpecaaGreatDoorQGf
import Derived.Test.YteocjggepjpecaaGreatDoorQVe
import Derived.Test.YteocjggepjpecaaGreatDoorQTq
import Derived.Deep.DeepCutAuto
set_option linter.unusedSimpArgs false
set_option linter.unusedVariables false
namespace Go.Proofs.YteocjggepjpecaaGreatDoor
open Go Go.RowKit

/-- The error of a book, and of a question. -/
def askC (b : Bk) (q : Bool) : Int := if bookB b then (if q then 0 else 21) else 20
theorem Check_eq (h : Hd) (b : Bk) (c : Int) (w : World) (hb : BkAt w h b) (hc : (if bookB b then (0 : Int) else 20) = c) :
    Calls Tryz.prog 9 #[.agg #[.int .i64 b.n, .slice h.pb b.bs.length h.cb, .slice h.po b.os.length h.co, .slice h.ps b.ss.length h.cs]] w fun e w' => e = .returned (.int .i64 c) ∧ ∃ x, w' = ext w x := by
  subst hc; exact Check_r h b w hb
attribute [local go_sem] Oper.semAt_some frozen_alloc_lt
set_option maxHeartbeats 1000000 in
theorem asked_any (h : Hd) (b : Bk) (q : Bool) (w : World) (hb : BkAt w h b) :
    Calls Tryz.prog 31 #[.agg #[.int .i64 b.n, .slice h.pb b.bs.length h.cb, .slice h.po b.os.length h.co, .slice h.ps b.ss.length h.cs], .bool q] w fun e w' => e = .returned (.int .i64 (askC b q)) ∧ ∃ x, w' = ext w x := by
  have HB := Lib.hid hb
  clear hb
  cases hv : bookB b
  · have H := Lib.hid (show askC b q = 20 by unfold askC; rw [hv]; rfl)
    have HV := Lib.hid (show (if bookB b then (0 : Int) else 20) = 20 by rw [hv]; rfl)
    clear hv
    go_enter Tryz.func31, Tryz.ntmps31
    go_wp2_with (go_at_call 9; refine (Check_eq h b 20 _ (HB.out.below (by (repeat (first | (with_reducible exact Below.refl _ _) | (with_reducible assumption) | ((with_reducible refine below_ext_trans ?_ ?_ _); rotate_left; focus (((try dsimp only); repeat (first | omega | simp only [World.size_alloc, World.size_setCell, World.size_drew] | (with_reducible refine le_ext_of ?_) | (with_reducible refine le_ext_add ?_))); done)) | ((with_reducible refine Below.alloc ?_ ?_ _); rotate_left; focus (((try dsimp only); repeat (first | omega | simp only [World.size_alloc, World.size_setCell, World.size_drew] | (with_reducible refine le_ext_of ?_) | (with_reducible refine le_ext_add ?_))); done)) | ((with_reducible refine Below.setCell ?_ ?_ _); rotate_left; focus (((try dsimp only); repeat (first | omega | simp only [World.size_alloc, World.size_setCell, World.size_drew] | (with_reducible refine le_ext_of ?_) | (with_reducible refine le_ext_add ?_))); done)) | (with_reducible refine Below.drew ?_))))) HV.out).mono ?_; rintro e w1 ⟨rfl, y, rfl⟩)
    go_ret
    exact ⟨ret_int (by rw [H.out]), by (exact ext_of (by (repeat (first | (with_reducible exact Below.refl _ _) | (with_reducible assumption) | ((with_reducible refine below_ext_trans ?_ ?_ _); rotate_left; focus (((try dsimp only); repeat (first | omega | simp only [World.size_alloc, World.size_setCell, World.size_drew] | (with_reducible refine le_ext_of ?_) | (with_reducible refine le_ext_add ?_))); done)) | ((with_reducible refine Below.alloc ?_ ?_ _); rotate_left; focus (((try dsimp only); repeat (first | omega | simp only [World.size_alloc, World.size_setCell, World.size_drew] | (with_reducible refine le_ext_of ?_) | (with_reducible refine le_ext_add ?_))); done)) | ((with_reducible refine Below.setCell ?_ ?_ _); rotate_left; focus (((try dsimp only); repeat (first | omega | simp only [World.size_alloc, World.size_setCell, World.size_drew] | (with_reducible refine le_ext_of ?_) | (with_reducible refine le_ext_add ?_))); done)) | (with_reducible refine Below.drew ?_)))))⟩
  · have HV := Lib.hid (show (if bookB b then (0 : Int) else 20) = 0 by rw [hv]; rfl)
    cases q
    · have H := Lib.hid (show askC b false = 21 by unfold askC; rw [hv]; rfl)
      clear hv
      go_enter Tryz.func31, Tryz.ntmps31
      go_wp2_with (go_at_call 9; refine (Check_eq h b 0 _ (HB.out.below (by (repeat (first | (with_reducible exact Below.refl _ _) | (with_reducible assumption) | ((with_reducible refine below_ext_trans ?_ ?_ _); rotate_left; focus (((try dsimp only); repeat (first | omega | simp only [World.size_alloc, World.size_setCell, World.size_drew] | (with_reducible refine le_ext_of ?_) | (with_reducible refine le_ext_add ?_))); done)) | ((with_reducible refine Below.alloc ?_ ?_ _); rotate_left; focus (((try dsimp only); repeat (first | omega | simp only [World.size_alloc, World.size_setCell, World.size_drew] | (with_reducible refine le_ext_of ?_) | (with_reducible refine le_ext_add ?_))); done)) | ((with_reducible refine Below.setCell ?_ ?_ _); rotate_left; focus (((try dsimp only); repeat (first | omega | simp only [World.size_alloc, World.size_setCell, World.size_drew] | (with_reducible refine le_ext_of ?_) | (with_reducible refine le_ext_add ?_))); done)) | (with_reducible refine Below.drew ?_))))) HV.out).mono ?_; rintro e w1 ⟨rfl, y, rfl⟩)
      go_ret
      exact ⟨ret_int (by rw [H.out]), by (exact ext_of (by (repeat (first | (with_reducible exact Below.refl _ _) | (with_reducible assumption) | ((with_reducible refine below_ext_trans ?_ ?_ _); rotate_left; focus (((try dsimp only); repeat (first | omega | simp only [World.size_alloc, World.size_setCell, World.size_drew] | (with_reducible refine le_ext_of ?_) | (with_reducible refine le_ext_add ?_))); done)) | ((with_reducible refine Below.alloc ?_ ?_ _); rotate_left; focus (((try dsimp only); repeat (first | omega | simp only [World.size_alloc, World.size_setCell, World.size_drew] | (with_reducible refine le_ext_of ?_) | (with_reducible refine le_ext_add ?_))); done)) | ((with_reducible refine Below.setCell ?_ ?_ _); rotate_left; focus (((try dsimp only); repeat (first | omega | simp only [World.size_alloc, World.size_setCell, World.size_drew] | (with_reducible refine le_ext_of ?_) | (with_reducible refine le_ext_add ?_))); done)) | (with_reducible refine Below.drew ?_)))))⟩
    · have H := Lib.hid (show askC b true = 0 by unfold askC; rw [hv]; rfl)
      clear hv
      go_enter Tryz.func31, Tryz.ntmps31
      go_wp2_with (go_at_call 9; refine (Check_eq h b 0 _ (HB.out.below (by (repeat (first | (with_reducible exact Below.refl _ _) | (with_reducible assumption) | ((with_reducible refine below_ext_trans ?_ ?_ _); rotate_left; focus (((try dsimp only); repeat (first | omega | simp only [World.size_alloc, World.size_setCell, World.size_drew] | (with_reducible refine le_ext_of ?_) | (with_reducible refine le_ext_add ?_))); done)) | ((with_reducible refine Below.alloc ?_ ?_ _); rotate_left; focus (((try dsimp only); repeat (first | omega | simp only [World.size_alloc, World.size_setCell, World.size_drew] | (with_reducible refine le_ext_of ?_) | (with_reducible refine le_ext_add ?_))); done)) | ((with_reducible refine Below.setCell ?_ ?_ _); rotate_left; focus (((try dsimp only); repeat (first | omega | simp only [World.size_alloc, World.size_setCell, World.size_drew] | (with_reducible refine le_ext_of ?_) | (with_reducible refine le_ext_add ?_))); done)) | (with_reducible refine Below.drew ?_))))) HV.out).mono ?_; rintro e w1 ⟨rfl, y, rfl⟩)
      go_ret
      exact ⟨ret_int (by rw [H.out]), by (exact ext_of (by (repeat (first | (with_reducible exact Below.refl _ _) | (with_reducible assumption) | ((with_reducible refine below_ext_trans ?_ ?_ _); rotate_left; focus (((try dsimp only); repeat (first | omega | simp only [World.size_alloc, World.size_setCell, World.size_drew] | (with_reducible refine le_ext_of ?_) | (with_reducible refine le_ext_add ?_))); done)) | ((with_reducible refine Below.alloc ?_ ?_ _); rotate_left; focus (((try dsimp only); repeat (first | omega | simp only [World.size_alloc, World.size_setCell, World.size_drew] | (with_reducible refine le_ext_of ?_) | (with_reducible refine le_ext_add ?_))); done)) | ((with_reducible refine Below.setCell ?_ ?_ _); rotate_left; focus (((try dsimp only); repeat (first | omega | simp only [World.size_alloc, World.size_setCell, World.size_drew] | (with_reducible refine le_ext_of ?_) | (with_reducible refine le_ext_add ?_))); done)) | (with_reducible refine Below.drew ?_)))))⟩
theorem asked_eq (h : Hd) (b : Bk) (q : Bool) (c : Int) (w : World) (hb : BkAt w h b) (hc : askC b q = c) :
    Calls Tryz.prog 31 #[.agg #[.int .i64 b.n, .slice h.pb b.bs.length h.cb, .slice h.po b.os.length h.co, .slice h.ps b.ss.length h.cs], .bool q] w fun e w' => e = .returned (.int .i64 c) ∧ ∃ x, w' = ext w x := by
  subst hc; exact asked_any h b q w hb
/-- What isShot tells of any list. -/
def shotQ (a : Int) (ns : Nat) : Bool := decide (0 ≤ a ∧ a ≤ wrap64 ((ns : Int) - 1))
theorem shotQ_eq {a : Int} {ns : Nat} (h : ns ≤ 1000000) : shotQ a ns = isN a ns := by
  unfold shotQ
  rw [show wrap64 ((ns : Int) - 1) = (ns : Int) - 1 by unfold wrap64; omega, le_isN]
theorem risShot_gen (n : Int) (pb po ps : Option Addr) (nb cb no co ns cs : Nat) (a : Int) (w : World) : Calls Tryz.prog 53 #[.agg #[.int .i64 n, .slice pb nb cb, .slice po no co, .slice ps ns cs], .int .i64 a] w fun e w' => e = .returned (.bool (shotQ a ns)) ∧ ∃ x, w' = ext w x := by
  obtain ⟨x, hx⟩ : ∃ x, shotQ a ns = x := ⟨_, rfl⟩
  have HX := Lib.hid hx
  clear hx
  go_enter Tryz.func53, Tryz.ntmps53
  go_wp2_with (go_at_call 32; refine (Between_any _ _ _ _).mono ?_; rintro e w' ⟨rfl, rfl⟩)
  go_ret
  exact ⟨by unfold shotQ; rw [Bool.decide_and]; rfl, by (exact ext_of (by (repeat (first | (with_reducible exact Below.refl _ _) | (with_reducible assumption) | ((with_reducible refine below_ext_trans ?_ ?_ _); rotate_left; focus (((try dsimp only); repeat (first | omega | simp only [World.size_alloc, World.size_setCell, World.size_drew] | (with_reducible refine le_ext_of ?_) | (with_reducible refine le_ext_add ?_))); done)) | ((with_reducible refine Below.alloc ?_ ?_ _); rotate_left; focus (((try dsimp only); repeat (first | omega | simp only [World.size_alloc, World.size_setCell, World.size_drew] | (with_reducible refine le_ext_of ?_) | (with_reducible refine le_ext_add ?_))); done)) | ((with_reducible refine Below.setCell ?_ ?_ _); rotate_left; focus (((try dsimp only); repeat (first | omega | simp only [World.size_alloc, World.size_setCell, World.size_drew] | (with_reducible refine le_ext_of ?_) | (with_reducible refine le_ext_add ?_))); done)) | (with_reducible refine Below.drew ?_)))))⟩
theorem risShot_eq (h : Hd) (b : Bk) (a : Int) (q : Bool) (w : World) (hq : shotQ a b.ss.length = q) : Calls Tryz.prog 53 #[.agg #[.int .i64 b.n, .slice h.pb b.bs.length h.cb, .slice h.po b.os.length h.co, .slice h.ps b.ss.length h.cs], .int .i64 a] w fun e w' => e = .returned (.bool q) ∧ ∃ x, w' = ext w x := by
  subst hq; exact risShot_gen b.n h.pb h.po h.ps b.bs.length h.cb b.os.length h.co b.ss.length h.cs a w
set_option maxRecDepth 100000 in
set_option maxHeartbeats 1000000 in
theorem rFair_err (h : Hd) (b : Bk) (i c : Int) (w : World) (hb : BkAt w h b) (hc : askC b (shotQ i b.ss.length) = c) (h2 : c = 20 ∨ c = 21) :
    Calls Tryz.prog 18 #[.agg #[.int .i64 b.n, .slice h.pb b.bs.length h.cb, .slice h.po b.os.length h.co, .slice h.ps b.ss.length h.cs], .int .i64 i] w fun e w' => e = .returned (.tuple #[.int .i64 0, .int .i64 c]) ∧ ∃ x, w' = ext w x := by
  have HB := Lib.hid hb
  obtain ⟨q, hq⟩ : ∃ q, shotQ i b.ss.length = q := ⟨_, rfl⟩
  rw [hq] at hc
  have HQ := Lib.hid hq
  have HC := Lib.hid hc
  clear hb hq hc
  rcases h2 with rfl | rfl
  all_goals
    go_enter Tryz.func18, Tryz.ntmps18
    go_upto_region 1 with fail
    first
      | (refine wp_region_ext (by kernel_rfl) (by kernel_rfl) ?_
         repeat (go_big_quiet_step (fail))
         go_big_quiet_step ((go_at_call 53; exact quiet_ext (risShot_eq h b i q _ HQ.out)))
         repeat (go_big_quiet_step (fail))
         go_big_quiet_step ((go_at_call 31; exact quiet_ext (asked_eq h b q _ _ (HB.out.below (by (repeat (first | (with_reducible exact Below.refl _ _) | (with_reducible assumption) | ((with_reducible refine below_ext_trans ?_ ?_ _); rotate_left; focus (((try dsimp only); repeat (first | omega | simp only [World.size_alloc, World.size_setCell, World.size_drew] | (with_reducible refine le_ext_of ?_) | (with_reducible refine le_ext_add ?_))); done)) | ((with_reducible refine Below.alloc ?_ ?_ _); rotate_left; focus (((try dsimp only); repeat (first | omega | simp only [World.size_alloc, World.size_setCell, World.size_drew] | (with_reducible refine le_ext_of ?_) | (with_reducible refine le_ext_add ?_))); done)) | ((with_reducible refine Below.setCell ?_ ?_ _); rotate_left; focus (((try dsimp only); repeat (first | omega | simp only [World.size_alloc, World.size_setCell, World.size_drew] | (with_reducible refine le_ext_of ?_) | (with_reducible refine le_ext_add ?_))); done)) | (with_reducible refine Below.drew ?_))))) HC.out)))
         repeat (go_big_quiet_step (fail))
         (refine wpQuiet_nil ?_; rintro _ ⟨x, rfl⟩))
      | skip
    go_wp2_with fail
    go_ret2
    exact ⟨rfl, by (exact ext_of (by (repeat (first | (with_reducible exact Below.refl _ _) | (with_reducible assumption) | ((with_reducible refine below_ext_trans ?_ ?_ _); rotate_left; focus (((try dsimp only); repeat (first | omega | simp only [World.size_alloc, World.size_setCell, World.size_drew] | (with_reducible refine le_ext_of ?_) | (with_reducible refine le_ext_add ?_))); done)) | ((with_reducible refine Below.alloc ?_ ?_ _); rotate_left; focus (((try dsimp only); repeat (first | omega | simp only [World.size_alloc, World.size_setCell, World.size_drew] | (with_reducible refine le_ext_of ?_) | (with_reducible refine le_ext_add ?_))); done)) | ((with_reducible refine Below.setCell ?_ ?_ _); rotate_left; focus (((try dsimp only); repeat (first | omega | simp only [World.size_alloc, World.size_setCell, World.size_drew] | (with_reducible refine le_ext_of ?_) | (with_reducible refine le_ext_add ?_))); done)) | (with_reducible refine Below.drew ?_)))))⟩
theorem rfair_eq (h : Hd) (b : Bk) (hv : bookB b = true) (st : Nat) (co lo hi : Int) (K : Int) (w : World) (hK : fairR b st ⟨st, co, lo, hi⟩ = K) (hb : BkAt w h b) (hso : st < b.os.length) (hm : Mom lo hi) :
    Calls Tryz.prog 54 #[.agg #[.int .i64 b.n, .slice h.pb b.bs.length h.cb, .slice h.po b.os.length h.co, .slice h.ps b.ss.length h.cs], .agg #[.int .i64 st, .int .i64 co, .int .i64 lo, .int .i64 hi]] w
      fun e w' => e = .returned (.int .i64 K) ∧ ∃ x, w' = ext w x := by
  subst hK; exact rfair_any h b hv st co lo hi w hb hso hm
set_option maxRecDepth 100000 in
set_option maxHeartbeats 1000000 in
theorem rFair_yes (h : Hd) (b : Bk) (i st : Nat) (co lo hi K : Int) (w : World) (hb : BkAt w h b) (hv : bookB b = true) (hi' : b.ss[i]? = some ⟨st, co, lo, hi⟩) (hK : kindOf (fun t => ownf b.os st t == co) (seg (cnt (lateL b.bs) lo) (cnt (soonL b.bs) hi)) = K) :
    Calls Tryz.prog 18 #[.agg #[.int .i64 b.n, .slice h.pb b.bs.length h.cb, .slice h.po b.os.length h.co, .slice h.ps b.ss.length h.cs], .int .i64 i] w fun e w' => e = .returned (.tuple #[.int .i64 K, .int .i64 0]) ∧ ∃ x, w' = ext w x := by
  have hil := (List.getElem?_eq_some_iff.1 hi').1
  obtain ⟨hst, hco, hm⟩ := bookB_shot hv hi'
  dsimp only at hst hm
  have HK := Lib.hid (show fairR b st ⟨st, co, lo, hi⟩ = K from (fair_same hv hi').trans hK)
  have h5 := bookB_ss hv
  have HQ := Lib.hid (show shotQ i b.ss.length = true by rw [shotQ_eq (by omega)]; exact isN_yes (by omega))
  have HC := Lib.hid (show askC b true = 0 by unfold askC; rw [hv]; rfl)
  have HM := Lib.hid hm
  have hso : st < b.os.length := by omega
  have i0 : (0 : Int) ≤ (i : Int) := by omega
  have i1 : (i : Int) < (b.ss.length : Int) := by omega
  obtain ⟨pb, cb, po, co', ps, cs⟩ := h
  obtain ⟨bb, o, hps, hbb, c1, c2, c3, c4⟩ := hb.ss i _ hi'
  dsimp only at hps c1 c2 c3 c4 ⊢
  subst hps
  have HB := Lib.hid hb
  clear hb hK hst hco hm hi'
  go_enter Tryz.func18, Tryz.ntmps18
  go_upto_region 1 with fail
  refine wp_region_ext (by kernel_rfl) (by kernel_rfl) ?_
  repeat (go_big_quiet_step (fail))
  go_big_quiet_step ((go_at_call 53; exact quiet_ext (risShot_eq ⟨pb, cb, po, co', some ⟨bb, o, none⟩, cs⟩ b i true _ HQ.out)))
  repeat (go_big_quiet_step (fail))
  go_big_quiet_step ((go_at_call 31; exact quiet_ext (asked_eq ⟨pb, cb, po, co', some ⟨bb, o, none⟩, cs⟩ b true _ _ (HB.out.below (by (repeat (first | (with_reducible exact Below.refl _ _) | (with_reducible assumption) | ((with_reducible refine below_ext_trans ?_ ?_ _); rotate_left; focus (((try dsimp only); repeat (first | omega | simp only [World.size_alloc, World.size_setCell, World.size_drew] | (with_reducible refine le_ext_of ?_) | (with_reducible refine le_ext_add ?_))); done)) | ((with_reducible refine Below.alloc ?_ ?_ _); rotate_left; focus (((try dsimp only); repeat (first | omega | simp only [World.size_alloc, World.size_setCell, World.size_drew] | (with_reducible refine le_ext_of ?_) | (with_reducible refine le_ext_add ?_))); done)) | ((with_reducible refine Below.setCell ?_ ?_ _); rotate_left; focus (((try dsimp only); repeat (first | omega | simp only [World.size_alloc, World.size_setCell, World.size_drew] | (with_reducible refine le_ext_of ?_) | (with_reducible refine le_ext_add ?_))); done)) | (with_reducible refine Below.drew ?_))))) HC.out)))
  repeat (go_big_quiet_step (fail))
  refine wpQuiet_nil ?_
  rintro W ⟨x, hW⟩
  have hB : Below w.heap.size w W := by rw [hW]; (repeat (first | (with_reducible exact Below.refl _ _) | (with_reducible assumption) | ((with_reducible refine below_ext_trans ?_ ?_ _); rotate_left; focus (((try dsimp only); repeat (first | omega | simp only [World.size_alloc, World.size_setCell, World.size_drew] | (with_reducible refine le_ext_of ?_) | (with_reducible refine le_ext_add ?_))); done)) | ((with_reducible refine Below.alloc ?_ ?_ _); rotate_left; focus (((try dsimp only); repeat (first | omega | simp only [World.size_alloc, World.size_setCell, World.size_drew] | (with_reducible refine le_ext_of ?_) | (with_reducible refine le_ext_add ?_))); done)) | ((with_reducible refine Below.setCell ?_ ?_ _); rotate_left; focus (((try dsimp only); repeat (first | omega | simp only [World.size_alloc, World.size_setCell, World.size_drew] | (with_reducible refine le_ext_of ?_) | (with_reducible refine le_ext_add ?_))); done)) | (with_reducible refine Below.drew ?_)))
  have kb : Blk W w.heap.size 26 #[.int .i64 b.n, .slice pb b.bs.length cb, .slice po b.os.length co', .slice (some ⟨bb, o, none⟩) b.ss.length cs] := by rw [hW]; exact (Blk.new rfl).ext x
  have HB2 := Lib.hid (HB.out.below hB)
  have HBB := Lib.hid hB
  have d0 := kb.cell 0
  have d1 := kb.cell 1
  have d2 := kb.cell 2
  have d3 := kb.cell 3
  simp only [List.size_toArray, List.length_cons, List.length_nil, Nat.reduceAdd, Nat.reduceLT, getElem?_pos, List.getElem_toArray, List.getElem_cons_zero, List.getElem_cons_succ] at d0 d1 d2 d3
  have hl1 := kb.lt
  have c1 := (hB.cell (p := ⟨bb, o + i * 4, none⟩) hbb).trans c1
  have c2 := (hB.cell (p := ⟨bb, o + i * 4 + 1, none⟩) hbb).trans c2
  have c3 := (hB.cell (p := ⟨bb, o + i * 4 + 2, none⟩) hbb).trans c3
  have c4 := (hB.cell (p := ⟨bb, o + i * 4 + 3, none⟩) hbb).trans c4
  have hbb := Nat.lt_of_lt_of_le hbb hB.size
  clear hW hB kb
  go_upto_region 4 with fail
  refine wp_region_ext (by kernel_rfl) (by kernel_rfl) ?_
  repeat (go_big_quiet_step (fail))
  go_big_quiet_step ((go_at_call 54; exact quiet_ext (rfair_eq ⟨pb, cb, po, co', some ⟨bb, o, none⟩, cs⟩ b hv st co lo hi K _ HK.out (HB2.out.below (by (repeat (first | (with_reducible exact Below.refl _ _) | (with_reducible assumption) | ((with_reducible refine below_ext_trans ?_ ?_ _); rotate_left; focus (((try dsimp only); repeat (first | omega | simp only [World.size_alloc, World.size_setCell, World.size_drew] | (with_reducible refine le_ext_of ?_) | (with_reducible refine le_ext_add ?_))); done)) | ((with_reducible refine Below.alloc ?_ ?_ _); rotate_left; focus (((try dsimp only); repeat (first | omega | simp only [World.size_alloc, World.size_setCell, World.size_drew] | (with_reducible refine le_ext_of ?_) | (with_reducible refine le_ext_add ?_))); done)) | ((with_reducible refine Below.setCell ?_ ?_ _); rotate_left; focus (((try dsimp only); repeat (first | omega | simp only [World.size_alloc, World.size_setCell, World.size_drew] | (with_reducible refine le_ext_of ?_) | (with_reducible refine le_ext_add ?_))); done)) | (with_reducible refine Below.drew ?_))))) hso HM.out)))
  repeat (go_big_quiet_step (fail))
  (refine wpQuiet_nil ?_; rintro _ ⟨x, rfl⟩)
  go_wp2_with fail
  go_ret2
  exact ⟨rfl, ext_of (HBB.out.trans (Below.mono (by (repeat (first | (with_reducible exact Below.refl _ _) | (with_reducible assumption) | ((with_reducible refine below_ext_trans ?_ ?_ _); rotate_left; focus (((try dsimp only); repeat (first | omega | simp only [World.size_alloc, World.size_setCell, World.size_drew] | (with_reducible refine le_ext_of ?_) | (with_reducible refine le_ext_add ?_))); done)) | ((with_reducible refine Below.alloc ?_ ?_ _); rotate_left; focus (((try dsimp only); repeat (first | omega | simp only [World.size_alloc, World.size_setCell, World.size_drew] | (with_reducible refine le_ext_of ?_) | (with_reducible refine le_ext_add ?_))); done)) | ((with_reducible refine Below.setCell ?_ ?_ _); rotate_left; focus (((try dsimp only); repeat (first | omega | simp only [World.size_alloc, World.size_setCell, World.size_drew] | (with_reducible refine le_ext_of ?_) | (with_reducible refine le_ext_add ?_))); done)) | (with_reducible refine Below.drew ?_)))) HBB.out.size))⟩
end Go.Proofs.YteocjggepjpecaaGreatDoor

namespace Go.Proofs.YteocjggepjpecaaGreatDoor
open Go Go.RowKit

attribute [local go_sem] Oper.semAt_some frozen_alloc_lt
theorem rhangs_eq (h : Hd) (b : Bk) (hv : bookB b = true) (st k : Nat) (co lo hi : Int) (q : Bool) (w : World) (hq : (allT b).any (hangT b st k ⟨st, co, lo, hi⟩) = q) (hb : BkAt w h b) (hso : st < b.os.length) (hm : Mom lo hi) (hk : k < b.bs.length) :
    Calls Tryz.prog 56 #[.agg #[.int .i64 b.n, .slice h.pb b.bs.length h.cb, .slice h.po b.os.length h.co, .slice h.ps b.ss.length h.cs], .agg #[.int .i64 st, .int .i64 co, .int .i64 lo, .int .i64 hi], .int .i64 k] w
      fun e w' => e = .returned (.bool q) ∧ ∃ x, w' = ext w x := by
  subst hq; exact rhangs_any h b hv st k co lo hi w hb hso hm hk
set_option maxRecDepth 100000 in
set_option maxHeartbeats 1000000 in
theorem rHangs_err (h : Hd) (b : Bk) (i c : Int) (w : World) (hb : BkAt w h b) (hc : askC b (shotQ i b.ss.length) = c) (h2 : c = 20 ∨ c = 21) :
    Calls Tryz.prog 20 #[.agg #[.int .i64 b.n, .slice h.pb b.bs.length h.cb, .slice h.po b.os.length h.co, .slice h.ps b.ss.length h.cs], .int .i64 i] w fun e w' => e = .returned (.tuple #[.slice none 0 0, .int .i64 c]) ∧ ∃ x, w' = ext w x := by
  have HB := Lib.hid hb
  obtain ⟨q, hq⟩ : ∃ q, shotQ i b.ss.length = q := ⟨_, rfl⟩
  rw [hq] at hc
  have HQ := Lib.hid hq
  have HC := Lib.hid hc
  clear hb hq hc
  rcases h2 with rfl | rfl
  all_goals
    go_enter Tryz.func20, Tryz.ntmps20
    go_upto_region 1 with fail
    first
      | (refine wp_region_ext (by kernel_rfl) (by kernel_rfl) ?_
         repeat (go_big_quiet_step (fail))
         go_big_quiet_step ((go_at_call 53; exact quiet_ext (risShot_eq h b i q _ HQ.out)))
         repeat (go_big_quiet_step (fail))
         go_big_quiet_step ((go_at_call 31; exact quiet_ext (asked_eq h b q _ _ (HB.out.below (by (repeat (first | (with_reducible exact Below.refl _ _) | (with_reducible assumption) | ((with_reducible refine below_ext_trans ?_ ?_ _); rotate_left; focus (((try dsimp only); repeat (first | omega | simp only [World.size_alloc, World.size_setCell, World.size_drew] | (with_reducible refine le_ext_of ?_) | (with_reducible refine le_ext_add ?_))); done)) | ((with_reducible refine Below.alloc ?_ ?_ _); rotate_left; focus (((try dsimp only); repeat (first | omega | simp only [World.size_alloc, World.size_setCell, World.size_drew] | (with_reducible refine le_ext_of ?_) | (with_reducible refine le_ext_add ?_))); done)) | ((with_reducible refine Below.setCell ?_ ?_ _); rotate_left; focus (((try dsimp only); repeat (first | omega | simp only [World.size_alloc, World.size_setCell, World.size_drew] | (with_reducible refine le_ext_of ?_) | (with_reducible refine le_ext_add ?_))); done)) | (with_reducible refine Below.drew ?_))))) HC.out)))
         repeat (go_big_quiet_step (fail))
         (refine wpQuiet_nil ?_; rintro _ ⟨x, rfl⟩))
      | skip
    go_wp2_with fail
    go_ret2
    exact ⟨rfl, by (exact ext_of (by (repeat (first | (with_reducible exact Below.refl _ _) | (with_reducible assumption) | ((with_reducible refine below_ext_trans ?_ ?_ _); rotate_left; focus (((try dsimp only); repeat (first | omega | simp only [World.size_alloc, World.size_setCell, World.size_drew] | (with_reducible refine le_ext_of ?_) | (with_reducible refine le_ext_add ?_))); done)) | ((with_reducible refine Below.alloc ?_ ?_ _); rotate_left; focus (((try dsimp only); repeat (first | omega | simp only [World.size_alloc, World.size_setCell, World.size_drew] | (with_reducible refine le_ext_of ?_) | (with_reducible refine le_ext_add ?_))); done)) | ((with_reducible refine Below.setCell ?_ ?_ _); rotate_left; focus (((try dsimp only); repeat (first | omega | simp only [World.size_alloc, World.size_setCell, World.size_drew] | (with_reducible refine le_ext_of ?_) | (with_reducible refine le_ext_add ?_))); done)) | (with_reducible refine Below.drew ?_)))))⟩
set_option maxRecDepth 100000 in
set_option maxHeartbeats 1000000 in
theorem rHangs_yes (h : Hd) (b : Bk) (i st : Nat) (co lo hi : Int) (w : World) (hb : BkAt w h b) (hv : bookB b = true) (hi' : b.ss[i]? = some ⟨st, co, lo, hi⟩) :
    Calls Tryz.prog 20 #[.agg #[.int .i64 b.n, .slice h.pb b.bs.length h.cb, .slice h.po b.os.length h.co, .slice h.ps b.ss.length h.cs], .int .i64 i] w (ListsPost w (hangsTo b st ⟨st, co, lo, hi⟩ b.bs.length)) := by
  have hil := (List.getElem?_eq_some_iff.1 hi').1
  obtain ⟨hst, hco, hm⟩ := bookB_shot hv hi'
  dsimp only at hst hm
  have hHS : ∀ k, k < b.bs.length → (allT b).any (hangT b st k ⟨st, co, lo, hi⟩) = hangB b st k ⟨st, co, lo, hi⟩ := fun k hk => hang_same hv hi' hk
  have HHS := Lib.hid hHS
  have h4 := (bookB_bounds hv).1
  clear hHS
  have h5 := bookB_ss hv
  have HQ := Lib.hid (show shotQ i b.ss.length = true by rw [shotQ_eq (by omega)]; exact isN_yes (by omega))
  have HC := Lib.hid (show askC b true = 0 by unfold askC; rw [hv]; rfl)
  have HM := Lib.hid hm
  have hso : st < b.os.length := by omega
  have i0 : (0 : Int) ≤ (i : Int) := by omega
  have i1 : (i : Int) < (b.ss.length : Int) := by omega
  obtain ⟨pb, cb, po, co', ps, cs⟩ := h
  obtain ⟨bb, o, hps, hbb, c1, c2, c3, c4⟩ := hb.ss i _ hi'
  dsimp only at hps c1 c2 c3 c4 ⊢
  subst hps
  have HB := Lib.hid hb
  clear hb hst hco hm hi'
  go_enter Tryz.func20, Tryz.ntmps20
  go_upto_region 1 with fail
  refine wp_region_ext (by kernel_rfl) (by kernel_rfl) ?_
  repeat (go_big_quiet_step (fail))
  go_big_quiet_step ((go_at_call 53; exact quiet_ext (risShot_eq ⟨pb, cb, po, co', some ⟨bb, o, none⟩, cs⟩ b i true _ HQ.out)))
  repeat (go_big_quiet_step (fail))
  go_big_quiet_step ((go_at_call 31; exact quiet_ext (asked_eq ⟨pb, cb, po, co', some ⟨bb, o, none⟩, cs⟩ b true _ _ (HB.out.below (by (repeat (first | (with_reducible exact Below.refl _ _) | (with_reducible assumption) | ((with_reducible refine below_ext_trans ?_ ?_ _); rotate_left; focus (((try dsimp only); repeat (first | omega | simp only [World.size_alloc, World.size_setCell, World.size_drew] | (with_reducible refine le_ext_of ?_) | (with_reducible refine le_ext_add ?_))); done)) | ((with_reducible refine Below.alloc ?_ ?_ _); rotate_left; focus (((try dsimp only); repeat (first | omega | simp only [World.size_alloc, World.size_setCell, World.size_drew] | (with_reducible refine le_ext_of ?_) | (with_reducible refine le_ext_add ?_))); done)) | ((with_reducible refine Below.setCell ?_ ?_ _); rotate_left; focus (((try dsimp only); repeat (first | omega | simp only [World.size_alloc, World.size_setCell, World.size_drew] | (with_reducible refine le_ext_of ?_) | (with_reducible refine le_ext_add ?_))); done)) | (with_reducible refine Below.drew ?_))))) HC.out)))
  repeat (go_big_quiet_step (fail))
  refine wpQuiet_nil ?_
  rintro W ⟨x, hW⟩
  have hB : Below w.heap.size w W := by rw [hW]; (repeat (first | (with_reducible exact Below.refl _ _) | (with_reducible assumption) | ((with_reducible refine below_ext_trans ?_ ?_ _); rotate_left; focus (((try dsimp only); repeat (first | omega | simp only [World.size_alloc, World.size_setCell, World.size_drew] | (with_reducible refine le_ext_of ?_) | (with_reducible refine le_ext_add ?_))); done)) | ((with_reducible refine Below.alloc ?_ ?_ _); rotate_left; focus (((try dsimp only); repeat (first | omega | simp only [World.size_alloc, World.size_setCell, World.size_drew] | (with_reducible refine le_ext_of ?_) | (with_reducible refine le_ext_add ?_))); done)) | ((with_reducible refine Below.setCell ?_ ?_ _); rotate_left; focus (((try dsimp only); repeat (first | omega | simp only [World.size_alloc, World.size_setCell, World.size_drew] | (with_reducible refine le_ext_of ?_) | (with_reducible refine le_ext_add ?_))); done)) | (with_reducible refine Below.drew ?_)))
  have kb : Blk W w.heap.size 26 #[.int .i64 b.n, .slice pb b.bs.length cb, .slice po b.os.length co', .slice (some ⟨bb, o, none⟩) b.ss.length cs] := by rw [hW]; exact (Blk.new rfl).ext x
  have HB2 := Lib.hid (HB.out.below hB)
  have HBB := Lib.hid hB
  have d0 := kb.cell 0
  have d1 := kb.cell 1
  have d2 := kb.cell 2
  have d3 := kb.cell 3
  simp only [List.size_toArray, List.length_cons, List.length_nil, Nat.reduceAdd, Nat.reduceLT, getElem?_pos, List.getElem_toArray, List.getElem_cons_zero, List.getElem_cons_succ] at d0 d1 d2 d3
  have hl1 := kb.lt
  have c1 := (hB.cell (p := ⟨bb, o + i * 4, none⟩) hbb).trans c1
  have c2 := (hB.cell (p := ⟨bb, o + i * 4 + 1, none⟩) hbb).trans c2
  have c3 := (hB.cell (p := ⟨bb, o + i * 4 + 2, none⟩) hbb).trans c3
  have c4 := (hB.cell (p := ⟨bb, o + i * 4 + 3, none⟩) hbb).trans c4
  have hbb := Nat.lt_of_lt_of_le hbb hB.size
  have kb9 := kb
  clear hW hB kb
  have KB := Lib.hid kb9
  clear kb9
  clear d0 d1 d2 d3
  go_upto_region 6 with fail
  have HO0 := Lib.hid (show OwnInts (W.alloc (.cells #[] 3)) W.heap.size (.slice (some ⟨W.heap.size, 0, none⟩) 0 0) [] from OwnInts.of_blk (n := 0) (Blk.new rfl) rfl rfl (by simp))
  have HC1 := Lib.hid c1
  have HC2 := Lib.hid c2
  have HC3 := Lib.hid c3
  have HC4 := Lib.hid c4
  clear c1 c2 c3 c4
  go_loopw [7, 8] (fun q j wr => ∃ k : Nat, k ≤ b.bs.length ∧ j = .int .i64 k ∧ Hid (OwnInts wr W.heap.size q (hangsTo b st ⟨st, co, lo, hi⟩ k)) ∧ Hid (Below W.heap.size W wr)) (fun _ j _ => b.bs.length - (intOf j).toNat)
  case atStart => exact ⟨0, by omega, rfl, HO0, Lib.hid ((Below.refl _ _).alloc (Nat.le_refl _) _)⟩
  case round =>
    obtain ⟨k, hk, rfl, HO, HB3⟩ := hrel
    have hk2 := KB.out.bel HB3.out
    have d0 := hk2.cell 0
    have d1 := hk2.cell 1
    have d2 := hk2.cell 2
    have d3 := hk2.cell 3
    simp only [List.size_toArray, List.length_cons, List.length_nil, Nat.reduceAdd, Nat.reduceLT, getElem?_pos, List.getElem_toArray, List.getElem_cons_zero, List.getElem_cons_succ] at d0 d1 d2 d3
    have hl1' := hk2.lt
    have c1 := (HB3.out.cell (p := ⟨bb, o + i * 4, none⟩) hbb).trans HC1.out
    have c2 := (HB3.out.cell (p := ⟨bb, o + i * 4 + 1, none⟩) hbb).trans HC2.out
    have c3 := (HB3.out.cell (p := ⟨bb, o + i * 4 + 2, none⟩) hbb).trans HC3.out
    have c4 := (HB3.out.cell (p := ⟨bb, o + i * 4 + 3, none⟩) hbb).trans HC4.out
    have hbb' := Nat.lt_of_lt_of_le hbb HB3.out.size
    have hz3 := HB3.out.size
    have HB4 := Lib.hid (HB2.out.below HB3.out)
    clear hk2
    by_cases hlt : k < b.bs.length
    · have k0 : (0 : Int) ≤ (k : Int) := by omega
      have k1 : (k : Int) < (b.bs.length : Int) := by omega
      cases hq : hangB b st k ⟨st, co, lo, hi⟩
      · have HU := Lib.hid (hangsTo_no hq)
        have HQ5 := Lib.hid ((HHS.out k hlt).trans hq)
        clear hq
        go_upto_region 8 with fail
        refine wp_region_ext (by kernel_rfl) (by kernel_rfl) ?_
        repeat (go_big_quiet_step (fail))
        go_big_quiet_step ((go_at_call 56; exact quiet_ext (rhangs_eq ⟨pb, cb, po, co', some ⟨bb, o, none⟩, cs⟩ b hv st k co lo hi _ _ HQ5.out (HB4.out.below (below_ext _ _)) hso HM.out hlt)))
        repeat (go_big_quiet_step (fail))
        refine wpQuiet_nil ?_
        rintro wz ⟨z, hz⟩
        have hBz : Below wr.heap.size wr wz := by rw [hz]; (repeat (first | (with_reducible exact Below.refl _ _) | (with_reducible assumption) | ((with_reducible refine below_ext_trans ?_ ?_ _); rotate_left; focus (((try dsimp only); repeat (first | omega | simp only [World.size_alloc, World.size_setCell, World.size_drew] | (with_reducible refine le_ext_of ?_) | (with_reducible refine le_ext_add ?_))); done)) | ((with_reducible refine Below.alloc ?_ ?_ _); rotate_left; focus (((try dsimp only); repeat (first | omega | simp only [World.size_alloc, World.size_setCell, World.size_drew] | (with_reducible refine le_ext_of ?_) | (with_reducible refine le_ext_add ?_))); done)) | ((with_reducible refine Below.setCell ?_ ?_ _); rotate_left; focus (((try dsimp only); repeat (first | omega | simp only [World.size_alloc, World.size_setCell, World.size_drew] | (with_reducible refine le_ext_of ?_) | (with_reducible refine le_ext_add ?_))); done)) | (with_reducible refine Below.drew ?_)))
        have HO2 := Lib.hid (HO.out.below hBz)
        have HBZ := Lib.hid (HB3.out.trans (hBz.mono hz3))
        clear hz hBz d0 d1 d2 d3 c1 c2 c3 c4
        go_wp2_with fail
        go_roundw
        case rel => exact ⟨k + 1, by omega, by go_num, by rw [HU.out]; exact HO2, HBZ⟩
        case measure => simp [intOf]; omega
      · have HU := Lib.hid (hangsTo_yes hq)
        have HQ5 := Lib.hid ((HHS.out k hlt).trans hq)
        have HLE := Lib.hid (show (hangsTo b st ⟨st, co, lo, hi⟩ k).length ≤ 100000 by have := hangsTo_le b st ⟨st, co, lo, hi⟩ k; omega)
        clear hq
        go_upto_region 8 with fail
        refine wp_region_ext (by kernel_rfl) (by kernel_rfl) ?_
        repeat (go_big_quiet_step (fail))
        go_big_quiet_step ((go_at_call 56; exact quiet_ext (rhangs_eq ⟨pb, cb, po, co', some ⟨bb, o, none⟩, cs⟩ b hv st k co lo hi _ _ HQ5.out (HB4.out.below (below_ext _ _)) hso HM.out hlt)))
        repeat (go_big_quiet_step (fail))
        refine wpQuiet_nil ?_
        rintro wz ⟨z, hz⟩
        have hBz : Below wr.heap.size wr wz := by rw [hz]; (repeat (first | (with_reducible exact Below.refl _ _) | (with_reducible assumption) | ((with_reducible refine below_ext_trans ?_ ?_ _); rotate_left; focus (((try dsimp only); repeat (first | omega | simp only [World.size_alloc, World.size_setCell, World.size_drew] | (with_reducible refine le_ext_of ?_) | (with_reducible refine le_ext_add ?_))); done)) | ((with_reducible refine Below.alloc ?_ ?_ _); rotate_left; focus (((try dsimp only); repeat (first | omega | simp only [World.size_alloc, World.size_setCell, World.size_drew] | (with_reducible refine le_ext_of ?_) | (with_reducible refine le_ext_add ?_))); done)) | ((with_reducible refine Below.setCell ?_ ?_ _); rotate_left; focus (((try dsimp only); repeat (first | omega | simp only [World.size_alloc, World.size_setCell, World.size_drew] | (with_reducible refine le_ext_of ?_) | (with_reducible refine le_ext_add ?_))); done)) | (with_reducible refine Below.drew ?_)))
        have HO2 := Lib.hid (HO.out.below hBz)
        have HBZ := Lib.hid (HB3.out.trans (hBz.mono hz3))
        have hzz := HBZ.out.size
        clear hz hBz d0 d1 d2 d3 c1 c2 c3 c4
        go_wp2_with (at_builtin; refine wpList_append_int rfl _ _ rfl W.heap.size _ _ rfl (HO2.out.below ((Below.refl _ _).alloc (Nat.le_refl _) _)) wz.heap.size (k : Int) rfl (by simp [go_sem]) HLE.out (by ((try dsimp only); repeat (first | omega | simp only [World.size_alloc, World.size_setCell, World.size_drew] | (with_reducible refine le_ext_of ?_) | (with_reducible refine le_ext_add ?_)))) ?_; intro v' w1 ho hg)
        have HO3 := Lib.hid ho
        have HB5 := Lib.hid (show Below W.heap.size W w1 from Below.grown (w := wz.alloc (.cells #[.int .i64 (k : Int)] 3)) (HBZ.out.alloc hzz _) hg (by ((try dsimp only); repeat (first | omega | simp only [World.size_alloc, World.size_setCell, World.size_drew] | (with_reducible refine le_ext_of ?_) | (with_reducible refine le_ext_add ?_)))) (fun j hj => (HO2.out.lt j hj).1))
        clear ho hg
        go_wp2_with fail
        go_roundw
        case rel => exact ⟨k + 1, by omega, by go_num, by rw [HU.out]; exact HO3, HB5⟩
        case measure => simp [intOf]; omega
    · obtain rfl : k = b.bs.length := by omega
      clear d0 d2 d3 c1 c2 c3 c4
      go_wp2_with fail
      obtain ⟨p, c, rfl, hp, -⟩ := HO.out.at
      go_ret2
      exact ⟨p, c, rfl, hp, ext_of (HBB.out.trans (HB3.out.mono HBB.out.size))⟩
end Go.Proofs.YteocjggepjpecaaGreatDoor

namespace Go.Proofs.YteocjggepjpecaaGreatDoor
open Go Go.RowKit

attribute [local go_sem] Oper.semAt_some frozen_alloc_lt
set_option maxRecDepth 100000 in
set_option maxHeartbeats 1000000 in
theorem rFirst_err (h : Hd) (b : Bk) (i j c : Int) (w : World) (hb : BkAt w h b) (hc : askC b ((shotQ i b.ss.length && shotQ j b.ss.length) && (i != j)) = c) (h2 : c = 20 ∨ c = 21) :
    Calls Tryz.prog 22 #[.agg #[.int .i64 b.n, .slice h.pb b.bs.length h.cb, .slice h.po b.os.length h.co, .slice h.ps b.ss.length h.cs], .int .i64 i, .int .i64 j] w fun e w' => e = .returned (.tuple #[.int .i64 0, .int .i64 c]) ∧ ∃ x, w' = ext w x := by
  have HB := Lib.hid hb
  obtain ⟨q, hq⟩ : ∃ q, shotQ i b.ss.length = q := ⟨_, rfl⟩
  obtain ⟨r, hr⟩ : ∃ r, shotQ j b.ss.length = r := ⟨_, rfl⟩
  rw [hq, hr] at hc
  have HQ := Lib.hid hq
  have HR := Lib.hid hr
  have HC := Lib.hid hc
  clear hb hq hr hc
  cases q
  · rcases h2 with rfl | rfl
    all_goals
      go_enter Tryz.func22, Tryz.ntmps22
      go_upto_region 1 with fail
      refine wp_region_ext (by kernel_rfl) (by kernel_rfl) ?_
      repeat (go_big_quiet_step (fail))
      go_big_quiet_step ((go_at_call 53; exact quiet_ext (risShot_eq h b i _ _ HQ.out)))
      repeat (go_big_quiet_step (fail))
      go_big_quiet_step ((go_at_call 31; exact quiet_ext (asked_eq h b false _ _ (HB.out.below (by (repeat (first | (with_reducible exact Below.refl _ _) | (with_reducible assumption) | ((with_reducible refine below_ext_trans ?_ ?_ _); rotate_left; focus (((try dsimp only); repeat (first | omega | simp only [World.size_alloc, World.size_setCell, World.size_drew] | (with_reducible refine le_ext_of ?_) | (with_reducible refine le_ext_add ?_))); done)) | ((with_reducible refine Below.alloc ?_ ?_ _); rotate_left; focus (((try dsimp only); repeat (first | omega | simp only [World.size_alloc, World.size_setCell, World.size_drew] | (with_reducible refine le_ext_of ?_) | (with_reducible refine le_ext_add ?_))); done)) | ((with_reducible refine Below.setCell ?_ ?_ _); rotate_left; focus (((try dsimp only); repeat (first | omega | simp only [World.size_alloc, World.size_setCell, World.size_drew] | (with_reducible refine le_ext_of ?_) | (with_reducible refine le_ext_add ?_))); done)) | (with_reducible refine Below.drew ?_))))) HC.out)))
      repeat (go_big_quiet_step (fail))
      (refine wpQuiet_nil ?_; rintro _ ⟨x, rfl⟩)
      go_wp2_with fail
      go_ret2
      exact ⟨rfl, by (exact ext_of (by (repeat (first | (with_reducible exact Below.refl _ _) | (with_reducible assumption) | ((with_reducible refine below_ext_trans ?_ ?_ _); rotate_left; focus (((try dsimp only); repeat (first | omega | simp only [World.size_alloc, World.size_setCell, World.size_drew] | (with_reducible refine le_ext_of ?_) | (with_reducible refine le_ext_add ?_))); done)) | ((with_reducible refine Below.alloc ?_ ?_ _); rotate_left; focus (((try dsimp only); repeat (first | omega | simp only [World.size_alloc, World.size_setCell, World.size_drew] | (with_reducible refine le_ext_of ?_) | (with_reducible refine le_ext_add ?_))); done)) | ((with_reducible refine Below.setCell ?_ ?_ _); rotate_left; focus (((try dsimp only); repeat (first | omega | simp only [World.size_alloc, World.size_setCell, World.size_drew] | (with_reducible refine le_ext_of ?_) | (with_reducible refine le_ext_add ?_))); done)) | (with_reducible refine Below.drew ?_)))))⟩
  · cases r
    · rcases h2 with rfl | rfl
      all_goals
        go_enter Tryz.func22, Tryz.ntmps22
        go_upto_region 1 with fail
        refine wp_region_ext (by kernel_rfl) (by kernel_rfl) ?_
        repeat (go_big_quiet_step (fail))
        go_big_quiet_step ((go_at_call 53; exact quiet_ext (risShot_eq h b i _ _ HQ.out)))
        repeat (go_big_quiet_step (fail))
        go_big_quiet_step ((go_at_call 53; exact quiet_ext (risShot_eq h b j _ _ HR.out)))
        repeat (go_big_quiet_step (fail))
        go_big_quiet_step ((go_at_call 31; exact quiet_ext (asked_eq h b false _ _ (HB.out.below (by (repeat (first | (with_reducible exact Below.refl _ _) | (with_reducible assumption) | ((with_reducible refine below_ext_trans ?_ ?_ _); rotate_left; focus (((try dsimp only); repeat (first | omega | simp only [World.size_alloc, World.size_setCell, World.size_drew] | (with_reducible refine le_ext_of ?_) | (with_reducible refine le_ext_add ?_))); done)) | ((with_reducible refine Below.alloc ?_ ?_ _); rotate_left; focus (((try dsimp only); repeat (first | omega | simp only [World.size_alloc, World.size_setCell, World.size_drew] | (with_reducible refine le_ext_of ?_) | (with_reducible refine le_ext_add ?_))); done)) | ((with_reducible refine Below.setCell ?_ ?_ _); rotate_left; focus (((try dsimp only); repeat (first | omega | simp only [World.size_alloc, World.size_setCell, World.size_drew] | (with_reducible refine le_ext_of ?_) | (with_reducible refine le_ext_add ?_))); done)) | (with_reducible refine Below.drew ?_))))) HC.out)))
        repeat (go_big_quiet_step (fail))
        (refine wpQuiet_nil ?_; rintro _ ⟨x, rfl⟩)
        go_wp2_with fail
        go_ret2
        exact ⟨rfl, by (exact ext_of (by (repeat (first | (with_reducible exact Below.refl _ _) | (with_reducible assumption) | ((with_reducible refine below_ext_trans ?_ ?_ _); rotate_left; focus (((try dsimp only); repeat (first | omega | simp only [World.size_alloc, World.size_setCell, World.size_drew] | (with_reducible refine le_ext_of ?_) | (with_reducible refine le_ext_add ?_))); done)) | ((with_reducible refine Below.alloc ?_ ?_ _); rotate_left; focus (((try dsimp only); repeat (first | omega | simp only [World.size_alloc, World.size_setCell, World.size_drew] | (with_reducible refine le_ext_of ?_) | (with_reducible refine le_ext_add ?_))); done)) | ((with_reducible refine Below.setCell ?_ ?_ _); rotate_left; focus (((try dsimp only); repeat (first | omega | simp only [World.size_alloc, World.size_setCell, World.size_drew] | (with_reducible refine le_ext_of ?_) | (with_reducible refine le_ext_add ?_))); done)) | (with_reducible refine Below.drew ?_)))))⟩
    · rcases h2 with rfl | rfl
      all_goals
        go_enter Tryz.func22, Tryz.ntmps22
        go_upto_region 1 with fail
        refine wp_region_ext (by kernel_rfl) (by kernel_rfl) ?_
        repeat (go_big_quiet_step (fail))
        go_big_quiet_step ((go_at_call 53; exact quiet_ext (risShot_eq h b i _ _ HQ.out)))
        repeat (go_big_quiet_step (fail))
        go_big_quiet_step ((go_at_call 53; exact quiet_ext (risShot_eq h b j _ _ HR.out)))
        repeat (go_big_quiet_step (fail))
        go_big_quiet_step ((go_at_call 31; exact quiet_ext (asked_eq h b (i != j) _ _ (HB.out.below (by (repeat (first | (with_reducible exact Below.refl _ _) | (with_reducible assumption) | ((with_reducible refine below_ext_trans ?_ ?_ _); rotate_left; focus (((try dsimp only); repeat (first | omega | simp only [World.size_alloc, World.size_setCell, World.size_drew] | (with_reducible refine le_ext_of ?_) | (with_reducible refine le_ext_add ?_))); done)) | ((with_reducible refine Below.alloc ?_ ?_ _); rotate_left; focus (((try dsimp only); repeat (first | omega | simp only [World.size_alloc, World.size_setCell, World.size_drew] | (with_reducible refine le_ext_of ?_) | (with_reducible refine le_ext_add ?_))); done)) | ((with_reducible refine Below.setCell ?_ ?_ _); rotate_left; focus (((try dsimp only); repeat (first | omega | simp only [World.size_alloc, World.size_setCell, World.size_drew] | (with_reducible refine le_ext_of ?_) | (with_reducible refine le_ext_add ?_))); done)) | (with_reducible refine Below.drew ?_))))) HC.out)))
        repeat (go_big_quiet_step (fail))
        (refine wpQuiet_nil ?_; rintro _ ⟨x, rfl⟩)
        go_wp2_with fail
        go_ret2
        exact ⟨rfl, by (exact ext_of (by (repeat (first | (with_reducible exact Below.refl _ _) | (with_reducible assumption) | ((with_reducible refine below_ext_trans ?_ ?_ _); rotate_left; focus (((try dsimp only); repeat (first | omega | simp only [World.size_alloc, World.size_setCell, World.size_drew] | (with_reducible refine le_ext_of ?_) | (with_reducible refine le_ext_add ?_))); done)) | ((with_reducible refine Below.alloc ?_ ?_ _); rotate_left; focus (((try dsimp only); repeat (first | omega | simp only [World.size_alloc, World.size_setCell, World.size_drew] | (with_reducible refine le_ext_of ?_) | (with_reducible refine le_ext_add ?_))); done)) | ((with_reducible refine Below.setCell ?_ ?_ _); rotate_left; focus (((try dsimp only); repeat (first | omega | simp only [World.size_alloc, World.size_setCell, World.size_drew] | (with_reducible refine le_ext_of ?_) | (with_reducible refine le_ext_add ?_))); done)) | (with_reducible refine Below.drew ?_)))))⟩
set_option maxRecDepth 100000 in
set_option maxHeartbeats 2000000 in
theorem rFirst_yes (h : Hd) (b : Bk) (i j : Nat) (s t : Shot) (w : World) (hb : BkAt w h b) (hv : bookB b = true) (hi : b.ss[i]? = some s) (hj : b.ss[j]? = some t) (hij : i ≠ j) :
    Calls Tryz.prog 22 #[.agg #[.int .i64 b.n, .slice h.pb b.bs.length h.cb, .slice h.po b.os.length h.co, .slice h.ps b.ss.length h.cs], .int .i64 i, .int .i64 j] w fun e w' => e = .returned (.tuple #[.int .i64 (befores (s.lo, s.hi) (t.lo, t.hi)), .int .i64 0]) ∧ ∃ x, w' = ext w x := by
  have hil := (List.getElem?_eq_some_iff.1 hi).1
  have hjl := (List.getElem?_eq_some_iff.1 hj).1
  have h5 := bookB_ss hv
  have HQ := Lib.hid (show shotQ i b.ss.length = true by rw [shotQ_eq (by omega)]; exact isN_yes (by omega))
  have HR := Lib.hid (show shotQ j b.ss.length = true by rw [shotQ_eq (by omega)]; exact isN_yes (by omega))
  have HC := Lib.hid (show askC b ((i : Int) != (j : Int)) = 0 by
    rw [show ((i : Int) != (j : Int)) = true by simp; omega]
    unfold askC; rw [hv]; rfl)
  obtain ⟨s1, s2, lo, hi1⟩ := s
  obtain ⟨t1, t2, lo2, hi2⟩ := t
  obtain ⟨pb, cb, po, co', ps, cs⟩ := h
  obtain ⟨bb, o, hps, hbb, -, -, c3, c4⟩ := hb.ss i _ hi
  dsimp only at hps c3 c4 ⊢
  subst hps
  obtain ⟨bb', o', e', -, -, -, c5, c6⟩ := hb.ss j _ hj
  cases e'
  dsimp only at c5 c6
  have HB := Lib.hid hb
  have i0 : (0 : Int) ≤ (i : Int) := by omega
  have i1 : (i : Int) < (b.ss.length : Int) := by omega
  have j0 : (0 : Int) ≤ (j : Int) := by omega
  have j1 : (j : Int) < (b.ss.length : Int) := by omega
  clear hb hi hj hij
  go_enter Tryz.func22, Tryz.ntmps22
  go_upto_region 1 with fail
  refine wp_region_ext (by kernel_rfl) (by kernel_rfl) ?_
  repeat (go_big_quiet_step (fail))
  go_big_quiet_step ((go_at_call 53; exact quiet_ext (risShot_eq ⟨pb, cb, po, co', some ⟨bb, o, none⟩, cs⟩ b i _ _ HQ.out)))
  repeat (go_big_quiet_step (fail))
  go_big_quiet_step ((go_at_call 53; exact quiet_ext (risShot_eq ⟨pb, cb, po, co', some ⟨bb, o, none⟩, cs⟩ b j _ _ HR.out)))
  repeat (go_big_quiet_step (fail))
  go_big_quiet_step ((go_at_call 31; exact quiet_ext (asked_eq ⟨pb, cb, po, co', some ⟨bb, o, none⟩, cs⟩ b ((i : Int) != (j : Int)) _ _ (HB.out.below (by (repeat (first | (with_reducible exact Below.refl _ _) | (with_reducible assumption) | ((with_reducible refine below_ext_trans ?_ ?_ _); rotate_left; focus (((try dsimp only); repeat (first | omega | simp only [World.size_alloc, World.size_setCell, World.size_drew] | (with_reducible refine le_ext_of ?_) | (with_reducible refine le_ext_add ?_))); done)) | ((with_reducible refine Below.alloc ?_ ?_ _); rotate_left; focus (((try dsimp only); repeat (first | omega | simp only [World.size_alloc, World.size_setCell, World.size_drew] | (with_reducible refine le_ext_of ?_) | (with_reducible refine le_ext_add ?_))); done)) | ((with_reducible refine Below.setCell ?_ ?_ _); rotate_left; focus (((try dsimp only); repeat (first | omega | simp only [World.size_alloc, World.size_setCell, World.size_drew] | (with_reducible refine le_ext_of ?_) | (with_reducible refine le_ext_add ?_))); done)) | (with_reducible refine Below.drew ?_))))) HC.out)))
  repeat (go_big_quiet_step (fail))
  refine wpQuiet_nil ?_
  rintro W ⟨x, hW⟩
  have hB : Below w.heap.size w W := by rw [hW]; (repeat (first | (with_reducible exact Below.refl _ _) | (with_reducible assumption) | ((with_reducible refine below_ext_trans ?_ ?_ _); rotate_left; focus (((try dsimp only); repeat (first | omega | simp only [World.size_alloc, World.size_setCell, World.size_drew] | (with_reducible refine le_ext_of ?_) | (with_reducible refine le_ext_add ?_))); done)) | ((with_reducible refine Below.alloc ?_ ?_ _); rotate_left; focus (((try dsimp only); repeat (first | omega | simp only [World.size_alloc, World.size_setCell, World.size_drew] | (with_reducible refine le_ext_of ?_) | (with_reducible refine le_ext_add ?_))); done)) | ((with_reducible refine Below.setCell ?_ ?_ _); rotate_left; focus (((try dsimp only); repeat (first | omega | simp only [World.size_alloc, World.size_setCell, World.size_drew] | (with_reducible refine le_ext_of ?_) | (with_reducible refine le_ext_add ?_))); done)) | (with_reducible refine Below.drew ?_)))
  have kb : Blk W w.heap.size 26 #[.int .i64 b.n, .slice pb b.bs.length cb, .slice po b.os.length co', .slice (some ⟨bb, o, none⟩) b.ss.length cs] := by rw [hW]; exact (Blk.new rfl).ext x
  have HBB := Lib.hid hB
  have d3 := kb.cell 3
  simp only [List.size_toArray, List.length_cons, List.length_nil, Nat.reduceAdd, Nat.reduceLT, getElem?_pos, List.getElem_toArray, List.getElem_cons_zero, List.getElem_cons_succ] at d3
  have hl1 := kb.lt
  have c3 := (hB.cell (p := ⟨bb, o + i * 4 + 2, none⟩) hbb).trans c3
  have c4 := (hB.cell (p := ⟨bb, o + i * 4 + 3, none⟩) hbb).trans c4
  have c5 := (hB.cell (p := ⟨bb, o + j * 4 + 2, none⟩) hbb).trans c5
  have c6 := (hB.cell (p := ⟨bb, o + j * 4 + 3, none⟩) hbb).trans c6
  have hbb := Nat.lt_of_lt_of_le hbb hB.size
  have hzz : W.heap.size ≤ W.heap.size := Nat.le_refl _
  have kS : Hid (∀ w', Below W.heap.size W w' → w'.cell? ⟨w.heap.size, 3, none⟩ = some (.slice (some ⟨bb, o, none⟩) b.ss.length cs) ∧ w'.cell? ⟨bb, o + i * 4 + 2, none⟩ = some (.int .i64 lo) ∧ w'.cell? ⟨bb, o + i * 4 + 3, none⟩ = some (.int .i64 hi1) ∧ w'.cell? ⟨bb, o + j * 4 + 2, none⟩ = some (.int .i64 lo2) ∧ w'.cell? ⟨bb, o + j * 4 + 3, none⟩ = some (.int .i64 hi2)) := Lib.hid (fun w' hw =>
    ⟨(hw.cell (p := ⟨w.heap.size, 3, none⟩) hl1).trans d3, (hw.cell (p := ⟨bb, o + i * 4 + 2, none⟩) hbb).trans c3, (hw.cell (p := ⟨bb, o + i * 4 + 3, none⟩) hbb).trans c4, (hw.cell (p := ⟨bb, o + j * 4 + 2, none⟩) hbb).trans c5, (hw.cell (p := ⟨bb, o + j * 4 + 3, none⟩) hbb).trans c6⟩)
  clear hW hB kb
  go_upto_region 4 with fail
  go_cut [9, 10] from 29 to 40 (fun s9 s10 wx => ∃ g1 g2 : Nat, s9 = .pointer (some ⟨g1, 0, none⟩) ∧ s10 = .pointer (some ⟨g2, 0, none⟩) ∧ Blk wx g1 29 #[.int .i64 lo, .int .i64 hi1] ∧ Blk wx g2 29 #[.int .i64 lo2, .int .i64 hi2] ∧ Below W.heap.size W wx)
  case first =>
    go_region_held3 (fun w' => w'.cell? ⟨w.heap.size, 3, none⟩ = some (.slice (some ⟨bb, o, none⟩) b.ss.length cs) ∧ w'.cell? ⟨bb, o + i * 4 + 2, none⟩ = some (.int .i64 lo) ∧ w'.cell? ⟨bb, o + i * 4 + 3, none⟩ = some (.int .i64 hi1) ∧ w'.cell? ⟨bb, o + j * 4 + 2, none⟩ = some (.int .i64 lo2) ∧ w'.cell? ⟨bb, o + j * 4 + 3, none⟩ = some (.int .i64 hi2))
      ((exact kS.out _ (by (repeat (first | (with_reducible exact Below.refl _ _) | (with_reducible assumption) | ((with_reducible refine below_ext_trans ?_ ?_ _); rotate_left; focus (((try dsimp only); repeat (first | omega | simp only [World.size_alloc, World.size_setCell, World.size_drew] | (with_reducible refine le_ext_of ?_) | (with_reducible refine le_ext_add ?_))); done)) | ((with_reducible refine Below.alloc ?_ ?_ _); rotate_left; focus (((try dsimp only); repeat (first | omega | simp only [World.size_alloc, World.size_setCell, World.size_drew] | (with_reducible refine le_ext_of ?_) | (with_reducible refine le_ext_add ?_))); done)) | ((with_reducible refine Below.setCell ?_ ?_ _); rotate_left; focus (((try dsimp only); repeat (first | omega | simp only [World.size_alloc, World.size_setCell, World.size_drew] | (with_reducible refine le_ext_of ?_) | (with_reducible refine le_ext_add ?_))); done)) | (with_reducible refine Below.drew ?_))))))
      (fail)
    all_goals (go_wp2_with fail; go_meet)
    · exact ⟨_, _, rfl, rfl, ((Blk.new rfl).alloc _).drew, (Blk.new (by simp)).drew, by (repeat (first | (with_reducible exact Below.refl _ _) | (with_reducible assumption) | ((with_reducible refine below_ext_trans ?_ ?_ _); rotate_left; focus (((try dsimp only); repeat (first | omega | simp only [World.size_alloc, World.size_setCell, World.size_drew] | (with_reducible refine le_ext_of ?_) | (with_reducible refine le_ext_add ?_))); done)) | ((with_reducible refine Below.alloc ?_ ?_ _); rotate_left; focus (((try dsimp only); repeat (first | omega | simp only [World.size_alloc, World.size_setCell, World.size_drew] | (with_reducible refine le_ext_of ?_) | (with_reducible refine le_ext_add ?_))); done)) | ((with_reducible refine Below.setCell ?_ ?_ _); rotate_left; focus (((try dsimp only); repeat (first | omega | simp only [World.size_alloc, World.size_setCell, World.size_drew] | (with_reducible refine le_ext_of ?_) | (with_reducible refine le_ext_add ?_))); done)) | (with_reducible refine Below.drew ?_)))⟩
    · exact ⟨_, _, rfl, rfl, (Blk.new (by simp)).drew, ((Blk.new rfl).alloc _).drew, by (repeat (first | (with_reducible exact Below.refl _ _) | (with_reducible assumption) | ((with_reducible refine below_ext_trans ?_ ?_ _); rotate_left; focus (((try dsimp only); repeat (first | omega | simp only [World.size_alloc, World.size_setCell, World.size_drew] | (with_reducible refine le_ext_of ?_) | (with_reducible refine le_ext_add ?_))); done)) | ((with_reducible refine Below.alloc ?_ ?_ _); rotate_left; focus (((try dsimp only); repeat (first | omega | simp only [World.size_alloc, World.size_setCell, World.size_drew] | (with_reducible refine le_ext_of ?_) | (with_reducible refine le_ext_add ?_))); done)) | ((with_reducible refine Below.setCell ?_ ?_ _); rotate_left; focus (((try dsimp only); repeat (first | omega | simp only [World.size_alloc, World.size_setCell, World.size_drew] | (with_reducible refine le_ext_of ?_) | (with_reducible refine le_ext_add ?_))); done)) | (with_reducible refine Below.drew ?_)))⟩
  obtain ⟨g1, g2, rfl, rfl, k1, k2, hB2⟩ := hcut
  have e0 := k1.cell 0
  have e1 := k1.cell 1
  have e2 := k2.cell 0
  have e3 := k2.cell 1
  simp only [List.size_toArray, List.length_cons, List.length_nil, Nat.reduceAdd, Nat.reduceLT, getElem?_pos, List.getElem_toArray, List.getElem_cons_zero, List.getElem_cons_succ] at e0 e1 e2 e3
  have hg1 := k1.lt
  have hg2 := k2.lt
  have HEND := Lib.hid (HBB.out.trans (hB2.mono HBB.out.size))
  clear k1 k2 hB2 c3 c4 c5 c6 d3
  by_cases q1 : hi1 < lo2
  · have H := Lib.hid (show befores (lo, hi1) (lo2, hi2) = 2 by unfold befores; rw [if_pos q1])
    go_wp2_with fail
    go_ret2
    exact ⟨by rw [H.out]; rfl, ext_of HEND.out⟩
  · have q1' : decide (hi1 < lo2) = false := by simpa using q1
    by_cases q2 : lo < hi2
    · have H := Lib.hid (show befores (lo, hi1) (lo2, hi2) = 1 by unfold befores; rw [if_neg q1, if_pos q2])
      clear q1
      go_wp2_with fail
      go_ret2
      exact ⟨by rw [H.out]; rfl, ext_of HEND.out⟩
    · have q2' : decide (lo < hi2) = false := by simpa using q2
      have H := Lib.hid (show befores (lo, hi1) (lo2, hi2) = 0 by unfold befores; rw [if_neg q1, if_neg q2])
      clear q1 q2
      go_wp2_with fail
      go_ret2
      exact ⟨by rw [H.out]; rfl, ext_of HEND.out⟩
end Go.Proofs.YteocjggepjpecaaGreatDoor

