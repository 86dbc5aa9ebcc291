/- Contract of the reference's Check. -/
import Derived.Test.YteocjggepjpecaaGreatDoorQGa
import Derived.Test.YteocjggepjpecaaGreatDoorQYv
import Derived.Test.YteocjggepjpecaaGreatDoorQWa
import Derived.Deep.CutBlock
import Derived.Outline
set_option linter.unusedSimpArgs false
set_option linter.unusedVariables false
namespace Go.Proofs.YteocjggepjpecaaGreatDoor
open Go Go.RowKit

def headB (b : Bk) : Bool := decide (1 ≤ b.n ∧ b.n ≤ 4) && decide (b.bs.length ≤ 4) && decide (1 ≤ b.os.length ∧ b.os.length ≤ 3) && decide (b.ss.length ≤ 5)
theorem bookB_parts (b : Bk) : bookB b = (headB b && chainB (-1) b.bs && b.os.all (orderB b.n b.bs.length) && b.ss.all (shotB b.n b.os.length)) := by
  unfold bookB headB boundsB ordersB shotsB
  cases decide (1 ≤ b.n ∧ b.n ≤ 4) <;> cases decide (b.bs.length ≤ 4) <;> cases decide (1 ≤ b.os.length ∧ b.os.length ≤ 3) <;> cases decide (b.ss.length ≤ 5) <;> cases chainB (-1) b.bs <;> cases b.os.all (orderB b.n b.bs.length) <;> cases b.ss.all (shotB b.n b.os.length) <;> rfl
/-- The end of the bound before one. -/
def pastB (l : List (Int × Int)) : Nat → Int
  | 0 => -1
  | k + 1 => (l.getD k (0, 0)).2
theorem chain_at {l : List (Int × Int)} {k : Nat} {s : Int × Int} (h : l[k]? = some s) (h1 : chainB (-1) l = chainB (pastB l k) (l.drop k)) : chainB (-1) l = (momB s.1 s.2 && decide (pastB l k < s.1) && chainB (pastB l (k + 1)) (l.drop (k + 1))) := by
  rw [h1, drop_of_get h]
  have : pastB l (k + 1) = s.2 := by simp [pastB, List.getD_eq_getElem?_getD, h]
  rw [this]
  rfl
theorem all_take {α : Type} {f : α → Bool} {l : List α} {k : Nat} {x : α} (h : l[k]? = some x) (h1 : (l.take k).all f = true) (h2 : f x = true) : (l.take (k + 1)).all f = true := by
  rw [List.take_add_one, h]
  simp [List.all_append, h1, h2]
theorem all_not {α : Type} {f : α → Bool} {l : List α} {k : Nat} {x : α} (h : l[k]? = some x) (h2 : f x = false) : l.all f = false := by
  cases hc : l.all f with
  | false => rfl
  | true => rw [List.all_eq_true.1 hc x (List.mem_of_getElem? h)] at h2; cases h2
theorem head_parts {b : Bk} (h : headB b = true) : (1 ≤ b.n ∧ b.n ≤ 4) ∧ b.bs.length ≤ 4 ∧ (1 ≤ b.os.length ∧ b.os.length ≤ 3) ∧ b.ss.length ≤ 5 := by
  simp only [headB, Bool.and_eq_true, decide_eq_true_eq] at h
  exact ⟨h.1.1.1, h.1.1.2, h.1.2, h.2⟩
theorem isCompany_eq (n : Int) (p1 p2 p3 : Option Addr) (n1 c1 n2 c2 n3 c3 : Nat) (a : Int) (q : Bool) (w : World) (hn : 1 ≤ n ∧ n ≤ 4) (hq : isN a n = q) : Calls Tryz.prog 39 #[.agg #[.int .i64 n, .slice p1 n1 c1, .slice p2 n2 c2, .slice p3 n3 c3], .int .i64 a] w fun e w' => e = .returned (.bool q) ∧ ∃ x, w' = ext w x := by
  subst hq; exact risCompany_any n p1 p2 p3 n1 c1 n2 c2 n3 c3 a w hn
theorem isStation_eq (n : Int) (p1 p2 p3 : Option Addr) (n1 c1 n2 c2 n3 c3 : Nat) (a : Int) (q : Bool) (w : World) (hn : (n2 : Int) ≤ 1000000) (hq : isN a n2 = q) : Calls Tryz.prog 40 #[.agg #[.int .i64 n, .slice p1 n1 c1, .slice p2 n2 c2, .slice p3 n3 c3], .int .i64 a] w fun e w' => e = .returned (.bool q) ∧ ∃ x, w' = ext w x := by
  subst hq; exact risStation_any n p1 p2 p3 n1 c1 n2 c2 n3 c3 a w hn
theorem wrap_num' (k : Nat) (h : k ≤ 1000000) : wrap64 ((k : Int) + 1) = ((k + 1 : Nat) : Int) := by unfold wrap64; omega
theorem less_num' (N k : Nat) (h : k + 1 ≤ N) : N - (intOf (Value.int .i64 ((k + 1 : Nat) : Int))).toNat < N - (intOf (Value.int .i64 (k : Int))).toNat := by
  simp only [intOf, Int.toNat_natCast]; omega
theorem plus_num (k : Nat) : (k : Int) + 1 = ((k + 1 : Nat) : Int) := by omega
theorem minute_eq (lo hi : Int) (q : Bool) (w : World) (hq : momB lo hi = q) : Calls Tryz.prog 38 #[.agg #[.int .i64 lo, .int .i64 hi]] w fun e w' => e = .returned (.bool q) ∧ ∃ x, w' = ext w x := by
  subst hq; exact minute_any lo hi w
theorem Between_eq (n a b : Int) (q : Bool) (w : World) (hq : decide (a ≤ n ∧ n ≤ b) = q) : Calls Tryz.prog 32 #[.int .i64 n, .int .i64 a, .int .i64 b] w fun e w' => e = .returned (.bool q) ∧ w = w' := by
  subst hq; exact Between_any n a b w
attribute [local go_sem] Oper.semAt_some frozen_alloc_lt
set_option maxRecDepth 100000 in
set_option maxHeartbeats 2000000 in
theorem Check_r (h : Hd) (b : Bk) (w : World) (hb : BkAt w h b) :
    Calls Tryz.prog 9 #[.agg #[.int .i64 b.n, .slice h.pb b.bs.length h.cb, .slice h.po b.os.length h.co, .slice h.ps b.ss.length h.cs]] w fun e w' => e = .returned (.int .i64 (if bookB b then 0 else 20)) ∧ ∃ x, w' = ext w x := by
  obtain ⟨pb, cb, po, co, ps, cs⟩ := h
  have HBK := Lib.hid hb
  clear hb
  dsimp only
  go_enter Tryz.func9, Tryz.ntmps9
  go_upto_region 1 with fail
  generalize hW : w.alloc _ = W
  have hB : Below w.heap.size w W := by rw [← hW]; (repeat (first | (with_reducible exact Below.refl _ _) | (with_reducible assumption) | ((with_reducible refine below_ext_trans ?_ ?_ _); rotate_left; focus (((try dsimp only); repeat (first | omega | simp only [World.size_alloc, World.size_setCell, World.size_drew] | (with_reducible refine le_ext_of ?_) | (with_reducible refine le_ext_add ?_))); done)) | ((with_reducible refine Below.alloc ?_ ?_ _); rotate_left; focus (((try dsimp only); repeat (first | omega | simp only [World.size_alloc, World.size_setCell, World.size_drew] | (with_reducible refine le_ext_of ?_) | (with_reducible refine le_ext_add ?_))); done)) | ((with_reducible refine Below.setCell ?_ ?_ _); rotate_left; focus (((try dsimp only); repeat (first | omega | simp only [World.size_alloc, World.size_setCell, World.size_drew] | (with_reducible refine le_ext_of ?_) | (with_reducible refine le_ext_add ?_))); done)) | (with_reducible refine Below.drew ?_)))
  have kb : Blk W w.heap.size 26 #[.int .i64 b.n, .slice pb b.bs.length cb, .slice po b.os.length co, .slice ps b.ss.length cs] := by rw [← hW]; exact Blk.new rfl
  have HB := Lib.hid hB
  have HKB := Lib.hid kb
  have HBW := Lib.hid (HBK.out.below hB)
  have d0 := kb.cell 0
  have d1 := kb.cell 1
  have d2 := kb.cell 2
  have d3 := kb.cell 3
  simp only [List.size_toArray, List.length_cons, List.length_nil, Nat.reduceAdd, Nat.reduceLT, getElem?_pos, List.getElem_toArray, List.getElem_cons_zero, List.getElem_cons_succ] at d0 d1 d2 d3
  have hl1 := kb.lt
  clear hW hB kb
  go_cut [3] from 9 to 29 (fun s3 wx => s3 = .bool (headB b) ∧ wx = W)
  case first =>
    by_cases g1 : 1 ≤ b.n ∧ b.n ≤ 4
    · have G1 := Lib.hid (show decide (1 ≤ b.n ∧ b.n ≤ 4) = true by simpa using g1)
      clear g1
      by_cases g2 : (b.bs.length : Int) ≤ 4
      · by_cases g3 : 1 ≤ (b.os.length : Int) ∧ (b.os.length : Int) ≤ 3
        · have G3 := Lib.hid (show decide (1 ≤ (b.os.length : Int) ∧ (b.os.length : Int) ≤ 3) = true by simpa using g3)
          have HH := Lib.hid (show headB b = decide ((b.ss.length : Int) ≤ 5) by
            unfold headB
            rw [G1.out, decide_eq_true (show b.bs.length ≤ 4 by omega), decide_eq_true (show 1 ≤ b.os.length ∧ b.os.length ≤ 3 by omega)]
            simp only [Bool.true_and]
            congr 1
            exact propext ⟨fun h => by omega, fun h => by omega⟩)
          clear g3
          go_wp2_with (go_at_call 32; refine (Between_eq _ _ _ _ _ (by with_reducible first | exact G1.out | exact G3.out)).mono ?_; rintro e w1 ⟨rfl, rfl⟩)
          go_meet
          exact ⟨congrArg Value.bool HH.out.symm, rfl⟩
        · have G3 := Lib.hid (show decide (1 ≤ (b.os.length : Int) ∧ (b.os.length : Int) ≤ 3) = false by simpa using g3)
          have HH := Lib.hid (show headB b = false by
            unfold headB
            rw [decide_eq_false (show ¬ (1 ≤ b.os.length ∧ b.os.length ≤ 3) by omega)]
            simp)
          clear g3
          go_wp2_with (go_at_call 32; refine (Between_eq _ _ _ _ _ (by with_reducible first | exact G1.out | exact G3.out)).mono ?_; rintro e w1 ⟨rfl, rfl⟩)
          go_meet
          exact ⟨congrArg Value.bool HH.out.symm, rfl⟩
      · have g2' : decide ((b.bs.length : Int) ≤ 4) = false := by simpa using g2
        have HH := Lib.hid (show headB b = false by
          unfold headB
          rw [decide_eq_false (show ¬ b.bs.length ≤ 4 by omega)]
          simp)
        clear g2
        go_wp2_with (go_at_call 32; refine (Between_eq b.n 1 4 _ _ G1.out).mono ?_; rintro e w1 ⟨rfl, rfl⟩)
        go_meet
        exact ⟨congrArg Value.bool HH.out.symm, rfl⟩
    · have G1 := Lib.hid (show decide (1 ≤ b.n ∧ b.n ≤ 4) = false by simpa using g1)
      have HH := Lib.hid (show headB b = false by unfold headB; rw [G1.out]; simp)
      clear g1
      go_wp2_with (go_at_call 32; refine (Between_eq b.n 1 4 _ _ G1.out).mono ?_; rintro e w1 ⟨rfl, rfl⟩)
      go_meet
      exact ⟨congrArg Value.bool HH.out.symm, rfl⟩
  obtain ⟨rfl, rfl⟩ := hcut
  go_upto_block 0 with fail
  go_cut [3, 4] from 30 to 65 (fun s3 _ wx => ∃ q : Bool, s3 = .bool q ∧ ((q = true → headB b = true ∧ chainB (-1) b.bs = true) ∧ (q = false → bookB b = false)) ∧ Below wc.heap.size wc wx)
  case first =>
    go_wp2_with fail
    go_loopw [3, 4] (fun o i wr => ∃ (k : Nat) (q : Bool), k ≤ b.bs.length ∧ i = .int .i64 k ∧ o = .bool q ∧ Hid ((q = true → headB b = true ∧ chainB (-1) b.bs = chainB (pastB b.bs k) (b.bs.drop k)) ∧ (q = false → bookB b = false)) ∧ Hid (Below wc.heap.size wc wr)) (fun _ i _ => b.bs.length - (intOf i).toNat)
    case atStart => exact ⟨0, headB b, by omega, rfl, rfl, Lib.hid ⟨fun h => ⟨h, rfl⟩, fun h => by rw [bookB_parts, h]; simp⟩, Lib.hid (Below.refl _ _)⟩
    case round =>
      obtain ⟨k, q, hk, rfl, rfl, HX, HBr⟩ := hrel
      have hk2 := HKB.out.bel HBr.out
      have d1 := hk2.cell 1
      simp only [List.size_toArray, List.length_cons, List.length_nil, Nat.reduceAdd, Nat.reduceLT, getElem?_pos, List.getElem_toArray, List.getElem_cons_zero, List.getElem_cons_succ] at d1
      have hl1' := hk2.lt
      clear hk2
      cases q
      · go_wp2_with fail
        go_meet
        exact ⟨false, rfl, ⟨(fun h => by cases h), fun _ => HX.out.2 (by first | rfl | trivial)⟩, HBr.out⟩
      · have HX1 := Lib.hid (HX.out.1 rfl)
        clear HX
        by_cases hlt : k < b.bs.length
        · obtain ⟨⟨lo, hi⟩, hsk⟩ := get_some b.bs k hlt
          obtain ⟨bb, o, rfl, hbb, c1, c2⟩ := (HBW.out.bs.below HBr.out) k _ hsk
          dsimp only at c1 c2
          have HC := Lib.hid (chain_at hsk HX1.out.2)
          have k0 : (0 : Int) ≤ (k : Int) := by omega
          have k1 : (k : Int) < (b.bs.length : Int) := by omega
          have HH1 := Lib.hid HX1.out.1
          have h4 := (head_parts HX1.out.1).2.1
          clear HX1 hsk
          by_cases hm : momB lo hi = true
          · have HM := Lib.hid hm
            clear hm
            have hm0 := momB_iff.1 HM.out
            unfold Mom at hm0
            by_cases hk0 : k = 0
            · have hz : ((k : Int) == 0) = true := by simp [hk0]
              have HC2 := Lib.hid (show chainB (-1) b.bs = chainB (pastB b.bs (k + 1)) (b.bs.drop (k + 1)) by
                rw [HC.out, HM.out, decide_eq_true (show pastB b.bs k < lo by subst hk0; simp only [pastB]; omega)]; simp)
              clear hm0 hk0
              go_upto_region 5 with fail
              refine wp_region_ext (by kernel_rfl) (by kernel_rfl) ?_
              repeat (go_big_quiet_step (fail))
              go_big_quiet_step ((go_at_call 38; exact quiet_ext (minute_eq lo hi true _ HM.out)))
              repeat (go_big_quiet_step (fail))
              refine wpQuiet_nil ?_
              rintro wz ⟨z, hz9⟩
              have HBZ := Lib.hid (show Below wc.heap.size wc wz from HBr.out.trans (Below.mono (by rw [hz9]; (repeat (first | (with_reducible exact Below.refl _ _) | (with_reducible assumption) | ((with_reducible refine below_ext_trans ?_ ?_ _); rotate_left; focus (((try dsimp only); repeat (first | omega | simp only [World.size_alloc, World.size_setCell, World.size_drew] | (with_reducible refine le_ext_of ?_) | (with_reducible refine le_ext_add ?_))); done)) | ((with_reducible refine Below.alloc ?_ ?_ _); rotate_left; focus (((try dsimp only); repeat (first | omega | simp only [World.size_alloc, World.size_setCell, World.size_drew] | (with_reducible refine le_ext_of ?_) | (with_reducible refine le_ext_add ?_))); done)) | ((with_reducible refine Below.setCell ?_ ?_ _); rotate_left; focus (((try dsimp only); repeat (first | omega | simp only [World.size_alloc, World.size_setCell, World.size_drew] | (with_reducible refine le_ext_of ?_) | (with_reducible refine le_ext_add ?_))); done)) | (with_reducible refine Below.drew ?_)))) HBr.out.size))
              clear hz9
              go_wp2_with fail
              go_roundw
              case rel => exact ⟨k + 1, true, by omega, by go_num, rfl, Lib.hid ⟨fun _ => ⟨HH1.out, HC2.out⟩, (fun h => by cases h)⟩, HBZ⟩
              case measure => simp [intOf]; omega
            · obtain ⟨j, rfl⟩ : ∃ j, k = j + 1 := ⟨k - 1, by omega⟩
              obtain ⟨⟨lo2, hi2⟩, hsk2⟩ := get_some b.bs j (by omega)
              obtain ⟨bb', o', e', -, -, c4⟩ := (HBW.out.bs.below HBr.out) j _ hsk2
              cases e'
              dsimp only at c4
              have HP := Lib.hid (show pastB b.bs (j + 1) = hi2 by simp [pastB, List.getD_eq_getElem?_getD, hsk2])
              have k2 : (0 : Int) ≤ (j : Int) := by omega
              have k3 : (j : Int) < (b.bs.length : Int) := by omega
              generalize hjk : j + 1 = k at *
              have hkk : wrap64 ((k : Int) - 1) = (j : Int) := by unfold wrap64; omega
              have hkk' : (k : Int) - 1 = (j : Int) := by omega
              have hzz : ((k : Int) == 0) = false := beq_false_of_ne (by omega)
              clear hm0 hsk2 hk0 hjk
              by_cases hgt : hi2 < lo
              · have HC2 := Lib.hid (show chainB (-1) b.bs = chainB (pastB b.bs (k + 1)) (b.bs.drop (k + 1)) by
                  rw [HC.out, HM.out, HP.out, decide_eq_true hgt]; simp)
                go_upto_region 5 with fail
                refine wp_region_ext (by kernel_rfl) (by kernel_rfl) ?_
                repeat (go_big_quiet_step (fail))
                go_big_quiet_step ((go_at_call 38; exact quiet_ext (minute_eq lo hi true _ HM.out)))
                repeat (go_big_quiet_step (fail))
                refine wpQuiet_nil ?_
                rintro wz ⟨z, hz9⟩
                have HBZ := Lib.hid (show Below wc.heap.size wc wz from HBr.out.trans (Below.mono (by rw [hz9]; (repeat (first | (with_reducible exact Below.refl _ _) | (with_reducible assumption) | ((with_reducible refine below_ext_trans ?_ ?_ _); rotate_left; focus (((try dsimp only); repeat (first | omega | simp only [World.size_alloc, World.size_setCell, World.size_drew] | (with_reducible refine le_ext_of ?_) | (with_reducible refine le_ext_add ?_))); done)) | ((with_reducible refine Below.alloc ?_ ?_ _); rotate_left; focus (((try dsimp only); repeat (first | omega | simp only [World.size_alloc, World.size_setCell, World.size_drew] | (with_reducible refine le_ext_of ?_) | (with_reducible refine le_ext_add ?_))); done)) | ((with_reducible refine Below.setCell ?_ ?_ _); rotate_left; focus (((try dsimp only); repeat (first | omega | simp only [World.size_alloc, World.size_setCell, World.size_drew] | (with_reducible refine le_ext_of ?_) | (with_reducible refine le_ext_add ?_))); done)) | (with_reducible refine Below.drew ?_)))) HBr.out.size))
                clear hz9
                go_wp2_with fail
                go_roundw
                case rel => exact ⟨k + 1, true, by omega, by go_num, rfl, Lib.hid ⟨fun _ => ⟨HH1.out, HC2.out⟩, (fun h => by cases h)⟩, HBZ⟩
                case measure => simp [intOf]; omega
              · have HF := Lib.hid (show bookB b = false by rw [bookB_parts, HC.out, HP.out, decide_eq_false hgt]; simp)
                have hgt' : decide (hi2 < lo) = false := by simpa using hgt
                clear hgt
                go_upto_region 5 with fail
                refine wp_region_ext (by kernel_rfl) (by kernel_rfl) ?_
                repeat (go_big_quiet_step (fail))
                go_big_quiet_step ((go_at_call 38; exact quiet_ext (minute_eq lo hi true _ HM.out)))
                repeat (go_big_quiet_step (fail))
                refine wpQuiet_nil ?_
                rintro wz ⟨z, hz9⟩
                have HBZ := Lib.hid (show Below wc.heap.size wc wz from HBr.out.trans (Below.mono (by rw [hz9]; (repeat (first | (with_reducible exact Below.refl _ _) | (with_reducible assumption) | ((with_reducible refine below_ext_trans ?_ ?_ _); rotate_left; focus (((try dsimp only); repeat (first | omega | simp only [World.size_alloc, World.size_setCell, World.size_drew] | (with_reducible refine le_ext_of ?_) | (with_reducible refine le_ext_add ?_))); done)) | ((with_reducible refine Below.alloc ?_ ?_ _); rotate_left; focus (((try dsimp only); repeat (first | omega | simp only [World.size_alloc, World.size_setCell, World.size_drew] | (with_reducible refine le_ext_of ?_) | (with_reducible refine le_ext_add ?_))); done)) | ((with_reducible refine Below.setCell ?_ ?_ _); rotate_left; focus (((try dsimp only); repeat (first | omega | simp only [World.size_alloc, World.size_setCell, World.size_drew] | (with_reducible refine le_ext_of ?_) | (with_reducible refine le_ext_add ?_))); done)) | (with_reducible refine Below.drew ?_)))) HBr.out.size))
                clear hz9
                go_wp2_with fail
                go_roundw
                case rel => exact ⟨k + 1, false, by omega, by go_num, by first | rfl | simp, Lib.hid ⟨(fun h => by cases h), fun _ => HF.out⟩, HBZ⟩
                case measure => simp [intOf]; omega
          · have HM := Lib.hid (show momB lo hi = false by simpa using hm)
            have HF := Lib.hid (show bookB b = false by rw [bookB_parts, HC.out, HM.out]; simp)
            clear hm
            go_upto_region 5 with fail
            refine wp_region_ext (by kernel_rfl) (by kernel_rfl) ?_
            repeat (go_big_quiet_step (fail))
            go_big_quiet_step ((go_at_call 38; exact quiet_ext (minute_eq lo hi false _ HM.out)))
            repeat (go_big_quiet_step (fail))
            refine wpQuiet_nil ?_
            rintro wz ⟨z, hz9⟩
            have HBZ := Lib.hid (show Below wc.heap.size wc wz from HBr.out.trans (Below.mono (by rw [hz9]; (repeat (first | (with_reducible exact Below.refl _ _) | (with_reducible assumption) | ((with_reducible refine below_ext_trans ?_ ?_ _); rotate_left; focus (((try dsimp only); repeat (first | omega | simp only [World.size_alloc, World.size_setCell, World.size_drew] | (with_reducible refine le_ext_of ?_) | (with_reducible refine le_ext_add ?_))); done)) | ((with_reducible refine Below.alloc ?_ ?_ _); rotate_left; focus (((try dsimp only); repeat (first | omega | simp only [World.size_alloc, World.size_setCell, World.size_drew] | (with_reducible refine le_ext_of ?_) | (with_reducible refine le_ext_add ?_))); done)) | ((with_reducible refine Below.setCell ?_ ?_ _); rotate_left; focus (((try dsimp only); repeat (first | omega | simp only [World.size_alloc, World.size_setCell, World.size_drew] | (with_reducible refine le_ext_of ?_) | (with_reducible refine le_ext_add ?_))); done)) | (with_reducible refine Below.drew ?_)))) HBr.out.size))
            clear hz9
            go_wp2_with fail
            go_roundw
            case rel => exact ⟨k + 1, false, by omega, by go_num, rfl, Lib.hid ⟨(fun h => by cases h), fun _ => HF.out⟩, HBZ⟩
            case measure => simp [intOf]; omega
        · obtain rfl : k = b.bs.length := by omega
          go_wp2_with fail
          go_meet
          exact ⟨true, rfl, ⟨fun _ => ⟨HX1.out.1, by rw [HX1.out.2, List.drop_length]; rfl⟩, (fun h => by cases h)⟩, HBr.out⟩
  obtain ⟨q, rfl, hq, hB1⟩ := hcut
  have HQ1 := Lib.hid hq
  have HB1 := Lib.hid hB1
  generalize wc = V at *
  clear hq d0 d1 d2 d3
  go_upto_block 2 with fail
  go_cut [3, 5, 6] from 66 to 109 (fun s3 _ _ wx => ∃ q : Bool, s3 = .bool q ∧ ((q = true → headB b = true ∧ chainB (-1) b.bs = true ∧ b.os.all (orderB b.n b.bs.length) = true) ∧ (q = false → bookB b = false)) ∧ Below V.heap.size V wx)
  case first =>
    go_wp2_with fail
    go_loopw [3, 5] (fun o i wr => ∃ (k : Nat) (q : Bool), k ≤ b.os.length ∧ i = .int .i64 k ∧ o = .bool q ∧ Hid ((q = true → headB b = true ∧ chainB (-1) b.bs = true ∧ (b.os.take k).all (orderB b.n b.bs.length) = true) ∧ (q = false → bookB b = false)) ∧ Hid (Below V.heap.size V wr)) (fun _ i _ => b.os.length - (intOf i).toNat)
    case atStart => exact ⟨0, q, by omega, rfl, rfl, Lib.hid ⟨fun h => ⟨(HQ1.out.1 h).1, (HQ1.out.1 h).2, rfl⟩, HQ1.out.2⟩, Lib.hid (Below.refl _ _)⟩
    case round =>
      obtain ⟨k, q, hk, rfl, rfl, HX, HBr⟩ := hrel
      have HB5 := Lib.hid (HB1.out.trans (HBr.out.mono HB1.out.size))
      have HK2 := Lib.hid (HKB.out.bel HB5.out)
      have d1 := HK2.out.cell 1
      have d2 := HK2.out.cell 2
      simp only [List.size_toArray, List.length_cons, List.length_nil, Nat.reduceAdd, Nat.reduceLT, getElem?_pos, List.getElem_toArray, List.getElem_cons_zero, List.getElem_cons_succ] at d1 d2
      have hl1' := HK2.out.lt
      cases q
      · go_wp2_with fail
        go_meet
        exact ⟨false, rfl, ⟨(fun h => by cases h), fun _ => HX.out.2 (by first | rfl | trivial)⟩, HBr.out⟩
      · have HX1 := Lib.hid (HX.out.1 rfl)
        clear HX
        have hhp := head_parts HX1.out.1
        have hn4 := hhp.1
        have h4 := hhp.2.1
        have h3 := hhp.2.2.1.2
        clear hhp
        by_cases hlt : k < b.os.length
        · obtain ⟨r, hsk⟩ := get_some b.os k hlt
          obtain ⟨bb, o, rfl, hbb, q1, c1, hcell, hrow⟩ := (HBW.out.os.below HB5.out) k _ hsk
          have k0 : (0 : Int) ≤ (k : Int) := by omega
          have k1 : (k : Int) < (b.os.length : Int) := by omega
          have HROW := Lib.hid hrow
          have HSK := Lib.hid hsk
          clear hrow hsk
          generalize hR : r.length = R at *
          have HR := Lib.hid hR
          clear hR
          have hwm : wrap64 ((b.bs.length : Int) + 1) = (b.bs.length : Int) + 1 := by unfold wrap64; omega
          go_upto_region 9 with fail
          refine wp_region_ext (by kernel_rfl) (by kernel_rfl) ?_
          repeat (go_big_quiet_step (fail))
          refine wpQuiet_nil ?_
          rintro wz ⟨z, hz9⟩
          have hBz : Below wr.heap.size wr wz := by rw [hz9]; (repeat (first | (with_reducible exact Below.refl _ _) | (with_reducible assumption) | ((with_reducible refine below_ext_trans ?_ ?_ _); rotate_left; focus (((try dsimp only); repeat (first | omega | simp only [World.size_alloc, World.size_setCell, World.size_drew] | (with_reducible refine le_ext_of ?_) | (with_reducible refine le_ext_add ?_))); done)) | ((with_reducible refine Below.alloc ?_ ?_ _); rotate_left; focus (((try dsimp only); repeat (first | omega | simp only [World.size_alloc, World.size_setCell, World.size_drew] | (with_reducible refine le_ext_of ?_) | (with_reducible refine le_ext_add ?_))); done)) | ((with_reducible refine Below.setCell ?_ ?_ _); rotate_left; focus (((try dsimp only); repeat (first | omega | simp only [World.size_alloc, World.size_setCell, World.size_drew] | (with_reducible refine le_ext_of ?_) | (with_reducible refine le_ext_add ?_))); done)) | (with_reducible refine Below.drew ?_)))
          have HBZ := Lib.hid hBz
          have HB6 := Lib.hid (HB5.out.trans (hBz.mono HB5.out.size))
          have HK3 := Lib.hid (HK2.out.bel hBz)
          have hbb3 := Nat.lt_of_lt_of_le hbb hBz.size
          have hcell3 := (hBz.cell (p := ⟨bb, o + k, none⟩) hbb).trans hcell
          have HROW3 := Lib.hid (HROW.out.below hBz)
          have HBR6 := Lib.hid (HBr.out.trans (hBz.mono HBr.out.size))
          clear hz9 hBz d1 d2 hcell
          have HO0 := Lib.hid (show (((R : Int) == (b.bs.length : Int) + 1) = true → r.length = b.bs.length + 1) ∧ (((R : Int) == (b.bs.length : Int) + 1) = false → orderB b.n b.bs.length r = false) from
            ⟨fun h => by have h := eq_of_beq h; have := HR.out; omega, fun h => by
              unfold orderB
              rw [decide_eq_false (show ¬ r.length = b.bs.length + 1 by have := HR.out; have := ne_of_beq_false h; omega)]
              rfl⟩)
          have HOS := Lib.hid (show orderB b.n b.bs.length r = true → (b.os.take (k + 1)).all (orderB b.n b.bs.length) = true from fun h => all_take HSK.out HX1.out.2.2 h)
          have HON := Lib.hid (show orderB b.n b.bs.length r = false → bookB b = false from fun h => by rw [bookB_parts, all_not HSK.out h]; simp)
          have HH1 := Lib.hid (show headB b = true ∧ chainB (-1) b.bs = true from ⟨HX1.out.1, HX1.out.2.1⟩)
          have HK1 := Lib.hid (show k + 1 ≤ b.os.length from hlt)
          have HWN := Lib.hid (wrap_num' k (by omega))
          have HN4 := Lib.hid hn4
          clear HSK HX1 hk hwm hn4
          go_wp2_with fail
          generalize hq0 : ((R : Int) == (b.bs.length : Int) + 1) = q0 at *
          clear hq0
          generalize wr = w5 at *
          go_loopw [3, 6] (fun o i wt => ∃ (j : Nat) (q : Bool), j ≤ R ∧ i = .int .i64 j ∧ o = .bool q ∧ Hid ((q = true → r.length = b.bs.length + 1 ∧ (r.take j).all (fun c => isN c b.n) = true) ∧ (q = false → orderB b.n b.bs.length r = false)) ∧ Hid (Below wz.heap.size wz wt)) (fun _ i _ => R - (intOf i).toNat)
          case atStart => exact ⟨0, q0, by omega, rfl, rfl, Lib.hid ⟨fun h => ⟨HO0.out.1 h, rfl⟩, HO0.out.2⟩, Lib.hid (Below.refl _ _)⟩
          case round =>
            obtain ⟨j, q, hj, rfl, rfl, HY, HBt⟩ := hrel
            have HK4 := Lib.hid (HK3.out.bel HBt.out)
            have d0 := HK4.out.cell 0
            have d1 := HK4.out.cell 1
            have d2 := HK4.out.cell 2
            have d3 := HK4.out.cell 3
            simp only [List.size_toArray, List.length_cons, List.length_nil, Nat.reduceAdd, Nat.reduceLT, getElem?_pos, List.getElem_toArray, List.getElem_cons_zero, List.getElem_cons_succ] at d0 d1 d2 d3
            have hl1'' := HK4.out.lt
            have hbb4 := Nat.lt_of_lt_of_le hbb3 HBt.out.size
            have hcell4 := (HBt.out.cell (p := ⟨bb, o + k, none⟩) hbb3).trans hcell3
            have HBF := Lib.hid (HBR6.out.trans (HBt.out.mono HBR6.out.size))
            cases q
            · have HOF := Lib.hid (HY.out.2 (by first | rfl | trivial))
              have HOF2 := Lib.hid (HON.out HOF.out)
              clear d0 d1 d3
              go_wp2_with fail
              first | rw [HWN.out] | rw [plus_num k]
              exact ⟨⟨k + 1, false, HK1.out, rfl, rfl, Lib.hid ⟨(fun h => by cases h), fun _ => HOF2.out⟩, HBF⟩, less_num' _ k HK1.out⟩
            · have HY1 := Lib.hid (HY.out.1 (by first | rfl | trivial))
              clear HY
              by_cases hlt2 : j < R
              · obtain ⟨c, hc⟩ := get_some r j (by have := HR.out; omega)
                obtain ⟨b2, o2, rfl, hb2, hc2⟩ := (HROW3.out.below HBt.out) j _ hc
                have j0 : (0 : Int) ≤ (j : Int) := by omega
                have j1 : (j : Int) < (R : Int) := by omega
                obtain ⟨qc, hqc⟩ : ∃ qc, isN c b.n = qc := ⟨_, rfl⟩
                have HQC := Lib.hid hqc
                have HT1 := Lib.hid (show qc = true → (r.take (j + 1)).all (fun c => isN c b.n) = true from fun h => all_take hc HY1.out.2 (by rw [hqc, h]))
                have HT2 := Lib.hid (show qc = false → orderB b.n b.bs.length r = false from fun h => by
                  unfold orderB
                  rw [all_not hc (by rw [hqc, h])]
                  simp)
                have hRs : (R : Int) ≤ 5 := by have := HY1.out.1; have := HR.out; omega
                clear hc hqc
                go_upto_region 13 with fail
                refine wp_region_ext (by kernel_rfl) (by kernel_rfl) ?_
                repeat (go_big_quiet_step (fail))
                go_big_quiet_step ((go_at_call 39; exact quiet_ext (isCompany_eq _ _ _ _ _ _ _ _ _ _ c qc _ HN4.out HQC.out)))
                repeat (go_big_quiet_step (fail))
                refine wpQuiet_nil ?_
                rintro wy ⟨y, hy9⟩
                have HBY := Lib.hid (show Below wz.heap.size wz wy from HBt.out.trans (Below.mono (by rw [hy9]; (repeat (first | (with_reducible exact Below.refl _ _) | (with_reducible assumption) | ((with_reducible refine below_ext_trans ?_ ?_ _); rotate_left; focus (((try dsimp only); repeat (first | omega | simp only [World.size_alloc, World.size_setCell, World.size_drew] | (with_reducible refine le_ext_of ?_) | (with_reducible refine le_ext_add ?_))); done)) | ((with_reducible refine Below.alloc ?_ ?_ _); rotate_left; focus (((try dsimp only); repeat (first | omega | simp only [World.size_alloc, World.size_setCell, World.size_drew] | (with_reducible refine le_ext_of ?_) | (with_reducible refine le_ext_add ?_))); done)) | ((with_reducible refine Below.setCell ?_ ?_ _); rotate_left; focus (((try dsimp only); repeat (first | omega | simp only [World.size_alloc, World.size_setCell, World.size_drew] | (with_reducible refine le_ext_of ?_) | (with_reducible refine le_ext_add ?_))); done)) | (with_reducible refine Below.drew ?_)))) HBt.out.size))
                clear hy9
                go_wp2_with fail
                go_roundw
                case rel => exact ⟨j + 1, qc, by omega, by go_num, rfl, Lib.hid ⟨fun h => ⟨HY1.out.1, HT1.out h⟩, HT2.out⟩, HBY⟩
                case measure => simp [intOf]; omega
              · have HOT := Lib.hid (show orderB b.n b.bs.length r = true by
                  unfold orderB
                  have h1 := HY1.out.2
                  rw [List.take_of_length_le (by have := HR.out; omega)] at h1
                  rw [decide_eq_true HY1.out.1, h1]
                  rfl)
                have HOF2 := Lib.hid (HOS.out HOT.out)
                clear d0 d1 d3
                go_wp2_with fail
                first | rw [HWN.out] | rw [plus_num k]
                exact ⟨⟨k + 1, true, HK1.out, rfl, rfl, Lib.hid ⟨fun _ => ⟨HH1.out.1, HH1.out.2, HOF2.out⟩, (fun h => by cases h)⟩, HBF⟩, less_num' _ k HK1.out⟩
        · obtain rfl : k = b.os.length := by omega
          go_wp2_with fail
          go_meet
          exact ⟨true, rfl, ⟨fun _ => ⟨HX1.out.1, HX1.out.2.1, by have := HX1.out.2.2; rw [List.take_length] at this; exact this⟩, (fun h => by cases h)⟩, HBr.out⟩
  obtain ⟨q2, rfl, hq, hB2⟩ := hcut
  have HQ2 := Lib.hid hq
  have HB2 := Lib.hid hB2
  clear hq
  go_upto_block 6 with fail
  go_cut [3, 7, 8] from 110 to 139 (fun s3 _ _ wx => s3 = .bool (bookB b) ∧ Below V.heap.size V wx)
  case first =>
    go_wp2_with fail
    go_loopw [3, 7] (fun o i wr => ∃ (k : Nat) (q : Bool), k ≤ b.ss.length ∧ i = .int .i64 k ∧ o = .bool q ∧ Hid ((q = true → headB b = true ∧ chainB (-1) b.bs = true ∧ b.os.all (orderB b.n b.bs.length) = true ∧ (b.ss.take k).all (shotB b.n b.os.length) = true) ∧ (q = false → bookB b = false)) ∧ Hid (Below V.heap.size V wr)) (fun _ i _ => b.ss.length - (intOf i).toNat)
    case atStart => exact ⟨0, q2, by omega, rfl, rfl, Lib.hid ⟨fun h => ⟨(HQ2.out.1 h).1, (HQ2.out.1 h).2.1, (HQ2.out.1 h).2.2, rfl⟩, HQ2.out.2⟩, HB2⟩
    case round =>
      obtain ⟨k, q, hk, rfl, rfl, HX, HBr⟩ := hrel
      have HB5 := Lib.hid (HB1.out.trans (HBr.out.mono HB1.out.size))
      have HK2 := Lib.hid (HKB.out.bel HB5.out)
      have d0 := HK2.out.cell 0
      have d1 := HK2.out.cell 1
      have d2 := HK2.out.cell 2
      have d3 := HK2.out.cell 3
      simp only [List.size_toArray, List.length_cons, List.length_nil, Nat.reduceAdd, Nat.reduceLT, getElem?_pos, List.getElem_toArray, List.getElem_cons_zero, List.getElem_cons_succ] at d0 d1 d2 d3
      have hl1' := HK2.out.lt
      cases q
      · have HF := Lib.hid (HX.out.2 (by first | rfl | trivial))
        clear HX d0 d1 d2
        go_wp2_with fail
        go_meet
        exact ⟨congrArg Value.bool HF.out.symm, HBr.out⟩
      · have HX1 := Lib.hid (HX.out.1 rfl)
        clear HX
        have hhp := head_parts HX1.out.1
        have HN4 := Lib.hid hhp.1
        have h5 := hhp.2.2.2
        have HO3 := Lib.hid (show (b.os.length : Int) ≤ 1000000 by omega)
        clear hhp
        by_cases hlt : k < b.ss.length
        · obtain ⟨⟨st, co', lo, hi⟩, hsk⟩ := get_some b.ss k hlt
          obtain ⟨bb, o, rfl, hbb, c1, c2, c3, c4⟩ := (HBW.out.ss.below HB5.out) k _ hsk
          dsimp only at c1 c2 c3 c4
          have k0 : (0 : Int) ≤ (k : Int) := by omega
          have k1 : (k : Int) < (b.ss.length : Int) := by omega
          obtain ⟨a1, ha1⟩ : ∃ a, isN st b.os.length = a := ⟨_, rfl⟩
          obtain ⟨a2, ha2⟩ : ∃ a, isN co' b.n = a := ⟨_, rfl⟩
          obtain ⟨a3, ha3⟩ : ∃ a, momB lo hi = a := ⟨_, rfl⟩
          have hs : shotB b.n b.os.length ⟨st, co', lo, hi⟩ = (a1 && a2 && a3) := by unfold shotB; rw [ha1, ha2, ha3]
          have HY := Lib.hid (show (a1 && a2 && a3) = true → (b.ss.take (k + 1)).all (shotB b.n b.os.length) = true from fun h => all_take hsk HX1.out.2.2.2 (hs.trans h))
          have HN := Lib.hid (show (a1 && a2 && a3) = false → bookB b = false from fun h => by rw [bookB_parts, all_not hsk (hs.trans h)]; simp)
          have HA1 := Lib.hid ha1
          have HA2 := Lib.hid ha2
          have HA3 := Lib.hid ha3
          clear hsk hs ha1 ha2 ha3
          cases a1 <;> cases a2
          all_goals
            go_wp2_with (first
              | (go_at_call 40; refine (isStation_eq _ _ _ _ _ _ _ _ _ _ st _ _ HO3.out HA1.out).mono ?_; rintro e w1 ⟨rfl, y, rfl⟩)
              | (go_at_call 39; refine (isCompany_eq _ _ _ _ _ _ _ _ _ _ co' _ _ HN4.out HA2.out).mono ?_; rintro e w1 ⟨rfl, y, rfl⟩)
              | (go_at_call 38; refine (minute_eq lo hi _ _ HA3.out).mono ?_; rintro e w1 ⟨rfl, y, rfl⟩))
            first | rw [wrap_num' k (by omega)] | rw [plus_num k]
            exact ⟨⟨k + 1, _, hlt, rfl, rfl, Lib.hid ⟨fun h => ⟨HX1.out.1, HX1.out.2.1, HX1.out.2.2.1, HY.out (by first | (simp at h; done) | simpa using h)⟩, fun h => HN.out (by first | rfl | (simpa using h))⟩, Lib.hid (HBr.out.trans (Below.mono (by (repeat (first | (with_reducible exact Below.refl _ _) | (with_reducible assumption) | ((with_reducible refine below_ext_trans ?_ ?_ _); rotate_left; focus (((try dsimp only); repeat (first | omega | simp only [World.size_alloc, World.size_setCell, World.size_drew] | (with_reducible refine le_ext_of ?_) | (with_reducible refine le_ext_add ?_))); done)) | ((with_reducible refine Below.alloc ?_ ?_ _); rotate_left; focus (((try dsimp only); repeat (first | omega | simp only [World.size_alloc, World.size_setCell, World.size_drew] | (with_reducible refine le_ext_of ?_) | (with_reducible refine le_ext_add ?_))); done)) | ((with_reducible refine Below.setCell ?_ ?_ _); rotate_left; focus (((try dsimp only); repeat (first | omega | simp only [World.size_alloc, World.size_setCell, World.size_drew] | (with_reducible refine le_ext_of ?_) | (with_reducible refine le_ext_add ?_))); done)) | (with_reducible refine Below.drew ?_)))) HBr.out.size))⟩, less_num' _ k hlt⟩
        · obtain rfl : k = b.ss.length := by omega
          have HT := Lib.hid (show bookB b = true by
            have h1 := HX1.out.2.2.2
            rw [List.take_length] at h1
            rw [bookB_parts, HX1.out.1, HX1.out.2.1, HX1.out.2.2.1, h1]
            rfl)
          clear d0 d1 d2
          go_wp2_with fail
          go_meet
          exact ⟨congrArg Value.bool HT.out.symm, HBr.out⟩
  obtain ⟨rfl, hB3⟩ := hcut
  have HEND := Lib.hid (HB.out.trans ((HB1.out.trans (hB3.mono HB1.out.size)).mono HB.out.size))
  clear hB3
  cases hbk : bookB b
  all_goals
    go_wp2_with fail
    all_goals
      go_ret
      exact ⟨rfl, ext_of HEND.out⟩
end Go.Proofs.YteocjggepjpecaaGreatDoor

