/- Contract of the reference's sure: has a company the turn in each truth? -/
/- Contract of the reference's Sure on a good book. -/
import Derived.Test.YteocjggepjpecaaGreatDoorQGl
import Derived.Test.YteocjggepjpecaaGreatDoorQVa
import Derived.Test.YteocjggepjpecaaGreatDoorQYu
import Derived.Test.YteocjggepjpecaaGreatDoorQWa
set_option linter.unusedSimpArgs false
set_option linter.unusedVariables false
namespace Go.Proofs.YteocjggepjpecaaGreatDoor
open Go Go.RowKit

/-- Are all turns that there can be at a minute a company's? -/
def onlyI (b : Bk) (st : Nat) (co m : Int) : Bool := (seg (cnt (b.bs.map Prod.snd) m) (cnt (b.bs.map Prod.fst) m)).all fun t => ownf b.os st t == co
theorem only_same {b : Bk} (hv : bookB b = true) (st : Nat) (co : Int) {m : Nat} (hm : m < 1440) : onlyI b st co m = onlyAt b st co m := by
  have h4 := (bookB_bounds hv).1
  unfold onlyI onlyAt
  rw [late_tl, soon_tl, cnt_tl _ (by simpa using h4) _ (by omega), cnt_tl _ (by simpa using h4) _ (by omega)]
theorem upto_take (lo j : Nat) : upto lo (lo + (j + 1)) = upto lo (lo + j) ++ [lo + j] := (upto_snoc lo (lo + j) (by omega)).symm
attribute [local go_sem] Oper.semAt_some frozen_alloc_lt
set_option maxRecDepth 100000 in
set_option maxHeartbeats 2000000 in
theorem rsure_any (h : Hd) (b : Bk) (hv : bookB b = true) (st : Nat) (co m : Int) (w : World) (hb : BkAt w h b) (hso : st < b.os.length) :
    Calls Tryz.prog 47 #[.agg #[.int .i64 b.n, .slice h.pb b.bs.length h.cb, .slice h.po b.os.length h.co, .slice h.ps b.ss.length h.cs], .int .i64 st, .int .i64 co, .int .i64 m] w
      fun e w' => e = .returned (.bool (onlyI b st co m)) ∧ ∃ x, w' = ext w x := by
  have h4 := (bookB_bounds hv).1
  obtain ⟨pb, cb, po, co', ps, cs⟩ := h
  dsimp only
  obtain ⟨bb, o, q1, c1, hpo, hbb, hcell, hrow⟩ := row_at hb.os hso
  dsimp only at hpo
  subst hpo
  have HROW := Lib.hid hrow
  have HOWN := Lib.hid (show ∀ j : Nat, j ≤ b.bs.length → (b.os.getD st [])[j]? = some (ownf b.os st j) ∧ (j : Int) < ((b.os.getD st []).length : Int) from fun j hj => row_own hv hso hj)
  have HBK := Lib.hid hb
  have s0 : (0 : Int) ≤ (st : Int) := by omega
  have s1 : (st : Int) < (b.os.length : Int) := by omega
  clear hb hrow
  generalize b.os.getD st [] = R at *
  go_enter Tryz.func47, Tryz.ntmps47
  go_upto_region 2 with fail
  generalize hW : w.alloc _ = W
  have hB : Below w.heap.size w W := by rw [← hW]; (repeat (first | (with_reducible exact Below.refl _ _) | (with_reducible assumption) | ((with_reducible refine below_ext_trans ?_ ?_ _); rotate_left; focus (((try dsimp only); repeat (first | omega | simp only [World.size_alloc, World.size_setCell, World.size_drew] | (with_reducible refine le_ext_of ?_) | (with_reducible refine le_ext_add ?_))); done)) | ((with_reducible refine Below.alloc ?_ ?_ _); rotate_left; focus (((try dsimp only); repeat (first | omega | simp only [World.size_alloc, World.size_setCell, World.size_drew] | (with_reducible refine le_ext_of ?_) | (with_reducible refine le_ext_add ?_))); done)) | ((with_reducible refine Below.setCell ?_ ?_ _); rotate_left; focus (((try dsimp only); repeat (first | omega | simp only [World.size_alloc, World.size_setCell, World.size_drew] | (with_reducible refine le_ext_of ?_) | (with_reducible refine le_ext_add ?_))); done)) | (with_reducible refine Below.drew ?_)))
  have kb : Blk W w.heap.size 26 #[.int .i64 b.n, .slice pb b.bs.length cb, .slice (some ⟨bb, o, none⟩) b.os.length co', .slice ps b.ss.length cs] := by rw [← hW]; exact Blk.new rfl
  have d1 := kb.cell 1
  have d2 := kb.cell 2
  simp only [List.size_toArray, List.length_cons, List.length_nil, Nat.reduceAdd, Nat.reduceLT, getElem?_pos, List.getElem_toArray, List.getElem_cons_zero, List.getElem_cons_succ] at d1 d2
  have hl1 := kb.lt
  have hcell := (hB.cell (p := ⟨bb, o + st, none⟩) hbb).trans hcell
  have HROW2 := Lib.hid (HROW.out.below hB)
  have HSP := Lib.hid (HBK.out.bs.below hB)
  have hbb := Nat.lt_of_lt_of_le hbb hB.size
  have HB := Lib.hid hB
  clear hW hB kb
  go_upto_region 3 with fail
  go_loopw [9, 10, 11] (fun p q i wr => ∃ k : Nat, k ≤ b.bs.length ∧ i = .int .i64 k ∧ p = .int .i64 (cnt ((b.bs.map Prod.snd).take k) m) ∧ q = .int .i64 (cnt ((b.bs.map Prod.fst).take k) m) ∧ wr = W) (fun _ _ i _ => b.bs.length - (intOf i).toNat)
  case atStart => exact ⟨0, by omega, rfl, rfl, rfl, rfl⟩
  case round =>
    obtain ⟨k, hk, rfl, rfl, rfl, rfl⟩ := hrel
    by_cases hlt : k < b.bs.length
    · obtain ⟨⟨lo, hi⟩, hsk⟩ := get_some b.bs k hlt
      obtain ⟨b0, o0, eq0, hb0, c3, c4⟩ := HSP.out k _ hsk
      dsimp only at eq0 c3 c4
      subst eq0
      have HS1 := Lib.hid (show cnt ((b.bs.map Prod.snd).take (k + 1)) m = cnt ((b.bs.map Prod.snd).take k) m + if hi ≤ m then 1 else 0 by
        rw [List.take_add_one, List.getElem?_map, hsk, Option.map_some, Option.toList_some, cnt_snoc])
      have HS2 := Lib.hid (show cnt ((b.bs.map Prod.fst).take (k + 1)) m = cnt ((b.bs.map Prod.fst).take k) m + if lo ≤ m then 1 else 0 by
        rw [List.take_add_one, List.getElem?_map, hsk, Option.map_some, Option.toList_some, cnt_snoc])
      have n1 := cnt_le ((b.bs.map Prod.snd).take k) m
      have n2 := cnt_le ((b.bs.map Prod.fst).take k) m
      rw [List.length_take] at n1 n2
      have k0 : (0 : Int) ≤ (k : Int) := by omega
      have k1 : (k : Int) < (b.bs.length : Int) := by omega
      generalize cnt ((b.bs.map Prod.snd).take k) m = x at *
      generalize cnt ((b.bs.map Prod.fst).take k) m = y at *
      have hx4 : x ≤ 4 := by omega
      have hy4 : y ≤ 4 := by omega
      clear hsk n1 n2
      by_cases g1 : hi ≤ m <;> by_cases g2 : lo ≤ m
      all_goals (
        go_wp2_with fail
        go_roundw
        case rel => exact ⟨k + 1, by omega, by go_num, by rw [HS1.out]; simp [g1], by rw [HS2.out]; simp [g2], trivial⟩
        case measure => simp [intOf]; omega)
    · obtain rfl : k = b.bs.length := by omega
      have t1 : (b.bs.map Prod.snd).take b.bs.length = b.bs.map Prod.snd := List.take_of_length_le (by simp)
      have t2 : (b.bs.map Prod.fst).take b.bs.length = b.bs.map Prod.fst := List.take_of_length_le (by simp)
      rw [t1, t2]
      have n2 := cnt_le (b.bs.map Prod.fst) m
      rw [List.length_map] at n2
      have n3 := cnt_le (b.bs.map Prod.snd) m
      rw [List.length_map] at n3
      have HO := Lib.hid (show onlyI b st co m = (seg (cnt (b.bs.map Prod.snd) m) (cnt (b.bs.map Prod.fst) m)).all fun t => ownf b.os st t == co from rfl)
      have hle := (show cnt (b.bs.map Prod.snd) m ≤ cnt (b.bs.map Prod.fst) m from (allT_ends (allT_fst hv) m).1)
      generalize hx : cnt (b.bs.map Prod.snd) m = x at *
      generalize hy : cnt (b.bs.map Prod.fst) m = y at *
      clear hx hy t1 t2 HSP
      generalize wr = W at *
      go_upto_region 10 with fail
      go_loopw [12] (fun i wr => ∃ j : Nat, x + j ≤ y + 1 ∧ i = .int .i64 ((x + j : Nat) : Int) ∧ Hid ((upto x (x + j)).all (fun t => ownf b.os st t == co) = true) ∧ Hid (Below W.heap.size W wr)) (fun i _ => y + 1 - (intOf i).toNat)
      case atStart => exact ⟨0, by omega, rfl, Lib.hid (by rw [Nat.add_zero, upto_self]; rfl), Lib.hid (Below.refl _ _)⟩
      case round =>
        obtain ⟨j, hj, rfl, HX, HBr⟩ := hrel
        by_cases hlt : x + j ≤ y
        · obtain ⟨r1, r2⟩ := HOWN.out (x + j) (by omega)
          obtain ⟨b2, o2, eq1, hb2, hc2⟩ := (HROW2.out.below HBr.out) _ _ r1
          subst eq1
          have hcell' := (HBr.out.cell (p := ⟨bb, o + st, none⟩) hbb).trans hcell
          have d2' := (HBr.out.cell (p := ⟨w.heap.size, 2, none⟩) hl1).trans d2
          have hbb' := Nat.lt_of_lt_of_le hbb HBr.out.size
          have hl1' := Nat.lt_of_lt_of_le hl1 HBr.out.size
          have HSN := Lib.hid (show (upto x (x + (j + 1))).all (fun t => ownf b.os st t == co) = (ownf b.os st (x + j) == co) by
            rw [upto_take, List.all_append, HX.out]; simp)
          have HNO := Lib.hid (show (ownf b.os st (x + j) == co) = false → onlyI b st co m = false from fun hf => by
            rw [HO.out]
            cases hc : (seg x y).all fun t => ownf b.os st t == co with
            | false => rfl
            | true =>
              have := List.all_eq_true.1 hc (x + j) (mem_seg.2 ⟨by omega, hlt⟩)
              rw [hf] at this; cases this)
          generalize ownf b.os st (x + j) = own at *
          generalize R.length = RL at *
          generalize hxj : x + j = xj at *
          have i0 : (0 : Int) ≤ (xj : Int) := by omega
          have hy4 : y ≤ 1000 := by omega
          have HJ := Lib.hid (show x + (j + 1) ≤ y + 1 by omega)
          have HXJ := Lib.hid (show ((xj + 1 : Nat) : Int) = ((x + (j + 1) : Nat) : Int) by omega)
          clear r1
          by_cases he : own = co
          · have HT := Lib.hid (show (upto x (x + (j + 1))).all (fun t => ownf b.os st t == co) = true by rw [HSN.out, he]; simp)
            have hne : (own != co) = false := by simp [he]
            clear HSN HNO he
            go_wp2_with fail
            exact ⟨⟨j + 1, HJ.out, by rw [plus_num xj, HXJ.out], Lib.hid HT.out, HBr⟩, by rw [plus_num xj]; simp only [intOf, Int.toNat_natCast]; omega⟩
          · have HF := Lib.hid (HNO.out (beq_false_of_ne he))
            have hne : (own != co) = true := by simpa using he
            clear HSN HNO he
            go_wp2_with fail
            go_ret
            exact ⟨by rw [HF.out]; rfl, ext_of (HB.out.trans (HBr.out.mono HB.out.size))⟩
        · have HT := Lib.hid (show onlyI b st co m = true by
            rw [HO.out]
            unfold seg
            rw [show y + 1 = x + j by omega]
            exact HX.out)
          have hlt' : decide (((x + j : Nat) : Int) ≤ (y : Int)) = false := by simp; omega
          go_wp2_with fail
          go_ret
          exact ⟨by rw [HT.out]; rfl, ext_of (HB.out.trans (HBr.out.mono HB.out.size))⟩
end Go.Proofs.YteocjggepjpecaaGreatDoor

namespace Go.Proofs.YteocjggepjpecaaGreatDoor
open Go Go.RowKit

/-- Whether a run goes on at a minute. -/
def flagT (ok : Nat → Bool) : Nat → Bool
  | 0 => false
  | k + 1 => ok k
theorem flag_yes {ok : Nat → Bool} {k : Nat} (h : flagT ok k = true) : ∃ i x, runsTo ok k = i ++ [(x, (k : Int) - 1)] := by
  cases k with
  | zero => cases h
  | succ k =>
    have h' : ok k = true := h
    unfold runsTo
    rw [if_pos h']
    have e : ((k + 1 : Nat) : Int) - 1 = (k : Int) := by omega
    rw [e]
    rcases List.eq_nil_or_concat (runsTo ok k) with h2 | ⟨i, ⟨x, y⟩, h2⟩
    · rw [h2, addMin_nil]; exact ⟨[], k, rfl⟩
    · rw [h2, List.concat_eq_append]
      by_cases hy : y = (k : Int) - 1
      · rw [addMin_grow _ _ _ _ hy]; exact ⟨i, x, rfl⟩
      · rw [addMin_new _ _ _ _ hy]; exact ⟨i ++ [(x, y)], k, rfl⟩
theorem flag_no {ok : Nat → Bool} {k : Nat} (h : flagT ok k = false) : addMin (runsTo ok k) k = runsTo ok k ++ [((k : Int), (k : Int))] := by
  cases k with
  | zero => rfl
  | succ k =>
    have h' : ok k = false := h
    have hb := (runs_ok ok k).bd
    have e : runsTo ok (k + 1) = runsTo ok k := by rw [runsTo, h']; rfl
    rw [e]
    rcases List.eq_nil_or_concat (runsTo ok k) with h2 | ⟨i, ⟨x, y⟩, h2⟩
    · rw [h2]; rfl
    · rw [h2, List.concat_eq_append] at hb ⊢
      have := hb (x, y) (by simp)
      exact addMin_new _ _ _ _ (by dsimp only at this; omega)
theorem rsure_eq (h : Hd) (b : Bk) (hv : bookB b = true) (st : Nat) (co : Int) (m : Nat) (q : Bool) (w : World) (hm : m < 1440) (hq : onlyAt b st co m = q) (hb : BkAt w h b) (hso : st < b.os.length) :
    Calls Tryz.prog 47 #[.agg #[.int .i64 b.n, .slice h.pb b.bs.length h.cb, .slice h.po b.os.length h.co, .slice h.ps b.ss.length h.cs], .int .i64 st, .int .i64 co, .int .i64 m] w
      fun e w' => e = .returned (.bool q) ∧ ∃ x, w' = ext w x := by
  rw [← hq, ← only_same hv st co hm]
  exact rsure_any h b hv st co m w hb hso
theorem wrap_min (k : Nat) (h : k < 1440) : wrap64 ((k : Int) + 1) = ((k + 1 : Nat) : Int) := by unfold wrap64; omega
attribute [local go_sem] Oper.semAt_some frozen_alloc_lt
set_option maxRecDepth 100000 in
set_option maxHeartbeats 2000000 in
theorem rSure_yes (h : Hd) (b : Bk) (st : Nat) (co : Int) (w : World) (hb : BkAt w h b) (hv : bookB b = true) (hst : st < b.os.length) (hco : isN co b.n = true) :
    Calls Tryz.prog 14 #[.agg #[.int .i64 b.n, .slice h.pb b.bs.length h.cb, .slice h.po b.os.length h.co, .slice h.ps b.ss.length h.cs], .int .i64 st, .int .i64 co] w fun e w' => ∃ p c, e = .returned (.tuple #[.slice p (runsTo (onlyAt b st co) 1440).length c, .int .i64 0]) ∧ SpansAt w' p (runsTo (onlyAt b st co) 1440) ∧ ∃ x, w' = ext w x := by
  obtain ⟨h3, h1, h4, hn4, -⟩ := bookB_rows hv
  have hn1 : 1 ≤ b.n := by simp only [bookB, Bool.and_eq_true, decide_eq_true_eq] at hv; omega
  have HQ := Lib.hid (show shotQ (st : Int) b.os.length = true by rw [shotQ_eq (by omega)]; exact isN_yes (by omega))
  have HR := Lib.hid (show coQ co b.n = true by rw [coQ_eq hn1 (by omega)]; exact hco)
  have HC := Lib.hid (show askC b true = 0 by unfold askC; rw [hv]; rfl)
  have HB := Lib.hid hb
  clear hb hco h3 h1 h4 hn4 hn1
  go_enter Tryz.func14, Tryz.ntmps14
  go_upto_region 1 with fail
  refine wp_region_ext (by kernel_rfl) (by kernel_rfl) ?_
  repeat (go_big_quiet_step (fail))
  go_big_quiet_step ((go_at_call 40; exact quiet_ext (risStation_eq h b st _ _ HQ.out)))
  repeat (go_big_quiet_step (fail))
  go_big_quiet_step ((go_at_call 39; exact quiet_ext (risCompany_eq h b co _ _ HR.out)))
  repeat (go_big_quiet_step (fail))
  go_big_quiet_step ((go_at_call 31; exact quiet_ext (asked_eq h b true _ _ (HB.out.below (by (repeat (first | (with_reducible exact Below.refl _ _) | (with_reducible assumption) | ((with_reducible refine below_ext_trans ?_ ?_ _); rotate_left; focus (((try dsimp only); repeat (first | omega | simp only [World.size_alloc, World.size_setCell, World.size_drew] | (with_reducible refine le_ext_of ?_) | (with_reducible refine le_ext_add ?_))); done)) | ((with_reducible refine Below.alloc ?_ ?_ _); rotate_left; focus (((try dsimp only); repeat (first | omega | simp only [World.size_alloc, World.size_setCell, World.size_drew] | (with_reducible refine le_ext_of ?_) | (with_reducible refine le_ext_add ?_))); done)) | ((with_reducible refine Below.setCell ?_ ?_ _); rotate_left; focus (((try dsimp only); repeat (first | omega | simp only [World.size_alloc, World.size_setCell, World.size_drew] | (with_reducible refine le_ext_of ?_) | (with_reducible refine le_ext_add ?_))); done)) | (with_reducible refine Below.drew ?_))))) HC.out)))
  repeat (go_big_quiet_step (fail))
  refine wpQuiet_nil ?_
  rintro V ⟨x, hV⟩
  have hB : Below w.heap.size w V := by rw [hV]; (repeat (first | (with_reducible exact Below.refl _ _) | (with_reducible assumption) | ((with_reducible refine below_ext_trans ?_ ?_ _); rotate_left; focus (((try dsimp only); repeat (first | omega | simp only [World.size_alloc, World.size_setCell, World.size_drew] | (with_reducible refine le_ext_of ?_) | (with_reducible refine le_ext_add ?_))); done)) | ((with_reducible refine Below.alloc ?_ ?_ _); rotate_left; focus (((try dsimp only); repeat (first | omega | simp only [World.size_alloc, World.size_setCell, World.size_drew] | (with_reducible refine le_ext_of ?_) | (with_reducible refine le_ext_add ?_))); done)) | ((with_reducible refine Below.setCell ?_ ?_ _); rotate_left; focus (((try dsimp only); repeat (first | omega | simp only [World.size_alloc, World.size_setCell, World.size_drew] | (with_reducible refine le_ext_of ?_) | (with_reducible refine le_ext_add ?_))); done)) | (with_reducible refine Below.drew ?_)))
  have kb : Blk V w.heap.size 26 #[.int .i64 b.n, .slice h.pb b.bs.length h.cb, .slice h.po b.os.length h.co, .slice h.ps b.ss.length h.cs] := by rw [hV]; exact (Blk.new rfl).ext x
  have HBB := Lib.hid hB
  have KB := Lib.hid kb
  clear hV hB kb
  go_upto_region 6 with fail
  generalize hW : V.alloc _ = W
  have hBW : Below V.heap.size V W := by rw [← hW]; (repeat (first | (with_reducible exact Below.refl _ _) | (with_reducible assumption) | ((with_reducible refine below_ext_trans ?_ ?_ _); rotate_left; focus (((try dsimp only); repeat (first | omega | simp only [World.size_alloc, World.size_setCell, World.size_drew] | (with_reducible refine le_ext_of ?_) | (with_reducible refine le_ext_add ?_))); done)) | ((with_reducible refine Below.alloc ?_ ?_ _); rotate_left; focus (((try dsimp only); repeat (first | omega | simp only [World.size_alloc, World.size_setCell, World.size_drew] | (with_reducible refine le_ext_of ?_) | (with_reducible refine le_ext_add ?_))); done)) | ((with_reducible refine Below.setCell ?_ ?_ _); rotate_left; focus (((try dsimp only); repeat (first | omega | simp only [World.size_alloc, World.size_setCell, World.size_drew] | (with_reducible refine le_ext_of ?_) | (with_reducible refine le_ext_add ?_))); done)) | (with_reducible refine Below.drew ?_)))
  have HO0 := Lib.hid (show OwnSpans W V.heap.size (.slice (some ⟨V.heap.size, 0, none⟩) 0 0) [] by rw [← hW]; exact OwnSpans.of_blk (Blk.new rfl) rfl rfl (by simp))
  have HBW := Lib.hid hBW
  have HB2 := Lib.hid (HB.out.below HBB.out)
  have hz : w.heap.size < V.heap.size := KB.out.lt
  have hzW : V.heap.size ≤ W.heap.size := HBW.out.size
  clear hW hBW
  go_wp2_with fail
  go_loopw [9, 10, 11] (fun v r i wr => ∃ (k : Nat) (q : Bool), k ≤ 1440 ∧ i = .int .i64 k ∧ r = .bool q ∧ Hid (OwnSpans wr V.heap.size v (runsTo (onlyAt b st co) k)) ∧ Hid (flagT (onlyAt b st co) k = q) ∧ Hid (Below V.heap.size V wr)) (fun _ _ i _ => 1440 - (intOf i).toNat)
  case atStart => exact ⟨0, false, by omega, rfl, rfl, HO0, Lib.hid rfl, HBW⟩
  case round =>
    obtain ⟨k, q, hk, rfl, rfl, HO, HF, HBr⟩ := hrel
    obtain ⟨p, c, rfl, hS⟩ := HO.out.at
    have HS := Lib.hid hS
    clear hS
    have hzr : V.heap.size ≤ wr.heap.size := HBr.out.size
    by_cases hlt : k < 1440
    · have HKB := Lib.hid (KB.out.bel HBr.out)
      have hl1 := HKB.out.lt
      have d0 := HKB.out.cell 0
      have d1 := HKB.out.cell 1
      have d2 := HKB.out.cell 2
      have d3 := HKB.out.cell 3
      simp only [List.size_toArray, List.length_cons, List.length_nil, Nat.reduceAdd, Nat.reduceLT, getElem?_pos, List.getElem_toArray, List.getElem_cons_zero, List.getElem_cons_succ] at d0 d1 d2 d3
      have HB3 := Lib.hid (HB2.out.below HBr.out)
      have HWN := Lib.hid (wrap_min k hlt)
      have hk0 : decide ((k : Int) < 1440) = true := by simp only [decide_eq_true_eq]; omega
      obtain ⟨q2, hq2⟩ : ∃ q2, onlyAt b st co k = q2 := ⟨_, rfl⟩
      have HQ2 := Lib.hid hq2
      have HF2 := Lib.hid (show flagT (onlyAt b st co) (k + 1) = q2 from hq2)
      have HLEN := Lib.hid (runsTo_len (onlyAt b st co) k)
      clear hq2
      go_upto_region 10 with (go_at_call 47; refine (rsure_eq h b hv st co k q2 _ hlt HQ2.out (HB3.out.below (by (repeat (first | (with_reducible exact Below.refl _ _) | (with_reducible assumption) | ((with_reducible refine below_ext_trans ?_ ?_ _); rotate_left; focus (((try dsimp only); repeat (first | omega | simp only [World.size_alloc, World.size_setCell, World.size_drew] | (with_reducible refine le_ext_of ?_) | (with_reducible refine le_ext_add ?_))); done)) | ((with_reducible refine Below.alloc ?_ ?_ _); rotate_left; focus (((try dsimp only); repeat (first | omega | simp only [World.size_alloc, World.size_setCell, World.size_drew] | (with_reducible refine le_ext_of ?_) | (with_reducible refine le_ext_add ?_))); done)) | ((with_reducible refine Below.setCell ?_ ?_ _); rotate_left; focus (((try dsimp only); repeat (first | omega | simp only [World.size_alloc, World.size_setCell, World.size_drew] | (with_reducible refine le_ext_of ?_) | (with_reducible refine le_ext_add ?_))); done)) | (with_reducible refine Below.drew ?_))))) hst).mono ?_; rintro e w1 ⟨rfl, y, rfl⟩)
      generalize hY : ext wr y = Y
      have hBY : Below wr.heap.size wr Y := by rw [← hY]; (repeat (first | (with_reducible exact Below.refl _ _) | (with_reducible assumption) | ((with_reducible refine below_ext_trans ?_ ?_ _); rotate_left; focus (((try dsimp only); repeat (first | omega | simp only [World.size_alloc, World.size_setCell, World.size_drew] | (with_reducible refine le_ext_of ?_) | (with_reducible refine le_ext_add ?_))); done)) | ((with_reducible refine Below.alloc ?_ ?_ _); rotate_left; focus (((try dsimp only); repeat (first | omega | simp only [World.size_alloc, World.size_setCell, World.size_drew] | (with_reducible refine le_ext_of ?_) | (with_reducible refine le_ext_add ?_))); done)) | ((with_reducible refine Below.setCell ?_ ?_ _); rotate_left; focus (((try dsimp only); repeat (first | omega | simp only [World.size_alloc, World.size_setCell, World.size_drew] | (with_reducible refine le_ext_of ?_) | (with_reducible refine le_ext_add ?_))); done)) | (with_reducible refine Below.drew ?_)))
      have HO1 := Lib.hid (HO.out.below hBY)
      have HBY := Lib.hid (HBr.out.trans (hBY.mono hzr))
      have hzY : V.heap.size ≤ Y.heap.size := HBY.out.size
      clear hY hBY d0 d1 d2 d3 hl1 HKB HO
      cases q2
      · have hr0 : runsTo (onlyAt b st co) (k + 1) = runsTo (onlyAt b st co) k := by rw [runsTo, HQ2.out]; rfl
        have HO2 := Lib.hid (show OwnSpans Y V.heap.size (.slice p (runsTo (onlyAt b st co) k).length c) (runsTo (onlyAt b st co) (k + 1)) by rw [hr0]; exact HO1.out)
        clear hr0
        go_wp2_with fail
        try rw [HWN.out]
        exact ⟨⟨k + 1, false, by omega, rfl, rfl, HO2, HF2, HBY⟩, by simp [intOf]; omega⟩
      · have HU := Lib.hid (show runsTo (onlyAt b st co) (k + 1) = addMin (runsTo (onlyAt b st co) k) k by rw [runsTo, HQ2.out]; rfl)
        cases q
        · have HU2 := Lib.hid (show runsTo (onlyAt b st co) (k + 1) = runsTo (onlyAt b st co) k ++ [((k : Int), (k : Int))] by rw [HU.out]; exact flag_no HF.out)
          have HL : Hid ((runsTo (onlyAt b st co) k).length ≤ 1440) := Lib.hid (by have := HLEN.out; omega)
          generalize runsTo (onlyAt b st co) k = L at *
          go_wp2_with (first
            | (go_at_call 34; refine (Just_any _ _).mono ?_; rintro e w' ⟨rfl, y0, rfl⟩)
            | (at_builtin; refine wpList_append_span rfl _ _ rfl V.heap.size _ L rfl (HO1.out.below (by (repeat (first | (with_reducible exact Below.refl _ _) | (with_reducible assumption) | ((with_reducible refine below_ext_trans ?_ ?_ _); rotate_left; focus (((try dsimp only); repeat (first | omega | simp only [World.size_alloc, World.size_setCell, World.size_drew] | (with_reducible refine le_ext_of ?_) | (with_reducible refine le_ext_add ?_))); done)) | ((with_reducible refine Below.alloc ?_ ?_ _); rotate_left; focus (((try dsimp only); repeat (first | omega | simp only [World.size_alloc, World.size_setCell, World.size_drew] | (with_reducible refine le_ext_of ?_) | (with_reducible refine le_ext_add ?_))); done)) | ((with_reducible refine Below.setCell ?_ ?_ _); rotate_left; focus (((try dsimp only); repeat (first | omega | simp only [World.size_alloc, World.size_setCell, World.size_drew] | (with_reducible refine le_ext_of ?_) | (with_reducible refine le_ext_add ?_))); done)) | (with_reducible refine Below.drew ?_))))) (ext Y y0).heap.size (k : Int) (k : Int) rfl (by simp [go_sem]) (by simp [go_sem]) (by have := HL.out; omega) (by ((try dsimp only); repeat (first | omega | simp only [World.size_alloc, World.size_setCell, World.size_drew] | (with_reducible refine le_ext_of ?_) | (with_reducible refine le_ext_add ?_)))) ?_; intro v' w1 ho hg))
          have HO2 := Lib.hid (show OwnSpans w1 V.heap.size v' (runsTo (onlyAt b st co) (k + 1)) by rw [HU2.out]; exact ho)
          have HB5 := Lib.hid (show Below V.heap.size V w1 from HBY.out.trans (Below.grown (w := (ext Y y0).alloc _) (Below.mono (by (repeat (first | (with_reducible exact Below.refl _ _) | (with_reducible assumption) | ((with_reducible refine below_ext_trans ?_ ?_ _); rotate_left; focus (((try dsimp only); repeat (first | omega | simp only [World.size_alloc, World.size_setCell, World.size_drew] | (with_reducible refine le_ext_of ?_) | (with_reducible refine le_ext_add ?_))); done)) | ((with_reducible refine Below.alloc ?_ ?_ _); rotate_left; focus (((try dsimp only); repeat (first | omega | simp only [World.size_alloc, World.size_setCell, World.size_drew] | (with_reducible refine le_ext_of ?_) | (with_reducible refine le_ext_add ?_))); done)) | ((with_reducible refine Below.setCell ?_ ?_ _); rotate_left; focus (((try dsimp only); repeat (first | omega | simp only [World.size_alloc, World.size_setCell, World.size_drew] | (with_reducible refine le_ext_of ?_) | (with_reducible refine le_ext_add ?_))); done)) | (with_reducible refine Below.drew ?_)))) hzY) hg (by ((try dsimp only); repeat (first | omega | simp only [World.size_alloc, World.size_setCell, World.size_drew] | (with_reducible refine le_ext_of ?_) | (with_reducible refine le_ext_add ?_)))) (fun j hj => (HO1.out.lt j hj).1)))
          clear ho hg
          go_wp2_with fail
          try rw [HWN.out]
          exact ⟨⟨k + 1, true, by omega, rfl, rfl, HO2, HF2, HB5⟩, by simp [intOf]; omega⟩
        · obtain ⟨i, x, hix⟩ := flag_yes HF.out
          rw [hix] at HO1 ⊢
          obtain ⟨g, rfl⟩ := HO1.out.some_of
          obtain ⟨hc, hf⟩ := HO1.out.lastCell
          have hgl := HO1.out.lt g rfl
          have HO2 := Lib.hid (show OwnSpans (Y.setCell ⟨g, i.length * 2 + 1, none⟩ (.int .i64 k)) V.heap.size (.slice (some ⟨g, 0, none⟩) (i ++ [(x, (k : Int) - 1)]).length c) (runsTo (onlyAt b st co) (k + 1)) by
            rw [HU.out, hix, addMin_grow _ _ _ _ rfl]; exact HO1.out.setLast k)
          have HB5 := Lib.hid (show Below V.heap.size V (Y.setCell ⟨g, i.length * 2 + 1, none⟩ (.int .i64 k)) from HBY.out.setCell (by simpa using hgl.1) _)
          have hli : (i ++ [(x, (k : Int) - 1)]).length = i.length + 1 := by simp
          have hile : i.length + 1 ≤ 1440 := by have := HLEN.out; rw [hix, hli] at this; omega
          rw [hli] at HO2 ⊢
          generalize i.length = j at *
          have hnj : ((j + 1 : Nat) : Int) - 1 = (j : Int) := by omega
          have hjn : (j : Int) < ((j + 1 : Nat) : Int) := by omega
          have hj0 : (0 : Int) ≤ (j : Int) := by omega
          have hwj : wrap64 (j : Int) = (j : Int) := by unfold wrap64; omega
          have hgl2 := hgl.2
          clear HO1 hix hli hile
          generalize j + 1 = n at *
          go_wp2_with fail
          try rw [HWN.out]
          exact ⟨⟨k + 1, true, by omega, rfl, rfl, HO2, HF2, HB5⟩, by simp [intOf]; omega⟩
    · obtain rfl : k = 1440 := by omega
      have HEND := Lib.hid (show Below w.heap.size w wr from HBB.out.trans (HBr.out.mono HBB.out.size))
      go_wp2_with fail
      go_ret2
      exact ⟨p, c, rfl, HS.out, ext_of HEND.out⟩
end Go.Proofs.YteocjggepjpecaaGreatDoor

