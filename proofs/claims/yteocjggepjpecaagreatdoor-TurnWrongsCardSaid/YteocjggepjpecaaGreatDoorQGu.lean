/- Contract of the reference's can: can all shots but those of a set be fair together? -/
/- Contract of the reference's Wrong. -/
import Derived.Test.YteocjggepjpecaaGreatDoorQGe
import Derived.Test.YteocjggepjpecaaGreatDoorQCa
import Derived.Test.YteocjggepjpecaaGreatDoorQGl
import Derived.Test.YteocjggepjpecaaGreatDoorQAa
set_option linter.unusedSimpArgs false
set_option linter.unusedVariables false
namespace Go.Proofs.YteocjggepjpecaaGreatDoor
open Go Go.RowKit

attribute [local go_sem] Oper.semAt_some frozen_alloc_lt
set_option maxRecDepth 100000 in
set_option maxHeartbeats 2000000 in
theorem rcan_any (h : Hd) (b : Bk) (hv : bookB b = true) (s : Nat) (w : World) (hb : BkAt w h b) (hs32 : s < 32) :
    Calls Tryz.prog 61 #[.agg #[.int .i64 b.n, .slice h.pb b.bs.length h.cb, .slice h.po b.os.length h.co, .slice h.ps b.ss.length h.cs], .int .i64 s] w
      fun e w' => e = .returned (.bool (canB b s)) ∧ ∃ x, w' = ext w x := by
  obtain ⟨pb, cb, po, co', ps, cs⟩ := h
  dsimp only
  have hlen := goOn_len hv 0 []
  rw [goOn_all] at hlen
  have h5 := bookB_ss hv
  have HLEN := Lib.hid hlen
  have HBK := Lib.hid hb
  clear hb hlen
  go_enter Tryz.func61, Tryz.ntmps61
  go_upto_region 2 with (go_at_call 33; refine (truths_r ⟨pb, cb, po, co', ps, cs⟩ b hv b.bs.length 0 [] (w.heap.size + 1) 0 _ rfl (by omega) (HBK.out.bs.below (by (repeat (first | (with_reducible exact Below.refl _ _) | (with_reducible assumption) | ((with_reducible refine below_ext_trans ?_ ?_ _); rotate_left; focus (((try dsimp only); repeat (first | omega | simp only [World.size_alloc, World.size_setCell, World.size_drew] | (with_reducible refine le_ext_of ?_) | (with_reducible refine le_ext_add ?_))); done)) | ((with_reducible refine Below.alloc ?_ ?_ _); rotate_left; focus (((try dsimp only); repeat (first | omega | simp only [World.size_alloc, World.size_setCell, World.size_drew] | (with_reducible refine le_ext_of ?_) | (with_reducible refine le_ext_add ?_))); done)) | ((with_reducible refine Below.setCell ?_ ?_ _); rotate_left; focus (((try dsimp only); repeat (first | omega | simp only [World.size_alloc, World.size_setCell, World.size_drew] | (with_reducible refine le_ext_of ?_) | (with_reducible refine le_ext_add ?_))); done)) | (with_reducible refine Below.drew ?_))))) (fun i x hx => by simp at hx) ⟨#[], Blk.new (by simp)⟩).mono ?_; rintro e w1 ⟨gL, cL, rfl, hL, y, rfl⟩)
  generalize hW : ext _ y = W at *
  have hB : Below w.heap.size w W := by rw [← hW]; (repeat (first | (with_reducible exact Below.refl _ _) | (with_reducible assumption) | ((with_reducible refine below_ext_trans ?_ ?_ _); rotate_left; focus (((try dsimp only); repeat (first | omega | simp only [World.size_alloc, World.size_setCell, World.size_drew] | (with_reducible refine le_ext_of ?_) | (with_reducible refine le_ext_add ?_))); done)) | ((with_reducible refine Below.alloc ?_ ?_ _); rotate_left; focus (((try dsimp only); repeat (first | omega | simp only [World.size_alloc, World.size_setCell, World.size_drew] | (with_reducible refine le_ext_of ?_) | (with_reducible refine le_ext_add ?_))); done)) | ((with_reducible refine Below.setCell ?_ ?_ _); rotate_left; focus (((try dsimp only); repeat (first | omega | simp only [World.size_alloc, World.size_setCell, World.size_drew] | (with_reducible refine le_ext_of ?_) | (with_reducible refine le_ext_add ?_))); done)) | (with_reducible refine Below.drew ?_)))
  have kb : Blk W w.heap.size 26 #[.int .i64 b.n, .slice pb b.bs.length cb, .slice po b.os.length co', .slice ps b.ss.length cs] := by rw [← hW]; exact ((Blk.new rfl).alloc _).ext y
  rw [goOn_all] at hL ⊢
  have HB := Lib.hid hB
  have HKB := Lib.hid kb
  have HL := Lib.hid hL
  have HBW := Lib.hid (HBK.out.below hB)
  clear hW hB kb hL
  generalize hN : (allT b).length = N at *
  have HN := Lib.hid hN
  clear hN
  go_upto_region 3 with fail
  go_loopw [6] (fun i wr => ∃ r : Nat, r ≤ N ∧ i = .int .i64 r ∧ Hid (((allT b).take r).any (goodB b s) = false) ∧ Hid (Below W.heap.size W wr)) (fun i _ => N - (intOf i).toNat)
  case atStart => exact ⟨0, by omega, rfl, Lib.hid rfl, Lib.hid (Below.refl _ _)⟩
  case round =>
    obtain ⟨r, hr, rfl, HX, HBr⟩ := hrel
    by_cases hlt : r < N
    · obtain ⟨v, hv'⟩ := get_some (allT b) r (by have := HN.out; omega)
      have hvl := allT_len (List.mem_of_getElem? hv')
      obtain ⟨hgl, q, c, hq, htq, hIq⟩ := (HL.out.below HBr.out).get hv'
      have HTK := Lib.hid (show (allT b).take (r + 1) = (allT b).take r ++ [v] by rw [List.take_add_one, hv']; rfl)
      have HPRE := Lib.hid (show (allT b).take r ++ [v] <+: allT b by rw [← HTK.out]; exact List.take_prefix _ _)
      have HQ := Lib.hid hIq
      have HVL := Lib.hid hvl
      have HK2 := Lib.hid (HKB.out.bel HBr.out)
      have HBW2 := Lib.hid (HBW.out.below HBr.out)
      have HQ2 := Lib.hid hq
      have r0 : (0 : Int) ≤ (r : Int) := by omega
      have r1 : (r : Int) < (N : Int) := by omega
      have HR1 := Lib.hid (show r + 1 ≤ N from hlt)
      clear hvl hv' hIq htq hlt hq
      generalize hvn : v.length = n at *
      have HVN := Lib.hid hvn
      clear hvn
      go_upto_region 7 with fail
      generalize wr = w5 at *
      go_loopw [7, 8] (fun al i wt => ∃ (k : Nat) (x : Bool), k ≤ b.ss.length ∧ i = .int .i64 k ∧ al = .bool x ∧ Hid (goodTo b v s k = x) ∧ Hid (Below w5.heap.size w5 wt)) (fun _ i _ => b.ss.length - (intOf i).toNat)
      case atStart => exact ⟨0, true, by omega, rfl, rfl, Lib.hid rfl, Lib.hid (Below.refl _ _)⟩
      case round =>
        obtain ⟨k, x, hk, rfl, rfl, HG, HBt⟩ := hrel
        have HK3 := Lib.hid (HK2.out.bel HBt.out)
        have d3 := HK3.out.cell 3
        simp only [List.size_toArray, List.length_cons, List.length_nil, Nat.reduceAdd, Nat.reduceLT, getElem?_pos, List.getElem_toArray, List.getElem_cons_zero, List.getElem_cons_succ] at d3
        have hl1 : w.heap.size < wr.heap.size := HK3.out.lt
        by_cases hks : k < b.ss.length
        · obtain ⟨⟨st', co, lo, hi⟩, hsk⟩ := get_some b.ss k hks
          obtain ⟨hst, -, hm⟩ := bookB_shot hv hsk
          dsimp only at hst hm
          obtain ⟨m0, m1, m2, m3, m4, m5⟩ := hm
          obtain ⟨st, rfl⟩ := Int.eq_ofNat_of_zero_le hst.1
          have hso : st < b.os.length := by omega
          have hss := (HBW2.out.below HBt.out).ss
          obtain ⟨bb, o, hps, hbb, c1, c2, c3, c4⟩ := hss k _ hsk
          dsimp only at c1 c2 c3 c4
          dsimp only at hps
          subst hps
          have HSOME := Lib.hid (show someB b v k = (mins lo hi).any fun m => ownf b.os st (cnt v m) == co by unfold someB; rw [hsk]; rfl)
          have HGS := Lib.hid (goodTo_snoc b v s k)
          have k0 : (0 : Int) ≤ (k : Int) := by omega
          have k1 : (k : Int) < (b.ss.length : Int) := by omega
          have hWN : wrap64 ((k : Int) + 1) = ((k + 1 : Nat) : Int) := wrap_num k (by omega)
          have HWN := Lib.hid hWN
          have HC := Lib.hid (And.intro hbb (And.intro c1 (And.intro c2 (And.intro c3 c4))))
          have HHI := Lib.hid (show hi ≤ 1439 by omega)
          clear hss hsk hWN hst c1 c2 c4
          obtain ⟨tb, htb⟩ : ∃ tb, s.testBit k = tb := ⟨_, rfl⟩
          rw [htb] at HGS
          have HTB := Lib.hid htb
          clear htb
          go_upto_region 11 with (go_at_call 76; refine (Bit_eq s k tb _ hs32 (by omega) HTB.out).mono ?_; rintro e w1 ⟨rfl, rfl⟩)
          clear d3 c3 hl1 hbb
          generalize wr = w6 at *
          go_loopw [9, 10] (fun sm i wu => ∃ (j : Nat) (y : Bool), (j : Int) ≤ hi - lo + 1 ∧ i = .int .i64 (lo + j) ∧ sm = .bool y ∧ Hid (y = (tb || (mupto lo j).any fun m => ownf b.os st (cnt v m) == co)) ∧ Hid (Below w6.heap.size w6 wu)) (fun _ i _ => (hi + 1 - intOf i).toNat)
          case atStart => exact ⟨0, tb, by omega, by simp, rfl, Lib.hid (by simp [mupto]), Lib.hid (Below.refl _ _)⟩
          case round =>
            obtain ⟨j, y', hj, rfl, rfl, HY, HBu⟩ := hrel
            have HK4 := Lib.hid (HK3.out.bel HBu.out)
            have d0 := HK4.out.cell 0
            have d1 := HK4.out.cell 1
            have d2 := HK4.out.cell 2
            have d3 := HK4.out.cell 3
            simp only [List.size_toArray, List.length_cons, List.length_nil, Nat.reduceAdd, Nat.reduceLT, getElem?_pos, List.getElem_toArray, List.getElem_cons_zero, List.getElem_cons_succ] at d0 d1 d2 d3
            have hl1 : w.heap.size < wr.heap.size := HK4.out.lt
            have hbb := Nat.lt_of_lt_of_le HC.out.1 HBu.out.size
            have c1 := (HBu.out.cell (p := ⟨bb, o + k * 4, none⟩) HC.out.1).trans HC.out.2.1
            have c2 := (HBu.out.cell (p := ⟨bb, o + k * 4 + 1, none⟩) HC.out.1).trans HC.out.2.2.1
            have c3 := (HBu.out.cell (p := ⟨bb, o + k * 4 + 2, none⟩) HC.out.1).trans HC.out.2.2.2.1
            have c4 := (HBu.out.cell (p := ⟨bb, o + k * 4 + 3, none⟩) HC.out.1).trans HC.out.2.2.2.2
            have HBUT := Lib.hid (HBt.out.trans (HBu.out.mono HBt.out.size))
            have hq' := (HBUT.out.cell (p := ⟨gL, r, none⟩) hgl).trans HQ2.out
            have hgl' : gL < wr.heap.size := Nat.lt_of_lt_of_le hgl HBUT.out.size
            by_cases hle : lo + (j : Int) ≤ hi
            · have HMS := Lib.hid (show mupto lo (j + 1) = mupto lo j ++ [lo + (j : Int)] from (mupto_snoc lo j).symm)
              have HW2 := Lib.hid (wrap_mid (l := lo) (j := j) rfl m0 (by omega))
              have HJ2 := Lib.hid (show ((j + 1 : Nat) : Int) ≤ hi - lo + 1 by omega)
              have HJ3 := Lib.hid hle
              have HA2 := Lib.hid (show lo + (j : Int) + 1 = lo + ((j + 1 : Nat) : Int) by omega)
              cases y'
              · obtain ⟨res, hres⟩ : ∃ res, (ownf b.os st (cnt v (lo + (j : Int))) == co) = res := ⟨_, rfl⟩
                have HRES := Lib.hid hres
                have HN2 := Lib.hid (show res = (tb || (mupto lo (j + 1)).any fun m => ownf b.os st (cnt v m) == co) by
                  rw [HMS.out, List.any_append, ← Bool.or_assoc, ← HY.out]
                  simp only [List.any_cons, List.any_nil, Bool.or_false, Bool.false_or, hres])
                have HBB := Lib.hid (HBW2.out.below HBUT.out)
                have HQ3 := Lib.hid (HQ.out.below HBUT.out)
                clear hres
                go_upto_region 13 with fail
                refine wp_region_ext (by kernel_rfl) (by kernel_rfl) ?_
                repeat (go_big_quiet_step (fail))
                go_big_quiet_step ((go_at_call 82; exact quiet_ext (right_eq ⟨pb, cb, po, co', some ⟨bb, o, none⟩, cs⟩ b hv co lo hi st q c n v (lo + (j : Int)) res _ HRES.out (HBB.out.below (below_ext _ _)) hso (HQ3.out.below (below_ext _ _)) HVN.out HVL.out)))
                repeat (go_big_quiet_step (fail))
                refine wpQuiet_nil ?_
                rintro wz ⟨z, hz⟩
                have HBZ := Lib.hid (show Below w6.heap.size w6 wz from HBu.out.trans (Below.mono (by rw [hz]; (repeat (first | (with_reducible exact Below.refl _ _) | (with_reducible assumption) | ((with_reducible refine below_ext_trans ?_ ?_ _); rotate_left; focus (((try dsimp only); repeat (first | omega | simp only [World.size_alloc, World.size_setCell, World.size_drew] | (with_reducible refine le_ext_of ?_) | (with_reducible refine le_ext_add ?_))); done)) | ((with_reducible refine Below.alloc ?_ ?_ _); rotate_left; focus (((try dsimp only); repeat (first | omega | simp only [World.size_alloc, World.size_setCell, World.size_drew] | (with_reducible refine le_ext_of ?_) | (with_reducible refine le_ext_add ?_))); done)) | ((with_reducible refine Below.setCell ?_ ?_ _); rotate_left; focus (((try dsimp only); repeat (first | omega | simp only [World.size_alloc, World.size_setCell, World.size_drew] | (with_reducible refine le_ext_of ?_) | (with_reducible refine le_ext_add ?_))); done)) | (with_reducible refine Below.drew ?_)))) HBu.out.size))
                clear hz d0 d1 d2 d3 c1 c2 c3 c4 hq'
                go_wp2_with fail
                rw [HA2.out]
                exact ⟨⟨j + 1, res, HJ2.out, rfl, rfl, HN2, HBZ⟩, less_mid HJ3.out⟩
              · have HN2 := Lib.hid (show true = (tb || (mupto lo (j + 1)).any fun m => ownf b.os st (cnt v m) == co) by
                  rw [HMS.out, List.any_append, ← Bool.or_assoc, ← HY.out]; rfl)
                go_upto_region 13 with fail
                refine wp_region_ext (by kernel_rfl) (by kernel_rfl) ?_
                repeat (go_big_quiet_step (fail))
                refine wpQuiet_nil ?_
                rintro wz ⟨z, hz⟩
                have HBZ := Lib.hid (show Below w6.heap.size w6 wz from HBu.out.trans (Below.mono (by rw [hz]; (repeat (first | (with_reducible exact Below.refl _ _) | (with_reducible assumption) | ((with_reducible refine below_ext_trans ?_ ?_ _); rotate_left; focus (((try dsimp only); repeat (first | omega | simp only [World.size_alloc, World.size_setCell, World.size_drew] | (with_reducible refine le_ext_of ?_) | (with_reducible refine le_ext_add ?_))); done)) | ((with_reducible refine Below.alloc ?_ ?_ _); rotate_left; focus (((try dsimp only); repeat (first | omega | simp only [World.size_alloc, World.size_setCell, World.size_drew] | (with_reducible refine le_ext_of ?_) | (with_reducible refine le_ext_add ?_))); done)) | ((with_reducible refine Below.setCell ?_ ?_ _); rotate_left; focus (((try dsimp only); repeat (first | omega | simp only [World.size_alloc, World.size_setCell, World.size_drew] | (with_reducible refine le_ext_of ?_) | (with_reducible refine le_ext_add ?_))); done)) | (with_reducible refine Below.drew ?_)))) HBu.out.size))
                clear hz d0 d1 d2 d3 c1 c2 c3 c4 hq'
                go_wp2_with fail
                rw [HA2.out]
                exact ⟨⟨j + 1, true, HJ2.out, rfl, rfl, HN2, HBZ⟩, less_mid HJ3.out⟩
            · have hjm : (hi - lo + 1).toNat = j := by omega
              have HG2 := Lib.hid (show goodTo b v s (k + 1) = (x && y') by
                rw [HGS.out, HG.out, HSOME.out]; unfold mins; rw [hjm, ← HY.out])
              have hk1 : k + 1 ≤ b.ss.length := by omega
              clear d0 d1 d2 c1 c2 c3 hq'
              cases x <;> cases y' <;> (
                go_wp2_with fail
                try rw [HWN.out]
                exact ⟨⟨k + 1, _, hk1, rfl, rfl, HG2, HBUT⟩, less_num _ k hk1⟩)
        · obtain rfl : k = b.ss.length := by omega
          have HG2 := Lib.hid (show goodB b s v = x from HG.out)
          have HBF := Lib.hid (HBr.out.trans (HBt.out.mono HBr.out.size))
          have HWN := Lib.hid (wrap_num r (by have := HLEN.out; have := HR1.out; omega))
          cases x
          · have HN1 := Lib.hid (show ((allT b).take (r + 1)).any (goodB b s) = false by rw [HTK.out]; exact any_no HX.out HG2.out)
            go_wp2_with fail
            try rw [HWN.out]
            exact ⟨⟨r + 1, HR1.out, rfl, HN1, HBF⟩, less_num N r HR1.out⟩
          · have HY1 := Lib.hid (show canB b s = true from any_yes HPRE.out HG2.out)
            go_wp2_with fail
            go_ret
            exact ⟨by rw [HY1.out]; rfl, ext_of (HB.out.trans (HBF.out.mono HB.out.size))⟩
    · obtain rfl : r = N := by omega
      have HF := Lib.hid (show canB b s = false by
        have h1 := HX.out
        rw [List.take_of_length_le (by rw [HN.out]; exact Nat.le_refl _)] at h1
        exact h1)
      go_wp2_with fail
      go_ret
      exact ⟨by rw [HF.out]; rfl, ext_of (HB.out.trans (HBr.out.mono HB.out.size))⟩
end Go.Proofs.YteocjggepjpecaaGreatDoor

namespace Go.Proofs.YteocjggepjpecaaGreatDoor
open Go Go.RowKit

attribute [local go_sem] Oper.semAt_some frozen_alloc_lt
set_option maxHeartbeats 1000000 in
theorem rWrong_bad (h : Hd) (b : Bk) (w : World) (hb : BkAt w h b) (hv : bookB b = false) :
    Calls Tryz.prog 24 #[.agg #[.int .i64 b.n, .slice h.pb b.bs.length h.cb, .slice h.po b.os.length h.co, .slice h.ps b.ss.length h.cs]] w fun e w' => e = .returned (.tuple #[.slice none 0 0, .int .i64 20]) ∧ ∃ x, w' = ext w x := by
  have HB := Lib.hid hb
  have HV := Lib.hid (show (if bookB b then (0 : Int) else 20) = 20 by rw [hv]; rfl)
  clear hb
  go_enter Tryz.func24, Tryz.ntmps24
  go_wp2_with (go_at_call 9; refine (Check_eq h b 20 _ (HB.out.below (by (repeat (first | (with_reducible exact Below.refl _ _) | (with_reducible assumption) | ((with_reducible refine below_ext_trans ?_ ?_ _); rotate_left; focus (((try dsimp only); repeat (first | omega | simp only [World.size_alloc, World.size_setCell, World.size_drew] | (with_reducible refine le_ext_of ?_) | (with_reducible refine le_ext_add ?_))); done)) | ((with_reducible refine Below.alloc ?_ ?_ _); rotate_left; focus (((try dsimp only); repeat (first | omega | simp only [World.size_alloc, World.size_setCell, World.size_drew] | (with_reducible refine le_ext_of ?_) | (with_reducible refine le_ext_add ?_))); done)) | ((with_reducible refine Below.setCell ?_ ?_ _); rotate_left; focus (((try dsimp only); repeat (first | omega | simp only [World.size_alloc, World.size_setCell, World.size_drew] | (with_reducible refine le_ext_of ?_) | (with_reducible refine le_ext_add ?_))); done)) | (with_reducible refine Below.drew ?_))))) HV.out).mono ?_; rintro e w1 ⟨rfl, y, rfl⟩)
  go_ret2
  exact ⟨rfl, by (exact ext_of (by (repeat (first | (with_reducible exact Below.refl _ _) | (with_reducible assumption) | ((with_reducible refine below_ext_trans ?_ ?_ _); rotate_left; focus (((try dsimp only); repeat (first | omega | simp only [World.size_alloc, World.size_setCell, World.size_drew] | (with_reducible refine le_ext_of ?_) | (with_reducible refine le_ext_add ?_))); done)) | ((with_reducible refine Below.alloc ?_ ?_ _); rotate_left; focus (((try dsimp only); repeat (first | omega | simp only [World.size_alloc, World.size_setCell, World.size_drew] | (with_reducible refine le_ext_of ?_) | (with_reducible refine le_ext_add ?_))); done)) | ((with_reducible refine Below.setCell ?_ ?_ _); rotate_left; focus (((try dsimp only); repeat (first | omega | simp only [World.size_alloc, World.size_setCell, World.size_drew] | (with_reducible refine le_ext_of ?_) | (with_reducible refine le_ext_add ?_))); done)) | (with_reducible refine Below.drew ?_)))))⟩
theorem rcan_eq (h : Hd) (b : Bk) (hv : bookB b = true) (s : Nat) (q : Bool) (w : World) (hb : BkAt w h b) (hs32 : s < 32) (hq : canB b s = q) :
    Calls Tryz.prog 61 #[.agg #[.int .i64 b.n, .slice h.pb b.bs.length h.cb, .slice h.po b.os.length h.co, .slice h.ps b.ss.length h.cs], .int .i64 s] w
      fun e w' => e = .returned (.bool q) ∧ ∃ x, w' = ext w x := by
  subst hq; exact rcan_any h b hv s w hb hs32
theorem Fewer_q (p q : Option Addr) (c d : Nat) (l m : List Int) (n k : Nat) (r : Bool) (w : World) (hl : IntsAt w p l) (hm : IntsAt w q m) (hb : (n : Int) ≤ 1000) (e1 : l.length = n) (e2 : m.length = k) (hr : fewerB l m = r) :
    Calls Tryz.prog 60 #[.slice p n c, .slice q k d] w fun e w' => e = .returned (.bool r) ∧ ∃ x, w' = ext w x := by
  subst hr; exact Fewer_eq p q c d l m n k w hl hm hb e1 e2
theorem Bits_n (s m n : Nat) (L : List Int) (w : World) (hs : s < 32) (hm : m ≤ 5) (hL : bitsL s m = L) (hn : L.length = n) : Calls Tryz.prog 43 #[.int .i64 s, .int .i64 m] w fun e w' => ∃ p c, e = .returned (.slice p n c) ∧ IntsAt w' p L ∧ ∃ x, w' = ext w x := by
  subst hn hL; exact Bits_eq s m w hs hm
theorem wfold_len (b : Bk) (m S : Nat) : (wfold b m S).length ≤ m := by
  induction S with
  | zero => exact bitsL_le _ _
  | succ S ih => rw [wfold_snoc]; unfold wstep; split; exact bitsL_le _ _; exact ih
set_option maxRecDepth 100000 in
set_option maxHeartbeats 2000000 in
theorem rWrong_yes (h : Hd) (b : Bk) (w : World) (hb : BkAt w h b) (hv : bookB b = true) :
    Calls Tryz.prog 24 #[.agg #[.int .i64 b.n, .slice h.pb b.bs.length h.cb, .slice h.po b.os.length h.co, .slice h.ps b.ss.length h.cs]] w fun e w' => ∃ p c, e = .returned (.tuple #[.slice p (wrongL b).length c, .int .i64 0]) ∧ IntsAt w' p (wrongL b) ∧ ∃ x, w' = ext w x := by
  have h5 := bookB_ss hv
  have HB := Lib.hid hb
  have HV := Lib.hid (show (if bookB b then (0 : Int) else 20) = 0 by rw [hv]; rfl)
  have HALL := Lib.hid (wfold_all hv)
  have HINI := Lib.hid (show bitsL (2 ^ b.ss.length - 1) b.ss.length = wfold b b.ss.length 0 by simp [wfold])
  have HLEN := Lib.hid (wfold_len b b.ss.length)
  clear hb
  have m0 : (0 : Int) ≤ (b.ss.length : Int) := by omega
  have m1 : (b.ss.length : Int) < 64 := by omega
  have hp1 := Nat.two_pow_pos b.ss.length
  have hp2 : (2 ^ b.ss.length : Nat) ≤ 32 := by have := Nat.pow_le_pow_right (show 0 < 2 by omega) h5; omega
  have hc0 : ((2 : Int) ^ b.ss.length) = ((2 ^ b.ss.length : Nat) : Int) := by simp
  have HALL := Lib.hid (show wfold b b.ss.length (2 ^ b.ss.length) = wrongL b from HALL.out)
  obtain ⟨P, hP⟩ : ∃ P, 2 ^ b.ss.length = P := ⟨_, rfl⟩
  rw [hP] at HALL HINI hp1 hp2 hc0
  have hw1 : wrap64 ((2 : Int) ^ b.ss.length) = (P : Int) := by rw [hc0]; unfold wrap64; omega
  have HW1 := Lib.hid hw1
  have HW2 := Lib.hid (show wrap64 ((P : Int) - 1) = ((P - 1 : Nat) : Int) by unfold wrap64; omega)
  have HP1 := Lib.hid (show (P : Int) - 1 = ((P - 1 : Nat) : Int) by omega)
  clear hc0 hP
  go_enter Tryz.func24, Tryz.ntmps24
  go_upto_region 5 with (go_at_call 9; refine (Check_eq h b 0 _ (HB.out.below (by (repeat (first | (with_reducible exact Below.refl _ _) | (with_reducible assumption) | ((with_reducible refine below_ext_trans ?_ ?_ _); rotate_left; focus (((try dsimp only); repeat (first | omega | simp only [World.size_alloc, World.size_setCell, World.size_drew] | (with_reducible refine le_ext_of ?_) | (with_reducible refine le_ext_add ?_))); done)) | ((with_reducible refine Below.alloc ?_ ?_ _); rotate_left; focus (((try dsimp only); repeat (first | omega | simp only [World.size_alloc, World.size_setCell, World.size_drew] | (with_reducible refine le_ext_of ?_) | (with_reducible refine le_ext_add ?_))); done)) | ((with_reducible refine Below.setCell ?_ ?_ _); rotate_left; focus (((try dsimp only); repeat (first | omega | simp only [World.size_alloc, World.size_setCell, World.size_drew] | (with_reducible refine le_ext_of ?_) | (with_reducible refine le_ext_add ?_))); done)) | (with_reducible refine Below.drew ?_))))) HV.out).mono ?_; rintro e w1 ⟨rfl, y, rfl⟩)
  generalize hV : ext _ y = V
  have hB : Below w.heap.size w V := by rw [← hV]; (repeat (first | (with_reducible exact Below.refl _ _) | (with_reducible assumption) | ((with_reducible refine below_ext_trans ?_ ?_ _); rotate_left; focus (((try dsimp only); repeat (first | omega | simp only [World.size_alloc, World.size_setCell, World.size_drew] | (with_reducible refine le_ext_of ?_) | (with_reducible refine le_ext_add ?_))); done)) | ((with_reducible refine Below.alloc ?_ ?_ _); rotate_left; focus (((try dsimp only); repeat (first | omega | simp only [World.size_alloc, World.size_setCell, World.size_drew] | (with_reducible refine le_ext_of ?_) | (with_reducible refine le_ext_add ?_))); done)) | ((with_reducible refine Below.setCell ?_ ?_ _); rotate_left; focus (((try dsimp only); repeat (first | omega | simp only [World.size_alloc, World.size_setCell, World.size_drew] | (with_reducible refine le_ext_of ?_) | (with_reducible refine le_ext_add ?_))); done)) | (with_reducible refine Below.drew ?_)))
  have kb : Blk V w.heap.size 26 #[.int .i64 b.n, .slice h.pb b.bs.length h.cb, .slice h.po b.os.length h.co, .slice h.ps b.ss.length h.cs] := by rw [← hV]; exact (Blk.new rfl).ext y
  have HBV := Lib.hid (HB.out.below hB)
  have HVB := Lib.hid hB
  have KB := Lib.hid kb
  clear hV hB kb HB
  go_upto_region 6 with (go_at_call 43; (try rw [HW1.out]); (first | rw [HW2.out] | rw [HP1.out]); refine (Bits_n (P - 1) b.ss.length _ (wfold b b.ss.length 0) _ (by omega) h5 HINI.out rfl).mono ?_; rintro e w1 ⟨p0, c0, rfl, hI0, y1, rfl⟩; have HI0 := Lib.hid hI0; clear hI0)
  generalize hW : ext V y1 = W at *
  have hBW : Below V.heap.size V W := by rw [← hW]; (repeat (first | (with_reducible exact Below.refl _ _) | (with_reducible assumption) | ((with_reducible refine below_ext_trans ?_ ?_ _); rotate_left; focus (((try dsimp only); repeat (first | omega | simp only [World.size_alloc, World.size_setCell, World.size_drew] | (with_reducible refine le_ext_of ?_) | (with_reducible refine le_ext_add ?_))); done)) | ((with_reducible refine Below.alloc ?_ ?_ _); rotate_left; focus (((try dsimp only); repeat (first | omega | simp only [World.size_alloc, World.size_setCell, World.size_drew] | (with_reducible refine le_ext_of ?_) | (with_reducible refine le_ext_add ?_))); done)) | ((with_reducible refine Below.setCell ?_ ?_ _); rotate_left; focus (((try dsimp only); repeat (first | omega | simp only [World.size_alloc, World.size_setCell, World.size_drew] | (with_reducible refine le_ext_of ?_) | (with_reducible refine le_ext_add ?_))); done)) | (with_reducible refine Below.drew ?_)))
  have HBW := Lib.hid (HBV.out.below hBW)
  have HWB := Lib.hid (HVB.out.trans (hBW.mono HVB.out.size))
  have KW := Lib.hid (KB.out.bel hBW)
  clear hW hBW HBV HVB KB
  go_wp2_with fail
  go_loopw [6, 7] (fun v i wr => ∃ (s n c : Nat) (p : Option Addr), s ≤ P ∧ i = .int .i64 s ∧ v = .slice p n c ∧ Hid ((wfold b b.ss.length s).length = n) ∧ Hid (IntsAt wr p (wfold b b.ss.length s)) ∧ Hid (Below W.heap.size W wr)) (fun _ i _ => P - (intOf i).toNat)
  case atStart => exact ⟨0, _, _, _, by omega, rfl, rfl, Lib.hid rfl, HI0, Lib.hid (Below.refl _ _)⟩
  case round =>
    obtain ⟨s, n, c, p, hs, rfl, rfl, HN, HI, HBr⟩ := hrel
    by_cases hlt : s < P
    · have HK := Lib.hid (KW.out.bel HBr.out)
      have HBR := Lib.hid (HBW.out.below HBr.out)
      obtain ⟨L2, hL2⟩ : ∃ L2, bitsL s b.ss.length = L2 := ⟨_, rfl⟩
      obtain ⟨n2, hn2⟩ : ∃ n2, L2.length = n2 := ⟨_, rfl⟩
      have hle := bitsL_le s b.ss.length
      rw [hL2, hn2] at hle
      obtain ⟨q1, hq1⟩ : ∃ q1, fewerB L2 (wfold b b.ss.length s) = q1 := ⟨_, rfl⟩
      obtain ⟨q2, hq2⟩ : ∃ q2, canB b s = q2 := ⟨_, rfl⟩
      have HS := Lib.hid (show wfold b b.ss.length (s + 1) = if q1 && q2 then L2 else wfold b b.ss.length s by rw [wfold_snoc]; unfold wstep; rw [hL2, hq1, hq2])
      have HL2 := Lib.hid hL2
      have HN2 := Lib.hid hn2
      have HQ1 := Lib.hid hq1
      have HQ2 := Lib.hid hq2
      have HWN := Lib.hid (wrap_num s (by omega))
      have HS1 := Lib.hid (show s + 1 ≤ P from hlt)
      have hd : decide ((s : Int) < (P : Int)) = true := by simpa using hlt
      clear hL2 hn2 hq1 hq2
      go_upto_region 10 with (go_at_call 43; refine (Bits_n s b.ss.length n2 L2 _ (by omega) h5 HL2.out HN2.out).mono ?_; rintro e w1 ⟨p2, c2, rfl, hI2, y2, rfl⟩; have HI2 := Lib.hid hI2; clear hI2)
      generalize hY : ext wr y2 = Y at *
      have hBY : Below wr.heap.size wr Y := by rw [← hY]; (repeat (first | (with_reducible exact Below.refl _ _) | (with_reducible assumption) | ((with_reducible refine below_ext_trans ?_ ?_ _); rotate_left; focus (((try dsimp only); repeat (first | omega | simp only [World.size_alloc, World.size_setCell, World.size_drew] | (with_reducible refine le_ext_of ?_) | (with_reducible refine le_ext_add ?_))); done)) | ((with_reducible refine Below.alloc ?_ ?_ _); rotate_left; focus (((try dsimp only); repeat (first | omega | simp only [World.size_alloc, World.size_setCell, World.size_drew] | (with_reducible refine le_ext_of ?_) | (with_reducible refine le_ext_add ?_))); done)) | ((with_reducible refine Below.setCell ?_ ?_ _); rotate_left; focus (((try dsimp only); repeat (first | omega | simp only [World.size_alloc, World.size_setCell, World.size_drew] | (with_reducible refine le_ext_of ?_) | (with_reducible refine le_ext_add ?_))); done)) | (with_reducible refine Below.drew ?_)))
      have HBY := Lib.hid (HBr.out.trans (hBY.mono HBr.out.size))
      have HIY := Lib.hid (HI.out.below hBY)
      have HKY := Lib.hid (HK.out.bel hBY)
      have HBRY := Lib.hid (HBR.out.below hBY)
      clear hY hBY HBr HI HK HBR
      have hl := HKY.out.lt
      have d0 := HKY.out.cell 0
      have d1 := HKY.out.cell 1
      have d2 := HKY.out.cell 2
      have d3 := HKY.out.cell 3
      simp only [List.size_toArray, List.length_cons, List.length_nil, Nat.reduceAdd, Nat.reduceLT, getElem?_pos, List.getElem_toArray, List.getElem_cons_zero, List.getElem_cons_succ] at d0 d1 d2 d3
      cases q1
      · have HE := Lib.hid (show wfold b b.ss.length (s + 1) = wfold b b.ss.length s by rw [HS.out]; rfl)
        go_wp2_with (go_at_call 60; refine (Fewer_q p2 p c2 c L2 (wfold b b.ss.length s) n2 n false _ HI2.out HIY.out (by omega) HN2.out HN.out HQ1.out).mono ?_; rintro e w1 ⟨rfl, y3, rfl⟩)
        try rw [HWN.out]
        exact ⟨⟨s + 1, n, c, p, HS1.out, rfl, rfl, Lib.hid (by rw [HE.out]; exact HN.out), Lib.hid (by rw [HE.out]; exact HIY.out.below (below_ext _ _)), Lib.hid (HBY.out.trans (Below.mono (below_ext _ _) HBY.out.size))⟩, less_num P s HS1.out⟩
      · cases q2
        · have HE := Lib.hid (show wfold b b.ss.length (s + 1) = wfold b b.ss.length s by rw [HS.out]; rfl)
          go_wp2_with (first
            | (go_at_call 60; refine (Fewer_q p2 p c2 c L2 (wfold b b.ss.length s) n2 n true _ HI2.out HIY.out (by omega) HN2.out HN.out HQ1.out).mono ?_; rintro e w1 ⟨rfl, y3, rfl⟩)
            | (go_at_call 61; refine (rcan_eq h b hv s false _ (HBRY.out.below (below_ext _ _)) (by omega) HQ2.out).mono ?_; rintro e w1 ⟨rfl, y4, rfl⟩))
          try rw [HWN.out]
          exact ⟨⟨s + 1, n, c, p, HS1.out, rfl, rfl, Lib.hid (by rw [HE.out]; exact HN.out), Lib.hid (by rw [HE.out]; exact HIY.out.below (below_ext _ _)), Lib.hid (HBY.out.trans (Below.mono (below_ext _ _) HBY.out.size))⟩, less_num P s HS1.out⟩
        · have HE := Lib.hid (show wfold b b.ss.length (s + 1) = L2 by rw [HS.out]; rfl)
          go_wp2_with (first
            | (go_at_call 60; refine (Fewer_q p2 p c2 c L2 (wfold b b.ss.length s) n2 n true _ HI2.out HIY.out (by omega) HN2.out HN.out HQ1.out).mono ?_; rintro e w1 ⟨rfl, y3, rfl⟩)
            | (go_at_call 61; refine (rcan_eq h b hv s true _ (HBRY.out.below (below_ext _ _)) (by omega) HQ2.out).mono ?_; rintro e w1 ⟨rfl, y4, rfl⟩))
          try rw [HWN.out]
          exact ⟨⟨s + 1, n2, c2, p2, HS1.out, rfl, rfl, Lib.hid (by rw [HE.out]; exact HN2.out), Lib.hid (by rw [HE.out]; exact HI2.out.below (below_ext _ _)), Lib.hid (HBY.out.trans (Below.mono (below_ext _ _) HBY.out.size))⟩, less_num P s HS1.out⟩
    · obtain rfl : s = P := by omega
      have hd : decide ((s : Int) < (s : Int)) = false := by simp
      have HEND := Lib.hid (HWB.out.trans (HBr.out.mono HWB.out.size))
      have HN3 := Lib.hid (show (wrongL b).length = n by rw [← HALL.out]; exact HN.out)
      have HI3 := Lib.hid (show IntsAt wr p (wrongL b) by rw [← HALL.out]; exact HI.out)
      go_wp2_with fail
      go_ret2
      exact ⟨p, c, by first | (rw [HN3.out]; done) | (rw [HN3.out]; rfl), HI3.out, ext_of HEND.out⟩
end Go.Proofs.YteocjggepjpecaaGreatDoor

