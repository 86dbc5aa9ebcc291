/- The walk of TideMore. Written by gen_tmore.py. -/
import Derived.Test.YtcaeohgbgeadaaaGreatDoorQEv
import Derived.RegionTactic
set_option linter.unusedSimpArgs false
set_option linter.unusedVariables false
namespace Go.Proofs.YtcaeohgbgeadaaaGreatDoor
open Go Go.RowKit Go.Shelf
attribute [local go_sem] Oper.semAt_some frozen_alloc_lt
set_option maxRecDepth 100000 in
set_option maxHeartbeats 4000000 in
theorem TideMore_bad (b : Tk) (p : Tp) (n1 n2 : Int) (w : World) (hk : TB w b p) (hn : Hid (b.q.ns.length ≤ 9223372036854775807)) (hv : validB b = false) :
    Calls Tryz.prog 9 #[tv b p, .int .i64 n1, .int .i64 n2] w fun e w' => e = .returned (.bool true) ∧ ∃ x, w' = ext w x := by
  have HK := Lib.hid hk
  have HV := Lib.hid hv
  clear hk hv
  unfold tv
  go_enter Tryz.func9, Tryz.ntmps9
  go_wp2_with (first
    | (go_at_call 35; refine (tsound_no b p _ (HK.out.bel (by (repeat (first | (with_reducible exact Below.refl _ _) | (with_reducible assumption) | ((with_reducible refine below_ext_trans ?_ ?_ _); rotate_left; focus (((try dsimp only); repeat (first | omega | simp only [World.size_alloc, World.size_setCell, World.size_drew] | (with_reducible refine le_ext_of ?_) | (with_reducible refine le_ext_add ?_))); done)) | ((with_reducible refine Below.alloc ?_ ?_ _); rotate_left; focus (((try dsimp only); repeat (first | omega | simp only [World.size_alloc, World.size_setCell, World.size_drew] | (with_reducible refine le_ext_of ?_) | (with_reducible refine le_ext_add ?_))); done)) | ((with_reducible refine Below.setCell ?_ ?_ _); rotate_left; focus (((try dsimp only); repeat (first | omega | simp only [World.size_alloc, World.size_setCell, World.size_drew] | (with_reducible refine le_ext_of ?_) | (with_reducible refine le_ext_add ?_))); done)) | (with_reducible refine Below.drew ?_))))) hn HV.out).mono ?_; rintro e w1 ⟨rfl, y, rfl⟩)
    | (go_at_call 23; refine (tucked_any _ (HK.out.q.mm.below (by (repeat (first | (with_reducible exact Below.refl _ _) | (with_reducible assumption) | ((with_reducible refine below_ext_trans ?_ ?_ _); rotate_left; focus (((try dsimp only); repeat (first | omega | simp only [World.size_alloc, World.size_setCell, World.size_drew] | (with_reducible refine le_ext_of ?_) | (with_reducible refine le_ext_add ?_))); done)) | ((with_reducible refine Below.alloc ?_ ?_ _); rotate_left; focus (((try dsimp only); repeat (first | omega | simp only [World.size_alloc, World.size_setCell, World.size_drew] | (with_reducible refine le_ext_of ?_) | (with_reducible refine le_ext_add ?_))); done)) | ((with_reducible refine Below.setCell ?_ ?_ _); rotate_left; focus (((try dsimp only); repeat (first | omega | simp only [World.size_alloc, World.size_setCell, World.size_drew] | (with_reducible refine le_ext_of ?_) | (with_reducible refine le_ext_add ?_))); done)) | (with_reducible refine Below.drew ?_)))))).mono ?_; rintro e w1 ⟨rfl, y, rfl⟩))
  go_ret
  exact ⟨rfl, by (exact ext_of (by (repeat (first | (with_reducible exact Below.refl _ _) | (with_reducible assumption) | ((with_reducible refine below_ext_trans ?_ ?_ _); rotate_left; focus (((try dsimp only); repeat (first | omega | simp only [World.size_alloc, World.size_setCell, World.size_drew] | (with_reducible refine le_ext_of ?_) | (with_reducible refine le_ext_add ?_))); done)) | ((with_reducible refine Below.alloc ?_ ?_ _); rotate_left; focus (((try dsimp only); repeat (first | omega | simp only [World.size_alloc, World.size_setCell, World.size_drew] | (with_reducible refine le_ext_of ?_) | (with_reducible refine le_ext_add ?_))); done)) | ((with_reducible refine Below.setCell ?_ ?_ _); rotate_left; focus (((try dsimp only); repeat (first | omega | simp only [World.size_alloc, World.size_setCell, World.size_drew] | (with_reducible refine le_ext_of ?_) | (with_reducible refine le_ext_add ?_))); done)) | (with_reducible refine Below.drew ?_)))))⟩
set_option maxRecDepth 100000 in
set_option maxHeartbeats 16000000 in
theorem TideMore_ok (b : Tk) (p : Tp) (n1 n2 : Int) (w : World) (hk : TB w b p) (hn : Hid (b.q.ns.length ≤ 9223372036854775807)) (hv : validB b = true) :
    Calls Tryz.prog 9 #[tv b p, .int .i64 n1, .int .i64 n2] w fun e w' => e = .returned (.bool true) ∧ ∃ x, w' = ext w x := by
  have HV := Lib.hid hv
  have h64 : (0 : Int) < ((2 ^ b.ts.length : Nat) : Int) := by have : 1 ≤ 2 ^ b.ts.length := Nat.one_le_two_pow; omega
  obtain ⟨z, hz⟩ := Int.eq_ofNat_of_zero_le (Int.emod_nonneg n1 (show ((2 ^ b.ts.length : Nat) : Int) ≠ 0 by omega))
  have HZ := Lib.hid hz
  have HPM := Lib.hid (drawT_plan (b := b) (L := bitsL z b.ts.length) hv (bitsL_rises _ _) (fun x hx => by obtain ⟨k, h1, -, rfl⟩ := mem_bitsL.1 hx; omega) (bitsL z b.ts.length).length).1
  clear hz h64
  have HMO := Lib.hid (of_validB hv).2.2.2.2.1.2
  have HRS := Lib.hid (of_validB hv).2.2.2.2.2.1
  obtain ⟨H, hH⟩ : ∃ H, haulOf b = H := ⟨_, rfl⟩
  have HHB := Lib.hid hH
  have HHT := Lib.hid (show H.b = b from hH ▸ rfl)
  have HO := Lib.hid (show H.OK from hH ▸ haul_ok hv)
  clear hH hv
  have HF := Lib.hid (TF.start hk)
  unfold tv
  go_enter Tryz.func9, Tryz.ntmps9
  go_upto_region 1 with fail
  unfold tcs at HF
  generalize w.alloc _ = W at HF ⊢
  have HF : Hid (TF w W b p [] []) := HF
  clear hk
  have kb := HF.out.kb
  unfold tcs at kb
  (have d0 := Blk.cell kb 0; have d1 := Blk.cell kb 1; have d2 := Blk.cell kb 2; have d3 := Blk.cell kb 3; have d4 := Blk.cell kb 4; have d5 := Blk.cell kb 5; have d6 := Blk.cell kb 6; have d7 := Blk.cell kb 7; have d8 := Blk.cell kb 8; simp only [List.size_toArray, List.length_cons, List.length_nil, Nat.reduceAdd, Nat.reduceLT, getElem?_pos, List.getElem_toArray, List.getElem_cons_zero, List.getElem_cons_succ] at d0 d1 d2 d3 d4 d5 d6 d7 d8)
  have lb := kb.lt
  clear kb
  go_upto_region 3 with (go_at_call 35; refine (tsound_yes b p _ HF.out.tb hn HV.out).mono ?_; rintro e w1 ⟨rfl, y, hw⟩; have HF := Lib.hid (HF.out.step (show Below W.heap.size W w1 by rw [hw]; (repeat (first | (with_reducible exact Below.refl _ _) | (with_reducible refine bel_comp ?_) | (with_reducible refine bel_alloc ?_ _) | (with_reducible refine bel_ext ?_ _))))); clear hw)
  clear d0 d1 d2 d3 d4 d5 d6 d7 d8 lb
  have kb := HF.out.kb
  unfold tcs at kb
  (have d0 := Blk.cell kb 0; have d1 := Blk.cell kb 1; have d2 := Blk.cell kb 2; have d3 := Blk.cell kb 3; have d4 := Blk.cell kb 4; have d5 := Blk.cell kb 5; have d6 := Blk.cell kb 6; have d7 := Blk.cell kb 7; have d8 := Blk.cell kb 8; simp only [List.size_toArray, List.length_cons, List.length_nil, Nat.reduceAdd, Nat.reduceLT, getElem?_pos, List.getElem_toArray, List.getElem_cons_zero, List.getElem_cons_succ] at d0 d1 d2 d3 d4 d5 d6 d7 d8)
  have lb := kb.lt
  clear kb
  go_upto_region 4 with (go_at_call 37; refine (drawn_any b p n1 z _ HF.out.tb HV.out HZ.out).mono ?_; rintro e w2 ⟨vm, rfl, hpm, y, hw⟩; have HOM := Lib.hid hpm; clear hpm; have HF := Lib.hid (HF.out.step (show Below w1.heap.size w1 w2 by rw [hw]; (repeat (first | (with_reducible exact Below.refl _ _) | (with_reducible refine bel_comp ?_) | (with_reducible refine bel_alloc ?_ _) | (with_reducible refine bel_ext ?_ _))))); clear hw)
  clear d0 d1 d2 d3 d4 d5 d6 d7 d8 lb
  obtain ⟨ml, hml⟩ : ∃ ml, drawT b (bitsL z b.ts.length) (bitsL z b.ts.length).length = ml := ⟨_, rfl⟩
  rw [hml] at HOM HPM
  clear hml HZ
  have HF := Lib.hid (HF.out.list (plan_of_own HOM.out))
  obtain ⟨p2, c2, rfl, -, -⟩ := id (show PlanAt w2 vm ml from plan_of_own HOM.out)
  clear HOM
  have hl2 : (ml.length : Int) ≤ 6 := by have := plan_len HPM.out; have := HMO.out; omega
  obtain ⟨m, hm⟩ : ∃ m, ml.length = m := ⟨_, rfl⟩
  have HM := Lib.hid hm
  rw [hm] at HF hl2
  rw [hm]
  clear hm
  have HPQ := Lib.hid (show planB H.b.ts H.b.most H.b.rest ml = true from HHT.out.symm ▸ HPM.out)
  have kb := HF.out.kb
  unfold tcs at kb
  (have d0 := Blk.cell kb 0; have d1 := Blk.cell kb 1; have d2 := Blk.cell kb 2; have d3 := Blk.cell kb 3; have d4 := Blk.cell kb 4; have d5 := Blk.cell kb 5; have d6 := Blk.cell kb 6; have d7 := Blk.cell kb 7; have d8 := Blk.cell kb 8; simp only [List.size_toArray, List.length_cons, List.length_nil, Nat.reduceAdd, Nat.reduceLT, getElem?_pos, List.getElem_toArray, List.getElem_cons_zero, List.getElem_cons_succ] at d0 d1 d2 d3 d4 d5 d6 d7 d8)
  have lb := kb.lt
  clear kb
  go_upto_region 5 with (go_at_call 19; refine (Out_yes b p _ ml H _ HF.out.tb hn (HF.out.ls (.slice p2 m c2, ml) (by simp)) (by rw [HM.out]; omega) HV.out HPM.out HHB.out).mono ?_; rintro e w3 ⟨rfl, y, hw⟩; have HF := Lib.hid (HF.out.step (show Below w2.heap.size w2 w3 by rw [hw]; (repeat (first | (with_reducible exact Below.refl _ _) | (with_reducible refine bel_comp ?_) | (with_reducible refine bel_alloc ?_ _) | (with_reducible refine bel_ext ?_ _))))); clear hw)
  clear d0 d1 d2 d3 d4 d5 d6 d7 d8 lb
  generalize hW : w3.alloc _ = w4
  have HF := Lib.hid ((HF.out.step (show Below w3.heap.size w3 w4 by rw [← hW]; (repeat (first | (with_reducible exact Below.refl _ _) | (with_reducible refine bel_comp ?_) | (with_reducible refine bel_alloc ?_ _) | (with_reducible refine bel_ext ?_ _))))).box (g := w3.heap.size) (x := ansLo H 0 ml) (y := ansHi H 0 ml) (by rw [← hW]; exact Blk.new rfl))
  clear hW
  generalize w3.heap.size = gS at *
  have kb := HF.out.kb
  unfold tcs at kb
  (have d0 := Blk.cell kb 0; have d1 := Blk.cell kb 1; have d2 := Blk.cell kb 2; have d3 := Blk.cell kb 3; have d4 := Blk.cell kb 4; have d5 := Blk.cell kb 5; have d6 := Blk.cell kb 6; have d7 := Blk.cell kb 7; have d8 := Blk.cell kb 8; simp only [List.size_toArray, List.length_cons, List.length_nil, Nat.reduceAdd, Nat.reduceLT, getElem?_pos, List.getElem_toArray, List.getElem_cons_zero, List.getElem_cons_succ] at d0 d1 d2 d3 d4 d5 d6 d7 d8)
  have lb := kb.lt
  clear kb
  go_upto_region 6 with (go_at_call 21; refine (Lost_yes b p _ ml H _ HF.out.tb hn (HF.out.ls (.slice p2 m c2, ml) (by simp)) (by rw [HM.out]; omega) HV.out HPM.out HHB.out).mono ?_; rintro e w5 ⟨rfl, y, hw⟩; have HF := Lib.hid (HF.out.step (show Below w4.heap.size w4 w5 by rw [hw]; (repeat (first | (with_reducible exact Below.refl _ _) | (with_reducible refine bel_comp ?_) | (with_reducible refine bel_alloc ?_ _) | (with_reducible refine bel_ext ?_ _))))); clear hw)
  clear d0 d1 d2 d3 d4 d5 d6 d7 d8 lb
  generalize hW : w5.alloc _ = w6
  have HF := Lib.hid ((HF.out.step (show Below w5.heap.size w5 w6 by rw [← hW]; (repeat (first | (with_reducible exact Below.refl _ _) | (with_reducible refine bel_comp ?_) | (with_reducible refine bel_alloc ?_ _) | (with_reducible refine bel_ext ?_ _))))).box (g := w5.heap.size) (x := ansLo H 1 ml) (y := ansHi H 1 ml) (by rw [← hW]; exact Blk.new rfl))
  clear hW
  generalize w5.heap.size = gT at *
  have kb := HF.out.kb
  unfold tcs at kb
  (have d0 := Blk.cell kb 0; have d1 := Blk.cell kb 1; have d2 := Blk.cell kb 2; have d3 := Blk.cell kb 3; have d4 := Blk.cell kb 4; have d5 := Blk.cell kb 5; have d6 := Blk.cell kb 6; have d7 := Blk.cell kb 7; have d8 := Blk.cell kb 8; simp only [List.size_toArray, List.length_cons, List.length_nil, Nat.reduceAdd, Nat.reduceLT, getElem?_pos, List.getElem_toArray, List.getElem_cons_zero, List.getElem_cons_succ] at d0 d1 d2 d3 d4 d5 d6 d7 d8)
  have lb := kb.lt
  clear kb
  go_upto_region 7 with (go_at_call 24; refine (Left_yes b p _ ml H _ HF.out.tb hn (HF.out.ls (.slice p2 m c2, ml) (by simp)) (by rw [HM.out]; omega) HV.out HPM.out HHB.out).mono ?_; rintro e w7 ⟨rfl, y, hw⟩; have HF := Lib.hid (HF.out.step (show Below w6.heap.size w6 w7 by rw [hw]; (repeat (first | (with_reducible exact Below.refl _ _) | (with_reducible refine bel_comp ?_) | (with_reducible refine bel_alloc ?_ _) | (with_reducible refine bel_ext ?_ _))))); clear hw)
  clear d0 d1 d2 d3 d4 d5 d6 d7 d8 lb
  generalize hW : w7.alloc _ = w8
  have HF := Lib.hid ((HF.out.step (show Below w7.heap.size w7 w8 by rw [← hW]; (repeat (first | (with_reducible exact Below.refl _ _) | (with_reducible refine bel_comp ?_) | (with_reducible refine bel_alloc ?_ _) | (with_reducible refine bel_ext ?_ _))))).box (g := w7.heap.size) (x := ansLo H 2 ml) (y := ansHi H 2 ml) (by rw [← hW]; exact Blk.new rfl))
  clear hW
  generalize w7.heap.size = gU at *
  have kb := HF.out.kb
  unfold tcs at kb
  (have d0 := Blk.cell kb 0; have d1 := Blk.cell kb 1; have d2 := Blk.cell kb 2; have d3 := Blk.cell kb 3; have d4 := Blk.cell kb 4; have d5 := Blk.cell kb 5; have d6 := Blk.cell kb 6; have d7 := Blk.cell kb 7; have d8 := Blk.cell kb 8; simp only [List.size_toArray, List.length_cons, List.length_nil, Nat.reduceAdd, Nat.reduceLT, getElem?_pos, List.getElem_toArray, List.getElem_cons_zero, List.getElem_cons_succ] at d0 d1 d2 d3 d4 d5 d6 d7 d8)
  have lb := kb.lt
  clear kb
  go_upto_region 8 with (go_at_call 26; refine (Mended_yes b p _ ml H _ HF.out.tb hn (HF.out.ls (.slice p2 m c2, ml) (by simp)) (by rw [HM.out]; omega) HV.out HPM.out HHB.out).mono ?_; rintro e w9 ⟨rfl, y, hw⟩; have HF := Lib.hid (HF.out.step (show Below w8.heap.size w8 w9 by rw [hw]; (repeat (first | (with_reducible exact Below.refl _ _) | (with_reducible refine bel_comp ?_) | (with_reducible refine bel_alloc ?_ _) | (with_reducible refine bel_ext ?_ _))))); clear hw)
  clear d0 d1 d2 d3 d4 d5 d6 d7 d8 lb
  generalize hW : w9.alloc _ = w10
  have HF := Lib.hid ((HF.out.step (show Below w9.heap.size w9 w10 by rw [← hW]; (repeat (first | (with_reducible exact Below.refl _ _) | (with_reducible refine bel_comp ?_) | (with_reducible refine bel_alloc ?_ _) | (with_reducible refine bel_ext ?_ _))))).box (g := w9.heap.size) (x := ansLo H.mend 0 ml) (y := ansHi H.mend 0 ml) (by rw [← hW]; exact Blk.new rfl))
  clear hW
  generalize w9.heap.size = gV at *
  have HE := Lib.hid (fun i => ends_erase HO.out HPQ.out i)
  obtain ⟨e1, e2⟩ := ends_mend HO.out HPQ.out
  obtain ⟨e3, e4⟩ := ends_left HO.out HPQ.out
  have e5 := (ans_bd HO.out HPQ.out 2).1
  have e6 := (ans_bd HO.out HPQ.out 0).1
  have HNIL := Lib.hid (fun h0 : ml = [] => show (ansLo H 0 ml = 0 ∧ ansHi H 0 ml = 0) ∧ (ansLo H.mend 0 ml = 0 ∧ ansHi H.mend 0 ml = 0) by subst h0; exact ⟨ends_nil HO.out, ends_nil HO.out.mend⟩)
  generalize ansLo H.mend 0 ml = v0 at *
  generalize ansHi H.mend 0 ml = v1 at *
  generalize ansLo H 0 ml = s0 at *
  generalize ansHi H 0 ml = s1 at *
  generalize ansLo H 1 ml = t0 at *
  generalize ansHi H 1 ml = t1 at *
  generalize ansLo H 2 ml = u0 at *
  generalize ansHi H 2 ml = u1 at *
  have f1 : decide (v0 < s0) = false := by simp; omega
  have f2 : decide (v1 < s1) = false := by simp; omega
  have f3 : decide (t0 < u0) = false := by simp; omega
  have f4 : decide (t1 < u1) = false := by simp; omega
  have f5 : decide (u0 < 0) = false := by simp; omega
  have f6 : decide (s0 < 0) = false := by simp; omega
  have kS := HF.out.bx (gS, s0, s1) (by simp)
  dsimp only at kS
  (have cS0 := Blk.cell kS 0; have cS1 := Blk.cell kS 1; simp only [List.size_toArray, List.length_cons, List.length_nil, Nat.reduceAdd, Nat.reduceLT, getElem?_pos, List.getElem_toArray, List.getElem_cons_zero, List.getElem_cons_succ] at cS0 cS1)
  have lS := kS.lt
  clear kS
  have kT := HF.out.bx (gT, t0, t1) (by simp)
  dsimp only at kT
  (have cT0 := Blk.cell kT 0; have cT1 := Blk.cell kT 1; simp only [List.size_toArray, List.length_cons, List.length_nil, Nat.reduceAdd, Nat.reduceLT, getElem?_pos, List.getElem_toArray, List.getElem_cons_zero, List.getElem_cons_succ] at cT0 cT1)
  have lT := kT.lt
  clear kT
  have kU := HF.out.bx (gU, u0, u1) (by simp)
  dsimp only at kU
  (have cU0 := Blk.cell kU 0; have cU1 := Blk.cell kU 1; simp only [List.size_toArray, List.length_cons, List.length_nil, Nat.reduceAdd, Nat.reduceLT, getElem?_pos, List.getElem_toArray, List.getElem_cons_zero, List.getElem_cons_succ] at cU0 cU1)
  have lU := kU.lt
  clear kU
  have kV := HF.out.bx (gV, v0, v1) (by simp)
  dsimp only at kV
  (have cV0 := Blk.cell kV 0; have cV1 := Blk.cell kV 1; simp only [List.size_toArray, List.length_cons, List.length_nil, Nat.reduceAdd, Nat.reduceLT, getElem?_pos, List.getElem_toArray, List.getElem_cons_zero, List.getElem_cons_succ] at cV0 cV1)
  have lV := kV.lt
  clear kV
  go_upto_region 10 with fail
  clear f1 f2 f3 f4 f5 f6 e1 e2 e3 e4
  clear cS0 cS1 lS cT0 cT1 lT cU0 cU1 lU cV0 cV1 lV
  have HMM := Lib.hid HF.out.tb.q.mm
  by_cases hm0 : m = 0
  · have hml0 : ml = [] := List.eq_nil_of_length_eq_zero (by rw [HM.out, hm0])
    obtain ⟨⟨h1, h2⟩, ⟨h3, h4⟩⟩ := HNIL.out hml0
    subst h1 h2 h3 h4
    have hd : decide ((m : Int) = 0) = true := by simp; omega
    have hd2 : ((m : Int) == 0) = true := by simp; omega
    clear hm0 hml0
    have kS := HF.out.bx (gS, 0, 0) (by simp)
    dsimp only at kS
    (have cS0 := Blk.cell kS 0; have cS1 := Blk.cell kS 1; simp only [List.size_toArray, List.length_cons, List.length_nil, Nat.reduceAdd, Nat.reduceLT, getElem?_pos, List.getElem_toArray, List.getElem_cons_zero, List.getElem_cons_succ] at cS0 cS1)
    have lS := kS.lt
    clear kS
    have kV := HF.out.bx (gV, 0, 0) (by simp)
    dsimp only at kV
    (have cV0 := Blk.cell kV 0; have cV1 := Blk.cell kV 1; simp only [List.size_toArray, List.length_cons, List.length_nil, Nat.reduceAdd, Nat.reduceLT, getElem?_pos, List.getElem_toArray, List.getElem_cons_zero, List.getElem_cons_succ] at cV0 cV1)
    have lV := kV.lt
    clear kV
    go_upto_region 11 with fail
    refine wp_region_ext (by kernel_rfl) (by kernel_rfl) ?_
    repeat (go_big_quiet_step (first
      | (go_at_call 44; exact quiet_ext (Just_any _ _))
      | (go_at_call 23; exact quiet_ext (tucked_any _ (HMM.out.below (by (repeat (first | (with_reducible exact Below.refl _ _) | (with_reducible refine bel_comp ?_) | (with_reducible refine bel_alloc ?_ _) | (with_reducible refine bel_ext ?_ _)))))))))
    (refine wpQuiet_nil ?_; rintro _ ⟨x, rfl⟩)
    go_wp2_with fail
    go_ret
    exact ⟨rfl, ext_of (HF.out.step (below_ext _ _)).below⟩
  · have hd : decide ((m : Int) = 0) = false := by simp; omega
    have hd2 : ((m : Int) == 0) = false := by simp; omega
    have hmp : (0 : Int) < (m : Int) := by omega
    obtain ⟨k, hkz⟩ := Int.eq_ofNat_of_zero_le (Int.emod_nonneg n2 (show (m : Int) ≠ 0 by omega))
    have HKZ := Lib.hid hkz
    have hkm : k < m := by have := Int.emod_lt_of_pos n2 hmp; omega
    have HM1 := Lib.hid (show (1 : Int) ≤ (m : Int) ∧ (m : Int) ≤ 1000000 by omega)
    clear hkz HNIL hm0
    go_upto_region 13 with (go_at_call 45; refine (Wheel_eq n2 _ k _ HM1.out HKZ.out).mono ?_; rintro e w11 ⟨rfl, y, hw⟩; have HF := Lib.hid (HF.out.step (show Below w10.heap.size w10 w11 by rw [hw]; (repeat (first | (with_reducible exact Below.refl _ _) | (with_reducible refine bel_comp ?_) | (with_reducible refine bel_alloc ?_ _) | (with_reducible refine bel_ext ?_ _))))); clear hw)
    go_upto_region 14 with (go_at_call 46; refine (lwithout_any _ ml k _ (HF.out.ls (.slice p2 m c2, ml) (by simp)) (by rw [HM.out]; exact hkm) (by rw [HM.out]; omega)).mono ?_; rintro e w12 ⟨vx, rfl, hpx, y, hw⟩; have HOX := Lib.hid hpx; clear hpx; have HF := Lib.hid (HF.out.step (show Below w11.heap.size w11 w12 by rw [hw]; (repeat (first | (with_reducible exact Below.refl _ _) | (with_reducible refine bel_comp ?_) | (with_reducible refine bel_alloc ?_ _) | (with_reducible refine bel_ext ?_ _))))); clear hw)
    have hl3 : (ml.eraseIdx k).length ≤ 1000 := Nat.le_trans (List.eraseIdx_sublist ml k).length_le (by rw [HM.out]; omega)
    have HF := Lib.hid (HF.out.list (show PlanAt w12 vx (ml.eraseIdx k) from plan_of_own HOX.out))
    have HPX := Lib.hid (plan_erase HRS.out HPM.out k)
    clear HOX hd hd2 hmp hkm
    have kb := HF.out.kb
    unfold tcs at kb
    (have d0 := Blk.cell kb 0; have d1 := Blk.cell kb 1; have d2 := Blk.cell kb 2; have d3 := Blk.cell kb 3; have d4 := Blk.cell kb 4; have d5 := Blk.cell kb 5; have d6 := Blk.cell kb 6; have d7 := Blk.cell kb 7; have d8 := Blk.cell kb 8; simp only [List.size_toArray, List.length_cons, List.length_nil, Nat.reduceAdd, Nat.reduceLT, getElem?_pos, List.getElem_toArray, List.getElem_cons_zero, List.getElem_cons_succ] at d0 d1 d2 d3 d4 d5 d6 d7 d8)
    have lb := kb.lt
    clear kb
    go_upto_region 15 with (go_at_call 19; refine (Out_yes b p _ (ml.eraseIdx k) H _ HF.out.tb hn (HF.out.ls (vx, ml.eraseIdx k) (by simp)) (hl3) HV.out HPX.out HHB.out).mono ?_; rintro e w13 ⟨rfl, y, hw⟩; have HF := Lib.hid (HF.out.step (show Below w12.heap.size w12 w13 by rw [hw]; (repeat (first | (with_reducible exact Below.refl _ _) | (with_reducible refine bel_comp ?_) | (with_reducible refine bel_alloc ?_ _) | (with_reducible refine bel_ext ?_ _))))); clear hw)
    clear d0 d1 d2 d3 d4 d5 d6 d7 d8 lb
    generalize hW : w13.alloc _ = w14
    have HF := Lib.hid ((HF.out.step (show Below w13.heap.size w13 w14 by rw [← hW]; (repeat (first | (with_reducible exact Below.refl _ _) | (with_reducible refine bel_comp ?_) | (with_reducible refine bel_alloc ?_ _) | (with_reducible refine bel_ext ?_ _))))).box (g := w13.heap.size) (x := ansLo H 0 (ml.eraseIdx k)) (y := ansHi H 0 (ml.eraseIdx k)) (by rw [← hW]; exact Blk.new rfl))
    clear hW
    generalize w13.heap.size = gX at *
    have kb := HF.out.kb
    unfold tcs at kb
    (have d0 := Blk.cell kb 0; have d1 := Blk.cell kb 1; have d2 := Blk.cell kb 2; have d3 := Blk.cell kb 3; have d4 := Blk.cell kb 4; have d5 := Blk.cell kb 5; have d6 := Blk.cell kb 6; have d7 := Blk.cell kb 7; have d8 := Blk.cell kb 8; simp only [List.size_toArray, List.length_cons, List.length_nil, Nat.reduceAdd, Nat.reduceLT, getElem?_pos, List.getElem_toArray, List.getElem_cons_zero, List.getElem_cons_succ] at d0 d1 d2 d3 d4 d5 d6 d7 d8)
    have lb := kb.lt
    clear kb
    go_upto_region 16 with (go_at_call 21; refine (Lost_yes b p _ (ml.eraseIdx k) H _ HF.out.tb hn (HF.out.ls (vx, ml.eraseIdx k) (by simp)) (hl3) HV.out HPX.out HHB.out).mono ?_; rintro e w15 ⟨rfl, y, hw⟩; have HF := Lib.hid (HF.out.step (show Below w14.heap.size w14 w15 by rw [hw]; (repeat (first | (with_reducible exact Below.refl _ _) | (with_reducible refine bel_comp ?_) | (with_reducible refine bel_alloc ?_ _) | (with_reducible refine bel_ext ?_ _))))); clear hw)
    clear d0 d1 d2 d3 d4 d5 d6 d7 d8 lb
    generalize hW : w15.alloc _ = w16
    have HF := Lib.hid ((HF.out.step (show Below w15.heap.size w15 w16 by rw [← hW]; (repeat (first | (with_reducible exact Below.refl _ _) | (with_reducible refine bel_comp ?_) | (with_reducible refine bel_alloc ?_ _) | (with_reducible refine bel_ext ?_ _))))).box (g := w15.heap.size) (x := ansLo H 1 (ml.eraseIdx k)) (y := ansHi H 1 (ml.eraseIdx k)) (by rw [← hW]; exact Blk.new rfl))
    clear hW
    generalize w15.heap.size = gY at *
    have kb := HF.out.kb
    unfold tcs at kb
    (have d0 := Blk.cell kb 0; have d1 := Blk.cell kb 1; have d2 := Blk.cell kb 2; have d3 := Blk.cell kb 3; have d4 := Blk.cell kb 4; have d5 := Blk.cell kb 5; have d6 := Blk.cell kb 6; have d7 := Blk.cell kb 7; have d8 := Blk.cell kb 8; simp only [List.size_toArray, List.length_cons, List.length_nil, Nat.reduceAdd, Nat.reduceLT, getElem?_pos, List.getElem_toArray, List.getElem_cons_zero, List.getElem_cons_succ] at d0 d1 d2 d3 d4 d5 d6 d7 d8)
    have lb := kb.lt
    clear kb
    go_upto_region 17 with (go_at_call 24; refine (Left_yes b p _ (ml.eraseIdx k) H _ HF.out.tb hn (HF.out.ls (vx, ml.eraseIdx k) (by simp)) (hl3) HV.out HPX.out HHB.out).mono ?_; rintro e w17 ⟨rfl, y, hw⟩; have HF := Lib.hid (HF.out.step (show Below w16.heap.size w16 w17 by rw [hw]; (repeat (first | (with_reducible exact Below.refl _ _) | (with_reducible refine bel_comp ?_) | (with_reducible refine bel_alloc ?_ _) | (with_reducible refine bel_ext ?_ _))))); clear hw)
    clear d0 d1 d2 d3 d4 d5 d6 d7 d8 lb
    generalize hW : w17.alloc _ = w18
    have HF := Lib.hid ((HF.out.step (show Below w17.heap.size w17 w18 by rw [← hW]; (repeat (first | (with_reducible exact Below.refl _ _) | (with_reducible refine bel_comp ?_) | (with_reducible refine bel_alloc ?_ _) | (with_reducible refine bel_ext ?_ _))))).box (g := w17.heap.size) (x := ansLo H 2 (ml.eraseIdx k)) (y := ansHi H 2 (ml.eraseIdx k)) (by rw [← hW]; exact Blk.new rfl))
    clear hW
    generalize w17.heap.size = gZ at *
    obtain ⟨⟨i1, i2⟩, ⟨i3, i4⟩, ⟨i5, i6⟩⟩ := HE.out k
    generalize ansLo H 0 (ml.eraseIdx k) = x0 at *
    generalize ansHi H 0 (ml.eraseIdx k) = x1 at *
    generalize ansLo H 1 (ml.eraseIdx k) = y0 at *
    generalize ansHi H 1 (ml.eraseIdx k) = y1 at *
    generalize ansLo H 2 (ml.eraseIdx k) = z0 at *
    generalize ansHi H 2 (ml.eraseIdx k) = z1 at *
    have f1 : decide (x0 ≤ s0) = true := by simpa using i1
    have f2 : decide (x1 ≤ s1) = true := by simpa using i2
    have f3 : decide (t0 ≤ y0) = true := by simpa using i3
    have f4 : decide (t1 ≤ y1) = true := by simpa using i4
    have f5 : decide (u0 ≤ z0) = true := by simpa using i5
    have f6 : decide (u1 ≤ z1) = true := by simpa using i6
    have f7 : decide (y0 ≥ t0) = true := f3
    have f8 : decide (y1 ≥ t1) = true := f4
    have f9 : decide (z0 ≥ u0) = true := f5
    have f10 : decide (z1 ≥ u1) = true := f6
    have kS := HF.out.bx (gS, s0, s1) (by simp)
    dsimp only at kS
    (have cS0 := Blk.cell kS 0; have cS1 := Blk.cell kS 1; simp only [List.size_toArray, List.length_cons, List.length_nil, Nat.reduceAdd, Nat.reduceLT, getElem?_pos, List.getElem_toArray, List.getElem_cons_zero, List.getElem_cons_succ] at cS0 cS1)
    have lS := kS.lt
    clear kS
    have kT := HF.out.bx (gT, t0, t1) (by simp)
    dsimp only at kT
    (have cT0 := Blk.cell kT 0; have cT1 := Blk.cell kT 1; simp only [List.size_toArray, List.length_cons, List.length_nil, Nat.reduceAdd, Nat.reduceLT, getElem?_pos, List.getElem_toArray, List.getElem_cons_zero, List.getElem_cons_succ] at cT0 cT1)
    have lT := kT.lt
    clear kT
    have kU := HF.out.bx (gU, u0, u1) (by simp)
    dsimp only at kU
    (have cU0 := Blk.cell kU 0; have cU1 := Blk.cell kU 1; simp only [List.size_toArray, List.length_cons, List.length_nil, Nat.reduceAdd, Nat.reduceLT, getElem?_pos, List.getElem_toArray, List.getElem_cons_zero, List.getElem_cons_succ] at cU0 cU1)
    have lU := kU.lt
    clear kU
    have kX := HF.out.bx (gX, x0, x1) (by simp)
    dsimp only at kX
    (have cX0 := Blk.cell kX 0; have cX1 := Blk.cell kX 1; simp only [List.size_toArray, List.length_cons, List.length_nil, Nat.reduceAdd, Nat.reduceLT, getElem?_pos, List.getElem_toArray, List.getElem_cons_zero, List.getElem_cons_succ] at cX0 cX1)
    have lX := kX.lt
    clear kX
    have kY := HF.out.bx (gY, y0, y1) (by simp)
    dsimp only at kY
    (have cY0 := Blk.cell kY 0; have cY1 := Blk.cell kY 1; simp only [List.size_toArray, List.length_cons, List.length_nil, Nat.reduceAdd, Nat.reduceLT, getElem?_pos, List.getElem_toArray, List.getElem_cons_zero, List.getElem_cons_succ] at cY0 cY1)
    have lY := kY.lt
    clear kY
    have kZ := HF.out.bx (gZ, z0, z1) (by simp)
    dsimp only at kZ
    (have cZ0 := Blk.cell kZ 0; have cZ1 := Blk.cell kZ 1; simp only [List.size_toArray, List.length_cons, List.length_nil, Nat.reduceAdd, Nat.reduceLT, getElem?_pos, List.getElem_toArray, List.getElem_cons_zero, List.getElem_cons_succ] at cZ0 cZ1)
    have lZ := kZ.lt
    clear kZ
    have HMM := Lib.hid HF.out.tb.q.mm
    go_wp2_with (go_at_call 23; refine (tucked_any _ HMM.out).mono ?_; rintro e w99 ⟨rfl, y, hw⟩; have HF := Lib.hid (HF.out.step (show Below w18.heap.size w18 w99 by rw [hw]; (repeat (first | (with_reducible exact Below.refl _ _) | (with_reducible refine bel_comp ?_) | (with_reducible refine bel_alloc ?_ _) | (with_reducible refine bel_ext ?_ _))))); clear hw)
    go_ret
    exact ⟨rfl, ext_of HF.out.below⟩
theorem TideMore_any (b : Tk) (p : Tp) (n1 n2 : Int) (w : World) (hk : TB w b p) (hn : Hid (b.q.ns.length ≤ 9223372036854775807)) :
    Calls Tryz.prog 9 #[tv b p, .int .i64 n1, .int .i64 n2] w fun e w' => e = .returned (.bool true) ∧ ∃ x, w' = ext w x := by
  cases hv : validB b
  · exact TideMore_bad b p n1 n2 w hk hn hv
  · exact TideMore_ok b p n1 n2 w hk hn hv
end Go.Proofs.YtcaeohgbgeadaaaGreatDoor

