/- The walk of TideBest. Written by gen_tbest.py. -/
import Derived.Test.YtcaeohgbgeadaaaGreatDoorQEs
import Derived.Test.YtcaeohgbgeadaaaGreatDoorQEy
import Derived.RegionTactic
set_option linter.unusedSimpArgs false
set_option linter.unusedVariables false
namespace Go.Proofs.YtcaeohgbgeadaaaGreatDoor
open Go Go.RowKit Go.Shelf
theorem best_less {H : Hl} {a m : List Int} (h : IsBest H a) (hm : planB H.b.ts H.b.most H.b.rest m = true) : ansHi H 1 a ≤ ansHi H 1 m ∧ (ansHi H 1 a = ansHi H 1 m → fewerB m a = false) := by
  refine ⟨h.lost hm, fun e => ?_⟩
  have h1 := h.2 m hm
  unfold betterB at h1
  simp only [Bool.or_eq_false_iff, Bool.and_eq_false_iff, decide_eq_false_iff_not] at h1
  rcases h1.2 with h2 | h2
  · exact absurd e.symm h2
  · exact h2
attribute [local go_sem] Oper.semAt_some frozen_alloc_lt
set_option maxRecDepth 100000 in
set_option maxHeartbeats 4000000 in
theorem TideBest_bad (b : Tk) (p : Tp) (n : Int) (w : World) (hk : TB w b p) (hn : Hid (b.q.ns.length ≤ 9223372036854775807)) (hv : validB b = false) :
    Calls Tryz.prog 8 #[tv b p, .int .i64 n] w fun e w' => e = .returned (.bool true) ∧ ∃ x, w' = ext w x := by
  have HK := Lib.hid hk
  have HV := Lib.hid hv
  clear hk hv
  unfold tv
  go_enter Tryz.func8, Tryz.ntmps8
  go_wp2_with (first
    | (go_at_call 35; refine (tsound_no b p _ (HK.out.bel (by (repeat (first | (with_reducible exact Below.refl _ _) | (with_reducible assumption) | ((with_reducible refine below_ext_trans ?_ ?_ _); rotate_left; focus (((try dsimp only); repeat (first | omega | simp only [World.size_alloc, World.size_setCell, World.size_drew] | (with_reducible refine le_ext_of ?_) | (with_reducible refine le_ext_add ?_))); done)) | ((with_reducible refine Below.alloc ?_ ?_ _); rotate_left; focus (((try dsimp only); repeat (first | omega | simp only [World.size_alloc, World.size_setCell, World.size_drew] | (with_reducible refine le_ext_of ?_) | (with_reducible refine le_ext_add ?_))); done)) | ((with_reducible refine Below.setCell ?_ ?_ _); rotate_left; focus (((try dsimp only); repeat (first | omega | simp only [World.size_alloc, World.size_setCell, World.size_drew] | (with_reducible refine le_ext_of ?_) | (with_reducible refine le_ext_add ?_))); done)) | (with_reducible refine Below.drew ?_))))) hn HV.out).mono ?_; rintro e w1 ⟨rfl, y, rfl⟩)
    | (go_at_call 23; refine (tucked_any _ (HK.out.q.mm.below (by (repeat (first | (with_reducible exact Below.refl _ _) | (with_reducible assumption) | ((with_reducible refine below_ext_trans ?_ ?_ _); rotate_left; focus (((try dsimp only); repeat (first | omega | simp only [World.size_alloc, World.size_setCell, World.size_drew] | (with_reducible refine le_ext_of ?_) | (with_reducible refine le_ext_add ?_))); done)) | ((with_reducible refine Below.alloc ?_ ?_ _); rotate_left; focus (((try dsimp only); repeat (first | omega | simp only [World.size_alloc, World.size_setCell, World.size_drew] | (with_reducible refine le_ext_of ?_) | (with_reducible refine le_ext_add ?_))); done)) | ((with_reducible refine Below.setCell ?_ ?_ _); rotate_left; focus (((try dsimp only); repeat (first | omega | simp only [World.size_alloc, World.size_setCell, World.size_drew] | (with_reducible refine le_ext_of ?_) | (with_reducible refine le_ext_add ?_))); done)) | (with_reducible refine Below.drew ?_)))))).mono ?_; rintro e w1 ⟨rfl, y, rfl⟩))
  go_ret
  exact ⟨rfl, by (exact ext_of (by (repeat (first | (with_reducible exact Below.refl _ _) | (with_reducible assumption) | ((with_reducible refine below_ext_trans ?_ ?_ _); rotate_left; focus (((try dsimp only); repeat (first | omega | simp only [World.size_alloc, World.size_setCell, World.size_drew] | (with_reducible refine le_ext_of ?_) | (with_reducible refine le_ext_add ?_))); done)) | ((with_reducible refine Below.alloc ?_ ?_ _); rotate_left; focus (((try dsimp only); repeat (first | omega | simp only [World.size_alloc, World.size_setCell, World.size_drew] | (with_reducible refine le_ext_of ?_) | (with_reducible refine le_ext_add ?_))); done)) | ((with_reducible refine Below.setCell ?_ ?_ _); rotate_left; focus (((try dsimp only); repeat (first | omega | simp only [World.size_alloc, World.size_setCell, World.size_drew] | (with_reducible refine le_ext_of ?_) | (with_reducible refine le_ext_add ?_))); done)) | (with_reducible refine Below.drew ?_)))))⟩
set_option maxRecDepth 100000 in
set_option maxHeartbeats 8000000 in
theorem TideBest_ok (b : Tk) (p : Tp) (n : Int) (w : World) (hk : TB w b p) (hn : Hid (b.q.ns.length ≤ 9223372036854775807)) (hv : validB b = true) :
    Calls Tryz.prog 8 #[tv b p, .int .i64 n] w fun e w' => e = .returned (.bool true) ∧ ∃ x, w' = ext w x := by
  have HV := Lib.hid hv
  have h64 : (0 : Int) < ((2 ^ b.ts.length : Nat) : Int) := by have : 1 ≤ 2 ^ b.ts.length := Nat.one_le_two_pow; omega
  obtain ⟨z, hz⟩ := Int.eq_ofNat_of_zero_le (Int.emod_nonneg n (show ((2 ^ b.ts.length : Nat) : Int) ≠ 0 by omega))
  have HZ := Lib.hid hz
  have HPM := Lib.hid (drawT_plan (b := b) (L := bitsL z b.ts.length) hv (bitsL_rises _ _) (fun x hx => by obtain ⟨k, h1, -, rfl⟩ := mem_bitsL.1 hx; omega) (bitsL z b.ts.length).length).1
  have HMO := Lib.hid (of_validB hv).2.2.2.2.1.2
  clear hz h64 hv
  obtain ⟨H, hH⟩ : ∃ H, haulOf b = H := ⟨_, rfl⟩
  have HHB := Lib.hid hH
  have HHT := Lib.hid (show H.b = b from hH ▸ rfl)
  clear hH
  unfold tv
  go_enter Tryz.func8, Tryz.ntmps8
  go_upto_region 1 with fail
  generalize hW : w.alloc _ = W
  have HWW := Lib.hid (show Below w.heap.size w W by rw [← hW]; (repeat (first | (with_reducible exact Below.refl _ _) | (with_reducible assumption) | ((with_reducible refine below_ext_trans ?_ ?_ _); rotate_left; focus (((try dsimp only); repeat (first | omega | simp only [World.size_alloc, World.size_setCell, World.size_drew] | (with_reducible refine le_ext_of ?_) | (with_reducible refine le_ext_add ?_))); done)) | ((with_reducible refine Below.alloc ?_ ?_ _); rotate_left; focus (((try dsimp only); repeat (first | omega | simp only [World.size_alloc, World.size_setCell, World.size_drew] | (with_reducible refine le_ext_of ?_) | (with_reducible refine le_ext_add ?_))); done)) | ((with_reducible refine Below.setCell ?_ ?_ _); rotate_left; focus (((try dsimp only); repeat (first | omega | simp only [World.size_alloc, World.size_setCell, World.size_drew] | (with_reducible refine le_ext_of ?_) | (with_reducible refine le_ext_add ?_))); done)) | (with_reducible refine Below.drew ?_))))
  have KB := Lib.hid (show Blk W w.heap.size 29 (tcs b p) by rw [← hW]; exact Blk.new rfl)
  have HK1 := Lib.hid (hk.bel HWW.out)
  clear hW hk
  have kb := KB.out
  unfold tcs at kb
  (have d0 := Blk.cell kb 0; have d1 := Blk.cell kb 1; have d2 := Blk.cell kb 2; have d3 := Blk.cell kb 3; have d4 := Blk.cell kb 4; have d5 := Blk.cell kb 5; have d6 := Blk.cell kb 6; have d7 := Blk.cell kb 7; have d8 := Blk.cell kb 8; simp only [List.size_toArray, List.length_cons, List.length_nil, Nat.reduceAdd, Nat.reduceLT, getElem?_pos, List.getElem_toArray, List.getElem_cons_zero, List.getElem_cons_succ] at d0 d1 d2 d3 d4 d5 d6 d7 d8)
  have lb := kb.lt
  clear kb
  go_upto_region 3 with (go_at_call 35; refine (tsound_yes b p _ HK1.out hn HV.out).mono ?_; rintro e w1 ⟨rfl, y, hw⟩; have HWW := Lib.hid (show Below w.heap.size w w1 from HWW.out.trans (Below.mono (by rw [hw]; (repeat (first | (with_reducible exact Below.refl _ _) | (with_reducible refine bel_comp ?_) | (with_reducible refine bel_alloc ?_ _) | (with_reducible refine bel_ext ?_ _)))) HWW.out.size)); have HK1 := Lib.hid (show TB w1 b p from HK1.out.bel (by rw [hw]; (repeat (first | (with_reducible exact Below.refl _ _) | (with_reducible refine bel_comp ?_) | (with_reducible refine bel_alloc ?_ _) | (with_reducible refine bel_ext ?_ _))))); have KB := Lib.hid (show Blk w1 w.heap.size 29 (tcs b p) from KB.out.bel (by rw [hw]; (repeat (first | (with_reducible exact Below.refl _ _) | (with_reducible refine bel_comp ?_) | (with_reducible refine bel_alloc ?_ _) | (with_reducible refine bel_ext ?_ _))))); clear hw)
  clear d0 d1 d2 d3 d4 d5 d6 d7 d8 lb
  have kb := KB.out
  unfold tcs at kb
  (have d0 := Blk.cell kb 0; have d1 := Blk.cell kb 1; have d2 := Blk.cell kb 2; have d3 := Blk.cell kb 3; have d4 := Blk.cell kb 4; have d5 := Blk.cell kb 5; have d6 := Blk.cell kb 6; have d7 := Blk.cell kb 7; have d8 := Blk.cell kb 8; simp only [List.size_toArray, List.length_cons, List.length_nil, Nat.reduceAdd, Nat.reduceLT, getElem?_pos, List.getElem_toArray, List.getElem_cons_zero, List.getElem_cons_succ] at d0 d1 d2 d3 d4 d5 d6 d7 d8)
  have lb := kb.lt
  clear kb
  go_upto_region 4 with (go_at_call 31; refine (Best_yes b p H _ HK1.out hn HV.out HHB.out).mono ?_; rintro e w2 ⟨vb, pb, rfl, hpb, hbe, y, hw⟩; have HPB := Lib.hid hpb; have HBE := Lib.hid hbe; clear hpb hbe; have HWW := Lib.hid (show Below w.heap.size w w2 from HWW.out.trans (Below.mono (by rw [hw]; (repeat (first | (with_reducible exact Below.refl _ _) | (with_reducible refine bel_comp ?_) | (with_reducible refine bel_alloc ?_ _) | (with_reducible refine bel_ext ?_ _)))) HWW.out.size)); have HK1 := Lib.hid (show TB w2 b p from HK1.out.bel (by rw [hw]; (repeat (first | (with_reducible exact Below.refl _ _) | (with_reducible refine bel_comp ?_) | (with_reducible refine bel_alloc ?_ _) | (with_reducible refine bel_ext ?_ _))))); have KB := Lib.hid (show Blk w2 w.heap.size 29 (tcs b p) from KB.out.bel (by rw [hw]; (repeat (first | (with_reducible exact Below.refl _ _) | (with_reducible refine bel_comp ?_) | (with_reducible refine bel_alloc ?_ _) | (with_reducible refine bel_ext ?_ _))))); clear hw)
  clear d0 d1 d2 d3 d4 d5 d6 d7 d8 lb
  have kb := KB.out
  unfold tcs at kb
  (have d0 := Blk.cell kb 0; have d1 := Blk.cell kb 1; have d2 := Blk.cell kb 2; have d3 := Blk.cell kb 3; have d4 := Blk.cell kb 4; have d5 := Blk.cell kb 5; have d6 := Blk.cell kb 6; have d7 := Blk.cell kb 7; have d8 := Blk.cell kb 8; simp only [List.size_toArray, List.length_cons, List.length_nil, Nat.reduceAdd, Nat.reduceLT, getElem?_pos, List.getElem_toArray, List.getElem_cons_zero, List.getElem_cons_succ] at d0 d1 d2 d3 d4 d5 d6 d7 d8)
  have lb := kb.lt
  clear kb
  go_upto_region 5 with (go_at_call 37; refine (drawn_any b p n z _ HK1.out HV.out HZ.out).mono ?_; rintro e w3 ⟨vm, rfl, hpm, y, hw⟩; have HOM := Lib.hid hpm; clear hpm; have HWW := Lib.hid (show Below w.heap.size w w3 from HWW.out.trans (Below.mono (by rw [hw]; (repeat (first | (with_reducible exact Below.refl _ _) | (with_reducible refine bel_comp ?_) | (with_reducible refine bel_alloc ?_ _) | (with_reducible refine bel_ext ?_ _)))) HWW.out.size)); have HK1 := Lib.hid (show TB w3 b p from HK1.out.bel (by rw [hw]; (repeat (first | (with_reducible exact Below.refl _ _) | (with_reducible refine bel_comp ?_) | (with_reducible refine bel_alloc ?_ _) | (with_reducible refine bel_ext ?_ _))))); have KB := Lib.hid (show Blk w3 w.heap.size 29 (tcs b p) from KB.out.bel (by rw [hw]; (repeat (first | (with_reducible exact Below.refl _ _) | (with_reducible refine bel_comp ?_) | (with_reducible refine bel_alloc ?_ _) | (with_reducible refine bel_ext ?_ _))))); have HPB := Lib.hid (HPB.out.bel (show Below w2.heap.size w2 w3 by rw [hw]; (repeat (first | (with_reducible exact Below.refl _ _) | (with_reducible refine bel_comp ?_) | (with_reducible refine bel_alloc ?_ _) | (with_reducible refine bel_ext ?_ _))))); clear hw)
  clear d0 d1 d2 d3 d4 d5 d6 d7 d8 lb
  obtain ⟨ml, hml⟩ : ∃ ml, drawT b (bitsL z b.ts.length) (bitsL z b.ts.length).length = ml := ⟨_, rfl⟩
  rw [hml] at HOM HPM
  clear hml HZ
  have HPM2 := Lib.hid (show PlanAt w3 vm ml from plan_of_own HOM.out)
  have hl1 : (pb.length : Int) ≤ 6 := by have := plan_len HBE.out.1; rw [HHT.out] at this; have := HMO.out; omega
  have hl2 : (ml.length : Int) ≤ 6 := by have := plan_len HPM.out; have := HMO.out; omega
  obtain ⟨p1, c1, rfl, hI1, -⟩ := id HPB.out.1
  obtain ⟨p2, c2, rfl, hI2, -⟩ := id HPM2.out
  have HI1 := Lib.hid hI1
  have HI2 := Lib.hid hI2
  have HPB1 := Lib.hid HPB.out.1
  clear hI1 hI2 HOM HPB
  have HQB := Lib.hid (show planB b.ts b.most b.rest pb = true from HHT.out ▸ HBE.out.1)
  have kb := KB.out
  unfold tcs at kb
  (have d0 := Blk.cell kb 0; have d1 := Blk.cell kb 1; have d2 := Blk.cell kb 2; have d3 := Blk.cell kb 3; have d4 := Blk.cell kb 4; have d5 := Blk.cell kb 5; have d6 := Blk.cell kb 6; have d7 := Blk.cell kb 7; have d8 := Blk.cell kb 8; simp only [List.size_toArray, List.length_cons, List.length_nil, Nat.reduceAdd, Nat.reduceLT, getElem?_pos, List.getElem_toArray, List.getElem_cons_zero, List.getElem_cons_succ] at d0 d1 d2 d3 d4 d5 d6 d7 d8)
  have lb := kb.lt
  clear kb
  go_upto_region 6 with (go_at_call 21; refine (Lost_yes b p _ pb H _ HK1.out hn HPB1.out (by omega) HV.out HQB.out HHB.out).mono ?_; rintro e w4 ⟨rfl, y, hw⟩; have HWW := Lib.hid (show Below w.heap.size w w4 from HWW.out.trans (Below.mono (by rw [hw]; (repeat (first | (with_reducible exact Below.refl _ _) | (with_reducible refine bel_comp ?_) | (with_reducible refine bel_alloc ?_ _) | (with_reducible refine bel_ext ?_ _)))) HWW.out.size)); have HK1 := Lib.hid (show TB w4 b p from HK1.out.bel (by rw [hw]; (repeat (first | (with_reducible exact Below.refl _ _) | (with_reducible refine bel_comp ?_) | (with_reducible refine bel_alloc ?_ _) | (with_reducible refine bel_ext ?_ _))))); have KB := Lib.hid (show Blk w4 w.heap.size 29 (tcs b p) from KB.out.bel (by rw [hw]; (repeat (first | (with_reducible exact Below.refl _ _) | (with_reducible refine bel_comp ?_) | (with_reducible refine bel_alloc ?_ _) | (with_reducible refine bel_ext ?_ _))))); have HPM2 := Lib.hid (HPM2.out.bel (show Below w3.heap.size w3 w4 by rw [hw]; (repeat (first | (with_reducible exact Below.refl _ _) | (with_reducible refine bel_comp ?_) | (with_reducible refine bel_alloc ?_ _) | (with_reducible refine bel_ext ?_ _))))); have HI1 := Lib.hid (HI1.out.below (show Below w3.heap.size w3 w4 by rw [hw]; (repeat (first | (with_reducible exact Below.refl _ _) | (with_reducible refine bel_comp ?_) | (with_reducible refine bel_alloc ?_ _) | (with_reducible refine bel_ext ?_ _))))); have HI2 := Lib.hid (HI2.out.below (show Below w3.heap.size w3 w4 by rw [hw]; (repeat (first | (with_reducible exact Below.refl _ _) | (with_reducible refine bel_comp ?_) | (with_reducible refine bel_alloc ?_ _) | (with_reducible refine bel_ext ?_ _))))); clear hw)
  clear d0 d1 d2 d3 d4 d5 d6 d7 d8 lb
  generalize hW : w4.alloc _ = W5
  have hw : W5 = w4.alloc _ := hW.symm
  have KS := Lib.hid (show Blk W5 w4.heap.size 23 #[.int .i64 (ansLo H 1 pb), .int .i64 (ansHi H 1 pb)] by rw [← hW]; exact Blk.new rfl)
  clear hW
  have HWW := Lib.hid (show Below w.heap.size w W5 from HWW.out.trans (Below.mono (by rw [hw]; (repeat (first | (with_reducible exact Below.refl _ _) | (with_reducible refine bel_comp ?_) | (with_reducible refine bel_alloc ?_ _) | (with_reducible refine bel_ext ?_ _)))) HWW.out.size))
  have HK1 := Lib.hid (show TB W5 b p from HK1.out.bel (by rw [hw]; (repeat (first | (with_reducible exact Below.refl _ _) | (with_reducible refine bel_comp ?_) | (with_reducible refine bel_alloc ?_ _) | (with_reducible refine bel_ext ?_ _)))))
  have KB := Lib.hid (show Blk W5 w.heap.size 29 (tcs b p) from KB.out.bel (by rw [hw]; (repeat (first | (with_reducible exact Below.refl _ _) | (with_reducible refine bel_comp ?_) | (with_reducible refine bel_alloc ?_ _) | (with_reducible refine bel_ext ?_ _)))))
  have HPM2 := Lib.hid (HPM2.out.bel (show Below w4.heap.size w4 W5 by rw [hw]; (repeat (first | (with_reducible exact Below.refl _ _) | (with_reducible refine bel_comp ?_) | (with_reducible refine bel_alloc ?_ _) | (with_reducible refine bel_ext ?_ _)))))
  have HI1 := Lib.hid (HI1.out.below (show Below w4.heap.size w4 W5 by rw [hw]; (repeat (first | (with_reducible exact Below.refl _ _) | (with_reducible refine bel_comp ?_) | (with_reducible refine bel_alloc ?_ _) | (with_reducible refine bel_ext ?_ _)))))
  have HI2 := Lib.hid (HI2.out.below (show Below w4.heap.size w4 W5 by rw [hw]; (repeat (first | (with_reducible exact Below.refl _ _) | (with_reducible refine bel_comp ?_) | (with_reducible refine bel_alloc ?_ _) | (with_reducible refine bel_ext ?_ _)))))
  clear hw
  generalize w4.heap.size = g8 at *
  have kb := KB.out
  unfold tcs at kb
  (have d0 := Blk.cell kb 0; have d1 := Blk.cell kb 1; have d2 := Blk.cell kb 2; have d3 := Blk.cell kb 3; have d4 := Blk.cell kb 4; have d5 := Blk.cell kb 5; have d6 := Blk.cell kb 6; have d7 := Blk.cell kb 7; have d8 := Blk.cell kb 8; simp only [List.size_toArray, List.length_cons, List.length_nil, Nat.reduceAdd, Nat.reduceLT, getElem?_pos, List.getElem_toArray, List.getElem_cons_zero, List.getElem_cons_succ] at d0 d1 d2 d3 d4 d5 d6 d7 d8)
  have lb := kb.lt
  clear kb
  go_upto_region 7 with (go_at_call 21; refine (Lost_yes b p _ ml H _ HK1.out hn HPM2.out (by omega) HV.out HPM.out HHB.out).mono ?_; rintro e w6 ⟨rfl, y, hw⟩; have HWW := Lib.hid (show Below w.heap.size w w6 from HWW.out.trans (Below.mono (by rw [hw]; (repeat (first | (with_reducible exact Below.refl _ _) | (with_reducible refine bel_comp ?_) | (with_reducible refine bel_alloc ?_ _) | (with_reducible refine bel_ext ?_ _)))) HWW.out.size)); have HK1 := Lib.hid (show TB w6 b p from HK1.out.bel (by rw [hw]; (repeat (first | (with_reducible exact Below.refl _ _) | (with_reducible refine bel_comp ?_) | (with_reducible refine bel_alloc ?_ _) | (with_reducible refine bel_ext ?_ _))))); have KB := Lib.hid (show Blk w6 w.heap.size 29 (tcs b p) from KB.out.bel (by rw [hw]; (repeat (first | (with_reducible exact Below.refl _ _) | (with_reducible refine bel_comp ?_) | (with_reducible refine bel_alloc ?_ _) | (with_reducible refine bel_ext ?_ _))))); have HPM2 := Lib.hid (HPM2.out.bel (show Below W5.heap.size W5 w6 by rw [hw]; (repeat (first | (with_reducible exact Below.refl _ _) | (with_reducible refine bel_comp ?_) | (with_reducible refine bel_alloc ?_ _) | (with_reducible refine bel_ext ?_ _))))); have HI1 := Lib.hid (HI1.out.below (show Below W5.heap.size W5 w6 by rw [hw]; (repeat (first | (with_reducible exact Below.refl _ _) | (with_reducible refine bel_comp ?_) | (with_reducible refine bel_alloc ?_ _) | (with_reducible refine bel_ext ?_ _))))); have HI2 := Lib.hid (HI2.out.below (show Below W5.heap.size W5 w6 by rw [hw]; (repeat (first | (with_reducible exact Below.refl _ _) | (with_reducible refine bel_comp ?_) | (with_reducible refine bel_alloc ?_ _) | (with_reducible refine bel_ext ?_ _))))); have KS := Lib.hid (KS.out.bel (show Below W5.heap.size W5 w6 by rw [hw]; (repeat (first | (with_reducible exact Below.refl _ _) | (with_reducible refine bel_comp ?_) | (with_reducible refine bel_alloc ?_ _) | (with_reducible refine bel_ext ?_ _))))); clear hw)
  clear d0 d1 d2 d3 d4 d5 d6 d7 d8 lb
  generalize hW : w6.alloc _ = W7
  have hw : W7 = w6.alloc _ := hW.symm
  have KT := Lib.hid (show Blk W7 w6.heap.size 23 #[.int .i64 (ansLo H 1 ml), .int .i64 (ansHi H 1 ml)] by rw [← hW]; exact Blk.new rfl)
  have KS := Lib.hid (show Blk W7 g8 23 #[.int .i64 (ansLo H 1 pb), .int .i64 (ansHi H 1 pb)] from KS.out.bel (show Below w6.heap.size w6 W7 by rw [hw]; (repeat (first | (with_reducible exact Below.refl _ _) | (with_reducible refine bel_comp ?_) | (with_reducible refine bel_alloc ?_ _) | (with_reducible refine bel_ext ?_ _)))))
  clear hW
  have HWW := Lib.hid (show Below w.heap.size w W7 from HWW.out.trans (Below.mono (by rw [hw]; (repeat (first | (with_reducible exact Below.refl _ _) | (with_reducible refine bel_comp ?_) | (with_reducible refine bel_alloc ?_ _) | (with_reducible refine bel_ext ?_ _)))) HWW.out.size))
  have HK1 := Lib.hid (show TB W7 b p from HK1.out.bel (by rw [hw]; (repeat (first | (with_reducible exact Below.refl _ _) | (with_reducible refine bel_comp ?_) | (with_reducible refine bel_alloc ?_ _) | (with_reducible refine bel_ext ?_ _)))))
  have KB := Lib.hid (show Blk W7 w.heap.size 29 (tcs b p) from KB.out.bel (by rw [hw]; (repeat (first | (with_reducible exact Below.refl _ _) | (with_reducible refine bel_comp ?_) | (with_reducible refine bel_alloc ?_ _) | (with_reducible refine bel_ext ?_ _)))))
  have HPM2 := Lib.hid (HPM2.out.bel (show Below w6.heap.size w6 W7 by rw [hw]; (repeat (first | (with_reducible exact Below.refl _ _) | (with_reducible refine bel_comp ?_) | (with_reducible refine bel_alloc ?_ _) | (with_reducible refine bel_ext ?_ _)))))
  have HI1 := Lib.hid (HI1.out.below (show Below w6.heap.size w6 W7 by rw [hw]; (repeat (first | (with_reducible exact Below.refl _ _) | (with_reducible refine bel_comp ?_) | (with_reducible refine bel_alloc ?_ _) | (with_reducible refine bel_ext ?_ _)))))
  have HI2 := Lib.hid (HI2.out.below (show Below w6.heap.size w6 W7 by rw [hw]; (repeat (first | (with_reducible exact Below.refl _ _) | (with_reducible refine bel_comp ?_) | (with_reducible refine bel_alloc ?_ _) | (with_reducible refine bel_ext ?_ _)))))
  clear hw
  generalize w6.heap.size = g10 at *
  obtain ⟨hle, hfe⟩ := best_less HBE.out (show planB H.b.ts H.b.most H.b.rest ml = true from HHT.out.symm ▸ HPM.out)
  generalize ansHi H 1 pb = x at *
  generalize ansHi H 1 ml = u at *
  have ks := KS.out
  have kt := KT.out
  (have a0 := Blk.cell ks 0; have a1 := Blk.cell ks 1; simp only [List.size_toArray, List.length_cons, List.length_nil, Nat.reduceAdd, Nat.reduceLT, getElem?_pos, List.getElem_toArray, List.getElem_cons_zero, List.getElem_cons_succ] at a0 a1)
  (have c0 := Blk.cell kt 0; have c1 := Blk.cell kt 1; simp only [List.size_toArray, List.length_cons, List.length_nil, Nat.reduceAdd, Nat.reduceLT, getElem?_pos, List.getElem_toArray, List.getElem_cons_zero, List.getElem_cons_succ] at c0 c1)
  have la := ks.lt
  have lc := kt.lt
  clear ks kt
  have HMM := Lib.hid HK1.out.q.mm
  by_cases hlt : x < u
  · have hd : decide (x < u) = true := by simpa using hlt
    go_wp2_with (go_at_call 23; refine (tucked_any _ (HMM.out.below (by (repeat (first | (with_reducible exact Below.refl _ _) | (with_reducible refine bel_comp ?_) | (with_reducible refine bel_alloc ?_ _) | (with_reducible refine bel_ext ?_ _)))))).mono ?_; rintro e w9 ⟨rfl, y, hw⟩)
    go_ret
    exact ⟨rfl, ext_of (HWW.out.trans (Below.mono (by first | (rw [hw]; (repeat (first | (with_reducible exact Below.refl _ _) | (with_reducible refine bel_comp ?_) | (with_reducible refine bel_alloc ?_ _) | (with_reducible refine bel_ext ?_ _)))) | (repeat (first | (with_reducible exact Below.refl _ _) | (with_reducible refine bel_comp ?_) | (with_reducible refine bel_alloc ?_ _) | (with_reducible refine bel_ext ?_ _)))) HWW.out.size))⟩
  · have hd : decide (x < u) = false := by simpa using hlt
    obtain rfl : x = u := by omega
    have HF := Lib.hid (hfe rfl)
    go_wp2_with (first
      | (go_at_call 43; refine (Fewer_eq _ _ _ _ ml pb _ _ _ HI2.out HI1.out (by omega) rfl rfl).mono ?_; rintro e w8 ⟨rfl, y, hw⟩; rw [HF.out]; have HMM := Lib.hid (show MM w8 from HMM.out.below (by rw [hw]; (repeat (first | (with_reducible exact Below.refl _ _) | (with_reducible refine bel_comp ?_) | (with_reducible refine bel_alloc ?_ _) | (with_reducible refine bel_ext ?_ _))))); have HWW := Lib.hid (show Below w.heap.size w w8 from HWW.out.trans (Below.mono (by rw [hw]; (repeat (first | (with_reducible exact Below.refl _ _) | (with_reducible refine bel_comp ?_) | (with_reducible refine bel_alloc ?_ _) | (with_reducible refine bel_ext ?_ _)))) HWW.out.size)); clear hw)
      | (go_at_call 23; refine (tucked_any _ (HMM.out.below (by (repeat (first | (with_reducible exact Below.refl _ _) | (with_reducible refine bel_comp ?_) | (with_reducible refine bel_alloc ?_ _) | (with_reducible refine bel_ext ?_ _)))))).mono ?_; rintro e w9 ⟨rfl, y, hw⟩))
    go_ret
    exact ⟨rfl, ext_of (HWW.out.trans (Below.mono (by first | (rw [hw]; (repeat (first | (with_reducible exact Below.refl _ _) | (with_reducible refine bel_comp ?_) | (with_reducible refine bel_alloc ?_ _) | (with_reducible refine bel_ext ?_ _)))) | (repeat (first | (with_reducible exact Below.refl _ _) | (with_reducible refine bel_comp ?_) | (with_reducible refine bel_alloc ?_ _) | (with_reducible refine bel_ext ?_ _)))) HWW.out.size))⟩
theorem TideBest_any (b : Tk) (p : Tp) (n : Int) (w : World) (hk : TB w b p) (hn : Hid (b.q.ns.length ≤ 9223372036854775807)) :
    Calls Tryz.prog 8 #[tv b p, .int .i64 n] w fun e w' => e = .returned (.bool true) ∧ ∃ x, w' = ext w x := by
  cases hv : validB b
  · exact TideBest_bad b p n w hk hn hv
  · exact TideBest_ok b p n w hk hn hv
end Go.Proofs.YtcaeohgbgeadaaaGreatDoor

