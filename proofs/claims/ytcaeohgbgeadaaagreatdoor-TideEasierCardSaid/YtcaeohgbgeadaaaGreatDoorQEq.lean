/- For the laws of package tide: the chapter's examples. Written by gen_tucked.py. -/
/- For the laws of package tide: sound. -/
import Derived.Test.YtcaeohgbgeadaaaGreatDoorQEn
import Derived.BigQuiet
import Derived.RegionTactic
import Derived.Deep.DeepCutAuto
set_option linter.unusedSimpArgs false
set_option linter.unusedVariables false
namespace Go.Proofs.YtcaeohgbgeadaaaGreatDoor
open Go Go.RowKit Go.Shelf
theorem ints_two {w : World} {g : Nat} {x y : Int} (k : Blk w g 3 #[.int .i64 x, .int .i64 y]) : IntsAt w (some ⟨g, 0, none⟩) [x, y] := fun i z hi => by
  match i, hi with
  | 0, hi => simp at hi; subst hi; exact ⟨g, 0, rfl, k.lt, by rw [k.cell]; rfl⟩
  | 1, hi => simp at hi; subst hi; exact ⟨g, 0, rfl, k.lt, by rw [k.cell]; rfl⟩
  | i + 2, hi => simp at hi
theorem plan_two {w : World} {g : Nat} {x y : Int} (k : Blk w g 3 #[.int .i64 x, .int .i64 y]) : PlanAt w (.slice (some ⟨g, 0, none⟩) 2 2) [x, y] :=
  ⟨some ⟨g, 0, none⟩, 2, rfl, ints_two k, by simp, fun a ha => by cases ha; exact ⟨⟨g, 0, rfl⟩, k.lt⟩, fun e => by cases e⟩
theorem sameT (l : List Int) (p q : Option Addr) (c d : Nat) (w : World) (hl : IntsAt w p l) (hm : IntsAt w q l) (hb : (l.length : Int) ≤ 1000) {args : Array Value} (hx : args = #[.slice p l.length c, .slice q l.length d]) :
    Calls Tryz.prog 30 args w fun e w' => e = .returned (.bool true) ∧ ∃ x, w' = ext w x := hx ▸
  (Same_any p q c d l l w hl hm hb hb).mono fun e w' ⟨h1, h2⟩ => by rw [decide_eq_true rfl] at h1; exact ⟨h1, h2⟩
theorem net_len {lo hi rest : Int} : Hid ((bookT lo hi rest).q.ns.length ≤ 9223372036854775807) := Lib.hid (by simp)
theorem outT (gn gt gp : Nat) (w : World) (hm : MM w) (h1 : Blk w gn 75 noteCs) (h2 : Blk w gt 69 lowCs) (h3 : Blk w gp 3 #[.int .i64 0, .int .i64 2]) :
    Calls Tryz.prog 19 #[tv (bookT 34 40 8) (tpT gn gt), .slice (some ⟨gp, 0, none⟩) 2 2] w fun e w' => e = .returned (.tuple #[.agg #[.int .i64 20, .int .i64 40], .int .i64 0]) ∧ ∃ x, w' = ext w x :=
  (Out_yes _ _ _ [0, 2] _ w (TB_T hm h1 h2) net_len (plan_two h3) (by decide) own_ok own_02 (haul_T _ _ _)).mono fun e w' ⟨h1, h2⟩ => by
    rw [v_out.1, v_out.2] at h1; exact ⟨h1, h2⟩
theorem lostT (gn gt gp : Nat) (w : World) (hm : MM w) (h1 : Blk w gn 75 noteCs) (h2 : Blk w gt 69 lowCs) (h3 : Blk w gp 3 #[.int .i64 0, .int .i64 2]) :
    Calls Tryz.prog 21 #[tv (bookT 34 40 8) (tpT gn gt), .slice (some ⟨gp, 0, none⟩) 2 2] w fun e w' => e = .returned (.tuple #[.agg #[.int .i64 15, .int .i64 35], .int .i64 0]) ∧ ∃ x, w' = ext w x :=
  (Lost_yes _ _ _ [0, 2] _ w (TB_T hm h1 h2) net_len (plan_two h3) (by decide) own_ok own_02 (haul_T _ _ _)).mono fun e w' ⟨h1, h2⟩ => by
    rw [v_lost.1, v_lost.2] at h1; exact ⟨h1, h2⟩
theorem leftT (gn gt gp : Nat) (w : World) (hm : MM w) (h1 : Blk w gn 75 noteCs) (h2 : Blk w gt 69 lowCs) (h3 : Blk w gp 3 #[.int .i64 0, .int .i64 1]) :
    Calls Tryz.prog 24 #[tv (bookT 34 40 6) (tpT gn gt), .slice (some ⟨gp, 0, none⟩) 2 2] w fun e w' => e = .returned (.tuple #[.agg #[.int .i64 0, .int .i64 4], .int .i64 0]) ∧ ∃ x, w' = ext w x :=
  (Left_yes _ _ _ [0, 1] _ w (TB_T hm h1 h2) net_len (plan_two h3) (by decide) quick_ok quick_01 (haul_T _ _ _)).mono fun e w' ⟨h1, h2⟩ => by
    rw [v_left.1, v_left.2] at h1; exact ⟨h1, h2⟩
theorem mendT (gn gt gp : Nat) (w : World) (hm : MM w) (h1 : Blk w gn 75 noteCs) (h2 : Blk w gt 69 lowCs) (h3 : Blk w gp 3 #[.int .i64 0, .int .i64 2]) :
    Calls Tryz.prog 26 #[tv (bookT 34 40 8) (tpT gn gt), .slice (some ⟨gp, 0, none⟩) 2 2] w fun e w' => e = .returned (.tuple #[.agg #[.int .i64 20, .int .i64 47], .int .i64 0]) ∧ ∃ x, w' = ext w x :=
  (Mended_yes _ _ _ [0, 2] _ w (TB_T hm h1 h2) net_len (plan_two h3) (by decide) own_ok own_02 (haul_T _ _ _)).mono fun e w' ⟨h1, h2⟩ => by
    rw [v_mended.1, v_mended.2] at h1; exact ⟨h1, h2⟩
theorem isplT (gn gt gp : Nat) (w : World) (hm : MM w) (h1 : Blk w gn 75 noteCs) (h2 : Blk w gt 69 lowCs) (h3 : Blk w gp 3 #[.int .i64 0, .int .i64 2]) :
    Calls Tryz.prog 15 #[tv (bookT 34 40 8) (tpT gn gt), .slice (some ⟨gp, 0, none⟩) 2 2] w fun e w' => e = .returned (.tuple #[.bool true, .int .i64 0]) ∧ ∃ x, w' = ext w x :=
  IsPlan_is _ _ _ [0, 2] true w (TB_T hm h1 h2) net_len (plan_two h3) (by decide) own_ok own_02
theorem spareT (gn gt gp : Nat) (w : World) (hm : MM w) (h1 : Blk w gn 75 noteCs) (h2 : Blk w gt 69 lowCs) (h3 : Blk w gp 3 #[.int .i64 0, .int .i64 2]) :
    Calls Tryz.prog 28 #[tv (bookT 34 40 8) (tpT gn gt), .slice (some ⟨gp, 0, none⟩) 2 2] w fun e w' => ∃ (p : Option Addr) (c : Nat), e = .returned (.tuple #[.slice p 1 c, .int .i64 0]) ∧ IntsAt w' p [2] ∧ ∃ x, w' = ext w x :=
  (Spare_yes _ _ _ [0, 2] _ w (TB_T hm h1 h2) net_len (plan_two h3) (by decide) own_ok own_02 (haul_T _ _ _)).mono fun e w' ⟨v', h1, h2, h3⟩ => by
    obtain ⟨p, c, rfl, h4, -⟩ := h2.at
    rw [show sprL (hlT 34 40 8) [0, 2] [(0 : Int), 2].length = [2] from v_spare] at h1 h4
    exact ⟨p, c, h1, h4, h3⟩
theorem bestT (gn gt : Nat) (w : World) (hm : MM w) (h1 : Blk w gn 75 noteCs) (h2 : Blk w gt 69 lowCs) :
    Calls Tryz.prog 31 #[tv (bookT 38 40 8) (tpT gn gt)] w fun e w' => ∃ (p : Option Addr) (c : Nat), e = .returned (.tuple #[.slice p 2 c, .int .i64 0]) ∧ IntsAt w' p [0, 2] ∧ ∃ x, w' = ext w x :=
  (Best_yes _ _ _ w (TB_T hm h1 h2) net_len late_ok (haul_T _ _ _)).mono fun e w' ⟨v', pb, h1, h2, h3, h4⟩ => by
    obtain rfl := h3.uniq best_T
    obtain ⟨⟨p, c, rfl, hi, -⟩, -⟩ := h2
    exact ⟨p, c, h1, hi, h4⟩
theorem calmT (gn gt : Nat) (w : World) (hm : MM w) (h1 : Blk w gn 75 noteCs) (h2 : Blk w gt 69 lowCs) :
    Calls Tryz.prog 33 #[tv (bookT 34 40 8) (tpT gn gt)] w fun e w' => e = .returned (.tuple #[.int .i64 41, .int .i64 0]) ∧ ∃ x, w' = ext w x :=
  (Calm_yes _ _ _ w (TB_T hm h1 h2) net_len own_ok (haul_T _ _ _)).mono fun e w' ⟨n, k, h1, h2, h3⟩ => by
    obtain ⟨rfl, rfl⟩ := calm_T h2
    exact ⟨h1, h3⟩
set_option maxRecDepth 100000 in
set_option maxHeartbeats 8000000 in
theorem tucked_any (w : World) (hn : MM w) : Calls Tryz.prog 23 #[] w fun e w' => e = .returned (.bool true) ∧ ∃ x, w' = ext w x := by
  have HN := Lib.hid hn
  clear hn
  go_enter Tryz.func23, Tryz.ntmps23
  go_upto_region 6 with (first
    | (go_at_call 71; refine (ownT_any _).mono ?_; rintro e w1 ⟨gn, gt, rfl, -, hN1, hT1, y, rfl⟩; have KN1 := Lib.hid hN1; have KT1 := Lib.hid hT1; clear hN1 hT1)
    | (go_at_call 72; refine (quickT_any _).mono ?_; rintro e w1 ⟨gn, gt, rfl, -, hN1, hT1, y, rfl⟩; have KN1 := Lib.hid hN1; have KT1 := Lib.hid hT1; clear hN1 hT1)
    | (go_at_call 19; refine (outT gn gt _ _ (HN.out.below belC) (KN1.out.alloc _) (KT1.out.alloc _) (Blk.new rfl)).mono ?_; rintro e w1 ⟨rfl, y, rfl⟩; clear KN1 KT1)
    | (go_at_call 21; refine (lostT gn gt _ _ (HN.out.below belC) (KN1.out.alloc _) (KT1.out.alloc _) (Blk.new rfl)).mono ?_; rintro e w1 ⟨rfl, y, rfl⟩; clear KN1 KT1)
    | (go_at_call 24; refine (leftT gn gt _ _ (HN.out.below belC) (KN1.out.alloc _) (KT1.out.alloc _) (Blk.new rfl)).mono ?_; rintro e w1 ⟨rfl, y, rfl⟩; clear KN1 KT1)
    | (go_at_call 26; refine (mendT gn gt _ _ (HN.out.below belC) (KN1.out.alloc _) (KT1.out.alloc _) (Blk.new rfl)).mono ?_; rintro e w1 ⟨rfl, y, rfl⟩; clear KN1 KT1)
    | (go_at_call 15; refine (isplT gn gt _ _ (HN.out.below belC) (KN1.out.alloc _) (KT1.out.alloc _) (Blk.new rfl)).mono ?_; rintro e w1 ⟨rfl, y, rfl⟩; clear KN1 KT1))
  generalize hW : ext (World.alloc (ext (World.alloc (ext (World.alloc (ext (World.alloc (ext (World.alloc (ext (World.alloc (ext (World.alloc (ext (World.alloc (ext (World.alloc (ext (w) _) _) _) _) _) _) _) _) _) _) _) _) _) _) _) _) _) _) _ = W0
  generalize hg4 : (ext (World.alloc (ext (World.alloc (ext (World.alloc (ext (World.alloc (ext (World.alloc (ext (World.alloc (ext (World.alloc (ext (w) _) _) _) _) _) _) _) _) _) _) _) _) _) _) _).heap.size = g4
  generalize hg3 : (ext (World.alloc (ext (World.alloc (ext (World.alloc (ext (World.alloc (ext (World.alloc (ext (w) _) _) _) _) _) _) _) _) _) _) _).heap.size = g3
  generalize hg2 : (ext (World.alloc (ext (World.alloc (ext (World.alloc (ext (w) _) _) _) _) _) _) _).heap.size = g2
  generalize hg1 : (ext (World.alloc (ext (w) _) _) _).heap.size = g1
  have HN2 := Lib.hid (show MM W0 by rw [← hW]; exact HN.out.below belC)
  have HW := Lib.hid (show Below w.heap.size w W0 by rw [← hW]; (exact belC))
  have k1 : Blk W0 g1 23 #[.int .i64 20, .int .i64 40] := by rw [← hW]; exact ((((((((((((((((Blk.new hg1.symm)).ext _).alloc _).ext _).alloc _).ext _).alloc _).ext _).alloc _).ext _).alloc _).ext _).alloc _).ext _).alloc _).ext _
  have k2 : Blk W0 g2 23 #[.int .i64 15, .int .i64 35] := by rw [← hW]; exact ((((((((((((Blk.new hg2.symm)).ext _).alloc _).ext _).alloc _).ext _).alloc _).ext _).alloc _).ext _).alloc _).ext _
  have k3 : Blk W0 g3 23 #[.int .i64 0, .int .i64 4] := by rw [← hW]; exact ((((((((Blk.new hg3.symm)).ext _).alloc _).ext _).alloc _).ext _).alloc _).ext _
  have k4 : Blk W0 g4 23 #[.int .i64 20, .int .i64 47] := by rw [← hW]; exact ((((Blk.new hg4.symm)).ext _).alloc _).ext _
  have a1 := k1.cell 0
  have b1 := k1.cell 1
  have l1 := k1.lt
  have a2 := k2.cell 0
  have b2 := k2.cell 1
  have l2 := k2.lt
  have a3 := k3.cell 0
  have b3 := k3.cell 1
  have l3 := k3.lt
  have a4 := k4.cell 0
  have b4 := k4.cell 1
  have l4 := k4.lt
  simp only [List.size_toArray, List.length_cons, List.length_nil, Nat.reduceAdd, Nat.reduceLT, getElem?_pos, List.getElem_toArray, List.getElem_cons_zero, List.getElem_cons_succ] at a1 a2 a3 a4 b1 b2 b3 b4
  clear hW hg1 hg2 hg3 hg4 k1 k2 k3 k4 HN
  refine wp_region_ext (by kernel_rfl) (by kernel_rfl) ?_
  repeat (go_big_quiet_step (first | (go_at_call 48; exact quiet_ext (To_any _ _ _))))
  (refine wpQuiet_nil ?_; rintro _ ⟨x, rfl⟩)
  clear a1 a2 a3 a4 b1 b2 b3 b4 l1 l2 l3 l4
  generalize hW6 : ext W0 _ = W6
  have HNW := Lib.hid (show MM W6 by rw [← hW6]; exact HN2.out.below belC)
  have HWW := Lib.hid (show Below w.heap.size w W6 by rw [← hW6]; exact HW.out.trans ((below_ext _ _).mono HW.out.size))
  clear hW6 HN2 HW
  go_wp2_with (first
    | (go_at_call 71; refine (ownT_any _).mono ?_; rintro e w1 ⟨gn, gt, rfl, -, hN1, hT1, y, hw⟩; have KN1 := Lib.hid hN1; have KT1 := Lib.hid hT1; clear hN1 hT1; (try have HPB := Lib.hid (show IntsAt w1 pb [0, 2] from HPB.out.below (by rw [hw]; (exact belC)))); (try have HPS := Lib.hid (show IntsAt w1 ps [2] from HPS.out.below (by rw [hw]; (exact belC)))); have HWW := Lib.hid (show Below w.heap.size w w1 from HWW.out.trans (Below.mono (by rw [hw]; (exact belC)) HWW.out.size)); have HNW := Lib.hid (show MM w1 from HNW.out.below (by rw [hw]; (exact belC))); clear hw)
    | (go_at_call 73; refine (lateT_any _).mono ?_; rintro e w1 ⟨gn, gt, rfl, -, hN1, hT1, y, hw⟩; have KN1 := Lib.hid hN1; have KT1 := Lib.hid hT1; clear hN1 hT1; (try have HPB := Lib.hid (show IntsAt w1 pb [0, 2] from HPB.out.below (by rw [hw]; (exact belC)))); (try have HPS := Lib.hid (show IntsAt w1 ps [2] from HPS.out.below (by rw [hw]; (exact belC)))); have HWW := Lib.hid (show Below w.heap.size w w1 from HWW.out.trans (Below.mono (by rw [hw]; (exact belC)) HWW.out.size)); have HNW := Lib.hid (show MM w1 from HNW.out.below (by rw [hw]; (exact belC))); clear hw)
    | (go_at_call 31; refine (bestT gn gt _ HNW.out KN1.out KT1.out).mono ?_; rintro e w1 ⟨pb, cb, rfl, hpb, y, hw⟩; have HPB := Lib.hid hpb; clear KN1 KT1 hpb; have HWW := Lib.hid (show Below w.heap.size w w1 from HWW.out.trans (Below.mono (by rw [hw]; (exact belC)) HWW.out.size)); have HNW := Lib.hid (show MM w1 from HNW.out.below (by rw [hw]; (exact belC))); clear hw)
    | (go_at_call 33; refine (calmT gn gt _ HNW.out KN1.out KT1.out).mono ?_; rintro e w1 ⟨rfl, y, hw⟩; clear KN1 KT1; have HPB := Lib.hid (show IntsAt w1 pb [0, 2] from HPB.out.below (by rw [hw]; (exact belC))); have HPS := Lib.hid (show IntsAt w1 ps [2] from HPS.out.below (by rw [hw]; (exact belC))); have HWW := Lib.hid (show Below w.heap.size w w1 from HWW.out.trans (Below.mono (by rw [hw]; (exact belC)) HWW.out.size)); have HNW := Lib.hid (show MM w1 from HNW.out.below (by rw [hw]; (exact belC))); clear hw)
    | (go_at_call 28; refine (spareT gn gt _ _ (HNW.out.below belC) (KN1.out.alloc _) (KT1.out.alloc _) (Blk.new rfl)).mono ?_; rintro e w1 ⟨ps, cs, rfl, hps, y, hw⟩; clear KN1 KT1; have HPS := Lib.hid hps; clear hps; have HPB := Lib.hid (show IntsAt w1 pb [0, 2] from HPB.out.below (by rw [hw]; (exact belC))); have HWW := Lib.hid (show Below w.heap.size w w1 from HWW.out.trans (Below.mono (by rw [hw]; (exact belC)) HWW.out.size)); have HNW := Lib.hid (show MM w1 from HNW.out.below (by rw [hw]; (exact belC))); clear hw)
    | (go_at_call 30; refine (sameT [0, 2] pb _ cb 2 _ ?_ ?_ (by decide) (by rfl)).mono ?_; exact HPB.out.below belC; exact ints_two (Blk.new rfl); rintro e w1 ⟨rfl, y, hw⟩; have HPS := Lib.hid (show IntsAt w1 ps [2] from HPS.out.below (by rw [hw]; (exact belC))); have HWW := Lib.hid (show Below w.heap.size w w1 from HWW.out.trans (Below.mono (by rw [hw]; (exact belC)) HWW.out.size)); have HNW := Lib.hid (show MM w1 from HNW.out.below (by rw [hw]; (exact belC))); clear hw)
    | (go_at_call 30; refine (sameT [2] ps _ cs 1 _ ?_ ?_ (by decide) (by rfl)).mono ?_; exact HPS.out.below belC; exact ints_one (Blk.new rfl); rintro e w1 ⟨rfl, y, hw⟩; have HWW := Lib.hid (show Below w.heap.size w w1 from HWW.out.trans (Below.mono (by rw [hw]; (exact belC)) HWW.out.size)); have HNW := Lib.hid (show MM w1 from HNW.out.below (by rw [hw]; (exact belC))); clear hw))
  go_ret
  exact ⟨rfl, ext_of HWW.out⟩
end Go.Proofs.YtcaeohgbgeadaaaGreatDoor

namespace Go.Proofs.YtcaeohgbgeadaaaGreatDoor
open Go Go.RowKit Go.Shelf
attribute [local go_sem] Oper.semAt_some frozen_alloc_lt
set_option maxRecDepth 100000 in
set_option maxHeartbeats 2000000 in
theorem tsound_no (b : Tk) (p : Tp) (w : World) (hk : TB w b p) (hn : Hid (b.q.ns.length ≤ 9223372036854775807)) (hv : validB b = false) :
    Calls Tryz.prog 35 #[tv b p] w fun e w' => e = .returned (.bool false) ∧ ∃ x, w' = ext w x := by
  have HK := Lib.hid hk
  have HV := Lib.hid hv
  clear hk hv
  unfold tv
  go_enter Tryz.func35, Tryz.ntmps35
  go_wp2_with (go_at_call 17; refine (tCheck_eq b p _ _ (HK.out.bel belA) hn HV.out).mono ?_; rintro e w' ⟨rfl, y, rfl⟩)
  refine wp_loop_rounds 1 ?_
  rw [rounds_succ]
  go_wp2_with fail
  go_ret
  exact ⟨rfl, by (exact ext_of (by (exact belA)))⟩
set_option maxRecDepth 100000 in
set_option maxHeartbeats 4000000 in
theorem tsound_yes (b : Tk) (p : Tp) (w : World) (hk : TB w b p) (hn : Hid (b.q.ns.length ≤ 9223372036854775807)) (hv : validB b = true) :
    Calls Tryz.prog 35 #[tv b p] w fun e w' => e = .returned (.bool true) ∧ ∃ x, w' = ext w x := by
  obtain ⟨np, nc, tp, tc⟩ := p
  obtain ⟨⟨n1, n2⟩, hch, hlen, ⟨g1, g2, g3⟩, ⟨m1, m2⟩, ⟨r1, r2⟩⟩ := of_validB hv
  have HQ := Lib.hid (show snB b.q = true by
    unfold validB trueB at hv
    simp only [Bool.and_eq_true] at hv
    exact hv.2.1)
  have HK := Lib.hid hk
  have HV := Lib.hid hv
  have HL := Lib.hid (show LowsAt w tp b.ts from hk.ts)
  have HC := Lib.hid hch
  have g4 : b.glo ≤ b.ghi := g2
  have hl1 : (b.ts.length : Int) ≤ 6 := by omega
  clear hk hv hch hlen
  unfold tv
  dsimp only
  go_enter Tryz.func35, Tryz.ntmps35
  go_wp2_with (first
    | (go_at_call 17; refine (tCheck_eq b ⟨np, nc, tp, tc⟩ _ _ (HK.out.bel belA) hn HV.out).mono ?_; rintro e w' ⟨rfl, y, rfl⟩)
    | (go_at_call 84; refine (Check_eq b.q np nc true _ (HK.out.q' belA) HQ.out).mono ?_; rintro e w' ⟨rfl, y, rfl⟩)
    | (go_at_call 50; refine (Between_yes _ _ _ _ (by assumption) (by assumption)).mono ?_; rintro e w' ⟨rfl, rfl⟩)
    | (go_at_call 64; refine (Sane_yes _ _ _ _ _ (by assumption) (by assumption) (by assumption)).mono ?_; rintro e w' ⟨rfl, y, rfl⟩))
  go_loopw [3, 4] (fun s i wr => ∃ k : Nat, k ≤ b.ts.length ∧ i = .int .i64 k ∧ s = .bool true ∧ ∃ x, wr = ext (w.alloc (.cells #[.int .i64 b.q.lo, .int .i64 b.q.hi, .slice np b.q.ns.length nc, .int .i64 b.now, .slice tp b.ts.length tc, .int .i64 b.glo, .int .i64 b.ghi, .int .i64 b.most, .int .i64 b.rest] 29)) x) (fun _ i _ => b.ts.length - (intOf i).toNat)
  case atStart => exact ⟨0, by omega, rfl, rfl, _, rfl⟩
  case round =>
    obtain ⟨k, hk, rfl, rfl, x, rfl⟩ := hrel
    by_cases hlt : k < b.ts.length
    · obtain ⟨s, hsk⟩ := get_some b.ts k hlt
      obtain ⟨bb, o, rfl, hbb, q1, q2, q3⟩ := HL.out k s hsk
      obtain ⟨s1, s2, s3, s4, s5⟩ := chainT_get2 HC.out hsk
      have hbb' : bb < w.heap.size + 1 := by omega
      have k30 : (0 : Int) ≤ (k : Int) := by omega
      have k31 : (k : Int) < (b.ts.length : Int) := by omega
      clear hsk
      go_upto_region 5 with fail
      refine wp_region_ext (by kernel_rfl) (by kernel_rfl) ?_
      repeat (go_big_quiet_step (first
        | (go_at_call 50; exact quiet_sameT (Between_yes _ _ _ _ (by assumption) (by assumption)))
        | (go_at_call 64; exact quiet_ext (Sane_yes _ _ _ _ _ (by assumption) (by assumption) (by assumption)))))
      (refine wpQuiet_nil ?_; rintro _ ⟨x, rfl⟩)
      go_wp2_with fail
      go_roundw
      case rel => exact ⟨k + 1, by omega, by go_num, rfl, by (exact ext_of (by (exact belA)))⟩
      case measure => simp [intOf]; omega
    · go_wp2_with fail
      go_ret
      exact ⟨rfl, by (exact ext_of (by (exact belA)))⟩
end Go.Proofs.YtcaeohgbgeadaaaGreatDoor

