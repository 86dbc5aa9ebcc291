/- The walk of TideTrue. Written by gen_ttrue.py. -/
import Derived.Test.YtcaeohgbgeadaaaGreatDoorQOl
import Derived.RegionTactic
set_option linter.unusedSimpArgs false
set_option linter.unusedVariables false
namespace Go.Proofs.YtcaeohgbgeadaaaGreatDoor
open Go Go.RowKit Go.Shelf
theorem Rises_eq (p : Option Addr) (c : Nat) (l : List Int) (nl : Nat) (below : Int) (w : World) (hl : IntsAt w p l) (hb : (l.length : Int) ≤ 1000) (hn : l.length = nl) (h1 : 0 ≤ below) (h2 : below ≤ 100000) (hr : risesB below 0 l = true) :
    Calls Tryz.prog 38 #[.slice p nl c, .int .i64 below] w fun e w' => e = .returned (.bool true) ∧ ∃ y, w' = ext w y := by
  subst hn; exact (Rises_yes p c l below w hl hb h1 h2 hr).mono fun e w' ⟨h1, h2⟩ => ⟨h1, by subst h2; exact ext_of (Below.refl _ _)⟩
theorem Holds_yes (lo hi n : Int) (w : World) (h : lo ≤ n ∧ n ≤ hi) : Calls Tryz.prog 40 #[.agg #[.int .i64 lo, .int .i64 hi], .int .i64 n] w fun e w' => e = .returned (.bool true) ∧ ∃ x, w' = ext w x :=
  (Holds_any lo hi n w).mono fun e w' ⟨h1, h2⟩ => ⟨by rw [h1]; simp [h.1, h.2], h2⟩
theorem run_atList {o : Oper} {w : World} {g t s k : Nat} (ρ : Operand → Value) (hop : o.op = .indexAddr 51 (.tmp t) (.tmp s)) (hs : ρ (.tmp t) = .slice (some ⟨g, 0, none⟩) 2 2) (h2 : ρ (.tmp s) = .int .i64 k) (hk : k < 2) (hl : g < w.heap.size) : (execOp ρ o).run Tryz.prog w = .ok (.value (.pointer (some ⟨g, k, none⟩))) w := by
  have k0 : (0 : Int) ≤ (k : Int) := by omega
  have k1 : (k : Int) < 2 := by omega
  unfold execOp; simp [hop, hs, h2, go_sem, hl, k0, k1]
theorem run_list {o : Oper} {w : World} {g k t : Nat} {x : Value} (ρ : Operand → Value) (hop : o.op = .load 30 (.tmp t)) (hs : ρ (.tmp t) = .pointer (some ⟨g, k, none⟩)) (c0 : w.cell? ⟨g, k, none⟩ = some x) : (execOp ρ o).run Tryz.prog w = .ok (.value x) w := by
  unfold execOp; simp [hop, hs, go_sem, c0]
/-- The truth that numbers choose lies between the ends. -/
theorem btw_truly {b : Tk} (hv : validB b = true) (bits : List Int) (g0 g1 g2 : Int) : Btw (haulOf b) (someI (haulOf b).hl (haulOf b).hh g0) (someI (haulOf b).rl (haulOf b).rh g1) (someI b.glo b.ghi g2) (roomL (roomsK bits b.ts b.ts.length)) := by
  have k := haul_ok hv
  refine ⟨someI_bd (by have := k.hd; omega) _, someI_bd (by have := k.rt; omega) _, someI_bd (lo := b.glo) (hi := b.ghi) (by have := (of_validB hv).2.2.2.1; omega) _, fun i => ?_⟩
  show roomT b.ts false i ≤ _ ∧ _ ≤ roomT b.ts true i
  unfold roomT roomL roomsK
  rw [List.getD_eq_getElem?_getD, List.getElem?_map]
  cases hs : b.ts[i]? with
  | none =>
    rw [List.getElem?_eq_none (by simpa using List.getElem?_eq_none_iff.1 hs)]
    simp
  | some s =>
    have hlt := (List.getElem?_eq_some_iff.1 hs).1
    have hb := chainT_get2 (of_validB hv).2.1 hs
    rw [List.getElem?_range hlt]
    simp only [Option.map_some, hs, Option.getD_some, if_true, Bool.false_eq_true, if_false]
    exact someI_bd (by omega) _
theorem form_of {w : World} {B : Nat} {v : Value} {l : List Int} (h : OwnInts w B v l) : ∃ (q : Option Addr) (m c : Nat), v = .slice q m c ∧ l.length = m ∧ PlanAt w (.slice q m c) l := by
  have hp := plan_of_own h
  obtain ⟨q, c, rfl, -⟩ := id hp
  exact ⟨q, l.length, c, rfl, rfl, hp⟩
/-- What the loop keeps. -/
structure TS (w W : World) (b : Tk) (p : Tp) (ls : List (Value × List Int)) (gX gP nx rc : Nat) (rp : Option Addr) (A0 A1 A3 : Int) (rl : List Int) (v1 v2 : Value) : Prop where
  tf : TF w W b p [] ls
  kx : Blk W gX 47 #[.int .i64 A0, .int .i64 A1, .slice rp nx rc, .int .i64 A3]
  ir : IntsAt W rp rl
  kp : Blk W gP 30 #[v1, v2]
theorem TS.step {w W W' : World} {b : Tk} {p : Tp} {ls : List (Value × List Int)} {gX gP nx rc : Nat} {rp : Option Addr} {A0 A1 A3 : Int} {rl : List Int} {v1 v2 : Value} (h : TS w W b p ls gX gP nx rc rp A0 A1 A3 rl v1 v2) (hb : Below W.heap.size W W') : TS w W' b p ls gX gP nx rc rp A0 A1 A3 rl v1 v2 :=
  ⟨h.tf.step hb, h.kx.bel hb, h.ir.below hb, h.kp.bel hb⟩
def ansQ (b : Tk) (p : Tp) (gP k l c n0 : Nat) (q : Option Addr) (x0 x1 : Int) (f : Bool) (i : Nat) (u : Value) (w : World) : Prop :=
  match i with
  | 0 => u = tv b p
  | 1 => u = .slice (some ⟨gP, 0, none⟩) 2 2
  | 2 => u = .int .i64 k
  | 3 => u = .pointer (some ⟨gP, k, none⟩)
  | 4 => u = .slice q l c
  | 5 => u = .tuple #[.agg #[.int .i64 x0, .int .i64 x1], .int .i64 0]
  | 6 => u = .tuple #[.agg #[.int .i64 x0, .int .i64 x1], .int .i64 0]
  | 7 => u = .agg #[.int .i64 x0, .int .i64 x1]
  | 8 => u = .int .i64 0
  | 9 => ∃ g, u = .pointer (some ⟨g, 0, none⟩) ∧ n0 ≤ g ∧ (f = false → Blk w g 23 #[.int .i64 0, .int .i64 0]) ∧ (f = true → Blk w g 23 #[.int .i64 x0, .int .i64 x1])
  | _ => True
theorem ansQ_kept (b : Tk) (p : Tp) (gP k l c n0 : Nat) (q : Option Addr) (x0 x1 : Int) : ∀ (f : Bool) (i : Nat), i < 11 → i ≠ 10 → ∀ (u : Value) (w w' : World), ansQ b p gP k l c n0 q x0 x1 f i u w → Below w.heap.size w w' → ansQ b p gP k l c n0 q x0 x1 f i u w' := by
  intro f i hi hne u w w' h hb
  match i, hi with
  | 0, _ => exact h
  | 1, _ => exact h
  | 2, _ => exact h
  | 3, _ => exact h
  | 4, _ => exact h
  | 5, _ => exact h
  | 6, _ => exact h
  | 7, _ => exact h
  | 8, _ => exact h
  | 9, _ => obtain ⟨g, h1, h2, h3, h4⟩ := h; exact ⟨g, h1, h2, fun e => (h3 e).bel hb, fun e => (h4 e).bel hb⟩
  | 10, _ => exact absurd rfl hne
  | k + 11, hk => omega
attribute [local go_sem] Oper.semAt_some frozen_alloc_lt
set_option maxRecDepth 100000 in
set_option maxHeartbeats 4000000 in
theorem TideTrue_bad (b : Tk) (p : Tp) (n : Int) (pi : Option Addr) (bits : List Int) (ci : Nat) (w : World) (hk : TB w b p) (hn : Hid (b.q.ns.length ≤ 9223372036854775807)) (hv : validB b = false) :
    Calls Tryz.prog 6 #[tv b p, .int .i64 n, .slice pi bits.length ci] w fun e w' => e = .returned (.bool true) ∧ ∃ x, w' = ext w x := by
  have HK := Lib.hid hk
  have HV := Lib.hid hv
  clear hk hv
  unfold tv
  go_enter Tryz.func6, Tryz.ntmps6
  go_wp2_with (first
    | (go_at_call 35; refine (tsound_no b p _ (HK.out.bel belA) hn HV.out).mono ?_; rintro e w1 ⟨rfl, y, rfl⟩)
    | (go_at_call 23; refine (tucked_any _ (HK.out.q.mm.below belA)).mono ?_; rintro e w1 ⟨rfl, y, rfl⟩))
  go_ret
  exact ⟨rfl, by (exact ext_of (by (exact belA)))⟩
set_option maxRecDepth 100000 in
set_option maxHeartbeats 16000000 in
theorem TideTrue_ok (b : Tk) (p : Tp) (n : Int) (pi : Option Addr) (bits : List Int) (ci : Nat) (w : World) (hk : TB w b p) (hn : Hid (b.q.ns.length ≤ 9223372036854775807)) (hi : IntsAt w pi bits) (hbl : (bits.length : Int) ≤ 9223372036854775807) (hv : validB b = true) :
    Calls Tryz.prog 6 #[tv b p, .int .i64 n, .slice pi bits.length ci] w fun e w' => e = .returned (.bool true) ∧ ∃ x, w' = ext w x := by
  have HV := Lib.hid hv
  have h64 : (0 : Int) < ((2 ^ b.ts.length : Nat) : Int) := by have : 1 ≤ 2 ^ b.ts.length := Nat.one_le_two_pow; omega
  obtain ⟨z, hz⟩ := Int.eq_ofNat_of_zero_le (Int.emod_nonneg n (show ((2 ^ b.ts.length : Nat) : Int) ≠ 0 by omega))
  have HZ := Lib.hid hz
  have HPM := Lib.hid (drawT_plan (b := b) (L := bitsL z b.ts.length) hv (bitsL_rises _ _) (fun x hx => by obtain ⟨k, h1, -, rfl⟩ := mem_bitsL.1 hx; omega) (bitsL z b.ts.length).length).1
  clear hz h64
  have HMO := Lib.hid (of_validB hv).2.2.2.2.1.2
  have HRS := Lib.hid (of_validB hv).2.2.2.2.2.1
  obtain ⟨H, hH⟩ : ∃ H, haulOf b = H := ⟨_, rfl⟩
  have HHB := Lib.hid hH
  have HHT := Lib.hid (show H.b = b from hH ▸ rfl)
  have HO := Lib.hid (show H.OK from hH ▸ haul_ok hv)
  have HBI := Lib.hid hi
  have HBL := Lib.hid hbl
  have HBT := Lib.hid (hH ▸ btw_truly hv bits (pickI bits 0) (pickI bits 1) (pickI bits 2))
  have HOV := Lib.hid (of_validB hv)
  obtain ⟨nb, hnb⟩ : ∃ nb, bits.length = nb := ⟨_, rfl⟩
  have HNB := Lib.hid hnb
  rw [hnb]
  clear hi hbl hnb
  clear hH hv
  have HF := Lib.hid (TF.start hk)
  unfold tv
  go_enter Tryz.func6, Tryz.ntmps6
  go_upto_region 1 with fail
  unfold tcs at HF
  generalize w.alloc _ = W at HF ⊢
  have HF : Hid (TF w W b p [] []) := HF
  clear hk
  have kb := HF.out.kb
  unfold tcs at kb
  obtain ⟨d0, d1, d2, d3, d4, d5, d6, d7, d8⟩ := Blk.c9 kb
  have lb := kb.lt
  clear kb
  go_upto_region 3 with (go_at_call 35; refine (tsound_yes b p _ HF.out.tb hn HV.out).mono ?_; rintro e w1 ⟨rfl, y, hw⟩; have HF := Lib.hid (HF.out.step (show Below W.heap.size W w1 by rw [hw]; (exact belC))); clear hw)
  clear d0 d1 d2 d3 d4 d5 d6 d7 d8 lb
  have kb := HF.out.kb
  unfold tcs at kb
  obtain ⟨d0, d1, d2, d3, d4, d5, d6, d7, d8⟩ := Blk.c9 kb
  have lb := kb.lt
  clear kb
  go_upto_region 4 with (go_at_call 31; refine (Best_yes b p H _ HF.out.tb hn HV.out HHB.out).mono ?_; rintro e w2 ⟨vb, pb, rfl, hpb, hbb, y, hw⟩; have HPB := Lib.hid hpb; have HBB := Lib.hid hbb; clear hpb hbb; have HF := Lib.hid (HF.out.step (show Below w1.heap.size w1 w2 by rw [hw]; (exact belC))); clear hw)
  clear d0 d1 d2 d3 d4 d5 d6 d7 d8 lb
  have HF := Lib.hid (HF.out.list HPB.out.1)
  have HPP := Lib.hid (show planB b.ts b.most b.rest pb = true from HHT.out ▸ HBB.out.1)
  obtain ⟨p5, c5, rfl, -, -⟩ := id HPB.out.1
  clear HPB HBB
  obtain ⟨n5, hn5⟩ : ∃ n, pb.length = n := ⟨_, rfl⟩
  have HN5 := Lib.hid hn5
  rw [hn5] at HF
  rw [hn5]
  clear hn5
  have kb := HF.out.kb
  unfold tcs at kb
  obtain ⟨d0, d1, d2, d3, d4, d5, d6, d7, d8⟩ := Blk.c9 kb
  have lb := kb.lt
  clear kb
  go_upto_region 5 with (go_at_call 36; refine (truly_any b p pi ci bits nb H _ HF.out.tb HV.out HHB.out (HBI.out.below HF.out.below) HBL.out HNB.out).mono ?_; rintro e w3 ⟨rp, rc, rfl, hor, y, hw⟩; have HOR := Lib.hid hor; clear hor; have HF := Lib.hid (HF.out.step (show Below w2.heap.size w2 w3 by rw [hw]; (exact belC))); clear hw)
  clear d0 d1 d2 d3 d4 d5 d6 d7 d8 lb
  obtain ⟨pq, cq, eq9, hIR, -⟩ := HOR.out.at
  simp only [Value.slice.injEq] at eq9
  obtain ⟨rfl, -, rfl⟩ := eq9
  have HIR := Lib.hid hIR
  clear HOR hIR
  generalize hRL : roomsK bits b.ts b.ts.length = rl at *
  have HRL := Lib.hid (show rl.length = b.ts.length by rw [← hRL]; simp [roomsK])
  generalize someI H.hl H.hh (pickI bits 0) = A0 at *
  generalize someI H.rl H.rh (pickI bits 1) = A1 at *
  generalize someI b.glo b.ghi (pickI bits 2) = A3 at *
  clear hRL
  generalize hW : w3.alloc _ = wx
  have KX := Lib.hid (show Blk wx w3.heap.size 47 #[.int .i64 A0, .int .i64 A1, .slice rp b.ts.length rc, .int .i64 A3] by rw [← hW]; exact Blk.new rfl)
  have hbx : Below w3.heap.size w3 wx := by rw [← hW]; (exact belC)
  have HF := Lib.hid (HF.out.step hbx)
  have HIR := Lib.hid (HIR.out.below hbx)
  generalize w3.heap.size = gX at *
  clear hW hbx HBI HBL HNB
  obtain ⟨ml, hml⟩ : ∃ ml, drawT b (bitsL z b.ts.length) (bitsL z b.ts.length).length = ml := ⟨_, rfl⟩
  have HML := Lib.hid hml
  rw [hml] at HPM
  clear hml
  have kb := HF.out.kb
  unfold tcs at kb
  obtain ⟨d0, d1, d2, d3, d4, d5, d6, d7, d8⟩ := Blk.c9 kb
  have lb := kb.lt
  clear kb
  go_upto_region 8 with (go_at_call 37; refine (drawn_any b p n z _ HF.out.tb HV.out HZ.out).mono ?_; rintro e w4 ⟨vm, rfl, hpm, y, hw⟩; rw [HML.out] at hpm; obtain ⟨p2, m, c2, rfl, hm, hpa⟩ := form_of hpm; have HM := Lib.hid hm; have HPA0 := Lib.hid hpa; clear hpm hm hpa; have HXW := Lib.hid (show Below wx.heap.size wx w4 by rw [hw]; (exact belC)); have HF := Lib.hid (HF.out.step HXW.out); clear hw)
  clear d0 d1 d2 d3 d4 d5 d6 d7 d8 lb
  have HF := Lib.hid (HF.out.list HPA0.out)
  have hl2 : (m : Int) ≤ 6 := by have := plan_len HPM.out; have := HMO.out; have := HM.out; omega
  clear HPA0 HML HZ
  have HXB := Lib.hid HXW.out
  generalize hW : w4.alloc _ = wp
  have KP := Lib.hid (show Blk wp w4.heap.size 30 #[.slice p5 n5 c5, .slice p2 m c2] by rw [← hW]; exact Blk.new rfl)
  have hbx : Below w4.heap.size w4 wp := by rw [← hW]; (exact belC)
  have HT : Hid (TS w wp b p [(.slice p2 m c2, ml), (.slice p5 n5 c5, pb)] gX w4.heap.size b.ts.length rc rp A0 A1 A3 rl (.slice p5 n5 c5) (.slice p2 m c2)) := Lib.hid ⟨HF.out.step hbx, KX.out.bel (HXB.out.trans (hbx.mono HXB.out.size)), HIR.out.below (HXB.out.trans (hbx.mono HXB.out.size)), KP.out⟩
  generalize w4.heap.size = gP at *
  clear hW hbx KP KX HIR HF HXB
  go_upto_region 9 with fail
  go_loopw [12, 13, 14, 15, 16, 17, 18, 19, 20, 21, 22] (fun i _ _ _ _ _ _ _ _ _ _ wr => ∃ k : Nat, k ≤ 2 ∧ i = .int .i64 k ∧ Hid (TS w wr b p [(.slice p2 m c2, ml), (.slice p5 n5 c5, pb)] gX gP b.ts.length rc rp A0 A1 A3 rl (.slice p5 n5 c5) (.slice p2 m c2))) (fun i _ _ _ _ _ _ _ _ _ _ _ => 2 - (intOf i).toNat)
  case atStart => exact ⟨0, by omega, rfl, HT⟩
  case round =>
    clear HT
    obtain ⟨k, hk, rfl, HT⟩ := hrel
    by_cases hlt : k < 2
    · obtain ⟨q, l, c, pl, hq1, hq2, hq3, hq4⟩ : ∃ (q : Option Addr) (l c : Nat) (pl : List Int), (#[Value.slice p5 n5 c5, Value.slice p2 m c2] : Array Value)[k]? = some (.slice q l c) ∧ pl.length = l ∧ PlanAt wr (.slice q l c) pl ∧ planB b.ts b.most b.rest pl = true := by
        rcases (show k = 0 ∨ k = 1 by omega) with rfl | rfl
        · exact ⟨p5, n5, c5, pb, rfl, HN5.out, HT.out.tf.ls (.slice p5 n5 c5, pb) (by simp), HPP.out⟩
        · exact ⟨p2, m, c2, ml, rfl, HM.out, HT.out.tf.ls (.slice p2 m c2, ml) (by simp), HPM.out⟩
      have HL := Lib.hid hq2
      have HPA := Lib.hid hq3
      have HQ := Lib.hid hq4
      have HQ1 := Lib.hid hq1
      have HQH := Lib.hid (show planB H.b.ts H.b.most H.b.rest pl = true from HHT.out.symm ▸ hq4)
      have hlm : (l : Int) ≤ b.most := by rw [← hq2]; exact plan_len hq4
      have hl6 : (l : Int) ≤ 6 := by have := HMO.out; omega
      have HL3 := Lib.hid (show pl.length ≤ 1000 by rw [hq2]; omega)
      have HRI := Lib.hid (show risesB (b.ts.length : Int) 0 pl = true from risesB_of pl 0 (fun x hx => ((planB_iff HRS.out).1 hq4).2.1 x hx) (plan_inc HRS.out hq4))
      have HL4 := Lib.hid (show (pl.length : Int) ≤ 1000 by rw [hq2]; omega)
      have HTS := Lib.hid (show (0 : Int) ≤ (b.ts.length : Int) ∧ (b.ts.length : Int) ≤ 100000 by have := HOV.out.2.2.1; omega)
      have hd1 : decide (b.most < (l : Int)) = false := by simp; omega
      have hd2 : decide ((l : Int) > b.most) = false := hd1
      have k0 : (0 : Int) ≤ (k : Int) := by omega
      have k1 : (k : Int) < 2 := by omega
      clear hq1 hq2 hq3 hq4 hlm
      have kb := HT.out.tf.kb
      unfold tcs at kb
      obtain ⟨d0, d1, d2, d3, d4, d5, d6, d7, d8⟩ := Blk.c9 kb
      have lb := kb.lt
      have cP : wr.cell? ⟨gP, k, none⟩ = some (.slice q l c) := (HT.out.kp.cell k).trans HQ1.out
      have lP := HT.out.kp.lt
      clear kb
      go_upto_region 11 with fail
      refine wp_region_ext (by kernel_rfl) (by kernel_rfl) ?_
      repeat (go_big_quiet_step (first
        | (go_at_call 15; exact quiet_ext (IsPlan_is b p _ pl true _ (HT.out.tf.tb.bel belC) hn (HPA.out.bel belC) HL3.out HV.out HQ.out))))
      (refine wpQuiet_nil ?_; rintro _ ⟨x, rfl⟩)
      generalize hZ : ext _ _ = z1
      have hbz : Below wr.heap.size wr z1 := by rw [← hZ]; (exact belC)
      have HT := Lib.hid (HT.out.step hbz)
      have HPA := Lib.hid (HPA.out.bel hbz)
      clear hZ hbz
      clear d0 d1 d2 d3 d4 d5 d6 d7 d8 lb cP lP
      have kb := HT.out.tf.kb
      unfold tcs at kb
      obtain ⟨d0, d1, d2, d3, d4, d5, d6, d7, d8⟩ := Blk.c9 kb
      have lb := kb.lt
      have cP : z1.cell? ⟨gP, k, none⟩ = some (.slice q l c) := (HT.out.kp.cell k).trans HQ1.out
      have lP := HT.out.kp.lt
      clear kb
      obtain ⟨-, hI, -⟩ := HPA.out.parts
      have HI := Lib.hid hI
      clear hI
      go_upto_region 12 with fail
      refine wp_region_ext (by kernel_rfl) (by kernel_rfl) ?_
      repeat (go_big_quiet_step (first
        | (go_at_call 38; exact quiet_ext (Rises_eq q c pl l _ _ (HI.out.below belC) HL4.out HL.out HTS.out.1 HTS.out.2 HRI.out))))
      (refine wpQuiet_nil ?_; rintro _ ⟨x, rfl⟩)
      generalize hZ : ext _ _ = z2
      have hbz : Below z1.heap.size z1 z2 := by rw [← hZ]; (exact belC)
      have HT := Lib.hid (HT.out.step hbz)
      have HPA := Lib.hid (HPA.out.bel hbz)
      clear hZ hbz
      clear d0 d1 d2 d3 d4 d5 d6 d7 d8 lb cP lP
      clear HI hd1 hd2
      obtain ⟨S0, hS0⟩ : ∃ x, ansLo H 0 pl = x := ⟨_, rfl⟩
      obtain ⟨S1, hS1⟩ : ∃ x, ansHi H 0 pl = x := ⟨_, rfl⟩
      have HXS := Lib.hid (And.intro hS0 hS1)
      clear hS0 hS1
      go_upto_region 14 with fail
      refine wp_region_flow_backS 11 158 10 (fun _ => True) (ansQ b p gP k l c z2.heap.size q S0 S1) (by kernel_rfl) (by kernel_rfl) rfl (by omega) (ansQ_kept _ _ _ _ _ _ _ _ _ _) (fun _ _ h _ => h) ?_ ?_ ?_
      · intro i hin hik f a X h1 h2 h3 h4' h5 hfw KK hKK
        have h4 := fun j (hj : j ≠ 10) => h4' j hj
        match i, hin with
        | 0, _ => exact st_val rfl (wanted_none rfl) (run_tbook _ rfl (h3 3 (by kernel_rfl)) (HT.out.tf.kb.bel h5)) (hKK _ _ rfl (Below.refl _ _))
        | 1, _ => exact st_move rfl rfl (wanted_none rfl) (h3 11 (by kernel_rfl)) (hKK _ _ rfl (Below.refl _ _))
        | 2, _ => exact st_move rfl rfl (wanted_none rfl) (h3 12 (by kernel_rfl)) (hKK _ _ rfl (Below.refl _ _))
        | 3, _ => exact st_val rfl (wanted_none rfl) (run_atList _ rfl (h4 1 (by decide) (by kernel_rfl)) (h4 2 (by decide) (by kernel_rfl)) hlt (HT.out.kp.bel h5).lt) (hKK _ _ rfl (Below.refl _ _))
        | 4, _ => exact st_val rfl (wanted_none rfl) (run_list _ rfl (h4 3 (by decide) (by kernel_rfl)) (((HT.out.kp.bel h5).cell k).trans HQ1.out)) (hKK _ _ rfl (Below.refl _ _))
        | 5, _ =>
          refine st_call rfl rfl (wanted_none rfl) (args2 (h4 0 (by decide) (by kernel_rfl)) (h4 4 (by decide) (by kernel_rfl))) (run_enter Tryz.func19 (by kernel_rfl) (by kernel_rfl) _) ?_
          refine (Out_yes b p _ pl H _ (HT.out.tf.tb.bel h5) hn (HPA.out.bel h5) HL3.out HV.out HQ.out HHB.out).mono ?_
          rintro e w1 ⟨rfl, y9, rfl⟩
          exact ⟨_, rfl, hKK _ _ (by rw [HXS.out.1, HXS.out.2]; rfl) (below_ext _ _)⟩
        | 6, _ => exact st_move rfl rfl (wanted_none rfl) (h4 5 (by decide) (by kernel_rfl)) (hKK _ _ rfl (Below.refl _ _))
        | 7, _ => exact st_val rfl (wanted_none rfl) (run_ext0 _ rfl (h4 6 (by decide) (by kernel_rfl))) (hKK _ _ rfl (Below.refl _ _))
        | 8, _ => exact st_val rfl (wanted_none rfl) (run_ext1 _ rfl (h4 6 (by decide) (by kernel_rfl))) (hKK _ _ rfl (Below.refl _ _))
        | 9, _ =>
          cases f with
          | true =>
            have e := hfw rfl
            have e2 : true = false := Eq.trans (by kernel_rfl) e
            cases e2
          | false => exact st_valw rfl (wanted_none rfl) (run_aSpan _ rfl) (hKK _ _ ⟨_, rfl, h5.size, fun _ => Blk.new rfl, fun e => by cases e⟩ ((Below.refl _ _).alloc (Nat.le_refl _) _))
        | 10, _ => exact absurd rfl hik
        | j + 11, hj => omega
      · intro a X h1 h2 h3 h4 h5 KK hKK
        obtain ⟨gk, e1, e2, e3, -⟩ := h4 9 (by decide) (by kernel_rfl)
        refine st_store_span rfl (wanted_none rfl) rfl rfl e1 (h4 7 (by decide) (by kernel_rfl)) (e3 rfl) (fun w' hw' hfar hblk => hKK w' trivial (fun j hj hjk hr => ?_) (hw' _ e2))
        match j, hj with
        | 0, _ => exact hr
        | 1, _ => exact hr
        | 2, _ => exact hr
        | 3, _ => exact hr
        | 4, _ => exact hr
        | 5, _ => exact hr
        | 6, _ => exact hr
        | 7, _ => exact hr
        | 8, _ => exact hr
        | 9, _ =>
          obtain ⟨ba', d1, d2, -, -⟩ := hr
          have hbb : ba' = gk := by
            have := e1.symm.trans d1
            simpa using this.symm
          subst hbb
          exact ⟨_, d1, d2, (fun e => by cases e), fun _ => hblk⟩
        | 10, _ => exact absurd rfl hjk
        | k + 11, hk => omega
      intro vs z3 hvs _ hbz
      have v0 : vs 0 = _ := hvs 0 (by omega) (by decide)
      have v1 : vs 1 = _ := hvs 1 (by omega) (by decide)
      have v2 : vs 2 = _ := hvs 2 (by omega) (by decide)
      have v3 : vs 3 = _ := hvs 3 (by omega) (by decide)
      have v4 : vs 4 = _ := hvs 4 (by omega) (by decide)
      have v5 : vs 5 = _ := hvs 5 (by omega) (by decide)
      have v6 : vs 6 = _ := hvs 6 (by omega) (by decide)
      have v7 : vs 7 = _ := hvs 7 (by omega) (by decide)
      have v8 : vs 8 = _ := hvs 8 (by omega) (by decide)
      obtain ⟨gS, v9, -, -, hkk'⟩ := hvs 9 (by omega) (by decide)
      have KS := Lib.hid (hkk' rfl)
      simp only [putSkip, Nat.reduceEqDiff, reduceIte, v0, v1, v2, v3, v4, v5, v6, v7, v8, v9]
      clear v0 v1 v2 v3 v4 v5 v6 v7 v8 v9 hvs hkk'
      simp only [dstOf, Act.put, List.getElem?_toArray, List.getElem?_cons_zero, List.getElem?_cons_succ, Option.bind_some, Option.getD_some, List.setIfInBounds_toArray, List.set_cons_succ, List.set_cons_zero, List.drop_succ_cons, List.drop_zero]
      have HT := Lib.hid (HT.out.step hbz)
      have HPA := Lib.hid (HPA.out.bel hbz)
      clear hbz
      obtain ⟨T0, hT0⟩ : ∃ x, ansLo H 1 pl = x := ⟨_, rfl⟩
      obtain ⟨T1, hT1⟩ : ∃ x, ansHi H 1 pl = x := ⟨_, rfl⟩
      have HXT := Lib.hid (And.intro hT0 hT1)
      clear hT0 hT1
      go_upto_region 15 with fail
      refine wp_region_flow_backS 11 158 10 (fun _ => True) (ansQ b p gP k l c z3.heap.size q T0 T1) (by kernel_rfl) (by kernel_rfl) rfl (by omega) (ansQ_kept _ _ _ _ _ _ _ _ _ _) (fun _ _ h _ => h) ?_ ?_ ?_
      · intro i hin hik f a X h1 h2 h3 h4' h5 hfw KK hKK
        have h4 := fun j (hj : j ≠ 10) => h4' j hj
        match i, hin with
        | 0, _ => exact st_val rfl (wanted_none rfl) (run_tbook _ rfl (h3 3 (by kernel_rfl)) (HT.out.tf.kb.bel h5)) (hKK _ _ rfl (Below.refl _ _))
        | 1, _ => exact st_move rfl rfl (wanted_none rfl) (h3 11 (by kernel_rfl)) (hKK _ _ rfl (Below.refl _ _))
        | 2, _ => exact st_move rfl rfl (wanted_none rfl) (h3 12 (by kernel_rfl)) (hKK _ _ rfl (Below.refl _ _))
        | 3, _ => exact st_val rfl (wanted_none rfl) (run_atList _ rfl (h4 1 (by decide) (by kernel_rfl)) (h4 2 (by decide) (by kernel_rfl)) hlt (HT.out.kp.bel h5).lt) (hKK _ _ rfl (Below.refl _ _))
        | 4, _ => exact st_val rfl (wanted_none rfl) (run_list _ rfl (h4 3 (by decide) (by kernel_rfl)) (((HT.out.kp.bel h5).cell k).trans HQ1.out)) (hKK _ _ rfl (Below.refl _ _))
        | 5, _ =>
          refine st_call rfl rfl (wanted_none rfl) (args2 (h4 0 (by decide) (by kernel_rfl)) (h4 4 (by decide) (by kernel_rfl))) (run_enter Tryz.func21 (by kernel_rfl) (by kernel_rfl) _) ?_
          refine (Lost_yes b p _ pl H _ (HT.out.tf.tb.bel h5) hn (HPA.out.bel h5) HL3.out HV.out HQ.out HHB.out).mono ?_
          rintro e w1 ⟨rfl, y9, rfl⟩
          exact ⟨_, rfl, hKK _ _ (by rw [HXT.out.1, HXT.out.2]; rfl) (below_ext _ _)⟩
        | 6, _ => exact st_move rfl rfl (wanted_none rfl) (h4 5 (by decide) (by kernel_rfl)) (hKK _ _ rfl (Below.refl _ _))
        | 7, _ => exact st_val rfl (wanted_none rfl) (run_ext0 _ rfl (h4 6 (by decide) (by kernel_rfl))) (hKK _ _ rfl (Below.refl _ _))
        | 8, _ => exact st_val rfl (wanted_none rfl) (run_ext1 _ rfl (h4 6 (by decide) (by kernel_rfl))) (hKK _ _ rfl (Below.refl _ _))
        | 9, _ =>
          cases f with
          | true =>
            have e := hfw rfl
            have e2 : true = false := Eq.trans (by kernel_rfl) e
            cases e2
          | false => exact st_valw rfl (wanted_none rfl) (run_aSpan _ rfl) (hKK _ _ ⟨_, rfl, h5.size, fun _ => Blk.new rfl, fun e => by cases e⟩ ((Below.refl _ _).alloc (Nat.le_refl _) _))
        | 10, _ => exact absurd rfl hik
        | j + 11, hj => omega
      · intro a X h1 h2 h3 h4 h5 KK hKK
        obtain ⟨gk, e1, e2, e3, -⟩ := h4 9 (by decide) (by kernel_rfl)
        refine st_store_span rfl (wanted_none rfl) rfl rfl e1 (h4 7 (by decide) (by kernel_rfl)) (e3 rfl) (fun w' hw' hfar hblk => hKK w' trivial (fun j hj hjk hr => ?_) (hw' _ e2))
        match j, hj with
        | 0, _ => exact hr
        | 1, _ => exact hr
        | 2, _ => exact hr
        | 3, _ => exact hr
        | 4, _ => exact hr
        | 5, _ => exact hr
        | 6, _ => exact hr
        | 7, _ => exact hr
        | 8, _ => exact hr
        | 9, _ =>
          obtain ⟨ba', d1, d2, -, -⟩ := hr
          have hbb : ba' = gk := by
            have := e1.symm.trans d1
            simpa using this.symm
          subst hbb
          exact ⟨_, d1, d2, (fun e => by cases e), fun _ => hblk⟩
        | 10, _ => exact absurd rfl hjk
        | k + 11, hk => omega
      intro vs z4 hvs _ hbz
      have v0 : vs 0 = _ := hvs 0 (by omega) (by decide)
      have v1 : vs 1 = _ := hvs 1 (by omega) (by decide)
      have v2 : vs 2 = _ := hvs 2 (by omega) (by decide)
      have v3 : vs 3 = _ := hvs 3 (by omega) (by decide)
      have v4 : vs 4 = _ := hvs 4 (by omega) (by decide)
      have v5 : vs 5 = _ := hvs 5 (by omega) (by decide)
      have v6 : vs 6 = _ := hvs 6 (by omega) (by decide)
      have v7 : vs 7 = _ := hvs 7 (by omega) (by decide)
      have v8 : vs 8 = _ := hvs 8 (by omega) (by decide)
      obtain ⟨gT, v9, -, -, hkk'⟩ := hvs 9 (by omega) (by decide)
      have KT := Lib.hid (hkk' rfl)
      simp only [putSkip, Nat.reduceEqDiff, reduceIte, v0, v1, v2, v3, v4, v5, v6, v7, v8, v9]
      clear v0 v1 v2 v3 v4 v5 v6 v7 v8 v9 hvs hkk'
      simp only [dstOf, Act.put, List.getElem?_toArray, List.getElem?_cons_zero, List.getElem?_cons_succ, Option.bind_some, Option.getD_some, List.setIfInBounds_toArray, List.set_cons_succ, List.set_cons_zero, List.drop_succ_cons, List.drop_zero]
      have HT := Lib.hid (HT.out.step hbz)
      have HPA := Lib.hid (HPA.out.bel hbz)
      have KS := Lib.hid (KS.out.bel hbz)
      clear hbz
      obtain ⟨U0, hU0⟩ : ∃ x, ansLo H 2 pl = x := ⟨_, rfl⟩
      obtain ⟨U1, hU1⟩ : ∃ x, ansHi H 2 pl = x := ⟨_, rfl⟩
      have HXU := Lib.hid (And.intro hU0 hU1)
      clear hU0 hU1
      go_upto_region 16 with fail
      refine wp_region_flow_backS 11 158 10 (fun _ => True) (ansQ b p gP k l c z4.heap.size q U0 U1) (by kernel_rfl) (by kernel_rfl) rfl (by omega) (ansQ_kept _ _ _ _ _ _ _ _ _ _) (fun _ _ h _ => h) ?_ ?_ ?_
      · intro i hin hik f a X h1 h2 h3 h4' h5 hfw KK hKK
        have h4 := fun j (hj : j ≠ 10) => h4' j hj
        match i, hin with
        | 0, _ => exact st_val rfl (wanted_none rfl) (run_tbook _ rfl (h3 3 (by kernel_rfl)) (HT.out.tf.kb.bel h5)) (hKK _ _ rfl (Below.refl _ _))
        | 1, _ => exact st_move rfl rfl (wanted_none rfl) (h3 11 (by kernel_rfl)) (hKK _ _ rfl (Below.refl _ _))
        | 2, _ => exact st_move rfl rfl (wanted_none rfl) (h3 12 (by kernel_rfl)) (hKK _ _ rfl (Below.refl _ _))
        | 3, _ => exact st_val rfl (wanted_none rfl) (run_atList _ rfl (h4 1 (by decide) (by kernel_rfl)) (h4 2 (by decide) (by kernel_rfl)) hlt (HT.out.kp.bel h5).lt) (hKK _ _ rfl (Below.refl _ _))
        | 4, _ => exact st_val rfl (wanted_none rfl) (run_list _ rfl (h4 3 (by decide) (by kernel_rfl)) (((HT.out.kp.bel h5).cell k).trans HQ1.out)) (hKK _ _ rfl (Below.refl _ _))
        | 5, _ =>
          refine st_call rfl rfl (wanted_none rfl) (args2 (h4 0 (by decide) (by kernel_rfl)) (h4 4 (by decide) (by kernel_rfl))) (run_enter Tryz.func24 (by kernel_rfl) (by kernel_rfl) _) ?_
          refine (Left_yes b p _ pl H _ (HT.out.tf.tb.bel h5) hn (HPA.out.bel h5) HL3.out HV.out HQ.out HHB.out).mono ?_
          rintro e w1 ⟨rfl, y9, rfl⟩
          exact ⟨_, rfl, hKK _ _ (by rw [HXU.out.1, HXU.out.2]; rfl) (below_ext _ _)⟩
        | 6, _ => exact st_move rfl rfl (wanted_none rfl) (h4 5 (by decide) (by kernel_rfl)) (hKK _ _ rfl (Below.refl _ _))
        | 7, _ => exact st_val rfl (wanted_none rfl) (run_ext0 _ rfl (h4 6 (by decide) (by kernel_rfl))) (hKK _ _ rfl (Below.refl _ _))
        | 8, _ => exact st_val rfl (wanted_none rfl) (run_ext1 _ rfl (h4 6 (by decide) (by kernel_rfl))) (hKK _ _ rfl (Below.refl _ _))
        | 9, _ =>
          cases f with
          | true =>
            have e := hfw rfl
            have e2 : true = false := Eq.trans (by kernel_rfl) e
            cases e2
          | false => exact st_valw rfl (wanted_none rfl) (run_aSpan _ rfl) (hKK _ _ ⟨_, rfl, h5.size, fun _ => Blk.new rfl, fun e => by cases e⟩ ((Below.refl _ _).alloc (Nat.le_refl _) _))
        | 10, _ => exact absurd rfl hik
        | j + 11, hj => omega
      · intro a X h1 h2 h3 h4 h5 KK hKK
        obtain ⟨gk, e1, e2, e3, -⟩ := h4 9 (by decide) (by kernel_rfl)
        refine st_store_span rfl (wanted_none rfl) rfl rfl e1 (h4 7 (by decide) (by kernel_rfl)) (e3 rfl) (fun w' hw' hfar hblk => hKK w' trivial (fun j hj hjk hr => ?_) (hw' _ e2))
        match j, hj with
        | 0, _ => exact hr
        | 1, _ => exact hr
        | 2, _ => exact hr
        | 3, _ => exact hr
        | 4, _ => exact hr
        | 5, _ => exact hr
        | 6, _ => exact hr
        | 7, _ => exact hr
        | 8, _ => exact hr
        | 9, _ =>
          obtain ⟨ba', d1, d2, -, -⟩ := hr
          have hbb : ba' = gk := by
            have := e1.symm.trans d1
            simpa using this.symm
          subst hbb
          exact ⟨_, d1, d2, (fun e => by cases e), fun _ => hblk⟩
        | 10, _ => exact absurd rfl hjk
        | k + 11, hk => omega
      intro vs z5 hvs _ hbz
      have v0 : vs 0 = _ := hvs 0 (by omega) (by decide)
      have v1 : vs 1 = _ := hvs 1 (by omega) (by decide)
      have v2 : vs 2 = _ := hvs 2 (by omega) (by decide)
      have v3 : vs 3 = _ := hvs 3 (by omega) (by decide)
      have v4 : vs 4 = _ := hvs 4 (by omega) (by decide)
      have v5 : vs 5 = _ := hvs 5 (by omega) (by decide)
      have v6 : vs 6 = _ := hvs 6 (by omega) (by decide)
      have v7 : vs 7 = _ := hvs 7 (by omega) (by decide)
      have v8 : vs 8 = _ := hvs 8 (by omega) (by decide)
      obtain ⟨gU, v9, -, -, hkk'⟩ := hvs 9 (by omega) (by decide)
      have KU := Lib.hid (hkk' rfl)
      simp only [putSkip, Nat.reduceEqDiff, reduceIte, v0, v1, v2, v3, v4, v5, v6, v7, v8, v9]
      clear v0 v1 v2 v3 v4 v5 v6 v7 v8 v9 hvs hkk'
      simp only [dstOf, Act.put, List.getElem?_toArray, List.getElem?_cons_zero, List.getElem?_cons_succ, Option.bind_some, Option.getD_some, List.setIfInBounds_toArray, List.set_cons_succ, List.set_cons_zero, List.drop_succ_cons, List.drop_zero]
      have HT := Lib.hid (HT.out.step hbz)
      have HPA := Lib.hid (HPA.out.bel hbz)
      have KS := Lib.hid (KS.out.bel hbz)
      have KT := Lib.hid (KT.out.bel hbz)
      clear hbz
      have HPO := Lib.hid (show ordT b.ts b.now pl from plan_ord HRS.out HOV.out.2.1 HQ.out)
      have b0 : 0 ≤ A0 ∧ A0 ≤ 400 := by have := HBT.out.x; have := HO.out.hd; omega
      have b1 : 0 ≤ A1 ∧ A1 ≤ 400 := by have := HBT.out.y; have := HO.out.rt; omega
      have b2 : b.now ≤ A3 ∧ A3 ≤ 60 := by have := HBT.out.g; have h9 := HO.out.gl; rw [HHT.out] at *; omega
      have HRM := Lib.hid (show ∀ i, 0 ≤ roomL rl i ∧ roomL rl i ≤ 99 from fun i => by have h1 := HBT.out.rm i; have h2 := HO.out.room false i; have h3 := HO.out.room true i; omega)
      have HB0 := Lib.hid b0
      have HB1 := Lib.hid b1
      have HB2 := Lib.hid b2
      clear b1 b2
      have kb := HT.out.tf.kb
      unfold tcs at kb
      obtain ⟨d0, d1, d2, d3, d4, d5, d6, d7, d8⟩ := Blk.c9 kb
      have lb := kb.lt
      have cP : z5.cell? ⟨gP, k, none⟩ = some (.slice q l c) := (HT.out.kp.cell k).trans HQ1.out
      have lP := HT.out.kp.lt
      clear kb
      have kx := HT.out.kx
      obtain ⟨x0, x1, x2, x3⟩ := Blk.c4 kx
      have lx := kx.lt
      clear kx
      go_upto_region 17 with fail
      refine wp_region_ext (by kernel_rfl) (by kernel_rfl) ?_
      repeat (go_big_quiet_step (first
        | (go_at_call 39; exact quiet_ext (played_any b p _ pl A0 A1 A3 rp rc b.ts.length rl _ HOV.out.1.1 (HT.out.tf.tb.bel belC).ts HOV.out.2.1 HOV.out.2.2.1 (HPA.out.bel belC) HPO.out HL3.out HRL.out (Nat.le_refl _) (HT.out.ir.below belC) HB0.out HB1.out HB2.out HRM.out))))
      (refine wpQuiet_nil ?_; rintro _ ⟨x, rfl⟩)
      generalize hZ : ext _ _ = z6
      have hbz : Below z5.heap.size z5 z6 := by rw [← hZ]; (exact belC)
      have HT := Lib.hid (HT.out.step hbz)
      have HPA := Lib.hid (HPA.out.bel hbz)
      have KS := Lib.hid (KS.out.bel hbz)
      have KT := Lib.hid (KT.out.bel hbz)
      have KU := Lib.hid (KU.out.bel hbz)
      clear hZ hbz
      clear d0 d1 d2 d3 d4 d5 d6 d7 d8 lb cP lP
      clear x0 x1 x2 x3 lx
      have hA := ans_btw HO.out HQH.out HBT.out 0
      have hB := ans_btw HO.out HQH.out HBT.out 1
      have hC := ans_btw HO.out HQH.out HBT.out 2
      rw [HXS.out.1, HXS.out.2, HHT.out] at hA
      rw [HXT.out.1, HXT.out.2, HHT.out] at hB
      rw [HXU.out.1, HXU.out.2, HHT.out] at hC
      have hrb := runS_bd (ts := b.ts) (room := roomL rl) (fun i => (HRM.out i).1) (r := A1) (g := A3) HB1.out.1 pl A0 b.now 0 b0.1 HPO.out
      generalize runS b.ts (roomL rl) A1 A3 pl A0 b.now 0 = r at *
      obtain ⟨r1, r2⟩ := r
      dsimp only [askX, askN] at hA hB hC hrb ⊢
      have w1 : wrap64 (A0 - r1) = A0 - r1 := by unfold wrap64; omega
      have w2 : IntKind.i64.wrap (A0 - r1) = A0 - r1 := IntWalk.i64_in _ (by omega)
      have HHA := Lib.hid hA
      have HHB' := Lib.hid hB
      have HHC := Lib.hid hC
      clear hA hB hC hrb b0
      have kx := HT.out.kx
      obtain ⟨x0, x1, x2, x3⟩ := Blk.c4 kx
      have lx := kx.lt
      have kS := KS.out
      obtain ⟨cS0, cS1⟩ := Blk.c2 kS
      have lS := kS.lt
      have kT := KT.out
      obtain ⟨cT0, cT1⟩ := Blk.c2 kT
      have lT := kT.lt
      have kU := KU.out
      obtain ⟨cU0, cU1⟩ := Blk.c2 kU
      have lU := kU.lt
      clear kx kS kT kU
      have HWN := Lib.hid (wrap_num k (by omega))
      go_wp2_with (go_at_call 40; refine (Holds_yes _ _ _ _ (by first | exact HHA.out | exact HHB'.out | exact HHC.out)).mono ?_; rintro e zz ⟨rfl, y, rfl⟩)
      generalize hZ9 : ext _ _ = z9
      have HT := Lib.hid (HT.out.step (show Below z6.heap.size z6 z9 by rw [← hZ9]; (exact belC)))
      clear hZ9
      go_roundw
      case rel => exact ⟨k + 1, by omega, by first | go_num | (rw [HWN.out]), HT⟩
      case measure => simp [intOf]; omega
    · have HMM := Lib.hid HT.out.tf.tb.q.mm
      go_wp2_with (go_at_call 23; refine (tucked_any _ HMM.out).mono ?_; rintro e w99 ⟨rfl, y, hw⟩; have HT := Lib.hid (HT.out.step (show Below wr.heap.size wr w99 by rw [hw]; (exact belC))); clear hw)
      go_ret
      exact ⟨rfl, ext_of HT.out.tf.below⟩
theorem TideTrue_any (b : Tk) (p : Tp) (n : Int) (pi : Option Addr) (bits : List Int) (ci : Nat) (w : World) (hk : TB w b p) (hn : Hid (b.q.ns.length ≤ 9223372036854775807)) (hi : IntsAt w pi bits) (hbl : (bits.length : Int) ≤ 9223372036854775807) :
    Calls Tryz.prog 6 #[tv b p, .int .i64 n, .slice pi bits.length ci] w fun e w' => e = .returned (.bool true) ∧ ∃ x, w' = ext w x := by
  cases hv : validB b
  · exact TideTrue_bad b p n pi bits ci w hk hn hv
  · exact TideTrue_ok b p n pi bits ci w hk hn hi hbl hv
end Go.Proofs.YtcaeohgbgeadaaaGreatDoor

