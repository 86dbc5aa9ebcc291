/- The walk of TideCalm. Written by gen_tcalm.py. -/
import Derived.Test.YtcaeohgbgeadaaaGreatDoorQOg
import Derived.Test.YtcaeohgbgeadaaaGreatDoorQOj
import Derived.RegionTactic
set_option linter.unusedSimpArgs false
set_option linter.unusedVariables false
namespace Go.Proofs.YtcaeohgbgeadaaaGreatDoor
open Go Go.RowKit Go.Shelf
theorem TF.clean {w W : World} {b : Tk} {p : Tp} {bx : List (Nat × Int × Int)} {ls : List (Value × List Int)} (h : TF w W b p bx ls) : TF w W b p [] ls := ⟨h.below, h.tb, h.kb, fun x hx => by simp at hx, h.ls⟩
theorem TB.at {w : World} {b : Tk} {p : Tp} (h : TB w b p) (g : Int) : TB w (b.at g) p := ⟨h.q, h.ts, h.lt⟩
/-- The sets gone through so far all leave something. -/
def NoneYet (b : Tk) (H : Hl) (g : Int) (k : Nat) : Prop := ∀ z, z < k → ansHi (H.gale g) 2 (drawT b (bitsL z b.ts.length) (bitsL z b.ts.length).length) ≠ 0
def calmQ (b : Tk) (p : Tp) (g : Int) (k n0 : Nat) (x0 x1 : Int) (L : List Int) (f : Bool) (i : Nat) (u : Value) (w : World) : Prop :=
  match i with
  | 0 => u = tv b p
  | 1 => u = .int .i64 g
  | 2 => u = tv (b.at g) p
  | 3 => u = tv b p
  | 4 => u = .int .i64 k
  | 5 => f = false → PlanAt w u L
  | 6 => u = .tuple #[.agg #[.int .i64 x0, .int .i64 x1], .int .i64 0]
  | 7 => u = .tuple #[.agg #[.int .i64 x0, .int .i64 x1], .int .i64 0]
  | 8 => u = .agg #[.int .i64 x0, .int .i64 x1]
  | 9 => u = .int .i64 0
  | 10 => ∃ g, u = .pointer (some ⟨g, 0, none⟩) ∧ n0 ≤ g ∧ (f = false → Blk w g 23 #[.int .i64 0, .int .i64 0]) ∧ (f = true → Blk w g 23 #[.int .i64 x0, .int .i64 x1])
  | _ => True
theorem calmQ_kept (b : Tk) (p : Tp) (g : Int) (k n0 : Nat) (x0 x1 : Int) (L : List Int) : ∀ (f : Bool) (i : Nat), i < 12 → i ≠ 11 → ∀ (u : Value) (w w' : World), calmQ b p g k n0 x0 x1 L f i u w → Below w.heap.size w w' → calmQ b p g k n0 x0 x1 L f i u w' := by
  intro f i hi hne u w w' h hb
  match i, hi with
  | 0, _ => exact h
  | 1, _ => exact h
  | 2, _ => exact h
  | 3, _ => exact h
  | 4, _ => exact h
  | 5, _ => exact fun e => (h e).bel hb
  | 6, _ => exact h
  | 7, _ => exact h
  | 8, _ => exact h
  | 9, _ => exact h
  | 10, _ => obtain ⟨g, h1, h2, h3, h4⟩ := h; exact ⟨g, h1, h2, fun e => (h3 e).bel hb, fun e => (h4 e).bel hb⟩
  | 11, _ => exact absurd rfl hne
  | k + 12, hk => omega
attribute [local go_sem] Oper.semAt_some frozen_alloc_lt
set_option maxRecDepth 100000 in
set_option maxHeartbeats 4000000 in
theorem TideCalm_bad (b : Tk) (p : Tp) (n1 n2 : Int) (w : World) (hk : TB w b p) (hn : Hid (b.q.ns.length ≤ 9223372036854775807)) (hv : validB b = false) :
    Calls Tryz.prog 12 #[tv b p, .int .i64 n1, .int .i64 n2] w fun e w' => e = .returned (.bool true) ∧ ∃ x, w' = ext w x := by
  have HK := Lib.hid hk
  have HV := Lib.hid hv
  clear hk hv
  unfold tv
  go_enter Tryz.func12, Tryz.ntmps12
  go_wp2_with (first
    | (go_at_call 35; refine (tsound_no b p _ (HK.out.bel belA) hn HV.out).mono ?_; rintro e w1 ⟨rfl, y, rfl⟩)
    | (go_at_call 23; refine (tucked_any _ (HK.out.q.mm.below belA)).mono ?_; rintro e w1 ⟨rfl, y, rfl⟩))
  go_ret
  exact ⟨rfl, by (exact ext_of (by (exact belA)))⟩
set_option maxRecDepth 100000 in
set_option maxHeartbeats 16000000 in
theorem TideCalm_ok (b : Tk) (p : Tp) (n1 n2 : Int) (w : World) (hk : TB w b p) (hn : Hid (b.q.ns.length ≤ 9223372036854775807)) (hv : validB b = true) :
    Calls Tryz.prog 12 #[tv b p, .int .i64 n1, .int .i64 n2] w fun e w' => e = .returned (.bool true) ∧ ∃ x, w' = ext w x := by
  have HV := Lib.hid hv
  have h64 : (0 : Int) < ((2 ^ b.ts.length : Nat) : Int) := by have : 1 ≤ 2 ^ b.ts.length := Nat.one_le_two_pow; omega
  obtain ⟨z, hz⟩ := Int.eq_ofNat_of_zero_le (Int.emod_nonneg n2 (show ((2 ^ b.ts.length : Nat) : Int) ≠ 0 by omega))
  have HZ := Lib.hid hz
  have HPM := Lib.hid (drawT_plan (b := b) (L := bitsL z b.ts.length) hv (bitsL_rises _ _) (fun x hx => by obtain ⟨k, h1, -, rfl⟩ := mem_bitsL.1 hx; omega) (bitsL z b.ts.length).length).1
  clear hz h64
  have HMO := Lib.hid (of_validB hv).2.2.2.2.1.2
  have HRS := Lib.hid (of_validB hv).2.2.2.2.2.1
  obtain ⟨H, hH⟩ : ∃ H, haulOf b = H := ⟨_, rfl⟩
  have HHB := Lib.hid hH
  have HHT := Lib.hid (show H.b = b from hH ▸ rfl)
  have HO := Lib.hid (show H.OK from hH ▸ haul_ok hv)
  clear hH hv
  have HF := Lib.hid (TF.start hk)
  unfold tv
  go_enter Tryz.func12, Tryz.ntmps12
  go_upto_region 1 with fail
  unfold tcs at HF
  generalize w.alloc _ = W at HF ⊢
  have HF : Hid (TF w W b p [] []) := HF
  clear hk
  have kb := HF.out.kb
  unfold tcs at kb
  obtain ⟨d0, d1, d2, d3, d4, d5, d6, d7, d8⟩ := Blk.c9 kb
  have lb := kb.lt
  clear kb
  go_upto_region 3 with (go_at_call 35; refine (tsound_yes b p _ HF.out.tb hn HV.out).mono ?_; rintro e w1 ⟨rfl, y, hw⟩; have HF := Lib.hid (HF.out.step (show Below W.heap.size W w1 by rw [hw]; (exact belC))); clear hw)
  clear d0 d1 d2 d3 d4 d5 d6 d7 d8 lb
  have kb := HF.out.kb
  unfold tcs at kb
  obtain ⟨d0, d1, d2, d3, d4, d5, d6, d7, d8⟩ := Blk.c9 kb
  have lb := kb.lt
  clear kb
  go_upto_region 4 with (go_at_call 33; refine (Calm_yes b p H _ HF.out.tb hn HV.out HHB.out).mono ?_; rintro e w2 ⟨hour, er, rfl, hci, y, hw⟩; have HCI := Lib.hid hci; clear hci; have HF := Lib.hid (HF.out.step (show Below w1.heap.size w1 w2 by rw [hw]; (exact belC))); clear hw)
  clear d0 d1 d2 d3 d4 d5 d6 d7 d8 lb
  have HNW := Lib.hid (show H.b.now = b.now by rw [HHT.out])
  have hnw : 0 ≤ b.now ∧ b.now ≤ 60 := by have := HO.out.nw; rw [HNW.out] at this; exact this
  have HCP := Lib.hid (show ∀ (g : Int) (pl : List Int), ¬ CalmP H g → planB b.ts b.most b.rest pl = true → b.now ≤ g → g ≤ 60 → ¬ ansHi (H.gale g) 2 pl = 0 from fun g pl hc hp _ _ e => hc ⟨pl, by rw [HHT.out]; exact hp, e⟩)
  rcases HCI.out with ⟨her, h1, h2, hP, hN⟩ | ⟨her, hhr, hN⟩
  · have HP := Lib.hid hP
    have HNO := Lib.hid hN
    rw [HNW.out] at h1
    subst her
    clear hP hN HCI
    have kb := HF.out.kb
    unfold tcs at kb
    obtain ⟨d0, d1, d2, d3, d4, d5, d6, d7, d8⟩ := Blk.c9 kb
    have lb := kb.lt
    clear kb
    go_upto_region 6 with (go_at_call 50; refine (Between_yes _ _ _ _ (by assumption) (by assumption)).mono ?_; rintro e w' ⟨rfl, rfl⟩)
    clear d0 d1 d2 d3 d4 d5 d6 d7 d8 lb
    have kb := HF.out.kb
    unfold tcs at kb
    obtain ⟨d0, d1, d2, d3, d4, d5, d6, d7, d8⟩ := Blk.c9 kb
    have lb := kb.lt
    clear kb
    go_upto_region 7 with (go_at_call 37; refine (drawn_any b p n2 z _ HF.out.tb HV.out HZ.out).mono ?_; rintro e w3 ⟨vm, rfl, hpm, y, hw⟩; have HOM := Lib.hid hpm; clear hpm; have HF := Lib.hid (HF.out.step (show Below w2.heap.size w2 w3 by rw [hw]; (exact belC))); clear hw)
    clear d0 d1 d2 d3 d4 d5 d6 d7 d8 lb
    obtain ⟨ml, hml⟩ : ∃ ml, drawT b (bitsL z b.ts.length) (bitsL z b.ts.length).length = ml := ⟨_, rfl⟩
    rw [hml] at HOM HPM
    clear hml HZ
    have HF := Lib.hid (HF.out.list (plan_of_own HOM.out))
    obtain ⟨p2, c2, rfl, -, -⟩ := id (show PlanAt w3 vm ml from plan_of_own HOM.out)
    clear HOM
    have hl2 : (ml.length : Int) ≤ 6 := by have := plan_len HPM.out; have := HMO.out; omega
    obtain ⟨m, hm⟩ : ∃ m, ml.length = m := ⟨_, rfl⟩
    have HM := Lib.hid hm
    rw [hm] at HF hl2
    rw [hm]
    clear hm
    have HPQ := Lib.hid (show planB H.b.ts H.b.most H.b.rest ml = true from HHT.out.symm ▸ HPM.out)
    have a1 : wrap64 (hour - 1) = hour - 1 := by unfold wrap64; omega
    have a2 : IntKind.i64.wrap (hour - 1) = hour - 1 := IntWalk.i64_in _ (by omega)
    have kb := HF.out.kb
    unfold tcs at kb
    obtain ⟨d0, d1, d2, d3, d4, d5, d6, d7, d8⟩ := Blk.c9 kb
    have lb := kb.lt
    clear kb
    go_upto_region 10 with fail
    clear d0 d1 d2 d3 d4 d5 d6 d7 d8 lb
    by_cases hso : b.now ≤ hour - 1
    case' pos =>
      have hd : decide (b.now ≤ hour - 1) = true := by simpa using hso
      have hd' : decide (hour - 1 ≥ b.now) = true := hd
      have HSO := Lib.hid hso
      have hgz := HCP.out (hour - 1) ml (HNO.out (hour - 1) (by rw [HNW.out]; exact hso) (by omega)) HPM.out hso (by omega)
      have hz : (ansHi (H.gale (hour - 1)) 2 ml == 0) = false := by simpa using hgz
      have hz' : decide (ansHi (H.gale (hour - 1)) 2 ml = 0) = false := by simpa using hgz
      clear hgz
      have kb := HF.out.kb
      unfold tcs at kb
      obtain ⟨d0, d1, d2, d3, d4, d5, d6, d7, d8⟩ := Blk.c9 kb
      have lb := kb.lt
      clear kb
      go_upto_region 12 with (first
        | (go_at_call 51; refine (gale_any b p (hour - 1) _).mono ?_; rintro e w4 ⟨rfl, y, hw⟩; have HF := Lib.hid (HF.out.step (show Below w3.heap.size w3 w4 by rw [hw]; (exact belC))); clear hw; clear d0 d1 d2 d3 d4 d5 d6 d7 d8 lb)
        | (go_at_call 24; refine (Left_yes (b.at (hour - 1)) p _ ml (H.gale (hour - 1)) _ (HF.out.tb.at (hour - 1)) hn (HF.out.ls (.slice p2 m c2, ml) (by simp)) (by rw [HM.out]; omega) (valid_at HV.out ⟨by omega, by omega⟩) HPM.out (by rw [haul_at, HHB.out])).mono ?_; rintro e w5 ⟨rfl, y, hw⟩; have HF := Lib.hid (HF.out.step (show Below w4.heap.size w4 w5 by rw [hw]; (exact belC))); clear hw))
      generalize hW : w5.alloc _ = w6
      have HF := Lib.hid ((HF.out.step (show Below w5.heap.size w5 w6 by rw [← hW]; (exact belC))).box (g := w5.heap.size) (x := ansLo (H.gale (hour - 1)) 2 ml) (y := ansHi (H.gale (hour - 1)) 2 ml) (by rw [← hW]; exact Blk.new rfl))
      clear hW
      generalize w5.heap.size = gS at *
      have kS := HF.out.bx (gS, ansLo (H.gale (hour - 1)) 2 ml, ansHi (H.gale (hour - 1)) 2 ml) (by simp)
      dsimp only at kS
      obtain ⟨cS0, cS1⟩ := Blk.c2 kS
      have lS := kS.lt
      clear kS
      go_upto_region 14 with fail
      clear hz hz' hd hd'
      clear cS0 cS1 lS
      have HF := Lib.hid HF.out.clean
      rename World => WX
    case' neg =>
      have hd : decide (b.now ≤ hour - 1) = false := by simpa using hso
      have hd' : decide (hour - 1 ≥ b.now) = false := hd
      have kb := HF.out.kb
      unfold tcs at kb
      obtain ⟨d0, d1, d2, d3, d4, d5, d6, d7, d8⟩ := Blk.c9 kb
      have lb := kb.lt
      clear kb
      go_upto_region 14 with fail
      clear d0 d1 d2 d3 d4 d5 d6 d7 d8 lb hd hd'
      have HF := Lib.hid HF.out.clean
      rename World => WX
    all_goals
      clear hso a1 a2
      obtain ⟨r, hr⟩ := Int.eq_ofNat_of_zero_le (Int.emod_nonneg n1 (show (60 - hour + 1 : Int) ≠ 0 by omega))
      have hr2 : (r : Int) < 60 - hour + 1 := by rw [← hr]; exact Int.emod_lt_of_pos _ (by omega)
      have HR := Lib.hid hr
      have a1 : wrap64 (60 - hour) = 60 - hour := by unfold wrap64; omega
      have a2 : wrap64 (60 - hour + 1) = 60 - hour + 1 := by unfold wrap64; omega
      have a3 : wrap64 (hour + (r : Int)) = hour + (r : Int) := by unfold wrap64; omega
      have a4 : IntKind.i64.wrap (60 - hour) = 60 - hour := IntWalk.i64_in _ (by omega)
      have a5 : IntKind.i64.wrap (60 - hour + 1) = 60 - hour + 1 := IntWalk.i64_in _ (by omega)
      have a6 : IntKind.i64.wrap (hour + (r : Int)) = hour + (r : Int) := IntWalk.i64_in _ (by omega)
      have hm1 : (1 : Int) ≤ 60 - hour + 1 ∧ (60 - hour + 1 : Int) ≤ 1000000 := by omega
      clear hr
      go_upto_region 17 with (go_at_call 45; refine (Wheel_eq n1 _ (r : Int) _ hm1 HR.out).mono ?_; rintro e w50 ⟨rfl, y, hw⟩; have HF := Lib.hid (HF.out.step (show Below WX.heap.size WX w50 by rw [hw]; (exact belC))); clear hw)
      have HCL := Lib.hid (calm_later HO.out HP.out (by rw [HNW.out]; exact h1) (show hour ≤ hour + (r : Int) by omega) (by omega))
      have hl1 : b.now ≤ hour + (r : Int) ∧ hour + (r : Int) ≤ 60 := by omega
      clear a1 a2 a3 a4 a5 a6 hm1 hr2 HR h1 h2
      generalize hour + (r : Int) = later at *
      obtain ⟨P, hP⟩ : ∃ P : Nat, 2 ^ b.ts.length = P := ⟨_, rfl⟩
      have hP1 : P ≤ 64 := by
        have h6 : b.ts.length ≤ 6 := (of_validB HV.out).2.2.1
        rw [← hP]
        exact Nat.le_trans (Nat.pow_le_pow_right (by omega) h6) (by decide)
      have HPW := Lib.hid hP
      have hw1 : wrap64 ((2 : Int) ^ b.ts.length) = (P : Int) := by
        have e : ((2 : Int) ^ b.ts.length) = ((2 ^ b.ts.length : Nat) : Int) := by simp
        rw [e, hP]; unfold wrap64; omega
      have HW1 := Lib.hid hw1
      have HT6 := Lib.hid (show (b.ts.length : Int) ≤ 6 by have := (of_validB HV.out).2.2.1; omega)
      clear hP hw1
      go_upto_region 18 with fail
      go_loopw [14, 15, 16] (fun i _ _ wr => ∃ k : Nat, k ≤ P ∧ i = .int .i64 k ∧ Hid (TF w wr b p [] [(.slice p2 m c2, ml)]) ∧ Hid (NoneYet b H later k)) (fun i _ _ _ => P - (intOf i).toNat)
      case atStart => exact ⟨0, by omega, rfl, HF, Lib.hid (fun z hz => by omega)⟩
      case round =>
        clear HF
        obtain ⟨k, hk, rfl, HF, HNY⟩ := hrel
        have hw1 := HW1.out
        have ht6 := HT6.out
        have ht0 : (0 : Int) ≤ (b.ts.length : Int) := by omega
        have kb := HF.out.kb
        unfold tcs at kb
        obtain ⟨d0, d1, d2, d3, d4, d5, d6, d7, d8⟩ := Blk.c9 kb
        have lb := kb.lt
        clear kb
        by_cases hlt : k < P
        · have hlt' : (k : Int) < (P : Int) := by omega
          obtain ⟨dl, hdl⟩ : ∃ dl, drawT b (bitsL k b.ts.length) (bitsL k b.ts.length).length = dl := ⟨_, rfl⟩
          have HPD := Lib.hid (show planB b.ts b.most b.rest dl = true from hdl ▸ (drawT_plan (b := b) (L := bitsL k b.ts.length) HV.out (bitsL_rises _ _) (fun x hx => by obtain ⟨k, h1, -, rfl⟩ := mem_bitsL.1 hx; omega) (bitsL k b.ts.length).length).1)
          have HDL := Lib.hid hdl
          have HKW := Lib.hid (show (k : Int) % ((2 ^ b.ts.length : Nat) : Int) = (k : Int) from Int.emod_eq_of_lt (by omega) (by rw [HPW.out]; exact hlt'))
          have HLD := Lib.hid (show dl.length ≤ 1000 by have := plan_len HPD.out; have := HMO.out; omega)
          generalize hX0 : ansLo (H.gale later) 2 dl = x0 at *
          generalize hX1 : ansHi (H.gale later) 2 dl = x1 at *
          have HX := Lib.hid (And.intro hX0 hX1)
          have HVA := Lib.hid (valid_at HV.out hl1)
          clear hdl hX0 hX1
          go_upto_region 20 with fail
          clear d0 d1 d2 d3 d4 d5 d6 d7 d8 lb
          refine wp_region_flow_backS 12 107 11 (fun _ => True) (calmQ b p later k wr.heap.size x0 x1 dl) (by kernel_rfl) (by kernel_rfl) rfl (by omega) (calmQ_kept _ _ _ _ _ _ _ _) (fun _ _ h _ => h) ?_ ?_ ?_
          · intro i hin hik f a X h1 h2 h3 h4' h5 hfw KK hKK
            have h4 := fun j (hj : j ≠ 11) => h4' j hj
            match i, hin with
            | 0, _ => exact st_val rfl (wanted_none rfl) (run_tbook _ rfl (h3 3 (by kernel_rfl)) (HF.out.kb.bel h5)) (hKK _ _ rfl (Below.refl _ _))
            | 1, _ => exact st_move rfl rfl (wanted_none rfl) (h3 13 (by kernel_rfl)) (hKK _ _ rfl (Below.refl _ _))
            | 2, _ =>
              refine st_call rfl rfl (wanted_none rfl) (args2 (h4 0 (by decide) (by kernel_rfl)) (h4 1 (by decide) (by kernel_rfl))) (run_enter Tryz.func51 (by kernel_rfl) (by kernel_rfl) _) ?_
              refine (gale_any b p later _).mono ?_
              rintro e w1 ⟨rfl, y9, rfl⟩
              exact ⟨_, rfl, hKK _ _ rfl (below_ext _ _)⟩
            | 3, _ => exact st_val rfl (wanted_none rfl) (run_tbook _ rfl (h3 3 (by kernel_rfl)) (HF.out.kb.bel h5)) (hKK _ _ rfl (Below.refl _ _))
            | 4, _ => exact st_move rfl rfl (wanted_none rfl) (h3 14 (by kernel_rfl)) (hKK _ _ rfl (Below.refl _ _))
            | 5, _ =>
              refine st_call rfl rfl (wanted_none rfl) (args2 (h4 3 (by decide) (by kernel_rfl)) (h4 4 (by decide) (by kernel_rfl))) (run_enter Tryz.func37 (by kernel_rfl) (by kernel_rfl) _) ?_
              refine (drawn_any b p k k _ (HF.out.tb.bel h5) HV.out HKW.out).mono ?_
              rintro e w1 ⟨v', rfl, ho, y9, rfl⟩
              rw [HDL.out] at ho
              exact ⟨_, rfl, hKK _ _ (fun _ => plan_of_own ho) (below_ext _ _)⟩
            | 6, _ =>
              cases f with
              | true =>
                have e := hfw rfl
                have e2 : true = false := Eq.trans (by kernel_rfl) e
                cases e2
              | false =>
                refine st_call rfl rfl (wanted_none rfl) (args2 (h4 2 (by decide) (by kernel_rfl)) rfl) (run_enter Tryz.func24 (by kernel_rfl) (by kernel_rfl) _) ?_
                refine (Left_yes (b.at later) p _ dl (H.gale later) _ ((HF.out.tb.at later).bel h5) hn (h4 5 (by decide) (by kernel_rfl) rfl) HLD.out HVA.out HPD.out (by rw [haul_at, HHB.out])).mono ?_
                rintro e w1 ⟨rfl, y9, rfl⟩
                exact ⟨_, rfl, hKK _ _ (by rw [HX.out.1, HX.out.2]; rfl) (below_ext _ _)⟩
            | 7, _ => exact st_move rfl rfl (wanted_none rfl) (h4 6 (by decide) (by kernel_rfl)) (hKK _ _ rfl (Below.refl _ _))
            | 8, _ => exact st_val rfl (wanted_none rfl) (run_ext0 _ rfl (h4 7 (by decide) (by kernel_rfl))) (hKK _ _ rfl (Below.refl _ _))
            | 9, _ => exact st_val rfl (wanted_none rfl) (run_ext1 _ rfl (h4 7 (by decide) (by kernel_rfl))) (hKK _ _ rfl (Below.refl _ _))
            | 10, _ =>
              cases f with
              | true =>
                have e := hfw rfl
                have e2 : true = false := Eq.trans (by kernel_rfl) e
                cases e2
              | false => exact st_valw rfl (wanted_none rfl) (run_aSpan _ rfl) (hKK _ _ ⟨_, rfl, h5.size, fun _ => Blk.new rfl, fun e => by cases e⟩ ((Below.refl _ _).alloc (Nat.le_refl _) _))
            | 11, _ => exact absurd rfl hik
            | j + 12, hj => omega
          · intro a X h1 h2 h3 h4 h5 KK hKK
            obtain ⟨gk, e1, e2, e3, -⟩ := h4 10 (by decide) (by kernel_rfl)
            refine st_store_span rfl (wanted_none rfl) rfl rfl e1 (h4 8 (by decide) (by kernel_rfl)) (e3 rfl) (fun w' hw' hfar hblk => hKK w' trivial (fun j hj hjk hr => ?_) (hw' _ e2))
            match j, hj with
            | 0, _ => exact hr
            | 1, _ => exact hr
            | 2, _ => exact hr
            | 3, _ => exact hr
            | 4, _ => exact hr
            | 5, _ => exact fun e => by cases e
            | 6, _ => exact hr
            | 7, _ => exact hr
            | 8, _ => exact hr
            | 9, _ => exact hr
            | 10, _ =>
              obtain ⟨ba', d1, d2, -, -⟩ := hr
              have hbb : ba' = gk := by
                have := e1.symm.trans d1
                simpa using this.symm
              subst hbb
              exact ⟨_, d1, d2, (fun e => by cases e), fun _ => hblk⟩
            | 11, _ => exact absurd rfl hjk
            | k + 12, hk => omega
          intro vs Z hvs _ hBZ
          have v0 : vs 0 = _ := hvs 0 (by omega) (by decide)
          have v1 : vs 1 = _ := hvs 1 (by omega) (by decide)
          have v2 : vs 2 = _ := hvs 2 (by omega) (by decide)
          have v3 : vs 3 = _ := hvs 3 (by omega) (by decide)
          have v4 : vs 4 = _ := hvs 4 (by omega) (by decide)
          have v6 : vs 6 = _ := hvs 6 (by omega) (by decide)
          have v7 : vs 7 = _ := hvs 7 (by omega) (by decide)
          have v8 : vs 8 = _ := hvs 8 (by omega) (by decide)
          have v9 : vs 9 = _ := hvs 9 (by omega) (by decide)
          obtain ⟨gk, v10, hgk, -, hkk'⟩ := hvs 10 (by omega) (by decide)
          have KX := Lib.hid (hkk' rfl)
          simp only [putSkip, Nat.reduceEqDiff, reduceIte, v0, v1, v2, v3, v4, v6, v7, v8, v9, v10]
          clear v0 v1 v2 v3 v4 v6 v7 v8 v9 v10
          generalize vs 5 = v5
          clear hvs hkk'
          simp only [dstOf, Act.put, List.getElem?_toArray, List.getElem?_cons_zero, List.getElem?_cons_succ, Option.bind_some, Option.getD_some, List.setIfInBounds_toArray, List.set_cons_succ, List.set_cons_zero, List.drop_succ_cons, List.drop_zero]
          have HF := Lib.hid (HF.out.step hBZ)
          clear hBZ
          have kx := KX.out
          obtain ⟨u0, u1⟩ := Blk.c2 kx
          have lx := kx.lt
          clear kx
          have HWN := Lib.hid (wrap_num k (by omega))
          by_cases hz : x1 = 0
          · have hd : decide (x1 = 0) = true := by simpa using hz
            have hd2 : (x1 == 0) = true := by simpa using hz
            have HMM := Lib.hid HF.out.tb.q.mm
            clear hz
            go_wp2_with (go_at_call 23; refine (tucked_any _ HMM.out).mono ?_; rintro e w99 ⟨rfl, y, hw⟩; have HF := Lib.hid (HF.out.step (show Below Z.heap.size Z w99 by rw [hw]; (exact belC))); clear hw)
            go_ret
            exact ⟨rfl, ext_of HF.out.below⟩
          · have hd : decide (x1 = 0) = false := by simpa using hz
            have hd2 : (x1 == 0) = false := by simpa using hz
            have HNY2 := Lib.hid (show NoneYet b H later (k + 1) from fun z hzz => by
              by_cases hzk : z = k
              · subst hzk; rw [HDL.out, HX.out.2]; exact hz
              · exact HNY.out z (by omega))
            clear hz
            go_wp2_with fail
            go_roundw
            case rel => exact ⟨k + 1, by omega, by first | go_num | (rw [HWN.out]), HF, HNY2⟩
            case measure => simp [intOf]; omega
        · exfalso
          obtain ⟨pl, hp, e⟩ := HCL.out
          rw [HHT.out] at hp
          obtain ⟨z, hz1, hz2⟩ := drawn_some (b := b) (pl := pl) HRS.out hp
          rw [HPW.out] at hz1
          exact HNY.out z (by omega) (by rw [hz2]; exact e)
  · have HNO := Lib.hid hN
    subst her hhr
    clear hN HCI
    have kb := HF.out.kb
    unfold tcs at kb
    obtain ⟨d0, d1, d2, d3, d4, d5, d6, d7, d8⟩ := Blk.c9 kb
    have lb := kb.lt
    clear kb
    go_upto_region 6 with fail
    clear d0 d1 d2 d3 d4 d5 d6 d7 d8 lb
    have kb := HF.out.kb
    unfold tcs at kb
    obtain ⟨d0, d1, d2, d3, d4, d5, d6, d7, d8⟩ := Blk.c9 kb
    have lb := kb.lt
    clear kb
    go_upto_region 7 with (go_at_call 37; refine (drawn_any b p n2 z _ HF.out.tb HV.out HZ.out).mono ?_; rintro e w3 ⟨vm, rfl, hpm, y, hw⟩; have HOM := Lib.hid hpm; clear hpm; have HF := Lib.hid (HF.out.step (show Below w2.heap.size w2 w3 by rw [hw]; (exact belC))); clear hw)
    clear d0 d1 d2 d3 d4 d5 d6 d7 d8 lb
    obtain ⟨ml, hml⟩ : ∃ ml, drawT b (bitsL z b.ts.length) (bitsL z b.ts.length).length = ml := ⟨_, rfl⟩
    rw [hml] at HOM HPM
    clear hml HZ
    have HF := Lib.hid (HF.out.list (plan_of_own HOM.out))
    obtain ⟨p2, c2, rfl, -, -⟩ := id (show PlanAt w3 vm ml from plan_of_own HOM.out)
    clear HOM
    have hl2 : (ml.length : Int) ≤ 6 := by have := plan_len HPM.out; have := HMO.out; omega
    obtain ⟨m, hm⟩ : ∃ m, ml.length = m := ⟨_, rfl⟩
    have HM := Lib.hid hm
    rw [hm] at HF hl2
    rw [hm]
    clear hm
    have HPQ := Lib.hid (show planB H.b.ts H.b.most H.b.rest ml = true from HHT.out.symm ▸ HPM.out)
    have hso : decide (b.now ≤ 60) = true := by simpa using hnw.2
    have hso' : decide ((60 : Int) ≥ b.now) = true := hso
    have hgz := HCP.out 60 ml (HNO.out 60 (by rw [HNW.out]; exact hnw.2) (by omega)) HPM.out hnw.2 (by omega)
    have hz : (ansHi (H.gale 60) 2 ml == 0) = false := by simpa using hgz
    have hz' : decide (ansHi (H.gale 60) 2 ml = 0) = false := by simpa using hgz
    clear hgz
    have kb := HF.out.kb
    unfold tcs at kb
    obtain ⟨d0, d1, d2, d3, d4, d5, d6, d7, d8⟩ := Blk.c9 kb
    have lb := kb.lt
    clear kb
    go_upto_region 12 with (first
      | (go_at_call 51; refine (gale_any b p 60 _).mono ?_; rintro e w4 ⟨rfl, y, hw⟩; have HF := Lib.hid (HF.out.step (show Below w3.heap.size w3 w4 by rw [hw]; (exact belC))); clear hw; clear d0 d1 d2 d3 d4 d5 d6 d7 d8 lb)
      | (go_at_call 24; refine (Left_yes (b.at 60) p _ ml (H.gale 60) _ (HF.out.tb.at 60) hn (HF.out.ls (.slice p2 m c2, ml) (by simp)) (by rw [HM.out]; omega) (valid_at HV.out ⟨by omega, by omega⟩) HPM.out (by rw [haul_at, HHB.out])).mono ?_; rintro e w5 ⟨rfl, y, hw⟩; have HF := Lib.hid (HF.out.step (show Below w4.heap.size w4 w5 by rw [hw]; (exact belC))); clear hw))
    generalize hW : w5.alloc _ = w6
    have HF := Lib.hid ((HF.out.step (show Below w5.heap.size w5 w6 by rw [← hW]; (exact belC))).box (g := w5.heap.size) (x := ansLo (H.gale 60) 2 ml) (y := ansHi (H.gale 60) 2 ml) (by rw [← hW]; exact Blk.new rfl))
    clear hW
    generalize w5.heap.size = gS at *
    have kS := HF.out.bx (gS, ansLo (H.gale 60) 2 ml, ansHi (H.gale 60) 2 ml) (by simp)
    dsimp only at kS
    obtain ⟨cS0, cS1⟩ := Blk.c2 kS
    have lS := kS.lt
    clear kS
    have HMM := Lib.hid HF.out.tb.q.mm
    go_wp2_with (go_at_call 23; refine (tucked_any _ HMM.out).mono ?_; rintro e w99 ⟨rfl, y, hw⟩; have HF := Lib.hid (HF.out.step (show Below w6.heap.size w6 w99 by rw [hw]; (exact belC))); clear hw)
    go_ret
    exact ⟨rfl, ext_of HF.out.below⟩
theorem TideCalm_any (b : Tk) (p : Tp) (n1 n2 : Int) (w : World) (hk : TB w b p) (hn : Hid (b.q.ns.length ≤ 9223372036854775807)) :
    Calls Tryz.prog 12 #[tv b p, .int .i64 n1, .int .i64 n2] w fun e w' => e = .returned (.bool true) ∧ ∃ x, w' = ext w x := by
  cases hv : validB b
  · exact TideCalm_bad b p n1 n2 w hk hn hv
  · exact TideCalm_ok b p n1 n2 w hk hn hv
end Go.Proofs.YtcaeohgbgeadaaaGreatDoor

