/- The walk of TideSpare. Written by gen_tspare.py. -/
import Derived.Test.YtcaeohgbgeadaaaGreatDoorQOa
import Derived.Test.YtcaeohgbgeadaaaGreatDoorQEe
import Derived.Test.YtcaeohgbgeadaaaGreatDoorQOj
import Derived.RegionTactic
set_option linter.unusedSimpArgs false
set_option linter.unusedVariables false
namespace Go.Proofs.YtcaeohgbgeadaaaGreatDoor
open Go Go.RowKit Go.Shelf
theorem Rises_eq (p : Option Addr) (c : Nat) (l : List Int) (nl : Nat) (below : Int) (w : World) (hl : IntsAt w p l) (hb : (l.length : Int) ≤ 1000) (hn : l.length = nl) (h1 : 0 ≤ below) (h2 : below ≤ 100000) (hr : risesB below 0 l = true) :
    Calls Tryz.prog 38 #[.slice p nl c, .int .i64 below] w fun e w' => e = .returned (.bool true) ∧ w = w' := by
  subst hn; exact Rises_yes p c l below w hl hb h1 h2 hr
/-- The place of a number in a rising list. -/
theorem Place_fix (l : List Int) (x : Int) (hP : l.Pairwise (· < ·)) (hb : (l.length : Int) ≤ 1000) : ∃ j : Int, (0 ≤ j ↔ x ∈ l) ∧ ∀ (p : Option Addr) (c n : Nat) (w : World), IntsAt w p l → l.length = n →
    Calls Tryz.prog 47 #[.slice p n c, .int .i64 x] w fun e w' => e = .returned (.int .i64 j) ∧ ∃ y, w' = ext w y := by
  by_cases hx : x ∈ l
  · obtain ⟨i, hi, he⟩ := List.mem_iff_getElem.1 hx
    refine ⟨(i : Int), by simp [hx], fun p c n w hl hn => ?_⟩
    subst hn
    refine (Place_yes p c l x w hl hb hx).mono ?_
    rintro e w' ⟨k, hk, rfl, rfl⟩
    obtain ⟨hk1, hk2⟩ := List.getElem?_eq_some_iff.1 hk
    have : k = i := by
      rcases Nat.lt_trichotomy k i with h | h | h
      · have := List.pairwise_iff_getElem.1 hP k i hk1 hi h; omega
      · exact h
      · have := List.pairwise_iff_getElem.1 hP i k hi hk1 h; omega
    subst this
    exact ⟨rfl, ext_of (Below.refl _ _)⟩
  · refine ⟨-1, by simp [hx], fun p c n w hl hn => ?_⟩
    refine (Place_none p c l n x w hl hb hx hn).mono ?_
    rintro e w' ⟨rfl, rfl⟩
    exact ⟨rfl, ext_of (Below.refl _ _)⟩
def spareQ (b : Tk) (p : Tp) (q2 : Option Addr) (m c2 k n0 : Nat) (x0 x1 : Int) (L : List Int) (f : Bool) (i : Nat) (u : Value) (w : World) : Prop :=
  match i with
  | 0 => u = tv b p
  | 1 => u = .slice q2 m c2
  | 2 => u = .int .i64 k
  | 3 => f = false → PlanAt w u L
  | 4 => u = .tuple #[.agg #[.int .i64 x0, .int .i64 x1], .int .i64 0]
  | 5 => u = .tuple #[.agg #[.int .i64 x0, .int .i64 x1], .int .i64 0]
  | 6 => u = .agg #[.int .i64 x0, .int .i64 x1]
  | 7 => u = .int .i64 0
  | 8 => ∃ g, u = .pointer (some ⟨g, 0, none⟩) ∧ n0 ≤ g ∧ (f = false → Blk w g 23 #[.int .i64 0, .int .i64 0]) ∧ (f = true → Blk w g 23 #[.int .i64 x0, .int .i64 x1])
  | _ => True
theorem spareQ_kept (b : Tk) (p : Tp) (q2 : Option Addr) (m c2 k n0 : Nat) (x0 x1 : Int) (L : List Int) : ∀ (f : Bool) (i : Nat), i < 10 → i ≠ 9 → ∀ (u : Value) (w w' : World), spareQ b p q2 m c2 k n0 x0 x1 L f i u w → Below w.heap.size w w' → spareQ b p q2 m c2 k n0 x0 x1 L f i u w' := by
  intro f i hi hne u w w' h hb
  match i, hi with
  | 0, _ => exact h
  | 1, _ => exact h
  | 2, _ => exact h
  | 3, _ => exact fun e => (h e).bel hb
  | 4, _ => exact h
  | 5, _ => exact h
  | 6, _ => exact h
  | 7, _ => exact h
  | 8, _ => obtain ⟨g, h1, h2, h3, h4⟩ := h; exact ⟨g, h1, h2, fun e => (h3 e).bel hb, fun e => (h4 e).bel hb⟩
  | 9, _ => exact absurd rfl hne
  | k + 10, hk => omega
attribute [local go_sem] Oper.semAt_some frozen_alloc_lt
set_option maxRecDepth 100000 in
set_option maxHeartbeats 4000000 in
theorem TideSpare_bad (b : Tk) (p : Tp) (n : Int) (w : World) (hk : TB w b p) (hn : Hid (b.q.ns.length ≤ 9223372036854775807)) (hv : validB b = false) :
    Calls Tryz.prog 10 #[tv b p, .int .i64 n] w fun e w' => e = .returned (.bool true) ∧ ∃ x, w' = ext w x := by
  have HK := Lib.hid hk
  have HV := Lib.hid hv
  clear hk hv
  unfold tv
  go_enter Tryz.func10, Tryz.ntmps10
  go_wp2_with (first
    | (go_at_call 35; refine (tsound_no b p _ (HK.out.bel belA) hn HV.out).mono ?_; rintro e w1 ⟨rfl, y, rfl⟩)
    | (go_at_call 23; refine (tucked_any _ (HK.out.q.mm.below belA)).mono ?_; rintro e w1 ⟨rfl, y, rfl⟩))
  go_ret
  exact ⟨rfl, by (exact ext_of (by (exact belA)))⟩
set_option maxRecDepth 100000 in
set_option maxHeartbeats 16000000 in
theorem TideSpare_ok (b : Tk) (p : Tp) (n : Int) (w : World) (hk : TB w b p) (hn : Hid (b.q.ns.length ≤ 9223372036854775807)) (hv : validB b = true) :
    Calls Tryz.prog 10 #[tv b p, .int .i64 n] w fun e w' => e = .returned (.bool true) ∧ ∃ x, w' = ext w x := by
  have HV := Lib.hid hv
  have h64 : (0 : Int) < ((2 ^ b.ts.length : Nat) : Int) := by have : 1 ≤ 2 ^ b.ts.length := Nat.one_le_two_pow; omega
  obtain ⟨z, hz⟩ := Int.eq_ofNat_of_zero_le (Int.emod_nonneg n (show ((2 ^ b.ts.length : Nat) : Int) ≠ 0 by omega))
  have HZ := Lib.hid hz
  have HPM := Lib.hid (drawT_plan (b := b) (L := bitsL z b.ts.length) hv (bitsL_rises _ _) (fun x hx => by obtain ⟨k, h1, -, rfl⟩ := mem_bitsL.1 hx; omega) (bitsL z b.ts.length).length).1
  clear hz h64
  have HMO := Lib.hid (of_validB hv).2.2.2.2.1.2
  have HRS := Lib.hid (of_validB hv).2.2.2.2.2.1
  obtain ⟨H, hH⟩ : ∃ H, haulOf b = H := ⟨_, rfl⟩
  have HHB := Lib.hid hH
  have HHT := Lib.hid (show H.b = b from hH ▸ rfl)
  have HO := Lib.hid (show H.OK from hH ▸ haul_ok hv)
  clear hH hv
  have HF := Lib.hid (TF.start hk)
  unfold tv
  go_enter Tryz.func10, Tryz.ntmps10
  go_upto_region 1 with fail
  unfold tcs at HF
  generalize w.alloc _ = W at HF ⊢
  have HF : Hid (TF w W b p [] []) := HF
  clear hk
  have kb := HF.out.kb
  unfold tcs at kb
  obtain ⟨d0, d1, d2, d3, d4, d5, d6, d7, d8⟩ := Blk.c9 kb
  have lb := kb.lt
  clear kb
  go_upto_region 3 with (go_at_call 35; refine (tsound_yes b p _ HF.out.tb hn HV.out).mono ?_; rintro e w1 ⟨rfl, y, hw⟩; have HF := Lib.hid (HF.out.step (show Below W.heap.size W w1 by rw [hw]; (exact belC))); clear hw)
  clear d0 d1 d2 d3 d4 d5 d6 d7 d8 lb
  have kb := HF.out.kb
  unfold tcs at kb
  obtain ⟨d0, d1, d2, d3, d4, d5, d6, d7, d8⟩ := Blk.c9 kb
  have lb := kb.lt
  clear kb
  go_upto_region 4 with (go_at_call 37; refine (drawn_any b p n z _ HF.out.tb HV.out HZ.out).mono ?_; rintro e w2 ⟨vm, rfl, hpm, y, hw⟩; have HOM := Lib.hid hpm; clear hpm; have HF := Lib.hid (HF.out.step (show Below w1.heap.size w1 w2 by rw [hw]; (exact belC))); clear hw)
  clear d0 d1 d2 d3 d4 d5 d6 d7 d8 lb
  obtain ⟨ml, hml⟩ : ∃ ml, drawT b (bitsL z b.ts.length) (bitsL z b.ts.length).length = ml := ⟨_, rfl⟩
  rw [hml] at HOM HPM
  clear hml HZ
  have HF := Lib.hid (HF.out.list (plan_of_own HOM.out))
  obtain ⟨p2, c2, rfl, -, -⟩ := id (show PlanAt w2 vm ml from plan_of_own HOM.out)
  clear HOM
  have hl2 : (ml.length : Int) ≤ 6 := by have := plan_len HPM.out; have := HMO.out; omega
  obtain ⟨m, hm⟩ : ∃ m, ml.length = m := ⟨_, rfl⟩
  have HM := Lib.hid hm
  rw [hm] at HF hl2
  rw [hm]
  clear hm
  have HPQ := Lib.hid (show planB H.b.ts H.b.most H.b.rest ml = true from HHT.out.symm ▸ HPM.out)
  have kb := HF.out.kb
  unfold tcs at kb
  obtain ⟨d0, d1, d2, d3, d4, d5, d6, d7, d8⟩ := Blk.c9 kb
  have lb := kb.lt
  clear kb
  go_upto_region 5 with (go_at_call 28; refine (Spare_yes b p _ ml H _ HF.out.tb hn (HF.out.ls (.slice p2 m c2, ml) (by simp)) (by rw [HM.out]; omega) HV.out HPM.out HHB.out).mono ?_; rintro e w3 ⟨vl, rfl, hol, y, hw⟩; have HOL := Lib.hid hol; clear hol; have HF := Lib.hid (HF.out.step (show Below w2.heap.size w2 w3 by rw [hw]; (exact belC))); clear hw)
  clear d0 d1 d2 d3 d4 d5 d6 d7 d8 lb
  have HSI := Lib.hid (fun (i : Nat) (x : Int) (hi : ml[i]? = some x) => spare_iff HO.out HPQ.out hi)
  have HSR := Lib.hid (spare_rises HO.out HPQ.out)
  obtain ⟨sl, hsl⟩ : ∃ sl, sprL H ml ml.length = sl := ⟨_, rfl⟩
  have HLS := Lib.hid (show (sprL H ml ml.length).length ≤ 1000 by have := sprL_len H ml ml.length; have := HM.out; omega)
  rw [hsl] at HOL HSI HSR HLS
  clear hsl
  have HF := Lib.hid (HF.out.list (plan_of_own HOL.out))
  obtain ⟨p3, c3, rfl, -, -⟩ := id (show PlanAt w3 vl sl from plan_of_own HOL.out)
  clear HOL
  obtain ⟨ns, hns⟩ : ∃ ns, sl.length = ns := ⟨_, rfl⟩
  have HN := Lib.hid hns
  rw [hns] at HF
  rw [hns]
  clear hns
  have kb := HF.out.kb
  unfold tcs at kb
  obtain ⟨d0, d1, d2, d3, d4, d5, d6, d7, d8⟩ := Blk.c9 kb
  have lb := kb.lt
  clear kb
  go_upto_region 6 with (go_at_call 21; refine (Lost_yes b p _ ml H _ HF.out.tb hn (HF.out.ls (.slice p2 m c2, ml) (by simp)) (by rw [HM.out]; omega) HV.out HPM.out HHB.out).mono ?_; rintro e w4 ⟨rfl, y, hw⟩; have HF := Lib.hid (HF.out.step (show Below w3.heap.size w3 w4 by rw [hw]; (exact belC))); clear hw)
  clear d0 d1 d2 d3 d4 d5 d6 d7 d8 lb
  generalize hW : w4.alloc _ = w5
  have HF := Lib.hid ((HF.out.step (show Below w4.heap.size w4 w5 by rw [← hW]; (exact belC))).box (g := w4.heap.size) (x := ansLo H 1 ml) (y := ansHi H 1 ml) (by rw [← hW]; exact Blk.new rfl))
  clear hW
  generalize w4.heap.size = gT at *
  have kb := HF.out.kb
  unfold tcs at kb
  obtain ⟨d0, d1, d2, d3, d4, d5, d6, d7, d8⟩ := Blk.c9 kb
  have lb := kb.lt
  clear kb
  go_upto_region 7 with (go_at_call 31; refine (Best_yes b p H _ HF.out.tb hn HV.out HHB.out).mono ?_; rintro e w6 ⟨vb, pb, rfl, hpb, hbb, y, hw⟩; have HPB := Lib.hid hpb; have HBB := Lib.hid hbb; clear hpb hbb; have HF := Lib.hid (HF.out.step (show Below w5.heap.size w5 w6 by rw [hw]; (exact belC))); clear hw)
  clear d0 d1 d2 d3 d4 d5 d6 d7 d8 lb
  have HF := Lib.hid (HF.out.list HPB.out.1)
  have HPP := Lib.hid (show planB b.ts b.most b.rest pb = true from HHT.out ▸ HBB.out.1)
  have HL3 := Lib.hid (show pb.length ≤ 1000 by have := plan_len HPP.out; have := HMO.out; omega)
  have kb := HF.out.kb
  unfold tcs at kb
  obtain ⟨d0, d1, d2, d3, d4, d5, d6, d7, d8⟩ := Blk.c9 kb
  have lb := kb.lt
  clear kb
  go_upto_region 8 with (go_at_call 28; refine (Spare_yes b p _ pb H _ HF.out.tb hn (HF.out.ls (vb, pb) (by simp)) (HL3.out) HV.out HPP.out HHB.out).mono ?_; rintro e w7 ⟨vs, rfl, hos, y, hw⟩; have HOS := Lib.hid hos; clear hos; have HF := Lib.hid (HF.out.step (show Below w6.heap.size w6 w7 by rw [hw]; (exact belC))); clear hw)
  clear d0 d1 d2 d3 d4 d5 d6 d7 d8 lb
  have hos := HOS.out
  rw [best_spare HO.out HBB.out pb.length] at hos
  obtain ⟨p4, c4, rfl, -⟩ := hos.at
  clear HOS HPB
  dsimp only [List.length_nil]
  have HIL := Lib.hid (HF.out.ls (.slice p3 ns c3, sl) (by simp))
  obtain ⟨-, hI3, -⟩ := HIL.out.parts
  have hl7 : (sl.length : Int) ≤ 1000 := by have := HLS.out; omega
  have HI3 := Lib.hid hI3
  clear hI3 HIL
  have kb := HF.out.kb
  unfold tcs at kb
  obtain ⟨d0, d1, d2, d3, d4, d5, d6, d7, d8⟩ := Blk.c9 kb
  have lb := kb.lt
  clear kb
  have HRI := Lib.hid (show risesB (b.ts.length : Int) 0 sl = true from risesB_of sl 0 (fun x hx => by have := (HSR.out.2 x hx).2; rw [HHT.out] at this; exact this) HSR.out.1)
  have hts : (0 : Int) ≤ (b.ts.length : Int) ∧ (b.ts.length : Int) ≤ 100000 := by have := HO.out.ln; rw [HHT.out] at this; omega
  go_upto_region 11 with (go_at_call 38; refine (Rises_eq p3 c3 sl ns _ _ HI3.out hl7 HN.out hts.1 hts.2 HRI.out).mono ?_; rintro e w8 ⟨rfl, hw⟩; subst hw)
  clear d0 d1 d2 d3 d4 d5 d6 d7 d8 lb
  have HF : Hid (TF w w7 b p [(gT, ansLo H 1 ml, ansHi H 1 ml)] [(vb, pb), (.slice p3 ns c3, sl), (.slice p2 m c2, ml)]) := HF
  go_loopw [14, 15, 16] (fun i _ _ wr => ∃ k : Nat, k ≤ m ∧ i = .int .i64 k ∧ Hid (TF w wr b p [(gT, ansLo H 1 ml, ansHi H 1 ml)] [(vb, pb), (.slice p3 ns c3, sl), (.slice p2 m c2, ml)])) (fun i _ _ _ => m - (intOf i).toNat)
  case atStart => exact ⟨0, by omega, rfl, HF⟩
  case round =>
    clear HF HI3
    obtain ⟨k, hk, rfl, HF⟩ := hrel
    by_cases hlt : k < m
    · obtain ⟨y, hy⟩ := get_some ml k (by rw [HM.out]; exact hlt)
      obtain ⟨hs1, hs2⟩ := HSI.out k y hy
      obtain ⟨j, hj1, hj2⟩ := Place_fix sl y HSR.out.1 hl7
      have HY := Lib.hid hy
      have HJ := Lib.hid hj2
      have HPE := Lib.hid (plan_erase HRS.out HPM.out k)
      have hl4 : (ml.eraseIdx k).length ≤ 1000 := Nat.le_trans (List.eraseIdx_sublist ml k).length_le (by rw [HM.out]; omega)
      have HLE := Lib.hid hl4
      have HLM := Lib.hid (show ml.length ≤ 1000 by rw [HM.out]; omega)
      generalize hX0 : ansLo H 1 (ml.eraseIdx k) = x0 at *
      generalize hX1 : ansHi H 1 (ml.eraseIdx k) = x1 at *
      have HX := Lib.hid (And.intro hX0 hX1)
      obtain ⟨t1, ht1⟩ : ∃ t1, ansHi H 1 ml = t1 := ⟨_, rfl⟩
      have HT1 := Lib.hid ht1
      rw [ht1] at hs1 hs2
      have f1 : decide (x1 < t1) = false := by simp; omega
      have f2 : ((x1 == t1) != decide (0 ≤ j)) = false := by
        have h3 : x1 = t1 ↔ 0 ≤ j := hs1.trans hj1.symm
        by_cases h4 : x1 = t1
        · have h5 := h3.1 h4; simp [h4, h5]
        · have h5 : ¬ 0 ≤ j := fun h => h4 (h3.2 h); simp [h4, h5]
      have f3 : (!((x1 == t1) == decide (0 ≤ j))) = false := by rw [← f2]; rfl
      clear hy hj2 hl4 hs1 hs2 hj1 hX0 hX1 ht1
      go_upto_region 13 with fail
      refine wp_region_flow_backS 10 127 9 (fun _ => True) (spareQ b p p2 m c2 k wr.heap.size x0 x1 (ml.eraseIdx k)) (by kernel_rfl) (by kernel_rfl) rfl (by omega) (spareQ_kept _ _ _ _ _ _ _ _ _ _) (fun _ _ h _ => h) ?_ ?_ ?_
      · intro i hin hik f a X h1 h2 h3 h4' h5 hfw KK hKK
        have h4 := fun j (hj : j ≠ 9) => h4' j hj
        match i, hin with
        | 0, _ => exact st_val rfl (wanted_none rfl) (run_tbook _ rfl (h3 2 (by kernel_rfl)) (HF.out.kb.bel h5)) (hKK _ _ rfl (Below.refl _ _))
        | 1, _ => exact st_move rfl rfl (wanted_none rfl) (h3 5 (by kernel_rfl)) (hKK _ _ rfl (Below.refl _ _))
        | 2, _ => exact st_move rfl rfl (wanted_none rfl) (h3 14 (by kernel_rfl)) (hKK _ _ rfl (Below.refl _ _))
        | 3, _ =>
          refine st_call rfl rfl (wanted_none rfl) (args2 (h4 1 (by decide) (by kernel_rfl)) (h4 2 (by decide) (by kernel_rfl))) (run_enter Tryz.func46 (by kernel_rfl) (by kernel_rfl) _) ?_
          refine (lwithout_any _ ml k _ ((HF.out.ls (.slice p2 m c2, ml) (by simp)).bel h5) (by rw [HM.out]; exact hlt) HLM.out).mono ?_
          rintro e w1 ⟨v', rfl, ho, y9, rfl⟩
          exact ⟨_, rfl, hKK _ _ (fun _ => plan_of_own ho) (below_ext _ _)⟩
        | 4, _ =>
          cases f with
          | true =>
            have e := hfw rfl
            have e2 : true = false := Eq.trans (by kernel_rfl) e
            cases e2
          | false =>
            refine st_call rfl rfl (wanted_none rfl) (args2 (h4 0 (by decide) (by kernel_rfl)) rfl) (run_enter Tryz.func21 (by kernel_rfl) (by kernel_rfl) _) ?_
            refine (Lost_yes b p _ (ml.eraseIdx k) H _ (HF.out.tb.bel h5) hn (h4 3 (by decide) (by kernel_rfl) rfl) HLE.out HV.out HPE.out HHB.out).mono ?_
            rintro e w1 ⟨rfl, y9, rfl⟩
            exact ⟨_, rfl, hKK _ _ (by rw [HX.out.1, HX.out.2]; rfl) (below_ext _ _)⟩
        | 5, _ => exact st_move rfl rfl (wanted_none rfl) (h4 4 (by decide) (by kernel_rfl)) (hKK _ _ rfl (Below.refl _ _))
        | 6, _ => exact st_val rfl (wanted_none rfl) (run_ext0 _ rfl (h4 5 (by decide) (by kernel_rfl))) (hKK _ _ rfl (Below.refl _ _))
        | 7, _ => exact st_val rfl (wanted_none rfl) (run_ext1 _ rfl (h4 5 (by decide) (by kernel_rfl))) (hKK _ _ rfl (Below.refl _ _))
        | 8, _ =>
          cases f with
          | true =>
            have e := hfw rfl
            have e2 : true = false := Eq.trans (by kernel_rfl) e
            cases e2
          | false => exact st_valw rfl (wanted_none rfl) (run_aSpan _ rfl) (hKK _ _ ⟨_, rfl, h5.size, fun _ => Blk.new rfl, fun e => by cases e⟩ ((Below.refl _ _).alloc (Nat.le_refl _) _))
        | 9, _ => exact absurd rfl hik
        | j + 10, hj => omega
      · intro a X h1 h2 h3 h4 h5 KK hKK
        obtain ⟨gk, e1, e2, e3, -⟩ := h4 8 (by decide) (by kernel_rfl)
        refine st_store_span rfl (wanted_none rfl) rfl rfl e1 (h4 6 (by decide) (by kernel_rfl)) (e3 rfl) (fun w' hw' hfar hblk => hKK w' trivial (fun j hj hjk hr => ?_) (hw' _ e2))
        match j, hj with
        | 0, _ => exact hr
        | 1, _ => exact hr
        | 2, _ => exact hr
        | 3, _ => exact fun e => by cases e
        | 4, _ => exact hr
        | 5, _ => exact hr
        | 6, _ => exact hr
        | 7, _ => exact hr
        | 8, _ =>
          obtain ⟨ba', d1, d2, -, -⟩ := hr
          have hbb : ba' = gk := by
            have := e1.symm.trans d1
            simpa using this.symm
          subst hbb
          exact ⟨_, d1, d2, (fun e => by cases e), fun _ => hblk⟩
        | 9, _ => exact absurd rfl hjk
        | k + 10, hk => omega
      intro vs Z hvs _ hBZ
      have v0 : vs 0 = _ := hvs 0 (by omega) (by decide)
      have v1 : vs 1 = _ := hvs 1 (by omega) (by decide)
      have v2 : vs 2 = _ := hvs 2 (by omega) (by decide)
      have v4 : vs 4 = _ := hvs 4 (by omega) (by decide)
      have v5 : vs 5 = _ := hvs 5 (by omega) (by decide)
      have v6 : vs 6 = _ := hvs 6 (by omega) (by decide)
      have v7 : vs 7 = _ := hvs 7 (by omega) (by decide)
      obtain ⟨gk, v8, hgk, -, hkk'⟩ := hvs 8 (by omega) (by decide)
      have KX := Lib.hid (hkk' rfl)
      simp only [putSkip, Nat.reduceEqDiff, reduceIte, v0, v1, v2, v4, v5, v6, v7, v8]
      clear v0 v1 v2 v4 v5 v6 v7 v8
      generalize vs 3 = v3
      clear hvs hkk'
      simp only [dstOf, Act.put, List.getElem?_toArray, List.getElem?_cons_zero, List.getElem?_cons_succ, Option.bind_some, Option.getD_some, List.setIfInBounds_toArray, List.set_cons_succ, List.set_cons_zero, List.drop_succ_cons, List.drop_zero]
      have HF := Lib.hid (HF.out.step hBZ)
      clear hBZ
      have kx := KX.out
      obtain ⟨u0, u1⟩ := Blk.c2 kx
      have lu := kx.lt
      have kT := HF.out.bx (gT, ansLo H 1 ml, ansHi H 1 ml) (by simp)
      dsimp only at kT
      rw [HT1.out] at kT
      obtain ⟨cT0, cT1⟩ := Blk.c2 kT
      have lT := kT.lt
      clear kT kx
      obtain ⟨-, hI2, -⟩ := (HF.out.ls (.slice p2 m c2, ml) (by simp)).parts
      obtain ⟨gp, op, rfl, hgp, q1⟩ := hI2 k _ HY.out
      obtain ⟨-, hI3, -⟩ := (HF.out.ls (.slice p3 ns c3, sl) (by simp)).parts
      have HI3 := Lib.hid hI3
      have k0 : (0 : Int) ≤ (k : Int) := by omega
      have k1 : (k : Int) < (m : Int) := by omega
      have HWN := Lib.hid (wrap_num k (by have := HM.out; have := HLM.out; omega))
      clear hI2 hI3
      go_upto_region 14 with fail
      refine wp_region_ext (by kernel_rfl) (by kernel_rfl) ?_
      repeat (go_big_quiet_step (first
        | (go_at_call 47; exact quiet_ext (HJ.out _ _ _ _ (HI3.out.below belC) HN.out))))
      (refine wpQuiet_nil ?_; rintro _ ⟨x, rfl⟩)
      generalize hZ2 : ext _ _ = Z2
      have HF := Lib.hid (HF.out.step (show Below Z.heap.size Z Z2 by rw [← hZ2]; (exact belC)))
      clear hZ2 u0 u1 lu cT0 cT1 lT q1 hgp
      go_wp2_with fail
      go_roundw
      case rel => exact ⟨k + 1, by omega, by first | go_num | (rw [HWN.out]), HF⟩
      case measure => simp [intOf]; omega
    · go_upto_region 17 with fail
      clear hlt hk
      go_loopw [17] (fun i wr => ∃ k : Nat, k ≤ ns ∧ i = .int .i64 k ∧ Hid (TF w wr b p [(gT, ansLo H 1 ml, ansHi H 1 ml)] [(vb, pb), (.slice p3 ns c3, sl), (.slice p2 m c2, ml)])) (fun i _ => ns - (intOf i).toNat)
      case atStart => exact ⟨0, by omega, rfl, HF⟩
      case round =>
        clear HF
        obtain ⟨k, hk, rfl, HF⟩ := hrel
        by_cases hlt : k < ns
        · obtain ⟨y, hy⟩ := get_some sl k (by rw [HN.out]; exact hlt)
          have hym := (HSR.out.2 y (List.mem_of_getElem? hy)).1
          obtain ⟨j, hj1, hj2⟩ := Place_fix ml y (plan_inc HRS.out HPM.out) (by rw [HM.out]; omega)
          have hj0 : decide (j < 0) = false := by have := hj1.2 hym; simpa using this
          have HJ := Lib.hid hj2
          obtain ⟨-, hI3, -⟩ := (HF.out.ls (.slice p3 ns c3, sl) (by simp)).parts
          obtain ⟨gp, op, rfl, hgp, q1⟩ := hI3 k _ hy
          obtain ⟨-, hI2, -⟩ := (HF.out.ls (.slice p2 m c2, ml) (by simp)).parts
          have HI2 := Lib.hid hI2
          have k0 : (0 : Int) ≤ (k : Int) := by omega
          have k1 : (k : Int) < (ns : Int) := by omega
          have hns : (ns : Int) ≤ 1000 := by have := HN.out; have := HLS.out; omega
          have HWN := Lib.hid (wrap_num k (by have := HN.out; have := HLS.out; omega))
          clear hI2 hI3 hy hym hj1 hj2
          go_wp2_with (go_at_call 47; refine (HJ.out _ _ _ _ HI2.out HM.out).mono ?_; rintro e w88 ⟨rfl, y, hw⟩; have HF := Lib.hid (HF.out.step (show Below wr.heap.size wr w88 by rw [hw]; (exact belC))); clear hw q1 hgp)
          go_roundw
          case rel => exact ⟨k + 1, by omega, by first | go_num | (rw [HWN.out]), HF⟩
          case measure => simp [intOf]; omega
        · have HMM := Lib.hid HF.out.tb.q.mm
          go_wp2_with (go_at_call 23; refine (tucked_any _ HMM.out).mono ?_; rintro e w99 ⟨rfl, y, hw⟩; have HF := Lib.hid (HF.out.step (show Below wr.heap.size wr w99 by rw [hw]; (exact belC))); clear hw)
          go_ret
          exact ⟨rfl, ext_of HF.out.below⟩
theorem TideSpare_any (b : Tk) (p : Tp) (n : Int) (w : World) (hk : TB w b p) (hn : Hid (b.q.ns.length ≤ 9223372036854775807)) :
    Calls Tryz.prog 10 #[tv b p, .int .i64 n] w fun e w' => e = .returned (.bool true) ∧ ∃ x, w' = ext w x := by
  cases hv : validB b
  · exact TideSpare_bad b p n w hk hn hv
  · exact TideSpare_ok b p n w hk hn hv
end Go.Proofs.YtcaeohgbgeadaaaGreatDoor

