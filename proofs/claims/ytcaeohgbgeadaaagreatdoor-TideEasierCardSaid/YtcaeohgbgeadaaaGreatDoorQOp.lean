/- The walk of TideEasier. Written by gen_teasier.py. -/
import Derived.Test.YtcaeohgbgeadaaaGreatDoorQOn
import Derived.Test.YtcaeohgbgeadaaaGreatDoorQEe
import Derived.RegionTactic
set_option linter.unusedSimpArgs false
set_option linter.unusedVariables false
namespace Go.Proofs.YtcaeohgbgeadaaaGreatDoor
open Go Go.RowKit Go.Shelf
/-- What stands when the easier book is made. -/
structure EA (w1 W : World) (b' : Tk) (p' : Tp) (gC : Nat) : Prop where
  bel : Below w1.heap.size w1 W
  tb : TB W b' p'
  kb : Blk W gC 29 (tcs b' p')
theorem EA.step {w1 W W' : World} {b' : Tk} {p' : Tp} {gC : Nat} (h : EA w1 W b' p' gC) (hb : Below W.heap.size W W') : EA w1 W' b' p' gC :=
  ⟨h.bel.trans (hb.mono h.bel.size), h.tb.bel hb, h.kb.bel hb⟩
theorem ea_set {w1 X : World} {b b' : Tk} {p' : Tp} {gC i B ga ca : Nat} {v : Value} (hb : Below w1.heap.size w1 X) (hk : Blk X gC 29 (tcs b p')) (hr : RowT X B ga ca b.ts) (hg : w1.heap.size ≤ gC) (hne : ga ≠ gC) (hp : p'.tp = some ⟨ga, 0, none⟩) (e : tcs b' p' = (tcs b p').setIfInBounds i v) (eq : b'.q = b.q) (et : b'.ts = b.ts) (hq : SBk w1 b.q p'.np) : EA w1 (X.setCell ⟨gC, i, none⟩ v) b' p' gC := by
  have hb2 := hb.setCell (p := ⟨gC, i, none⟩) hg v
  have hr2 := hr.other hne i v
  refine ⟨hb2, ⟨by rw [eq]; exact hq.bel hb2, by rw [hp, et]; exact hr2.lows, fun a ha => by rw [hp] at ha; cases ha; obtain ⟨cur, hc⟩ := hr2.blk; exact hc.lt⟩, by rw [e]; exact hk.set i v⟩
theorem ea_set2 {w1 X : World} {b b' : Tk} {p' : Tp} {gC i j B ga ca : Nat} {v u : Value} (hb : Below w1.heap.size w1 X) (hk : Blk X gC 29 (tcs b p')) (hr : RowT X B ga ca b.ts) (hg : w1.heap.size ≤ gC) (hne : ga ≠ gC) (hp : p'.tp = some ⟨ga, 0, none⟩) (e : tcs b' p' = ((tcs b p').setIfInBounds i v).setIfInBounds j u) (eq : b'.q = b.q) (et : b'.ts = b.ts) (hq : SBk w1 b.q p'.np) : EA w1 ((X.setCell ⟨gC, i, none⟩ v).setCell ⟨gC, j, none⟩ u) b' p' gC := by
  have hb2 := (hb.setCell (p := ⟨gC, i, none⟩) hg v).setCell (p := ⟨gC, j, none⟩) hg u
  have hr2 := (hr.other hne i v).other hne j u
  refine ⟨hb2, ⟨by rw [eq]; exact hq.bel hb2, by rw [hp, et]; exact hr2.lows, fun a ha => by rw [hp] at ha; cases ha; obtain ⟨cur, hc⟩ := hr2.blk; exact hc.lt⟩, by rw [e]; exact (hk.set i v).set j u⟩
theorem ea_row {w1 X : World} {b : Tk} {p' : Tp} {gC B ga ca k : Nat} {s : Lw} {x : Int} (hb : Below w1.heap.size w1 X) (hk : Blk X gC 29 (tcs b p')) (hr : RowT X B ga ca b.ts) (hg : w1.heap.size ≤ ga) (hne : gC ≠ ga) (hp : p'.tp = some ⟨ga, 0, none⟩) (hs : b.ts[k]? = some s) (hq : SBk w1 b.q p'.np) : EA w1 (X.setCell ⟨ga, k * 3 + 1, none⟩ (.int .i64 x)) (b.wider k x) p' gC := by
  have hb2 := hb.setCell (p := ⟨ga, k * 3 + 1, none⟩) hg (.int .i64 x)
  have hr2 := hr.set hs x
  refine ⟨hb2, ⟨hq.bel hb2, by rw [hp]; exact hr2.lows, fun a ha => by rw [hp] at ha; cases ha; obtain ⟨cur, hc⟩ := hr2.blk; exact hc.lt⟩, ?_⟩
  have e : tcs (b.wider k x) p' = tcs b p' := by
    show (#[.int .i64 b.q.lo, .int .i64 b.q.hi, .slice p'.np b.q.ns.length p'.nc, .int .i64 b.now, .slice p'.tp (setLo b.ts k x).length p'.tc, .int .i64 b.glo, .int .i64 b.ghi, .int .i64 b.most, .int .i64 b.rest] : Array Value) = _
    rw [setLo_len]; rfl
  rw [e]
  exact hk.setOther hne _ _
theorem ea_none {w1 X : World} {b : Tk} {p' : Tp} {gC B ga ca : Nat} (hb : Below w1.heap.size w1 X) (hk : Blk X gC 29 (tcs b p')) (hr : RowT X B ga ca b.ts) (hp : p'.tp = some ⟨ga, 0, none⟩) (hq : SBk w1 b.q p'.np) : EA w1 X b p' gC :=
  ⟨hb, ⟨hq.bel hb, by rw [hp]; exact hr.lows, fun a ha => by rw [hp] at ha; cases ha; obtain ⟨cur, hc⟩ := hr.blk; exact hc.lt⟩, hk⟩
theorem Easier.refl (b : Tk) : Easier b b := ⟨rfl, rfl, fun _ h => h, fun _ _ _ _ _ _ _ => rfl, fun _ => Int.le_refl _, Int.le_refl _⟩
theorem Wheel_none (n m : Int) (w : World) (hm : m < 2) : Calls Tryz.prog 45 #[.int .i64 n, .int .i64 m] w fun e w' => e = .returned (.int .i64 0) ∧ ∃ x, w' = ext w x := by
  have hd : decide (m < 2) = true := by simpa using hm
  go_enter Tryz.func45, Tryz.ntmps45
  go_wp2_with fail
  go_ret
  exact ⟨rfl, ext_of (Below.refl _ _)⟩
attribute [local go_sem] Oper.semAt_some frozen_alloc_lt
set_option maxRecDepth 100000 in
set_option maxHeartbeats 4000000 in
theorem TideEasier_bad (b : Tk) (p : Tp) (n0 n1 n2 : Int) (w : World) (hk : TB w b p) (hn : Hid (b.q.ns.length ≤ 9223372036854775807)) (hv : validB b = false) :
    Calls Tryz.prog 11 #[tv b p, .agg #[.int .i64 n0, .int .i64 n1, .int .i64 n2]] w fun e w' => e = .returned (.bool true) ∧ ∃ x, w' = ext w x := by
  have HK := Lib.hid hk
  have HV := Lib.hid hv
  clear hk hv
  unfold tv
  go_enter Tryz.func11, Tryz.ntmps11
  go_wp2_with (first
    | (go_at_call 35; refine (tsound_no b p _ (HK.out.bel belA) hn HV.out).mono ?_; rintro e w1 ⟨rfl, y, rfl⟩)
    | (go_at_call 23; refine (tucked_any _ (HK.out.q.mm.below belA)).mono ?_; rintro e w1 ⟨rfl, y, rfl⟩))
  go_ret
  exact ⟨rfl, by (exact ext_of (by (exact belA)))⟩
set_option maxRecDepth 100000 in
set_option maxHeartbeats 16000000 in
theorem TideEasier_ok (b : Tk) (p : Tp) (n0 n1 n2 : Int) (w : World) (hk : TB w b p) (hn : Hid (b.q.ns.length ≤ 9223372036854775807)) (hv : validB b = true) :
    Calls Tryz.prog 11 #[tv b p, .agg #[.int .i64 n0, .int .i64 n1, .int .i64 n2]] w fun e w' => e = .returned (.bool true) ∧ ∃ x, w' = ext w x := by
  have HV := Lib.hid hv
  have HOV := Lib.hid (of_validB hv)
  have HM := Lib.hid (more_ok hv)
  have HS := Lib.hid (fun (x : Int) (hx : 0 ≤ x) => sooner_ok hv hx)
  have HL := Lib.hid (fun (x : Int) (hx : 0 ≤ x ∧ x ≤ 60 - b.ghi) => later_ok hv hx)
  have HW := Lib.hid (fun (k : Nat) (s : Lw) (x : Int) (hs : b.ts[k]? = some s) (hx : s.lo ≤ x ∧ x ≤ s.hi) => wider_ok hv hs hx)
  have hb1 : 0 ≤ b.most ∧ b.most ≤ 6 := HOV.out.2.2.2.2.1
  have hb2 : 0 ≤ b.rest ∧ b.rest ≤ 60 := HOV.out.2.2.2.2.2
  have hb3 : 0 ≤ b.now ∧ b.now ≤ b.glo ∧ b.glo ≤ b.ghi ∧ b.ghi ≤ 60 := by have := HOV.out; omega
  clear hv
  have HF := Lib.hid (TF.start hk)
  unfold tv
  go_enter Tryz.func11, Tryz.ntmps11
  go_upto_region 1 with fail
  unfold tcs at HF
  generalize hW0 : w.alloc _ = W0 at HF ⊢
  have HF : Hid (TF w W0 b p [] []) := HF
  have hz0 : W0.heap.size = w.heap.size + 1 := by rw [← hW0]; simp
  generalize hW : W0.alloc _ = W
  have KR := Lib.hid (show Blk W (w.heap.size + 1) 65 #[.int .i64 n0, .int .i64 n1, .int .i64 n2] by rw [← hW]; exact Blk.new hz0.symm)
  have HF := Lib.hid (HF.out.step (show Below W0.heap.size W0 W by rw [← hW]; (exact belC)))
  clear hW hW0 hz0 hk
  have kb := HF.out.kb
  unfold tcs at kb
  obtain ⟨d0, d1, d2, d3, d4, d5, d6, d7, d8⟩ := Blk.c9 kb
  have lb := kb.lt
  clear kb
  go_upto_region 3 with (go_at_call 35; refine (tsound_yes b p _ HF.out.tb hn HV.out).mono ?_; rintro e w1 ⟨rfl, y, hw⟩; have KR := Lib.hid (KR.out.bel (show Below W.heap.size W w1 by rw [hw]; (exact belC))); have HF := Lib.hid (HF.out.step (show Below W.heap.size W w1 by rw [hw]; (exact belC))); clear hw)
  clear d0 d1 d2 d3 d4 d5 d6 d7 d8 lb
  have kb := HF.out.kb
  unfold tcs at kb
  obtain ⟨d0, d1, d2, d3, d4, d5, d6, d7, d8⟩ := Blk.c9 kb
  have lb := kb.lt
  clear kb
  go_upto_region 4 with fail
  clear d0 d1 d2 d3 d4 d5 d6 d7 d8 lb
  generalize hW : w1.alloc _ = wa
  have KC := Lib.hid (show Blk wa w1.heap.size 29 (tcs b p) by rw [← hW]; exact Blk.new rfl)
  have hba : Below w1.heap.size w1 wa := by rw [← hW]; (exact belC)
  have HA := Lib.hid hba
  have HLW := Lib.hid (HF.out.step hba).tb.ts
  have HLN := Lib.hid (show b.ts.length ≤ 1000 by have := HOV.out.2.2.1; omega)
  have hgC := KC.out.lt
  have hsz := hba.size
  clear hW hba
  have kb := (HF.out.step HA.out).kb
  unfold tcs at kb
  obtain ⟨d0, d1, d2, d3, d4, d5, d6, d7, d8⟩ := Blk.c9 kb
  have lb := kb.lt
  clear kb
  go_upto_region 5 with (at_builtin; refine wpList_copy_lows rfl _ _ rfl wa.heap.size rfl (Blk.new rfl) p.tp b.ts.length p.tc rfl b.ts rfl (HLW.out.below belC) HLN.out ?_; intro ga ca w2 hrow hb2; have HB2 := Lib.hid (show Below wa.heap.size wa w2 from ((Below.refl _ _).alloc (Nat.le_refl _) _).trans hb2); have HRW := Lib.hid hrow; have kc := KC.out.bel HB2.out; have KC2 := Lib.hid kc; unfold tcs at kc; obtain ⟨c0, c1, c2, c3, c4, c5, c6, c7, c8⟩ := Blk.c9 kc; obtain ⟨f0, f1, f2, f3, f4, f5, f6, f7, f8⟩ := Blk.f9 kc; have lc := kc.lt; clear kc hb2 hrow)
  clear d0 d1 d2 d3 d4 d5 d6 d7 d8 lb c0 c1 c2 c3 c4 c5 c6 c7 c8 f0 f1 f2 f3 f4 f5 f6 f7 f8 lc
  have hga : w1.heap.size < ga := by have := HRW.out.base; omega
  have hb5 := (HA.out.trans (HB2.out.mono HA.out.size)).setCell (p := ⟨w1.heap.size, 4, none⟩) (Nat.le_refl _) (.slice (some ⟨ga, 0, none⟩) b.ts.length ca)
  have k5 := KC2.out.set 4 (.slice (some ⟨ga, 0, none⟩) b.ts.length ca)
  have r5 := HRW.out.other (show ga ≠ w1.heap.size by omega) 4 (.slice (some ⟨ga, 0, none⟩) b.ts.length ca)
  generalize hV : World.setCell _ _ _ = V at hb5 k5 r5 ⊢
  have HB := Lib.hid hb5
  have KC := Lib.hid (show Blk V w1.heap.size 29 (tcs b ⟨p.np, p.nc, some ⟨ga, 0, none⟩, ca⟩) by simpa [tcs] using k5)
  have HRW := Lib.hid r5
  have HFV := Lib.hid (HF.out.step hb5)
  have KRV := Lib.hid (KR.out.bel hb5)
  obtain ⟨gC, hgc⟩ : ∃ g, w1.heap.size = g := ⟨_, rfl⟩
  have HGC := Lib.hid hgc
  rw [hgc] at KC hga ⊢
  have hgn : gC ≤ ga ∧ gC < ga := by omega
  clear hV hb5 k5 r5 HB2 KC2 HA HLW hgC hsz hgc hga
  have h4 : n0 % 4 = ((0 : Nat) : Int) ∨ n0 % 4 = ((1 : Nat) : Int) ∨ n0 % 4 = ((2 : Nat) : Int) ∨ n0 % 4 = ((3 : Nat) : Int) := by omega
  have kb := HFV.out.kb
  unfold tcs at kb
  obtain ⟨d0, d1, d2, d3, d4, d5, d6, d7, d8⟩ := Blk.c9 kb
  have lb := kb.lt
  have kr := KRV.out
  obtain ⟨q0, q1, q2⟩ := Blk.c3 kr
  have lr := kr.lt
  have kc := KC.out
  unfold tcs at kc
  obtain ⟨c0, c1, c2, c3, c4, c5, c6, c7, c8⟩ := Blk.c9 kc
  obtain ⟨f0, f1, f2, f3, f4, f5, f6, f7, f8⟩ := Blk.f9 kc
  have lc := kc.lt
  clear kb kr kc
  rcases h4 with hr | hr | hr | hr
  case' inr.inr.inr =>
    have HR := Lib.hid hr
    clear hr
    go_upto_region 6 with (go_at_call 45; refine (Wheel_eq n0 _ _ _ (by decide) HR.out).mono ?_; rintro e wh ⟨rfl, y, hw⟩; have HBY := Lib.hid (show Below V.heap.size V wh by rw [hw]; (exact belC)); clear hw)
    clear d0 d1 d2 d3 d4 d5 d6 d7 d8 lb q0 q1 q2 lr c0 c1 c2 c3 c4 c5 c6 c7 c8 f0 f1 f2 f3 f4 f5 f6 f7 f8 lc
    have kb := (HFV.out.step HBY.out).kb
    unfold tcs at kb
    obtain ⟨d0, d1, d2, d3, d4, d5, d6, d7, d8⟩ := Blk.c9 kb
    have lb := kb.lt
    have kr := KRV.out.bel HBY.out
    obtain ⟨q0, q1, q2⟩ := Blk.c3 kr
    have lr := kr.lt
    have kc := KC.out.bel HBY.out
    unfold tcs at kc
    obtain ⟨c0, c1, c2, c3, c4, c5, c6, c7, c8⟩ := Blk.c9 kc
    obtain ⟨f0, f1, f2, f3, f4, f5, f6, f7, f8⟩ := Blk.f9 kc
    have lc := kc.lt
    clear kb kr kc
    by_cases hl0 : b.ts.length = 0
    case' neg =>
      have hlp : (0 : Int) < (b.ts.length : Int) := by omega
      have hd0 : decide ((0 : Int) < (b.ts.length : Int)) = true := by simpa using hlp
      have hd1 : decide (0 < b.ts.length) = true := decide_eq_true (by omega)
      obtain ⟨k, hkz⟩ := Int.eq_ofNat_of_zero_le (Int.emod_nonneg n1 (show (b.ts.length : Int) ≠ 0 by omega))
      have hkm : k < b.ts.length := by have := Int.emod_lt_of_pos n1 hlp; omega
      have HKZ := Lib.hid hkz
      have hm1 : (1 : Int) ≤ (b.ts.length : Int) ∧ (b.ts.length : Int) ≤ 1000000 := by have := HLN.out; omega
      clear hkz hl0
      go_upto_region 8 with (go_at_call 45; refine (Wheel_eq n1 _ _ _ hm1 HKZ.out).mono ?_; rintro e W3 ⟨rfl, y, hw⟩; have HB3 := Lib.hid (show Below V.heap.size V W3 from HBY.out.trans ((show Below wh.heap.size wh W3 by rw [hw]; (exact belC)).mono HBY.out.size)); clear hw; clear d0 d1 d2 d3 d4 d5 d6 d7 d8 lb q0 q1 q2 lr c0 c1 c2 c3 c4 c5 c6 c7 c8 f0 f1 f2 f3 f4 f5 f6 f7 f8 lc; have kb := (HFV.out.step HB3.out).kb; unfold tcs at kb; obtain ⟨d0, d1, d2, d3, d4, d5, d6, d7, d8⟩ := Blk.c9 kb; have lb := kb.lt; clear kb)
      clear d0 d1 d2 d3 d4 d5 d6 d7 d8 lb
      have kb := (HFV.out.step HB3.out).kb
      unfold tcs at kb
      obtain ⟨d0, d1, d2, d3, d4, d5, d6, d7, d8⟩ := Blk.c9 kb
      have lb := kb.lt
      have kr := KRV.out.bel HB3.out
      obtain ⟨q0, q1, q2⟩ := Blk.c3 kr
      have lr := kr.lt
      have kc := KC.out.bel HB3.out
      unfold tcs at kc
      obtain ⟨c0, c1, c2, c3, c4, c5, c6, c7, c8⟩ := Blk.c9 kc
      obtain ⟨f0, f1, f2, f3, f4, f5, f6, f7, f8⟩ := Blk.f9 kc
      have lc := kc.lt
      clear kb kr kc
      obtain ⟨s, hs⟩ := get_some b.ts k hkm
      obtain ⟨gl, ol, hp1, hb1', e1, e2, e3⟩ := ((HFV.out.step HB3.out).tb.ts) k s hs
      rw [hp1] at d4
      have hsb := chainT_get2 HOV.out.2.1 hs
      obtain ⟨x, hx⟩ : ∃ x, someI s.lo s.hi n2 = x := ⟨_, rfl⟩
      have hxb := someI_bd (show s.lo ≤ s.hi by omega) n2
      rw [hx] at hxb
      have HXV := Lib.hid hx
      have HSB := Lib.hid (show 0 ≤ s.lo ∧ s.lo ≤ s.hi ∧ s.hi ≤ 100000 by omega)
      have k0 : (0 : Int) ≤ (k : Int) := by omega
      have k1 : (k : Int) < (b.ts.length : Int) := by omega
      obtain ⟨cur, hcur⟩ := (HRW.out.bel HB3.out).blk
      have lga := hcur.lt
      clear e1 hx
      refine wp_region_ext_tail 15 (by kernel_rfl) (by kernel_rfl) ?_
      simp only [List.take_succ_cons, List.take_zero, List.drop_succ_cons, List.drop_zero]
      repeat (go_big_quiet_step (first | (go_at_call 49; exact quiet_ext (Some_is _ _ _ _ _ HSB.out HXV.out))))
      refine wpQuiet_nil ?_
      rintro W4 ⟨x4, hW4⟩
      have HB4 := Lib.hid (show Below V.heap.size V W4 from HB3.out.trans ((show Below W3.heap.size W3 W4 by rw [hW4]; (exact belC)).mono HB3.out.size))
      clear hW4 hcur lga d0 d1 d2 d3 d4 d5 d6 d7 d8 lb q0 q1 q2 lr c0 c1 c2 c3 c4 c5 c6 c7 c8 f0 f1 f2 f3 f4 f5 f6 f7 f8 lc e2 e3 hd0 hd1 hb1'
      obtain ⟨cur, hcur⟩ := (HRW.out.bel HB4.out).blk
      have lga := hcur.lt
      have hrc := (HRW.out.bel HB4.out).lows k s hs
      obtain ⟨gl2, ol2, hp2, hb2', e1, e2, e3⟩ := hrc
      simp only [Option.some.injEq, Addr.mk.injEq, and_true] at hp2
      obtain ⟨rfl, rfl⟩ := hp2
      simp only [Nat.zero_add] at e1 e2 e3
      have f2 := hcur.frozen (k * 3 + 1)
      have HS' := Lib.hid hs
      clear e1 e3 hs
      go_upto_region 16 with fail
      clear e2 f2 hcur hp1 hb2' lga
      have HEA := Lib.hid (ea_row (x := x) (HB.out.trans (HB4.out.mono HB.out.size)) (KC.out.bel HB4.out) (HRW.out.bel HB4.out) (show w1.heap.size ≤ ga by have := HGC.out; omega) (show gC ≠ ga by omega) rfl HS'.out HF.out.tb.q)
      have HVE := Lib.hid (HW.out k s x HS'.out hxb)
      generalize World.setCell _ _ _ = WX at HEA ⊢
      generalize b.wider k x = b' at HEA HVE
    case' pos =>
      have hd0 : decide ((0 : Int) < (b.ts.length : Int)) = false := decide_eq_false (by omega)
      have hd1 : decide (0 < b.ts.length) = false := decide_eq_false (by omega)
      have hlt2 : (b.ts.length : Int) < 2 := by omega
      clear hl0
      go_upto_region 16 with (go_at_call 45; refine (Wheel_none n1 _ _ hlt2).mono ?_; rintro e W3 ⟨rfl, y, hw⟩; have HB3 := Lib.hid (show Below V.heap.size V W3 from HBY.out.trans ((show Below wh.heap.size wh W3 by rw [hw]; (exact belC)).mono HBY.out.size)); clear hw; clear d0 d1 d2 d3 d4 d5 d6 d7 d8 lb q0 q1 q2 lr c0 c1 c2 c3 c4 c5 c6 c7 c8 f0 f1 f2 f3 f4 f5 f6 f7 f8 lc; have kb := (HFV.out.step HB3.out).kb; unfold tcs at kb; obtain ⟨d0, d1, d2, d3, d4, d5, d6, d7, d8⟩ := Blk.c9 kb; have lb := kb.lt; clear kb)
      clear d0 d1 d2 d3 d4 d5 d6 d7 d8 lb hd0 hd1 hlt2
      have HEA := Lib.hid (ea_none (HB.out.trans (HB3.out.mono HB.out.size)) (KC.out.bel HB3.out) (HRW.out.bel HB3.out) rfl HF.out.tb.q)
      have HVE := Lib.hid (And.intro HV.out (Easier.refl b))
      generalize W3 = WX at HEA ⊢
      obtain ⟨b', hbb⟩ : ∃ b', b = b' := ⟨_, rfl⟩
      rw [hbb] at HEA
      have HVE : Hid (validB b' = true ∧ Easier b b') := Lib.hid (hbb ▸ HVE.out)
      clear hbb
  case' inr.inr.inl =>
    have HR := Lib.hid hr
    clear hr
    go_upto_region 14 with (go_at_call 45; refine (Wheel_eq n0 _ _ _ (by decide) HR.out).mono ?_; rintro e wh ⟨rfl, y, hw⟩; have HBY := Lib.hid (show Below V.heap.size V wh by rw [hw]; (exact belC)); clear hw)
    clear d0 d1 d2 d3 d4 d5 d6 d7 d8 lb q0 q1 q2 lr c0 c1 c2 c3 c4 c5 c6 c7 c8 f0 f1 f2 f3 f4 f5 f6 f7 f8 lc
    obtain ⟨x, hx⟩ := Int.eq_ofNat_of_zero_le (Int.emod_nonneg n1 (show (60 - b.ghi + 1 : Int) ≠ 0 by omega))
    have hx8 : (x : Int) < 60 - b.ghi + 1 := by rw [← hx]; exact Int.emod_lt_of_pos _ (by omega)
    have HX := Lib.hid hx
    have hm1 : (1 : Int) ≤ 60 - b.ghi + 1 ∧ (60 - b.ghi + 1 : Int) ≤ 1000000 := by omega
    clear hx
    have kb := (HFV.out.step HBY.out).kb
    unfold tcs at kb
    obtain ⟨d0, d1, d2, d3, d4, d5, d6, d7, d8⟩ := Blk.c9 kb
    have lb := kb.lt
    have kr := KRV.out.bel HBY.out
    obtain ⟨q0, q1, q2⟩ := Blk.c3 kr
    have lr := kr.lt
    have kc := KC.out.bel HBY.out
    unfold tcs at kc
    obtain ⟨c0, c1, c2, c3, c4, c5, c6, c7, c8⟩ := Blk.c9 kc
    obtain ⟨f0, f1, f2, f3, f4, f5, f6, f7, f8⟩ := Blk.f9 kc
    have lc := kc.lt
    clear kb kr kc
    go_upto_region 15 with (go_at_call 45; refine (Wheel_eq n1 _ _ _ hm1 HX.out).mono ?_; rintro e W3 ⟨rfl, y, hw⟩; have HB3 := Lib.hid (show Below V.heap.size V W3 from HBY.out.trans ((show Below wh.heap.size wh W3 by rw [hw]; (exact belC)).mono HBY.out.size)); clear hw)
    clear d0 d1 d2 d3 d4 d5 d6 d7 d8 lb q0 q1 q2 lr c0 c1 c2 c3 c4 c5 c6 c7 c8 f0 f1 f2 f3 f4 f5 f6 f7 f8 lc
    have kb := (HFV.out.step HB3.out).kb
    unfold tcs at kb
    obtain ⟨d0, d1, d2, d3, d4, d5, d6, d7, d8⟩ := Blk.c9 kb
    have lb := kb.lt
    have kr := KRV.out.bel HB3.out
    obtain ⟨q0, q1, q2⟩ := Blk.c3 kr
    have lr := kr.lt
    have kc := KC.out.bel HB3.out
    unfold tcs at kc
    obtain ⟨c0, c1, c2, c3, c4, c5, c6, c7, c8⟩ := Blk.c9 kc
    obtain ⟨f0, f1, f2, f3, f4, f5, f6, f7, f8⟩ := Blk.f9 kc
    have lc := kc.lt
    clear kb kr kc
    go_upto_region 16 with (go_at_call 48; refine (To_any _ _ _).mono ?_; rintro e W4 ⟨rfl, y, hw⟩; have HB4 := Lib.hid (show Below V.heap.size V W4 from HB3.out.trans ((show Below W3.heap.size W3 W4 by rw [hw]; (exact belC)).mono HB3.out.size)); clear hw; clear d0 d1 d2 d3 d4 d5 d6 d7 d8 lb q0 q1 q2 lr c0 c1 c2 c3 c4 c5 c6 c7 c8 f0 f1 f2 f3 f4 f5 f6 f7 f8 lc; have kc := KC.out.bel HB4.out; unfold tcs at kc; obtain ⟨c0, c1, c2, c3, c4, c5, c6, c7, c8⟩ := Blk.c9 kc; obtain ⟨f0, f1, f2, f3, f4, f5, f6, f7, f8⟩ := Blk.f9 kc; have lc := kc.lt; clear kc)
    clear c0 c1 c2 c3 c4 c5 c6 c7 c8 f0 f1 f2 f3 f4 f5 f6 f7 f8 lc
    have HEA := Lib.hid (ea_set2 (b' := b.late x) (HB.out.trans (HB4.out.mono HB.out.size)) (KC.out.bel HB4.out) (HRW.out.bel HB4.out) (Nat.le_of_eq HGC.out) (show ga ≠ gC by omega) rfl (i := 5) (v := .int .i64 (b.glo + (x : Int))) (j := 6) (u := .int .i64 (b.ghi + (x : Int))) (by simp [tcs, Tk.late]) rfl rfl HF.out.tb.q)
    have HVE := Lib.hid (HL.out x (by omega))
    generalize World.setCell _ _ _ = WX at HEA ⊢
    generalize b.late x = b' at HEA HVE
  case' inr.inl =>
    have HR := Lib.hid hr
    clear hr
    go_upto_region 12 with (go_at_call 45; refine (Wheel_eq n0 _ _ _ (by decide) HR.out).mono ?_; rintro e wh ⟨rfl, y, hw⟩; have HBY := Lib.hid (show Below V.heap.size V wh by rw [hw]; (exact belC)); clear hw)
    clear d0 d1 d2 d3 d4 d5 d6 d7 d8 lb q0 q1 q2 lr c0 c1 c2 c3 c4 c5 c6 c7 c8 f0 f1 f2 f3 f4 f5 f6 f7 f8 lc
    obtain ⟨x, hx⟩ := Int.eq_ofNat_of_zero_le (Int.emod_nonneg n1 (show (8 : Int) ≠ 0 by decide))
    have hx8 : (x : Int) < 8 := by rw [← hx]; exact Int.emod_lt_of_pos _ (by decide)
    have HX := Lib.hid hx
    clear hx
    have kb := (HFV.out.step HBY.out).kb
    unfold tcs at kb
    obtain ⟨d0, d1, d2, d3, d4, d5, d6, d7, d8⟩ := Blk.c9 kb
    have lb := kb.lt
    have kr := KRV.out.bel HBY.out
    obtain ⟨q0, q1, q2⟩ := Blk.c3 kr
    have lr := kr.lt
    have kc := KC.out.bel HBY.out
    unfold tcs at kc
    obtain ⟨c0, c1, c2, c3, c4, c5, c6, c7, c8⟩ := Blk.c9 kc
    obtain ⟨f0, f1, f2, f3, f4, f5, f6, f7, f8⟩ := Blk.f9 kc
    have lc := kc.lt
    clear kb kr kc
    refine wp_region_ext_tail 8 (by kernel_rfl) (by kernel_rfl) ?_
    simp only [List.take_succ_cons, List.take_zero, List.drop_succ_cons, List.drop_zero]
    repeat (go_big_quiet_step (first | (go_at_call 45; exact quiet_ext (Wheel_eq n1 8 _ _ (by decide) HX.out))))
    refine wpQuiet_nil ?_
    rintro W3 ⟨x3, hW3⟩
    have HB3 := Lib.hid (show Below V.heap.size V W3 from HBY.out.trans ((show Below wh.heap.size wh W3 by rw [hW3]; (exact belC)).mono HBY.out.size))
    clear hW3 d0 d1 d2 d3 d4 d5 d6 d7 d8 lb q0 q1 q2 lr c0 c1 c2 c3 c4 c5 c6 c7 c8 f0 f1 f2 f3 f4 f5 f6 f7 f8 lc
    have kb := (HFV.out.step HB3.out).kb
    unfold tcs at kb
    obtain ⟨d0, d1, d2, d3, d4, d5, d6, d7, d8⟩ := Blk.c9 kb
    have lb := kb.lt
    have kr := KRV.out.bel HB3.out
    obtain ⟨q0, q1, q2⟩ := Blk.c3 kr
    have lr := kr.lt
    have kc := KC.out.bel HB3.out
    unfold tcs at kc
    obtain ⟨c0, c1, c2, c3, c4, c5, c6, c7, c8⟩ := Blk.c9 kc
    obtain ⟨f0, f1, f2, f3, f4, f5, f6, f7, f8⟩ := Blk.f9 kc
    have lc := kc.lt
    clear kb kr kc
    go_upto_region 16 with fail
    clear d0 d1 d2 d3 d4 d5 d6 d7 d8 lb q0 q1 q2 lr c0 c1 c2 c3 c4 c5 c6 c7 c8 f0 f1 f2 f3 f4 f5 f6 f7 f8 lc
    have ev : (if (x : Int) < b.rest then b.rest - (x : Int) else 0) = max 0 (b.rest - (x : Int)) := by split <;> omega
    rw [ev]
    have HEA := Lib.hid (ea_set (b' := b.sooner x) (HB.out.trans (HB3.out.mono HB.out.size)) (KC.out.bel HB3.out) (HRW.out.bel HB3.out) (Nat.le_of_eq HGC.out) (show ga ≠ gC by omega) rfl (i := 8) (v := .int .i64 (max 0 (b.rest - (x : Int)))) (by simp [tcs, Tk.sooner]) rfl rfl HF.out.tb.q)
    have HVE := Lib.hid (HS.out x (by omega))
    generalize World.setCell _ _ _ = WX at HEA ⊢
    generalize b.sooner x = b' at HEA HVE
  case' inl =>
    have HR := Lib.hid hr
    clear hr
    go_upto_region 9 with (go_at_call 45; refine (Wheel_eq n0 _ _ _ (by decide) HR.out).mono ?_; rintro e wh ⟨rfl, y, hw⟩; have HBY := Lib.hid (show Below V.heap.size V wh by rw [hw]; (exact belC)); clear hw)
    clear d0 d1 d2 d3 d4 d5 d6 d7 d8 lb q0 q1 q2 lr c0 c1 c2 c3 c4 c5 c6 c7 c8 f0 f1 f2 f3 f4 f5 f6 f7 f8 lc
    have kb := (HFV.out.step HBY.out).kb
    unfold tcs at kb
    obtain ⟨d0, d1, d2, d3, d4, d5, d6, d7, d8⟩ := Blk.c9 kb
    have lb := kb.lt
    have kr := KRV.out.bel HBY.out
    obtain ⟨q0, q1, q2⟩ := Blk.c3 kr
    have lr := kr.lt
    have kc := KC.out.bel HBY.out
    unfold tcs at kc
    obtain ⟨c0, c1, c2, c3, c4, c5, c6, c7, c8⟩ := Blk.c9 kc
    obtain ⟨f0, f1, f2, f3, f4, f5, f6, f7, f8⟩ := Blk.f9 kc
    have lc := kc.lt
    clear kb kr kc
    go_upto_region 16 with fail
    clear d0 d1 d2 d3 d4 d5 d6 d7 d8 lb q0 q1 q2 lr c0 c1 c2 c3 c4 c5 c6 c7 c8 f0 f1 f2 f3 f4 f5 f6 f7 f8 lc
    have ev : (if b.most + 1 < 6 then b.most + 1 else 6) = min 6 (b.most + 1) := by split <;> omega
    rw [ev]
    have HEA := Lib.hid (ea_set (b' := b.more) (HB.out.trans (HBY.out.mono HB.out.size)) (KC.out.bel HBY.out) (HRW.out.bel HBY.out) (Nat.le_of_eq HGC.out) (show ga ≠ gC by omega) rfl (i := 7) (v := .int .i64 (min 6 (b.most + 1))) (by simp [tcs, Tk.more]) rfl rfl HF.out.tb.q)
    have HVE := Lib.hid HM.out
    generalize World.setCell _ _ _ = WX at HEA ⊢
    generalize b.more = b' at HEA HVE
  all_goals
    have HFX := Lib.hid (HF.out.step HEA.out.bel)
    clear HF
    have HF := HFX
    clear HFX
    obtain ⟨H, hH⟩ : ∃ H, haulOf b = H := ⟨_, rfl⟩
    obtain ⟨H', hH'⟩ : ∃ H, haulOf b' = H := ⟨_, rfl⟩
    have HHB := Lib.hid hH
    have HHB' := Lib.hid hH'
    have HN' := Lib.hid (show b'.q.ns.length ≤ 9223372036854775807 by rw [HVE.out.2.q]; exact hn.out)
    have HMO := Lib.hid (show b.most ≤ 6 ∧ b'.most ≤ 6 from ⟨(of_validB HV.out).2.2.2.2.1.2, (of_validB HVE.out.1).2.2.2.2.1.2⟩)
    clear hH hH'
    have kb := HF.out.kb
    unfold tcs at kb
    obtain ⟨d0, d1, d2, d3, d4, d5, d6, d7, d8⟩ := Blk.c9 kb
    have lb := kb.lt
    clear kb
    go_upto_region 17 with (go_at_call 31; refine (Best_yes b p H _ HF.out.tb hn HV.out HHB.out).mono ?_; rintro e w61 ⟨vb, pb, rfl, hpb, hbb, y, hw⟩; have HPB := Lib.hid hpb; have HBB := Lib.hid hbb; clear hpb hbb; have HEA := Lib.hid (HEA.out.step (show Below WX.heap.size WX w61 by rw [hw]; (exact belC))); have HF := Lib.hid (HF.out.step (show Below WX.heap.size WX w61 by rw [hw]; (exact belC))); clear hw)
    clear d0 d1 d2 d3 d4 d5 d6 d7 d8 lb
    have HF := Lib.hid (HF.out.list HPB.out.1)
    have HPP := Lib.hid (show planB b.ts b.most b.rest pb = true by have := HBB.out.1; rw [← HHB.out] at this; exact this)
    have HL3 := Lib.hid (show pb.length ≤ 1000 by have := plan_len HPP.out; have := HMO.out; omega)
    have kc := HEA.out.kb
    unfold tcs at kc
    dsimp only at kc
    obtain ⟨c0, c1, c2, c3, c4, c5, c6, c7, c8⟩ := Blk.c9 kc
    have lc := kc.lt
    clear kc
    go_upto_region 18 with (go_at_call 31; refine (Best_yes b' _ H' _ HEA.out.tb HN' HVE.out.1 HHB'.out).mono ?_; rintro e w62 ⟨vm, mb, rfl, hpm, hbm, y, hw⟩; have HPM := Lib.hid hpm; have HBM := Lib.hid hbm; clear hpm hbm; have HEA := Lib.hid (HEA.out.step (show Below w61.heap.size w61 w62 by rw [hw]; (exact belC))); have HF := Lib.hid (HF.out.step (show Below w61.heap.size w61 w62 by rw [hw]; (exact belC))); clear hw)
    clear c0 c1 c2 c3 c4 c5 c6 c7 c8 lc
    have HF := Lib.hid (HF.out.list HPM.out.1)
    have HPQ := Lib.hid (show planB b'.ts b'.most b'.rest mb = true by have := HBM.out.1; rw [← HHB'.out] at this; exact this)
    have HL4 := Lib.hid (show mb.length ≤ 1000 by have := plan_len HPQ.out; have := HMO.out; omega)
    have hbest := easier_best HVE.out.2 HV.out HVE.out.1 (show IsBest (haulOf b) pb by rw [HHB.out]; exact HBB.out) (show IsBest (haulOf b') mb by rw [HHB'.out]; exact HBM.out)
    rw [HHB.out, HHB'.out] at hbest
    have HBE := Lib.hid hbest
    clear hbest HBB HBM
    have kb := HF.out.kb
    unfold tcs at kb
    obtain ⟨d0, d1, d2, d3, d4, d5, d6, d7, d8⟩ := Blk.c9 kb
    have lb := kb.lt
    clear kb
    go_upto_region 19 with (go_at_call 21; refine (Lost_yes b p _ pb H _ HF.out.tb hn (HF.out.ls (vb, pb) (by simp)) (HL3.out) HV.out HPP.out HHB.out).mono ?_; rintro e w63 ⟨rfl, y, hw⟩; have HEA := Lib.hid (HEA.out.step (show Below w62.heap.size w62 w63 by rw [hw]; (exact belC))); have HF := Lib.hid (HF.out.step (show Below w62.heap.size w62 w63 by rw [hw]; (exact belC))); clear hw)
    clear d0 d1 d2 d3 d4 d5 d6 d7 d8 lb
    generalize hW : w63.alloc _ = w64
    have HF := Lib.hid ((HF.out.step (show Below w63.heap.size w63 w64 by rw [← hW]; (exact belC))).box (g := w63.heap.size) (x := ansLo H 1 pb) (y := ansHi H 1 pb) (by rw [← hW]; exact Blk.new rfl))
    have HEA := Lib.hid (HEA.out.step (show Below w63.heap.size w63 w64 by rw [← hW]; (exact belC)))
    clear hW
    generalize w63.heap.size = gS at *
    have kc := HEA.out.kb
    unfold tcs at kc
    dsimp only at kc
    obtain ⟨c0, c1, c2, c3, c4, c5, c6, c7, c8⟩ := Blk.c9 kc
    have lc := kc.lt
    clear kc
    go_upto_region 20 with (go_at_call 21; refine (Lost_yes b' _ _ mb H' _ HEA.out.tb HN' (HF.out.ls (vm, mb) (by simp)) HL4.out HVE.out.1 HPQ.out HHB'.out).mono ?_; rintro e w65 ⟨rfl, y, hw⟩; have HEA := Lib.hid (HEA.out.step (show Below w64.heap.size w64 w65 by rw [hw]; (exact belC))); have HF := Lib.hid (HF.out.step (show Below w64.heap.size w64 w65 by rw [hw]; (exact belC))); clear hw)
    clear c0 c1 c2 c3 c4 c5 c6 c7 c8 lc
    generalize hW : w65.alloc _ = w66
    have HF := Lib.hid ((HF.out.step (show Below w65.heap.size w65 w66 by rw [← hW]; (exact belC))).box (g := w65.heap.size) (x := ansLo H' 1 mb) (y := ansHi H' 1 mb) (by rw [← hW]; exact Blk.new rfl))
    clear hW
    generalize w65.heap.size = gT at *
    have hbe := HBE.out
    clear HBE
    generalize ansLo H 1 pb = s0 at *
    generalize ansHi H 1 pb = s1 at *
    generalize ansLo H' 1 mb = u0 at *
    generalize ansHi H' 1 mb = u1 at *
    have f1 : decide (u1 ≤ s1) = true := decide_eq_true hbe
    have kS := HF.out.bx (gS, s0, s1) (by simp)
    dsimp only at kS
    obtain ⟨cS0, cS1⟩ := Blk.c2 kS
    have lS := kS.lt
    clear kS
    have kT := HF.out.bx (gT, u0, u1) (by simp)
    dsimp only at kT
    obtain ⟨cT0, cT1⟩ := Blk.c2 kT
    have lT := kT.lt
    clear kT
    have HMM := Lib.hid HF.out.tb.q.mm
    go_wp2_with (go_at_call 23; refine (tucked_any _ HMM.out).mono ?_; rintro e w99 ⟨rfl, y, hw⟩; have HF := Lib.hid (HF.out.step (show Below w66.heap.size w66 w99 by rw [hw]; (exact belC))); clear hw)
    go_ret
    exact ⟨rfl, ext_of HF.out.below⟩
theorem TideEasier_any (b : Tk) (p : Tp) (n0 n1 n2 : Int) (w : World) (hk : TB w b p) (hn : Hid (b.q.ns.length ≤ 9223372036854775807)) :
    Calls Tryz.prog 11 #[tv b p, .agg #[.int .i64 n0, .int .i64 n1, .int .i64 n2]] w fun e w' => e = .returned (.bool true) ∧ ∃ x, w' = ext w x := by
  cases hv : validB b
  · exact TideEasier_bad b p n0 n1 n2 w hk hn hv
  · exact TideEasier_ok b p n0 n1 n2 w hk hn hv
end Go.Proofs.YtcaeohgbgeadaaaGreatDoor

