/- Contracts of package bulk: the iterators over what measures can hold (stores), and what they hold in a truth (truths). Written by gen_b5w.py. -/
import Derived.Test.YtpiadbdkiibdbaaQB5v
set_option linter.unusedSimpArgs false
set_option linter.unusedVariables false
namespace Go.Proofs.Ytpiadbdkiibdbaa
open Go Go.RowKit Go.Shelf
attribute [local go_sem] Oper.semAt_some frozen_alloc_lt
theorem LotsAt.privM {O : Nat → Prop} {w w' : World} {p : Option Addr} {l : List Lt} (h : LotsAt w p l) (hp : PrivM O w w') (hn : ∀ a, p = some a → ¬ O a.block) : LotsAt w' p l := fun i s hi => by
  obtain ⟨b, o, h1, h2, h3, h4, h5, h6, h7⟩ := h i s hi
  have hb := hp.block b h2 (hn _ h1)
  exact ⟨b, o, h1, Nat.lt_of_lt_of_le h2 hp.size, (World.cell?_of_block (a := ⟨b, _, none⟩) hb).trans h3, (World.cell?_of_block (a := ⟨b, _, none⟩) hb).trans h4, (World.cell?_of_block (a := ⟨b, _, none⟩) hb).trans h5, (World.cell?_of_block (a := ⟨b, _, none⟩) hb).trans h6, (World.cell?_of_block (a := ⟨b, _, none⟩) hb).trans h7⟩
theorem CB.privM {O : Nat → Prop} {w w' : World} {b : Ck} {p : Option Addr} (h : CB w b p) (hp : PrivM O w w') (hn : ∀ a, p = some a → ¬ O a.block) : CB w' b p := ⟨h.ls.privM hp hn, fun a ha => Nat.lt_of_lt_of_le (h.lt a ha) hp.size⟩
theorem CB.low {n : Nat} {w w' : World} {b : Ck} {p : Option Addr} (h : CB w b p) (hb : Below n w w') (hn : ∀ a, p = some a → a.block < n) : CB w' b p := h.privM (O := fun k => n ≤ k) ⟨hb.os, hb.tape, hb.output, hb.size, fun k _ hk => hb.block k (by omega)⟩ (fun a ha => by have := hn a ha; omega)
theorem ms_ok {b : Ck} {m : Ms} (hv : HoldsOK b) (h : m ∈ storesL b) : MsOK m := by
  obtain ⟨h0, h1, h2⟩ := mem_storesL.1 h
  have v0 := hv 0
  have v1 := hv 1
  have v2 := hv 2
  simp only [Ck.lo, Ck.hi] at v0 v1 v2
  exact ⟨by omega, by omega, by omega⟩
set_option maxRecDepth 100000 in
set_option maxHeartbeats 8000000 in
theorem stores_in (b : Ck) (p : Option Addr) (c : Nat) (O : Nat → Prop) (w : World) (hv : HoldsOK b) :
    Seq0 Try.prog 101 #[ckV b p c] #[] (encM b p c) O (fun xs => xs = storesL b) (fun pre => pre <+: storesL b) w := by
  intro n l J Jx W hW hOW hJ hJx hY h0
  have HV := Lib.hid hv
  have HJ := Lib.hid hJ
  have HJx := Lib.hid hJx
  have HY := Lib.hid hY
  have HO := Lib.hid hOW
  have H0 := Lib.hid h0
  clear hJ hJx hY hOW h0 hv hW
  unfold ckV
  simp only [List.push_toArray, List.append_toArray, List.nil_append, List.cons_append]
  refine callsIn_of_wp Try.func101 rfl trivial ?_ rfl
  simp only [Try.ntmps101, List.size_toArray, List.length_cons, List.length_nil, Nat.reduceAdd, Nat.reduceSub, Array.replicate_succ, Array.replicate_zero, List.push_toArray, List.append_toArray, List.nil_append, List.cons_append]
  refine wpIn_wide.2 ?_
  go_upto_region 3 with fail
  generalize hV : World.alloc _ _ = V
  have hBV : Below W.heap.size W V := by rw [← hV]; (exact belA)
  have hF : FillAt V b p c (W.heap.size + 1) W.heap.size (W.heap.size + 1 + 1) l := by
    rw [← hV]
    exact ⟨(Blk.new (by simp)).alloc _, ((Blk.new rfl).alloc _).alloc _, Blk.new (by simp)⟩
  have f0 := Blk.c1 hF.f
  have lf := hF.f.lt
  have HBV := Lib.hid hBV
  have HF := Lib.hid hF
  have hz := hBV.size
  have HJV := Lib.hid (HJ.out _ _ _ H0.out (Nat.le_refl _) hBV)
  clear hV hBV hF
  refine (wpIn_wide (n := n)).1 ?_
  gi_wp2_with fail
  gi_at_call 119
  refine (fill_0 b p c (W.heap.size + 1) W.heap.size (W.heap.size + 1 + 1) l _ W.heap.size O J Jx (storesL b) [] ⟨0, 0, 0⟩ _ hz HJ.out HJx.out HY.out HO.out HF.out ⟨by omega, by omega, by omega⟩ HV.out (by rw [List.nil_append, fillR_three]; exact List.prefix_refl _) HJV.out).mono ?_
  rintro e B (⟨rfl, hJB, hS⟩ | ⟨rfl, hJB, hS⟩)
  · rw [List.nil_append, fillR_three] at hJB
    gi_wp2_with fail
    go_end0
    exact ⟨⟨_, rfl⟩, (PrivM.of_below HBV.out).trans hS, .inl ⟨_, rfl, hJB⟩⟩
  · gi_wp2_with fail
    go_end0
    exact ⟨⟨_, rfl⟩, (PrivM.of_below HBV.out).trans hS, .inr hJB⟩
set_option maxRecDepth 100000 in
set_option maxHeartbeats 8000000 in
theorem truths_in (b : Ck) (p : Option Addr) (c : Nat) (O : Nat → Prop) (w : World) (hv : HoldsOK b) (hb : BkOK b) (hcb : CB w b p) (hO : ∀ a, p = some a → ¬ O a.block) :
    Seq0 Try.prog 90 #[ckV b p c] #[] (encM b p c) O (fun xs => xs = truthsL b) (fun pre => pre <+: truthsL b) w := by
  intro n l J Jx W hW hOW hJ hJx hY h0
  have HV := Lib.hid hv
  have HBO := Lib.hid hb
  have HN := Lib.hid hO
  have HCW := Lib.hid (hcb.bel hW)
  have HJ := Lib.hid hJ
  have HJx := Lib.hid hJx
  have HY := Lib.hid hY
  have HO := Lib.hid hOW
  have H0 := Lib.hid h0
  clear hJ hJx hY hOW h0 hv hW hb hcb hO
  unfold ckV
  simp only [List.push_toArray, List.append_toArray, List.nil_append, List.cons_append]
  refine callsIn_of_wp_marks Try.func90 rfl trivial ?_ rfl
  simp only [Try.ntmps90, List.size_toArray, List.length_cons, List.length_nil, Nat.reduceAdd, Nat.reduceSub, Array.replicate_succ, Array.replicate_zero, List.push_toArray, List.append_toArray, List.nil_append, List.cons_append]
  refine wpIn_wide.2 ?_
  go_upto_region 1 with fail
  generalize hV : World.alloc _ _ = V
  have hBV : Below W.heap.size W V := by rw [← hV]; (exact belA)
  have kc : Blk V W.heap.size 76 (ckcs b p c) := by rw [← hV]; exact (Blk.new rfl).alloc _
  have ky : Blk V (W.heap.size + 1) 131 #[.func (.yield l) #[] #[]] := by rw [← hV]; exact Blk.new (by simp)
  have HBV := Lib.hid hBV
  have KC := Lib.hid kc
  have KY := Lib.hid ky
  have HCV := Lib.hid (HCW.out.bel hBV)
  have HJV := Lib.hid (HJ.out _ _ _ H0.out (Nat.le_refl _) hBV)
  have lc := kc.lt
  have ly := ky.lt
  clear hV hBV ky
  unfold ckcs at kc
  have c0 := kc.cell 0
  have c1 := kc.cell 1
  have c2 := kc.cell 2
  have c3 := kc.cell 3
  have c4 := kc.cell 4
  have c5 := kc.cell 5
  have c6 := kc.cell 6
  have c7 := kc.cell 7
  have c8 := kc.cell 8
  have c9 := kc.cell 9
  simp only [List.size_toArray, List.length_cons, List.length_nil, Nat.reduceAdd, Nat.reduceLT, getElem?_pos, List.getElem_toArray, List.getElem_cons_zero, List.getElem_cons_succ] at c0 c1 c2 c3 c4 c5 c6 c7 c8 c9
  clear kc
  go_wp2_with fail
  clear c0 c1 c2 c3 c4 c5 c6 c7 c8 c9
  have hseq := stores_in b p c (fun j => O j ∨ j = V.heap.size + 1) V HV.out
  have hlow : ∀ a, p = some a → a.block < W.heap.size := HCW.out.lt
  refine (wpIn_wide (n := n)).1 ?_
  refine wpIn_rangeFunc_0 (gf := 101) (fb := #[ckV b p c]) (lb := #[]) rfl (enters_of Try.func101 (by kernel_rfl) rfl)
    O (fun j hj => by have := HO.out j hj; omega) hseq (Below.refl _ _) (fun _ => rfl)
    (fun pre A => J (pre.filter (trueM b)) A ∧ CB A b p ∧ Blk A W.heap.size 76 (ckcs b p c) ∧ Blk A (W.heap.size + 1) 131 #[.func (.yield l) #[] #[]])
    (fun cc pre A => cc = .ret ∧ Jx (pre.filter (trueM b)) A)
    (fun pre x a' A => ∃ (gT : Nat) (u7 u8 u9 u10 u11 u12 u13 u14 u15 : Value), V.heap.size + 2 ≤ gT ∧ Blk A gT 113 (stcs b p c x) ∧ a' = { tmps := #[.agg #[.int .i64 b.l0, .int .i64 b.u0, .int .i64 b.l1, .int .i64 b.u1, .int .i64 b.l2, .int .i64 b.u2, .int .i64 b.e0, .int .i64 b.e1, .int .i64 b.e2, .slice p b.ls.length c], .func (.yield l) #[] #[], .pointer (some ⟨W.heap.size, 0, none⟩), .pointer (some ⟨W.heap.size + 1, 0, none⟩), .pointer (some ⟨gT, 0, none⟩), .agg #[.int .i64 b.l0, .int .i64 b.u0, .int .i64 b.l1, .int .i64 b.u1, .int .i64 b.l2, .int .i64 b.u2, .int .i64 b.e0, .int .i64 b.e1, .int .i64 b.e2, .slice p b.ls.length c], .func (.func 101) #[ckV b p c] #[], u7, u8, u9, u10, u11, u12, u13, u14, u15], defers := [] })
    ?hI ?hIx ?hAx ?h0 ?hassign ?hbody ?hdone ?hstop
  case hI =>
    rintro pre A C ⟨j0, j1, j2, j3⟩ hz hp
    exact ⟨HJ.out _ _ _ j0 (by omega) (hp.mono (by omega)), j1.low hp (fun a ha => by have := hlow a ha; omega), (hp.block _ (by omega)).trans j2, (hp.block _ (by omega)).trans j3⟩
  case hIx =>
    rintro cc pre A C ⟨rfl, j1⟩ hz hp
    exact ⟨rfl, HJx.out _ _ _ j1 (by omega) (hp.mono (by omega))⟩
  case hAx =>
    rintro pre x a' A C ⟨gT, u7, u8, u9, u10, u11, u12, u13, u14, u15, h1, h2, rfl⟩ hp
    exact ⟨gT, u7, u8, u9, u10, u11, u12, u13, u14, u15, h1, (hp.block _ h2.lt (by omega)).trans h2, rfl⟩
  case h0 =>
    intro W6 hb6
    exact ⟨HJ.out _ _ _ HJV.out (by omega) (hb6.mono (by omega)), HCV.out.bel hb6, (hb6.block _ (by omega)).trans KC.out, (hb6.block _ (by omega)).trans KY.out⟩
  case hassign =>
    intro mm l' pre x W' hz hsp hi'
    clear hseq
    dsimp only [encM, stV]
    gi_wp2_with fail
    exact ⟨⟨W'.heap.size, _, _, _, _, _, _, _, _, _, hz, Blk.new rfl, rfl⟩, by (exact belA)⟩
  case hbody =>
    rintro mm l' pre x a' W' hz hpx ⟨j0, j1, j2, j3⟩ ⟨gT, u7, u8, u9, u10, u11, u12, u13, u14, u15, hgz, hbg, rfl⟩
    have HX := Lib.hid (show x ∈ storesL b from hpx.subset (by simp))
    have HM := Lib.hid (ms_ok HV.out HX.out)
    obtain ⟨q, hq⟩ : ∃ q, trueM b x = q := ⟨_, rfl⟩
    have HQ := Lib.hid hq
    have HPX := Lib.hid hpx
    have J0 := Lib.hid j0
    have J1 := Lib.hid j1
    have J2 := Lib.hid j2
    have J3 := Lib.hid j3
    have HG := Lib.hid hbg
    unfold stcs at hbg
    obtain ⟨s0, s1, s2, s3, s4, s5, s6, s7, s8, s9, s10, s11, s12⟩ := Blk.c13 hbg
    have lg := hbg.lt
    clear j0 j1 j2 j3 hbg hseq hpx hq
    cases q
    · gi_wp2_with (gi_at_call 110; refine (CallsIn.inRound _ (callsIn_wide.2 (isTrue_any b p c x false _ HM.out HBO.out J1.out.ls HQ.out))).mono ?_; rintro e w3 ⟨rfl, y, hw⟩; have HB3 := Lib.hid (show Below W'.heap.size W' w3 by rw [hw]; (exact belA)); clear hw)
      have hb3 := HB3.out
      refine ⟨PrivM.of_below hb3, ?_, J1.out.bel hb3, J2.out.bel hb3, J3.out.bel hb3⟩
      rw [List.filter_append, show [x].filter (trueM b) = [] by simp [HQ.out], List.append_nil]
      exact HJ.out _ _ _ J0.out (by omega) (hb3.mono (by omega))
    · have HE := Lib.hid (show (pre ++ [x]).filter (trueM b) = pre.filter (trueM b) ++ [x] by rw [List.filter_append, show [x].filter (trueM b) = [x] by simp [HQ.out]])
      have HPP := Lib.hid (show pre.filter (trueM b) ++ [x] <+: truthsL b by rw [← HE.out]; exact HPX.out.filter _)
      gi_wp2_with (gi_at_call 110; refine (CallsIn.inRound _ (callsIn_wide.2 (isTrue_any b p c x true _ HM.out HBO.out J1.out.ls HQ.out))).mono ?_; rintro e w3 ⟨rfl, y, hw⟩; have HB3 := Lib.hid (show Below W'.heap.size W' w3 by rw [hw]; (exact belA)); clear hw s0 s1 s2 s3 s4 s5 s6 s7 s8 s9 s10 s11 s12 lg; have kg := HG.out.bel HB3.out; unfold stcs at kg; obtain ⟨s0, s1, s2, s3, s4, s5, s6, s7, s8, s9, s10, s11, s12⟩ := Blk.c13 kg; have lg := kg.lt; have y0 := Blk.c1 (J3.out.bel HB3.out); have ly3 := (J3.out.bel HB3.out).lt; have hz3 := HB3.out.size; have J3w := HJ.out _ _ _ J0.out (show W.heap.size ≤ W'.heap.size by omega) (HB3.out.mono (show W.heap.size ≤ W'.heap.size by omega)); have hyy := YieldAt.inR l' (HY.out (mm - 1) (pre.filter (trueM b)) x w3 (by omega) HPP.out J3w); clear kg; obtain ⟨fn, tmps, assign, body, hy, hR⟩ := hyy; dsimp only [encM, stV] at hy)
      refine hR.mono ?_
      have hz3 := HB3.out.size
      rintro e B (⟨rfl, hJB, hS⟩ | ⟨rfl, hJB, hS⟩)
      · have HS := Lib.hid hS
        have HJB := Lib.hid hJB
        clear hS hJB hy hR
        gi_wp2_with fail
        refine ⟨(PrivM.of_below HB3.out).trans HS.out, ?_, (J1.out.bel HB3.out).privM HS.out HN.out, (HS.out.block _ (by omega) (fun e => by have := HO.out _ e; omega)).trans (J2.out.bel HB3.out), (HS.out.block _ (by omega) (fun e => by have := HO.out _ e; omega)).trans (J3.out.bel HB3.out)⟩
        rw [HE.out]; exact HJB.out
      · have HS := Lib.hid hS
        have HJB := Lib.hid hJB
        clear hS hJB hy hR
        gi_wp2_with fail
        refine ⟨(PrivM.of_below HB3.out).trans HS.out, rfl, ?_⟩
        rw [HE.out]; exact HJB.out
  case hdone =>
    rintro D xs W' rfl hz rfl ⟨j0, j1, j2, j3⟩ hp hD'
    have J0 := Lib.hid j0
    have HD := Lib.hid hD'
    have HPR := Lib.hid (show PrivM O W W' from (PrivM.of_below HBV.out).trans hp)
    clear j0 j1 j2 j3 hp hseq hD'
    gi_wp2_with fail
    refine ⟨by simp, .inl ⟨_, _, rfl, run_takeDeferred HD.out, ?_⟩⟩
    have hPG := HPR.out
    refine ⟨_, results_none rfl _ _ _, ⟨_, rfl⟩, ⟨hPG.os, hPG.tape, hPG.output, by rw [World.putObj_size]; exact hPG.size, fun j hj hn => (World.putObj_heap_other (by omega)).trans (hPG.block j hj hn)⟩, .inl ⟨_, rfl, HJ.out _ _ _ J0.out (by omega) (below_putObj _ (by omega) _)⟩⟩
  case hstop =>
    rintro D cc pre W' rfl hz hSp ⟨rfl, j1⟩ hp hD'
    have J1 := Lib.hid j1
    have HD := Lib.hid hD'
    have HSP := Lib.hid (show pre.filter (trueM b) <+: truthsL b from List.IsPrefix.filter _ hSp)
    have HPR := Lib.hid (show PrivM O W W' from (PrivM.of_below HBV.out).trans hp)
    clear j1 hp hseq hD' hSp
    gi_wp2_with fail
    refine ⟨by simp, .inl ⟨_, _, rfl, run_takeDeferred HD.out, ?_⟩⟩
    have hPG := HPR.out
    refine ⟨_, results_none rfl _ _ _, ⟨_, rfl⟩, ⟨hPG.os, hPG.tape, hPG.output, by rw [World.putObj_size]; exact hPG.size, fun j hj hn => (World.putObj_heap_other (by omega)).trans (hPG.block j hj hn)⟩, .inr ⟨_, HSP.out, HJx.out _ _ _ J1.out (by omega) (below_putObj _ (by omega) _)⟩⟩
end Go.Proofs.Ytpiadbdkiibdbaa

