/- Contracts of package bulk: what is asked of some lots together, in all truths. Written by gen_b5y.py. -/
import Derived.Test.YtpiadbdkiibdbaaQB5yb
set_option linter.unusedSimpArgs false
set_option linter.unusedVariables false
namespace Go.Proofs.Ytpiadbdkiibdbaa
open Go Go.RowKit Go.Shelf
attribute [local go_sem] Oper.semAt_some frozen_alloc_lt
theorem OwnInts.ints {w : World} {B n c : Nat} {p : Option Addr} {l : List Int} (h : OwnInts w B (.slice p n c) l) : IntsAt w p l := by
  obtain ⟨p2, c2, e, h2, -⟩ := h.at
  simp only [Value.slice.injEq] at e
  obtain ⟨rfl, -, -⟩ := e
  exact h2
theorem sum_len (p : Option Addr) (n c : Nat) (l : List Int) (s : Int) (w : World) (hn : l.length = n) (hl : IntsAt w p l) (hb : ∀ x ∈ l, 0 ≤ x ∧ x ≤ 100000) (hn2 : l.length ≤ 100) (hs : l.sum = s) :
    Calls Try.prog 112 #[.slice p n c] w fun e w' => e = .returned (.int .i64 s) ∧ ∃ x, w' = ext w x := by
  subst hn
  exact sum_any p c l s w hl hb hn2 hs
theorem loads_in {b : Ck} {m : Ms} {t : Lt} (ht : LtOK b t) : ∀ l ∈ loadsL b m t, (0 ≤ l.1 ∧ l.1 ≤ 400) ∧ 0 ≤ l.2 ∧ l.2 ≤ 400 := fun l hl => by
  have h := mem_loadsL.1 hl
  have h1 := h.fish
  have h2 := h.waste
  have h3 := ht.ws
  omega
theorem QAt.k3 {w : World} {f : FuncId} {lb : Array Value} {q : Qs} (h : QAt w f lb q) : ∀ k, q = .count k → k < 3 := fun k e => by subst e; exact h.2.1
set_option maxRecDepth 100000 in
set_option maxHeartbeats 16000000 in
theorem answer_any (b : Ck) (p : Option Addr) (c : Nat) (q : Qs) (f : FuncId) (lb : Array Value) (p2 : Option Addr) (c2 i0 n : Nat) (w : World) (hv : HoldsOK b) (hb : BkOK b) (hcb : CB w b p) (hr : rightC b = true) (hq : QAt w f lb q) (hls : LotsAt w p2 (cutL b.ls i0 n)) (hn : i0 + n ≤ b.ls.length) :
    Calls Try.prog 91 #[ckV b p c, qsV f lb, .slice p2 n c2] w fun e w' => ∃ lo hi, e = .returned (.agg #[.int .i64 lo, .int .i64 hi]) ∧ EndsC b (gSum q i0 n) lo hi ∧ ∃ x, w' = ext w x := by
  refine (callsIn_wide (n := 9)).1 ?_
  have HV := Lib.hid hv
  have HBO := Lib.hid hb
  have HCW := Lib.hid hcb
  have HR := Lib.hid hr
  have HQ := Lib.hid hq
  have HQ3 := Lib.hid hq.k3
  have HLS := Lib.hid hls
  have HN := Lib.hid hn
  have hn4 : n ≤ 4 := by have := hb.n; omega
  have HLN := Lib.hid (cutL_len hn)
  have HBC := Lib.hid (show ∀ t ∈ cutL b.ls i0 n, LtOK b t from fun t ht => hb.ok t (cutL_sub t ht))
  clear hv hb hcb hr hq hls hn
  unfold ckV qsV
  refine callsIn_of_wp_marks Try.func91 rfl trivial ?_ rfl
  simp only [Try.ntmps91, List.size_toArray, List.length_cons, List.length_nil, Nat.reduceAdd, Nat.reduceSub, Array.replicate_succ, Array.replicate_zero, List.push_toArray, List.append_toArray, List.nil_append, List.cons_append]
  refine wpIn_wide.2 ?_
  go_upto_region 2 with fail
  generalize hV : World.alloc _ _ = V
  have hBV : Below w.heap.size w V := by rw [← hV]; (exact belA)
  have kc : Blk V w.heap.size 76 (ckcs b p c) := by rw [← hV]; exact ((((Blk.new rfl).alloc _).alloc _).alloc _).alloc _
  have kq : Blk V (w.heap.size + 1) 91 #[.func (.func f) #[] lb] := by rw [← hV]; exact (((Blk.new (by simp)).alloc _).alloc _).alloc _
  have kl : Blk V (w.heap.size + 1 + 1) 26 #[.slice p2 n c2] := by rw [← hV]; exact ((Blk.new (by simp)).alloc _).alloc _
  have kr : Blk V (w.heap.size + 1 + 1 + 1) 23 #[.int .i64 0, .int .i64 0] := by rw [← hV]; exact (Blk.new (by simp)).alloc _
  have ka : Blk V (w.heap.size + 1 + 1 + 1 + 1) 23 #[.int .i64 1600, .int .i64 0] := by rw [← hV]; exact Blk.new (by simp)
  have HBV := Lib.hid hBV
  have KQ := Lib.hid kq
  have KL := Lib.hid kl
  have KR := Lib.hid kr
  have KA := Lib.hid ka
  have HCV := Lib.hid (HCW.out.bel hBV)
  have lc := kc.lt
  have la := ka.lt
  have o1 : w.heap.size < w.heap.size + 1 := by omega
  have o2 : w.heap.size + 1 < w.heap.size + 1 + 1 := by omega
  have o3 : w.heap.size + 1 + 1 < w.heap.size + 1 + 1 + 1 := by omega
  have o4 : w.heap.size + 1 + 1 + 1 < w.heap.size + 1 + 1 + 1 + 1 := by omega
  clear hV hBV kq kl kr ka
  generalize w.heap.size + 1 + 1 + 1 + 1 = g7 at *
  generalize w.heap.size + 1 + 1 + 1 = g6 at *
  generalize w.heap.size + 1 + 1 = g5 at *
  generalize w.heap.size + 1 = g4 at *
  unfold ckcs at kc
  have c0 := kc.cell 0
  have c1 := kc.cell 1
  have c2 := kc.cell 2
  have c3 := kc.cell 3
  have c4 := kc.cell 4
  have c5 := kc.cell 5
  have c6 := kc.cell 6
  have c7 := kc.cell 7
  have c8 := kc.cell 8
  have c9 := kc.cell 9
  simp only [List.size_toArray, List.length_cons, List.length_nil, Nat.reduceAdd, Nat.reduceLT, getElem?_pos, List.getElem_toArray, List.getElem_cons_zero, List.getElem_cons_succ] at c0 c1 c2 c3 c4 c5 c6 c7 c8 c9
  clear kc
  go_wp2_with fail
  clear c0 c1 c2 c3 c4 c5 c6 c7 c8 c9
  have hlow : ∀ a, p = some a → a.block < w.heap.size := HCW.out.lt
  have hseq := truths_in b p c (fun j => j = g7 ∨ j = V.heap.size + 1) V HV.out HBO.out HCV.out (fun a ha => by have := hlow a ha; omega)
  refine (wpIn_wide (n := 9)).1 ?_
  refine wpIn_rangeFunc_0 (gf := 90) (fb := #[ckV b p c]) (lb := #[]) rfl (enters_of Try.func90 (by kernel_rfl) rfl)
    (fun j => j = g7) (fun j hj => by omega) hseq (Below.refl _ _) (fun _ => rfl)
    (fun pre A => Below w.heap.size w A ∧ Blk A g4 91 #[.func (.func f) #[] lb] ∧ Blk A g5 26 #[.slice p2 n c2] ∧ Blk A g6 23 #[.int .i64 0, .int .i64 0] ∧ ∃ lo hi, AccOK b (gSum q i0 n) 1600 pre lo hi ∧ Blk A g7 23 #[.int .i64 lo, .int .i64 hi])
    (fun cc pre A => False)
    (fun pre x a' A => ∃ (gT : Nat) (u9 u10 u11 u12 u13 u14 u15 u16 u17 u18 u19 u20 u21 u22 u23 u24 u25 u26 u27 u28 u29 u30 u31 u32 u33 u34 u35 u36 u37 u38 u39 u40 u41 u42 u43 u44 u45 u46 u47 u48 u49 u50 u51 : Value), V.heap.size + 2 ≤ gT ∧ Blk A gT 113 (stcs b p c x) ∧ a' = { tmps := #[.agg #[.int .i64 b.l0, .int .i64 b.u0, .int .i64 b.l1, .int .i64 b.u1, .int .i64 b.l2, .int .i64 b.u2, .int .i64 b.e0, .int .i64 b.e1, .int .i64 b.e2, .slice p b.ls.length c], .agg #[.func (.func f) #[] lb], .slice p2 n c2, .pointer (some ⟨w.heap.size, 0, none⟩), .pointer (some ⟨g4, 0, none⟩), .pointer (some ⟨g5, 0, none⟩), .pointer (some ⟨g6, 0, none⟩), .pointer (some ⟨g7, 0, none⟩), .pointer (some ⟨gT, 0, none⟩), u9, u10, u11, u12, u13, u14, u15, u16, u17, u18, u19, u20, u21, u22, u23, u24, u25, u26, u27, u28, u29, u30, u31, u32, u33, u34, u35, u36, u37, u38, u39, u40, u41, u42, u43, u44, u45, u46, u47, u48, u49, u50, u51], defers := [] })
    ?hI ?hIx ?hAx ?h0 ?hassign ?hbody ?hdone ?hstop
  case hI =>
    rintro pre A C ⟨j1, j2, j3, j4, lo, hi, j5, j6⟩ hz hp
    exact ⟨j1.trans (hp.mono (by omega)), (hp.block _ (by omega)).trans j2, (hp.block _ (by omega)).trans j3, (hp.block _ (by omega)).trans j4, lo, hi, j5, (hp.block _ (by omega)).trans j6⟩
  case hIx => rintro cc pre A C h; exact h.elim
  case hAx =>
    rintro pre x a' A C ⟨gT, u9, u10, u11, u12, u13, u14, u15, u16, u17, u18, u19, u20, u21, u22, u23, u24, u25, u26, u27, u28, u29, u30, u31, u32, u33, u34, u35, u36, u37, u38, u39, u40, u41, u42, u43, u44, u45, u46, u47, u48, u49, u50, u51, h1, h2, rfl⟩ hp
    exact ⟨gT, u9, u10, u11, u12, u13, u14, u15, u16, u17, u18, u19, u20, u21, u22, u23, u24, u25, u26, u27, u28, u29, u30, u31, u32, u33, u34, u35, u36, u37, u38, u39, u40, u41, u42, u43, u44, u45, u46, u47, u48, u49, u50, u51, h1, (hp.block _ h2.lt (by omega)).trans h2, rfl⟩
  case h0 =>
    intro W6 hb6
    exact ⟨HBV.out.trans (hb6.mono (by omega)), (hb6.block _ (by omega)).trans KQ.out, (hb6.block _ (by omega)).trans KL.out, (hb6.block _ (by omega)).trans KR.out, 1600, 0, AccOK.start _ _ _, (hb6.block _ (by omega)).trans KA.out⟩
  case hassign =>
    intro mm l' pre x W' hz hsp hi'
    clear hseq
    dsimp only [encM, stV]
    gi_wp2_with fail
    exact ⟨⟨W'.heap.size, _, _, _, _, _, _, _, _, _, _, _, _, _, _, _, _, _, _, _, _, _, _, _, _, _, _, _, _, _, _, _, _, _, _, _, _, _, _, _, _, _, _, _, hz, Blk.new rfl, rfl⟩, by (exact belA)⟩
  case hbody =>
    rintro mm l' pre x a' W' hz hpx ⟨j1, j2, j3, j4, lo, hi, j5, j6⟩ ⟨gT, u9, u10, u11, u12, u13, u14, u15, u16, u17, u18, u19, u20, u21, u22, u23, u24, u25, u26, u27, u28, u29, u30, u31, u32, u33, u34, u35, u36, u37, u38, u39, u40, u41, u42, u43, u44, u45, u46, u47, u48, u49, u50, u51, hgz, hbg, rfl⟩
    have HX := Lib.hid (show x ∈ truthsL b from hpx.subset (by simp))
    have HM := Lib.hid (ms_ok HV.out (truths_sub HX.out))
    have HTM := Lib.hid (show ∀ t ∈ b.ls, canB b x t = true from fun t ht => canB_iff.2 (trueM_iff.1 (List.mem_filter.1 HX.out).2 t ht))
    have HJ5 := Lib.hid j5
    have J1 := Lib.hid j1
    have J2 := Lib.hid j2
    have J3 := Lib.hid j3
    have J4 := Lib.hid j4
    have J6 := Lib.hid j6
    have HG := Lib.hid hbg
    have q0 := Blk.c1 j3
    have lq := j3.lt
    have lg7 := j6.lt
    have lg4 := j2.lt
    have lgT := hbg.lt
    clear j1 j2 j3 j4 j5 j6 hbg hseq hpx
    gi_wp2_with fail
    clear q0 lq
    gi_loopw [9, 10, 20] (fun v1 v2 i wr => ∃ (k : Nat) (r1 r2 : Option Addr) (d1 d2 : Nat) (ll lh : List Int), k ≤ n ∧ i = .int .i64 k ∧ v1 = .slice r1 k d1 ∧ v2 = .slice r2 k d2 ∧ Hid (Below W'.heap.size W' wr) ∧ Hid (OwnInts wr W'.heap.size (.slice r1 k d1) ll) ∧ Hid (OwnInts wr W'.heap.size (.slice r2 k d2) lh) ∧ Hid (∀ z, (Value.slice r1 k d1).ownBlock = some z → (Value.slice r2 k d2).ownBlock = some z → False) ∧ Hid (EndsUp b x q (cutL b.ls i0 n) k ll lh)) (fun _ _ i _ => n - (intOf i).toNat)
    case atStart => exact ⟨0, none, none, 0, 0, [], [], by omega, rfl, rfl, rfl, Lib.hid (Below.refl _ _), Lib.hid (OwnInts.nil _ _), Lib.hid (OwnInts.nil _ _), Lib.hid (fun z h => by cases h), Lib.hid (EndsUp.nil _ _ _ _)⟩
    case round =>
      obtain ⟨k, r1, r2, d1, d2, ll, lh, hk, rfl, rfl, rfl, HB, HO1, HO2, HDI, HEU⟩ := hrel
      by_cases hlt : k < n
      · obtain ⟨s, hs⟩ := get_some (cutL b.ls i0 n) k (by rw [HLN.out]; exact hlt)
        have HBW := Lib.hid (J1.out.trans (HB.out.mono J1.out.size))
        obtain ⟨b1, oo, rfl, hb1, t0, t1, t2, t3, t4⟩ := lots_cells (HLS.out.below HBW.out) hs
        have HS := Lib.hid hs
        have k0 : (0 : Int) ≤ (k : Int) := by omega
        have k1 : (k : Int) < (n : Int) := by omega
        have hzB := HB.out.size
        have kg := HG.out.bel HB.out
        have kq2 := J2.out.bel HB.out
        unfold stcs at kg
        obtain ⟨e0, e1, e2, e3, e4, e5, e6, e7, e8, e9, e10, e11, e12⟩ := Blk.c13 kg
        have y0 := Blk.c1 kq2
        have lg := kg.lt
        have lq := kq2.lt
        have HLt := Lib.hid (HBC.out s (List.mem_of_getElem? hs))
        have HCn := Lib.hid (HTM.out s (cutL_sub s (List.mem_of_getElem? hs)))
        have HBs := HBW.out.size
        clear hs kg kq2
        gi_wp2_with (gi_at_call 111; refine (CallsIn.inRound _ (callsIn_wide.2 (span_any b p c x s q f lb _ HM.out HLt.out HCn.out (loads_in HLt.out) (HQ.out.bel (HBW.out.trans (Below.mono belA HBW.out.size)))))).mono ?_; rintro e w3 ⟨slo, shi, rfl, hEl, z, hw⟩; have HEl := Lib.hid hEl; have HB3 := Lib.hid (show Below wr.heap.size wr w3 by rw [hw]; (exact belA)); clear hw hEl)
        generalize hX0 : World.alloc _ _ = X0
        have hBX : Below wr.heap.size wr X0 := by rw [← hX0]; exact HB3.out.alloc HB3.out.size _
        have KO := Lib.hid (show Blk X0 w3.heap.size 23 #[.int .i64 slo, .int .i64 shi] by rw [← hX0]; exact Blk.new rfl)
        have HBX := Lib.hid hBX
        have HX1 := Lib.hid (HO1.out.below hBX)
        have HX2 := Lib.hid (HO2.out.below hBX)
        have hp1 : ∀ g, (Value.slice r1 k d1).ownBlock = some g → W'.heap.size ≤ g ∧ g < wr.heap.size := fun g e => HO1.out.lt g e
        have hp2 : ∀ g, (Value.slice r2 k d2).ownBlock = some g → W'.heap.size ≤ g ∧ g < wr.heap.size := fun g e => HO2.out.lt g e
        have HP1 := Lib.hid hp1
        have HP2 := Lib.hid hp2
        have HZX := Lib.hid hBX.size
        have HZ3 := Lib.hid HB3.out.size
        have HZB := Lib.hid hzB
        have HL1 := Lib.hid HEU.out.l1
        have HL2 := Lib.hid HEU.out.l2
        clear hX0 hBX hp1 hp2 e0 e1 e2 e3 e4 e5 e6 e7 e8 e9 e10 e11 e12 y0 t0 t1 t2 t3 t4 lg lq k0 k1
        generalize w3.heap.size = gO at *
        refine wpIn_region_of_any (free_round l') rfl (by kernel_rfl) ?_
        refine any_flow_backA 11 52 (duoR gO X0.heap.size r1 r2 k d1 d2 W'.heap.size ll lh slo shi) (DuoS X0 gO W'.heap.size r1 r2 k d1 d2 ll lh slo shi 9 32 37) (by kernel_rfl) rfl ?_ ?_ ?_
        · exact ⟨⟨rfl, rfl, rfl, Nat.le_refl _, fun _ _ _ _ => rfl⟩, KO.out, fun _ => HX1.out.below (Below.drew (Below.refl _ _)), fun _ => HX2.out.below (Below.drew (Below.refl _ _)), (fun e => by cases e), (fun _ => rfl), (fun e => by cases e)⟩
        · intro i hin f a X s1 s2 s3 rows wf wb fi st KK hKK
          have hz := st.old.size
          match i, hin with
          | 0, _ => exact st_move rfl rfl (wanted_none rfl) (st.org (wb 10 (by kernel_rfl))) (hKK _ _ rfl (fun j hj hji fj hr => duoR_f (updF_ne (by decide)) (updF_ne (by decide)) hr) (st.bel (d := 28) (Below.refl _ _) (updF_ne (by decide)) (updF_ne (by decide)) (updF_ne (by decide)) (by decide) (by decide) (by decide)))
          | 1, _ => exact st_val rfl (wanted_none rfl) (run_fSpan0 _ rfl (s3 13 (by kernel_rfl)) st.day.lt) (hKK _ _ rfl (fun j hj hji fj hr => duoR_f (updF_ne (by decide)) (updF_ne (by decide)) hr) (st.bel (d := 29) (Below.refl _ _) (updF_ne (by decide)) (updF_ne (by decide)) (updF_ne (by decide)) (by decide) (by decide) (by decide)))
          | 2, _ => exact st_val rfl (wanted_none rfl) (run_lInt _ rfl (rows 1 (by omega) (wf 1 (by kernel_rfl))) (Blk.c2 st.day).1) (hKK _ _ rfl (fun j hj hji fj hr => duoR_f (updF_ne (by decide)) (updF_ne (by decide)) hr) (st.bel (d := 30) (Below.refl _ _) (updF_ne (by decide)) (updF_ne (by decide)) (updF_ne (by decide)) (by decide) (by decide) (by decide)))
          | 3, _ =>
            have hb : Below X.heap.size X (X.alloc (.cells #[.int .i64 slo] 3)) := (Below.refl _ _).alloc (Nat.le_refl _) _
            exact st_valw rfl (wanted_none rfl) (run_bsInt _ rfl (rows 2 (by omega) (wf 2 (by kernel_rfl)))) (hKK _ _ ⟨_, rfl, hz, fun _ => Blk.new rfl⟩ (fun j hj hji fj hr => duoR_bel (duoR_f (updF_ne (by decide)) (updF_ne (by decide)) hr) hb) (st.bel (d := 31) hb (updF_ne (by decide)) (updF_ne (by decide)) (updF_ne (by decide)) (by decide) (by decide) (by decide)))
          | 4, _ =>
            obtain ⟨g, e3, g3, k3⟩ := rows 3 (by omega) (wf 3 (by kernel_rfl))
            refine st_app_int rfl rfl _ _ rfl W'.heap.size _ _ (rows 0 (by omega) (wf 0 (by kernel_rfl))) (st.one fi) g slo e3 (k3 fi) (by rw [HL1.out]; omega) (by have := HZX.out; have := HZB.out; omega) ?_
            intro v' w' o1 gr fr
            have f9 : f 9 = false ∨ f 9 = true := by cases f 9 <;> simp
            have f10 : f 10 = false := wb 10 (by kernel_rfl)
            refine hKK _ _ ⟨o1, fun q hq => (fr q hq).imp id (fun e => by omega)⟩ (fun j hj hji fj hr => ?_) ⟨st.old.by gr (.inl rfl), grown_blk gr st.day (fun e => by have := (HP1.out _ e).2; have := HZ3.out; omega), (fun e => by rw [updF_self] at e; cases e), fun e => (st.two (by rw [updF_ne (by decide)] at e; exact e)).grown gr (fun g e1 e2 => HDI.out g e2 e1), (fun e1 e2 q => ?_), (fun e => by rw [put_ne (by decide)]; exact st.org f10), (fun e => by rw [updF_ne (by decide), f10] at e; cases e)⟩
            · match j, hj, hr with
              | 0, _, hr => exact hr
              | 1, _, hr => exact hr
              | 2, _, hr => exact hr
              | 3, _, hr => obtain ⟨g', x1, x2, -⟩ := hr; exact ⟨g', x1, x2, fun e => by rw [updF_self] at e; cases e⟩
              | 4, _, hr => exact absurd rfl hji
              | 5, _, hr => exact hr
              | 6, _, hr => exact hr
              | 7, _, hr => exact hr
              | 8, _, hr => obtain ⟨g', x1, x2, x3⟩ := hr; exact ⟨g', x1, x2, fun e => grown_blk gr (x3 (by rw [updF_ne (by decide)] at e; exact e)) (fun e => by have := (HP1.out _ e).2; have := HZX.out; omega)⟩
              | 9, _, hr => exact ⟨hr.1.grown gr (fun g e1 e2 => by rcases hr.2 g e1 with e | e; exact HDI.out g e2 e; have := (HP1.out g e2).2; have := HZX.out; omega), hr.2⟩
              | k + 10, hk, hr => trivial
            · rw [updF_ne (by decide)] at e2
              obtain ⟨o9, r9⟩ := rows 9 (by omega) e2
              show ((a.put (some 32) v').tmps.getD 32 undef).ownBlock = some q → ((a.put (some 32) v').tmps.getD 37 undef).ownBlock = some q → False
              rw [show (a.put (some 32) v').tmps.getD 32 undef = v' by simp [Act.put, s1], put_ne (d := 32) (s := 37) (by decide)]
              intro e3 e4
              rcases fr q e3 with e | e
              · rcases r9 q e4 with e' | e'
                · exact HDI.out q e e'
                · have := (HP1.out q e).2; have := HZX.out; omega
              · have := (o9.lt q e4).2; omega
          | 5, _ => exact st_move rfl rfl (wanted_none rfl) (s3 10 (by kernel_rfl)) (hKK _ _ rfl (fun j hj hji fj hr => duoR_f (updF_ne (by decide)) (updF_ne (by decide)) hr) (st.bel (d := 33) (Below.refl _ _) (updF_ne (by decide)) (updF_ne (by decide)) (updF_ne (by decide)) (by decide) (by decide) (by decide)))
          | 6, _ => exact st_val rfl (wanted_none rfl) (run_fSpan1 _ rfl (s3 13 (by kernel_rfl)) st.day.lt) (hKK _ _ rfl (fun j hj hji fj hr => duoR_f (updF_ne (by decide)) (updF_ne (by decide)) hr) (st.bel (d := 34) (Below.refl _ _) (updF_ne (by decide)) (updF_ne (by decide)) (updF_ne (by decide)) (by decide) (by decide) (by decide)))
          | 7, _ => exact st_val rfl (wanted_none rfl) (run_lInt _ rfl (rows 6 (by omega) (wf 6 (by kernel_rfl))) (Blk.c2 st.day).2) (hKK _ _ rfl (fun j hj hji fj hr => duoR_f (updF_ne (by decide)) (updF_ne (by decide)) hr) (st.bel (d := 35) (Below.refl _ _) (updF_ne (by decide)) (updF_ne (by decide)) (updF_ne (by decide)) (by decide) (by decide) (by decide)))
          | 8, _ =>
            have hb : Below X.heap.size X (X.alloc (.cells #[.int .i64 shi] 3)) := (Below.refl _ _).alloc (Nat.le_refl _) _
            exact st_valw rfl (wanted_none rfl) (run_bsInt _ rfl (rows 7 (by omega) (wf 7 (by kernel_rfl)))) (hKK _ _ ⟨_, rfl, hz, fun _ => Blk.new rfl⟩ (fun j hj hji fj hr => duoR_bel (duoR_f (updF_ne (by decide)) (updF_ne (by decide)) hr) hb) (st.bel (d := 36) hb (updF_ne (by decide)) (updF_ne (by decide)) (updF_ne (by decide)) (by decide) (by decide) (by decide)))
          | 9, _ =>
            obtain ⟨g, e8, g8, k8⟩ := rows 8 (by omega) (wf 8 (by kernel_rfl))
            refine st_app_int rfl rfl _ _ rfl W'.heap.size _ _ (rows 5 (by omega) (wf 5 (by kernel_rfl))) (st.two fi) g shi e8 (k8 fi) (by rw [HL2.out]; omega) (by have := HZX.out; have := HZB.out; omega) ?_
            intro v' w' o1 gr fr
            have far : f 4 = true → ∀ q, (a.tmps.getD 32 undef).ownBlock = some q → (Value.slice r2 k d2).ownBlock = some q → False := fun f4 q e1 e2 => by
              rcases (rows 4 (by omega) f4).2 q e1 with e | e
              · exact HDI.out q e e2
              · have := (HP2.out q e2).2; have := HZX.out; omega
            refine hKK _ _ ⟨o1, fun q hq => (fr q hq).imp id (fun e => by omega)⟩ (fun j hj hji fj hr => ?_) ⟨st.old.by gr (.inr rfl), grown_blk gr st.day (fun e => by have := (HP2.out _ e).2; have := HZ3.out; omega), (fun e => (st.one (by rw [updF_ne (by decide)] at e; exact e)).grown gr (fun g e1 e2 => HDI.out g e1 e2)), (fun e => by rw [updF_self] at e; cases e), (fun e1 e2 q => ?_), (fun e => by rw [put_ne (by decide)]; exact st.org (by rw [updF_ne (by decide)] at e; exact e)), (fun e => by rw [put_ne (by decide), put_ne (by decide)]; exact st.asg (by rw [updF_ne (by decide)] at e; exact e))⟩
            · match j, hj, hr with
              | 0, _, hr => exact hr
              | 1, _, hr => exact hr
              | 2, _, hr => exact hr
              | 3, _, hr => obtain ⟨g', x1, x2, x3⟩ := hr; exact ⟨g', x1, x2, fun e => grown_blk gr (x3 (by rw [updF_ne (by decide)] at e; exact e)) (fun e => by have := (HP2.out _ e).2; have := HZX.out; omega)⟩
              | 4, _, hr => exact ⟨hr.1.grown gr (fun g e1 e2 => by rcases hr.2 g e1 with e | e; exact HDI.out g e e2; have := (HP2.out g e2).2; have := HZX.out; omega), hr.2⟩
              | 5, _, hr => exact hr
              | 6, _, hr => exact hr
              | 7, _, hr => exact hr
              | 8, _, hr => obtain ⟨g', x1, x2, -⟩ := hr; exact ⟨g', x1, x2, fun e => by rw [updF_self] at e; cases e⟩
              | 9, _, hr => exact absurd rfl hji
              | k + 10, hk, hr => trivial
            · rw [updF_ne (by decide)] at e1
              show ((a.put (some 37) v').tmps.getD 32 undef).ownBlock = some q → ((a.put (some 37) v').tmps.getD 37 undef).ownBlock = some q → False
              rw [show (a.put (some 37) v').tmps.getD 37 undef = v' by simp [Act.put, s1], put_ne (d := 37) (s := 32) (by decide)]
              intro e3 e4
              rcases fr q e4 with e | e
              · exact far e1 q e3 e
              · have := ((rows 4 (by omega) e1).1.lt q e3).2; omega
          | 10, _ => exact st_assign rfl rfl (wanted_none rfl) rfl (hKK _ _ trivial (fun j hj hji fj hr => duoR_f (updF_ne (by decide)) (updF_ne (by decide)) hr) ⟨st.old, st.day, (fun e => st.one (by rw [updF_ne (by decide)] at e; exact e)), (fun e => st.two (by rw [updF_ne (by decide)] at e; exact e)), (fun e1 e2 => by rw [put_ne (by decide), put_ne (by decide)]; exact st.dis (by rw [updF_ne (by decide)] at e1; exact e1) (by rw [updF_ne (by decide)] at e2; exact e2)), (fun e => by rw [updF_self] at e; cases e), (fun _ => by show (a.put (some 9) (a.tmps.getD 32 undef)).tmps.getD 9 undef = (a.put (some 9) (a.tmps.getD 32 undef)).tmps.getD 32 undef; rw [put_ne (d := 9) (s := 32) (by decide)]; simp [Act.put, s1])⟩)
          | k + 11, hk => omega
        · intro vs T f hget hf hrows hst
          have v0 : vs 0 = _ := hrows 0 (by omega)
          have v1 : vs 1 = _ := hrows 1 (by omega)
          have v2 : vs 2 = _ := hrows 2 (by omega)
          obtain ⟨g3, v3, -, -⟩ := hrows 3 (by omega)
          obtain ⟨o4, -⟩ := hrows 4 (by omega)
          have v5 : vs 5 = _ := hrows 5 (by omega)
          have v6 : vs 6 = _ := hrows 6 (by omega)
          have v7 : vs 7 = _ := hrows 7 (by omega)
          obtain ⟨g8, v8, -, -⟩ := hrows 8 (by omega)
          obtain ⟨o9, -⟩ := hrows 9 (by omega)
          have v10 : vs 10 = vs 4 := (hget 10 (by omega)).symm.trans ((hst.asg (hf 10 (by omega))).trans (hget 4 (by omega)))
          have hdis : ∀ q, (vs 4).ownBlock = some q → (vs 9).ownBlock = some q → False := fun q e1 e2 => hst.dis (hf 4 (by omega)) (hf 9 (by omega)) q ((congrArg Value.ownBlock (hget 4 (by omega))).trans e1) ((congrArg Value.ownBlock (hget 9 (by omega))).trans e2)
          obtain ⟨q4, c4, v4, -⟩ := o4.at
          obtain ⟨q9, c9, v9, -⟩ := o9.at
          rw [List.length_append, List.length_singleton, HL1.out] at v4
          rw [List.length_append, List.length_singleton, HL2.out] at v9
          rw [v4] at o4 v10
          rw [v9] at o9
          rw [v4, v9] at hdis
          simp only [putAll, v0, v1, v2, v3, v4, v5, v6, v7, v8, v9, v10]
          clear v0 v1 v2 v3 v4 v5 v6 v7 v8 v9 v10 hf hrows hget
          simp only [dstOf, Act.put, List.getElem?_toArray, List.getElem?_cons_zero, List.getElem?_cons_succ, Option.bind_some, Option.getD_some, List.setIfInBounds_toArray, List.set_cons_succ, List.set_cons_zero, List.drop_succ_cons, List.drop_zero]
          have HO4 := Lib.hid o4
          have HO9 := Lib.hid o9
          have HD4 := Lib.hid hdis
          have HBT := Lib.hid (show Below W'.heap.size W' T from Grown2.below (HB.out.trans (HBX.out.mono HB.out.size)) hst.old (by have := HZX.out; have := HZB.out; omega) (fun g e => (HP1.out g e).1) (fun g e => (HP2.out g e).1))
          clear o4 o9 hdis hst
          go_wp2_with fail
          refine ⟨rfl, ?_⟩
          gi_wp2_with fail
          go_roundw
          case rel => exact ⟨k + 1, q4, q9, c4, c9, _, _, by omega, by go_num, rfl, rfl, HBT, HO4, HO9, HD4, Lib.hid (HEU.out.snoc HS.out HEl.out)⟩
          case measure => simp [intOf]; omega
      · obtain rfl : k = n := by omega
        have HEM := Lib.hid (HEU.out.ends HX.out HN.out)
        have HBD := Lib.hid (HEU.out.bd HM.out HBC.out HQ3.out (by rw [HLN.out]; omega))
        have HL1 := Lib.hid HEU.out.l1
        have HL2 := Lib.hid HEU.out.l2
        obtain ⟨s1, hs1⟩ : ∃ s, ll.sum = s := ⟨_, rfl⟩
        obtain ⟨s2, hs2⟩ : ∃ s, lh.sum = s := ⟨_, rfl⟩
        have HS1 := Lib.hid hs1
        have HS2 := Lib.hid hs2
        have HU1 := Lib.hid (show 0 ≤ s1 ∧ s1 ≤ 1600 by have := sum_up HBD.out.1; rw [hs1, HL1.out] at this; omega)
        have HU2 := Lib.hid (show 0 ≤ s2 ∧ s2 ≤ 1600 by have := sum_up HBD.out.2; rw [hs2, HL2.out] at this; omega)
        rw [hs1, hs2] at HEM
        have k6 := J6.out.bel HB.out
        have K6 := Lib.hid k6
        obtain ⟨a0, a1⟩ := Blk.c2 k6
        obtain ⟨f0, f1⟩ := Blk.f2 k6
        have l6 := k6.lt
        have hzB := HB.out.size
        have HI1 := Lib.hid (show ∀ y : Grow wr, IntsAt (ext wr y) r1 ll from fun y => (HO1.out.below (below_ext wr y)).ints)
        have HI2 := Lib.hid (show ∀ (y : Grow wr) (v : Value) (z : Grow ((ext wr y).setCell ⟨g7, 0, none⟩ v)), IntsAt (ext ((ext wr y).setCell ⟨g7, 0, none⟩ v) z) r2 lh from fun y v z => by
          have h1 := HO2.out.below (below_ext wr y)
          have h2 : OwnInts ((ext wr y).setCell ⟨g7, 0, none⟩ v) W'.heap.size (.slice r2 k d2) lh := h1.kept (fun g hg => Below.heap_setCell _ _ _ _ (by have := (h1.lt g hg).1; dsimp only; omega))
          exact (h2.below (below_ext _ z)).ints)
        clear hs1 hs2 k6
        gi_wp2_with fail
        refine wpIn_region_ext_tail 5 (free_round l') rfl (by kernel_rfl) (by kernel_rfl) ?_
        simp only [List.take_succ_cons, List.take_zero, List.drop_succ_cons, List.drop_zero]
        repeat (go_big_quiet_step (first | (go_at_call 112; exact quiet_ext (sum_len r1 k d1 ll s1 _ HL1.out (HI1.out _) (fun x hx => by have := HBD.out.1 x hx; omega) (by rw [HL1.out]; omega) HS1.out))))
        refine wpQuiet_nil ?_; rintro _ ⟨y1, rfl⟩
        gi_wp2_with fail
        refine wpIn_region_ext_tail 5 (free_round l') rfl (by kernel_rfl) (by kernel_rfl) ?_
        simp only [List.take_succ_cons, List.take_zero, List.drop_succ_cons, List.drop_zero]
        repeat (go_big_quiet_step (first | (go_at_call 112; exact quiet_ext (sum_len r2 k d2 lh s2 _ HL2.out (HI2.out _ _ _) (fun x hx => by have := HBD.out.2 x hx; omega) (by rw [HL2.out]; omega) HS2.out))))
        refine wpQuiet_nil ?_; rintro _ ⟨y2, rfl⟩
        gi_wp2_with fail
        have hB1 := HB.out.trans ((below_ext wr y1).mono hzB)
        have hB2 := below_ext _ y2
        have hz1 := hB1.size
        have hzw := J1.out.size
        have hz2 := hB2.size
        rw [World.size_setCell] at hz2
        refine ⟨(((PrivM.of_below hB1).trans (PrivM.setCell (M := fun j => j = g7) _ rfl _ _)).trans (PrivM.of_below hB2)).trans (PrivM.setCell (M := fun j => j = g7) _ rfl _ _), ?_, ?_, ?_, ?_, _, _, HJ5.out.step HEM.out HU1.out.2 HU2.out.1, (((J6.out.bel hB1).set 0 _).bel hB2).set 1 _⟩
        · exact (((J1.out.trans (hB1.mono hzw)).setCell (by dsimp only; omega) _).trans (hB2.mono (by rw [World.size_setCell]; omega))).setCell (by dsimp only; omega) _
        · exact (((J2.out.bel hB1).setOther (by omega) _ _).bel hB2).setOther (by omega) _ _
        · exact (((J3.out.bel hB1).setOther (by omega) _ _).bel hB2).setOther (by omega) _ _
        · exact (((J4.out.bel hB1).setOther (by omega) _ _).bel hB2).setOther (by omega) _ _
  case hdone =>
    rintro D xs W' rfl hz rfl ⟨j1, j2, j3, j4, lo, hi, j5, j6⟩ hp hD'
    have HE := Lib.hid (j5.ends HR.out)
    have J1 := Lib.hid j1
    have J4 := Lib.hid j4
    have HD := Lib.hid hD'
    obtain ⟨r0, r1⟩ := Blk.c2 j4
    obtain ⟨f0, f1⟩ := Blk.f2 j4
    have l4 := j4.lt
    obtain ⟨d0, d1⟩ := Blk.c2 j6
    have l6 := j6.lt
    clear j1 j2 j3 j4 j5 j6 hp hseq hD'
    gi_wp2_with fail
    go_wp2_with fail
    have hF := J4.out.setB2 (.int .i64 lo) (.int .i64 hi)
    have hBF := (J1.out.setCell (p := ⟨g6, 0, none⟩) (by dsimp only; omega) (.int .i64 lo)).setCell (p := ⟨g6, 1, none⟩) (by dsimp only; omega) (.int .i64 hi)
    have hDF : ((W'.setCell ⟨g6, 0, none⟩ (.int .i64 lo)).setCell ⟨g6, 1, none⟩ (.int .i64 hi)).heap[V.heap.size]? = some (.deferred (some [])) :=
      ((Below.heap_setCell _ _ _ _ (by dsimp only; omega)).trans (Below.heap_setCell _ _ _ _ (by dsimp only; omega))).trans HD.out
    generalize (W'.setCell ⟨g6, 0, none⟩ (.int .i64 lo)).setCell ⟨g6, 1, none⟩ (.int .i64 hi) = F at *
    refine ⟨by simp, .inl ⟨_, _, rfl, run_takeDeferred hDF, ?_⟩⟩
    have hG : Blk (F.putObj V.heap.size (.deferred none)) g6 23 #[.int .i64 lo, .int .i64 hi] := (World.putObj_heap_other (by omega)).trans hF
    obtain ⟨t0, t1⟩ := Blk.c2 hG
    refine ⟨.agg #[.int .i64 lo, .int .i64 hi], ?_, lo, hi, rfl, HE.out, ext_of ?_⟩
    · simp [results, Try.results91, go_sem, t0, t1]
    · exact hBF.trans (below_putObj _ (by omega) _)
  case hstop =>
    rintro D cc pre W' rfl hz hSp h hp hD'
    exact h.elim
end Go.Proofs.Ytpiadbdkiibdbaa

