/- Package seine: the best list of notes that are left out. Written by gen_wrong_s.py. -/
import Derived.Test.YtjjfpbjdcmkkhaaDoorQNq
import Derived.Test.YtjjfpbjdcmkkhaaDoorQNw
set_option linter.unusedSimpArgs false
set_option linter.unusedVariables false
namespace Go.Proofs.YtjjfpbjdcmkkhaaDoor
open Go Go.RowKit Go.Shelf
theorem run_mkStart {o : Oper} {w : World} {t : Nat} (ρ : Operand → Value) {v : Value} (hop : o.op = .makeFunc (Fn.func 86) #[.tmp t] #[]) (hs : ρ (.tmp t) = v) : (execOp ρ o).run Tryd.prog w = .ok (.value (.func (.func 86) #[v] #[])) w := by
  unfold execOp; simp [hop, hs, go_sem]
attribute [local go_sem] Oper.semAt_some frozen_alloc_lt
set_option maxRecDepth 100000 in
set_option maxHeartbeats 4000000 in
theorem wrong_any (b : Sn) (p : Option Addr) (c : Nat) (kd : Kd) (w : World) (hl : NotesAt w p b.ns) (hok : Ok9 b) :
    Calls Tryd.prog 76 #[.agg (catC b.lo b.hi p b.ns.length c kd)] w fun e w' => ∃ (v : Value) (l : List Int), e = .returned v ∧ ListAt w'.heap.size w' v l ∧ (∃ st, Rch b b.ns.length (st, l)) ∧ (∀ st l', Rch b b.ns.length (st, l') → fewerB l' l = false) ∧ Below w.heap.size w w' := by
  refine (callsIn_wide (n := 9)).1 ?_
  have HL := Lib.hid hl
  clear hl
  refine callsIn_of_wp_marks Tryd.func76 rfl trivial ?_ rfl
  simp only [Tryd.ntmps76, List.size_toArray, List.length_cons, List.length_nil, Nat.reduceAdd, Nat.reduceSub, Array.replicate_succ, Array.replicate_zero, List.push_toArray, List.append_toArray, List.nil_append, List.cons_append]
  refine wpIn_wide.2 ?_
  unfold catC
  have hmm := @run_makeMap Tryd.prog
  go_upto_region 2 with fail
  clear hmm
  generalize hW0 : ((w.alloc _).alloc _).alloc _ = W0
  have hB0 : Below w.heap.size w W0 := by rw [← hW0]; (repeat (first | (with_reducible exact Below.refl _ _) | (with_reducible assumption) | ((with_reducible refine below_ext_trans ?_ ?_ _); rotate_left; focus (((try dsimp only); repeat (first | omega | simp only [World.size_alloc, World.size_setCell, World.size_drew] | (with_reducible refine le_ext_of ?_) | (with_reducible refine le_ext_add ?_))); done)) | ((with_reducible refine Below.alloc ?_ ?_ _); rotate_left; focus (((try dsimp only); repeat (first | omega | simp only [World.size_alloc, World.size_setCell, World.size_drew] | (with_reducible refine le_ext_of ?_) | (with_reducible refine le_ext_add ?_))); done)) | ((with_reducible refine Below.setCell ?_ ?_ _); rotate_left; focus (((try dsimp only); repeat (first | omega | simp only [World.size_alloc, World.size_setCell, World.size_drew] | (with_reducible refine le_ext_of ?_) | (with_reducible refine le_ext_add ?_))); done)) | (with_reducible refine Below.drew ?_)))
  have hz0 : W0.heap.size = w.heap.size + 3 := by rw [← hW0]; simp
  have hc0 : Blk W0 w.heap.size 77 (catC b.lo b.hi p b.ns.length c kd) := by rw [← hW0]; exact ((Blk.new rfl).alloc _).alloc _
  have hm0 : MapAt Tryd.prog 91 W0 (w.heap.size + 1) 0 (fun _ _ => none) := by
    rw [← hW0]
    refine MapAt.of_heap (w := (w.alloc _).alloc _) ?_ (Below.heap_alloc _ _ _ (by simp))
    have := MapAt.new Tryd.prog 91 (w.alloc (.cells #[.int .i64 b.lo, .int .i64 b.hi, .slice p b.ns.length c, .int .i64 kd.a, .int .i64 kd.b, .int .i64 kd.c, .int .i64 kd.d, .int .i64 kd.e] 77))
    rw [World.size_alloc] at this
    exact this
  have hb0 : Blk W0 (w.heap.size + 2) 122 #[.map (some (w.heap.size + 1))] := by rw [← hW0]; exact Blk.new (by simp)
  clear hW0
  have q0 := hc0.cell 0
  have q1 := hc0.cell 1
  have q2 := hc0.cell 2
  have q3 := hc0.cell 3
  have q4 := hc0.cell 4
  have q5 := hc0.cell 5
  have q6 := hc0.cell 6
  have q7 := hc0.cell 7
  unfold catC at q0 q1 q2 q3 q4 q5 q6 q7
  simp only [List.size_toArray, List.length_cons, List.length_nil, Nat.reduceAdd, Nat.reduceLT, getElem?_pos, List.getElem_toArray, List.getElem_cons_zero, List.getElem_cons_succ] at q0 q1 q2 q3 q4 q5 q6 q7
  have HB0 := Lib.hid hB0
  have HC0 := Lib.hid hc0
  have HM0 := Lib.hid hm0
  have Hb0 := Lib.hid hb0
  clear hB0 hc0 hm0 hb0
  go_wp2_with fail
  have hspn := hok.span
  obtain ⟨sp1, sp2, sp3, sp4, sp5, sp6⟩ := hspn
  have hseq := start_in b.lo b.hi p b.ns.length c kd (fun j => j = w.heap.size + 1 ∨ j = W0.heap.size + 1) W0 ⟨sp1, sp5, sp4⟩
  have hl13 : (startL b.lo b.hi).length ≤ 13 := by simp [startL, numsL, nupto]; omega
  clear q0 q1 q2 q3 q4 q5 q6 q7
  refine (wpIn_wide (n := 9)).1 ?_
  refine wpIn_rangeFunc_0 (gf := 86) (fb := #[.agg (catC b.lo b.hi p b.ns.length c kd)]) (lb := #[]) rfl (enters_of Tryd.func86 (by kernel_rfl) rfl)
    (fun j => j = w.heap.size + 1) (fun j hj => by omega) hseq (Below.refl _ _) (fun _ => rfl)
    (fun pre A => (∃ n : Nat, n ≤ pre.length ∧ LMap (w.heap.size + 3) A (w.heap.size + 1) n (f0 b.lo b.hi pre)) ∧ Blk A (w.heap.size + 2) 122 #[.map (some (w.heap.size + 1))])
    (fun c pre A => False)
    (fun pre z a' A => ∃ g : Nat, W0.heap.size + 2 ≤ g ∧ Blk A g 91 #[.int .i64 z.1, .int .i64 z.2] ∧ a' = { tmps := #[.agg (catC b.lo b.hi p b.ns.length c kd), .pointer (some ⟨w.heap.size, 0, none⟩), .slice none 0 0, .pointer (some ⟨w.heap.size + 1 + 1, 0, none⟩), .pointer (some ⟨g, 0, none⟩), undef, undef, undef, undef, undef, undef, undef, .map (some (w.heap.size + 1)), .agg (catC b.lo b.hi p b.ns.length c kd), .func (.func 86) #[.agg (catC b.lo b.hi p b.ns.length c kd)] #[], .agg #[.int .i64 z.1, .int .i64 z.2], undef, undef, undef, undef, undef, undef, undef, undef, undef, undef, undef, undef, undef, undef, undef, undef, undef, undef, undef, undef, undef, undef, undef, undef, undef, undef, undef, undef, undef, undef, undef, undef, undef, undef, undef, undef, undef, undef, undef, undef, undef, undef, undef, undef, undef, undef, undef, undef], defers := [] })
    ?hI ?hIx ?hAx ?h0 ?hassign ?hbody ?hdone ?hstop
  case hI =>
    rintro pre A C ⟨⟨n, j0, j1⟩, j2⟩ hz hp
    exact ⟨⟨n, j0, j1.below (by omega) (by omega) hp⟩, (hp.block _ (by omega)).trans j2⟩
  case hIx => rintro c pre A C h; exact h.elim
  case hAx =>
    rintro pre z a' A C ⟨g, h1, h2, rfl⟩ hp
    exact ⟨g, h1, (hp.block _ h2.lt (by omega)).trans h2, rfl⟩
  case h0 =>
    intro W3 hb3
    exact ⟨⟨0, by simp, _, HM0.out.below hb3, fun a c _ _ => by simp [f0]⟩, (hb3.block _ (by omega)).trans Hb0.out⟩
  case hassign =>
    intro m l' pre z W' hz hsp hi'
    clear hseq
    dsimp only [encS, key2]
    gi_wp2_with fail
    exact ⟨⟨W'.heap.size, hz, Blk.new rfl, rfl⟩, by (repeat (first | (with_reducible exact Below.refl _ _) | (with_reducible assumption) | ((with_reducible refine below_ext_trans ?_ ?_ _); rotate_left; focus (((try dsimp only); repeat (first | omega | simp only [World.size_alloc, World.size_setCell, World.size_drew] | (with_reducible refine le_ext_of ?_) | (with_reducible refine le_ext_add ?_))); done)) | ((with_reducible refine Below.alloc ?_ ?_ _); rotate_left; focus (((try dsimp only); repeat (first | omega | simp only [World.size_alloc, World.size_setCell, World.size_drew] | (with_reducible refine le_ext_of ?_) | (with_reducible refine le_ext_add ?_))); done)) | ((with_reducible refine Below.setCell ?_ ?_ _); rotate_left; focus (((try dsimp only); repeat (first | omega | simp only [World.size_alloc, World.size_setCell, World.size_drew] | (with_reducible refine le_ext_of ?_) | (with_reducible refine le_ext_add ?_))); done)) | (with_reducible refine Below.drew ?_)))⟩
  case hbody =>
    rintro m l' pre z a' W' hz hpx ⟨⟨n2, j0, F, j1, j3⟩, j2⟩ ⟨g, hgz, hbg, rfl⟩
    have hzm : z ∈ startL b.lo b.hi := hpx.subset (by simp)
    have hpl : pre.length ≤ 13 := by
      have := hpx.length_le
      rw [List.length_append, List.length_singleton] at this; omega
    have hzb := (startL_K ⟨sp1, sp4⟩ z hzm).b (by omega)
    obtain ⟨w3, hst3, hm3, hg3⟩ := j1.store key_state Tryd.underlying122 (by unfold maxLen; omega) hzb.i1 hzb.i2 (.slice none 0 0)
    have hput := LMap.put (l := []) j1 j3 (ListAt.nil (B := w.heap.size + 3) (by omega)) hm3 hg3
    have hfe : (fun a c => if a = z.1 ∧ c = z.2 then some [] else f0 b.lo b.hi pre a c) = f0 b.lo b.hi (pre ++ [z]) := by
      funext a c
      unfold f0
      by_cases hac : a = z.1 ∧ c = z.2
      · obtain ⟨rfl, rfl⟩ := hac; simp
      · have : ¬ (a, c) = z := fun e => hac ⟨by rw [← e], by rw [← e]⟩
        simp [hac, this]
    rw [hfe] at hput
    have c0 := j2.cell 0
    have d0 := hbg.cell 0
    have d1 := hbg.cell 1
    have l0 := j2.lt
    have l1 := hbg.lt
    simp only [List.size_toArray, List.length_cons, List.length_nil, Nat.reduceAdd, Nat.reduceLT, getElem?_pos, List.getElem_toArray, List.getElem_cons_zero, List.getElem_cons_succ] at c0 d0 d1
    have J2 := Lib.hid j2
    have HP3 := Lib.hid hput
    have HG3 := Lib.hid hg3
    unfold key2 at hst3
    clear hseq j1 j2 j3 hbg hm3 hg3 hpx hzm hfe hput
    gi_wp2_with fail
    exact ⟨PrivM.of_grown HG3.out, ⟨n2 + 1, by simp; omega, HP3.out⟩, (HG3.out.block _ (by omega) (by simp)).trans J2.out⟩
  case hdone =>
    rintro D xs W' rfl hz rfl ⟨⟨n2, j0, j1⟩, j2⟩ hp hD'
    have hpB : Below w.heap.size W0 W' := hp.below (by omega) (fun j hj => by omega)
    have hCW : Blk W' w.heap.size 77 (catC b.lo b.hi p b.ns.length c kd) := (hp.block _ HC0.out.lt (by omega)).trans HC0.out
    have HCW := Lib.hid hCW
    have HBW := Lib.hid (HB0.out.trans hpB)
    have HM := Lib.hid j1
    have Hb := Lib.hid j2
    have HD := Lib.hid ((Defs.nil (w.heap.size + 3) W').cons hD' (by omega) (by simp))
    have hW'z : w.heap.size + 3 ≤ W'.heap.size := by omega
    have q2 := hCW.cell 2
    have lq := hCW.lt
    unfold catC at q2
    simp only [List.size_toArray, List.length_cons, List.length_nil, Nat.reduceAdd, Nat.reduceLT, getElem?_pos, List.getElem_toArray, List.getElem_cons_zero, List.getElem_cons_succ] at q2
    clear hseq j1 j2 hp hpB hD' hCW
    gi_wp2_with fail
    go_wp2_with fail
    refine wp_loop (WrI b p c kd w) (wrM b) ?start ?round
    case start =>

      exact ⟨0, w.heap.size + 1, n2, _, _, _, _, _, _, _, _, _, _, _, _, _, _, _, _, _, _, _, _, _, _, _, _, _, _, _, _, _, _, _, _, _, _, _, _, _, _, _, _, _, _, _, _, _, _, _, _, _, _, _, _, _, rfl, by omega, Hb.out, by omega, HM.out.mono (by omega) (Nat.le_refl _), f0_bestR b, by simp; omega, HCW.out, HBW.out, HD.out, hW'z⟩
    case round =>
      rintro a wr ⟨k, M1, n1, Ds, f, u5, u6, u7, u8, u9, u10, u11, u15, u16, u17, u23, u24, u25, u26, u27, u28, u29, u30, u31, u32, u33, u34, u35, u36, u37, u38, u39, u40, u41, u42, u43, u44, u45, u46, u47, u48, u49, u50, u51, u52, u53, u54, u55, u56, u57, u58, u59, u60, u61, u62, u63, rfl, hk, hb2, hM1, hm1, hbest, hn1, hC, hB, hD, hz⟩
      have q0 := hb2.cell 0
      have lb := hb2.lt
      simp only [List.size_toArray, List.length_cons, List.length_nil, Nat.reduceAdd, Nat.reduceLT, getElem?_pos, List.getElem_toArray, List.getElem_cons_zero, List.getElem_cons_succ] at q0
      have HD := Lib.hid hD
      have HB := Lib.hid hB
      have HM1 := Lib.hid hm1
      have HBEST := Lib.hid hbest
      have Hb2 := Lib.hid hb2
      have HC := Lib.hid hC
      have HN1 := Lib.hid hn1
      have hk0 : (0 : Int) ≤ (k : Int) := by omega
      clear hD hB hm1 hbest hb2 hC hn1
      by_cases hlt : k < b.ns.length
      · have hkl : (k : Int) < (b.ns.length : Int) := by omega
        have hmm := @run_makeMap Tryd.prog
        go_upto_region 10 with fail
        clear hmm
        obtain ⟨s, hs⟩ := get_some b.ns k hlt
        obtain ⟨F, hF0, hR0⟩ := HM1.out
        generalize hW10 : ((wr.alloc _).alloc _).alloc _ = W10
        have hBW : Below wr.heap.size wr W10 := by rw [← hW10]; (repeat (first | (with_reducible exact Below.refl _ _) | (with_reducible assumption) | ((with_reducible refine below_ext_trans ?_ ?_ _); rotate_left; focus (((try dsimp only); repeat (first | omega | simp only [World.size_alloc, World.size_setCell, World.size_drew] | (with_reducible refine le_ext_of ?_) | (with_reducible refine le_ext_add ?_))); done)) | ((with_reducible refine Below.alloc ?_ ?_ _); rotate_left; focus (((try dsimp only); repeat (first | omega | simp only [World.size_alloc, World.size_setCell, World.size_drew] | (with_reducible refine le_ext_of ?_) | (with_reducible refine le_ext_add ?_))); done)) | ((with_reducible refine Below.setCell ?_ ?_ _); rotate_left; focus (((try dsimp only); repeat (first | omega | simp only [World.size_alloc, World.size_setCell, World.size_drew] | (with_reducible refine le_ext_of ?_) | (with_reducible refine le_ext_add ?_))); done)) | (with_reducible refine Below.drew ?_)))
        have hz10 : W10.heap.size = wr.heap.size + 3 := by rw [← hW10]; simp
        have hA : MapAt Tryd.prog 91 W10 wr.heap.size 0 (fun _ _ => none) := by
          rw [← hW10]
          refine MapAt.of_heap (w := wr.alloc _) ?_ ((Below.heap_alloc _ _ _ (by simp only [World.size_alloc]; omega)).trans (Below.heap_alloc _ _ _ (by simp only [World.size_alloc]; omega)))
          exact MapAt.new Tryd.prog 91 wr
        have h6 : Blk W10 (wr.heap.size + 1) 122 #[.map (some wr.heap.size)] := by rw [← hW10]; exact (Blk.new (by simp)).alloc _
        have h7 : Blk W10 (wr.heap.size + 2) 125 #[.func (.func 98) #[] #[.pointer (some ⟨wr.heap.size + 1, 0, none⟩)]] := by rw [← hW10]; exact Blk.new (by simp)
        have hF10 : MapAt Tryd.prog 91 W10 M1 n1 F := hF0.below hBW
        have hc3 : W10.cell? ⟨w.heap.size + 2, 0, none⟩ = some (.map (some M1)) := (hBW.cell (p := ⟨w.heap.size + 2, 0, none⟩) lb).trans q0
        clear hW10
        obtain ⟨W11, left, cnt, hrun, hit, hleft, hg, hz11, hcn⟩ := MapAt.range hF10 key_state Tryd.underlying122
        rw [hz10] at hrun hit
        have HBW := Lib.hid hBW
        have HA := Lib.hid hA
        have H6 := Lib.hid h6
        have H7 := Lib.hid h7
        clear hBW hA h6 h7
        go_wp2_with fail
        refine wp_loop (WrJ b p c kd w wr k s M1 n1 f F u11 u15 u16 u17) (rngM M1 (wr.heap.size + 3)) ?start2 ?round2
        case start2 =>
          have hM1l := hF0.lt
          have hB11 : Below W10.heap.size W10 W11 := Below.of_grown0 hg (Nat.le_refl _)
          refine ⟨Ds, left, cnt, [], 0, _, _, _, _, _, _, _, _, _, _, _, _, _, _, _, _, _, _, _, _, _, _, _, _, _, _, _, _, _, _, _, _, _, _, _, _, _, _, _, rfl, hit, ⟨_, HA.out.grown hg (by simp), fun a c _ _ => rfl⟩, BestIs.nil, H6.out.bel hB11, H7.out.bel hB11, HBW.out.trans (hB11.mono (by omega)), (HD.out.below HBW.out).below hB11, fun st l h => .inl ?_, by simp, by omega⟩
          obtain ⟨h1, h2⟩ := Rch.bd hok k _ (HBEST.out.yes _ _ _ h).1
          have h3 := h1.b (by have := hok.len; omega)
          rw [hleft _ _ h3.i1 h3.i2]
          have h4 := hR0 _ _ h3.i1 h3.i2
          dsimp only at h4
          rw [h] at h4
          obtain ⟨v, e1, -⟩ := h4
          rw [e1]; rfl
        case round2 =>
          have HR0 := Lib.hid hR0
          have HF0 := Lib.hid hF0
          clear hrun hit hleft hg hz11 hcn HA H6 H7 HBW hF10 hc3 hR0 hF0
          rintro a w2 ⟨Ds2, left, cnt, dn, n2, g, u8, u9, u10, u29, u30, u31, u32, u33, u34, u35, u36, u37, u38, u39, u40, u41, u42, u43, u44, u45, u46, u47, u48, u49, u50, u51, u52, u53, u54, u55, u56, u57, u58, u59, u60, u61, u62, u63, rfl, hit, hA, hBI, h6, h7, hB2, hD2, hl1, hl2, hcn⟩
          rcases hit.next key_state 0 with ⟨e0, e1, hnx⟩ | ⟨x, y, v, w3, cnt', hx, hy, hlxy, hfv, hnx, hit1, hlt2, hg1, hz1, hen⟩
          · have hdn : ∀ st l, (st, l) ∈ dn ↔ f st.1 st.2 = some l := fun st l => ⟨hl2 st l, fun h => by
              rcases hl1 st l h with h1 | h1
              · obtain ⟨h3, -⟩ := Rch.bd hok k _ (HBEST.out.yes _ _ _ h).1
                have h4 := h3.b (by have := hok.len; omega)
                rw [e1 _ _ h4.i1 h4.i2] at h1; cases h1
              · exact h1⟩
            have HBEST2 := Lib.hid (HBEST.out.step hs hdn hBI)
            have q6 := h6.cell 0
            have l6 := h6.lt
            have q3 := (hB2.cell (p := ⟨w.heap.size + 2, 0, none⟩) lb).trans q0
            have f3 := ((Hb2.out.bel hB2).frozen 0)
            have l3 := (Hb2.out.bel hB2).lt
            simp only [List.size_toArray, List.length_cons, List.length_nil, Nat.reduceAdd, Nat.reduceLT, getElem?_pos, List.getElem_toArray, List.getElem_cons_zero, List.getElem_cons_succ] at q6
            have HA := Lib.hid hA
            have HB2 := Lib.hid hB2
            have HD2 := Lib.hid hD2
            clear hit hA hBI h6 h7 hB2 hD2 hl1 hl2 e1 hdn
            go_wp2_with fail
            have hk9 := hok.len
            rw [wrap_succ k (by omega)]
            have hbx := Hb2.out.bel HB2.out
            have hcx := HC.out.bel HB2.out
            have hB3 := HB.out.trans (HB2.out.mono (show w.heap.size ≤ wr.heap.size by omega))
            have hz3 := HB2.out.size
            have hn14 : n2 ≤ 14 * n1 := by omega
            have hz4 : w.heap.size + 3 ≤ w2.heap.size := by omega
            refine ⟨WrI.next (k := k) hlt hbx (show w.heap.size ≤ wr.heap.size by omega) HA.out HBEST2.out (pow_step HN1.out hn14) hcx hB3 HD2.out hz4, ?_⟩
            show b.ns.length - (intOf (.int .i64 ((k + 1 : Nat) : Int))).toNat < b.ns.length - (intOf (.int .i64 (k : Int))).toNat
            clear HA HBEST2 HD2 HB2 HB HC Hb2 HM1 HD HBEST hbx hcx hB3
            simp only [intOf, Int.toNat_natCast]
            omega
          · obtain ⟨l, hfl, hvl⟩ : ∃ l, f x y = some l ∧ ListAt wr.heap.size wr v l := by
              have h4 := HR0.out x y hx hy
              split at h4
              · rw [h4] at hfv; cases hfv
              · rename_i l hl4
                obtain ⟨v', e1, e2⟩ := h4
                rw [e1] at hfv; cases hfv
                exact ⟨l, hl4, e2⟩
            obtain ⟨hstk, hll⟩ := Rch.bd hok k _ (HBEST.out.yes _ _ _ hfl).1
            have hk9 := hok.len
            obtain ⟨hx4, hy4⟩ := hstk.b (by omega)
            dsimp only at hx4 hy4 hll
            have hP1 : PrivM (fun j => j = wr.heap.size + 3) w2 w3 := PrivM.of_grown hg1
            have hlw : wr.heap.size + 3 < w2.heap.size := hit.lt
            have hB1 : Below wr.heap.size wr w3 := hB2.trans (Below.of_grown1 hg1 (by omega) (by omega))
            have hA1 : LMap w2.heap.size w3 wr.heap.size n2 g := by
              refine hA.priv hP1 (by omega) (fun cs t fz e => ?_)
              obtain ⟨_, _, _, _, hri⟩ := hit.isIter
              rw [hri] at e; cases e
            have h61 : Blk w3 (wr.heap.size + 1) 122 #[.map (some wr.heap.size)] := (hP1.block _ h6.lt (by omega)).trans h6
            have h71 : Blk w3 (wr.heap.size + 2) 125 #[.func (.func 98) #[] #[.pointer (some ⟨wr.heap.size + 1, 0, none⟩)]] := (hP1.block _ h7.lt (by omega)).trans h7
            have hD1 : Defs (w.heap.size + 3) Ds2 w3 := hD2.privM hP1 (fun D hD' e => by
              obtain ⟨_, _, _, _, hri⟩ := hit.isIter
              rw [← e, hD2.is D hD'] at hri
              cases hri)
            have hC1 := HC.out.bel hB1
            have HL1 := Lib.hid (HL.out.below (HB.out.trans (hB1.mono (show w.heap.size ≤ wr.heap.size by omega))))
            have q0' := hC1.cell 0
            have q1 := hC1.cell 1
            have q2 := hC1.cell 2
            have q3 := hC1.cell 3
            have q4 := hC1.cell 4
            have q5 := hC1.cell 5
            have q6 := hC1.cell 6
            have q7 := hC1.cell 7
            unfold catC at q0' q1 q2 q3 q4 q5 q6 q7
            simp only [List.size_toArray, List.length_cons, List.length_nil, Nat.reduceAdd, Nat.reduceLT, getElem?_pos, List.getElem_toArray, List.getElem_cons_zero, List.getElem_cons_succ] at q0' q1 q2 q3 q4 q5 q6 q7
            have hwl : w.heap.size < w3.heap.size := hC1.lt
            have hrl : wr.heap.size + 3 < w3.heap.size := by have := hg1.size; omega
            have hrl0 : wr.heap.size ≤ w3.heap.size := by omega
            have hbz : 0 ≤ (befS b.ns k (x, y)).1 ∧ (befS b.ns k (x, y)).1 ≤ 400 := by
              have := afterH_bd hy4.1 (gapN b.ns k).toNat x hx4.1
              rw [befS_eq]; dsimp only; omega
            have hby : (befS b.ns k (x, y)).2 = y := rfl
            have HIT1 := Lib.hid hit1
            have HIT := Lib.hid hit
            have HB1 := Lib.hid hB1
            have HA1 := Lib.hid hA1
            have HC1 := Lib.hid hC1
            have H61 := Lib.hid h61
            have H71 := Lib.hid h71
            have HD1 := Lib.hid hD1
            have HBI := Lib.hid hBI
            have HL1' := Lib.hid hl1
            have HL2' := Lib.hid hl2
            have HVL := Lib.hid hvl
            have HG1 := Lib.hid hg1
            obtain ⟨pv, cv, rfl, -, hcv, hpv, hpn, -⟩ := id hvl
            have HPV := Lib.hid hpv
            have HPN := Lib.hid hpn
            clear hit hA hB2 h6 h7 hD2 hl1 hl2 hg1 hP1 hB1 hA1 hC1 h61 h71 hD1 hit1 hfv hz1 hvl hBI hstk hpv hpn
            unfold key2 at hnx hen
            go_upto_region 14 with (go_at_call 100; refine (claim_any b p c kd k s x y _ (HL1.out.below (by (repeat (first | (with_reducible exact Below.refl _ _) | (with_reducible assumption) | ((with_reducible refine below_ext_trans ?_ ?_ _); rotate_left; focus (((try dsimp only); repeat (first | omega | simp only [World.size_alloc, World.size_setCell, World.size_drew] | (with_reducible refine le_ext_of ?_) | (with_reducible refine le_ext_add ?_))); done)) | ((with_reducible refine Below.alloc ?_ ?_ _); rotate_left; focus (((try dsimp only); repeat (first | omega | simp only [World.size_alloc, World.size_setCell, World.size_drew] | (with_reducible refine le_ext_of ?_) | (with_reducible refine le_ext_add ?_))); done)) | ((with_reducible refine Below.setCell ?_ ?_ _); rotate_left; focus (((try dsimp only); repeat (first | omega | simp only [World.size_alloc, World.size_setCell, World.size_drew] | (with_reducible refine le_ext_of ?_) | (with_reducible refine le_ext_add ?_))); done)) | (with_reducible refine Below.drew ?_))))) hok hs hx4 hy4).mono ?_; rintro e w4 ⟨rfl, y0, rfl⟩)
            generalize hW5 : (ext _ y0).alloc _ = W5
            generalize hz10 : (ext _ y0).heap.size = b10
            have hB5 : Below w3.heap.size w3 W5 := by rw [← hW5]; (repeat (first | (with_reducible exact Below.refl _ _) | (with_reducible assumption) | ((with_reducible refine below_ext_trans ?_ ?_ _); rotate_left; focus (((try dsimp only); repeat (first | omega | simp only [World.size_alloc, World.size_setCell, World.size_drew] | (with_reducible refine le_ext_of ?_) | (with_reducible refine le_ext_add ?_))); done)) | ((with_reducible refine Below.alloc ?_ ?_ _); rotate_left; focus (((try dsimp only); repeat (first | omega | simp only [World.size_alloc, World.size_setCell, World.size_drew] | (with_reducible refine le_ext_of ?_) | (with_reducible refine le_ext_add ?_))); done)) | ((with_reducible refine Below.setCell ?_ ?_ _); rotate_left; focus (((try dsimp only); repeat (first | omega | simp only [World.size_alloc, World.size_setCell, World.size_drew] | (with_reducible refine le_ext_of ?_) | (with_reducible refine le_ext_add ?_))); done)) | (with_reducible refine Below.drew ?_)))
            have h8b : Blk W5 w3.heap.size 91 #[.int .i64 x, .int .i64 y] := by rw [← hW5]; exact (((Blk.new rfl).alloc _).ext y0).alloc _
            have h9b : Blk W5 (w3.heap.size + 1) 44 #[.slice pv l.length cv] := by rw [← hW5]; exact ((Blk.new (by simp)).ext y0).alloc _
            have h10b : Blk W5 b10 127 (clmC s (befS b.ns k (x, y)).1 (befS b.ns k (x, y)).2) := by rw [← hW5]; exact Blk.new hz10.symm
            have hz510 : w3.heap.size + 2 ≤ b10 ∧ W5.heap.size = b10 + 1 := by
              refine ⟨?_, by rw [← hW5, World.size_alloc, hz10]⟩
              rw [← hz10]
              refine Nat.le_trans ?_ y0.ok.size
              simp
            clear hW5 hz10 q0' q1 q2 q3 q4 q5 q6 q7 hnx hen
            have h71x := H71.out.bel hB5
            have hlist5 := HVL.out.below (Nat.le_refl _) ((HB1.out).trans (hB5.mono hrl0))
            have q7 := h71x.cell 0
            have q9 := h9b.cell 0
            have q10 := h10b.cell 4
            have q11 := h10b.cell 5
            simp only [clmC, List.size_toArray, List.length_cons, List.length_nil, Nat.reduceAdd, Nat.reduceLT, getElem?_pos, List.getElem_toArray, List.getElem_cons_zero, List.getElem_cons_succ] at q7 q9 q10 q11
            have hl10 := h10b.lt
            refine wp_region_flow_back 12 64 (offR 0 0 0 b10 (wr.heap.size + 1) pv cv l k (befS b.ns k (x, y)).1 y) (by kernel_rfl) (by kernel_rfl) rfl (offR_kept _ _ _ _ _ _ _ _ _ _ _) ?_ ?_
            · intro i hin a X g1 g2 g3 g4 g5 KK hKK
              match i, hin with
              | 0, _ => exact st_val rfl (wanted_none rfl) (run_lOffer _ rfl (g3 7 (by kernel_rfl)) ((g5.cell (p := ⟨wr.heap.size + 1 + 1, 0, none⟩) h71x.lt).trans q7)) (hKK _ _ rfl (Below.refl _ _))
              | 1, _ => exact st_val rfl (wanted_none rfl) (run_fClaim1 _ rfl (g3 10 (by kernel_rfl)) (by have := g5.size; omega)) (hKK _ _ rfl (Below.refl _ _))
              | 2, _ => exact st_val rfl (wanted_none rfl) (run_lState _ rfl (g4 1 (by kernel_rfl)) ((g5.cell (p := ⟨b10, 4, none⟩) hl10).trans q10) ((g5.cell (p := ⟨b10, 5, none⟩) hl10).trans q11)) (hKK _ _ rfl (Below.refl _ _))
              | 3, _ => exact st_val rfl (wanted_none rfl) (run_lInts _ rfl (g3 9 (by kernel_rfl)) ((g5.cell (p := ⟨w3.heap.size + 1, 0, none⟩) h9b.lt).trans q9)) (hKK _ _ rfl (Below.refl _ _))
              | 4, _ => exact st_val rfl (wanted_none rfl) (run_lInts _ rfl (g3 9 (by kernel_rfl)) ((g5.cell (p := ⟨w3.heap.size + 1, 0, none⟩) h9b.lt).trans q9)) (hKK _ _ rfl (Below.refl _ _))
              | 5, _ => exact st_val rfl (wanted_none rfl) (run_lenInts _ rfl (g4 4 (by kernel_rfl))) (hKK _ _ rfl (Below.refl _ _))
              | 6, _ => exact st_val rfl (wanted_none rfl) (run_lInts _ rfl (g3 9 (by kernel_rfl)) ((g5.cell (p := ⟨w3.heap.size + 1, 0, none⟩) h9b.lt).trans q9)) (hKK _ _ rfl (Below.refl _ _))
              | 7, _ => exact st_val rfl (wanted_none rfl) (run_lenInts _ rfl (g4 6 (by kernel_rfl))) (hKK _ _ rfl (Below.refl _ _))
              | 8, _ => exact st_val rfl (wanted_none rfl) (run_slInts _ rfl (g4 3 (by kernel_rfl)) (g4 5 (by kernel_rfl)) (g4 7 (by kernel_rfl)) hcv (fun a ha => (HPV.out a ha).1) (fun e => by have := HPN.out e; omega)) (hKK _ _ rfl (Below.refl _ _))
              | 9, _ => exact st_move rfl rfl (wanted_none rfl) (g3 5 (by kernel_rfl)) (hKK _ _ rfl (Below.refl _ _))
              | 10, _ => exact wpOp_want rfl (wanted_none rfl) (by
                  unfold Oper.wp
                  rw [run_one a.eval rfl (g4 9 (by kernel_rfl))]
                  exact hKK _ _ ⟨_, rfl, Blk.new rfl⟩ ((Below.refl _ _).alloc (Nat.le_refl _) _))
              | 11, _ =>
                obtain ⟨ga, e10, hba⟩ := g4 10 (by kernel_rfl)
                exact st_grow_num rfl rfl _ _ rfl pv l cv (g4 8 (by kernel_rfl)) ((hlist5.bel g5).mono (show wr.heap.size ≤ X.heap.size by have := g5.size; omega) (Nat.le_refl _)) ga k e10 hba (by omega) (fun v2 w2' h1 h2 => hKK _ _ h1 h2)
              | k + 12, hk => omega
            intro vs W6 hvs hBW6
            have v0 : vs 0 = _ := hvs 0 (by omega)
            have v1 : vs 1 = _ := hvs 1 (by omega)
            have v2 : vs 2 = _ := hvs 2 (by omega)
            have v3 : vs 3 = _ := hvs 3 (by omega)
            have v4 : vs 4 = _ := hvs 4 (by omega)
            have v5 : vs 5 = _ := hvs 5 (by omega)
            have v6 : vs 6 = _ := hvs 6 (by omega)
            have v7 : vs 7 = _ := hvs 7 (by omega)
            have v8 : vs 8 = _ := hvs 8 (by omega)
            have v9 : vs 9 = _ := hvs 9 (by omega)
            obtain ⟨x10, v10⟩ : ∃ x, vs 10 = x := ⟨_, rfl⟩
            obtain ⟨vl, v11⟩ : ∃ x, vs 11 = x := ⟨_, rfl⟩
            have hvl2 : ListAt W6.heap.size W6 vl (l ++ [(k : Int)]) := by rw [← v11]; exact hvs 11 (by omega)
            simp only [putAll, v0, v1, v2, v3, v4, v5, v6, v7, v8, v9, v10, v11]
            clear v0 v1 v2 v3 v4 v5 v6 v7 v8 v9 v10 v11 hvs
            simp only [dstOf, Act.put, List.getElem?_toArray, List.getElem?_cons_zero, List.getElem?_cons_succ, Option.bind_some, Option.getD_some, List.setIfInBounds_toArray, List.set_cons_succ, List.set_cons_zero, List.drop_succ_cons, List.drop_zero]
            have hB36 := hB5.trans (hBW6.mono hB5.size)
            have HB36 := Lib.hid hB36
            have hz36 := hB36.size
            have HA6 := Lib.hid ((HA1.out.below (by have := HG1.out.size; exact this) (by omega) hB36).mono (show w2.heap.size ≤ W6.heap.size by have := HG1.out.size; omega) (Nat.le_refl _))
            have H66 := Lib.hid (H61.out.bel hB36)
            have H76 := Lib.hid (H71.out.bel hB36)
            have H96 := Lib.hid (h9b.bel hBW6)
            have H106 := Lib.hid (h10b.bel hBW6)
            have HV6 := Lib.hid hvl2
            have HL6 := Lib.hid (hlist5.bel hBW6)
            have hN := n_small (n1 := n1) (k := k) (by omega) HN1.out
            clear h71x hlist5 q7 q9 q10 q11 hB5 h8b h9b h10b hvl2 hBW6 hB36
            go_upto_region 15 with (go_at_call 98; refine (offer_any _ _ _ vl (l ++ [(k : Int)]) _ _ n2 g W6 (inI (by omega) (by omega)) (inI (by omega) (by omega)) HV6.out (by simp; omega) H66.out HA6.out (by omega)).mono ?_; rintro e w7 ⟨⟨u50, rfl⟩, hA7, hP7⟩)
            have hl66 := H66.out.lt
            have hl76 := H76.out.lt
            have hl96 := H96.out.lt
            have hl106 := H106.out.lt
            have h67 : Blk w7 (wr.heap.size + 1) 122 #[.map (some wr.heap.size)] := (hP7.block _ hl66 (by omega)).trans H66.out
            have h77 : Blk w7 (wr.heap.size + 2) 125 #[.func (.func 98) #[] #[.pointer (some ⟨wr.heap.size + 1, 0, none⟩)]] := (hP7.block _ hl76 (by omega)).trans H76.out
            have h97 : Blk w7 (w3.heap.size + 1) 44 #[.slice pv l.length cv] := (hP7.block _ hl96 (by omega)).trans H96.out
            have h107 : Blk w7 b10 127 (clmC s (befS b.ns k (x, y)).1 (befS b.ns k (x, y)).2) := (hP7.block _ hl106 (by omega)).trans H106.out
            have hz67 := hP7.size
            have hB37 : Below (wr.heap.size) w3 w7 := (HB36.out.mono (by omega)).trans (hP7.below (by omega) (fun j hj => by omega))
            have q0' := h107.cell 0
            have q1 := h107.cell 1
            have q2 := h107.cell 2
            have q3 := h107.cell 3
            have q4 := h107.cell 4
            have q5 := h107.cell 5
            simp only [clmC, List.size_toArray, List.length_cons, List.length_nil, Nat.reduceAdd, Nat.reduceLT, getElem?_pos, List.getElem_toArray, List.getElem_cons_zero, List.getElem_cons_succ] at q0' q1 q2 q3 q4 q5
            have HB37 := Lib.hid hB37
            have H67 := Lib.hid h67
            have H77 := Lib.hid h77
            have H97 := Lib.hid h97
            have HA7 := Lib.hid (hA7.mono hz67 (Nat.le_refl _))
            have HL7 := Lib.hid (HL6.out.priv hP7 (fun cs t fz e => by obtain ⟨F6, hF6, -⟩ := HA6.out; exact hF6.noCells cs t fz e))
            have HD7 := Lib.hid ((HD1.out.below HB36.out).privM hP7 (fun D hD' e => by
              obtain ⟨F6, hF6, -⟩ := HA6.out
              obtain ⟨D2, ⟨es, clock, e1, _⟩, _⟩ := hF6
              rw [← e, (HD1.out.below HB36.out).is D hD'] at e1
              cases e1))
            have HIT7 := Lib.hid ((HIT1.out.below (m := w3.heap.size) (by have := HF0.out.lt; omega) (by omega) HB36.out).of_heap (hP7.block _ (by have := HF0.out.lt; omega) (by have := HF0.out.lt; omega)) (hP7.block _ (by omega) (by omega)))
            clear HB36 HA6 H66 H76 H96 H106 HV6 HL6 hA7 h67 h77 h97 hB37
            go_wp2_with fail
            have hkn := hok.nt hs
            obtain ⟨hkn, -, hspn⟩ := hkn
            obtain ⟨np1, np2, np3, np4, np5, np6⟩ := hspn
            have hm4 : mostOf s.kind ≤ 400 := by unfold mostOf; split <;> (try split) <;> omega
            have hseq := behind_in s (befS b.ns k (x, y)).1 y (fun j => j = wr.heap.size ∨ j = w7.heap.size + 1) w7 hkn ⟨np1, np5, by omega⟩ hbz hy4
            have hbl : behL s ((befS b.ns k (x, y)).1, y) = behL s (befS b.ns k (x, y)) := rfl
            rw [hbl] at hseq
            have hlen13 := behL_len s (befS b.ns k (x, y)) np6
            have hBI0 := HBI.out.snoc (befS b.ns k (x, y)).1 y (l ++ [(k : Int)])
            have HBI0 := Lib.hid hBI0
            clear hBI0 q0' q1 q2 q3 q4 q5
            refine (wpIn_wide (n := 9)).1 ?_
            refine wpIn_rangeFunc_0 (gf := 101) (fb := #[.agg (clmC s (befS b.ns k (x, y)).1 y)]) (lb := #[]) rfl (enters_of Tryd.func101 (by kernel_rfl) rfl)
              (fun j => j = wr.heap.size) (fun j hj => by omega) hseq (Below.refl _ _) (fun _ => rfl)
              (fun pre A => (∃ (m : Nat) (G : Int → Int → Option (List Int)), m ≤ n2 + 1 + pre.length ∧ LMap w7.heap.size A wr.heap.size m G ∧ BestIs (dn.flatMap (offL b.ns k s) ++ [((befS b.ns k (x, y)).1, y, l ++ [(k : Int)])].map (fun q => ((q.1, q.2.1), q.2.2)) ++ pre.map fun z => (z, l)) G) ∧ Blk A (wr.heap.size + 1) 122 #[.map (some wr.heap.size)] ∧ Blk A (wr.heap.size + 2) 125 #[.func (.func 98) #[] #[.pointer (some ⟨wr.heap.size + 1, 0, none⟩)]] ∧ Blk A (w3.heap.size + 1) 44 #[.slice pv l.length cv] ∧ ListAt wr.heap.size A (.slice pv l.length cv) l)
              (fun c pre A => False)
              (fun pre z a' A => ∃ (gz : Nat) (v8 v10 v29 v30 v31 v32 v33 v34 v35 v36 v37 v38 v39 v40 v41 v42 v43 v44 v45 v46 v47 v48 v49 v50 v51 v52 v53 v54 v55 v56 v57 v58 v59 v60 v61 v62 v63 : Value), w7.heap.size + 2 ≤ gz ∧ Blk A gz 91 #[.int .i64 z.1, .int .i64 z.2] ∧ a' = { tmps := #[.agg (catC b.lo b.hi p b.ns.length c kd), .pointer (some ⟨w.heap.size, 0, none⟩), .slice none 0 0, .pointer (some ⟨w.heap.size + 1 + 1, 0, none⟩), undef, .int .i64 k, .pointer (some ⟨wr.heap.size + 1, 0, none⟩), .pointer (some ⟨wr.heap.size + 1 + 1, 0, none⟩), v8, .pointer (some ⟨w3.heap.size + 1, 0, none⟩), v10, .pointer (some ⟨gz, 0, none⟩), .map (some (w.heap.size + 1)), .agg (catC b.lo b.hi p b.ns.length c kd), .func (.func 86) #[.agg (catC b.lo b.hi p b.ns.length c kd)] #[], u15, u16, u17, .pointer (some ⟨w.heap.size, 0, none⟩), .pointer (some ⟨w.heap.size, 2, none⟩), .slice p b.ns.length c, .int .i64 b.ns.length, .int .i64 k, .bool true, .int .i64 k, .map (some wr.heap.size), .func (.func 98) #[] #[.pointer (some ⟨wr.heap.size + 1, 0, none⟩)], .map (some M1), .pointer (some ⟨wr.heap.size + 3, 0, none⟩), v29, v30, v31, v32, v33, v34, v35, v36, v37, v38, v39, v40, v41, v42, v43, v44, v45, v46, v47, v48, v49, v50, v51, v52, v53, v54, v55, v56, v57, v58, v59, v60, v61, v62, v63], defers := [] })
              ?ghI ?ghIx ?ghAx ?gh0 ?ghassign ?ghbody ?ghdone ?ghstop
            case ghI =>
              rintro pre A C ⟨⟨m, G, j0, j1, jb⟩, j2, j3, j4, j5⟩ hz hp
              refine ⟨⟨m, G, j0, j1.below (m := w7.heap.size) (Nat.le_refl _) (by omega) hp, jb⟩, (hp.block _ (by omega)).trans j2, (hp.block _ (by omega)).trans j3, (hp.block _ (by omega)).trans j4, j5.below (by omega) hp⟩
            case ghIx => rintro c pre A C h; exact h.elim
            case ghAx =>
              rintro pre z a' A C ⟨gz, v8, v10, v29, v30, v31, v32, v33, v34, v35, v36, v37, v38, v39, v40, v41, v42, v43, v44, v45, v46, v47, v48, v49, v50, v51, v52, v53, v54, v55, v56, v57, v58, v59, v60, v61, v62, v63, h1, h2, rfl⟩ hp
              exact ⟨gz, _, _, _, _, _, _, _, _, _, _, _, _, _, _, _, _, _, _, _, _, _, _, _, _, _, _, _, _, _, _, _, _, _, _, _, _, _, h1, (hp.block _ h2.lt (by omega)).trans h2, rfl⟩
            case gh0 =>
              intro W8 hb8
              refine ⟨⟨n2 + 1, _, by simp, (HA7.out).below (Nat.le_refl _) (by omega) hb8, ?_⟩, (hb8.block _ (by omega)).trans H67.out, (hb8.block _ (by omega)).trans H77.out, (hb8.block _ (by omega)).trans H97.out, (HL7.out).below (by omega) hb8⟩
              simpa using HBI0.out
            case ghassign =>
              intro m l' pre z W' hz hsp hi'
              clear hseq
              dsimp only [encS, key2]
              gi_wp2_with fail
              exact ⟨⟨W'.heap.size, _, _, _, _, _, _, _, _, _, _, _, _, _, _, _, _, _, _, _, _, _, _, _, _, _, _, _, _, _, _, _, _, _, _, _, _, _, hz, Blk.new rfl, rfl⟩, by (repeat (first | (with_reducible exact Below.refl _ _) | (with_reducible assumption) | ((with_reducible refine below_ext_trans ?_ ?_ _); rotate_left; focus (((try dsimp only); repeat (first | omega | simp only [World.size_alloc, World.size_setCell, World.size_drew] | (with_reducible refine le_ext_of ?_) | (with_reducible refine le_ext_add ?_))); done)) | ((with_reducible refine Below.alloc ?_ ?_ _); rotate_left; focus (((try dsimp only); repeat (first | omega | simp only [World.size_alloc, World.size_setCell, World.size_drew] | (with_reducible refine le_ext_of ?_) | (with_reducible refine le_ext_add ?_))); done)) | ((with_reducible refine Below.setCell ?_ ?_ _); rotate_left; focus (((try dsimp only); repeat (first | omega | simp only [World.size_alloc, World.size_setCell, World.size_drew] | (with_reducible refine le_ext_of ?_) | (with_reducible refine le_ext_add ?_))); done)) | (with_reducible refine Below.drew ?_)))⟩
            case ghbody =>
              rintro m l' pre z a' W' hz hpx ⟨⟨m2, G, j0, j1, jb⟩, j2, j3, j4, j5⟩ ⟨gz, v8, v10, v29, v30, v31, v32, v33, v34, v35, v36, v37, v38, v39, v40, v41, v42, v43, v44, v45, v46, v47, v48, v49, v50, v51, v52, v53, v54, v55, v56, v57, v58, v59, v60, v61, v62, v63, hgz, hbg, rfl⟩
              have hzm : z ∈ behL s (befS b.ns k (x, y)) := hpx.subset (by simp)
              have hpl : pre.length ≤ 13 := by
                have := hpx.length_le
                simp at this; omega
              have hzI : InI z.1 ∧ InI z.2 := by
                have h1 := behL_bd hkn ⟨np1, np2, np3, np4, np5, np6⟩ hbz.1 (by rw [hby]; exact hy4.1) hzm
                rw [hby] at h1
                exact ⟨inI (by omega) (by omega), inI (by omega) (by omega)⟩
              have c0 := j3.cell 0
              have c9 := j4.cell 0
              have d0 := hbg.cell 0
              have d1 := hbg.cell 1
              have l0 := j3.lt
              have l9 := j4.lt
              have l1 := hbg.lt
              simp only [List.size_toArray, List.length_cons, List.length_nil, Nat.reduceAdd, Nat.reduceLT, getElem?_pos, List.getElem_toArray, List.getElem_cons_zero, List.getElem_cons_succ] at c0 c9 d0 d1
              have J1 := Lib.hid j1
              have J2 := Lib.hid j2
              have J3 := Lib.hid j3
              have J4 := Lib.hid j4
              have J5 := Lib.hid (j5.mono (show wr.heap.size ≤ w7.heap.size by omega) (show w7.heap.size ≤ W'.heap.size by omega))
              have J5' := Lib.hid j5
              have JB := Lib.hid (jb.snoc z.1 z.2 l)
              clear hseq j1 j2 j3 j4 j5 jb hbg hpx hzm
              gi_wp2_with (gi_at_call 98; refine (CallsIn.inRound _ (callsIn_wide.2 (offer_any w7.heap.size z.1 z.2 (.slice pv l.length cv) l (wr.heap.size + 1) wr.heap.size m2 G W' hzI.1 hzI.2 J5.out (by omega) J2.out J1.out (by omega)))).mono ?_; rintro e w8 ⟨⟨u57, rfl⟩, hA8, hP8⟩)
              refine ⟨hP8, ⟨m2 + 1, _, by simp; omega, hA8, ?_⟩, (hP8.block _ (by omega) (by omega)).trans J2.out, (hP8.block _ (by omega) (by omega)).trans J3.out, (hP8.block _ (by omega) (by omega)).trans J4.out, J5'.out.priv hP8 (fun cs t fz e => by obtain ⟨F8, hF8, -⟩ := J1.out; exact hF8.noCells cs t fz e)⟩
              rw [List.map_append, ← List.append_assoc]; exact JB.out
            case ghdone =>
              rintro D xs W' rfl hz rfl ⟨⟨m, G, j0, j1, jb⟩, j2, j3, -, -⟩ hp hD'
              have hpB : Below wr.heap.size w7 W' := hp.below (by omega) (fun j hj => by omega)
              have hDW : Defs (w.heap.size + 3) (w7.heap.size :: Ds2) W' := (HD7.out.privM hp (fun E hE e => by
                obtain ⟨F7, hF7, -⟩ := HA7.out
                obtain ⟨D2, ⟨es, clock, e1, _⟩, _⟩ := hF7
                rw [← e, HD7.out.is E hE] at e1
                cases e1)).cons hD' (by omega) (fun hE => by have := HD7.out.lt hE; omega)
              have hMw := HF0.out.lt
              have hitW : IterAt Tryd.prog 91 W' M1 (wr.heap.size + 3) n1 F (fun x_1 y_1 => left x_1 y_1 && !(decide (x_1 = x) && decide (y_1 = y))) cnt' := HIT7.out.of_heap (hp.block _ (by omega) (by omega)) (hp.block _ (by omega) (by omega))
              have hB2W : Below wr.heap.size wr W' := HB1.out.trans (HB37.out.trans hpB)
              have hAW : LMap W'.heap.size W' wr.heap.size m G := j1.mono (by omega) (Nat.le_refl _)
              have hltW : W'.rangeLeft M1 (wr.heap.size + 3) < w2.rangeLeft M1 (wr.heap.size + 3) := by
                rw [hitW.left_eq, HIT.out.left_eq]; exact hlt2
              have hBIW : BestIs ((dn ++ [((x, y), l)]).flatMap (offL b.ns k s)) G := by
                rw [List.flatMap_append]
                simpa [offL, befS_eq, hby] using jb
              have HITW := Lib.hid hitW
              have HAW := Lib.hid hAW
              have HBIW := Lib.hid hBIW
              have J2 := Lib.hid j2
              have J3 := Lib.hid j3
              have HB2W := Lib.hid hB2W
              have HDW := Lib.hid hDW
              have hm13 : m + 14 * cnt' ≤ 14 * n1 := by omega
              clear hseq hitW hAW hBIW j1 j2 j3 jb hp hpB hDW hB2W
              gi_wp2_with fail
              refine (show WrJ b p c kd w wr k s M1 n1 f F u11 u15 u16 u17 _ _ ∧ rngM M1 (wr.heap.size + 3) _ _ < rngM M1 (wr.heap.size + 3) _ _ from
                ⟨⟨w7.heap.size :: Ds2, _, cnt', dn ++ [((x, y), l)], m, G, _, _, _, _, _, _, _, _, _, _, _, _, _, _, _, _, _, _, _, _, _, _, _, _, _, _, _, _, _, _, _, _, _, _, _, _, _, _, rfl, HITW.out, HAW.out, HBIW.out, J2.out, J3.out, HB2W.out, HDW.out, ?_, ?_, hm13⟩, hltW⟩)
              · intro st l2 hs2
                rcases HL1'.out st l2 hs2 with h1 | h1
                · by_cases he : st = (x, y)
                  · subst he
                    dsimp only at hs2
                    rw [hfl] at hs2; cases hs2
                    exact .inr (by simp)
                  · refine .inl ?_
                    rw [h1]
                    simp only [Bool.true_and, Bool.not_eq_true', Bool.and_eq_false_iff, decide_eq_false_iff_not]
                    by_cases h2 : st.1 = x
                    · exact .inr (fun h3 => he (Prod.ext h2 h3))
                    · exact .inl h2
                · exact .inr (List.mem_append_left _ h1)
              · intro st l2 hs2
                rcases List.mem_append.1 hs2 with h1 | h1
                · exact HL2'.out st l2 h1
                · simp only [List.mem_singleton, Prod.mk.injEq] at h1
                  obtain ⟨rfl, rfl⟩ := h1
                  exact hfl
            case ghstop =>
              rintro D c pre W' rfl hz hSp h hp hD'
              exact h.elim
      · obtain rfl : k = b.ns.length := by omega
        have hkl : ¬ (b.ns.length : Int) < (b.ns.length : Int) := by omega
        have hn1 := n_small9 (by have := hok.len; omega) HN1.out
        obtain ⟨F, hF0, hR0⟩ := HM1.out
        have HF0 := Lib.hid hF0
        have HR0 := Lib.hid hR0
        clear hF0 hR0
        have HSL : Hid (∀ a c v, InI a → InI c → F a c = some v → ∃ l, f a c = some l ∧ ListAt wr.heap.size wr v l) := Lib.hid (fun a c v ha hc hf => by
          have h4 := HR0.out a c ha hc
          split at h4
          · rw [h4] at hf; cases hf
          · rename_i l hl4
            obtain ⟨v', e1, e2⟩ := h4
            rw [e1] at hf; cases hf
            exact ⟨l, hl4, e2⟩)
        have HSV : Hid (∀ a c v, InI a → InI c → F a c = some v → ∃ p m k, v = .slice p m k) := Lib.hid (fun a c v ha hc hf => by
          obtain ⟨l, -, p2, c2, e, -⟩ := HSL.out a c v ha hc hf
          exact ⟨_, _, _, e⟩)
        go_wp2_with (first
          | (go_at_call 104; refine (values_any M1 wr).mono ?_; rintro e w4 ⟨rfl, hb4, hB4⟩; have HB4 := Lib.hid hB4; have Hb4 := Lib.hid hb4; clear hB4 hb4)
          | (go_at_call 103; refine (collect_any M1 n1 wr.heap.size F w4 (HF0.out.below HB4.out) Hb4.out HSV.out hn1).mono ?_; rintro e w5 ⟨v5, xs, rfl, hS5, hO5, hB5⟩; obtain ⟨l0, ls, p5, c5, hga, rfl, hLs⟩ := gathered hok hk HBEST.out HSL.out HR0.out HB4.out hB5 hS5 hO5; have HLS := Lib.hid hLs; have HGA := Lib.hid hga; have HB5 := Lib.hid hB5; clear hS5 hO5 hB5 hga hLs)
          | (go_at_call 102; refine (minFunc_any wr.heap.size p5 c5 l0 ls w5 HLS.out (by have := HGA.out.len; simp at this; omega) (fun l hl => by obtain ⟨st, hr⟩ := HGA.out.mem l hl; have := (Rch.bd hok _ _ hr).2; have := hok.len; dsimp only at *; omega)).mono ?_; rintro e w6 ⟨v6, rfl, hv6, y6, hw6⟩; have HV6 := Lib.hid hv6; have HB6 := Lib.hid (show Below w5.heap.size w5 w6 by rw [hw6]; exact below_ext _ _); clear hv6 hw6))
        have hB46 : Below wr.heap.size wr w6 := HB4.out.trans ((HB5.out.mono HB4.out.size).trans (HB6.out.mono (Nat.le_trans HB4.out.size HB5.out.size)))
        have HB46 := Lib.hid hB46
        have HD6 := Lib.hid (HD.out.below hB46)
        clear hB46
        refine (show LeavesInM _ _ _ _ _ _ _ _ _ from HD6.out.leave (fun w' h1 h2 h3 => ?_))
        exact ⟨_, results_tmp rfl _ _ _, v6, bestOf l0 ls, rfl, (HV6.out.leave HD6.out h2 h3).mono (by have := HB46.out.size; omega) (Nat.le_refl _), HGA.out.best.1, HGA.out.best.2, HB.out.trans ((HB46.out.mono (by omega)).trans (h1.mono (by omega)))⟩
  case hstop =>
    rintro D c pre W' rfl hz hSp h hp hD'
    exact h.elim
end Go.Proofs.YtjjfpbjdcmkkhaaDoor

