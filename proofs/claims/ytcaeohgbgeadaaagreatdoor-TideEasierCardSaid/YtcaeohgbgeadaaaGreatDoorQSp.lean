/- Package seine: all states behind a note to which it leads from some before it. -/
/- Package seine: those of some states from which a note can be right, so that it leads to one of others. -/
import Derived.Test.YtcaeohgbgeadaaaGreatDoorQSo
import Derived.Carry
set_option linter.unusedSimpArgs false
set_option linter.unusedVariables false
namespace Go.Proofs.YtcaeohgbgeadaaaGreatDoor
open Go Go.RowKit Go.Shelf

theorem key_state : Key2 Tryz.prog 169 :=
  Key2.of (I := 3) (Maps.Keyed.of_law (deep_law_gate (by kernel_rfl) (Nat.le_of_ble_eq_true (by kernel_rfl)) (Nat.le_of_ble_eq_true (by kernel_rfl)) (by kernel_rfl) (by kernel_rfl)))
    (Tryz.underlying169) rfl rfl rfl rfl (by kernel_rfl) (by kernel_rfl) (Tryz.underlying3) (by kernel_rfl) (by kernel_rfl) (by kernel_rfl) (m := Tryz.prog.types.size - 1) (by kernel_rfl)
/-- What all states keep to. -/
def StB (s : Int × Int) : Prop := (0 ≤ s.1 ∧ s.1 ≤ 400) ∧ 0 ≤ s.2 ∧ s.2 ≤ 1000
theorem StB.i1 {s : Int × Int} (h : StB s) : InI s.1 := inI (by have := h.1; omega) (by have := h.1; omega)
theorem StB.i2 {s : Int × Int} (h : StB s) : InI s.2 := inI (by have := h.2; omega) (by have := h.2; omega)
/-- All states behind a note, from those behind the one before it. -/
def rchL (ns : List Nt) (k : Nat) (s : Nt) (l : List (Int × Int)) : List (Int × Int) := l.flatMap fun st => behL s (befS ns k st)
abbrev StAt (w : World) (M n : Nat) (l : List (Int × Int)) : Prop := MapAt Tryz.prog 169 w M n (setF l)
/-- What holds before a round. -/
def RchI (b : Sn) (p : Option Addr) (c : Nat) (kd : Kd) (k : Nat) (s : Nt) (M n : Nat) (l : List (Int × Int)) (w : World) : Act → World → Prop := fun a wr =>
  ∃ (Ds : List Nat) (left : Int → Int → Bool) (cnt : Nat) (dn : List (Int × Int)) (n' : Nat) (u8 u9 u13 u14 u15 u16 u17 u18 u19 u20 u21 u22 u23 u24 u25 : Value),
    a = { tmps := #[.agg (catC b.lo b.hi p b.ns.length c kd), .int .i64 k, .map (some M), .pointer (some ⟨w.heap.size, 0, none⟩), undef, undef, .map none, .pointer (some ⟨w.heap.size + 1 + 1, 0, none⟩), u8, u9, .map (some (w.heap.size + 1)), .map (some M), .pointer (some ⟨w.heap.size + 3, 0, none⟩), u13, u14, u15, u16, u17, u18, u19, u20, u21, u22, u23, u24, u25], defers := Ds.map coll } ∧
    IterAt Tryz.prog 169 wr M (w.heap.size + 3) n (setF l) left cnt ∧ StAt wr (w.heap.size + 1) n' (rchL b.ns k s dn) ∧ Blk wr w.heap.size 119 (catC b.lo b.hi p b.ns.length c kd) ∧
    Blk wr (w.heap.size + 2) 179 #[.map (some (w.heap.size + 1))] ∧ Below w.heap.size w wr ∧ Defs (w.heap.size + 3) Ds wr ∧ (∀ st ∈ l, left st.1 st.2 = true ∨ st ∈ dn) ∧ (∀ st ∈ dn, st ∈ l) ∧ n' + 13 * cnt ≤ 13 * n
def rngM (M r : Nat) : Act → World → Nat := fun _ wr => wr.rangeLeft M r
theorem PrivM.of_grown {b : Nat} {A B : World} (h : A.grownBy B (some b)) : PrivM (fun k => k = b) A B := ⟨h.os, h.tape, h.output, h.size, fun k hk hn => h.block k hk (fun e => hn (by simpa using e))⟩
theorem Below.of_grown0 {A B : World} {n : Nat} (h : A.grownBy B none) (hn : n ≤ A.heap.size) : Below n A B := ⟨h.os, h.tape, h.output, h.size, fun k hk => h.block k (by omega) (by simp)⟩
theorem Below.of_grown1 {A B : World} {n b : Nat} (h : A.grownBy B (some b)) (hn : n ≤ A.heap.size) (hb : n ≤ b) : Below n A B := ⟨h.os, h.tape, h.output, h.size, fun k hk => h.block k (by omega) (fun e => by simp at e; omega)⟩
theorem behL_bd {s : Nt} {st z : Int × Int} (hk : 0 ≤ s.kind ∧ s.kind ≤ 4) (hs : SpanOK s.lo s.hi (mostOf s.kind)) (h1 : 0 ≤ st.1) (h2 : 0 ≤ st.2) (hz : z ∈ behL s st) : 0 ≤ z.1 ∧ z.1 ≤ st.1 ∧ 0 ≤ z.2 ∧ z.2 ≤ st.2 + 9 := by
  obtain ⟨sp1, sp2, sp3, sp4, sp5, sp6⟩ := hs
  unfold behL at hz
  obtain ⟨m, hm, rfl⟩ := List.mem_map.1 hz
  obtain ⟨hm1, hm2⟩ := List.mem_filter.1 hm
  have hm3 := mem_numsL.1 hm1
  unfold doesS
  by_cases k0 : s.kind = 0
  · simp [rightB, k0] at hm2
    simp only [if_pos k0]; omega
  by_cases k1 : s.kind = 1
  · have : mostOf s.kind = 9 := by simp [mostOf, k1]
    simp only [if_neg k0, if_pos k1]; omega
  by_cases k2 : s.kind = 2
  · simp only [if_neg k0, if_neg k1, if_pos k2]; omega
  by_cases k3 : s.kind = 3
  · simp only [if_neg k0, if_neg k1, if_neg k2, if_pos k3]; omega
  · simp only [if_neg k0, if_neg k1, if_neg k2, if_neg k3]; omega
theorem behL_len (s : Nt) (st : Int × Int) (h : s.hi - s.lo ≤ 12) : (behL s st).length ≤ 13 := by
  unfold behL
  rw [List.length_map]
  refine Nat.le_trans (List.length_filter_le _ _) ?_
  simp [numsL, nupto]; omega
attribute [local go_sem] Oper.semAt_some frozen_alloc_lt
set_option maxHeartbeats 4000000 in
theorem reached_any (b : Sn) (p : Option Addr) (c : Nat) (kd : Kd) (k : Nat) (s : Nt) (M n : Nat) (l : List (Int × Int)) (w : World) (hl : NotesAt w p b.ns) (hok : Ok9 b) (hs : b.ns[k]? = some s) (hm : StAt w M n l) (hst : ∀ st ∈ l, StB st) (hn : n ≤ 1000000000000) :
    Calls Tryz.prog 141 #[.agg (catC b.lo b.hi p b.ns.length c kd), .int .i64 k, .map (some M)] w fun e w' => ∃ M' n' : Nat, e = .returned (.map (some M')) ∧ w.heap.size ≤ M' ∧ n' ≤ 13 * n ∧ StAt w' M' n' (rchL b.ns k s l) ∧ Below w.heap.size w w' := by
  refine (callsIn_wide (n := 9)).1 ?_
  have HL := Lib.hid hl
  have HM := Lib.hid hm
  clear hl hm
  refine callsIn_of_wp_marks Tryz.func141 rfl trivial ?_ rfl
  simp only [Tryz.ntmps141, List.size_toArray, List.length_cons, List.length_nil, Nat.reduceAdd, Nat.reduceSub, Array.replicate_succ, Array.replicate_zero, List.push_toArray, List.append_toArray, List.nil_append, List.cons_append]
  refine wpIn_wide.2 ?_
  unfold catC
  have hmm := @run_makeMap Tryz.prog
  go_upto_region 2 with fail
  clear hmm
  generalize hW0 : ((w.alloc _).alloc _).alloc _ = W0
  have hB0 : Below w.heap.size w W0 := by rw [← hW0]; (exact belA)
  have hz0 : W0.heap.size = w.heap.size + 3 := by rw [← hW0]; simp
  have hc0 : Blk W0 w.heap.size 119 (catC b.lo b.hi p b.ns.length c kd) := by rw [← hW0]; exact ((Blk.new rfl).alloc _).alloc _
  have hr0 : StAt W0 (w.heap.size + 1) 0 [] := by
    rw [← hW0]
    refine MapAt.of_heap (w := (w.alloc _).alloc _) ?_ (Below.heap_alloc _ _ _ (by simp))
    have := MapAt.new Tryz.prog 169 (w.alloc (.cells #[.int .i64 b.lo, .int .i64 b.hi, .slice p b.ns.length c, .int .i64 kd.a, .int .i64 kd.b, .int .i64 kd.c, .int .i64 kd.d, .int .i64 kd.e] 119))
    rw [World.size_alloc] at this
    show MapAt _ _ _ _ _ (setF [])
    rw [setF_nil]; exact this
  have hb0 : Blk W0 (w.heap.size + 2) 179 #[.map (some (w.heap.size + 1))] := by rw [← hW0]; exact Blk.new (by simp)
  have hm0 : StAt W0 M n l := HM.out.below hB0
  clear hW0
  obtain ⟨W1, left, cnt, hrun, hit, hleft, hg, hz, hcn⟩ := MapAt.range hm0 key_state Tryz.underlying179
  have HB := Lib.hid hB0
  have HR0 := Lib.hid hr0
  rw [hz0] at hrun
  go_wp2_with fail
  refine wp_loop (RchI b p c kd k s M n l w) (rngM M (w.heap.size + 3)) ?start ?round
  case start =>
    have hM := HM.out.lt
    refine ⟨[], left, cnt, [], 0, _, _, _, _, _, _, _, _, _, _, _, _, _, _, _, rfl, by rw [hz0] at hit; exact hit, HR0.out.grown hg (by simp), (hg.block _ (by omega) (by simp)).trans hc0, (hg.block _ (by omega) (by simp)).trans hb0, HB.out.trans (Below.of_grown0 hg HB.out.size), Defs.nil _ _, fun st h => .inl ?_, by simp, by omega⟩
    rw [hleft _ _ (hst st h).i1 (hst st h).i2, setF_isSome]
    simpa using h
  case round =>
    clear hrun hit hleft hg hz hcn HR0 hr0 hc0 hb0 hm0 HB hB0
    rintro a wr ⟨Ds, left, cnt, dn, n', u8, u9, u13, u14, u15, u16, u17, u18, u19, u20, u21, u22, u23, u24, u25, rfl, hit, hR, hC, hb2, hB, hD, hl1, hl2, hcn⟩
    rcases hit.next key_state 0 with ⟨e0, e1, hnx⟩ | ⟨x, y, v, w1, cnt', hx, hy, hlxy, hfv, hnx, hit1, hlt, hg1, hz1, hen⟩
    · have hal : ∀ st ∈ l, st ∈ dn := fun st h => by
        rcases hl1 st h with h1 | h1
        · rw [e1 _ _ (hst st h).i1 (hst st h).i2] at h1; cases h1
        · exact h1
      have hR2 : StAt wr (w.heap.size + 1) n' (rchL b.ns k s l) := by
        have e : setF (rchL b.ns k s l) = setF (rchL b.ns k s dn) := setF_congr (fun q => by
          simp only [rchL, List.mem_flatMap]
          exact ⟨fun ⟨a, h1, h2⟩ => ⟨a, hal a h1, h2⟩, fun ⟨a, h1, h2⟩ => ⟨a, hl2 a h1, h2⟩⟩)
        show MapAt _ _ _ _ _ (setF _)
        rw [e]; exact hR
      have q0 := hb2.cell 0
      simp only [List.size_toArray, List.length_cons, List.length_nil, Nat.reduceAdd, Nat.reduceLT, getElem?_pos, List.getElem_toArray, List.getElem_cons_zero, List.getElem_cons_succ] at q0
      have HD := Lib.hid hD
      have HR2 := Lib.hid hR2
      have HB := Lib.hid hB
      have HIT := Lib.hid hit.ne
      have hbl := hb2.lt
      clear hD hR2 hB hit hR hC hb2 hl1 hl2 e1 hal
      go_wp2_with fail
      refine (show LeavesInM _ _ _ _ _ _ _ _ _ from HD.out.leave (fun w' h1 h2 h3 => ?_))
      exact ⟨_, results_tmp rfl _ _ _, w.heap.size + 1, n', rfl, by omega, by omega, HR2.out.bel (by omega) h1, HB.out.trans (h1.mono (by omega))⟩
    · obtain ⟨hmem, rfl⟩ := setF_some hfv
      obtain ⟨hx4, hy4⟩ := hst _ hmem
      dsimp only at hx4 hy4
      have hlw : w.heap.size + 3 < wr.heap.size := hit.lt
      have hP1 : PrivM (fun k => k = w.heap.size + 3) wr w1 := PrivM.of_grown hg1
      have hB1 : Below w.heap.size w w1 := hB.trans (Below.of_grown1 hg1 (by omega) (by omega))
      have hR1 : StAt w1 (w.heap.size + 1) n' (rchL b.ns k s dn) := hR.grown hg1 (by simp)
      have hC1 : Blk w1 w.heap.size 119 (catC b.lo b.hi p b.ns.length c kd) := (hP1.block _ hC.lt (by omega)).trans hC
      have hb1 : Blk w1 (w.heap.size + 2) 179 #[.map (some (w.heap.size + 1))] := (hP1.block _ hb2.lt (by omega)).trans hb2
      have hD1 : Defs (w.heap.size + 3) Ds w1 := hD.privM hP1 (fun D hD' e => by
        obtain ⟨_, _, _, _, hri⟩ := hit.isIter
        rw [← e, hD.is D hD'] at hri
        cases hri)
      have HL1 := Lib.hid (HL.out.below hB1)
      have q0 := hC1.cell 0
      have q1 := hC1.cell 1
      have q2 := hC1.cell 2
      have q3 := hC1.cell 3
      have q4 := hC1.cell 4
      have q5 := hC1.cell 5
      have q6 := hC1.cell 6
      have q7 := hC1.cell 7
      unfold catC at q0 q1 q2 q3 q4 q5 q6 q7
      simp only [List.size_toArray, List.length_cons, List.length_nil, Nat.reduceAdd, Nat.reduceLT, getElem?_pos, List.getElem_toArray, List.getElem_cons_zero, List.getElem_cons_succ] at q0 q1 q2 q3 q4 q5 q6 q7
      have hwl : w.heap.size < w1.heap.size := hC1.lt
      have hlw1 : w.heap.size + 3 < w1.heap.size := by omega
      have hwl2 : w.heap.size ≤ w1.heap.size := by omega
      have HD1 := Lib.hid hD1
      have HIT1 := Lib.hid hit1
      have HIT := Lib.hid hit
      have HB1 := Lib.hid hB1
      have HR1 := Lib.hid hR1
      have HC1 := Lib.hid hC1
      have Hb1 := Lib.hid hb1
      have HL1' := Lib.hid hl1
      have HL2' := Lib.hid hl2
      clear hit hR hC hb2 hB hD hl1 hl2 hg1 hP1 hB1 hR1 hC1 hb1 hD1 hit1 hfv hz1 hlw
      have hbz : 0 ≤ (befS b.ns k (x, y)).1 ∧ (befS b.ns k (x, y)).1 ≤ 400 := by
        have := afterH_bd hy4.1 (gapN b.ns k).toNat x hx4.1
        rw [befS_eq]; dsimp only; omega
      have hby : (befS b.ns k (x, y)).2 = y := rfl
      unfold key2 at hnx hen
      go_wp2_with (go_at_call 175; refine (claim_any b p c kd k s x y _ (HL1.out.below belA) hok hs hx4 hy4).mono ?_; rintro e w2 ⟨rfl, y0, rfl⟩)
      generalize hW2 : ext _ y0 = W2
      have hB2 : Below w1.heap.size w1 W2 := by rw [← hW2]; (exact belA)
      clear hW2 hnx hen q0 q1 q2 q3 q4 q5 q6 q7
      have HB2 := Lib.hid hB2
      have hz2 := hB2.size
      obtain ⟨hkn, -, hspn⟩ := hok.nt hs
      obtain ⟨sp1, sp2, sp3, sp4, sp5, sp6⟩ := hspn
      have hm4 : mostOf s.kind ≤ 400 := by unfold mostOf; split <;> (try split) <;> omega
      have hseq := behind_in s (befS b.ns k (x, y)).1 y (fun j => j = w.heap.size + 1 ∨ j = W2.heap.size + 1) W2 hkn ⟨sp1, sp5, by omega⟩ hbz hy4
      have hbl : behL s ((befS b.ns k (x, y)).1, y) = behL s (befS b.ns k (x, y)) := rfl
      rw [hbl] at hseq
      have hR2 := HR1.out.below hB2
      have hb2' := Hb1.out.bel hB2
      have hlM := hR2.lt
      have hlb := hb2'.lt
      have HR2 := Lib.hid hR2
      have Hb2 := Lib.hid hb2'
      have hlen13 := behL_len s (befS b.ns k (x, y)) sp6
      clear hB2 hR2 hb2'
      refine (wpIn_wide (n := 9)).1 ?_
      refine wpIn_rangeFunc_0 (gf := 176) (fb := #[.agg (clmC s (befS b.ns k (x, y)).1 y)]) (lb := #[]) rfl (enters_of Tryz.func176 (by kernel_rfl) rfl)
        (fun j => j = w.heap.size + 1) (fun j hj => by omega) hseq (Below.refl _ _) (fun _ => rfl)
        (fun pre A => (∃ n2 : Nat, n2 ≤ n' + pre.length ∧ StAt A (w.heap.size + 1) n2 (pre.reverse ++ rchL b.ns k s dn)) ∧ Blk A (w.heap.size + 2) 179 #[.map (some (w.heap.size + 1))])
        (fun c pre A => False)
        (fun pre z a' A => ∃ g : Nat, W2.heap.size + 2 ≤ g ∧ Blk A g 169 #[.int .i64 z.1, .int .i64 z.2] ∧ a' = { tmps := #[.agg (catC b.lo b.hi p b.ns.length c kd), .int .i64 k, .map (some M), .pointer (some ⟨w.heap.size, 0, none⟩), undef, undef, .map none, .pointer (some ⟨w.heap.size + 1 + 1, 0, none⟩), .pointer (some ⟨w1.heap.size, 0, none⟩), .pointer (some ⟨g, 0, none⟩), .map (some (w.heap.size + 1)), .map (some M), .pointer (some ⟨w.heap.size + 3, 0, none⟩), .tuple #[.bool true, .agg #[.int .i64 x, .int .i64 y], .bool true], .bool true, .tuple #[.agg #[.int .i64 x, .int .i64 y], .bool true], .agg #[.int .i64 x, .int .i64 y], .agg #[.int .i64 b.lo, .int .i64 b.hi, .slice p b.ns.length c, .int .i64 kd.a, .int .i64 kd.b, .int .i64 kd.c, .int .i64 kd.d, .int .i64 kd.e], .int .i64 k, .agg #[.int .i64 x, .int .i64 y], .agg (clmC s (befS b.ns k (x, y)).1 y), .func (.func 176) #[.agg (clmC s (befS b.ns k (x, y)).1 y)] #[], .agg #[.int .i64 z.1, .int .i64 z.2], u23, u24, u25], defers := [] })
        ?hI ?hIx ?hAx ?h0 ?hassign ?hbody ?hdone ?hstop
      case hI =>
        rintro pre A C ⟨⟨n2, j0, j1⟩, j2⟩ hz hp
        exact ⟨⟨n2, j0, j1.bel (by omega) hp⟩, (hp.block _ (by omega)).trans j2⟩
      case hIx => rintro c pre A C h; exact h.elim
      case hAx =>
        rintro pre z a' A C ⟨g, h1, h2, rfl⟩ hp
        exact ⟨g, h1, (hp.block _ h2.lt (by omega)).trans h2, rfl⟩
      case h0 =>
        intro W3 hb3
        exact ⟨⟨n', by simp, by simpa using HR2.out.bel (by omega) hb3⟩, (hb3.block _ (by omega)).trans Hb2.out⟩
      case hassign =>
        intro m l' pre z W' hz hsp hi'
        clear hseq
        dsimp only [encS, key2]
        gi_wp2_with fail
        exact ⟨⟨W'.heap.size, hz, Blk.new rfl, rfl⟩, by (exact belA)⟩
      case hbody =>
        rintro m l' pre z a' W' hz hpx ⟨⟨n2, j0, j1⟩, j2⟩ ⟨g, hgz, hbg, rfl⟩
        have hzm : z ∈ behL s (befS b.ns k (x, y)) := hpx.subset (by simp)
        have hpl : pre.length ≤ 13 := by
          have := hpx.length_le
          simp at this; omega
        have hzI : InI z.1 ∧ InI z.2 := by
          have h1 := behL_bd hkn ⟨sp1, sp2, sp3, sp4, sp5, sp6⟩ hbz.1 (by rw [hby]; exact hy4.1) hzm
          rw [hby] at h1
          exact ⟨inI (by omega) (by omega), inI (by omega) (by omega)⟩
        obtain ⟨w3, hst3, hm3, hg3⟩ := j1.store key_state Tryz.underlying179 (by unfold maxLen; omega) hzI.1 hzI.2 (.bool true)
        rw [setF_upd] at hm3
        have c0 := j2.cell 0
        have d0 := hbg.cell 0
        have d1 := hbg.cell 1
        have l0 := j2.lt
        have l1 := hbg.lt
        simp only [List.size_toArray, List.length_cons, List.length_nil, Nat.reduceAdd, Nat.reduceLT, getElem?_pos, List.getElem_toArray, List.getElem_cons_zero, List.getElem_cons_succ] at c0 d0 d1
        have J2 := Lib.hid j2
        have HM3 := Lib.hid hm3
        have HG3 := Lib.hid hg3
        unfold key2 at hst3
        clear hseq j1 j2 hbg hm3 hg3 hpx hzm
        gi_wp2_with fail
        refine ⟨PrivM.of_grown HG3.out, ⟨n2 + 1, by simp; omega, ?_⟩, (HG3.out.block _ (by omega) (by simp)).trans J2.out⟩
        rw [List.reverse_append]; exact HM3.out
      case hdone =>
        rintro D xs W' rfl hz rfl ⟨⟨n2, j0, j1⟩, j2⟩ hp hD'
        have hMw := HM.out.lt
        have hpB : Below (w.heap.size + 1) W2 W' := hp.below (by omega) (fun j hj => by omega)
        have hD2 : Defs (w.heap.size + 3) (W2.heap.size :: Ds) W' :=
          ((HD1.out.below HB2.out).privM hp (fun E hE e => by have := HD1.out.ge E hE; omega)).cons hD' (by omega) (fun hE => by have := HD1.out.lt hE; omega)
        have hitW : IterAt Tryz.prog 169 W' M (w.heap.size + 3) n (setF l) (fun x_1 y_1 => left x_1 y_1 && !(decide (x_1 = x) && decide (y_1 = y))) cnt' :=
          (HIT1.out.below (m := w1.heap.size) (by omega) (by omega) HB2.out).of_heap (hp.block _ (by omega) (by omega)) (hp.block _ (by omega) (by omega))
        have hRW : StAt W' (w.heap.size + 1) n2 (rchL b.ns k s ((x, y) :: dn)) := by
          have e : setF (rchL b.ns k s ((x, y) :: dn)) = setF ((behL s (befS b.ns k (x, y))).reverse ++ rchL b.ns k s dn) := setF_congr (fun q => by simp [rchL])
          show MapAt _ _ _ _ _ (setF _)
          rw [e]; exact j1
        have hCW : Blk W' w.heap.size 119 (catC b.lo b.hi p b.ns.length c kd) := (hpB.block _ (by omega)).trans (HC1.out.bel HB2.out)
        have hBW : Below w.heap.size w W' := HB1.out.trans ((HB2.out.mono (by omega)).trans (hpB.mono (by omega)))
        have HITW := Lib.hid hitW
        have HRW := Lib.hid hRW
        have HCW := Lib.hid hCW
        have HBW := Lib.hid hBW
        have HDW := Lib.hid hD2
        have HbW := Lib.hid j2
        have hlt2 : W'.rangeLeft M (w.heap.size + 3) < wr.rangeLeft M (w.heap.size + 3) := by

          rw [hitW.left_eq, HIT.out.left_eq]; exact hlt
        clear hseq hitW hRW hCW hBW hD2 j1 j2 hp hpB
        gi_wp2_with fail
        refine (show RchI b p c kd k s M n l w _ _ ∧ rngM M (w.heap.size + 3) _ _ < rngM M (w.heap.size + 3) _ _ from
          ⟨⟨W2.heap.size :: Ds, _, cnt', (x, y) :: dn, n2, _, _, _, _, _, _, _, _, _, _, _, _, _, _, _, rfl, HITW.out, HRW.out, HCW.out, HbW.out, HBW.out, HDW.out, ?_, ?_, ?_⟩, hlt2⟩)
        · intro st hs2
          rcases HL1'.out st hs2 with h1 | h1
          · by_cases he : st = (x, y)
            · subst he; exact .inr (by simp)
            · refine .inl ?_
              rw [h1]
              simp only [Bool.true_and, Bool.not_eq_true', Bool.and_eq_false_iff, decide_eq_false_iff_not]
              by_cases h2 : st.1 = x
              · exact .inr (fun h3 => he (Prod.ext h2 h3))
              · exact .inl h2
          · exact .inr (List.mem_cons_of_mem _ h1)
        · intro st hs2
          rcases List.mem_cons.1 hs2 with rfl | h1
          · exact hmem
          · exact HL2'.out st h1
        · omega
      case hstop =>
        rintro D c pre W' rfl hz hSp h hp hD'
        exact h.elim
end Go.Proofs.YtcaeohgbgeadaaaGreatDoor

namespace Go.Proofs.YtcaeohgbgeadaaaGreatDoor
open Go Go.RowKit Go.Shelf

/-- Those of some states from which a note can be right, so that it leads to one of others. -/
def leadB (ns : List Nt) (k : Nat) (s : Nt) (ot : List (Int × Int)) (st : Int × Int) : Bool := (behL s (befS ns k st)).any fun z => decide (z ∈ ot)
def leadL (ns : List Nt) (k : Nat) (s : Nt) (l ot : List (Int × Int)) : List (Int × Int) := l.filter (leadB ns k s ot)
/-- What holds before a round. -/
def LdgI (b : Sn) (p : Option Addr) (c : Nat) (kd : Kd) (k : Nat) (s : Nt) (M Mo n no : Nat) (l ot : List (Int × Int)) (w : World) : Act → World → Prop := fun a wr =>
  ∃ (Ds : List Nat) (left : Int → Int → Bool) (cnt : Nat) (dn : List (Int × Int)) (n' : Nat) (u10 u11 u15 u16 u17 u18 u19 u20 u21 u22 u23 u24 u25 u26 u27 u28 u29 u30 : Value),
    a = { tmps := #[.agg (catC b.lo b.hi p b.ns.length c kd), .int .i64 k, .map (some M), .map (some Mo), .pointer (some ⟨w.heap.size, 0, none⟩), undef, undef, .pointer (some ⟨w.heap.size + 1, 0, none⟩), .map none, .pointer (some ⟨w.heap.size + 1 + 1 + 1, 0, none⟩), u10, u11, .map (some (w.heap.size + 1 + 1)), .map (some M), .pointer (some ⟨w.heap.size + 4, 0, none⟩), u15, u16, u17, u18, u19, u20, u21, u22, u23, u24, u25, u26, u27, u28, u29, u30], defers := Ds.map coll } ∧
    IterAt Tryz.prog 169 wr M (w.heap.size + 4) n (setF l) left cnt ∧ StAt wr (w.heap.size + 2) n' (leadL b.ns k s dn ot) ∧ Blk wr w.heap.size 119 (catC b.lo b.hi p b.ns.length c kd) ∧ Blk wr (w.heap.size + 1) 179 #[.map (some Mo)] ∧
    Blk wr (w.heap.size + 3) 179 #[.map (some (w.heap.size + 2))] ∧ Below w.heap.size w wr ∧ Defs (w.heap.size + 4) Ds wr ∧ (∀ st ∈ l, left st.1 st.2 = true ∨ st ∈ dn) ∧ (∀ st ∈ dn, st ∈ l) ∧ n' + cnt ≤ n
theorem zero_bool (w : World) : (zeroValue 4).run Tryz.prog w = .ok (.bool false) w := by kernel_rfl
attribute [local go_sem] Oper.semAt_some frozen_alloc_lt
set_option maxHeartbeats 4000000 in
theorem leading_any (b : Sn) (p : Option Addr) (c : Nat) (kd : Kd) (k : Nat) (s : Nt) (M Mo n no : Nat) (l ot : List (Int × Int)) (w : World) (hl : NotesAt w p b.ns) (hok : Ok9 b) (hs : b.ns[k]? = some s) (hm : StAt w M n l) (hmo : StAt w Mo no ot) (hst : ∀ st ∈ l, StB st) (hn : n ≤ 100000000000000) :
    Calls Tryz.prog 140 #[.agg (catC b.lo b.hi p b.ns.length c kd), .int .i64 k, .map (some M), .map (some Mo)] w fun e w' => ∃ M' n' : Nat, e = .returned (.map (some M')) ∧ w.heap.size ≤ M' ∧ n' ≤ n ∧ StAt w' M' n' (leadL b.ns k s l ot) ∧ Below w.heap.size w w' := by
  refine (callsIn_wide (n := 9)).1 ?_
  have HL := Lib.hid hl
  have HM := Lib.hid hm
  have HMo := Lib.hid hmo
  clear hl hm hmo
  refine callsIn_of_wp_marks Tryz.func140 rfl trivial ?_ rfl
  simp only [Tryz.ntmps140, List.size_toArray, List.length_cons, List.length_nil, Nat.reduceAdd, Nat.reduceSub, Array.replicate_succ, Array.replicate_zero, List.push_toArray, List.append_toArray, List.nil_append, List.cons_append]
  refine wpIn_wide.2 ?_
  unfold catC
  have hmm := @run_makeMap Tryz.prog
  go_wp2_with fail
  apply wp_scope_straight
  go_upto_region 2 with fail
  clear hmm
  generalize hW0 : (((w.alloc _).alloc _).alloc _).alloc _ = W0
  have hB0 : Below w.heap.size w W0 := by rw [← hW0]; (exact belA)
  have hz0 : W0.heap.size = w.heap.size + 4 := by rw [← hW0]; simp
  have hc0 : Blk W0 w.heap.size 119 (catC b.lo b.hi p b.ns.length c kd) := by rw [← hW0]; exact (((Blk.new rfl).alloc _).alloc _).alloc _
  have ho0 : Blk W0 (w.heap.size + 1) 179 #[.map (some Mo)] := by rw [← hW0]; exact ((Blk.new (by simp)).alloc _).alloc _
  have hr0 : StAt W0 (w.heap.size + 2) 0 [] := by
    rw [← hW0]
    refine MapAt.of_heap (w := ((w.alloc _).alloc _).alloc _) ?_ (Below.heap_alloc _ _ _ (by simp))
    have := MapAt.new Tryz.prog 169 ((w.alloc (.cells #[.int .i64 b.lo, .int .i64 b.hi, .slice p b.ns.length c, .int .i64 kd.a, .int .i64 kd.b, .int .i64 kd.c, .int .i64 kd.d, .int .i64 kd.e] 119)).alloc (.cells #[.map (some Mo)] 179))
    rw [World.size_alloc, World.size_alloc] at this
    show MapAt _ _ _ _ _ (setF [])
    rw [setF_nil]; exact this
  have hb0 : Blk W0 (w.heap.size + 3) 179 #[.map (some (w.heap.size + 2))] := by rw [← hW0]; exact Blk.new (by simp)
  have hm0 : StAt W0 M n l := HM.out.below hB0
  clear hW0
  obtain ⟨W1, left, cnt, hrun, hit, hleft, hg, hz, hcn⟩ := MapAt.range hm0 key_state Tryz.underlying179
  have HB := Lib.hid hB0
  have HR0 := Lib.hid hr0
  rw [hz0] at hrun
  go_wp2_with fail
  apply wp_label
  go_wp2_with fail
  refine wp_loop (LdgI b p c kd k s M Mo n no l ot w) (rngM M (w.heap.size + 4)) ?start ?round
  case start =>
    have hM := HM.out.lt
    refine ⟨[], left, cnt, [], 0, _, _, _, _, _, _, _, _, _, _, _, _, _, _, _, _, _, _, rfl, by rw [hz0] at hit; exact hit, HR0.out.grown hg (by simp), (hg.block _ (by omega) (by simp)).trans hc0, (hg.block _ (by omega) (by simp)).trans ho0, (hg.block _ (by omega) (by simp)).trans hb0, HB.out.trans (Below.of_grown0 hg HB.out.size), Defs.nil _ _, fun st h => .inl ?_, by simp, by omega⟩
    rw [hleft _ _ (hst st h).i1 (hst st h).i2, setF_isSome]
    simpa using h
  case round =>
    clear hrun hit hleft hg hz hcn HR0 hr0 hc0 hb0 hm0 HB hB0 ho0
    rintro a wr ⟨Ds, left, cnt, dn, n', u10, u11, u15, u16, u17, u18, u19, u20, u21, u22, u23, u24, u25, u26, u27, u28, u29, u30, rfl, hit, hR, hC, ho2, hb2, hB, hD, hl1, hl2, hcn⟩
    rcases hit.next key_state 0 with ⟨e0, e1, hnx⟩ | ⟨x, y, v, w1, cnt', hx, hy, hlxy, hfv, hnx, hit1, hlt, hg1, hz1, hen⟩
    · have hal : ∀ st ∈ l, st ∈ dn := fun st h => by
        rcases hl1 st h with h1 | h1
        · rw [e1 _ _ (hst st h).i1 (hst st h).i2] at h1; cases h1
        · exact h1
      have hR2 : StAt wr (w.heap.size + 2) n' (leadL b.ns k s l ot) := by
        have e : setF (leadL b.ns k s l ot) = setF (leadL b.ns k s dn ot) := setF_congr (fun q => by
          simp only [leadL, List.mem_filter]
          exact ⟨fun ⟨h1, h2⟩ => ⟨hal q h1, h2⟩, fun ⟨h1, h2⟩ => ⟨hl2 q h1, h2⟩⟩)
        show MapAt _ _ _ _ _ (setF _)
        rw [e]; exact hR
      have q0 := hb2.cell 0
      simp only [List.size_toArray, List.length_cons, List.length_nil, Nat.reduceAdd, Nat.reduceLT, getElem?_pos, List.getElem_toArray, List.getElem_cons_zero, List.getElem_cons_succ] at q0
      have HD := Lib.hid hD
      have HR2 := Lib.hid hR2
      have HB := Lib.hid hB
      have hbl := hb2.lt
      clear hD hR2 hB hit hR hC hb2 hl1 hl2 e1 hal ho2
      go_wp2_with fail
      refine (show LeavesInM _ _ _ _ _ _ _ _ _ from HD.out.leave (fun w' h1 h2 h3 => ?_))
      exact ⟨_, results_tmp rfl _ _ _, w.heap.size + 2, n', rfl, by omega, by omega, HR2.out.bel (by omega) h1, HB.out.trans (h1.mono (by omega))⟩
    · obtain ⟨hmem, rfl⟩ := setF_some hfv
      obtain ⟨hx4, hy4⟩ := hst _ hmem
      dsimp only at hx4 hy4
      have hlw : w.heap.size + 4 < wr.heap.size := hit.lt
      have hP1 : PrivM (fun k => k = w.heap.size + 4) wr w1 := PrivM.of_grown hg1
      have hB1 : Below w.heap.size w w1 := hB.trans (Below.of_grown1 hg1 (by omega) (by omega))
      have hR1 : StAt w1 (w.heap.size + 2) n' (leadL b.ns k s dn ot) := hR.grown hg1 (by simp)
      have hC1 : Blk w1 w.heap.size 119 (catC b.lo b.hi p b.ns.length c kd) := (hP1.block _ hC.lt (by omega)).trans hC
      have ho1 : Blk w1 (w.heap.size + 1) 179 #[.map (some Mo)] := (hP1.block _ ho2.lt (by omega)).trans ho2
      have hb1 : Blk w1 (w.heap.size + 3) 179 #[.map (some (w.heap.size + 2))] := (hP1.block _ hb2.lt (by omega)).trans hb2
      have hD1 : Defs (w.heap.size + 4) Ds w1 := hD.privM hP1 (fun D hD' e => by
        obtain ⟨_, _, _, _, hri⟩ := hit.isIter
        rw [← e, hD.is D hD'] at hri
        cases hri)
      have HL1 := Lib.hid (HL.out.below hB1)
      have q0 := hC1.cell 0
      have q1 := hC1.cell 1
      have q2 := hC1.cell 2
      have q3 := hC1.cell 3
      have q4 := hC1.cell 4
      have q5 := hC1.cell 5
      have q6 := hC1.cell 6
      have q7 := hC1.cell 7
      unfold catC at q0 q1 q2 q3 q4 q5 q6 q7
      simp only [List.size_toArray, List.length_cons, List.length_nil, Nat.reduceAdd, Nat.reduceLT, getElem?_pos, List.getElem_toArray, List.getElem_cons_zero, List.getElem_cons_succ] at q0 q1 q2 q3 q4 q5 q6 q7
      have hwl : w.heap.size < w1.heap.size := hC1.lt
      have hlw1 : w.heap.size + 4 < w1.heap.size := by omega
      have hwl2 : w.heap.size ≤ w1.heap.size := by omega
      have HD1 := Lib.hid hD1
      have HIT1 := Lib.hid hit1
      have HIT := Lib.hid hit
      have HB1 := Lib.hid hB1
      have HR1 := Lib.hid hR1
      have HC1 := Lib.hid hC1
      have Hb1 := Lib.hid hb1
      have Ho1 := Lib.hid ho1
      have HL1' := Lib.hid hl1
      have HL2' := Lib.hid hl2
      clear hit hR hC hb2 hB hD hl1 hl2 hg1 hP1 hB1 hR1 hC1 hb1 hD1 hit1 hfv hz1 hlw ho1 ho2
      have hbz : 0 ≤ (befS b.ns k (x, y)).1 ∧ (befS b.ns k (x, y)).1 ≤ 400 := by
        have := afterH_bd hy4.1 (gapN b.ns k).toNat x hx4.1
        rw [befS_eq]; dsimp only; omega
      have hby : (befS b.ns k (x, y)).2 = y := rfl
      unfold key2 at hnx hen
      go_wp2_with (go_at_call 175; refine (claim_any b p c kd k s x y _ (HL1.out.below belA) hok hs hx4 hy4).mono ?_; rintro e w2 ⟨rfl, y0, rfl⟩)
      generalize hW2 : ext _ y0 = W2
      have hB2 : Below w1.heap.size w1 W2 := by rw [← hW2]; (exact belA)
      have hfr0 : W2.cell? ⟨w1.heap.size, 0, none⟩ = some (.int .i64 x) := by rw [← hW2, ext_cell _ _ _ _ (by simp), new_cell _ _ _ _ _ rfl]; rfl
      have hfr1 : W2.cell? ⟨w1.heap.size, 1, none⟩ = some (.int .i64 y) := by rw [← hW2, ext_cell _ _ _ _ (by simp), new_cell _ _ _ _ _ rfl]; rfl
      have hfrl : w1.heap.size < W2.heap.size := by rw [← hW2]; have := (below_ext (w1.alloc (.cells #[.int .i64 x, .int .i64 y] 169)) y0).size; simp at this; omega
      clear hW2 hnx hen q0 q1 q2 q3 q4 q5 q6 q7
      have HB2 := Lib.hid hB2
      have hz2 := hB2.size
      obtain ⟨hkn, -, hspn⟩ := hok.nt hs
      obtain ⟨sp1, sp2, sp3, sp4, sp5, sp6⟩ := hspn
      have hm4 : mostOf s.kind ≤ 400 := by unfold mostOf; split <;> (try split) <;> omega
      have hseq := behind_in s (befS b.ns k (x, y)).1 y (fun j => j = w.heap.size + 2 ∨ j = W2.heap.size + 1) W2 hkn ⟨sp1, sp5, by omega⟩ hbz hy4
      have hbl : behL s ((befS b.ns k (x, y)).1, y) = behL s (befS b.ns k (x, y)) := rfl
      rw [hbl] at hseq
      have hR2 := HR1.out.below hB2
      have hb2' := Hb1.out.bel hB2
      have ho2' := Ho1.out.bel hB2
      have hMo2 := (HMo.out.below HB1.out).below hB2
      have hlMo := HMo.out.lt
      have hlM := hR2.lt
      have hlb := hb2'.lt
      have HR2 := Lib.hid hR2
      have Hb2 := Lib.hid hb2'
      have Ho2 := Lib.hid ho2'
      have HMo2 := Lib.hid hMo2
      clear hB2 hR2 hb2' ho2' hMo2
      refine (wpIn_wide (n := 9)).1 ?_
      refine wpIn_rangeFunc_0 (gf := 176) (fb := #[.agg (clmC s (befS b.ns k (x, y)).1 y)]) (lb := #[]) rfl (enters_of Tryz.func176 (by kernel_rfl) rfl)
        (fun j => j = w.heap.size + 2) (fun j hj => by omega) hseq (Below.refl _ _) (fun _ => rfl)
        (fun pre A => (∀ z ∈ pre, z ∉ ot) ∧ A.heap[w.heap.size + 2]? = W2.heap[w.heap.size + 2]? ∧ StAt A Mo no ot ∧ Blk A (w.heap.size + 1) 179 #[.map (some Mo)] ∧ Blk A (w.heap.size + 3) 179 #[.map (some (w.heap.size + 2))] ∧ A.cell? ⟨w1.heap.size, 0, none⟩ = some (.int .i64 x) ∧ A.cell? ⟨w1.heap.size, 1, none⟩ = some (.int .i64 y))
        (fun c pre A => c = .exit 1 ∧ (∃ z ∈ pre, z ∈ ot) ∧ StAt A (w.heap.size + 2) (n' + 1) ((x, y) :: leadL b.ns k s dn ot))
        (fun pre z a' A => ∃ g : Nat, W2.heap.size + 2 ≤ g ∧ Blk A g 169 #[.int .i64 z.1, .int .i64 z.2] ∧ a' = { tmps := #[.agg (catC b.lo b.hi p b.ns.length c kd), .int .i64 k, .map (some M), .map (some Mo), .pointer (some ⟨w.heap.size, 0, none⟩), undef, undef, .pointer (some ⟨w.heap.size + 1, 0, none⟩), .map none, .pointer (some ⟨w.heap.size + 1 + 1 + 1, 0, none⟩), .pointer (some ⟨w1.heap.size, 0, none⟩), .pointer (some ⟨g, 0, none⟩), .map (some (w.heap.size + 1 + 1)), .map (some M), .pointer (some ⟨w.heap.size + 4, 0, none⟩), .tuple #[.bool true, .agg #[.int .i64 x, .int .i64 y], .bool true], .bool true, .tuple #[.agg #[.int .i64 x, .int .i64 y], .bool true], .agg #[.int .i64 x, .int .i64 y], .agg #[.int .i64 b.lo, .int .i64 b.hi, .slice p b.ns.length c, .int .i64 kd.a, .int .i64 kd.b, .int .i64 kd.c, .int .i64 kd.d, .int .i64 kd.e], .int .i64 k, .agg #[.int .i64 x, .int .i64 y], .agg (clmC s (befS b.ns k (x, y)).1 y), .func (.func 176) #[.agg (clmC s (befS b.ns k (x, y)).1 y)] #[], .agg #[.int .i64 z.1, .int .i64 z.2], u25, u26, u27, u28, u29, u30], defers := [] })
        ?hI ?hIx ?hAx ?h0 ?hassign ?hbody ?hdone ?hstop
      case hI =>
        rintro pre A C ⟨j0, j1, j2, j3, j4, j5, j6⟩ hz hp
        exact ⟨j0, (hp.block _ (by omega)).trans j1, j2.bel (by omega) hp, (hp.block _ (by omega)).trans j3, (hp.block _ (by omega)).trans j4, (hp.cell (p := ⟨w1.heap.size, 0, none⟩) hfrl).trans j5, (hp.cell (p := ⟨w1.heap.size, 1, none⟩) hfrl).trans j6⟩
      case hIx =>
        rintro c pre A C ⟨rfl, j0, j1⟩ hz hp
        exact ⟨rfl, j0, j1.bel (by omega) hp⟩
      case hAx =>
        rintro pre z a' A C ⟨g, h1, h2, rfl⟩ hp
        exact ⟨g, h1, (hp.block _ h2.lt (by omega)).trans h2, rfl⟩
      case h0 =>
        intro W3 hb3
        exact ⟨by simp, hb3.block _ (by omega), HMo2.out.bel (by omega) hb3, (hb3.block _ (by omega)).trans Ho2.out, (hb3.block _ (by omega)).trans Hb2.out, (hb3.cell (p := ⟨w1.heap.size, 0, none⟩) hfrl).trans hfr0, (hb3.cell (p := ⟨w1.heap.size, 1, none⟩) hfrl).trans hfr1⟩
      case hassign =>
        intro m l' pre z W' hz hsp hi'
        clear hseq
        dsimp only [encS, key2]
        gi_wp2_with fail
        exact ⟨⟨W'.heap.size, hz, Blk.new rfl, rfl⟩, by (exact belA)⟩
      case hbody =>
        rintro m l' pre z a' W' hz hpx ⟨j0, j1, j2, j3, j4, j5, j6⟩ ⟨g, hgz, hbg, rfl⟩
        have hzm : z ∈ behL s (befS b.ns k (x, y)) := hpx.subset (by simp)
        have hzI : InI z.1 ∧ InI z.2 := by
          have h1 := behL_bd hkn ⟨sp1, sp2, sp3, sp4, sp5, sp6⟩ hbz.1 (by rw [hby]; exact hy4.1) hzm
          rw [hby] at h1
          exact ⟨inI (by omega) (by omega), inI (by omega) (by omega)⟩
        have hlk := j2.look key_state Tryz.underlying179 (z := .bool false) zero_bool hzI.1 hzI.2
        rw [setF_getD] at hlk
        have c0 := j3.cell 0
        have c1 := j4.cell 0
        have d0 := hbg.cell 0
        have d1 := hbg.cell 1
        have l0 := j3.lt
        have l1 := hbg.lt
        have l2 := j4.lt
        simp only [List.size_toArray, List.length_cons, List.length_nil, Nat.reduceAdd, Nat.reduceLT, getElem?_pos, List.getElem_toArray, List.getElem_cons_zero, List.getElem_cons_succ] at c0 c1 d0 d1
        have hR3 : StAt W' (w.heap.size + 2) n' (leadL b.ns k s dn ot) := HR2.out.of_heap j1
        have hxI : InI x ∧ InI y := ⟨hx, hy⟩
        obtain ⟨w3, hst3, hm3, hg3⟩ := hR3.store key_state Tryz.underlying179 (by unfold maxLen; omega) hx hy (.bool true)
        rw [setF_upd] at hm3
        have hfl : w1.heap.size < W'.heap.size := by omega
        unfold key2 at hst3 hlk
        have J0 := Lib.hid j0
        have J1 := Lib.hid j1
        have J2 := Lib.hid j2
        have J3 := Lib.hid j3
        have J4 := Lib.hid j4
        have HM3 := Lib.hid hm3
        have HG3 := Lib.hid hg3
        by_cases hin : z ∈ ot
        · have hz2 : decide ((z.1, z.2) ∈ ot) = true := by simpa using hin
          rw [hz2] at hlk
          clear hseq j0 j1 j2 j3 j4 hbg hm3 hg3 hpx hzm hR3 hz2
          gi_wp2_with fail
          exact ⟨PrivM.of_grown HG3.out, rfl, ⟨z, by simp, hin⟩, HM3.out⟩
        · have hz2 : decide ((z.1, z.2) ∈ ot) = false := by simpa using hin
          rw [hz2] at hlk
          clear hseq j0 j1 j2 j3 j4 hbg hm3 hg3 hpx hzm hR3 hz2 hst3
          gi_wp2_with fail
          refine ⟨PrivM.refl _ _, fun z' hz' => ?_, J1.out, J2.out, J3.out, J4.out, j5, j6⟩
          rcases List.mem_append.1 hz' with h | h
          · exact J0.out z' h
          · rw [List.mem_singleton.1 h]; exact hin
      case hdone =>
        rintro D xs W' rfl hz rfl ⟨j0, j1, j2, j3, j4, j5, j6⟩ hp hD'
        have hRW : StAt W' (w.heap.size + 2) n' (leadL b.ns k s ((x, y) :: dn) ot) := by
          have e : leadL b.ns k s ((x, y) :: dn) ot = leadL b.ns k s dn ot := by
            unfold leadL
            rw [List.filter_cons_of_neg]
            simp only [leadB, List.any_eq_true, decide_eq_true_eq, not_exists, not_and]
            exact j0
          rw [e]; exact HR2.out.of_heap j1
        clear j0 j1 j2 j3 j4 j5 j6
        have hMw := HM.out.lt
        have hpB : Below (w.heap.size + 2) W2 W' := hp.below (by omega) (fun j hj => by omega)
        have hD2 : Defs (w.heap.size + 4) (W2.heap.size :: Ds) W' :=
          ((HD1.out.below HB2.out).privM hp (fun E hE e => by have := HD1.out.ge E hE; omega)).cons hD' (by omega) (fun hE => by have := HD1.out.lt hE; omega)
        have hitW : IterAt Tryz.prog 169 W' M (w.heap.size + 4) n (setF l) (fun x_1 y_1 => left x_1 y_1 && !(decide (x_1 = x) && decide (y_1 = y))) cnt' :=
          (HIT1.out.below (m := w1.heap.size) (by omega) (by omega) HB2.out).of_heap (hp.block _ (by omega) (by omega)) (hp.block _ (by omega) (by omega))
        have hCW : Blk W' w.heap.size 119 (catC b.lo b.hi p b.ns.length c kd) := (hpB.block _ (by omega)).trans (HC1.out.bel HB2.out)
        have hoW : Blk W' (w.heap.size + 1) 179 #[.map (some Mo)] := (hpB.block _ (by omega)).trans Ho2.out
        have hbW : Blk W' (w.heap.size + 3) 179 #[.map (some (w.heap.size + 2))] := (hp.block _ (by omega) (by omega)).trans Hb2.out
        have hBW : Below w.heap.size w W' := HB1.out.trans ((HB2.out.mono (by omega)).trans (hpB.mono (by omega)))
        have HITW := Lib.hid hitW
        have HRW := Lib.hid hRW
        have HCW := Lib.hid hCW
        have HOW := Lib.hid hoW
        have HBW := Lib.hid hBW
        have HDW := Lib.hid hD2
        have HbW := Lib.hid hbW
        have hlt2 : W'.rangeLeft M (w.heap.size + 4) < wr.rangeLeft M (w.heap.size + 4) := by
          rw [hitW.left_eq, HIT.out.left_eq]; exact hlt
        clear hseq hitW hRW hCW hBW hD2 hp hpB hoW hbW
        gi_wp2_with fail
        refine (show LdgI b p c kd k s M Mo n no l ot w _ _ ∧ rngM M (w.heap.size + 4) _ _ < rngM M (w.heap.size + 4) _ _ from
          ⟨⟨W2.heap.size :: Ds, _, cnt', (x, y) :: dn, n', _, _, _, _, _, _, _, _, _, _, _, _, _, _, _, _, _, _, rfl, HITW.out, HRW.out, HCW.out, HOW.out, HbW.out, HBW.out, HDW.out, ?_, ?_, ?_⟩, hlt2⟩)
        · intro st hs2
          rcases HL1'.out st hs2 with h1 | h1
          · by_cases he : st = (x, y)
            · subst he; exact .inr (by simp)
            · refine .inl ?_
              rw [h1]
              simp only [Bool.true_and, Bool.not_eq_true', Bool.and_eq_false_iff, decide_eq_false_iff_not]
              by_cases h2 : st.1 = x
              · exact .inr (fun h3 => he (Prod.ext h2 h3))
              · exact .inl h2
          · exact .inr (List.mem_cons_of_mem _ h1)
        · intro st hs2
          rcases List.mem_cons.1 hs2 with rfl | h1
          · exact hmem
          · exact HL2'.out st h1
        · omega
      case hstop =>
        rintro D c pre W' rfl hz hSp ⟨rfl, ⟨z0, hz0, hz1⟩, j1⟩ hp hD'
        have hRW : StAt W' (w.heap.size + 2) (n' + 1) (leadL b.ns k s ((x, y) :: dn) ot) := by
          have e : leadL b.ns k s ((x, y) :: dn) ot = (x, y) :: leadL b.ns k s dn ot := by
            unfold leadL
            rw [List.filter_cons_of_pos]
            simp only [leadB, List.any_eq_true, decide_eq_true_eq]
            exact ⟨z0, hSp.subset hz0, hz1⟩
          rw [e]; exact j1
        clear j1 hz0 hz1
        have hMw := HM.out.lt
        have hpB : Below (w.heap.size + 2) W2 W' := hp.below (by omega) (fun j hj => by omega)
        have hD2 : Defs (w.heap.size + 4) (W2.heap.size :: Ds) W' :=
          ((HD1.out.below HB2.out).privM hp (fun E hE e => by have := HD1.out.ge E hE; omega)).cons hD' (by omega) (fun hE => by have := HD1.out.lt hE; omega)
        have hitW : IterAt Tryz.prog 169 W' M (w.heap.size + 4) n (setF l) (fun x_1 y_1 => left x_1 y_1 && !(decide (x_1 = x) && decide (y_1 = y))) cnt' :=
          (HIT1.out.below (m := w1.heap.size) (by omega) (by omega) HB2.out).of_heap (hp.block _ (by omega) (by omega)) (hp.block _ (by omega) (by omega))
        have hCW : Blk W' w.heap.size 119 (catC b.lo b.hi p b.ns.length c kd) := (hpB.block _ (by omega)).trans (HC1.out.bel HB2.out)
        have hoW : Blk W' (w.heap.size + 1) 179 #[.map (some Mo)] := (hpB.block _ (by omega)).trans Ho2.out
        have hbW : Blk W' (w.heap.size + 3) 179 #[.map (some (w.heap.size + 2))] := (hp.block _ (by omega) (by omega)).trans Hb2.out
        have hBW : Below w.heap.size w W' := HB1.out.trans ((HB2.out.mono (by omega)).trans (hpB.mono (by omega)))
        have HITW := Lib.hid hitW
        have HRW := Lib.hid hRW
        have HCW := Lib.hid hCW
        have HOW := Lib.hid hoW
        have HBW := Lib.hid hBW
        have HDW := Lib.hid hD2
        have HbW := Lib.hid hbW
        have hlt2 : W'.rangeLeft M (w.heap.size + 4) < wr.rangeLeft M (w.heap.size + 4) := by
          rw [hitW.left_eq, HIT.out.left_eq]; exact hlt
        clear hseq hitW hRW hCW hBW hD2 hp hpB hoW hbW
        gi_wp2_with fail
        refine (show LdgI b p c kd k s M Mo n no l ot w _ _ ∧ rngM M (w.heap.size + 4) _ _ < rngM M (w.heap.size + 4) _ _ from
          ⟨⟨W2.heap.size :: Ds, _, cnt', (x, y) :: dn, n' + 1, _, _, _, _, _, _, _, _, _, _, _, _, _, _, _, _, _, _, rfl, HITW.out, HRW.out, HCW.out, HOW.out, HbW.out, HBW.out, HDW.out, ?_, ?_, ?_⟩, hlt2⟩)
        · intro st hs2
          rcases HL1'.out st hs2 with h1 | h1
          · by_cases he : st = (x, y)
            · subst he; exact .inr (by simp)
            · refine .inl ?_
              rw [h1]
              simp only [Bool.true_and, Bool.not_eq_true', Bool.and_eq_false_iff, decide_eq_false_iff_not]
              by_cases h2 : st.1 = x
              · exact .inr (fun h3 => he (Prod.ext h2 h3))
              · exact .inl h2
          · exact .inr (List.mem_cons_of_mem _ h1)
        · intro st hs2
          rcases List.mem_cons.1 hs2 with rfl | h1
          · exact hmem
          · exact HL2'.out st h1
        · omega
end Go.Proofs.YtcaeohgbgeadaaaGreatDoor

