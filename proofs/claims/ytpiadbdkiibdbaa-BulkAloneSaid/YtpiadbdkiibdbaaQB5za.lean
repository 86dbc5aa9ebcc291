/- Contracts of package bulk: how far the ends of all fish are apart at the worst, and with which kind the least. Written by gen_b5za.py. -/
import Derived.Test.YtpiadbdkiibdbaaQB5z
set_option linter.unusedSimpArgs false
set_option linter.unusedVariables false
namespace Go.Proofs.Ytpiadbdkiibdbaa
open Go Go.RowKit Go.Shelf
attribute [local go_sem] Oper.semAt_some frozen_alloc_lt
/-- How far the ends of all fish are apart at most, if measures of a kind hold one of some numbers. -/
structure WorstIs (b : Ck) (k : Nat) (l : List Int) (v : Int) : Prop where
  pos : 0 ≤ v
  some : v = 0 ∨ ∃ x ∈ l, ∃ lo hi, EndsC (knownC b k x) (gSum .fish 0 b.ls.length) lo hi ∧ v = hi - lo
  all : ∀ x ∈ l, ∀ lo hi, EndsC (knownC b k x) (gSum .fish 0 b.ls.length) lo hi → hi - lo ≤ v
theorem WorstIs.start (b : Ck) (k : Nat) : WorstIs b k [] 0 := ⟨Int.le_refl _, .inl rfl, fun x h => by simp at h⟩
theorem EndsC.right {b : Ck} {g : Ms → List (Int × Int) → Int} {lo hi : Int} (h : EndsC b g lo hi) : rightC b = true := by
  obtain ⟨m, L, h, -⟩ := h.low
  exact rightC_iff.2 ⟨m, L, h⟩
theorem WorstIs.no {b : Ck} {k : Nat} {l : List Int} {v x : Int} (h : WorstIs b k l v) (hr : rightC (knownC b k x) = false) : WorstIs b k (l ++ [x]) v := by
  refine ⟨h.pos, h.some.imp id (fun ⟨y, hy, r⟩ => ⟨y, by simp [hy], r⟩), fun y hy lo hi he => ?_⟩
  rcases List.mem_append.1 hy with h1 | h1
  · exact h.all y h1 lo hi he
  · rw [List.mem_singleton.1 h1] at he
    rw [he.right] at hr; cases hr
theorem WorstIs.yes {b : Ck} {k : Nat} {l : List Int} {v x lo hi : Int} (h : WorstIs b k l v) (he : EndsC (knownC b k x) (gSum .fish 0 b.ls.length) lo hi) : WorstIs b k (l ++ [x]) (max v (hi - lo)) := by
  have hp := h.pos
  refine ⟨by omega, ?_, fun y hy lo' hi' he' => ?_⟩
  · by_cases hc : hi - lo ≤ v
    · rw [Int.max_eq_left hc]
      exact h.some.imp id (fun ⟨y, hy, r⟩ => ⟨y, by simp [hy], r⟩)
    · rw [Int.max_eq_right (by omega)]
      exact .inr ⟨x, by simp, lo, hi, he, rfl⟩
  · rcases List.mem_append.1 hy with h1 | h1
    · have := h.all y h1 lo' hi' he'
      omega
    · rw [List.mem_singleton.1 h1] at he'
      have := he.uniq he'
      omega
theorem WorstIs.uniq {b : Ck} {k : Nat} {l : List Int} {v v' : Int} (h : WorstIs b k l v) (h' : WorstIs b k l v') : v = v' := by
  have key : ∀ {a c : Int}, WorstIs b k l a → WorstIs b k l c → a ≤ c := fun {a c} h h' => by
    rcases h.some with e | ⟨x, hx, lo, hi, he, e⟩
    · have := h'.pos; omega
    · have := h'.all x hx lo hi he; omega
  have := key h h'
  have := key h' h
  omega
theorem known_ls (b : Ck) (k : Nat) (v : Int) : (knownC b k v).ls = b.ls := by unfold knownC; split <;> rfl
theorem known_err (b : Ck) (k i : Nat) (v : Int) : (knownC b k v).err i = b.err i := by unfold knownC; split <;> rfl
theorem known_holds {b : Ck} (h : HoldsOK b) {k : Nat} {v : Int} (hv : 1 ≤ v ∧ v ≤ 9) : HoldsOK (knownC b k v) := fun i => by
  have h0 := h 0
  have h1 := h 1
  have h2 := h 2
  simp only [Ck.lo, Ck.hi] at h0 h1 h2
  unfold knownC
  rcases i with _ | _ | i <;> split <;> simp only [Ck.lo, Ck.hi] <;> omega
theorem known_bk {b : Ck} (h : BkOK b) (k : Nat) (v : Int) : BkOK (knownC b k v) := by
  refine ⟨fun t ht => ?_, by rw [known_ls]; exact h.n⟩
  rw [known_ls] at ht
  have := h.ok t ht
  exact ⟨fun i => by rw [known_err]; exact this.er i, this.tl, this.ws⟩
theorem known_cb {w : World} {b : Ck} {p : Option Addr} (h : CB w b p) (k : Nat) (v : Int) : CB w (knownC b k v) p := ⟨by rw [known_ls]; exact h.ls, h.lt⟩
set_option maxRecDepth 100000 in
set_option maxHeartbeats 8000000 in
theorem worst_0 (b : Ck) (p : Option Addr) (c : Nat) (w : World) (hv : HoldsOK b) (hb : BkOK b) (hcb : CB w b p) :
    Calls Try.prog 100 #[ckV b p c, .int .i64 0] w fun e w' => ∃ v, e = .returned (.int .i64 v) ∧ WorstIs b 0 (numsL b.l0 b.u0) v ∧ ∃ x, w' = ext w x := by
  refine (callsIn_wide (n := 9)).1 ?_
  have hlh := hv 0
  simp only [Ck.lo, Ck.hi] at hlh
  have HV := Lib.hid hv
  have HBO := Lib.hid hb
  have HCW := Lib.hid hcb
  clear hv hb hcb
  unfold ckV
  refine callsIn_of_wp_marks Try.func100 rfl trivial ?_ rfl
  simp only [Try.ntmps100, List.size_toArray, List.length_cons, List.length_nil, Nat.reduceAdd, Nat.reduceSub, Array.replicate_succ, Array.replicate_zero, List.push_toArray, List.append_toArray, List.nil_append, List.cons_append]
  refine wpIn_wide.2 ?_
  go_upto_region 2 with fail
  generalize hV : World.alloc _ _ = V
  have hBV : Below w.heap.size w V := by rw [← hV]; (exact belA)
  have kc : Blk V w.heap.size 76 (ckcs b p c) := by rw [← hV]; exact ((Blk.new rfl).alloc _).alloc _
  have kk : Blk V (w.heap.size + 1) 3 #[.int .i64 0] := by rw [← hV]; exact (Blk.new (by simp)).alloc _
  have kw : Blk V (w.heap.size + 1 + 1) 3 #[.int .i64 0] := by rw [← hV]; exact Blk.new (by simp)
  have HBV := Lib.hid hBV
  have KC := Lib.hid kc
  have HKK := Lib.hid kk
  have KW := Lib.hid kw
  have HCV := Lib.hid (HCW.out.bel hBV)
  have lc := kc.lt
  have lk := kk.lt
  have lw := kw.lt
  have o1 : w.heap.size < w.heap.size + 1 := by omega
  have o2 : w.heap.size + 1 < w.heap.size + 1 + 1 := by omega
  have k0 := Blk.c1 kk
  clear hV hBV kk kw
  generalize w.heap.size + 1 + 1 = g5 at *
  generalize w.heap.size + 1 = g3 at *
  unfold ckcs at kc
  have c0 := kc.cell 0
  have c1 := kc.cell 1
  have c2 := kc.cell 2
  have c3 := kc.cell 3
  have c4 := kc.cell 4
  have c5 := kc.cell 5
  have c6 := kc.cell 6
  have c7 := kc.cell 7
  have c8 := kc.cell 8
  have c9 := kc.cell 9
  simp only [List.size_toArray, List.length_cons, List.length_nil, Nat.reduceAdd, Nat.reduceLT, getElem?_pos, List.getElem_toArray, List.getElem_cons_zero, List.getElem_cons_succ] at c0 c1 c2 c3 c4 c5 c6 c7 c8 c9
  clear kc
  go_wp2_with (go_at_call 117; refine (numbers_any _ _ _).mono ?_; rintro e w2 ⟨g, rfl, k1, k2, y, hw⟩; have HB2 := Lib.hid (show Below V.heap.size V w2 by rw [hw]; (exact belA)); have HG := Lib.hid (show Blk w2 g 23 #[.int .i64 b.l0, .int .i64 b.u0] from k2); have hgz : V.heap.size ≤ g := (by first | exact k1 | (simp at k1; omega)); clear hw k1 k2)
  clear c0 c1 c2 c3 c4 c5 c6 c7 c8 c9 k0
  have hz2 := HB2.out.size
  have hgl2 := HG.out.lt
  have hlow : ∀ a, p = some a → a.block < w.heap.size := HCW.out.lt
  have hseq := numbers1_in g b.l0 b.u0 (fun j => j = g5 ∨ j = w2.heap.size + 1) w2 HG.out (by omega) (by omega) (fun j hj => by omega)
  refine (wpIn_wide (n := 9)).1 ?_
  refine wpIn_rangeFunc_0 (gf := 129) (fb := #[]) (lb := #[.pointer (some ⟨g, 0, none⟩)]) rfl (enters_of Try.func129 (by kernel_rfl) rfl)
    (fun j => j = g5) (fun j hj => by omega) hseq (Below.refl _ _) (fun _ => rfl)
    (fun pre A => Below w.heap.size w A ∧ Blk A w.heap.size 76 (ckcs b p c) ∧ Blk A g3 3 #[.int .i64 0] ∧ ∃ v, WorstIs b 0 pre v ∧ Blk A g5 3 #[.int .i64 v])
    (fun cc pre A => False)
    (fun pre x a' A => ∃ u7 u8 u9 u10 u11 u12 u13 u14 u15 u16 u17 u18 u19 u20 u21 u22 u23 u24 u25 : Value, a' = { tmps := #[.agg #[.int .i64 b.l0, .int .i64 b.u0, .int .i64 b.l1, .int .i64 b.u1, .int .i64 b.l2, .int .i64 b.u2, .int .i64 b.e0, .int .i64 b.e1, .int .i64 b.e2, .slice p b.ls.length c], .int .i64 0, .pointer (some ⟨w.heap.size, 0, none⟩), .pointer (some ⟨g3, 0, none⟩), .int .i64 0, .pointer (some ⟨g5, 0, none⟩), .int .i64 x, u7, u8, u9, u10, u11, u12, u13, u14, u15, u16, u17, u18, u19, u20, u21, u22, u23, u24, u25], defers := [] })
    ?hI ?hIx ?hAx ?h0 ?hassign ?hbody ?hdone ?hstop
  case hI =>
    rintro pre A C ⟨j1, j2, j3, v, j4, j5⟩ hz hp
    exact ⟨j1.trans (hp.mono (by omega)), (hp.block _ (by omega)).trans j2, (hp.block _ (by omega)).trans j3, v, j4, (hp.block _ (by omega)).trans j5⟩
  case hIx => rintro cc pre A C h; exact h.elim
  case hAx => rintro pre x a' A C ⟨u7, u8, u9, u10, u11, u12, u13, u14, u15, u16, u17, u18, u19, u20, u21, u22, u23, u24, u25, rfl⟩ hp; exact ⟨u7, u8, u9, u10, u11, u12, u13, u14, u15, u16, u17, u18, u19, u20, u21, u22, u23, u24, u25, rfl⟩
  case h0 =>
    intro W6 hb6
    have hb7 := HB2.out.trans (hb6.mono hz2)
    exact ⟨HBV.out.trans (hb7.mono (by omega)), (hb7.block _ (by omega)).trans KC.out, (hb7.block _ (by omega)).trans HKK.out, 0, WorstIs.start _ _, (hb7.block _ (by omega)).trans KW.out⟩
  case hassign =>
    intro mm l' pre x W' hz hsp hi'
    exact wpIn_assign ⟨⟨_, _, _, _, _, _, _, _, _, _, _, _, _, _, _, _, _, _, _, by simp [go_sem, Act.put, Act.eval]; exact ⟨rfl, rfl, rfl, rfl, rfl, rfl, rfl, rfl, rfl, rfl, rfl, rfl, rfl, rfl, rfl, rfl, rfl, rfl, rfl⟩⟩, Below.refl _ _⟩
  case hbody =>
    rintro mm l' pre x a' W' hz hpx ⟨j1, j2, j3, v, j4, j5⟩ ⟨u7, u8, u9, u10, u11, u12, u13, u14, u15, u16, u17, u18, u19, u20, u21, u22, u23, u24, u25, rfl⟩
    have hxm := mem_numsL.1 (hpx.subset (show x ∈ pre ++ [x] by simp))
    have HX := Lib.hid (show 1 ≤ x ∧ x ≤ 9 by omega)
    have HJ4 := Lib.hid j4
    have J1 := Lib.hid j1
    have J2 := Lib.hid j2
    have J3 := Lib.hid j3
    have J5 := Lib.hid j5
    have lc := j2.lt
    have lk := j3.lt
    have lw := j5.lt
    have k0 := Blk.c1 j3
    have kc := j2
    unfold ckcs at kc
    have c0 := kc.cell 0
    have c1 := kc.cell 1
    have c2 := kc.cell 2
    have c3 := kc.cell 3
    have c4 := kc.cell 4
    have c5 := kc.cell 5
    have c6 := kc.cell 6
    have c7 := kc.cell 7
    have c8 := kc.cell 8
    have c9 := kc.cell 9
    simp only [List.size_toArray, List.length_cons, List.length_nil, Nat.reduceAdd, Nat.reduceLT, getElem?_pos, List.getElem_toArray, List.getElem_cons_zero, List.getElem_cons_succ] at c0 c1 c2 c3 c4 c5 c6 c7 c8 c9
    clear j1 j2 j3 j4 j5 kc hseq hpx hxm
    obtain ⟨q, hq⟩ : ∃ q, rightC (knownC b 0 x) = q := ⟨_, rfl⟩
    have HQ := Lib.hid hq
    clear hq
    gi_wp2_with (first
      | (gi_at_call 118; refine (CallsIn.inRound _ (callsIn_wide.2 (known_0 b p c x _))).mono ?_; rintro e w3 ⟨rfl, z, hw⟩; have HB3 := Lib.hid (show Below W'.heap.size W' w3 by rw [hw]; (exact belA)); clear hw; dsimp only [ckV, knownC]; clear c0 c1 c2 c3 c4 c5 c6 c7 c8 c9 k0))
    generalize hX0 : World.alloc _ _ = X0
    have hBX : Below W'.heap.size W' X0 := by rw [← hX0]; exact HB3.out.alloc HB3.out.size _
    have kn : Blk X0 w3.heap.size 76 (ckcs (knownC b 0 x) p c) := by rw [← hX0]; exact Blk.new rfl
    have HBX := Lib.hid hBX
    have KN := Lib.hid kn
    have hz3 := HB3.out.size
    have HCX := Lib.hid (known_cb (HCW.out.bel (J1.out.trans (hBX.mono J1.out.size))) 0 x)
    clear hX0 hBX kn
    generalize w3.heap.size = gN at *
    gi_at_call 58
    refine (CallsIn.inRound _ (callsIn_wide.2 (right_any (knownC b 0 x) p c q X0 (known_holds HV.out HX.out) (known_bk HBO.out 0 x) HCX.out HQ.out))).mono ?_
    rintro e w4 ⟨rfl, y, hw⟩
    have HB4 := Lib.hid (show Below X0.heap.size X0 w4 by rw [hw]; exact below_ext _ _)
    have HBW := Lib.hid (HBX.out.trans (HB4.out.mono HBX.out.size))
    clear hw
    have hzW := HBW.out.size
    cases q
    · gi_wp2_with fail
      exact ⟨PrivM.of_below HBW.out, J1.out.trans (HBW.out.mono J1.out.size), J2.out.bel HBW.out, J3.out.bel HBW.out, v, HJ4.out.no HQ.out, J5.out.bel HBW.out⟩
    · obtain ⟨lo, hi, he⟩ := ends_ex (b := knownC b 0 x) (known_holds HV.out HX.out) (known_bk HBO.out 0 x) .fish (fun k h => by cases h) (i0 := 0) (n := (knownC b 0 x).ls.length) (by omega) HQ.out
      obtain ⟨d, hd⟩ : ∃ d, hi - lo = d := ⟨_, rfl⟩
      have HE := Lib.hid he
      have HD := Lib.hid hd
      have HA := Lib.hid (show ∀ y : Grow w4, Calls Try.prog 74 #[ckV (knownC b 0 x) p c] (ext w4 y) fun e w' => e = .returned (.int .i64 d) ∧ ∃ x, w' = ext (ext w4 y) x from fun y => apart_any (knownC b 0 x) p c lo hi d _ (known_holds HV.out HX.out) (known_bk HBO.out 0 x) (HCX.out.bel (HB4.out.trans ((below_ext w4 y).mono HB4.out.size))) HE.out HD.out)
      clear he hd
      have k5 := J5.out.bel HBW.out
      have kn := KN.out.bel HB4.out
      have e0 := Blk.c1 k5
      have f0 := Blk.frozen k5 0
      have l5 := k5.lt
      have lN := kn.lt
      have K5 := Lib.hid k5
      unfold ckcs at kn
      have m0 := kn.cell 0
      have m1 := kn.cell 1
      have m2 := kn.cell 2
      have m3 := kn.cell 3
      have m4 := kn.cell 4
      have m5 := kn.cell 5
      have m6 := kn.cell 6
      have m7 := kn.cell 7
      have m8 := kn.cell 8
      have m9 := kn.cell 9
      simp only [List.size_toArray, List.length_cons, List.length_nil, Nat.reduceAdd, Nat.reduceLT, getElem?_pos, List.getElem_toArray, List.getElem_cons_zero, List.getElem_cons_succ] at m0 m1 m2 m3 m4 m5 m6 m7 m8 m9
      dsimp only [knownC] at m0 m1 m2 m3 m4 m5 m6 m7 m8 m9
      clear k5 kn
      gi_wp2_with fail
      refine wpIn_region_ext_tail 4 (free_round l') rfl (by kernel_rfl) (by kernel_rfl) ?_
      simp only [List.take_succ_cons, List.take_zero, List.drop_succ_cons, List.drop_zero]
      repeat (go_big_quiet_step (first | (go_at_call 74; exact quiet_ext (HA.out _))))
      refine wpQuiet_nil ?_; rintro _ ⟨y1, rfl⟩
      gi_wp2_with fail
      have hB1 := HBW.out.trans ((below_ext w4 y1).mono hzW)
      have hz1 := hB1.size
      have hzw := J1.out.size
      refine ⟨(PrivM.of_below hB1).trans (PrivM.setCell (M := fun j => j = g5) _ rfl _ _), (J1.out.trans (hB1.mono hzw)).setCell (by dsimp only; omega) _, (J2.out.bel hB1).setOther (by omega) _ _, (J3.out.bel hB1).setOther (by omega) _ _, _, ?_, (J5.out.bel hB1).set 0 _⟩
      rw [← HD.out]
      have h := HE.out
      rw [known_ls] at h
      exact HJ4.out.yes h
  case hdone =>
    rintro D xs W' rfl hz rfl ⟨j1, j2, j3, v, j4, j5⟩ hp hD'
    have HE := Lib.hid j4
    have J1 := Lib.hid j1
    have HD := Lib.hid hD'
    have d0 := Blk.c1 j5
    have l5 := j5.lt
    clear j1 j2 j3 j4 j5 hp hseq hD'
    gi_wp2_with fail
    go_wp2_with fail
    refine ⟨by simp, .inl ⟨_, _, rfl, run_takeDeferred HD.out, ?_⟩⟩
    refine ⟨.int .i64 v, ?_, v, rfl, HE.out, ext_of ?_⟩
    · simp [results, Try.results100, go_sem]
    · exact J1.out.trans (below_putObj _ (by have := HBV.out.size; omega) _)
  case hstop =>
    rintro D cc pre W' rfl hz hSp h hp hD'
    exact h.elim
set_option maxRecDepth 100000 in
set_option maxHeartbeats 8000000 in
theorem worst_1 (b : Ck) (p : Option Addr) (c : Nat) (w : World) (hv : HoldsOK b) (hb : BkOK b) (hcb : CB w b p) :
    Calls Try.prog 100 #[ckV b p c, .int .i64 1] w fun e w' => ∃ v, e = .returned (.int .i64 v) ∧ WorstIs b 1 (numsL b.l1 b.u1) v ∧ ∃ x, w' = ext w x := by
  refine (callsIn_wide (n := 9)).1 ?_
  have hlh := hv 1
  simp only [Ck.lo, Ck.hi] at hlh
  have HV := Lib.hid hv
  have HBO := Lib.hid hb
  have HCW := Lib.hid hcb
  clear hv hb hcb
  unfold ckV
  refine callsIn_of_wp_marks Try.func100 rfl trivial ?_ rfl
  simp only [Try.ntmps100, List.size_toArray, List.length_cons, List.length_nil, Nat.reduceAdd, Nat.reduceSub, Array.replicate_succ, Array.replicate_zero, List.push_toArray, List.append_toArray, List.nil_append, List.cons_append]
  refine wpIn_wide.2 ?_
  go_upto_region 2 with fail
  generalize hV : World.alloc _ _ = V
  have hBV : Below w.heap.size w V := by rw [← hV]; (exact belA)
  have kc : Blk V w.heap.size 76 (ckcs b p c) := by rw [← hV]; exact ((Blk.new rfl).alloc _).alloc _
  have kk : Blk V (w.heap.size + 1) 3 #[.int .i64 1] := by rw [← hV]; exact (Blk.new (by simp)).alloc _
  have kw : Blk V (w.heap.size + 1 + 1) 3 #[.int .i64 0] := by rw [← hV]; exact Blk.new (by simp)
  have HBV := Lib.hid hBV
  have KC := Lib.hid kc
  have HKK := Lib.hid kk
  have KW := Lib.hid kw
  have HCV := Lib.hid (HCW.out.bel hBV)
  have lc := kc.lt
  have lk := kk.lt
  have lw := kw.lt
  have o1 : w.heap.size < w.heap.size + 1 := by omega
  have o2 : w.heap.size + 1 < w.heap.size + 1 + 1 := by omega
  have k0 := Blk.c1 kk
  clear hV hBV kk kw
  generalize w.heap.size + 1 + 1 = g5 at *
  generalize w.heap.size + 1 = g3 at *
  unfold ckcs at kc
  have c0 := kc.cell 0
  have c1 := kc.cell 1
  have c2 := kc.cell 2
  have c3 := kc.cell 3
  have c4 := kc.cell 4
  have c5 := kc.cell 5
  have c6 := kc.cell 6
  have c7 := kc.cell 7
  have c8 := kc.cell 8
  have c9 := kc.cell 9
  simp only [List.size_toArray, List.length_cons, List.length_nil, Nat.reduceAdd, Nat.reduceLT, getElem?_pos, List.getElem_toArray, List.getElem_cons_zero, List.getElem_cons_succ] at c0 c1 c2 c3 c4 c5 c6 c7 c8 c9
  clear kc
  go_wp2_with (go_at_call 117; refine (numbers_any _ _ _).mono ?_; rintro e w2 ⟨g, rfl, k1, k2, y, hw⟩; have HB2 := Lib.hid (show Below V.heap.size V w2 by rw [hw]; (exact belA)); have HG := Lib.hid (show Blk w2 g 23 #[.int .i64 b.l1, .int .i64 b.u1] from k2); have hgz : V.heap.size ≤ g := (by first | exact k1 | (simp at k1; omega)); clear hw k1 k2)
  clear c0 c1 c2 c3 c4 c5 c6 c7 c8 c9 k0
  have hz2 := HB2.out.size
  have hgl2 := HG.out.lt
  have hlow : ∀ a, p = some a → a.block < w.heap.size := HCW.out.lt
  have hseq := numbers1_in g b.l1 b.u1 (fun j => j = g5 ∨ j = w2.heap.size + 1) w2 HG.out (by omega) (by omega) (fun j hj => by omega)
  refine (wpIn_wide (n := 9)).1 ?_
  refine wpIn_rangeFunc_0 (gf := 129) (fb := #[]) (lb := #[.pointer (some ⟨g, 0, none⟩)]) rfl (enters_of Try.func129 (by kernel_rfl) rfl)
    (fun j => j = g5) (fun j hj => by omega) hseq (Below.refl _ _) (fun _ => rfl)
    (fun pre A => Below w.heap.size w A ∧ Blk A w.heap.size 76 (ckcs b p c) ∧ Blk A g3 3 #[.int .i64 1] ∧ ∃ v, WorstIs b 1 pre v ∧ Blk A g5 3 #[.int .i64 v])
    (fun cc pre A => False)
    (fun pre x a' A => ∃ u7 u8 u9 u10 u11 u12 u13 u14 u15 u16 u17 u18 u19 u20 u21 u22 u23 u24 u25 : Value, a' = { tmps := #[.agg #[.int .i64 b.l0, .int .i64 b.u0, .int .i64 b.l1, .int .i64 b.u1, .int .i64 b.l2, .int .i64 b.u2, .int .i64 b.e0, .int .i64 b.e1, .int .i64 b.e2, .slice p b.ls.length c], .int .i64 1, .pointer (some ⟨w.heap.size, 0, none⟩), .pointer (some ⟨g3, 0, none⟩), .int .i64 0, .pointer (some ⟨g5, 0, none⟩), .int .i64 x, u7, u8, u9, u10, u11, u12, u13, u14, u15, u16, u17, u18, u19, u20, u21, u22, u23, u24, u25], defers := [] })
    ?hI ?hIx ?hAx ?h0 ?hassign ?hbody ?hdone ?hstop
  case hI =>
    rintro pre A C ⟨j1, j2, j3, v, j4, j5⟩ hz hp
    exact ⟨j1.trans (hp.mono (by omega)), (hp.block _ (by omega)).trans j2, (hp.block _ (by omega)).trans j3, v, j4, (hp.block _ (by omega)).trans j5⟩
  case hIx => rintro cc pre A C h; exact h.elim
  case hAx => rintro pre x a' A C ⟨u7, u8, u9, u10, u11, u12, u13, u14, u15, u16, u17, u18, u19, u20, u21, u22, u23, u24, u25, rfl⟩ hp; exact ⟨u7, u8, u9, u10, u11, u12, u13, u14, u15, u16, u17, u18, u19, u20, u21, u22, u23, u24, u25, rfl⟩
  case h0 =>
    intro W6 hb6
    have hb7 := HB2.out.trans (hb6.mono hz2)
    exact ⟨HBV.out.trans (hb7.mono (by omega)), (hb7.block _ (by omega)).trans KC.out, (hb7.block _ (by omega)).trans HKK.out, 0, WorstIs.start _ _, (hb7.block _ (by omega)).trans KW.out⟩
  case hassign =>
    intro mm l' pre x W' hz hsp hi'
    exact wpIn_assign ⟨⟨_, _, _, _, _, _, _, _, _, _, _, _, _, _, _, _, _, _, _, by simp [go_sem, Act.put, Act.eval]; exact ⟨rfl, rfl, rfl, rfl, rfl, rfl, rfl, rfl, rfl, rfl, rfl, rfl, rfl, rfl, rfl, rfl, rfl, rfl, rfl⟩⟩, Below.refl _ _⟩
  case hbody =>
    rintro mm l' pre x a' W' hz hpx ⟨j1, j2, j3, v, j4, j5⟩ ⟨u7, u8, u9, u10, u11, u12, u13, u14, u15, u16, u17, u18, u19, u20, u21, u22, u23, u24, u25, rfl⟩
    have hxm := mem_numsL.1 (hpx.subset (show x ∈ pre ++ [x] by simp))
    have HX := Lib.hid (show 1 ≤ x ∧ x ≤ 9 by omega)
    have HJ4 := Lib.hid j4
    have J1 := Lib.hid j1
    have J2 := Lib.hid j2
    have J3 := Lib.hid j3
    have J5 := Lib.hid j5
    have lc := j2.lt
    have lk := j3.lt
    have lw := j5.lt
    have k0 := Blk.c1 j3
    have kc := j2
    unfold ckcs at kc
    have c0 := kc.cell 0
    have c1 := kc.cell 1
    have c2 := kc.cell 2
    have c3 := kc.cell 3
    have c4 := kc.cell 4
    have c5 := kc.cell 5
    have c6 := kc.cell 6
    have c7 := kc.cell 7
    have c8 := kc.cell 8
    have c9 := kc.cell 9
    simp only [List.size_toArray, List.length_cons, List.length_nil, Nat.reduceAdd, Nat.reduceLT, getElem?_pos, List.getElem_toArray, List.getElem_cons_zero, List.getElem_cons_succ] at c0 c1 c2 c3 c4 c5 c6 c7 c8 c9
    clear j1 j2 j3 j4 j5 kc hseq hpx hxm
    obtain ⟨q, hq⟩ : ∃ q, rightC (knownC b 1 x) = q := ⟨_, rfl⟩
    have HQ := Lib.hid hq
    clear hq
    gi_wp2_with (first
      | (gi_at_call 118; refine (CallsIn.inRound _ (callsIn_wide.2 (known_1 b p c x _))).mono ?_; rintro e w3 ⟨rfl, z, hw⟩; have HB3 := Lib.hid (show Below W'.heap.size W' w3 by rw [hw]; (exact belA)); clear hw; dsimp only [ckV, knownC]; clear c0 c1 c2 c3 c4 c5 c6 c7 c8 c9 k0))
    generalize hX0 : World.alloc _ _ = X0
    have hBX : Below W'.heap.size W' X0 := by rw [← hX0]; exact HB3.out.alloc HB3.out.size _
    have kn : Blk X0 w3.heap.size 76 (ckcs (knownC b 1 x) p c) := by rw [← hX0]; exact Blk.new rfl
    have HBX := Lib.hid hBX
    have KN := Lib.hid kn
    have hz3 := HB3.out.size
    have HCX := Lib.hid (known_cb (HCW.out.bel (J1.out.trans (hBX.mono J1.out.size))) 1 x)
    clear hX0 hBX kn
    generalize w3.heap.size = gN at *
    gi_at_call 58
    refine (CallsIn.inRound _ (callsIn_wide.2 (right_any (knownC b 1 x) p c q X0 (known_holds HV.out HX.out) (known_bk HBO.out 1 x) HCX.out HQ.out))).mono ?_
    rintro e w4 ⟨rfl, y, hw⟩
    have HB4 := Lib.hid (show Below X0.heap.size X0 w4 by rw [hw]; exact below_ext _ _)
    have HBW := Lib.hid (HBX.out.trans (HB4.out.mono HBX.out.size))
    clear hw
    have hzW := HBW.out.size
    cases q
    · gi_wp2_with fail
      exact ⟨PrivM.of_below HBW.out, J1.out.trans (HBW.out.mono J1.out.size), J2.out.bel HBW.out, J3.out.bel HBW.out, v, HJ4.out.no HQ.out, J5.out.bel HBW.out⟩
    · obtain ⟨lo, hi, he⟩ := ends_ex (b := knownC b 1 x) (known_holds HV.out HX.out) (known_bk HBO.out 1 x) .fish (fun k h => by cases h) (i0 := 0) (n := (knownC b 1 x).ls.length) (by omega) HQ.out
      obtain ⟨d, hd⟩ : ∃ d, hi - lo = d := ⟨_, rfl⟩
      have HE := Lib.hid he
      have HD := Lib.hid hd
      have HA := Lib.hid (show ∀ y : Grow w4, Calls Try.prog 74 #[ckV (knownC b 1 x) p c] (ext w4 y) fun e w' => e = .returned (.int .i64 d) ∧ ∃ x, w' = ext (ext w4 y) x from fun y => apart_any (knownC b 1 x) p c lo hi d _ (known_holds HV.out HX.out) (known_bk HBO.out 1 x) (HCX.out.bel (HB4.out.trans ((below_ext w4 y).mono HB4.out.size))) HE.out HD.out)
      clear he hd
      have k5 := J5.out.bel HBW.out
      have kn := KN.out.bel HB4.out
      have e0 := Blk.c1 k5
      have f0 := Blk.frozen k5 0
      have l5 := k5.lt
      have lN := kn.lt
      have K5 := Lib.hid k5
      unfold ckcs at kn
      have m0 := kn.cell 0
      have m1 := kn.cell 1
      have m2 := kn.cell 2
      have m3 := kn.cell 3
      have m4 := kn.cell 4
      have m5 := kn.cell 5
      have m6 := kn.cell 6
      have m7 := kn.cell 7
      have m8 := kn.cell 8
      have m9 := kn.cell 9
      simp only [List.size_toArray, List.length_cons, List.length_nil, Nat.reduceAdd, Nat.reduceLT, getElem?_pos, List.getElem_toArray, List.getElem_cons_zero, List.getElem_cons_succ] at m0 m1 m2 m3 m4 m5 m6 m7 m8 m9
      dsimp only [knownC] at m0 m1 m2 m3 m4 m5 m6 m7 m8 m9
      clear k5 kn
      gi_wp2_with fail
      refine wpIn_region_ext_tail 4 (free_round l') rfl (by kernel_rfl) (by kernel_rfl) ?_
      simp only [List.take_succ_cons, List.take_zero, List.drop_succ_cons, List.drop_zero]
      repeat (go_big_quiet_step (first | (go_at_call 74; exact quiet_ext (HA.out _))))
      refine wpQuiet_nil ?_; rintro _ ⟨y1, rfl⟩
      gi_wp2_with fail
      have hB1 := HBW.out.trans ((below_ext w4 y1).mono hzW)
      have hz1 := hB1.size
      have hzw := J1.out.size
      refine ⟨(PrivM.of_below hB1).trans (PrivM.setCell (M := fun j => j = g5) _ rfl _ _), (J1.out.trans (hB1.mono hzw)).setCell (by dsimp only; omega) _, (J2.out.bel hB1).setOther (by omega) _ _, (J3.out.bel hB1).setOther (by omega) _ _, _, ?_, (J5.out.bel hB1).set 0 _⟩
      rw [← HD.out]
      have h := HE.out
      rw [known_ls] at h
      exact HJ4.out.yes h
  case hdone =>
    rintro D xs W' rfl hz rfl ⟨j1, j2, j3, v, j4, j5⟩ hp hD'
    have HE := Lib.hid j4
    have J1 := Lib.hid j1
    have HD := Lib.hid hD'
    have d0 := Blk.c1 j5
    have l5 := j5.lt
    clear j1 j2 j3 j4 j5 hp hseq hD'
    gi_wp2_with fail
    go_wp2_with fail
    refine ⟨by simp, .inl ⟨_, _, rfl, run_takeDeferred HD.out, ?_⟩⟩
    refine ⟨.int .i64 v, ?_, v, rfl, HE.out, ext_of ?_⟩
    · simp [results, Try.results100, go_sem]
    · exact J1.out.trans (below_putObj _ (by have := HBV.out.size; omega) _)
  case hstop =>
    rintro D cc pre W' rfl hz hSp h hp hD'
    exact h.elim
set_option maxRecDepth 100000 in
set_option maxHeartbeats 8000000 in
theorem worst_2 (b : Ck) (p : Option Addr) (c : Nat) (w : World) (hv : HoldsOK b) (hb : BkOK b) (hcb : CB w b p) :
    Calls Try.prog 100 #[ckV b p c, .int .i64 2] w fun e w' => ∃ v, e = .returned (.int .i64 v) ∧ WorstIs b 2 (numsL b.l2 b.u2) v ∧ ∃ x, w' = ext w x := by
  refine (callsIn_wide (n := 9)).1 ?_
  have hlh := hv 2
  simp only [Ck.lo, Ck.hi] at hlh
  have HV := Lib.hid hv
  have HBO := Lib.hid hb
  have HCW := Lib.hid hcb
  clear hv hb hcb
  unfold ckV
  refine callsIn_of_wp_marks Try.func100 rfl trivial ?_ rfl
  simp only [Try.ntmps100, List.size_toArray, List.length_cons, List.length_nil, Nat.reduceAdd, Nat.reduceSub, Array.replicate_succ, Array.replicate_zero, List.push_toArray, List.append_toArray, List.nil_append, List.cons_append]
  refine wpIn_wide.2 ?_
  go_upto_region 2 with fail
  generalize hV : World.alloc _ _ = V
  have hBV : Below w.heap.size w V := by rw [← hV]; (exact belA)
  have kc : Blk V w.heap.size 76 (ckcs b p c) := by rw [← hV]; exact ((Blk.new rfl).alloc _).alloc _
  have kk : Blk V (w.heap.size + 1) 3 #[.int .i64 2] := by rw [← hV]; exact (Blk.new (by simp)).alloc _
  have kw : Blk V (w.heap.size + 1 + 1) 3 #[.int .i64 0] := by rw [← hV]; exact Blk.new (by simp)
  have HBV := Lib.hid hBV
  have KC := Lib.hid kc
  have HKK := Lib.hid kk
  have KW := Lib.hid kw
  have HCV := Lib.hid (HCW.out.bel hBV)
  have lc := kc.lt
  have lk := kk.lt
  have lw := kw.lt
  have o1 : w.heap.size < w.heap.size + 1 := by omega
  have o2 : w.heap.size + 1 < w.heap.size + 1 + 1 := by omega
  have k0 := Blk.c1 kk
  clear hV hBV kk kw
  generalize w.heap.size + 1 + 1 = g5 at *
  generalize w.heap.size + 1 = g3 at *
  unfold ckcs at kc
  have c0 := kc.cell 0
  have c1 := kc.cell 1
  have c2 := kc.cell 2
  have c3 := kc.cell 3
  have c4 := kc.cell 4
  have c5 := kc.cell 5
  have c6 := kc.cell 6
  have c7 := kc.cell 7
  have c8 := kc.cell 8
  have c9 := kc.cell 9
  simp only [List.size_toArray, List.length_cons, List.length_nil, Nat.reduceAdd, Nat.reduceLT, getElem?_pos, List.getElem_toArray, List.getElem_cons_zero, List.getElem_cons_succ] at c0 c1 c2 c3 c4 c5 c6 c7 c8 c9
  clear kc
  go_wp2_with (go_at_call 117; refine (numbers_any _ _ _).mono ?_; rintro e w2 ⟨g, rfl, k1, k2, y, hw⟩; have HB2 := Lib.hid (show Below V.heap.size V w2 by rw [hw]; (exact belA)); have HG := Lib.hid (show Blk w2 g 23 #[.int .i64 b.l2, .int .i64 b.u2] from k2); have hgz : V.heap.size ≤ g := (by first | exact k1 | (simp at k1; omega)); clear hw k1 k2)
  clear c0 c1 c2 c3 c4 c5 c6 c7 c8 c9 k0
  have hz2 := HB2.out.size
  have hgl2 := HG.out.lt
  have hlow : ∀ a, p = some a → a.block < w.heap.size := HCW.out.lt
  have hseq := numbers1_in g b.l2 b.u2 (fun j => j = g5 ∨ j = w2.heap.size + 1) w2 HG.out (by omega) (by omega) (fun j hj => by omega)
  refine (wpIn_wide (n := 9)).1 ?_
  refine wpIn_rangeFunc_0 (gf := 129) (fb := #[]) (lb := #[.pointer (some ⟨g, 0, none⟩)]) rfl (enters_of Try.func129 (by kernel_rfl) rfl)
    (fun j => j = g5) (fun j hj => by omega) hseq (Below.refl _ _) (fun _ => rfl)
    (fun pre A => Below w.heap.size w A ∧ Blk A w.heap.size 76 (ckcs b p c) ∧ Blk A g3 3 #[.int .i64 2] ∧ ∃ v, WorstIs b 2 pre v ∧ Blk A g5 3 #[.int .i64 v])
    (fun cc pre A => False)
    (fun pre x a' A => ∃ u7 u8 u9 u10 u11 u12 u13 u14 u15 u16 u17 u18 u19 u20 u21 u22 u23 u24 u25 : Value, a' = { tmps := #[.agg #[.int .i64 b.l0, .int .i64 b.u0, .int .i64 b.l1, .int .i64 b.u1, .int .i64 b.l2, .int .i64 b.u2, .int .i64 b.e0, .int .i64 b.e1, .int .i64 b.e2, .slice p b.ls.length c], .int .i64 2, .pointer (some ⟨w.heap.size, 0, none⟩), .pointer (some ⟨g3, 0, none⟩), .int .i64 0, .pointer (some ⟨g5, 0, none⟩), .int .i64 x, u7, u8, u9, u10, u11, u12, u13, u14, u15, u16, u17, u18, u19, u20, u21, u22, u23, u24, u25], defers := [] })
    ?hI ?hIx ?hAx ?h0 ?hassign ?hbody ?hdone ?hstop
  case hI =>
    rintro pre A C ⟨j1, j2, j3, v, j4, j5⟩ hz hp
    exact ⟨j1.trans (hp.mono (by omega)), (hp.block _ (by omega)).trans j2, (hp.block _ (by omega)).trans j3, v, j4, (hp.block _ (by omega)).trans j5⟩
  case hIx => rintro cc pre A C h; exact h.elim
  case hAx => rintro pre x a' A C ⟨u7, u8, u9, u10, u11, u12, u13, u14, u15, u16, u17, u18, u19, u20, u21, u22, u23, u24, u25, rfl⟩ hp; exact ⟨u7, u8, u9, u10, u11, u12, u13, u14, u15, u16, u17, u18, u19, u20, u21, u22, u23, u24, u25, rfl⟩
  case h0 =>
    intro W6 hb6
    have hb7 := HB2.out.trans (hb6.mono hz2)
    exact ⟨HBV.out.trans (hb7.mono (by omega)), (hb7.block _ (by omega)).trans KC.out, (hb7.block _ (by omega)).trans HKK.out, 0, WorstIs.start _ _, (hb7.block _ (by omega)).trans KW.out⟩
  case hassign =>
    intro mm l' pre x W' hz hsp hi'
    exact wpIn_assign ⟨⟨_, _, _, _, _, _, _, _, _, _, _, _, _, _, _, _, _, _, _, by simp [go_sem, Act.put, Act.eval]; exact ⟨rfl, rfl, rfl, rfl, rfl, rfl, rfl, rfl, rfl, rfl, rfl, rfl, rfl, rfl, rfl, rfl, rfl, rfl, rfl⟩⟩, Below.refl _ _⟩
  case hbody =>
    rintro mm l' pre x a' W' hz hpx ⟨j1, j2, j3, v, j4, j5⟩ ⟨u7, u8, u9, u10, u11, u12, u13, u14, u15, u16, u17, u18, u19, u20, u21, u22, u23, u24, u25, rfl⟩
    have hxm := mem_numsL.1 (hpx.subset (show x ∈ pre ++ [x] by simp))
    have HX := Lib.hid (show 1 ≤ x ∧ x ≤ 9 by omega)
    have HJ4 := Lib.hid j4
    have J1 := Lib.hid j1
    have J2 := Lib.hid j2
    have J3 := Lib.hid j3
    have J5 := Lib.hid j5
    have lc := j2.lt
    have lk := j3.lt
    have lw := j5.lt
    have k0 := Blk.c1 j3
    have kc := j2
    unfold ckcs at kc
    have c0 := kc.cell 0
    have c1 := kc.cell 1
    have c2 := kc.cell 2
    have c3 := kc.cell 3
    have c4 := kc.cell 4
    have c5 := kc.cell 5
    have c6 := kc.cell 6
    have c7 := kc.cell 7
    have c8 := kc.cell 8
    have c9 := kc.cell 9
    simp only [List.size_toArray, List.length_cons, List.length_nil, Nat.reduceAdd, Nat.reduceLT, getElem?_pos, List.getElem_toArray, List.getElem_cons_zero, List.getElem_cons_succ] at c0 c1 c2 c3 c4 c5 c6 c7 c8 c9
    clear j1 j2 j3 j4 j5 kc hseq hpx hxm
    obtain ⟨q, hq⟩ : ∃ q, rightC (knownC b 2 x) = q := ⟨_, rfl⟩
    have HQ := Lib.hid hq
    clear hq
    gi_wp2_with (first
      | (gi_at_call 118; refine (CallsIn.inRound _ (callsIn_wide.2 (known_2 b p c x _))).mono ?_; rintro e w3 ⟨rfl, z, hw⟩; have HB3 := Lib.hid (show Below W'.heap.size W' w3 by rw [hw]; (exact belA)); clear hw; dsimp only [ckV, knownC]; clear c0 c1 c2 c3 c4 c5 c6 c7 c8 c9 k0))
    generalize hX0 : World.alloc _ _ = X0
    have hBX : Below W'.heap.size W' X0 := by rw [← hX0]; exact HB3.out.alloc HB3.out.size _
    have kn : Blk X0 w3.heap.size 76 (ckcs (knownC b 2 x) p c) := by rw [← hX0]; exact Blk.new rfl
    have HBX := Lib.hid hBX
    have KN := Lib.hid kn
    have hz3 := HB3.out.size
    have HCX := Lib.hid (known_cb (HCW.out.bel (J1.out.trans (hBX.mono J1.out.size))) 2 x)
    clear hX0 hBX kn
    generalize w3.heap.size = gN at *
    gi_at_call 58
    refine (CallsIn.inRound _ (callsIn_wide.2 (right_any (knownC b 2 x) p c q X0 (known_holds HV.out HX.out) (known_bk HBO.out 2 x) HCX.out HQ.out))).mono ?_
    rintro e w4 ⟨rfl, y, hw⟩
    have HB4 := Lib.hid (show Below X0.heap.size X0 w4 by rw [hw]; exact below_ext _ _)
    have HBW := Lib.hid (HBX.out.trans (HB4.out.mono HBX.out.size))
    clear hw
    have hzW := HBW.out.size
    cases q
    · gi_wp2_with fail
      exact ⟨PrivM.of_below HBW.out, J1.out.trans (HBW.out.mono J1.out.size), J2.out.bel HBW.out, J3.out.bel HBW.out, v, HJ4.out.no HQ.out, J5.out.bel HBW.out⟩
    · obtain ⟨lo, hi, he⟩ := ends_ex (b := knownC b 2 x) (known_holds HV.out HX.out) (known_bk HBO.out 2 x) .fish (fun k h => by cases h) (i0 := 0) (n := (knownC b 2 x).ls.length) (by omega) HQ.out
      obtain ⟨d, hd⟩ : ∃ d, hi - lo = d := ⟨_, rfl⟩
      have HE := Lib.hid he
      have HD := Lib.hid hd
      have HA := Lib.hid (show ∀ y : Grow w4, Calls Try.prog 74 #[ckV (knownC b 2 x) p c] (ext w4 y) fun e w' => e = .returned (.int .i64 d) ∧ ∃ x, w' = ext (ext w4 y) x from fun y => apart_any (knownC b 2 x) p c lo hi d _ (known_holds HV.out HX.out) (known_bk HBO.out 2 x) (HCX.out.bel (HB4.out.trans ((below_ext w4 y).mono HB4.out.size))) HE.out HD.out)
      clear he hd
      have k5 := J5.out.bel HBW.out
      have kn := KN.out.bel HB4.out
      have e0 := Blk.c1 k5
      have f0 := Blk.frozen k5 0
      have l5 := k5.lt
      have lN := kn.lt
      have K5 := Lib.hid k5
      unfold ckcs at kn
      have m0 := kn.cell 0
      have m1 := kn.cell 1
      have m2 := kn.cell 2
      have m3 := kn.cell 3
      have m4 := kn.cell 4
      have m5 := kn.cell 5
      have m6 := kn.cell 6
      have m7 := kn.cell 7
      have m8 := kn.cell 8
      have m9 := kn.cell 9
      simp only [List.size_toArray, List.length_cons, List.length_nil, Nat.reduceAdd, Nat.reduceLT, getElem?_pos, List.getElem_toArray, List.getElem_cons_zero, List.getElem_cons_succ] at m0 m1 m2 m3 m4 m5 m6 m7 m8 m9
      dsimp only [knownC] at m0 m1 m2 m3 m4 m5 m6 m7 m8 m9
      clear k5 kn
      gi_wp2_with fail
      refine wpIn_region_ext_tail 4 (free_round l') rfl (by kernel_rfl) (by kernel_rfl) ?_
      simp only [List.take_succ_cons, List.take_zero, List.drop_succ_cons, List.drop_zero]
      repeat (go_big_quiet_step (first | (go_at_call 74; exact quiet_ext (HA.out _))))
      refine wpQuiet_nil ?_; rintro _ ⟨y1, rfl⟩
      gi_wp2_with fail
      have hB1 := HBW.out.trans ((below_ext w4 y1).mono hzW)
      have hz1 := hB1.size
      have hzw := J1.out.size
      refine ⟨(PrivM.of_below hB1).trans (PrivM.setCell (M := fun j => j = g5) _ rfl _ _), (J1.out.trans (hB1.mono hzw)).setCell (by dsimp only; omega) _, (J2.out.bel hB1).setOther (by omega) _ _, (J3.out.bel hB1).setOther (by omega) _ _, _, ?_, (J5.out.bel hB1).set 0 _⟩
      rw [← HD.out]
      have h := HE.out
      rw [known_ls] at h
      exact HJ4.out.yes h
  case hdone =>
    rintro D xs W' rfl hz rfl ⟨j1, j2, j3, v, j4, j5⟩ hp hD'
    have HE := Lib.hid j4
    have J1 := Lib.hid j1
    have HD := Lib.hid hD'
    have d0 := Blk.c1 j5
    have l5 := j5.lt
    clear j1 j2 j3 j4 j5 hp hseq hD'
    gi_wp2_with fail
    go_wp2_with fail
    refine ⟨by simp, .inl ⟨_, _, rfl, run_takeDeferred HD.out, ?_⟩⟩
    refine ⟨.int .i64 v, ?_, v, rfl, HE.out, ext_of ?_⟩
    · simp [results, Try.results100, go_sem]
    · exact J1.out.trans (below_putObj _ (by have := HBV.out.size; omega) _)
  case hstop =>
    rintro D cc pre W' rfl hz hSp h hp hD'
    exact h.elim

/-- The first kind with which the ends are the closest together. -/
def weighN (w0 w1 w2 : Int) : Int := if w2 < (if w1 < w0 then w1 else w0) then 2 else if w1 < w0 then 1 else 0
structure WeighIs (b : Ck) (a : Int) (w0 w1 w2 : Int) : Prop where
  k0 : WorstIs b 0 (numsL b.l0 b.u0) w0
  k1 : WorstIs b 1 (numsL b.l1 b.u1) w1
  k2 : WorstIs b 2 (numsL b.l2 b.u2) w2
  is : a = weighN w0 w1 w2
theorem idxT0 (a c : Int) (w : World) : (Instr.index 37 (.agg #[.int .i64 a, .int .i64 c]) (.int .i64 0)).run Try.prog w = .ok (.int .i64 a) w := by
  simp [Instr.index, run_underlying Try.underlying37, asIntOf, go_sem]
theorem idxT1 (a c : Int) (w : World) : (Instr.index 37 (.agg #[.int .i64 a, .int .i64 c]) (.int .i64 1)).run Try.prog w = .ok (.int .i64 c) w := by
  simp [Instr.index, run_underlying Try.underlying37, asIntOf, go_sem]
set_option maxRecDepth 100000 in
set_option maxHeartbeats 8000000 in
theorem weigh_any (b : Ck) (p : Option Addr) (c : Nat) (w : World) (hv : HoldsOK b) (hb : BkOK b) (hcb : CB w b p) :
    Calls Try.prog 75 #[ckV b p c] w fun e w' => ∃ a w0 w1 w2, e = .returned (.int .i64 a) ∧ WeighIs b a w0 w1 w2 ∧ ∃ x, w' = ext w x := by
  have HV := Lib.hid hv
  have HBO := Lib.hid hb
  have HCW := Lib.hid hcb
  clear hv hb hcb
  unfold ckV
  go_enter Try.func75, Try.ntmps75
  go_upto_region 1 with fail
  generalize hV : World.alloc _ _ = V
  have hBV : Below w.heap.size w V := by rw [← hV]; (exact belA)
  have kc : Blk V w.heap.size 76 (ckcs b p c) := by rw [← hV]; exact Blk.new rfl
  have HBV := Lib.hid hBV
  have KC := Lib.hid kc
  have lc := kc.lt
  clear hV hBV
  unfold ckcs at kc
  have c0 := kc.cell 0
  have c1 := kc.cell 1
  have c2 := kc.cell 2
  have c3 := kc.cell 3
  have c4 := kc.cell 4
  have c5 := kc.cell 5
  have c6 := kc.cell 6
  have c7 := kc.cell 7
  have c8 := kc.cell 8
  have c9 := kc.cell 9
  simp only [List.size_toArray, List.length_cons, List.length_nil, Nat.reduceAdd, Nat.reduceLT, getElem?_pos, List.getElem_toArray, List.getElem_cons_zero, List.getElem_cons_succ] at c0 c1 c2 c3 c4 c5 c6 c7 c8 c9
  clear kc
  have HA := Lib.hid (show ∀ W1, Below V.heap.size V W1 → Calls Try.prog 100 #[ckV b p c, .int .i64 0] W1 fun e w' => ∃ v, e = .returned (.int .i64 v) ∧ WorstIs b 0 (numsL b.l0 b.u0) v ∧ ∃ x, w' = ext W1 x from fun W1 h => worst_0 b p c W1 HV.out HBO.out (HCW.out.bel (HBV.out.trans (h.mono HBV.out.size))))
  go_upto_region 2 with (go_at_call 100; refine (HA.out _ (Below.refl _ _)).mono ?_; rintro e w1 ⟨v0, rfl, hw0, y, hw⟩; have HW0 := Lib.hid hw0; have HB1 := Lib.hid (show Below V.heap.size V w1 by rw [hw]; exact below_ext _ _); clear hw hw0)
  clear c0 c1 c2 c3 c4 c5 c6 c7 c8 c9
  go_wp2_with fail
  go_loopw [3, 4, 11] (fun u3 u4 i wr => ∃ (k : Nat) (bk cl : Int), k ≤ 2 ∧ u3 = .int .i64 bk ∧ u4 = .int .i64 cl ∧ i = .int .i64 k ∧ Hid (Below V.heap.size V wr) ∧ Hid ((k = 0 → bk = 0 ∧ cl = v0) ∧ (k = 1 → ∃ v1, WorstIs b 1 (numsL b.l1 b.u1) v1 ∧ bk = (if v1 < v0 then 1 else 0) ∧ cl = (if v1 < v0 then v1 else v0)) ∧ (k = 2 → ∃ v1 v2, WorstIs b 1 (numsL b.l1 b.u1) v1 ∧ WorstIs b 2 (numsL b.l2 b.u2) v2 ∧ bk = weighN v0 v1 v2))) (fun _ _ i _ => 2 - (intOf i).toNat)
  case atStart => exact ⟨0, 0, v0, by omega, rfl, rfl, rfl, HB1, Lib.hid ⟨fun _ => ⟨rfl, rfl⟩, fun h => by omega, fun h => by omega⟩⟩
  case round =>
    obtain ⟨k, bk, cl, hk, rfl, rfl, rfl, HB, HK⟩ := hrel
    have KW := Lib.hid (KC.out.bel HB.out)
    have kc := KW.out
    have lc := kc.lt
    unfold ckcs at kc
    have c0 := kc.cell 0
    have c1 := kc.cell 1
    have c2 := kc.cell 2
    have c3 := kc.cell 3
    have c4 := kc.cell 4
    have c5 := kc.cell 5
    have c6 := kc.cell 6
    have c7 := kc.cell 7
    have c8 := kc.cell 8
    have c9 := kc.cell 9
    simp only [List.size_toArray, List.length_cons, List.length_nil, Nat.reduceAdd, Nat.reduceLT, getElem?_pos, List.getElem_toArray, List.getElem_cons_zero, List.getElem_cons_succ] at c0 c1 c2 c3 c4 c5 c6 c7 c8 c9
    clear kc
    have HCX := Lib.hid (HCW.out.bel (HBV.out.trans (HB.out.mono HBV.out.size)))
    have hzB := HB.out.size
    have hi0 := idxT0 1 2
    have hi1 := idxT1 1 2
    rcases (show k = 0 ∨ k = 1 ∨ k = 2 by omega) with rfl | rfl | rfl
    · obtain ⟨rfl, rfl⟩ := HK.out.1 rfl
      go_wp2_with fail
      go_at_call 100
      refine (worst_1 b p c _ HV.out HBO.out HCX.out).mono ?_
      rintro e w2 ⟨v1, rfl, hw1, y2, hw⟩
      have HW1 := Lib.hid hw1
      have HB2 := Lib.hid (show Below V.heap.size V w2 by rw [hw]; exact HB.out.trans ((below_ext _ _).mono hzB))
      clear hw hw1 c0 c1 c2 c3 c4 c5 c6 c7 c8 c9
      by_cases hlt : v1 < cl
      case' pos =>
        have hd : decide (v1 < cl) = true := decide_eq_true hlt
        have E1 := Lib.hid (show (1 : Int) = (if v1 < cl then 1 else 0) from (if_pos hlt).symm)
        have E2 := Lib.hid (show v1 = (if v1 < cl then v1 else cl) from (if_pos hlt).symm)
      case' neg =>
        have hd : decide (v1 < cl) = false := decide_eq_false hlt
        have E1 := Lib.hid (show (0 : Int) = (if v1 < cl then 1 else 0) from (if_neg hlt).symm)
        have E2 := Lib.hid (show cl = (if v1 < cl then v1 else cl) from (if_neg hlt).symm)
      all_goals
        go_wp2_with fail
        go_roundw
        case rel => exact ⟨1, _, _, by omega, rfl, rfl, by go_num, HB2, Lib.hid ⟨fun h => by omega, fun _ => ⟨v1, HW1.out, E1.out, E2.out⟩, fun h => by omega⟩⟩
        case measure => simp [intOf]
    · obtain ⟨v1, hw1, rfl, rfl⟩ := HK.out.2.1 rfl
      have HW1 := Lib.hid hw1
      clear hw1
      obtain ⟨bk, hbk⟩ : ∃ x : Int, (if v1 < v0 then 1 else 0) = x := ⟨_, rfl⟩
      obtain ⟨cl, hcl⟩ : ∃ x : Int, (if v1 < v0 then v1 else v0) = x := ⟨_, rfl⟩
      have HBK := Lib.hid hbk
      have HCL := Lib.hid hcl
      rw [hbk, hcl]
      clear hbk hcl
      go_wp2_with fail
      go_at_call 100
      refine (worst_2 b p c _ HV.out HBO.out HCX.out).mono ?_
      rintro e w2 ⟨v2, rfl, hw2, y2, hw⟩
      have HW2 := Lib.hid hw2
      have HB2 := Lib.hid (show Below V.heap.size V w2 by rw [hw]; exact HB.out.trans ((below_ext _ _).mono hzB))
      clear hw hw2 c0 c1 c2 c3 c4 c5 c6 c7 c8 c9
      by_cases hlt : v2 < cl
      case' pos =>
        have hd : decide (v2 < cl) = true := decide_eq_true hlt
        have E1 := Lib.hid (show (2 : Int) = weighN v0 v1 v2 by unfold weighN; rw [HCL.out, if_pos hlt])
      case' neg =>
        have hd : decide (v2 < cl) = false := decide_eq_false hlt
        have E1 := Lib.hid (show bk = weighN v0 v1 v2 by unfold weighN; rw [HCL.out, HBK.out, if_neg hlt])
      all_goals
        go_wp2_with fail
        go_roundw
        case rel => exact ⟨2, _, _, by omega, rfl, rfl, by go_num, HB2, Lib.hid ⟨fun h => by omega, fun h => by omega, fun _ => ⟨v1, v2, HW1.out, HW2.out, E1.out⟩⟩⟩
        case measure => simp [intOf]
    · obtain ⟨v1, v2, hw1, hw2, rfl⟩ := HK.out.2.2 rfl
      have HW1 := Lib.hid hw1
      have HW2 := Lib.hid hw2
      clear hw1 hw2 c0 c1 c2 c3 c4 c5 c6 c7 c8 c9
      go_wp2_with fail
      go_ret
      exact ⟨_, rfl, ⟨v0, v1, v2, ⟨HW0.out, HW1.out, HW2.out, rfl⟩⟩, ext_of (HBV.out.trans (HB.out.mono HBV.out.size))⟩
end Go.Proofs.Ytpiadbdkiibdbaa

