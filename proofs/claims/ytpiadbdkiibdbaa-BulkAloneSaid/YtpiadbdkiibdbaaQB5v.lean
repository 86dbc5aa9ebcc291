/- Contracts of package bulk: all that measures can hold, gone through (fill at the kinds 2, 1 and 0). Written by gen_b5v.py. -/
import Derived.Test.YtpiadbdkiibdbaaQB5t
set_option linter.unusedSimpArgs false
set_option linter.unusedVariables false
namespace Go.Proofs.Ytpiadbdkiibdbaa
open Go Go.RowKit Go.Shelf
attribute [local go_sem] Oper.semAt_some frozen_alloc_lt
theorem flat_prefix {α β : Type} {f : α → List β} {l m : List α} (h : l <+: m) : l.flatMap f <+: m.flatMap f := by
  obtain ⟨x, rfl⟩ := h
  rw [List.flatMap_append]
  exact ⟨_, rfl⟩
theorem app_prefix {β : Type} {a l m t : List β} (h : l <+: m) (ht : a ++ m <+: t) : a ++ l <+: t := by
  obtain ⟨x, rfl⟩ := h
  obtain ⟨y, rfl⟩ := ht
  exact ⟨x ++ y, by simp⟩
theorem PrivM.ofNew {M O : Nat → Prop} {A B C : World} (h1 : Below A.heap.size A B) (h2 : PrivM M B C) (hm : ∀ k, M k → O k ∨ A.heap.size ≤ k) : PrivM O A C :=
  ⟨h2.os.trans h1.os, h2.tape.trans h1.tape, h2.output.trans h1.output, Nat.le_trans h1.size h2.size, fun k hk hn => (h2.block k (Nat.lt_of_lt_of_le hk h1.size) (fun e => by rcases hm k e with h | h; exact hn h; omega)).trans (h1.block k hk)⟩
/-- What is known of what measures can hold. -/
def HoldsOK (b : Ck) : Prop := ∀ k, (1 ≤ b.lo k ∧ b.lo k ≤ 9) ∧ 1 ≤ b.hi k ∧ b.hi k ≤ 9
set_option maxRecDepth 100000 in
set_option maxHeartbeats 8000000 in
theorem fill_2 (b : Ck) (p : Option Addr) (c yb cb fb l n z : Nat) (O : Nat → Prop) (J Jx : List Ms → World → Prop) (tot pre0 : List Ms) (m : Ms) (W : World) (hz : z ≤ W.heap.size) (hJ : Low z J) (hJx : Low z Jx)
    (hY : ∀ mm pre x A, z ≤ A.heap.size → pre ++ [x] <+: tot → J pre A → YieldAt Fence.wide mm Try.prog l (encM b p c x) A fun e B =>
      (e = .returned (.bool true) ∧ J (pre ++ [x]) B ∧ PrivM O A B) ∨ (e = .returned (.bool false) ∧ Jx (pre ++ [x]) B ∧ PrivM O A B))
    (hO : ∀ k, O k → k < z) (hF : FillAt W b p c yb cb fb l) (hzF : z ≤ yb ∧ z ≤ cb ∧ z ≤ fb) (hv : HoldsOK b) (hp : pre0 ++ fillR b 1 m <+: tot) (h0 : J pre0 W) :
    CallsIn Fence.wide n Try.prog 119 #[.int .i64 2, msV m, .pointer (some ⟨yb, 0, none⟩), .pointer (some ⟨cb, 0, none⟩), .pointer (some ⟨fb, 0, none⟩)] W (FillPost O J Jx tot pre0 (fillR b 1 m) W) := by
  have HV := Lib.hid hv
  have HJ := Lib.hid hJ
  have HJx := Lib.hid hJx
  have HY := Lib.hid hY
  have HF := Lib.hid hF
  have HO := Lib.hid hO
  have HP := Lib.hid hp
  have H0 := Lib.hid h0
  have hlh := hv 2
  have hfy := hF.y.lt
  have hfc := hF.c.lt
  have hff := hF.f.lt
  have hzy := hzF.1
  have hzc := hzF.2.1
  have hzf := hzF.2.2
  clear hzF
  simp only [Ck.lo, Ck.hi] at hlh
  clear hJ hJx hY hF hO hp h0 hv
  unfold msV
  refine callsIn_of_wp_marks Try.func119 rfl trivial ?_ rfl
  simp only [Try.ntmps119, List.size_toArray, List.length_cons, List.length_nil, Nat.reduceAdd, Nat.reduceSub, Array.replicate_succ, Array.replicate_zero, List.push_toArray, List.append_toArray, List.nil_append, List.cons_append]
  refine wpIn_wide.2 ?_
  go_upto_region 3 with fail
  generalize hV : World.alloc _ _ = V
  have hBV : Below W.heap.size W V := by rw [← hV]; (exact belC)
  have hF := HF.out.bel hBV
  have k5 : Blk V W.heap.size 3 #[.int .i64 2] := by rw [← hV]; exact ((Blk.new rfl).alloc _).alloc _
  have k6 : Blk V (W.heap.size + 1) 106 #[.int .i64 m.a, .int .i64 m.b, .int .i64 m.c] := by rw [← hV]; exact (Blk.new (by simp)).alloc _
  have k7 : Blk V (W.heap.size + 1 + 1) 4 #[.bool false] := by rw [← hV]; exact Blk.new (by simp)
  have hc0 := hF.c
  have lc := hc0.lt
  unfold ckcs at hc0
  have c0 := hc0.cell 0
  have c1 := hc0.cell 1
  have c2 := hc0.cell 2
  have c3 := hc0.cell 3
  have c4 := hc0.cell 4
  have c5 := hc0.cell 5
  have c6 := hc0.cell 6
  have c7 := hc0.cell 7
  have c8 := hc0.cell 8
  have c9 := hc0.cell 9
  simp only [List.size_toArray, List.length_cons, List.length_nil, Nat.reduceAdd, Nat.reduceLT, getElem?_pos, List.getElem_toArray, List.getElem_cons_zero, List.getElem_cons_succ] at c0 c1 c2 c3 c4 c5 c6 c7 c8 c9
  have s0 := Blk.c1 k5
  have l5 := k5.lt
  have o6 : W.heap.size < W.heap.size + 1 := by omega
  have o7 : W.heap.size + 1 < W.heap.size + 1 + 1 := by omega
  have l7 := k7.lt
  have HZ0 := Lib.hid hz
  have K5 := Lib.hid k5
  have K6 := Lib.hid k6
  have K7 := Lib.hid k7
  have HBV := Lib.hid hBV
  have HFV := Lib.hid hF
  have HJV := Lib.hid (HJ.out _ _ _ H0.out hz (hBV.mono hz))
  have HVZ := Lib.hid hBV.size
  clear hV hBV hc0 hF k5 k6 k7 hz
  generalize W.heap.size + 1 + 1 = g7 at *
  generalize W.heap.size + 1 = g6 at *
  go_wp2_with (go_at_call 117; refine (numbers_any _ _ _).mono ?_; rintro e w2 ⟨g, rfl, k1, k2, y, hw⟩; have HB2 := Lib.hid (show Below V.heap.size V w2 by rw [hw]; (exact belA)); have HG := Lib.hid (show Blk w2 g 23 #[.int .i64 b.l2, .int .i64 b.u2] from k2); have hgz : V.heap.size ≤ g := (by first | exact k1 | (simp at k1; omega)); clear hw k1 k2)
  clear c0 c1 c2 c3 c4 c5 c6 c7 c8 c9 s0 lc
  have hz2 := HB2.out.size
  have hgl2 := HG.out.lt
  have hz0 := HZ0.out
  have F2 := Lib.hid (HFV.out.bel HB2.out)
  have K52 := Lib.hid (K5.out.bel HB2.out)
  have K62 := Lib.hid (K6.out.bel HB2.out)
  have K72 := Lib.hid (K7.out.bel HB2.out)
  have fy := F2.out.y.lt
  have fc := F2.out.c.lt
  have ff := F2.out.f.lt
  have hseq := numbers1_in g b.l2 b.u2 (fun j => (O j ∨ j = g6 ∨ j = g7) ∨ j = w2.heap.size + 1) w2 HG.out (by omega) (by omega) (fun j hj => by
    rcases hj with (hj | rfl | rfl) | rfl
    · have := HO.out j hj; omega
    · omega
    · omega
    · omega)
  refine (wpIn_wide (n := n)).1 ?_
  refine wpIn_rangeFunc_0 (gf := 129) (fb := #[]) (lb := #[.pointer (some ⟨g, 0, none⟩)]) rfl (enters_of Try.func129 (by kernel_rfl) rfl)
    (fun j => O j ∨ j = g6 ∨ j = g7) (fun j hj => by rcases hj with hj | rfl | rfl; (have := HO.out j hj; omega); omega; omega) hseq (Below.refl _ _) (fun _ => rfl)
    (fun pre A => J (pre0 ++ pre.flatMap fun y => fillR b 0 ⟨m.a, m.b, y⟩) A ∧ FillAt A b p c yb cb fb l ∧ Blk A W.heap.size 3 #[.int .i64 2] ∧ (∃ u, Blk A g6 106 #[.int .i64 m.a, .int .i64 m.b, .int .i64 u]) ∧ Blk A g7 4 #[.bool false])
    (fun cc pre A => cc = .ret ∧ (∃ pre', pre' <+: tot ∧ Jx pre' A) ∧ Blk A g7 4 #[.bool false])
    (fun pre x a' A => ∃ u9 u10 u11 u12 u13 u14 u15 u16 u17 u18 u19 u20 u21 u22 u23 u24 u25 u26 u27 u28 u29 u30 u31 : Value, a' = { tmps := #[.int .i64 2, .agg #[.int .i64 m.a, .int .i64 m.b, .int .i64 m.c], .pointer (some ⟨yb, 0, none⟩), .pointer (some ⟨cb, 0, none⟩), .pointer (some ⟨fb, 0, none⟩), .pointer (some ⟨W.heap.size, 0, none⟩), .pointer (some ⟨g6, 0, none⟩), .pointer (some ⟨g7, 0, none⟩), .int .i64 x, u9, u10, u11, u12, u13, u14, u15, u16, u17, u18, u19, u20, u21, u22, u23, u24, u25, u26, u27, u28, u29, u30, u31], defers := [] })
    ?hI ?hIx ?hAx ?h0 ?hassign ?hbody ?hdone ?hstop
  case hI =>
    rintro pre A C ⟨j0, j1, j2, ⟨u, j3⟩, j4⟩ hz hp
    exact ⟨HJ.out _ _ _ j0 (by omega) (hp.mono (by omega)), ⟨(hp.block _ (by omega)).trans j1.y, (hp.block _ (by omega)).trans j1.c, (hp.block _ (by omega)).trans j1.f⟩, (hp.block _ (by omega)).trans j2, ⟨u, (hp.block _ (by omega)).trans j3⟩, (hp.block _ (by omega)).trans j4⟩
  case hIx =>
    rintro cc pre A C ⟨rfl, ⟨pre', j0, j1⟩, j2⟩ hz hp
    exact ⟨rfl, ⟨pre', j0, HJx.out _ _ _ j1 (by omega) (hp.mono (by omega))⟩, (hp.block _ (by omega)).trans j2⟩
  case hAx => rintro pre x a' A C ⟨u9, u10, u11, u12, u13, u14, u15, u16, u17, u18, u19, u20, u21, u22, u23, u24, u25, u26, u27, u28, u29, u30, u31, rfl⟩ hp; exact ⟨u9, u10, u11, u12, u13, u14, u15, u16, u17, u18, u19, u20, u21, u22, u23, u24, u25, u26, u27, u28, u29, u30, u31, rfl⟩
  case h0 =>
    intro W6 hb6
    have hb7 := HB2.out.trans (hb6.mono hz2)
    have hVZ := HVZ.out
    refine ⟨?_, ⟨(hb6.block _ (by omega)).trans F2.out.y, (hb6.block _ (by omega)).trans F2.out.c, (hb6.block _ (by omega)).trans F2.out.f⟩, (hb6.block _ (by omega)).trans K52.out, ⟨_, (hb6.block _ (by omega)).trans K62.out⟩, (hb6.block _ (by omega)).trans K72.out⟩
    rw [List.flatMap_nil, List.append_nil]
    exact HJ.out _ _ _ HJV.out (by omega) (hb7.mono (by omega))
  case hassign =>
    intro mm l' pre x W' hz hsp hi'
    exact wpIn_assign ⟨⟨_, _, _, _, _, _, _, _, _, _, _, _, _, _, _, _, _, _, _, _, _, _, _, by simp [go_sem, Act.put, Act.eval]; exact ⟨rfl, rfl, rfl, rfl, rfl, rfl, rfl, rfl, rfl, rfl, rfl, rfl, rfl, rfl, rfl, rfl, rfl, rfl, rfl, rfl, rfl, rfl, rfl⟩⟩, Below.refl _ _⟩
  case hbody =>
    rintro mm l' pre x a' W' hz hpx ⟨j0, j1, j2, ⟨u, j3⟩, j4⟩ ⟨u9, u10, u11, u12, u13, u14, u15, u16, u17, u18, u19, u20, u21, u22, u23, u24, u25, u26, u27, u28, u29, u30, u31, rfl⟩
    have hVZ := HVZ.out
    have HPX := Lib.hid (show (pre0 ++ pre.flatMap fun y => fillR b 0 ⟨m.a, m.b, y⟩) ++ fillR b 0 ⟨m.a, m.b, x⟩ <+: tot from by
      have h1 := flat_prefix (f := fun y => fillR b 0 ⟨m.a, m.b, y⟩) hpx
      rw [List.flatMap_append, List.flatMap_cons, List.flatMap_nil, List.append_nil] at h1
      rw [List.append_assoc]
      exact app_prefix h1 HP.out)
    have J0 := Lib.hid j0
    have J1 := Lib.hid j1
    have J2 := Lib.hid j2
    have J4 := Lib.hid j4
    have J3 := Lib.hid j3
    have s0 := Blk.c1 j2
    obtain ⟨t0, t1, t2⟩ := Blk.c3 j3
    obtain ⟨f0, f1, f2⟩ := Blk.f3 j3
    have y0 := Blk.c1 j1.f
    have l5' := j2.lt
    have l6' := j3.lt
    have l7' := j4.lt
    have lf := j1.f.lt
    clear j0 j1 j2 j3 j4 hseq hpx
    have hF5 : ∀ v, FillAt (W'.setCell ⟨g6, 2, none⟩ v) b p c yb cb fb l := fun v => ⟨(Below.heap_setCell _ _ _ _ (by dsimp only; omega)).trans J1.out.y, (Below.heap_setCell _ _ _ _ (by dsimp only; omega)).trans J1.out.c, (Below.heap_setCell _ _ _ _ (by dsimp only; omega)).trans J1.out.f⟩
    have HF5 := Lib.hid hF5
    have HJ5 := Lib.hid (show ∀ v, J (pre0 ++ pre.flatMap fun y => fillR b 0 ⟨m.a, m.b, y⟩) (W'.setCell ⟨g6, 2, none⟩ v) from fun v => HJ.out _ _ _ J0.out (by omega) ((Below.refl _ _).setCell (by dsimp only; omega) _))
    clear hF5
    gi_wp2_with fail
    gi_at_call 119
    refine (CallsIn.inRound _ (fill_3 b p c yb cb fb l _ z O J Jx tot _ ⟨m.a, m.b, x⟩ _ (by simp; omega) HJ.out HJx.out HY.out HO.out (HF5.out _) HPX.out (HJ5.out _))).mono ?_
    rintro e B (⟨rfl, hJB, hS⟩ | ⟨rfl, ⟨pre', hP', hJB⟩, hS⟩)
    · have HS := Lib.hid ((PrivM.setCell (M := fun j => O j ∨ j = g6 ∨ j = g7) W' (.inr (.inl rfl)) 2 (.int .i64 x)).trans (hS.mono (fun k h => .inl h)))
      have HJB := Lib.hid hJB
      have HFB := Lib.hid (show FillAt B b p c yb cb fb l from ⟨(HS.out.block _ (by omega) (by rintro (h | h | h); (have := HO.out _ h; omega); omega; omega)).trans J1.out.y, (HS.out.block _ (by omega) (by rintro (h | h | h); (have := HO.out _ h; omega); omega; omega)).trans J1.out.c, (HS.out.block _ (by omega) (by rintro (h | h | h); (have := HO.out _ h; omega); omega; omega)).trans J1.out.f⟩)
      have HK5 := Lib.hid ((HS.out.block _ l5' (by rintro (h | h | h); (have := HO.out _ h; omega); omega; omega)).trans J2.out)
      have HK6 := Lib.hid ((hS.block _ (by simpa using l6') (fun h => by have := HO.out _ h; omega)).trans (J3.out.set 2 (.int .i64 x)))
      have HK7 := Lib.hid ((hS.block _ (by simpa using l7') (fun h => by have := HO.out _ h; omega)).trans ((Below.heap_setCell W' ⟨g6, 2, none⟩ (.int .i64 x) _ (by dsimp only; omega)).trans J4.out))
      clear hS hJB s0 t0 t1 t2 f0 f1 f2 y0 l5' l6' l7' lf
      gi_wp2_with fail
      refine ⟨HS.out, ?_, HFB.out, HK5.out, ⟨x, HK6.out⟩, HK7.out⟩
      rw [List.flatMap_append, List.flatMap_cons, List.flatMap_nil, List.append_nil, ← List.append_assoc]
      exact HJB.out
    · have HS := Lib.hid ((PrivM.setCell (M := fun j => O j ∨ j = g6 ∨ j = g7) W' (.inr (.inl rfl)) 2 (.int .i64 x)).trans (hS.mono (fun k h => .inl h)))
      have HJB := Lib.hid hJB
      have HP' := Lib.hid hP'
      have k7 := (hS.block _ (by simpa using l7') (fun h => by have := HO.out _ h; omega)).trans ((Below.heap_setCell W' ⟨g6, 2, none⟩ (.int .i64 x) _ (by dsimp only; omega)).trans J4.out)
      have HK7 := Lib.hid (show Blk B g7 4 #[.bool false] from k7)
      have hsB := HS.out.size
      clear hS hJB hP' k7 s0 t0 t1 t2 f0 f1 f2 y0 l5' l6' l7' lf
      have d0 := Blk.c1 HK7.out
      have f0 := HK7.out.frozen 0
      have l7 := HK7.out.lt
      gi_wp2_with fail
      exact ⟨HS.out.trans (PrivM.setCell (M := fun j => O j ∨ j = g6 ∨ j = g7) _ (.inr (.inr rfl)) _ _), rfl, ⟨_, HP'.out, HJx.out _ _ _ HJB.out (by omega) ((Below.refl _ _).setCell (by dsimp only; omega) _)⟩, by simpa using HK7.out.set 0 (.bool false)⟩
  case hdone =>
    rintro D xs W' rfl hz rfl ⟨j0, j1, j2, ⟨u, j3⟩, j4⟩ hp hD'
    have J0 := Lib.hid j0
    have J4 := Lib.hid j4
    have HD := Lib.hid hD'
    have HPR := Lib.hid (show PrivM O W W' from PrivM.ofNew (HBV.out.trans (HB2.out.mono HVZ.out)) hp (by rintro j (h | rfl | rfl); exact .inl h; exact .inr (by omega); exact .inr (by omega)))
    have c0 := Blk.c1 j4
    have f0 := j4.frozen 0
    have l7' := j4.lt
    clear j0 j1 j2 j3 j4 hp hseq hD'
    gi_wp2_with fail
    go_wp2_with fail
    have hG : Blk (W'.setCell ⟨g7, 0, none⟩ (.bool true)) g7 4 #[.bool true] := by simpa using J4.out.set 0 (.bool true)
    have hPG : PrivM O W (W'.setCell ⟨g7, 0, none⟩ (.bool true)) := PrivM.setNew HPR.out (by omega) _ _
    have hDG : (W'.setCell ⟨g7, 0, none⟩ (.bool true)).heap[w2.heap.size]? = some (.deferred (some [])) := (Below.heap_setCell _ _ _ _ (by dsimp only; omega)).trans HD.out
    have hJG := HJ.out _ _ _ J0.out (by omega) ((Below.refl z W').setCell (p := ⟨g7, 0, none⟩) (by dsimp only; omega) (.bool true))
    have hzG : w2.heap.size + 2 ≤ (W'.setCell ⟨g7, 0, none⟩ (.bool true)).heap.size := by simpa using hz
    generalize W'.setCell ⟨g7, 0, none⟩ (.bool true) = F at *
    have hVZ := HVZ.out
    refine ⟨by simp, .inl ⟨_, _, rfl, run_takeDeferred hDG, ?_⟩⟩
    have hH : Blk (F.putObj w2.heap.size (.deferred none)) g7 4 #[.bool true] := (World.putObj_heap_other (by omega)).trans hG
    have t0 := Blk.c1 hH
    refine ⟨.bool true, ?_, .inl ⟨rfl, ?_, ?_⟩⟩
    · simp [results, Try.results119, go_sem, t0]
    · exact HJ.out _ _ _ hJG (by omega) (below_putObj _ (by omega) _)
    · exact ⟨hPG.os, hPG.tape, hPG.output, by rw [World.putObj_size]; exact hPG.size, fun j hj hn => (World.putObj_heap_other (by omega)).trans (hPG.block j hj hn)⟩
  case hstop =>
    rintro D cc pre W' rfl hz hSp ⟨rfl, ⟨pre', j0, j1⟩, j4⟩ hp hD'
    have J0 := Lib.hid j0
    have J1 := Lib.hid j1
    have J4 := Lib.hid j4
    have HD := Lib.hid hD'
    have HPR := Lib.hid (show PrivM O W W' from PrivM.ofNew (HBV.out.trans (HB2.out.mono HVZ.out)) hp (by rintro j (h | rfl | rfl); exact .inl h; exact .inr (by omega); exact .inr (by omega)))
    have hVZ := HVZ.out
    clear j0 j1 j4 hp hseq hD'
    gi_wp2_with fail
    refine ⟨by simp, .inl ⟨_, _, rfl, run_takeDeferred HD.out, ?_⟩⟩
    have hH : Blk (W'.putObj w2.heap.size (.deferred none)) g7 4 #[.bool false] := (World.putObj_heap_other (by omega)).trans J4.out
    have t0 := Blk.c1 hH
    refine ⟨.bool false, ?_, .inr ⟨rfl, ⟨_, J0.out, ?_⟩, ?_⟩⟩
    · simp [results, Try.results119, go_sem, t0]
    · exact HJx.out _ _ _ J1.out (by omega) (below_putObj _ (by omega) _)
    · have hPG := HPR.out
      exact ⟨hPG.os, hPG.tape, hPG.output, by rw [World.putObj_size]; exact hPG.size, fun j hj hn => (World.putObj_heap_other (by omega)).trans (hPG.block j hj hn)⟩
set_option maxRecDepth 100000 in
set_option maxHeartbeats 8000000 in
theorem fill_1 (b : Ck) (p : Option Addr) (c yb cb fb l n z : Nat) (O : Nat → Prop) (J Jx : List Ms → World → Prop) (tot pre0 : List Ms) (m : Ms) (W : World) (hz : z ≤ W.heap.size) (hJ : Low z J) (hJx : Low z Jx)
    (hY : ∀ mm pre x A, z ≤ A.heap.size → pre ++ [x] <+: tot → J pre A → YieldAt Fence.wide mm Try.prog l (encM b p c x) A fun e B =>
      (e = .returned (.bool true) ∧ J (pre ++ [x]) B ∧ PrivM O A B) ∨ (e = .returned (.bool false) ∧ Jx (pre ++ [x]) B ∧ PrivM O A B))
    (hO : ∀ k, O k → k < z) (hF : FillAt W b p c yb cb fb l) (hzF : z ≤ yb ∧ z ≤ cb ∧ z ≤ fb) (hv : HoldsOK b) (hp : pre0 ++ fillR b 2 m <+: tot) (h0 : J pre0 W) :
    CallsIn Fence.wide n Try.prog 119 #[.int .i64 1, msV m, .pointer (some ⟨yb, 0, none⟩), .pointer (some ⟨cb, 0, none⟩), .pointer (some ⟨fb, 0, none⟩)] W (FillPost O J Jx tot pre0 (fillR b 2 m) W) := by
  have HV := Lib.hid hv
  have HJ := Lib.hid hJ
  have HJx := Lib.hid hJx
  have HY := Lib.hid hY
  have HF := Lib.hid hF
  have HO := Lib.hid hO
  have HP := Lib.hid hp
  have H0 := Lib.hid h0
  have hlh := hv 1
  have hfy := hF.y.lt
  have hfc := hF.c.lt
  have hff := hF.f.lt
  have hzy := hzF.1
  have hzc := hzF.2.1
  have hzf := hzF.2.2
  clear hzF
  simp only [Ck.lo, Ck.hi] at hlh
  clear hJ hJx hY hF hO hp h0 hv
  unfold msV
  refine callsIn_of_wp_marks Try.func119 rfl trivial ?_ rfl
  simp only [Try.ntmps119, List.size_toArray, List.length_cons, List.length_nil, Nat.reduceAdd, Nat.reduceSub, Array.replicate_succ, Array.replicate_zero, List.push_toArray, List.append_toArray, List.nil_append, List.cons_append]
  refine wpIn_wide.2 ?_
  go_upto_region 3 with fail
  generalize hV : World.alloc _ _ = V
  have hBV : Below W.heap.size W V := by rw [← hV]; (exact belC)
  have hF := HF.out.bel hBV
  have k5 : Blk V W.heap.size 3 #[.int .i64 1] := by rw [← hV]; exact ((Blk.new rfl).alloc _).alloc _
  have k6 : Blk V (W.heap.size + 1) 106 #[.int .i64 m.a, .int .i64 m.b, .int .i64 m.c] := by rw [← hV]; exact (Blk.new (by simp)).alloc _
  have k7 : Blk V (W.heap.size + 1 + 1) 4 #[.bool false] := by rw [← hV]; exact Blk.new (by simp)
  have hc0 := hF.c
  have lc := hc0.lt
  unfold ckcs at hc0
  have c0 := hc0.cell 0
  have c1 := hc0.cell 1
  have c2 := hc0.cell 2
  have c3 := hc0.cell 3
  have c4 := hc0.cell 4
  have c5 := hc0.cell 5
  have c6 := hc0.cell 6
  have c7 := hc0.cell 7
  have c8 := hc0.cell 8
  have c9 := hc0.cell 9
  simp only [List.size_toArray, List.length_cons, List.length_nil, Nat.reduceAdd, Nat.reduceLT, getElem?_pos, List.getElem_toArray, List.getElem_cons_zero, List.getElem_cons_succ] at c0 c1 c2 c3 c4 c5 c6 c7 c8 c9
  have s0 := Blk.c1 k5
  have l5 := k5.lt
  have o6 : W.heap.size < W.heap.size + 1 := by omega
  have o7 : W.heap.size + 1 < W.heap.size + 1 + 1 := by omega
  have l7 := k7.lt
  have HZ0 := Lib.hid hz
  have K5 := Lib.hid k5
  have K6 := Lib.hid k6
  have K7 := Lib.hid k7
  have HBV := Lib.hid hBV
  have HFV := Lib.hid hF
  have HJV := Lib.hid (HJ.out _ _ _ H0.out hz (hBV.mono hz))
  have HVZ := Lib.hid hBV.size
  clear hV hBV hc0 hF k5 k6 k7 hz
  generalize W.heap.size + 1 + 1 = g7 at *
  generalize W.heap.size + 1 = g6 at *
  go_wp2_with (go_at_call 117; refine (numbers_any _ _ _).mono ?_; rintro e w2 ⟨g, rfl, k1, k2, y, hw⟩; have HB2 := Lib.hid (show Below V.heap.size V w2 by rw [hw]; (exact belA)); have HG := Lib.hid (show Blk w2 g 23 #[.int .i64 b.l1, .int .i64 b.u1] from k2); have hgz : V.heap.size ≤ g := (by first | exact k1 | (simp at k1; omega)); clear hw k1 k2)
  clear c0 c1 c2 c3 c4 c5 c6 c7 c8 c9 s0 lc
  have hz2 := HB2.out.size
  have hgl2 := HG.out.lt
  have hz0 := HZ0.out
  have F2 := Lib.hid (HFV.out.bel HB2.out)
  have K52 := Lib.hid (K5.out.bel HB2.out)
  have K62 := Lib.hid (K6.out.bel HB2.out)
  have K72 := Lib.hid (K7.out.bel HB2.out)
  have fy := F2.out.y.lt
  have fc := F2.out.c.lt
  have ff := F2.out.f.lt
  have hseq := numbers1_in g b.l1 b.u1 (fun j => (O j ∨ j = g6 ∨ j = g7) ∨ j = w2.heap.size + 1) w2 HG.out (by omega) (by omega) (fun j hj => by
    rcases hj with (hj | rfl | rfl) | rfl
    · have := HO.out j hj; omega
    · omega
    · omega
    · omega)
  refine (wpIn_wide (n := n)).1 ?_
  refine wpIn_rangeFunc_0 (gf := 129) (fb := #[]) (lb := #[.pointer (some ⟨g, 0, none⟩)]) rfl (enters_of Try.func129 (by kernel_rfl) rfl)
    (fun j => O j ∨ j = g6 ∨ j = g7) (fun j hj => by rcases hj with hj | rfl | rfl; (have := HO.out j hj; omega); omega; omega) hseq (Below.refl _ _) (fun _ => rfl)
    (fun pre A => J (pre0 ++ pre.flatMap fun y => fillR b 1 ⟨m.a, y, m.c⟩) A ∧ FillAt A b p c yb cb fb l ∧ Blk A W.heap.size 3 #[.int .i64 1] ∧ (∃ u, Blk A g6 106 #[.int .i64 m.a, .int .i64 u, .int .i64 m.c]) ∧ Blk A g7 4 #[.bool false])
    (fun cc pre A => cc = .ret ∧ (∃ pre', pre' <+: tot ∧ Jx pre' A) ∧ Blk A g7 4 #[.bool false])
    (fun pre x a' A => ∃ u9 u10 u11 u12 u13 u14 u15 u16 u17 u18 u19 u20 u21 u22 u23 u24 u25 u26 u27 u28 u29 u30 u31 : Value, a' = { tmps := #[.int .i64 1, .agg #[.int .i64 m.a, .int .i64 m.b, .int .i64 m.c], .pointer (some ⟨yb, 0, none⟩), .pointer (some ⟨cb, 0, none⟩), .pointer (some ⟨fb, 0, none⟩), .pointer (some ⟨W.heap.size, 0, none⟩), .pointer (some ⟨g6, 0, none⟩), .pointer (some ⟨g7, 0, none⟩), .int .i64 x, u9, u10, u11, u12, u13, u14, u15, u16, u17, u18, u19, u20, u21, u22, u23, u24, u25, u26, u27, u28, u29, u30, u31], defers := [] })
    ?hI ?hIx ?hAx ?h0 ?hassign ?hbody ?hdone ?hstop
  case hI =>
    rintro pre A C ⟨j0, j1, j2, ⟨u, j3⟩, j4⟩ hz hp
    exact ⟨HJ.out _ _ _ j0 (by omega) (hp.mono (by omega)), ⟨(hp.block _ (by omega)).trans j1.y, (hp.block _ (by omega)).trans j1.c, (hp.block _ (by omega)).trans j1.f⟩, (hp.block _ (by omega)).trans j2, ⟨u, (hp.block _ (by omega)).trans j3⟩, (hp.block _ (by omega)).trans j4⟩
  case hIx =>
    rintro cc pre A C ⟨rfl, ⟨pre', j0, j1⟩, j2⟩ hz hp
    exact ⟨rfl, ⟨pre', j0, HJx.out _ _ _ j1 (by omega) (hp.mono (by omega))⟩, (hp.block _ (by omega)).trans j2⟩
  case hAx => rintro pre x a' A C ⟨u9, u10, u11, u12, u13, u14, u15, u16, u17, u18, u19, u20, u21, u22, u23, u24, u25, u26, u27, u28, u29, u30, u31, rfl⟩ hp; exact ⟨u9, u10, u11, u12, u13, u14, u15, u16, u17, u18, u19, u20, u21, u22, u23, u24, u25, u26, u27, u28, u29, u30, u31, rfl⟩
  case h0 =>
    intro W6 hb6
    have hb7 := HB2.out.trans (hb6.mono hz2)
    have hVZ := HVZ.out
    refine ⟨?_, ⟨(hb6.block _ (by omega)).trans F2.out.y, (hb6.block _ (by omega)).trans F2.out.c, (hb6.block _ (by omega)).trans F2.out.f⟩, (hb6.block _ (by omega)).trans K52.out, ⟨_, (hb6.block _ (by omega)).trans K62.out⟩, (hb6.block _ (by omega)).trans K72.out⟩
    rw [List.flatMap_nil, List.append_nil]
    exact HJ.out _ _ _ HJV.out (by omega) (hb7.mono (by omega))
  case hassign =>
    intro mm l' pre x W' hz hsp hi'
    exact wpIn_assign ⟨⟨_, _, _, _, _, _, _, _, _, _, _, _, _, _, _, _, _, _, _, _, _, _, _, by simp [go_sem, Act.put, Act.eval]; exact ⟨rfl, rfl, rfl, rfl, rfl, rfl, rfl, rfl, rfl, rfl, rfl, rfl, rfl, rfl, rfl, rfl, rfl, rfl, rfl, rfl, rfl, rfl, rfl⟩⟩, Below.refl _ _⟩
  case hbody =>
    rintro mm l' pre x a' W' hz hpx ⟨j0, j1, j2, ⟨u, j3⟩, j4⟩ ⟨u9, u10, u11, u12, u13, u14, u15, u16, u17, u18, u19, u20, u21, u22, u23, u24, u25, u26, u27, u28, u29, u30, u31, rfl⟩
    have hVZ := HVZ.out
    have HPX := Lib.hid (show (pre0 ++ pre.flatMap fun y => fillR b 1 ⟨m.a, y, m.c⟩) ++ fillR b 1 ⟨m.a, x, m.c⟩ <+: tot from by
      have h1 := flat_prefix (f := fun y => fillR b 1 ⟨m.a, y, m.c⟩) hpx
      rw [List.flatMap_append, List.flatMap_cons, List.flatMap_nil, List.append_nil] at h1
      rw [List.append_assoc]
      exact app_prefix h1 HP.out)
    have J0 := Lib.hid j0
    have J1 := Lib.hid j1
    have J2 := Lib.hid j2
    have J4 := Lib.hid j4
    have J3 := Lib.hid j3
    have s0 := Blk.c1 j2
    obtain ⟨t0, t1, t2⟩ := Blk.c3 j3
    obtain ⟨f0, f1, f2⟩ := Blk.f3 j3
    have y0 := Blk.c1 j1.f
    have l5' := j2.lt
    have l6' := j3.lt
    have l7' := j4.lt
    have lf := j1.f.lt
    clear j0 j1 j2 j3 j4 hseq hpx
    have hF5 : ∀ v, FillAt (W'.setCell ⟨g6, 1, none⟩ v) b p c yb cb fb l := fun v => ⟨(Below.heap_setCell _ _ _ _ (by dsimp only; omega)).trans J1.out.y, (Below.heap_setCell _ _ _ _ (by dsimp only; omega)).trans J1.out.c, (Below.heap_setCell _ _ _ _ (by dsimp only; omega)).trans J1.out.f⟩
    have HF5 := Lib.hid hF5
    have HJ5 := Lib.hid (show ∀ v, J (pre0 ++ pre.flatMap fun y => fillR b 1 ⟨m.a, y, m.c⟩) (W'.setCell ⟨g6, 1, none⟩ v) from fun v => HJ.out _ _ _ J0.out (by omega) ((Below.refl _ _).setCell (by dsimp only; omega) _))
    clear hF5
    gi_wp2_with fail
    gi_at_call 119
    refine (CallsIn.inRound _ (fill_2 b p c yb cb fb l _ z O J Jx tot _ ⟨m.a, x, m.c⟩ _ (by simp; omega) HJ.out HJx.out HY.out HO.out (HF5.out _) ⟨hzy, hzc, hzf⟩ HV.out HPX.out (HJ5.out _))).mono ?_
    rintro e B (⟨rfl, hJB, hS⟩ | ⟨rfl, ⟨pre', hP', hJB⟩, hS⟩)
    · have HS := Lib.hid ((PrivM.setCell (M := fun j => O j ∨ j = g6 ∨ j = g7) W' (.inr (.inl rfl)) 1 (.int .i64 x)).trans (hS.mono (fun k h => .inl h)))
      have HJB := Lib.hid hJB
      have HFB := Lib.hid (show FillAt B b p c yb cb fb l from ⟨(HS.out.block _ (by omega) (by rintro (h | h | h); (have := HO.out _ h; omega); omega; omega)).trans J1.out.y, (HS.out.block _ (by omega) (by rintro (h | h | h); (have := HO.out _ h; omega); omega; omega)).trans J1.out.c, (HS.out.block _ (by omega) (by rintro (h | h | h); (have := HO.out _ h; omega); omega; omega)).trans J1.out.f⟩)
      have HK5 := Lib.hid ((HS.out.block _ l5' (by rintro (h | h | h); (have := HO.out _ h; omega); omega; omega)).trans J2.out)
      have HK6 := Lib.hid ((hS.block _ (by simpa using l6') (fun h => by have := HO.out _ h; omega)).trans (J3.out.set 1 (.int .i64 x)))
      have HK7 := Lib.hid ((hS.block _ (by simpa using l7') (fun h => by have := HO.out _ h; omega)).trans ((Below.heap_setCell W' ⟨g6, 1, none⟩ (.int .i64 x) _ (by dsimp only; omega)).trans J4.out))
      clear hS hJB s0 t0 t1 t2 f0 f1 f2 y0 l5' l6' l7' lf
      gi_wp2_with fail
      refine ⟨HS.out, ?_, HFB.out, HK5.out, ⟨x, HK6.out⟩, HK7.out⟩
      rw [List.flatMap_append, List.flatMap_cons, List.flatMap_nil, List.append_nil, ← List.append_assoc]
      exact HJB.out
    · have HS := Lib.hid ((PrivM.setCell (M := fun j => O j ∨ j = g6 ∨ j = g7) W' (.inr (.inl rfl)) 1 (.int .i64 x)).trans (hS.mono (fun k h => .inl h)))
      have HJB := Lib.hid hJB
      have HP' := Lib.hid hP'
      have k7 := (hS.block _ (by simpa using l7') (fun h => by have := HO.out _ h; omega)).trans ((Below.heap_setCell W' ⟨g6, 1, none⟩ (.int .i64 x) _ (by dsimp only; omega)).trans J4.out)
      have HK7 := Lib.hid (show Blk B g7 4 #[.bool false] from k7)
      have hsB := HS.out.size
      clear hS hJB hP' k7 s0 t0 t1 t2 f0 f1 f2 y0 l5' l6' l7' lf
      have d0 := Blk.c1 HK7.out
      have f0 := HK7.out.frozen 0
      have l7 := HK7.out.lt
      gi_wp2_with fail
      exact ⟨HS.out.trans (PrivM.setCell (M := fun j => O j ∨ j = g6 ∨ j = g7) _ (.inr (.inr rfl)) _ _), rfl, ⟨_, HP'.out, HJx.out _ _ _ HJB.out (by omega) ((Below.refl _ _).setCell (by dsimp only; omega) _)⟩, by simpa using HK7.out.set 0 (.bool false)⟩
  case hdone =>
    rintro D xs W' rfl hz rfl ⟨j0, j1, j2, ⟨u, j3⟩, j4⟩ hp hD'
    have J0 := Lib.hid j0
    have J4 := Lib.hid j4
    have HD := Lib.hid hD'
    have HPR := Lib.hid (show PrivM O W W' from PrivM.ofNew (HBV.out.trans (HB2.out.mono HVZ.out)) hp (by rintro j (h | rfl | rfl); exact .inl h; exact .inr (by omega); exact .inr (by omega)))
    have c0 := Blk.c1 j4
    have f0 := j4.frozen 0
    have l7' := j4.lt
    clear j0 j1 j2 j3 j4 hp hseq hD'
    gi_wp2_with fail
    go_wp2_with fail
    have hG : Blk (W'.setCell ⟨g7, 0, none⟩ (.bool true)) g7 4 #[.bool true] := by simpa using J4.out.set 0 (.bool true)
    have hPG : PrivM O W (W'.setCell ⟨g7, 0, none⟩ (.bool true)) := PrivM.setNew HPR.out (by omega) _ _
    have hDG : (W'.setCell ⟨g7, 0, none⟩ (.bool true)).heap[w2.heap.size]? = some (.deferred (some [])) := (Below.heap_setCell _ _ _ _ (by dsimp only; omega)).trans HD.out
    have hJG := HJ.out _ _ _ J0.out (by omega) ((Below.refl z W').setCell (p := ⟨g7, 0, none⟩) (by dsimp only; omega) (.bool true))
    have hzG : w2.heap.size + 2 ≤ (W'.setCell ⟨g7, 0, none⟩ (.bool true)).heap.size := by simpa using hz
    generalize W'.setCell ⟨g7, 0, none⟩ (.bool true) = F at *
    have hVZ := HVZ.out
    refine ⟨by simp, .inl ⟨_, _, rfl, run_takeDeferred hDG, ?_⟩⟩
    have hH : Blk (F.putObj w2.heap.size (.deferred none)) g7 4 #[.bool true] := (World.putObj_heap_other (by omega)).trans hG
    have t0 := Blk.c1 hH
    refine ⟨.bool true, ?_, .inl ⟨rfl, ?_, ?_⟩⟩
    · simp [results, Try.results119, go_sem, t0]
    · exact HJ.out _ _ _ hJG (by omega) (below_putObj _ (by omega) _)
    · exact ⟨hPG.os, hPG.tape, hPG.output, by rw [World.putObj_size]; exact hPG.size, fun j hj hn => (World.putObj_heap_other (by omega)).trans (hPG.block j hj hn)⟩
  case hstop =>
    rintro D cc pre W' rfl hz hSp ⟨rfl, ⟨pre', j0, j1⟩, j4⟩ hp hD'
    have J0 := Lib.hid j0
    have J1 := Lib.hid j1
    have J4 := Lib.hid j4
    have HD := Lib.hid hD'
    have HPR := Lib.hid (show PrivM O W W' from PrivM.ofNew (HBV.out.trans (HB2.out.mono HVZ.out)) hp (by rintro j (h | rfl | rfl); exact .inl h; exact .inr (by omega); exact .inr (by omega)))
    have hVZ := HVZ.out
    clear j0 j1 j4 hp hseq hD'
    gi_wp2_with fail
    refine ⟨by simp, .inl ⟨_, _, rfl, run_takeDeferred HD.out, ?_⟩⟩
    have hH : Blk (W'.putObj w2.heap.size (.deferred none)) g7 4 #[.bool false] := (World.putObj_heap_other (by omega)).trans J4.out
    have t0 := Blk.c1 hH
    refine ⟨.bool false, ?_, .inr ⟨rfl, ⟨_, J0.out, ?_⟩, ?_⟩⟩
    · simp [results, Try.results119, go_sem, t0]
    · exact HJx.out _ _ _ J1.out (by omega) (below_putObj _ (by omega) _)
    · have hPG := HPR.out
      exact ⟨hPG.os, hPG.tape, hPG.output, by rw [World.putObj_size]; exact hPG.size, fun j hj hn => (World.putObj_heap_other (by omega)).trans (hPG.block j hj hn)⟩
set_option maxRecDepth 100000 in
set_option maxHeartbeats 8000000 in
theorem fill_0 (b : Ck) (p : Option Addr) (c yb cb fb l n z : Nat) (O : Nat → Prop) (J Jx : List Ms → World → Prop) (tot pre0 : List Ms) (m : Ms) (W : World) (hz : z ≤ W.heap.size) (hJ : Low z J) (hJx : Low z Jx)
    (hY : ∀ mm pre x A, z ≤ A.heap.size → pre ++ [x] <+: tot → J pre A → YieldAt Fence.wide mm Try.prog l (encM b p c x) A fun e B =>
      (e = .returned (.bool true) ∧ J (pre ++ [x]) B ∧ PrivM O A B) ∨ (e = .returned (.bool false) ∧ Jx (pre ++ [x]) B ∧ PrivM O A B))
    (hO : ∀ k, O k → k < z) (hF : FillAt W b p c yb cb fb l) (hzF : z ≤ yb ∧ z ≤ cb ∧ z ≤ fb) (hv : HoldsOK b) (hp : pre0 ++ fillR b 3 m <+: tot) (h0 : J pre0 W) :
    CallsIn Fence.wide n Try.prog 119 #[.int .i64 0, msV m, .pointer (some ⟨yb, 0, none⟩), .pointer (some ⟨cb, 0, none⟩), .pointer (some ⟨fb, 0, none⟩)] W (FillPost O J Jx tot pre0 (fillR b 3 m) W) := by
  have HV := Lib.hid hv
  have HJ := Lib.hid hJ
  have HJx := Lib.hid hJx
  have HY := Lib.hid hY
  have HF := Lib.hid hF
  have HO := Lib.hid hO
  have HP := Lib.hid hp
  have H0 := Lib.hid h0
  have hlh := hv 0
  have hfy := hF.y.lt
  have hfc := hF.c.lt
  have hff := hF.f.lt
  have hzy := hzF.1
  have hzc := hzF.2.1
  have hzf := hzF.2.2
  clear hzF
  simp only [Ck.lo, Ck.hi] at hlh
  clear hJ hJx hY hF hO hp h0 hv
  unfold msV
  refine callsIn_of_wp_marks Try.func119 rfl trivial ?_ rfl
  simp only [Try.ntmps119, List.size_toArray, List.length_cons, List.length_nil, Nat.reduceAdd, Nat.reduceSub, Array.replicate_succ, Array.replicate_zero, List.push_toArray, List.append_toArray, List.nil_append, List.cons_append]
  refine wpIn_wide.2 ?_
  go_upto_region 3 with fail
  generalize hV : World.alloc _ _ = V
  have hBV : Below W.heap.size W V := by rw [← hV]; (exact belC)
  have hF := HF.out.bel hBV
  have k5 : Blk V W.heap.size 3 #[.int .i64 0] := by rw [← hV]; exact ((Blk.new rfl).alloc _).alloc _
  have k6 : Blk V (W.heap.size + 1) 106 #[.int .i64 m.a, .int .i64 m.b, .int .i64 m.c] := by rw [← hV]; exact (Blk.new (by simp)).alloc _
  have k7 : Blk V (W.heap.size + 1 + 1) 4 #[.bool false] := by rw [← hV]; exact Blk.new (by simp)
  have hc0 := hF.c
  have lc := hc0.lt
  unfold ckcs at hc0
  have c0 := hc0.cell 0
  have c1 := hc0.cell 1
  have c2 := hc0.cell 2
  have c3 := hc0.cell 3
  have c4 := hc0.cell 4
  have c5 := hc0.cell 5
  have c6 := hc0.cell 6
  have c7 := hc0.cell 7
  have c8 := hc0.cell 8
  have c9 := hc0.cell 9
  simp only [List.size_toArray, List.length_cons, List.length_nil, Nat.reduceAdd, Nat.reduceLT, getElem?_pos, List.getElem_toArray, List.getElem_cons_zero, List.getElem_cons_succ] at c0 c1 c2 c3 c4 c5 c6 c7 c8 c9
  have s0 := Blk.c1 k5
  have l5 := k5.lt
  have o6 : W.heap.size < W.heap.size + 1 := by omega
  have o7 : W.heap.size + 1 < W.heap.size + 1 + 1 := by omega
  have l7 := k7.lt
  have HZ0 := Lib.hid hz
  have K5 := Lib.hid k5
  have K6 := Lib.hid k6
  have K7 := Lib.hid k7
  have HBV := Lib.hid hBV
  have HFV := Lib.hid hF
  have HJV := Lib.hid (HJ.out _ _ _ H0.out hz (hBV.mono hz))
  have HVZ := Lib.hid hBV.size
  clear hV hBV hc0 hF k5 k6 k7 hz
  generalize W.heap.size + 1 + 1 = g7 at *
  generalize W.heap.size + 1 = g6 at *
  go_wp2_with (go_at_call 117; refine (numbers_any _ _ _).mono ?_; rintro e w2 ⟨g, rfl, k1, k2, y, hw⟩; have HB2 := Lib.hid (show Below V.heap.size V w2 by rw [hw]; (exact belA)); have HG := Lib.hid (show Blk w2 g 23 #[.int .i64 b.l0, .int .i64 b.u0] from k2); have hgz : V.heap.size ≤ g := (by first | exact k1 | (simp at k1; omega)); clear hw k1 k2)
  clear c0 c1 c2 c3 c4 c5 c6 c7 c8 c9 s0 lc
  have hz2 := HB2.out.size
  have hgl2 := HG.out.lt
  have hz0 := HZ0.out
  have F2 := Lib.hid (HFV.out.bel HB2.out)
  have K52 := Lib.hid (K5.out.bel HB2.out)
  have K62 := Lib.hid (K6.out.bel HB2.out)
  have K72 := Lib.hid (K7.out.bel HB2.out)
  have fy := F2.out.y.lt
  have fc := F2.out.c.lt
  have ff := F2.out.f.lt
  have hseq := numbers1_in g b.l0 b.u0 (fun j => (O j ∨ j = g6 ∨ j = g7) ∨ j = w2.heap.size + 1) w2 HG.out (by omega) (by omega) (fun j hj => by
    rcases hj with (hj | rfl | rfl) | rfl
    · have := HO.out j hj; omega
    · omega
    · omega
    · omega)
  refine (wpIn_wide (n := n)).1 ?_
  refine wpIn_rangeFunc_0 (gf := 129) (fb := #[]) (lb := #[.pointer (some ⟨g, 0, none⟩)]) rfl (enters_of Try.func129 (by kernel_rfl) rfl)
    (fun j => O j ∨ j = g6 ∨ j = g7) (fun j hj => by rcases hj with hj | rfl | rfl; (have := HO.out j hj; omega); omega; omega) hseq (Below.refl _ _) (fun _ => rfl)
    (fun pre A => J (pre0 ++ pre.flatMap fun y => fillR b 2 ⟨y, m.b, m.c⟩) A ∧ FillAt A b p c yb cb fb l ∧ Blk A W.heap.size 3 #[.int .i64 0] ∧ (∃ u, Blk A g6 106 #[.int .i64 u, .int .i64 m.b, .int .i64 m.c]) ∧ Blk A g7 4 #[.bool false])
    (fun cc pre A => cc = .ret ∧ (∃ pre', pre' <+: tot ∧ Jx pre' A) ∧ Blk A g7 4 #[.bool false])
    (fun pre x a' A => ∃ u9 u10 u11 u12 u13 u14 u15 u16 u17 u18 u19 u20 u21 u22 u23 u24 u25 u26 u27 u28 u29 u30 u31 : Value, a' = { tmps := #[.int .i64 0, .agg #[.int .i64 m.a, .int .i64 m.b, .int .i64 m.c], .pointer (some ⟨yb, 0, none⟩), .pointer (some ⟨cb, 0, none⟩), .pointer (some ⟨fb, 0, none⟩), .pointer (some ⟨W.heap.size, 0, none⟩), .pointer (some ⟨g6, 0, none⟩), .pointer (some ⟨g7, 0, none⟩), .int .i64 x, u9, u10, u11, u12, u13, u14, u15, u16, u17, u18, u19, u20, u21, u22, u23, u24, u25, u26, u27, u28, u29, u30, u31], defers := [] })
    ?hI ?hIx ?hAx ?h0 ?hassign ?hbody ?hdone ?hstop
  case hI =>
    rintro pre A C ⟨j0, j1, j2, ⟨u, j3⟩, j4⟩ hz hp
    exact ⟨HJ.out _ _ _ j0 (by omega) (hp.mono (by omega)), ⟨(hp.block _ (by omega)).trans j1.y, (hp.block _ (by omega)).trans j1.c, (hp.block _ (by omega)).trans j1.f⟩, (hp.block _ (by omega)).trans j2, ⟨u, (hp.block _ (by omega)).trans j3⟩, (hp.block _ (by omega)).trans j4⟩
  case hIx =>
    rintro cc pre A C ⟨rfl, ⟨pre', j0, j1⟩, j2⟩ hz hp
    exact ⟨rfl, ⟨pre', j0, HJx.out _ _ _ j1 (by omega) (hp.mono (by omega))⟩, (hp.block _ (by omega)).trans j2⟩
  case hAx => rintro pre x a' A C ⟨u9, u10, u11, u12, u13, u14, u15, u16, u17, u18, u19, u20, u21, u22, u23, u24, u25, u26, u27, u28, u29, u30, u31, rfl⟩ hp; exact ⟨u9, u10, u11, u12, u13, u14, u15, u16, u17, u18, u19, u20, u21, u22, u23, u24, u25, u26, u27, u28, u29, u30, u31, rfl⟩
  case h0 =>
    intro W6 hb6
    have hb7 := HB2.out.trans (hb6.mono hz2)
    have hVZ := HVZ.out
    refine ⟨?_, ⟨(hb6.block _ (by omega)).trans F2.out.y, (hb6.block _ (by omega)).trans F2.out.c, (hb6.block _ (by omega)).trans F2.out.f⟩, (hb6.block _ (by omega)).trans K52.out, ⟨_, (hb6.block _ (by omega)).trans K62.out⟩, (hb6.block _ (by omega)).trans K72.out⟩
    rw [List.flatMap_nil, List.append_nil]
    exact HJ.out _ _ _ HJV.out (by omega) (hb7.mono (by omega))
  case hassign =>
    intro mm l' pre x W' hz hsp hi'
    exact wpIn_assign ⟨⟨_, _, _, _, _, _, _, _, _, _, _, _, _, _, _, _, _, _, _, _, _, _, _, by simp [go_sem, Act.put, Act.eval]; exact ⟨rfl, rfl, rfl, rfl, rfl, rfl, rfl, rfl, rfl, rfl, rfl, rfl, rfl, rfl, rfl, rfl, rfl, rfl, rfl, rfl, rfl, rfl, rfl⟩⟩, Below.refl _ _⟩
  case hbody =>
    rintro mm l' pre x a' W' hz hpx ⟨j0, j1, j2, ⟨u, j3⟩, j4⟩ ⟨u9, u10, u11, u12, u13, u14, u15, u16, u17, u18, u19, u20, u21, u22, u23, u24, u25, u26, u27, u28, u29, u30, u31, rfl⟩
    have hVZ := HVZ.out
    have HPX := Lib.hid (show (pre0 ++ pre.flatMap fun y => fillR b 2 ⟨y, m.b, m.c⟩) ++ fillR b 2 ⟨x, m.b, m.c⟩ <+: tot from by
      have h1 := flat_prefix (f := fun y => fillR b 2 ⟨y, m.b, m.c⟩) hpx
      rw [List.flatMap_append, List.flatMap_cons, List.flatMap_nil, List.append_nil] at h1
      rw [List.append_assoc]
      exact app_prefix h1 HP.out)
    have J0 := Lib.hid j0
    have J1 := Lib.hid j1
    have J2 := Lib.hid j2
    have J4 := Lib.hid j4
    have J3 := Lib.hid j3
    have s0 := Blk.c1 j2
    obtain ⟨t0, t1, t2⟩ := Blk.c3 j3
    obtain ⟨f0, f1, f2⟩ := Blk.f3 j3
    have y0 := Blk.c1 j1.f
    have l5' := j2.lt
    have l6' := j3.lt
    have l7' := j4.lt
    have lf := j1.f.lt
    clear j0 j1 j2 j3 j4 hseq hpx
    have hF5 : ∀ v, FillAt (W'.setCell ⟨g6, 0, none⟩ v) b p c yb cb fb l := fun v => ⟨(Below.heap_setCell _ _ _ _ (by dsimp only; omega)).trans J1.out.y, (Below.heap_setCell _ _ _ _ (by dsimp only; omega)).trans J1.out.c, (Below.heap_setCell _ _ _ _ (by dsimp only; omega)).trans J1.out.f⟩
    have HF5 := Lib.hid hF5
    have HJ5 := Lib.hid (show ∀ v, J (pre0 ++ pre.flatMap fun y => fillR b 2 ⟨y, m.b, m.c⟩) (W'.setCell ⟨g6, 0, none⟩ v) from fun v => HJ.out _ _ _ J0.out (by omega) ((Below.refl _ _).setCell (by dsimp only; omega) _))
    clear hF5
    gi_wp2_with fail
    gi_at_call 119
    refine (CallsIn.inRound _ (fill_1 b p c yb cb fb l _ z O J Jx tot _ ⟨x, m.b, m.c⟩ _ (by simp; omega) HJ.out HJx.out HY.out HO.out (HF5.out _) ⟨hzy, hzc, hzf⟩ HV.out HPX.out (HJ5.out _))).mono ?_
    rintro e B (⟨rfl, hJB, hS⟩ | ⟨rfl, ⟨pre', hP', hJB⟩, hS⟩)
    · have HS := Lib.hid ((PrivM.setCell (M := fun j => O j ∨ j = g6 ∨ j = g7) W' (.inr (.inl rfl)) 0 (.int .i64 x)).trans (hS.mono (fun k h => .inl h)))
      have HJB := Lib.hid hJB
      have HFB := Lib.hid (show FillAt B b p c yb cb fb l from ⟨(HS.out.block _ (by omega) (by rintro (h | h | h); (have := HO.out _ h; omega); omega; omega)).trans J1.out.y, (HS.out.block _ (by omega) (by rintro (h | h | h); (have := HO.out _ h; omega); omega; omega)).trans J1.out.c, (HS.out.block _ (by omega) (by rintro (h | h | h); (have := HO.out _ h; omega); omega; omega)).trans J1.out.f⟩)
      have HK5 := Lib.hid ((HS.out.block _ l5' (by rintro (h | h | h); (have := HO.out _ h; omega); omega; omega)).trans J2.out)
      have HK6 := Lib.hid ((hS.block _ (by simpa using l6') (fun h => by have := HO.out _ h; omega)).trans (J3.out.set 0 (.int .i64 x)))
      have HK7 := Lib.hid ((hS.block _ (by simpa using l7') (fun h => by have := HO.out _ h; omega)).trans ((Below.heap_setCell W' ⟨g6, 0, none⟩ (.int .i64 x) _ (by dsimp only; omega)).trans J4.out))
      clear hS hJB s0 t0 t1 t2 f0 f1 f2 y0 l5' l6' l7' lf
      gi_wp2_with fail
      refine ⟨HS.out, ?_, HFB.out, HK5.out, ⟨x, HK6.out⟩, HK7.out⟩
      rw [List.flatMap_append, List.flatMap_cons, List.flatMap_nil, List.append_nil, ← List.append_assoc]
      exact HJB.out
    · have HS := Lib.hid ((PrivM.setCell (M := fun j => O j ∨ j = g6 ∨ j = g7) W' (.inr (.inl rfl)) 0 (.int .i64 x)).trans (hS.mono (fun k h => .inl h)))
      have HJB := Lib.hid hJB
      have HP' := Lib.hid hP'
      have k7 := (hS.block _ (by simpa using l7') (fun h => by have := HO.out _ h; omega)).trans ((Below.heap_setCell W' ⟨g6, 0, none⟩ (.int .i64 x) _ (by dsimp only; omega)).trans J4.out)
      have HK7 := Lib.hid (show Blk B g7 4 #[.bool false] from k7)
      have hsB := HS.out.size
      clear hS hJB hP' k7 s0 t0 t1 t2 f0 f1 f2 y0 l5' l6' l7' lf
      have d0 := Blk.c1 HK7.out
      have f0 := HK7.out.frozen 0
      have l7 := HK7.out.lt
      gi_wp2_with fail
      exact ⟨HS.out.trans (PrivM.setCell (M := fun j => O j ∨ j = g6 ∨ j = g7) _ (.inr (.inr rfl)) _ _), rfl, ⟨_, HP'.out, HJx.out _ _ _ HJB.out (by omega) ((Below.refl _ _).setCell (by dsimp only; omega) _)⟩, by simpa using HK7.out.set 0 (.bool false)⟩
  case hdone =>
    rintro D xs W' rfl hz rfl ⟨j0, j1, j2, ⟨u, j3⟩, j4⟩ hp hD'
    have J0 := Lib.hid j0
    have J4 := Lib.hid j4
    have HD := Lib.hid hD'
    have HPR := Lib.hid (show PrivM O W W' from PrivM.ofNew (HBV.out.trans (HB2.out.mono HVZ.out)) hp (by rintro j (h | rfl | rfl); exact .inl h; exact .inr (by omega); exact .inr (by omega)))
    have c0 := Blk.c1 j4
    have f0 := j4.frozen 0
    have l7' := j4.lt
    clear j0 j1 j2 j3 j4 hp hseq hD'
    gi_wp2_with fail
    go_wp2_with fail
    have hG : Blk (W'.setCell ⟨g7, 0, none⟩ (.bool true)) g7 4 #[.bool true] := by simpa using J4.out.set 0 (.bool true)
    have hPG : PrivM O W (W'.setCell ⟨g7, 0, none⟩ (.bool true)) := PrivM.setNew HPR.out (by omega) _ _
    have hDG : (W'.setCell ⟨g7, 0, none⟩ (.bool true)).heap[w2.heap.size]? = some (.deferred (some [])) := (Below.heap_setCell _ _ _ _ (by dsimp only; omega)).trans HD.out
    have hJG := HJ.out _ _ _ J0.out (by omega) ((Below.refl z W').setCell (p := ⟨g7, 0, none⟩) (by dsimp only; omega) (.bool true))
    have hzG : w2.heap.size + 2 ≤ (W'.setCell ⟨g7, 0, none⟩ (.bool true)).heap.size := by simpa using hz
    generalize W'.setCell ⟨g7, 0, none⟩ (.bool true) = F at *
    have hVZ := HVZ.out
    refine ⟨by simp, .inl ⟨_, _, rfl, run_takeDeferred hDG, ?_⟩⟩
    have hH : Blk (F.putObj w2.heap.size (.deferred none)) g7 4 #[.bool true] := (World.putObj_heap_other (by omega)).trans hG
    have t0 := Blk.c1 hH
    refine ⟨.bool true, ?_, .inl ⟨rfl, ?_, ?_⟩⟩
    · simp [results, Try.results119, go_sem, t0]
    · exact HJ.out _ _ _ hJG (by omega) (below_putObj _ (by omega) _)
    · exact ⟨hPG.os, hPG.tape, hPG.output, by rw [World.putObj_size]; exact hPG.size, fun j hj hn => (World.putObj_heap_other (by omega)).trans (hPG.block j hj hn)⟩
  case hstop =>
    rintro D cc pre W' rfl hz hSp ⟨rfl, ⟨pre', j0, j1⟩, j4⟩ hp hD'
    have J0 := Lib.hid j0
    have J1 := Lib.hid j1
    have J4 := Lib.hid j4
    have HD := Lib.hid hD'
    have HPR := Lib.hid (show PrivM O W W' from PrivM.ofNew (HBV.out.trans (HB2.out.mono HVZ.out)) hp (by rintro j (h | rfl | rfl); exact .inl h; exact .inr (by omega); exact .inr (by omega)))
    have hVZ := HVZ.out
    clear j0 j1 j4 hp hseq hD'
    gi_wp2_with fail
    refine ⟨by simp, .inl ⟨_, _, rfl, run_takeDeferred HD.out, ?_⟩⟩
    have hH : Blk (W'.putObj w2.heap.size (.deferred none)) g7 4 #[.bool false] := (World.putObj_heap_other (by omega)).trans J4.out
    have t0 := Blk.c1 hH
    refine ⟨.bool false, ?_, .inr ⟨rfl, ⟨_, J0.out, ?_⟩, ?_⟩⟩
    · simp [results, Try.results119, go_sem, t0]
    · exact HJx.out _ _ _ J1.out (by omega) (below_putObj _ (by omega) _)
    · have hPG := HPR.out
      exact ⟨hPG.os, hPG.tape, hPG.output, by rw [World.putObj_size]; exact hPG.size, fun j hj hn => (World.putObj_heap_other (by omega)).trans (hPG.block j hj hn)⟩
end Go.Proofs.Ytpiadbdkiibdbaa

