/- Contracts of package bulk: first, right, holds. Written by gen_b5x.py. -/
import Derived.Test.YtpiadbdkiibdbaaQB5w
import Derived.Laws.StructEq
import Derived.Lib.MinMax
import Derived.Test.YtpiadbdkiibdbaaQQr
set_option linter.unusedSimpArgs false
set_option linter.unusedVariables false
namespace Go.Proofs.Ytpiadbdkiibdbaa
open Go Go.RowKit Go.Shelf
/-- The ends of what is asked of the truths in which measures hold so many. -/
structure EndsM (b : Ck) (g : Ms → List (Int × Int) → Int) (m : Ms) (lo hi : Int) : Prop where
  low : ∃ L, TrueIs b m L ∧ g m L = lo
  high : ∃ L, TrueIs b m L ∧ g m L = hi
  all : ∀ L, TrueIs b m L → lo ≤ g m L ∧ g m L ≤ hi
/-- The ends of what is asked of some truths; from what they begin if there are none. -/
structure AccOK (b : Ck) (g : Ms → List (Int × Int) → Int) (top : Int) (pre : List Ms) (lo hi : Int) : Prop where
  nil : pre = [] → lo = top ∧ hi = 0
  low : pre ≠ [] → ∃ m ∈ pre, ∃ L, TrueIs b m L ∧ g m L = lo
  high : pre ≠ [] → ∃ m ∈ pre, ∃ L, TrueIs b m L ∧ g m L = hi
  all : ∀ m ∈ pre, ∀ L, TrueIs b m L → lo ≤ g m L ∧ g m L ≤ hi
theorem AccOK.start (b : Ck) (g : Ms → List (Int × Int) → Int) (top : Int) : AccOK b g top [] top 0 := ⟨fun _ => ⟨rfl, rfl⟩, fun h => absurd rfl h, fun h => absurd rfl h, fun m h => by simp at h⟩
theorem AccOK.step {b : Ck} {g : Ms → List (Int × Int) → Int} {top : Int} {pre : List Ms} {lo hi : Int} (h : AccOK b g top pre lo hi) {m : Ms} {l u : Int} (hm : EndsM b g m l u) (hl : l ≤ top) (hu : 0 ≤ u) : AccOK b g top (pre ++ [m]) (min lo l) (max hi u) := by
  obtain ⟨L1, t1, e1⟩ := hm.low
  obtain ⟨L2, t2, e2⟩ := hm.high
  refine ⟨fun e => by simp at e, fun _ => ?_, fun _ => ?_, fun x hx L hL => ?_⟩
  · by_cases hp : pre = []
    · have := (h.nil hp).1
      exact ⟨m, by simp, L1, t1, by omega⟩
    · obtain ⟨x, hx, L, t, e⟩ := h.low hp
      by_cases hc : lo ≤ l
      · exact ⟨x, by simp [hx], L, t, by omega⟩
      · exact ⟨m, by simp, L1, t1, by omega⟩
  · by_cases hp : pre = []
    · have := (h.nil hp).2
      exact ⟨m, by simp, L2, t2, by omega⟩
    · obtain ⟨x, hx, L, t, e⟩ := h.high hp
      by_cases hc : u ≤ hi
      · exact ⟨x, by simp [hx], L, t, by omega⟩
      · exact ⟨m, by simp, L2, t2, by omega⟩
  · rcases List.mem_append.1 hx with h1 | h1
    · have := h.all x h1 L hL
      omega
    · rw [List.mem_singleton.1 h1] at hL ⊢
      have := hm.all L hL
      omega
theorem AccOK.ends {b : Ck} {g : Ms → List (Int × Int) → Int} {top lo hi : Int} (h : AccOK b g top (truthsL b) lo hi) (hr : rightC b = true) : EndsC b g lo hi := by
  have hn : truthsL b ≠ [] := by
    intro e; unfold rightC at hr; rw [e] at hr; cases hr
  obtain ⟨m1, -, L1, t1, e1⟩ := h.low hn
  obtain ⟨m2, -, L2, t2, e2⟩ := h.high hn
  exact ⟨⟨m1, L1, t1, e1⟩, ⟨m2, L2, t2, e2⟩, fun m L hL => h.all m (mem_truthsL.2 ⟨L, hL⟩) L hL⟩
theorem endsM_at {b : Ck} {m : Ms} (k : Nat) (h : m ∈ truthsL b) : EndsM b (fun m _ => m.at k) m (m.at k) (m.at k) := by
  obtain ⟨L, hL⟩ := mem_truthsL.1 h
  exact ⟨⟨L, hL, rfl⟩, ⟨L, hL, rfl⟩, fun L _ => ⟨Int.le_refl _, Int.le_refl _⟩⟩
theorem truths_sub {b : Ck} {m : Ms} (h : m ∈ truthsL b) : m ∈ storesL b := (List.mem_filter.1 h).1
attribute [local go_sem] Oper.semAt_some frozen_alloc_lt
theorem partM_int (cs : Array Value) (i : Nat) (a : Int) (h : cs[i]? = some (.int .i64 a)) (w : World) : (part 3 cs i).run Try.prog w = .ok (.int .i64 a) w := by
  simp [part, go_sem, h]
theorem ms_in (d : Nat) (a0 a1 a2 : Int) (w : World) : (Op.equalIn (d + 2) 106 (.agg #[.int .i64 a0, .int .i64 a1, .int .i64 a2]) (.agg #[.int .i64 0, .int .i64 0, .int .i64 0])).run Try.prog w = .ok (decide (a0 = 0 ∧ a1 = 0 ∧ a2 = 0)) w := by
  rw [show d + 2 = (d + 1) + 1 from rfl]
  unfold Op.equalIn
  simp only [Sem.run_bind, run_underlying (Try.underlying106), Result.andThen_ok]
  simp only [Std.Legacy.Range.forIn_eq_forIn_range']
  simp only [Std.Legacy.Range.size, List.range', Nat.sub_zero, Nat.add_sub_cancel, Nat.div_one, Nat.reduceAdd, Nat.reduceSub, Nat.reduceDiv, List.forIn_cons, List.forIn_nil]
  have hs : ∀ w : World, (sizeOf 3).run Try.prog w = .ok 1 w := fun w => by simp [go_sem]
  have e0 : ∀ (a b : Int) (w : World), (Op.equalIn (d + 1) 3 (.int .i64 a) (.int .i64 b)).run Try.prog w = .ok (a == b) w := fun a b w => by simp [Op.equalIn, run_underlying (Try.underlying3)]
  have p0 := fun w => partM_int #[.int .i64 a0, .int .i64 a1, .int .i64 a2] 0 a0 rfl w
  have q0 := fun w => partM_int #[.int .i64 0, .int .i64 0, .int .i64 0] 0 0 rfl w
  have p1 := fun w => partM_int #[.int .i64 a0, .int .i64 a1, .int .i64 a2] 1 a1 rfl w
  have q1 := fun w => partM_int #[.int .i64 0, .int .i64 0, .int .i64 0] 1 0 rfl w
  have p2 := fun w => partM_int #[.int .i64 a0, .int .i64 a1, .int .i64 a2] 2 a2 rfl w
  have q2 := fun w => partM_int #[.int .i64 0, .int .i64 0, .int .i64 0] 2 0 rfl w
  simp only [Sem.run_bind, hs, Result.andThen_ok, Nat.mul_one, e0, Nat.zero_add, Nat.reduceAdd, Nat.reduceMul, p0, q0, p1, q1, p2, q2]
  by_cases h0 : a0 = 0
  · subst h0
    by_cases h1 : a1 = 0
    · subst h1
      by_cases h2 : a2 = 0
      · subst h2
        simp [p0, p1, p2, q0, q1, q2, e0]
      · simp [h2, p0, p1, p2, q0, q1, q2, e0]
    · simp [h1, p0, p1, p2, q0, q1, q2, e0]
  · simp [h0, p0, p1, p2, q0, q1, q2, e0]
theorem ms_neq (a0 a1 a2 : Int) (w : World) : (Go.binOp .neq 106 (.agg #[.int .i64 a0, .int .i64 a1, .int .i64 a2]) (.agg #[.int .i64 0, .int .i64 0, .int .i64 0])).run Try.prog w = .ok (.bool (!decide (a0 = 0 ∧ a1 = 0 ∧ a2 = 0))) w := by
  rw [run_neq_struct, show (10000 : Nat) = 9998 + 2 from rfl, ms_in]
  rfl
/-- What measures hold in the first truth. -/
def firstM (b : Ck) : Ms := (truthsL b).headD ⟨0, 0, 0⟩
theorem firstM_right {b : Ck} (hv : HoldsOK b) : (!decide ((firstM b).a = 0 ∧ (firstM b).b = 0 ∧ (firstM b).c = 0)) = rightC b := by
  unfold firstM rightC
  cases hm : truthsL b with
  | nil => rfl
  | cons m l =>
    have h := ms_ok hv (truths_sub (b := b) (m := m) (by rw [hm]; simp))
    have h1 := h.1
    simp only [List.headD_cons, List.isEmpty_cons, Bool.not_false, Bool.not_eq_true', decide_eq_false_iff_not]
    exact decide_eq_false (by rintro ⟨h0, -⟩; omega)
set_option maxRecDepth 100000 in
set_option maxHeartbeats 8000000 in
theorem first_any (b : Ck) (p : Option Addr) (c : Nat) (w : World) (hv : HoldsOK b) (hb : BkOK b) (hcb : CB w b p) :
    Calls Try.prog 85 #[ckV b p c] w fun e w' => e = .returned (msV (firstM b)) ∧ ∃ x, w' = ext w x := by
  refine (callsIn_wide (n := 9)).1 ?_
  have HV := Lib.hid hv
  have HBO := Lib.hid hb
  have HCW := Lib.hid hcb
  clear hv hb hcb
  unfold ckV
  refine callsIn_of_wp_marks Try.func85 rfl trivial ?_ rfl
  simp only [Try.ntmps85, List.size_toArray, List.length_cons, List.length_nil, Nat.reduceAdd, Nat.reduceSub, Array.replicate_succ, Array.replicate_zero, List.push_toArray, List.append_toArray, List.nil_append, List.cons_append]
  refine wpIn_wide.2 ?_
  go_upto_region 1 with fail
  generalize hV : World.alloc _ _ = V
  have hBV : Below w.heap.size w V := by rw [← hV]; (exact belA)
  have kc : Blk V w.heap.size 76 (ckcs b p c) := by rw [← hV]; exact (Blk.new rfl).alloc _
  have kr : Blk V (w.heap.size + 1) 106 #[.int .i64 0, .int .i64 0, .int .i64 0] := by rw [← hV]; exact Blk.new (by simp)
  have HBV := Lib.hid hBV
  have KR := Lib.hid kr
  have HCV := Lib.hid (HCW.out.bel hBV)
  have lc := kc.lt
  have lr := kr.lt
  clear hV hBV kr
  unfold ckcs at kc
  have c0 := kc.cell 0
  have c1 := kc.cell 1
  have c2 := kc.cell 2
  have c3 := kc.cell 3
  have c4 := kc.cell 4
  have c5 := kc.cell 5
  have c6 := kc.cell 6
  have c7 := kc.cell 7
  have c8 := kc.cell 8
  have c9 := kc.cell 9
  simp only [List.size_toArray, List.length_cons, List.length_nil, Nat.reduceAdd, Nat.reduceLT, getElem?_pos, List.getElem_toArray, List.getElem_cons_zero, List.getElem_cons_succ] at c0 c1 c2 c3 c4 c5 c6 c7 c8 c9
  clear kc
  go_wp2_with fail
  clear c0 c1 c2 c3 c4 c5 c6 c7 c8 c9
  have hlow : ∀ a, p = some a → a.block < w.heap.size := HCW.out.lt
  have hseq := truths_in b p c (fun j => j = w.heap.size + 1 ∨ j = V.heap.size + 1) V HV.out HBO.out HCV.out (fun a ha => by have := hlow a ha; omega)
  refine (wpIn_wide (n := 9)).1 ?_
  refine wpIn_rangeFunc_0 (gf := 90) (fb := #[ckV b p c]) (lb := #[]) rfl (enters_of Try.func90 (by kernel_rfl) rfl)
    (fun j => j = w.heap.size + 1) (fun j hj => by omega) hseq (Below.refl _ _) (fun _ => rfl)
    (fun pre A => pre = [] ∧ Below w.heap.size w A ∧ Blk A (w.heap.size + 1) 106 #[.int .i64 0, .int .i64 0, .int .i64 0])
    (fun cc pre A => cc = .ret ∧ ∃ m : Ms, pre = [m] ∧ Below w.heap.size w A ∧ Blk A (w.heap.size + 1) 106 #[.int .i64 m.a, .int .i64 m.b, .int .i64 m.c])
    (fun pre x a' A => ∃ (gT : Nat) (u6 u7 u8 u9 : Value), V.heap.size + 2 ≤ gT ∧ Blk A gT 113 (stcs b p c x) ∧ a' = { tmps := #[.agg #[.int .i64 b.l0, .int .i64 b.u0, .int .i64 b.l1, .int .i64 b.u1, .int .i64 b.l2, .int .i64 b.u2, .int .i64 b.e0, .int .i64 b.e1, .int .i64 b.e2, .slice p b.ls.length c], .pointer (some ⟨w.heap.size, 0, none⟩), .pointer (some ⟨w.heap.size + 1, 0, none⟩), .pointer (some ⟨gT, 0, none⟩), .agg #[.int .i64 b.l0, .int .i64 b.u0, .int .i64 b.l1, .int .i64 b.u1, .int .i64 b.l2, .int .i64 b.u2, .int .i64 b.e0, .int .i64 b.e1, .int .i64 b.e2, .slice p b.ls.length c], .func (.func 90) #[ckV b p c] #[], u6, u7, u8, u9], defers := [] })
    ?hI ?hIx ?hAx ?h0 ?hassign ?hbody ?hdone ?hstop
  case hI =>
    rintro pre A C ⟨j0, j1, j2⟩ hz hp
    exact ⟨j0, j1.trans (hp.mono (by omega)), (hp.block _ (by omega)).trans j2⟩
  case hIx =>
    rintro cc pre A C ⟨rfl, m, j0, j1, j2⟩ hz hp
    exact ⟨rfl, m, j0, j1.trans (hp.mono (by omega)), (hp.block _ (by omega)).trans j2⟩
  case hAx =>
    rintro pre x a' A C ⟨gT, u6, u7, u8, u9, h1, h2, rfl⟩ hp
    exact ⟨gT, u6, u7, u8, u9, h1, (hp.block _ h2.lt (by omega)).trans h2, rfl⟩
  case h0 =>
    intro W6 hb6
    exact ⟨rfl, HBV.out.trans (hb6.mono (by omega)), (hb6.block _ (by omega)).trans KR.out⟩
  case hassign =>
    intro mm l' pre x W' hz hsp hi'
    clear hseq
    dsimp only [encM, stV]
    gi_wp2_with fail
    exact ⟨⟨W'.heap.size, _, _, _, _, hz, Blk.new rfl, rfl⟩, by (exact belA)⟩
  case hbody =>
    rintro mm l' pre x a' W' hz hpx ⟨rfl, j1, j2⟩ ⟨gT, u6, u7, u8, u9, hgz, hbg, rfl⟩
    have J1 := Lib.hid j1
    have J2 := Lib.hid j2
    unfold stcs at hbg
    obtain ⟨s0, s1, s2, s3, s4, s5, s6, s7, s8, s9, s10, s11, s12⟩ := Blk.c13 hbg
    have lg := hbg.lt
    obtain ⟨r0, r1, r2⟩ := Blk.c3 j2
    obtain ⟨f0, f1, f2⟩ := Blk.f3 j2
    have l2 := j2.lt
    clear j1 j2 hbg hseq hpx
    gi_wp2_with fail
    refine ⟨((PrivM.setCell (M := fun j => j = w.heap.size + 1) _ rfl _ _).trans (PrivM.setCell (M := fun j => j = w.heap.size + 1) _ rfl _ _)).trans (PrivM.setCell (M := fun j => j = w.heap.size + 1) _ rfl _ _), rfl, x, rfl, ((J1.out.setCell (by dsimp only; omega) _).setCell (by dsimp only; omega) _).setCell (by dsimp only; omega) _, ?_⟩
    exact ((J2.out.set 0 _).set 1 _).set 2 _
  case hdone =>
    rintro D xs W' rfl hz rfl ⟨j0, j1, j2⟩ hp hD'
    have J1 := Lib.hid j1
    have J2 := Lib.hid j2
    have HD := Lib.hid hD'
    have HF := Lib.hid (show firstM b = ⟨0, 0, 0⟩ by unfold firstM; rw [j0]; rfl)
    obtain ⟨r0, r1, r2⟩ := Blk.c3 j2
    obtain ⟨f0, f1, f2⟩ := Blk.f3 j2
    have l2 := j2.lt
    clear j0 j1 j2 hp hseq hD'
    gi_wp2_with fail
    go_wp2_with fail
    have hF : Blk (((W'.setCell ⟨w.heap.size + 1, 0, none⟩ (.int .i64 0)).setCell ⟨w.heap.size + 1, 1, none⟩ (.int .i64 0)).setCell ⟨w.heap.size + 1, 2, none⟩ (.int .i64 0)) (w.heap.size + 1) 106 #[.int .i64 0, .int .i64 0, .int .i64 0] := ((J2.out.set 0 _).set 1 _).set 2 _
    have hBF := (((J1.out.setCell (p := ⟨w.heap.size + 1, 0, none⟩) (by dsimp only; omega) (.int .i64 0)).setCell (p := ⟨w.heap.size + 1, 1, none⟩) (by dsimp only; omega) (.int .i64 0)).setCell (p := ⟨w.heap.size + 1, 2, none⟩) (by dsimp only; omega) (.int .i64 0))
    have hDF : (((W'.setCell ⟨w.heap.size + 1, 0, none⟩ (.int .i64 0)).setCell ⟨w.heap.size + 1, 1, none⟩ (.int .i64 0)).setCell ⟨w.heap.size + 1, 2, none⟩ (.int .i64 0)).heap[V.heap.size]? = some (.deferred (some [])) :=
      ((Below.heap_setCell _ _ _ _ (by dsimp only; omega)).trans ((Below.heap_setCell _ _ _ _ (by dsimp only; omega)).trans (Below.heap_setCell _ _ _ _ (by dsimp only; omega)))).trans HD.out
    generalize ((W'.setCell ⟨w.heap.size + 1, 0, none⟩ (.int .i64 0)).setCell ⟨w.heap.size + 1, 1, none⟩ (.int .i64 0)).setCell ⟨w.heap.size + 1, 2, none⟩ (.int .i64 0) = F at *
    refine ⟨by simp, .inl ⟨_, _, rfl, run_takeDeferred hDF, ?_⟩⟩
    have hG : Blk (F.putObj V.heap.size (.deferred none)) (w.heap.size + 1) 106 #[.int .i64 0, .int .i64 0, .int .i64 0] := (World.putObj_heap_other (by omega)).trans hF
    obtain ⟨t0, t1, t2⟩ := Blk.c3 hG
    refine ⟨.agg #[.int .i64 0, .int .i64 0, .int .i64 0], ?_, by rw [HF.out]; rfl, ext_of ?_⟩
    · simp [results, Try.results85, go_sem, t0, t1, t2]
    · exact hBF.trans (below_putObj _ (by omega) _)
  case hstop =>
    rintro D cc pre W' rfl hz hSp ⟨rfl, m, rfl, j1, j2⟩ hp hD'
    have J1 := Lib.hid j1
    have J2 := Lib.hid j2
    have HD := Lib.hid hD'
    have HF := Lib.hid (show firstM b = m by
      obtain ⟨t, ht⟩ := hSp
      unfold firstM; rw [← ht]; rfl)
    clear j1 j2 hp hseq hD' hSp
    gi_wp2_with fail
    refine ⟨by simp, .inl ⟨_, _, rfl, run_takeDeferred HD.out, ?_⟩⟩
    have hG : Blk (W'.putObj V.heap.size (.deferred none)) (w.heap.size + 1) 106 #[.int .i64 m.a, .int .i64 m.b, .int .i64 m.c] := (World.putObj_heap_other (by omega)).trans J2.out
    obtain ⟨t0, t1, t2⟩ := Blk.c3 hG
    refine ⟨.agg #[.int .i64 m.a, .int .i64 m.b, .int .i64 m.c], ?_, by rw [HF.out]; rfl, ext_of ?_⟩
    · simp [results, Try.results85, go_sem, t0, t1, t2]
    · exact J1.out.trans (below_putObj _ (by omega) _)
set_option maxRecDepth 100000 in
set_option maxHeartbeats 8000000 in
theorem right_any (b : Ck) (p : Option Addr) (c : Nat) (q : Bool) (w : World) (hv : HoldsOK b) (hb : BkOK b) (hcb : CB w b p) (hq : rightC b = q) :
    Calls Try.prog 58 #[ckV b p c] w fun e w' => e = .returned (.bool q) ∧ ∃ x, w' = ext w x := by
  have HQ := Lib.hid ((firstM_right hv).trans hq)
  have HV := Lib.hid hv
  have HBO := Lib.hid hb
  have HCW := Lib.hid hcb
  clear hv hb hcb hq
  unfold ckV
  go_enter Try.func58, Try.ntmps58
  go_upto_region 1 with fail
  generalize hV : World.alloc _ _ = V
  have hBV : Below w.heap.size w V := by rw [← hV]; (exact belA)
  have kc : Blk V w.heap.size 76 (ckcs b p c) := by rw [← hV]; exact Blk.new rfl
  have HBV := Lib.hid hBV
  have HCV := Lib.hid (HCW.out.bel hBV)
  have lc := kc.lt
  clear hV hBV
  unfold ckcs at kc
  have c0 := kc.cell 0
  have c1 := kc.cell 1
  have c2 := kc.cell 2
  have c3 := kc.cell 3
  have c4 := kc.cell 4
  have c5 := kc.cell 5
  have c6 := kc.cell 6
  have c7 := kc.cell 7
  have c8 := kc.cell 8
  have c9 := kc.cell 9
  simp only [List.size_toArray, List.length_cons, List.length_nil, Nat.reduceAdd, Nat.reduceLT, getElem?_pos, List.getElem_toArray, List.getElem_cons_zero, List.getElem_cons_succ] at c0 c1 c2 c3 c4 c5 c6 c7 c8 c9
  clear kc
  have HFA := Lib.hid (first_any b p c V HV.out HBO.out HCV.out)
  have hne := ms_neq (firstM b).a (firstM b).b (firstM b).c
  rw [HQ.out] at hne
  generalize firstM b = m at HFA hne
  go_wp2_with (go_at_call 85; refine HFA.out.mono ?_; rintro e w' ⟨rfl, y, hw⟩; have HB' := Lib.hid (show Below w.heap.size w w' by rw [hw]; exact HBV.out.trans ((below_ext _ _).mono HBV.out.size)); clear hw; dsimp only [msV])
  go_ret
  exact ⟨rfl, ext_of HB'.out⟩
set_option maxRecDepth 100000 in
set_option maxHeartbeats 8000000 in
theorem holds_0 (b : Ck) (p : Option Addr) (c : Nat) (w : World) (hv : HoldsOK b) (hb : BkOK b) (hcb : CB w b p) (hr : rightC b = true) :
    Calls Try.prog 64 #[ckV b p c, .int .i64 0] w fun e w' => ∃ lo hi, e = .returned (.agg #[.int .i64 lo, .int .i64 hi]) ∧ EndsC b (fun m _ => m.at 0) lo hi ∧ ∃ x, w' = ext w x := by
  refine (callsIn_wide (n := 9)).1 ?_
  have HV := Lib.hid hv
  have HBO := Lib.hid hb
  have HCW := Lib.hid hcb
  have HR := Lib.hid hr
  clear hv hb hcb hr
  unfold ckV
  refine callsIn_of_wp_marks Try.func64 rfl trivial ?_ rfl
  simp only [Try.ntmps64, List.size_toArray, List.length_cons, List.length_nil, Nat.reduceAdd, Nat.reduceSub, Array.replicate_succ, Array.replicate_zero, List.push_toArray, List.append_toArray, List.nil_append, List.cons_append]
  refine wpIn_wide.2 ?_
  go_upto_region 2 with fail
  generalize hV : World.alloc _ _ = V
  have hBV : Below w.heap.size w V := by rw [← hV]; (exact belA)
  have kc : Blk V w.heap.size 76 (ckcs b p c) := by rw [← hV]; exact (((Blk.new rfl).alloc _).alloc _).alloc _
  have kk : Blk V (w.heap.size + 1) 3 #[.int .i64 0] := by rw [← hV]; exact ((Blk.new (by simp)).alloc _).alloc _
  have kr : Blk V (w.heap.size + 1 + 1) 23 #[.int .i64 0, .int .i64 0] := by rw [← hV]; exact (Blk.new (by simp)).alloc _
  have ka : Blk V (w.heap.size + 1 + 1 + 1) 23 #[.int .i64 9, .int .i64 0] := by rw [← hV]; exact Blk.new (by simp)
  have HBV := Lib.hid hBV
  have KK := Lib.hid kk
  have KR := Lib.hid kr
  have KA := Lib.hid ka
  have HCV := Lib.hid (HCW.out.bel hBV)
  have lc := kc.lt
  have la := ka.lt
  have o1 : w.heap.size < w.heap.size + 1 := by omega
  have o2 : w.heap.size + 1 < w.heap.size + 1 + 1 := by omega
  have o3 : w.heap.size + 1 + 1 < w.heap.size + 1 + 1 + 1 := by omega
  clear hV hBV kk kr ka
  generalize w.heap.size + 1 + 1 + 1 = g5 at *
  generalize w.heap.size + 1 + 1 = g4 at *
  generalize w.heap.size + 1 = g3 at *
  unfold ckcs at kc
  have c0 := kc.cell 0
  have c1 := kc.cell 1
  have c2 := kc.cell 2
  have c3 := kc.cell 3
  have c4 := kc.cell 4
  have c5 := kc.cell 5
  have c6 := kc.cell 6
  have c7 := kc.cell 7
  have c8 := kc.cell 8
  have c9 := kc.cell 9
  simp only [List.size_toArray, List.length_cons, List.length_nil, Nat.reduceAdd, Nat.reduceLT, getElem?_pos, List.getElem_toArray, List.getElem_cons_zero, List.getElem_cons_succ] at c0 c1 c2 c3 c4 c5 c6 c7 c8 c9
  clear kc
  go_wp2_with fail
  clear c0 c1 c2 c3 c4 c5 c6 c7 c8 c9
  have hlow : ∀ a, p = some a → a.block < w.heap.size := HCW.out.lt
  have hseq := truths_in b p c (fun j => j = g5 ∨ j = V.heap.size + 1) V HV.out HBO.out HCV.out (fun a ha => by have := hlow a ha; omega)
  refine (wpIn_wide (n := 9)).1 ?_
  refine wpIn_rangeFunc_0 (gf := 90) (fb := #[ckV b p c]) (lb := #[]) rfl (enters_of Try.func90 (by kernel_rfl) rfl)
    (fun j => j = g5) (fun j hj => by omega) hseq (Below.refl _ _) (fun _ => rfl)
    (fun pre A => Below w.heap.size w A ∧ Blk A g3 3 #[.int .i64 0] ∧ Blk A g4 23 #[.int .i64 0, .int .i64 0] ∧ ∃ lo hi, AccOK b (fun m _ => m.at 0) 9 pre lo hi ∧ Blk A g5 23 #[.int .i64 lo, .int .i64 hi])
    (fun cc pre A => False)
    (fun pre x a' A => ∃ (gT : Nat) (u7 u8 u9 u10 u11 u12 u13 u14 u15 u16 u17 u18 u19 u20 u21 u22 u23 u24 u25 u26 u27 : Value), V.heap.size + 2 ≤ gT ∧ Blk A gT 113 (stcs b p c x) ∧ a' = { tmps := #[.agg #[.int .i64 b.l0, .int .i64 b.u0, .int .i64 b.l1, .int .i64 b.u1, .int .i64 b.l2, .int .i64 b.u2, .int .i64 b.e0, .int .i64 b.e1, .int .i64 b.e2, .slice p b.ls.length c], .int .i64 0, .pointer (some ⟨w.heap.size, 0, none⟩), .pointer (some ⟨g3, 0, none⟩), .pointer (some ⟨g4, 0, none⟩), .pointer (some ⟨g5, 0, none⟩), .pointer (some ⟨gT, 0, none⟩), u7, u8, u9, u10, u11, u12, u13, u14, u15, u16, u17, u18, u19, u20, u21, u22, u23, u24, u25, u26, u27], defers := [] })
    ?hI ?hIx ?hAx ?h0 ?hassign ?hbody ?hdone ?hstop
  case hI =>
    rintro pre A C ⟨j1, j2, j3, lo, hi, j4, j5⟩ hz hp
    exact ⟨j1.trans (hp.mono (by omega)), (hp.block _ (by omega)).trans j2, (hp.block _ (by omega)).trans j3, lo, hi, j4, (hp.block _ (by omega)).trans j5⟩
  case hIx => rintro cc pre A C h; exact h.elim
  case hAx =>
    rintro pre x a' A C ⟨gT, u7, u8, u9, u10, u11, u12, u13, u14, u15, u16, u17, u18, u19, u20, u21, u22, u23, u24, u25, u26, u27, h1, h2, rfl⟩ hp
    exact ⟨gT, u7, u8, u9, u10, u11, u12, u13, u14, u15, u16, u17, u18, u19, u20, u21, u22, u23, u24, u25, u26, u27, h1, (hp.block _ h2.lt (by omega)).trans h2, rfl⟩
  case h0 =>
    intro W6 hb6
    exact ⟨HBV.out.trans (hb6.mono (by omega)), (hb6.block _ (by omega)).trans KK.out, (hb6.block _ (by omega)).trans KR.out, 9, 0, AccOK.start _ _ _, (hb6.block _ (by omega)).trans KA.out⟩
  case hassign =>
    intro mm l' pre x W' hz hsp hi'
    clear hseq
    dsimp only [encM, stV]
    gi_wp2_with fail
    exact ⟨⟨W'.heap.size, _, _, _, _, _, _, _, _, _, _, _, _, _, _, _, _, _, _, _, _, _, hz, Blk.new rfl, rfl⟩, by (exact belA)⟩
  case hbody =>
    rintro mm l' pre x a' W' hz hpx ⟨j1, j2, j3, lo, hi, j4, j5⟩ ⟨gT, u7, u8, u9, u10, u11, u12, u13, u14, u15, u16, u17, u18, u19, u20, u21, u22, u23, u24, u25, u26, u27, hgz, hbg, rfl⟩
    have HX := Lib.hid (show x ∈ truthsL b from hpx.subset (by simp))
    have HM := Lib.hid ((ms_ok HV.out (truths_sub HX.out)).at 0)
    have HA := Lib.hid (j4.step (endsM_at 0 HX.out) HM.out.2 (by have := HM.out; omega))
    have J1 := Lib.hid j1
    have J2 := Lib.hid j2
    have J3 := Lib.hid j3
    have J5 := Lib.hid j5
    unfold stcs at hbg
    obtain ⟨s0, s1, s2, s3, s4, s5, s6, s7, s8, s9, s10, s11, s12⟩ := Blk.c13 hbg
    have lg := hbg.lt
    have k0 := Blk.c1 j2
    have lk := j2.lt
    obtain ⟨r0, r1⟩ := Blk.c2 j5
    obtain ⟨f0, f1⟩ := Blk.f2 j5
    have l5 := j5.lt
    clear j1 j2 j3 j4 j5 hbg hseq hpx
    gi_wp2_with fail
    refine wpIn_region_ext_tail 7 (free_round l') rfl (by kernel_rfl) (by kernel_rfl) ?_
    simp only [List.take_succ_cons, List.take_zero, List.drop_succ_cons, List.drop_zero]
    repeat (go_big_quiet_step (fail))
    refine wpQuiet_nil ?_; rintro _ ⟨y1, rfl⟩
    gi_wp2_with fail
    refine wpIn_region_ext_tail 7 (free_round l') rfl (by kernel_rfl) (by kernel_rfl) ?_
    simp only [List.take_succ_cons, List.take_zero, List.drop_succ_cons, List.drop_zero]
    repeat (go_big_quiet_step (fail))
    refine wpQuiet_nil ?_; rintro _ ⟨y2, rfl⟩
    gi_wp2_with fail
    have hB1 := below_ext W' y1
    have hB2 := below_ext _ y2
    have hz1 := hB1.size
    have hzw := J1.out.size
    have hz2 := hB2.size
    rw [World.size_setCell] at hz2
    refine ⟨(((PrivM.of_below hB1).trans (PrivM.setCell (M := fun j => j = g5) _ rfl _ _)).trans (PrivM.of_below hB2)).trans (PrivM.setCell (M := fun j => j = g5) _ rfl _ _), ?_, ?_, ?_, _, _, HA.out, (((J5.out.bel hB1).set 0 _).bel hB2).set 1 _⟩
    · exact (((J1.out.trans (hB1.mono hzw)).setCell (by dsimp only; omega) _).trans (hB2.mono (by rw [World.size_setCell]; omega))).setCell (by dsimp only; omega) _
    · exact (((J2.out.bel hB1).setOther (by omega) _ _).bel hB2).setOther (by omega) _ _
    · exact (((J3.out.bel hB1).setOther (by omega) _ _).bel hB2).setOther (by omega) _ _
  case hdone =>
    rintro D xs W' rfl hz rfl ⟨j1, j2, j3, lo, hi, j4, j5⟩ hp hD'
    have HE := Lib.hid (j4.ends HR.out)
    have J1 := Lib.hid j1
    have J3 := Lib.hid j3
    have HD := Lib.hid hD'
    obtain ⟨r0, r1⟩ := Blk.c2 j3
    obtain ⟨f0, f1⟩ := Blk.f2 j3
    have l3 := j3.lt
    obtain ⟨d0, d1⟩ := Blk.c2 j5
    have l5 := j5.lt
    clear j1 j2 j3 j4 j5 hp hseq hD'
    gi_wp2_with fail
    go_wp2_with fail
    have hF := J3.out.setB2 (.int .i64 lo) (.int .i64 hi)
    have hBF := (J1.out.setCell (p := ⟨g4, 0, none⟩) (by dsimp only; omega) (.int .i64 lo)).setCell (p := ⟨g4, 1, none⟩) (by dsimp only; omega) (.int .i64 hi)
    have hDF : ((W'.setCell ⟨g4, 0, none⟩ (.int .i64 lo)).setCell ⟨g4, 1, none⟩ (.int .i64 hi)).heap[V.heap.size]? = some (.deferred (some [])) :=
      ((Below.heap_setCell _ _ _ _ (by dsimp only; omega)).trans (Below.heap_setCell _ _ _ _ (by dsimp only; omega))).trans HD.out
    generalize (W'.setCell ⟨g4, 0, none⟩ (.int .i64 lo)).setCell ⟨g4, 1, none⟩ (.int .i64 hi) = F at *
    refine ⟨by simp, .inl ⟨_, _, rfl, run_takeDeferred hDF, ?_⟩⟩
    have hG : Blk (F.putObj V.heap.size (.deferred none)) g4 23 #[.int .i64 lo, .int .i64 hi] := (World.putObj_heap_other (by omega)).trans hF
    obtain ⟨t0, t1⟩ := Blk.c2 hG
    refine ⟨.agg #[.int .i64 lo, .int .i64 hi], ?_, lo, hi, rfl, HE.out, ext_of ?_⟩
    · simp [results, Try.results64, go_sem, t0, t1]
    · exact hBF.trans (below_putObj _ (by omega) _)
  case hstop =>
    rintro D cc pre W' rfl hz hSp h hp hD'
    exact h.elim
set_option maxRecDepth 100000 in
set_option maxHeartbeats 8000000 in
theorem holds_1 (b : Ck) (p : Option Addr) (c : Nat) (w : World) (hv : HoldsOK b) (hb : BkOK b) (hcb : CB w b p) (hr : rightC b = true) :
    Calls Try.prog 64 #[ckV b p c, .int .i64 1] w fun e w' => ∃ lo hi, e = .returned (.agg #[.int .i64 lo, .int .i64 hi]) ∧ EndsC b (fun m _ => m.at 1) lo hi ∧ ∃ x, w' = ext w x := by
  refine (callsIn_wide (n := 9)).1 ?_
  have HV := Lib.hid hv
  have HBO := Lib.hid hb
  have HCW := Lib.hid hcb
  have HR := Lib.hid hr
  clear hv hb hcb hr
  unfold ckV
  refine callsIn_of_wp_marks Try.func64 rfl trivial ?_ rfl
  simp only [Try.ntmps64, List.size_toArray, List.length_cons, List.length_nil, Nat.reduceAdd, Nat.reduceSub, Array.replicate_succ, Array.replicate_zero, List.push_toArray, List.append_toArray, List.nil_append, List.cons_append]
  refine wpIn_wide.2 ?_
  go_upto_region 2 with fail
  generalize hV : World.alloc _ _ = V
  have hBV : Below w.heap.size w V := by rw [← hV]; (exact belA)
  have kc : Blk V w.heap.size 76 (ckcs b p c) := by rw [← hV]; exact (((Blk.new rfl).alloc _).alloc _).alloc _
  have kk : Blk V (w.heap.size + 1) 3 #[.int .i64 1] := by rw [← hV]; exact ((Blk.new (by simp)).alloc _).alloc _
  have kr : Blk V (w.heap.size + 1 + 1) 23 #[.int .i64 0, .int .i64 0] := by rw [← hV]; exact (Blk.new (by simp)).alloc _
  have ka : Blk V (w.heap.size + 1 + 1 + 1) 23 #[.int .i64 9, .int .i64 0] := by rw [← hV]; exact Blk.new (by simp)
  have HBV := Lib.hid hBV
  have KK := Lib.hid kk
  have KR := Lib.hid kr
  have KA := Lib.hid ka
  have HCV := Lib.hid (HCW.out.bel hBV)
  have lc := kc.lt
  have la := ka.lt
  have o1 : w.heap.size < w.heap.size + 1 := by omega
  have o2 : w.heap.size + 1 < w.heap.size + 1 + 1 := by omega
  have o3 : w.heap.size + 1 + 1 < w.heap.size + 1 + 1 + 1 := by omega
  clear hV hBV kk kr ka
  generalize w.heap.size + 1 + 1 + 1 = g5 at *
  generalize w.heap.size + 1 + 1 = g4 at *
  generalize w.heap.size + 1 = g3 at *
  unfold ckcs at kc
  have c0 := kc.cell 0
  have c1 := kc.cell 1
  have c2 := kc.cell 2
  have c3 := kc.cell 3
  have c4 := kc.cell 4
  have c5 := kc.cell 5
  have c6 := kc.cell 6
  have c7 := kc.cell 7
  have c8 := kc.cell 8
  have c9 := kc.cell 9
  simp only [List.size_toArray, List.length_cons, List.length_nil, Nat.reduceAdd, Nat.reduceLT, getElem?_pos, List.getElem_toArray, List.getElem_cons_zero, List.getElem_cons_succ] at c0 c1 c2 c3 c4 c5 c6 c7 c8 c9
  clear kc
  go_wp2_with fail
  clear c0 c1 c2 c3 c4 c5 c6 c7 c8 c9
  have hlow : ∀ a, p = some a → a.block < w.heap.size := HCW.out.lt
  have hseq := truths_in b p c (fun j => j = g5 ∨ j = V.heap.size + 1) V HV.out HBO.out HCV.out (fun a ha => by have := hlow a ha; omega)
  refine (wpIn_wide (n := 9)).1 ?_
  refine wpIn_rangeFunc_0 (gf := 90) (fb := #[ckV b p c]) (lb := #[]) rfl (enters_of Try.func90 (by kernel_rfl) rfl)
    (fun j => j = g5) (fun j hj => by omega) hseq (Below.refl _ _) (fun _ => rfl)
    (fun pre A => Below w.heap.size w A ∧ Blk A g3 3 #[.int .i64 1] ∧ Blk A g4 23 #[.int .i64 0, .int .i64 0] ∧ ∃ lo hi, AccOK b (fun m _ => m.at 1) 9 pre lo hi ∧ Blk A g5 23 #[.int .i64 lo, .int .i64 hi])
    (fun cc pre A => False)
    (fun pre x a' A => ∃ (gT : Nat) (u7 u8 u9 u10 u11 u12 u13 u14 u15 u16 u17 u18 u19 u20 u21 u22 u23 u24 u25 u26 u27 : Value), V.heap.size + 2 ≤ gT ∧ Blk A gT 113 (stcs b p c x) ∧ a' = { tmps := #[.agg #[.int .i64 b.l0, .int .i64 b.u0, .int .i64 b.l1, .int .i64 b.u1, .int .i64 b.l2, .int .i64 b.u2, .int .i64 b.e0, .int .i64 b.e1, .int .i64 b.e2, .slice p b.ls.length c], .int .i64 1, .pointer (some ⟨w.heap.size, 0, none⟩), .pointer (some ⟨g3, 0, none⟩), .pointer (some ⟨g4, 0, none⟩), .pointer (some ⟨g5, 0, none⟩), .pointer (some ⟨gT, 0, none⟩), u7, u8, u9, u10, u11, u12, u13, u14, u15, u16, u17, u18, u19, u20, u21, u22, u23, u24, u25, u26, u27], defers := [] })
    ?hI ?hIx ?hAx ?h0 ?hassign ?hbody ?hdone ?hstop
  case hI =>
    rintro pre A C ⟨j1, j2, j3, lo, hi, j4, j5⟩ hz hp
    exact ⟨j1.trans (hp.mono (by omega)), (hp.block _ (by omega)).trans j2, (hp.block _ (by omega)).trans j3, lo, hi, j4, (hp.block _ (by omega)).trans j5⟩
  case hIx => rintro cc pre A C h; exact h.elim
  case hAx =>
    rintro pre x a' A C ⟨gT, u7, u8, u9, u10, u11, u12, u13, u14, u15, u16, u17, u18, u19, u20, u21, u22, u23, u24, u25, u26, u27, h1, h2, rfl⟩ hp
    exact ⟨gT, u7, u8, u9, u10, u11, u12, u13, u14, u15, u16, u17, u18, u19, u20, u21, u22, u23, u24, u25, u26, u27, h1, (hp.block _ h2.lt (by omega)).trans h2, rfl⟩
  case h0 =>
    intro W6 hb6
    exact ⟨HBV.out.trans (hb6.mono (by omega)), (hb6.block _ (by omega)).trans KK.out, (hb6.block _ (by omega)).trans KR.out, 9, 0, AccOK.start _ _ _, (hb6.block _ (by omega)).trans KA.out⟩
  case hassign =>
    intro mm l' pre x W' hz hsp hi'
    clear hseq
    dsimp only [encM, stV]
    gi_wp2_with fail
    exact ⟨⟨W'.heap.size, _, _, _, _, _, _, _, _, _, _, _, _, _, _, _, _, _, _, _, _, _, hz, Blk.new rfl, rfl⟩, by (exact belA)⟩
  case hbody =>
    rintro mm l' pre x a' W' hz hpx ⟨j1, j2, j3, lo, hi, j4, j5⟩ ⟨gT, u7, u8, u9, u10, u11, u12, u13, u14, u15, u16, u17, u18, u19, u20, u21, u22, u23, u24, u25, u26, u27, hgz, hbg, rfl⟩
    have HX := Lib.hid (show x ∈ truthsL b from hpx.subset (by simp))
    have HM := Lib.hid ((ms_ok HV.out (truths_sub HX.out)).at 1)
    have HA := Lib.hid (j4.step (endsM_at 1 HX.out) HM.out.2 (by have := HM.out; omega))
    have J1 := Lib.hid j1
    have J2 := Lib.hid j2
    have J3 := Lib.hid j3
    have J5 := Lib.hid j5
    unfold stcs at hbg
    obtain ⟨s0, s1, s2, s3, s4, s5, s6, s7, s8, s9, s10, s11, s12⟩ := Blk.c13 hbg
    have lg := hbg.lt
    have k0 := Blk.c1 j2
    have lk := j2.lt
    obtain ⟨r0, r1⟩ := Blk.c2 j5
    obtain ⟨f0, f1⟩ := Blk.f2 j5
    have l5 := j5.lt
    clear j1 j2 j3 j4 j5 hbg hseq hpx
    gi_wp2_with fail
    refine wpIn_region_ext_tail 7 (free_round l') rfl (by kernel_rfl) (by kernel_rfl) ?_
    simp only [List.take_succ_cons, List.take_zero, List.drop_succ_cons, List.drop_zero]
    repeat (go_big_quiet_step (fail))
    refine wpQuiet_nil ?_; rintro _ ⟨y1, rfl⟩
    gi_wp2_with fail
    refine wpIn_region_ext_tail 7 (free_round l') rfl (by kernel_rfl) (by kernel_rfl) ?_
    simp only [List.take_succ_cons, List.take_zero, List.drop_succ_cons, List.drop_zero]
    repeat (go_big_quiet_step (fail))
    refine wpQuiet_nil ?_; rintro _ ⟨y2, rfl⟩
    gi_wp2_with fail
    have hB1 := below_ext W' y1
    have hB2 := below_ext _ y2
    have hz1 := hB1.size
    have hzw := J1.out.size
    have hz2 := hB2.size
    rw [World.size_setCell] at hz2
    refine ⟨(((PrivM.of_below hB1).trans (PrivM.setCell (M := fun j => j = g5) _ rfl _ _)).trans (PrivM.of_below hB2)).trans (PrivM.setCell (M := fun j => j = g5) _ rfl _ _), ?_, ?_, ?_, _, _, HA.out, (((J5.out.bel hB1).set 0 _).bel hB2).set 1 _⟩
    · exact (((J1.out.trans (hB1.mono hzw)).setCell (by dsimp only; omega) _).trans (hB2.mono (by rw [World.size_setCell]; omega))).setCell (by dsimp only; omega) _
    · exact (((J2.out.bel hB1).setOther (by omega) _ _).bel hB2).setOther (by omega) _ _
    · exact (((J3.out.bel hB1).setOther (by omega) _ _).bel hB2).setOther (by omega) _ _
  case hdone =>
    rintro D xs W' rfl hz rfl ⟨j1, j2, j3, lo, hi, j4, j5⟩ hp hD'
    have HE := Lib.hid (j4.ends HR.out)
    have J1 := Lib.hid j1
    have J3 := Lib.hid j3
    have HD := Lib.hid hD'
    obtain ⟨r0, r1⟩ := Blk.c2 j3
    obtain ⟨f0, f1⟩ := Blk.f2 j3
    have l3 := j3.lt
    obtain ⟨d0, d1⟩ := Blk.c2 j5
    have l5 := j5.lt
    clear j1 j2 j3 j4 j5 hp hseq hD'
    gi_wp2_with fail
    go_wp2_with fail
    have hF := J3.out.setB2 (.int .i64 lo) (.int .i64 hi)
    have hBF := (J1.out.setCell (p := ⟨g4, 0, none⟩) (by dsimp only; omega) (.int .i64 lo)).setCell (p := ⟨g4, 1, none⟩) (by dsimp only; omega) (.int .i64 hi)
    have hDF : ((W'.setCell ⟨g4, 0, none⟩ (.int .i64 lo)).setCell ⟨g4, 1, none⟩ (.int .i64 hi)).heap[V.heap.size]? = some (.deferred (some [])) :=
      ((Below.heap_setCell _ _ _ _ (by dsimp only; omega)).trans (Below.heap_setCell _ _ _ _ (by dsimp only; omega))).trans HD.out
    generalize (W'.setCell ⟨g4, 0, none⟩ (.int .i64 lo)).setCell ⟨g4, 1, none⟩ (.int .i64 hi) = F at *
    refine ⟨by simp, .inl ⟨_, _, rfl, run_takeDeferred hDF, ?_⟩⟩
    have hG : Blk (F.putObj V.heap.size (.deferred none)) g4 23 #[.int .i64 lo, .int .i64 hi] := (World.putObj_heap_other (by omega)).trans hF
    obtain ⟨t0, t1⟩ := Blk.c2 hG
    refine ⟨.agg #[.int .i64 lo, .int .i64 hi], ?_, lo, hi, rfl, HE.out, ext_of ?_⟩
    · simp [results, Try.results64, go_sem, t0, t1]
    · exact hBF.trans (below_putObj _ (by omega) _)
  case hstop =>
    rintro D cc pre W' rfl hz hSp h hp hD'
    exact h.elim
set_option maxRecDepth 100000 in
set_option maxHeartbeats 8000000 in
theorem holds_2 (b : Ck) (p : Option Addr) (c : Nat) (w : World) (hv : HoldsOK b) (hb : BkOK b) (hcb : CB w b p) (hr : rightC b = true) :
    Calls Try.prog 64 #[ckV b p c, .int .i64 2] w fun e w' => ∃ lo hi, e = .returned (.agg #[.int .i64 lo, .int .i64 hi]) ∧ EndsC b (fun m _ => m.at 2) lo hi ∧ ∃ x, w' = ext w x := by
  refine (callsIn_wide (n := 9)).1 ?_
  have HV := Lib.hid hv
  have HBO := Lib.hid hb
  have HCW := Lib.hid hcb
  have HR := Lib.hid hr
  clear hv hb hcb hr
  unfold ckV
  refine callsIn_of_wp_marks Try.func64 rfl trivial ?_ rfl
  simp only [Try.ntmps64, List.size_toArray, List.length_cons, List.length_nil, Nat.reduceAdd, Nat.reduceSub, Array.replicate_succ, Array.replicate_zero, List.push_toArray, List.append_toArray, List.nil_append, List.cons_append]
  refine wpIn_wide.2 ?_
  go_upto_region 2 with fail
  generalize hV : World.alloc _ _ = V
  have hBV : Below w.heap.size w V := by rw [← hV]; (exact belA)
  have kc : Blk V w.heap.size 76 (ckcs b p c) := by rw [← hV]; exact (((Blk.new rfl).alloc _).alloc _).alloc _
  have kk : Blk V (w.heap.size + 1) 3 #[.int .i64 2] := by rw [← hV]; exact ((Blk.new (by simp)).alloc _).alloc _
  have kr : Blk V (w.heap.size + 1 + 1) 23 #[.int .i64 0, .int .i64 0] := by rw [← hV]; exact (Blk.new (by simp)).alloc _
  have ka : Blk V (w.heap.size + 1 + 1 + 1) 23 #[.int .i64 9, .int .i64 0] := by rw [← hV]; exact Blk.new (by simp)
  have HBV := Lib.hid hBV
  have KK := Lib.hid kk
  have KR := Lib.hid kr
  have KA := Lib.hid ka
  have HCV := Lib.hid (HCW.out.bel hBV)
  have lc := kc.lt
  have la := ka.lt
  have o1 : w.heap.size < w.heap.size + 1 := by omega
  have o2 : w.heap.size + 1 < w.heap.size + 1 + 1 := by omega
  have o3 : w.heap.size + 1 + 1 < w.heap.size + 1 + 1 + 1 := by omega
  clear hV hBV kk kr ka
  generalize w.heap.size + 1 + 1 + 1 = g5 at *
  generalize w.heap.size + 1 + 1 = g4 at *
  generalize w.heap.size + 1 = g3 at *
  unfold ckcs at kc
  have c0 := kc.cell 0
  have c1 := kc.cell 1
  have c2 := kc.cell 2
  have c3 := kc.cell 3
  have c4 := kc.cell 4
  have c5 := kc.cell 5
  have c6 := kc.cell 6
  have c7 := kc.cell 7
  have c8 := kc.cell 8
  have c9 := kc.cell 9
  simp only [List.size_toArray, List.length_cons, List.length_nil, Nat.reduceAdd, Nat.reduceLT, getElem?_pos, List.getElem_toArray, List.getElem_cons_zero, List.getElem_cons_succ] at c0 c1 c2 c3 c4 c5 c6 c7 c8 c9
  clear kc
  go_wp2_with fail
  clear c0 c1 c2 c3 c4 c5 c6 c7 c8 c9
  have hlow : ∀ a, p = some a → a.block < w.heap.size := HCW.out.lt
  have hseq := truths_in b p c (fun j => j = g5 ∨ j = V.heap.size + 1) V HV.out HBO.out HCV.out (fun a ha => by have := hlow a ha; omega)
  refine (wpIn_wide (n := 9)).1 ?_
  refine wpIn_rangeFunc_0 (gf := 90) (fb := #[ckV b p c]) (lb := #[]) rfl (enters_of Try.func90 (by kernel_rfl) rfl)
    (fun j => j = g5) (fun j hj => by omega) hseq (Below.refl _ _) (fun _ => rfl)
    (fun pre A => Below w.heap.size w A ∧ Blk A g3 3 #[.int .i64 2] ∧ Blk A g4 23 #[.int .i64 0, .int .i64 0] ∧ ∃ lo hi, AccOK b (fun m _ => m.at 2) 9 pre lo hi ∧ Blk A g5 23 #[.int .i64 lo, .int .i64 hi])
    (fun cc pre A => False)
    (fun pre x a' A => ∃ (gT : Nat) (u7 u8 u9 u10 u11 u12 u13 u14 u15 u16 u17 u18 u19 u20 u21 u22 u23 u24 u25 u26 u27 : Value), V.heap.size + 2 ≤ gT ∧ Blk A gT 113 (stcs b p c x) ∧ a' = { tmps := #[.agg #[.int .i64 b.l0, .int .i64 b.u0, .int .i64 b.l1, .int .i64 b.u1, .int .i64 b.l2, .int .i64 b.u2, .int .i64 b.e0, .int .i64 b.e1, .int .i64 b.e2, .slice p b.ls.length c], .int .i64 2, .pointer (some ⟨w.heap.size, 0, none⟩), .pointer (some ⟨g3, 0, none⟩), .pointer (some ⟨g4, 0, none⟩), .pointer (some ⟨g5, 0, none⟩), .pointer (some ⟨gT, 0, none⟩), u7, u8, u9, u10, u11, u12, u13, u14, u15, u16, u17, u18, u19, u20, u21, u22, u23, u24, u25, u26, u27], defers := [] })
    ?hI ?hIx ?hAx ?h0 ?hassign ?hbody ?hdone ?hstop
  case hI =>
    rintro pre A C ⟨j1, j2, j3, lo, hi, j4, j5⟩ hz hp
    exact ⟨j1.trans (hp.mono (by omega)), (hp.block _ (by omega)).trans j2, (hp.block _ (by omega)).trans j3, lo, hi, j4, (hp.block _ (by omega)).trans j5⟩
  case hIx => rintro cc pre A C h; exact h.elim
  case hAx =>
    rintro pre x a' A C ⟨gT, u7, u8, u9, u10, u11, u12, u13, u14, u15, u16, u17, u18, u19, u20, u21, u22, u23, u24, u25, u26, u27, h1, h2, rfl⟩ hp
    exact ⟨gT, u7, u8, u9, u10, u11, u12, u13, u14, u15, u16, u17, u18, u19, u20, u21, u22, u23, u24, u25, u26, u27, h1, (hp.block _ h2.lt (by omega)).trans h2, rfl⟩
  case h0 =>
    intro W6 hb6
    exact ⟨HBV.out.trans (hb6.mono (by omega)), (hb6.block _ (by omega)).trans KK.out, (hb6.block _ (by omega)).trans KR.out, 9, 0, AccOK.start _ _ _, (hb6.block _ (by omega)).trans KA.out⟩
  case hassign =>
    intro mm l' pre x W' hz hsp hi'
    clear hseq
    dsimp only [encM, stV]
    gi_wp2_with fail
    exact ⟨⟨W'.heap.size, _, _, _, _, _, _, _, _, _, _, _, _, _, _, _, _, _, _, _, _, _, hz, Blk.new rfl, rfl⟩, by (exact belA)⟩
  case hbody =>
    rintro mm l' pre x a' W' hz hpx ⟨j1, j2, j3, lo, hi, j4, j5⟩ ⟨gT, u7, u8, u9, u10, u11, u12, u13, u14, u15, u16, u17, u18, u19, u20, u21, u22, u23, u24, u25, u26, u27, hgz, hbg, rfl⟩
    have HX := Lib.hid (show x ∈ truthsL b from hpx.subset (by simp))
    have HM := Lib.hid ((ms_ok HV.out (truths_sub HX.out)).at 2)
    have HA := Lib.hid (j4.step (endsM_at 2 HX.out) HM.out.2 (by have := HM.out; omega))
    have J1 := Lib.hid j1
    have J2 := Lib.hid j2
    have J3 := Lib.hid j3
    have J5 := Lib.hid j5
    unfold stcs at hbg
    obtain ⟨s0, s1, s2, s3, s4, s5, s6, s7, s8, s9, s10, s11, s12⟩ := Blk.c13 hbg
    have lg := hbg.lt
    have k0 := Blk.c1 j2
    have lk := j2.lt
    obtain ⟨r0, r1⟩ := Blk.c2 j5
    obtain ⟨f0, f1⟩ := Blk.f2 j5
    have l5 := j5.lt
    clear j1 j2 j3 j4 j5 hbg hseq hpx
    gi_wp2_with fail
    refine wpIn_region_ext_tail 7 (free_round l') rfl (by kernel_rfl) (by kernel_rfl) ?_
    simp only [List.take_succ_cons, List.take_zero, List.drop_succ_cons, List.drop_zero]
    repeat (go_big_quiet_step (fail))
    refine wpQuiet_nil ?_; rintro _ ⟨y1, rfl⟩
    gi_wp2_with fail
    refine wpIn_region_ext_tail 7 (free_round l') rfl (by kernel_rfl) (by kernel_rfl) ?_
    simp only [List.take_succ_cons, List.take_zero, List.drop_succ_cons, List.drop_zero]
    repeat (go_big_quiet_step (fail))
    refine wpQuiet_nil ?_; rintro _ ⟨y2, rfl⟩
    gi_wp2_with fail
    have hB1 := below_ext W' y1
    have hB2 := below_ext _ y2
    have hz1 := hB1.size
    have hzw := J1.out.size
    have hz2 := hB2.size
    rw [World.size_setCell] at hz2
    refine ⟨(((PrivM.of_below hB1).trans (PrivM.setCell (M := fun j => j = g5) _ rfl _ _)).trans (PrivM.of_below hB2)).trans (PrivM.setCell (M := fun j => j = g5) _ rfl _ _), ?_, ?_, ?_, _, _, HA.out, (((J5.out.bel hB1).set 0 _).bel hB2).set 1 _⟩
    · exact (((J1.out.trans (hB1.mono hzw)).setCell (by dsimp only; omega) _).trans (hB2.mono (by rw [World.size_setCell]; omega))).setCell (by dsimp only; omega) _
    · exact (((J2.out.bel hB1).setOther (by omega) _ _).bel hB2).setOther (by omega) _ _
    · exact (((J3.out.bel hB1).setOther (by omega) _ _).bel hB2).setOther (by omega) _ _
  case hdone =>
    rintro D xs W' rfl hz rfl ⟨j1, j2, j3, lo, hi, j4, j5⟩ hp hD'
    have HE := Lib.hid (j4.ends HR.out)
    have J1 := Lib.hid j1
    have J3 := Lib.hid j3
    have HD := Lib.hid hD'
    obtain ⟨r0, r1⟩ := Blk.c2 j3
    obtain ⟨f0, f1⟩ := Blk.f2 j3
    have l3 := j3.lt
    obtain ⟨d0, d1⟩ := Blk.c2 j5
    have l5 := j5.lt
    clear j1 j2 j3 j4 j5 hp hseq hD'
    gi_wp2_with fail
    go_wp2_with fail
    have hF := J3.out.setB2 (.int .i64 lo) (.int .i64 hi)
    have hBF := (J1.out.setCell (p := ⟨g4, 0, none⟩) (by dsimp only; omega) (.int .i64 lo)).setCell (p := ⟨g4, 1, none⟩) (by dsimp only; omega) (.int .i64 hi)
    have hDF : ((W'.setCell ⟨g4, 0, none⟩ (.int .i64 lo)).setCell ⟨g4, 1, none⟩ (.int .i64 hi)).heap[V.heap.size]? = some (.deferred (some [])) :=
      ((Below.heap_setCell _ _ _ _ (by dsimp only; omega)).trans (Below.heap_setCell _ _ _ _ (by dsimp only; omega))).trans HD.out
    generalize (W'.setCell ⟨g4, 0, none⟩ (.int .i64 lo)).setCell ⟨g4, 1, none⟩ (.int .i64 hi) = F at *
    refine ⟨by simp, .inl ⟨_, _, rfl, run_takeDeferred hDF, ?_⟩⟩
    have hG : Blk (F.putObj V.heap.size (.deferred none)) g4 23 #[.int .i64 lo, .int .i64 hi] := (World.putObj_heap_other (by omega)).trans hF
    obtain ⟨t0, t1⟩ := Blk.c2 hG
    refine ⟨.agg #[.int .i64 lo, .int .i64 hi], ?_, lo, hi, rfl, HE.out, ext_of ?_⟩
    · simp [results, Try.results64, go_sem, t0, t1]
    · exact hBF.trans (below_putObj _ (by omega) _)
  case hstop =>
    rintro D cc pre W' rfl hz hSp h hp hD'
    exact h.elim
theorem holds_any (b : Ck) (p : Option Addr) (c : Nat) (k : Nat) (hk : k < 3) (w : World) (hv : HoldsOK b) (hb : BkOK b) (hcb : CB w b p) (hr : rightC b = true) :
    Calls Try.prog 64 #[ckV b p c, .int .i64 k] w fun e w' => ∃ lo hi, e = .returned (.agg #[.int .i64 lo, .int .i64 hi]) ∧ EndsC b (fun m _ => m.at k) lo hi ∧ ∃ x, w' = ext w x := by
  match k, hk with
  | 0, _ => exact holds_0 b p c w hv hb hcb hr
  | 1, _ => exact holds_1 b p c w hv hb hcb hr
  | 2, _ => exact holds_2 b p c w hv hb hcb hr
end Go.Proofs.Ytpiadbdkiibdbaa

