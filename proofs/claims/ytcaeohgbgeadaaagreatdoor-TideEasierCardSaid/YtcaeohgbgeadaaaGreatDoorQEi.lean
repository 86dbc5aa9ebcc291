/- Package tide: is there a plan by which nothing is left? -/
/- Package tide: the plan by which the fewest are lost at most. -/
import Derived.Test.YtcaeohgbgeadaaaGreatDoorQEg
set_option linter.unusedSimpArgs false
set_option linter.unusedVariables false
namespace Go.Proofs.YtcaeohgbgeadaaaGreatDoor
open Go Go.RowKit Go.Shelf
theorem Hl.OK.hours {h : Hl} (k : h.OK) : ∀ s ∈ h.b.ts, 0 ≤ s.hour ∧ s.hour ≤ 60 := chainT_hours k.nw.1 k.ch
theorem PlanIn.hK {n : Nat} (x : VL) (A B : World) (h : PlanIn (n + 2) A x.1 x.2) (hp : PrivM (fun k => k = n + 1) A B) : PlanIn (n + 2) B x.1 x.2 := h.priv hp (fun k e => by omega)
attribute [local go_sem] Oper.semAt_some frozen_alloc_lt
set_option maxRecDepth 100000 in
set_option maxHeartbeats 8000000 in
theorem calm_any (h : Hl) (p : Tp) (w : World) (hk : h.OK) (hl : LowsAt w p.tp h.b.ts) :
    Calls Tryz.prog 83 #[hlv h p] w fun e w' => ∃ q : Bool, e = .returned (.bool q) ∧ (q = true ↔ ∃ pl, planB h.b.ts h.b.most h.b.rest pl = true ∧ ansHi h 2 pl = 0) ∧ ∃ x, w' = ext w x := by
  have HK := Lib.hid hk
  have HL := Lib.hid hl
  have hl0 := hl
  clear hk hl
  unfold hlv
  refine (callsIn_wide (n := 9)).1 ?_
  refine callsIn_of_wp_marks Tryz.func83 rfl trivial ?_ rfl
  simp only [Tryz.ntmps83, List.size_toArray, List.length_cons, List.length_nil, Nat.reduceAdd, Nat.reduceSub, Array.replicate_succ, Array.replicate_zero, List.push_toArray, List.append_toArray, List.nil_append, List.cons_append]
  refine wpIn_wide.2 ?_
  go_upto_region 1 with fail
  generalize hW0 : World.alloc _ _ = W0
  have hB0 : Below w.heap.size w W0 := by rw [← hW0]; (exact belA)
  have hz0 : W0.heap.size = w.heap.size + 2 := by rw [← hW0]; simp
  have k1 : Blk W0 w.heap.size 87 (hlcs h p) := by rw [← hW0]; exact (Blk.new rfl).alloc _
  have k2 : Blk W0 (w.heap.size + 1) 4 #[.bool false] := by rw [← hW0]; exact Blk.new (by simp)
  have HB0 := Lib.hid hB0
  have K1 := Lib.hid k1
  have K2 := Lib.hid k2
  have hseq := plans_in h.b p (fun j => j = w.heap.size + 1 ∨ j = W0.heap.size + 1) w hl0 (fun j hj => by omega) HK.out.hours HK.out.ln HK.out.rs.1 HK.out.ms
  unfold hlcs at k1
  obtain ⟨c0, c1, c2, c3, c4, c5, c6, c7, c8⟩ := Blk.c9 k1
  have l1 := k1.lt
  clear hW0 hB0 k1 k2 hl0
  go_wp2_with fail
  clear c0 c1 c2 c3 c4 c5 c6 c7 c8 l1
  refine (wpIn_wide (n := 9)).1 ?_
  refine wpIn_rangeFunc_1 (gf := 125) (fb := #[tv h.b p]) (lb := #[]) rfl (enters_of Tryz.func125 (by kernel_rfl) rfl)
    (fun j => j = w.heap.size + 1) (fun j hj => by omega) hseq HB0.out (fun _ => rfl)
    (fun pre A => Below w.heap.size w A ∧ Blk A w.heap.size 87 (hlcs h p) ∧ Blk A (w.heap.size + 1) 4 #[.bool false] ∧ ∀ x ∈ pre, ansHi h 2 x.2 ≠ 0)
    (fun c pre A => c = .ret ∧ Below w.heap.size w A ∧ Blk A (w.heap.size + 1) 4 #[.bool true] ∧ ∃ x ∈ pre, ansHi h 2 x.2 = 0)
    (fun pre x a' A => a' = { tmps := #[.agg #[.int .i64 h.b.q.lo, .int .i64 h.b.q.hi, .slice p.np h.b.q.ns.length p.nc, .int .i64 h.b.now, .slice p.tp h.b.ts.length p.tc, .int .i64 h.b.glo, .int .i64 h.b.ghi, .int .i64 h.b.most, .int .i64 h.b.rest, .int .i64 h.hl, .int .i64 h.hh, .int .i64 h.rl, .int .i64 h.rh], .pointer (some ⟨w.heap.size, 0, none⟩), .pointer (some ⟨w.heap.size + 1, 0, none⟩), x.1, .pointer (some ⟨w.heap.size, 0, none⟩), .agg #[.int .i64 h.b.q.lo, .int .i64 h.b.q.hi, .slice p.np h.b.q.ns.length p.nc, .int .i64 h.b.now, .slice p.tp h.b.ts.length p.tc, .int .i64 h.b.glo, .int .i64 h.b.ghi, .int .i64 h.b.most, .int .i64 h.b.rest], .func (.func 125) #[.agg #[.int .i64 h.b.q.lo, .int .i64 h.b.q.hi, .slice p.np h.b.q.ns.length p.nc, .int .i64 h.b.now, .slice p.tp h.b.ts.length p.tc, .int .i64 h.b.glo, .int .i64 h.b.ghi, .int .i64 h.b.most, .int .i64 h.b.rest]] #[], x.1, undef, undef, undef, undef, undef], defers := [] })
    (fun x A B hx hp => PlanIn.hK x A B hx hp) ?hI ?hIx ?hAx ?h0 ?hassign ?hbody ?hdone ?hstop
  case hI =>
    rintro pre A C ⟨j0, j1, j2, j3⟩ hp
    exact ⟨j0.trans (hp.below (by have := j0.size; omega) (fun k e => by omega)), (hp.block _ j1.lt (by omega)).trans j1, (hp.block _ j2.lt (by omega)).trans j2, j3⟩
  case hIx =>
    rintro c pre A C ⟨rfl, j0, j1, j2⟩ hp
    exact ⟨rfl, j0.trans (hp.below (by have := j0.size; omega) (fun k e => by omega)), (hp.block _ j1.lt (by omega)).trans j1, j2⟩
  case hAx => rintro pre z a' A C rfl hp; rfl
  case h0 =>
    intro W6 hb6
    exact ⟨HB0.out.trans (hb6.mono (by omega)), (hb6.block _ (by omega)).trans K1.out, (hb6.block _ (by omega)).trans K2.out, fun x hx => by cases hx⟩
  case hassign =>
    intro m l' pre z W' hz hsp hkx hi'
    exact wpIn_assign ⟨by simp [go_sem, Act.put, Act.eval], Below.refl _ _⟩
  case hbody =>
    rintro m l' pre ⟨v, pl⟩ a' W' hz hpx hkx ⟨j0, j1, j2, j3⟩ rfl
    have hpl := hpx (v, pl) (by simp)
    dsimp only at hkx hpl ⊢
    have HPL := Lib.hid hpl
    have HKX := Lib.hid hkx
    have J0 := Lib.hid j0
    have J1 := Lib.hid j1
    have J2 := Lib.hid j2
    have J3 := Lib.hid j3
    unfold hlcs at j1
    obtain ⟨c0, c1, c2, c3, c4, c5, c6, c7, c8, c9, c10, c11, c12⟩ := Blk.c13 j1
    have l1 := j1.lt
    have g0 := j2.cell 0
    have gf := j2.frozen 0
    have l2 := j2.lt
    have hlen := plan_len hpl
    have hms := HK.out.ms
    have hfi := field_hi
    obtain ⟨lo, hlo⟩ : ∃ n, ansLo h 2 pl = n := ⟨_, rfl⟩
    obtain ⟨hi, hhi⟩ : ∃ n, ansHi h 2 pl = n := ⟨_, rfl⟩
    have HLO := Lib.hid hlo
    have HHI := Lib.hid hhi
    have hl1000 : pl.length ≤ 1000 := by omega
    have HO := Lib.hid (plan_ord HK.out.rs.1 HK.out.ch hpl)
    clear hseq j0 j1 j2 j3 hpx hkx hpl hlo hhi hlen hms
    by_cases hq : hi = 0
    · have HQ := Lib.hid hq
      have hq' : (hi == 0) = true := by simpa using hq
      clear hq
      gi_wp2_with (gi_at_call 67; refine (CallsIn.inRound _ (callsIn_wide.2 (answer_plan h p 2 _ pl _ HK.out (by omega) (HL.out.below J0.out) HKX.out.1 hl1000 HO.out))).mono ?_; rw [HLO.out, HHI.out]; rintro e w2 ⟨rfl, y, rfl⟩)
      have HB3 := J0.out.trans ((below_ext W' y).mono J0.out.size)
      refine ⟨privM_set (O := fun j => j = w.heap.size + 1) (PrivM.of_below (below_ext W' y)) rfl _ _, rfl, HB3.setCell (by dsimp only; omega) _, by simpa using (J2.out.ext y).set 0 (.bool true), (v, pl), by simp, ?_⟩
      dsimp only; rw [HHI.out, HQ.out]
    · have HQ := Lib.hid hq
      have hq' : (hi == 0) = false := by simpa using hq
      clear hq
      gi_wp2_with (gi_at_call 67; refine (CallsIn.inRound _ (callsIn_wide.2 (answer_plan h p 2 _ pl _ HK.out (by omega) (HL.out.below J0.out) HKX.out.1 hl1000 HO.out))).mono ?_; rw [HLO.out, HHI.out]; rintro e w2 ⟨rfl, y, rfl⟩)
      have HB3 := J0.out.trans ((below_ext W' y).mono J0.out.size)
      refine ⟨PrivM.of_below (below_ext W' y), HB3, J1.out.ext y, J2.out.ext y, fun x hx => ?_⟩
      rcases List.mem_append.1 hx with h1 | h1
      · exact J3.out x h1
      · rw [List.mem_singleton.1 h1]; dsimp only; rw [HHI.out]; exact HQ.out
  case hdone =>
    rintro D xs W' rfl hz hS ⟨j0, -, j2, j3⟩ hp hD'
    have hno : ∀ pl, planB h.b.ts h.b.most h.b.rest pl = true → ansHi h 2 pl ≠ 0 := fun pl hpl => by
      obtain ⟨x, hx, rfl⟩ := (hS pl).1 hpl
      exact j3 x hx
    have HNO := Lib.hid hno
    have J0 := Lib.hid j0
    have J2 := Lib.hid j2
    have g0 := j2.cell 0
    have gf := j2.frozen 0
    have l2 := j2.lt
    have HD := Lib.hid hD'
    clear j0 j2 j3 hno hS hp hD' hseq
    gi_wp2_with fail
    go_wp2_with fail
    have hF : Blk (W'.setCell ⟨w.heap.size + 1, 0, none⟩ (.bool false)) (w.heap.size + 1) 4 #[.bool false] := by simpa using J2.out.set 0 (.bool false)
    have hBF := J0.out.setCell (p := ⟨w.heap.size + 1, 0, none⟩) (by dsimp only; omega) (.bool false)
    have hDF : (W'.setCell ⟨w.heap.size + 1, 0, none⟩ (.bool false)).heap[W0.heap.size]? = some (.deferred (some [])) :=
      (Below.heap_setCell _ _ _ _ (by dsimp only; omega)).trans HD.out
    generalize W'.setCell ⟨w.heap.size + 1, 0, none⟩ (.bool false) = F at *
    refine ⟨by simp, .inl ⟨_, _, rfl, run_takeDeferred hDF, ?_⟩⟩
    have hG : Blk (F.putObj W0.heap.size (.deferred none)) (w.heap.size + 1) 4 #[.bool false] := (World.putObj_heap_other (by omega)).trans hF
    have t0 := Blk.c1 hG
    refine ⟨.bool false, ?_, false, rfl, ⟨fun e => (by cases e), fun ⟨pl, h1, h2⟩ => absurd h2 (HNO.out pl h1)⟩, ext_of ?_⟩
    · simp [results, Tryz.results83, go_sem, t0]
    · exact hBF.trans (below_putObj _ (by omega) _)
  case hstop =>
    rintro D c pre W' rfl hz hSp ⟨rfl, j0, j2, x, hx, hx0⟩ hp hD'
    have hyes : ∃ pl, planB h.b.ts h.b.most h.b.rest pl = true ∧ ansHi h 2 pl = 0 := ⟨x.2, hSp x hx, hx0⟩
    have HY := Lib.hid hyes
    have J0 := Lib.hid j0
    have J2 := Lib.hid j2
    have HD := Lib.hid hD'
    clear j0 j2 hyes hp hD' hseq
    gi_wp2_with fail
    refine ⟨by simp, .inl ⟨_, _, rfl, run_takeDeferred HD.out, ?_⟩⟩
    have hG : Blk (W'.putObj W0.heap.size (.deferred none)) (w.heap.size + 1) 4 #[.bool true] := (World.putObj_heap_other (by omega)).trans J2.out
    have t0 := Blk.c1 hG
    refine ⟨.bool true, ?_, true, rfl, ⟨fun _ => HY.out, fun _ => rfl⟩, ext_of ?_⟩
    · simp [results, Tryz.results83, go_sem, t0]
    · exact J0.out.trans (below_putObj _ (by omega) _)
end Go.Proofs.YtcaeohgbgeadaaaGreatDoor

namespace Go.Proofs.YtcaeohgbgeadaaaGreatDoor
open Go Go.RowKit Go.Shelf
/-- Is a plan better than another one: fewer are lost at most, or as many by fewer tides, or by as many, and it comes before it? -/
def betterB (h : Hl) (a b : List Int) : Bool := decide (ansHi h 1 a < ansHi h 1 b) || (decide (ansHi h 1 a = ansHi h 1 b) && fewerB a b)
theorem better_cmp (h : Hl) (a b : List Int) (x y : Int) (hx : ansHi h 1 a = x) (hy : ansHi h 1 b = y) : decide (orL [cmpI x y, cmpI a.length b.length, cmpL a b] < 0) = betterB h a b := by
  unfold betterB
  rw [← fewer_cmp, hx, hy]
  by_cases h1 : x < y
  · simp [orL, cmpI, h1]
  · by_cases h2 : y < x
    · have e : ¬ x = y := by omega
      simp [orL, cmpI, h1, h2, e]
    · have e : x = y := by omega
      subst e
      simp [orL, cmpI]
theorem better_irrefl (h : Hl) (a : List Int) : betterB h a a = false := by simp [betterB, fewerB_irrefl]
theorem better_trans {h : Hl} {a b c : List Int} (h1 : betterB h a b = true) (h2 : betterB h b c = true) : betterB h a c = true := by
  simp only [betterB, Bool.or_eq_true, Bool.and_eq_true, decide_eq_true_eq] at h1 h2 ⊢
  rcases h1 with h1 | ⟨h1, h1'⟩ <;> rcases h2 with h2 | ⟨h2, h2'⟩
  · left; omega
  · left; omega
  · left; omega
  · right; exact ⟨by omega, fewerB_trans _ _ _ h1' h2'⟩
theorem better_total {h : Hl} {a b : List Int} (h1 : betterB h a b = false) (h2 : betterB h b a = false) : a = b := by
  simp only [betterB, Bool.or_eq_false_iff, Bool.and_eq_false_iff, decide_eq_false_iff_not] at h1 h2
  have e : ansHi h 1 a = ansHi h 1 b := by omega
  refine fewerB_total ?_ ?_
  · rcases h1.2 with h3 | h3
    · exact absurd e h3
    · exact h3
  · rcases h2.2 with h3 | h3
    · exact absurd e.symm h3
    · exact h3
/-- The best plan. -/
def IsBest (h : Hl) (pl : List Int) : Prop := planB h.b.ts h.b.most h.b.rest pl = true ∧ ∀ l, planB h.b.ts h.b.most h.b.rest l = true → betterB h l pl = false
theorem IsBest.uniq {h : Hl} {a b : List Int} (h1 : IsBest h a) (h2 : IsBest h b) : a = b := better_total (h2.2 a h1.1) (h1.2 b h2.1)
theorem IsBest.lost {h : Hl} {a l : List Int} (h1 : IsBest h a) (hl : planB h.b.ts h.b.most h.b.rest l = true) : ansHi h 1 a ≤ ansHi h 1 l := by
  have := h1.2 l hl
  simp only [betterB, Bool.or_eq_false_iff, decide_eq_false_iff_not] at this
  omega
/-- Where no tide surely lets anything out all plans lose the same. -/
theorem runS_zero {ts : List Lw} {room : Nat → Int} (hz : ∀ i, room i = 0) {r g : Int} (hr : 0 ≤ r) : ∀ (l : List Int) (h a o : Int), 0 ≤ h → (runS ts room r g l h a o).1 = o
  | [], h, a, o, _ => rfl
  | t :: l, h, a, o, h0 => by
    unfold runS
    cases ts[t.toNat]? with
    | none => rfl
    | some s =>
      dsimp only
      by_cases hg : g ≤ s.hour
      · rw [if_pos hg]
      · rw [if_neg hg]
        have hb := afterH_bd hr (s.hour - a).toNat h h0
        rw [hz]
        rw [runS_zero hz hr l _ _ _ (by omega)]
        omega
theorem zero_lost {h : Hl} (k : h.OK) (hz : ∀ i, i < 6 → roomT h.b.ts false i = 0) {pl : List Int} (hp : planB h.b.ts h.b.most h.b.rest pl = true) : ansHi h 1 pl = h.hh := by
  rw [ansHi_is k hp, end_corn k hp]
  have h1 := k.hd
  have h2 := k.rt
  have h0 : ∀ i, roomT h.b.ts false i = 0 := fun i => by
    by_cases hi : i < 6
    · exact hz i hi
    · unfold roomT
      have := k.ln
      rw [List.getElem?_eq_none (by omega)]
  simp only [loC, hiC, askN, endN, Bool.not_false, Bool.not_true, Bool.false_eq_true, if_false, if_true]
  rw [runS_zero h0 (by omega) pl _ _ _ (by omega)]
  omega
theorem zero_best {h : Hl} (k : h.OK) (hz : ∀ i, i < 6 → roomT h.b.ts false i = 0) : IsBest h [] := by
  have hn := plan_nil (ts := h.b.ts) (rest := h.b.rest) k.ms.1
  refine ⟨hn, fun l hl => ?_⟩
  unfold betterB
  rw [zero_lost k hz hl, zero_lost k hz hn, fewerB_nil]
  simp
theorem part_int (cs : Array Value) (i : Nat) (a : Int) (h : cs[i]? = some (.int .i64 a)) (w : World) : (part 3 cs i).run Tryz.prog w = .ok (.int .i64 a) w := by
  simp [part, go_sem, h]
theorem rooms_in (d : Nat) (a0 a1 a2 a3 a4 a5 : Int) (w : World) : (Op.equalIn (d + 2) 143 (.agg #[.int .i64 a0, .int .i64 a1, .int .i64 a2, .int .i64 a3, .int .i64 a4, .int .i64 a5]) (.agg #[.int .i64 0, .int .i64 0, .int .i64 0, .int .i64 0, .int .i64 0, .int .i64 0])).run Tryz.prog w = .ok (decide (a0 = 0 ∧ a1 = 0 ∧ a2 = 0 ∧ a3 = 0 ∧ a4 = 0 ∧ a5 = 0)) w := by
  rw [show d + 2 = (d + 1) + 1 from rfl]
  unfold Op.equalIn
  simp only [Sem.run_bind, run_underlying (Tryz.underlying143), Result.andThen_ok]
  simp only [Std.Legacy.Range.forIn_eq_forIn_range']
  simp only [Std.Legacy.Range.size, List.range', Nat.sub_zero, Nat.add_sub_cancel, Nat.div_one, Nat.reduceAdd, Nat.reduceSub, Nat.reduceDiv, List.forIn_cons, List.forIn_nil]
  have hs : ∀ w : World, (sizeOf 3).run Tryz.prog w = .ok 1 w := fun w => by simp [go_sem]
  have e0 : ∀ (a b : Int) (w : World), (Op.equalIn (d + 1) 3 (.int .i64 a) (.int .i64 b)).run Tryz.prog w = .ok (a == b) w := fun a b w => by simp [Op.equalIn, run_underlying (Tryz.underlying3)]
  have p0 := fun w => part_int #[.int .i64 a0, .int .i64 a1, .int .i64 a2, .int .i64 a3, .int .i64 a4, .int .i64 a5] 0 a0 rfl w
  have q0 := fun w => part_int #[.int .i64 0, .int .i64 0, .int .i64 0, .int .i64 0, .int .i64 0, .int .i64 0] 0 0 rfl w
  have p1 := fun w => part_int #[.int .i64 a0, .int .i64 a1, .int .i64 a2, .int .i64 a3, .int .i64 a4, .int .i64 a5] 1 a1 rfl w
  have q1 := fun w => part_int #[.int .i64 0, .int .i64 0, .int .i64 0, .int .i64 0, .int .i64 0, .int .i64 0] 1 0 rfl w
  have p2 := fun w => part_int #[.int .i64 a0, .int .i64 a1, .int .i64 a2, .int .i64 a3, .int .i64 a4, .int .i64 a5] 2 a2 rfl w
  have q2 := fun w => part_int #[.int .i64 0, .int .i64 0, .int .i64 0, .int .i64 0, .int .i64 0, .int .i64 0] 2 0 rfl w
  have p3 := fun w => part_int #[.int .i64 a0, .int .i64 a1, .int .i64 a2, .int .i64 a3, .int .i64 a4, .int .i64 a5] 3 a3 rfl w
  have q3 := fun w => part_int #[.int .i64 0, .int .i64 0, .int .i64 0, .int .i64 0, .int .i64 0, .int .i64 0] 3 0 rfl w
  have p4 := fun w => part_int #[.int .i64 a0, .int .i64 a1, .int .i64 a2, .int .i64 a3, .int .i64 a4, .int .i64 a5] 4 a4 rfl w
  have q4 := fun w => part_int #[.int .i64 0, .int .i64 0, .int .i64 0, .int .i64 0, .int .i64 0, .int .i64 0] 4 0 rfl w
  have p5 := fun w => part_int #[.int .i64 a0, .int .i64 a1, .int .i64 a2, .int .i64 a3, .int .i64 a4, .int .i64 a5] 5 a5 rfl w
  have q5 := fun w => part_int #[.int .i64 0, .int .i64 0, .int .i64 0, .int .i64 0, .int .i64 0, .int .i64 0] 5 0 rfl w
  simp only [Sem.run_bind, hs, Result.andThen_ok, Nat.mul_one, e0, Nat.zero_add, Nat.reduceAdd, Nat.reduceMul, p0, q0, p1, q1, p2, q2, p3, q3, p4, q4, p5, q5]
  by_cases h0 : a0 = 0
  · subst h0
    by_cases h1 : a1 = 0
    · subst h1
      by_cases h2 : a2 = 0
      · subst h2
        by_cases h3 : a3 = 0
        · subst h3
          by_cases h4 : a4 = 0
          · subst h4
            by_cases h5 : a5 = 0
            · subst h5
              simp [p0, p1, p2, p3, p4, p5, q0, q1, q2, q3, q4, q5, e0]
            · simp [h5, p0, p1, p2, p3, p4, p5, q0, q1, q2, q3, q4, q5, e0]
          · simp [h4, p0, p1, p2, p3, p4, p5, q0, q1, q2, q3, q4, q5, e0]
        · simp [h3, p0, p1, p2, p3, p4, p5, q0, q1, q2, q3, q4, q5, e0]
      · simp [h2, p0, p1, p2, p3, p4, p5, q0, q1, q2, q3, q4, q5, e0]
    · simp [h1, p0, p1, p2, p3, p4, p5, q0, q1, q2, q3, q4, q5, e0]
  · simp [h0, p0, p1, p2, p3, p4, p5, q0, q1, q2, q3, q4, q5, e0]
theorem rooms_eql (a0 a1 a2 a3 a4 a5 : Int) (w : World) : (Go.binOp .eql 143 (.agg #[.int .i64 a0, .int .i64 a1, .int .i64 a2, .int .i64 a3, .int .i64 a4, .int .i64 a5]) (.agg #[.int .i64 0, .int .i64 0, .int .i64 0, .int .i64 0, .int .i64 0, .int .i64 0])).run Tryz.prog w = .ok (.bool (decide (a0 = 0 ∧ a1 = 0 ∧ a2 = 0 ∧ a3 = 0 ∧ a4 = 0 ∧ a5 = 0))) w := by
  rw [run_eql_struct, show (10000 : Nat) = 9998 + 2 from rfl, rooms_in]
  rfl
section
variable {o : Oper} {w : World} {g j t s u : Nat} (ρ : Operand → Value)
theorem run_bs3 {x y z : Int} (hop : o.op = .buildSlice 30 3 #[(0, .tmp t), (1, .tmp s), (2, .tmp u)]) (h1 : ρ (.tmp t) = .int .i64 x) (h2 : ρ (.tmp s) = .int .i64 y) (h3 : ρ (.tmp u) = .int .i64 z) :
    (execOp ρ o).run Tryz.prog w = .ok (.value (.slice (some ⟨w.heap.size, 0, none⟩) 3 3)) (w.alloc (.cells #[.int .i64 x, .int .i64 y, .int .i64 z] 3)) := by
  unfold execOp; simp [hop, h1, h2, h3, go_sem]
theorem run_bZero (hop : o.op = .build 143 #[]) : (execOp ρ o).run Tryz.prog w = .ok (.value (.agg #[.int .i64 0, .int .i64 0, .int .i64 0, .int .i64 0, .int .i64 0, .int .i64 0])) w := by
  unfold execOp; simp [hop, go_sem]
end
theorem ints_three {w : World} {g : Nat} {x y z : Int} (k : Blk w g 3 #[.int .i64 x, .int .i64 y, .int .i64 z]) : IntsAt w (some ⟨g, 0, none⟩) [x, y, z] := fun i u hi => by
  refine ⟨g, 0, rfl, k.lt, ?_⟩
  rw [Nat.zero_add]
  match i, hi with
  | 0, hi => simp at hi; subst hi; simpa using k.cell 0
  | 1, hi => simp at hi; subst hi; simpa using k.cell 1
  | 2, hi => simp at hi; subst hi; simpa using k.cell 2
  | i + 3, hi => simp at hi
/-- What region 1's operations leave. -/
def bestR1 (h : Hl) (p : Tp) (i : Nat) (v : Value) (_w : World) : Prop :=
  match i with
  | 0 => v = hlv h p
  | 1 => v = .agg #[.func (.func (eFn false)) #[] #[]]
  | 2 => v = rmV h.b.ts false
  | 3 => v = .agg #[.int .i64 0, .int .i64 0, .int .i64 0, .int .i64 0, .int .i64 0, .int .i64 0]
  | _ => True
theorem bestR1_kept (h : Hl) (p : Tp) : ∀ (i : Nat), i < 4 → ∀ (v : Value) (w w' : World), bestR1 h p i v w → Below w.heap.size w w' → bestR1 h p i v w' := by
  intro i hi v w w' h hb
  match i, hi with
  | 0, _ => exact h
  | 1, _ => exact h
  | 2, _ => exact h
  | 3, _ => exact h
  | k + 4, hk => omega
/-- What region 8's operations leave. -/
def bestR8 (pv bv : Value) (pl bl : List Int) (x y : Int) (i : Nat) (v : Value) (w : World) : Prop :=
  match i with
  | 0 => v = .int .i64 x
  | 1 => v = .int .i64 y
  | 2 => v = .int .i64 (cmpI x y)
  | 3 => v = pv
  | 4 => v = .int .i64 pl.length
  | 5 => v = bv
  | 6 => v = .int .i64 bl.length
  | 7 => v = .int .i64 (cmpI pl.length bl.length)
  | 8 => v = pv
  | 9 => v = bv
  | 10 => v = .int .i64 (cmpL pl bl)
  | 11 => ∃ g, v = .slice (some ⟨g, 0, none⟩) 3 3 ∧ Blk w g 3 #[.int .i64 (cmpI x y), .int .i64 (cmpI pl.length bl.length), .int .i64 (cmpL pl bl)]
  | 12 => v = .int .i64 (orL [cmpI x y, cmpI pl.length bl.length, cmpL pl bl])
  | _ => True
theorem bestR8_kept (pv bv : Value) (pl bl : List Int) (x y : Int) : ∀ (i : Nat), i < 13 → ∀ (v : Value) (w w' : World), bestR8 pv bv pl bl x y i v w → Below w.heap.size w w' → bestR8 pv bv pl bl x y i v w' := by
  intro i hi v w w' h hb
  match i, hi with
  | 0, _ => exact h
  | 1, _ => exact h
  | 2, _ => exact h
  | 3, _ => exact h
  | 4, _ => exact h
  | 5, _ => exact h
  | 6, _ => exact h
  | 7, _ => exact h
  | 8, _ => exact h
  | 9, _ => exact h
  | 10, _ => exact h
  | 11, _ => obtain ⟨g, h1, h2⟩ := h; exact ⟨g, h1, h2.bel hb⟩
  | 12, _ => exact h
  | k + 13, hk => omega
attribute [local go_sem] Oper.semAt_some frozen_alloc_lt
set_option maxRecDepth 100000 in
set_option maxHeartbeats 16000000 in
theorem best_any (h : Hl) (p : Tp) (w : World) (hk : h.OK) (hl : LowsAt w p.tp h.b.ts) :
    Calls Tryz.prog 80 #[hlv h p] w fun e w' => ∃ (v : Value) (pb : List Int), e = .returned v ∧ PlanIn w.heap.size w' v pb ∧ IsBest h pb ∧ ∃ x, w' = ext w x := by
  have HK := Lib.hid hk
  have HL := Lib.hid hl
  have hl0 := hl
  clear hk hl
  unfold hlv
  refine (callsIn_wide (n := 9)).1 ?_
  refine callsIn_of_wp_marks Tryz.func80 rfl trivial ?_ rfl
  simp only [Tryz.ntmps80, List.size_toArray, List.length_cons, List.length_nil, Nat.reduceAdd, Nat.reduceSub, Array.replicate_succ, Array.replicate_zero, List.push_toArray, List.append_toArray, List.nil_append, List.cons_append]
  refine wpIn_wide.2 ?_
  go_upto_region 1 with fail
  generalize hW0 : World.alloc _ _ = W0
  have hB0 : Below w.heap.size w W0 := by rw [← hW0]; (exact belA)
  have k1 : Blk W0 w.heap.size 87 (hlcs h p) := by rw [← hW0]; exact Blk.new rfl
  have HB0 := Lib.hid hB0
  have K1 := Lib.hid k1
  clear hW0 hB0 k1
  refine wp_region_flow_back 4 41 (bestR1 h p) (by kernel_rfl) (by kernel_rfl) rfl (bestR1_kept _ _) ?_ ?_
  · intro i hin a X g1 g2 g3 g4 g5 KK hKK
    match i, hin with
    | 0, _ => exact st_val rfl (wanted_none rfl) (run_lHl _ rfl (g3 1 (by kernel_rfl)) (K1.out.bel g5)) (hKK _ _ rfl (Below.refl _ _))
    | 1, _ =>
      refine st_call rfl rfl (wanted_none rfl) (vs := #[]) (by simp) (run_enter Tryz.func124 (by kernel_rfl) (by kernel_rfl) _) ?_
      refine (lowEnd_any _).mono ?_
      rintro e w1 ⟨rfl, y, rfl⟩
      exact ⟨_, rfl, hKK _ _ rfl (below_ext _ _)⟩
    | 2, _ =>
      refine st_call rfl rfl (wanted_none rfl) (sargs2 (g4 0 (by kernel_rfl)) (g4 1 (by kernel_rfl))) (run_enter Tryz.func123 (by kernel_rfl) (by kernel_rfl) _) ?_
      refine (lets_any h p false _ (HL.out.below (HB0.out.trans (g5.mono HB0.out.size))) HK.out.ln).mono ?_
      rintro e w1 ⟨rfl, y, rfl⟩
      exact ⟨_, rfl, hKK _ _ rfl (below_ext _ _)⟩
    | 3, _ => exact st_val rfl (wanted_none rfl) (run_bZero _ rfl) (hKK _ _ rfl (Below.refl _ _))
    | k + 4, hk => omega
  intro vs W2 hvs hBW
  have v0 : vs 0 = _ := hvs 0 (by omega)
  have v1 : vs 1 = _ := hvs 1 (by omega)
  have v2 : vs 2 = _ := hvs 2 (by omega)
  have v3 : vs 3 = _ := hvs 3 (by omega)
  simp only [putAll, v0, v1, v2, v3]
  clear v0 v1 v2 v3 hvs
  simp only [dstOf, Act.put, List.getElem?_toArray, List.getElem?_cons_zero, List.getElem?_cons_succ, Option.bind_some, Option.getD_some, List.setIfInBounds_toArray, List.set_cons_succ, List.set_cons_zero, List.drop_succ_cons, List.drop_zero]
  have HB2 := Lib.hid (HB0.out.trans (hBW.mono HB0.out.size))
  have K2 := Lib.hid (K1.out.bel hBW)
  clear HB0 K1 hBW
  unfold rmV
  have hre := rooms_eql (roomT h.b.ts false 0) (roomT h.b.ts false 1) (roomT h.b.ts false 2) (roomT h.b.ts false 3) (roomT h.b.ts false 4) (roomT h.b.ts false 5)
  by_cases hz : roomT h.b.ts false 0 = 0 ∧ roomT h.b.ts false 1 = 0 ∧ roomT h.b.ts false 2 = 0 ∧ roomT h.b.ts false 3 = 0 ∧ roomT h.b.ts false 4 = 0 ∧ roomT h.b.ts false 5 = 0
  · have HZ := Lib.hid (zero_best HK.out (fun i hi => by
      obtain ⟨z0, z1, z2, z3, z4, z5⟩ := hz
      match i, hi with
      | 0, _ => exact z0
      | 1, _ => exact z1
      | 2, _ => exact z2
      | 3, _ => exact z3
      | 4, _ => exact z4
      | 5, _ => exact z5
      | i + 6, h => omega))
    rw [decide_eq_true hz] at hre
    clear hz hl0
    go_wp2_with fail
    refine ⟨_, results_tmp rfl _ _ _, _, [], rfl, PlanIn.nil _ _, HZ.out, ext_of HB2.out⟩
  · rw [decide_eq_false hz] at hre
    clear hz
    go_upto_region 4 with fail
    clear hre
    have HB3 := Lib.hid (HB2.out.alloc HB2.out.size (.cells #[.slice none 0 0] 30))
    have K3 := Lib.hid (K2.out.alloc (.cells #[.slice none 0 0] 30))
    have kb : Blk (W2.alloc (.cells #[.slice none 0 0] 30)) W2.heap.size 30 #[.slice none 0 0] := Blk.new rfl
    have KB := Lib.hid kb
    have hg3 : w.heap.size < W2.heap.size := K2.out.lt
    clear HB2 K2 kb
    generalize W2.alloc _ = W3 at *
    generalize W2.heap.size = g3 at *
    have k3 := K3.out
    unfold hlcs at k3
    obtain ⟨c0, c1, c2, c3, c4, c5, c6, c7, c8, c9, c10, c11, c12⟩ := Blk.c13 k3
    have l3 := k3.lt
    have kb := KB.out
    have d0 := Blk.c1 kb
    have lb := kb.lt
    have hfi := field_hi
    clear k3 kb
    obtain ⟨f0, hf0⟩ : ∃ n, ansHi h 1 [] = n := ⟨_, rfl⟩
    obtain ⟨f1, hf1⟩ : ∃ n, ansLo h 1 [] = n := ⟨_, rfl⟩
    have HF0 := Lib.hid hf0
    have HF1 := Lib.hid hf1
    clear hf0 hf1
    go_upto_region 5 with (go_at_call 67; refine (answer_plan h p 1 _ [] _ HK.out (by omega) (HL.out.below HB3.out) (PlanAt.nil _) (by simp) trivial).mono ?_; rw [HF0.out, HF1.out]; rintro e w1 ⟨rfl, y, rfl⟩)
    clear c0 c1 c2 c3 c4 c5 c6 c7 c8 c9 c10 c11 c12 l3 d0 lb hfi
    have HB4 := Lib.hid ((HB3.out.trans ((below_ext W3 y).mono HB3.out.size)).alloc (Nat.le_trans HB3.out.size (below_ext W3 y).size) (.cells #[.int .i64 f0] 3))
    have K4 := Lib.hid ((K3.out.ext y).alloc (.cells #[.int .i64 f0] 3))
    have KB4 := Lib.hid ((KB.out.ext y).alloc (.cells #[.int .i64 f0] 3))
    have kf : Blk ((ext W3 y).alloc (.cells #[.int .i64 f0] 3)) (ext W3 y).heap.size 3 #[.int .i64 f0] := Blk.new rfl
    have KF := Lib.hid kf
    have hg4 : g3 < (ext W3 y).heap.size := (KB.out.ext y).lt
    clear HB3 K3 KB kf
    generalize (ext W3 y).alloc _ = W4 at *
    generalize (ext W3 y).heap.size = g4 at *
    have hg5 := KF.out.lt
    have k4 := K4.out
    unfold hlcs at k4
    obtain ⟨c0, c1, c2, c3, c4, c5, c6, c7, c8, c9, c10, c11, c12⟩ := Blk.c13 k4
    have l4 := k4.lt
    clear k4
    have hseq := plans_in h.b p (fun j => (j = g3 ∨ j = g4) ∨ j = W4.heap.size + 1) w hl0 (fun j hj => by omega) HK.out.hours HK.out.ln HK.out.rs.1 HK.out.ms
    clear hl0
    go_wp2_with fail
    clear c0 c1 c2 c3 c4 c5 c6 c7 c8 c9 c10 c11 c12 l4
    refine (wpIn_wide (n := 9)).1 ?_
    refine wpIn_rangeFunc_1 (gf := 125) (fb := #[tv h.b p]) (lb := #[]) rfl (enters_of Tryz.func125 (by kernel_rfl) rfl)
      (fun j => j = g3 ∨ j = g4) (fun j hj => by omega) hseq HB4.out (fun _ => rfl)
      (fun pre A => Below w.heap.size w A ∧ Blk A w.heap.size 87 (hlcs h p) ∧ ∃ (vb : Value) (pb : List Int), Blk A g3 30 #[vb] ∧ Blk A g4 3 #[.int .i64 (ansHi h 1 pb)] ∧ PlanIn (W4.heap.size + 2) A vb pb ∧ planB h.b.ts h.b.most h.b.rest pb = true ∧ ∀ x ∈ pre, betterB h x.2 pb = false)
      (fun c pre A => False)
      (fun pre x a' A => a' = { tmps := #[.agg #[.int .i64 h.b.q.lo, .int .i64 h.b.q.hi, .slice p.np h.b.q.ns.length p.nc, .int .i64 h.b.now, .slice p.tp h.b.ts.length p.tc, .int .i64 h.b.glo, .int .i64 h.b.ghi, .int .i64 h.b.most, .int .i64 h.b.rest, .int .i64 h.hl, .int .i64 h.hh, .int .i64 h.rl, .int .i64 h.rh], .pointer (some ⟨w.heap.size, 0, none⟩), .slice none 0 0, .pointer (some ⟨g3, 0, none⟩), .pointer (some ⟨g4, 0, none⟩), x.1, undef, hlv h p, .agg #[.func (.func (eFn false)) #[] #[]], .agg #[.int .i64 (roomT h.b.ts false 0), .int .i64 (roomT h.b.ts false 1), .int .i64 (roomT h.b.ts false 2), .int .i64 (roomT h.b.ts false 3), .int .i64 (roomT h.b.ts false 4), .int .i64 (roomT h.b.ts false 5)], .agg #[.int .i64 0, .int .i64 0, .int .i64 0, .int .i64 0, .int .i64 0, .int .i64 0], .bool false, .agg #[.int .i64 h.b.q.lo, .int .i64 h.b.q.hi, .slice p.np h.b.q.ns.length p.nc, .int .i64 h.b.now, .slice p.tp h.b.ts.length p.tc, .int .i64 h.b.glo, .int .i64 h.b.ghi, .int .i64 h.b.most, .int .i64 h.b.rest, .int .i64 h.hl, .int .i64 h.hh, .int .i64 h.rl, .int .i64 h.rh], .slice none 0 0, .agg #[.int .i64 f1, .int .i64 f0], .int .i64 f0, .pointer (some ⟨w.heap.size, 0, none⟩), .agg #[.int .i64 h.b.q.lo, .int .i64 h.b.q.hi, .slice p.np h.b.q.ns.length p.nc, .int .i64 h.b.now, .slice p.tp h.b.ts.length p.tc, .int .i64 h.b.glo, .int .i64 h.b.ghi, .int .i64 h.b.most, .int .i64 h.b.rest], .func (.func 125) #[.agg #[.int .i64 h.b.q.lo, .int .i64 h.b.q.hi, .slice p.np h.b.q.ns.length p.nc, .int .i64 h.b.now, .slice p.tp h.b.ts.length p.tc, .int .i64 h.b.glo, .int .i64 h.b.ghi, .int .i64 h.b.most, .int .i64 h.b.rest]] #[], x.1, undef, undef, undef, undef, undef, undef, undef, undef, undef, undef, undef, undef, undef, undef, undef, undef, undef, undef, undef, undef, undef], defers := [] })
      (fun x A B hx hp => PlanIn.hK x A B hx hp) ?hI ?hIx ?hAx ?h0 ?hassign ?hbody ?hdone ?hstop
    case hI =>
      rintro pre A C ⟨j0, j1, vb, pb, j2, j3, j4, j5, j6⟩ hp
      exact ⟨j0.trans (hp.below (by have := j0.size; omega) (fun k e => by omega)), (hp.block _ j1.lt (by omega)).trans j1, vb, pb, (hp.block _ j2.lt (by omega)).trans j2, (hp.block _ j3.lt (by omega)).trans j3, j4.priv hp (fun k e => by omega), j5, j6⟩
    case hIx => rintro c pre A C h; exact h.elim
    case hAx => rintro pre z a' A C rfl hp; rfl
    case h0 =>
      intro W6 hb6
      refine ⟨HB4.out.trans (hb6.mono (by omega)), (hb6.block _ (by omega)).trans K4.out, .slice none 0 0, [], (hb6.block _ (by omega)).trans KB4.out, ?_, PlanIn.nil _ _, plan_nil HK.out.ms.1, fun x hx => by cases hx⟩
      rw [HF0.out]; exact (hb6.block _ (by omega)).trans KF.out
    case hassign =>
      intro m l' pre z W' hz hsp hkx hi'
      exact wpIn_assign ⟨by simp [go_sem, Act.put, Act.eval], Below.refl _ _⟩
    case hbody =>
      rintro m l' pre ⟨v, pl⟩ a' W' hz hpx hkx ⟨j0, j1, vb, pb, j2, j3, j4, j5, j6⟩ rfl
      have hpl := hpx (v, pl) (by simp)
      dsimp only at hkx hpl ⊢
      obtain ⟨⟨q, c, rfl, hi, hlc, hqa, hqn⟩, hqb⟩ := id hkx
      obtain ⟨⟨q2, c2, rfl, hi2, hlc2, hqa2, hqn2⟩, hqb2⟩ := id j4
      have HPL := Lib.hid hpl
      have HKX := Lib.hid hkx
      have HI := Lib.hid hi
      have HI2 := Lib.hid hi2
      have J0 := Lib.hid j0
      have J1 := Lib.hid j1
      have J2 := Lib.hid j2
      have J3 := Lib.hid j3
      have J4 := Lib.hid j4
      have J5 := Lib.hid j5
      have J6 := Lib.hid j6
      unfold hlcs at j1
      obtain ⟨c0, c1, c2, c3, c4, c5, c6, c7, c8, c9, c10, c11, c12⟩ := Blk.c13 j1
      have l1 := j1.lt
      have hlen := plan_len hpl
      have hlen2 := plan_len j5
      have hms := HK.out.ms
      have hfi := field_hi
      obtain ⟨lo, hlo⟩ : ∃ n, ansLo h 1 pl = n := ⟨_, rfl⟩
      obtain ⟨x, hx⟩ : ∃ n, ansHi h 1 pl = n := ⟨_, rfl⟩
      obtain ⟨yb, hyb⟩ : ∃ n, ansHi h 1 pb = n := ⟨_, rfl⟩
      have HLO := Lib.hid hlo
      have HX := Lib.hid hx
      have HYB := Lib.hid hyb
      have hl1000 : pl.length ≤ 1000 := by omega
      have hl2000 : pb.length ≤ 1000 := by omega
      have HO := Lib.hid (plan_ord HK.out.rs.1 HK.out.ch hpl)
      clear hseq j0 j1 j2 j3 j4 j5 j6 hpx hkx hpl hlo hx hyb hlen hlen2 hms hi hi2 hqa hqn hqb hqa2 hqn2 hqb2
      gi_wp2_with (gi_at_call 67; refine (CallsIn.inRound _ (callsIn_wide.2 (answer_plan h p 1 _ pl _ HK.out (by omega) (HL.out.below J0.out) HKX.out.1 hl1000 HO.out))).mono ?_; rw [HLO.out, HX.out]; rintro e w2 ⟨rfl, y, rfl⟩)
      clear c0 c1 c2 c3 c4 c5 c6 c7 c8 c9 c10 c11 c12 l1 hfi
      have HB5 := Lib.hid (J0.out.trans ((below_ext W' y).mono J0.out.size))
      have HBy := Lib.hid (below_ext W' y)
      have L1 := Lib.hid (J1.out.ext y)
      have L2 := Lib.hid (J2.out.ext y)
      have L3 : Hid (Blk (ext W' y) g4 3 #[.int .i64 yb]) := Lib.hid (by rw [← HYB.out]; exact J3.out.ext y)
      have L4 := Lib.hid (J4.out.bel (below_ext W' y))
      have LK := Lib.hid (HKX.out.bel (below_ext W' y))
      have LI := Lib.hid (HI.out.ext y)
      have LI2 := Lib.hid (HI2.out.ext y)
      clear J0 J1 J2 J3 J4 HKX HI HI2
      generalize ext W' y = X0 at *
      refine wpIn_region_flow_back 13 41 (bestR8 (.slice q pl.length c) (.slice q2 pb.length c2) pl pb x yb) (free_round l') rfl (by kernel_rfl) (by kernel_rfl) rfl (bestR8_kept _ _ _ _ _ _) ?_ ?_
      · intro i hin a2 X g1 g2 r3 r4 r5 KK hKK
        match i, hin with
        | 0, _ => exact st_move rfl rfl (wanted_none rfl) (r3 6 (by kernel_rfl)) (hKK _ _ rfl (Below.refl _ _))
        | 1, _ => exact st_val rfl (wanted_none rfl) (run_num _ rfl (r3 4 (by kernel_rfl)) (((L3.out.bel r5).cell 0).trans rfl)) (hKK _ _ rfl (Below.refl _ _))
        | 2, _ =>
          refine st_call rfl rfl (wanted_none rfl) (sargs2 (r4 0 (by kernel_rfl)) (r4 1 (by kernel_rfl))) (run_enter Tryz.func127 (by kernel_rfl) (by kernel_rfl) _) ?_
          refine (cmp_any x yb _).mono ?_
          rintro e w1 ⟨rfl, rfl⟩
          exact ⟨_, rfl, hKK _ _ rfl (Below.refl _ _)⟩
        | 3, _ => exact st_move rfl rfl (wanted_none rfl) (r3 5 (by kernel_rfl)) (hKK _ _ rfl (Below.refl _ _))
        | 4, _ => exact st_val rfl (wanted_none rfl) (run_lenT _ rfl (r4 3 (by kernel_rfl))) (hKK _ _ rfl (Below.refl _ _))
        | 5, _ => exact st_val rfl (wanted_none rfl) (run_lPlan _ rfl (r3 3 (by kernel_rfl)) (((L2.out.bel r5).cell 0).trans rfl)) (hKK _ _ rfl (Below.refl _ _))
        | 6, _ => exact st_val rfl (wanted_none rfl) (run_lenT _ rfl (r4 5 (by kernel_rfl))) (hKK _ _ rfl (Below.refl _ _))
        | 7, _ =>
          refine st_call rfl rfl (wanted_none rfl) (sargs2 (r4 4 (by kernel_rfl)) (r4 6 (by kernel_rfl))) (run_enter Tryz.func127 (by kernel_rfl) (by kernel_rfl) _) ?_
          refine (cmp_any _ _ _).mono ?_
          rintro e w1 ⟨rfl, rfl⟩
          exact ⟨_, rfl, hKK _ _ rfl (Below.refl _ _)⟩
        | 8, _ => exact st_move rfl rfl (wanted_none rfl) (r3 5 (by kernel_rfl)) (hKK _ _ rfl (Below.refl _ _))
        | 9, _ => exact st_val rfl (wanted_none rfl) (run_lPlan _ rfl (r3 3 (by kernel_rfl)) (((L2.out.bel r5).cell 0).trans rfl)) (hKK _ _ rfl (Below.refl _ _))
        | 10, _ =>
          refine st_call rfl rfl (wanted_none rfl) (sargs2 (r4 8 (by kernel_rfl)) (r4 9 (by kernel_rfl))) (run_enter Tryz.func128 (by kernel_rfl) (by kernel_rfl) _) ?_
          refine (compare_any q q2 c c2 pl pb _ (LI.out.below r5) (LI2.out.below r5) (by omega)).mono ?_
          rintro e w1 ⟨rfl, rfl⟩
          exact ⟨_, rfl, hKK _ _ rfl (Below.refl _ _)⟩
        | 11, _ => exact st_valw rfl (wanted_none rfl) (run_bs3 _ rfl (r4 2 (by kernel_rfl)) (r4 7 (by kernel_rfl)) (r4 10 (by kernel_rfl))) (hKK _ _ ⟨_, rfl, Blk.new rfl⟩ ((Below.refl _ _).alloc (Nat.le_refl _) _))
        | 12, _ =>
          obtain ⟨gg, e11, k11⟩ := r4 11 (by kernel_rfl)
          refine st_call rfl rfl (wanted_none rfl) (sargs1 e11) (run_enter Tryz.func126 (by kernel_rfl) (by kernel_rfl) _) ?_
          refine (or_any (some ⟨gg, 0, none⟩) 3 [cmpI x yb, cmpI pl.length pb.length, cmpL pl pb] _ (ints_three k11) (by simp)).mono ?_
          rintro e w1 ⟨rfl, rfl⟩
          exact ⟨_, rfl, hKK _ _ rfl (Below.refl _ _)⟩
        | k + 13, hk => omega
      intro vs W3 hvs hBW
      have v0 : vs 0 = _ := hvs 0 (by omega)
      have v1 : vs 1 = _ := hvs 1 (by omega)
      have v2 : vs 2 = _ := hvs 2 (by omega)
      have v3 : vs 3 = _ := hvs 3 (by omega)
      have v4 : vs 4 = _ := hvs 4 (by omega)
      have v5 : vs 5 = _ := hvs 5 (by omega)
      have v6 : vs 6 = _ := hvs 6 (by omega)
      have v7 : vs 7 = _ := hvs 7 (by omega)
      have v8 : vs 8 = _ := hvs 8 (by omega)
      have v9 : vs 9 = _ := hvs 9 (by omega)
      have v10 : vs 10 = _ := hvs 10 (by omega)
      obtain ⟨gg, v11, -⟩ := hvs 11 (by omega)
      have v12 : vs 12 = _ := hvs 12 (by omega)
      simp only [putAll, v0, v1, v2, v3, v4, v5, v6, v7, v8, v9, v10, v11, v12]
      clear v0 v1 v2 v3 v4 v5 v6 v7 v8 v9 v10 v11 v12 hvs
      simp only [dstOf, Act.put, List.getElem?_toArray, List.getElem?_cons_zero, List.getElem?_cons_succ, Option.bind_some, Option.getD_some, List.setIfInBounds_toArray, List.set_cons_succ, List.set_cons_zero, List.drop_succ_cons, List.drop_zero]
      have hbt := better_cmp h pl pb x yb HX.out HYB.out
      obtain ⟨nn, hnn⟩ : ∃ n, orL [cmpI x yb, cmpI pl.length pb.length, cmpL pl pb] = n := ⟨_, rfl⟩
      rw [hnn] at hbt ⊢
      have HBW := Lib.hid hBW
      have M1 := Lib.hid (L1.out.bel hBW)
      have M2 := Lib.hid (L2.out.bel hBW)
      have M3 := Lib.hid (L3.out.bel hBW)
      have M4 := Lib.hid (L4.out.bel hBW)
      have MK := Lib.hid (LK.out.bel hBW)
      have HB6 := Lib.hid (HB5.out.trans (hBW.mono HB5.out.size))
      have HBB := Lib.hid (HBy.out.trans (hBW.mono HBy.out.size))
      have m2 := M2.out
      have m3 := M3.out
      have s0 := m2.cell 0
      have sf := m2.frozen 0
      have sl := m2.lt
      have u0 := m3.cell 0
      have uf := m3.frozen 0
      have ul := m3.lt
      clear L1 L2 L3 L4 LK LI LI2 HB5 HBy hBW hnn m2 m3
      have hne : g3 ≠ g4 := by omega
      have hgw : w.heap.size ≠ g3 ∧ w.heap.size ≠ g4 := by omega
      cases hq : betterB h pl pb
      · rw [hq] at hbt
        have HQ := Lib.hid hq
        clear hq
        gi_wp2_with fail
        refine ⟨(PrivM.of_below HBB.out), HB6.out, M1.out, _, pb, M2.out, by rw [HYB.out]; exact M3.out, M4.out, J5.out, fun z hz' => ?_⟩
        rcases List.mem_append.1 hz' with h1 | h1
        · exact J6.out z h1
        · rw [List.mem_singleton.1 h1]; exact HQ.out
      · rw [hq] at hbt
        have HQ := Lib.hid hq
        clear hq
        gi_wp2_with fail
        refine ⟨privM_set (O := fun j => j = g3 ∨ j = g4) (privM_set (O := fun j => j = g3 ∨ j = g4) (PrivM.of_below HBB.out) (.inl rfl) _ _) (.inr rfl) _ _, (HB6.out.setCell (by dsimp only; omega) _).setCell (by dsimp only; omega) _, (M1.out.setOther hgw.1 _ _).setOther hgw.2 _ _, _, pl, by simpa using (M2.out.set 0 (.slice q pl.length c)).setOther hne 0 (.int .i64 x), by rw [HX.out]; simpa using (M3.out.setOther (Ne.symm hne) 0 (.slice q pl.length c)).set 0 (.int .i64 x), ?_, HPL.out, fun z hz' => ?_⟩
        · exact MK.out.priv (O := fun j => j = g3 ∨ j = g4) (privM_set (O := fun j => j = g3 ∨ j = g4) (privM_set (O := fun j => j = g3 ∨ j = g4) (PrivM.refl _ _) (.inl rfl) _ _) (.inr rfl) _ _) (fun k e => by omega)
        · rcases List.mem_append.1 hz' with h1 | h1
          · cases hb : betterB h z.2 pl
            · rfl
            · have h2 := better_trans hb HQ.out
              rw [J6.out z h1] at h2; cases h2
          · rw [List.mem_singleton.1 h1]; exact better_irrefl h pl
    case hdone =>
      rintro D xs W' rfl hz hS ⟨j0, -, vb, pb, j2, -, j4, j5, j6⟩ hp hD'
      have hbest : IsBest h pb := ⟨j5, fun l hl => by
        obtain ⟨x, hx, rfl⟩ := (hS l).1 hl
        exact j6 x hx⟩
      have HBE := Lib.hid hbest
      have J0 := Lib.hid j0
      have J4 := Lib.hid j4
      have s0 := j2.cell 0
      have sl := j2.lt
      have HD := Lib.hid hD'
      clear j0 j2 j4 j5 j6 hS hp hD' hseq hbest
      gi_wp2_with fail
      go_wp2_with fail
      refine ⟨by simp, .inl ⟨_, _, rfl, run_takeDeferred HD.out, ?_⟩⟩
      refine ⟨_, results_tmp rfl _ _ _, vb, pb, rfl, (J4.out.priv (PrivM.putObj (M := fun j => j = W4.heap.size) _ rfl _) (fun k e => by omega)).mono (by omega), HBE.out, ext_of (J0.out.trans (below_putObj _ (by omega) _))⟩
    case hstop =>
      rintro D c pre W' rfl hz hSp h hp hD'
      exact h.elim
end Go.Proofs.YtcaeohgbgeadaaaGreatDoor

