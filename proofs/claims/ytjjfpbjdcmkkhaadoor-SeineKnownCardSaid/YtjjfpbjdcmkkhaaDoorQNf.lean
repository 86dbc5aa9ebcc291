/- Package seine: Can. Written by gen_can.py. -/
import Derived.Test.YtjjfpbjdcmkkhaaDoorQNb
set_option linter.unusedSimpArgs false
set_option linter.unusedVariables false
namespace Go.Proofs.YtjjfpbjdcmkkhaaDoor
open Go Go.RowKit Go.Shelf
/-- Can there be so many at an hour? -/
def canB (b : Sn) (h m : Int) : Bool := (atL b h).any fun z => decide (z.1 = m)
/-- What the operations of its drawn region leave: before the store, and behind it. -/
def canR (B : Nat) (b : Sn) (p : Option Addr) (c : Nat) (h m : Int) (q1 q2 : Bool) (code : Int) (f : Bool) (i : Nat) (v : Value) (w : World) : Prop :=
  match i with
  | 0 => v = .agg #[.int .i64 b.lo, .int .i64 b.hi, .slice p b.ns.length c]
  | 1 => v = .int .i64 h
  | 2 => v = .bool q1
  | 3 => v = .bool q1
  | 4 => q1 = true → v = .int .i64 m
  | 5 => q1 = true → v = .bool q2
  | 6 => v = .bool (q1 && q2)
  | 7 => ∃ T : Array Value, v = .tuple #[.agg T, .int .i64 code] ∧ AnsAt b p c code T w
  | 8 => ∃ T : Array Value, v = .tuple #[.agg T, .int .i64 code] ∧ AnsAt b p c code T w
  | 9 => ∃ T : Array Value, v = .agg T ∧ AnsAt b p c code T w
  | 10 => v = .int .i64 code
  | 11 => ∃ ba : Nat, v = .pointer (some ⟨ba, 0, none⟩) ∧ B + 4 ≤ ba ∧ (f = false → Blk w ba 80 zeroT) ∧ (f = true → ∃ T : Array Value, AnsAt b p c code T w ∧ Blk w ba 80 T)
  | _ => True
theorem canR_kept (B : Nat) (b : Sn) (p : Option Addr) (c : Nat) (h m : Int) (q1 q2 : Bool) (code : Int) : ∀ f i, i < 13 → i ≠ 12 → ∀ (v : Value) (w w' : World), canR B b p c h m q1 q2 code f i v w → Below w.heap.size w w' → canR B b p c h m q1 q2 code f i v w' := by
  intro f i h9 h8 v w w' h hb
  match i, h9 with
  | 0, _ => exact h
  | 1, _ => exact h
  | 2, _ => exact h
  | 3, _ => exact h
  | 4, _ => exact h
  | 5, _ => exact h
  | 6, _ => exact h
  | 7, _ => obtain ⟨T, h1, h2⟩ := h; exact ⟨T, h1, h2.bel hb⟩
  | 8, _ => obtain ⟨T, h1, h2⟩ := h; exact ⟨T, h1, h2.bel hb⟩
  | 9, _ => obtain ⟨T, h1, h2⟩ := h; exact ⟨T, h1, h2.bel hb⟩
  | 10, _ => exact h
  | 11, _ => obtain ⟨ba, h1, h2, h3, h4⟩ := h; exact ⟨ba, h1, h2, fun e => (h3 e).bel hb, fun e => (h4 e).elim fun T ⟨k1, k2⟩ => ⟨T, k1.bel hb, k2.bel hb⟩⟩
  | 12, _ => exact absurd rfl h8
  | k + 13, hk => omega
theorem run_lIntS {o : Oper} {w : World} {g s : Nat} {x : Int} (ρ : Operand → Value) (hop : o.op = .load 3 (.tmp s)) (hs : ρ (.tmp s) = .pointer (some ⟨g, 0, none⟩)) (k : Blk w g 3 #[.int .i64 x]) :
    (execOp ρ o).run Tryd.prog w = .ok (.value (.int .i64 x)) w := by
  have c0 := k.cell 0
  simp only [List.size_toArray, List.length_cons, List.length_nil, Nat.reduceAdd, Nat.reduceLT, getElem?_pos, List.getElem_toArray, List.getElem_cons_zero, List.getElem_cons_succ] at c0
  unfold execOp
  simp [hop, hs, go_sem, c0]
section
variable {P : Program} {ops : Array Oper} {Q : Exit → Act → World → Prop} {i : Nat} {o : Oper} {K : Act → World → Prop} {a : Act} {w : World}
theorem wanted_notS {g s : Nat} {b : Bool} (h : o.guard = some (g, b)) (hs : (ops[g]?).bind (·.dst) = some s) (hv : a.tmps.getD s undef = .bool (!b)) : Region.wanted o (yielded ops a.tmps) = false := by
  have h2 : a.tmps[s]? = some (.bool (!b)) := by
    cases h3 : a.tmps[s]? with
    | none => simp [Array.getD_eq_getD_getElem?, h3, undef] at hv
    | some x => simp [Array.getD_eq_getD_getElem?, h3] at hv; rw [hv]
  cases b <;> simp [Region.wanted, h, yielded, hs, h2]
theorem st_skipS (h : ops[i]? = some o) (hw : Region.wanted o (yielded ops a.tmps) = false) (hK : K (a.put o.dst undef) w) : wpOp P ops Q i K a w :=
  wpOp_get h (by rw [if_neg (by rw [hw]; decide)]; exact hK)
end
attribute [local go_sem] Oper.semAt_some frozen_alloc_lt
set_option maxRecDepth 100000 in
set_option maxHeartbeats 4000000 in
theorem Can_all (b : Sn) (p : Option Addr) (c : Nat) (h m : Int) (code : Int) (w : World) (hk : SBk w b p) (ha : Asks b (inB h 60 && inB m 400) code) :
    Calls Tryd.prog 18 #[.agg #[.int .i64 b.lo, .int .i64 b.hi, .slice p b.ns.length c], .int .i64 h, .int .i64 m] w fun e w' => ((¬ code = 0 ∧ e = .returned (.tuple #[.bool false, .int .i64 code])) ∨ (code = 0 ∧ e = .returned (.tuple #[.bool (canB b h m), .int .i64 0]))) ∧ Below w.heap.size w w' := by
  obtain ⟨q1, hq1⟩ : ∃ qq, inB h 60 = qq := ⟨_, rfl⟩
  obtain ⟨q2, hq2⟩ : ∃ qq, inB m 400 = qq := ⟨_, rfl⟩
  have hh0 : q1 = true → 0 ≤ h ∧ h ≤ 60 := fun e => by rw [e] at hq1; simpa [inB] using hq1
  rw [hq1, hq2] at ha
  have HQ1 := Lib.hid hq1
  have HQ2 := Lib.hid hq2
  have HA := Lib.hid ha
  clear ha hq1 hq2
  refine (callsIn_wide (n := 9)).1 ?_
  refine callsIn_of_wp_marks Tryd.func18 rfl trivial ?_ rfl
  simp only [Tryd.ntmps18, List.size_toArray, List.length_cons, List.length_nil, Nat.reduceAdd, Nat.reduceSub, Array.replicate_succ, Array.replicate_zero, List.push_toArray, List.append_toArray, List.nil_append, List.cons_append]
  refine wpIn_wide.2 ?_
  go_upto_region 1 with fail
  generalize hW0 : (((w.alloc _).alloc _).alloc _).alloc _ = W0
  have hB0 : Below w.heap.size w W0 := by rw [← hW0]; (repeat (first | (with_reducible exact Below.refl _ _) | (with_reducible assumption) | ((with_reducible refine below_ext_trans ?_ ?_ _); rotate_left; focus (((try dsimp only); repeat (first | omega | simp only [World.size_alloc, World.size_setCell, World.size_drew] | (with_reducible refine le_ext_of ?_) | (with_reducible refine le_ext_add ?_))); done)) | ((with_reducible refine Below.alloc ?_ ?_ _); rotate_left; focus (((try dsimp only); repeat (first | omega | simp only [World.size_alloc, World.size_setCell, World.size_drew] | (with_reducible refine le_ext_of ?_) | (with_reducible refine le_ext_add ?_))); done)) | ((with_reducible refine Below.setCell ?_ ?_ _); rotate_left; focus (((try dsimp only); repeat (first | omega | simp only [World.size_alloc, World.size_setCell, World.size_drew] | (with_reducible refine le_ext_of ?_) | (with_reducible refine le_ext_add ?_))); done)) | (with_reducible refine Below.drew ?_)))
  have hz0 : W0.heap.size = w.heap.size + 4 := by rw [← hW0]; simp
  have hq0 : Blk W0 w.heap.size 26 #[.int .i64 b.lo, .int .i64 b.hi, .slice p b.ns.length c] := by rw [← hW0]; exact (((Blk.new rfl).alloc _).alloc _).alloc _
  have hm0 : Blk W0 (w.heap.size + 1) 3 #[.int .i64 m] := by rw [← hW0]; exact ((Blk.new (by simp)).alloc _).alloc _
  have hr0 : Blk W0 (w.heap.size + 2) 4 #[.bool false] := by rw [← hW0]; exact (Blk.new (by simp)).alloc _
  have he0 : Blk W0 (w.heap.size + 3) 28 #[.int .i64 0] := by rw [← hW0]; exact Blk.new (by simp)
  have hk0 := hk.bel hB0
  clear hW0 hk
  refine wp_region_flow_backS 13 33 12 (fun _ => True) (canR w.heap.size b p c h m q1 q2 code) (by kernel_rfl) (by kernel_rfl) rfl (by omega) (canR_kept _ _ _ _ _ _ _ _ _) (fun _ _ h _ => h) ?_ ?_ ?_
  · intro i hin hik f a X g1 g2 g3 g4 g5 hfw KK hKK
    have hzX := g5.size
    match i, hin with
    | 0, _ => exact st_val rfl (wanted_none rfl) (run_lBookS _ rfl (g3 3 (by kernel_rfl)) (hq0.bel g5)) (hKK _ _ rfl (Below.refl _ _))
    | 1, _ => exact st_move rfl rfl (wanted_none rfl) (g3 1 (by kernel_rfl)) (hKK _ _ rfl (Below.refl _ _))
    | 2, _ =>
      refine st_call rfl rfl (wanted_none rfl) (sargs1 (g4 1 (by decide) (by kernel_rfl))) (run_enter Tryd.func59 (by kernel_rfl) (by kernel_rfl) _) ?_
      refine (isHour_any h _).mono ?_
      rw [HQ1.out]
      rintro e w1 ⟨rfl, rfl⟩
      exact ⟨_, rfl, hKK _ _ rfl (Below.refl _ _)⟩
    | 3, _ => exact st_move rfl rfl (wanted_none rfl) (g4 2 (by decide) (by kernel_rfl)) (hKK _ _ rfl (Below.refl _ _))
    | 4, _ =>
      have hgv := g4 3 (by decide) (by kernel_rfl)
      simp only [canR] at hgv
      cases hg : q1 with
      | true =>
        rw [hg] at hgv
        exact st_val rfl (wanted_some (s := 15) rfl rfl hgv) (run_lIntS _ rfl (g3 5 (by kernel_rfl)) (hm0.bel g5)) (hKK _ _ (fun _ => rfl) (Below.refl _ _))
      | false =>
        rw [hg] at hgv
        exact st_skipS rfl (wanted_notS (s := 15) rfl rfl hgv) (hKK _ _ (fun hf => by rw [hg] at hf; cases hf) (Below.refl _ _))
    | 5, _ =>
      have hgv := g4 3 (by decide) (by kernel_rfl)
      simp only [canR] at hgv
      cases hg : q1 with
      | true =>
        rw [hg] at hgv
        refine st_call rfl rfl (wanted_some (s := 15) rfl rfl hgv) (sargs1 (g4 4 (by decide) (by kernel_rfl) hg)) (run_enter Tryd.func60 (by kernel_rfl) (by kernel_rfl) _) ?_
        refine (isFish_any m _).mono ?_
        rw [HQ2.out]
        rintro e w1 ⟨rfl, rfl⟩
        exact ⟨_, rfl, hKK _ _ (fun _ => rfl) (Below.refl _ _)⟩
      | false =>
        rw [hg] at hgv
        exact st_skipS rfl (wanted_notS (s := 15) rfl rfl hgv) (hKK _ _ (fun hf => by rw [hg] at hf; cases hf) (Below.refl _ _))
    | 6, _ =>
      have hgv := g4 3 (by decide) (by kernel_rfl)
      simp only [canR] at hgv
      cases hg : q1 with
      | true =>
        have hgu := (g4 5 (by decide) (by kernel_rfl)) hg
        rw [hg] at hgv
        exact st_pick rfl rfl (wanted_none rfl) hgv (v := .bool q2) hgu (hKK _ _ (by show _ = _; rw [hg]; rfl) (Below.refl _ _))
      | false =>
        rw [hg] at hgv
        exact st_pick rfl rfl (wanted_none rfl) hgv (v := .bool false) rfl (hKK _ _ (by show _ = _; rw [hg]; rfl) (Below.refl _ _))
    | 7, _ =>
      refine st_call rfl rfl (wanted_none rfl) (sargs2 (g4 0 (by decide) (by kernel_rfl)) (g4 6 (by decide) (by kernel_rfl))) (run_enter Tryd.func58 (by kernel_rfl) (by kernel_rfl) _) ?_
      refine (answer_all b p c (q1 && q2) code _ (hk0.bel g5) HA.out).mono ?_
      rintro e w1 ⟨T, rfl, k1, k2⟩
      exact ⟨_, rfl, hKK _ _ ⟨T, rfl, k1⟩ k2⟩
    | 8, _ =>
      obtain ⟨T, h1, h2⟩ := g4 7 (by decide) (by kernel_rfl)
      exact st_move rfl rfl (wanted_none rfl) h1 (hKK _ _ ⟨T, rfl, h2⟩ (Below.refl _ _))
    | 9, _ =>
      obtain ⟨T, h1, h2⟩ := g4 8 (by decide) (by kernel_rfl)
      exact st_val rfl (wanted_none rfl) (run_extractS _ rfl h1 rfl) (hKK _ _ ⟨T, rfl, h2⟩ (Below.refl _ _))
    | 10, _ =>
      obtain ⟨T, h1, h2⟩ := g4 8 (by decide) (by kernel_rfl)
      exact st_val rfl (wanted_none rfl) (run_extractS _ rfl h1 rfl) (hKK _ _ rfl (Below.refl _ _))
    | 11, _ =>
      cases f with
      | true =>
        have e := hfw rfl
        have e2 : true = false := Eq.trans (by kernel_rfl) e
        cases e2
      | false => exact st_valw rfl (wanted_none rfl) (run_aTale _ rfl) (hKK _ _ ⟨_, rfl, by omega, fun _ => Blk.new rfl, fun e => by cases e⟩ ((Below.refl _ _).alloc (Nat.le_refl _) _))
    | 12, _ => exact absurd rfl hik
    | k + 13, hk => omega
  · intro a X g1 g2 g3 g4 g5 KK hKK
    obtain ⟨ba, e1, e2, e3, -⟩ := g4 11 (by decide) (by kernel_rfl)
    obtain ⟨T, t1, t2⟩ := g4 9 (by decide) (by kernel_rfl)
    obtain ⟨v0, v1, v2, v3, v4, v5, v6, v7, v8, rfl, hone⟩ := t2.nine
    have hbF : Below W0.heap.size X (put9 X ba v0 v1 v2 v3 v4 v5 v6 v7 v8) := set9b (by omega) _ _ _ _ _ _ _ _ _
    have hnF := (hk0.bel (g5.trans hbF)).nt
    have hT := t2.put (e3 rfl) v0 v1 v2 v3 v4 v5 v6 v7 v8 hnF
    have hC := set9 (e3 rfl) v0 v1 v2 v3 v4 v5 v6 v7 v8
    refine st_store_tale rfl (wanted_none rfl) rfl rfl e1 t1 (e3 rfl) hone (hKK _ trivial (fun j hj hjk hr => ?_) hbF)
    match j, hj with
    | 0, _ => exact hr
    | 1, _ => exact hr
    | 2, _ => exact hr
    | 3, _ => exact hr
    | 4, _ => exact hr
    | 5, _ => exact hr
    | 6, _ => exact hr
    | 7, _ => obtain ⟨T, h1, h2⟩ := hr; exact ⟨T, h1, h2.put (e3 rfl) _ _ _ _ _ _ _ _ _ hnF⟩
    | 8, _ => obtain ⟨T, h1, h2⟩ := hr; exact ⟨T, h1, h2.put (e3 rfl) _ _ _ _ _ _ _ _ _ hnF⟩
    | 9, _ => obtain ⟨T, h1, h2⟩ := hr; exact ⟨T, h1, h2.put (e3 rfl) _ _ _ _ _ _ _ _ _ hnF⟩
    | 10, _ => exact hr
    | 11, _ =>
      obtain ⟨ba', d1, d2, -, -⟩ := hr
      have hbb : ba' = ba := by
        have := e1.symm.trans d1
        simpa using this.symm
      subst hbb
      exact ⟨_, d1, d2, (fun e => by cases e), fun _ => ⟨_, hT, hC⟩⟩
    | 12, _ => exact absurd rfl hjk
    | k + 13, hk => omega
  intro vs W2 hvs _ hBW2
  have v0 : vs 0 = _ := hvs 0 (by omega) (by decide)
  have v1 : vs 1 = _ := hvs 1 (by omega) (by decide)
  have v2 : vs 2 = _ := hvs 2 (by omega) (by decide)
  have v3 : vs 3 = _ := hvs 3 (by omega) (by decide)
  obtain ⟨x4, v4⟩ : ∃ x, vs 4 = x := ⟨_, rfl⟩
  obtain ⟨x5, v5⟩ : ∃ x, vs 5 = x := ⟨_, rfl⟩
  have v6 : vs 6 = _ := hvs 6 (by omega) (by decide)
  obtain ⟨T7, v7, -⟩ := hvs 7 (by omega) (by decide)
  obtain ⟨T8, v8, -⟩ := hvs 8 (by omega) (by decide)
  obtain ⟨T9, v9, -⟩ := hvs 9 (by omega) (by decide)
  have v10 : vs 10 = _ := hvs 10 (by omega) (by decide)
  obtain ⟨ba, v11, hba, -, hT⟩ := hvs 11 (by omega) (by decide)
  obtain ⟨T, hA, hbt⟩ := hT rfl
  simp only [putSkip, Nat.reduceEqDiff, reduceIte, v0, v1, v2, v3, v4, v5, v6, v7, v8, v9, v10, v11]
  clear v0 v1 v2 v3 v4 v5 v6 v7 v8 v9 v10 v11 hvs
  simp only [dstOf, Act.put, List.getElem?_toArray, List.getElem?_cons_zero, List.getElem?_cons_succ, Option.bind_some, Option.getD_some, List.setIfInBounds_toArray, List.set_cons_succ, List.set_cons_zero, List.drop_succ_cons, List.drop_zero]
  have hrF := hr0.bel hBW2
  have heF := he0.bel hBW2
  have hmF := hm0.bel hBW2
  have hBF := hB0.trans (hBW2.mono (by omega))
  have hzF := hBW2.size
  have r0 := hrF.frozen 0
  have r1 := heF.frozen 0
  have c0 := hrF.cell 0
  have c1 := heF.cell 0
  have m0 := hmF.cell 0
  have lr := hrF.lt
  have le := heF.lt
  have lm := hmF.lt
  simp only [List.size_toArray, List.length_cons, List.length_nil, Nat.reduceAdd, Nat.reduceLT, getElem?_pos, List.getElem_toArray, List.getElem_cons_zero, List.getElem_cons_succ] at c0 c1 m0
  have HR2 := Lib.hid hrF
  have HE2 := Lib.hid heF
  have HM2 := Lib.hid hmF
  have HB2 := Lib.hid hBF
  have hW2z : w.heap.size + 4 ≤ W2.heap.size := by omega
  clear hrF heF hmF hBF hBW2 hr0 he0 hm0 hB0 hq0 hk0 hz0 hzF
  rcases hA with ⟨hne, rfl⟩ | ⟨rfl, kd, Bb, hkd, rfl, hT⟩
  · clear hbt
    go_wp2_with fail
    have hE := HE2.out.setOther (show w.heap.size + 3 ≠ w.heap.size + 1 + 1 by omega) 0 (.bool false)
    have hF := hE.set 0 (.int .i64 code)
    have hR := (HR2.out.set 0 (.bool false)).setOther (show w.heap.size + 2 ≠ w.heap.size + 1 + 1 + 1 by omega) 0 (.int .i64 code)
    have hBF : Below w.heap.size w ((W2.setCell ⟨w.heap.size + 1 + 1, 0, none⟩ (.bool false)).setCell ⟨w.heap.size + 1 + 1 + 1, 0, none⟩ (.int .i64 code)) := (HB2.out.setCell (by simp; omega) _).setCell (by simp; omega) _
    generalize World.setCell _ _ _ = F at *
    have t0 := Blk.cell hR 0
    have t1 := Blk.cell hF 0
    simp only [List.setIfInBounds_toArray, List.set_cons_zero, List.size_toArray, List.length_cons, List.length_nil, Nat.reduceAdd, Nat.reduceLT, getElem?_pos, List.getElem_toArray, List.getElem_cons_zero, List.getElem_cons_succ] at t0 t1
    refine ⟨.tuple #[.bool false, .int .i64 code], ?_, rfl, hBF⟩
    simp [results, Tryd.results18, go_sem, t0, t1]
  · have hh := hh0 (by rcases HA.out with h | ⟨-, h, -⟩; · exact absurd rfl h.ne
                       · simp only [Bool.and_eq_true] at h; exact h.1)
    have p0 := hbt.cell 0
    have p1 := hbt.cell 1
    have p2 := hbt.cell 2
    have p3 := hbt.cell 3
    have p4 := hbt.cell 4
    have p5 := hbt.cell 5
    have p6 := hbt.cell 6
    have p7 := hbt.cell 7
    have p8 := hbt.cell 8
    unfold talC at p0 p1 p2 p3 p4 p5 p6 p7 p8
    simp only [List.size_toArray, List.length_cons, List.length_nil, Nat.reduceAdd, Nat.reduceLT, getElem?_pos, List.getElem_toArray, List.getElem_cons_zero, List.getElem_cons_succ] at p0 p1 p2 p3 p4 p5 p6 p7 p8
    have HT2 := Lib.hid hT
    have hle := upN_le b.ns h
    have hL := behN_at hle
    have hst := talL_B hT.ok hL
    have hbd := sinN_bd hT.ok hh.1
    obtain ⟨n, hn⟩ : ∃ n : Nat, sinN b.ns h = n := ⟨(sinN b.ns h).toNat, by omega⟩
    have HN := Lib.hid hn
    have hn60 : n ≤ 60 := by omega
    clear hbt hT c0 c1 r0 r1 m0
    go_wp2_with (go_at_call 61; refine (at_any b p c kd Bb h _ HT2.out.nt HT2.out.ok hh).mono ?_; rintro e w3 ⟨bt, bp, bs, rfl, k1, k2, k3, k4, k5, k6, k7⟩; rw [HN.out] at k6; have HX := Lib.hid (show AtBox w3 b.lo b.hi p b.ns.length c kd Bb bt bp bs (upN b.ns h) n (talL b) from ⟨k4, k5, k6, HT2.out.tl.bel k7⟩); have HR3 := Lib.hid (HR2.out.bel k7); have HE3 := Lib.hid (HE2.out.bel k7); have HM3 := Lib.hid (HM2.out.bel k7); have HB3 := Lib.hid (HB2.out.trans (k7.mono HB2.out.size)); have hW3z : w.heap.size + 4 ≤ w3.heap.size := (by have := k7.size; omega); have hbs4 : w.heap.size + 4 ≤ bs ∧ bs < w3.heap.size := ⟨by omega, k6.lt⟩; clear k1 k2 k3 k4 k5 k6 k7)
    have hseq := at1_gen b.lo b.hi p b.ns.length c kd Bb bt bp bs (upN b.ns h) n (talL b) (behN b (upN b.ns h)) (fun j => (j = w.heap.size + 2 ∨ j = w.heap.size + 3) ∨ j = w3.heap.size + 1) w3 HX.out hL hle hst hn60 (by omega)
      (fun M nm hm hj => by
        rcases hj with (hj | hj) | hj
        · exact hm.ne_blk HR3.out hj
        · exact hm.ne_blk HE3.out hj
        · have := hm.lt; omega)
    have hat : ∀ z, z ∈ latL (behN b (upN b.ns h)) n ↔ z ∈ atL b h := fun z => by unfold atL; rw [HN.out]
    refine (wpIn_wide (n := 9)).1 ?_
    refine wpIn_rangeFunc_0 (gf := 90) (fb := #[]) (lb := #[.pointer (some ⟨bt, 0, none⟩), .pointer (some ⟨bp, 0, none⟩), .pointer (some ⟨bs, 0, none⟩)]) rfl (enters_of Tryd.func90 (by kernel_rfl) rfl)
      (fun j => j = w.heap.size + 2 ∨ j = w.heap.size + 3) (fun j hj => by omega) hseq (Below.refl _ _) (fun _ => rfl)
      (fun pre A => (∀ z ∈ pre, z.1 ≠ m) ∧ Blk A (w.heap.size + 1) 3 #[.int .i64 m] ∧ Blk A (w.heap.size + 2) 4 #[.bool false] ∧ Blk A (w.heap.size + 3) 28 #[.int .i64 0])
      (fun c pre A => c = .ret ∧ (∃ z ∈ pre, z.1 = m) ∧ Blk A (w.heap.size + 2) 4 #[.bool true] ∧ Blk A (w.heap.size + 3) 28 #[.int .i64 0])
      (fun pre z a' A => ∃ g6 : Nat, w3.heap.size + 2 ≤ g6 ∧ Blk A g6 91 #[.int .i64 z.1, .int .i64 z.2] ∧ a' = { tmps := #[.agg #[.int .i64 b.lo, .int .i64 b.hi, .slice p b.ns.length c], .int .i64 h, .int .i64 m, .pointer (some ⟨w.heap.size, 0, none⟩), undef, .pointer (some ⟨w.heap.size + 1, 0, none⟩), .pointer (some ⟨w.heap.size + 1 + 1, 0, none⟩), .pointer (some ⟨w.heap.size + 1 + 1 + 1, 0, none⟩), .pointer (some ⟨ba, 0, none⟩), .int .i64 0, .pointer (some ⟨g6, 0, none⟩), .tuple #[.agg T8, .int .i64 0], .agg #[.int .i64 b.lo, .int .i64 b.hi, .slice p b.ns.length c], .int .i64 h, .bool q1, .bool q1, x4, x5, .bool (q1 && q2), .tuple #[.agg T7, .int .i64 0], .agg T9, .int .i64 0, .int .i64 0, .bool false, undef, .agg (talC b.lo b.hi p b.ns.length c kd Bb), .int .i64 h, .func (.func 90) #[] #[.pointer (some ⟨bt, 0, none⟩), .pointer (some ⟨bp, 0, none⟩), .pointer (some ⟨bs, 0, none⟩)], .agg #[.int .i64 z.1, .int .i64 z.2], undef, undef, undef, undef], defers := [] })
      ?hI ?hIx ?hAx ?h0 ?hassign ?hbody ?hdone ?hstop
    case hI =>
      rintro pre A C ⟨j0, j1, j2, j3⟩ hz hp
      exact ⟨j0, (hp.block _ (by omega)).trans j1, (hp.block _ (by omega)).trans j2, (hp.block _ (by omega)).trans j3⟩
    case hIx =>
      rintro c' pre A C ⟨j0, j1, j2, j3⟩ hz hp
      exact ⟨j0, j1, (hp.block _ (by omega)).trans j2, (hp.block _ (by omega)).trans j3⟩
    case hAx =>
      rintro pre z a' A C ⟨g, h1, h2, rfl⟩ hp
      exact ⟨g, h1, (hp.block _ h2.lt (by omega)).trans h2, rfl⟩
    case h0 =>
      intro W6 hb6
      exact ⟨fun z hz => absurd hz (by simp), (hb6.block _ (by omega)).trans HM3.out, (hb6.block _ (by omega)).trans HR3.out, (hb6.block _ (by omega)).trans HE3.out⟩
    case hassign =>
      intro m' l' pre z W' hz hsp hi'
      clear hseq
      dsimp only [encS, key2]
      gi_wp2_with fail
      exact ⟨⟨W'.heap.size, hz, Blk.new rfl, rfl⟩, by (repeat (first | (with_reducible exact Below.refl _ _) | (with_reducible assumption) | ((with_reducible refine below_ext_trans ?_ ?_ _); rotate_left; focus (((try dsimp only); repeat (first | omega | simp only [World.size_alloc, World.size_setCell, World.size_drew] | (with_reducible refine le_ext_of ?_) | (with_reducible refine le_ext_add ?_))); done)) | ((with_reducible refine Below.alloc ?_ ?_ _); rotate_left; focus (((try dsimp only); repeat (first | omega | simp only [World.size_alloc, World.size_setCell, World.size_drew] | (with_reducible refine le_ext_of ?_) | (with_reducible refine le_ext_add ?_))); done)) | ((with_reducible refine Below.setCell ?_ ?_ _); rotate_left; focus (((try dsimp only); repeat (first | omega | simp only [World.size_alloc, World.size_setCell, World.size_drew] | (with_reducible refine le_ext_of ?_) | (with_reducible refine le_ext_add ?_))); done)) | (with_reducible refine Below.drew ?_)))⟩
    case hbody =>
      rintro m' l' pre z a' W' hz hpx ⟨j0, j1, j2, j3⟩ ⟨g6, hgz, hbg, rfl⟩
      obtain ⟨x, y⟩ := z
      dsimp only at hbg ⊢
      have c1 := j1.cell 0
      have c2 := j2.cell 0
      have c3 := j3.cell 0
      have d0 := hbg.cell 0
      have f2 := j2.frozen 0
      have f3 := j3.frozen 0
      have l1 := j1.lt
      have l2 := j2.lt
      have l3 := j3.lt
      have l4 := hbg.lt
      simp only [List.size_toArray, List.length_cons, List.length_nil, Nat.reduceAdd, Nat.reduceLT, getElem?_pos, List.getElem_toArray, List.getElem_cons_zero, List.getElem_cons_succ] at c1 c2 c3 d0
      have J0 := Lib.hid j0
      have J1 := Lib.hid j1
      have J2 := Lib.hid j2
      have J3 := Lib.hid j3
      clear hseq j0 j1 j2 j3 hbg hpx
      by_cases hxm : x = m
      · gi_wp2_with fail
        refine ⟨privM_set (O := fun j => j = w.heap.size + 2 ∨ j = w.heap.size + 3) (privM_set (O := fun j => j = w.heap.size + 2 ∨ j = w.heap.size + 3) (PrivM.of_below (Below.refl _ _)) (.inl rfl) _ _) (.inr rfl) _ _, rfl, ⟨(x, y), by simp, hxm⟩, ?_, ?_⟩
        · exact (J2.out.set 0 (.bool true)).setOther (show w.heap.size + 2 ≠ w.heap.size + 1 + 1 + 1 by omega) 0 (.int .i64 0)
        · exact (J3.out.setOther (show w.heap.size + 3 ≠ w.heap.size + 1 + 1 by omega) 0 (.bool true)).set 0 (.int .i64 0)
      · gi_wp2_with fail
        refine ⟨PrivM.of_below (Below.refl _ _), ?_, J1.out, J2.out, J3.out⟩
        intro z hz
        rcases List.mem_append.1 hz with h1 | h1
        · exact J0.out z h1
        · rw [List.mem_singleton.1 h1]; exact hxm
    case hdone =>
      rintro D xs W' rfl hz hS ⟨j0, j1, j2, j3⟩ hp hD'
      have hBW : Below w.heap.size w3 W' := hp.below (by omega) (fun j hj => by omega)
      have HBW := Lib.hid (HB3.out.trans hBW)
      have HD := Lib.hid hD'
      have hcan : canB b h m = false := by
        unfold canB
        rw [List.any_eq_false]
        intro z hz
        have := j0 z ((hS z).2 ((hat z).2 hz))
        simpa using this
      have r0 := j2.frozen 0
      have r1 := j3.frozen 0
      have c0 := j2.cell 0
      have c1 := j3.cell 0
      have l2 := j2.lt
      have l3 := j3.lt
      simp only [List.size_toArray, List.length_cons, List.length_nil, Nat.reduceAdd, Nat.reduceLT, getElem?_pos, List.getElem_toArray, List.getElem_cons_zero, List.getElem_cons_succ] at c0 c1
      have J2 := Lib.hid j2
      have J3 := Lib.hid j3
      clear hseq j0 j1 j2 j3 hp hD' hS hBW
      gi_wp2_with fail
      go_wp2_with fail
      have hF := (J3.out.setOther (show w.heap.size + 3 ≠ w.heap.size + 1 + 1 by omega) 0 (.bool false)).set 0 (.int .i64 0)
      have hR := (J2.out.set 0 (.bool false)).setOther (show w.heap.size + 2 ≠ w.heap.size + 1 + 1 + 1 by omega) 0 (.int .i64 0)
      have hBF : Below w.heap.size w ((W'.setCell ⟨w.heap.size + 1 + 1, 0, none⟩ (.bool false)).setCell ⟨w.heap.size + 1 + 1 + 1, 0, none⟩ (.int .i64 0)) := (HBW.out.setCell (by simp; omega) _).setCell (by simp; omega) _
      have hDF : ((W'.setCell ⟨w.heap.size + 1 + 1, 0, none⟩ (.bool false)).setCell ⟨w.heap.size + 1 + 1 + 1, 0, none⟩ (.int .i64 0)).heap[w3.heap.size]? = some (.deferred (some [])) :=
        (Below.heap_setCell _ _ _ _ (by dsimp only; omega)).trans ((Below.heap_setCell _ _ _ _ (by dsimp only; omega)).trans HD.out)
      generalize World.setCell _ _ _ = F at *
      refine ⟨by simp, .inl ⟨_, _, rfl, run_takeDeferred hDF, ?_⟩⟩
      have gR : Blk (F.putObj w3.heap.size (.deferred none)) (w.heap.size + 2) 4 _ := (World.putObj_heap_other (by omega)).trans hR
      have gF : Blk (F.putObj w3.heap.size (.deferred none)) (w.heap.size + 3) 28 _ := (World.putObj_heap_other (by omega)).trans hF
      have t0 := Blk.cell gR 0
      have t1 := Blk.cell gF 0
      simp only [List.setIfInBounds_toArray, List.set_cons_zero, List.size_toArray, List.length_cons, List.length_nil, Nat.reduceAdd, Nat.reduceLT, getElem?_pos, List.getElem_toArray, List.getElem_cons_zero, List.getElem_cons_succ] at t0 t1
      refine ⟨.tuple #[.bool false, .int .i64 0], ?_, rfl, hBF.trans (below_putObj _ (by omega) _)⟩
      simp [results, Tryd.results18, go_sem, t0, t1]
    case hstop =>
      rintro D c' pre W' rfl hz hSp ⟨rfl, j1, j2, j3⟩ hp hD'
      have hBW : Below w.heap.size w3 W' := hp.below (by omega) (fun j hj => by omega)
      have HBW := Lib.hid (HB3.out.trans hBW)
      have HD := Lib.hid hD'
      have hcan : canB b h m = true := by
        obtain ⟨z, hz, hzm⟩ := j1
        unfold canB
        rw [List.any_eq_true]
        exact ⟨z, (hat z).1 (hSp z hz), by simpa using hzm⟩
      clear hseq hp hD' hBW
      gi_wp2_with fail
      refine ⟨by simp, .inl ⟨_, _, rfl, run_takeDeferred HD.out, ?_⟩⟩
      have gR : Blk (W'.putObj w3.heap.size (.deferred none)) (w.heap.size + 2) 4 _ := (World.putObj_heap_other (by omega)).trans j2
      have gF : Blk (W'.putObj w3.heap.size (.deferred none)) (w.heap.size + 3) 28 _ := (World.putObj_heap_other (by omega)).trans j3
      have t0 := Blk.cell gR 0
      have t1 := Blk.cell gF 0
      simp only [List.size_toArray, List.length_cons, List.length_nil, Nat.reduceAdd, Nat.reduceLT, getElem?_pos, List.getElem_toArray, List.getElem_cons_zero, List.getElem_cons_succ] at t0 t1
      refine ⟨.tuple #[.bool true, .int .i64 0], ?_, rfl, HBW.out.trans (below_putObj _ (by omega) _)⟩
      simp [results, Tryd.results18, go_sem, t0, t1]
end Go.Proofs.YtjjfpbjdcmkkhaaDoor

