/- Package seine: Held. Written by gen_ask.py. -/
/- Package seine: Rate. Written by gen_ask.py. -/
import Derived.Test.YtcaeohgbgeadaaaGreatDoorQFs
set_option linter.unusedSimpArgs false
set_option linter.unusedVariables false
namespace Go.Proofs.YtcaeohgbgeadaaaGreatDoor
open Go Go.RowKit Go.Shelf
attribute [local go_sem] Oper.semAt_some frozen_alloc_lt
set_option maxRecDepth 100000 in
set_option maxHeartbeats 4000000 in
theorem Held_all (b : Sn) (p : Option Addr) (c : Nat) (h : Int) (code : Int) (w : World) (hk : SBk w b p) (ha : Asks b (inB h 60) code) :
    Calls Tryz.prog 54 #[.agg #[.int .i64 b.lo, .int .i64 b.hi, .slice p b.ns.length c], .int .i64 h] w fun e w' => ((¬ code = 0 ∧ e = .returned (.tuple #[.agg #[.int .i64 0, .int .i64 0], .int .i64 code])) ∨ (code = 0 ∧ e = .returned (.tuple #[.agg #[.int .i64 (minF Prod.fst 400 (atL b h)), .int .i64 (maxF Prod.fst 0 (atL b h))], .int .i64 0]))) ∧ Below w.heap.size w w' := by
  obtain ⟨qq, has⟩ : ∃ qq, inB h 60 = qq := ⟨_, rfl⟩
  have hh0 : qq = true → 0 ≤ h ∧ h ≤ 60 := fun e => by rw [e] at has; simpa [inB] using has
  rw [has] at ha
  have HAS := Lib.hid has
  have HA := Lib.hid ha
  clear ha has
  go_enter Tryz.func54, Tryz.ntmps54
  go_upto_region 1 with fail
  generalize hW0 : (w.alloc _).alloc _ = W0
  have hB0 : Below w.heap.size w W0 := by rw [← hW0]; (exact belA)
  have hz0 : W0.heap.size = w.heap.size + 2 := by rw [← hW0]; simp
  have hq0 : Blk W0 w.heap.size 26 #[.int .i64 b.lo, .int .i64 b.hi, .slice p b.ns.length c] := by rw [← hW0]; exact (Blk.new rfl).alloc _
  have hr0 : Blk W0 (w.heap.size + 1) 23 #[.int .i64 0, .int .i64 0] := by rw [← hW0]; exact Blk.new (by simp)
  have hk0 := hk.bel hB0
  clear hW0 hk
  refine wp_region_flow_backS 9 22 8 (fun _ => True) (askR w.heap.size b p c h qq code) (by kernel_rfl) (by kernel_rfl) rfl (by omega) (askR_kept _ _ _ _ _ _ _) (fun _ _ h _ => h) ?_ ?_ ?_
  · intro i hin hik f a X g1 g2 g3 g4 g5 hfw KK hKK
    have hzX := g5.size
    match i, hin with
    | 0, _ => exact st_val rfl (wanted_none rfl) (run_lBookS _ rfl (g3 2 (by kernel_rfl)) (hq0.bel g5)) (hKK _ _ rfl (Below.refl _ _))
    | 1, _ => exact st_move rfl rfl (wanted_none rfl) (g3 1 (by kernel_rfl)) (hKK _ _ rfl (Below.refl _ _))
    | 2, _ =>
      refine st_call rfl rfl (wanted_none rfl) (sargs1 (g4 1 (by decide) (by kernel_rfl))) (run_enter Tryz.func94 (by kernel_rfl) (by kernel_rfl) _) ?_
      refine (isHour_any h _).mono ?_
      rw [HAS.out]
      rintro e w1 ⟨rfl, rfl⟩
      exact ⟨_, rfl, hKK _ _ rfl (Below.refl _ _)⟩
    | 3, _ =>
      refine st_call rfl rfl (wanted_none rfl) (sargs2 (g4 0 (by decide) (by kernel_rfl)) (g4 2 (by decide) (by kernel_rfl))) (run_enter Tryz.func93 (by kernel_rfl) (by kernel_rfl) _) ?_
      refine (answer_all b p c qq code _ (hk0.bel g5) HA.out).mono ?_
      rintro e w1 ⟨T, rfl, k1, k2⟩
      exact ⟨_, rfl, hKK _ _ ⟨T, rfl, k1⟩ k2⟩
    | 4, _ =>
      obtain ⟨T, h1, h2⟩ := g4 3 (by decide) (by kernel_rfl)
      exact st_move rfl rfl (wanted_none rfl) h1 (hKK _ _ ⟨T, rfl, h2⟩ (Below.refl _ _))
    | 5, _ =>
      obtain ⟨T, h1, h2⟩ := g4 4 (by decide) (by kernel_rfl)
      exact st_val rfl (wanted_none rfl) (run_extractS _ rfl h1 rfl) (hKK _ _ ⟨T, rfl, h2⟩ (Below.refl _ _))
    | 6, _ =>
      obtain ⟨T, h1, h2⟩ := g4 4 (by decide) (by kernel_rfl)
      exact st_val rfl (wanted_none rfl) (run_extractS _ rfl h1 rfl) (hKK _ _ rfl (Below.refl _ _))
    | 7, _ =>
      cases f with
      | true =>
        have e := hfw rfl
        have e2 : true = false := Eq.trans (by kernel_rfl) e
        cases e2
      | false => exact st_valw rfl (wanted_none rfl) (run_aTale _ rfl) (hKK _ _ ⟨_, rfl, by omega, fun _ => Blk.new rfl, fun e => by cases e⟩ ((Below.refl _ _).alloc (Nat.le_refl _) _))
    | 8, _ => exact absurd rfl hik
    | k + 9, hk => omega
  · intro a X g1 g2 g3 g4 g5 KK hKK
    obtain ⟨ba, e1, e2, e3, -⟩ := g4 7 (by decide) (by kernel_rfl)
    obtain ⟨T, t1, t2⟩ := g4 5 (by decide) (by kernel_rfl)
    obtain ⟨v0, v1, v2, v3, v4, v5, v6, v7, v8, rfl, hone⟩ := t2.nine
    have hbF : Below W0.heap.size X (put9 X ba v0 v1 v2 v3 v4 v5 v6 v7 v8) := set9b (by omega) _ _ _ _ _ _ _ _ _
    have hnF := (hk0.bel (g5.trans hbF)).nt
    have hT := t2.put (e3 rfl) v0 v1 v2 v3 v4 v5 v6 v7 v8 hnF
    have hC := set9 (e3 rfl) v0 v1 v2 v3 v4 v5 v6 v7 v8
    refine st_store_tale rfl (wanted_none rfl) rfl rfl e1 t1 (e3 rfl) hone (hKK _ trivial (fun j hj hjk hr => ?_) hbF)
    match j, hj with
    | 0, _ => exact hr
    | 1, _ => exact hr
    | 2, _ => exact hr
    | 3, _ => obtain ⟨T, h1, h2⟩ := hr; exact ⟨T, h1, h2.put (e3 rfl) _ _ _ _ _ _ _ _ _ hnF⟩
    | 4, _ => obtain ⟨T, h1, h2⟩ := hr; exact ⟨T, h1, h2.put (e3 rfl) _ _ _ _ _ _ _ _ _ hnF⟩
    | 5, _ => obtain ⟨T, h1, h2⟩ := hr; exact ⟨T, h1, h2.put (e3 rfl) _ _ _ _ _ _ _ _ _ hnF⟩
    | 6, _ => exact hr
    | 7, _ =>
      obtain ⟨ba', d1, d2, -, -⟩ := hr
      have hbb : ba' = ba := by
        have := e1.symm.trans d1
        simpa using this.symm
      subst hbb
      exact ⟨_, d1, d2, (fun e => by cases e), fun _ => ⟨_, hT, hC⟩⟩
    | 8, _ => exact absurd rfl hjk
    | k + 9, hk => omega
  intro vs W2 hvs _ hBW2
  have v0 : vs 0 = _ := hvs 0 (by omega) (by decide)
  have v1 : vs 1 = _ := hvs 1 (by omega) (by decide)
  have v2 : vs 2 = _ := hvs 2 (by omega) (by decide)
  obtain ⟨T3, v3, -⟩ := hvs 3 (by omega) (by decide)
  obtain ⟨T4, v4, -⟩ := hvs 4 (by omega) (by decide)
  obtain ⟨T5, v5, -⟩ := hvs 5 (by omega) (by decide)
  have v6 : vs 6 = _ := hvs 6 (by omega) (by decide)
  obtain ⟨ba, v7, hba, -, hT⟩ := hvs 7 (by omega) (by decide)
  obtain ⟨T, hA, hbt⟩ := hT rfl
  simp only [putSkip, Nat.reduceEqDiff, reduceIte, v0, v1, v2, v3, v4, v5, v6, v7]
  clear v0 v1 v2 v3 v4 v5 v6 v7 hvs
  simp only [dstOf, Act.put, List.getElem?_toArray, List.getElem?_cons_zero, List.getElem?_cons_succ, Option.bind_some, Option.getD_some, List.setIfInBounds_toArray, List.set_cons_succ, List.set_cons_zero, List.drop_succ_cons, List.drop_zero]
  have hrF := hr0.bel hBW2
  have hBF := hB0.trans (hBW2.mono (by omega))
  have r0 := hrF.frozen 0
  have r1 := hrF.frozen 1
  have c0 := hrF.cell 0
  have c1 := hrF.cell 1
  have lr := hrF.lt
  simp only [List.size_toArray, List.length_cons, List.length_nil, Nat.reduceAdd, Nat.reduceLT, getElem?_pos, List.getElem_toArray, List.getElem_cons_zero, List.getElem_cons_succ] at c0 c1
  have HR2 := Lib.hid hrF
  have HB2 := Lib.hid hBF
  clear hrF hBF hBW2 hr0 hB0 hq0 hk0 hz0
  rcases hA with ⟨hne, rfl⟩ | ⟨rfl, kd, Bb, hkd, rfl, hT⟩
  · clear hbt
    go_wp2_with fail
    refine bodyPost_ret (v := .tuple #[.agg #[.int .i64 0, .int .i64 0], .int .i64 code]) ?_ ?_ ?_
    · simp [results, Tryz.results54, go_sem, c0, c1, lr]
    · rfl
    · exact ⟨rfl, (HB2.out.setCell (by simp) _).setCell (by simp) _⟩
  · have hh := hh0 (by rcases HA.out with h | ⟨-, h, -⟩; · exact absurd rfl h.ne
                       · exact h)
    have p0 := hbt.cell 0
    have p1 := hbt.cell 1
    have p2 := hbt.cell 2
    have p3 := hbt.cell 3
    have p4 := hbt.cell 4
    have p5 := hbt.cell 5
    have p6 := hbt.cell 6
    have p7 := hbt.cell 7
    have p8 := hbt.cell 8
    unfold talC at p0 p1 p2 p3 p4 p5 p6 p7 p8
    simp only [List.size_toArray, List.length_cons, List.length_nil, Nat.reduceAdd, Nat.reduceLT, getElem?_pos, List.getElem_toArray, List.getElem_cons_zero, List.getElem_cons_succ] at p0 p1 p2 p3 p4 p5 p6 p7 p8
    have HT2 := Lib.hid hT
    clear hbt hT c0 c1 r0 r1
    go_wp2_with (go_at_call 95; refine (theld_any b p c kd Bb h _ HT2.out hh).mono ?_; rintro e w3 ⟨rfl, k3⟩; have HR3 := Lib.hid (HR2.out.bel k3); have HB3 := Lib.hid (HB2.out.trans (k3.mono HB2.out.size)); clear k3; have r0 := HR3.out.frozen 0; have r1 := HR3.out.frozen 1; have c0 := HR3.out.cell 0; have c1 := HR3.out.cell 1; have lr := HR3.out.lt; simp only [List.size_toArray, List.length_cons, List.length_nil, Nat.reduceAdd, Nat.reduceLT, getElem?_pos, List.getElem_toArray, List.getElem_cons_zero, List.getElem_cons_succ] at c0 c1)
    have hF := (HR3.out.set 0 (.int .i64 (minF Prod.fst 400 (atL b h)))).set 1 (.int .i64 (maxF Prod.fst 0 (atL b h)))
    have t0 := Blk.cell hF 0
    have t1 := Blk.cell hF 1
    refine bodyPost_ret (v := .tuple #[.agg #[.int .i64 (minF Prod.fst 400 (atL b h)), .int .i64 (maxF Prod.fst 0 (atL b h))], .int .i64 0]) ?_ ?_ ?_
    · simp [results, Tryz.results54, go_sem, c0, c1, lr]
    · rfl
    · exact ⟨rfl, (HB3.out.setCell (by simp) _).setCell (by simp) _⟩
end Go.Proofs.YtcaeohgbgeadaaaGreatDoor

namespace Go.Proofs.YtcaeohgbgeadaaaGreatDoor
open Go Go.RowKit Go.Shelf
attribute [local go_sem] Oper.semAt_some frozen_alloc_lt
set_option maxRecDepth 100000 in
set_option maxHeartbeats 4000000 in
theorem Rate_all (b : Sn) (p : Option Addr) (c : Nat) (h : Int) (code : Int) (w : World) (hk : SBk w b p) (ha : Asks b (inB h 60) code) :
    Calls Tryz.prog 85 #[.agg #[.int .i64 b.lo, .int .i64 b.hi, .slice p b.ns.length c], .int .i64 h] w fun e w' => ((¬ code = 0 ∧ e = .returned (.tuple #[.agg #[.int .i64 0, .int .i64 0], .int .i64 code])) ∨ (code = 0 ∧ e = .returned (.tuple #[.agg #[.int .i64 (minF Prod.snd 400 (atL b h)), .int .i64 (maxF Prod.snd 0 (atL b h))], .int .i64 0]))) ∧ Below w.heap.size w w' := by
  obtain ⟨qq, has⟩ : ∃ qq, inB h 60 = qq := ⟨_, rfl⟩
  have hh0 : qq = true → 0 ≤ h ∧ h ≤ 60 := fun e => by rw [e] at has; simpa [inB] using has
  rw [has] at ha
  have HAS := Lib.hid has
  have HA := Lib.hid ha
  clear ha has
  go_enter Tryz.func85, Tryz.ntmps85
  go_upto_region 1 with fail
  generalize hW0 : (w.alloc _).alloc _ = W0
  have hB0 : Below w.heap.size w W0 := by rw [← hW0]; (exact belA)
  have hz0 : W0.heap.size = w.heap.size + 2 := by rw [← hW0]; simp
  have hq0 : Blk W0 w.heap.size 26 #[.int .i64 b.lo, .int .i64 b.hi, .slice p b.ns.length c] := by rw [← hW0]; exact (Blk.new rfl).alloc _
  have hr0 : Blk W0 (w.heap.size + 1) 23 #[.int .i64 0, .int .i64 0] := by rw [← hW0]; exact Blk.new (by simp)
  have hk0 := hk.bel hB0
  clear hW0 hk
  refine wp_region_flow_backS 9 22 8 (fun _ => True) (askR w.heap.size b p c h qq code) (by kernel_rfl) (by kernel_rfl) rfl (by omega) (askR_kept _ _ _ _ _ _ _) (fun _ _ h _ => h) ?_ ?_ ?_
  · intro i hin hik f a X g1 g2 g3 g4 g5 hfw KK hKK
    have hzX := g5.size
    match i, hin with
    | 0, _ => exact st_val rfl (wanted_none rfl) (run_lBookS _ rfl (g3 2 (by kernel_rfl)) (hq0.bel g5)) (hKK _ _ rfl (Below.refl _ _))
    | 1, _ => exact st_move rfl rfl (wanted_none rfl) (g3 1 (by kernel_rfl)) (hKK _ _ rfl (Below.refl _ _))
    | 2, _ =>
      refine st_call rfl rfl (wanted_none rfl) (sargs1 (g4 1 (by decide) (by kernel_rfl))) (run_enter Tryz.func94 (by kernel_rfl) (by kernel_rfl) _) ?_
      refine (isHour_any h _).mono ?_
      rw [HAS.out]
      rintro e w1 ⟨rfl, rfl⟩
      exact ⟨_, rfl, hKK _ _ rfl (Below.refl _ _)⟩
    | 3, _ =>
      refine st_call rfl rfl (wanted_none rfl) (sargs2 (g4 0 (by decide) (by kernel_rfl)) (g4 2 (by decide) (by kernel_rfl))) (run_enter Tryz.func93 (by kernel_rfl) (by kernel_rfl) _) ?_
      refine (answer_all b p c qq code _ (hk0.bel g5) HA.out).mono ?_
      rintro e w1 ⟨T, rfl, k1, k2⟩
      exact ⟨_, rfl, hKK _ _ ⟨T, rfl, k1⟩ k2⟩
    | 4, _ =>
      obtain ⟨T, h1, h2⟩ := g4 3 (by decide) (by kernel_rfl)
      exact st_move rfl rfl (wanted_none rfl) h1 (hKK _ _ ⟨T, rfl, h2⟩ (Below.refl _ _))
    | 5, _ =>
      obtain ⟨T, h1, h2⟩ := g4 4 (by decide) (by kernel_rfl)
      exact st_val rfl (wanted_none rfl) (run_extractS _ rfl h1 rfl) (hKK _ _ ⟨T, rfl, h2⟩ (Below.refl _ _))
    | 6, _ =>
      obtain ⟨T, h1, h2⟩ := g4 4 (by decide) (by kernel_rfl)
      exact st_val rfl (wanted_none rfl) (run_extractS _ rfl h1 rfl) (hKK _ _ rfl (Below.refl _ _))
    | 7, _ =>
      cases f with
      | true =>
        have e := hfw rfl
        have e2 : true = false := Eq.trans (by kernel_rfl) e
        cases e2
      | false => exact st_valw rfl (wanted_none rfl) (run_aTale _ rfl) (hKK _ _ ⟨_, rfl, by omega, fun _ => Blk.new rfl, fun e => by cases e⟩ ((Below.refl _ _).alloc (Nat.le_refl _) _))
    | 8, _ => exact absurd rfl hik
    | k + 9, hk => omega
  · intro a X g1 g2 g3 g4 g5 KK hKK
    obtain ⟨ba, e1, e2, e3, -⟩ := g4 7 (by decide) (by kernel_rfl)
    obtain ⟨T, t1, t2⟩ := g4 5 (by decide) (by kernel_rfl)
    obtain ⟨v0, v1, v2, v3, v4, v5, v6, v7, v8, rfl, hone⟩ := t2.nine
    have hbF : Below W0.heap.size X (put9 X ba v0 v1 v2 v3 v4 v5 v6 v7 v8) := set9b (by omega) _ _ _ _ _ _ _ _ _
    have hnF := (hk0.bel (g5.trans hbF)).nt
    have hT := t2.put (e3 rfl) v0 v1 v2 v3 v4 v5 v6 v7 v8 hnF
    have hC := set9 (e3 rfl) v0 v1 v2 v3 v4 v5 v6 v7 v8
    refine st_store_tale rfl (wanted_none rfl) rfl rfl e1 t1 (e3 rfl) hone (hKK _ trivial (fun j hj hjk hr => ?_) hbF)
    match j, hj with
    | 0, _ => exact hr
    | 1, _ => exact hr
    | 2, _ => exact hr
    | 3, _ => obtain ⟨T, h1, h2⟩ := hr; exact ⟨T, h1, h2.put (e3 rfl) _ _ _ _ _ _ _ _ _ hnF⟩
    | 4, _ => obtain ⟨T, h1, h2⟩ := hr; exact ⟨T, h1, h2.put (e3 rfl) _ _ _ _ _ _ _ _ _ hnF⟩
    | 5, _ => obtain ⟨T, h1, h2⟩ := hr; exact ⟨T, h1, h2.put (e3 rfl) _ _ _ _ _ _ _ _ _ hnF⟩
    | 6, _ => exact hr
    | 7, _ =>
      obtain ⟨ba', d1, d2, -, -⟩ := hr
      have hbb : ba' = ba := by
        have := e1.symm.trans d1
        simpa using this.symm
      subst hbb
      exact ⟨_, d1, d2, (fun e => by cases e), fun _ => ⟨_, hT, hC⟩⟩
    | 8, _ => exact absurd rfl hjk
    | k + 9, hk => omega
  intro vs W2 hvs _ hBW2
  have v0 : vs 0 = _ := hvs 0 (by omega) (by decide)
  have v1 : vs 1 = _ := hvs 1 (by omega) (by decide)
  have v2 : vs 2 = _ := hvs 2 (by omega) (by decide)
  obtain ⟨T3, v3, -⟩ := hvs 3 (by omega) (by decide)
  obtain ⟨T4, v4, -⟩ := hvs 4 (by omega) (by decide)
  obtain ⟨T5, v5, -⟩ := hvs 5 (by omega) (by decide)
  have v6 : vs 6 = _ := hvs 6 (by omega) (by decide)
  obtain ⟨ba, v7, hba, -, hT⟩ := hvs 7 (by omega) (by decide)
  obtain ⟨T, hA, hbt⟩ := hT rfl
  simp only [putSkip, Nat.reduceEqDiff, reduceIte, v0, v1, v2, v3, v4, v5, v6, v7]
  clear v0 v1 v2 v3 v4 v5 v6 v7 hvs
  simp only [dstOf, Act.put, List.getElem?_toArray, List.getElem?_cons_zero, List.getElem?_cons_succ, Option.bind_some, Option.getD_some, List.setIfInBounds_toArray, List.set_cons_succ, List.set_cons_zero, List.drop_succ_cons, List.drop_zero]
  have hrF := hr0.bel hBW2
  have hBF := hB0.trans (hBW2.mono (by omega))
  have r0 := hrF.frozen 0
  have r1 := hrF.frozen 1
  have c0 := hrF.cell 0
  have c1 := hrF.cell 1
  have lr := hrF.lt
  simp only [List.size_toArray, List.length_cons, List.length_nil, Nat.reduceAdd, Nat.reduceLT, getElem?_pos, List.getElem_toArray, List.getElem_cons_zero, List.getElem_cons_succ] at c0 c1
  have HR2 := Lib.hid hrF
  have HB2 := Lib.hid hBF
  clear hrF hBF hBW2 hr0 hB0 hq0 hk0 hz0
  rcases hA with ⟨hne, rfl⟩ | ⟨rfl, kd, Bb, hkd, rfl, hT⟩
  · clear hbt
    go_wp2_with fail
    refine bodyPost_ret (v := .tuple #[.agg #[.int .i64 0, .int .i64 0], .int .i64 code]) ?_ ?_ ?_
    · simp [results, Tryz.results85, go_sem, c0, c1, lr]
    · rfl
    · exact ⟨rfl, (HB2.out.setCell (by simp) _).setCell (by simp) _⟩
  · have hh := hh0 (by rcases HA.out with h | ⟨-, h, -⟩; · exact absurd rfl h.ne
                       · exact h)
    have p0 := hbt.cell 0
    have p1 := hbt.cell 1
    have p2 := hbt.cell 2
    have p3 := hbt.cell 3
    have p4 := hbt.cell 4
    have p5 := hbt.cell 5
    have p6 := hbt.cell 6
    have p7 := hbt.cell 7
    have p8 := hbt.cell 8
    unfold talC at p0 p1 p2 p3 p4 p5 p6 p7 p8
    simp only [List.size_toArray, List.length_cons, List.length_nil, Nat.reduceAdd, Nat.reduceLT, getElem?_pos, List.getElem_toArray, List.getElem_cons_zero, List.getElem_cons_succ] at p0 p1 p2 p3 p4 p5 p6 p7 p8
    have HT2 := Lib.hid hT
    clear hbt hT c0 c1 r0 r1
    go_wp2_with (go_at_call 130; refine (trate_any b p c kd Bb h _ HT2.out hh).mono ?_; rintro e w3 ⟨rfl, k3⟩; have HR3 := Lib.hid (HR2.out.bel k3); have HB3 := Lib.hid (HB2.out.trans (k3.mono HB2.out.size)); clear k3; have r0 := HR3.out.frozen 0; have r1 := HR3.out.frozen 1; have c0 := HR3.out.cell 0; have c1 := HR3.out.cell 1; have lr := HR3.out.lt; simp only [List.size_toArray, List.length_cons, List.length_nil, Nat.reduceAdd, Nat.reduceLT, getElem?_pos, List.getElem_toArray, List.getElem_cons_zero, List.getElem_cons_succ] at c0 c1)
    have hF := (HR3.out.set 0 (.int .i64 (minF Prod.snd 400 (atL b h)))).set 1 (.int .i64 (maxF Prod.snd 0 (atL b h)))
    have t0 := Blk.cell hF 0
    have t1 := Blk.cell hF 1
    refine bodyPost_ret (v := .tuple #[.agg #[.int .i64 (minF Prod.snd 400 (atL b h)), .int .i64 (maxF Prod.snd 0 (atL b h))], .int .i64 0]) ?_ ?_ ?_
    · simp [results, Tryz.results85, go_sem, c0, c1, lr]
    · rfl
    · exact ⟨rfl, (HB3.out.setCell (by simp) _).setCell (by simp) _⟩
end Go.Proofs.YtcaeohgbgeadaaaGreatDoor

