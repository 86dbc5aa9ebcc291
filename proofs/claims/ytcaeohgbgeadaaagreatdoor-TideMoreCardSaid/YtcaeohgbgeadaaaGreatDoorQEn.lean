/- Package tide: Calm, on a good book. -/
/- For the laws of package tide: the chapter's book, and what it gives. -/
import Derived.Test.YtcaeohgbgeadaaaGreatDoorQEm
import Derived.KernelRfl
set_option linter.unusedSimpArgs false
set_option linter.unusedVariables false
namespace Go.Proofs.YtcaeohgbgeadaaaGreatDoor
open Go Go.RowKit Go.Shelf
/-- By some plan nothing is left if the gale comes at an hour. -/
def CalmP (H : Hl) (g : Int) : Prop := ∃ pl, planB H.b.ts H.b.most H.b.rest pl = true ∧ ansHi (H.gale g) 2 pl = 0
/-- What Calm tells. -/
def CalmIs (H : Hl) (n e : Int) : Prop := (e = 0 ∧ H.b.now ≤ n ∧ n ≤ 60 ∧ CalmP H n ∧ ∀ g, H.b.now ≤ g → g < n → ¬ CalmP H g) ∨ (e = 4 ∧ n = 0 ∧ ∀ g, H.b.now ≤ g → g ≤ 60 → ¬ CalmP H g)
attribute [local go_sem] Oper.semAt_some frozen_alloc_lt
set_option maxRecDepth 100000 in
set_option maxHeartbeats 8000000 in
theorem Calm_yes (b : Tk) (p : Tp) (H : Hl) (w : World) (hk : TB w b p) (hn : Hid (b.q.ns.length ≤ 9223372036854775807)) (hv : validB b = true) (hH : haulOf b = H) :
    Calls Tryz.prog 33 #[tv b p] w fun e' w' => ∃ (n e : Int), e' = .returned (.tuple #[.int .i64 n, .int .i64 e]) ∧ CalmIs H n e ∧ ∃ x, w' = ext w x := by
  have HK := Lib.hid hk
  have HV := Lib.hid hv
  have HH := Lib.hid hH
  have HO := Lib.hid (show H.OK from hH ▸ haul_ok hv)
  have HL := Lib.hid (show LowsAt w p.tp H.b.ts from hH ▸ hk.ts)
  have HQ := Lib.hid (show planB b.ts b.most b.rest [] = true from plan_nil (of_validB hv).2.2.2.2.1.1)
  have hnw := (of_validB hv).1
  have HN := Lib.hid (show H.b.now = b.now from hH ▸ rfl)
  clear hk hv hH
  unfold tv
  go_enter Tryz.func33, Tryz.ntmps33
  go_upto_region 2 with (go_at_call 66; refine (topen_good b p _ [] H _ (HK.out.bel (by (repeat (first | (with_reducible exact Below.refl _ _) | (with_reducible assumption) | ((with_reducible refine below_ext_trans ?_ ?_ _); rotate_left; focus (((try dsimp only); repeat (first | omega | simp only [World.size_alloc, World.size_setCell, World.size_drew] | (with_reducible refine le_ext_of ?_) | (with_reducible refine le_ext_add ?_))); done)) | ((with_reducible refine Below.alloc ?_ ?_ _); rotate_left; focus (((try dsimp only); repeat (first | omega | simp only [World.size_alloc, World.size_setCell, World.size_drew] | (with_reducible refine le_ext_of ?_) | (with_reducible refine le_ext_add ?_))); done)) | ((with_reducible refine Below.setCell ?_ ?_ _); rotate_left; focus (((try dsimp only); repeat (first | omega | simp only [World.size_alloc, World.size_setCell, World.size_drew] | (with_reducible refine le_ext_of ?_) | (with_reducible refine le_ext_add ?_))); done)) | (with_reducible refine Below.drew ?_))))) hn (PlanAt.nil _) (by simp) HV.out HQ.out HH.out).mono ?_; rintro e' w1 ⟨he, y, rfl⟩; unfold hlv at he; subst he)
  generalize hW : ext _ y = W0
  have hB0 : Below w.heap.size w W0 := by rw [← hW]; (repeat (first | (with_reducible exact Below.refl _ _) | (with_reducible assumption) | ((with_reducible refine below_ext_trans ?_ ?_ _); rotate_left; focus (((try dsimp only); repeat (first | omega | simp only [World.size_alloc, World.size_setCell, World.size_drew] | (with_reducible refine le_ext_of ?_) | (with_reducible refine le_ext_add ?_))); done)) | ((with_reducible refine Below.alloc ?_ ?_ _); rotate_left; focus (((try dsimp only); repeat (first | omega | simp only [World.size_alloc, World.size_setCell, World.size_drew] | (with_reducible refine le_ext_of ?_) | (with_reducible refine le_ext_add ?_))); done)) | ((with_reducible refine Below.setCell ?_ ?_ _); rotate_left; focus (((try dsimp only); repeat (first | omega | simp only [World.size_alloc, World.size_setCell, World.size_drew] | (with_reducible refine le_ext_of ?_) | (with_reducible refine le_ext_add ?_))); done)) | (with_reducible refine Below.drew ?_)))
  have kb0 : Blk W0 w.heap.size 29 (tcs b p) := by rw [← hW]; exact (Blk.new rfl).ext y
  have hB := hB0.alloc hB0.size (.cells #[.int .i64 H.b.q.lo, .int .i64 H.b.q.hi, .slice p.np H.b.q.ns.length p.nc, .int .i64 H.b.now, .slice p.tp H.b.ts.length p.tc, .int .i64 H.b.glo, .int .i64 H.b.ghi, .int .i64 H.b.most, .int .i64 H.b.rest, .int .i64 H.hl, .int .i64 H.hh, .int .i64 H.rl, .int .i64 H.rh] 87)
  have kH : Blk (W0.alloc (.cells #[.int .i64 H.b.q.lo, .int .i64 H.b.q.hi, .slice p.np H.b.q.ns.length p.nc, .int .i64 H.b.now, .slice p.tp H.b.ts.length p.tc, .int .i64 H.b.glo, .int .i64 H.b.ghi, .int .i64 H.b.most, .int .i64 H.b.rest, .int .i64 H.hl, .int .i64 H.hh, .int .i64 H.rl, .int .i64 H.rh] 87)) W0.heap.size 87 #[.int .i64 H.b.q.lo, .int .i64 H.b.q.hi, .slice p.np H.b.q.ns.length p.nc, .int .i64 H.b.now, .slice p.tp H.b.ts.length p.tc, .int .i64 H.b.glo, .int .i64 H.b.ghi, .int .i64 H.b.most, .int .i64 H.b.rest, .int .i64 H.hl, .int .i64 H.hh, .int .i64 H.rl, .int .i64 H.rh] := Blk.new rfl
  have kb := kb0.alloc (.cells #[.int .i64 H.b.q.lo, .int .i64 H.b.q.hi, .slice p.np H.b.q.ns.length p.nc, .int .i64 H.b.now, .slice p.tp H.b.ts.length p.tc, .int .i64 H.b.glo, .int .i64 H.b.ghi, .int .i64 H.b.most, .int .i64 H.b.rest, .int .i64 H.hl, .int .i64 H.hh, .int .i64 H.rl, .int .i64 H.rh] 87)
  generalize W0.alloc (.cells #[.int .i64 H.b.q.lo, .int .i64 H.b.q.hi, .slice p.np H.b.q.ns.length p.nc, .int .i64 H.b.now, .slice p.tp H.b.ts.length p.tc, .int .i64 H.b.glo, .int .i64 H.b.ghi, .int .i64 H.b.most, .int .i64 H.b.rest, .int .i64 H.hl, .int .i64 H.hh, .int .i64 H.rl, .int .i64 H.rh] 87) = W at *
  generalize W0.heap.size = gH at *
  have HB := Lib.hid hB
  (have c0 := Blk.cell kH 0; have c1 := Blk.cell kH 1; have c2 := Blk.cell kH 2; have c3 := Blk.cell kH 3; have c4 := Blk.cell kH 4; have c5 := Blk.cell kH 5; have c6 := Blk.cell kH 6; have c7 := Blk.cell kH 7; have c8 := Blk.cell kH 8; have c9 := Blk.cell kH 9; have c10 := Blk.cell kH 10; have c11 := Blk.cell kH 11; have c12 := Blk.cell kH 12; simp only [List.size_toArray, List.length_cons, List.length_nil, Nat.reduceAdd, Nat.reduceLT, getElem?_pos, List.getElem_toArray, List.getElem_cons_zero, List.getElem_cons_succ] at c0 c1 c2 c3 c4 c5 c6 c7 c8 c9 c10 c11 c12)
  have lH := kH.lt
  have KB := Lib.hid kb
  have KH : Hid (Blk W gH 87 (hlcs H p)) := Lib.hid kH
  unfold tcs at kb
  (have d0 := Blk.cell kb 0; have d1 := Blk.cell kb 1; have d2 := Blk.cell kb 2; have d3 := Blk.cell kb 3; have d4 := Blk.cell kb 4; have d5 := Blk.cell kb 5; have d6 := Blk.cell kb 6; have d7 := Blk.cell kb 7; have d8 := Blk.cell kb 8; simp only [List.size_toArray, List.length_cons, List.length_nil, Nat.reduceAdd, Nat.reduceLT, getElem?_pos, List.getElem_toArray, List.getElem_cons_zero, List.getElem_cons_succ] at d0 d1 d2 d3 d4 d5 d6 d7 d8)
  have lb := kb.lt
  have hs1 : IntKind.i64.wrap (60 - b.now) = 60 - b.now := IntWalk.i64_in _ (by omega)
  have hs2 : IntKind.i64.wrap (60 - b.now + 1) = 60 - b.now + 1 := IntWalk.i64_in _ (by omega)
  have hs3 : wrap64 (60 - b.now) = 60 - b.now := by unfold wrap64; omega
  have hs4 : wrap64 (60 - b.now + 1) = 60 - b.now + 1 := by unfold wrap64; omega
  clear hW hB0 hB kH kb0 kb c0 c1 c2 c3 c4 c5 c6 c7 c8 c9 c10 c11 c12 lH
  go_upto_region 5 with fail
  clear d0 d1 d2 d3 d4 d5 d6 d7 d8 lb hs1 hs2 hs3 hs4
  go_loopw [20] (fun i wr => ∃ k : Nat, (k : Int) ≤ 61 - b.now ∧ i = .int .i64 k ∧ Hid (Below w.heap.size w wr) ∧ Hid (Blk wr gH 87 (hlcs H p)) ∧ Hid (Blk wr w.heap.size 29 (tcs b p)) ∧ Hid (∀ g, b.now ≤ g → g < b.now + k → ¬ CalmP H g)) (fun i _ => 62 - (intOf i).toNat)
  case atStart => exact ⟨0, by omega, rfl, HB, KH, KB, Lib.hid (fun g h1 h2 => by omega)⟩
  case round =>
    clear HB KH KB
    obtain ⟨k, hk, rfl, HB, KH, KB, HC⟩ := hrel
    by_cases hlt : (k : Int) < 60 - b.now + 1
    · have hlt' : decide ((k : Int) < 60 - b.now + 1) = true := by simpa using hlt
      have hw1 : IntKind.i64.wrap (b.now + k) = b.now + k := IntWalk.i64_in _ (by omega)
      have hw2 : wrap64 (b.now + k) = b.now + k := by unfold wrap64; omega
      have HW := Lib.hid (wrap_num k (by omega))
      have kb := KB.out
      have kH := KH.out
      unfold tcs at kb
      unfold hlcs at kH
      (have d0 := Blk.cell kb 0; have d1 := Blk.cell kb 1; have d2 := Blk.cell kb 2; have d3 := Blk.cell kb 3; have d4 := Blk.cell kb 4; have d5 := Blk.cell kb 5; have d6 := Blk.cell kb 6; have d7 := Blk.cell kb 7; have d8 := Blk.cell kb 8; simp only [List.size_toArray, List.length_cons, List.length_nil, Nat.reduceAdd, Nat.reduceLT, getElem?_pos, List.getElem_toArray, List.getElem_cons_zero, List.getElem_cons_succ] at d0 d1 d2 d3 d4 d5 d6 d7 d8)
      have lb := kb.lt
      (have c0 := Blk.cell kH 0; have c1 := Blk.cell kH 1; have c2 := Blk.cell kH 2; have c3 := Blk.cell kH 3; have c4 := Blk.cell kH 4; have c5 := Blk.cell kH 5; have c6 := Blk.cell kH 6; have c7 := Blk.cell kH 7; have c8 := Blk.cell kH 8; have c9 := Blk.cell kH 9; have c10 := Blk.cell kH 10; have c11 := Blk.cell kH 11; have c12 := Blk.cell kH 12; simp only [List.size_toArray, List.length_cons, List.length_nil, Nat.reduceAdd, Nat.reduceLT, getElem?_pos, List.getElem_toArray, List.getElem_cons_zero, List.getElem_cons_succ] at c0 c1 c2 c3 c4 c5 c6 c7 c8 c9 c10 c11 c12)
      have lH := kH.lt
      clear kb kH
      go_upto_region 8 with fail
      obtain ⟨gg, hgg⟩ : ∃ g, b.now + (k : Int) = g := ⟨_, rfl⟩
      simp only [hgg]
      have hb1 : H.b.now ≤ gg ∧ gg ≤ 60 := by rw [HN.out]; omega
      have HGG := Lib.hid hgg
      clear hgg hw1 hw2
      go_upto_if 30 with (first
        | (go_at_call 82; refine (with_anyT H p gg _).mono ?_; rintro e' w2 ⟨rfl, y2, rfl⟩; have HB1 := Lib.hid (HB.out.trans ((below_ext wr y2).mono HB.out.size)); have KH1 := Lib.hid (KH.out.ext y2); have KB1 := Lib.hid (KB.out.ext y2); clear c0 c1 c2 c3 c4 c5 c6 c7 c8 c9 c10 c11 c12 lH d0 d1 d2 d3 d4 d5 d6 d7 d8 lb; generalize ext wr y2 = W1 at *)
        | (go_at_call 83; refine (calm_any (H.gale gg) p _ (HO.out.gale hb1) (HL.out.below HB1.out)).mono ?_; rintro e' w2 ⟨q, rfl, hq, y3, rfl⟩; have HQC := Lib.hid hq; clear hq))
      have HB2 := Lib.hid (HB1.out.trans ((below_ext W1 y3).mono HB1.out.size))
      have KH2 := Lib.hid (KH1.out.ext y3)
      have KB2 := Lib.hid (KB1.out.ext y3)
      clear HB1 KH1 KB1 HB KH KB
      generalize ext W1 y3 = W2 at *
      cases q
      · have HNC := Lib.hid (show ¬ CalmP H gg from fun hc => absurd (HQC.out.2 hc) (by simp))
        clear HQC
        go_wp2_with fail
        try rw [HW.out]
        refine ⟨⟨k + 1, by omega, by rfl, HB2, KH2, KB2, Lib.hid (fun g h1 h2 => ?_)⟩, by simp [intOf]; omega⟩
        by_cases e : g = gg
        · subst e; exact HNC.out
        · exact HC.out g h1 (by have := HGG.out; omega)
      · have HYC := Lib.hid (show CalmP H gg from HQC.out.1 rfl)
        clear HQC
        go_wp2_with fail
        refine bodyPost_ret (v := .tuple #[.int .i64 gg, .int .i64 0]) (by simp [results, Tryz.results33, go_sem]) rfl ⟨gg, 0, rfl, .inl ⟨rfl, hb1.1, hb1.2, HYC.out, fun g h1 h2 => HC.out g (by have := HN.out; omega) (by have := HGG.out; omega)⟩, ext_of HB2.out⟩
    · have hlt' : decide ((k : Int) < 60 - b.now + 1) = false := by simpa using hlt
      go_wp2_with fail
      refine bodyPost_ret (v := .tuple #[.int .i64 0, .int .i64 4]) (by simp [results, Tryz.results33, go_sem]) rfl ⟨0, 4, rfl, .inr ⟨rfl, rfl, fun g h1 h2 => HC.out g (by have := HN.out; omega) (by omega)⟩, ext_of HB.out⟩
end Go.Proofs.YtcaeohgbgeadaaaGreatDoor

namespace Go.Proofs.YtcaeohgbgeadaaaGreatDoor
open Go Go.RowKit Go.Shelf
abbrev netT : Sn := ⟨100, 110, [⟨0, 6, 30, 30⟩, ⟨1, 8, 1, 3⟩, ⟨2, 18, 0, 0⟩, ⟨4, 20, 45, 55⟩, ⟨1, 21, 1, 2⟩]⟩
abbrev lowsT : List Lw := [⟨24, 20, 25⟩, ⟨30, 18, 20⟩, ⟨36, 15, 22⟩]
/-- The chapter's book, with a gale and a rest. -/
abbrev bookT (lo hi rest : Int) : Tk := ⟨netT, 21, lowsT, lo, hi, 2, rest⟩
abbrev hlT (lo hi rest : Int) : Hl := ⟨bookT lo hi rest, 45, 55, 1, 2⟩
theorem net_ends : minF Prod.fst 400 (atL netT 21) = 45 ∧ maxF Prod.fst 0 (atL netT 21) = 55 ∧ minF Prod.snd 400 (atL netT 21) = 1 ∧ maxF Prod.snd 0 (atL netT 21) = 2 := ⟨by kernel_rfl, by kernel_rfl, by kernel_rfl, by kernel_rfl⟩
theorem haul_T (lo hi rest : Int) : haulOf (bookT lo hi rest) = hlT lo hi rest := by
  unfold haulOf hlT
  dsimp only
  rw [net_ends.1, net_ends.2.1, net_ends.2.2.1, net_ends.2.2.2]
theorem own_ok : validB (bookT 34 40 8) = true := by kernel_rfl
theorem late_ok : validB (bookT 38 40 8) = true := by kernel_rfl
theorem quick_ok : validB (bookT 34 40 6) = true := by kernel_rfl
theorem own_02 : planB lowsT 2 8 [0, 2] = true := by kernel_rfl
theorem quick_01 : planB lowsT 2 6 [0, 1] = true := by kernel_rfl
theorem v_out : ansLo (hlT 34 40 8) 0 [0, 2] = 20 ∧ ansHi (hlT 34 40 8) 0 [0, 2] = 40 := ⟨by kernel_rfl, by kernel_rfl⟩
theorem v_lost : ansLo (hlT 34 40 8) 1 [0, 2] = 15 ∧ ansHi (hlT 34 40 8) 1 [0, 2] = 35 := ⟨by kernel_rfl, by kernel_rfl⟩
theorem v_left : ansLo (hlT 34 40 6) 2 [0, 1] = 0 ∧ ansHi (hlT 34 40 6) 2 [0, 1] = 4 := ⟨by kernel_rfl, by kernel_rfl⟩
theorem v_mended : ansLo (hlT 34 40 8).mend 0 [0, 2] = 20 ∧ ansHi (hlT 34 40 8).mend 0 [0, 2] = 47 := ⟨by kernel_rfl, by kernel_rfl⟩
theorem v_spare : sprL (hlT 34 40 8) [0, 2] 2 = [2] := by kernel_rfl
/-- All lists of some tides of three, in order. -/
def subs3 : List (List Int) := [[], [0], [1], [2], [0, 1], [0, 2], [1, 2], [0, 1, 2]]
theorem plan_subs3 {most rest : Int} {pl : List Int} (hr : 0 ≤ rest) (h : planB lowsT most rest pl = true) : pl ∈ subs3 := by
  have h1 := ((planB_iff hr).1 h).2.1
  have h2 := plan_inc hr h
  have h3 : ∀ t ∈ pl, t = 0 ∨ t = 1 ∨ t = 2 := fun t ht => by have := h1 t ht; simp at this; omega
  clear h h1
  match pl, h2, h3 with
  | [], _, _ => simp [subs3]
  | [a], _, h3 => rcases h3 a (by simp) with rfl | rfl | rfl <;> simp [subs3]
  | [a, b], h2, h3 =>
    simp only [List.pairwise_cons, List.mem_singleton, forall_eq] at h2
    have ha := h3 a (by simp)
    have hb := h3 b (by simp)
    rcases ha with rfl | rfl | rfl <;> rcases hb with rfl | rfl | rfl <;> first | (exfalso; omega) | simp [subs3]
  | [a, b, c], h2, h3 =>
    simp only [List.pairwise_cons, List.mem_cons, List.mem_singleton, List.not_mem_nil, or_false, forall_eq_or_imp, forall_eq] at h2
    have ha := h3 a (by simp)
    have hb := h3 b (by simp)
    have hc := h3 c (by simp)
    obtain ⟨⟨h4, h5⟩, h6, -⟩ := h2
    have e1 : a = 0 := by omega
    have e2 : b = 1 := by omega
    have e3 : c = 2 := by omega
    subst e1 e2 e3
    simp [subs3]
  | a :: b :: c :: d :: l, h2, h3 =>
    exfalso
    simp only [List.pairwise_cons, List.mem_cons, forall_eq_or_imp] at h2
    have ha := h3 a (by simp)
    have hb := h3 b (by simp)
    have hc := h3 c (by simp)
    have hd := h3 d (by simp)
    obtain ⟨⟨h4, -⟩, ⟨h5, -⟩, ⟨h6, -⟩, -⟩ := h2
    omega
theorem v_best : (subs3.all fun l => !planB lowsT 2 8 l || !betterB (hlT 38 40 8) l [0, 2]) = true := by kernel_rfl
theorem best_T : IsBest (hlT 38 40 8) [0, 2] := ⟨own_02, fun l hl => by
  have h1 := plan_subs3 (by decide) hl
  have h2 := List.all_eq_true.1 v_best l h1
  rw [show planB lowsT 2 8 l = true from hl] at h2
  simpa using h2⟩
theorem v_calm : (subs3.any fun l => planB lowsT 2 8 l && decide (ansHi ((hlT 34 40 8).gale 41) 2 l = 0)) = true ∧ ((List.range 20).all fun k => subs3.all fun l => !planB lowsT 2 8 l || !decide (ansHi ((hlT 34 40 8).gale (21 + k)) 2 l = 0)) = true := ⟨by kernel_rfl, by kernel_rfl⟩
theorem calm_T {n e : Int} (h : CalmIs (hlT 34 40 8) n e) : n = 41 ∧ e = 0 := by
  have hy : CalmP (hlT 34 40 8) 41 := by
    obtain ⟨l, h1, h2⟩ := List.any_eq_true.1 v_calm.1
    simp only [Bool.and_eq_true, decide_eq_true_eq] at h2
    exact ⟨l, h2.1, h2.2⟩
  have hn : ∀ g, 21 ≤ g → g < 41 → ¬ CalmP (hlT 34 40 8) g := fun g h1 h2 ⟨l, h3, h4⟩ => by
    have h5 := List.all_eq_true.1 v_calm.2 (g - 21).toNat (List.mem_range.2 (by omega))
    have h6 := List.all_eq_true.1 h5 l (plan_subs3 (by decide) h3)
    rw [show planB lowsT 2 8 l = true from h3, show (21 : Int) + (((g - 21).toNat : Nat) : Int) = g by omega, h4] at h6
    simp at h6
  rcases h with ⟨he, h1, h2, h3, h4⟩ | ⟨he, h1, h2⟩
  · refine ⟨?_, he⟩
    have a1 : ¬ n < 41 := fun h => hn n h1 h h3
    have a2 : ¬ 41 < n := fun h => h4 41 (by show (21 : Int) ≤ 41; omega) h hy
    omega
  · exact absurd hy (h2 41 (by show (21 : Int) ≤ 41; omega) (by omega))
end Go.Proofs.YtcaeohgbgeadaaaGreatDoor

