/- Package tide: Calm, on a good book. -/
/- For the laws of package tide: the chapter's book, and what it gives. -/
/- For the laws of package tide: the chapter's book in memory. -/
import Derived.Test.YtcaeohgbgeadaaaGreatDoorQEb
import Derived.KernelRfl
set_option linter.unusedSimpArgs false
set_option linter.unusedVariables false
namespace Go.Proofs.YtcaeohgbgeadaaaGreatDoor
open Go Go.RowKit Go.Shelf
/-- By some plan nothing is left if the gale comes at an hour. -/
def CalmP (H : Hl) (g : Int) : Prop := ∃ pl, planB H.b.ts H.b.most H.b.rest pl = true ∧ ansHi (H.gale g) 2 pl = 0
/-- What Calm tells. -/
def CalmIs (H : Hl) (n e : Int) : Prop := (e = 0 ∧ H.b.now ≤ n ∧ n ≤ 60 ∧ CalmP H n ∧ ∀ g, H.b.now ≤ g → g < n → ¬ CalmP H g) ∨ (e = 4 ∧ n = 0 ∧ ∀ g, H.b.now ≤ g → g ≤ 60 → ¬ CalmP H g)
attribute [local go_sem] Oper.semAt_some frozen_alloc_lt
set_option maxRecDepth 100000 in
set_option maxHeartbeats 8000000 in
theorem Calm_yes (b : Tk) (p : Tp) (H : Hl) (w : World) (hk : TB w b p) (hn : Hid (b.q.ns.length ≤ 9223372036854775807)) (hv : validB b = true) (hH : haulOf b = H) :
    Calls Tryz.prog 33 #[tv b p] w fun e' w' => ∃ (n e : Int), e' = .returned (.tuple #[.int .i64 n, .int .i64 e]) ∧ CalmIs H n e ∧ ∃ x, w' = ext w x := by
  have HK := Lib.hid hk
  have HV := Lib.hid hv
  have HH := Lib.hid hH
  have HO := Lib.hid (show H.OK from hH ▸ haul_ok hv)
  have HL := Lib.hid (show LowsAt w p.tp H.b.ts from hH ▸ hk.ts)
  have HQ := Lib.hid (show planB b.ts b.most b.rest [] = true from plan_nil (of_validB hv).2.2.2.2.1.1)
  have hnw := (of_validB hv).1
  have HN := Lib.hid (show H.b.now = b.now from hH ▸ rfl)
  clear hk hv hH
  unfold tv
  go_enter Tryz.func33, Tryz.ntmps33
  go_upto_region 2 with (go_at_call 66; refine (topen_good b p _ [] H _ (HK.out.bel belA) hn (PlanAt.nil _) (by simp) HV.out HQ.out HH.out).mono ?_; rintro e' w1 ⟨he, y, rfl⟩; unfold hlv at he; subst he)
  generalize hW : ext _ y = W0
  have hB0 : Below w.heap.size w W0 := by rw [← hW]; (exact belA)
  have kb0 : Blk W0 w.heap.size 29 (tcs b p) := by rw [← hW]; exact (Blk.new rfl).ext y
  have hB := hB0.alloc hB0.size (.cells #[.int .i64 H.b.q.lo, .int .i64 H.b.q.hi, .slice p.np H.b.q.ns.length p.nc, .int .i64 H.b.now, .slice p.tp H.b.ts.length p.tc, .int .i64 H.b.glo, .int .i64 H.b.ghi, .int .i64 H.b.most, .int .i64 H.b.rest, .int .i64 H.hl, .int .i64 H.hh, .int .i64 H.rl, .int .i64 H.rh] 87)
  have kH : Blk (W0.alloc (.cells #[.int .i64 H.b.q.lo, .int .i64 H.b.q.hi, .slice p.np H.b.q.ns.length p.nc, .int .i64 H.b.now, .slice p.tp H.b.ts.length p.tc, .int .i64 H.b.glo, .int .i64 H.b.ghi, .int .i64 H.b.most, .int .i64 H.b.rest, .int .i64 H.hl, .int .i64 H.hh, .int .i64 H.rl, .int .i64 H.rh] 87)) W0.heap.size 87 #[.int .i64 H.b.q.lo, .int .i64 H.b.q.hi, .slice p.np H.b.q.ns.length p.nc, .int .i64 H.b.now, .slice p.tp H.b.ts.length p.tc, .int .i64 H.b.glo, .int .i64 H.b.ghi, .int .i64 H.b.most, .int .i64 H.b.rest, .int .i64 H.hl, .int .i64 H.hh, .int .i64 H.rl, .int .i64 H.rh] := Blk.new rfl
  have kb := kb0.alloc (.cells #[.int .i64 H.b.q.lo, .int .i64 H.b.q.hi, .slice p.np H.b.q.ns.length p.nc, .int .i64 H.b.now, .slice p.tp H.b.ts.length p.tc, .int .i64 H.b.glo, .int .i64 H.b.ghi, .int .i64 H.b.most, .int .i64 H.b.rest, .int .i64 H.hl, .int .i64 H.hh, .int .i64 H.rl, .int .i64 H.rh] 87)
  generalize W0.alloc (.cells #[.int .i64 H.b.q.lo, .int .i64 H.b.q.hi, .slice p.np H.b.q.ns.length p.nc, .int .i64 H.b.now, .slice p.tp H.b.ts.length p.tc, .int .i64 H.b.glo, .int .i64 H.b.ghi, .int .i64 H.b.most, .int .i64 H.b.rest, .int .i64 H.hl, .int .i64 H.hh, .int .i64 H.rl, .int .i64 H.rh] 87) = W at *
  generalize W0.heap.size = gH at *
  have HB := Lib.hid hB
  obtain ⟨c0, c1, c2, c3, c4, c5, c6, c7, c8, c9, c10, c11, c12⟩ := Blk.c13 kH
  have lH := kH.lt
  have KB := Lib.hid kb
  have KH : Hid (Blk W gH 87 (hlcs H p)) := Lib.hid kH
  unfold tcs at kb
  obtain ⟨d0, d1, d2, d3, d4, d5, d6, d7, d8⟩ := Blk.c9 kb
  have lb := kb.lt
  have hs1 : IntKind.i64.wrap (60 - b.now) = 60 - b.now := IntWalk.i64_in _ (by omega)
  have hs2 : IntKind.i64.wrap (60 - b.now + 1) = 60 - b.now + 1 := IntWalk.i64_in _ (by omega)
  have hs3 : wrap64 (60 - b.now) = 60 - b.now := by unfold wrap64; omega
  have hs4 : wrap64 (60 - b.now + 1) = 60 - b.now + 1 := by unfold wrap64; omega
  clear hW hB0 hB kH kb0 kb c0 c1 c2 c3 c4 c5 c6 c7 c8 c9 c10 c11 c12 lH
  go_upto_region 5 with fail
  clear d0 d1 d2 d3 d4 d5 d6 d7 d8 lb hs1 hs2 hs3 hs4
  go_loopw [20] (fun i wr => ∃ k : Nat, (k : Int) ≤ 61 - b.now ∧ i = .int .i64 k ∧ Hid (Below w.heap.size w wr) ∧ Hid (Blk wr gH 87 (hlcs H p)) ∧ Hid (Blk wr w.heap.size 29 (tcs b p)) ∧ Hid (∀ g, b.now ≤ g → g < b.now + k → ¬ CalmP H g)) (fun i _ => 62 - (intOf i).toNat)
  case atStart => exact ⟨0, by omega, rfl, HB, KH, KB, Lib.hid (fun g h1 h2 => by omega)⟩
  case round =>
    clear HB KH KB
    obtain ⟨k, hk, rfl, HB, KH, KB, HC⟩ := hrel
    by_cases hlt : (k : Int) < 60 - b.now + 1
    · have hlt' : decide ((k : Int) < 60 - b.now + 1) = true := by simpa using hlt
      have hw1 : IntKind.i64.wrap (b.now + k) = b.now + k := IntWalk.i64_in _ (by omega)
      have hw2 : wrap64 (b.now + k) = b.now + k := by unfold wrap64; omega
      have HW := Lib.hid (wrap_num k (by omega))
      have kb := KB.out
      have kH := KH.out
      unfold tcs at kb
      unfold hlcs at kH
      obtain ⟨d0, d1, d2, d3, d4, d5, d6, d7, d8⟩ := Blk.c9 kb
      have lb := kb.lt
      obtain ⟨c0, c1, c2, c3, c4, c5, c6, c7, c8, c9, c10, c11, c12⟩ := Blk.c13 kH
      have lH := kH.lt
      clear kb kH
      go_upto_region 8 with fail
      obtain ⟨gg, hgg⟩ : ∃ g, b.now + (k : Int) = g := ⟨_, rfl⟩
      simp only [hgg]
      have hb1 : H.b.now ≤ gg ∧ gg ≤ 60 := by rw [HN.out]; omega
      have HGG := Lib.hid hgg
      clear hgg hw1 hw2
      go_upto_if 30 with (first
        | (go_at_call 82; refine (with_anyT H p gg _).mono ?_; rintro e' w2 ⟨rfl, y2, rfl⟩; have HB1 := Lib.hid (HB.out.trans ((below_ext wr y2).mono HB.out.size)); have KH1 := Lib.hid (KH.out.ext y2); have KB1 := Lib.hid (KB.out.ext y2); clear c0 c1 c2 c3 c4 c5 c6 c7 c8 c9 c10 c11 c12 lH d0 d1 d2 d3 d4 d5 d6 d7 d8 lb; generalize ext wr y2 = W1 at *)
        | (go_at_call 83; refine (calm_any (H.gale gg) p _ (HO.out.gale hb1) (HL.out.below HB1.out)).mono ?_; rintro e' w2 ⟨q, rfl, hq, y3, rfl⟩; have HQC := Lib.hid hq; clear hq))
      have HB2 := Lib.hid (HB1.out.trans ((below_ext W1 y3).mono HB1.out.size))
      have KH2 := Lib.hid (KH1.out.ext y3)
      have KB2 := Lib.hid (KB1.out.ext y3)
      clear HB1 KH1 KB1 HB KH KB
      generalize ext W1 y3 = W2 at *
      cases q
      · have HNC := Lib.hid (show ¬ CalmP H gg from fun hc => absurd (HQC.out.2 hc) (by simp))
        clear HQC
        go_wp2_with fail
        try rw [HW.out]
        refine ⟨⟨k + 1, by omega, by rfl, HB2, KH2, KB2, Lib.hid (fun g h1 h2 => ?_)⟩, by simp [intOf]; omega⟩
        by_cases e : g = gg
        · subst e; exact HNC.out
        · exact HC.out g h1 (by have := HGG.out; omega)
      · have HYC := Lib.hid (show CalmP H gg from HQC.out.1 rfl)
        clear HQC
        go_wp2_with fail
        refine bodyPost_ret (v := .tuple #[.int .i64 gg, .int .i64 0]) (by simp [results, Tryz.results33, go_sem]) rfl ⟨gg, 0, rfl, .inl ⟨rfl, hb1.1, hb1.2, HYC.out, fun g h1 h2 => HC.out g (by have := HN.out; omega) (by have := HGG.out; omega)⟩, ext_of HB2.out⟩
    · have hlt' : decide ((k : Int) < 60 - b.now + 1) = false := by simpa using hlt
      go_wp2_with fail
      refine bodyPost_ret (v := .tuple #[.int .i64 0, .int .i64 4]) (by simp [results, Tryz.results33, go_sem]) rfl ⟨0, 4, rfl, .inr ⟨rfl, rfl, fun g h1 h2 => HC.out g (by have := HN.out; omega) (by omega)⟩, ext_of HB.out⟩
end Go.Proofs.YtcaeohgbgeadaaaGreatDoor

namespace Go.Proofs.YtcaeohgbgeadaaaGreatDoor
open Go Go.RowKit Go.Shelf
abbrev netT : Sn := ⟨100, 110, [⟨0, 6, 30, 30⟩, ⟨1, 8, 1, 3⟩, ⟨2, 18, 0, 0⟩, ⟨4, 20, 45, 55⟩, ⟨1, 21, 1, 2⟩]⟩
abbrev lowsT : List Lw := [⟨24, 20, 25⟩, ⟨30, 18, 20⟩, ⟨36, 15, 22⟩]
/-- The chapter's book, with a gale and a rest. -/
abbrev bookT (lo hi rest : Int) : Tk := ⟨netT, 21, lowsT, lo, hi, 2, rest⟩
abbrev hlT (lo hi rest : Int) : Hl := ⟨bookT lo hi rest, 45, 55, 1, 2⟩
theorem net_ends : minF Prod.fst 400 (atL netT 21) = 45 ∧ maxF Prod.fst 0 (atL netT 21) = 55 ∧ minF Prod.snd 400 (atL netT 21) = 1 ∧ maxF Prod.snd 0 (atL netT 21) = 2 := ⟨by kernel_rfl, by kernel_rfl, by kernel_rfl, by kernel_rfl⟩
theorem haul_T (lo hi rest : Int) : haulOf (bookT lo hi rest) = hlT lo hi rest := by
  unfold haulOf hlT
  dsimp only
  rw [net_ends.1, net_ends.2.1, net_ends.2.2.1, net_ends.2.2.2]
theorem own_ok : validB (bookT 34 40 8) = true := by kernel_rfl
theorem late_ok : validB (bookT 38 40 8) = true := by kernel_rfl
theorem quick_ok : validB (bookT 34 40 6) = true := by kernel_rfl
theorem own_02 : planB lowsT 2 8 [0, 2] = true := by kernel_rfl
theorem quick_01 : planB lowsT 2 6 [0, 1] = true := by kernel_rfl
theorem v_out : ansLo (hlT 34 40 8) 0 [0, 2] = 20 ∧ ansHi (hlT 34 40 8) 0 [0, 2] = 40 := ⟨by kernel_rfl, by kernel_rfl⟩
theorem v_lost : ansLo (hlT 34 40 8) 1 [0, 2] = 15 ∧ ansHi (hlT 34 40 8) 1 [0, 2] = 35 := ⟨by kernel_rfl, by kernel_rfl⟩
theorem v_left : ansLo (hlT 34 40 6) 2 [0, 1] = 0 ∧ ansHi (hlT 34 40 6) 2 [0, 1] = 4 := ⟨by kernel_rfl, by kernel_rfl⟩
theorem v_mended : ansLo (hlT 34 40 8).mend 0 [0, 2] = 20 ∧ ansHi (hlT 34 40 8).mend 0 [0, 2] = 47 := ⟨by kernel_rfl, by kernel_rfl⟩
theorem v_spare : sprL (hlT 34 40 8) [0, 2] 2 = [2] := by kernel_rfl
/-- All lists of some tides of three, in order. -/
def subs3 : List (List Int) := [[], [0], [1], [2], [0, 1], [0, 2], [1, 2], [0, 1, 2]]
theorem plan_subs3 {most rest : Int} {pl : List Int} (hr : 0 ≤ rest) (h : planB lowsT most rest pl = true) : pl ∈ subs3 := by
  have h1 := ((planB_iff hr).1 h).2.1
  have h2 := plan_inc hr h
  have h3 : ∀ t ∈ pl, t = 0 ∨ t = 1 ∨ t = 2 := fun t ht => by have := h1 t ht; simp at this; omega
  clear h h1
  match pl, h2, h3 with
  | [], _, _ => simp [subs3]
  | [a], _, h3 => rcases h3 a (by simp) with rfl | rfl | rfl <;> simp [subs3]
  | [a, b], h2, h3 =>
    simp only [List.pairwise_cons, List.mem_singleton, forall_eq] at h2
    have ha := h3 a (by simp)
    have hb := h3 b (by simp)
    rcases ha with rfl | rfl | rfl <;> rcases hb with rfl | rfl | rfl <;> first | (exfalso; omega) | simp [subs3]
  | [a, b, c], h2, h3 =>
    simp only [List.pairwise_cons, List.mem_cons, List.mem_singleton, List.not_mem_nil, or_false, forall_eq_or_imp, forall_eq] at h2
    have ha := h3 a (by simp)
    have hb := h3 b (by simp)
    have hc := h3 c (by simp)
    obtain ⟨⟨h4, h5⟩, h6, -⟩ := h2
    have e1 : a = 0 := by omega
    have e2 : b = 1 := by omega
    have e3 : c = 2 := by omega
    subst e1 e2 e3
    simp [subs3]
  | a :: b :: c :: d :: l, h2, h3 =>
    exfalso
    simp only [List.pairwise_cons, List.mem_cons, forall_eq_or_imp] at h2
    have ha := h3 a (by simp)
    have hb := h3 b (by simp)
    have hc := h3 c (by simp)
    have hd := h3 d (by simp)
    obtain ⟨⟨h4, -⟩, ⟨h5, -⟩, ⟨h6, -⟩, -⟩ := h2
    omega
theorem v_best : (subs3.all fun l => !planB lowsT 2 8 l || !betterB (hlT 38 40 8) l [0, 2]) = true := by kernel_rfl
theorem best_T : IsBest (hlT 38 40 8) [0, 2] := ⟨own_02, fun l hl => by
  have h1 := plan_subs3 (by decide) hl
  have h2 := List.all_eq_true.1 v_best l h1
  rw [show planB lowsT 2 8 l = true from hl] at h2
  simpa using h2⟩
theorem v_calm : (subs3.any fun l => planB lowsT 2 8 l && decide (ansHi ((hlT 34 40 8).gale 41) 2 l = 0)) = true ∧ ((List.range 20).all fun k => subs3.all fun l => !planB lowsT 2 8 l || !decide (ansHi ((hlT 34 40 8).gale (21 + k)) 2 l = 0)) = true := ⟨by kernel_rfl, by kernel_rfl⟩
theorem calm_T {n e : Int} (h : CalmIs (hlT 34 40 8) n e) : n = 41 ∧ e = 0 := by
  have hy : CalmP (hlT 34 40 8) 41 := by
    obtain ⟨l, h1, h2⟩ := List.any_eq_true.1 v_calm.1
    simp only [Bool.and_eq_true, decide_eq_true_eq] at h2
    exact ⟨l, h2.1, h2.2⟩
  have hn : ∀ g, 21 ≤ g → g < 41 → ¬ CalmP (hlT 34 40 8) g := fun g h1 h2 ⟨l, h3, h4⟩ => by
    have h5 := List.all_eq_true.1 v_calm.2 (g - 21).toNat (List.mem_range.2 (by omega))
    have h6 := List.all_eq_true.1 h5 l (plan_subs3 (by decide) h3)
    rw [show planB lowsT 2 8 l = true from h3, show (21 : Int) + (((g - 21).toNat : Nat) : Int) = g by omega, h4] at h6
    simp at h6
  rcases h with ⟨he, h1, h2, h3, h4⟩ | ⟨he, h1, h2⟩
  · refine ⟨?_, he⟩
    have a1 : ¬ n < 41 := fun h => hn n h1 h h3
    have a2 : ¬ 41 < n := fun h => h4 41 (by show (21 : Int) ≤ 41; omega) h hy
    omega
  · exact absurd hy (h2 41 (by show (21 : Int) ≤ 41; omega) (by omega))
end Go.Proofs.YtcaeohgbgeadaaaGreatDoor

namespace Go.Proofs.YtcaeohgbgeadaaaGreatDoor
open Go Go.RowKit Go.Shelf
/-- The cells of the chapter's notes, and of its tides. -/
def noteCs : Array Value := #[.int .i64 0, .int .i64 6, .int .i64 30, .int .i64 30, .int .i64 1, .int .i64 8, .int .i64 1, .int .i64 3, .int .i64 2, .int .i64 18, .int .i64 0, .int .i64 0, .int .i64 4, .int .i64 20, .int .i64 45, .int .i64 55, .int .i64 1, .int .i64 21, .int .i64 1, .int .i64 2]
def lowCs : Array Value := #[.int .i64 24, .int .i64 20, .int .i64 25, .int .i64 30, .int .i64 18, .int .i64 20, .int .i64 36, .int .i64 15, .int .i64 22]
theorem notes_T {w : World} {g : Nat} (h : Blk w g 75 noteCs) : NotesAt w (some ⟨g, 0, none⟩) netT.ns := fun i s hs => by
  refine ⟨g, 0, rfl, h.lt, ?_⟩
  simp only [Nat.zero_add]
  match i, hs with
  | 0, hs => cases hs; exact ⟨h.cell 0, h.cell 1, h.cell 2, h.cell 3⟩
  | 1, hs => cases hs; exact ⟨h.cell 4, h.cell 5, h.cell 6, h.cell 7⟩
  | 2, hs => cases hs; exact ⟨h.cell 8, h.cell 9, h.cell 10, h.cell 11⟩
  | 3, hs => cases hs; exact ⟨h.cell 12, h.cell 13, h.cell 14, h.cell 15⟩
  | 4, hs => cases hs; exact ⟨h.cell 16, h.cell 17, h.cell 18, h.cell 19⟩
  | i + 5, hs => simp at hs
theorem lows_T {w : World} {g : Nat} (h : Blk w g 69 lowCs) : LowsAt w (some ⟨g, 0, none⟩) lowsT := fun i s hs => by
  refine ⟨g, 0, rfl, h.lt, ?_⟩
  simp only [Nat.zero_add]
  match i, hs with
  | 0, hs => cases hs; exact ⟨h.cell 0, h.cell 1, h.cell 2⟩
  | 1, hs => cases hs; exact ⟨h.cell 3, h.cell 4, h.cell 5⟩
  | 2, hs => cases hs; exact ⟨h.cell 6, h.cell 7, h.cell 8⟩
  | i + 3, hs => simp at hs
theorem Blk.set3 {w : World} {g : Nat} {t : TypeId} {a0 a1 a2 : Value} (k : Blk w g t #[a0, a1, a2]) (v0 v1 v2 : Value) : Blk (((w.setCell ⟨g, 0, none⟩ v0).setCell ⟨g, 1, none⟩ v1).setCell ⟨g, 2, none⟩ v2) g t #[v0, v1, v2] := by
  simpa using ((k.set 0 v0).set 1 v1).set 2 v2
attribute [local go_sem] Oper.semAt_some frozen_alloc_lt
set_option maxRecDepth 100000 in
set_option maxHeartbeats 4000000 in
theorem netT_any (w : World) : Calls Tryz.prog 154 #[] w fun e w' => ∃ g : Nat, e = .returned (.agg #[.int .i64 100, .int .i64 110, .slice (some ⟨g, 0, none⟩) 5 5]) ∧ w.heap.size < g ∧ Blk w' g 75 noteCs ∧ ∃ x, w' = ext w x := by
  go_enter Tryz.func154, Tryz.ntmps154
  go_upto_region 1 with fail
  generalize hW : w.alloc _ = W
  have hB : Below w.heap.size w W := by rw [← hW]; (exact belA)
  have kR : Blk W w.heap.size 26 #[.int .i64 0, .int .i64 0, .slice none 0 0] := by rw [← hW]; exact Blk.new rfl
  have HB := Lib.hid hB
  have KR := Lib.hid kR
  clear hW hB kR
  go_wp2_with (first
    | (go_at_call 48; refine (To_any _ _ _).mono ?_; rintro e w1 ⟨rfl, y, hw1⟩; have KR' := Lib.hid (show Blk w1 w.heap.size 26 #[.int .i64 0, .int .i64 0, .slice none 0 0] by rw [hw1]; exact KR.out.ext y); have HB' := Lib.hid (show Below w.heap.size w w1 by rw [hw1]; exact HB.out.trans ((below_ext _ y).mono HB.out.size)); clear KR HB hw1; have KR := KR'; have HB := HB'; clear KR' HB'; (try clear r0 r1 r2 f0 f1 f2 lR); have kr := KR.out; obtain ⟨r0, r1, r2⟩ := Blk.c3 kr; obtain ⟨f0, f1, f2⟩ := Blk.f3 kr; have lR := kr.lt; clear kr)
    | (go_at_call 44; refine (Just_any _ _).mono ?_; rintro e w1 ⟨rfl, y, hw1⟩; have KR' := Lib.hid (show Blk w1 w.heap.size 26 #[.int .i64 0, .int .i64 0, .slice none 0 0] by rw [hw1]; exact KR.out.ext y); have HB' := Lib.hid (show Below w.heap.size w w1 by rw [hw1]; exact HB.out.trans ((below_ext _ y).mono HB.out.size)); clear KR HB hw1; have KR := KR'; have HB := HB'; clear KR' HB'; (try clear r0 r1 r2 f0 f1 f2 lR); have kr := KR.out; obtain ⟨r0, r1, r2⟩ := Blk.c3 kr; obtain ⟨f0, f1, f2⟩ := Blk.f3 kr; have lR := kr.lt; clear kr))
  have kE := (KR.out.set3 (.int .i64 100) (.int .i64 110) (.slice (some ⟨w1.heap.size, 0, none⟩) 5 5)).alloc (.cells noteCs 75)
  have hE := (((HB.out.setCell (p := ⟨w.heap.size, 0, none⟩) (by dsimp only; omega) (.int .i64 100)).setCell (p := ⟨w.heap.size, 1, none⟩) (by dsimp only; omega) (.int .i64 110)).setCell (p := ⟨w.heap.size, 2, none⟩) (by dsimp only; omega) (.slice (some ⟨w1.heap.size, 0, none⟩) 5 5)).alloc (by simp; omega) (.cells noteCs 75)
  have kn : Blk ((((w1.setCell ⟨w.heap.size, 0, none⟩ (.int .i64 100)).setCell ⟨w.heap.size, 1, none⟩ (.int .i64 110)).setCell ⟨w.heap.size, 2, none⟩ (.slice (some ⟨w1.heap.size, 0, none⟩) 5 5)).alloc (.cells noteCs 75)) w1.heap.size 75 noteCs := Blk.new (by simp)
  unfold noteCs at kE hE kn
  generalize hWW : World.alloc _ _ = WW at kE hE kn ⊢
  generalize w1.heap.size = g1 at *
  clear hWW
  have HE2 := Lib.hid hE
  have KN : Hid (Blk WW g1 75 noteCs) := Lib.hid kn
  obtain ⟨e0, e1, e2⟩ := Blk.c3 kE
  have lE := kE.lt
  clear hE kE kn
  refine bodyPost_ret (v := .agg #[.int .i64 100, .int .i64 110, .slice (some ⟨g1, 0, none⟩) 5 5]) (by simp [results, Tryz.results154, go_sem, e0, e1, e2, lE]) rfl ⟨g1, rfl, lR, KN.out, ext_of HE2.out⟩
theorem Blk.set9T {w : World} {g : Nat} {t : TypeId} {a0 a1 a2 a3 a4 a5 a6 a7 a8 : Value} (k : Blk w g t #[a0, a1, a2, a3, a4, a5, a6, a7, a8]) (v0 v1 v2 v3 v4 v5 v6 v7 v8 : Value) : Blk (((((((((w.setCell ⟨g, 0, none⟩ v0).setCell ⟨g, 1, none⟩ v1).setCell ⟨g, 2, none⟩ v2).setCell ⟨g, 3, none⟩ v3).setCell ⟨g, 4, none⟩ v4).setCell ⟨g, 5, none⟩ v5).setCell ⟨g, 6, none⟩ v6).setCell ⟨g, 7, none⟩ v7).setCell ⟨g, 8, none⟩ v8) g t #[v0, v1, v2, v3, v4, v5, v6, v7, v8] := by
  simpa using (((((((((k.set 0 v0).set 1 v1).set 2 v2).set 3 v3).set 4 v4).set 5 v5).set 6 v6).set 7 v7).set 8 v8)
theorem bel_set9T {n : Nat} {a w : World} {g : Nat} (h : Below n a w) (hg : n ≤ g) (v0 v1 v2 v3 v4 v5 v6 v7 v8 : Value) : Below n a (((((((((w.setCell ⟨g, 0, none⟩ v0).setCell ⟨g, 1, none⟩ v1).setCell ⟨g, 2, none⟩ v2).setCell ⟨g, 3, none⟩ v3).setCell ⟨g, 4, none⟩ v4).setCell ⟨g, 5, none⟩ v5).setCell ⟨g, 6, none⟩ v6).setCell ⟨g, 7, none⟩ v7).setCell ⟨g, 8, none⟩ v8) := (((((((((h.setCell (by dsimp only; omega) _).setCell (by dsimp only; omega) _).setCell (by dsimp only; omega) _).setCell (by dsimp only; omega) _).setCell (by dsimp only; omega) _).setCell (by dsimp only; omega) _).setCell (by dsimp only; omega) _).setCell (by dsimp only; omega) _).setCell (by dsimp only; omega) _)
theorem blk_set9T {w : World} {b g : Nat} {t : TypeId} {cs : Array Value} (h : Blk w b t cs) (hg : b ≠ g) (v0 v1 v2 v3 v4 v5 v6 v7 v8 : Value) : Blk (((((((((w.setCell ⟨g, 0, none⟩ v0).setCell ⟨g, 1, none⟩ v1).setCell ⟨g, 2, none⟩ v2).setCell ⟨g, 3, none⟩ v3).setCell ⟨g, 4, none⟩ v4).setCell ⟨g, 5, none⟩ v5).setCell ⟨g, 6, none⟩ v6).setCell ⟨g, 7, none⟩ v7).setCell ⟨g, 8, none⟩ v8) b t cs := (((((((((h.setOther hg _ _).setOther hg _ _).setOther hg _ _).setOther hg _ _).setOther hg _ _).setOther hg _ _).setOther hg _ _).setOther hg _ _).setOther hg _ _)
/-- Where the lists of the chapter's book lie. -/
def tpT (gn gt : Nat) : Tp := ⟨some ⟨gn, 0, none⟩, 5, some ⟨gt, 0, none⟩, 3⟩
section
variable {o : Oper} {w : World} {g j t s u : Nat} (ρ : Operand → Value)
theorem run_bLow {h : Int} {x y : Int} (hop : o.op = .build 69 #[(0, .const (.int .i64 h)), (1, .tmp t)]) (hc : ρ (.const (.int .i64 h)) = .int .i64 h) (h1 : ρ (.tmp t) = .agg #[.int .i64 x, .int .i64 y]) : (execOp ρ o).run Tryz.prog w = .ok (.value (.agg #[.int .i64 h, .int .i64 x, .int .i64 y])) w := by
  unfold execOp; simp [hop, h1, hc, go_sem]
theorem run_bsLow {a0 a1 a2 b0 b1 b2 c0 c1 c2 : Int} (hop : o.op = .buildSlice 27 3 #[(0, .tmp t), (1, .tmp s), (2, .tmp u)]) (h1 : ρ (.tmp t) = .agg #[.int .i64 a0, .int .i64 a1, .int .i64 a2]) (h2 : ρ (.tmp s) = .agg #[.int .i64 b0, .int .i64 b1, .int .i64 b2]) (h3 : ρ (.tmp u) = .agg #[.int .i64 c0, .int .i64 c1, .int .i64 c2]) :
    (execOp ρ o).run Tryz.prog w = .ok (.value (.slice (some ⟨w.heap.size, 0, none⟩) 3 3)) (w.alloc (.cells #[.int .i64 a0, .int .i64 a1, .int .i64 a2, .int .i64 b0, .int .i64 b1, .int .i64 b2, .int .i64 c0, .int .i64 c1, .int .i64 c2] 69)) := by
  unfold execOp; simp [hop, h1, h2, h3, go_sem]
theorem run_bBook {s1 s2 s3 s4 : Nat} {p1 p2 : Option Addr} {n1 c1 n2 c2 : Nat} {a b c d r now most : Int} (hop : o.op = .build 29 #[(0, .tmp s1), (1, .const (.int .i64 now)), (2, .tmp s2), (3, .tmp s3), (4, .const (.int .i64 most)), (5, .tmp s4)])
    (h1 : ρ (.tmp s1) = .agg #[.int .i64 a, .int .i64 b, .slice p1 n1 c1]) (h2 : ρ (.tmp s2) = .slice p2 n2 c2) (h3 : ρ (.tmp s3) = .agg #[.int .i64 c, .int .i64 d]) (h4 : ρ (.tmp s4) = .int .i64 r) (k1 : ρ (.const (.int .i64 now)) = .int .i64 now) (k2 : ρ (.const (.int .i64 most)) = .int .i64 most) :
    (execOp ρ o).run Tryz.prog w = .ok (.value (.agg #[.int .i64 a, .int .i64 b, .slice p1 n1 c1, .int .i64 now, .slice p2 n2 c2, .int .i64 c, .int .i64 d, .int .i64 most, .int .i64 r])) w := by
  unfold execOp; simp [hop, h1, h2, h3, h4, k1, k2, go_sem]
end
/-- What region 1's operations leave. -/
def bkR (lo hi rest : Int) (n0 : Nat) (i : Nat) (v : Value) (w : World) : Prop :=
  match i with
  | 0 => ∃ g, v = .agg #[.int .i64 100, .int .i64 110, .slice (some ⟨g, 0, none⟩) 5 5] ∧ n0 ≤ g ∧ Blk w g 75 noteCs
  | 1 => v = .agg #[.int .i64 20, .int .i64 25]
  | 2 => v = .agg #[.int .i64 24, .int .i64 20, .int .i64 25]
  | 3 => v = .agg #[.int .i64 18, .int .i64 20]
  | 4 => v = .agg #[.int .i64 30, .int .i64 18, .int .i64 20]
  | 5 => v = .agg #[.int .i64 15, .int .i64 22]
  | 6 => v = .agg #[.int .i64 36, .int .i64 15, .int .i64 22]
  | 7 => ∃ g, v = .slice (some ⟨g, 0, none⟩) 3 3 ∧ n0 ≤ g ∧ Blk w g 69 lowCs
  | 8 => v = .agg #[.int .i64 lo, .int .i64 hi]
  | 9 => v = .int .i64 rest
  | 10 => ∃ gn gt, v = tv (bookT lo hi rest) (tpT gn gt) ∧ (n0 ≤ gn ∧ n0 ≤ gt) ∧ Blk w gn 75 noteCs ∧ Blk w gt 69 lowCs
  | _ => True
theorem bkR_kept (lo hi rest : Int) (n0 : Nat) : ∀ (i : Nat), i < 11 → ∀ (v : Value) (w w' : World), bkR lo hi rest n0 i v w → Below w.heap.size w w' → bkR lo hi rest n0 i v w' := by
  intro i hi v w w' h hb
  match i, hi with
  | 0, _ => obtain ⟨g, h1, h2, h3⟩ := h; exact ⟨g, h1, h2, h3.bel hb⟩
  | 1, _ => exact h
  | 2, _ => exact h
  | 3, _ => exact h
  | 4, _ => exact h
  | 5, _ => exact h
  | 6, _ => exact h
  | 7, _ => obtain ⟨g, h1, h2, h3⟩ := h; exact ⟨g, h1, h2, h3.bel hb⟩
  | 8, _ => exact h
  | 9, _ => exact h
  | 10, _ => obtain ⟨gn, gt, h1, h2, h3, h4⟩ := h; exact ⟨gn, gt, h1, h2, h3.bel hb, h4.bel hb⟩
  | k + 11, hk => omega
/-- The chapter's book lies in memory of its own. -/
def BookTAt (n0 : Nat) (lo hi rest : Int) (w : World) (e : Ending) (w' : World) : Prop := ∃ gn gt : Nat, e = .returned (tv (bookT lo hi rest) (tpT gn gt)) ∧ (n0 ≤ gn ∧ n0 ≤ gt) ∧ Blk w' gn 75 noteCs ∧ Blk w' gt 69 lowCs ∧ ∃ x, w' = ext w x
theorem TB_T {w : World} {gn gt : Nat} {lo hi rest : Int} (hn : MM w) (h1 : Blk w gn 75 noteCs) (h2 : Blk w gt 69 lowCs) : TB w (bookT lo hi rest) (tpT gn gt) :=
  ⟨⟨notes_T h1, hn, fun a ha => by cases ha; exact h1.lt⟩, lows_T h2, fun a ha => by cases ha; exact h2.lt⟩
set_option maxRecDepth 100000 in
set_option maxHeartbeats 4000000 in
theorem bookT_any (lo hi rest : Int) (w : World) : Calls Tryz.prog 118 #[.agg #[.int .i64 lo, .int .i64 hi], .int .i64 rest] w (BookTAt w.heap.size lo hi rest w) := by
  go_enter Tryz.func118, Tryz.ntmps118
  go_upto_region 1 with fail
  generalize hW : (w.alloc _).alloc _ = W
  have hB : Below w.heap.size w W := by rw [← hW]; (exact belA)
  have kS : Blk W w.heap.size 23 #[.int .i64 lo, .int .i64 hi] := by rw [← hW]; exact (Blk.new rfl).alloc _
  have kR : Blk W (w.heap.size + 1) 29 #[.int .i64 0, .int .i64 0, .slice none 0 0, .int .i64 0, .slice none 0 0, .int .i64 0, .int .i64 0, .int .i64 0, .int .i64 0] := by rw [← hW]; exact Blk.new (by simp)
  have HB := Lib.hid hB
  have KS := Lib.hid kS
  have KR := Lib.hid kR
  have hz := hB.size
  clear hW hB kS kR
  refine wp_region_flow_back 11 16 (bkR lo hi rest w.heap.size) (by kernel_rfl) (by kernel_rfl) rfl (bkR_kept _ _ _ _) ?_ ?_
  · intro i hin a X g1 g2 g3 g4 g5 KK hKK
    match i, hin with
    | 0, _ =>
      refine st_call rfl rfl (wanted_none rfl) (vs := #[]) (by simp) (run_enter Tryz.func154 (by kernel_rfl) (by kernel_rfl) _) ?_
      refine (netT_any _).mono ?_
      rintro e w1 ⟨g, rfl, h1, h2, y, rfl⟩
      exact ⟨_, rfl, hKK _ _ ⟨g, rfl, by have := g5.size; omega, h2⟩ (below_ext _ _)⟩
    | 1, _ =>
      refine st_call rfl rfl (wanted_none rfl) (vs := #[.int .i64 20, .int .i64 25]) (consts2 _ _) (run_enter Tryz.func48 (by kernel_rfl) (by kernel_rfl) _) ?_
      refine (To_any _ _ _).mono ?_
      rintro e w1 ⟨rfl, y, rfl⟩
      exact ⟨_, rfl, hKK _ _ rfl (below_ext _ _)⟩
    | 2, _ => exact st_val rfl (wanted_none rfl) (run_bLow _ rfl rfl (g4 1 (by kernel_rfl))) (hKK _ _ rfl (Below.refl _ _))
    | 3, _ =>
      refine st_call rfl rfl (wanted_none rfl) (vs := #[.int .i64 18, .int .i64 20]) (consts2 _ _) (run_enter Tryz.func48 (by kernel_rfl) (by kernel_rfl) _) ?_
      refine (To_any _ _ _).mono ?_
      rintro e w1 ⟨rfl, y, rfl⟩
      exact ⟨_, rfl, hKK _ _ rfl (below_ext _ _)⟩
    | 4, _ => exact st_val rfl (wanted_none rfl) (run_bLow _ rfl rfl (g4 3 (by kernel_rfl))) (hKK _ _ rfl (Below.refl _ _))
    | 5, _ =>
      refine st_call rfl rfl (wanted_none rfl) (vs := #[.int .i64 15, .int .i64 22]) (consts2 _ _) (run_enter Tryz.func48 (by kernel_rfl) (by kernel_rfl) _) ?_
      refine (To_any _ _ _).mono ?_
      rintro e w1 ⟨rfl, y, rfl⟩
      exact ⟨_, rfl, hKK _ _ rfl (below_ext _ _)⟩
    | 6, _ => exact st_val rfl (wanted_none rfl) (run_bLow _ rfl rfl (g4 5 (by kernel_rfl))) (hKK _ _ rfl (Below.refl _ _))
    | 7, _ => exact st_valw rfl (wanted_none rfl) (run_bsLow _ rfl (g4 2 (by kernel_rfl)) (g4 4 (by kernel_rfl)) (g4 6 (by kernel_rfl))) (hKK _ _ ⟨_, rfl, by have := g5.size; omega, Blk.new rfl⟩ ((Below.refl _ _).alloc (Nat.le_refl _) _))
    | 8, _ => exact st_val rfl (wanted_none rfl) (run_lSpan _ rfl (g3 2 (by kernel_rfl)) (((KS.out.bel g5).cell 0).trans rfl) (((KS.out.bel g5).cell 1).trans rfl)) (hKK _ _ rfl (Below.refl _ _))
    | 9, _ => exact st_move rfl rfl (wanted_none rfl) (g3 1 (by kernel_rfl)) (hKK _ _ rfl (Below.refl _ _))
    | 10, _ =>
      obtain ⟨gn, e0, h1, h2⟩ := g4 0 (by kernel_rfl)
      obtain ⟨gt, e7, h3, h4⟩ := g4 7 (by kernel_rfl)
      exact st_val rfl (wanted_none rfl) (run_bBook _ rfl e0 e7 (g4 8 (by kernel_rfl)) (g4 9 (by kernel_rfl)) rfl rfl) (hKK _ _ ⟨gn, gt, rfl, ⟨h1, h3⟩, h2, h4⟩ (Below.refl _ _))
    | k + 11, hk => omega
  intro vs W2 hvs hBW
  obtain ⟨_, v0, -⟩ := hvs 0 (by omega)
  have v1 : vs 1 = _ := hvs 1 (by omega)
  have v2 : vs 2 = _ := hvs 2 (by omega)
  have v3 : vs 3 = _ := hvs 3 (by omega)
  have v4 : vs 4 = _ := hvs 4 (by omega)
  have v5 : vs 5 = _ := hvs 5 (by omega)
  have v6 : vs 6 = _ := hvs 6 (by omega)
  have v8 : vs 8 = _ := hvs 8 (by omega)
  have v9 : vs 9 = _ := hvs 9 (by omega)
  obtain ⟨_, v7, -⟩ := hvs 7 (by omega)
  obtain ⟨gn, gt, v10, hgg, hkn, hkt⟩ := hvs 10 (by omega)
  simp only [putAll, v0, v1, v2, v3, v4, v5, v6, v7, v8, v9, v10]
  clear v0 v1 v2 v3 v4 v5 v6 v7 v8 v9 v10 hvs
  simp only [dstOf, Act.put, List.getElem?_toArray, List.getElem?_cons_zero, List.getElem?_cons_succ, Option.bind_some, Option.getD_some, List.setIfInBounds_toArray, List.set_cons_succ, List.set_cons_zero, List.drop_succ_cons, List.drop_zero]
  have KR2 := Lib.hid (KR.out.bel hBW)
  have HB2 := Lib.hid (HB.out.trans (hBW.mono HB.out.size))
  have KN := Lib.hid hkn
  have KT := Lib.hid hkt
  have hbk : True := trivial
  have hne1 : gn ≠ w.heap.size + 1 := fun e => by subst e; have h1 := KR2.out; have h2 := KN.out; unfold Blk at h1 h2; rw [h1] at h2; simp [noteCs] at h2
  have hne2 : gt ≠ w.heap.size + 1 := fun e => by subst e; have h1 := KR2.out; have h2 := KT.out; unfold Blk at h1 h2; rw [h1] at h2; simp [lowCs] at h2
  have kR := KR2.out
  obtain ⟨r0, r1, r2, r3, r4, r5, r6, r7, r8⟩ := Blk.c9 kR
  obtain ⟨f0, f1, f2, f3, f4, f5, f6, f7, f8⟩ := Blk.f9 kR
  have lR := kR.lt
  clear kR hkn hkt hBW hbk
  generalize hTV : tv (bookT lo hi rest) (tpT gn gt) = vv
  have HTV := Lib.hid hTV
  unfold tv at hTV
  dsimp only [bookT, netT, lowsT, tpT, List.length_cons, List.length_nil] at hTV
  subst hTV
  go_wp2_with fail
  have kE := KR2.out.set9T (.int .i64 100) (.int .i64 110) (.slice (some ⟨gn, 0, none⟩) 5 5) (.int .i64 21) (.slice (some ⟨gt, 0, none⟩) 3 3) (.int .i64 lo) (.int .i64 hi) (.int .i64 2) (.int .i64 rest)
  have hE := bel_set9T (g := w.heap.size + 1) HB2.out (by omega) (.int .i64 100) (.int .i64 110) (.slice (some ⟨gn, 0, none⟩) 5 5) (.int .i64 21) (.slice (some ⟨gt, 0, none⟩) 3 3) (.int .i64 lo) (.int .i64 hi) (.int .i64 2) (.int .i64 rest)
  have kN := blk_set9T (g := w.heap.size + 1) KN.out hne1 (.int .i64 100) (.int .i64 110) (.slice (some ⟨gn, 0, none⟩) 5 5) (.int .i64 21) (.slice (some ⟨gt, 0, none⟩) 3 3) (.int .i64 lo) (.int .i64 hi) (.int .i64 2) (.int .i64 rest)
  have kT := blk_set9T (g := w.heap.size + 1) KT.out hne2 (.int .i64 100) (.int .i64 110) (.slice (some ⟨gn, 0, none⟩) 5 5) (.int .i64 21) (.slice (some ⟨gt, 0, none⟩) 3 3) (.int .i64 lo) (.int .i64 hi) (.int .i64 2) (.int .i64 rest)
  generalize hWW : World.setCell _ _ _ = WW at kE hE kN kT ⊢
  clear hWW
  have HE2 := Lib.hid hE
  have KN3 := Lib.hid kN
  have KT3 := Lib.hid kT
  obtain ⟨e0, e1, e2, e3, e4, e5, e6, e7, e8⟩ := Blk.c9 kE
  have lE := kE.lt
  clear hE kE kN kT
  refine bodyPost_ret (v := .agg #[.int .i64 100, .int .i64 110, .slice (some ⟨gn, 0, none⟩) 5 5, .int .i64 21, .slice (some ⟨gt, 0, none⟩) 3 3, .int .i64 lo, .int .i64 hi, .int .i64 2, .int .i64 rest]) (by simp [results, Tryz.results118, go_sem, e0, e1, e2, e3, e4, e5, e6, e7, e8, lE]) rfl ⟨gn, gt, by rw [HTV.out], hgg, KN3.out, KT3.out, ext_of HE2.out⟩
set_option maxRecDepth 100000 in
set_option maxHeartbeats 4000000 in
theorem ownT_any (w : World) : Calls Tryz.prog 71 #[] w (BookTAt w.heap.size 34 40 8 w) := by
  go_enter Tryz.func71, Tryz.ntmps71
  go_upto_region 1 with fail
  generalize hW : w.alloc _ = W
  have hB : Below w.heap.size w W := by rw [← hW]; (exact belA)
  have kR : Blk W w.heap.size 29 #[.int .i64 0, .int .i64 0, .slice none 0 0, .int .i64 0, .slice none 0 0, .int .i64 0, .int .i64 0, .int .i64 0, .int .i64 0] := by rw [← hW]; exact Blk.new rfl
  have HB := Lib.hid hB
  have KR := Lib.hid kR
  clear hW hB kR
  go_wp2_with (first
    | (go_at_call 48; refine (To_any _ _ _).mono ?_; rintro e w1 ⟨rfl, y, hw1⟩; have KR1 := Lib.hid (show Blk w1 w.heap.size 29 _ by rw [hw1]; exact KR.out.ext y); have HB1 := Lib.hid (show Below w.heap.size w w1 by rw [hw1]; exact HB.out.trans ((below_ext _ y).mono HB.out.size)); clear KR HB hw1)
    | (go_at_call 118; refine (bookT_any _ _ _ _).mono ?_; rintro e w2 ⟨gn, gt, he, hgg, k1, k2, y2, hw2⟩; have KR2 := Lib.hid (show Blk w2 w.heap.size 29 _ by rw [hw2]; exact KR1.out.ext y2); have HB2 := Lib.hid (show Below w.heap.size w w2 by rw [hw2]; exact HB1.out.trans ((below_ext _ y2).mono HB1.out.size)); have hz1 := HB1.out.size; have KN := Lib.hid k1; have KT := Lib.hid k2; clear k1 k2 hw2 KR1 HB1; unfold tv at he; dsimp only [bookT, netT, lowsT, tpT, List.length_cons, List.length_nil] at he; subst he; have kR := KR2.out; obtain ⟨r0, r1, r2, r3, r4, r5, r6, r7, r8⟩ := Blk.c9 kR; obtain ⟨f0, f1, f2, f3, f4, f5, f6, f7, f8⟩ := Blk.f9 kR; have lR := kR.lt; clear kR))
  have hne1 : gn ≠ w.heap.size := fun e => by subst e; have h1 := KR2.out; have h2 := KN.out; unfold Blk at h1 h2; rw [h1] at h2; simp [noteCs] at h2
  have hne2 : gt ≠ w.heap.size := fun e => by subst e; have h1 := KR2.out; have h2 := KT.out; unfold Blk at h1 h2; rw [h1] at h2; simp [lowCs] at h2
  have kE := KR2.out.set9T (.int .i64 100) (.int .i64 110) (.slice (some ⟨gn, 0, none⟩) 5 5) (.int .i64 21) (.slice (some ⟨gt, 0, none⟩) 3 3) (.int .i64 34) (.int .i64 40) (.int .i64 2) (.int .i64 8)
  have hE := bel_set9T (g := w.heap.size) HB2.out (by omega) (.int .i64 100) (.int .i64 110) (.slice (some ⟨gn, 0, none⟩) 5 5) (.int .i64 21) (.slice (some ⟨gt, 0, none⟩) 3 3) (.int .i64 34) (.int .i64 40) (.int .i64 2) (.int .i64 8)
  have kN := blk_set9T (g := w.heap.size) KN.out hne1 (.int .i64 100) (.int .i64 110) (.slice (some ⟨gn, 0, none⟩) 5 5) (.int .i64 21) (.slice (some ⟨gt, 0, none⟩) 3 3) (.int .i64 34) (.int .i64 40) (.int .i64 2) (.int .i64 8)
  have kT := blk_set9T (g := w.heap.size) KT.out hne2 (.int .i64 100) (.int .i64 110) (.slice (some ⟨gn, 0, none⟩) 5 5) (.int .i64 21) (.slice (some ⟨gt, 0, none⟩) 3 3) (.int .i64 34) (.int .i64 40) (.int .i64 2) (.int .i64 8)
  generalize hWW : World.setCell _ _ _ = WW at kE hE kN kT ⊢
  clear hWW
  have HE2 := Lib.hid hE
  have KN3 := Lib.hid kN
  have KT3 := Lib.hid kT
  obtain ⟨e0, e1, e2, e3, e4, e5, e6, e7, e8⟩ := Blk.c9 kE
  have lE := kE.lt
  clear hE kE kN kT
  refine bodyPost_ret (v := .agg #[.int .i64 100, .int .i64 110, .slice (some ⟨gn, 0, none⟩) 5 5, .int .i64 21, .slice (some ⟨gt, 0, none⟩) 3 3, .int .i64 34, .int .i64 40, .int .i64 2, .int .i64 8]) (by simp [results, Tryz.results71, go_sem, e0, e1, e2, e3, e4, e5, e6, e7, e8, lE]) rfl ⟨gn, gt, rfl, ⟨by omega, by omega⟩, KN3.out, KT3.out, ext_of HE2.out⟩
set_option maxRecDepth 100000 in
set_option maxHeartbeats 4000000 in
theorem lateT_any (w : World) : Calls Tryz.prog 73 #[] w (BookTAt w.heap.size 38 40 8 w) := by
  go_enter Tryz.func73, Tryz.ntmps73
  go_upto_region 1 with fail
  generalize hW : w.alloc _ = W
  have hB : Below w.heap.size w W := by rw [← hW]; (exact belA)
  have kR : Blk W w.heap.size 29 #[.int .i64 0, .int .i64 0, .slice none 0 0, .int .i64 0, .slice none 0 0, .int .i64 0, .int .i64 0, .int .i64 0, .int .i64 0] := by rw [← hW]; exact Blk.new rfl
  have HB := Lib.hid hB
  have KR := Lib.hid kR
  clear hW hB kR
  go_wp2_with (first
    | (go_at_call 48; refine (To_any _ _ _).mono ?_; rintro e w1 ⟨rfl, y, hw1⟩; have KR1 := Lib.hid (show Blk w1 w.heap.size 29 _ by rw [hw1]; exact KR.out.ext y); have HB1 := Lib.hid (show Below w.heap.size w w1 by rw [hw1]; exact HB.out.trans ((below_ext _ y).mono HB.out.size)); clear KR HB hw1)
    | (go_at_call 118; refine (bookT_any _ _ _ _).mono ?_; rintro e w2 ⟨gn, gt, he, hgg, k1, k2, y2, hw2⟩; have KR2 := Lib.hid (show Blk w2 w.heap.size 29 _ by rw [hw2]; exact KR1.out.ext y2); have HB2 := Lib.hid (show Below w.heap.size w w2 by rw [hw2]; exact HB1.out.trans ((below_ext _ y2).mono HB1.out.size)); have hz1 := HB1.out.size; have KN := Lib.hid k1; have KT := Lib.hid k2; clear k1 k2 hw2 KR1 HB1; unfold tv at he; dsimp only [bookT, netT, lowsT, tpT, List.length_cons, List.length_nil] at he; subst he; have kR := KR2.out; obtain ⟨r0, r1, r2, r3, r4, r5, r6, r7, r8⟩ := Blk.c9 kR; obtain ⟨f0, f1, f2, f3, f4, f5, f6, f7, f8⟩ := Blk.f9 kR; have lR := kR.lt; clear kR))
  have hne1 : gn ≠ w.heap.size := fun e => by subst e; have h1 := KR2.out; have h2 := KN.out; unfold Blk at h1 h2; rw [h1] at h2; simp [noteCs] at h2
  have hne2 : gt ≠ w.heap.size := fun e => by subst e; have h1 := KR2.out; have h2 := KT.out; unfold Blk at h1 h2; rw [h1] at h2; simp [lowCs] at h2
  have kE := KR2.out.set9T (.int .i64 100) (.int .i64 110) (.slice (some ⟨gn, 0, none⟩) 5 5) (.int .i64 21) (.slice (some ⟨gt, 0, none⟩) 3 3) (.int .i64 38) (.int .i64 40) (.int .i64 2) (.int .i64 8)
  have hE := bel_set9T (g := w.heap.size) HB2.out (by omega) (.int .i64 100) (.int .i64 110) (.slice (some ⟨gn, 0, none⟩) 5 5) (.int .i64 21) (.slice (some ⟨gt, 0, none⟩) 3 3) (.int .i64 38) (.int .i64 40) (.int .i64 2) (.int .i64 8)
  have kN := blk_set9T (g := w.heap.size) KN.out hne1 (.int .i64 100) (.int .i64 110) (.slice (some ⟨gn, 0, none⟩) 5 5) (.int .i64 21) (.slice (some ⟨gt, 0, none⟩) 3 3) (.int .i64 38) (.int .i64 40) (.int .i64 2) (.int .i64 8)
  have kT := blk_set9T (g := w.heap.size) KT.out hne2 (.int .i64 100) (.int .i64 110) (.slice (some ⟨gn, 0, none⟩) 5 5) (.int .i64 21) (.slice (some ⟨gt, 0, none⟩) 3 3) (.int .i64 38) (.int .i64 40) (.int .i64 2) (.int .i64 8)
  generalize hWW : World.setCell _ _ _ = WW at kE hE kN kT ⊢
  clear hWW
  have HE2 := Lib.hid hE
  have KN3 := Lib.hid kN
  have KT3 := Lib.hid kT
  obtain ⟨e0, e1, e2, e3, e4, e5, e6, e7, e8⟩ := Blk.c9 kE
  have lE := kE.lt
  clear hE kE kN kT
  refine bodyPost_ret (v := .agg #[.int .i64 100, .int .i64 110, .slice (some ⟨gn, 0, none⟩) 5 5, .int .i64 21, .slice (some ⟨gt, 0, none⟩) 3 3, .int .i64 38, .int .i64 40, .int .i64 2, .int .i64 8]) (by simp [results, Tryz.results73, go_sem, e0, e1, e2, e3, e4, e5, e6, e7, e8, lE]) rfl ⟨gn, gt, rfl, ⟨by omega, by omega⟩, KN3.out, KT3.out, ext_of HE2.out⟩
set_option maxRecDepth 100000 in
set_option maxHeartbeats 4000000 in
theorem quickT_any (w : World) : Calls Tryz.prog 72 #[] w (BookTAt w.heap.size 34 40 6 w) := by
  go_enter Tryz.func72, Tryz.ntmps72
  go_upto_region 1 with fail
  generalize hW : w.alloc _ = W
  have hB : Below w.heap.size w W := by rw [← hW]; (exact belA)
  have kR : Blk W w.heap.size 29 #[.int .i64 0, .int .i64 0, .slice none 0 0, .int .i64 0, .slice none 0 0, .int .i64 0, .int .i64 0, .int .i64 0, .int .i64 0] := by rw [← hW]; exact Blk.new rfl
  have HB := Lib.hid hB
  have KR := Lib.hid kR
  clear hW hB kR
  go_wp2_with (first
    | (go_at_call 48; refine (To_any _ _ _).mono ?_; rintro e w1 ⟨rfl, y, hw1⟩; have KR1 := Lib.hid (show Blk w1 w.heap.size 29 _ by rw [hw1]; exact KR.out.ext y); have HB1 := Lib.hid (show Below w.heap.size w w1 by rw [hw1]; exact HB.out.trans ((below_ext _ y).mono HB.out.size)); clear KR HB hw1)
    | (go_at_call 118; refine (bookT_any _ _ _ _).mono ?_; rintro e w2 ⟨gn, gt, he, hgg, k1, k2, y2, hw2⟩; have KR2 := Lib.hid (show Blk w2 w.heap.size 29 _ by rw [hw2]; exact KR1.out.ext y2); have HB2 := Lib.hid (show Below w.heap.size w w2 by rw [hw2]; exact HB1.out.trans ((below_ext _ y2).mono HB1.out.size)); have hz1 := HB1.out.size; have KN := Lib.hid k1; have KT := Lib.hid k2; clear k1 k2 hw2 KR1 HB1; unfold tv at he; dsimp only [bookT, netT, lowsT, tpT, List.length_cons, List.length_nil] at he; subst he; have kR := KR2.out; obtain ⟨r0, r1, r2, r3, r4, r5, r6, r7, r8⟩ := Blk.c9 kR; obtain ⟨f0, f1, f2, f3, f4, f5, f6, f7, f8⟩ := Blk.f9 kR; have lR := kR.lt; clear kR))
  have hne1 : gn ≠ w.heap.size := fun e => by subst e; have h1 := KR2.out; have h2 := KN.out; unfold Blk at h1 h2; rw [h1] at h2; simp [noteCs] at h2
  have hne2 : gt ≠ w.heap.size := fun e => by subst e; have h1 := KR2.out; have h2 := KT.out; unfold Blk at h1 h2; rw [h1] at h2; simp [lowCs] at h2
  have kE := KR2.out.set9T (.int .i64 100) (.int .i64 110) (.slice (some ⟨gn, 0, none⟩) 5 5) (.int .i64 21) (.slice (some ⟨gt, 0, none⟩) 3 3) (.int .i64 34) (.int .i64 40) (.int .i64 2) (.int .i64 6)
  have hE := bel_set9T (g := w.heap.size) HB2.out (by omega) (.int .i64 100) (.int .i64 110) (.slice (some ⟨gn, 0, none⟩) 5 5) (.int .i64 21) (.slice (some ⟨gt, 0, none⟩) 3 3) (.int .i64 34) (.int .i64 40) (.int .i64 2) (.int .i64 6)
  have kN := blk_set9T (g := w.heap.size) KN.out hne1 (.int .i64 100) (.int .i64 110) (.slice (some ⟨gn, 0, none⟩) 5 5) (.int .i64 21) (.slice (some ⟨gt, 0, none⟩) 3 3) (.int .i64 34) (.int .i64 40) (.int .i64 2) (.int .i64 6)
  have kT := blk_set9T (g := w.heap.size) KT.out hne2 (.int .i64 100) (.int .i64 110) (.slice (some ⟨gn, 0, none⟩) 5 5) (.int .i64 21) (.slice (some ⟨gt, 0, none⟩) 3 3) (.int .i64 34) (.int .i64 40) (.int .i64 2) (.int .i64 6)
  generalize hWW : World.setCell _ _ _ = WW at kE hE kN kT ⊢
  clear hWW
  have HE2 := Lib.hid hE
  have KN3 := Lib.hid kN
  have KT3 := Lib.hid kT
  obtain ⟨e0, e1, e2, e3, e4, e5, e6, e7, e8⟩ := Blk.c9 kE
  have lE := kE.lt
  clear hE kE kN kT
  refine bodyPost_ret (v := .agg #[.int .i64 100, .int .i64 110, .slice (some ⟨gn, 0, none⟩) 5 5, .int .i64 21, .slice (some ⟨gt, 0, none⟩) 3 3, .int .i64 34, .int .i64 40, .int .i64 2, .int .i64 6]) (by simp [results, Tryz.results72, go_sem, e0, e1, e2, e3, e4, e5, e6, e7, e8, lE]) rfl ⟨gn, gt, rfl, ⟨by omega, by omega⟩, KN3.out, KT3.out, ext_of HE2.out⟩
end Go.Proofs.YtcaeohgbgeadaaaGreatDoor

