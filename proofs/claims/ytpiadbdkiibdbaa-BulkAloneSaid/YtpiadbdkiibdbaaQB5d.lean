/- Contracts of package bulk: what makes a book valid; Check. Written by gen_b5d.py. -/
import Derived.Test.YtpiadbdkiibdbaaQB5c
set_option linter.unusedSimpArgs false
set_option linter.unusedVariables false
namespace Go.Proofs.Ytpiadbdkiibdbaa
open Go Go.RowKit
attribute [local go_sem] Oper.semAt_some frozen_alloc_lt
theorem toldV_ways {t : Int} {v : Bool} (h : toldV t = v) : ((t == -1) = true ∧ (t != -1) = false ∧ decide (t = -1) = true ∧ v = true) ∨ ((t == -1) = false ∧ (t != -1) = true ∧ decide (t = -1) = false ∧ inV t 0 40 = v) := by
  unfold toldV at h
  by_cases hd : t = -1
  · subst hd; simp at h; exact .inl ⟨rfl, rfl, rfl, h⟩
  · simp [hd] at h; exact .inr ⟨by simpa using hd, by simpa using hd, by simpa using hd, h⟩
theorem idx30 (a b c : Int) (w : World) : (Instr.index 25 (.agg #[.int .i64 a, .int .i64 b, .int .i64 c]) (.int .i64 0)).run Try.prog w = .ok (.int .i64 a) w := by
  simp [Instr.index, run_underlying (Try.underlying25), asIntOf, go_sem]
theorem idx31 (a b c : Int) (w : World) : (Instr.index 25 (.agg #[.int .i64 a, .int .i64 b, .int .i64 c]) (.int .i64 1)).run Try.prog w = .ok (.int .i64 b) w := by
  simp [Instr.index, run_underlying (Try.underlying25), asIntOf, go_sem]
theorem idx32 (a b c : Int) (w : World) : (Instr.index 25 (.agg #[.int .i64 a, .int .i64 b, .int .i64 c]) (.int .i64 2)).run Try.prog w = .ok (.int .i64 c) w := by
  simp [Instr.index, run_underlying (Try.underlying25), asIntOf, go_sem]
set_option maxRecDepth 100000 in
set_option maxHeartbeats 4000000 in
theorem validLot_any (t : Lt) (q : Bool) (w : World) (hq : lotV t = q) : Calls Try.prog 109 #[ltV t] w fun e w' => e = .returned (.bool q) ∧ ∃ x, w' = ext w x := by
  have HQ := Lib.hid hq
  clear hq
  unfold ltV
  go_enter Try.func109, Try.ntmps109
  go_upto_region 2 with fail
  generalize hW : w.alloc _ = W
  have HB := Lib.hid (show Below w.heap.size w W by rw [← hW]; (exact belA))
  have KB := Lib.hid (show Blk W w.heap.size 62 #[.int .i64 t.t0, .int .i64 t.t1, .int .i64 t.t2, .int .i64 t.wl, .int .i64 t.wh] by rw [← hW]; exact Blk.new rfl)
  clear hW
  go_loop [4, 7] (fun _ i => ∃ k : Nat, k ≤ 3 ∧ i = .int .i64 k ∧ Hid (∀ j, j < k → toldV (t.told j) = true)) (fun _ i => 3 - (intOf i).toNat)
  case atStart => exact ⟨0, by omega, rfl, Lib.hid (fun j hj => by omega)⟩
  case round =>
    obtain ⟨k, hk, rfl, HK⟩ := hrel
    rcases (show k = 0 ∨ k = 1 ∨ k = 2 ∨ k = 3 by omega) with rfl | rfl | rfl | rfl
    · obtain ⟨v, hv⟩ : ∃ v, toldV t.t0 = v := ⟨_, rfl⟩
      have hx := idx30 t.t0 t.t1 t.t2
      have HV := Lib.hid hv
      rcases toldV_ways hv with ⟨d1, d2, d3, d4⟩ | ⟨d1, d2, d3, d4⟩
      · have HT := Lib.hid (show toldV t.t0 = true by rw [hv, d4])
        clear hv d4
        go_wp2_with fail
        go_round
        case rel => exact ⟨1, by omega, by go_num, Lib.hid (fun j hj => by rcases Nat.lt_succ_iff_lt_or_eq.1 hj with h | h; exact HK.out j h; subst h; exact HT.out)⟩
        case measure => simp [intOf]
      · have HI := Lib.hid d4
        clear hv d4
        cases v
        · go_wp2_with (go_at_call 89; refine (bWithin_eq _ _ _ _ _ HI.out).mono ?_; rintro e w' ⟨rfl, rfl⟩)
          go_ret
          exact ⟨by rw [← HQ.out]; unfold lotV; rw [HV.out]; simp, ext_of HB.out⟩
        · go_wp2_with (go_at_call 89; refine (bWithin_eq _ _ _ _ _ HI.out).mono ?_; rintro e w' ⟨rfl, rfl⟩)
          go_round
          case rel => exact ⟨1, by omega, by go_num, Lib.hid (fun j hj => by rcases Nat.lt_succ_iff_lt_or_eq.1 hj with h | h; exact HK.out j h; subst h; exact HV.out)⟩
          case measure => simp [intOf]
    · obtain ⟨v, hv⟩ : ∃ v, toldV t.t1 = v := ⟨_, rfl⟩
      have hx := idx31 t.t0 t.t1 t.t2
      have HV := Lib.hid hv
      rcases toldV_ways hv with ⟨d1, d2, d3, d4⟩ | ⟨d1, d2, d3, d4⟩
      · have HT := Lib.hid (show toldV t.t1 = true by rw [hv, d4])
        clear hv d4
        go_wp2_with fail
        go_round
        case rel => exact ⟨2, by omega, by go_num, Lib.hid (fun j hj => by rcases Nat.lt_succ_iff_lt_or_eq.1 hj with h | h; exact HK.out j h; subst h; exact HT.out)⟩
        case measure => simp [intOf]
      · have HI := Lib.hid d4
        clear hv d4
        cases v
        · go_wp2_with (go_at_call 89; refine (bWithin_eq _ _ _ _ _ HI.out).mono ?_; rintro e w' ⟨rfl, rfl⟩)
          go_ret
          exact ⟨by rw [← HQ.out]; unfold lotV; rw [HV.out]; simp, ext_of HB.out⟩
        · go_wp2_with (go_at_call 89; refine (bWithin_eq _ _ _ _ _ HI.out).mono ?_; rintro e w' ⟨rfl, rfl⟩)
          go_round
          case rel => exact ⟨2, by omega, by go_num, Lib.hid (fun j hj => by rcases Nat.lt_succ_iff_lt_or_eq.1 hj with h | h; exact HK.out j h; subst h; exact HV.out)⟩
          case measure => simp [intOf]
    · obtain ⟨v, hv⟩ : ∃ v, toldV t.t2 = v := ⟨_, rfl⟩
      have hx := idx32 t.t0 t.t1 t.t2
      have HV := Lib.hid hv
      rcases toldV_ways hv with ⟨d1, d2, d3, d4⟩ | ⟨d1, d2, d3, d4⟩
      · have HT := Lib.hid (show toldV t.t2 = true by rw [hv, d4])
        clear hv d4
        go_wp2_with fail
        go_round
        case rel => exact ⟨3, by omega, by go_num, Lib.hid (fun j hj => by rcases Nat.lt_succ_iff_lt_or_eq.1 hj with h | h; exact HK.out j h; subst h; exact HT.out)⟩
        case measure => simp [intOf]
      · have HI := Lib.hid d4
        clear hv d4
        cases v
        · go_wp2_with (go_at_call 89; refine (bWithin_eq _ _ _ _ _ HI.out).mono ?_; rintro e w' ⟨rfl, rfl⟩)
          go_ret
          exact ⟨by rw [← HQ.out]; unfold lotV; rw [HV.out]; simp, ext_of HB.out⟩
        · go_wp2_with (go_at_call 89; refine (bWithin_eq _ _ _ _ _ HI.out).mono ?_; rintro e w' ⟨rfl, rfl⟩)
          go_round
          case rel => exact ⟨3, by omega, by go_num, Lib.hid (fun j hj => by rcases Nat.lt_succ_iff_lt_or_eq.1 hj with h | h; exact HK.out j h; subst h; exact HV.out)⟩
          case measure => simp [intOf]
    · have HS := Lib.hid (show spanV t.wl t.wh 0 20 5 = q by
        rw [← HQ.out]; unfold lotV
        have h0 : toldV t.t0 = true := HK.out 0 (by omega)
        have h1 : toldV t.t1 = true := HK.out 1 (by omega)
        have h2 : toldV t.t2 = true := HK.out 2 (by omega)
        rw [h0, h1, h2]; rfl)
      have kb := KB.out
      obtain ⟨c0, c1, c2, c3, c4⟩ := Blk.c5 kb
      have lb := kb.lt
      clear kb
      go_wp2_with (go_at_call 108; refine (bSpan_eq _ _ _ _ _ _ _ (by decide) (by decide) HS.out).mono ?_; rintro e w' ⟨rfl, y, rfl⟩)
      go_ret
      exact ⟨rfl, ext_of (HB.out.trans ((below_ext _ _).mono HB.out.size))⟩
theorem lots_cells {w : World} {p : Option Addr} {l : List Lt} (h : LotsAt w p l) {k : Nat} {s : Lt} (hs : l[k]? = some s) : ∃ b o : Nat, p = some ⟨b, o, none⟩ ∧ b < w.heap.size ∧ w.cell? ⟨b, o + k * 5, none⟩ = some (.int .i64 s.t0) ∧ w.cell? ⟨b, o + k * 5 + 1, none⟩ = some (.int .i64 s.t1) ∧ w.cell? ⟨b, o + k * 5 + 2, none⟩ = some (.int .i64 s.t2) ∧ w.cell? ⟨b, o + k * 5 + 3, none⟩ = some (.int .i64 s.wl) ∧ w.cell? ⟨b, o + k * 5 + 4, none⟩ = some (.int .i64 s.wh) := h k s hs
set_option maxRecDepth 100000 in
set_option maxHeartbeats 4000000 in
theorem validLots_any (p : Option Addr) (c : Nat) (l : List Lt) (q : Bool) (w : World) (hl : LotsAt w p l) (hq : lotsV l = q) : Calls Try.prog 88 #[.slice p l.length c] w fun e w' => e = .returned (.bool q) ∧ ∃ x, w' = ext w x := by
  have HQ := Lib.hid hq
  have HL := Lib.hid hl
  clear hq hl
  by_cases h4 : l.length ≤ 4
  · have hd : decide ((4 : Int) < (l.length : Int)) = false := decide_eq_false (by omega)
    have hd2 : decide (4 < l.length) = false := decide_eq_false (by omega)
    obtain ⟨n, hn⟩ : ∃ n, l.length = n := ⟨_, rfl⟩
    have HN := Lib.hid hn
    rw [hn] at h4 hd hd2 ⊢
    clear hn
    go_enter Try.func88, Try.ntmps88
    go_upto_region 4 with fail
    go_loopw [4, 10] (fun _ i wr => ∃ k : Nat, k ≤ n ∧ i = .int .i64 k ∧ Hid (∀ (j : Nat) (s : Lt), j < k → l[j]? = some s → lotV s = true) ∧ Hid (Below w.heap.size w wr)) (fun _ i _ => n - (intOf i).toNat)
    case atStart => exact ⟨0, by omega, rfl, Lib.hid (fun j s hj => by omega), Lib.hid (Below.refl _ _)⟩
    case round =>
      obtain ⟨k, hk, rfl, HK, HB⟩ := hrel
      by_cases hlt : k < n
      · obtain ⟨s, hs⟩ := get_some l k (by rw [HN.out]; exact hlt)
        obtain ⟨b1, o1, rfl, hb1, c0, c1, c2, c3, c4⟩ := lots_cells (HL.out.below HB.out) hs
        obtain ⟨v, hv⟩ : ∃ v, lotV s = v := ⟨_, rfl⟩
        have HV := Lib.hid hv
        have HS := Lib.hid hs
        have k0 : (0 : Int) ≤ (k : Int) := by omega
        have k1 : (k : Int) < (n : Int) := by omega
        have HW := Lib.hid (wrap_num k (by omega))
        clear hv hs
        cases v
        · go_wp2_with (go_at_call 109; refine (validLot_any s _ _ HV.out).mono ?_; rintro e w' ⟨rfl, y, rfl⟩)
          go_ret
          refine ⟨?_, ext_of (HB.out.trans (Below.mono belA HB.out.size))⟩
          rw [← HQ.out]
          have : lotsV l = false := by
            unfold lotsV
            rw [Bool.and_eq_false_iff]
            right
            rw [List.all_eq_false]
            exact ⟨s, List.mem_of_getElem? HS.out, by rw [HV.out]; decide⟩
          rw [this]; rfl
        · go_wp2_with (go_at_call 109; refine (validLot_any s _ _ HV.out).mono ?_; rintro e w' ⟨rfl, y, hw⟩; have HB' := Lib.hid (show Below w.heap.size w w' by rw [hw]; exact HB.out.trans (Below.mono belA HB.out.size)); clear hw)
          go_roundw
          case rel => exact ⟨k + 1, by omega, by first | go_num | (rw [HW.out]), Lib.hid (fun j t hj ht => by
            rcases Nat.lt_succ_iff_lt_or_eq.1 hj with h | h
            · exact HK.out j t h ht
            · subst h; rw [HS.out] at ht; cases ht; exact HV.out), HB'⟩
          case measure => simp [intOf]; omega
      · obtain rfl : k = n := by omega
        go_wp2_with fail
        go_ret
        refine ⟨?_, ext_of HB.out⟩
        rw [← HQ.out]
        have : lotsV l = true := by
          unfold lotsV
          rw [Bool.and_eq_true, decide_eq_true_eq, List.all_eq_true]
          refine ⟨by rw [HN.out]; exact h4, fun s hs => ?_⟩
          obtain ⟨j, hj, rfl⟩ := List.mem_iff_getElem.1 hs
          exact HK.out j _ (by rw [← HN.out]; exact hj) (List.getElem?_eq_getElem hj)
        rw [this]; rfl
  · have hd : decide ((4 : Int) < (l.length : Int)) = true := decide_eq_true (by omega)
    have hd2 : decide (4 < l.length) = true := decide_eq_true (by omega)
    go_enter Try.func88, Try.ntmps88
    go_wp2_with fail
    go_ret
    refine ⟨?_, ext_of (Below.refl _ _)⟩
    rw [← HQ.out]
    have : lotsV l = false := by unfold lotsV; rw [decide_eq_false h4]; rfl
    rw [this]; rfl
theorem idxS0 (a b c d e f : Int) (w : World) : (Instr.index 24 (.agg #[.int .i64 a, .int .i64 b, .int .i64 c, .int .i64 d, .int .i64 e, .int .i64 f]) (.int .i64 0)).run Try.prog w = .ok (.agg #[.int .i64 a, .int .i64 b]) w := by
  simp [Instr.index, run_underlying (Try.underlying24), asIntOf, go_sem]
theorem idxS1 (a b c d e f : Int) (w : World) : (Instr.index 24 (.agg #[.int .i64 a, .int .i64 b, .int .i64 c, .int .i64 d, .int .i64 e, .int .i64 f]) (.int .i64 1)).run Try.prog w = .ok (.agg #[.int .i64 c, .int .i64 d]) w := by
  simp [Instr.index, run_underlying (Try.underlying24), asIntOf, go_sem]
theorem idxS2 (a b c d e f : Int) (w : World) : (Instr.index 24 (.agg #[.int .i64 a, .int .i64 b, .int .i64 c, .int .i64 d, .int .i64 e, .int .i64 f]) (.int .i64 2)).run Try.prog w = .ok (.agg #[.int .i64 e, .int .i64 f]) w := by
  simp [Instr.index, run_underlying (Try.underlying24), asIntOf, go_sem]
/-- Is what measures of a kind hold within its limits? -/
def measK (b : Ck) (k : Nat) : Bool := spanV (b.lo k) (b.hi k) 1 9 3 && inV (b.err k) 0 9
theorem measV_of {b : Ck} (h : ∀ j, j < 3 → measK b j = true) : measV b = true := by
  have h0 : (spanV b.l0 b.u0 1 9 3 && inV b.e0 0 9) = true := h 0 (by omega)
  have h1 : (spanV b.l1 b.u1 1 9 3 && inV b.e1 0 9) = true := h 1 (by omega)
  have h2 : (spanV b.l2 b.u2 1 9 3 && inV b.e2 0 9) = true := h 2 (by omega)
  unfold measV; rw [h0, h1, h2]; rfl
theorem measV_not {b : Ck} {j : Nat} (hj : j < 3) (h : measK b j = false) : measV b = false := by
  unfold measV
  rcases (show j = 0 ∨ j = 1 ∨ j = 2 by omega) with rfl | rfl | rfl
  · rw [show (spanV b.l0 b.u0 1 9 3 && inV b.e0 0 9) = false from h]; rfl
  · rw [show (spanV b.l1 b.u1 1 9 3 && inV b.e1 0 9) = false from h]; simp
  · rw [show (spanV b.l2 b.u2 1 9 3 && inV b.e2 0 9) = false from h]; simp
set_option maxRecDepth 100000 in
set_option maxHeartbeats 4000000 in
theorem validMeasures_any (b : Ck) (p : Option Addr) (c : Nat) (q : Bool) (w : World) (hq : measV b = q) : Calls Try.prog 87 #[ckV b p c] w fun e w' => e = .returned (.bool q) ∧ ∃ x, w' = ext w x := by
  have HQ := Lib.hid hq
  clear hq
  unfold ckV
  go_enter Try.func87, Try.ntmps87
  go_upto_region 2 with fail
  generalize hW : w.alloc _ = W
  have HB := Lib.hid (show Below w.heap.size w W by rw [← hW]; (exact belA))
  have KB := Lib.hid (show Blk W w.heap.size 28 (ckcs b p c) by rw [← hW]; exact Blk.new rfl)
  clear hW
  go_loopw [3, 4, 7] (fun _ _ i wr => ∃ k : Nat, k ≤ 3 ∧ i = .int .i64 k ∧ Hid (∀ j, j < k → measK b j = true) ∧ Hid (Below w.heap.size w wr) ∧ Hid (Blk wr w.heap.size 28 (ckcs b p c))) (fun _ _ i _ => 3 - (intOf i).toNat)
  case atStart => exact ⟨0, by omega, rfl, Lib.hid (fun j hj => by omega), HB, KB⟩
  case round =>
    clear HB KB
    obtain ⟨k, hk, rfl, HK, HB, KB⟩ := hrel
    have kb := KB.out
    unfold ckcs at kb
    have lb := kb.lt
    have e0 := kb.cell 6
    have e1 := kb.cell 7
    have e2 := kb.cell 8
    simp only [List.size_toArray, List.length_cons, List.length_nil, Nat.reduceAdd, Nat.reduceLT, getElem?_pos, List.getElem_toArray, List.getElem_cons_zero, List.getElem_cons_succ] at e0 e1 e2
    clear kb
    rcases (show k = 0 ∨ k = 1 ∨ k = 2 ∨ k = 3 by omega) with rfl | rfl | rfl | rfl
    · obtain ⟨v1, hv1⟩ : ∃ v, spanV b.l0 b.u0 1 9 3 = v := ⟨_, rfl⟩
      obtain ⟨v2, hv2⟩ : ∃ v, inV b.e0 0 9 = v := ⟨_, rfl⟩
      have H1 := Lib.hid hv1
      have H2 := Lib.hid hv2
      have HM := Lib.hid (show measK b 0 = (v1 && v2) by show (spanV b.l0 b.u0 1 9 3 && inV b.e0 0 9) = _; rw [hv1, hv2])
      have hx := idxS0 b.l0 b.u0 b.l1 b.u1 b.l2 b.u2
      clear hv1 hv2
      cases v1
      · go_wp2_with (go_at_call 108; refine (bSpan_eq _ _ _ _ _ _ _ (by decide) (by decide) H1.out).mono ?_; rintro e w' ⟨rfl, y, rfl⟩)
        go_ret
        exact ⟨by rw [← HQ.out, measV_not (j := 0) (by omega) HM.out]; rfl, ext_of (HB.out.trans (Below.mono belA HB.out.size))⟩
      · cases v2
        · go_wp2_with (first
            | (go_at_call 108; refine (bSpan_eq _ _ _ _ _ _ _ (by decide) (by decide) H1.out).mono ?_; rintro e w' ⟨rfl, y, rfl⟩)
            | (go_at_call 89; refine (bWithin_eq _ _ _ _ _ H2.out).mono ?_; rintro e w' ⟨rfl, rfl⟩))
          go_ret
          exact ⟨by rw [← HQ.out, measV_not (j := 0) (by omega) HM.out]; rfl, ext_of (HB.out.trans (Below.mono belA HB.out.size))⟩
        · go_wp2_with (first
            | (go_at_call 108; refine (bSpan_eq _ _ _ _ _ _ _ (by decide) (by decide) H1.out).mono ?_; rintro e w' ⟨rfl, y, rfl⟩)
            | (go_at_call 89; refine (bWithin_eq _ _ _ _ _ H2.out).mono ?_; rintro e w' ⟨rfl, rfl⟩))
          generalize hZ : ext _ _ = Z
          have hb : Below wr.heap.size wr Z := by rw [← hZ]; (exact belA)
          have HB2 := Lib.hid (HB.out.trans (hb.mono HB.out.size))
          have KB2 := Lib.hid (KB.out.bel hb)
          clear hZ hb
          go_roundw
          case rel => exact ⟨1, by omega, by go_num, Lib.hid (fun j hj => by rcases Nat.lt_succ_iff_lt_or_eq.1 hj with h | h; exact HK.out j h; subst h; exact HM.out), HB2, KB2⟩
          case measure => simp [intOf]
    · obtain ⟨v1, hv1⟩ : ∃ v, spanV b.l1 b.u1 1 9 3 = v := ⟨_, rfl⟩
      obtain ⟨v2, hv2⟩ : ∃ v, inV b.e1 0 9 = v := ⟨_, rfl⟩
      have H1 := Lib.hid hv1
      have H2 := Lib.hid hv2
      have HM := Lib.hid (show measK b 1 = (v1 && v2) by show (spanV b.l1 b.u1 1 9 3 && inV b.e1 0 9) = _; rw [hv1, hv2])
      have hx := idxS1 b.l0 b.u0 b.l1 b.u1 b.l2 b.u2
      clear hv1 hv2
      cases v1
      · go_wp2_with (go_at_call 108; refine (bSpan_eq _ _ _ _ _ _ _ (by decide) (by decide) H1.out).mono ?_; rintro e w' ⟨rfl, y, rfl⟩)
        go_ret
        exact ⟨by rw [← HQ.out, measV_not (j := 1) (by omega) HM.out]; rfl, ext_of (HB.out.trans (Below.mono belA HB.out.size))⟩
      · cases v2
        · go_wp2_with (first
            | (go_at_call 108; refine (bSpan_eq _ _ _ _ _ _ _ (by decide) (by decide) H1.out).mono ?_; rintro e w' ⟨rfl, y, rfl⟩)
            | (go_at_call 89; refine (bWithin_eq _ _ _ _ _ H2.out).mono ?_; rintro e w' ⟨rfl, rfl⟩))
          go_ret
          exact ⟨by rw [← HQ.out, measV_not (j := 1) (by omega) HM.out]; rfl, ext_of (HB.out.trans (Below.mono belA HB.out.size))⟩
        · go_wp2_with (first
            | (go_at_call 108; refine (bSpan_eq _ _ _ _ _ _ _ (by decide) (by decide) H1.out).mono ?_; rintro e w' ⟨rfl, y, rfl⟩)
            | (go_at_call 89; refine (bWithin_eq _ _ _ _ _ H2.out).mono ?_; rintro e w' ⟨rfl, rfl⟩))
          generalize hZ : ext _ _ = Z
          have hb : Below wr.heap.size wr Z := by rw [← hZ]; (exact belA)
          have HB2 := Lib.hid (HB.out.trans (hb.mono HB.out.size))
          have KB2 := Lib.hid (KB.out.bel hb)
          clear hZ hb
          go_roundw
          case rel => exact ⟨2, by omega, by go_num, Lib.hid (fun j hj => by rcases Nat.lt_succ_iff_lt_or_eq.1 hj with h | h; exact HK.out j h; subst h; exact HM.out), HB2, KB2⟩
          case measure => simp [intOf]
    · obtain ⟨v1, hv1⟩ : ∃ v, spanV b.l2 b.u2 1 9 3 = v := ⟨_, rfl⟩
      obtain ⟨v2, hv2⟩ : ∃ v, inV b.e2 0 9 = v := ⟨_, rfl⟩
      have H1 := Lib.hid hv1
      have H2 := Lib.hid hv2
      have HM := Lib.hid (show measK b 2 = (v1 && v2) by show (spanV b.l2 b.u2 1 9 3 && inV b.e2 0 9) = _; rw [hv1, hv2])
      have hx := idxS2 b.l0 b.u0 b.l1 b.u1 b.l2 b.u2
      clear hv1 hv2
      cases v1
      · go_wp2_with (go_at_call 108; refine (bSpan_eq _ _ _ _ _ _ _ (by decide) (by decide) H1.out).mono ?_; rintro e w' ⟨rfl, y, rfl⟩)
        go_ret
        exact ⟨by rw [← HQ.out, measV_not (j := 2) (by omega) HM.out]; rfl, ext_of (HB.out.trans (Below.mono belA HB.out.size))⟩
      · cases v2
        · go_wp2_with (first
            | (go_at_call 108; refine (bSpan_eq _ _ _ _ _ _ _ (by decide) (by decide) H1.out).mono ?_; rintro e w' ⟨rfl, y, rfl⟩)
            | (go_at_call 89; refine (bWithin_eq _ _ _ _ _ H2.out).mono ?_; rintro e w' ⟨rfl, rfl⟩))
          go_ret
          exact ⟨by rw [← HQ.out, measV_not (j := 2) (by omega) HM.out]; rfl, ext_of (HB.out.trans (Below.mono belA HB.out.size))⟩
        · go_wp2_with (first
            | (go_at_call 108; refine (bSpan_eq _ _ _ _ _ _ _ (by decide) (by decide) H1.out).mono ?_; rintro e w' ⟨rfl, y, rfl⟩)
            | (go_at_call 89; refine (bWithin_eq _ _ _ _ _ H2.out).mono ?_; rintro e w' ⟨rfl, rfl⟩))
          generalize hZ : ext _ _ = Z
          have hb : Below wr.heap.size wr Z := by rw [← hZ]; (exact belA)
          have HB2 := Lib.hid (HB.out.trans (hb.mono HB.out.size))
          have KB2 := Lib.hid (KB.out.bel hb)
          clear hZ hb
          go_roundw
          case rel => exact ⟨3, by omega, by go_num, Lib.hid (fun j hj => by rcases Nat.lt_succ_iff_lt_or_eq.1 hj with h | h; exact HK.out j h; subst h; exact HM.out), HB2, KB2⟩
          case measure => simp [intOf]
    · go_wp2_with fail
      go_ret
      exact ⟨by rw [← HQ.out, measV_of HK.out]; rfl, ext_of HB.out⟩
set_option maxRecDepth 100000 in
set_option maxHeartbeats 4000000 in
theorem bvalidBook_any (b : Ck) (p : Option Addr) (c : Nat) (q : Bool) (w : World) (hk : CB w b p) (hq : cellV b = q) : Calls Try.prog 60 #[ckV b p c] w fun e w' => e = .returned (.bool q) ∧ ∃ x, w' = ext w x := by
  obtain ⟨q1, h1⟩ : ∃ q, measV b = q := ⟨_, rfl⟩
  obtain ⟨q2, h2⟩ : ∃ q, lotsV b.ls = q := ⟨_, rfl⟩
  have HQ := Lib.hid (show (q1 && q2) = q by rw [← hq, ← h1, ← h2]; rfl)
  have H1 := Lib.hid h1
  have H2 := Lib.hid h2
  have HK := Lib.hid hk
  clear h1 h2 hk hq
  unfold ckV
  cases q1
  · go_enter Try.func60, Try.ntmps60
    go_wp2_with (go_at_call 87; refine (validMeasures_any b p c _ _ H1.out).mono ?_; rintro e w' ⟨rfl, y, rfl⟩)
    go_ret
    exact ⟨by rw [← HQ.out]; rfl, by (exact ext_of (by (exact belA)))⟩
  · go_enter Try.func60, Try.ntmps60
    go_wp2_with (first
      | (go_at_call 87; refine (validMeasures_any b p c _ _ H1.out).mono ?_; rintro e w' ⟨rfl, y, rfl⟩)
      | (go_at_call 88; refine (validLots_any p c b.ls _ _ (HK.out.ls.below belA) H2.out).mono ?_; rintro e w' ⟨rfl, y, rfl⟩))
    go_ret
    exact ⟨by rw [← HQ.out]; rfl, by (exact ext_of (by (exact belA)))⟩
set_option maxRecDepth 100000 in
set_option maxHeartbeats 4000000 in
theorem bCheck_any (b : Ck) (p : Option Addr) (c : Nat) (q : Bool) (w : World) (hk : CB w b p) (hq : cellV b = q) : Calls Try.prog 16 #[ckV b p c] w fun e w' => e = .returned (.int .i64 (if q then 0 else 50)) ∧ ∃ x, w' = ext w x := by
  have HQ := Lib.hid hq
  have HK := Lib.hid hk
  clear hq hk
  unfold ckV
  cases q
  · go_enter Try.func16, Try.ntmps16
    go_wp2_with (go_at_call 60; refine (bvalidBook_any b p c _ _ (HK.out.bel belA) HQ.out).mono ?_; rintro e w' ⟨rfl, y, rfl⟩)
    go_ret
    exact ⟨rfl, by (exact ext_of (by (exact belA)))⟩
  · go_enter Try.func16, Try.ntmps16
    go_wp2_with (go_at_call 60; refine (bvalidBook_any b p c _ _ (HK.out.bel belA) HQ.out).mono ?_; rintro e w' ⟨rfl, y, rfl⟩)
    go_ret
    exact ⟨rfl, by (exact ext_of (by (exact belA)))⟩
end Go.Proofs.Ytpiadbdkiibdbaa

