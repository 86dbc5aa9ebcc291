/- Contracts of package bulk: the fewest counts of a lot without which it can be true. Written by gen_b5s.py. -/
import Derived.Test.YtpiadbdkiibdbaaQPw
import Derived.BigQuiet
set_option linter.unusedSimpArgs false
set_option linter.unusedVariables false
namespace Go.Proofs.Ytpiadbdkiibdbaa
open Go Go.RowKit Go.Shelf
attribute [local go_sem] Oper.semAt_some frozen_alloc_lt
/-- The kinds of the first of the fewest counts without which a lot can be true. -/
def fkL (b : Ck) (m : Ms) (t : Lt) : List Int := if canB b m t then [] else if canB b m (t.no 0) then [0] else if canB b m (t.no 1) then [1] else if canB b m (t.no 2) then [2] else [0, 1]
theorem listAt_nilB {w : World} {g : Nat} (h : g < w.heap.size) : ListAt w.heap.size w (.slice (some ⟨g, 0, none⟩) 0 0) [] :=
  ⟨some ⟨g, 0, none⟩, 0, rfl, fun i x hi => by simp at hi, by simp, (fun a ha => by cases ha; exact ⟨⟨_, _, rfl⟩, h⟩), (fun h => by cases h), Nat.le_refl _⟩
theorem listAt_oneB {w : World} {g : Nat} {t : TypeId} {x : Int} (h : Blk w g t #[.int .i64 x]) : ListAt w.heap.size w (.slice (some ⟨g, 0, none⟩) 1 1) [x] :=
  ⟨some ⟨g, 0, none⟩, 1, rfl, fun i y hi => by
    rcases i with _ | i
    · simp at hi; subst hi; exact ⟨g, 0, rfl, h.lt, Blk.c1 h⟩
    · simp at hi, by simp, (fun a ha => by cases ha; exact ⟨⟨_, _, rfl⟩, h.lt⟩), (fun h => by cases h), Nat.le_refl _⟩
theorem listAt_twoB {w : World} {g : Nat} {t : TypeId} {x y : Int} (h : Blk w g t #[.int .i64 x, .int .i64 y]) : ListAt w.heap.size w (.slice (some ⟨g, 0, none⟩) 2 2) [x, y] := by
  have h0 := h.cell 0
  have h1 := h.cell 1
  exact ⟨some ⟨g, 0, none⟩, 2, rfl, IntsAt.two (t := t) h0 h1 h.lt, by simp, (fun a ha => by cases ha; exact ⟨⟨_, _, rfl⟩, h.lt⟩), (fun h => by cases h), Nat.le_refl _⟩
theorem Lt.no_ok {b : Ck} {t : Lt} (h : LtOK b t) (k : Nat) : LtOK b (t.no k) := by
  obtain ⟨h1, h2, h3⟩ := h
  have a0 := h2 0
  have a1 := h2 1
  have a2 := h2 2
  simp only [Lt.told] at a0 a1 a2
  refine ⟨h1, fun i => ?_, by unfold Lt.no; split <;> exact h3⟩
  unfold Lt.no
  rcases i with _ | _ | i <;> split <;> simp only [Lt.told] <;> omega
set_option maxRecDepth 100000 in
set_option maxHeartbeats 4000000 in
theorem falseKinds_any (b : Ck) (p : Option Addr) (c : Nat) (m : Ms) (t : Lt) (w : World) (hm : MsOK m) (ht : LtOK b t) :
    Calls Try.prog 120 #[stV b p c m, ltV t] w fun e w' => ∃ v, e = .returned v ∧ ListAt w'.heap.size w' v (fkL b m t) ∧ (∀ a n k, v = .slice (some a) n k → w.heap.size ≤ a.block) ∧ ∃ x, w' = ext w x := by
  have HM := Lib.hid hm
  have HT := Lib.hid ht
  clear hm ht
  unfold stV ltV
  go_enter Try.func120, Try.ntmps120
  go_upto_region 2 with fail
  generalize hW : World.alloc _ _ = W
  have hB : Below w.heap.size w W := by rw [← hW]; (exact belA)
  have k1 : Blk W w.heap.size 113 (stcs b p c m) := by rw [← hW]; exact (((((Blk.new rfl).alloc _).alloc _).alloc _).alloc _).alloc _
  have k2 : Blk W (w.heap.size + 1) 62 (ltcs t) := by rw [← hW]; exact ((((Blk.new (by simp)).alloc _).alloc _).alloc _).alloc _
  have k4 : Blk W (w.heap.size + 1 + 1 + 1) 3 #[.int .i64 0] := by rw [← hW]; exact ((Blk.new (by simp)).alloc _).alloc _
  have k5 : Blk W (w.heap.size + 1 + 1 + 1 + 1) 3 #[.int .i64 1] := by rw [← hW]; exact (Blk.new (by simp)).alloc _
  have k6 : Blk W (w.heap.size + 1 + 1 + 1 + 1 + 1) 3 #[.int .i64 2] := by rw [← hW]; exact Blk.new (by simp)
  have HB := Lib.hid hB
  have K1 := Lib.hid k1
  have K2 := Lib.hid k2
  have K4 := Lib.hid k4
  have K5 := Lib.hid k5
  have K6 := Lib.hid k6
  clear hW hB k1 k2 k4 k5 k6
  have og : w.heap.size + 1 + 1 < w.heap.size + 1 + 1 + 1 + 1 + 1 := by omega
  have z3 : w.heap.size ≤ w.heap.size + 1 + 1 := by omega
  have z4 : w.heap.size ≤ w.heap.size + 1 + 1 + 1 := by omega
  have z5 : w.heap.size ≤ w.heap.size + 1 + 1 + 1 + 1 := by omega
  have z6 : w.heap.size ≤ w.heap.size + 1 + 1 + 1 + 1 + 1 := by omega
  generalize w.heap.size + 1 + 1 + 1 + 1 + 1 = g6 at *
  generalize w.heap.size + 1 + 1 + 1 + 1 = g5 at *
  generalize w.heap.size + 1 + 1 + 1 = g4 at *
  generalize w.heap.size + 1 + 1 = g3 at *
  generalize w.heap.size + 1 = g2 at *
  go_loopw [6, 12] (fun _ i wr => ∃ k : Nat, k ≤ 4 ∧ i = .int .i64 k ∧ Hid (Below W.heap.size W wr) ∧ Hid ((0 < k → canB b m t = false) ∧ (1 < k → canB b m (t.no 0) = false) ∧ (2 < k → canB b m (t.no 1) = false) ∧ (3 < k → canB b m (t.no 2) = false))) (fun _ i _ => 4 - (intOf i).toNat)
  case atStart => exact ⟨0, by omega, rfl, Lib.hid (Below.refl _ _), Lib.hid ⟨by omega, by omega, by omega, by omega⟩⟩
  case round =>
    obtain ⟨k, hk, rfl, HW, HK⟩ := hrel
    have hg3W : g3 < W.heap.size := by have := K6.out.lt; omega
    have i1 : ∀ (a b c d : Value) (w : World), (Instr.index 146 (.agg #[a, b, c, d]) (.int .i64 1)).run Try.prog w = .ok b w := fun a b c d w => by simp [Instr.index, run_underlying (Try.underlying146), asIntOf, go_sem]
    have i2 : ∀ (a b c d : Value) (w : World), (Instr.index 146 (.agg #[a, b, c, d]) (.int .i64 2)).run Try.prog w = .ok c w := fun a b c d w => by simp [Instr.index, run_underlying (Try.underlying146), asIntOf, go_sem]
    have i3 : ∀ (a b c d : Value) (w : World), (Instr.index 146 (.agg #[a, b, c, d]) (.int .i64 3)).run Try.prog w = .ok d w := fun a b c d w => by simp [Instr.index, run_underlying (Try.underlying146), asIntOf, go_sem]
    have i0 : ∀ (a b c d : Value) (w : World), (Instr.index 146 (.agg #[a, b, c, d]) (.int .i64 0)).run Try.prog w = .ok a w := fun a b c d w => by simp [Instr.index, run_underlying (Try.underlying146), asIntOf, go_sem]
    rcases (show k = 0 ∨ k = 1 ∨ k = 2 ∨ k = 3 ∨ k = 4 by omega) with rfl | rfl | rfl | rfl | rfl
    · have b1 := K1.out.bel HW.out
      have b2 := K2.out.bel HW.out
      have hzW := HW.out.size
      unfold stcs at b1
      unfold ltcs at b2
      obtain ⟨s0, s1, s2, s3, s4, s5, s6, s7, s8, s9, s10, s11, s12⟩ := Blk.c13 b1
      obtain ⟨t0, t1, t2, t3, t4⟩ := Blk.c5 b2
      have l1 := b1.lt
      have l2 := b2.lt
      clear b1 b2
      obtain ⟨v, hv⟩ : ∃ v, canB b m t = v := ⟨_, rfl⟩
      have HV := Lib.hid hv
      have HO := Lib.hid (show LtOK b t from HT.out)
      clear hv
      go_wp2_with fail
      refine wp_region_ext (by kernel_rfl) (by kernel_rfl) ?_
      repeat (go_big_quiet_step (first | (go_at_call 130; exact quiet_ext (without_nil t _ _ _)) | (go_at_call 126; exact quiet_ext (canBe_any b p c m t v _ HM.out HO.out HV.out))))
      (refine wpQuiet_nil ?_; rintro _ ⟨x, rfl⟩)
      have HBX := Lib.hid (show Below w.heap.size w (ext wr x) from HB.out.trans ((HW.out.trans ((below_ext wr x).mono hzW)).mono HB.out.size))
      have HWX := Lib.hid (show Below W.heap.size W (ext wr x) from HW.out.trans ((below_ext wr x).mono hzW))
      generalize ext wr x = X at *
      cases v
      · go_wp2_with fail
        go_roundw
        case rel => exact ⟨1, by omega, by go_num, HWX, Lib.hid ⟨fun _ => HV.out, fun h => by omega, fun h => by omega, fun h => by omega⟩⟩
        case measure => simp [intOf]
      · go_wp2_with fail
        go_ret
        refine ⟨_, rfl, ?_, (fun a n k e => by cases e; first | exact z3 | exact z4 | exact z5 | exact z6), ext_of HBX.out⟩
        rw [show fkL b m t = [] by unfold fkL; simp [HV.out]]
        exact listAt_nilB (by have := HWX.out.size; omega)
    · have b1 := K1.out.bel HW.out
      have b2 := K2.out.bel HW.out
      have hzW := HW.out.size
      have J1 := Lib.hid (K4.out.bel HW.out)
      unfold stcs at b1
      unfold ltcs at b2
      obtain ⟨s0, s1, s2, s3, s4, s5, s6, s7, s8, s9, s10, s11, s12⟩ := Blk.c13 b1
      obtain ⟨t0, t1, t2, t3, t4⟩ := Blk.c5 b2
      have l1 := b1.lt
      have l2 := b2.lt
      clear b1 b2
      obtain ⟨v, hv⟩ : ∃ v, canB b m (t.no 0) = v := ⟨_, rfl⟩
      have HV := Lib.hid hv
      have HO := Lib.hid (show LtOK b (t.no 0) from Lt.no_ok HT.out 0)
      clear hv
      go_wp2_with fail
      refine wp_region_ext (by kernel_rfl) (by kernel_rfl) ?_
      repeat (go_big_quiet_step (first | (go_at_call 130; exact quiet_ext (without_0 t g4 0 1 _ ((J1.out.bel belA).lt) (Blk.c1 (J1.out.bel belA)))) | (go_at_call 126; exact quiet_ext (canBe_any b p c m (t.no 0) v _ HM.out HO.out HV.out))))
      (refine wpQuiet_nil ?_; rintro _ ⟨x, rfl⟩)
      have HBX := Lib.hid (show Below w.heap.size w (ext wr x) from HB.out.trans ((HW.out.trans ((below_ext wr x).mono hzW)).mono HB.out.size))
      have HWX := Lib.hid (show Below W.heap.size W (ext wr x) from HW.out.trans ((below_ext wr x).mono hzW))
      generalize ext wr x = X at *
      cases v
      · go_wp2_with fail
        go_roundw
        case rel => exact ⟨2, by omega, by go_num, HWX, Lib.hid ⟨fun _ => HK.out.1 (by omega), fun _ => HV.out, fun h => by omega, fun h => by omega⟩⟩
        case measure => simp [intOf]
      · go_wp2_with fail
        go_ret
        refine ⟨_, rfl, ?_, (fun a n k e => by cases e; first | exact z3 | exact z4 | exact z5 | exact z6), ext_of HBX.out⟩
        rw [show fkL b m t = [0] by unfold fkL; simp [HK.out.1 (by omega), HV.out]]
        exact listAt_oneB (K4.out.bel HWX.out)
    · have b1 := K1.out.bel HW.out
      have b2 := K2.out.bel HW.out
      have hzW := HW.out.size
      have J2 := Lib.hid (K5.out.bel HW.out)
      unfold stcs at b1
      unfold ltcs at b2
      obtain ⟨s0, s1, s2, s3, s4, s5, s6, s7, s8, s9, s10, s11, s12⟩ := Blk.c13 b1
      obtain ⟨t0, t1, t2, t3, t4⟩ := Blk.c5 b2
      have l1 := b1.lt
      have l2 := b2.lt
      clear b1 b2
      obtain ⟨v, hv⟩ : ∃ v, canB b m (t.no 1) = v := ⟨_, rfl⟩
      have HV := Lib.hid hv
      have HO := Lib.hid (show LtOK b (t.no 1) from Lt.no_ok HT.out 1)
      clear hv
      go_wp2_with fail
      refine wp_region_ext (by kernel_rfl) (by kernel_rfl) ?_
      repeat (go_big_quiet_step (first | (go_at_call 130; exact quiet_ext (without_1 t g5 0 1 _ ((J2.out.bel belA).lt) (Blk.c1 (J2.out.bel belA)))) | (go_at_call 126; exact quiet_ext (canBe_any b p c m (t.no 1) v _ HM.out HO.out HV.out))))
      (refine wpQuiet_nil ?_; rintro _ ⟨x, rfl⟩)
      have HBX := Lib.hid (show Below w.heap.size w (ext wr x) from HB.out.trans ((HW.out.trans ((below_ext wr x).mono hzW)).mono HB.out.size))
      have HWX := Lib.hid (show Below W.heap.size W (ext wr x) from HW.out.trans ((below_ext wr x).mono hzW))
      generalize ext wr x = X at *
      cases v
      · go_wp2_with fail
        go_roundw
        case rel => exact ⟨3, by omega, by go_num, HWX, Lib.hid ⟨fun _ => HK.out.1 (by omega), fun _ => HK.out.2.1 (by omega), fun _ => HV.out, fun h => by omega⟩⟩
        case measure => simp [intOf]
      · go_wp2_with fail
        go_ret
        refine ⟨_, rfl, ?_, (fun a n k e => by cases e; first | exact z3 | exact z4 | exact z5 | exact z6), ext_of HBX.out⟩
        rw [show fkL b m t = [1] by unfold fkL; simp [HK.out.1 (by omega), HK.out.2.1 (by omega), HV.out]]
        exact listAt_oneB (K5.out.bel HWX.out)
    · have b1 := K1.out.bel HW.out
      have b2 := K2.out.bel HW.out
      have hzW := HW.out.size
      have J3 := Lib.hid (K6.out.bel HW.out)
      unfold stcs at b1
      unfold ltcs at b2
      obtain ⟨s0, s1, s2, s3, s4, s5, s6, s7, s8, s9, s10, s11, s12⟩ := Blk.c13 b1
      obtain ⟨t0, t1, t2, t3, t4⟩ := Blk.c5 b2
      have l1 := b1.lt
      have l2 := b2.lt
      clear b1 b2
      obtain ⟨v, hv⟩ : ∃ v, canB b m (t.no 2) = v := ⟨_, rfl⟩
      have HV := Lib.hid hv
      have HO := Lib.hid (show LtOK b (t.no 2) from Lt.no_ok HT.out 2)
      clear hv
      go_wp2_with fail
      refine wp_region_ext (by kernel_rfl) (by kernel_rfl) ?_
      repeat (go_big_quiet_step (first | (go_at_call 130; exact quiet_ext (without_2 t g6 0 1 _ ((J3.out.bel belA).lt) (Blk.c1 (J3.out.bel belA)))) | (go_at_call 126; exact quiet_ext (canBe_any b p c m (t.no 2) v _ HM.out HO.out HV.out))))
      (refine wpQuiet_nil ?_; rintro _ ⟨x, rfl⟩)
      have HBX := Lib.hid (show Below w.heap.size w (ext wr x) from HB.out.trans ((HW.out.trans ((below_ext wr x).mono hzW)).mono HB.out.size))
      have HWX := Lib.hid (show Below W.heap.size W (ext wr x) from HW.out.trans ((below_ext wr x).mono hzW))
      generalize ext wr x = X at *
      cases v
      · go_wp2_with fail
        go_roundw
        case rel => exact ⟨4, by omega, by go_num, HWX, Lib.hid ⟨fun _ => HK.out.1 (by omega), fun _ => HK.out.2.1 (by omega), fun _ => HK.out.2.2.1 (by omega), fun _ => HV.out⟩⟩
        case measure => simp [intOf]
      · go_wp2_with fail
        go_ret
        refine ⟨_, rfl, ?_, (fun a n k e => by cases e; first | exact z3 | exact z4 | exact z5 | exact z6), ext_of HBX.out⟩
        rw [show fkL b m t = [2] by unfold fkL; simp [HK.out.1 (by omega), HK.out.2.1 (by omega), HK.out.2.2.1 (by omega), HV.out]]
        exact listAt_oneB (K6.out.bel HWX.out)
    · go_wp2_with fail
      go_ret
      refine ⟨_, rfl, ?_, (fun a n k e => by cases e; have := HB.out.size; have := HW.out.size; dsimp only; omega), ext_of ((HB.out.trans (HW.out.mono HB.out.size)).alloc (by have := HB.out.size; have := HW.out.size; omega) _)⟩
      rw [show fkL b m t = [0, 1] by unfold fkL; simp [HK.out.1 (by omega), HK.out.2.1 (by omega), HK.out.2.2.1 (by omega), HK.out.2.2.2 (by omega)]]
      exact listAt_twoB (t := 3) (Blk.new (by simp))
end Go.Proofs.Ytpiadbdkiibdbaa

