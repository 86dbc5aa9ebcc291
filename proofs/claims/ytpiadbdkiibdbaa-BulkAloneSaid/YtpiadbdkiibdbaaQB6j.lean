/- The law BulkAlone. Written by gen_b6j.py. -/
import Derived.Test.YtpiadbdkiibdbaaQB6i
set_option linter.unusedSimpArgs false
set_option linter.unusedVariables false
namespace Go.Proofs.Ytpiadbdkiibdbaa
open Go Go.RowKit Go.Shelf
/-- What the walk of BulkAlone keeps from its loop on. -/
structure LF (w W : World) (b : Ck) (p : Option Addr) (c g0 : Nat) (s0 s1 : Int) (gF gC : Nat) (fl fh cl ch : Int) : Prop where
  bel : Below w.heap.size w W
  kb : Blk W w.heap.size 28 (ckcs b p c)
  k0 : Blk W g0 23 #[.int .i64 s0, .int .i64 s1]
  kF : Blk W gF 23 #[.int .i64 fl, .int .i64 fh]
  kC : Blk W gC 23 #[.int .i64 cl, .int .i64 ch]
theorem LF.step {w W W' : World} {b : Ck} {p : Option Addr} {c g0 : Nat} {s0 s1 : Int} {gF gC : Nat} {fl fh cl ch : Int} (h : LF w W b p c g0 s0 s1 gF gC fl fh cl ch) (hb : Below W.heap.size W W') : LF w W' b p c g0 s0 s1 gF gC fl fh cl ch := ⟨h.bel.trans (hb.mono h.bel.size), h.kb.bel hb, h.k0.bel hb, h.kF.bel hb, h.kC.bel hb⟩
/-- What the drawn region of its loop leaves. -/
def sumR (fl fh f0 f1 cl ch e0 e1 : Int) (i : Nat) (v : Value) (_ : World) : Prop :=
  match i with
  | 0 => v = .agg #[.int .i64 fl, .int .i64 fh]
  | 1 => v = .agg #[.int .i64 f0, .int .i64 f1]
  | 2 => v = .agg #[.int .i64 (fl + f0), .int .i64 (fh + f1)]
  | 3 => v = .agg #[.int .i64 cl, .int .i64 ch]
  | 4 => v = .agg #[.int .i64 e0, .int .i64 e1]
  | 5 => v = .agg #[.int .i64 (cl + e0), .int .i64 (ch + e1)]
  | _ => True
theorem sumR_kept (fl fh f0 f1 cl ch e0 e1 : Int) : ∀ i, i < 6 → ∀ (v : Value) (w w' : World), sumR fl fh f0 f1 cl ch e0 e1 i v w → Below w.heap.size w w' → sumR fl fh f0 f1 cl ch e0 e1 i v w' := by
  intro i hi v w w' h _
  match i, hi with
  | 0, _ => exact h
  | 1, _ => exact h
  | 2, _ => exact h
  | 3, _ => exact h
  | 4, _ => exact h
  | 5, _ => exact h
  | k + 6, hk => omega
attribute [local go_sem] Oper.semAt_some frozen_alloc_lt
set_option maxRecDepth 100000 in
set_option maxHeartbeats 2000000 in
theorem BulkAlone_bad (b : Ck) (p : Option Addr) (c : Nat) (n0 n1 : Int) (w : World) (hk : CB w b p) (hv : cellV b = false) :
    Calls Try.prog 7 #[ckV b p c, .agg #[.int .i64 n0, .int .i64 n1]] w fun e w' => e = .returned (.bool true) ∧ ∃ x, w' = ext w x := by
  have HK := Lib.hid hk
  have HV := Lib.hid hv
  clear hk hv
  unfold ckV
  go_enter Try.func7, Try.ntmps7
  go_wp2_with (first
    | (go_at_call 36; refine (bsound_any b p c false _ (HK.out.bel belA) HV.out).mono ?_; rintro e w1 ⟨rfl, y, rfl⟩)
    | (go_at_call 20; refine (salted_any _).mono ?_; rintro e w1 ⟨rfl, y, rfl⟩))
  go_ret
  exact ⟨rfl, by (exact ext_of (by (exact belA)))⟩
set_option maxRecDepth 100000 in
set_option maxHeartbeats 2000000 in
theorem BulkAlone_nil (b : Ck) (p : Option Addr) (c : Nat) (n0 n1 : Int) (w : World) (hk : CB w b p) (hv : cellV b = true) (hn : b.ls.length = 0) :
    Calls Try.prog 7 #[ckV b p c, .agg #[.int .i64 n0, .int .i64 n1]] w fun e w' => e = .returned (.bool true) ∧ ∃ x, w' = ext w x := by
  have HK := Lib.hid hk
  have HN := Lib.hid (show ckV b p c = .agg #[.int .i64 b.l0, .int .i64 b.u0, .int .i64 b.l1, .int .i64 b.u1, .int .i64 b.l2, .int .i64 b.u2, .int .i64 b.e0, .int .i64 b.e1, .int .i64 b.e2, .slice p 0 c] by unfold ckV; rw [hn])
  have HS := Lib.hid (show ∀ W, CB W b p → Calls Try.prog 36 #[.agg #[.int .i64 b.l0, .int .i64 b.u0, .int .i64 b.l1, .int .i64 b.u1, .int .i64 b.l2, .int .i64 b.u2, .int .i64 b.e0, .int .i64 b.e1, .int .i64 b.e2, .slice p 0 c]] W fun e w' => e = .returned (.bool true) ∧ ∃ x, w' = ext W x from fun W h => HN.out ▸ bsound_any b p c true W h hv)
  rw [HN.out]
  clear hk hv hn HN
  go_enter Try.func7, Try.ntmps7
  go_wp2_with (first
    | (go_at_call 36; refine (HS.out _ (HK.out.bel belA)).mono ?_; rintro e w1 ⟨rfl, y, rfl⟩)
    | (go_at_call 20; refine (salted_any _).mono ?_; rintro e w1 ⟨rfl, y, rfl⟩))
  go_ret
  exact ⟨rfl, by (exact ext_of (by (exact belA)))⟩
set_option maxRecDepth 100000 in
set_option maxHeartbeats 16000000 in
theorem BulkAlone_no (b : Ck) (p : Option Addr) (c : Nat) (n0 n1 : Int) (w : World) (hk : CB w b p) (hcap : b.ls.length ≤ c) (hlen : (b.ls.length : Int) ≤ 9223372036854775807) (hv : cellV b = true) (hn : b.ls.length ≠ 0) (hr1 : rightC b = false) :
    Calls Try.prog 7 #[ckV b p c, .agg #[.int .i64 n0, .int .i64 n1]] w fun e w' => e = .returned (.bool true) ∧ ∃ x, w' = ext w x := by
  have h4 : b.ls.length ≤ 4 := (cell_parts hv).2.2.1
  obtain ⟨i, hi⟩ := Int.eq_ofNat_of_zero_le (Int.emod_nonneg n0 (show (b.ls.length : Int) ≠ 0 by omega))
  have hi2 : i < b.ls.length := by
    have := Int.emod_lt_of_pos n0 (show (0 : Int) < (b.ls.length : Int) by omega)
    omega
  obtain ⟨k, hkk⟩ := Int.eq_ofNat_of_zero_le (Int.emod_nonneg n1 (show (3 : Int) ≠ 0 by omega))
  have hk3 : k < 3 := by
    have := Int.emod_lt_of_pos n1 (show (0 : Int) < 3 by omega)
    omega
  obtain ⟨t, ht⟩ := get_some b.ls i hi2
  have hlt := (cell_parts hv).2.2.2 t (List.mem_of_getElem? ht)
  have hvx : cellV (b.one t) = true := one_cell hv hlt
  obtain ⟨r2, hr2⟩ : ∃ r, rightC (b.one t) = r := ⟨_, rfl⟩
  have HTO := Lib.hid (show ∀ W, CB W b p → Calls Try.prog 27 #[.agg #[.int .i64 b.l0, .int .i64 b.u0, .int .i64 b.l1, .int .i64 b.u1, .int .i64 b.l2, .int .i64 b.u2, .int .i64 b.e0, .int .i64 b.e1, .int .i64 b.e2, .slice p b.ls.length c]] W fun e' w' => e' = .returned (.tuple #[.agg #[.int .i64 0, .int .i64 0], .int .i64 52]) ∧ ∃ x, w' = ext W x from fun W h => bTotal_any b p c 52 0 0 W h (by unfold openE; rw [hv, hr1]; rfl) ⟨(fun h => by cases h), (fun _ => ⟨rfl, rfl⟩)⟩)
  have HRB := Lib.hid (show ∀ W, CB W b p → Calls Try.prog 14 #[.agg #[.int .i64 b.l0, .int .i64 b.u0, .int .i64 b.l1, .int .i64 b.u1, .int .i64 b.l2, .int .i64 b.u2, .int .i64 b.e0, .int .i64 b.e1, .int .i64 b.e2, .slice p b.ls.length c]] W fun e' w' => e' = .returned (.tuple #[.bool false, .int .i64 0]) ∧ ∃ x, w' = ext W x from fun W h => bRight_any b p c false 0 W h (by rw [hv, hr1]; rfl) (by unfold rightE; rw [hv]; rfl))
  have HRX := Lib.hid (show ∀ (g : Nat) W, CB W (b.one t) (some ⟨g, 0, none⟩) → Calls Try.prog 14 #[.agg #[.int .i64 b.l0, .int .i64 b.u0, .int .i64 b.l1, .int .i64 b.u1, .int .i64 b.l2, .int .i64 b.u2, .int .i64 b.e0, .int .i64 b.e1, .int .i64 b.e2, .slice (some ⟨g, 0, none⟩) 1 1]] W fun e' w' => e' = .returned (.tuple #[.bool r2, .int .i64 0]) ∧ ∃ x, w' = ext W x from fun g W h => bRight_any (b.one t) _ 1 r2 0 W h (by rw [hvx, hr2]; rfl) (by unfold rightE; rw [hvx]; rfl))
  have HK := Lib.hid hk
  have HV := Lib.hid hv
  have HI := Lib.hid hi
  have HKK := Lib.hid hkk
  have HT := Lib.hid ht
  have HR1 := Lib.hid (show 1 ≤ (b.ls.length : Int) ∧ (b.ls.length : Int) ≤ 1000000 by omega)
  have HL4 := Lib.hid (show (b.ls.length : Int) ≤ 1000 by omega)
  have HKI := Lib.hid (show k < 3 ∧ i < b.ls.length ∧ b.ls.length ≤ 4 by omega)
  have hz0 : ((b.ls.length : Int) == 0) = false := by rw [beq_eq_false_iff_ne]; omega
  clear hk hv hi ht hlt h4 hn hi2 hkk hk3 hvx hcap hlen hr1 hr2
  go_enter Try.func7, Try.ntmps7
  go_upto_region 1 with fail
  generalize hW : World.alloc _ _ = W
  have KB := Lib.hid (show Blk W w.heap.size 28 (ckcs b p c) by rw [← hW]; exact (Blk.new rfl).alloc _)
  have KP := Lib.hid (show Blk W (w.heap.size + 1) 37 #[.int .i64 n0, .int .i64 n1] by rw [← hW]; exact Blk.new (by simp))
  have HBW := Lib.hid (show Below w.heap.size w W by rw [← hW]; (exact belA))
  have HCB := Lib.hid (HK.out.bel HBW.out)
  clear hW
  have hzW := HBW.out.size
  have kb := KB.out
  unfold ckcs at kb
  obtain ⟨d0, d1, d2, d3, d4, d5, d6, d7, d8, d9⟩ := Blk.c10 kb
  have lb := kb.lt
  clear kb
  go_upto_region 3 with (go_at_call 36; refine (bsound_any b p c true _ HCB.out HV.out).mono ?_; rintro e w1 ⟨rfl, y, rfl⟩)
  clear d0 d1 d2 d3 d4 d5 d6 d7 d8 d9 lb
  generalize hW : ext W _ = W1
  have KB1 := Lib.hid (show Blk W1 w.heap.size 28 (ckcs b p c) by rw [← hW]; exact KB.out.ext _)
  have KP1 := Lib.hid (show Blk W1 (w.heap.size + 1) 37 #[.int .i64 n0, .int .i64 n1] by rw [← hW]; exact KP.out.ext _)
  have HB1 := Lib.hid (show Below w.heap.size w W1 by rw [← hW]; exact HBW.out.trans ((below_ext _ _).mono hzW))
  have HC1 := Lib.hid (HK.out.bel HB1.out)
  have hz1 := HB1.out.size
  clear hW KB HCB HBW hzW KP hz0
  have kb := KB1.out
  unfold ckcs at kb
  obtain ⟨d0, d1, d2, d3, d4, d5, d6, d7, d8, d9⟩ := Blk.c10 kb
  have lb := kb.lt
  generalize w.heap.size + 1 = gp at *
  have kp := KP1.out
  obtain ⟨e0, e1⟩ := Blk.c2 kp
  have lp := kp.lt
  clear kb kp
  refine wp_region_ext (by kernel_rfl) (by kernel_rfl) ?_
  repeat (go_big_quiet_step (first
    | (go_at_call 40; exact quiet_ext (Wheel_is _ _ _ _ (by first | exact HR1.out | decide) (by first | exact HI.out | exact HKK.out)))))
  (refine wpQuiet_nil ?_; rintro _ ⟨x, rfl⟩)
  clear d0 d1 d2 d3 d4 d5 d6 d7 d8 d9 lb e0 e1 lp
  generalize hW : ext W1 _ = W2
  have KB2 := Lib.hid (show Blk W2 w.heap.size 28 (ckcs b p c) by rw [← hW]; exact KB1.out.ext _)
  have HB2 := Lib.hid (show Below w.heap.size w W2 by rw [← hW]; exact HB1.out.trans ((below_ext _ _).mono hz1))
  clear hW KB1 HB1 HC1 hz1 KP1
  have hz2 := HB2.out.size
  have HC2 := Lib.hid (HK.out.bel HB2.out)
  have kb := KB2.out
  unfold ckcs at kb
  obtain ⟨d0, d1, d2, d3, d4, d5, d6, d7, d8, d9⟩ := Blk.c10 kb
  have lb := kb.lt
  clear kb
  have HAL := Lib.hid (show ∀ W, CB W b p → Calls Try.prog 41 #[.agg #[.int .i64 b.l0, .int .i64 b.u0, .int .i64 b.l1, .int .i64 b.u1, .int .i64 b.l2, .int .i64 b.u2, .int .i64 b.e0, .int .i64 b.e1, .int .i64 b.e2, .slice p b.ls.length c], .int .i64 i] W fun e w' => ∃ g, e = .returned (.agg #[.int .i64 b.l0, .int .i64 b.u0, .int .i64 b.l1, .int .i64 b.u1, .int .i64 b.l2, .int .i64 b.u2, .int .i64 b.e0, .int .i64 b.e1, .int .i64 b.e2, .slice (some ⟨g, 0, none⟩) 1 1]) ∧ W.heap.size ≤ g ∧ Blk w' g 62 (ltcs t) ∧ ∃ x, w' = ext W x from fun W h => alone_any b p c i t W h HT.out HL4.out)
  go_upto_region 5 with (go_at_call 41; refine (HAL.out _ HC2.out).mono ?_; rintro e w3 ⟨ga, rfl, hga, kl, y, hw⟩; have KL3 := Lib.hid kl; have KB3 := Lib.hid (show Blk w3 w.heap.size 28 (ckcs b p c) by rw [hw]; exact KB2.out.ext y); have HB3 := Lib.hid (show Below w.heap.size w w3 by rw [hw]; exact HB2.out.trans ((below_ext _ y).mono HB2.out.size)); clear hw kl)
  clear d0 d1 d2 d3 d4 d5 d6 d7 d8 d9 lb KB2 HB2 HC2 hz2 HAL hga
  generalize hW : World.alloc w3 _ = W4
  have HF := Lib.hid (show NF w W4 b p c ga w3.heap.size t [] by rw [← hW]; exact ⟨HB3.out.alloc HB3.out.size _, KB3.out.alloc _, KL3.out.alloc _, Blk.new rfl, fun z hz => by simp at hz⟩)
  clear hW KL3 KB3 HB3
  generalize w3.heap.size = gx at *
  have HCB := Lib.hid (fun (W' : World) (h : Below w.heap.size w W') => HK.out.bel h)
  have kb := HF.out.kb
  unfold ckcs at kb
  obtain ⟨d0, d1, d2, d3, d4, d5, d6, d7, d8, d9⟩ := Blk.c10 kb
  have lb := kb.lt
  clear kb
  have kx := HF.out.kx
  obtain ⟨r0, r1, r2, r3, r4, r5, r6, r7, r8, r9⟩ := Blk.c10 kx
  have lx := kx.lt
  clear kx
  go_upto_region 6 with (go_at_call 14; refine (HRB.out _ (HCB.out _ HF.out.bel)).mono ?_; rintro e w5 ⟨rfl, y, hw⟩; have HF := Lib.hid (HF.out.step (show Below W4.heap.size W4 w5 by rw [hw]; (exact belC))); clear hw)
  clear d0 d1 d2 d3 d4 d5 d6 d7 d8 d9 lb r0 r1 r2 r3 r4 r5 r6 r7 r8 r9 lx
  have kb := HF.out.kb
  unfold ckcs at kb
  obtain ⟨d0, d1, d2, d3, d4, d5, d6, d7, d8, d9⟩ := Blk.c10 kb
  have lb := kb.lt
  clear kb
  have kx := HF.out.kx
  obtain ⟨r0, r1, r2, r3, r4, r5, r6, r7, r8, r9⟩ := Blk.c10 kx
  have lx := kx.lt
  clear kx
  go_upto_region 7 with (go_at_call 14; refine (HRX.out ga _ (one_lots HF.out.kl)).mono ?_; rintro e w6 ⟨rfl, y, hw⟩; have HF := Lib.hid (HF.out.step (show Below w5.heap.size w5 w6 by rw [hw]; (exact belC))); clear hw)
  clear d0 d1 d2 d3 d4 d5 d6 d7 d8 d9 lb r0 r1 r2 r3 r4 r5 r6 r7 r8 r9 lx
  have kb := HF.out.kb
  unfold ckcs at kb
  obtain ⟨d0, d1, d2, d3, d4, d5, d6, d7, d8, d9⟩ := Blk.c10 kb
  have lb := kb.lt
  clear kb
  have kx := HF.out.kx
  obtain ⟨r0, r1, r2, r3, r4, r5, r6, r7, r8, r9⟩ := Blk.c10 kx
  have lx := kx.lt
  clear kx
  go_upto_region 11 with (go_at_call 27; refine (HTO.out _ (HCB.out _ HF.out.bel)).mono ?_; rintro e w7 ⟨rfl, y, hw⟩; have HF := Lib.hid (HF.out.step (show Below w6.heap.size w6 w7 by rw [hw]; (exact belC))); clear hw)
  clear d0 d1 d2 d3 d4 d5 d6 d7 d8 d9 lb r0 r1 r2 r3 r4 r5 r6 r7 r8 r9 lx
  generalize hW : World.alloc w7 _ = w8
  have HF := Lib.hid ((HF.out.step (show Below w7.heap.size w7 w8 by rw [← hW]; (exact belC))).box (g := w7.heap.size) (x := 0) (y := 0) (by rw [← hW]; exact Blk.new rfl))
  clear hW
  generalize w7.heap.size = gb0 at *
  go_wp2_with (go_at_call 20; refine (salted_any _).mono ?_; rintro e w9 ⟨rfl, y, rfl⟩)
  go_ret
  exact ⟨rfl, ext_of (HF.out.bel.trans ((below_ext _ _).mono HF.out.bel.size))⟩
set_option maxRecDepth 100000 in
set_option maxHeartbeats 16000000 in
theorem BulkAlone_yes (b : Ck) (p : Option Addr) (c : Nat) (n0 n1 : Int) (w : World) (hk : CB w b p) (hcap : b.ls.length ≤ c) (hlen : (b.ls.length : Int) ≤ 9223372036854775807) (hv : cellV b = true) (hn : b.ls.length ≠ 0) (hr1 : rightC b = true) :
    Calls Try.prog 7 #[ckV b p c, .agg #[.int .i64 n0, .int .i64 n1]] w fun e w' => e = .returned (.bool true) ∧ ∃ x, w' = ext w x := by
  have h4 : b.ls.length ≤ 4 := (cell_parts hv).2.2.1
  obtain ⟨i, hi⟩ := Int.eq_ofNat_of_zero_le (Int.emod_nonneg n0 (show (b.ls.length : Int) ≠ 0 by omega))
  have hi2 : i < b.ls.length := by
    have := Int.emod_lt_of_pos n0 (show (0 : Int) < (b.ls.length : Int) by omega)
    omega
  obtain ⟨k, hkk⟩ := Int.eq_ofNat_of_zero_le (Int.emod_nonneg n1 (show (3 : Int) ≠ 0 by omega))
  have hk3 : k < 3 := by
    have := Int.emod_lt_of_pos n1 (show (0 : Int) < 3 by omega)
    omega
  obtain ⟨t, ht⟩ := get_some b.ls i hi2
  have hlt := (cell_parts hv).2.2.2 t (List.mem_of_getElem? ht)
  have hvx : cellV (b.one t) = true := one_cell hv hlt
  have hr2 : rightC (b.one t) = true := alone_right ht hr1
  have hob : openE b true = 0 := by unfold openE; rw [hv, hr1]; rfl
  have hox : openE (b.one t) true = 0 := by unfold openE; rw [hvx, hr2]; rfl
  have hin : ∀ j : Nat, j < b.ls.length → inV (j : Int) 0 ((b.ls.length : Int) - 1) = true := fun j hj => by simp [inV]; omega
  have hck : ∀ k' : Nat, k' < 3 → ∀ x, Qs.count k = .count x → x < 3 := fun _ _ x e => by cases e; exact hk3
  have hin3 : inV (k : Int) 0 2 = true := by simp [inV]; omega
  obtain ⟨s0, s1, hs⟩ : ∃ lo hi, EndsC b (gSum .fish i 1) lo hi := ⟨_, _, ansV_ends hv (fun _ => qf) (by omega) hr1⟩
  obtain ⟨t0, t1, htt⟩ : ∃ lo hi, EndsC (b.one t) (gSum .fish 0 1) lo hi := ⟨_, _, ansV_ends hvx (fun _ => qf) (by show 0 + 1 ≤ 1; omega) hr2⟩
  obtain ⟨u0, u1, hu⟩ : ∃ lo hi, EndsC b (gSum (.count k) i 1) lo hi := ⟨_, _, ansV_ends hv (hck 0 (by omega)) (by omega) hr1⟩
  obtain ⟨v0, v1, hvv⟩ : ∃ lo hi, EndsC (b.one t) (gSum (.count k) 0 1) lo hi := ⟨_, _, ansV_ends hvx (hck 0 (by omega)) (by show 0 + 1 ≤ 1; omega) hr2⟩
  obtain ⟨p0, p1, hp⟩ : ∃ lo hi, EndsC b (fun m _ => m.at k) lo hi := ⟨_, _, holdV_ends hv hr1⟩
  obtain ⟨q0, q1, hq⟩ : ∃ lo hi, EndsC (b.one t) (fun m _ => m.at k) lo hi := ⟨_, _, holdV_ends hvx hr2⟩
  obtain ⟨c0, c1, hc⟩ : ∃ lo hi, EndsC b (gSum .fish 0 b.ls.length) lo hi := ⟨_, _, ansV_ends hv (fun _ => qf) (by omega) hr1⟩
  obtain ⟨x0, x1, hx⟩ : ∃ lo hi, EndsC b (gSum (.count 2) 0 b.ls.length) lo hi := ⟨_, _, ansV_ends hv (fun k e => by cases e; decide) (by omega) hr1⟩
  have HSP1 := Lib.hid (alone_spans ht hs htt)
  have HSP2 := Lib.hid (alone_spans ht hu hvv)
  have HSP3 := Lib.hid (alone_holds ht hp hq)
  have HSP4 := Lib.hid (show b.lo k ≤ q0 ∧ q1 ≤ b.hi k from by have h := holds_inner hq; match k, hk3, h with | 0, _, h => exact h | 1, _, h => exact h | 2, _, h => exact h)
  have HC := Lib.hid hc
  have HX := Lib.hid hx
  have HONE := Lib.hid (show ¬ (1 : Int) < (b.ls.length : Int) → c0 = s0 ∧ c1 = s1 from fun h => by
    have e1 : b.ls.length = 1 := by omega
    have e2 : i = 0 := by omega
    rw [e1] at hc
    rw [e2] at hs
    exact hc.uniq hs)
  have HA1 := Lib.hid (show ∀ W, CB W b p → Calls Try.prog 21 #[.agg #[.int .i64 b.l0, .int .i64 b.u0, .int .i64 b.l1, .int .i64 b.u1, .int .i64 b.l2, .int .i64 b.u2, .int .i64 b.e0, .int .i64 b.e1, .int .i64 b.e2, .slice p b.ls.length c], .int .i64 i] W fun e' w' => e' = .returned (.tuple #[.agg #[.int .i64 s0, .int .i64 s1], .int .i64 0]) ∧ ∃ x, w' = ext W x from fun W h => bFish_any b p c i 0 s0 s1 W h true (hin i hi2) hlen hcap hob (ans_of (by simpa using hs)))
  have HA2 := Lib.hid (show ∀ (g : Nat) W, CB W (b.one t) (some ⟨g, 0, none⟩) → Calls Try.prog 21 #[.agg #[.int .i64 b.l0, .int .i64 b.u0, .int .i64 b.l1, .int .i64 b.u1, .int .i64 b.l2, .int .i64 b.u2, .int .i64 b.e0, .int .i64 b.e1, .int .i64 b.e2, .slice (some ⟨g, 0, none⟩) 1 1], .int .i64 0] W fun e' w' => e' = .returned (.tuple #[.agg #[.int .i64 t0, .int .i64 t1], .int .i64 0]) ∧ ∃ x, w' = ext W x from fun g W h => bFish_any (b.one t) _ 1 0 0 t0 t1 W h true (by show inV 0 0 (((1 : Nat) : Int) - 1) = true; decide) (by show ((1 : Nat) : Int) ≤ _; decide) (by show 1 ≤ 1; decide) hox (ans_of htt))
  have HA3 := Lib.hid (show ∀ W, CB W b p → Calls Try.prog 25 #[.agg #[.int .i64 b.l0, .int .i64 b.u0, .int .i64 b.l1, .int .i64 b.u1, .int .i64 b.l2, .int .i64 b.u2, .int .i64 b.e0, .int .i64 b.e1, .int .i64 b.e2, .slice p b.ls.length c], .int .i64 i, .int .i64 k] W fun e' w' => e' = .returned (.tuple #[.agg #[.int .i64 u0, .int .i64 u1], .int .i64 0]) ∧ ∃ x, w' = ext W x from fun W h => bCount_any b p c i k true true 0 u0 u1 W h hin3 (hin i hi2) hlen hcap hob (ans_of (by simpa using hu)))
  have HA4 := Lib.hid (show ∀ (g : Nat) W, CB W (b.one t) (some ⟨g, 0, none⟩) → Calls Try.prog 25 #[.agg #[.int .i64 b.l0, .int .i64 b.u0, .int .i64 b.l1, .int .i64 b.u1, .int .i64 b.l2, .int .i64 b.u2, .int .i64 b.e0, .int .i64 b.e1, .int .i64 b.e2, .slice (some ⟨g, 0, none⟩) 1 1], .int .i64 0, .int .i64 k] W fun e' w' => e' = .returned (.tuple #[.agg #[.int .i64 v0, .int .i64 v1], .int .i64 0]) ∧ ∃ x, w' = ext W x from fun g W h => bCount_any (b.one t) _ 1 0 k true true 0 v0 v1 W h hin3 (by show inV 0 0 (((1 : Nat) : Int) - 1) = true; decide) (by show ((1 : Nat) : Int) ≤ _; decide) (by show 1 ≤ 1; decide) hox (ans_of (by simpa using hvv)))
  have HA5 := Lib.hid (show ∀ W, CB W b p → Calls Try.prog 18 #[.agg #[.int .i64 b.l0, .int .i64 b.u0, .int .i64 b.l1, .int .i64 b.u1, .int .i64 b.l2, .int .i64 b.u2, .int .i64 b.e0, .int .i64 b.e1, .int .i64 b.e2, .slice p b.ls.length c], .int .i64 k] W fun e' w' => e' = .returned (.tuple #[.agg #[.int .i64 p0, .int .i64 p1], .int .i64 0]) ∧ ∃ x, w' = ext W x from fun W h => bHolds_any b p c k 0 p0 p1 true W h hin3 hob (ans_of (by simpa using hp)))
  have HA6 := Lib.hid (show ∀ (g : Nat) W, CB W (b.one t) (some ⟨g, 0, none⟩) → Calls Try.prog 18 #[.agg #[.int .i64 b.l0, .int .i64 b.u0, .int .i64 b.l1, .int .i64 b.u1, .int .i64 b.l2, .int .i64 b.u2, .int .i64 b.e0, .int .i64 b.e1, .int .i64 b.e2, .slice (some ⟨g, 0, none⟩) 1 1], .int .i64 k] W fun e' w' => e' = .returned (.tuple #[.agg #[.int .i64 q0, .int .i64 q1], .int .i64 0]) ∧ ∃ x, w' = ext W x from fun g W h => bHolds_any (b.one t) _ 1 k 0 q0 q1 true W h hin3 hox (ans_of (by simpa using hq)))
  have HA7 := Lib.hid (show ∀ W, CB W b p → Calls Try.prog 27 #[.agg #[.int .i64 b.l0, .int .i64 b.u0, .int .i64 b.l1, .int .i64 b.u1, .int .i64 b.l2, .int .i64 b.u2, .int .i64 b.e0, .int .i64 b.e1, .int .i64 b.e2, .slice p b.ls.length c]] W fun e' w' => e' = .returned (.tuple #[.agg #[.int .i64 c0, .int .i64 c1], .int .i64 0]) ∧ ∃ x, w' = ext W x from fun W h => bTotal_any b p c 0 c0 c1 W h hob (ans_of hc))
  have HA8 := Lib.hid (show ∀ W, CB W b p → Calls Try.prog 29 #[.agg #[.int .i64 b.l0, .int .i64 b.u0, .int .i64 b.l1, .int .i64 b.u1, .int .i64 b.l2, .int .i64 b.u2, .int .i64 b.e0, .int .i64 b.e1, .int .i64 b.e2, .slice p b.ls.length c]] W fun e' w' => e' = .returned (.tuple #[.agg #[.int .i64 x0, .int .i64 x1], .int .i64 0]) ∧ ∃ x, w' = ext W x from fun W h => bCasks_any b p c 0 x0 x1 W h hob (ans_of hx))
  have HEF := Lib.hid (show ∀ j : Nat, j < b.ls.length → ∃ lo hi, EndsC b (gSum .fish j 1) lo hi ∧ ((0 ≤ lo ∧ lo ≤ 400) ∧ 0 ≤ hi ∧ hi ≤ 400) ∧ ∀ W, CB W b p → Calls Try.prog 21 #[.agg #[.int .i64 b.l0, .int .i64 b.u0, .int .i64 b.l1, .int .i64 b.u1, .int .i64 b.l2, .int .i64 b.u2, .int .i64 b.e0, .int .i64 b.e1, .int .i64 b.e2, .slice p b.ls.length c], .int .i64 j] W fun e' w' => e' = .returned (.tuple #[.agg #[.int .i64 lo, .int .i64 hi], .int .i64 0]) ∧ ∃ x, w' = ext W x from fun j hj => by
    obtain ⟨lo, hi, h⟩ : ∃ lo hi, EndsC b (gSum .fish j 1) lo hi := ⟨_, _, ansV_ends hv (fun _ => qf) (by omega) hr1⟩
    exact ⟨lo, hi, h, ends_num_bd hv (fun _ => qf) hj h, fun W hW => bFish_any b p c j 0 lo hi W hW true (hin j hj) hlen hcap hob (ans_of (by simpa using h))⟩)
  have HEC := Lib.hid (show ∀ j : Nat, j < b.ls.length → ∃ lo hi, EndsC b (gSum (.count 2) j 1) lo hi ∧ ((0 ≤ lo ∧ lo ≤ 400) ∧ 0 ≤ hi ∧ hi ≤ 400) ∧ ∀ W, CB W b p → Calls Try.prog 25 #[.agg #[.int .i64 b.l0, .int .i64 b.u0, .int .i64 b.l1, .int .i64 b.u1, .int .i64 b.l2, .int .i64 b.u2, .int .i64 b.e0, .int .i64 b.e1, .int .i64 b.e2, .slice p b.ls.length c], .int .i64 j, .int .i64 2] W fun e' w' => e' = .returned (.tuple #[.agg #[.int .i64 lo, .int .i64 hi], .int .i64 0]) ∧ ∃ x, w' = ext W x from fun j hj => by
    obtain ⟨lo, hi, h⟩ : ∃ lo hi, EndsC b (gSum (.count 2) j 1) lo hi := ⟨_, _, ansV_ends hv (fun k e => by cases e; decide) (by omega) hr1⟩
    exact ⟨lo, hi, h, ends_num_bd hv (fun k e => by cases e; decide) hj h, fun W hW => bCount_any b p c j 2 true true 0 lo hi W hW (by decide) (hin j hj) hlen hcap hob (ans_of (by simpa using h))⟩)
  clear hs htt hu hvv hp hq hc hx hob hox hin hck hin3
  have HRB := Lib.hid (show ∀ W, CB W b p → Calls Try.prog 14 #[.agg #[.int .i64 b.l0, .int .i64 b.u0, .int .i64 b.l1, .int .i64 b.u1, .int .i64 b.l2, .int .i64 b.u2, .int .i64 b.e0, .int .i64 b.e1, .int .i64 b.e2, .slice p b.ls.length c]] W fun e' w' => e' = .returned (.tuple #[.bool true, .int .i64 0]) ∧ ∃ x, w' = ext W x from fun W h => bRight_any b p c true 0 W h (by rw [hv, hr1]; rfl) (by unfold rightE; rw [hv]; rfl))
  have HRX := Lib.hid (show ∀ (g : Nat) W, CB W (b.one t) (some ⟨g, 0, none⟩) → Calls Try.prog 14 #[.agg #[.int .i64 b.l0, .int .i64 b.u0, .int .i64 b.l1, .int .i64 b.u1, .int .i64 b.l2, .int .i64 b.u2, .int .i64 b.e0, .int .i64 b.e1, .int .i64 b.e2, .slice (some ⟨g, 0, none⟩) 1 1]] W fun e' w' => e' = .returned (.tuple #[.bool true, .int .i64 0]) ∧ ∃ x, w' = ext W x from fun g W h => bRight_any (b.one t) _ 1 true 0 W h (by rw [hvx, hr2]; rfl) (by unfold rightE; rw [hvx]; rfl))
  have HK := Lib.hid hk
  have HV := Lib.hid hv
  have HI := Lib.hid hi
  have HKK := Lib.hid hkk
  have HT := Lib.hid ht
  have HR1 := Lib.hid (show 1 ≤ (b.ls.length : Int) ∧ (b.ls.length : Int) ≤ 1000000 by omega)
  have HL4 := Lib.hid (show (b.ls.length : Int) ≤ 1000 by omega)
  have HKI := Lib.hid (show k < 3 ∧ i < b.ls.length ∧ b.ls.length ≤ 4 by omega)
  have hz0 : ((b.ls.length : Int) == 0) = false := by rw [beq_eq_false_iff_ne]; omega
  clear hk hv hi ht hlt h4 hn hi2 hkk hk3 hvx hcap hlen hr1 hr2
  go_enter Try.func7, Try.ntmps7
  go_upto_region 1 with fail
  generalize hW : World.alloc _ _ = W
  have KB := Lib.hid (show Blk W w.heap.size 28 (ckcs b p c) by rw [← hW]; exact (Blk.new rfl).alloc _)
  have KP := Lib.hid (show Blk W (w.heap.size + 1) 37 #[.int .i64 n0, .int .i64 n1] by rw [← hW]; exact Blk.new (by simp))
  have HBW := Lib.hid (show Below w.heap.size w W by rw [← hW]; (exact belA))
  have HCB := Lib.hid (HK.out.bel HBW.out)
  clear hW
  have hzW := HBW.out.size
  have kb := KB.out
  unfold ckcs at kb
  obtain ⟨d0, d1, d2, d3, d4, d5, d6, d7, d8, d9⟩ := Blk.c10 kb
  have lb := kb.lt
  clear kb
  go_upto_region 3 with (go_at_call 36; refine (bsound_any b p c true _ HCB.out HV.out).mono ?_; rintro e w1 ⟨rfl, y, rfl⟩)
  clear d0 d1 d2 d3 d4 d5 d6 d7 d8 d9 lb
  generalize hW : ext W _ = W1
  have KB1 := Lib.hid (show Blk W1 w.heap.size 28 (ckcs b p c) by rw [← hW]; exact KB.out.ext _)
  have KP1 := Lib.hid (show Blk W1 (w.heap.size + 1) 37 #[.int .i64 n0, .int .i64 n1] by rw [← hW]; exact KP.out.ext _)
  have HB1 := Lib.hid (show Below w.heap.size w W1 by rw [← hW]; exact HBW.out.trans ((below_ext _ _).mono hzW))
  have HC1 := Lib.hid (HK.out.bel HB1.out)
  have hz1 := HB1.out.size
  clear hW KB HCB HBW hzW KP hz0
  have kb := KB1.out
  unfold ckcs at kb
  obtain ⟨d0, d1, d2, d3, d4, d5, d6, d7, d8, d9⟩ := Blk.c10 kb
  have lb := kb.lt
  generalize w.heap.size + 1 = gp at *
  have kp := KP1.out
  obtain ⟨e0, e1⟩ := Blk.c2 kp
  have lp := kp.lt
  clear kb kp
  refine wp_region_ext (by kernel_rfl) (by kernel_rfl) ?_
  repeat (go_big_quiet_step (first
    | (go_at_call 40; exact quiet_ext (Wheel_is _ _ _ _ (by first | exact HR1.out | decide) (by first | exact HI.out | exact HKK.out)))))
  (refine wpQuiet_nil ?_; rintro _ ⟨x, rfl⟩)
  clear d0 d1 d2 d3 d4 d5 d6 d7 d8 d9 lb e0 e1 lp
  generalize hW : ext W1 _ = W2
  have KB2 := Lib.hid (show Blk W2 w.heap.size 28 (ckcs b p c) by rw [← hW]; exact KB1.out.ext _)
  have HB2 := Lib.hid (show Below w.heap.size w W2 by rw [← hW]; exact HB1.out.trans ((below_ext _ _).mono hz1))
  clear hW KB1 HB1 HC1 hz1 KP1
  have hz2 := HB2.out.size
  have HC2 := Lib.hid (HK.out.bel HB2.out)
  have kb := KB2.out
  unfold ckcs at kb
  obtain ⟨d0, d1, d2, d3, d4, d5, d6, d7, d8, d9⟩ := Blk.c10 kb
  have lb := kb.lt
  clear kb
  have HAL := Lib.hid (show ∀ W, CB W b p → Calls Try.prog 41 #[.agg #[.int .i64 b.l0, .int .i64 b.u0, .int .i64 b.l1, .int .i64 b.u1, .int .i64 b.l2, .int .i64 b.u2, .int .i64 b.e0, .int .i64 b.e1, .int .i64 b.e2, .slice p b.ls.length c], .int .i64 i] W fun e w' => ∃ g, e = .returned (.agg #[.int .i64 b.l0, .int .i64 b.u0, .int .i64 b.l1, .int .i64 b.u1, .int .i64 b.l2, .int .i64 b.u2, .int .i64 b.e0, .int .i64 b.e1, .int .i64 b.e2, .slice (some ⟨g, 0, none⟩) 1 1]) ∧ W.heap.size ≤ g ∧ Blk w' g 62 (ltcs t) ∧ ∃ x, w' = ext W x from fun W h => alone_any b p c i t W h HT.out HL4.out)
  go_upto_region 5 with (go_at_call 41; refine (HAL.out _ HC2.out).mono ?_; rintro e w3 ⟨ga, rfl, hga, kl, y, hw⟩; have KL3 := Lib.hid kl; have KB3 := Lib.hid (show Blk w3 w.heap.size 28 (ckcs b p c) by rw [hw]; exact KB2.out.ext y); have HB3 := Lib.hid (show Below w.heap.size w w3 by rw [hw]; exact HB2.out.trans ((below_ext _ y).mono HB2.out.size)); clear hw kl)
  clear d0 d1 d2 d3 d4 d5 d6 d7 d8 d9 lb KB2 HB2 HC2 hz2 HAL hga
  generalize hW : World.alloc w3 _ = W4
  have HF := Lib.hid (show NF w W4 b p c ga w3.heap.size t [] by rw [← hW]; exact ⟨HB3.out.alloc HB3.out.size _, KB3.out.alloc _, KL3.out.alloc _, Blk.new rfl, fun z hz => by simp at hz⟩)
  clear hW KL3 KB3 HB3
  generalize w3.heap.size = gx at *
  have HCB := Lib.hid (fun (W' : World) (h : Below w.heap.size w W') => HK.out.bel h)
  have kb := HF.out.kb
  unfold ckcs at kb
  obtain ⟨d0, d1, d2, d3, d4, d5, d6, d7, d8, d9⟩ := Blk.c10 kb
  have lb := kb.lt
  clear kb
  have kx := HF.out.kx
  obtain ⟨r0, r1, r2, r3, r4, r5, r6, r7, r8, r9⟩ := Blk.c10 kx
  have lx := kx.lt
  clear kx
  go_upto_region 6 with (go_at_call 14; refine (HRB.out _ (HCB.out _ HF.out.bel)).mono ?_; rintro e w5 ⟨rfl, y, hw⟩; have HF := Lib.hid (HF.out.step (show Below W4.heap.size W4 w5 by rw [hw]; (exact belC))); clear hw)
  clear d0 d1 d2 d3 d4 d5 d6 d7 d8 d9 lb r0 r1 r2 r3 r4 r5 r6 r7 r8 r9 lx
  have kb := HF.out.kb
  unfold ckcs at kb
  obtain ⟨d0, d1, d2, d3, d4, d5, d6, d7, d8, d9⟩ := Blk.c10 kb
  have lb := kb.lt
  clear kb
  have kx := HF.out.kx
  obtain ⟨r0, r1, r2, r3, r4, r5, r6, r7, r8, r9⟩ := Blk.c10 kx
  have lx := kx.lt
  clear kx
  go_upto_region 7 with (go_at_call 14; refine (HRX.out ga _ (one_lots HF.out.kl)).mono ?_; rintro e w6 ⟨rfl, y, hw⟩; have HF := Lib.hid (HF.out.step (show Below w5.heap.size w5 w6 by rw [hw]; (exact belC))); clear hw)
  clear d0 d1 d2 d3 d4 d5 d6 d7 d8 d9 lb r0 r1 r2 r3 r4 r5 r6 r7 r8 r9 lx
  have kb := HF.out.kb
  unfold ckcs at kb
  obtain ⟨d0, d1, d2, d3, d4, d5, d6, d7, d8, d9⟩ := Blk.c10 kb
  have lb := kb.lt
  clear kb
  have kx := HF.out.kx
  obtain ⟨r0, r1, r2, r3, r4, r5, r6, r7, r8, r9⟩ := Blk.c10 kx
  have lx := kx.lt
  clear kx
  go_upto_region 13 with (go_at_call 21; refine (HA1.out _ (HCB.out _ HF.out.bel)).mono ?_; rintro e w7 ⟨rfl, y, hw⟩; have HF := Lib.hid (HF.out.step (show Below w6.heap.size w6 w7 by rw [hw]; (exact belC))); clear hw)
  clear d0 d1 d2 d3 d4 d5 d6 d7 d8 d9 lb r0 r1 r2 r3 r4 r5 r6 r7 r8 r9 lx
  generalize hW : World.alloc w7 _ = w8
  have HF := Lib.hid ((HF.out.step (show Below w7.heap.size w7 w8 by rw [← hW]; (exact belC))).box (g := w7.heap.size) (x := s0) (y := s1) (by rw [← hW]; exact Blk.new rfl))
  clear hW
  generalize w7.heap.size = gb0 at *
  have kb := HF.out.kb
  unfold ckcs at kb
  obtain ⟨d0, d1, d2, d3, d4, d5, d6, d7, d8, d9⟩ := Blk.c10 kb
  have lb := kb.lt
  clear kb
  have kx := HF.out.kx
  obtain ⟨r0, r1, r2, r3, r4, r5, r6, r7, r8, r9⟩ := Blk.c10 kx
  have lx := kx.lt
  clear kx
  go_upto_region 14 with (go_at_call 21; refine (HA2.out ga _ (one_lots HF.out.kl)).mono ?_; rintro e w9 ⟨rfl, y, hw⟩; have HF := Lib.hid (HF.out.step (show Below w8.heap.size w8 w9 by rw [hw]; (exact belC))); clear hw)
  clear d0 d1 d2 d3 d4 d5 d6 d7 d8 d9 lb r0 r1 r2 r3 r4 r5 r6 r7 r8 r9 lx
  generalize hW : World.alloc w9 _ = w10
  have HF := Lib.hid ((HF.out.step (show Below w9.heap.size w9 w10 by rw [← hW]; (exact belC))).box (g := w9.heap.size) (x := t0) (y := t1) (by rw [← hW]; exact Blk.new rfl))
  clear hW
  generalize w9.heap.size = gb1 at *
  have kb := HF.out.kb
  unfold ckcs at kb
  obtain ⟨d0, d1, d2, d3, d4, d5, d6, d7, d8, d9⟩ := Blk.c10 kb
  have lb := kb.lt
  clear kb
  have kx := HF.out.kx
  obtain ⟨r0, r1, r2, r3, r4, r5, r6, r7, r8, r9⟩ := Blk.c10 kx
  have lx := kx.lt
  clear kx
  go_upto_region 15 with (go_at_call 25; refine (HA3.out _ (HCB.out _ HF.out.bel)).mono ?_; rintro e w11 ⟨rfl, y, hw⟩; have HF := Lib.hid (HF.out.step (show Below w10.heap.size w10 w11 by rw [hw]; (exact belC))); clear hw)
  clear d0 d1 d2 d3 d4 d5 d6 d7 d8 d9 lb r0 r1 r2 r3 r4 r5 r6 r7 r8 r9 lx
  generalize hW : World.alloc w11 _ = w12
  have HF := Lib.hid ((HF.out.step (show Below w11.heap.size w11 w12 by rw [← hW]; (exact belC))).box (g := w11.heap.size) (x := u0) (y := u1) (by rw [← hW]; exact Blk.new rfl))
  clear hW
  generalize w11.heap.size = gb2 at *
  have kb := HF.out.kb
  unfold ckcs at kb
  obtain ⟨d0, d1, d2, d3, d4, d5, d6, d7, d8, d9⟩ := Blk.c10 kb
  have lb := kb.lt
  clear kb
  have kx := HF.out.kx
  obtain ⟨r0, r1, r2, r3, r4, r5, r6, r7, r8, r9⟩ := Blk.c10 kx
  have lx := kx.lt
  clear kx
  go_upto_region 16 with (go_at_call 25; refine (HA4.out ga _ (one_lots HF.out.kl)).mono ?_; rintro e w13 ⟨rfl, y, hw⟩; have HF := Lib.hid (HF.out.step (show Below w12.heap.size w12 w13 by rw [hw]; (exact belC))); clear hw)
  clear d0 d1 d2 d3 d4 d5 d6 d7 d8 d9 lb r0 r1 r2 r3 r4 r5 r6 r7 r8 r9 lx
  generalize hW : World.alloc w13 _ = w14
  have HF := Lib.hid ((HF.out.step (show Below w13.heap.size w13 w14 by rw [← hW]; (exact belC))).box (g := w13.heap.size) (x := v0) (y := v1) (by rw [← hW]; exact Blk.new rfl))
  clear hW
  generalize w13.heap.size = gb3 at *
  have kb := HF.out.kb
  unfold ckcs at kb
  obtain ⟨d0, d1, d2, d3, d4, d5, d6, d7, d8, d9⟩ := Blk.c10 kb
  have lb := kb.lt
  clear kb
  have kx := HF.out.kx
  obtain ⟨r0, r1, r2, r3, r4, r5, r6, r7, r8, r9⟩ := Blk.c10 kx
  have lx := kx.lt
  clear kx
  go_upto_region 17 with (go_at_call 18; refine (HA5.out _ (HCB.out _ HF.out.bel)).mono ?_; rintro e w15 ⟨rfl, y, hw⟩; have HF := Lib.hid (HF.out.step (show Below w14.heap.size w14 w15 by rw [hw]; (exact belC))); clear hw)
  clear d0 d1 d2 d3 d4 d5 d6 d7 d8 d9 lb r0 r1 r2 r3 r4 r5 r6 r7 r8 r9 lx
  generalize hW : World.alloc w15 _ = w16
  have HF := Lib.hid ((HF.out.step (show Below w15.heap.size w15 w16 by rw [← hW]; (exact belC))).box (g := w15.heap.size) (x := p0) (y := p1) (by rw [← hW]; exact Blk.new rfl))
  clear hW
  generalize w15.heap.size = gb4 at *
  have kb := HF.out.kb
  unfold ckcs at kb
  obtain ⟨d0, d1, d2, d3, d4, d5, d6, d7, d8, d9⟩ := Blk.c10 kb
  have lb := kb.lt
  clear kb
  have kx := HF.out.kx
  obtain ⟨r0, r1, r2, r3, r4, r5, r6, r7, r8, r9⟩ := Blk.c10 kx
  have lx := kx.lt
  clear kx
  go_upto_region 18 with (go_at_call 18; refine (HA6.out ga _ (one_lots HF.out.kl)).mono ?_; rintro e w17 ⟨rfl, y, hw⟩; have HF := Lib.hid (HF.out.step (show Below w16.heap.size w16 w17 by rw [hw]; (exact belC))); clear hw)
  clear d0 d1 d2 d3 d4 d5 d6 d7 d8 d9 lb r0 r1 r2 r3 r4 r5 r6 r7 r8 r9 lx
  generalize hW : World.alloc w17 _ = w18
  have HF := Lib.hid ((HF.out.step (show Below w17.heap.size w17 w18 by rw [← hW]; (exact belC))).box (g := w17.heap.size) (x := q0) (y := q1) (by rw [← hW]; exact Blk.new rfl))
  clear hW
  generalize w17.heap.size = gb5 at *
  have kgb0 := HF.out.bx (gb0, s0, s1) (by simp)
  dsimp only at kgb0
  obtain ⟨cgb00, cgb01⟩ := Blk.c2 kgb0
  have lgb0 := kgb0.lt
  clear kgb0
  have kgb1 := HF.out.bx (gb1, t0, t1) (by simp)
  dsimp only at kgb1
  obtain ⟨cgb10, cgb11⟩ := Blk.c2 kgb1
  have lgb1 := kgb1.lt
  clear kgb1
  have kgb2 := HF.out.bx (gb2, u0, u1) (by simp)
  dsimp only at kgb2
  obtain ⟨cgb20, cgb21⟩ := Blk.c2 kgb2
  have lgb2 := kgb2.lt
  clear kgb2
  have kgb3 := HF.out.bx (gb3, v0, v1) (by simp)
  dsimp only at kgb3
  obtain ⟨cgb30, cgb31⟩ := Blk.c2 kgb3
  have lgb3 := kgb3.lt
  clear kgb3
  have kgb4 := HF.out.bx (gb4, p0, p1) (by simp)
  dsimp only at kgb4
  obtain ⟨cgb40, cgb41⟩ := Blk.c2 kgb4
  have lgb4 := kgb4.lt
  clear kgb4
  have kgb5 := HF.out.bx (gb5, q0, q1) (by simp)
  dsimp only at kgb5
  obtain ⟨cgb50, cgb51⟩ := Blk.c2 kgb5
  have lgb5 := kgb5.lt
  clear kgb5
  obtain ⟨y1, y2⟩ := HSP1.out
  obtain ⟨y3, y4⟩ := HSP2.out
  obtain ⟨y5, y6⟩ := HSP3.out
  obtain ⟨y7, y8⟩ := HSP4.out
  obtain ⟨z0, z1⟩ := cell_holdsAt HF.out.kb HKI.out.1
  have z2 : (0 : Int) ≤ (k : Int) := by omega
  have z3 : (k : Int) < 3 := by have := HKI.out.1; omega
  have lb : w.heap.size < w18.heap.size := HF.out.kb.lt
  refine wp_region_ext (by kernel_rfl) (by kernel_rfl) ?_
  repeat (go_big_quiet_step (first | (go_at_call 42; exact quiet_ext (Spans_yes _ _ _ _ _ (by assumption) (by assumption)))))
  (refine wpQuiet_nil ?_; rintro _ ⟨x, rfl⟩)
  clear z0 z1 z2 z3 y1 y2 y3 y4 y5 y6 y7 y8 lb cgb00 cgb01 lgb0 cgb10 cgb11 lgb1 cgb20 cgb21 lgb2 cgb30 cgb31 lgb3 cgb40 cgb41 lgb4 cgb50 cgb51 lgb5
  generalize hW : ext w18 _ = w19
  have HF := Lib.hid (HF.out.step (show Below w18.heap.size w18 w19 by rw [← hW]; exact below_ext _ _))
  clear hW
  go_upto_region 21 with (go_at_call 43; refine (Just_any _ _).mono ?_; rintro e w20 ⟨rfl, y, rfl⟩)
  refine gen_worldB ?_
  intro W20 hW
  generalize hgF : (ext w19 _).heap.size = gF at *
  have hzF : w19.heap.size ≤ gF := by rw [← hgF]; exact (below_ext _ _).size
  have KF := Lib.hid (show Blk W20 gF 23 #[.int .i64 0, .int .i64 0] by rw [← hW]; exact (Blk.new hgF.symm).alloc _)
  have KC := Lib.hid (show Blk W20 (gF + 1) 23 #[.int .i64 0, .int .i64 0] by rw [← hW]; exact Blk.new (by simp [hgF]))
  have hg0 := (HF.out.bx (gb0, s0, s1) (by simp)).lt
  have hgw := HF.out.kb.lt
  dsimp only at hg0
  have HST := Lib.hid (show LF w W20 b p c gb0 s0 s1 gF (gF + 1) 0 0 0 0 from (by
    have HF := HF.out.step (show Below w19.heap.size w19 W20 by rw [← hW]; exact bel_alloc (bel_alloc (bel_ext (Below.refl _ _) _) _) _)
    exact ⟨HF.bel, HF.kb, HF.bx (gb0, s0, s1) (by simp), KF.out, KC.out⟩))
  obtain ⟨gC, hgC⟩ : ∃ g, g = gF + 1 := ⟨_, rfl⟩
  have HGD := Lib.hid (show gF ≠ gC ∧ w.heap.size < gF ∧ w.heap.size < gC ∧ gb0 < gF ∧ gb0 < gC by omega)
  rw [← hgC] at HST
  simp only [← hgC]
  clear hW hgF KF KC HF hzF hg0 hgw hgC
  go_wp2_with fail
  go_loopw [26] (fun ii wr => ∃ (j : Nat) (fl fh cl ch : Int), j ≤ b.ls.length ∧ ii = .int .i64 j ∧ Hid (LF w wr b p c gb0 s0 s1 gF gC fl fh cl ch) ∧ Hid (SumsTo b .fish j fl fh) ∧ Hid (SumsTo b (.count 2) j cl ch)) (fun ii _ => b.ls.length - (intOf ii).toNat)
  case atStart => exact ⟨0, 0, 0, 0, 0, by omega, rfl, HST, Lib.hid (SumsTo.nil _ _), Lib.hid (SumsTo.nil _ _)⟩
  case round =>
    obtain ⟨j, fl, fh, cl, ch, hj, rfl, HLF, HSF, HSC⟩ := hrel
    clear HST
    have kb := HLF.out.kb
    unfold ckcs at kb
    obtain ⟨d0, d1, d2, d3, d4, d5, d6, d7, d8, d9⟩ := Blk.c10 kb
    have lb := kb.lt
    clear kb
    by_cases hlt : j < b.ls.length
    · obtain ⟨f0, f1, hf, hfb, hfc⟩ := HEF.out j hlt
      obtain ⟨e0, e1, he, heb, hec⟩ := HEC.out j hlt
      have HFE := Lib.hid hf
      have HFB := Lib.hid hfb
      have HFC := Lib.hid hfc
      have HCE := Lib.hid he
      have HCBD := Lib.hid heb
      have HCC := Lib.hid hec
      have HJ := Lib.hid hlt
      have k0 : (0 : Int) ≤ (j : Int) := by omega
      have k1 : (j : Int) < (b.ls.length : Int) := by omega
      have k2 : (j : Int) < 4 := by have := HKI.out.2.2; omega
      clear hf hfb hfc he heb hec
      go_upto_region 25 with (go_at_call 21; refine (HFC.out _ (HCB.out _ HLF.out.bel)).mono ?_; rintro e w31 ⟨rfl, y, hw⟩; have HLF := Lib.hid (HLF.out.step (show Below wr.heap.size wr w31 by rw [hw]; (exact belC))); clear hw)
      clear d0 d1 d2 d3 d4 d5 d6 d7 d8 d9 lb
      generalize hW : World.alloc w31 _ = w32
      have HLF := Lib.hid (HLF.out.step (show Below w31.heap.size w31 w32 by rw [← hW]; (exact belC)))
      have K27 := Lib.hid (show Blk w32 w31.heap.size 23 #[.int .i64 f0, .int .i64 f1] by rw [← hW]; exact Blk.new rfl)
      clear hW
      generalize w31.heap.size = g27 at *
      have kb := HLF.out.kb
      unfold ckcs at kb
      obtain ⟨d0, d1, d2, d3, d4, d5, d6, d7, d8, d9⟩ := Blk.c10 kb
      have lb := kb.lt
      clear kb
      go_upto_region 26 with (go_at_call 25; refine (HCC.out _ (HCB.out _ HLF.out.bel)).mono ?_; rintro e w33 ⟨rfl, y, hw⟩; have HLF := Lib.hid (HLF.out.step (show Below w32.heap.size w32 w33 by rw [hw]; (exact belC))); have K27 := Lib.hid (K27.out.bel (show Below w32.heap.size w32 w33 by rw [hw]; (exact belC))); clear hw)
      clear d0 d1 d2 d3 d4 d5 d6 d7 d8 d9 lb
      generalize hW : World.alloc w33 _ = w34
      have HLF := Lib.hid (HLF.out.step (show Below w33.heap.size w33 w34 by rw [← hW]; (exact belC)))
      have K27 := Lib.hid (K27.out.bel (show Below w33.heap.size w33 w34 by rw [← hW]; (exact belC)))
      have K29 := Lib.hid (show Blk w34 w33.heap.size 23 #[.int .i64 e0, .int .i64 e1] by rw [← hW]; exact Blk.new rfl)
      clear hW
      generalize w33.heap.size = g29 at *
      go_upto_region 28 with fail
      have HB1 := Lib.hid (show (0 ≤ fl ∧ fl ≤ 100000) ∧ (0 ≤ fh ∧ fh ≤ 100000) ∧ (0 ≤ f0 ∧ f0 ≤ 100000) ∧ (0 ≤ f1 ∧ f1 ≤ 100000) by have := HSF.out.bd; have := HFB.out; have := HKI.out.2.2; omega)
      have HB2 := Lib.hid (show (0 ≤ cl ∧ cl ≤ 100000) ∧ (0 ≤ ch ∧ ch ≤ 100000) ∧ (0 ≤ e0 ∧ e0 ≤ 100000) ∧ (0 ≤ e1 ∧ e1 ≤ 100000) by have := HSC.out.bd; have := HCBD.out; have := HKI.out.2.2; omega)
      refine wp_region_flow_back 6 250 (sumR fl fh f0 f1 cl ch e0 e1) (by kernel_rfl) (by kernel_rfl) rfl (sumR_kept _ _ _ _ _ _ _ _) ?_ ?_
      · intro z hin a X g1 g2 g3 g4 g5 KK hKK
        match z, hin with
        | 0, _ => exact st_val rfl (wanted_none rfl) (run_load_span _ (g3 24 (by kernel_rfl)) (HLF.out.kF.bel g5)) (hKK _ _ rfl (Below.refl _ _))
        | 1, _ => exact st_val rfl (wanted_none rfl) (run_load_span _ (g3 27 (by kernel_rfl)) (K27.out.bel g5)) (hKK _ _ rfl (Below.refl _ _))
        | 2, _ =>
          refine st_call rfl rfl (wanted_none rfl) (args2 (g4 0 (by kernel_rfl)) (g4 1 (by kernel_rfl))) (run_enter Try.func44 (by kernel_rfl) (by kernel_rfl) _) ?_
          refine (Sum_any fl fh f0 f1 X HB1.out.1 HB1.out.2.1 HB1.out.2.2.1 HB1.out.2.2.2).mono ?_
          rintro e' w1 ⟨rfl, x, rfl⟩
          exact ⟨_, rfl, hKK _ _ rfl (below_ext _ x)⟩
        | 3, _ => exact st_val rfl (wanted_none rfl) (run_load_span _ (g3 25 (by kernel_rfl)) (HLF.out.kC.bel g5)) (hKK _ _ rfl (Below.refl _ _))
        | 4, _ => exact st_val rfl (wanted_none rfl) (run_load_span _ (g3 29 (by kernel_rfl)) (K29.out.bel g5)) (hKK _ _ rfl (Below.refl _ _))
        | 5, _ =>
          refine st_call rfl rfl (wanted_none rfl) (args2 (g4 3 (by kernel_rfl)) (g4 4 (by kernel_rfl))) (run_enter Try.func44 (by kernel_rfl) (by kernel_rfl) _) ?_
          refine (Sum_any cl ch e0 e1 X HB2.out.1 HB2.out.2.1 HB2.out.2.2.1 HB2.out.2.2.2).mono ?_
          rintro e' w1 ⟨rfl, x, rfl⟩
          exact ⟨_, rfl, hKK _ _ rfl (below_ext _ x)⟩
        | z + 6, hz => omega
      · intro vs T hvs hBT
        have v0 : vs 0 = _ := hvs 0 (by omega)
        have v1 : vs 1 = _ := hvs 1 (by omega)
        have v2 : vs 2 = _ := hvs 2 (by omega)
        have v3 : vs 3 = _ := hvs 3 (by omega)
        have v4 : vs 4 = _ := hvs 4 (by omega)
        have v5 : vs 5 = _ := hvs 5 (by omega)
        simp only [putAll, v0, v1, v2, v3, v4, v5]
        clear v0 v1 v2 v3 v4 v5 hvs
        simp only [dstOf, Act.put, List.getElem?_toArray, List.getElem?_cons_zero, List.getElem?_cons_succ, Option.bind_some, Option.getD_some, List.setIfInBounds_toArray, List.set_cons_succ, List.set_cons_zero, List.drop_succ_cons, List.drop_zero]
        have HLT := Lib.hid (HLF.out.step hBT)
        clear hBT HLF K27 K29
        have kF := HLT.out.kF
        obtain ⟨xf0, xf1⟩ := Blk.c2 kF
        obtain ⟨ff0, ff1⟩ := Blk.f2 kF
        have lF := kF.lt
        have kC := HLT.out.kC
        obtain ⟨xc0, xc1⟩ := Blk.c2 kC
        obtain ⟨fc0, fc1⟩ := Blk.f2 kC
        have lC := kC.lt
        clear kF kC
        have hne1 := HGD.out.1
        have hne2 := HGD.out.1.symm
        go_wp2_with fail
        have hLF : LF w ((((T.setCell ⟨gF, 0, none⟩ (.int .i64 (fl + f0))).setCell ⟨gF, 1, none⟩ (.int .i64 (fh + f1))).setCell ⟨gC, 0, none⟩ (.int .i64 (cl + e0))).setCell ⟨gC, 1, none⟩ (.int .i64 (ch + e1))) b p c gb0 s0 s1 gF gC (fl + f0) (fh + f1) (cl + e0) (ch + e1) := by
          have n1 : w.heap.size ≠ gF := by have := HGD.out; omega
          have n2 : w.heap.size ≠ gC := by have := HGD.out; omega
          have n3 : gb0 ≠ gF := by have := HGD.out; omega
          have n4 : gb0 ≠ gC := by have := HGD.out; omega
          exact ⟨((((HLT.out.bel.setCell (p := ⟨gF, 0, none⟩) (by have := HGD.out; dsimp only; omega) (.int .i64 (fl + f0))).setCell (p := ⟨gF, 1, none⟩) (by have := HGD.out; dsimp only; omega) (.int .i64 (fh + f1))).setCell (p := ⟨gC, 0, none⟩) (by have := HGD.out; dsimp only; omega) (.int .i64 (cl + e0))).setCell (p := ⟨gC, 1, none⟩) (by have := HGD.out; dsimp only; omega) (.int .i64 (ch + e1))), ((((HLT.out.kb.setOther n1 0 (.int .i64 (fl + f0))).setOther n1 1 (.int .i64 (fh + f1))).setOther n2 0 (.int .i64 (cl + e0))).setOther n2 1 (.int .i64 (ch + e1))), ((((HLT.out.k0.setOther n3 0 (.int .i64 (fl + f0))).setOther n3 1 (.int .i64 (fh + f1))).setOther n4 0 (.int .i64 (cl + e0))).setOther n4 1 (.int .i64 (ch + e1))), ((HLT.out.kF.setB2 (.int .i64 (fl + f0)) (.int .i64 (fh + f1))).setOther hne1 0 _).setOther hne1 1 _, ((HLT.out.kC.setOther hne2 0 _).setOther hne2 1 _).setB2 (.int .i64 (cl + e0)) (.int .i64 (ch + e1))⟩
        have HLN := Lib.hid hLF
        clear hLF
        go_roundw
        case rel => exact ⟨j + 1, fl + f0, fh + f1, cl + e0, ch + e1, HJ.out, by go_num, HLN, Lib.hid (HSF.out.step HJ.out HFE.out HFB.out.1 HFB.out.2), Lib.hid (HSC.out.step HJ.out HCE.out HCBD.out.1 HCBD.out.2)⟩
        case measure => have := HJ.out; simp [intOf]; omega
    · obtain rfl : j = b.ls.length := by omega
      have HY1 := Lib.hid (HSF.out.spans HC.out)
      have HY2 := Lib.hid (HSC.out.spans HX.out)
      have hnl : ¬ ((b.ls.length : Int) < (b.ls.length : Int)) := by omega
      clear hlt hj HSF HSC HEF HEC
      go_upto_region 30 with (go_at_call 27; refine (HA7.out _ (HCB.out _ HLF.out.bel)).mono ?_; rintro e w41 ⟨rfl, y, hw⟩; have HLF := Lib.hid (HLF.out.step (show Below wr.heap.size wr w41 by rw [hw]; (exact belC))); clear hw)
      clear d0 d1 d2 d3 d4 d5 d6 d7 d8 d9 lb hnl
      generalize hW : World.alloc w41 _ = w42
      have HLF := Lib.hid (HLF.out.step (show Below w41.heap.size w41 w42 by rw [← hW]; (exact belC)))
      have K31 := Lib.hid (show Blk w42 w41.heap.size 23 #[.int .i64 c0, .int .i64 c1] by rw [← hW]; exact Blk.new rfl)
      clear hW
      generalize w41.heap.size = g31 at *
      have kb := HLF.out.kb
      unfold ckcs at kb
      obtain ⟨d0, d1, d2, d3, d4, d5, d6, d7, d8, d9⟩ := Blk.c10 kb
      have lb := kb.lt
      clear kb
      go_upto_region 31 with (go_at_call 29; refine (HA8.out _ (HCB.out _ HLF.out.bel)).mono ?_; rintro e w43 ⟨rfl, y, hw⟩; have HLF := Lib.hid (HLF.out.step (show Below w42.heap.size w42 w43 by rw [hw]; (exact belC))); have K31 := Lib.hid (K31.out.bel (show Below w42.heap.size w42 w43 by rw [hw]; (exact belC))); clear hw)
      clear d0 d1 d2 d3 d4 d5 d6 d7 d8 d9 lb
      generalize hW : World.alloc w43 _ = w44
      have HLF := Lib.hid (HLF.out.step (show Below w43.heap.size w43 w44 by rw [← hW]; (exact belC)))
      have K31 := Lib.hid (K31.out.bel (show Below w43.heap.size w43 w44 by rw [← hW]; (exact belC)))
      have K33 := Lib.hid (show Blk w44 w43.heap.size 23 #[.int .i64 x0, .int .i64 x1] by rw [← hW]; exact Blk.new rfl)
      clear hW
      generalize w43.heap.size = g33 at *
      have HBL := Lib.hid HLF.out.bel
      have kb := HLF.out.kb
      unfold ckcs at kb
      have d9 := kb.cell 9
      have lb := kb.lt
      have kF := HLF.out.kF
      have kC := HLF.out.kC
      have k0 := HLF.out.k0
      have k31 := K31.out
      have k33 := K33.out
      simp only [List.size_toArray, List.length_cons, List.length_nil, Nat.reduceAdd, Nat.reduceLT, getElem?_pos, List.getElem_toArray, List.getElem_cons_zero, List.getElem_cons_succ] at d9
      obtain ⟨xf0, xf1⟩ := Blk.c2 kF
      have lF := kF.lt
      obtain ⟨xc0, xc1⟩ := Blk.c2 kC
      have lC := kC.lt
      obtain ⟨xs0, xs1⟩ := Blk.c2 k0
      have lS := k0.lt
      obtain ⟨xa0, xa1⟩ := Blk.c2 k31
      have lA := k31.lt
      obtain ⟨xb0, xb1⟩ := Blk.c2 k33
      have lB := k33.lt
      clear kb kF kC k0 k31 k33 HLF K31 K33 HA1 HA2 HA3 HA4 HA5 HA6 HA7 HA8 HRB HRX
      obtain ⟨y1, y2⟩ := HY1.out
      obtain ⟨y3, y4⟩ := HY2.out
      by_cases h1 : (1 : Int) < (b.ls.length : Int)
      · go_wp2_with (first
          | (go_at_call 42; refine (Spans_yes _ _ _ _ _ (by assumption) (by assumption)).mono ?_; rintro e w45 ⟨rfl, y, rfl⟩)
          | (go_at_call 20; refine (salted_any _).mono ?_; rintro e w45 ⟨rfl, y, rfl⟩))
        go_ret
        exact ⟨rfl, ext_of (HBL.out.trans ((below_ext _ _).mono HBL.out.size))⟩
      · obtain ⟨rfl, rfl⟩ := HONE.out (by omega)
        go_wp2_with (first
          | (go_at_call 42; refine (Spans_yes _ _ _ _ _ (by assumption) (by assumption)).mono ?_; rintro e w45 ⟨rfl, y, rfl⟩)
          | (go_at_call 20; refine (salted_any _).mono ?_; rintro e w45 ⟨rfl, y, rfl⟩))
        go_ret
        exact ⟨rfl, ext_of (HBL.out.trans ((below_ext _ _).mono HBL.out.size))⟩
theorem BulkAlone_any (b : Ck) (p : Option Addr) (c : Nat) (n0 n1 : Int) (w : World) (hk : CB w b p) (hcap : b.ls.length ≤ c) (hlen : (b.ls.length : Int) ≤ 9223372036854775807) :
    Calls Try.prog 7 #[ckV b p c, .agg #[.int .i64 n0, .int .i64 n1]] w fun e w' => e = .returned (.bool true) ∧ ∃ x, w' = ext w x := by
  cases hv : cellV b
  · exact BulkAlone_bad b p c n0 n1 w hk hv
  · by_cases hn : b.ls.length = 0
    · exact BulkAlone_nil b p c n0 n1 w hk hv hn
    · cases hr : rightC b
      · exact BulkAlone_no b p c n0 n1 w hk hcap hlen hv hn hr
      · exact BulkAlone_yes b p c n0 n1 w hk hcap hlen hv hn hr
end Go.Proofs.Ytpiadbdkiibdbaa

