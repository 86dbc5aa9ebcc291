/- The law BulkNothing. Written by gen_b6h.py. -/
import Derived.Test.YtpiadbdkiibdbaaQB6e
set_option linter.unusedSimpArgs false
set_option linter.unusedVariables false
namespace Go.Proofs.Ytpiadbdkiibdbaa
open Go Go.RowKit Go.Shelf
attribute [local go_sem] Oper.semAt_some frozen_alloc_lt
theorem Wheel_is (n m r : Int) (w : World) (hm : 1 ≤ m ∧ m ≤ 1000000) (hr : n % m = r) : Calls Try.prog 40 #[.int .i64 n, .int .i64 m] w fun e w' => e = .returned (.int .i64 r) ∧ ∃ x, w' = ext w x := hr ▸ Wheel_any n m w hm.1 hm.2
theorem filled_is (f h r : Int) (w : World) (hf : 0 ≤ f ∧ f ≤ 100000) (hh : 1 ≤ h ∧ h ≤ 9) (hr : enoughI f h = r) : Calls Try.prog 51 #[.int .i64 f, .int .i64 h] w fun e w' => e = .returned (.int .i64 r) ∧ ∃ x, w' = ext w x := hr ▸ filled_any f h w hf hh
section
variable {o : Oper} {w : World} {g j t s u : Nat} (ρ : Operand → Value)
theorem run_aBook (hop : o.op = .alloc 28) : (execOp ρ o).run Try.prog w = .ok (.value (.pointer (some ⟨w.heap.size, 0, none⟩))) (w.alloc (.cells #[.int .i64 0, .int .i64 0, .int .i64 0, .int .i64 0, .int .i64 0, .int .i64 0, .int .i64 0, .int .i64 0, .int .i64 0, .slice none 0 0] 28)) := by
  unfold execOp; simp [hop, go_sem]
end
set_option maxRecDepth 100000 in
set_option maxHeartbeats 2000000 in
theorem BulkNothing_bad (b : Ck) (p : Option Addr) (c : Nat) (n : Int) (w : World) (hk : CB w b p) (hv : cellV b = false) :
    Calls Try.prog 12 #[ckV b p c, .int .i64 n] w fun e w' => e = .returned (.bool true) ∧ ∃ x, w' = ext w x := by
  have HK := Lib.hid hk
  have HV := Lib.hid hv
  clear hk hv
  unfold ckV
  go_enter Try.func12, Try.ntmps12
  go_wp2_with (first
    | (go_at_call 36; refine (bsound_any b p c false _ (HK.out.bel belA) HV.out).mono ?_; rintro e w1 ⟨rfl, y, rfl⟩)
    | (go_at_call 20; refine (salted_any _).mono ?_; rintro e w1 ⟨rfl, y, rfl⟩))
  go_ret
  exact ⟨rfl, by (exact ext_of (by (exact belA)))⟩
set_option maxRecDepth 100000 in
set_option maxHeartbeats 2000000 in
theorem BulkNothing_nil (b : Ck) (p : Option Addr) (c : Nat) (n : Int) (w : World) (hk : CB w b p) (hv : cellV b = true) (hn : b.ls.length = 0) :
    Calls Try.prog 12 #[ckV b p c, .int .i64 n] w fun e w' => e = .returned (.bool true) ∧ ∃ x, w' = ext w x := by
  have HK := Lib.hid hk
  have HV := Lib.hid hv
  have HN := Lib.hid (show ckV b p c = .agg #[.int .i64 b.l0, .int .i64 b.u0, .int .i64 b.l1, .int .i64 b.u1, .int .i64 b.l2, .int .i64 b.u2, .int .i64 b.e0, .int .i64 b.e1, .int .i64 b.e2, .slice p 0 c] by unfold ckV; rw [hn])
  have HS := Lib.hid (show ∀ W, CB W b p → Calls Try.prog 36 #[.agg #[.int .i64 b.l0, .int .i64 b.u0, .int .i64 b.l1, .int .i64 b.u1, .int .i64 b.l2, .int .i64 b.u2, .int .i64 b.e0, .int .i64 b.e1, .int .i64 b.e2, .slice p 0 c]] W fun e w' => e = .returned (.bool true) ∧ ∃ x, w' = ext W x from fun W h => HN.out ▸ bsound_any b p c true W h hv)
  rw [HN.out]
  clear hk hv hn HN
  go_enter Try.func12, Try.ntmps12
  go_wp2_with (first
    | (go_at_call 36; refine (HS.out _ (HK.out.bel belA)).mono ?_; rintro e w1 ⟨rfl, y, rfl⟩)
    | (go_at_call 20; refine (salted_any _).mono ?_; rintro e w1 ⟨rfl, y, rfl⟩))
  go_ret
  exact ⟨rfl, by (exact ext_of (by (exact belA)))⟩
/-- What a walk of BulkNothing keeps. -/
structure NF (w W : World) (b : Ck) (p : Option Addr) (c ga gx : Nat) (t : Lt) (bx : List (Nat × Int × Int)) : Prop where
  bel : Below w.heap.size w W
  kb : Blk W w.heap.size 28 (ckcs b p c)
  kl : Blk W ga 62 (ltcs t)
  kx : Blk W gx 28 #[.int .i64 b.l0, .int .i64 b.u0, .int .i64 b.l1, .int .i64 b.u1, .int .i64 b.l2, .int .i64 b.u2, .int .i64 b.e0, .int .i64 b.e1, .int .i64 b.e2, .slice (some ⟨ga, 0, none⟩) 1 1]
  bx : ∀ z ∈ bx, Blk W z.1 23 #[.int .i64 z.2.1, .int .i64 z.2.2]
theorem NF.step {w W W' : World} {b : Ck} {p : Option Addr} {c ga gx : Nat} {t : Lt} {bx : List (Nat × Int × Int)} (h : NF w W b p c ga gx t bx) (hb : Below W.heap.size W W') : NF w W' b p c ga gx t bx := ⟨h.bel.trans (hb.mono h.bel.size), h.kb.bel hb, h.kl.bel hb, h.kx.bel hb, fun z hz => (h.bx z hz).bel hb⟩
theorem NF.box {w W : World} {b : Ck} {p : Option Addr} {c ga gx : Nat} {t : Lt} {bx : List (Nat × Int × Int)} (h : NF w W b p c ga gx t bx) {g : Nat} {x y : Int} (hb : Blk W g 23 #[.int .i64 x, .int .i64 y]) : NF w W b p c ga gx t (bx ++ [(g, x, y)]) := ⟨h.bel, h.kb, h.kl, h.kx, fun z hz => by
  rcases List.mem_append.1 hz with h1 | h1
  · exact h.bx z h1
  · rw [List.mem_singleton.1 h1]; exact hb⟩
/-- What region 3's operations leave. -/
def nothR (b : Ck) (p : Option Addr) (c : Nat) (gb : Nat) (n : Int) (i : Nat) (t : Lt) (z : Nat) (k : Nat) (v : Value) (w : World) : Prop :=
  match k with
  | 0 => v = ckV b p c
  | 1 => v = .int .i64 n
  | 2 => v = .pointer (some ⟨gb, 9, none⟩)
  | 3 => v = .slice p b.ls.length c
  | 4 => v = .int .i64 b.ls.length
  | 5 => v = .int .i64 i
  | 6 => ∃ g, v = ckV (b.one t) (some ⟨g, 0, none⟩) 1 ∧ z ≤ g ∧ Blk w g 62 (ltcs t)
  | 7 => ∃ g, v = .pointer (some ⟨g, 0, none⟩) ∧ z ≤ g ∧ Blk w g 28 #[.int .i64 0, .int .i64 0, .int .i64 0, .int .i64 0, .int .i64 0, .int .i64 0, .int .i64 0, .int .i64 0, .int .i64 0, .slice none 0 0]
  | _ => True
theorem nothR_kept (b : Ck) (p : Option Addr) (c : Nat) (gb : Nat) (n : Int) (i : Nat) (t : Lt) (z : Nat) : ∀ k, k < 8 → ∀ (v : Value) (w w' : World), nothR b p c gb n i t z k v w → Below w.heap.size w w' → nothR b p c gb n i t z k v w' := by
  intro k hk v w w' h hb
  match k, hk with
  | 0, _ => exact h
  | 1, _ => exact h
  | 2, _ => exact h
  | 3, _ => exact h
  | 4, _ => exact h
  | 5, _ => exact h
  | 6, _ => obtain ⟨g, h1, h2, h3⟩ := h; exact ⟨g, h1, h2, h3.bel hb⟩
  | 7, _ => obtain ⟨g, h1, h2, h3⟩ := h; exact ⟨g, h1, h2, h3.bel hb⟩
  | k + 8, hk => omega
set_option maxRecDepth 100000 in
set_option maxHeartbeats 16000000 in
theorem BulkNothing_ok (b : Ck) (p : Option Addr) (c : Nat) (n : Int) (w : World) (hk : CB w b p) (hv : cellV b = true) (hn : b.ls.length ≠ 0) :
    Calls Try.prog 12 #[ckV b p c, .int .i64 n] w fun e w' => e = .returned (.bool true) ∧ ∃ x, w' = ext w x := by
  have h4 : b.ls.length ≤ 4 := (cell_parts hv).2.2.1
  obtain ⟨i, hi⟩ := Int.eq_ofNat_of_zero_le (Int.emod_nonneg n (show (b.ls.length : Int) ≠ 0 by omega))
  have hi2 : i < b.ls.length := by
    have := Int.emod_lt_of_pos n (show (0 : Int) < (b.ls.length : Int) by omega)
    omega
  obtain ⟨t, ht⟩ := get_some b.ls i hi2
  have hlt := (cell_parts hv).2.2.2 t (List.mem_of_getElem? ht)
  obtain ⟨-, s7, s8, s9, -⟩ := lot_parts hlt
  obtain ⟨⟨⟨-, -, -, -⟩, ⟨a5, a6, a7, -⟩, a9, a10, a11, -⟩, -⟩ := cell_parts hv
  have HFI := Lib.hid (show ∀ (g : Nat) (W : World), CB W (b.one t.bare) (some ⟨g, 0, none⟩) → Calls Try.prog 21 #[.agg #[.int .i64 b.l0, .int .i64 b.u0, .int .i64 b.l1, .int .i64 b.u1, .int .i64 b.l2, .int .i64 b.u2, .int .i64 b.e0, .int .i64 b.e1, .int .i64 b.e2, .slice (some ⟨g, 0, none⟩) 1 1], .int .i64 0] W fun e' w' => e' = .returned (.tuple #[.agg #[.int .i64 t.wl, .int .i64 400], .int .i64 0]) ∧ ∃ x, w' = ext W x from fun (g : Nat) (W : World) (h : CB W (b.one t.bare) (some ⟨g, 0, none⟩)) => bFish_any (b.one t.bare) (some ⟨g, 0, none⟩) 1 0 0 t.wl 400 W h true (by show inV 0 0 (((1 : Nat) : Int) - 1) = true; decide) (by show ((1 : Nat) : Int) ≤ _; decide) (by show 1 ≤ 1; decide) (bare_open hv hlt) (ans_of (bare_fish hv hlt)))
  have HPA := Lib.hid (show ∀ (g : Nat) (W : World), CB W (b.one t.bare) (some ⟨g, 0, none⟩) → Calls Try.prog 23 #[.agg #[.int .i64 b.l0, .int .i64 b.u0, .int .i64 b.l1, .int .i64 b.u1, .int .i64 b.l2, .int .i64 b.u2, .int .i64 b.e0, .int .i64 b.e1, .int .i64 b.e2, .slice (some ⟨g, 0, none⟩) 1 1], .int .i64 0] W fun e' w' => e' = .returned (.tuple #[.agg #[.int .i64 0, .int .i64 (400 - t.wl)], .int .i64 0]) ∧ ∃ x, w' = ext W x from fun (g : Nat) (W : World) (h : CB W (b.one t.bare) (some ⟨g, 0, none⟩)) => bPacked_any (b.one t.bare) (some ⟨g, 0, none⟩) 1 0 0 0 (400 - t.wl) W h true (by show inV 0 0 (((1 : Nat) : Int) - 1) = true; decide) (by show ((1 : Nat) : Int) ≤ _; decide) (by show 1 ≤ 1; decide) (bare_open hv hlt) (ans_of (bare_packed hv hlt)))
  have HCO := Lib.hid (show ∀ (g : Nat) (W : World), CB W (b.one t.bare) (some ⟨g, 0, none⟩) → Calls Try.prog 25 #[.agg #[.int .i64 b.l0, .int .i64 b.u0, .int .i64 b.l1, .int .i64 b.u1, .int .i64 b.l2, .int .i64 b.u2, .int .i64 b.e0, .int .i64 b.e1, .int .i64 b.e2, .slice (some ⟨g, 0, none⟩) 1 1], .int .i64 0, .int .i64 1] W fun e' w' => e' = .returned (.tuple #[.agg #[.int .i64 (enoughI t.wl b.u1), .int .i64 (enoughI 400 b.l1)], .int .i64 0]) ∧ ∃ x, w' = ext W x from fun (g : Nat) (W : World) (h : CB W (b.one t.bare) (some ⟨g, 0, none⟩)) => bCount_any (b.one t.bare) (some ⟨g, 0, none⟩) 1 0 1 true true 0 (enoughI t.wl b.u1) (enoughI 400 b.l1) W h (by decide) (by show inV 0 0 (((1 : Nat) : Int) - 1) = true; decide) (by show ((1 : Nat) : Int) ≤ _; decide) (by show 1 ≤ 1; decide) (bare_open hv hlt) (ans_of (bare_rows hv hlt)))
  have HCA := Lib.hid (show ∀ (g : Nat) (W : World), CB W (b.one t.bare) (some ⟨g, 0, none⟩) → Calls Try.prog 29 #[.agg #[.int .i64 b.l0, .int .i64 b.u0, .int .i64 b.l1, .int .i64 b.u1, .int .i64 b.l2, .int .i64 b.u2, .int .i64 b.e0, .int .i64 b.e1, .int .i64 b.e2, .slice (some ⟨g, 0, none⟩) 1 1]] W fun e' w' => e' = .returned (.tuple #[.agg #[.int .i64 0, .int .i64 (enoughI (400 - t.wl) b.l2)], .int .i64 0]) ∧ ∃ x, w' = ext W x from fun (g : Nat) (W : World) (h : CB W (b.one t.bare) (some ⟨g, 0, none⟩)) => bCasks_any (b.one t.bare) (some ⟨g, 0, none⟩) 1 0 0 (enoughI (400 - t.wl) b.l2) W h (bare_open hv hlt) (ans_of (bare_casks hv hlt)))
  have HK := Lib.hid hk
  have HV := Lib.hid hv
  have HI := Lib.hid hi
  have HT := Lib.hid ht
  have HR1 := Lib.hid (show 1 ≤ (b.ls.length : Int) ∧ (b.ls.length : Int) ≤ 1000000 by omega)
  have HL4 := Lib.hid (show (b.ls.length : Int) ≤ 1000 by omega)
  have hz0 : ((b.ls.length : Int) == 0) = false := by rw [beq_eq_false_iff_ne]; omega
  clear hk hv hi ht hlt h4 hn hi2
  go_enter Try.func12, Try.ntmps12
  go_upto_region 1 with fail
  generalize hW : World.alloc _ _ = W
  have KB := Lib.hid (show Blk W w.heap.size 28 (ckcs b p c) by rw [← hW]; exact Blk.new rfl)
  have HBW := Lib.hid (show Below w.heap.size w W by rw [← hW]; (exact belA))
  have HCB := Lib.hid (HK.out.bel HBW.out)
  clear hW
  have hzW := HBW.out.size
  have kb := KB.out
  unfold ckcs at kb
  obtain ⟨d0, d1, d2, d3, d4, d5, d6, d7, d8, d9⟩ := Blk.c10 kb
  have lb := kb.lt
  clear kb
  go_upto_region 3 with (go_at_call 36; refine (bsound_any b p c true _ HCB.out HV.out).mono ?_; rintro e w1 ⟨rfl, y, rfl⟩)
  clear d0 d1 d2 d3 d4 d5 d6 d7 d8 d9 lb
  generalize hW : ext W _ = W1
  have KB1 := Lib.hid (show Blk W1 w.heap.size 28 (ckcs b p c) by rw [← hW]; exact KB.out.ext _)
  have HB1 := Lib.hid (show Below w.heap.size w W1 by rw [← hW]; exact HBW.out.trans ((below_ext _ _).mono hzW))
  have HC1 := Lib.hid (HK.out.bel HB1.out)
  have hz1 := HB1.out.size
  clear hW KB HCB HBW hzW
  refine wp_region_flow_back 8 121 (nothR b p c w.heap.size n i t W1.heap.size) (by kernel_rfl) (by kernel_rfl) rfl (nothR_kept _ _ _ _ _ _ _ _) ?_ ?_
  · intro k hin a X g1 g2 g3 g4 g5 KK hKK
    match k, hin with
    | 0, _ => exact st_val rfl (wanted_none rfl) (run_lBulk _ rfl (g3 2 (by kernel_rfl)) (KB1.out.bel g5)) (hKK _ _ rfl (Below.refl _ _))
    | 1, _ => exact st_move rfl rfl (wanted_none rfl) (g3 1 (by kernel_rfl)) (hKK _ _ rfl (Below.refl _ _))
    | 2, _ => exact st_val rfl (wanted_none rfl) (run_fBulk2 _ rfl (g3 2 (by kernel_rfl)) (KB1.out.bel g5).lt) (hKK _ _ rfl (Below.refl _ _))
    | 3, _ => exact st_val rfl (wanted_none rfl) (run_lLots _ rfl (g4 2 (by kernel_rfl)) ((KB1.out.bel g5).cell 9)) (hKK _ _ rfl (Below.refl _ _))
    | 4, _ => exact st_val rfl (wanted_none rfl) (run_lenLots _ rfl (g4 3 (by kernel_rfl))) (hKK _ _ rfl (Below.refl _ _))
    | 5, _ =>
      refine st_call rfl rfl (wanted_none rfl) (args2 (g4 1 (by kernel_rfl)) (g4 4 (by kernel_rfl))) (run_enter Try.func40 (by kernel_rfl) (by kernel_rfl) _) ?_
      refine (Wheel_is n _ i X HR1.out HI.out).mono ?_
      rintro e' w1 ⟨rfl, x, rfl⟩
      exact ⟨_, rfl, hKK _ _ rfl (below_ext _ x)⟩
    | 6, _ =>
      refine st_call rfl rfl (wanted_none rfl) (args2 (g4 0 (by kernel_rfl)) (g4 5 (by kernel_rfl))) (run_enter Try.func41 (by kernel_rfl) (by kernel_rfl) _) ?_
      refine (alone_any b p c i t X (HC1.out.bel g5) HT.out HL4.out).mono ?_
      rintro e' w1 ⟨g, rfl, hg, kl, x, rfl⟩
      exact ⟨_, rfl, hKK _ _ ⟨g, rfl, by have := g5.size; omega, kl⟩ (below_ext _ x)⟩
    | 7, _ => exact st_valw rfl (wanted_none rfl) (run_aBook _ rfl) (hKK _ _ ⟨_, rfl, by have := g5.size; omega, Blk.new rfl⟩ ((Below.refl _ _).alloc (Nat.le_refl _) _))
    | k + 8, hk => omega
  · intro vs T hvs hBT
    have v0 : vs 0 = _ := hvs 0 (by omega)
    have v1 : vs 1 = _ := hvs 1 (by omega)
    have v2 : vs 2 = _ := hvs 2 (by omega)
    have v3 : vs 3 = _ := hvs 3 (by omega)
    have v4 : vs 4 = _ := hvs 4 (by omega)
    have v5 : vs 5 = _ := hvs 5 (by omega)
    obtain ⟨ga, v6, hga, kl⟩ := hvs 6 (by omega)
    obtain ⟨gx, v7, hgx, kx⟩ := hvs 7 (by omega)
    simp only [putAll, v0, v1, v2, v3, v4, v5, v6, v7]
    clear v0 v1 v2 v3 v4 v5 v6 v7 hvs
    simp only [dstOf, Act.put, List.getElem?_toArray, List.getElem?_cons_zero, List.getElem?_cons_succ, Option.bind_some, Option.getD_some, List.setIfInBounds_toArray, List.set_cons_succ, List.set_cons_zero, List.drop_succ_cons, List.drop_zero]
    have HBT := Lib.hid (HB1.out.trans (hBT.mono hz1))
    have KBT := Lib.hid (KB1.out.bel hBT)
    have KL := Lib.hid kl
    have KX := Lib.hid kx
    have HNE := Lib.hid (show ga ≠ gx from kl.ne kx (by decide))
    have hgb : w.heap.size < W1.heap.size := KB1.out.lt
    have HGB := Lib.hid (show w.heap.size ≠ gx by omega)
    have HGA := Lib.hid (show w.heap.size < ga by omega)
    have HGX := Lib.hid (show w.heap.size < gx by omega)
    clear hgb hBT HC1 KB1 HB1 hz1
    obtain ⟨r0, r1, r2, r3, r4, r5, r6, r7, r8, r9⟩ := Blk.c10 kx
    obtain ⟨f0, f1, f2, f3, f4, f5, f6, f7, f8, f9⟩ := Blk.f10 kx
    have lx := kx.lt
    clear kx kl
    unfold ckV
    go_upto_region 4 with fail
    have kx2 : Blk ((((((((((T.setCell ⟨gx, 0, none⟩ (.int .i64 b.l0)).setCell ⟨gx, 1, none⟩ (.int .i64 b.u0)).setCell ⟨gx, 2, none⟩ (.int .i64 b.l1)).setCell ⟨gx, 3, none⟩ (.int .i64 b.u1)).setCell ⟨gx, 4, none⟩ (.int .i64 b.l2)).setCell ⟨gx, 5, none⟩ (.int .i64 b.u2)).setCell ⟨gx, 6, none⟩ (.int .i64 b.e0)).setCell ⟨gx, 7, none⟩ (.int .i64 b.e1)).setCell ⟨gx, 8, none⟩ (.int .i64 b.e2)).setCell ⟨gx, 9, none⟩ (.slice (some ⟨ga, 0, none⟩) 1 1)) gx 28 #[.int .i64 b.l0, .int .i64 b.u0, .int .i64 b.l1, .int .i64 b.u1, .int .i64 b.l2, .int .i64 b.u2, .int .i64 b.e0, .int .i64 b.e1, .int .i64 b.e2, .slice (some ⟨ga, 0, none⟩) 1 1] := KX.out.setB10 (.int .i64 b.l0) (.int .i64 b.u0) (.int .i64 b.l1) (.int .i64 b.u1) (.int .i64 b.l2) (.int .i64 b.u2) (.int .i64 b.e0) (.int .i64 b.e1) (.int .i64 b.e2) (.slice (some ⟨ga, 0, none⟩) 1 1)
    have kl2 := blk_setB10 KL.out HNE.out (.int .i64 b.l0) (.int .i64 b.u0) (.int .i64 b.l1) (.int .i64 b.u1) (.int .i64 b.l2) (.int .i64 b.u2) (.int .i64 b.e0) (.int .i64 b.e1) (.int .i64 b.e2) (.slice (some ⟨ga, 0, none⟩) 1 1)
    have kb2 := blk_setB10 KBT.out HGB.out (.int .i64 b.l0) (.int .i64 b.u0) (.int .i64 b.l1) (.int .i64 b.u1) (.int .i64 b.l2) (.int .i64 b.u2) (.int .i64 b.e0) (.int .i64 b.e1) (.int .i64 b.e2) (.slice (some ⟨ga, 0, none⟩) 1 1)
    have hb2 := below_setB10 HBT.out (g := gx) (by have := HGX.out; omega) (.int .i64 b.l0) (.int .i64 b.u0) (.int .i64 b.l1) (.int .i64 b.u1) (.int .i64 b.l2) (.int .i64 b.u2) (.int .i64 b.e0) (.int .i64 b.e1) (.int .i64 b.e2) (.slice (some ⟨ga, 0, none⟩) 1 1)
    refine gen_worldB ?_
    intro T2 hT2
    have HN := Lib.hid (show NF w T2 b p c ga gx t [] by rw [← hT2]; exact ⟨hb2, kb2, kl2, kx2, fun z hz => by simp at hz⟩)
    clear hT2 kx2 kl2 kb2 hb2 KX KL KBT HBT r0 r1 r2 r3 r4 r5 r6 r7 r8 r9 f0 f1 f2 f3 f4 f5 f6 f7 f8 f9 lx
    have kx := HN.out.kx
    obtain ⟨r0, r1, r2, r3, r4, r5, r6, r7, r8, r9⟩ := Blk.c10 kx
    have lx := kx.lt
    clear kx
    have kl := HN.out.kl
    unfold ltcs at kl
    obtain ⟨q0, q1, q2, q3, q4⟩ := Blk.c5 kl
    obtain ⟨f0, f1, f2, f3, f4⟩ := Blk.f5 kl
    have ll := kl.lt
    clear kl
    go_upto_region 5 with fail
    have kl2 : Blk (((T2.setCell ⟨ga, 0, none⟩ (.int .i64 (-1))).setCell ⟨ga, 1, none⟩ (.int .i64 (-1))).setCell ⟨ga, 2, none⟩ (.int .i64 (-1))) ga 62 (ltcs t.bare) := by simpa [ltcs, Lt.bare] using ((HN.out.kl.set 0 (.int .i64 (-1))).set 1 (.int .i64 (-1))).set 2 (.int .i64 (-1))
    have kx2 := ((HN.out.kx.setOther HNE.out.symm 0 (.int .i64 (-1))).setOther HNE.out.symm 1 (.int .i64 (-1))).setOther HNE.out.symm 2 (.int .i64 (-1))
    have kb2 := ((HN.out.kb.setOther (Nat.ne_of_lt HGA.out) 0 (.int .i64 (-1))).setOther (Nat.ne_of_lt HGA.out) 1 (.int .i64 (-1))).setOther (Nat.ne_of_lt HGA.out) 2 (.int .i64 (-1))
    have hb2 := ((HN.out.bel.setCell (p := ⟨ga, 0, none⟩) (by have := HGA.out; dsimp only; omega) (.int .i64 (-1))).setCell (p := ⟨ga, 1, none⟩) (by have := HGA.out; dsimp only; omega) (.int .i64 (-1))).setCell (p := ⟨ga, 2, none⟩) (by have := HGA.out; dsimp only; omega) (.int .i64 (-1))
    refine gen_worldB ?_
    intro T3 hT3
    have HM := Lib.hid (show NF w T3 b p c ga gx t.bare [] by rw [← hT3]; exact ⟨hb2, kb2, kl2, kx2, fun z hz => by simp at hz⟩)
    clear hT3 kx2 kl2 kb2 hb2 HN r0 r1 r2 r3 r4 r5 r6 r7 r8 r9 q0 q1 q2 q3 q4 f0 f1 f2 f3 f4 ll lx
    have HF := HM
    clear HM
    have kx := HF.out.kx
    obtain ⟨r0, r1, r2, r3, r4, r5, r6, r7, r8, r9⟩ := Blk.c10 kx
    have lx := kx.lt
    clear kx
    have kl := HF.out.kl
    simp only [ltcs, Lt.bare] at kl
    obtain ⟨q0, q1, q2, q3, q4⟩ := Blk.c5 kl
    have ll := kl.lt
    clear kl
    go_upto_region 6 with fail
    clear q0 q1 q2 q3 q4 ll
    go_upto_region 7 with (go_at_call 21; refine (HFI.out ga _ (one_lots HF.out.kl)).mono ?_; rintro e w1 ⟨rfl, y, hw⟩; have HF := Lib.hid (HF.out.step (show Below T3.heap.size T3 w1 by rw [hw]; (exact belC))); clear hw)
    clear r0 r1 r2 r3 r4 r5 r6 r7 r8 r9 lx
    generalize hW : World.alloc w1 _ = w2
    have HF := Lib.hid ((HF.out.step (show Below w1.heap.size w1 w2 by rw [← hW]; (exact belC))).box (g := w1.heap.size) (x := t.wl) (y := 400) (by rw [← hW]; exact Blk.new rfl))
    clear hW
    generalize w1.heap.size = gb0 at *
    have kx := HF.out.kx
    obtain ⟨r0, r1, r2, r3, r4, r5, r6, r7, r8, r9⟩ := Blk.c10 kx
    have lx := kx.lt
    clear kx
    go_upto_region 8 with (go_at_call 23; refine (HPA.out ga _ (one_lots HF.out.kl)).mono ?_; rintro e w3 ⟨rfl, y, hw⟩; have HF := Lib.hid (HF.out.step (show Below w2.heap.size w2 w3 by rw [hw]; (exact belC))); clear hw)
    clear r0 r1 r2 r3 r4 r5 r6 r7 r8 r9 lx
    generalize hW : World.alloc w3 _ = w4
    have HF := Lib.hid ((HF.out.step (show Below w3.heap.size w3 w4 by rw [← hW]; (exact belC))).box (g := w3.heap.size) (x := 0) (y := (400 - t.wl)) (by rw [← hW]; exact Blk.new rfl))
    clear hW
    generalize w3.heap.size = gb1 at *
    have kx := HF.out.kx
    obtain ⟨r0, r1, r2, r3, r4, r5, r6, r7, r8, r9⟩ := Blk.c10 kx
    have lx := kx.lt
    clear kx
    go_upto_region 9 with (go_at_call 25; refine (HCO.out ga _ (one_lots HF.out.kl)).mono ?_; rintro e w5 ⟨rfl, y, hw⟩; have HF := Lib.hid (HF.out.step (show Below w4.heap.size w4 w5 by rw [hw]; (exact belC))); clear hw)
    clear r0 r1 r2 r3 r4 r5 r6 r7 r8 r9 lx
    generalize hW : World.alloc w5 _ = w6
    have HF := Lib.hid ((HF.out.step (show Below w5.heap.size w5 w6 by rw [← hW]; (exact belC))).box (g := w5.heap.size) (x := (enoughI t.wl b.u1)) (y := (enoughI 400 b.l1)) (by rw [← hW]; exact Blk.new rfl))
    clear hW
    generalize w5.heap.size = gb2 at *
    have kx := HF.out.kx
    obtain ⟨r0, r1, r2, r3, r4, r5, r6, r7, r8, r9⟩ := Blk.c10 kx
    have lx := kx.lt
    clear kx
    go_upto_region 10 with (go_at_call 29; refine (HCA.out ga _ (one_lots HF.out.kl)).mono ?_; rintro e w7 ⟨rfl, y, hw⟩; have HF := Lib.hid (HF.out.step (show Below w6.heap.size w6 w7 by rw [hw]; (exact belC))); clear hw)
    clear r0 r1 r2 r3 r4 r5 r6 r7 r8 r9 lx
    generalize hW : World.alloc w7 _ = w8
    have HF := Lib.hid ((HF.out.step (show Below w7.heap.size w7 w8 by rw [← hW]; (exact belC))).box (g := w7.heap.size) (x := 0) (y := (enoughI (400 - t.wl) b.l2)) (by rw [← hW]; exact Blk.new rfl))
    clear hW
    generalize w7.heap.size = gb3 at *
    have kx := HF.out.kx
    obtain ⟨r0, r1, r2, r3, r4, r5, r6, r7, r8, r9⟩ := Blk.c10 kx
    have lx := kx.lt
    clear kx
    clear r0 r1 r2 r3 r4 r5 r6 r7 r8 r9 lx
    have kb := HF.out.kb
    unfold ckcs at kb
    obtain ⟨d0, d1, d2, d3, d4, d5, d6, d7, d8, d9⟩ := Blk.c10 kb
    have lb := kb.lt
    clear kb
    go_upto_region 11 with fail
    generalize hW : World.alloc w8 _ = w9
    have HF := Lib.hid ((HF.out.step (show Below w8.heap.size w8 w9 by rw [← hW]; (exact belC))).box (g := w8.heap.size) (x := b.l1) (y := b.u1) (by rw [← hW]; exact Blk.new rfl))
    clear hW d0 d1 d2 d3 d4 d5 d6 d7 d8 d9 lb
    generalize w8.heap.size = gb4 at *
    have kb := HF.out.kb
    unfold ckcs at kb
    obtain ⟨d0, d1, d2, d3, d4, d5, d6, d7, d8, d9⟩ := Blk.c10 kb
    have lb := kb.lt
    clear kb
    have k0 := HF.out.bx (gb0, t.wl, 400) (by simp)
    dsimp only at k0
    obtain ⟨x00, x01⟩ := Blk.c2 k0
    have y0 := k0.lt
    clear k0
    have k1 := HF.out.bx (gb1, 0, (400 - t.wl)) (by simp)
    dsimp only at k1
    obtain ⟨x10, x11⟩ := Blk.c2 k1
    have y1 := k1.lt
    clear k1
    have k2 := HF.out.bx (gb2, (enoughI t.wl b.u1), (enoughI 400 b.l1)) (by simp)
    dsimp only at k2
    obtain ⟨x20, x21⟩ := Blk.c2 k2
    have y2 := k2.lt
    clear k2
    have k3 := HF.out.bx (gb3, 0, (enoughI (400 - t.wl) b.l2)) (by simp)
    dsimp only at k3
    obtain ⟨x30, x31⟩ := Blk.c2 k3
    have y3 := k3.lt
    clear k3
    have k4 := HF.out.bx (gb4, b.l1, b.u1) (by simp)
    dsimp only at k4
    obtain ⟨x40, x41⟩ := Blk.c2 k4
    have y4 := k4.lt
    clear k4
    have HBL := Lib.hid HF.out.bel
    clear HF HFI HPA HCO HCA HK HV HI HT HR1 HL4 hz0 HNE HGB HGA HGX hga hgx
    generalize he1 : enoughI t.wl b.u1 = E1
    generalize he2 : enoughI 400 b.l1 = E2
    generalize he3 : enoughI (400 - t.wl) b.l2 = E3
    have H1 := Lib.hid he1
    have H2 := Lib.hid he2
    have H3 := Lib.hid he3
    rw [he1] at x20
    rw [he2] at x21
    rw [he3] at x31
    clear he1 he2 he3
    have b0 : 0 ≤ t.wl ∧ t.wl ≤ 100000 := by omega
    have b1 : 1 ≤ b.u1 ∧ b.u1 ≤ 9 := by omega
    have b2 : 0 ≤ (400 : Int) ∧ (400 : Int) ≤ 100000 := by omega
    have b3 : 1 ≤ b.l1 ∧ b.l1 ≤ 9 := by omega
    have b4 : 0 ≤ 400 - t.wl ∧ 400 - t.wl ≤ 100000 := by omega
    have b5 : 1 ≤ b.l2 ∧ b.l2 ≤ 9 := by omega
    have c0 : -9223372036854775808 ≤ 400 - t.wl := by omega
    have c1 : 400 - t.wl < 9223372036854775808 := by omega
    clear s7 s8 s9 a5 a6 a7 a9 a10 a11
    refine wp_region_ext (by kernel_rfl) (by kernel_rfl) ?_
    repeat (go_big_quiet_step (first
      | (go_at_call 52; exact quiet_ext (To_any _ _ _))
      | (go_at_call 51; exact quiet_ext (filled_is _ _ _ _ b0 b1 H1.out))
      | (go_at_call 51; exact quiet_ext (filled_is _ _ _ _ b2 b3 H2.out))
      | (go_at_call 51; exact quiet_ext (filled_is _ _ _ _ b4 b5 H3.out))
      | (go_at_call 20; exact quiet_ext (salted_any _))))
    (refine wpQuiet_nil ?_; rintro _ ⟨x, rfl⟩)
    go_wp2_with fail
    go_ret
    exact ⟨rfl, ext_of (HBL.out.trans ((below_ext _ _).mono HBL.out.size))⟩
theorem BulkNothing_any (b : Ck) (p : Option Addr) (c : Nat) (n : Int) (w : World) (hk : CB w b p) :
    Calls Try.prog 12 #[ckV b p c, .int .i64 n] w fun e w' => e = .returned (.bool true) ∧ ∃ x, w' = ext w x := by
  cases hv : cellV b
  · exact BulkNothing_bad b p c n w hk hv
  · by_cases hn : b.ls.length = 0
    · exact BulkNothing_nil b p c n w hk hv hn
    · exact BulkNothing_ok b p c n w hk hv hn
end Go.Proofs.Ytpiadbdkiibdbaa

