/- Package bulk: how a book is opened; Right, Wrong, Weigh. -/
import Derived.Test.YtpiadbdkiibdbaaQB5zd
set_option linter.unusedSimpArgs false
set_option linter.unusedVariables false
namespace Go.Proofs.Ytpiadbdkiibdbaa
open Go Go.RowKit Go.Shelf
attribute [local go_sem] Oper.semAt_some frozen_alloc_lt
theorem cell_parts {b : Ck} (h : cellV b = true) : ((1 ≤ b.l0 ∧ b.l0 ≤ b.u0 ∧ b.u0 ≤ 9 ∧ b.u0 - b.l0 ≤ 3) ∧ (1 ≤ b.l1 ∧ b.l1 ≤ b.u1 ∧ b.u1 ≤ 9 ∧ b.u1 - b.l1 ≤ 3) ∧ (1 ≤ b.l2 ∧ b.l2 ≤ b.u2 ∧ b.u2 ≤ 9 ∧ b.u2 - b.l2 ≤ 3)) ∧ ((0 ≤ b.e0 ∧ b.e0 ≤ 9) ∧ (0 ≤ b.e1 ∧ b.e1 ≤ 9) ∧ (0 ≤ b.e2 ∧ b.e2 ≤ 9)) ∧ b.ls.length ≤ 4 ∧ ∀ t ∈ b.ls, lotV t = true := by
  unfold cellV measV lotsV at h
  simp only [Bool.and_eq_true, decide_eq_true_eq, List.all_eq_true] at h
  obtain ⟨⟨⟨⟨h0, e0⟩, h1, e1⟩, h2, e2⟩, h3, h4⟩ := h
  exact ⟨⟨of_spanV h0, of_spanV h1, of_spanV h2⟩, ⟨of_inV e0, of_inV e1, of_inV e2⟩, h3, h4⟩
theorem cell_holds {b : Ck} (h : cellV b = true) : HoldsOK b := fun k => by
  obtain ⟨⟨h0, h1, h2⟩, -⟩ := cell_parts h
  rcases k with _ | _ | k <;> simp only [Ck.lo, Ck.hi] <;> omega
theorem told_in {t : Int} (h : toldV t = true) : -1 ≤ t ∧ t ≤ 40 := by
  unfold toldV at h
  rw [Bool.or_eq_true, decide_eq_true_eq] at h
  rcases h with h | h
  · omega
  · have := of_inV h; omega
theorem lot_parts {t : Lt} (h : lotV t = true) : ((-1 ≤ t.t0 ∧ t.t0 ≤ 40) ∧ (-1 ≤ t.t1 ∧ t.t1 ≤ 40) ∧ (-1 ≤ t.t2 ∧ t.t2 ≤ 40)) ∧ 0 ≤ t.wl ∧ t.wl ≤ t.wh ∧ t.wh ≤ 20 ∧ t.wh - t.wl ≤ 5 := by
  unfold lotV at h
  simp only [Bool.and_eq_true] at h
  obtain ⟨⟨⟨h0, h1⟩, h2⟩, h3⟩ := h
  exact ⟨⟨told_in h0, told_in h1, told_in h2⟩, of_spanV h3⟩
theorem cell_bk {b : Ck} (h : cellV b = true) : BkOK b := by
  obtain ⟨-, ⟨e0, e1, e2⟩, hn, hl⟩ := cell_parts h
  refine ⟨fun t ht => ⟨fun i => ?_, fun i => ?_, ?_⟩, hn⟩
  · rcases i with _ | _ | i <;> simp only [Ck.err] <;> omega
  · obtain ⟨⟨t0, t1, t2⟩, -⟩ := lot_parts (hl t ht)
    rcases i with _ | _ | i <;> simp only [Lt.told] <;> omega
  · obtain ⟨-, h1, h2, h3, -⟩ := lot_parts (hl t ht)
    exact ⟨h1, h2, h3⟩
theorem flat_le {α β : Type} {f : α → List β} {n : Nat} : ∀ {l : List α}, (∀ x ∈ l, (f x).length ≤ n) → (l.flatMap f).length ≤ n * l.length
  | [], _ => by simp
  | a :: l, h => by
    have h1 := h a (by simp)
    have h2 := flat_le (f := f) (n := n) (l := l) (fun x hx => h x (by simp [hx]))
    rw [List.flatMap_cons, List.length_append, List.length_cons, Nat.mul_succ]
    omega
theorem nums_len (a b : Int) : (numsL a b).length = (b - a + 1).toNat := by simp [numsL, nupto]
theorem cell_stores {b : Ck} (h : cellV b = true) : storesL b ≠ [] ∧ (storesL b).length ≤ 1000 := by
  obtain ⟨⟨h0, h1, h2⟩, -⟩ := cell_parts h
  constructor
  · exact List.ne_nil_of_mem (mem_storesL.2 (show MsIn b ⟨b.l0, b.l1, b.l2⟩ from ⟨⟨Int.le_refl _, h0.2.1⟩, ⟨Int.le_refl _, h1.2.1⟩, Int.le_refl _, h2.2.1⟩))
  · unfold storesL
    have k2 : ∀ x y : Int, ((numsL b.l2 b.u2).map fun z => (⟨x, y, z⟩ : Ms)).length ≤ 9 := fun x y => by
      rw [List.length_map, nums_len]; omega
    have k1 : ∀ x : Int, ((numsL b.l1 b.u1).flatMap fun y => (numsL b.l2 b.u2).map fun z => (⟨x, y, z⟩ : Ms)).length ≤ 81 := fun x => by
      have := flat_le (f := fun y => (numsL b.l2 b.u2).map fun z => (⟨x, y, z⟩ : Ms)) (n := 9) (l := numsL b.l1 b.u1) (fun y _ => k2 x y)
      rw [nums_len] at this
      omega
    have := flat_le (f := fun x => (numsL b.l1 b.u1).flatMap fun y => (numsL b.l2 b.u2).map fun z => (⟨x, y, z⟩ : Ms)) (n := 81) (l := numsL b.l0 b.u0) (fun x _ => k1 x)
    rw [nums_len] at this
    omega
theorem Blk.setB10 {w : World} {g : Nat} {t : TypeId} {a0 a1 a2 a3 a4 a5 a6 a7 a8 a9 : Value} (k : Blk w g t #[a0, a1, a2, a3, a4, a5, a6, a7, a8, a9]) (v0 v1 v2 v3 v4 v5 v6 v7 v8 v9 : Value) : Blk ((((((((((w.setCell ⟨g, 0, none⟩ v0).setCell ⟨g, 1, none⟩ v1).setCell ⟨g, 2, none⟩ v2).setCell ⟨g, 3, none⟩ v3).setCell ⟨g, 4, none⟩ v4).setCell ⟨g, 5, none⟩ v5).setCell ⟨g, 6, none⟩ v6).setCell ⟨g, 7, none⟩ v7).setCell ⟨g, 8, none⟩ v8).setCell ⟨g, 9, none⟩ v9) g t #[v0, v1, v2, v3, v4, v5, v6, v7, v8, v9] := by
  have h := ((((((((((k.set 0 v0).set 1 v1).set 2 v2).set 3 v3).set 4 v4).set 5 v5).set 6 v6).set 7 v7).set 8 v8).set 9 v9)
  simpa using h
theorem below_setB10 {n : Nat} {w0 w : World} (h : Below n w0 w) {g : Nat} (hg : n ≤ g) (v0 v1 v2 v3 v4 v5 v6 v7 v8 v9 : Value) : Below n w0 ((((((((((w.setCell ⟨g, 0, none⟩ v0).setCell ⟨g, 1, none⟩ v1).setCell ⟨g, 2, none⟩ v2).setCell ⟨g, 3, none⟩ v3).setCell ⟨g, 4, none⟩ v4).setCell ⟨g, 5, none⟩ v5).setCell ⟨g, 6, none⟩ v6).setCell ⟨g, 7, none⟩ v7).setCell ⟨g, 8, none⟩ v8).setCell ⟨g, 9, none⟩ v9) :=
  (((((((((h.setCell (by dsimp only; omega) _).setCell (by dsimp only; omega) _).setCell (by dsimp only; omega) _).setCell (by dsimp only; omega) _).setCell (by dsimp only; omega) _).setCell (by dsimp only; omega) _).setCell (by dsimp only; omega) _).setCell (by dsimp only; omega) _).setCell (by dsimp only; omega) _).setCell (by dsimp only; omega) _
/-- The error with which a book is opened. -/
def openE (b : Ck) (asked : Bool) : Int := if cellV b then (if asked then (if rightC b then 0 else 52) else 51) else 50
theorem openE_yes {b : Ck} {asked : Bool} (h : openE b asked = 0) : cellV b = true ∧ asked = true ∧ rightC b = true := by
  unfold openE at h
  cases h1 : cellV b <;> cases asked <;> cases h3 : rightC b <;> simp [h1, h3] at h ⊢
theorem openE_no {b : Ck} {asked : Bool} (h : openE b asked ≠ 0) : openE b asked = 50 ∨ openE b asked = 51 ∨ openE b asked = 52 := by
  unfold openE at h ⊢
  cases h1 : cellV b <;> cases asked <;> cases h3 : rightC b <;> simp [h1, h3] at h ⊢
/-- The book that is handed back. -/
def zeroC : Ck := ⟨0, 0, 0, 0, 0, 0, 0, 0, 0, []⟩
def opV (b : Ck) (p : Option Addr) (c : Nat) (e : Int) : Value := if e = 0 then ckV b p c else ckV zeroC none 0
set_option maxRecDepth 100000 in
set_option maxHeartbeats 8000000 in
theorem open_any (b : Ck) (p : Option Addr) (c : Nat) (asked : Bool) (e : Int) (w : World) (hk : CB w b p) (he : openE b asked = e) :
    Calls Try.prog 62 #[ckV b p c, .bool asked] w fun e' w' => e' = .returned (.tuple #[opV b p c e, .int .i64 e]) ∧ ∃ x, w' = ext w x := by
  have HK := Lib.hid hk
  have HE := Lib.hid he
  clear hk he
  unfold ckV
  go_enter Try.func62, Try.ntmps62
  go_upto_region 1 with fail
  generalize hV : World.alloc _ _ = V
  have hBV : Below w.heap.size w V := by rw [← hV]; (exact belA)
  have kc : Blk V w.heap.size 28 (ckcs b p c) := by rw [← hV]; exact (Blk.new rfl).alloc _
  have kr : Blk V (w.heap.size + 1) 76 (ckcs zeroC none 0) := by rw [← hV]; exact Blk.new (by simp)
  have HBV := Lib.hid hBV
  have HCV := Lib.hid (HK.out.bel hBV)
  have KR := Lib.hid kr
  have KC := Lib.hid kc
  have lc := kc.lt
  clear hV hBV kr
  obtain ⟨q, hq⟩ : ∃ q, cellV b = q := ⟨_, rfl⟩
  have HQ := Lib.hid hq
  clear hq
  unfold ckcs at kc
  have c0 := kc.cell 0
  have c1 := kc.cell 1
  have c2 := kc.cell 2
  have c3 := kc.cell 3
  have c4 := kc.cell 4
  have c5 := kc.cell 5
  have c6 := kc.cell 6
  have c7 := kc.cell 7
  have c8 := kc.cell 8
  have c9 := kc.cell 9
  simp only [List.size_toArray, List.length_cons, List.length_nil, Nat.reduceAdd, Nat.reduceLT, getElem?_pos, List.getElem_toArray, List.getElem_cons_zero, List.getElem_cons_succ] at c0 c1 c2 c3 c4 c5 c6 c7 c8 c9
  clear kc
  cases q
  · obtain rfl : e = 50 := by rw [← HE.out]; unfold openE; rw [HQ.out]; rfl
    go_upto_region 2 with (go_at_call 16; refine (bCheck_any b p c false _ HCV.out HQ.out).mono ?_; rintro e' w1 ⟨rfl, y, hw⟩; have HB1 := Lib.hid (show Below V.heap.size V w1 by rw [hw]; exact below_ext _ _); clear hw)
    clear c0 c1 c2 c3 c4 c5 c6 c7 c8 c9
    have kr := KR.out.bel HB1.out
    have KR1 := Lib.hid kr
    unfold ckcs zeroC at kr
    have r0 := kr.cell 0
    have r1 := kr.cell 1
    have r2 := kr.cell 2
    have r3 := kr.cell 3
    have r4 := kr.cell 4
    have r5 := kr.cell 5
    have r6 := kr.cell 6
    have r7 := kr.cell 7
    have r8 := kr.cell 8
    have r9 := kr.cell 9
    simp only [List.size_toArray, List.length_cons, List.length_nil, Nat.reduceAdd, Nat.reduceLT, getElem?_pos, List.getElem_toArray, List.getElem_cons_zero, List.getElem_cons_succ] at r0 r1 r2 r3 r4 r5 r6 r7 r8 r9
    have f0 := kr.frozen 0
    have f1 := kr.frozen 1
    have f2 := kr.frozen 2
    have f3 := kr.frozen 3
    have f4 := kr.frozen 4
    have f5 := kr.frozen 5
    have f6 := kr.frozen 6
    have f7 := kr.frozen 7
    have f8 := kr.frozen 8
    have f9 := kr.frozen 9
    have lr := kr.lt
    have HBX := Lib.hid (HBV.out.trans (HB1.out.mono HBV.out.size))
    clear kr
    go_wp2_with fail
    have hF := KR1.out.setB10 (.int .i64 0) (.int .i64 0) (.int .i64 0) (.int .i64 0) (.int .i64 0) (.int .i64 0) (.int .i64 0) (.int .i64 0) (.int .i64 0) (.slice none 0 0)
    have hBF := below_setB10 (g := w.heap.size + 1) HBX.out (by omega) (.int .i64 0) (.int .i64 0) (.int .i64 0) (.int .i64 0) (.int .i64 0) (.int .i64 0) (.int .i64 0) (.int .i64 0) (.int .i64 0) (.slice none 0 0)
    have d0 := hF.cell 0
    have d1 := hF.cell 1
    have d2 := hF.cell 2
    have d3 := hF.cell 3
    have d4 := hF.cell 4
    have d5 := hF.cell 5
    have d6 := hF.cell 6
    have d7 := hF.cell 7
    have d8 := hF.cell 8
    have d9 := hF.cell 9
    simp only [List.size_toArray, List.length_cons, List.length_nil, Nat.reduceAdd, Nat.reduceLT, getElem?_pos, List.getElem_toArray, List.getElem_cons_zero, List.getElem_cons_succ] at d0 d1 d2 d3 d4 d5 d6 d7 d8 d9
    have lD := hF.lt
    refine bodyPost_ret (v := .tuple #[ckV zeroC none 0, .int .i64 50]) (by simp [results, Try.results62, go_sem, ckV, zeroC, d0, d1, d2, d3, d4, d5, d6, d7, d8, d9, lD]) rfl ⟨rfl, ext_of hBF⟩
  · cases asked
    · obtain rfl : e = 51 := by rw [← HE.out]; unfold openE; rw [HQ.out]; rfl
      go_upto_region 2 with (go_at_call 16; refine (bCheck_any b p c true _ HCV.out HQ.out).mono ?_; rintro e' w1 ⟨rfl, y, hw⟩; have HB1 := Lib.hid (show Below V.heap.size V w1 by rw [hw]; exact below_ext _ _); clear hw)
      clear c0 c1 c2 c3 c4 c5 c6 c7 c8 c9
      have kr := KR.out.bel HB1.out
      have KR1 := Lib.hid kr
      unfold ckcs zeroC at kr
      have r0 := kr.cell 0
      have r1 := kr.cell 1
      have r2 := kr.cell 2
      have r3 := kr.cell 3
      have r4 := kr.cell 4
      have r5 := kr.cell 5
      have r6 := kr.cell 6
      have r7 := kr.cell 7
      have r8 := kr.cell 8
      have r9 := kr.cell 9
      simp only [List.size_toArray, List.length_cons, List.length_nil, Nat.reduceAdd, Nat.reduceLT, getElem?_pos, List.getElem_toArray, List.getElem_cons_zero, List.getElem_cons_succ] at r0 r1 r2 r3 r4 r5 r6 r7 r8 r9
      have f0 := kr.frozen 0
      have f1 := kr.frozen 1
      have f2 := kr.frozen 2
      have f3 := kr.frozen 3
      have f4 := kr.frozen 4
      have f5 := kr.frozen 5
      have f6 := kr.frozen 6
      have f7 := kr.frozen 7
      have f8 := kr.frozen 8
      have f9 := kr.frozen 9
      have lr := kr.lt
      have HBX := Lib.hid (HBV.out.trans (HB1.out.mono HBV.out.size))
      clear kr
      go_wp2_with fail
      have hF := KR1.out.setB10 (.int .i64 0) (.int .i64 0) (.int .i64 0) (.int .i64 0) (.int .i64 0) (.int .i64 0) (.int .i64 0) (.int .i64 0) (.int .i64 0) (.slice none 0 0)
      have hBF := below_setB10 (g := w.heap.size + 1) HBX.out (by omega) (.int .i64 0) (.int .i64 0) (.int .i64 0) (.int .i64 0) (.int .i64 0) (.int .i64 0) (.int .i64 0) (.int .i64 0) (.int .i64 0) (.slice none 0 0)
      have d0 := hF.cell 0
      have d1 := hF.cell 1
      have d2 := hF.cell 2
      have d3 := hF.cell 3
      have d4 := hF.cell 4
      have d5 := hF.cell 5
      have d6 := hF.cell 6
      have d7 := hF.cell 7
      have d8 := hF.cell 8
      have d9 := hF.cell 9
      simp only [List.size_toArray, List.length_cons, List.length_nil, Nat.reduceAdd, Nat.reduceLT, getElem?_pos, List.getElem_toArray, List.getElem_cons_zero, List.getElem_cons_succ] at d0 d1 d2 d3 d4 d5 d6 d7 d8 d9
      have lD := hF.lt
      refine bodyPost_ret (v := .tuple #[ckV zeroC none 0, .int .i64 51]) (by simp [results, Try.results62, go_sem, ckV, zeroC, d0, d1, d2, d3, d4, d5, d6, d7, d8, d9, lD]) rfl ⟨rfl, ext_of hBF⟩
    · obtain ⟨r, hr⟩ : ∃ r, rightC b = r := ⟨_, rfl⟩
      have HR := Lib.hid hr
      have HRA := Lib.hid (show ∀ W, CB W b p → Calls Try.prog 58 #[ckV b p c] W fun e w' => e = .returned (.bool r) ∧ ∃ x, w' = ext W x from fun W h => right_any b p c r W (cell_holds HQ.out) (cell_bk HQ.out) h hr)
      have HE2 := Lib.hid (show e = if r then 0 else 52 by rw [← HE.out]; unfold openE; rw [HQ.out, hr]; cases r <;> rfl)
      clear hr
      go_upto_region 2 with (go_at_call 16; refine (bCheck_any b p c true _ HCV.out HQ.out).mono ?_; rintro e' w1 ⟨rfl, y, hw⟩; have HB1 := Lib.hid (show Below V.heap.size V w1 by rw [hw]; exact below_ext _ _); clear hw)
      clear c0 c1 c2 c3 c4 c5 c6 c7 c8 c9
      have kc := KC.out.bel HB1.out
      unfold ckcs at kc
      have c0 := kc.cell 0
      have c1 := kc.cell 1
      have c2 := kc.cell 2
      have c3 := kc.cell 3
      have c4 := kc.cell 4
      have c5 := kc.cell 5
      have c6 := kc.cell 6
      have c7 := kc.cell 7
      have c8 := kc.cell 8
      have c9 := kc.cell 9
      simp only [List.size_toArray, List.length_cons, List.length_nil, Nat.reduceAdd, Nat.reduceLT, getElem?_pos, List.getElem_toArray, List.getElem_cons_zero, List.getElem_cons_succ] at c0 c1 c2 c3 c4 c5 c6 c7 c8 c9
      have lc1 := kc.lt
      have hz1 := HB1.out.size
      clear kc
      go_upto_region 7 with fail
      generalize hX : World.alloc _ _ = X
      have hBX1 : Below w1.heap.size w1 X := by rw [← hX]; (exact belA)
      have HBX1 := Lib.hid (HB1.out.trans (hBX1.mono hz1))
      have kX := (show Blk X w1.heap.size 76 (ckcs b p c) by rw [← hX]; exact Blk.new rfl)
      have KX := Lib.hid kX
      unfold ckcs at kX
      have m0 := kX.cell 0
      have m1 := kX.cell 1
      have m2 := kX.cell 2
      have m3 := kX.cell 3
      have m4 := kX.cell 4
      have m5 := kX.cell 5
      have m6 := kX.cell 6
      have m7 := kX.cell 7
      have m8 := kX.cell 8
      have m9 := kX.cell 9
      simp only [List.size_toArray, List.length_cons, List.length_nil, Nat.reduceAdd, Nat.reduceLT, getElem?_pos, List.getElem_toArray, List.getElem_cons_zero, List.getElem_cons_succ] at m0 m1 m2 m3 m4 m5 m6 m7 m8 m9
      have lX := kX.lt
      clear kX hX hBX1 c0 c1 c2 c3 c4 c5 c6 c7 c8 c9
      cases r
      · obtain rfl : e = 52 := HE2.out
        go_upto_region 8 with (go_at_call 58; refine (HRA.out _ (HCV.out.bel HBX1.out)).mono ?_; rintro e' w2 ⟨rfl, y2, hw⟩; have HB2 := Lib.hid (show Below X.heap.size X w2 by rw [hw]; exact below_ext _ _); clear hw)
        clear m0 m1 m2 m3 m4 m5 m6 m7 m8 m9
        have HBX2 := Lib.hid (HBX1.out.trans (HB2.out.mono HBX1.out.size))
        have HBX := Lib.hid (HBV.out.trans (HBX2.out.mono HBV.out.size))
        have kr := KR.out.bel HBX2.out
        have KR1 := Lib.hid kr
        have kX := KX.out.bel HB2.out
        unfold ckcs at kX
        have m0 := kX.cell 0
        have m1 := kX.cell 1
        have m2 := kX.cell 2
        have m3 := kX.cell 3
        have m4 := kX.cell 4
        have m5 := kX.cell 5
        have m6 := kX.cell 6
        have m7 := kX.cell 7
        have m8 := kX.cell 8
        have m9 := kX.cell 9
        simp only [List.size_toArray, List.length_cons, List.length_nil, Nat.reduceAdd, Nat.reduceLT, getElem?_pos, List.getElem_toArray, List.getElem_cons_zero, List.getElem_cons_succ] at m0 m1 m2 m3 m4 m5 m6 m7 m8 m9
        have lX2 := kX.lt
        unfold ckcs zeroC at kr
        have r0 := kr.cell 0
        have r1 := kr.cell 1
        have r2 := kr.cell 2
        have r3 := kr.cell 3
        have r4 := kr.cell 4
        have r5 := kr.cell 5
        have r6 := kr.cell 6
        have r7 := kr.cell 7
        have r8 := kr.cell 8
        have r9 := kr.cell 9
        simp only [List.size_toArray, List.length_cons, List.length_nil, Nat.reduceAdd, Nat.reduceLT, getElem?_pos, List.getElem_toArray, List.getElem_cons_zero, List.getElem_cons_succ] at r0 r1 r2 r3 r4 r5 r6 r7 r8 r9
        have f0 := kr.frozen 0
        have f1 := kr.frozen 1
        have f2 := kr.frozen 2
        have f3 := kr.frozen 3
        have f4 := kr.frozen 4
        have f5 := kr.frozen 5
        have f6 := kr.frozen 6
        have f7 := kr.frozen 7
        have f8 := kr.frozen 8
        have f9 := kr.frozen 9
        have lr := kr.lt
        clear kr kX
        go_wp2_with fail
        have hF := KR1.out.setB10 (.int .i64 0) (.int .i64 0) (.int .i64 0) (.int .i64 0) (.int .i64 0) (.int .i64 0) (.int .i64 0) (.int .i64 0) (.int .i64 0) (.slice none 0 0)
        have hBF := below_setB10 (g := w.heap.size + 1) HBX.out (by omega) (.int .i64 0) (.int .i64 0) (.int .i64 0) (.int .i64 0) (.int .i64 0) (.int .i64 0) (.int .i64 0) (.int .i64 0) (.int .i64 0) (.slice none 0 0)
        have d0 := hF.cell 0
        have d1 := hF.cell 1
        have d2 := hF.cell 2
        have d3 := hF.cell 3
        have d4 := hF.cell 4
        have d5 := hF.cell 5
        have d6 := hF.cell 6
        have d7 := hF.cell 7
        have d8 := hF.cell 8
        have d9 := hF.cell 9
        simp only [List.size_toArray, List.length_cons, List.length_nil, Nat.reduceAdd, Nat.reduceLT, getElem?_pos, List.getElem_toArray, List.getElem_cons_zero, List.getElem_cons_succ] at d0 d1 d2 d3 d4 d5 d6 d7 d8 d9
        have lD := hF.lt
        refine bodyPost_ret (v := .tuple #[ckV zeroC none 0, .int .i64 52]) (by simp [results, Try.results62, go_sem, ckV, zeroC, d0, d1, d2, d3, d4, d5, d6, d7, d8, d9, lD]) rfl ⟨rfl, ext_of hBF⟩
      · obtain rfl : e = 0 := HE2.out
        go_upto_region 9 with (go_at_call 58; refine (HRA.out _ (HCV.out.bel HBX1.out)).mono ?_; rintro e' w2 ⟨rfl, y2, hw⟩; have HB2 := Lib.hid (show Below X.heap.size X w2 by rw [hw]; exact below_ext _ _); clear hw)
        clear m0 m1 m2 m3 m4 m5 m6 m7 m8 m9
        have HBX2 := Lib.hid (HBX1.out.trans (HB2.out.mono HBX1.out.size))
        have HBX := Lib.hid (HBV.out.trans (HBX2.out.mono HBV.out.size))
        have kr := KR.out.bel HBX2.out
        have KR1 := Lib.hid kr
        have kX := KX.out.bel HB2.out
        unfold ckcs at kX
        have m0 := kX.cell 0
        have m1 := kX.cell 1
        have m2 := kX.cell 2
        have m3 := kX.cell 3
        have m4 := kX.cell 4
        have m5 := kX.cell 5
        have m6 := kX.cell 6
        have m7 := kX.cell 7
        have m8 := kX.cell 8
        have m9 := kX.cell 9
        simp only [List.size_toArray, List.length_cons, List.length_nil, Nat.reduceAdd, Nat.reduceLT, getElem?_pos, List.getElem_toArray, List.getElem_cons_zero, List.getElem_cons_succ] at m0 m1 m2 m3 m4 m5 m6 m7 m8 m9
        have lX2 := kX.lt
        unfold ckcs zeroC at kr
        have r0 := kr.cell 0
        have r1 := kr.cell 1
        have r2 := kr.cell 2
        have r3 := kr.cell 3
        have r4 := kr.cell 4
        have r5 := kr.cell 5
        have r6 := kr.cell 6
        have r7 := kr.cell 7
        have r8 := kr.cell 8
        have r9 := kr.cell 9
        simp only [List.size_toArray, List.length_cons, List.length_nil, Nat.reduceAdd, Nat.reduceLT, getElem?_pos, List.getElem_toArray, List.getElem_cons_zero, List.getElem_cons_succ] at r0 r1 r2 r3 r4 r5 r6 r7 r8 r9
        have f0 := kr.frozen 0
        have f1 := kr.frozen 1
        have f2 := kr.frozen 2
        have f3 := kr.frozen 3
        have f4 := kr.frozen 4
        have f5 := kr.frozen 5
        have f6 := kr.frozen 6
        have f7 := kr.frozen 7
        have f8 := kr.frozen 8
        have f9 := kr.frozen 9
        have lr := kr.lt
        clear kr kX
        go_wp2_with fail
        have hF := KR1.out.setB10 (.int .i64 b.l0) (.int .i64 b.u0) (.int .i64 b.l1) (.int .i64 b.u1) (.int .i64 b.l2) (.int .i64 b.u2) (.int .i64 b.e0) (.int .i64 b.e1) (.int .i64 b.e2) (.slice p b.ls.length c)
        have hBF := below_setB10 (g := w.heap.size + 1) HBX.out (by omega) (.int .i64 b.l0) (.int .i64 b.u0) (.int .i64 b.l1) (.int .i64 b.u1) (.int .i64 b.l2) (.int .i64 b.u2) (.int .i64 b.e0) (.int .i64 b.e1) (.int .i64 b.e2) (.slice p b.ls.length c)
        have d0 := hF.cell 0
        have d1 := hF.cell 1
        have d2 := hF.cell 2
        have d3 := hF.cell 3
        have d4 := hF.cell 4
        have d5 := hF.cell 5
        have d6 := hF.cell 6
        have d7 := hF.cell 7
        have d8 := hF.cell 8
        have d9 := hF.cell 9
        simp only [List.size_toArray, List.length_cons, List.length_nil, Nat.reduceAdd, Nat.reduceLT, getElem?_pos, List.getElem_toArray, List.getElem_cons_zero, List.getElem_cons_succ] at d0 d1 d2 d3 d4 d5 d6 d7 d8 d9
        have lD := hF.lt
        refine bodyPost_ret (v := .tuple #[ckV b p c, .int .i64 0]) (by simp [results, Try.results62, go_sem, ckV, d0, d1, d2, d3, d4, d5, d6, d7, d8, d9, lD]) rfl ⟨rfl, ext_of hBF⟩
end Go.Proofs.Ytpiadbdkiibdbaa

