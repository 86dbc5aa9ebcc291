/- Package bulk: what is asked of all lots; Weigh. Written by gen_b5zg.py. -/
import Derived.Test.YtpiadbdkiibdbaaQB5zf
set_option linter.unusedSimpArgs false
set_option linter.unusedVariables false
namespace Go.Proofs.Ytpiadbdkiibdbaa
open Go Go.RowKit Go.Shelf
attribute [local go_sem] Oper.semAt_some frozen_alloc_lt
theorem op_form (b : Ck) (p : Option Addr) (c : Nat) (e : Int) : ∃ (b' : Ck) (p' : Option Addr) (c' : Nat), opV b p c e = ckV b' p' c' ∧ (e = 0 → b' = b ∧ p' = p ∧ c' = c) := by
  by_cases h : e = 0
  · exact ⟨b, p, c, by unfold opV; rw [if_pos h], fun _ => ⟨rfl, rfl, rfl⟩⟩
  · exact ⟨zeroC, none, 0, by unfold opV; rw [if_neg h], fun h' => absurd h' h⟩
/-- What is told of an open book: the ends, or zeros and the error. -/
structure AnsC (b : Ck) (g : Ms → List (Int × Int) → Int) (e lo hi : Int) : Prop where
  yes : e = 0 → EndsC b g lo hi
  no : e ≠ 0 → lo = 0 ∧ hi = 0
theorem AnsC.ex {b : Ck} {q : Qs} {asked : Bool} {e : Int} {i0 n : Nat} (hq : ∀ k, q = .count k → k < 3) (he : openE b asked = e) (hn : e = 0 → i0 + n ≤ b.ls.length) : ∃ lo hi, AnsC b (gSum q i0 n) e lo hi := by
  by_cases h : e = 0
  · obtain ⟨h1, h2, h3⟩ := openE_yes (he.trans h)
    obtain ⟨lo, hi, h4⟩ := ends_ex (cell_holds h1) (cell_bk h1) q hq (hn h) h3
    exact ⟨lo, hi, fun _ => h4, fun h' => absurd h h'⟩
  · exact ⟨0, 0, fun h' => absurd h' h, fun _ => ⟨rfl, rfl⟩⟩
set_option maxRecDepth 100000 in
set_option maxHeartbeats 8000000 in
theorem ofAll_any (b : Ck) (p : Option Addr) (c : Nat) (q : Qs) (f : FuncId) (lb : Array Value) (e lo hi : Int) (w : World) (hk : CB w b p) (hq : QAt w f lb q) (he : openE b true = e) (ha : AnsC b (gSum q 0 b.ls.length) e lo hi) :
    Calls Try.prog 72 #[ckV b p c, qsV f lb] w fun e' w' => e' = .returned (.tuple #[.agg #[.int .i64 lo, .int .i64 hi], .int .i64 e]) ∧ ∃ x, w' = ext w x := by
  have HK := Lib.hid hk
  have HQ := Lib.hid hq
  have HA := Lib.hid ha
  have HE := Lib.hid he
  obtain ⟨b', p', c', hop, hbp⟩ := op_form b p c e
  have HBP := Lib.hid hbp
  have HO := Lib.hid (show ∀ W, CB W b p → Calls Try.prog 62 #[ckV b p c, .bool true] W fun e' w' => e' = .returned (.tuple #[ckV b' p' c', .int .i64 e]) ∧ ∃ x, w' = ext W x from fun W h => hop ▸ open_any b p c true e W h he)
  have HAN := Lib.hid (show e = 0 → ∀ W, CB W b p → QAt W f lb q → Calls Try.prog 91 #[ckV b p c, qsV f lb, .slice p b.ls.length c] W fun e w' => e = .returned (.agg #[.int .i64 lo, .int .i64 hi]) ∧ ∃ x, w' = ext W x from fun h0 W h1 h2 => by
    obtain ⟨h3, -, -⟩ := openE_yes (he.trans h0)
    exact answer_at b p c q f lb p c 0 b.ls.length lo hi W (cell_holds h3) (cell_bk h3) h1 h2 (by rw [cutL_all]; exact h1.ls) (by omega) (ha.yes h0))
  clear hk hq ha he hop hbp
  unfold ckV qsV
  go_enter Try.func72, Try.ntmps72
  go_upto_region 1 with fail
  generalize hV : World.alloc _ _ = V
  have hBV : Below w.heap.size w V := by rw [← hV]; (exact belA)
  have kc : Blk V w.heap.size 28 (ckcs b p c) := by rw [← hV]; exact ((Blk.new rfl).alloc _).alloc _
  have kq : Blk V (w.heap.size + 1) 91 #[.func (.func f) #[] lb] := by rw [← hV]; exact (Blk.new (by simp)).alloc _
  have kr : Blk V (w.heap.size + 1 + 1) 23 #[.int .i64 0, .int .i64 0] := by rw [← hV]; exact Blk.new (by simp)
  have HBV := Lib.hid hBV
  have KQ := Lib.hid kq
  have KR := Lib.hid kr
  have lc := kc.lt
  have lr := kr.lt
  have hzV := hBV.size
  clear hV hBV kq kr
  unfold ckcs at kc
  have c0 := kc.cell 0
  have c1 := kc.cell 1
  have c2 := kc.cell 2
  have c3 := kc.cell 3
  have c4 := kc.cell 4
  have c5 := kc.cell 5
  have c6 := kc.cell 6
  have c7 := kc.cell 7
  have c8 := kc.cell 8
  have c9 := kc.cell 9
  simp only [List.size_toArray, List.length_cons, List.length_nil, Nat.reduceAdd, Nat.reduceLT, getElem?_pos, List.getElem_toArray, List.getElem_cons_zero, List.getElem_cons_succ] at c0 c1 c2 c3 c4 c5 c6 c7 c8 c9
  clear kc
  go_upto_region 2 with (go_at_call 62; refine (HO.out _ (HK.out.bel HBV.out)).mono ?_; rintro e' w1 ⟨rfl, y, hw⟩; have HB1 := Lib.hid (show Below V.heap.size V w1 by rw [hw]; exact below_ext _ _); clear hw; dsimp only [ckV])
  clear c0 c1 c2 c3 c4 c5 c6 c7 c8 c9
  generalize hX : World.alloc _ _ = X
  have hz1 := HB1.out.size
  have hBX1 : Below w1.heap.size w1 X := by rw [← hX]; (exact belA)
  have HBX := Lib.hid (HB1.out.trans (hBX1.mono hz1))
  have kX := (show Blk X w1.heap.size 76 (ckcs b' p' c') by rw [← hX]; exact Blk.new rfl)
  have KX := Lib.hid kX
  have HBW := Lib.hid (HBV.out.trans (HBX.out.mono hzV))
  clear hX hBX1 kX
  have kr := KR.out.bel HBX.out
  have KRX := Lib.hid kr
  obtain ⟨r0, r1⟩ := Blk.c2 kr
  obtain ⟨f0, f1⟩ := Blk.f2 kr
  have lrX := kr.lt
  clear kr
  have hzX := HBX.out.size
  by_cases h0 : e = 0
  · obtain ⟨rfl, rfl, rfl⟩ := HBP.out h0
    subst h0
    have kX := KX.out
    unfold ckcs at kX
    have m0 := kX.cell 0
    have m1 := kX.cell 1
    have m2 := kX.cell 2
    have m3 := kX.cell 3
    have m4 := kX.cell 4
    have m5 := kX.cell 5
    have m6 := kX.cell 6
    have m7 := kX.cell 7
    have m8 := kX.cell 8
    have m9 := kX.cell 9
    simp only [List.size_toArray, List.length_cons, List.length_nil, Nat.reduceAdd, Nat.reduceLT, getElem?_pos, List.getElem_toArray, List.getElem_cons_zero, List.getElem_cons_succ] at m0 m1 m2 m3 m4 m5 m6 m7 m8 m9
    have lX := kX.lt
    have kq := KQ.out.bel HBX.out
    have q0 := Blk.c1 kq
    have lq := kq.lt
    clear kX kq
    go_wp2_with (go_at_call 91; refine (HAN.out rfl _ (HK.out.bel HBW.out) (HQ.out.bel HBW.out)).mono ?_; rintro e' w2 ⟨rfl, y2, hw⟩; have HB2 := Lib.hid (show Below X.heap.size X w2 by rw [hw]; exact below_ext _ _); clear hw; have kr2 := KRX.out.bel HB2.out; have KR2 := Lib.hid kr2; obtain ⟨r0, r1⟩ := Blk.c2 kr2; have f0 := kr2.frozen 0; have f1 := kr2.frozen 1; have lr2 := kr2.lt; clear kr2)
    have hF := KR2.out.setB2 (.int .i64 lo) (.int .i64 hi)
    have hBF := ((HBW.out.trans (HB2.out.mono HBW.out.size)).setCell (p := ⟨w.heap.size + 1 + 1, 0, none⟩) (by dsimp only; omega) (.int .i64 lo)).setCell (p := ⟨w.heap.size + 1 + 1, 1, none⟩) (by dsimp only; omega) (.int .i64 hi)
    obtain ⟨d0, d1⟩ := Blk.c2 hF
    have lD := hF.lt
    refine bodyPost_ret (v := .tuple #[.agg #[.int .i64 lo, .int .i64 hi], .int .i64 0]) (by simp [results, Try.results72, go_sem, d0, d1, lD]) rfl ⟨rfl, ext_of hBF⟩
  · obtain ⟨rfl, rfl⟩ := HA.out.no h0
    have hne : (e != 0) = true := by simpa using h0
    have hne2 : (e == 0) = false := by simpa using h0
    clear h0
    go_wp2_with fail
    have hF := KRX.out.setB2 (.int .i64 0) (.int .i64 0)
    have hBF := (HBW.out.setCell (p := ⟨w.heap.size + 1 + 1, 0, none⟩) (by dsimp only; omega) (.int .i64 0)).setCell (p := ⟨w.heap.size + 1 + 1, 1, none⟩) (by dsimp only; omega) (.int .i64 0)
    obtain ⟨d0, d1⟩ := Blk.c2 hF
    have lD := hF.lt
    refine bodyPost_ret (v := .tuple #[.agg #[.int .i64 0, .int .i64 0], .int .i64 e]) (by simp [results, Try.results72, go_sem, d0, d1, lD]) rfl ⟨rfl, ext_of hBF⟩
/-- What Weigh tells. -/
structure WeighW (b : Ck) (a e : Int) : Prop where
  no : openE b true ≠ 0 → a = 0 ∧ e = openE b true
  yes : openE b true = 0 → ∃ lo hi, EndsC b (gSum .fish 0 b.ls.length) lo hi ∧ ((lo = hi ∧ a = 0 ∧ e = 4) ∨ (lo ≠ hi ∧ e = 0 ∧ ∃ w0 w1 w2, WeighIs b a w0 w1 w2))
set_option maxRecDepth 100000 in
set_option maxHeartbeats 8000000 in
theorem bWeigh_any (b : Ck) (p : Option Addr) (c : Nat) (w : World) (hk : CB w b p) :
    Calls Try.prog 31 #[ckV b p c] w fun e' w' => ∃ a e, e' = .returned (.tuple #[.int .i64 a, .int .i64 e]) ∧ WeighW b a e ∧ ∃ x, w' = ext w x := by
  have HK := Lib.hid hk
  obtain ⟨e, he⟩ : ∃ e, openE b true = e := ⟨_, rfl⟩
  have HE := Lib.hid he
  obtain ⟨b', p', c', hop, hbp⟩ := op_form b p c e
  have HBP := Lib.hid hbp
  have HO := Lib.hid (show ∀ W, CB W b p → Calls Try.prog 62 #[ckV b p c, .bool true] W fun e' w' => e' = .returned (.tuple #[ckV b' p' c', .int .i64 e]) ∧ ∃ x, w' = ext W x from fun W h => hop ▸ open_any b p c true e W h he)
  clear hk he hop hbp
  unfold ckV
  go_enter Try.func31, Try.ntmps31
  go_upto_region 1 with fail
  generalize hV : World.alloc _ _ = V
  have hBV : Below w.heap.size w V := by rw [← hV]; (exact belA)
  have kc : Blk V w.heap.size 28 (ckcs b p c) := by rw [← hV]; exact Blk.new rfl
  have HBV := Lib.hid hBV
  have lc := kc.lt
  have hzV := hBV.size
  clear hV hBV
  unfold ckcs at kc
  have c0 := kc.cell 0
  have c1 := kc.cell 1
  have c2 := kc.cell 2
  have c3 := kc.cell 3
  have c4 := kc.cell 4
  have c5 := kc.cell 5
  have c6 := kc.cell 6
  have c7 := kc.cell 7
  have c8 := kc.cell 8
  have c9 := kc.cell 9
  simp only [List.size_toArray, List.length_cons, List.length_nil, Nat.reduceAdd, Nat.reduceLT, getElem?_pos, List.getElem_toArray, List.getElem_cons_zero, List.getElem_cons_succ] at c0 c1 c2 c3 c4 c5 c6 c7 c8 c9
  clear kc
  go_upto_region 2 with (go_at_call 62; refine (HO.out _ (HK.out.bel HBV.out)).mono ?_; rintro e' w1 ⟨rfl, y, hw⟩; have HB1 := Lib.hid (show Below V.heap.size V w1 by rw [hw]; exact below_ext _ _); clear hw; dsimp only [ckV])
  clear c0 c1 c2 c3 c4 c5 c6 c7 c8 c9
  generalize hX : World.alloc _ _ = X
  have hz1 := HB1.out.size
  have hBX1 : Below w1.heap.size w1 X := by rw [← hX]; (exact belA)
  have HBX := Lib.hid (HB1.out.trans (hBX1.mono hz1))
  have kX := (show Blk X w1.heap.size 76 (ckcs b' p' c') by rw [← hX]; exact Blk.new rfl)
  have KX := Lib.hid kX
  have HBW := Lib.hid (HBV.out.trans (HBX.out.mono hzV))
  clear hX hBX1 kX
  have hzX := HBX.out.size
  by_cases h0 : e = 0
  · obtain ⟨rfl, rfl, rfl⟩ := HBP.out h0
    subst h0
    obtain ⟨h1, -, h3⟩ := openE_yes HE.out
    have HV := Lib.hid (cell_holds h1)
    have HBK := Lib.hid (cell_bk h1)
    obtain ⟨lo, hi, hends⟩ := ends_ex HV.out HBK.out .fish (fun k h => by cases h) (i0 := 0) (n := b'.ls.length) (by omega) h3
    have HEN := Lib.hid hends
    obtain ⟨d, hd⟩ : ∃ d, hi - lo = d := ⟨_, rfl⟩
    have HD := Lib.hid hd
    clear h1 h3 hends hd
    have kX := KX.out
    unfold ckcs at kX
    have m0 := kX.cell 0
    have m1 := kX.cell 1
    have m2 := kX.cell 2
    have m3 := kX.cell 3
    have m4 := kX.cell 4
    have m5 := kX.cell 5
    have m6 := kX.cell 6
    have m7 := kX.cell 7
    have m8 := kX.cell 8
    have m9 := kX.cell 9
    simp only [List.size_toArray, List.length_cons, List.length_nil, Nat.reduceAdd, Nat.reduceLT, getElem?_pos, List.getElem_toArray, List.getElem_cons_zero, List.getElem_cons_succ] at m0 m1 m2 m3 m4 m5 m6 m7 m8 m9
    have lX := kX.lt
    clear kX
    by_cases hd0 : d = 0
    · have hdB : (d == 0) = true := by simpa using hd0
      have HD0 := Lib.hid hd0
      clear hd0
      go_wp2_with (go_at_call 74; refine (apart_any b' p' c' lo hi d _ HV.out HBK.out (HK.out.bel HBW.out) HEN.out HD.out).mono ?_; rintro e' w2 ⟨rfl, y2, hw⟩; have HB2 := Lib.hid (show Below X.heap.size X w2 by rw [hw]; exact below_ext _ _); clear hw)
      refine bodyPost_ret (v := .tuple #[.int .i64 0, .int .i64 4]) (by simp [results, Try.results31, go_sem]) rfl ⟨0, 4, rfl, ⟨fun h => absurd HE.out h, fun _ => ⟨lo, hi, HEN.out, .inl ⟨by have := HD.out; have := HD0.out; omega, rfl, rfl⟩⟩⟩, ext_of (HBW.out.trans (HB2.out.mono HBW.out.size))⟩
    · have hdB : (d == 0) = false := by simpa using hd0
      have HD0 := Lib.hid hd0
      clear hd0
      go_upto_region 6 with (go_at_call 74; refine (apart_any b' p' c' lo hi d _ HV.out HBK.out (HK.out.bel HBW.out) HEN.out HD.out).mono ?_; rintro e' w2 ⟨rfl, y2, hw⟩; have HB2 := Lib.hid (show Below X.heap.size X w2 by rw [hw]; exact below_ext _ _); clear hw)
      clear m0 m1 m2 m3 m4 m5 m6 m7 m8 m9
      have kX := KX.out.bel HB2.out
      unfold ckcs at kX
      have m0 := kX.cell 0
      have m1 := kX.cell 1
      have m2 := kX.cell 2
      have m3 := kX.cell 3
      have m4 := kX.cell 4
      have m5 := kX.cell 5
      have m6 := kX.cell 6
      have m7 := kX.cell 7
      have m8 := kX.cell 8
      have m9 := kX.cell 9
      simp only [List.size_toArray, List.length_cons, List.length_nil, Nat.reduceAdd, Nat.reduceLT, getElem?_pos, List.getElem_toArray, List.getElem_cons_zero, List.getElem_cons_succ] at m0 m1 m2 m3 m4 m5 m6 m7 m8 m9
      have lX2 := kX.lt
      clear kX
      have HBW2 := Lib.hid (HBW.out.trans (HB2.out.mono HBW.out.size))
      go_wp2_with (go_at_call 75; refine (weigh_any b' p' c' _ HV.out HBK.out (HK.out.bel HBW2.out)).mono ?_; rintro e' w3 ⟨a, v0, v1, v2, rfl, hwe, y3, hw⟩; have HWE := Lib.hid hwe; have HB3 := Lib.hid (show Below w2.heap.size w2 w3 by rw [hw]; exact below_ext _ _); clear hw hwe)
      refine bodyPost_ret (v := .tuple #[.int .i64 a, .int .i64 0]) (by simp [results, Try.results31, go_sem]) rfl ⟨a, 0, rfl, ⟨fun h => absurd HE.out h, fun _ => ⟨lo, hi, HEN.out, .inr ⟨fun h => HD0.out (by have := HD.out; omega), rfl, v0, v1, v2, HWE.out⟩⟩⟩, ext_of (HBW2.out.trans (HB3.out.mono HBW2.out.size))⟩
  · have hne : (e != 0) = true := by simpa using h0
    have hne2 : (e == 0) = false := by simpa using h0
    have H0 := Lib.hid h0
    clear h0
    go_wp2_with fail
    refine bodyPost_ret (v := .tuple #[.int .i64 0, .int .i64 e]) (by simp [results, Try.results31, go_sem]) rfl ⟨0, e, rfl, ⟨fun _ => ⟨rfl, HE.out.symm⟩, fun h => absurd (HE.out.symm.trans h) H0.out⟩, ext_of HBW.out⟩
end Go.Proofs.Ytpiadbdkiibdbaa

