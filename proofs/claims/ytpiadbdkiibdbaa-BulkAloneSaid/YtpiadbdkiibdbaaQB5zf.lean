/- Package bulk: Right, Wrong, Weigh, for any book. Written by gen_b5zf.py. -/
import Derived.Test.YtpiadbdkiibdbaaQB5ze
set_option linter.unusedSimpArgs false
set_option linter.unusedVariables false
namespace Go.Proofs.Ytpiadbdkiibdbaa
open Go Go.RowKit Go.Shelf
attribute [local go_sem] Oper.semAt_some frozen_alloc_lt
/-- The error of Right and Wrong. -/
def rightE (b : Ck) : Int := if cellV b then 0 else 50
theorem bCheck_eq (b : Ck) (p : Option Addr) (c : Nat) (e : Int) (w : World) (hk : CB w b p) (he : rightE b = e) : Calls Try.prog 16 #[ckV b p c] w fun e' w' => e' = .returned (.int .i64 e) ∧ ∃ x, w' = ext w x := he ▸ bCheck_any b p c (cellV b) w hk rfl
set_option maxRecDepth 100000 in
set_option maxHeartbeats 8000000 in
theorem bRight_any (b : Ck) (p : Option Addr) (c : Nat) (q : Bool) (e : Int) (w : World) (hk : CB w b p) (hq : (cellV b && rightC b) = q) (he : rightE b = e) :
    Calls Try.prog 14 #[ckV b p c] w fun e' w' => e' = .returned (.tuple #[.bool q, .int .i64 e]) ∧ ∃ x, w' = ext w x := by
  have HK := Lib.hid hk
  clear hk
  cases hv : cellV b
  · have HC := Lib.hid (show ∀ W, CB W b p → Calls Try.prog 16 #[ckV b p c] W fun e' w' => e' = .returned (.int .i64 50) ∧ ∃ x, w' = ext W x from fun W h => bCheck_eq b p c 50 W h (by unfold rightE; rw [hv]; rfl))
    obtain rfl : e = 50 := by rw [← he]; unfold rightE; rw [hv]; rfl
    obtain rfl : q = false := by rw [← hq, hv]; rfl
    clear hq he
    clear hv
    unfold ckV
    go_enter Try.func14, Try.ntmps14
    go_upto_region 1 with fail
    generalize hV : World.alloc _ _ = V
    have hBV : Below w.heap.size w V := by rw [← hV]; (exact belA)
    have kc : Blk V w.heap.size 28 (ckcs b p c) := by rw [← hV]; exact Blk.new rfl
    have HBV := Lib.hid hBV
    have KC := Lib.hid kc
    have lc := kc.lt
    clear hV hBV
    unfold ckcs at kc
    have c0 := kc.cell 0
    have c1 := kc.cell 1
    have c2 := kc.cell 2
    have c3 := kc.cell 3
    have c4 := kc.cell 4
    have c5 := kc.cell 5
    have c6 := kc.cell 6
    have c7 := kc.cell 7
    have c8 := kc.cell 8
    have c9 := kc.cell 9
    simp only [List.size_toArray, List.length_cons, List.length_nil, Nat.reduceAdd, Nat.reduceLT, getElem?_pos, List.getElem_toArray, List.getElem_cons_zero, List.getElem_cons_succ] at c0 c1 c2 c3 c4 c5 c6 c7 c8 c9
    clear kc
    go_wp2_with (go_at_call 16; refine (HC.out _ (HK.out.bel HBV.out)).mono ?_; rintro e' w1 ⟨rfl, y, hw⟩; have HB1 := Lib.hid (show Below V.heap.size V w1 by rw [hw]; exact below_ext _ _); clear hw)
    refine bodyPost_ret (v := .tuple #[.bool false, .int .i64 50]) (by simp [results, Try.results14, go_sem]) rfl ⟨rfl, ext_of (HBV.out.trans (HB1.out.mono HBV.out.size))⟩
  · have HC := Lib.hid (show ∀ W, CB W b p → Calls Try.prog 16 #[ckV b p c] W fun e' w' => e' = .returned (.int .i64 0) ∧ ∃ x, w' = ext W x from fun W h => bCheck_eq b p c 0 W h (by unfold rightE; rw [hv]; rfl))
    obtain rfl : e = 0 := by rw [← he]; unfold rightE; rw [hv]; rfl
    have HRA := Lib.hid (show ∀ W, CB W b p → Calls Try.prog 58 #[ckV b p c] W fun e w' => e = .returned (.bool q) ∧ ∃ x, w' = ext W x from fun W h => right_any b p c q W (cell_holds hv) (cell_bk hv) h (by rw [hv] at hq; simpa using hq))
    clear hq he
    clear hv
    unfold ckV
    go_enter Try.func14, Try.ntmps14
    go_upto_region 1 with fail
    generalize hV : World.alloc _ _ = V
    have hBV : Below w.heap.size w V := by rw [← hV]; (exact belA)
    have kc : Blk V w.heap.size 28 (ckcs b p c) := by rw [← hV]; exact Blk.new rfl
    have HBV := Lib.hid hBV
    have KC := Lib.hid kc
    have lc := kc.lt
    clear hV hBV
    unfold ckcs at kc
    have c0 := kc.cell 0
    have c1 := kc.cell 1
    have c2 := kc.cell 2
    have c3 := kc.cell 3
    have c4 := kc.cell 4
    have c5 := kc.cell 5
    have c6 := kc.cell 6
    have c7 := kc.cell 7
    have c8 := kc.cell 8
    have c9 := kc.cell 9
    simp only [List.size_toArray, List.length_cons, List.length_nil, Nat.reduceAdd, Nat.reduceLT, getElem?_pos, List.getElem_toArray, List.getElem_cons_zero, List.getElem_cons_succ] at c0 c1 c2 c3 c4 c5 c6 c7 c8 c9
    clear kc
    go_upto_region 4 with (go_at_call 16; refine (HC.out _ (HK.out.bel HBV.out)).mono ?_; rintro e' w1 ⟨rfl, y, hw⟩; have HB1 := Lib.hid (show Below V.heap.size V w1 by rw [hw]; exact below_ext _ _); clear hw)
    clear c0 c1 c2 c3 c4 c5 c6 c7 c8 c9
    have kc := KC.out.bel HB1.out
    unfold ckcs at kc
    have c0 := kc.cell 0
    have c1 := kc.cell 1
    have c2 := kc.cell 2
    have c3 := kc.cell 3
    have c4 := kc.cell 4
    have c5 := kc.cell 5
    have c6 := kc.cell 6
    have c7 := kc.cell 7
    have c8 := kc.cell 8
    have c9 := kc.cell 9
    simp only [List.size_toArray, List.length_cons, List.length_nil, Nat.reduceAdd, Nat.reduceLT, getElem?_pos, List.getElem_toArray, List.getElem_cons_zero, List.getElem_cons_succ] at c0 c1 c2 c3 c4 c5 c6 c7 c8 c9
    have lc1 := kc.lt
    clear kc
    have HBX := Lib.hid (HBV.out.trans (HB1.out.mono HBV.out.size))
    go_wp2_with (go_at_call 58; refine (HRA.out _ (HK.out.bel HBX.out)).mono ?_; rintro e' w2 ⟨rfl, y2, hw⟩; have HB2 := Lib.hid (show Below w1.heap.size w1 w2 by rw [hw]; exact below_ext _ _); clear hw)
    refine bodyPost_ret (v := .tuple #[.bool q, .int .i64 0]) (by simp [results, Try.results14, go_sem]) rfl ⟨rfl, ext_of (HBX.out.trans (HB2.out.mono HBX.out.size))⟩
/-- What Wrong tells. -/
def wrongB (b : Ck) : List Int := if cellV b then wrongL b else []
set_option maxRecDepth 100000 in
set_option maxHeartbeats 8000000 in
theorem bWrong_any (b : Ck) (p : Option Addr) (c : Nat) (e : Int) (w : World) (hk : CB w b p) (he : rightE b = e) :
    Calls Try.prog 33 #[ckV b p c] w fun e' w' => ∃ v, e' = .returned (.tuple #[v, .int .i64 e]) ∧ ListAt w'.heap.size w' v (wrongB b) ∧ ∃ x, w' = ext w x := by
  have HK := Lib.hid hk
  clear hk
  cases hv : cellV b
  · have HC := Lib.hid (show ∀ W, CB W b p → Calls Try.prog 16 #[ckV b p c] W fun e' w' => e' = .returned (.int .i64 50) ∧ ∃ x, w' = ext W x from fun W h => bCheck_eq b p c 50 W h (by unfold rightE; rw [hv]; rfl))
    obtain rfl : e = 50 := by rw [← he]; unfold rightE; rw [hv]; rfl
    have HW := Lib.hid (show wrongB b = [] from by unfold wrongB; rw [hv]; rfl)
    clear he
    clear hv
    unfold ckV
    go_enter Try.func33, Try.ntmps33
    go_upto_region 1 with fail
    generalize hV : World.alloc _ _ = V
    have hBV : Below w.heap.size w V := by rw [← hV]; (exact belA)
    have kc : Blk V w.heap.size 28 (ckcs b p c) := by rw [← hV]; exact Blk.new rfl
    have HBV := Lib.hid hBV
    have KC := Lib.hid kc
    have lc := kc.lt
    clear hV hBV
    unfold ckcs at kc
    have c0 := kc.cell 0
    have c1 := kc.cell 1
    have c2 := kc.cell 2
    have c3 := kc.cell 3
    have c4 := kc.cell 4
    have c5 := kc.cell 5
    have c6 := kc.cell 6
    have c7 := kc.cell 7
    have c8 := kc.cell 8
    have c9 := kc.cell 9
    simp only [List.size_toArray, List.length_cons, List.length_nil, Nat.reduceAdd, Nat.reduceLT, getElem?_pos, List.getElem_toArray, List.getElem_cons_zero, List.getElem_cons_succ] at c0 c1 c2 c3 c4 c5 c6 c7 c8 c9
    clear kc
    go_wp2_with (go_at_call 16; refine (HC.out _ (HK.out.bel HBV.out)).mono ?_; rintro e' w1 ⟨rfl, y, hw⟩; have HB1 := Lib.hid (show Below V.heap.size V w1 by rw [hw]; exact below_ext _ _); clear hw)
    refine bodyPost_ret (v := .tuple #[.slice none 0 0, .int .i64 50]) (by simp [results, Try.results33, go_sem]) rfl ⟨_, rfl, by rw [HW.out]; exact ListAt.nil (Nat.le_refl _), ext_of (HBV.out.trans (HB1.out.mono HBV.out.size))⟩
  · have HC := Lib.hid (show ∀ W, CB W b p → Calls Try.prog 16 #[ckV b p c] W fun e' w' => e' = .returned (.int .i64 0) ∧ ∃ x, w' = ext W x from fun W h => bCheck_eq b p c 0 W h (by unfold rightE; rw [hv]; rfl))
    obtain rfl : e = 0 := by rw [← he]; unfold rightE; rw [hv]; rfl
    have HW := Lib.hid (show wrongB b = wrongL b from by unfold wrongB; rw [hv]; rfl)
    have HRA := Lib.hid (show ∀ W, CB W b p → Calls Try.prog 77 #[ckV b p c] W fun e w' => ∃ v, e = .returned v ∧ ListAt w'.heap.size w' v (wrongL b) ∧ ∃ x, w' = ext W x from fun W h => wrong_any b p c W (cell_holds hv) (cell_bk hv) h (cell_stores hv).1 (cell_stores hv).2)
    clear he
    clear hv
    unfold ckV
    go_enter Try.func33, Try.ntmps33
    go_upto_region 1 with fail
    generalize hV : World.alloc _ _ = V
    have hBV : Below w.heap.size w V := by rw [← hV]; (exact belA)
    have kc : Blk V w.heap.size 28 (ckcs b p c) := by rw [← hV]; exact Blk.new rfl
    have HBV := Lib.hid hBV
    have KC := Lib.hid kc
    have lc := kc.lt
    clear hV hBV
    unfold ckcs at kc
    have c0 := kc.cell 0
    have c1 := kc.cell 1
    have c2 := kc.cell 2
    have c3 := kc.cell 3
    have c4 := kc.cell 4
    have c5 := kc.cell 5
    have c6 := kc.cell 6
    have c7 := kc.cell 7
    have c8 := kc.cell 8
    have c9 := kc.cell 9
    simp only [List.size_toArray, List.length_cons, List.length_nil, Nat.reduceAdd, Nat.reduceLT, getElem?_pos, List.getElem_toArray, List.getElem_cons_zero, List.getElem_cons_succ] at c0 c1 c2 c3 c4 c5 c6 c7 c8 c9
    clear kc
    go_upto_region 4 with (go_at_call 16; refine (HC.out _ (HK.out.bel HBV.out)).mono ?_; rintro e' w1 ⟨rfl, y, hw⟩; have HB1 := Lib.hid (show Below V.heap.size V w1 by rw [hw]; exact below_ext _ _); clear hw)
    clear c0 c1 c2 c3 c4 c5 c6 c7 c8 c9
    have kc := KC.out.bel HB1.out
    unfold ckcs at kc
    have c0 := kc.cell 0
    have c1 := kc.cell 1
    have c2 := kc.cell 2
    have c3 := kc.cell 3
    have c4 := kc.cell 4
    have c5 := kc.cell 5
    have c6 := kc.cell 6
    have c7 := kc.cell 7
    have c8 := kc.cell 8
    have c9 := kc.cell 9
    simp only [List.size_toArray, List.length_cons, List.length_nil, Nat.reduceAdd, Nat.reduceLT, getElem?_pos, List.getElem_toArray, List.getElem_cons_zero, List.getElem_cons_succ] at c0 c1 c2 c3 c4 c5 c6 c7 c8 c9
    have lc1 := kc.lt
    clear kc
    have HBX := Lib.hid (HBV.out.trans (HB1.out.mono HBV.out.size))
    go_wp2_with (go_at_call 77; refine (HRA.out _ (HK.out.bel HBX.out)).mono ?_; rintro e' w2 ⟨v, rfl, hl, y2, hw⟩; have HL := Lib.hid hl; have HB2 := Lib.hid (show Below w1.heap.size w1 w2 by rw [hw]; exact below_ext _ _); clear hw hl)
    refine bodyPost_ret (v := .tuple #[v, .int .i64 0]) (by simp [results, Try.results33, go_sem]) rfl ⟨_, rfl, by rw [HW.out]; exact HL.out, ext_of (HBX.out.trans (HB2.out.mono HBX.out.size))⟩
end Go.Proofs.Ytpiadbdkiibdbaa

