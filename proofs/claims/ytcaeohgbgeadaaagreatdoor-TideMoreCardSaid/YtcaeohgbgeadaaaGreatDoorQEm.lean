/- Package tide: its functions, on a good book and plan. -/
import Derived.Test.YtcaeohgbgeadaaaGreatDoorQEl
set_option linter.unusedSimpArgs false
set_option linter.unusedVariables false
namespace Go.Proofs.YtcaeohgbgeadaaaGreatDoor
open Go Go.RowKit Go.Shelf
theorem Hl.OK.mend {h : Hl} (k : h.OK) : h.mend.OK := ⟨k.hd, by show 0 ≤ (0 : Int) ∧ (0 : Int) ≤ 0 ∧ (0 : Int) ≤ 400; omega, k.nw, k.gl, k.ch, k.ln, k.ms, k.rs⟩
theorem Hl.OK.gale {h : Hl} (k : h.OK) {g : Int} (hg : h.b.now ≤ g ∧ g ≤ 60) : (h.gale g).OK := ⟨k.hd, k.rt, k.nw, by show h.b.now ≤ g ∧ g ≤ g ∧ g ≤ 60; omega, k.ch, k.ln, k.ms, k.rs⟩
attribute [local go_sem] Oper.semAt_some frozen_alloc_lt
set_option maxRecDepth 100000 in
set_option maxHeartbeats 4000000 in
theorem Out_yes (b : Tk) (p : Tp) (v : Value) (pl : List Int) (H : Hl) (w : World) (hk : TB w b p) (hn : Hid (b.q.ns.length ≤ 9223372036854775807)) (hp : PlanAt w v pl) (hlen : pl.length ≤ 1000) (hv : validB b = true) (hq : planB b.ts b.most b.rest pl = true) (hH : haulOf b = H) :
    Calls Tryz.prog 19 #[tv b p, v] w fun e' w' => e' = .returned (.tuple #[.agg #[.int .i64 (ansLo (H) 0 pl), .int .i64 (ansHi (H) 0 pl)], .int .i64 0]) ∧ ∃ x, w' = ext w x := by
  have HK := Lib.hid hk
  have HV := Lib.hid hv
  have HH := Lib.hid hH
  have HO := Lib.hid (show H.OK from hH ▸ haul_ok hv)
  have HL := Lib.hid (show LowsAt w p.tp H.b.ts from hH ▸ hk.ts)
  have HP := Lib.hid hp
  have HQ := Lib.hid hq
  have HT := Lib.hid (show ordT H.b.ts H.b.now pl from hH ▸ plan_ord (of_validB hv).2.2.2.2.2.1 (of_validB hv).2.1 hq)
  clear hk hv hq hp hH
  unfold tv
  go_enter Tryz.func19, Tryz.ntmps19
  go_upto_region 2 with (go_at_call 66; refine (topen_good b p _ pl H _ (HK.out.bel (by (repeat (first | (with_reducible exact Below.refl _ _) | (with_reducible assumption) | ((with_reducible refine below_ext_trans ?_ ?_ _); rotate_left; focus (((try dsimp only); repeat (first | omega | simp only [World.size_alloc, World.size_setCell, World.size_drew] | (with_reducible refine le_ext_of ?_) | (with_reducible refine le_ext_add ?_))); done)) | ((with_reducible refine Below.alloc ?_ ?_ _); rotate_left; focus (((try dsimp only); repeat (first | omega | simp only [World.size_alloc, World.size_setCell, World.size_drew] | (with_reducible refine le_ext_of ?_) | (with_reducible refine le_ext_add ?_))); done)) | ((with_reducible refine Below.setCell ?_ ?_ _); rotate_left; focus (((try dsimp only); repeat (first | omega | simp only [World.size_alloc, World.size_setCell, World.size_drew] | (with_reducible refine le_ext_of ?_) | (with_reducible refine le_ext_add ?_))); done)) | (with_reducible refine Below.drew ?_))))) hn (HP.out.bel (by (repeat (first | (with_reducible exact Below.refl _ _) | (with_reducible assumption) | ((with_reducible refine below_ext_trans ?_ ?_ _); rotate_left; focus (((try dsimp only); repeat (first | omega | simp only [World.size_alloc, World.size_setCell, World.size_drew] | (with_reducible refine le_ext_of ?_) | (with_reducible refine le_ext_add ?_))); done)) | ((with_reducible refine Below.alloc ?_ ?_ _); rotate_left; focus (((try dsimp only); repeat (first | omega | simp only [World.size_alloc, World.size_setCell, World.size_drew] | (with_reducible refine le_ext_of ?_) | (with_reducible refine le_ext_add ?_))); done)) | ((with_reducible refine Below.setCell ?_ ?_ _); rotate_left; focus (((try dsimp only); repeat (first | omega | simp only [World.size_alloc, World.size_setCell, World.size_drew] | (with_reducible refine le_ext_of ?_) | (with_reducible refine le_ext_add ?_))); done)) | (with_reducible refine Below.drew ?_))))) hlen HV.out HQ.out HH.out).mono ?_; rintro e' w1 ⟨he, y, rfl⟩; unfold hlv at he; subst he)
  generalize hW : ext _ y = W0
  have hB0 : Below w.heap.size w W0 := by rw [← hW]; (repeat (first | (with_reducible exact Below.refl _ _) | (with_reducible assumption) | ((with_reducible refine below_ext_trans ?_ ?_ _); rotate_left; focus (((try dsimp only); repeat (first | omega | simp only [World.size_alloc, World.size_setCell, World.size_drew] | (with_reducible refine le_ext_of ?_) | (with_reducible refine le_ext_add ?_))); done)) | ((with_reducible refine Below.alloc ?_ ?_ _); rotate_left; focus (((try dsimp only); repeat (first | omega | simp only [World.size_alloc, World.size_setCell, World.size_drew] | (with_reducible refine le_ext_of ?_) | (with_reducible refine le_ext_add ?_))); done)) | ((with_reducible refine Below.setCell ?_ ?_ _); rotate_left; focus (((try dsimp only); repeat (first | omega | simp only [World.size_alloc, World.size_setCell, World.size_drew] | (with_reducible refine le_ext_of ?_) | (with_reducible refine le_ext_add ?_))); done)) | (with_reducible refine Below.drew ?_)))
  have kR0 : Blk W0 (w.heap.size + 1) 23 #[.int .i64 0, .int .i64 0] := by rw [← hW]; exact (Blk.new (by simp)).ext y
  have hB := hB0.alloc hB0.size (.cells #[.int .i64 H.b.q.lo, .int .i64 H.b.q.hi, .slice p.np H.b.q.ns.length p.nc, .int .i64 H.b.now, .slice p.tp H.b.ts.length p.tc, .int .i64 H.b.glo, .int .i64 H.b.ghi, .int .i64 H.b.most, .int .i64 H.b.rest, .int .i64 H.hl, .int .i64 H.hh, .int .i64 H.rl, .int .i64 H.rh] 87)
  have kR := kR0.alloc (.cells #[.int .i64 H.b.q.lo, .int .i64 H.b.q.hi, .slice p.np H.b.q.ns.length p.nc, .int .i64 H.b.now, .slice p.tp H.b.ts.length p.tc, .int .i64 H.b.glo, .int .i64 H.b.ghi, .int .i64 H.b.most, .int .i64 H.b.rest, .int .i64 H.hl, .int .i64 H.hh, .int .i64 H.rl, .int .i64 H.rh] 87)
  have kH : Blk (W0.alloc (.cells #[.int .i64 H.b.q.lo, .int .i64 H.b.q.hi, .slice p.np H.b.q.ns.length p.nc, .int .i64 H.b.now, .slice p.tp H.b.ts.length p.tc, .int .i64 H.b.glo, .int .i64 H.b.ghi, .int .i64 H.b.most, .int .i64 H.b.rest, .int .i64 H.hl, .int .i64 H.hh, .int .i64 H.rl, .int .i64 H.rh] 87)) W0.heap.size 87 #[.int .i64 H.b.q.lo, .int .i64 H.b.q.hi, .slice p.np H.b.q.ns.length p.nc, .int .i64 H.b.now, .slice p.tp H.b.ts.length p.tc, .int .i64 H.b.glo, .int .i64 H.b.ghi, .int .i64 H.b.most, .int .i64 H.b.rest, .int .i64 H.hl, .int .i64 H.hh, .int .i64 H.rl, .int .i64 H.rh] := Blk.new rfl
  generalize W0.alloc (.cells #[.int .i64 H.b.q.lo, .int .i64 H.b.q.hi, .slice p.np H.b.q.ns.length p.nc, .int .i64 H.b.now, .slice p.tp H.b.ts.length p.tc, .int .i64 H.b.glo, .int .i64 H.b.ghi, .int .i64 H.b.most, .int .i64 H.b.rest, .int .i64 H.hl, .int .i64 H.hh, .int .i64 H.rl, .int .i64 H.rh] 87) = W at *
  generalize W0.heap.size = gH at *
  have HB := Lib.hid hB
  have KR := Lib.hid kR
  (have c0 := Blk.cell kH 0; have c1 := Blk.cell kH 1; have c2 := Blk.cell kH 2; have c3 := Blk.cell kH 3; have c4 := Blk.cell kH 4; have c5 := Blk.cell kH 5; have c6 := Blk.cell kH 6; have c7 := Blk.cell kH 7; have c8 := Blk.cell kH 8; have c9 := Blk.cell kH 9; have c10 := Blk.cell kH 10; have c11 := Blk.cell kH 11; have c12 := Blk.cell kH 12; simp only [List.size_toArray, List.length_cons, List.length_nil, Nat.reduceAdd, Nat.reduceLT, getElem?_pos, List.getElem_toArray, List.getElem_cons_zero, List.getElem_cons_succ] at c0 c1 c2 c3 c4 c5 c6 c7 c8 c9 c10 c11 c12)
  have lH := kH.lt
  clear hW hB0 kR0 hB kR kH
  go_wp2_with (go_at_call 67; refine (answer_plan H p 0 _ pl _ HO.out (by omega) (HL.out.below HB.out) (HP.out.bel HB.out) hlen HT.out).mono ?_; rintro e' w2 ⟨rfl, y2, rfl⟩; have HB2 := Lib.hid (HB.out.trans ((below_ext W y2).mono HB.out.size)); have KR2 := Lib.hid (KR.out.ext y2); clear c0 c1 c2 c3 c4 c5 c6 c7 c8 c9 c10 c11 c12 lH; have kR := KR2.out; generalize ext W y2 = W2 at *; (have r0 := Blk.cell kR 0; have r1 := Blk.cell kR 1; simp only [List.size_toArray, List.length_cons, List.length_nil, Nat.reduceAdd, Nat.reduceLT, getElem?_pos, List.getElem_toArray, List.getElem_cons_zero, List.getElem_cons_succ] at r0 r1); (have f0 := Blk.frozen kR 0; have f1 := Blk.frozen kR 1); have lR := kR.lt; clear kR)
  have kE := KR2.out.set2 (.int .i64 (ansLo (H) 0 pl)) (.int .i64 (ansHi (H) 0 pl))
  have hE := (HB2.out.setCell (p := ⟨w.heap.size + 1, 0, none⟩) (by dsimp only; omega) (.int .i64 (ansLo (H) 0 pl))).setCell (p := ⟨w.heap.size + 1, 1, none⟩) (by dsimp only; omega) (.int .i64 (ansHi (H) 0 pl))
  generalize hWW : World.setCell _ _ _ = WW at kE hE ⊢
  clear hWW
  have HE2 := Lib.hid hE
  (have e0 := Blk.cell kE 0; have e1 := Blk.cell kE 1; simp only [List.size_toArray, List.length_cons, List.length_nil, Nat.reduceAdd, Nat.reduceLT, getElem?_pos, List.getElem_toArray, List.getElem_cons_zero, List.getElem_cons_succ] at e0 e1)
  have lE := kE.lt
  clear hE kE
  refine bodyPost_ret (v := .tuple #[.agg #[(.int .i64 (ansLo (H) 0 pl)), (.int .i64 (ansHi (H) 0 pl))], .int .i64 0]) (by simp [results, Tryz.results19, go_sem, e0, e1, lE]) rfl ⟨rfl, ext_of HE2.out⟩
set_option maxRecDepth 100000 in
set_option maxHeartbeats 4000000 in
theorem Lost_yes (b : Tk) (p : Tp) (v : Value) (pl : List Int) (H : Hl) (w : World) (hk : TB w b p) (hn : Hid (b.q.ns.length ≤ 9223372036854775807)) (hp : PlanAt w v pl) (hlen : pl.length ≤ 1000) (hv : validB b = true) (hq : planB b.ts b.most b.rest pl = true) (hH : haulOf b = H) :
    Calls Tryz.prog 21 #[tv b p, v] w fun e' w' => e' = .returned (.tuple #[.agg #[.int .i64 (ansLo (H) 1 pl), .int .i64 (ansHi (H) 1 pl)], .int .i64 0]) ∧ ∃ x, w' = ext w x := by
  have HK := Lib.hid hk
  have HV := Lib.hid hv
  have HH := Lib.hid hH
  have HO := Lib.hid (show H.OK from hH ▸ haul_ok hv)
  have HL := Lib.hid (show LowsAt w p.tp H.b.ts from hH ▸ hk.ts)
  have HP := Lib.hid hp
  have HQ := Lib.hid hq
  have HT := Lib.hid (show ordT H.b.ts H.b.now pl from hH ▸ plan_ord (of_validB hv).2.2.2.2.2.1 (of_validB hv).2.1 hq)
  clear hk hv hq hp hH
  unfold tv
  go_enter Tryz.func21, Tryz.ntmps21
  go_upto_region 2 with (go_at_call 66; refine (topen_good b p _ pl H _ (HK.out.bel (by (repeat (first | (with_reducible exact Below.refl _ _) | (with_reducible assumption) | ((with_reducible refine below_ext_trans ?_ ?_ _); rotate_left; focus (((try dsimp only); repeat (first | omega | simp only [World.size_alloc, World.size_setCell, World.size_drew] | (with_reducible refine le_ext_of ?_) | (with_reducible refine le_ext_add ?_))); done)) | ((with_reducible refine Below.alloc ?_ ?_ _); rotate_left; focus (((try dsimp only); repeat (first | omega | simp only [World.size_alloc, World.size_setCell, World.size_drew] | (with_reducible refine le_ext_of ?_) | (with_reducible refine le_ext_add ?_))); done)) | ((with_reducible refine Below.setCell ?_ ?_ _); rotate_left; focus (((try dsimp only); repeat (first | omega | simp only [World.size_alloc, World.size_setCell, World.size_drew] | (with_reducible refine le_ext_of ?_) | (with_reducible refine le_ext_add ?_))); done)) | (with_reducible refine Below.drew ?_))))) hn (HP.out.bel (by (repeat (first | (with_reducible exact Below.refl _ _) | (with_reducible assumption) | ((with_reducible refine below_ext_trans ?_ ?_ _); rotate_left; focus (((try dsimp only); repeat (first | omega | simp only [World.size_alloc, World.size_setCell, World.size_drew] | (with_reducible refine le_ext_of ?_) | (with_reducible refine le_ext_add ?_))); done)) | ((with_reducible refine Below.alloc ?_ ?_ _); rotate_left; focus (((try dsimp only); repeat (first | omega | simp only [World.size_alloc, World.size_setCell, World.size_drew] | (with_reducible refine le_ext_of ?_) | (with_reducible refine le_ext_add ?_))); done)) | ((with_reducible refine Below.setCell ?_ ?_ _); rotate_left; focus (((try dsimp only); repeat (first | omega | simp only [World.size_alloc, World.size_setCell, World.size_drew] | (with_reducible refine le_ext_of ?_) | (with_reducible refine le_ext_add ?_))); done)) | (with_reducible refine Below.drew ?_))))) hlen HV.out HQ.out HH.out).mono ?_; rintro e' w1 ⟨he, y, rfl⟩; unfold hlv at he; subst he)
  generalize hW : ext _ y = W0
  have hB0 : Below w.heap.size w W0 := by rw [← hW]; (repeat (first | (with_reducible exact Below.refl _ _) | (with_reducible assumption) | ((with_reducible refine below_ext_trans ?_ ?_ _); rotate_left; focus (((try dsimp only); repeat (first | omega | simp only [World.size_alloc, World.size_setCell, World.size_drew] | (with_reducible refine le_ext_of ?_) | (with_reducible refine le_ext_add ?_))); done)) | ((with_reducible refine Below.alloc ?_ ?_ _); rotate_left; focus (((try dsimp only); repeat (first | omega | simp only [World.size_alloc, World.size_setCell, World.size_drew] | (with_reducible refine le_ext_of ?_) | (with_reducible refine le_ext_add ?_))); done)) | ((with_reducible refine Below.setCell ?_ ?_ _); rotate_left; focus (((try dsimp only); repeat (first | omega | simp only [World.size_alloc, World.size_setCell, World.size_drew] | (with_reducible refine le_ext_of ?_) | (with_reducible refine le_ext_add ?_))); done)) | (with_reducible refine Below.drew ?_)))
  have kR0 : Blk W0 (w.heap.size + 1) 23 #[.int .i64 0, .int .i64 0] := by rw [← hW]; exact (Blk.new (by simp)).ext y
  have hB := hB0.alloc hB0.size (.cells #[.int .i64 H.b.q.lo, .int .i64 H.b.q.hi, .slice p.np H.b.q.ns.length p.nc, .int .i64 H.b.now, .slice p.tp H.b.ts.length p.tc, .int .i64 H.b.glo, .int .i64 H.b.ghi, .int .i64 H.b.most, .int .i64 H.b.rest, .int .i64 H.hl, .int .i64 H.hh, .int .i64 H.rl, .int .i64 H.rh] 87)
  have kR := kR0.alloc (.cells #[.int .i64 H.b.q.lo, .int .i64 H.b.q.hi, .slice p.np H.b.q.ns.length p.nc, .int .i64 H.b.now, .slice p.tp H.b.ts.length p.tc, .int .i64 H.b.glo, .int .i64 H.b.ghi, .int .i64 H.b.most, .int .i64 H.b.rest, .int .i64 H.hl, .int .i64 H.hh, .int .i64 H.rl, .int .i64 H.rh] 87)
  have kH : Blk (W0.alloc (.cells #[.int .i64 H.b.q.lo, .int .i64 H.b.q.hi, .slice p.np H.b.q.ns.length p.nc, .int .i64 H.b.now, .slice p.tp H.b.ts.length p.tc, .int .i64 H.b.glo, .int .i64 H.b.ghi, .int .i64 H.b.most, .int .i64 H.b.rest, .int .i64 H.hl, .int .i64 H.hh, .int .i64 H.rl, .int .i64 H.rh] 87)) W0.heap.size 87 #[.int .i64 H.b.q.lo, .int .i64 H.b.q.hi, .slice p.np H.b.q.ns.length p.nc, .int .i64 H.b.now, .slice p.tp H.b.ts.length p.tc, .int .i64 H.b.glo, .int .i64 H.b.ghi, .int .i64 H.b.most, .int .i64 H.b.rest, .int .i64 H.hl, .int .i64 H.hh, .int .i64 H.rl, .int .i64 H.rh] := Blk.new rfl
  generalize W0.alloc (.cells #[.int .i64 H.b.q.lo, .int .i64 H.b.q.hi, .slice p.np H.b.q.ns.length p.nc, .int .i64 H.b.now, .slice p.tp H.b.ts.length p.tc, .int .i64 H.b.glo, .int .i64 H.b.ghi, .int .i64 H.b.most, .int .i64 H.b.rest, .int .i64 H.hl, .int .i64 H.hh, .int .i64 H.rl, .int .i64 H.rh] 87) = W at *
  generalize W0.heap.size = gH at *
  have HB := Lib.hid hB
  have KR := Lib.hid kR
  (have c0 := Blk.cell kH 0; have c1 := Blk.cell kH 1; have c2 := Blk.cell kH 2; have c3 := Blk.cell kH 3; have c4 := Blk.cell kH 4; have c5 := Blk.cell kH 5; have c6 := Blk.cell kH 6; have c7 := Blk.cell kH 7; have c8 := Blk.cell kH 8; have c9 := Blk.cell kH 9; have c10 := Blk.cell kH 10; have c11 := Blk.cell kH 11; have c12 := Blk.cell kH 12; simp only [List.size_toArray, List.length_cons, List.length_nil, Nat.reduceAdd, Nat.reduceLT, getElem?_pos, List.getElem_toArray, List.getElem_cons_zero, List.getElem_cons_succ] at c0 c1 c2 c3 c4 c5 c6 c7 c8 c9 c10 c11 c12)
  have lH := kH.lt
  clear hW hB0 kR0 hB kR kH
  go_wp2_with (go_at_call 67; refine (answer_plan H p 1 _ pl _ HO.out (by omega) (HL.out.below HB.out) (HP.out.bel HB.out) hlen HT.out).mono ?_; rintro e' w2 ⟨rfl, y2, rfl⟩; have HB2 := Lib.hid (HB.out.trans ((below_ext W y2).mono HB.out.size)); have KR2 := Lib.hid (KR.out.ext y2); clear c0 c1 c2 c3 c4 c5 c6 c7 c8 c9 c10 c11 c12 lH; have kR := KR2.out; generalize ext W y2 = W2 at *; (have r0 := Blk.cell kR 0; have r1 := Blk.cell kR 1; simp only [List.size_toArray, List.length_cons, List.length_nil, Nat.reduceAdd, Nat.reduceLT, getElem?_pos, List.getElem_toArray, List.getElem_cons_zero, List.getElem_cons_succ] at r0 r1); (have f0 := Blk.frozen kR 0; have f1 := Blk.frozen kR 1); have lR := kR.lt; clear kR)
  have kE := KR2.out.set2 (.int .i64 (ansLo (H) 1 pl)) (.int .i64 (ansHi (H) 1 pl))
  have hE := (HB2.out.setCell (p := ⟨w.heap.size + 1, 0, none⟩) (by dsimp only; omega) (.int .i64 (ansLo (H) 1 pl))).setCell (p := ⟨w.heap.size + 1, 1, none⟩) (by dsimp only; omega) (.int .i64 (ansHi (H) 1 pl))
  generalize hWW : World.setCell _ _ _ = WW at kE hE ⊢
  clear hWW
  have HE2 := Lib.hid hE
  (have e0 := Blk.cell kE 0; have e1 := Blk.cell kE 1; simp only [List.size_toArray, List.length_cons, List.length_nil, Nat.reduceAdd, Nat.reduceLT, getElem?_pos, List.getElem_toArray, List.getElem_cons_zero, List.getElem_cons_succ] at e0 e1)
  have lE := kE.lt
  clear hE kE
  refine bodyPost_ret (v := .tuple #[.agg #[(.int .i64 (ansLo (H) 1 pl)), (.int .i64 (ansHi (H) 1 pl))], .int .i64 0]) (by simp [results, Tryz.results21, go_sem, e0, e1, lE]) rfl ⟨rfl, ext_of HE2.out⟩
set_option maxRecDepth 100000 in
set_option maxHeartbeats 4000000 in
theorem Left_yes (b : Tk) (p : Tp) (v : Value) (pl : List Int) (H : Hl) (w : World) (hk : TB w b p) (hn : Hid (b.q.ns.length ≤ 9223372036854775807)) (hp : PlanAt w v pl) (hlen : pl.length ≤ 1000) (hv : validB b = true) (hq : planB b.ts b.most b.rest pl = true) (hH : haulOf b = H) :
    Calls Tryz.prog 24 #[tv b p, v] w fun e' w' => e' = .returned (.tuple #[.agg #[.int .i64 (ansLo (H) 2 pl), .int .i64 (ansHi (H) 2 pl)], .int .i64 0]) ∧ ∃ x, w' = ext w x := by
  have HK := Lib.hid hk
  have HV := Lib.hid hv
  have HH := Lib.hid hH
  have HO := Lib.hid (show H.OK from hH ▸ haul_ok hv)
  have HL := Lib.hid (show LowsAt w p.tp H.b.ts from hH ▸ hk.ts)
  have HP := Lib.hid hp
  have HQ := Lib.hid hq
  have HT := Lib.hid (show ordT H.b.ts H.b.now pl from hH ▸ plan_ord (of_validB hv).2.2.2.2.2.1 (of_validB hv).2.1 hq)
  clear hk hv hq hp hH
  unfold tv
  go_enter Tryz.func24, Tryz.ntmps24
  go_upto_region 2 with (go_at_call 66; refine (topen_good b p _ pl H _ (HK.out.bel (by (repeat (first | (with_reducible exact Below.refl _ _) | (with_reducible assumption) | ((with_reducible refine below_ext_trans ?_ ?_ _); rotate_left; focus (((try dsimp only); repeat (first | omega | simp only [World.size_alloc, World.size_setCell, World.size_drew] | (with_reducible refine le_ext_of ?_) | (with_reducible refine le_ext_add ?_))); done)) | ((with_reducible refine Below.alloc ?_ ?_ _); rotate_left; focus (((try dsimp only); repeat (first | omega | simp only [World.size_alloc, World.size_setCell, World.size_drew] | (with_reducible refine le_ext_of ?_) | (with_reducible refine le_ext_add ?_))); done)) | ((with_reducible refine Below.setCell ?_ ?_ _); rotate_left; focus (((try dsimp only); repeat (first | omega | simp only [World.size_alloc, World.size_setCell, World.size_drew] | (with_reducible refine le_ext_of ?_) | (with_reducible refine le_ext_add ?_))); done)) | (with_reducible refine Below.drew ?_))))) hn (HP.out.bel (by (repeat (first | (with_reducible exact Below.refl _ _) | (with_reducible assumption) | ((with_reducible refine below_ext_trans ?_ ?_ _); rotate_left; focus (((try dsimp only); repeat (first | omega | simp only [World.size_alloc, World.size_setCell, World.size_drew] | (with_reducible refine le_ext_of ?_) | (with_reducible refine le_ext_add ?_))); done)) | ((with_reducible refine Below.alloc ?_ ?_ _); rotate_left; focus (((try dsimp only); repeat (first | omega | simp only [World.size_alloc, World.size_setCell, World.size_drew] | (with_reducible refine le_ext_of ?_) | (with_reducible refine le_ext_add ?_))); done)) | ((with_reducible refine Below.setCell ?_ ?_ _); rotate_left; focus (((try dsimp only); repeat (first | omega | simp only [World.size_alloc, World.size_setCell, World.size_drew] | (with_reducible refine le_ext_of ?_) | (with_reducible refine le_ext_add ?_))); done)) | (with_reducible refine Below.drew ?_))))) hlen HV.out HQ.out HH.out).mono ?_; rintro e' w1 ⟨he, y, rfl⟩; unfold hlv at he; subst he)
  generalize hW : ext _ y = W0
  have hB0 : Below w.heap.size w W0 := by rw [← hW]; (repeat (first | (with_reducible exact Below.refl _ _) | (with_reducible assumption) | ((with_reducible refine below_ext_trans ?_ ?_ _); rotate_left; focus (((try dsimp only); repeat (first | omega | simp only [World.size_alloc, World.size_setCell, World.size_drew] | (with_reducible refine le_ext_of ?_) | (with_reducible refine le_ext_add ?_))); done)) | ((with_reducible refine Below.alloc ?_ ?_ _); rotate_left; focus (((try dsimp only); repeat (first | omega | simp only [World.size_alloc, World.size_setCell, World.size_drew] | (with_reducible refine le_ext_of ?_) | (with_reducible refine le_ext_add ?_))); done)) | ((with_reducible refine Below.setCell ?_ ?_ _); rotate_left; focus (((try dsimp only); repeat (first | omega | simp only [World.size_alloc, World.size_setCell, World.size_drew] | (with_reducible refine le_ext_of ?_) | (with_reducible refine le_ext_add ?_))); done)) | (with_reducible refine Below.drew ?_)))
  have kR0 : Blk W0 (w.heap.size + 1) 23 #[.int .i64 0, .int .i64 0] := by rw [← hW]; exact (Blk.new (by simp)).ext y
  have hB := hB0.alloc hB0.size (.cells #[.int .i64 H.b.q.lo, .int .i64 H.b.q.hi, .slice p.np H.b.q.ns.length p.nc, .int .i64 H.b.now, .slice p.tp H.b.ts.length p.tc, .int .i64 H.b.glo, .int .i64 H.b.ghi, .int .i64 H.b.most, .int .i64 H.b.rest, .int .i64 H.hl, .int .i64 H.hh, .int .i64 H.rl, .int .i64 H.rh] 87)
  have kR := kR0.alloc (.cells #[.int .i64 H.b.q.lo, .int .i64 H.b.q.hi, .slice p.np H.b.q.ns.length p.nc, .int .i64 H.b.now, .slice p.tp H.b.ts.length p.tc, .int .i64 H.b.glo, .int .i64 H.b.ghi, .int .i64 H.b.most, .int .i64 H.b.rest, .int .i64 H.hl, .int .i64 H.hh, .int .i64 H.rl, .int .i64 H.rh] 87)
  have kH : Blk (W0.alloc (.cells #[.int .i64 H.b.q.lo, .int .i64 H.b.q.hi, .slice p.np H.b.q.ns.length p.nc, .int .i64 H.b.now, .slice p.tp H.b.ts.length p.tc, .int .i64 H.b.glo, .int .i64 H.b.ghi, .int .i64 H.b.most, .int .i64 H.b.rest, .int .i64 H.hl, .int .i64 H.hh, .int .i64 H.rl, .int .i64 H.rh] 87)) W0.heap.size 87 #[.int .i64 H.b.q.lo, .int .i64 H.b.q.hi, .slice p.np H.b.q.ns.length p.nc, .int .i64 H.b.now, .slice p.tp H.b.ts.length p.tc, .int .i64 H.b.glo, .int .i64 H.b.ghi, .int .i64 H.b.most, .int .i64 H.b.rest, .int .i64 H.hl, .int .i64 H.hh, .int .i64 H.rl, .int .i64 H.rh] := Blk.new rfl
  generalize W0.alloc (.cells #[.int .i64 H.b.q.lo, .int .i64 H.b.q.hi, .slice p.np H.b.q.ns.length p.nc, .int .i64 H.b.now, .slice p.tp H.b.ts.length p.tc, .int .i64 H.b.glo, .int .i64 H.b.ghi, .int .i64 H.b.most, .int .i64 H.b.rest, .int .i64 H.hl, .int .i64 H.hh, .int .i64 H.rl, .int .i64 H.rh] 87) = W at *
  generalize W0.heap.size = gH at *
  have HB := Lib.hid hB
  have KR := Lib.hid kR
  (have c0 := Blk.cell kH 0; have c1 := Blk.cell kH 1; have c2 := Blk.cell kH 2; have c3 := Blk.cell kH 3; have c4 := Blk.cell kH 4; have c5 := Blk.cell kH 5; have c6 := Blk.cell kH 6; have c7 := Blk.cell kH 7; have c8 := Blk.cell kH 8; have c9 := Blk.cell kH 9; have c10 := Blk.cell kH 10; have c11 := Blk.cell kH 11; have c12 := Blk.cell kH 12; simp only [List.size_toArray, List.length_cons, List.length_nil, Nat.reduceAdd, Nat.reduceLT, getElem?_pos, List.getElem_toArray, List.getElem_cons_zero, List.getElem_cons_succ] at c0 c1 c2 c3 c4 c5 c6 c7 c8 c9 c10 c11 c12)
  have lH := kH.lt
  clear hW hB0 kR0 hB kR kH
  go_wp2_with (go_at_call 67; refine (answer_plan H p 2 _ pl _ HO.out (by omega) (HL.out.below HB.out) (HP.out.bel HB.out) hlen HT.out).mono ?_; rintro e' w2 ⟨rfl, y2, rfl⟩; have HB2 := Lib.hid (HB.out.trans ((below_ext W y2).mono HB.out.size)); have KR2 := Lib.hid (KR.out.ext y2); clear c0 c1 c2 c3 c4 c5 c6 c7 c8 c9 c10 c11 c12 lH; have kR := KR2.out; generalize ext W y2 = W2 at *; (have r0 := Blk.cell kR 0; have r1 := Blk.cell kR 1; simp only [List.size_toArray, List.length_cons, List.length_nil, Nat.reduceAdd, Nat.reduceLT, getElem?_pos, List.getElem_toArray, List.getElem_cons_zero, List.getElem_cons_succ] at r0 r1); (have f0 := Blk.frozen kR 0; have f1 := Blk.frozen kR 1); have lR := kR.lt; clear kR)
  have kE := KR2.out.set2 (.int .i64 (ansLo (H) 2 pl)) (.int .i64 (ansHi (H) 2 pl))
  have hE := (HB2.out.setCell (p := ⟨w.heap.size + 1, 0, none⟩) (by dsimp only; omega) (.int .i64 (ansLo (H) 2 pl))).setCell (p := ⟨w.heap.size + 1, 1, none⟩) (by dsimp only; omega) (.int .i64 (ansHi (H) 2 pl))
  generalize hWW : World.setCell _ _ _ = WW at kE hE ⊢
  clear hWW
  have HE2 := Lib.hid hE
  (have e0 := Blk.cell kE 0; have e1 := Blk.cell kE 1; simp only [List.size_toArray, List.length_cons, List.length_nil, Nat.reduceAdd, Nat.reduceLT, getElem?_pos, List.getElem_toArray, List.getElem_cons_zero, List.getElem_cons_succ] at e0 e1)
  have lE := kE.lt
  clear hE kE
  refine bodyPost_ret (v := .tuple #[.agg #[(.int .i64 (ansLo (H) 2 pl)), (.int .i64 (ansHi (H) 2 pl))], .int .i64 0]) (by simp [results, Tryz.results24, go_sem, e0, e1, lE]) rfl ⟨rfl, ext_of HE2.out⟩
set_option maxRecDepth 100000 in
set_option maxHeartbeats 4000000 in
theorem Mended_yes (b : Tk) (p : Tp) (v : Value) (pl : List Int) (H : Hl) (w : World) (hk : TB w b p) (hn : Hid (b.q.ns.length ≤ 9223372036854775807)) (hp : PlanAt w v pl) (hlen : pl.length ≤ 1000) (hv : validB b = true) (hq : planB b.ts b.most b.rest pl = true) (hH : haulOf b = H) :
    Calls Tryz.prog 26 #[tv b p, v] w fun e' w' => e' = .returned (.tuple #[.agg #[.int .i64 (ansLo (H.mend) 0 pl), .int .i64 (ansHi (H.mend) 0 pl)], .int .i64 0]) ∧ ∃ x, w' = ext w x := by
  have HK := Lib.hid hk
  have HV := Lib.hid hv
  have HH := Lib.hid hH
  have HO := Lib.hid (show H.OK from hH ▸ haul_ok hv)
  have HL := Lib.hid (show LowsAt w p.tp H.b.ts from hH ▸ hk.ts)
  have HP := Lib.hid hp
  have HQ := Lib.hid hq
  have HT := Lib.hid (show ordT H.b.ts H.b.now pl from hH ▸ plan_ord (of_validB hv).2.2.2.2.2.1 (of_validB hv).2.1 hq)
  clear hk hv hq hp hH
  unfold tv
  go_enter Tryz.func26, Tryz.ntmps26
  go_upto_region 2 with (go_at_call 66; refine (topen_good b p _ pl H _ (HK.out.bel (by (repeat (first | (with_reducible exact Below.refl _ _) | (with_reducible assumption) | ((with_reducible refine below_ext_trans ?_ ?_ _); rotate_left; focus (((try dsimp only); repeat (first | omega | simp only [World.size_alloc, World.size_setCell, World.size_drew] | (with_reducible refine le_ext_of ?_) | (with_reducible refine le_ext_add ?_))); done)) | ((with_reducible refine Below.alloc ?_ ?_ _); rotate_left; focus (((try dsimp only); repeat (first | omega | simp only [World.size_alloc, World.size_setCell, World.size_drew] | (with_reducible refine le_ext_of ?_) | (with_reducible refine le_ext_add ?_))); done)) | ((with_reducible refine Below.setCell ?_ ?_ _); rotate_left; focus (((try dsimp only); repeat (first | omega | simp only [World.size_alloc, World.size_setCell, World.size_drew] | (with_reducible refine le_ext_of ?_) | (with_reducible refine le_ext_add ?_))); done)) | (with_reducible refine Below.drew ?_))))) hn (HP.out.bel (by (repeat (first | (with_reducible exact Below.refl _ _) | (with_reducible assumption) | ((with_reducible refine below_ext_trans ?_ ?_ _); rotate_left; focus (((try dsimp only); repeat (first | omega | simp only [World.size_alloc, World.size_setCell, World.size_drew] | (with_reducible refine le_ext_of ?_) | (with_reducible refine le_ext_add ?_))); done)) | ((with_reducible refine Below.alloc ?_ ?_ _); rotate_left; focus (((try dsimp only); repeat (first | omega | simp only [World.size_alloc, World.size_setCell, World.size_drew] | (with_reducible refine le_ext_of ?_) | (with_reducible refine le_ext_add ?_))); done)) | ((with_reducible refine Below.setCell ?_ ?_ _); rotate_left; focus (((try dsimp only); repeat (first | omega | simp only [World.size_alloc, World.size_setCell, World.size_drew] | (with_reducible refine le_ext_of ?_) | (with_reducible refine le_ext_add ?_))); done)) | (with_reducible refine Below.drew ?_))))) hlen HV.out HQ.out HH.out).mono ?_; rintro e' w1 ⟨he, y, rfl⟩; unfold hlv at he; subst he)
  generalize hW : ext _ y = W0
  have hB0 : Below w.heap.size w W0 := by rw [← hW]; (repeat (first | (with_reducible exact Below.refl _ _) | (with_reducible assumption) | ((with_reducible refine below_ext_trans ?_ ?_ _); rotate_left; focus (((try dsimp only); repeat (first | omega | simp only [World.size_alloc, World.size_setCell, World.size_drew] | (with_reducible refine le_ext_of ?_) | (with_reducible refine le_ext_add ?_))); done)) | ((with_reducible refine Below.alloc ?_ ?_ _); rotate_left; focus (((try dsimp only); repeat (first | omega | simp only [World.size_alloc, World.size_setCell, World.size_drew] | (with_reducible refine le_ext_of ?_) | (with_reducible refine le_ext_add ?_))); done)) | ((with_reducible refine Below.setCell ?_ ?_ _); rotate_left; focus (((try dsimp only); repeat (first | omega | simp only [World.size_alloc, World.size_setCell, World.size_drew] | (with_reducible refine le_ext_of ?_) | (with_reducible refine le_ext_add ?_))); done)) | (with_reducible refine Below.drew ?_)))
  have kR0 : Blk W0 (w.heap.size + 1) 23 #[.int .i64 0, .int .i64 0] := by rw [← hW]; exact (Blk.new (by simp)).ext y
  have hB := hB0.alloc hB0.size (.cells #[.int .i64 H.b.q.lo, .int .i64 H.b.q.hi, .slice p.np H.b.q.ns.length p.nc, .int .i64 H.b.now, .slice p.tp H.b.ts.length p.tc, .int .i64 H.b.glo, .int .i64 H.b.ghi, .int .i64 H.b.most, .int .i64 H.b.rest, .int .i64 H.hl, .int .i64 H.hh, .int .i64 H.rl, .int .i64 H.rh] 87)
  have kR := kR0.alloc (.cells #[.int .i64 H.b.q.lo, .int .i64 H.b.q.hi, .slice p.np H.b.q.ns.length p.nc, .int .i64 H.b.now, .slice p.tp H.b.ts.length p.tc, .int .i64 H.b.glo, .int .i64 H.b.ghi, .int .i64 H.b.most, .int .i64 H.b.rest, .int .i64 H.hl, .int .i64 H.hh, .int .i64 H.rl, .int .i64 H.rh] 87)
  have kH : Blk (W0.alloc (.cells #[.int .i64 H.b.q.lo, .int .i64 H.b.q.hi, .slice p.np H.b.q.ns.length p.nc, .int .i64 H.b.now, .slice p.tp H.b.ts.length p.tc, .int .i64 H.b.glo, .int .i64 H.b.ghi, .int .i64 H.b.most, .int .i64 H.b.rest, .int .i64 H.hl, .int .i64 H.hh, .int .i64 H.rl, .int .i64 H.rh] 87)) W0.heap.size 87 #[.int .i64 H.b.q.lo, .int .i64 H.b.q.hi, .slice p.np H.b.q.ns.length p.nc, .int .i64 H.b.now, .slice p.tp H.b.ts.length p.tc, .int .i64 H.b.glo, .int .i64 H.b.ghi, .int .i64 H.b.most, .int .i64 H.b.rest, .int .i64 H.hl, .int .i64 H.hh, .int .i64 H.rl, .int .i64 H.rh] := Blk.new rfl
  generalize W0.alloc (.cells #[.int .i64 H.b.q.lo, .int .i64 H.b.q.hi, .slice p.np H.b.q.ns.length p.nc, .int .i64 H.b.now, .slice p.tp H.b.ts.length p.tc, .int .i64 H.b.glo, .int .i64 H.b.ghi, .int .i64 H.b.most, .int .i64 H.b.rest, .int .i64 H.hl, .int .i64 H.hh, .int .i64 H.rl, .int .i64 H.rh] 87) = W at *
  generalize W0.heap.size = gH at *
  have HB := Lib.hid hB
  have KR := Lib.hid kR
  (have c0 := Blk.cell kH 0; have c1 := Blk.cell kH 1; have c2 := Blk.cell kH 2; have c3 := Blk.cell kH 3; have c4 := Blk.cell kH 4; have c5 := Blk.cell kH 5; have c6 := Blk.cell kH 6; have c7 := Blk.cell kH 7; have c8 := Blk.cell kH 8; have c9 := Blk.cell kH 9; have c10 := Blk.cell kH 10; have c11 := Blk.cell kH 11; have c12 := Blk.cell kH 12; simp only [List.size_toArray, List.length_cons, List.length_nil, Nat.reduceAdd, Nat.reduceLT, getElem?_pos, List.getElem_toArray, List.getElem_cons_zero, List.getElem_cons_succ] at c0 c1 c2 c3 c4 c5 c6 c7 c8 c9 c10 c11 c12)
  have lH := kH.lt
  clear hW hB0 kR0 hB kR kH
  go_wp2_with (first
    | (go_at_call 75; refine (mended_any H p _).mono ?_; rintro e' w2 ⟨rfl, y2, rfl⟩; have HB1 := Lib.hid (HB.out.trans ((below_ext W y2).mono HB.out.size)); have KR1 := Lib.hid (KR.out.ext y2); clear c0 c1 c2 c3 c4 c5 c6 c7 c8 c9 c10 c11 c12 lH; generalize ext W y2 = W1 at *)
    | (go_at_call 67; refine (answer_plan H.mend p 0 _ pl _ HO.out.mend (by omega) (HL.out.below HB1.out) (HP.out.bel HB1.out) hlen HT.out).mono ?_; rintro e' w2 ⟨rfl, y3, rfl⟩; have HB2 := Lib.hid (HB1.out.trans ((below_ext W1 y3).mono HB1.out.size)); have KR2 := Lib.hid (KR1.out.ext y3); have kR := KR2.out; generalize ext W1 y3 = W2 at *; (have r0 := Blk.cell kR 0; have r1 := Blk.cell kR 1; simp only [List.size_toArray, List.length_cons, List.length_nil, Nat.reduceAdd, Nat.reduceLT, getElem?_pos, List.getElem_toArray, List.getElem_cons_zero, List.getElem_cons_succ] at r0 r1); (have f0 := Blk.frozen kR 0; have f1 := Blk.frozen kR 1); have lR := kR.lt; clear kR))
  have kE := KR2.out.set2 (.int .i64 (ansLo (H.mend) 0 pl)) (.int .i64 (ansHi (H.mend) 0 pl))
  have hE := (HB2.out.setCell (p := ⟨w.heap.size + 1, 0, none⟩) (by dsimp only; omega) (.int .i64 (ansLo (H.mend) 0 pl))).setCell (p := ⟨w.heap.size + 1, 1, none⟩) (by dsimp only; omega) (.int .i64 (ansHi (H.mend) 0 pl))
  generalize hWW : World.setCell _ _ _ = WW at kE hE ⊢
  clear hWW
  have HE2 := Lib.hid hE
  (have e0 := Blk.cell kE 0; have e1 := Blk.cell kE 1; simp only [List.size_toArray, List.length_cons, List.length_nil, Nat.reduceAdd, Nat.reduceLT, getElem?_pos, List.getElem_toArray, List.getElem_cons_zero, List.getElem_cons_succ] at e0 e1)
  have lE := kE.lt
  clear hE kE
  refine bodyPost_ret (v := .tuple #[.agg #[(.int .i64 (ansLo (H.mend) 0 pl)), (.int .i64 (ansHi (H.mend) 0 pl))], .int .i64 0]) (by simp [results, Tryz.results26, go_sem, e0, e1, lE]) rfl ⟨rfl, ext_of HE2.out⟩
set_option maxRecDepth 100000 in
set_option maxHeartbeats 4000000 in
theorem Spare_yes (b : Tk) (p : Tp) (v : Value) (pl : List Int) (H : Hl) (w : World) (hk : TB w b p) (hn : Hid (b.q.ns.length ≤ 9223372036854775807)) (hp : PlanAt w v pl) (hlen : pl.length ≤ 1000) (hv : validB b = true) (hq : planB b.ts b.most b.rest pl = true) (hH : haulOf b = H) :
    Calls Tryz.prog 28 #[tv b p, v] w fun e' w' => ∃ v', e' = .returned (.tuple #[v', .int .i64 0]) ∧ OwnInts w' w.heap.size v' (sprL H pl pl.length) ∧ ∃ x, w' = ext w x := by
  have HK := Lib.hid hk
  have HV := Lib.hid hv
  have HH := Lib.hid hH
  have HO := Lib.hid (show H.OK from hH ▸ haul_ok hv)
  have HL := Lib.hid (show LowsAt w p.tp H.b.ts from hH ▸ hk.ts)
  have HP := Lib.hid hp
  have HQ := Lib.hid hq
  have HT := Lib.hid (show ordT H.b.ts H.b.now pl from hH ▸ plan_ord (of_validB hv).2.2.2.2.2.1 (of_validB hv).2.1 hq)
  clear hk hv hq hp hH
  unfold tv
  go_enter Tryz.func28, Tryz.ntmps28
  go_upto_region 2 with (go_at_call 66; refine (topen_good b p _ pl H _ (HK.out.bel (by (repeat (first | (with_reducible exact Below.refl _ _) | (with_reducible assumption) | ((with_reducible refine below_ext_trans ?_ ?_ _); rotate_left; focus (((try dsimp only); repeat (first | omega | simp only [World.size_alloc, World.size_setCell, World.size_drew] | (with_reducible refine le_ext_of ?_) | (with_reducible refine le_ext_add ?_))); done)) | ((with_reducible refine Below.alloc ?_ ?_ _); rotate_left; focus (((try dsimp only); repeat (first | omega | simp only [World.size_alloc, World.size_setCell, World.size_drew] | (with_reducible refine le_ext_of ?_) | (with_reducible refine le_ext_add ?_))); done)) | ((with_reducible refine Below.setCell ?_ ?_ _); rotate_left; focus (((try dsimp only); repeat (first | omega | simp only [World.size_alloc, World.size_setCell, World.size_drew] | (with_reducible refine le_ext_of ?_) | (with_reducible refine le_ext_add ?_))); done)) | (with_reducible refine Below.drew ?_))))) hn (HP.out.bel (by (repeat (first | (with_reducible exact Below.refl _ _) | (with_reducible assumption) | ((with_reducible refine below_ext_trans ?_ ?_ _); rotate_left; focus (((try dsimp only); repeat (first | omega | simp only [World.size_alloc, World.size_setCell, World.size_drew] | (with_reducible refine le_ext_of ?_) | (with_reducible refine le_ext_add ?_))); done)) | ((with_reducible refine Below.alloc ?_ ?_ _); rotate_left; focus (((try dsimp only); repeat (first | omega | simp only [World.size_alloc, World.size_setCell, World.size_drew] | (with_reducible refine le_ext_of ?_) | (with_reducible refine le_ext_add ?_))); done)) | ((with_reducible refine Below.setCell ?_ ?_ _); rotate_left; focus (((try dsimp only); repeat (first | omega | simp only [World.size_alloc, World.size_setCell, World.size_drew] | (with_reducible refine le_ext_of ?_) | (with_reducible refine le_ext_add ?_))); done)) | (with_reducible refine Below.drew ?_))))) hlen HV.out HQ.out HH.out).mono ?_; rintro e' w1 ⟨he, y, rfl⟩; unfold hlv at he; subst he)
  generalize hW : ext _ y = W0
  have hB0 : Below w.heap.size w W0 := by rw [← hW]; (repeat (first | (with_reducible exact Below.refl _ _) | (with_reducible assumption) | ((with_reducible refine below_ext_trans ?_ ?_ _); rotate_left; focus (((try dsimp only); repeat (first | omega | simp only [World.size_alloc, World.size_setCell, World.size_drew] | (with_reducible refine le_ext_of ?_) | (with_reducible refine le_ext_add ?_))); done)) | ((with_reducible refine Below.alloc ?_ ?_ _); rotate_left; focus (((try dsimp only); repeat (first | omega | simp only [World.size_alloc, World.size_setCell, World.size_drew] | (with_reducible refine le_ext_of ?_) | (with_reducible refine le_ext_add ?_))); done)) | ((with_reducible refine Below.setCell ?_ ?_ _); rotate_left; focus (((try dsimp only); repeat (first | omega | simp only [World.size_alloc, World.size_setCell, World.size_drew] | (with_reducible refine le_ext_of ?_) | (with_reducible refine le_ext_add ?_))); done)) | (with_reducible refine Below.drew ?_)))
  have hB := hB0.alloc hB0.size (.cells #[.int .i64 H.b.q.lo, .int .i64 H.b.q.hi, .slice p.np H.b.q.ns.length p.nc, .int .i64 H.b.now, .slice p.tp H.b.ts.length p.tc, .int .i64 H.b.glo, .int .i64 H.b.ghi, .int .i64 H.b.most, .int .i64 H.b.rest, .int .i64 H.hl, .int .i64 H.hh, .int .i64 H.rl, .int .i64 H.rh] 87)
  have kH : Blk (W0.alloc (.cells #[.int .i64 H.b.q.lo, .int .i64 H.b.q.hi, .slice p.np H.b.q.ns.length p.nc, .int .i64 H.b.now, .slice p.tp H.b.ts.length p.tc, .int .i64 H.b.glo, .int .i64 H.b.ghi, .int .i64 H.b.most, .int .i64 H.b.rest, .int .i64 H.hl, .int .i64 H.hh, .int .i64 H.rl, .int .i64 H.rh] 87)) W0.heap.size 87 #[.int .i64 H.b.q.lo, .int .i64 H.b.q.hi, .slice p.np H.b.q.ns.length p.nc, .int .i64 H.b.now, .slice p.tp H.b.ts.length p.tc, .int .i64 H.b.glo, .int .i64 H.b.ghi, .int .i64 H.b.most, .int .i64 H.b.rest, .int .i64 H.hl, .int .i64 H.hh, .int .i64 H.rl, .int .i64 H.rh] := Blk.new rfl
  generalize W0.alloc (.cells #[.int .i64 H.b.q.lo, .int .i64 H.b.q.hi, .slice p.np H.b.q.ns.length p.nc, .int .i64 H.b.now, .slice p.tp H.b.ts.length p.tc, .int .i64 H.b.glo, .int .i64 H.b.ghi, .int .i64 H.b.most, .int .i64 H.b.rest, .int .i64 H.hl, .int .i64 H.hh, .int .i64 H.rl, .int .i64 H.rh] 87) = W at *
  generalize W0.heap.size = gH at *
  have HB := Lib.hid hB
  (have c0 := Blk.cell kH 0; have c1 := Blk.cell kH 1; have c2 := Blk.cell kH 2; have c3 := Blk.cell kH 3; have c4 := Blk.cell kH 4; have c5 := Blk.cell kH 5; have c6 := Blk.cell kH 6; have c7 := Blk.cell kH 7; have c8 := Blk.cell kH 8; have c9 := Blk.cell kH 9; have c10 := Blk.cell kH 10; have c11 := Blk.cell kH 11; have c12 := Blk.cell kH 12; simp only [List.size_toArray, List.length_cons, List.length_nil, Nat.reduceAdd, Nat.reduceLT, getElem?_pos, List.getElem_toArray, List.getElem_cons_zero, List.getElem_cons_succ] at c0 c1 c2 c3 c4 c5 c6 c7 c8 c9 c10 c11 c12)
  have lH := kH.lt
  clear hW hB0 hB kH
  go_wp2_with (go_at_call 78; refine (spare_any H p _ pl _ HO.out (HL.out.below HB.out) (HP.out.bel HB.out) hlen HT.out).mono ?_; rintro e' w2 ⟨v', rfl, hv', y2, rfl⟩; have HV' := Lib.hid hv'; clear hv')
  refine bodyPost_ret (v := .tuple #[v', .int .i64 0]) (by simp [results, Tryz.results28, go_sem]) rfl ⟨v', rfl, HV'.out.mono HB.out.size, ext_of (HB.out.trans ((below_ext W y2).mono HB.out.size))⟩
set_option maxRecDepth 100000 in
set_option maxHeartbeats 4000000 in
theorem Best_yes (b : Tk) (p : Tp) (H : Hl) (w : World) (hk : TB w b p) (hn : Hid (b.q.ns.length ≤ 9223372036854775807)) (hv : validB b = true) (hH : haulOf b = H) :
    Calls Tryz.prog 31 #[tv b p] w fun e' w' => ∃ (v' : Value) (pb : List Int), e' = .returned (.tuple #[v', .int .i64 0]) ∧ PlanIn w.heap.size w' v' pb ∧ IsBest H pb ∧ ∃ x, w' = ext w x := by
  have HK := Lib.hid hk
  have HV := Lib.hid hv
  have HH := Lib.hid hH
  have HO := Lib.hid (show H.OK from hH ▸ haul_ok hv)
  have HL := Lib.hid (show LowsAt w p.tp H.b.ts from hH ▸ hk.ts)
  have HQ := Lib.hid (show planB b.ts b.most b.rest [] = true from plan_nil (of_validB hv).2.2.2.2.1.1)
  clear hk hv hH
  unfold tv
  go_enter Tryz.func31, Tryz.ntmps31
  go_upto_region 2 with (go_at_call 66; refine (topen_good b p _ [] H _ (HK.out.bel (by (repeat (first | (with_reducible exact Below.refl _ _) | (with_reducible assumption) | ((with_reducible refine below_ext_trans ?_ ?_ _); rotate_left; focus (((try dsimp only); repeat (first | omega | simp only [World.size_alloc, World.size_setCell, World.size_drew] | (with_reducible refine le_ext_of ?_) | (with_reducible refine le_ext_add ?_))); done)) | ((with_reducible refine Below.alloc ?_ ?_ _); rotate_left; focus (((try dsimp only); repeat (first | omega | simp only [World.size_alloc, World.size_setCell, World.size_drew] | (with_reducible refine le_ext_of ?_) | (with_reducible refine le_ext_add ?_))); done)) | ((with_reducible refine Below.setCell ?_ ?_ _); rotate_left; focus (((try dsimp only); repeat (first | omega | simp only [World.size_alloc, World.size_setCell, World.size_drew] | (with_reducible refine le_ext_of ?_) | (with_reducible refine le_ext_add ?_))); done)) | (with_reducible refine Below.drew ?_))))) hn (PlanAt.nil _) (by simp) HV.out HQ.out HH.out).mono ?_; rintro e' w1 ⟨he, y, rfl⟩; unfold hlv at he; subst he)
  generalize hW : ext _ y = W0
  have hB0 : Below w.heap.size w W0 := by rw [← hW]; (repeat (first | (with_reducible exact Below.refl _ _) | (with_reducible assumption) | ((with_reducible refine below_ext_trans ?_ ?_ _); rotate_left; focus (((try dsimp only); repeat (first | omega | simp only [World.size_alloc, World.size_setCell, World.size_drew] | (with_reducible refine le_ext_of ?_) | (with_reducible refine le_ext_add ?_))); done)) | ((with_reducible refine Below.alloc ?_ ?_ _); rotate_left; focus (((try dsimp only); repeat (first | omega | simp only [World.size_alloc, World.size_setCell, World.size_drew] | (with_reducible refine le_ext_of ?_) | (with_reducible refine le_ext_add ?_))); done)) | ((with_reducible refine Below.setCell ?_ ?_ _); rotate_left; focus (((try dsimp only); repeat (first | omega | simp only [World.size_alloc, World.size_setCell, World.size_drew] | (with_reducible refine le_ext_of ?_) | (with_reducible refine le_ext_add ?_))); done)) | (with_reducible refine Below.drew ?_)))
  have hB := hB0.alloc hB0.size (.cells #[.int .i64 H.b.q.lo, .int .i64 H.b.q.hi, .slice p.np H.b.q.ns.length p.nc, .int .i64 H.b.now, .slice p.tp H.b.ts.length p.tc, .int .i64 H.b.glo, .int .i64 H.b.ghi, .int .i64 H.b.most, .int .i64 H.b.rest, .int .i64 H.hl, .int .i64 H.hh, .int .i64 H.rl, .int .i64 H.rh] 87)
  have kH : Blk (W0.alloc (.cells #[.int .i64 H.b.q.lo, .int .i64 H.b.q.hi, .slice p.np H.b.q.ns.length p.nc, .int .i64 H.b.now, .slice p.tp H.b.ts.length p.tc, .int .i64 H.b.glo, .int .i64 H.b.ghi, .int .i64 H.b.most, .int .i64 H.b.rest, .int .i64 H.hl, .int .i64 H.hh, .int .i64 H.rl, .int .i64 H.rh] 87)) W0.heap.size 87 #[.int .i64 H.b.q.lo, .int .i64 H.b.q.hi, .slice p.np H.b.q.ns.length p.nc, .int .i64 H.b.now, .slice p.tp H.b.ts.length p.tc, .int .i64 H.b.glo, .int .i64 H.b.ghi, .int .i64 H.b.most, .int .i64 H.b.rest, .int .i64 H.hl, .int .i64 H.hh, .int .i64 H.rl, .int .i64 H.rh] := Blk.new rfl
  generalize W0.alloc (.cells #[.int .i64 H.b.q.lo, .int .i64 H.b.q.hi, .slice p.np H.b.q.ns.length p.nc, .int .i64 H.b.now, .slice p.tp H.b.ts.length p.tc, .int .i64 H.b.glo, .int .i64 H.b.ghi, .int .i64 H.b.most, .int .i64 H.b.rest, .int .i64 H.hl, .int .i64 H.hh, .int .i64 H.rl, .int .i64 H.rh] 87) = W at *
  generalize W0.heap.size = gH at *
  have HB := Lib.hid hB
  (have c0 := Blk.cell kH 0; have c1 := Blk.cell kH 1; have c2 := Blk.cell kH 2; have c3 := Blk.cell kH 3; have c4 := Blk.cell kH 4; have c5 := Blk.cell kH 5; have c6 := Blk.cell kH 6; have c7 := Blk.cell kH 7; have c8 := Blk.cell kH 8; have c9 := Blk.cell kH 9; have c10 := Blk.cell kH 10; have c11 := Blk.cell kH 11; have c12 := Blk.cell kH 12; simp only [List.size_toArray, List.length_cons, List.length_nil, Nat.reduceAdd, Nat.reduceLT, getElem?_pos, List.getElem_toArray, List.getElem_cons_zero, List.getElem_cons_succ] at c0 c1 c2 c3 c4 c5 c6 c7 c8 c9 c10 c11 c12)
  have lH := kH.lt
  clear hW hB0 hB kH
  go_wp2_with (go_at_call 80; refine (best_any H p _ HO.out (HL.out.below HB.out)).mono ?_; rintro e' w2 ⟨v', pb, rfl, hv', hb', y2, rfl⟩; have HV' := Lib.hid hv'; have HBB := Lib.hid hb'; clear hv' hb')
  refine bodyPost_ret (v := .tuple #[v', .int .i64 0]) (by simp [results, Tryz.results31, go_sem]) rfl ⟨v', pb, rfl, HV'.out.mono HB.out.size, HBB.out, ext_of (HB.out.trans ((below_ext W y2).mono HB.out.size))⟩
end Go.Proofs.YtcaeohgbgeadaaaGreatDoor

