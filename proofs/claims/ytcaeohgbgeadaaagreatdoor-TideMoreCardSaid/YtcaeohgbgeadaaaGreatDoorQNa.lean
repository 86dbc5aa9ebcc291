/- Package seine: Right and Saved. -/
/- Package tide: what makes a book valid. -/
import Derived.Test.YtcaeohgbgeadaaaGreatDoorQMc
import Derived.Test.YtcaeohgbgeadaaaGreatDoorQDe
set_option linter.unusedSimpArgs false
set_option linter.unusedVariables false
namespace Go.Proofs.YtcaeohgbgeadaaaGreatDoor
open Go Go.RowKit Go.Shelf

/-- Why a question is not answered. -/
def AErr (b : Sn) (asked : Bool) (code : Int) : Prop :=
  (snB b = false ∧ code = 30) ∨ (snB b = true ∧ asked = false ∧ code = 31) ∨ (snB b = true ∧ asked = true ∧ rightS b = false ∧ code = 32)
theorem AErr.ne {b : Sn} {asked : Bool} {code : Int} (h : AErr b asked code) : ¬ code = 0 := by
  rcases h with ⟨-, rfl⟩ | ⟨-, -, rfl⟩ | ⟨-, -, -, rfl⟩ <;> decide
theorem AErr.bd {b : Sn} {asked : Bool} {code : Int} (h : AErr b asked code) : 0 ≤ code ∧ code ≤ 100 := by
  rcases h with ⟨-, rfl⟩ | ⟨-, -, rfl⟩ | ⟨-, -, -, rfl⟩ <;> decide
theorem answer_err (b : Sn) (p : Option Addr) (c : Nat) (asked : Bool) (code : Int) (w : World) (hk : SBk w b p) (h : AErr b asked code) :
    Calls Tryz.prog 93 #[.agg #[.int .i64 b.lo, .int .i64 b.hi, .slice p b.ns.length c], .bool asked] w fun e w' => e = .returned (.tuple #[.agg zeroT, .int .i64 code]) ∧ Below w.heap.size w w' := by
  rcases h with ⟨h1, rfl⟩ | ⟨h1, rfl, rfl⟩ | ⟨h1, rfl, h2, rfl⟩
  · exact answer_bad b p c asked w hk h1
  · exact answer_ask b p c w hk h1
  · exact answer_false b p c w hk h1 h2
attribute [local go_sem] Oper.semAt_some frozen_alloc_lt
set_option maxHeartbeats 1000000 in
theorem Right_bad (b : Sn) (p : Option Addr) (c : Nat) (w : World) (hk : SBk w b p) (hv : snB b = false) :
    Calls Tryz.prog 146 #[.agg #[.int .i64 b.lo, .int .i64 b.hi, .slice p b.ns.length c]] w fun e w' => e = .returned (.tuple #[.bool false, .int .i64 30]) ∧ Below w.heap.size w w' := by
  have HK := Lib.hid hk
  clear hk
  go_enter Tryz.func146, Tryz.ntmps146
  go_wp2_with (go_at_call 84; refine (Check_eq b p c false _ (HK.out.bel (by (repeat (first | (with_reducible exact Below.refl _ _) | (with_reducible assumption) | ((with_reducible refine below_ext_trans ?_ ?_ _); rotate_left; focus (((try dsimp only); repeat (first | omega | simp only [World.size_alloc, World.size_setCell, World.size_drew] | (with_reducible refine le_ext_of ?_) | (with_reducible refine le_ext_add ?_))); done)) | ((with_reducible refine Below.alloc ?_ ?_ _); rotate_left; focus (((try dsimp only); repeat (first | omega | simp only [World.size_alloc, World.size_setCell, World.size_drew] | (with_reducible refine le_ext_of ?_) | (with_reducible refine le_ext_add ?_))); done)) | ((with_reducible refine Below.setCell ?_ ?_ _); rotate_left; focus (((try dsimp only); repeat (first | omega | simp only [World.size_alloc, World.size_setCell, World.size_drew] | (with_reducible refine le_ext_of ?_) | (with_reducible refine le_ext_add ?_))); done)) | (with_reducible refine Below.drew ?_))))) hv).mono ?_; rintro e w1 ⟨rfl, y, rfl⟩)
  refine bodyPost_ret (v := .tuple #[.bool false, .int .i64 30]) ?_ ?_ ?_
  · simp [results, Tryz.results146, go_sem]
  · rfl
  · exact ⟨rfl, by (repeat (first | (with_reducible exact Below.refl _ _) | (with_reducible assumption) | ((with_reducible refine below_ext_trans ?_ ?_ _); rotate_left; focus (((try dsimp only); repeat (first | omega | simp only [World.size_alloc, World.size_setCell, World.size_drew] | (with_reducible refine le_ext_of ?_) | (with_reducible refine le_ext_add ?_))); done)) | ((with_reducible refine Below.alloc ?_ ?_ _); rotate_left; focus (((try dsimp only); repeat (first | omega | simp only [World.size_alloc, World.size_setCell, World.size_drew] | (with_reducible refine le_ext_of ?_) | (with_reducible refine le_ext_add ?_))); done)) | ((with_reducible refine Below.setCell ?_ ?_ _); rotate_left; focus (((try dsimp only); repeat (first | omega | simp only [World.size_alloc, World.size_setCell, World.size_drew] | (with_reducible refine le_ext_of ?_) | (with_reducible refine le_ext_add ?_))); done)) | (with_reducible refine Below.drew ?_)))⟩
set_option maxHeartbeats 1000000 in
theorem Right_ok (b : Sn) (p : Option Addr) (c : Nat) (w : World) (hk : SBk w b p) (hv : snB b = true) :
    Calls Tryz.prog 146 #[.agg #[.int .i64 b.lo, .int .i64 b.hi, .slice p b.ns.length c]] w fun e w' => e = .returned (.tuple #[.bool (rightS b), .int .i64 0]) ∧ Below w.heap.size w w' := by
  have hok := Ok9.of hv
  have HK := Lib.hid hk
  clear hk
  go_enter Tryz.func146, Tryz.ntmps146
  go_upto_region 4 with (go_at_call 84; refine (Check_eq b p c true _ (HK.out.bel (by (repeat (first | (with_reducible exact Below.refl _ _) | (with_reducible assumption) | ((with_reducible refine below_ext_trans ?_ ?_ _); rotate_left; focus (((try dsimp only); repeat (first | omega | simp only [World.size_alloc, World.size_setCell, World.size_drew] | (with_reducible refine le_ext_of ?_) | (with_reducible refine le_ext_add ?_))); done)) | ((with_reducible refine Below.alloc ?_ ?_ _); rotate_left; focus (((try dsimp only); repeat (first | omega | simp only [World.size_alloc, World.size_setCell, World.size_drew] | (with_reducible refine le_ext_of ?_) | (with_reducible refine le_ext_add ?_))); done)) | ((with_reducible refine Below.setCell ?_ ?_ _); rotate_left; focus (((try dsimp only); repeat (first | omega | simp only [World.size_alloc, World.size_setCell, World.size_drew] | (with_reducible refine le_ext_of ?_) | (with_reducible refine le_ext_add ?_))); done)) | (with_reducible refine Below.drew ?_))))) hv).mono ?_; rintro e w1 ⟨rfl, y, rfl⟩)
  generalize hW0 : ext _ y = W0
  have hB0 : Below w.heap.size w W0 := by rw [← hW0]; (repeat (first | (with_reducible exact Below.refl _ _) | (with_reducible assumption) | ((with_reducible refine below_ext_trans ?_ ?_ _); rotate_left; focus (((try dsimp only); repeat (first | omega | simp only [World.size_alloc, World.size_setCell, World.size_drew] | (with_reducible refine le_ext_of ?_) | (with_reducible refine le_ext_add ?_))); done)) | ((with_reducible refine Below.alloc ?_ ?_ _); rotate_left; focus (((try dsimp only); repeat (first | omega | simp only [World.size_alloc, World.size_setCell, World.size_drew] | (with_reducible refine le_ext_of ?_) | (with_reducible refine le_ext_add ?_))); done)) | ((with_reducible refine Below.setCell ?_ ?_ _); rotate_left; focus (((try dsimp only); repeat (first | omega | simp only [World.size_alloc, World.size_setCell, World.size_drew] | (with_reducible refine le_ext_of ?_) | (with_reducible refine le_ext_add ?_))); done)) | (with_reducible refine Below.drew ?_)))
  have hq0 : Blk W0 w.heap.size 26 #[.int .i64 b.lo, .int .i64 b.hi, .slice p b.ns.length c] := by rw [← hW0]; exact (Blk.new rfl).ext y
  clear hW0
  have q0 := hq0.cell 0
  have q1 := hq0.cell 1
  have q2 := hq0.cell 2
  simp only [List.size_toArray, List.length_cons, List.length_nil, Nat.reduceAdd, Nat.reduceLT, getElem?_pos, List.getElem_toArray, List.getElem_cons_zero, List.getElem_cons_succ] at q0 q1 q2
  have HB0 := Lib.hid hB0
  clear hB0 hq0
  go_wp2_with (first
    | (go_at_call 97; refine (newCatch_b b p c _ (HK.out.bel HB0.out) hok).mono ?_; rintro e w1 ⟨kd, hkd, rfl, y1, rfl⟩)
    | (go_at_call 99; refine (tale_cat b p c kd _ (HK.out.bel (HB0.out.trans ((below_ext _ _).mono HB0.out.size))) hok).mono ?_; rintro e w2 ⟨Bb, rfl, k1, k2, k3⟩; have K1 := Lib.hid k1; have K2 := Lib.hid k2; clear k1 k2 k3)
    | (go_at_call 100; refine (tright_eq b p c kd Bb _ _ K1.out rfl).mono ?_; rintro e w4 ⟨rfl, y2, rfl⟩))
  refine bodyPost_ret (v := .tuple #[.bool (rightS b), .int .i64 0]) ?_ ?_ ?_
  · simp [results, Tryz.results146, go_sem]
  · rfl
  · exact ⟨rfl, HB0.out.trans (((below_ext _ _).mono HB0.out.size).trans ((K2.out.mono (by have := HB0.out.size; have := (below_ext W0 y1).size; omega)).trans ((below_ext _ _).mono (by have := HB0.out.size; have := (below_ext W0 y1).size; have := K2.out.size; omega))))⟩
set_option maxHeartbeats 1000000 in
theorem Saved_err (b : Sn) (p : Option Addr) (c : Nat) (code : Int) (w : World) (hk : SBk w b p) (h : AErr b true code) :
    Calls Tryz.prog 59 #[.agg #[.int .i64 b.lo, .int .i64 b.hi, .slice p b.ns.length c]] w fun e w' => e = .returned (.tuple #[.agg #[.int .i64 0, .int .i64 0], .int .i64 code]) ∧ Below w.heap.size w w' := by
  have hne := h.ne
  have HH := Lib.hid h
  have HK := Lib.hid hk
  clear hk h
  go_enter Tryz.func59, Tryz.ntmps59
  go_upto_region 1 with fail
  generalize hW0 : (w.alloc _).alloc _ = W0
  have hB0 : Below w.heap.size w W0 := by rw [← hW0]; (repeat (first | (with_reducible exact Below.refl _ _) | (with_reducible assumption) | ((with_reducible refine below_ext_trans ?_ ?_ _); rotate_left; focus (((try dsimp only); repeat (first | omega | simp only [World.size_alloc, World.size_setCell, World.size_drew] | (with_reducible refine le_ext_of ?_) | (with_reducible refine le_ext_add ?_))); done)) | ((with_reducible refine Below.alloc ?_ ?_ _); rotate_left; focus (((try dsimp only); repeat (first | omega | simp only [World.size_alloc, World.size_setCell, World.size_drew] | (with_reducible refine le_ext_of ?_) | (with_reducible refine le_ext_add ?_))); done)) | ((with_reducible refine Below.setCell ?_ ?_ _); rotate_left; focus (((try dsimp only); repeat (first | omega | simp only [World.size_alloc, World.size_setCell, World.size_drew] | (with_reducible refine le_ext_of ?_) | (with_reducible refine le_ext_add ?_))); done)) | (with_reducible refine Below.drew ?_)))
  have hz0 : W0.heap.size = w.heap.size + 2 := by rw [← hW0]; simp
  have hq0 : Blk W0 w.heap.size 26 #[.int .i64 b.lo, .int .i64 b.hi, .slice p b.ns.length c] := by rw [← hW0]; exact (Blk.new rfl).alloc _
  have hr0 : Blk W0 (w.heap.size + 1) 23 #[.int .i64 0, .int .i64 0] := by rw [← hW0]; exact Blk.new (by simp)
  clear hW0
  have q0 := hq0.cell 0
  have q1 := hq0.cell 1
  have q2 := hq0.cell 2
  simp only [List.size_toArray, List.length_cons, List.length_nil, Nat.reduceAdd, Nat.reduceLT, getElem?_pos, List.getElem_toArray, List.getElem_cons_zero, List.getElem_cons_succ] at q0 q1 q2
  have HB0 := Lib.hid hB0
  have HR0 := Lib.hid hr0
  have HZ0 := Lib.hid hz0
  clear hB0 hq0 hr0 hz0
  go_upto_region 2 with (go_at_call 93; refine (answer_err b p c true code _ (HK.out.bel HB0.out) HH.out).mono ?_; rintro e w1 ⟨rfl, k1⟩; have K1 := Lib.hid k1; clear k1)
  generalize hW2 : w1.alloc _ = W2
  have hB2 : Below W0.heap.size W0 W2 := by rw [← hW2]; exact K1.out.alloc K1.out.size _
  have hR2 := HR0.out.bel hB2
  have r0 := hR2.frozen 0
  have r1 := hR2.frozen 1
  have c0 := hR2.cell 0
  have c1 := hR2.cell 1
  have lr := hR2.lt
  simp only [List.size_toArray, List.length_cons, List.length_nil, Nat.reduceAdd, Nat.reduceLT, getElem?_pos, List.getElem_toArray, List.getElem_cons_zero, List.getElem_cons_succ] at c0 c1
  have HR2 := Lib.hid hR2
  have HB2 := Lib.hid (HB0.out.trans (hB2.mono HB0.out.size))
  clear hW2 hB2 hR2 HR0 HB0 K1 HK HZ0
  go_wp2_with fail
  have hF := (HR2.out.set 0 (.int .i64 0)).set 1 (.int .i64 0)
  have t0 := Blk.cell hF 0
  have t1 := Blk.cell hF 1
  refine bodyPost_ret (v := .tuple #[.agg #[.int .i64 0, .int .i64 0], .int .i64 code]) ?_ ?_ ?_
  · simp [results, Tryz.results59, go_sem, c0, c1, lr]
  · rfl
  · exact ⟨rfl, (HB2.out.setCell (by simp) _).setCell (by simp) _⟩
set_option maxRecDepth 100000 in
set_option maxHeartbeats 2000000 in
theorem Saved_yes (b : Sn) (p : Option Addr) (c : Nat) (w : World) (hk : SBk w b p) (hv : snB b = true) (hr : rightS b = true) :
    Calls Tryz.prog 59 #[.agg #[.int .i64 b.lo, .int .i64 b.hi, .slice p b.ns.length c]] w fun e w' => e = .returned (.tuple #[.agg #[.int .i64 (minF (savS (60 - lastN b.ns)) 400 (atL b (lastN b.ns))), .int .i64 (maxF (savS (60 - lastN b.ns)) 0 (atL b (lastN b.ns)))], .int .i64 0]) ∧ Below w.heap.size w w' := by
  have HK := Lib.hid hk
  clear hk
  go_enter Tryz.func59, Tryz.ntmps59
  go_upto_region 1 with fail
  generalize hW0 : (w.alloc _).alloc _ = W0
  have hB0 : Below w.heap.size w W0 := by rw [← hW0]; (repeat (first | (with_reducible exact Below.refl _ _) | (with_reducible assumption) | ((with_reducible refine below_ext_trans ?_ ?_ _); rotate_left; focus (((try dsimp only); repeat (first | omega | simp only [World.size_alloc, World.size_setCell, World.size_drew] | (with_reducible refine le_ext_of ?_) | (with_reducible refine le_ext_add ?_))); done)) | ((with_reducible refine Below.alloc ?_ ?_ _); rotate_left; focus (((try dsimp only); repeat (first | omega | simp only [World.size_alloc, World.size_setCell, World.size_drew] | (with_reducible refine le_ext_of ?_) | (with_reducible refine le_ext_add ?_))); done)) | ((with_reducible refine Below.setCell ?_ ?_ _); rotate_left; focus (((try dsimp only); repeat (first | omega | simp only [World.size_alloc, World.size_setCell, World.size_drew] | (with_reducible refine le_ext_of ?_) | (with_reducible refine le_ext_add ?_))); done)) | (with_reducible refine Below.drew ?_)))
  have hz0 : W0.heap.size = w.heap.size + 2 := by rw [← hW0]; simp
  have hq0 : Blk W0 w.heap.size 26 #[.int .i64 b.lo, .int .i64 b.hi, .slice p b.ns.length c] := by rw [← hW0]; exact (Blk.new rfl).alloc _
  have hr0 : Blk W0 (w.heap.size + 1) 23 #[.int .i64 0, .int .i64 0] := by rw [← hW0]; exact Blk.new (by simp)
  clear hW0
  have q0 := hq0.cell 0
  have q1 := hq0.cell 1
  have q2 := hq0.cell 2
  simp only [List.size_toArray, List.length_cons, List.length_nil, Nat.reduceAdd, Nat.reduceLT, getElem?_pos, List.getElem_toArray, List.getElem_cons_zero, List.getElem_cons_succ] at q0 q1 q2
  have HB0 := Lib.hid hB0
  have HR0 := Lib.hid hr0
  have HZ0 := Lib.hid hz0
  clear hB0 hq0 hr0 hz0
  go_upto_region 2 with (go_at_call 93; refine (answer_yes b p c _ (HK.out.bel HB0.out) hv hr).mono ?_; rintro e w1 ⟨kd, Bb, rfl, hkd, k0, k1⟩; have K0 := Lib.hid k0; have K1 := Lib.hid k1; clear k0 k1)
  unfold talC
  generalize hW2 : w1.alloc _ = W2
  have hB2 : Below w1.heap.size w1 W2 := by rw [← hW2]; exact (Below.refl _ _).alloc (Nat.le_refl _) _
  have hz2 : w1.heap.size ≤ W2.heap.size := hB2.size
  have ht2 : Blk W2 w1.heap.size 122 (talC b.lo b.hi p b.ns.length c kd Bb) := by rw [← hW2]; exact Blk.new rfl
  have p0 := ht2.cell 0
  have p1 := ht2.cell 1
  have p2 := ht2.cell 2
  have p3 := ht2.cell 3
  have p4 := ht2.cell 4
  have p5 := ht2.cell 5
  have p6 := ht2.cell 6
  have p7 := ht2.cell 7
  have p8 := ht2.cell 8
  simp only [List.size_toArray, List.length_cons, List.length_nil, Nat.reduceAdd, Nat.reduceLT, getElem?_pos, List.getElem_toArray, List.getElem_cons_zero, List.getElem_cons_succ] at p0 p1 p2 p3 p4 p5 p6 p7 p8
  have hB2' := K1.out.trans (hB2.mono K1.out.size)
  have HR2 := Lib.hid (HR0.out.bel hB2')
  have HT2 := Lib.hid (K0.out.bel hB2)
  have HB2 := Lib.hid (HB0.out.trans (hB2'.mono HB0.out.size))
  clear hW2 hB2 hz2 ht2 hB2' HR0 HB0 K0 K1 HK HZ0
  go_wp2_with (go_at_call 101; refine (tsaved_any b p c kd Bb _ HT2.out hkd).mono ?_; rintro e w3 ⟨rfl, k3⟩; have HR3 := Lib.hid (HR2.out.bel k3); have HB3 := Lib.hid (HB2.out.trans (k3.mono HB2.out.size)); clear k3; have r0 := HR3.out.frozen 0; have r1 := HR3.out.frozen 1; have c0 := HR3.out.cell 0; have c1 := HR3.out.cell 1; have lr := HR3.out.lt; simp only [List.size_toArray, List.length_cons, List.length_nil, Nat.reduceAdd, Nat.reduceLT, getElem?_pos, List.getElem_toArray, List.getElem_cons_zero, List.getElem_cons_succ] at c0 c1)
  have hF := (HR3.out.set 0 (.int .i64 (minF (savS (60 - lastN b.ns)) 400 (atL b (lastN b.ns))))).set 1 (.int .i64 (maxF (savS (60 - lastN b.ns)) 0 (atL b (lastN b.ns))))
  have t0 := Blk.cell hF 0
  have t1 := Blk.cell hF 1
  refine bodyPost_ret (v := .tuple #[.agg #[.int .i64 (minF (savS (60 - lastN b.ns)) 400 (atL b (lastN b.ns))), .int .i64 (maxF (savS (60 - lastN b.ns)) 0 (atL b (lastN b.ns)))], .int .i64 0]) ?_ ?_ ?_
  · simp [results, Tryz.results59, go_sem, c0, c1, lr]
  · rfl
  · exact ⟨rfl, (HB3.out.setCell (by simp) _).setCell (by simp) _⟩
end Go.Proofs.YtcaeohgbgeadaaaGreatDoor

namespace Go.Proofs.YtcaeohgbgeadaaaGreatDoor
open Go Go.RowKit Go.Shelf
def trueB (q : Sn) : Bool := snB q && rightS q
attribute [local go_sem] Oper.semAt_some frozen_alloc_lt
set_option maxHeartbeats 1000000 in
theorem isTrue_any (b : Sn) (p : Option Addr) (c : Nat) (w : World) (hk : SBk w b p) :
    Calls Tryz.prog 108 #[.agg #[.int .i64 b.lo, .int .i64 b.hi, .slice p b.ns.length c]] w fun e w' => e = .returned (.bool (trueB b)) ∧ ∃ x, w' = ext w x := by
  unfold trueB
  have HK := Lib.hid hk
  clear hk
  cases hv : snB b
  · go_enter Tryz.func108, Tryz.ntmps108
    go_wp2_with (go_at_call 146; refine (Right_bad b p c _ (HK.out.bel (by (repeat (first | (with_reducible exact Below.refl _ _) | (with_reducible assumption) | ((with_reducible refine below_ext_trans ?_ ?_ _); rotate_left; focus (((try dsimp only); repeat (first | omega | simp only [World.size_alloc, World.size_setCell, World.size_drew] | (with_reducible refine le_ext_of ?_) | (with_reducible refine le_ext_add ?_))); done)) | ((with_reducible refine Below.alloc ?_ ?_ _); rotate_left; focus (((try dsimp only); repeat (first | omega | simp only [World.size_alloc, World.size_setCell, World.size_drew] | (with_reducible refine le_ext_of ?_) | (with_reducible refine le_ext_add ?_))); done)) | ((with_reducible refine Below.setCell ?_ ?_ _); rotate_left; focus (((try dsimp only); repeat (first | omega | simp only [World.size_alloc, World.size_setCell, World.size_drew] | (with_reducible refine le_ext_of ?_) | (with_reducible refine le_ext_add ?_))); done)) | (with_reducible refine Below.drew ?_))))) hv).mono ?_; rintro e w1 ⟨rfl, k1⟩; obtain ⟨y, rfl⟩ := ext_of k1)
    go_ret
    exact ⟨rfl, by (exact ext_of (by (repeat (first | (with_reducible exact Below.refl _ _) | (with_reducible assumption) | ((with_reducible refine below_ext_trans ?_ ?_ _); rotate_left; focus (((try dsimp only); repeat (first | omega | simp only [World.size_alloc, World.size_setCell, World.size_drew] | (with_reducible refine le_ext_of ?_) | (with_reducible refine le_ext_add ?_))); done)) | ((with_reducible refine Below.alloc ?_ ?_ _); rotate_left; focus (((try dsimp only); repeat (first | omega | simp only [World.size_alloc, World.size_setCell, World.size_drew] | (with_reducible refine le_ext_of ?_) | (with_reducible refine le_ext_add ?_))); done)) | ((with_reducible refine Below.setCell ?_ ?_ _); rotate_left; focus (((try dsimp only); repeat (first | omega | simp only [World.size_alloc, World.size_setCell, World.size_drew] | (with_reducible refine le_ext_of ?_) | (with_reducible refine le_ext_add ?_))); done)) | (with_reducible refine Below.drew ?_)))))⟩
  · obtain ⟨q, hq⟩ : ∃ q, rightS b = q := ⟨_, rfl⟩
    rw [hq]
    cases q
    · go_enter Tryz.func108, Tryz.ntmps108
      go_wp2_with (go_at_call 146; refine (Right_ok b p c _ (HK.out.bel (by (repeat (first | (with_reducible exact Below.refl _ _) | (with_reducible assumption) | ((with_reducible refine below_ext_trans ?_ ?_ _); rotate_left; focus (((try dsimp only); repeat (first | omega | simp only [World.size_alloc, World.size_setCell, World.size_drew] | (with_reducible refine le_ext_of ?_) | (with_reducible refine le_ext_add ?_))); done)) | ((with_reducible refine Below.alloc ?_ ?_ _); rotate_left; focus (((try dsimp only); repeat (first | omega | simp only [World.size_alloc, World.size_setCell, World.size_drew] | (with_reducible refine le_ext_of ?_) | (with_reducible refine le_ext_add ?_))); done)) | ((with_reducible refine Below.setCell ?_ ?_ _); rotate_left; focus (((try dsimp only); repeat (first | omega | simp only [World.size_alloc, World.size_setCell, World.size_drew] | (with_reducible refine le_ext_of ?_) | (with_reducible refine le_ext_add ?_))); done)) | (with_reducible refine Below.drew ?_))))) hv).mono ?_; rw [hq]; rintro e w1 ⟨rfl, k1⟩; obtain ⟨y, rfl⟩ := ext_of k1)
      go_ret
      exact ⟨rfl, by (exact ext_of (by (repeat (first | (with_reducible exact Below.refl _ _) | (with_reducible assumption) | ((with_reducible refine below_ext_trans ?_ ?_ _); rotate_left; focus (((try dsimp only); repeat (first | omega | simp only [World.size_alloc, World.size_setCell, World.size_drew] | (with_reducible refine le_ext_of ?_) | (with_reducible refine le_ext_add ?_))); done)) | ((with_reducible refine Below.alloc ?_ ?_ _); rotate_left; focus (((try dsimp only); repeat (first | omega | simp only [World.size_alloc, World.size_setCell, World.size_drew] | (with_reducible refine le_ext_of ?_) | (with_reducible refine le_ext_add ?_))); done)) | ((with_reducible refine Below.setCell ?_ ?_ _); rotate_left; focus (((try dsimp only); repeat (first | omega | simp only [World.size_alloc, World.size_setCell, World.size_drew] | (with_reducible refine le_ext_of ?_) | (with_reducible refine le_ext_add ?_))); done)) | (with_reducible refine Below.drew ?_)))))⟩
    · go_enter Tryz.func108, Tryz.ntmps108
      go_wp2_with (go_at_call 146; refine (Right_ok b p c _ (HK.out.bel (by (repeat (first | (with_reducible exact Below.refl _ _) | (with_reducible assumption) | ((with_reducible refine below_ext_trans ?_ ?_ _); rotate_left; focus (((try dsimp only); repeat (first | omega | simp only [World.size_alloc, World.size_setCell, World.size_drew] | (with_reducible refine le_ext_of ?_) | (with_reducible refine le_ext_add ?_))); done)) | ((with_reducible refine Below.alloc ?_ ?_ _); rotate_left; focus (((try dsimp only); repeat (first | omega | simp only [World.size_alloc, World.size_setCell, World.size_drew] | (with_reducible refine le_ext_of ?_) | (with_reducible refine le_ext_add ?_))); done)) | ((with_reducible refine Below.setCell ?_ ?_ _); rotate_left; focus (((try dsimp only); repeat (first | omega | simp only [World.size_alloc, World.size_setCell, World.size_drew] | (with_reducible refine le_ext_of ?_) | (with_reducible refine le_ext_add ?_))); done)) | (with_reducible refine Below.drew ?_))))) hv).mono ?_; rw [hq]; rintro e w1 ⟨rfl, k1⟩; obtain ⟨y, rfl⟩ := ext_of k1)
      go_ret
      exact ⟨rfl, by (exact ext_of (by (repeat (first | (with_reducible exact Below.refl _ _) | (with_reducible assumption) | ((with_reducible refine below_ext_trans ?_ ?_ _); rotate_left; focus (((try dsimp only); repeat (first | omega | simp only [World.size_alloc, World.size_setCell, World.size_drew] | (with_reducible refine le_ext_of ?_) | (with_reducible refine le_ext_add ?_))); done)) | ((with_reducible refine Below.alloc ?_ ?_ _); rotate_left; focus (((try dsimp only); repeat (first | omega | simp only [World.size_alloc, World.size_setCell, World.size_drew] | (with_reducible refine le_ext_of ?_) | (with_reducible refine le_ext_add ?_))); done)) | ((with_reducible refine Below.setCell ?_ ?_ _); rotate_left; focus (((try dsimp only); repeat (first | omega | simp only [World.size_alloc, World.size_setCell, World.size_drew] | (with_reducible refine le_ext_of ?_) | (with_reducible refine le_ext_add ?_))); done)) | (with_reducible refine Below.drew ?_)))))⟩
end Go.Proofs.YtcaeohgbgeadaaaGreatDoor

