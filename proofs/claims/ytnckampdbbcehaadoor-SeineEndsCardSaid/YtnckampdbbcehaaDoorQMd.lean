/- Package seine: what a book tells, or the error of a question that it cannot answer. -/
import Derived.Test.YtnckampdbbcehaaDoorQMc
set_option linter.unusedSimpArgs false
set_option linter.unusedVariables false
namespace Go.Proofs.YtnckampdbbcehaaDoor
open Go Go.RowKit Go.Shelf

/-- A book lies where it was laid, and the package's table. -/
structure SBk (w : World) (b : Sn) (p : Option Addr) : Prop where
  nt : NotesAt w p b.ns
  mm : MM w
  lt : ∀ a, p = some a → a.block < w.heap.size
theorem SBk.bel {w w' : World} {b : Sn} {p : Option Addr} (h : SBk w b p) (hb : Below w.heap.size w w') : SBk w' b p := ⟨h.nt.below hb, h.mm.below hb, fun a ha => Nat.lt_of_lt_of_le (h.lt a ha) hb.size⟩
abbrev zeroT : Array Value := #[.int .i64 0, .int .i64 0, .slice none 0 0, .int .i64 0, .int .i64 0, .int .i64 0, .int .i64 0, .int .i64 0, .slice none 0 0]
theorem TAt.keep1 {w w' : World} {Bb N : Nat} {tl : List (List (Int × Int))} {g : Nat} {t : TypeId} {cs : Array Value} (h : TAt w Bb N tl) (hg : Blk w g t cs) (hgB : g ≠ Bb) (hk : ∀ k, k ≠ g → w'.heap[k]? = w.heap[k]?) : TAt w' Bb N tl := by
  obtain ⟨cs', h1, h2, h3⟩ := h
  refine ⟨cs', (hk _ hgB.symm).trans h1, h2, fun i L hi => ?_⟩
  obtain ⟨M, n, g1, g2⟩ := h3 i L hi
  exact ⟨M, n, g1, g2.of_heap (hk _ (g2.ne_blk hg))⟩
/-- Can a book be true? -/
def rightS (b : Sn) : Bool := decide (behN b 0 ≠ [])
theorem Check_eq (b : Sn) (p : Option Addr) (c : Nat) (q : Bool) (w : World) (hk : SBk w b p) (hq : snB b = q) :
    Calls Tryd.prog 16 #[.agg #[.int .i64 b.lo, .int .i64 b.hi, .slice p b.ns.length c]] w fun e w' => e = .returned (.int .i64 (if q then 0 else 30)) ∧ ∃ x, w' = ext w x := by
  subst hq; exact Check_any b p c w hk.nt hk.mm
attribute [local go_sem] Oper.semAt_some frozen_alloc_lt
set_option maxHeartbeats 1000000 in
theorem answer_bad (b : Sn) (p : Option Addr) (c : Nat) (asked : Bool) (w : World) (hk : SBk w b p) (hv : snB b = false) :
    Calls Tryd.prog 58 #[.agg #[.int .i64 b.lo, .int .i64 b.hi, .slice p b.ns.length c], .bool asked] w fun e w' => e = .returned (.tuple #[.agg zeroT, .int .i64 30]) ∧ Below w.heap.size w w' := by
  have HK := Lib.hid hk
  clear hk
  go_enter Tryd.func58, Tryd.ntmps58
  go_wp2_with (go_at_call 16; refine (Check_eq b p c false _ (HK.out.bel (by (repeat (first | (with_reducible exact Below.refl _ _) | (with_reducible assumption) | ((with_reducible refine below_ext_trans ?_ ?_ _); rotate_left; focus (((try dsimp only); repeat (first | omega | simp only [World.size_alloc, World.size_setCell, World.size_drew] | (with_reducible refine le_ext_of ?_) | (with_reducible refine le_ext_add ?_))); done)) | ((with_reducible refine Below.alloc ?_ ?_ _); rotate_left; focus (((try dsimp only); repeat (first | omega | simp only [World.size_alloc, World.size_setCell, World.size_drew] | (with_reducible refine le_ext_of ?_) | (with_reducible refine le_ext_add ?_))); done)) | ((with_reducible refine Below.setCell ?_ ?_ _); rotate_left; focus (((try dsimp only); repeat (first | omega | simp only [World.size_alloc, World.size_setCell, World.size_drew] | (with_reducible refine le_ext_of ?_) | (with_reducible refine le_ext_add ?_))); done)) | (with_reducible refine Below.drew ?_))))) hv).mono ?_; rintro e w1 ⟨rfl, y, rfl⟩)
  refine bodyPost_ret (v := .tuple #[.agg zeroT, .int .i64 30]) (by simp [results, Tryd.results58, go_sem]) rfl ⟨rfl, by (repeat (first | (with_reducible exact Below.refl _ _) | (with_reducible assumption) | ((with_reducible refine below_ext_trans ?_ ?_ _); rotate_left; focus (((try dsimp only); repeat (first | omega | simp only [World.size_alloc, World.size_setCell, World.size_drew] | (with_reducible refine le_ext_of ?_) | (with_reducible refine le_ext_add ?_))); done)) | ((with_reducible refine Below.alloc ?_ ?_ _); rotate_left; focus (((try dsimp only); repeat (first | omega | simp only [World.size_alloc, World.size_setCell, World.size_drew] | (with_reducible refine le_ext_of ?_) | (with_reducible refine le_ext_add ?_))); done)) | ((with_reducible refine Below.setCell ?_ ?_ _); rotate_left; focus (((try dsimp only); repeat (first | omega | simp only [World.size_alloc, World.size_setCell, World.size_drew] | (with_reducible refine le_ext_of ?_) | (with_reducible refine le_ext_add ?_))); done)) | (with_reducible refine Below.drew ?_)))⟩
set_option maxHeartbeats 1000000 in
theorem answer_ask (b : Sn) (p : Option Addr) (c : Nat) (w : World) (hk : SBk w b p) (hv : snB b = true) :
    Calls Tryd.prog 58 #[.agg #[.int .i64 b.lo, .int .i64 b.hi, .slice p b.ns.length c], .bool false] w fun e w' => e = .returned (.tuple #[.agg zeroT, .int .i64 31]) ∧ Below w.heap.size w w' := by
  have HK := Lib.hid hk
  clear hk
  go_enter Tryd.func58, Tryd.ntmps58
  go_wp2_with (go_at_call 16; refine (Check_eq b p c true _ (HK.out.bel (by (repeat (first | (with_reducible exact Below.refl _ _) | (with_reducible assumption) | ((with_reducible refine below_ext_trans ?_ ?_ _); rotate_left; focus (((try dsimp only); repeat (first | omega | simp only [World.size_alloc, World.size_setCell, World.size_drew] | (with_reducible refine le_ext_of ?_) | (with_reducible refine le_ext_add ?_))); done)) | ((with_reducible refine Below.alloc ?_ ?_ _); rotate_left; focus (((try dsimp only); repeat (first | omega | simp only [World.size_alloc, World.size_setCell, World.size_drew] | (with_reducible refine le_ext_of ?_) | (with_reducible refine le_ext_add ?_))); done)) | ((with_reducible refine Below.setCell ?_ ?_ _); rotate_left; focus (((try dsimp only); repeat (first | omega | simp only [World.size_alloc, World.size_setCell, World.size_drew] | (with_reducible refine le_ext_of ?_) | (with_reducible refine le_ext_add ?_))); done)) | (with_reducible refine Below.drew ?_))))) hv).mono ?_; rintro e w1 ⟨rfl, y, rfl⟩)
  refine bodyPost_ret (v := .tuple #[.agg zeroT, .int .i64 31]) (by simp [results, Tryd.results58, go_sem]) rfl ⟨rfl, by (repeat (first | (with_reducible exact Below.refl _ _) | (with_reducible assumption) | ((with_reducible refine below_ext_trans ?_ ?_ _); rotate_left; focus (((try dsimp only); repeat (first | omega | simp only [World.size_alloc, World.size_setCell, World.size_drew] | (with_reducible refine le_ext_of ?_) | (with_reducible refine le_ext_add ?_))); done)) | ((with_reducible refine Below.alloc ?_ ?_ _); rotate_left; focus (((try dsimp only); repeat (first | omega | simp only [World.size_alloc, World.size_setCell, World.size_drew] | (with_reducible refine le_ext_of ?_) | (with_reducible refine le_ext_add ?_))); done)) | ((with_reducible refine Below.setCell ?_ ?_ _); rotate_left; focus (((try dsimp only); repeat (first | omega | simp only [World.size_alloc, World.size_setCell, World.size_drew] | (with_reducible refine le_ext_of ?_) | (with_reducible refine le_ext_add ?_))); done)) | (with_reducible refine Below.drew ?_)))⟩
theorem tright_eq (b : Sn) (p : Option Addr) (c : Nat) (kd : Kd) (Bb : Nat) (q : Bool) (w : World) (h : TOK w b p Bb) (hq : rightS b = q) :
    Calls Tryd.prog 54 #[.agg (talC b.lo b.hi p b.ns.length c kd Bb)] w fun e w' => e = .returned (.bool q) ∧ ∃ x, w' = ext w x := by
  subst hq
  have hL := behN_at (b := b) (k := 0) (by omega)
  obtain ⟨L, tl, hl⟩ : ∃ L tl, talL b = L :: tl := by
    cases hc : talL b with
    | nil => rw [hc] at hL; cases hL
    | cons L tl => exact ⟨L, tl, rfl⟩
  have hLe : behN b 0 = L := by rw [hl] at hL; simpa using hL.symm
  have ht := h.tl
  rw [hl] at ht
  have := tright_any b.lo b.hi p b.ns.length c kd Bb L tl w ht (talL_B h.ok (i := 0) (by rw [hl]; rfl))
  unfold rightS
  rw [hLe]
  exact this
/-- The tale of a book's catch. -/
theorem tale_cat (b : Sn) (p : Option Addr) (c : Nat) (kd : Kd) (w : World) (hk : SBk w b p) (hok : Ok9 b) :
    Calls Tryd.prog 53 #[.agg (catC b.lo b.hi p b.ns.length c kd)] w fun e w' => ∃ Bb : Nat, e = .returned (.agg (talC b.lo b.hi p b.ns.length c kd Bb)) ∧ TOK w' b p Bb ∧ Below w.heap.size w w' ∧ w.heap.size ≤ Bb :=
  (tale_any b p c kd w hk.nt hok hk.lt).mono fun e w' ⟨Bb, h1, h2, h3, h4⟩ => ⟨Bb, h1, ⟨hk.nt.below h4, hok, h3⟩, h4, h2⟩
theorem newCatch_b (b : Sn) (p : Option Addr) (c : Nat) (w : World) (hk : SBk w b p) (hok : Ok9 b) :
    Calls Tryd.prog 52 #[.agg #[.int .i64 b.lo, .int .i64 b.hi, .slice p b.ns.length c]] w fun e w' => ∃ k : Kd, k.ok b.ns.length ∧ e = .returned (.agg (catC b.lo b.hi p b.ns.length c k)) ∧ ∃ x, w' = ext w x :=
  newCatch_any b.lo b.hi b.ns p c w hk.nt hok.kinds (by have := hok.len; omega)
set_option maxRecDepth 100000 in
set_option maxHeartbeats 2000000 in
theorem answer_false (b : Sn) (p : Option Addr) (c : Nat) (w : World) (hk : SBk w b p) (hv : snB b = true) (hr : rightS b = false) :
    Calls Tryd.prog 58 #[.agg #[.int .i64 b.lo, .int .i64 b.hi, .slice p b.ns.length c], .bool true] w fun e w' => e = .returned (.tuple #[.agg zeroT, .int .i64 32]) ∧ Below w.heap.size w w' := by
  have hok := Ok9.of hv
  have HK := Lib.hid hk
  clear hk
  go_enter Tryd.func58, Tryd.ntmps58
  go_upto_region 6 with (go_at_call 16; refine (Check_eq b p c true _ (HK.out.bel (by (repeat (first | (with_reducible exact Below.refl _ _) | (with_reducible assumption) | ((with_reducible refine below_ext_trans ?_ ?_ _); rotate_left; focus (((try dsimp only); repeat (first | omega | simp only [World.size_alloc, World.size_setCell, World.size_drew] | (with_reducible refine le_ext_of ?_) | (with_reducible refine le_ext_add ?_))); done)) | ((with_reducible refine Below.alloc ?_ ?_ _); rotate_left; focus (((try dsimp only); repeat (first | omega | simp only [World.size_alloc, World.size_setCell, World.size_drew] | (with_reducible refine le_ext_of ?_) | (with_reducible refine le_ext_add ?_))); done)) | ((with_reducible refine Below.setCell ?_ ?_ _); rotate_left; focus (((try dsimp only); repeat (first | omega | simp only [World.size_alloc, World.size_setCell, World.size_drew] | (with_reducible refine le_ext_of ?_) | (with_reducible refine le_ext_add ?_))); done)) | (with_reducible refine Below.drew ?_))))) hv).mono ?_; rintro e w1 ⟨rfl, y, rfl⟩)
  generalize hW0 : ext _ y = W0
  have hB0 : Below w.heap.size w W0 := by rw [← hW0]; (repeat (first | (with_reducible exact Below.refl _ _) | (with_reducible assumption) | ((with_reducible refine below_ext_trans ?_ ?_ _); rotate_left; focus (((try dsimp only); repeat (first | omega | simp only [World.size_alloc, World.size_setCell, World.size_drew] | (with_reducible refine le_ext_of ?_) | (with_reducible refine le_ext_add ?_))); done)) | ((with_reducible refine Below.alloc ?_ ?_ _); rotate_left; focus (((try dsimp only); repeat (first | omega | simp only [World.size_alloc, World.size_setCell, World.size_drew] | (with_reducible refine le_ext_of ?_) | (with_reducible refine le_ext_add ?_))); done)) | ((with_reducible refine Below.setCell ?_ ?_ _); rotate_left; focus (((try dsimp only); repeat (first | omega | simp only [World.size_alloc, World.size_setCell, World.size_drew] | (with_reducible refine le_ext_of ?_) | (with_reducible refine le_ext_add ?_))); done)) | (with_reducible refine Below.drew ?_)))
  have hq0 : Blk W0 w.heap.size 26 #[.int .i64 b.lo, .int .i64 b.hi, .slice p b.ns.length c] := by rw [← hW0]; exact ((Blk.new rfl).alloc _).ext y
  have hr0 : Blk W0 (w.heap.size + 1) 80 zeroT := by rw [← hW0]; exact (Blk.new (by simp)).ext y
  clear hW0
  have q0 := hq0.cell 0
  have q1 := hq0.cell 1
  have q2 := hq0.cell 2
  simp only [List.size_toArray, List.length_cons, List.length_nil, Nat.reduceAdd, Nat.reduceLT, getElem?_pos, List.getElem_toArray, List.getElem_cons_zero, List.getElem_cons_succ] at q0 q1 q2
  have HB0 := Lib.hid hB0
  have HR0 := Lib.hid hr0
  clear hB0 hq0 hr0
  go_upto_region 7 with (first
    | (go_at_call 52; refine (newCatch_b b p c _ (HK.out.bel HB0.out) hok).mono ?_; rintro e w1 ⟨kd, hkd, rfl, y1, rfl⟩)
    | (go_at_call 53; refine (tale_cat b p c kd _ (HK.out.bel (HB0.out.trans ((below_ext _ _).mono HB0.out.size))) hok).mono ?_; rintro e w2 ⟨Bb, rfl, k1, k2, k3⟩; have K1 := Lib.hid k1; have K2 := Lib.hid k2; have K3 := Lib.hid k3; clear k1 k2 k3))
  unfold talC
  generalize hW3 : w2.alloc _ = W3
  have hB3 : Below w2.heap.size w2 W3 := by rw [← hW3]; exact (Below.refl _ _).alloc (Nat.le_refl _) _
  have ht3 : Blk W3 w2.heap.size 80 (talC b.lo b.hi p b.ns.length c kd Bb) := by rw [← hW3]; exact Blk.new rfl
  have l3 := ht3.lt
  have p0 := ht3.cell 0
  have p1 := ht3.cell 1
  have p2 := ht3.cell 2
  have p3 := ht3.cell 3
  have p4 := ht3.cell 4
  have p5 := ht3.cell 5
  have p6 := ht3.cell 6
  have p7 := ht3.cell 7
  have p8 := ht3.cell 8
  simp only [List.size_toArray, List.length_cons, List.length_nil, Nat.reduceAdd, Nat.reduceLT, getElem?_pos, List.getElem_toArray, List.getElem_cons_zero, List.getElem_cons_succ] at p0 p1 p2 p3 p4 p5 p6 p7 p8
  have hT3 := K1.out.bel hB3
  have hR3 := ((HR0.out.ext y1).bel (K2.out.mono (by simp))).bel hB3
  have hB3' : Below w.heap.size w W3 := HB0.out.trans (((below_ext _ _).mono HB0.out.size).trans ((K2.out.mono (by have := HB0.out.size; have := (below_ext W0 y1).size; omega)).trans (hB3.mono (by have := HB0.out.size; have := K2.out.size; have := (below_ext W0 y1).size; omega))))
  have r0 := hR3.frozen 0
  have r1 := hR3.frozen 1
  have r2 := hR3.frozen 2
  have r3 := hR3.frozen 3
  have r4 := hR3.frozen 4
  have r5 := hR3.frozen 5
  have r6 := hR3.frozen 6
  have r7 := hR3.frozen 7
  have r8 := hR3.frozen 8
  have c0 := hR3.cell 0
  have c1 := hR3.cell 1
  have c2 := hR3.cell 2
  have c3 := hR3.cell 3
  have c4 := hR3.cell 4
  have c5 := hR3.cell 5
  have c6 := hR3.cell 6
  have c7 := hR3.cell 7
  have c8 := hR3.cell 8
  simp only [List.size_toArray, List.length_cons, List.length_nil, Nat.reduceAdd, Nat.reduceLT, getElem?_pos, List.getElem_toArray, List.getElem_cons_zero, List.getElem_cons_succ] at c0 c1 c2 c3 c4 c5 c6 c7 c8
  have lr := hR3.lt
  have HT3 := Lib.hid hT3
  have HR3 := Lib.hid hR3
  have HB3 := Lib.hid hB3'
  clear hW3 hB3 ht3 hT3 hR3 hB3' HR0 HB0 K1 K2 HK
  go_wp2_with (go_at_call 54; refine (tright_eq b p c kd Bb false _ HT3.out hr).mono ?_; rintro e w4 ⟨rfl, y2, rfl⟩)
  generalize hF : World.setCell _ _ _ = F
  have hF2 : F = put9 (ext W3 y2) (w.heap.size + 1) (.int .i64 0) (.int .i64 0) (.slice none 0 0) (.int .i64 0) (.int .i64 0) (.int .i64 0) (.int .i64 0) (.int .i64 0) (.slice none 0 0) := hF.symm
  have hrF : Blk F (w.heap.size + 1) 80 #[.int .i64 0, .int .i64 0, .slice none 0 0, .int .i64 0, .int .i64 0, .int .i64 0, .int .i64 0, .int .i64 0, .slice none 0 0] := by rw [hF2]; exact set9 (HR3.out.ext y2) _ _ _ _ _ _ _ _ _
  have hBF : Below w.heap.size (ext W3 y2) F := by rw [hF2]; exact set9b (by omega) _ _ _ _ _ _ _ _ _
  clear hF hF2
  have t0 := hrF.cell 0
  have t1 := hrF.cell 1
  have t2 := hrF.cell 2
  have t3 := hrF.cell 3
  have t4 := hrF.cell 4
  have t5 := hrF.cell 5
  have t6 := hrF.cell 6
  have t7 := hrF.cell 7
  have t8 := hrF.cell 8
  simp only [List.size_toArray, List.length_cons, List.length_nil, Nat.reduceAdd, Nat.reduceLT, getElem?_pos, List.getElem_toArray, List.getElem_cons_zero, List.getElem_cons_succ] at t0 t1 t2 t3 t4 t5 t6 t7 t8
  refine bodyPost_ret (v := .tuple #[.agg zeroT, .int .i64 32]) ?_ ?_ ?_
  · simp [results, Tryd.results58, go_sem, t0, t1, t2, t3, t4, t5, t6, t7, t8]
  · rfl
  · exact ⟨rfl, HB3.out.trans (((below_ext W3 y2).mono HB3.out.size).trans hBF)⟩
set_option maxRecDepth 100000 in
set_option maxHeartbeats 2000000 in
theorem answer_yes (b : Sn) (p : Option Addr) (c : Nat) (w : World) (hk : SBk w b p) (hv : snB b = true) (hr : rightS b = true) :
    Calls Tryd.prog 58 #[.agg #[.int .i64 b.lo, .int .i64 b.hi, .slice p b.ns.length c], .bool true] w fun e w' => ∃ (kd : Kd) (Bb : Nat), e = .returned (.tuple #[.agg (talC b.lo b.hi p b.ns.length c kd Bb), .int .i64 0]) ∧ kd.ok b.ns.length ∧ TOK w' b p Bb ∧ Below w.heap.size w w' := by
  have hok := Ok9.of hv
  have HK2 := Lib.hid hk
  clear hk
  go_enter Tryd.func58, Tryd.ntmps58
  go_upto_region 6 with (go_at_call 16; refine (Check_eq b p c true _ (HK2.out.bel (by (repeat (first | (with_reducible exact Below.refl _ _) | (with_reducible assumption) | ((with_reducible refine below_ext_trans ?_ ?_ _); rotate_left; focus (((try dsimp only); repeat (first | omega | simp only [World.size_alloc, World.size_setCell, World.size_drew] | (with_reducible refine le_ext_of ?_) | (with_reducible refine le_ext_add ?_))); done)) | ((with_reducible refine Below.alloc ?_ ?_ _); rotate_left; focus (((try dsimp only); repeat (first | omega | simp only [World.size_alloc, World.size_setCell, World.size_drew] | (with_reducible refine le_ext_of ?_) | (with_reducible refine le_ext_add ?_))); done)) | ((with_reducible refine Below.setCell ?_ ?_ _); rotate_left; focus (((try dsimp only); repeat (first | omega | simp only [World.size_alloc, World.size_setCell, World.size_drew] | (with_reducible refine le_ext_of ?_) | (with_reducible refine le_ext_add ?_))); done)) | (with_reducible refine Below.drew ?_))))) hv).mono ?_; rintro e w1 ⟨rfl, y, rfl⟩)
  generalize hW0 : ext _ y = W0
  have hB0 : Below w.heap.size w W0 := by rw [← hW0]; (repeat (first | (with_reducible exact Below.refl _ _) | (with_reducible assumption) | ((with_reducible refine below_ext_trans ?_ ?_ _); rotate_left; focus (((try dsimp only); repeat (first | omega | simp only [World.size_alloc, World.size_setCell, World.size_drew] | (with_reducible refine le_ext_of ?_) | (with_reducible refine le_ext_add ?_))); done)) | ((with_reducible refine Below.alloc ?_ ?_ _); rotate_left; focus (((try dsimp only); repeat (first | omega | simp only [World.size_alloc, World.size_setCell, World.size_drew] | (with_reducible refine le_ext_of ?_) | (with_reducible refine le_ext_add ?_))); done)) | ((with_reducible refine Below.setCell ?_ ?_ _); rotate_left; focus (((try dsimp only); repeat (first | omega | simp only [World.size_alloc, World.size_setCell, World.size_drew] | (with_reducible refine le_ext_of ?_) | (with_reducible refine le_ext_add ?_))); done)) | (with_reducible refine Below.drew ?_)))
  have hq0 : Blk W0 w.heap.size 26 #[.int .i64 b.lo, .int .i64 b.hi, .slice p b.ns.length c] := by rw [← hW0]; exact ((Blk.new rfl).alloc _).ext y
  have hr0 : Blk W0 (w.heap.size + 1) 80 zeroT := by rw [← hW0]; exact (Blk.new (by simp)).ext y
  clear hW0
  have q0 := hq0.cell 0
  have q1 := hq0.cell 1
  have q2 := hq0.cell 2
  simp only [List.size_toArray, List.length_cons, List.length_nil, Nat.reduceAdd, Nat.reduceLT, getElem?_pos, List.getElem_toArray, List.getElem_cons_zero, List.getElem_cons_succ] at q0 q1 q2
  have HB0 := Lib.hid hB0
  have HR0 := Lib.hid hr0
  clear hB0 hq0 hr0
  go_upto_region 7 with (first
    | (go_at_call 52; refine (newCatch_b b p c _ (HK2.out.bel HB0.out) hok).mono ?_; rintro e w1 ⟨kd, hkd, rfl, y1, rfl⟩)
    | (go_at_call 53; refine (tale_cat b p c kd _ (HK2.out.bel (HB0.out.trans ((below_ext _ _).mono HB0.out.size))) hok).mono ?_; rintro e w2 ⟨Bb, rfl, k1, k2, k3⟩; have K1 := Lib.hid k1; have K2 := Lib.hid k2; have K3 := Lib.hid k3; clear k1 k2 k3))
  unfold talC
  generalize hW3 : w2.alloc _ = W3
  have hB3 : Below w2.heap.size w2 W3 := by rw [← hW3]; exact (Below.refl _ _).alloc (Nat.le_refl _) _
  have ht3 : Blk W3 w2.heap.size 80 (talC b.lo b.hi p b.ns.length c kd Bb) := by rw [← hW3]; exact Blk.new rfl
  have l3 := ht3.lt
  have p0 := ht3.cell 0
  have p1 := ht3.cell 1
  have p2 := ht3.cell 2
  have p3 := ht3.cell 3
  have p4 := ht3.cell 4
  have p5 := ht3.cell 5
  have p6 := ht3.cell 6
  have p7 := ht3.cell 7
  have p8 := ht3.cell 8
  simp only [List.size_toArray, List.length_cons, List.length_nil, Nat.reduceAdd, Nat.reduceLT, getElem?_pos, List.getElem_toArray, List.getElem_cons_zero, List.getElem_cons_succ] at p0 p1 p2 p3 p4 p5 p6 p7 p8
  have hT3 := K1.out.bel hB3
  have hR3 := ((HR0.out.ext y1).bel (K2.out.mono (by simp))).bel hB3
  have hB3' : Below w.heap.size w W3 := HB0.out.trans (((below_ext _ _).mono HB0.out.size).trans ((K2.out.mono (by have := HB0.out.size; have := (below_ext W0 y1).size; omega)).trans (hB3.mono (by have := HB0.out.size; have := K2.out.size; have := (below_ext W0 y1).size; omega))))
  have r0 := hR3.frozen 0
  have r1 := hR3.frozen 1
  have r2 := hR3.frozen 2
  have r3 := hR3.frozen 3
  have r4 := hR3.frozen 4
  have r5 := hR3.frozen 5
  have r6 := hR3.frozen 6
  have r7 := hR3.frozen 7
  have r8 := hR3.frozen 8
  have c0 := hR3.cell 0
  have c1 := hR3.cell 1
  have c2 := hR3.cell 2
  have c3 := hR3.cell 3
  have c4 := hR3.cell 4
  have c5 := hR3.cell 5
  have c6 := hR3.cell 6
  have c7 := hR3.cell 7
  have c8 := hR3.cell 8
  simp only [List.size_toArray, List.length_cons, List.length_nil, Nat.reduceAdd, Nat.reduceLT, getElem?_pos, List.getElem_toArray, List.getElem_cons_zero, List.getElem_cons_succ] at c0 c1 c2 c3 c4 c5 c6 c7 c8
  have lr := hR3.lt
  have HT3 := Lib.hid hT3
  have HR3 := Lib.hid hR3
  have HB3 := Lib.hid hB3'
  have hNE := Lib.hid (show w.heap.size + 1 ≠ Bb from fun e => by have := K3.out; have := (below_ext W0 y1).size; have := HR0.out.lt; omega)
  clear hW3 hB3 ht3 hT3 hR3 hB3' HR0 HB0 K1 K2
  go_wp2_with (go_at_call 54; refine (tright_eq b p c kd Bb true _ HT3.out hr).mono ?_; rintro e w4 ⟨rfl, y2, rfl⟩)
  generalize hF : World.setCell _ _ _ = F
  have hF2 : F = put9 (ext W3 y2) (w.heap.size + 1) (.int .i64 b.lo) (.int .i64 b.hi) (.slice p b.ns.length c) (.int .i64 kd.a) (.int .i64 kd.b) (.int .i64 kd.c) (.int .i64 kd.d) (.int .i64 kd.e) (.slice (some ⟨Bb, 0, none⟩) (b.ns.length + 1) (b.ns.length + 1)) := hF.symm
  have hrF : Blk F (w.heap.size + 1) 80 #[.int .i64 b.lo, .int .i64 b.hi, .slice p b.ns.length c, .int .i64 kd.a, .int .i64 kd.b, .int .i64 kd.c, .int .i64 kd.d, .int .i64 kd.e, .slice (some ⟨Bb, 0, none⟩) (b.ns.length + 1) (b.ns.length + 1)] := by rw [hF2]; exact set9 (HR3.out.ext y2) _ _ _ _ _ _ _ _ _
  have hTF : TOK F b p Bb := by
    have h1 := HT3.out.bel (below_ext W3 y2)
    refine ⟨HK2.out.nt.below (HB3.out.trans (((below_ext W3 y2).mono HB3.out.size).trans (by rw [hF2]; exact set9b (by omega) _ _ _ _ _ _ _ _ _))), h1.ok, h1.tl.keep1 (HR3.out.ext y2) hNE.out (fun k hk => by rw [hF2]; exact set9h hk _ _ _ _ _ _ _ _ _)⟩
  have hBF : Below w.heap.size (ext W3 y2) F := by rw [hF2]; exact set9b (by omega) _ _ _ _ _ _ _ _ _
  clear hF hF2
  have t0 := hrF.cell 0
  have t1 := hrF.cell 1
  have t2 := hrF.cell 2
  have t3 := hrF.cell 3
  have t4 := hrF.cell 4
  have t5 := hrF.cell 5
  have t6 := hrF.cell 6
  have t7 := hrF.cell 7
  have t8 := hrF.cell 8
  simp only [List.size_toArray, List.length_cons, List.length_nil, Nat.reduceAdd, Nat.reduceLT, getElem?_pos, List.getElem_toArray, List.getElem_cons_zero, List.getElem_cons_succ] at t0 t1 t2 t3 t4 t5 t6 t7 t8
  refine bodyPost_ret (v := .tuple #[.agg (talC b.lo b.hi p b.ns.length c kd Bb), .int .i64 0]) ?_ ?_ ?_
  · simp [results, Tryd.results58, go_sem, t0, t1, t2, t3, t4, t5, t6, t7, t8]
  · rfl
  · exact ⟨kd, Bb, rfl, hkd, hTF, HB3.out.trans (((below_ext W3 y2).mono HB3.out.size).trans hBF)⟩
end Go.Proofs.YtnckampdbbcehaaDoor

