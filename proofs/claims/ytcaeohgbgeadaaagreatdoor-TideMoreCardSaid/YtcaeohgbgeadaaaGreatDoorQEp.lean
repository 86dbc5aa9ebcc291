/- For the laws of package tide: the chapter's book in memory. -/
import Derived.Test.YtcaeohgbgeadaaaGreatDoorQEn
set_option linter.unusedSimpArgs false
set_option linter.unusedVariables false
namespace Go.Proofs.YtcaeohgbgeadaaaGreatDoor
open Go Go.RowKit Go.Shelf
/-- The cells of the chapter's notes, and of its tides. -/
def noteCs : Array Value := #[.int .i64 0, .int .i64 6, .int .i64 30, .int .i64 30, .int .i64 1, .int .i64 8, .int .i64 1, .int .i64 3, .int .i64 2, .int .i64 18, .int .i64 0, .int .i64 0, .int .i64 4, .int .i64 20, .int .i64 45, .int .i64 55, .int .i64 1, .int .i64 21, .int .i64 1, .int .i64 2]
def lowCs : Array Value := #[.int .i64 24, .int .i64 20, .int .i64 25, .int .i64 30, .int .i64 18, .int .i64 20, .int .i64 36, .int .i64 15, .int .i64 22]
theorem notes_T {w : World} {g : Nat} (h : Blk w g 75 noteCs) : NotesAt w (some ⟨g, 0, none⟩) netT.ns := fun i s hs => by
  refine ⟨g, 0, rfl, h.lt, ?_⟩
  simp only [Nat.zero_add]
  match i, hs with
  | 0, hs => cases hs; exact ⟨h.cell 0, h.cell 1, h.cell 2, h.cell 3⟩
  | 1, hs => cases hs; exact ⟨h.cell 4, h.cell 5, h.cell 6, h.cell 7⟩
  | 2, hs => cases hs; exact ⟨h.cell 8, h.cell 9, h.cell 10, h.cell 11⟩
  | 3, hs => cases hs; exact ⟨h.cell 12, h.cell 13, h.cell 14, h.cell 15⟩
  | 4, hs => cases hs; exact ⟨h.cell 16, h.cell 17, h.cell 18, h.cell 19⟩
  | i + 5, hs => simp at hs
theorem lows_T {w : World} {g : Nat} (h : Blk w g 69 lowCs) : LowsAt w (some ⟨g, 0, none⟩) lowsT := fun i s hs => by
  refine ⟨g, 0, rfl, h.lt, ?_⟩
  simp only [Nat.zero_add]
  match i, hs with
  | 0, hs => cases hs; exact ⟨h.cell 0, h.cell 1, h.cell 2⟩
  | 1, hs => cases hs; exact ⟨h.cell 3, h.cell 4, h.cell 5⟩
  | 2, hs => cases hs; exact ⟨h.cell 6, h.cell 7, h.cell 8⟩
  | i + 3, hs => simp at hs
theorem Blk.set3 {w : World} {g : Nat} {t : TypeId} {a0 a1 a2 : Value} (k : Blk w g t #[a0, a1, a2]) (v0 v1 v2 : Value) : Blk (((w.setCell ⟨g, 0, none⟩ v0).setCell ⟨g, 1, none⟩ v1).setCell ⟨g, 2, none⟩ v2) g t #[v0, v1, v2] := by
  simpa using ((k.set 0 v0).set 1 v1).set 2 v2
attribute [local go_sem] Oper.semAt_some frozen_alloc_lt
set_option maxRecDepth 100000 in
set_option maxHeartbeats 4000000 in
theorem netT_any (w : World) : Calls Tryz.prog 154 #[] w fun e w' => ∃ g : Nat, e = .returned (.agg #[.int .i64 100, .int .i64 110, .slice (some ⟨g, 0, none⟩) 5 5]) ∧ w.heap.size < g ∧ Blk w' g 75 noteCs ∧ ∃ x, w' = ext w x := by
  go_enter Tryz.func154, Tryz.ntmps154
  go_upto_region 1 with fail
  generalize hW : w.alloc _ = W
  have hB : Below w.heap.size w W := by rw [← hW]; (repeat (first | (with_reducible exact Below.refl _ _) | (with_reducible assumption) | ((with_reducible refine below_ext_trans ?_ ?_ _); rotate_left; focus (((try dsimp only); repeat (first | omega | simp only [World.size_alloc, World.size_setCell, World.size_drew] | (with_reducible refine le_ext_of ?_) | (with_reducible refine le_ext_add ?_))); done)) | ((with_reducible refine Below.alloc ?_ ?_ _); rotate_left; focus (((try dsimp only); repeat (first | omega | simp only [World.size_alloc, World.size_setCell, World.size_drew] | (with_reducible refine le_ext_of ?_) | (with_reducible refine le_ext_add ?_))); done)) | ((with_reducible refine Below.setCell ?_ ?_ _); rotate_left; focus (((try dsimp only); repeat (first | omega | simp only [World.size_alloc, World.size_setCell, World.size_drew] | (with_reducible refine le_ext_of ?_) | (with_reducible refine le_ext_add ?_))); done)) | (with_reducible refine Below.drew ?_)))
  have kR : Blk W w.heap.size 26 #[.int .i64 0, .int .i64 0, .slice none 0 0] := by rw [← hW]; exact Blk.new rfl
  have HB := Lib.hid hB
  have KR := Lib.hid kR
  clear hW hB kR
  go_wp2_with (first
    | (go_at_call 48; refine (To_any _ _ _).mono ?_; rintro e w1 ⟨rfl, y, hw1⟩; have KR' := Lib.hid (show Blk w1 w.heap.size 26 #[.int .i64 0, .int .i64 0, .slice none 0 0] by rw [hw1]; exact KR.out.ext y); have HB' := Lib.hid (show Below w.heap.size w w1 by rw [hw1]; exact HB.out.trans ((below_ext _ y).mono HB.out.size)); clear KR HB hw1; have KR := KR'; have HB := HB'; clear KR' HB'; (try clear r0 r1 r2 f0 f1 f2 lR); have kr := KR.out; (have r0 := Blk.cell kr 0; have r1 := Blk.cell kr 1; have r2 := Blk.cell kr 2; simp only [List.size_toArray, List.length_cons, List.length_nil, Nat.reduceAdd, Nat.reduceLT, getElem?_pos, List.getElem_toArray, List.getElem_cons_zero, List.getElem_cons_succ] at r0 r1 r2); (have f0 := Blk.frozen kr 0; have f1 := Blk.frozen kr 1; have f2 := Blk.frozen kr 2); have lR := kr.lt; clear kr)
    | (go_at_call 44; refine (Just_any _ _).mono ?_; rintro e w1 ⟨rfl, y, hw1⟩; have KR' := Lib.hid (show Blk w1 w.heap.size 26 #[.int .i64 0, .int .i64 0, .slice none 0 0] by rw [hw1]; exact KR.out.ext y); have HB' := Lib.hid (show Below w.heap.size w w1 by rw [hw1]; exact HB.out.trans ((below_ext _ y).mono HB.out.size)); clear KR HB hw1; have KR := KR'; have HB := HB'; clear KR' HB'; (try clear r0 r1 r2 f0 f1 f2 lR); have kr := KR.out; (have r0 := Blk.cell kr 0; have r1 := Blk.cell kr 1; have r2 := Blk.cell kr 2; simp only [List.size_toArray, List.length_cons, List.length_nil, Nat.reduceAdd, Nat.reduceLT, getElem?_pos, List.getElem_toArray, List.getElem_cons_zero, List.getElem_cons_succ] at r0 r1 r2); (have f0 := Blk.frozen kr 0; have f1 := Blk.frozen kr 1; have f2 := Blk.frozen kr 2); have lR := kr.lt; clear kr))
  have kE := (KR.out.set3 (.int .i64 100) (.int .i64 110) (.slice (some ⟨w1.heap.size, 0, none⟩) 5 5)).alloc (.cells noteCs 75)
  have hE := (((HB.out.setCell (p := ⟨w.heap.size, 0, none⟩) (by dsimp only; omega) (.int .i64 100)).setCell (p := ⟨w.heap.size, 1, none⟩) (by dsimp only; omega) (.int .i64 110)).setCell (p := ⟨w.heap.size, 2, none⟩) (by dsimp only; omega) (.slice (some ⟨w1.heap.size, 0, none⟩) 5 5)).alloc (by simp; omega) (.cells noteCs 75)
  have kn : Blk ((((w1.setCell ⟨w.heap.size, 0, none⟩ (.int .i64 100)).setCell ⟨w.heap.size, 1, none⟩ (.int .i64 110)).setCell ⟨w.heap.size, 2, none⟩ (.slice (some ⟨w1.heap.size, 0, none⟩) 5 5)).alloc (.cells noteCs 75)) w1.heap.size 75 noteCs := Blk.new (by simp)
  unfold noteCs at kE hE kn
  generalize hWW : World.alloc _ _ = WW at kE hE kn ⊢
  generalize w1.heap.size = g1 at *
  clear hWW
  have HE2 := Lib.hid hE
  have KN : Hid (Blk WW g1 75 noteCs) := Lib.hid kn
  (have e0 := Blk.cell kE 0; have e1 := Blk.cell kE 1; have e2 := Blk.cell kE 2; simp only [List.size_toArray, List.length_cons, List.length_nil, Nat.reduceAdd, Nat.reduceLT, getElem?_pos, List.getElem_toArray, List.getElem_cons_zero, List.getElem_cons_succ] at e0 e1 e2)
  have lE := kE.lt
  clear hE kE kn
  refine bodyPost_ret (v := .agg #[.int .i64 100, .int .i64 110, .slice (some ⟨g1, 0, none⟩) 5 5]) (by simp [results, Tryz.results154, go_sem, e0, e1, e2, lE]) rfl ⟨g1, rfl, lR, KN.out, ext_of HE2.out⟩
theorem Blk.set9T {w : World} {g : Nat} {t : TypeId} {a0 a1 a2 a3 a4 a5 a6 a7 a8 : Value} (k : Blk w g t #[a0, a1, a2, a3, a4, a5, a6, a7, a8]) (v0 v1 v2 v3 v4 v5 v6 v7 v8 : Value) : Blk (((((((((w.setCell ⟨g, 0, none⟩ v0).setCell ⟨g, 1, none⟩ v1).setCell ⟨g, 2, none⟩ v2).setCell ⟨g, 3, none⟩ v3).setCell ⟨g, 4, none⟩ v4).setCell ⟨g, 5, none⟩ v5).setCell ⟨g, 6, none⟩ v6).setCell ⟨g, 7, none⟩ v7).setCell ⟨g, 8, none⟩ v8) g t #[v0, v1, v2, v3, v4, v5, v6, v7, v8] := by
  simpa using (((((((((k.set 0 v0).set 1 v1).set 2 v2).set 3 v3).set 4 v4).set 5 v5).set 6 v6).set 7 v7).set 8 v8)
theorem bel_set9T {n : Nat} {a w : World} {g : Nat} (h : Below n a w) (hg : n ≤ g) (v0 v1 v2 v3 v4 v5 v6 v7 v8 : Value) : Below n a (((((((((w.setCell ⟨g, 0, none⟩ v0).setCell ⟨g, 1, none⟩ v1).setCell ⟨g, 2, none⟩ v2).setCell ⟨g, 3, none⟩ v3).setCell ⟨g, 4, none⟩ v4).setCell ⟨g, 5, none⟩ v5).setCell ⟨g, 6, none⟩ v6).setCell ⟨g, 7, none⟩ v7).setCell ⟨g, 8, none⟩ v8) := (((((((((h.setCell (by dsimp only; omega) _).setCell (by dsimp only; omega) _).setCell (by dsimp only; omega) _).setCell (by dsimp only; omega) _).setCell (by dsimp only; omega) _).setCell (by dsimp only; omega) _).setCell (by dsimp only; omega) _).setCell (by dsimp only; omega) _).setCell (by dsimp only; omega) _)
theorem blk_set9T {w : World} {b g : Nat} {t : TypeId} {cs : Array Value} (h : Blk w b t cs) (hg : b ≠ g) (v0 v1 v2 v3 v4 v5 v6 v7 v8 : Value) : Blk (((((((((w.setCell ⟨g, 0, none⟩ v0).setCell ⟨g, 1, none⟩ v1).setCell ⟨g, 2, none⟩ v2).setCell ⟨g, 3, none⟩ v3).setCell ⟨g, 4, none⟩ v4).setCell ⟨g, 5, none⟩ v5).setCell ⟨g, 6, none⟩ v6).setCell ⟨g, 7, none⟩ v7).setCell ⟨g, 8, none⟩ v8) b t cs := (((((((((h.setOther hg _ _).setOther hg _ _).setOther hg _ _).setOther hg _ _).setOther hg _ _).setOther hg _ _).setOther hg _ _).setOther hg _ _).setOther hg _ _)
/-- Where the lists of the chapter's book lie. -/
def tpT (gn gt : Nat) : Tp := ⟨some ⟨gn, 0, none⟩, 5, some ⟨gt, 0, none⟩, 3⟩
section
variable {o : Oper} {w : World} {g j t s u : Nat} (ρ : Operand → Value)
theorem run_bLow {h : Int} {x y : Int} (hop : o.op = .build 69 #[(0, .const (.int .i64 h)), (1, .tmp t)]) (hc : ρ (.const (.int .i64 h)) = .int .i64 h) (h1 : ρ (.tmp t) = .agg #[.int .i64 x, .int .i64 y]) : (execOp ρ o).run Tryz.prog w = .ok (.value (.agg #[.int .i64 h, .int .i64 x, .int .i64 y])) w := by
  unfold execOp; simp [hop, h1, hc, go_sem]
theorem run_bsLow {a0 a1 a2 b0 b1 b2 c0 c1 c2 : Int} (hop : o.op = .buildSlice 27 3 #[(0, .tmp t), (1, .tmp s), (2, .tmp u)]) (h1 : ρ (.tmp t) = .agg #[.int .i64 a0, .int .i64 a1, .int .i64 a2]) (h2 : ρ (.tmp s) = .agg #[.int .i64 b0, .int .i64 b1, .int .i64 b2]) (h3 : ρ (.tmp u) = .agg #[.int .i64 c0, .int .i64 c1, .int .i64 c2]) :
    (execOp ρ o).run Tryz.prog w = .ok (.value (.slice (some ⟨w.heap.size, 0, none⟩) 3 3)) (w.alloc (.cells #[.int .i64 a0, .int .i64 a1, .int .i64 a2, .int .i64 b0, .int .i64 b1, .int .i64 b2, .int .i64 c0, .int .i64 c1, .int .i64 c2] 69)) := by
  unfold execOp; simp [hop, h1, h2, h3, go_sem]
theorem run_bBook {s1 s2 s3 s4 : Nat} {p1 p2 : Option Addr} {n1 c1 n2 c2 : Nat} {a b c d r now most : Int} (hop : o.op = .build 29 #[(0, .tmp s1), (1, .const (.int .i64 now)), (2, .tmp s2), (3, .tmp s3), (4, .const (.int .i64 most)), (5, .tmp s4)])
    (h1 : ρ (.tmp s1) = .agg #[.int .i64 a, .int .i64 b, .slice p1 n1 c1]) (h2 : ρ (.tmp s2) = .slice p2 n2 c2) (h3 : ρ (.tmp s3) = .agg #[.int .i64 c, .int .i64 d]) (h4 : ρ (.tmp s4) = .int .i64 r) (k1 : ρ (.const (.int .i64 now)) = .int .i64 now) (k2 : ρ (.const (.int .i64 most)) = .int .i64 most) :
    (execOp ρ o).run Tryz.prog w = .ok (.value (.agg #[.int .i64 a, .int .i64 b, .slice p1 n1 c1, .int .i64 now, .slice p2 n2 c2, .int .i64 c, .int .i64 d, .int .i64 most, .int .i64 r])) w := by
  unfold execOp; simp [hop, h1, h2, h3, h4, k1, k2, go_sem]
end
/-- What region 1's operations leave. -/
def bkR (lo hi rest : Int) (n0 : Nat) (i : Nat) (v : Value) (w : World) : Prop :=
  match i with
  | 0 => ∃ g, v = .agg #[.int .i64 100, .int .i64 110, .slice (some ⟨g, 0, none⟩) 5 5] ∧ n0 ≤ g ∧ Blk w g 75 noteCs
  | 1 => v = .agg #[.int .i64 20, .int .i64 25]
  | 2 => v = .agg #[.int .i64 24, .int .i64 20, .int .i64 25]
  | 3 => v = .agg #[.int .i64 18, .int .i64 20]
  | 4 => v = .agg #[.int .i64 30, .int .i64 18, .int .i64 20]
  | 5 => v = .agg #[.int .i64 15, .int .i64 22]
  | 6 => v = .agg #[.int .i64 36, .int .i64 15, .int .i64 22]
  | 7 => ∃ g, v = .slice (some ⟨g, 0, none⟩) 3 3 ∧ n0 ≤ g ∧ Blk w g 69 lowCs
  | 8 => v = .agg #[.int .i64 lo, .int .i64 hi]
  | 9 => v = .int .i64 rest
  | 10 => ∃ gn gt, v = tv (bookT lo hi rest) (tpT gn gt) ∧ (n0 ≤ gn ∧ n0 ≤ gt) ∧ Blk w gn 75 noteCs ∧ Blk w gt 69 lowCs
  | _ => True
theorem bkR_kept (lo hi rest : Int) (n0 : Nat) : ∀ (i : Nat), i < 11 → ∀ (v : Value) (w w' : World), bkR lo hi rest n0 i v w → Below w.heap.size w w' → bkR lo hi rest n0 i v w' := by
  intro i hi v w w' h hb
  match i, hi with
  | 0, _ => obtain ⟨g, h1, h2, h3⟩ := h; exact ⟨g, h1, h2, h3.bel hb⟩
  | 1, _ => exact h
  | 2, _ => exact h
  | 3, _ => exact h
  | 4, _ => exact h
  | 5, _ => exact h
  | 6, _ => exact h
  | 7, _ => obtain ⟨g, h1, h2, h3⟩ := h; exact ⟨g, h1, h2, h3.bel hb⟩
  | 8, _ => exact h
  | 9, _ => exact h
  | 10, _ => obtain ⟨gn, gt, h1, h2, h3, h4⟩ := h; exact ⟨gn, gt, h1, h2, h3.bel hb, h4.bel hb⟩
  | k + 11, hk => omega
/-- The chapter's book lies in memory of its own. -/
def BookTAt (n0 : Nat) (lo hi rest : Int) (w : World) (e : Ending) (w' : World) : Prop := ∃ gn gt : Nat, e = .returned (tv (bookT lo hi rest) (tpT gn gt)) ∧ (n0 ≤ gn ∧ n0 ≤ gt) ∧ Blk w' gn 75 noteCs ∧ Blk w' gt 69 lowCs ∧ ∃ x, w' = ext w x
theorem TB_T {w : World} {gn gt : Nat} {lo hi rest : Int} (hn : MM w) (h1 : Blk w gn 75 noteCs) (h2 : Blk w gt 69 lowCs) : TB w (bookT lo hi rest) (tpT gn gt) :=
  ⟨⟨notes_T h1, hn, fun a ha => by cases ha; exact h1.lt⟩, lows_T h2, fun a ha => by cases ha; exact h2.lt⟩
set_option maxRecDepth 100000 in
set_option maxHeartbeats 4000000 in
theorem bookT_any (lo hi rest : Int) (w : World) : Calls Tryz.prog 118 #[.agg #[.int .i64 lo, .int .i64 hi], .int .i64 rest] w (BookTAt w.heap.size lo hi rest w) := by
  go_enter Tryz.func118, Tryz.ntmps118
  go_upto_region 1 with fail
  generalize hW : (w.alloc _).alloc _ = W
  have hB : Below w.heap.size w W := by rw [← hW]; (repeat (first | (with_reducible exact Below.refl _ _) | (with_reducible assumption) | ((with_reducible refine below_ext_trans ?_ ?_ _); rotate_left; focus (((try dsimp only); repeat (first | omega | simp only [World.size_alloc, World.size_setCell, World.size_drew] | (with_reducible refine le_ext_of ?_) | (with_reducible refine le_ext_add ?_))); done)) | ((with_reducible refine Below.alloc ?_ ?_ _); rotate_left; focus (((try dsimp only); repeat (first | omega | simp only [World.size_alloc, World.size_setCell, World.size_drew] | (with_reducible refine le_ext_of ?_) | (with_reducible refine le_ext_add ?_))); done)) | ((with_reducible refine Below.setCell ?_ ?_ _); rotate_left; focus (((try dsimp only); repeat (first | omega | simp only [World.size_alloc, World.size_setCell, World.size_drew] | (with_reducible refine le_ext_of ?_) | (with_reducible refine le_ext_add ?_))); done)) | (with_reducible refine Below.drew ?_)))
  have kS : Blk W w.heap.size 23 #[.int .i64 lo, .int .i64 hi] := by rw [← hW]; exact (Blk.new rfl).alloc _
  have kR : Blk W (w.heap.size + 1) 29 #[.int .i64 0, .int .i64 0, .slice none 0 0, .int .i64 0, .slice none 0 0, .int .i64 0, .int .i64 0, .int .i64 0, .int .i64 0] := by rw [← hW]; exact Blk.new (by simp)
  have HB := Lib.hid hB
  have KS := Lib.hid kS
  have KR := Lib.hid kR
  have hz := hB.size
  clear hW hB kS kR
  refine wp_region_flow_back 11 16 (bkR lo hi rest w.heap.size) (by kernel_rfl) (by kernel_rfl) rfl (bkR_kept _ _ _ _) ?_ ?_
  · intro i hin a X g1 g2 g3 g4 g5 KK hKK
    match i, hin with
    | 0, _ =>
      refine st_call rfl rfl (wanted_none rfl) (vs := #[]) (by simp) (run_enter Tryz.func154 (by kernel_rfl) (by kernel_rfl) _) ?_
      refine (netT_any _).mono ?_
      rintro e w1 ⟨g, rfl, h1, h2, y, rfl⟩
      exact ⟨_, rfl, hKK _ _ ⟨g, rfl, by have := g5.size; omega, h2⟩ (below_ext _ _)⟩
    | 1, _ =>
      refine st_call rfl rfl (wanted_none rfl) (vs := #[.int .i64 20, .int .i64 25]) (consts2 _ _) (run_enter Tryz.func48 (by kernel_rfl) (by kernel_rfl) _) ?_
      refine (To_any _ _ _).mono ?_
      rintro e w1 ⟨rfl, y, rfl⟩
      exact ⟨_, rfl, hKK _ _ rfl (below_ext _ _)⟩
    | 2, _ => exact st_val rfl (wanted_none rfl) (run_bLow _ rfl rfl (g4 1 (by kernel_rfl))) (hKK _ _ rfl (Below.refl _ _))
    | 3, _ =>
      refine st_call rfl rfl (wanted_none rfl) (vs := #[.int .i64 18, .int .i64 20]) (consts2 _ _) (run_enter Tryz.func48 (by kernel_rfl) (by kernel_rfl) _) ?_
      refine (To_any _ _ _).mono ?_
      rintro e w1 ⟨rfl, y, rfl⟩
      exact ⟨_, rfl, hKK _ _ rfl (below_ext _ _)⟩
    | 4, _ => exact st_val rfl (wanted_none rfl) (run_bLow _ rfl rfl (g4 3 (by kernel_rfl))) (hKK _ _ rfl (Below.refl _ _))
    | 5, _ =>
      refine st_call rfl rfl (wanted_none rfl) (vs := #[.int .i64 15, .int .i64 22]) (consts2 _ _) (run_enter Tryz.func48 (by kernel_rfl) (by kernel_rfl) _) ?_
      refine (To_any _ _ _).mono ?_
      rintro e w1 ⟨rfl, y, rfl⟩
      exact ⟨_, rfl, hKK _ _ rfl (below_ext _ _)⟩
    | 6, _ => exact st_val rfl (wanted_none rfl) (run_bLow _ rfl rfl (g4 5 (by kernel_rfl))) (hKK _ _ rfl (Below.refl _ _))
    | 7, _ => exact st_valw rfl (wanted_none rfl) (run_bsLow _ rfl (g4 2 (by kernel_rfl)) (g4 4 (by kernel_rfl)) (g4 6 (by kernel_rfl))) (hKK _ _ ⟨_, rfl, by have := g5.size; omega, Blk.new rfl⟩ ((Below.refl _ _).alloc (Nat.le_refl _) _))
    | 8, _ => exact st_val rfl (wanted_none rfl) (run_lSpan _ rfl (g3 2 (by kernel_rfl)) (((KS.out.bel g5).cell 0).trans rfl) (((KS.out.bel g5).cell 1).trans rfl)) (hKK _ _ rfl (Below.refl _ _))
    | 9, _ => exact st_move rfl rfl (wanted_none rfl) (g3 1 (by kernel_rfl)) (hKK _ _ rfl (Below.refl _ _))
    | 10, _ =>
      obtain ⟨gn, e0, h1, h2⟩ := g4 0 (by kernel_rfl)
      obtain ⟨gt, e7, h3, h4⟩ := g4 7 (by kernel_rfl)
      exact st_val rfl (wanted_none rfl) (run_bBook _ rfl e0 e7 (g4 8 (by kernel_rfl)) (g4 9 (by kernel_rfl)) rfl rfl) (hKK _ _ ⟨gn, gt, rfl, ⟨h1, h3⟩, h2, h4⟩ (Below.refl _ _))
    | k + 11, hk => omega
  intro vs W2 hvs hBW
  obtain ⟨_, v0, -⟩ := hvs 0 (by omega)
  have v1 : vs 1 = _ := hvs 1 (by omega)
  have v2 : vs 2 = _ := hvs 2 (by omega)
  have v3 : vs 3 = _ := hvs 3 (by omega)
  have v4 : vs 4 = _ := hvs 4 (by omega)
  have v5 : vs 5 = _ := hvs 5 (by omega)
  have v6 : vs 6 = _ := hvs 6 (by omega)
  have v8 : vs 8 = _ := hvs 8 (by omega)
  have v9 : vs 9 = _ := hvs 9 (by omega)
  obtain ⟨_, v7, -⟩ := hvs 7 (by omega)
  obtain ⟨gn, gt, v10, hgg, hkn, hkt⟩ := hvs 10 (by omega)
  simp only [putAll, v0, v1, v2, v3, v4, v5, v6, v7, v8, v9, v10]
  clear v0 v1 v2 v3 v4 v5 v6 v7 v8 v9 v10 hvs
  simp only [dstOf, Act.put, List.getElem?_toArray, List.getElem?_cons_zero, List.getElem?_cons_succ, Option.bind_some, Option.getD_some, List.setIfInBounds_toArray, List.set_cons_succ, List.set_cons_zero, List.drop_succ_cons, List.drop_zero]
  have KR2 := Lib.hid (KR.out.bel hBW)
  have HB2 := Lib.hid (HB.out.trans (hBW.mono HB.out.size))
  have KN := Lib.hid hkn
  have KT := Lib.hid hkt
  have hbk : True := trivial
  have hne1 : gn ≠ w.heap.size + 1 := fun e => by subst e; have h1 := KR2.out; have h2 := KN.out; unfold Blk at h1 h2; rw [h1] at h2; simp [noteCs] at h2
  have hne2 : gt ≠ w.heap.size + 1 := fun e => by subst e; have h1 := KR2.out; have h2 := KT.out; unfold Blk at h1 h2; rw [h1] at h2; simp [lowCs] at h2
  have kR := KR2.out
  (have r0 := Blk.cell kR 0; have r1 := Blk.cell kR 1; have r2 := Blk.cell kR 2; have r3 := Blk.cell kR 3; have r4 := Blk.cell kR 4; have r5 := Blk.cell kR 5; have r6 := Blk.cell kR 6; have r7 := Blk.cell kR 7; have r8 := Blk.cell kR 8; simp only [List.size_toArray, List.length_cons, List.length_nil, Nat.reduceAdd, Nat.reduceLT, getElem?_pos, List.getElem_toArray, List.getElem_cons_zero, List.getElem_cons_succ] at r0 r1 r2 r3 r4 r5 r6 r7 r8)
  (have f0 := Blk.frozen kR 0; have f1 := Blk.frozen kR 1; have f2 := Blk.frozen kR 2; have f3 := Blk.frozen kR 3; have f4 := Blk.frozen kR 4; have f5 := Blk.frozen kR 5; have f6 := Blk.frozen kR 6; have f7 := Blk.frozen kR 7; have f8 := Blk.frozen kR 8)
  have lR := kR.lt
  clear kR hkn hkt hBW hbk
  generalize hTV : tv (bookT lo hi rest) (tpT gn gt) = vv
  have HTV := Lib.hid hTV
  unfold tv at hTV
  dsimp only [bookT, netT, lowsT, tpT, List.length_cons, List.length_nil] at hTV
  subst hTV
  go_wp2_with fail
  have kE := KR2.out.set9T (.int .i64 100) (.int .i64 110) (.slice (some ⟨gn, 0, none⟩) 5 5) (.int .i64 21) (.slice (some ⟨gt, 0, none⟩) 3 3) (.int .i64 lo) (.int .i64 hi) (.int .i64 2) (.int .i64 rest)
  have hE := bel_set9T (g := w.heap.size + 1) HB2.out (by omega) (.int .i64 100) (.int .i64 110) (.slice (some ⟨gn, 0, none⟩) 5 5) (.int .i64 21) (.slice (some ⟨gt, 0, none⟩) 3 3) (.int .i64 lo) (.int .i64 hi) (.int .i64 2) (.int .i64 rest)
  have kN := blk_set9T (g := w.heap.size + 1) KN.out hne1 (.int .i64 100) (.int .i64 110) (.slice (some ⟨gn, 0, none⟩) 5 5) (.int .i64 21) (.slice (some ⟨gt, 0, none⟩) 3 3) (.int .i64 lo) (.int .i64 hi) (.int .i64 2) (.int .i64 rest)
  have kT := blk_set9T (g := w.heap.size + 1) KT.out hne2 (.int .i64 100) (.int .i64 110) (.slice (some ⟨gn, 0, none⟩) 5 5) (.int .i64 21) (.slice (some ⟨gt, 0, none⟩) 3 3) (.int .i64 lo) (.int .i64 hi) (.int .i64 2) (.int .i64 rest)
  generalize hWW : World.setCell _ _ _ = WW at kE hE kN kT ⊢
  clear hWW
  have HE2 := Lib.hid hE
  have KN3 := Lib.hid kN
  have KT3 := Lib.hid kT
  (have e0 := Blk.cell kE 0; have e1 := Blk.cell kE 1; have e2 := Blk.cell kE 2; have e3 := Blk.cell kE 3; have e4 := Blk.cell kE 4; have e5 := Blk.cell kE 5; have e6 := Blk.cell kE 6; have e7 := Blk.cell kE 7; have e8 := Blk.cell kE 8; simp only [List.size_toArray, List.length_cons, List.length_nil, Nat.reduceAdd, Nat.reduceLT, getElem?_pos, List.getElem_toArray, List.getElem_cons_zero, List.getElem_cons_succ] at e0 e1 e2 e3 e4 e5 e6 e7 e8)
  have lE := kE.lt
  clear hE kE kN kT
  refine bodyPost_ret (v := .agg #[.int .i64 100, .int .i64 110, .slice (some ⟨gn, 0, none⟩) 5 5, .int .i64 21, .slice (some ⟨gt, 0, none⟩) 3 3, .int .i64 lo, .int .i64 hi, .int .i64 2, .int .i64 rest]) (by simp [results, Tryz.results118, go_sem, e0, e1, e2, e3, e4, e5, e6, e7, e8, lE]) rfl ⟨gn, gt, by rw [HTV.out], hgg, KN3.out, KT3.out, ext_of HE2.out⟩
set_option maxRecDepth 100000 in
set_option maxHeartbeats 4000000 in
theorem ownT_any (w : World) : Calls Tryz.prog 71 #[] w (BookTAt w.heap.size 34 40 8 w) := by
  go_enter Tryz.func71, Tryz.ntmps71
  go_upto_region 1 with fail
  generalize hW : w.alloc _ = W
  have hB : Below w.heap.size w W := by rw [← hW]; (repeat (first | (with_reducible exact Below.refl _ _) | (with_reducible assumption) | ((with_reducible refine below_ext_trans ?_ ?_ _); rotate_left; focus (((try dsimp only); repeat (first | omega | simp only [World.size_alloc, World.size_setCell, World.size_drew] | (with_reducible refine le_ext_of ?_) | (with_reducible refine le_ext_add ?_))); done)) | ((with_reducible refine Below.alloc ?_ ?_ _); rotate_left; focus (((try dsimp only); repeat (first | omega | simp only [World.size_alloc, World.size_setCell, World.size_drew] | (with_reducible refine le_ext_of ?_) | (with_reducible refine le_ext_add ?_))); done)) | ((with_reducible refine Below.setCell ?_ ?_ _); rotate_left; focus (((try dsimp only); repeat (first | omega | simp only [World.size_alloc, World.size_setCell, World.size_drew] | (with_reducible refine le_ext_of ?_) | (with_reducible refine le_ext_add ?_))); done)) | (with_reducible refine Below.drew ?_)))
  have kR : Blk W w.heap.size 29 #[.int .i64 0, .int .i64 0, .slice none 0 0, .int .i64 0, .slice none 0 0, .int .i64 0, .int .i64 0, .int .i64 0, .int .i64 0] := by rw [← hW]; exact Blk.new rfl
  have HB := Lib.hid hB
  have KR := Lib.hid kR
  clear hW hB kR
  go_wp2_with (first
    | (go_at_call 48; refine (To_any _ _ _).mono ?_; rintro e w1 ⟨rfl, y, hw1⟩; have KR1 := Lib.hid (show Blk w1 w.heap.size 29 _ by rw [hw1]; exact KR.out.ext y); have HB1 := Lib.hid (show Below w.heap.size w w1 by rw [hw1]; exact HB.out.trans ((below_ext _ y).mono HB.out.size)); clear KR HB hw1)
    | (go_at_call 118; refine (bookT_any _ _ _ _).mono ?_; rintro e w2 ⟨gn, gt, he, hgg, k1, k2, y2, hw2⟩; have KR2 := Lib.hid (show Blk w2 w.heap.size 29 _ by rw [hw2]; exact KR1.out.ext y2); have HB2 := Lib.hid (show Below w.heap.size w w2 by rw [hw2]; exact HB1.out.trans ((below_ext _ y2).mono HB1.out.size)); have hz1 := HB1.out.size; have KN := Lib.hid k1; have KT := Lib.hid k2; clear k1 k2 hw2 KR1 HB1; unfold tv at he; dsimp only [bookT, netT, lowsT, tpT, List.length_cons, List.length_nil] at he; subst he; have kR := KR2.out; (have r0 := Blk.cell kR 0; have r1 := Blk.cell kR 1; have r2 := Blk.cell kR 2; have r3 := Blk.cell kR 3; have r4 := Blk.cell kR 4; have r5 := Blk.cell kR 5; have r6 := Blk.cell kR 6; have r7 := Blk.cell kR 7; have r8 := Blk.cell kR 8; simp only [List.size_toArray, List.length_cons, List.length_nil, Nat.reduceAdd, Nat.reduceLT, getElem?_pos, List.getElem_toArray, List.getElem_cons_zero, List.getElem_cons_succ] at r0 r1 r2 r3 r4 r5 r6 r7 r8); (have f0 := Blk.frozen kR 0; have f1 := Blk.frozen kR 1; have f2 := Blk.frozen kR 2; have f3 := Blk.frozen kR 3; have f4 := Blk.frozen kR 4; have f5 := Blk.frozen kR 5; have f6 := Blk.frozen kR 6; have f7 := Blk.frozen kR 7; have f8 := Blk.frozen kR 8); have lR := kR.lt; clear kR))
  have hne1 : gn ≠ w.heap.size := fun e => by subst e; have h1 := KR2.out; have h2 := KN.out; unfold Blk at h1 h2; rw [h1] at h2; simp [noteCs] at h2
  have hne2 : gt ≠ w.heap.size := fun e => by subst e; have h1 := KR2.out; have h2 := KT.out; unfold Blk at h1 h2; rw [h1] at h2; simp [lowCs] at h2
  have kE := KR2.out.set9T (.int .i64 100) (.int .i64 110) (.slice (some ⟨gn, 0, none⟩) 5 5) (.int .i64 21) (.slice (some ⟨gt, 0, none⟩) 3 3) (.int .i64 34) (.int .i64 40) (.int .i64 2) (.int .i64 8)
  have hE := bel_set9T (g := w.heap.size) HB2.out (by omega) (.int .i64 100) (.int .i64 110) (.slice (some ⟨gn, 0, none⟩) 5 5) (.int .i64 21) (.slice (some ⟨gt, 0, none⟩) 3 3) (.int .i64 34) (.int .i64 40) (.int .i64 2) (.int .i64 8)
  have kN := blk_set9T (g := w.heap.size) KN.out hne1 (.int .i64 100) (.int .i64 110) (.slice (some ⟨gn, 0, none⟩) 5 5) (.int .i64 21) (.slice (some ⟨gt, 0, none⟩) 3 3) (.int .i64 34) (.int .i64 40) (.int .i64 2) (.int .i64 8)
  have kT := blk_set9T (g := w.heap.size) KT.out hne2 (.int .i64 100) (.int .i64 110) (.slice (some ⟨gn, 0, none⟩) 5 5) (.int .i64 21) (.slice (some ⟨gt, 0, none⟩) 3 3) (.int .i64 34) (.int .i64 40) (.int .i64 2) (.int .i64 8)
  generalize hWW : World.setCell _ _ _ = WW at kE hE kN kT ⊢
  clear hWW
  have HE2 := Lib.hid hE
  have KN3 := Lib.hid kN
  have KT3 := Lib.hid kT
  (have e0 := Blk.cell kE 0; have e1 := Blk.cell kE 1; have e2 := Blk.cell kE 2; have e3 := Blk.cell kE 3; have e4 := Blk.cell kE 4; have e5 := Blk.cell kE 5; have e6 := Blk.cell kE 6; have e7 := Blk.cell kE 7; have e8 := Blk.cell kE 8; simp only [List.size_toArray, List.length_cons, List.length_nil, Nat.reduceAdd, Nat.reduceLT, getElem?_pos, List.getElem_toArray, List.getElem_cons_zero, List.getElem_cons_succ] at e0 e1 e2 e3 e4 e5 e6 e7 e8)
  have lE := kE.lt
  clear hE kE kN kT
  refine bodyPost_ret (v := .agg #[.int .i64 100, .int .i64 110, .slice (some ⟨gn, 0, none⟩) 5 5, .int .i64 21, .slice (some ⟨gt, 0, none⟩) 3 3, .int .i64 34, .int .i64 40, .int .i64 2, .int .i64 8]) (by simp [results, Tryz.results71, go_sem, e0, e1, e2, e3, e4, e5, e6, e7, e8, lE]) rfl ⟨gn, gt, rfl, ⟨by omega, by omega⟩, KN3.out, KT3.out, ext_of HE2.out⟩
set_option maxRecDepth 100000 in
set_option maxHeartbeats 4000000 in
theorem lateT_any (w : World) : Calls Tryz.prog 73 #[] w (BookTAt w.heap.size 38 40 8 w) := by
  go_enter Tryz.func73, Tryz.ntmps73
  go_upto_region 1 with fail
  generalize hW : w.alloc _ = W
  have hB : Below w.heap.size w W := by rw [← hW]; (repeat (first | (with_reducible exact Below.refl _ _) | (with_reducible assumption) | ((with_reducible refine below_ext_trans ?_ ?_ _); rotate_left; focus (((try dsimp only); repeat (first | omega | simp only [World.size_alloc, World.size_setCell, World.size_drew] | (with_reducible refine le_ext_of ?_) | (with_reducible refine le_ext_add ?_))); done)) | ((with_reducible refine Below.alloc ?_ ?_ _); rotate_left; focus (((try dsimp only); repeat (first | omega | simp only [World.size_alloc, World.size_setCell, World.size_drew] | (with_reducible refine le_ext_of ?_) | (with_reducible refine le_ext_add ?_))); done)) | ((with_reducible refine Below.setCell ?_ ?_ _); rotate_left; focus (((try dsimp only); repeat (first | omega | simp only [World.size_alloc, World.size_setCell, World.size_drew] | (with_reducible refine le_ext_of ?_) | (with_reducible refine le_ext_add ?_))); done)) | (with_reducible refine Below.drew ?_)))
  have kR : Blk W w.heap.size 29 #[.int .i64 0, .int .i64 0, .slice none 0 0, .int .i64 0, .slice none 0 0, .int .i64 0, .int .i64 0, .int .i64 0, .int .i64 0] := by rw [← hW]; exact Blk.new rfl
  have HB := Lib.hid hB
  have KR := Lib.hid kR
  clear hW hB kR
  go_wp2_with (first
    | (go_at_call 48; refine (To_any _ _ _).mono ?_; rintro e w1 ⟨rfl, y, hw1⟩; have KR1 := Lib.hid (show Blk w1 w.heap.size 29 _ by rw [hw1]; exact KR.out.ext y); have HB1 := Lib.hid (show Below w.heap.size w w1 by rw [hw1]; exact HB.out.trans ((below_ext _ y).mono HB.out.size)); clear KR HB hw1)
    | (go_at_call 118; refine (bookT_any _ _ _ _).mono ?_; rintro e w2 ⟨gn, gt, he, hgg, k1, k2, y2, hw2⟩; have KR2 := Lib.hid (show Blk w2 w.heap.size 29 _ by rw [hw2]; exact KR1.out.ext y2); have HB2 := Lib.hid (show Below w.heap.size w w2 by rw [hw2]; exact HB1.out.trans ((below_ext _ y2).mono HB1.out.size)); have hz1 := HB1.out.size; have KN := Lib.hid k1; have KT := Lib.hid k2; clear k1 k2 hw2 KR1 HB1; unfold tv at he; dsimp only [bookT, netT, lowsT, tpT, List.length_cons, List.length_nil] at he; subst he; have kR := KR2.out; (have r0 := Blk.cell kR 0; have r1 := Blk.cell kR 1; have r2 := Blk.cell kR 2; have r3 := Blk.cell kR 3; have r4 := Blk.cell kR 4; have r5 := Blk.cell kR 5; have r6 := Blk.cell kR 6; have r7 := Blk.cell kR 7; have r8 := Blk.cell kR 8; simp only [List.size_toArray, List.length_cons, List.length_nil, Nat.reduceAdd, Nat.reduceLT, getElem?_pos, List.getElem_toArray, List.getElem_cons_zero, List.getElem_cons_succ] at r0 r1 r2 r3 r4 r5 r6 r7 r8); (have f0 := Blk.frozen kR 0; have f1 := Blk.frozen kR 1; have f2 := Blk.frozen kR 2; have f3 := Blk.frozen kR 3; have f4 := Blk.frozen kR 4; have f5 := Blk.frozen kR 5; have f6 := Blk.frozen kR 6; have f7 := Blk.frozen kR 7; have f8 := Blk.frozen kR 8); have lR := kR.lt; clear kR))
  have hne1 : gn ≠ w.heap.size := fun e => by subst e; have h1 := KR2.out; have h2 := KN.out; unfold Blk at h1 h2; rw [h1] at h2; simp [noteCs] at h2
  have hne2 : gt ≠ w.heap.size := fun e => by subst e; have h1 := KR2.out; have h2 := KT.out; unfold Blk at h1 h2; rw [h1] at h2; simp [lowCs] at h2
  have kE := KR2.out.set9T (.int .i64 100) (.int .i64 110) (.slice (some ⟨gn, 0, none⟩) 5 5) (.int .i64 21) (.slice (some ⟨gt, 0, none⟩) 3 3) (.int .i64 38) (.int .i64 40) (.int .i64 2) (.int .i64 8)
  have hE := bel_set9T (g := w.heap.size) HB2.out (by omega) (.int .i64 100) (.int .i64 110) (.slice (some ⟨gn, 0, none⟩) 5 5) (.int .i64 21) (.slice (some ⟨gt, 0, none⟩) 3 3) (.int .i64 38) (.int .i64 40) (.int .i64 2) (.int .i64 8)
  have kN := blk_set9T (g := w.heap.size) KN.out hne1 (.int .i64 100) (.int .i64 110) (.slice (some ⟨gn, 0, none⟩) 5 5) (.int .i64 21) (.slice (some ⟨gt, 0, none⟩) 3 3) (.int .i64 38) (.int .i64 40) (.int .i64 2) (.int .i64 8)
  have kT := blk_set9T (g := w.heap.size) KT.out hne2 (.int .i64 100) (.int .i64 110) (.slice (some ⟨gn, 0, none⟩) 5 5) (.int .i64 21) (.slice (some ⟨gt, 0, none⟩) 3 3) (.int .i64 38) (.int .i64 40) (.int .i64 2) (.int .i64 8)
  generalize hWW : World.setCell _ _ _ = WW at kE hE kN kT ⊢
  clear hWW
  have HE2 := Lib.hid hE
  have KN3 := Lib.hid kN
  have KT3 := Lib.hid kT
  (have e0 := Blk.cell kE 0; have e1 := Blk.cell kE 1; have e2 := Blk.cell kE 2; have e3 := Blk.cell kE 3; have e4 := Blk.cell kE 4; have e5 := Blk.cell kE 5; have e6 := Blk.cell kE 6; have e7 := Blk.cell kE 7; have e8 := Blk.cell kE 8; simp only [List.size_toArray, List.length_cons, List.length_nil, Nat.reduceAdd, Nat.reduceLT, getElem?_pos, List.getElem_toArray, List.getElem_cons_zero, List.getElem_cons_succ] at e0 e1 e2 e3 e4 e5 e6 e7 e8)
  have lE := kE.lt
  clear hE kE kN kT
  refine bodyPost_ret (v := .agg #[.int .i64 100, .int .i64 110, .slice (some ⟨gn, 0, none⟩) 5 5, .int .i64 21, .slice (some ⟨gt, 0, none⟩) 3 3, .int .i64 38, .int .i64 40, .int .i64 2, .int .i64 8]) (by simp [results, Tryz.results73, go_sem, e0, e1, e2, e3, e4, e5, e6, e7, e8, lE]) rfl ⟨gn, gt, rfl, ⟨by omega, by omega⟩, KN3.out, KT3.out, ext_of HE2.out⟩
set_option maxRecDepth 100000 in
set_option maxHeartbeats 4000000 in
theorem quickT_any (w : World) : Calls Tryz.prog 72 #[] w (BookTAt w.heap.size 34 40 6 w) := by
  go_enter Tryz.func72, Tryz.ntmps72
  go_upto_region 1 with fail
  generalize hW : w.alloc _ = W
  have hB : Below w.heap.size w W := by rw [← hW]; (repeat (first | (with_reducible exact Below.refl _ _) | (with_reducible assumption) | ((with_reducible refine below_ext_trans ?_ ?_ _); rotate_left; focus (((try dsimp only); repeat (first | omega | simp only [World.size_alloc, World.size_setCell, World.size_drew] | (with_reducible refine le_ext_of ?_) | (with_reducible refine le_ext_add ?_))); done)) | ((with_reducible refine Below.alloc ?_ ?_ _); rotate_left; focus (((try dsimp only); repeat (first | omega | simp only [World.size_alloc, World.size_setCell, World.size_drew] | (with_reducible refine le_ext_of ?_) | (with_reducible refine le_ext_add ?_))); done)) | ((with_reducible refine Below.setCell ?_ ?_ _); rotate_left; focus (((try dsimp only); repeat (first | omega | simp only [World.size_alloc, World.size_setCell, World.size_drew] | (with_reducible refine le_ext_of ?_) | (with_reducible refine le_ext_add ?_))); done)) | (with_reducible refine Below.drew ?_)))
  have kR : Blk W w.heap.size 29 #[.int .i64 0, .int .i64 0, .slice none 0 0, .int .i64 0, .slice none 0 0, .int .i64 0, .int .i64 0, .int .i64 0, .int .i64 0] := by rw [← hW]; exact Blk.new rfl
  have HB := Lib.hid hB
  have KR := Lib.hid kR
  clear hW hB kR
  go_wp2_with (first
    | (go_at_call 48; refine (To_any _ _ _).mono ?_; rintro e w1 ⟨rfl, y, hw1⟩; have KR1 := Lib.hid (show Blk w1 w.heap.size 29 _ by rw [hw1]; exact KR.out.ext y); have HB1 := Lib.hid (show Below w.heap.size w w1 by rw [hw1]; exact HB.out.trans ((below_ext _ y).mono HB.out.size)); clear KR HB hw1)
    | (go_at_call 118; refine (bookT_any _ _ _ _).mono ?_; rintro e w2 ⟨gn, gt, he, hgg, k1, k2, y2, hw2⟩; have KR2 := Lib.hid (show Blk w2 w.heap.size 29 _ by rw [hw2]; exact KR1.out.ext y2); have HB2 := Lib.hid (show Below w.heap.size w w2 by rw [hw2]; exact HB1.out.trans ((below_ext _ y2).mono HB1.out.size)); have hz1 := HB1.out.size; have KN := Lib.hid k1; have KT := Lib.hid k2; clear k1 k2 hw2 KR1 HB1; unfold tv at he; dsimp only [bookT, netT, lowsT, tpT, List.length_cons, List.length_nil] at he; subst he; have kR := KR2.out; (have r0 := Blk.cell kR 0; have r1 := Blk.cell kR 1; have r2 := Blk.cell kR 2; have r3 := Blk.cell kR 3; have r4 := Blk.cell kR 4; have r5 := Blk.cell kR 5; have r6 := Blk.cell kR 6; have r7 := Blk.cell kR 7; have r8 := Blk.cell kR 8; simp only [List.size_toArray, List.length_cons, List.length_nil, Nat.reduceAdd, Nat.reduceLT, getElem?_pos, List.getElem_toArray, List.getElem_cons_zero, List.getElem_cons_succ] at r0 r1 r2 r3 r4 r5 r6 r7 r8); (have f0 := Blk.frozen kR 0; have f1 := Blk.frozen kR 1; have f2 := Blk.frozen kR 2; have f3 := Blk.frozen kR 3; have f4 := Blk.frozen kR 4; have f5 := Blk.frozen kR 5; have f6 := Blk.frozen kR 6; have f7 := Blk.frozen kR 7; have f8 := Blk.frozen kR 8); have lR := kR.lt; clear kR))
  have hne1 : gn ≠ w.heap.size := fun e => by subst e; have h1 := KR2.out; have h2 := KN.out; unfold Blk at h1 h2; rw [h1] at h2; simp [noteCs] at h2
  have hne2 : gt ≠ w.heap.size := fun e => by subst e; have h1 := KR2.out; have h2 := KT.out; unfold Blk at h1 h2; rw [h1] at h2; simp [lowCs] at h2
  have kE := KR2.out.set9T (.int .i64 100) (.int .i64 110) (.slice (some ⟨gn, 0, none⟩) 5 5) (.int .i64 21) (.slice (some ⟨gt, 0, none⟩) 3 3) (.int .i64 34) (.int .i64 40) (.int .i64 2) (.int .i64 6)
  have hE := bel_set9T (g := w.heap.size) HB2.out (by omega) (.int .i64 100) (.int .i64 110) (.slice (some ⟨gn, 0, none⟩) 5 5) (.int .i64 21) (.slice (some ⟨gt, 0, none⟩) 3 3) (.int .i64 34) (.int .i64 40) (.int .i64 2) (.int .i64 6)
  have kN := blk_set9T (g := w.heap.size) KN.out hne1 (.int .i64 100) (.int .i64 110) (.slice (some ⟨gn, 0, none⟩) 5 5) (.int .i64 21) (.slice (some ⟨gt, 0, none⟩) 3 3) (.int .i64 34) (.int .i64 40) (.int .i64 2) (.int .i64 6)
  have kT := blk_set9T (g := w.heap.size) KT.out hne2 (.int .i64 100) (.int .i64 110) (.slice (some ⟨gn, 0, none⟩) 5 5) (.int .i64 21) (.slice (some ⟨gt, 0, none⟩) 3 3) (.int .i64 34) (.int .i64 40) (.int .i64 2) (.int .i64 6)
  generalize hWW : World.setCell _ _ _ = WW at kE hE kN kT ⊢
  clear hWW
  have HE2 := Lib.hid hE
  have KN3 := Lib.hid kN
  have KT3 := Lib.hid kT
  (have e0 := Blk.cell kE 0; have e1 := Blk.cell kE 1; have e2 := Blk.cell kE 2; have e3 := Blk.cell kE 3; have e4 := Blk.cell kE 4; have e5 := Blk.cell kE 5; have e6 := Blk.cell kE 6; have e7 := Blk.cell kE 7; have e8 := Blk.cell kE 8; simp only [List.size_toArray, List.length_cons, List.length_nil, Nat.reduceAdd, Nat.reduceLT, getElem?_pos, List.getElem_toArray, List.getElem_cons_zero, List.getElem_cons_succ] at e0 e1 e2 e3 e4 e5 e6 e7 e8)
  have lE := kE.lt
  clear hE kE kN kT
  refine bodyPost_ret (v := .agg #[.int .i64 100, .int .i64 110, .slice (some ⟨gn, 0, none⟩) 5 5, .int .i64 21, .slice (some ⟨gt, 0, none⟩) 3 3, .int .i64 34, .int .i64 40, .int .i64 2, .int .i64 6]) (by simp [results, Tryz.results72, go_sem, e0, e1, e2, e3, e4, e5, e6, e7, e8, lE]) rfl ⟨gn, gt, rfl, ⟨by omega, by omega⟩, KN3.out, KT3.out, ext_of HE2.out⟩
end Go.Proofs.YtcaeohgbgeadaaaGreatDoor

