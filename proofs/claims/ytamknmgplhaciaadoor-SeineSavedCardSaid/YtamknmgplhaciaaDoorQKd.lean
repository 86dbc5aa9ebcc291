/- The walk of SeineSaved. Written by gen_saved.py. -/
/- The walk of SeineSaved, a full book. Written by gen_saved.py. -/
import Derived.Test.YtamknmgplhaciaaDoorQKc
import Derived.Test.YtamknmgplhaciaaDoorQPg
import Derived.Test.YtamknmgplhaciaaDoorQPe
import Derived.RegionTactic
set_option linter.unusedSimpArgs false
set_option linter.unusedVariables false
namespace Go.Proofs.YtamknmgplhaciaaDoor
open Go Go.RowKit Go.Shelf
attribute [local go_sem] Oper.semAt_some frozen_alloc_lt
theorem args3c {a : Act} {v u x : Value} {s t : Nat} (h1 : a.tmps.getD s undef = u) (h2 : a.tmps.getD t undef = x) : (#[Operand.const v, Operand.tmp s, Operand.tmp t]).map a.eval = #[v, u, x] := by
  simp only [List.map_toArray, List.map_cons, List.map_nil, Act.eval, h1, h2]
theorem const1c {a : Act} (v : Value) : (#[Operand.const v]).map a.eval = #[v] := by
  simp only [List.map_toArray, List.map_cons, List.map_nil, Act.eval]
theorem args1k {a : Act} {v u : Value} {s : Nat} (h1 : a.tmps.getD s undef = v) : (#[Operand.tmp s, Operand.const u]).map a.eval = #[v, u] := by
  simp only [List.map_toArray, List.map_cons, List.map_nil, Act.eval, h1]
def svR (B W0 : Nat) (b : Sn) (p : Option Addr) (c : Nat) (la k1 k2 code : Int) (f : Bool) (i : Nat) (v : Value) (w : World) : Prop :=
  match i with
  | 0 => v = bV b p c
  | 1 => v = .int .i64 la
  | 2 => v = .agg #[.int .i64 0, .int .i64 0]
  | 3 => v = .agg (ntC (mendN la))
  | 4 => ∃ g c', v = bkV (withS b (mendN la)) g c' ∧ OwnNs w B (.slice (some ⟨g, 0, none⟩) (withS b (mendN la)).ns.length c') (withS b (mendN la)).ns
  | 5 => v = .tuple #[.agg #[.int .i64 k1, .int .i64 k2], .int .i64 code]
  | 6 => v = .tuple #[.agg #[.int .i64 k1, .int .i64 k2], .int .i64 code]
  | 7 => v = .agg #[.int .i64 k1, .int .i64 k2]
  | 8 => v = .int .i64 code
  | 9 => ∃ g : Nat, v = .pointer (some ⟨g, 0, none⟩) ∧ W0 ≤ g ∧ (f = false → Blk w g 23 #[.int .i64 0, .int .i64 0]) ∧ (f = true → Blk w g 23 #[.int .i64 k1, .int .i64 k2])
  | _ => True
theorem svR_kept (B W0 : Nat) (b : Sn) (p : Option Addr) (c : Nat) (la k1 k2 code : Int) : ∀ f i, i < 11 → i ≠ 10 → ∀ (v : Value) (w w' : World), svR B W0 b p c la k1 k2 code f i v w → Below w.heap.size w w' → svR B W0 b p c la k1 k2 code f i v w' := by
  intro f i hi h10 v w w' h hb
  match i, hi with
  | 0, _ => exact h
  | 1, _ => exact h
  | 2, _ => exact h
  | 3, _ => exact h
  | 4, _ => obtain ⟨g, c', h1, h2⟩ := h; exact ⟨g, c', h1, h2.below hb⟩
  | 5, _ => exact h
  | 6, _ => exact h
  | 7, _ => exact h
  | 8, _ => exact h
  | 9, _ => obtain ⟨g, h1, h2, h3, h4⟩ := h; exact ⟨g, h1, h2, fun e => (h3 e).bel hb, fun e => (h4 e).bel hb⟩
  | 10, _ => exact absurd rfl h10
  | k + 11, hk => omega
theorem run_aSpan {o : Oper} {w : World} (ρ : Operand → Value) (hop : o.op = .alloc 23) :
    (execOp ρ o).run Tryd.prog w = .ok (.value (.pointer (some ⟨w.heap.size, 0, none⟩))) (w.alloc (.cells #[.int .i64 0, .int .i64 0] 23)) := by
  unfold execOp
  simp [hop, go_sem]
theorem st_store_span {ops : Array Oper} {Q : Exit → Act → World → Prop} {i : Nat} {o : Oper} {K : Act → World → Prop} {a : Act} {w : World} {s t g : Nat} {x y : Int} {v0 v1 : Value} (h : ops[i]? = some o) (hw : Region.wanted o (yielded ops a.tmps) = true) (hop : o.op = .store 23 (.tmp s) (.tmp t)) (hd : o.dst = none)
    (hs : a.tmps.getD s undef = .pointer (some ⟨g, 0, none⟩)) (ht : a.tmps.getD t undef = .agg #[.int .i64 x, .int .i64 y]) (k : Blk w g 23 #[v0, v1])
    (hK : ∀ w', (∀ B, B ≤ g → Below B w w') → (∀ j, j ≠ g → w'.heap[j]? = w.heap[j]?) → Blk w' g 23 #[.int .i64 x, .int .i64 y] → K a w') : wpOp Tryd.prog ops Q i K a w := by
  refine wpOp_want h hw ?_
  refine wp_store_mid 23 _ _ hop g 0 _ hs ht ?_ (by kernel_rfl) (by kernel_rfl) ?_
  · intro j hj
    rw [Nat.zero_add, k.cell, k.frozen]
    have hj' : j < (#[v0, v1] : Array Value).size := hj
    exact ⟨by rw [Array.getElem?_eq_getElem hj']; rfl, rfl⟩
  · rw [hd]
    refine hK ((w.setCell ⟨g, 0, none⟩ (.int .i64 x)).setCell ⟨g, 1, none⟩ (.int .i64 y)) (fun B hB => ((Below.refl _ _).setCell hB _).setCell hB _) (fun j hj => ?_) ?_
    · rw [Below.heap_setCell _ _ _ _ (by dsimp only; omega), Below.heap_setCell _ _ _ _ (by dsimp only; omega)]
    · simpa using (k.set 0 (.int .i64 x)).set 1 (.int .i64 y)
/-- A list of notes does not lie where a span lies. -/
theorem OwnNs.far {w : World} {B g n cap ba : Nat} {l : List Nt} {cs : Array Value} (h : OwnNs w B (.slice (some ⟨g, 0, none⟩) n cap) l) (k : Blk w ba 23 cs) : g ≠ ba := by
  obtain ⟨cur, h1, -, -⟩ := own_cells h
  rintro rfl
  unfold Blk at h1 k
  rw [h1] at k
  simp at k
set_option maxRecDepth 100000 in
set_option maxHeartbeats 4000000 in
theorem SeineSaved_bad (b : Sn) (p : Option Addr) (c : Nat) (w : World) (hk : SBk w b p) (hv : snB b = false) :
    Calls Tryd.prog 10 #[bV b p c] w fun e w' => e = .returned (.bool true) ∧ ∃ x, w' = ext w x := by
  have HK := Lib.hid hk
  clear hk
  go_enter Tryd.func10, Tryd.ntmps10
  go_wp2_with (first
    | (go_at_call 34; refine (sound_no b p c _ (HK.out.bel (by (repeat (first | (with_reducible exact Below.refl _ _) | (with_reducible assumption) | ((with_reducible refine below_ext_trans ?_ ?_ _); rotate_left; focus (((try dsimp only); repeat (first | omega | simp only [World.size_alloc, World.size_setCell, World.size_drew] | (with_reducible refine le_ext_of ?_) | (with_reducible refine le_ext_add ?_))); done)) | ((with_reducible refine Below.alloc ?_ ?_ _); rotate_left; focus (((try dsimp only); repeat (first | omega | simp only [World.size_alloc, World.size_setCell, World.size_drew] | (with_reducible refine le_ext_of ?_) | (with_reducible refine le_ext_add ?_))); done)) | ((with_reducible refine Below.setCell ?_ ?_ _); rotate_left; focus (((try dsimp only); repeat (first | omega | simp only [World.size_alloc, World.size_setCell, World.size_drew] | (with_reducible refine le_ext_of ?_) | (with_reducible refine le_ext_add ?_))); done)) | (with_reducible refine Below.drew ?_))))) hv).mono ?_; rintro e w1 ⟨rfl, y, rfl⟩)
    | (go_at_call 24; refine (sounded_any _ (HK.out.mm.below (by (repeat (first | (with_reducible exact Below.refl _ _) | (with_reducible assumption) | ((with_reducible refine below_ext_trans ?_ ?_ _); rotate_left; focus (((try dsimp only); repeat (first | omega | simp only [World.size_alloc, World.size_setCell, World.size_drew] | (with_reducible refine le_ext_of ?_) | (with_reducible refine le_ext_add ?_))); done)) | ((with_reducible refine Below.alloc ?_ ?_ _); rotate_left; focus (((try dsimp only); repeat (first | omega | simp only [World.size_alloc, World.size_setCell, World.size_drew] | (with_reducible refine le_ext_of ?_) | (with_reducible refine le_ext_add ?_))); done)) | ((with_reducible refine Below.setCell ?_ ?_ _); rotate_left; focus (((try dsimp only); repeat (first | omega | simp only [World.size_alloc, World.size_setCell, World.size_drew] | (with_reducible refine le_ext_of ?_) | (with_reducible refine le_ext_add ?_))); done)) | (with_reducible refine Below.drew ?_)))))).mono ?_; rintro e w1 ⟨rfl, y, rfl⟩))
  go_ret
  exact ⟨rfl, by (exact ext_of (by (repeat (first | (with_reducible exact Below.refl _ _) | (with_reducible assumption) | ((with_reducible refine below_ext_trans ?_ ?_ _); rotate_left; focus (((try dsimp only); repeat (first | omega | simp only [World.size_alloc, World.size_setCell, World.size_drew] | (with_reducible refine le_ext_of ?_) | (with_reducible refine le_ext_add ?_))); done)) | ((with_reducible refine Below.alloc ?_ ?_ _); rotate_left; focus (((try dsimp only); repeat (first | omega | simp only [World.size_alloc, World.size_setCell, World.size_drew] | (with_reducible refine le_ext_of ?_) | (with_reducible refine le_ext_add ?_))); done)) | ((with_reducible refine Below.setCell ?_ ?_ _); rotate_left; focus (((try dsimp only); repeat (first | omega | simp only [World.size_alloc, World.size_setCell, World.size_drew] | (with_reducible refine le_ext_of ?_) | (with_reducible refine le_ext_add ?_))); done)) | (with_reducible refine Below.drew ?_)))))⟩
end Go.Proofs.YtamknmgplhaciaaDoor

namespace Go.Proofs.YtamknmgplhaciaaDoor
open Go Go.RowKit Go.Shelf
attribute [local go_sem] Oper.semAt_some frozen_alloc_lt
set_option maxRecDepth 100000 in
set_option maxHeartbeats 4000000 in
theorem SeineSaved_full (b : Sn) (p : Option Addr) (c : Nat) (w : World) (hk : SBk w b p) (hv : snB b = true) (hn : b.ns.length = 8) :
    Calls Tryd.prog 10 #[bV b p c] w fun e w' => e = .returned (.bool true) ∧ ∃ x, w' = ext w x := by
  have HK := Lib.hid hk
  clear hk
  have hd8 : ((b.ns.length : Int) == 8) = true := by simpa using (show (b.ns.length : Int) = 8 by omega)
  clear hn
  go_enter Tryd.func10, Tryd.ntmps10
  go_wp2_with (first
    | (go_at_call 34; refine (sound_yes b p c _ (HK.out.bel (by (repeat (first | (with_reducible exact Below.refl _ _) | (with_reducible assumption) | ((with_reducible refine below_ext_trans ?_ ?_ _); rotate_left; focus (((try dsimp only); repeat (first | omega | simp only [World.size_alloc, World.size_setCell, World.size_drew] | (with_reducible refine le_ext_of ?_) | (with_reducible refine le_ext_add ?_))); done)) | ((with_reducible refine Below.alloc ?_ ?_ _); rotate_left; focus (((try dsimp only); repeat (first | omega | simp only [World.size_alloc, World.size_setCell, World.size_drew] | (with_reducible refine le_ext_of ?_) | (with_reducible refine le_ext_add ?_))); done)) | ((with_reducible refine Below.setCell ?_ ?_ _); rotate_left; focus (((try dsimp only); repeat (first | omega | simp only [World.size_alloc, World.size_setCell, World.size_drew] | (with_reducible refine le_ext_of ?_) | (with_reducible refine le_ext_add ?_))); done)) | (with_reducible refine Below.drew ?_))))) hv).mono ?_; rintro e w1 ⟨rfl, y, rfl⟩)
    | (go_at_call 24; refine (sounded_any _ (HK.out.mm.below (by (repeat (first | (with_reducible exact Below.refl _ _) | (with_reducible assumption) | ((with_reducible refine below_ext_trans ?_ ?_ _); rotate_left; focus (((try dsimp only); repeat (first | omega | simp only [World.size_alloc, World.size_setCell, World.size_drew] | (with_reducible refine le_ext_of ?_) | (with_reducible refine le_ext_add ?_))); done)) | ((with_reducible refine Below.alloc ?_ ?_ _); rotate_left; focus (((try dsimp only); repeat (first | omega | simp only [World.size_alloc, World.size_setCell, World.size_drew] | (with_reducible refine le_ext_of ?_) | (with_reducible refine le_ext_add ?_))); done)) | ((with_reducible refine Below.setCell ?_ ?_ _); rotate_left; focus (((try dsimp only); repeat (first | omega | simp only [World.size_alloc, World.size_setCell, World.size_drew] | (with_reducible refine le_ext_of ?_) | (with_reducible refine le_ext_add ?_))); done)) | (with_reducible refine Below.drew ?_)))))).mono ?_; rintro e w1 ⟨rfl, y, rfl⟩))
  go_ret
  exact ⟨rfl, by (exact ext_of (by (repeat (first | (with_reducible exact Below.refl _ _) | (with_reducible assumption) | ((with_reducible refine below_ext_trans ?_ ?_ _); rotate_left; focus (((try dsimp only); repeat (first | omega | simp only [World.size_alloc, World.size_setCell, World.size_drew] | (with_reducible refine le_ext_of ?_) | (with_reducible refine le_ext_add ?_))); done)) | ((with_reducible refine Below.alloc ?_ ?_ _); rotate_left; focus (((try dsimp only); repeat (first | omega | simp only [World.size_alloc, World.size_setCell, World.size_drew] | (with_reducible refine le_ext_of ?_) | (with_reducible refine le_ext_add ?_))); done)) | ((with_reducible refine Below.setCell ?_ ?_ _); rotate_left; focus (((try dsimp only); repeat (first | omega | simp only [World.size_alloc, World.size_setCell, World.size_drew] | (with_reducible refine le_ext_of ?_) | (with_reducible refine le_ext_add ?_))); done)) | (with_reducible refine Below.drew ?_)))))⟩
end Go.Proofs.YtamknmgplhaciaaDoor

