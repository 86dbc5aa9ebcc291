/- For the laws of package tide: steps of their drawn regions. -/
import Derived.Test.YtcaeohgbgeadaaaGreatDoorQOf
import Derived.Test.YtcaeohgbgeadaaaGreatDoorQFs
import Derived.Deep.MidRow
set_option linter.unusedSimpArgs false
set_option linter.unusedVariables false
namespace Go.Proofs.YtcaeohgbgeadaaaGreatDoor
open Go Go.RowKit Go.Shelf
section
variable {o : Oper} {w : World} {g t : Nat} (ρ : Operand → Value)
theorem run_tbook {b : Tk} {p : Tp} (hop : o.op = .load 29 (.tmp t)) (hs : ρ (.tmp t) = .pointer (some ⟨g, 0, none⟩)) (kb : Blk w g 29 (tcs b p)) : (execOp ρ o).run Tryz.prog w = .ok (.value (tv b p)) w := by
  unfold tcs at kb
  obtain ⟨d0, d1, d2, d3, d4, d5, d6, d7, d8⟩ := Blk.c9 kb
  unfold execOp tv; simp [hop, hs, go_sem, d0, d1, d2, d3, d4, d5, d6, d7, d8]
theorem run_ext0 {x y : Value} (hop : o.op = .extract (.tmp t) 0) (hs : ρ (.tmp t) = .tuple #[x, y]) : (execOp ρ o).run Tryz.prog w = .ok (.value x) w := by
  unfold execOp; simp [hop, hs, go_sem]
theorem run_ext1 {x y : Value} (hop : o.op = .extract (.tmp t) 1) (hs : ρ (.tmp t) = .tuple #[x, y]) : (execOp ρ o).run Tryz.prog w = .ok (.value y) w := by
  unfold execOp; simp [hop, hs, go_sem]
end
theorem args4 {a : Act} {s t u x : Nat} {v1 v2 v3 v4 : Value} (h1 : a.tmps.getD s undef = v1) (h2 : a.tmps.getD t undef = v2) (h3 : a.tmps.getD u undef = v3) (h4 : a.tmps.getD x undef = v4) : (#[Operand.tmp s, Operand.tmp t, Operand.tmp u, Operand.tmp x]).map a.eval = #[v1, v2, v3, v4] := by
  simp only [List.map_toArray, List.map_cons, List.map_nil, Act.eval, h1, h2, h3, h4]
theorem args_tc {a : Act} {s : Nat} {v1 c : Value} (h1 : a.tmps.getD s undef = v1) : (#[Operand.tmp s, Operand.const c]).map a.eval = #[v1, c] := by
  simp only [List.map_toArray, List.map_cons, List.map_nil, Act.eval, h1]
theorem run_aSpan {o : Oper} {w : World} (ρ : Operand → Value) (hop : o.op = .alloc 23) :
    (execOp ρ o).run Tryz.prog w = .ok (.value (.pointer (some ⟨w.heap.size, 0, none⟩))) (w.alloc (.cells #[.int .i64 0, .int .i64 0] 23)) := by
  unfold execOp
  simp [hop, go_sem]
theorem st_store_span {ops : Array Oper} {Q : Exit → Act → World → Prop} {i : Nat} {o : Oper} {K : Act → World → Prop} {a : Act} {w : World} {s t g : Nat} {x y : Int} {v0 v1 : Value} (h : ops[i]? = some o) (hw : Region.wanted o (yielded ops a.tmps) = true) (hop : o.op = .store 23 (.tmp s) (.tmp t)) (hd : o.dst = none)
    (hs : a.tmps.getD s undef = .pointer (some ⟨g, 0, none⟩)) (ht : a.tmps.getD t undef = .agg #[.int .i64 x, .int .i64 y]) (k : Blk w g 23 #[v0, v1])
    (hK : ∀ w', (∀ B, B ≤ g → Below B w w') → (∀ j, j ≠ g → w'.heap[j]? = w.heap[j]?) → Blk w' g 23 #[.int .i64 x, .int .i64 y] → K a w') : wpOp Tryz.prog ops Q i K a w := by
  refine wpOp_want h hw ?_
  refine wp_store_mid 23 _ _ hop g 0 _ hs ht ?_ (by kernel_rfl) (by kernel_rfl) ?_
  · intro j hj
    rw [Nat.zero_add, k.cell, k.frozen]
    have hj' : j < (#[v0, v1] : Array Value).size := hj
    exact ⟨by rw [Array.getElem?_eq_getElem hj']; rfl, rfl⟩
  · rw [hd]
    refine hK ((w.setCell ⟨g, 0, none⟩ (.int .i64 x)).setCell ⟨g, 1, none⟩ (.int .i64 y)) (fun B hB => ((Below.refl _ _).setCell hB _).setCell hB _) (fun j hj => ?_) ?_
    · rw [Below.heap_setCell _ _ _ _ (by dsimp only; omega), Below.heap_setCell _ _ _ _ (by dsimp only; omega)]
    · simpa using (k.set 0 (.int .i64 x)).set 1 (.int .i64 y)
end Go.Proofs.YtcaeohgbgeadaaaGreatDoor

