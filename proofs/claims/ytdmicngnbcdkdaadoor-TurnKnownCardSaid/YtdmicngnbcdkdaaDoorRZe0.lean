/- Steps at an abstract frame: what a book's parts are. -/
import Derived.Test.YtdmicngnbcdkdaaDoorRYv
import Derived.Test.YtdmicngnbcdkdaaDoorRFl
set_option linter.unusedSimpArgs false
set_option linter.unusedVariables false
namespace Go.Proofs.YtdmicngnbcdkdaaDoor
open Go Go.RowKit

theorem args3' {a : Act} {s t u : Nat} {x y z : Value} (h1 : a.tmps.getD s undef = x) (h2 : a.tmps.getD t undef = y) (h3 : a.tmps.getD u undef = z) : (#[Operand.tmp s, Operand.tmp t, Operand.tmp u]).map a.eval = #[x, y, z] := by
  simp only [List.map_toArray, List.map_cons, List.map_nil, Act.eval, h1, h2, h3]
theorem run_book {o : Oper} {w : World} {g s : Nat} {x y z u : Value} (ρ : Operand → Value) (hop : o.op = .load 26 (.tmp s)) (hs : ρ (.tmp s) = .pointer (some ⟨g, 0, none⟩)) (k : Blk w g 26 #[x, y, z, u]) :
    (execOp ρ o).run Tryd.prog w = .ok (.value (.agg #[x, y, z, u])) w := by
  have c0 := k.cell 0
  have c1 := k.cell 1
  have c2 := k.cell 2
  have c3 := k.cell 3
  simp only [List.size_toArray, List.length_cons, List.length_nil, Nat.reduceAdd, Nat.reduceLT, getElem?_pos, List.getElem_toArray, List.getElem_cons_zero, List.getElem_cons_succ] at c0 c1 c2 c3
  unfold execOp
  simp [hop, hs, go_sem, c0, c1, c2, c3]
theorem run_num {o : Oper} {w : World} {g j s : Nat} {x : Int} (ρ : Operand → Value) (hop : o.op = .load 3 (.tmp s)) (hs : ρ (.tmp s) = .pointer (some ⟨g, j, none⟩)) (k : w.cell? ⟨g, j, none⟩ = some (.int .i64 x)) :
    (execOp ρ o).run Tryd.prog w = .ok (.value (.int .i64 x)) w := by
  unfold execOp
  simp [hop, hs, go_sem, k]
theorem run_part {o : Oper} {w : World} {s i : Nat} {x y v : Value} (ρ : Operand → Value) (hop : o.op = .extract (.tmp s) i) (hs : ρ (.tmp s) = .tuple #[x, y]) (hv : #[x, y][i]? = some v) :
    (execOp ρ o).run Tryd.prog w = .ok (.value v) w := by
  unfold execOp
  simp [hop, hs, go_sem, hv]
theorem run_to {o : Oper} {w : World} {s : Nat} {v : Value} (ρ : Operand → Value) (hop : o.op = .assign (.tmp s)) (hs : ρ (.tmp s) = v) :
    (execOp ρ o).run Tryd.prog w = .ok (.value v) w := by
  unfold execOp
  simp [hop, hs, go_sem]
theorem run_bounds {o : Oper} {w : World} {g s : Nat} (ρ : Operand → Value) (hop : o.op = .fieldAddr 26 (.tmp s) 1) (hs : ρ (.tmp s) = .pointer (some ⟨g, 0, none⟩)) (hl : g < w.heap.size) :
    (execOp ρ o).run Tryd.prog w = .ok (.value (.pointer (some ⟨g, 1, none⟩))) w := by
  unfold execOp
  simp [hop, hs, go_sem, hl]
theorem run_shots {o : Oper} {w : World} {g s : Nat} (ρ : Operand → Value) (hop : o.op = .fieldAddr 26 (.tmp s) 3) (hs : ρ (.tmp s) = .pointer (some ⟨g, 0, none⟩)) (hl : g < w.heap.size) :
    (execOp ρ o).run Tryd.prog w = .ok (.value (.pointer (some ⟨g, 3, none⟩))) w := by
  unfold execOp
  simp [hop, hs, go_sem, hl]
theorem run_low {o : Oper} {w : World} {g j s : Nat} (ρ : Operand → Value) (hop : o.op = .fieldAddr 33 (.tmp s) 0) (hs : ρ (.tmp s) = .pointer (some ⟨g, j, none⟩)) (hl : g < w.heap.size) :
    (execOp ρ o).run Tryd.prog w = .ok (.value (.pointer (some ⟨g, j, none⟩))) w := by
  unfold execOp
  simp [hop, hs, go_sem, hl]
theorem run_high {o : Oper} {w : World} {g j s : Nat} (ρ : Operand → Value) (hop : o.op = .fieldAddr 33 (.tmp s) 1) (hs : ρ (.tmp s) = .pointer (some ⟨g, j, none⟩)) (hl : g < w.heap.size) :
    (execOp ρ o).run Tryd.prog w = .ok (.value (.pointer (some ⟨g, j + 1, none⟩))) w := by
  unfold execOp
  simp [hop, hs, go_sem, hl]
theorem run_slice {o : Oper} {w : World} {g j s : Nat} {p : Option Addr} {n c : Nat} (ρ : Operand → Value) (hop : o.op = .load 22 (.tmp s)) (hs : ρ (.tmp s) = .pointer (some ⟨g, j, none⟩)) (k : w.cell? ⟨g, j, none⟩ = some (.slice p n c)) :
    (execOp ρ o).run Tryd.prog w = .ok (.value (.slice p n c)) w := by
  unfold execOp
  simp [hop, hs, go_sem, k]
theorem run_at {o : Oper} {w : World} {g j s u n c k : Nat} (ρ : Operand → Value) (hop : o.op = .indexAddr 22 (.tmp s) (.tmp u)) (h1 : ρ (.tmp s) = .slice (some ⟨g, j, none⟩) n c) (h2 : ρ (.tmp u) = .int .i64 k) (hk : k < n) (hl : g < w.heap.size) :
    (execOp ρ o).run Tryd.prog w = .ok (.value (.pointer (some ⟨g, j + k * 2, none⟩))) w := by
  have k0 : (0 : Int) ≤ (k : Int) := by omega
  have k1 : (k : Int) < (n : Int) := by omega
  unfold execOp
  simp [hop, h1, h2, go_sem, hl, k0, k1]
end Go.Proofs.YtdmicngnbcdkdaaDoor

