/- A region that is worked through in its written order, at an abstract frame: each of its first n operations leaves a value of which something is known; all that stands before it may be used. Behind it the frame is known only through the relations. (For frames of hundreds of slots: terms stay small.) -/
/- Further single steps at an abstract frame: a number or an error compared by ==; the length of a slice. -/
/- What the operations of TurnKnown's last region leave. -/
import Derived.Test.YtdmicngnbcdkdaaDoorRFl
import Derived.Test.YtdmicngnbcdkdaaDoorRVk
import Derived.Test.YtdmicngnbcdkdaaDoorRBx
set_option linter.unusedSimpArgs false
set_option linter.unusedVariables false
namespace Go.Proofs.YtdmicngnbcdkdaaDoor
open Go Go.RowKit

section
variable {P : Program} {ops : Array Oper}
/-- The first n operations have slots of their own, below N. -/
def rowB (ops : Array Oper) (n N : Nat) : Bool :=
  decide (n ≤ ops.size) && (List.range n).all fun i => match (ops[i]?).bind (·.dst) with | some d => decide (d < N) && (List.range n).all (fun j => i == j || dstOf ops j != d) | none => false

theorem wpOps_of_row {n N : Nat} {a0 : Act} {w0 : World} {R : Nat → Value → World → Prop} {Q : Exit → Act → World → Prop} {tl : List Nat}
    (hB : rowB ops n N = true)
    (hR : ∀ i, i < n → ∀ v w w', R i v w → Below w.heap.size w w' → R i v w')
    (hstep : ∀ i, i < n → ∀ (a : Act) (w : World), a.tmps.size = N → a.defers = a0.defers → (∀ s, freeB ops n s = true → a.tmps.getD s undef = a0.tmps.getD s undef) →
      (∀ j, j < i → R j (a.tmps.getD (dstOf ops j) undef) w) → Below w0.heap.size w0 w →
      ∀ K : Act → World → Prop, (∀ v w', R i v w' → Below w.heap.size w w' → K (a.put (some (dstOf ops i)) v) w') → wpOp P ops Q i K a w)
    (htail : ∀ (a : Act) (w : World), a.tmps.size = N → a.defers = a0.defers → (∀ s, freeB ops n s = true → a.tmps.getD s undef = a0.tmps.getD s undef) →
      (∀ i, i < n → R i (a.tmps.getD (dstOf ops i) undef) w) → Below w0.heap.size w0 w → wpOps P ops Q tl a w) :
    ∀ (k i : Nat) (a : Act) (w : World), i + k = n → a.tmps.size = N → a.defers = a0.defers → (∀ s, freeB ops n s = true → a.tmps.getD s undef = a0.tmps.getD s undef) →
      (∀ j, j < i → R j (a.tmps.getD (dstOf ops j) undef) w) → Below w0.heap.size w0 w → wpOps P ops Q (List.range' i k ++ tl) a w := by
  simp only [rowB, Bool.and_eq_true, decide_eq_true_eq] at hB
  obtain ⟨hn, hdst⟩ := hB
  have hd : ∀ i, i < n → dstOf ops i < N ∧ ∀ j, j < n → i ≠ j → dstOf ops j ≠ dstOf ops i := by
    intro i hi
    have h1 := List.all_eq_true.1 hdst i (List.mem_range.2 hi)
    have hio : i < ops.size := by omega
    have ho : ops[i]? = some ops[i] := Array.getElem?_eq_getElem hio
    cases hd : ops[i].dst with
    | none => simp [ho, hd] at h1
    | some d =>
      have e : dstOf ops i = d := by simp [dstOf, ho, hd]
      simp only [ho, Option.bind_some, hd, Bool.and_eq_true, decide_eq_true_eq] at h1
      refine ⟨by rw [e]; exact h1.1, fun j hj hij => ?_⟩
      have h2 := List.all_eq_true.1 h1.2 j (List.mem_range.2 hj)
      simp only [Bool.or_eq_true, beq_iff_eq, bne_iff_ne] at h2
      rcases h2 with h2 | h2
      · exact absurd h2 hij
      · rw [e]; exact h2
  intro k
  induction k with
  | zero =>
    intro i a w hik hs hf ho hr hb
    obtain rfl : i = n := by omega
    exact htail a w hs hf ho hr hb
  | succ k ih =>
    intro i a w hik hs hf ho hr hb
    have hi : i < n := by omega
    obtain ⟨hdN, hne⟩ := hd i hi
    rw [List.range'_succ, List.cons_append, wpOps_cons]
    refine hstep i hi a w hs hf ho hr hb _ (fun v w' hv hb2 => ?_)
    refine ih (i + 1) _ _ (by omega) (by simp [Act.put, hs]) (by simpa [Act.put] using hf) (fun s hs' => ?_) (fun j hj => ?_) (hb.trans (hb2.mono hb.size))
    · have hsi : dstOf ops i ≠ s := freeB_iff.1 hs' i hi
      rw [← ho s hs']
      simp [Act.put, Array.getElem?_setIfInBounds_ne hsi]
    · by_cases hij : i = j
      · subst hij
        have : (a.put (some (dstOf ops i)) v).tmps.getD (dstOf ops i) undef = v := by
          have : dstOf ops i < a.tmps.size := by rw [hs]; exact hdN
          simp [Act.put, this]
        rw [this]
        exact hv
      · have hdj := hne j (by omega) hij
        have : (a.put (some (dstOf ops i)) v).tmps.getD (dstOf ops j) undef = a.tmps.getD (dstOf ops j) undef := by
          simp [Act.put, Array.getElem?_setIfInBounds_ne (Ne.symm hdj)]
        rw [this]
        exact hR _ (by omega) _ _ _ (hr j (by omega)) hb2
end

/-- The law. -/
theorem wp_region_row {P : Program} {id : Nat} {Q : Exit → Act → World → Prop} {a0 : Act} {w0 : World} {l : List Oper} (n N : Nat) (R : Nat → Value → World → Prop) (hB : rowB l.toArray n N = true) (hN : a0.tmps.size = N)
    (hR : ∀ i, i < n → ∀ v w w', R i v w → Below w.heap.size w w' → R i v w')
    (hstep : ∀ i, i < n → ∀ (a : Act) (w : World), a.tmps.size = N → a.defers = a0.defers → (∀ s, freeB l.toArray n s = true → a.tmps.getD s undef = a0.tmps.getD s undef) →
      (∀ j, j < i → R j (a.tmps.getD (dstOf l.toArray j) undef) w) → Below w0.heap.size w0 w →
      ∀ K : Act → World → Prop, (∀ v w', R i v w' → Below w.heap.size w w' → K (a.put (some (dstOf l.toArray i)) v) w') → wpOp P l.toArray Q i K a w)
    (htail : ∀ (a : Act) (w : World), a.tmps.size = N → a.defers = a0.defers → (∀ s, freeB l.toArray n s = true → a.tmps.getD s undef = a0.tmps.getD s undef) →
      (∀ i, i < n → R i (a.tmps.getD (dstOf l.toArray i) undef) w) → Below w0.heap.size w0 w → wpList P l.toArray Q (l.drop n) a w) :
    (Code.region id l.toArray false).wp P Q a0 w0 := by
  have hn : n ≤ l.length := by
    have := hB
    simp only [rowB, Bool.and_eq_true, decide_eq_true_eq] at this
    simpa using this.1
  refine wp_region ?_
  have e : List.range l.toArray.size = List.range' 0 n ++ List.range' n (l.toArray.size - n) := by
    have h1 : l.toArray.size = n + (l.toArray.size - n) := by simp; omega
    rw [List.range_eq_range', h1, ← List.range'_append_1]
    simp
  rw [e]
  refine wpOps_of_row hB hR hstep (fun a w h1 h2 h3 h4 h5 => ?_) n 0 a0 w0 (by omega) hN rfl (fun _ _ => rfl) (fun j hj => by omega) (Below.refl _ _)
  have hl : l.toArray.size - n = (l.drop n).length := by simp
  rw [hl, wpOps_eq_wpList (l.drop n) n (by simp [List.getElem?_drop])]
  exact htail a w h1 h2 h3 h4 h5
end Go.Proofs.YtdmicngnbcdkdaaDoor

namespace Go.Proofs.YtdmicngnbcdkdaaDoor
open Go Go.RowKit

section
variable {P : Program} {ops : Array Oper} {Q : Exit → Act → World → Prop} {i : Nat} {o : Oper} {K : Act → World → Prop} {a : Act} {w : World}
theorem run_eq (ρ : Operand → Value) {s : Nat} {t t2 : TypeId} {m n : Int} (hop : o.op = .binOp .eql t (.tmp s) (.const (.int .i64 n)) t2) (hs : ρ (.tmp s) = .int .i64 m) (hn : ρ (.const (.int .i64 n)) = .int .i64 n) : (execOp ρ o).run P w = .ok (.value (.bool (m == n))) w := by
  unfold execOp
  simp [hop, hs, hn, go_sem]
theorem st_eq {s : Nat} {t t2 : TypeId} {m n : Int} (h : ops[i]? = some o) (hop : o.op = .binOp .eql t (.tmp s) (.const (.int .i64 n)) t2) (hw : Region.wanted o (yielded ops a.tmps) = true) (hs : a.tmps.getD s undef = .int .i64 m) (hK : K (a.put o.dst (.bool (m == n))) w) : wpOp P ops Q i K a w :=
  st_val h hw (run_eq _ hop hs rfl) hK
theorem st_assign {s : Nat} {v : Value} (h : ops[i]? = some o) (hop : o.op = .assign (.tmp s)) (hw : Region.wanted o (yielded ops a.tmps) = true) (hs : a.tmps.getD s undef = v) (hK : K (a.put o.dst v) w) : wpOp P ops Q i K a w := by
  refine st_val h hw ?_ hK
  unfold execOp
  simp only [hop, Act.eval, hs, Sem.run_pure]
theorem run_len_ints {o : Oper} {w : World} {s : Nat} {p : Option Addr} {n c : Nat} (ρ : Operand → Value) (hop : o.op = .call { callee := .builtin .len, args := #[.tmp s], argTypes := #[28] }) (hs : ρ (.tmp s) = .slice p n c) :
    (execOp ρ o).run Tryd.prog w = .ok (.value (.int .i64 n)) w := by
  unfold execOp
  simp [hop, hs, go_sem]
theorem run_bs_span {o : Oper} {w : World} {s : Nat} {x y : Int} (ρ : Operand → Value) (hop : o.op = .buildSlice 22 1 #[(0, .tmp s)]) (h1 : ρ (.tmp s) = .agg #[.int .i64 x, .int .i64 y]) :
    (execOp ρ o).run Tryd.prog w = .ok (.value (.slice (some ⟨w.heap.size, 0, none⟩) 1 1)) (w.alloc (.cells #[.int .i64 x, .int .i64 y] 33)) := by
  unfold execOp
  simp [hop, h1, go_sem]
end
end Go.Proofs.YtdmicngnbcdkdaaDoor

namespace Go.Proofs.YtdmicngnbcdkdaaDoor
open Go Go.RowKit

def lastR (p50 p51 p52 p53 p54 p55 p60 : Option Addr) (c50 c51 c52 c53 c54 c55 c60 : Nat) (i : Nat) (v : Value) (w : World) : Prop :=
  match i with
  | 0 => v = .int .i64 0
  | 1 => v = .bool true
  | 2 => v = .bool true
  | 3 => v = .slice p50 2 c50
  | 4 => ∃ g, v = .slice (some ⟨g, 0, none⟩) 2 2 ∧ Blk w g 3 #[.int .i64 0, .int .i64 1]
  | 5 => v = .bool true
  | 6 => v = .bool true
  | 7 => v = .bool true
  | 8 => v = .int .i64 0
  | 9 => v = .bool true
  | 10 => v = .bool true
  | 11 => v = .bool true
  | 12 => v = .slice p51 1 c51
  | 13 => ∃ g, v = .slice (some ⟨g, 0, none⟩) 1 1 ∧ Blk w g 3 #[.int .i64 2]
  | 14 => v = .bool true
  | 15 => v = .bool true
  | 16 => v = .bool true
  | 17 => v = .int .i64 0
  | 18 => v = .bool true
  | 19 => v = .bool true
  | 20 => v = .bool true
  | 21 => v = .slice p52 1 c52
  | 22 => ∃ g, v = .slice (some ⟨g, 0, none⟩) 1 1 ∧ Blk w g 3 #[.int .i64 0]
  | 23 => v = .bool true
  | 24 => v = .bool true
  | 25 => v = .bool true
  | 26 => v = .int .i64 0
  | 27 => v = .bool true
  | 28 => v = .bool true
  | 29 => v = .bool true
  | 30 => v = .slice p53 0 c53
  | 31 => v = .int .i64 0
  | 32 => v = .bool true
  | 33 => v = .bool true
  | 34 => v = .bool true
  | 35 => v = .int .i64 0
  | 36 => v = .bool true
  | 37 => v = .bool true
  | 38 => v = .bool true
  | 39 => v = .slice p54 1 c54
  | 40 => v = .agg #[.int .i64 545, .int .i64 1439]
  | 41 => ∃ g, v = .slice (some ⟨g, 0, none⟩) 1 1 ∧ Blk w g 33 #[.int .i64 545, .int .i64 1439]
  | 42 => v = .bool true
  | 43 => v = .bool true
  | 44 => v = .bool true
  | 45 => v = .int .i64 0
  | 46 => v = .bool true
  | 47 => v = .bool true
  | 48 => v = .bool true
  | 49 => v = .slice p55 0 c55
  | 50 => v = .int .i64 0
  | 51 => v = .bool true
  | 52 => v = .bool true
  | 53 => v = .bool true
  | 54 => v = .int .i64 0
  | 55 => v = .bool true
  | 56 => v = .bool true
  | 57 => v = .bool true
  | 58 => v = .int .i64 0
  | 59 => v = .bool true
  | 60 => v = .bool true
  | 61 => v = .bool true
  | 62 => v = .int .i64 0
  | 63 => v = .bool true
  | 64 => v = .bool true
  | 65 => v = .bool true
  | 66 => v = .int .i64 0
  | 67 => v = .bool true
  | 68 => v = .bool true
  | 69 => v = .bool true
  | 70 => v = .int .i64 0
  | 71 => v = .bool true
  | 72 => v = .bool true
  | 73 => v = .bool true
  | 74 => v = .int .i64 2
  | 75 => v = .bool true
  | 76 => v = .bool true
  | 77 => v = .bool true
  | 78 => v = .int .i64 0
  | 79 => v = .bool true
  | 80 => v = .bool true
  | 81 => v = .bool true
  | 82 => v = .slice p60 1 c60
  | 83 => v = .agg #[.int .i64 0, .int .i64 1439]
  | 84 => ∃ g, v = .slice (some ⟨g, 0, none⟩) 1 1 ∧ Blk w g 33 #[.int .i64 0, .int .i64 1439]
  | 85 => v = .bool true
  | 86 => v = .bool true
  | 87 => v = .bool true
  | 88 => v = .int .i64 4
  | 89 => v = .bool true
  | 90 => v = .bool true
  | 91 => v = .bool true
  | 92 => v = .bool true
  | 93 => v = .bool true
  | 94 => v = .bool true
  | 95 => v = .bool true
  | 96 => v = .bool true
  | _ => True
set_option maxHeartbeats 4000000 in
set_option maxRecDepth 100000 in
theorem lastR_kept (p50 p51 p52 p53 p54 p55 p60 : Option Addr) (c50 c51 c52 c53 c54 c55 c60 : Nat) : ∀ (i : Nat), i < 97 → ∀ (v : Value) (w w' : World), lastR p50 p51 p52 p53 p54 p55 p60 c50 c51 c52 c53 c54 c55 c60 i v w → Below w.heap.size w w' → lastR p50 p51 p52 p53 p54 p55 p60 c50 c51 c52 c53 c54 c55 c60 i v w' := by
  intro i hi v w w' h hb
  match i, hi with
  | 0, _ => exact h
  | 1, _ => exact h
  | 2, _ => exact h
  | 3, _ => exact h
  | 4, _ => obtain ⟨g, h1, h2⟩ := h; exact ⟨g, h1, h2.bel hb⟩
  | 5, _ => exact h
  | 6, _ => exact h
  | 7, _ => exact h
  | 8, _ => exact h
  | 9, _ => exact h
  | 10, _ => exact h
  | 11, _ => exact h
  | 12, _ => exact h
  | 13, _ => obtain ⟨g, h1, h2⟩ := h; exact ⟨g, h1, h2.bel hb⟩
  | 14, _ => exact h
  | 15, _ => exact h
  | 16, _ => exact h
  | 17, _ => exact h
  | 18, _ => exact h
  | 19, _ => exact h
  | 20, _ => exact h
  | 21, _ => exact h
  | 22, _ => obtain ⟨g, h1, h2⟩ := h; exact ⟨g, h1, h2.bel hb⟩
  | 23, _ => exact h
  | 24, _ => exact h
  | 25, _ => exact h
  | 26, _ => exact h
  | 27, _ => exact h
  | 28, _ => exact h
  | 29, _ => exact h
  | 30, _ => exact h
  | 31, _ => exact h
  | 32, _ => exact h
  | 33, _ => exact h
  | 34, _ => exact h
  | 35, _ => exact h
  | 36, _ => exact h
  | 37, _ => exact h
  | 38, _ => exact h
  | 39, _ => exact h
  | 40, _ => exact h
  | 41, _ => obtain ⟨g, h1, h2⟩ := h; exact ⟨g, h1, h2.bel hb⟩
  | 42, _ => exact h
  | 43, _ => exact h
  | 44, _ => exact h
  | 45, _ => exact h
  | 46, _ => exact h
  | 47, _ => exact h
  | 48, _ => exact h
  | 49, _ => exact h
  | 50, _ => exact h
  | 51, _ => exact h
  | 52, _ => exact h
  | 53, _ => exact h
  | 54, _ => exact h
  | 55, _ => exact h
  | 56, _ => exact h
  | 57, _ => exact h
  | 58, _ => exact h
  | 59, _ => exact h
  | 60, _ => exact h
  | 61, _ => exact h
  | 62, _ => exact h
  | 63, _ => exact h
  | 64, _ => exact h
  | 65, _ => exact h
  | 66, _ => exact h
  | 67, _ => exact h
  | 68, _ => exact h
  | 69, _ => exact h
  | 70, _ => exact h
  | 71, _ => exact h
  | 72, _ => exact h
  | 73, _ => exact h
  | 74, _ => exact h
  | 75, _ => exact h
  | 76, _ => exact h
  | 77, _ => exact h
  | 78, _ => exact h
  | 79, _ => exact h
  | 80, _ => exact h
  | 81, _ => exact h
  | 82, _ => exact h
  | 83, _ => exact h
  | 84, _ => obtain ⟨g, h1, h2⟩ := h; exact ⟨g, h1, h2.bel hb⟩
  | 85, _ => exact h
  | 86, _ => exact h
  | 87, _ => exact h
  | 88, _ => exact h
  | 89, _ => exact h
  | 90, _ => exact h
  | 91, _ => exact h
  | 92, _ => exact h
  | 93, _ => exact h
  | 94, _ => exact h
  | 95, _ => exact h
  | 96, _ => exact h
  | k + 97, hk => omega
end Go.Proofs.YtdmicngnbcdkdaaDoor

