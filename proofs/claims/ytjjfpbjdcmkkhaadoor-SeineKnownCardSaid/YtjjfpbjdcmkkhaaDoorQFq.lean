/- A region that is worked through in its written order, at an abstract frame: each of its first n operations leaves a value of which something is known; all that stands before it may be used. Behind it the frame is known only through the relations. (For frames of hundreds of slots: terms stay small.) -/
import Derived.Test.YtjjfpbjdcmkkhaaDoorQFl
set_option linter.unusedSimpArgs false
set_option linter.unusedVariables false
namespace Go.Proofs.YtjjfpbjdcmkkhaaDoor
open Go Go.RowKit

section
variable {P : Program} {ops : Array Oper}
/-- The first n operations have slots of their own, below N. -/
def rowB (ops : Array Oper) (n N : Nat) : Bool :=
  decide (n ≤ ops.size) && (List.range n).all fun i => match (ops[i]?).bind (·.dst) with | some d => decide (d < N) && (List.range n).all (fun j => i == j || dstOf ops j != d) | none => false

theorem wpOps_of_row {n N : Nat} {a0 : Act} {w0 : World} {R : Nat → Value → World → Prop} {Q : Exit → Act → World → Prop} {tl : List Nat}
    (hB : rowB ops n N = true)
    (hR : ∀ i, i < n → ∀ v w w', R i v w → Below w.heap.size w w' → R i v w')
    (hstep : ∀ i, i < n → ∀ (a : Act) (w : World), a.tmps.size = N → a.defers = a0.defers → (∀ s, freeB ops n s = true → a.tmps.getD s undef = a0.tmps.getD s undef) →
      (∀ j, j < i → R j (a.tmps.getD (dstOf ops j) undef) w) → Below w0.heap.size w0 w →
      ∀ K : Act → World → Prop, (∀ v w', R i v w' → Below w.heap.size w w' → K (a.put (some (dstOf ops i)) v) w') → wpOp P ops Q i K a w)
    (htail : ∀ (a : Act) (w : World), a.tmps.size = N → a.defers = a0.defers → (∀ s, freeB ops n s = true → a.tmps.getD s undef = a0.tmps.getD s undef) →
      (∀ i, i < n → R i (a.tmps.getD (dstOf ops i) undef) w) → Below w0.heap.size w0 w → wpOps P ops Q tl a w) :
    ∀ (k i : Nat) (a : Act) (w : World), i + k = n → a.tmps.size = N → a.defers = a0.defers → (∀ s, freeB ops n s = true → a.tmps.getD s undef = a0.tmps.getD s undef) →
      (∀ j, j < i → R j (a.tmps.getD (dstOf ops j) undef) w) → Below w0.heap.size w0 w → wpOps P ops Q (List.range' i k ++ tl) a w := by
  simp only [rowB, Bool.and_eq_true, decide_eq_true_eq] at hB
  obtain ⟨hn, hdst⟩ := hB
  have hd : ∀ i, i < n → dstOf ops i < N ∧ ∀ j, j < n → i ≠ j → dstOf ops j ≠ dstOf ops i := by
    intro i hi
    have h1 := List.all_eq_true.1 hdst i (List.mem_range.2 hi)
    have hio : i < ops.size := by omega
    have ho : ops[i]? = some ops[i] := Array.getElem?_eq_getElem hio
    cases hd : ops[i].dst with
    | none => simp [ho, hd] at h1
    | some d =>
      have e : dstOf ops i = d := by simp [dstOf, ho, hd]
      simp only [ho, Option.bind_some, hd, Bool.and_eq_true, decide_eq_true_eq] at h1
      refine ⟨by rw [e]; exact h1.1, fun j hj hij => ?_⟩
      have h2 := List.all_eq_true.1 h1.2 j (List.mem_range.2 hj)
      simp only [Bool.or_eq_true, beq_iff_eq, bne_iff_ne] at h2
      rcases h2 with h2 | h2
      · exact absurd h2 hij
      · rw [e]; exact h2
  intro k
  induction k with
  | zero =>
    intro i a w hik hs hf ho hr hb
    obtain rfl : i = n := by omega
    exact htail a w hs hf ho hr hb
  | succ k ih =>
    intro i a w hik hs hf ho hr hb
    have hi : i < n := by omega
    obtain ⟨hdN, hne⟩ := hd i hi
    rw [List.range'_succ, List.cons_append, wpOps_cons]
    refine hstep i hi a w hs hf ho hr hb _ (fun v w' hv hb2 => ?_)
    refine ih (i + 1) _ _ (by omega) (by simp [Act.put, hs]) (by simpa [Act.put] using hf) (fun s hs' => ?_) (fun j hj => ?_) (hb.trans (hb2.mono hb.size))
    · have hsi : dstOf ops i ≠ s := freeB_iff.1 hs' i hi
      rw [← ho s hs']
      simp [Act.put, Array.getElem?_setIfInBounds_ne hsi]
    · by_cases hij : i = j
      · subst hij
        have : (a.put (some (dstOf ops i)) v).tmps.getD (dstOf ops i) undef = v := by
          have : dstOf ops i < a.tmps.size := by rw [hs]; exact hdN
          simp [Act.put, this]
        rw [this]
        exact hv
      · have hdj := hne j (by omega) hij
        have : (a.put (some (dstOf ops i)) v).tmps.getD (dstOf ops j) undef = a.tmps.getD (dstOf ops j) undef := by
          simp [Act.put, Array.getElem?_setIfInBounds_ne (Ne.symm hdj)]
        rw [this]
        exact hR _ (by omega) _ _ _ (hr j (by omega)) hb2
end

/-- The law. -/
theorem wp_region_row {P : Program} {id : Nat} {Q : Exit → Act → World → Prop} {a0 : Act} {w0 : World} {l : List Oper} (n N : Nat) (R : Nat → Value → World → Prop) (hB : rowB l.toArray n N = true) (hN : a0.tmps.size = N)
    (hR : ∀ i, i < n → ∀ v w w', R i v w → Below w.heap.size w w' → R i v w')
    (hstep : ∀ i, i < n → ∀ (a : Act) (w : World), a.tmps.size = N → a.defers = a0.defers → (∀ s, freeB l.toArray n s = true → a.tmps.getD s undef = a0.tmps.getD s undef) →
      (∀ j, j < i → R j (a.tmps.getD (dstOf l.toArray j) undef) w) → Below w0.heap.size w0 w →
      ∀ K : Act → World → Prop, (∀ v w', R i v w' → Below w.heap.size w w' → K (a.put (some (dstOf l.toArray i)) v) w') → wpOp P l.toArray Q i K a w)
    (htail : ∀ (a : Act) (w : World), a.tmps.size = N → a.defers = a0.defers → (∀ s, freeB l.toArray n s = true → a.tmps.getD s undef = a0.tmps.getD s undef) →
      (∀ i, i < n → R i (a.tmps.getD (dstOf l.toArray i) undef) w) → Below w0.heap.size w0 w → wpList P l.toArray Q (l.drop n) a w) :
    (Code.region id l.toArray false).wp P Q a0 w0 := by
  have hn : n ≤ l.length := by
    have := hB
    simp only [rowB, Bool.and_eq_true, decide_eq_true_eq] at this
    simpa using this.1
  refine wp_region ?_
  have e : List.range l.toArray.size = List.range' 0 n ++ List.range' n (l.toArray.size - n) := by
    have h1 : l.toArray.size = n + (l.toArray.size - n) := by simp; omega
    rw [List.range_eq_range', h1, ← List.range'_append_1]
    simp
  rw [e]
  refine wpOps_of_row hB hR hstep (fun a w h1 h2 h3 h4 h5 => ?_) n 0 a0 w0 (by omega) hN rfl (fun _ _ => rfl) (fun j hj => by omega) (Below.refl _ _)
  have hl : l.toArray.size - n = (l.drop n).length := by simp
  rw [hl, wpOps_eq_wpList (l.drop n) n (by simp [List.getElem?_drop])]
  exact htail a w h1 h2 h3 h4 h5
end Go.Proofs.YtjjfpbjdcmkkhaaDoor

