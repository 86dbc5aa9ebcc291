/- A region that draws its order, as in Fl, and behind it the frame as it was, with what the first operations left put into it. -/
import Derived.Test.YtkmjfmppeedaoaaDoorQFl
set_option linter.unusedSimpArgs false
set_option linter.unusedVariables false
namespace Go.Proofs.YtkmjfmppeedaoaaDoor
open Go Go.RowKit

section
variable {ops : Array Oper} {a0 : Act} {vs : Nat → Value}
def putAll (ops : Array Oper) (a0 : Act) (vs : Nat → Value) : Nat → Act
  | 0 => a0
  | k + 1 => (putAll ops a0 vs k).put (some (dstOf ops k)) (vs k)
theorem putAll_size (k : Nat) : (putAll ops a0 vs k).tmps.size = a0.tmps.size := by
  induction k with
  | zero => rfl
  | succ k ih => simp [putAll, Act.put, ih]
theorem putAll_dfr (k : Nat) : (putAll ops a0 vs k).defers = a0.defers := by
  induction k with
  | zero => rfl
  | succ k ih => simp [putAll, Act.put, ih]
theorem putAll_get (k : Nat) (hd : ∀ i j, i < k → j < k → i ≠ j → dstOf ops i ≠ dstOf ops j) (hN : ∀ i, i < k → dstOf ops i < a0.tmps.size) :
    (∀ i, i < k → (putAll ops a0 vs k).tmps.getD (dstOf ops i) undef = vs i) ∧ ∀ s, (∀ i, i < k → dstOf ops i ≠ s) → (putAll ops a0 vs k).tmps.getD s undef = a0.tmps.getD s undef := by
  induction k with
  | zero => exact ⟨fun i hi => by omega, fun _ _ => rfl⟩
  | succ k ih =>
    obtain ⟨h1, h2⟩ := ih (fun i j hi hj hij => hd i j (by omega) (by omega) hij) (fun i hi => hN i (by omega))
    have hne : ∀ s v, dstOf ops k ≠ s → ((putAll ops a0 vs k).put (some (dstOf ops k)) v).tmps.getD s undef = (putAll ops a0 vs k).tmps.getD s undef := fun s v h => by
      simp only [Act.put, Array.getD_eq_getD_getElem?, Array.getElem?_setIfInBounds, if_neg h]
    refine ⟨fun i hi => ?_, fun s hs => ?_⟩
    · by_cases e : i = k
      · subst e
        have := hN i (by omega)
        have hsz := putAll_size (ops := ops) (a0 := a0) (vs := vs) i
        simp only [putAll, Act.put, Array.getD_eq_getD_getElem?, Array.getElem?_setIfInBounds, if_true]
        rw [if_pos (by omega)]
        rfl
      · rw [putAll, hne _ _ (hd k i (by omega) (by omega) (Ne.symm e))]
        exact h1 i (by omega)
    · rw [putAll, hne _ _ (hs k (by omega))]
      exact h2 s (fun i hi => hs i (by omega))
end

/-- The law, with the frame brought back. -/
theorem wp_region_flow_back {P : Program} {id : Nat} {Q : Exit → Act → World → Prop} {a0 : Act} {w0 : World} {l : List Oper} (n N : Nat) (R : Nat → Value → World → Prop) (hm : P.follows .mixedOrders = true) (hB : flowB .any l.toArray n N = true) (hN : a0.tmps.size = N)
    (hR : ∀ i, i < n → ∀ v w w', R i v w → Below w.heap.size w w' → R i v w')
    (hstep : ∀ i, i < n → ∀ (a : Act) (w : World), a.tmps.size = N → a.defers = a0.defers → (∀ s, freeB l.toArray n s = true → a.tmps.getD s undef = a0.tmps.getD s undef) →
      (∀ j, Region.waitsFor .any l.toArray i j = true → R j (a.tmps.getD (dstOf l.toArray j) undef) w) → Below w0.heap.size w0 w →
      ∀ K : Act → World → Prop, (∀ v w', R i v w' → Below w.heap.size w w' → K (a.put (some (dstOf l.toArray i)) v) w') → wpOp P l.toArray Q i K a w)
    (htail : ∀ (vs : Nat → Value) (w : World), (∀ i, i < n → R i (vs i) w) → Below w0.heap.size w0 w → wpList P l.toArray Q (l.drop n) (putAll l.toArray a0 vs n) w) :
    (Code.region id l.toArray true).wp P Q a0 w0 := by
  refine wp_region_flow n N R hm hB hN hR hstep ?_
  intro a w h1 h2 h3 h4 h5
  simp only [flowB, Bool.and_eq_true, decide_eq_true_eq] at hB
  obtain ⟨⟨-, hdst⟩, -⟩ := hB
  have hd : ∀ i, i < n → dstOf l.toArray i < N ∧ ∀ j, j < n → i ≠ j → dstOf l.toArray j ≠ dstOf l.toArray i := by
    intro i hi
    have h6 := List.all_eq_true.1 hdst i (List.mem_range.2 hi)
    split at h6
    · rename_i d hdd
      have e : dstOf l.toArray i = d := by unfold dstOf; rw [hdd]; rfl
      simp only [Bool.and_eq_true, decide_eq_true_eq] at h6
      refine ⟨by rw [e]; exact h6.1, fun j hj hij => ?_⟩
      have h7 := List.all_eq_true.1 h6.2 j (List.mem_range.2 hj)
      simp only [Bool.or_eq_true, beq_iff_eq, bne_iff_ne] at h7
      rw [e]
      rcases h7 with h7 | h7
      · exact absurd h7 hij
      · exact h7
    · cases h6
  obtain ⟨g1, g2⟩ := putAll_get (ops := l.toArray) (a0 := a0) (vs := fun i => a.tmps.getD (dstOf l.toArray i) undef) n (fun i j hi hj hij => Ne.symm ((hd i hi).2 j hj hij)) (fun i hi => by rw [hN]; exact (hd i hi).1)
  have e : putAll l.toArray a0 (fun i => a.tmps.getD (dstOf l.toArray i) undef) n = a := by
    have hs := putAll_size (ops := l.toArray) (a0 := a0) (vs := fun i => a.tmps.getD (dstOf l.toArray i) undef) n
    have hdf := putAll_dfr (ops := l.toArray) (a0 := a0) (vs := fun i => a.tmps.getD (dstOf l.toArray i) undef) n
    have ht : (putAll l.toArray a0 (fun i => a.tmps.getD (dstOf l.toArray i) undef) n).tmps = a.tmps := by
      refine Array.ext (by rw [hs, hN, h1]) (fun s hs1 hs2 => ?_)
      have key : (putAll l.toArray a0 (fun i => a.tmps.getD (dstOf l.toArray i) undef) n).tmps.getD s undef = a.tmps.getD s undef := by
        by_cases hx : freeB l.toArray n s = true
        · rw [g2 s (freeB_iff.1 hx), h3 s hx]
        · have : ∃ i, i < n ∧ dstOf l.toArray i = s := by
            refine Classical.byContradiction fun hc => hx (freeB_iff.2 (fun i hi he => hc ⟨i, hi, he⟩))
          obtain ⟨i, hi, rfl⟩ := this
          exact g1 i hi
      have gd : ∀ (x : Array Value) (s : Nat) (h : s < x.size), x.getD s undef = x[s] := fun x s h => by simp [Array.getD, h]
      rw [gd _ _ hs1, gd _ _ hs2] at key
      exact key
    cases a
    generalize putAll l.toArray a0 _ n = b at *
    cases b
    simp only at ht hdf h2
    rw [ht, hdf, h2]
  have := htail _ w h4 h5
  rw [e] at this
  exact this
end Go.Proofs.YtkmjfmppeedaoaaDoor

