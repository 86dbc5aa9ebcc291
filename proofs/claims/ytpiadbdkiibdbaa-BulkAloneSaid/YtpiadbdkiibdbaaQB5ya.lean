/- Package bulk, plainly: what is asked of some lots together. -/
import Derived.Test.YtpiadbdkiibdbaaQB5x
set_option linter.unusedSimpArgs false
set_option linter.unusedVariables false
namespace Go.Proofs.Ytpiadbdkiibdbaa
open Go Go.RowKit
/-- What is asked of some lots together: n of them, from one on. -/
def gSum (q : Qs) (i0 n : Nat) (m : Ms) (L : List (Int × Int)) : Int := (((L.drop i0).take n).map (q.num m)).sum
theorem sum_le : ∀ {l m : List Int}, l.length = m.length → (∀ (j : Nat) (a c : Int), l[j]? = some a → m[j]? = some c → a ≤ c) → l.sum ≤ m.sum
  | [], [], _, _ => Int.le_refl _
  | [], _ :: _, h, _ => by simp at h
  | _ :: _, [], h, _ => by simp at h
  | a :: l, c :: m, h, hj => by
    rw [List.sum_cons, List.sum_cons]
    have h0 := hj 0 a c rfl rfl
    have h1 := sum_le (l := l) (m := m) (by simpa using h) (fun j x y hx hy => hj (j + 1) x y (by simpa using hx) (by simpa using hy))
    omega
theorem num_bd {b : Ck} {m : Ms} {t : Lt} {q : Qs} {l : Int × Int} (hm : MsOK m) (ht : LtOK b t) (hq : ∀ k, q = .count k → k < 3) (hl : LoadIs b m t l) : 0 ≤ q.num m l ∧ q.num m l ≤ 400 := by
  obtain ⟨s, φ, h1, -, h3⟩ := num_way q m hm hq
  have hf := hl.fish
  have hw := hl.waste
  have hs := ht.ws
  rw [h1]
  cases s
  · have := h3 l.1 hf.1
    simp only [Bool.false_eq_true, if_false]
    omega
  · have := h3 l.2 (by omega)
    simp only [if_true]
    omega
/-- The ends of each of the first k lots. -/
structure EndsUp (b : Ck) (m : Ms) (q : Qs) (ls : List Lt) (k : Nat) (ll lh : List Int) : Prop where
  l1 : ll.length = k
  l2 : lh.length = k
  each : ∀ (j : Nat) (t : Lt) (lo hi : Int), ls[j]? = some t → ll[j]? = some lo → lh[j]? = some hi → EndsL b m t (q.num m) lo hi
theorem EndsUp.nil (b : Ck) (m : Ms) (q : Qs) (ls : List Lt) : EndsUp b m q ls 0 [] [] := ⟨rfl, rfl, fun j t lo hi _ h => by simp at h⟩
theorem EndsUp.snoc {b : Ck} {m : Ms} {q : Qs} {ls : List Lt} {k : Nat} {ll lh : List Int} (h : EndsUp b m q ls k ll lh) {t : Lt} (ht : ls[k]? = some t) {lo hi : Int} (he : EndsL b m t (q.num m) lo hi) : EndsUp b m q ls (k + 1) (ll ++ [lo]) (lh ++ [hi]) := by
  refine ⟨by simp [h.l1], by simp [h.l2], fun j s x y hs hx hy => ?_⟩
  by_cases hj : j < k
  · rw [List.getElem?_append_left (by rw [h.l1]; exact hj)] at hx
    rw [List.getElem?_append_left (by rw [h.l2]; exact hj)] at hy
    exact h.each j s x y hs hx hy
  · have hx1 := (List.getElem?_eq_some_iff.1 hx).1
    simp [h.l1] at hx1
    obtain rfl : j = k := by omega
    rw [List.getElem?_append_right (by rw [h.l1]; omega), h.l1, Nat.sub_self] at hx
    rw [List.getElem?_append_right (by rw [h.l2]; omega), h.l2, Nat.sub_self] at hy
    rw [ht] at hs
    cases hs; cases hx; cases hy
    exact he
theorem EndsUp.bd {b : Ck} {m : Ms} {q : Qs} {ls : List Lt} {k : Nat} {ll lh : List Int} (h : EndsUp b m q ls k ll lh) (hm : MsOK m) (hb : ∀ t ∈ ls, LtOK b t) (hq : ∀ k, q = .count k → k < 3) (hk : k ≤ ls.length) : (∀ x ∈ ll, 0 ≤ x ∧ x ≤ 400) ∧ ∀ x ∈ lh, 0 ≤ x ∧ x ≤ 400 := by
  have key : ∀ j, j < k → ∃ t lo hi, ls[j]? = some t ∧ ll[j]? = some lo ∧ lh[j]? = some hi := fun j hj => ⟨_, _, _, List.getElem?_eq_getElem (by omega), List.getElem?_eq_getElem (by rw [h.l1]; exact hj), List.getElem?_eq_getElem (by rw [h.l2]; exact hj)⟩
  constructor
  · intro x hx
    obtain ⟨j, hj, rfl⟩ := List.mem_iff_getElem.1 hx
    obtain ⟨t, lo, hi, e1, e2, e3⟩ := key j (by rw [← h.l1]; exact hj)
    obtain ⟨l, hl, e⟩ := (h.each j t lo hi e1 e2 e3).low
    rw [List.getElem?_eq_getElem hj] at e2
    cases e2
    rw [← e]
    exact num_bd hm (hb t (List.mem_of_getElem? e1)) hq hl
  · intro x hx
    obtain ⟨j, hj, rfl⟩ := List.mem_iff_getElem.1 hx
    obtain ⟨t, lo, hi, e1, e2, e3⟩ := key j (by rw [← h.l2]; exact hj)
    obtain ⟨l, hl, e⟩ := (h.each j t lo hi e1 e2 e3).high
    rw [List.getElem?_eq_getElem hj] at e3
    cases e3
    rw [← e]
    exact num_bd hm (hb t (List.mem_of_getElem? e1)) hq hl
theorem sum_up {l : List Int} (h : ∀ x ∈ l, 0 ≤ x ∧ x ≤ 400) : 0 ≤ l.sum ∧ l.sum ≤ 400 * (l.length : Int) := by
  induction l with
  | nil => exact ⟨Int.le_refl _, Int.le_refl _⟩
  | cons a l ih =>
    have h1 := h a (by simp)
    have h2 := ih (fun x hx => h x (by simp [hx]))
    rw [List.sum_cons, List.length_cons]
    omega
/-- Some of a book's lots. -/
def cutL {α : Type} (l : List α) (i0 n : Nat) : List α := (l.drop i0).take n
theorem cutL_get {α : Type} {l : List α} {i0 n j : Nat} (hj : j < n) : (cutL l i0 n)[j]? = l[i0 + j]? := by
  unfold cutL
  rw [List.getElem?_take_of_lt hj, List.getElem?_drop]
theorem cutL_len {α : Type} {l : List α} {i0 n : Nat} (h : i0 + n ≤ l.length) : (cutL l i0 n).length = n := by
  unfold cutL
  rw [List.length_take, List.length_drop]; omega
theorem cutL_sub {α : Type} {l : List α} {i0 n : Nat} : ∀ t ∈ cutL l i0 n, t ∈ l := fun t ht => List.mem_of_mem_drop (List.mem_of_mem_take ht)
/-- A truth in which each of some lots has the load that one wants. -/
theorem truth_with {b : Ck} {m : Ms} (hm : m ∈ truthsL b) {q : Qs} {i0 n : Nat} (hn : i0 + n ≤ b.ls.length) {ll : List Int} (hl : ll.length = n) (h : ∀ (j : Nat) (t : Lt) (x : Int), (cutL b.ls i0 n)[j]? = some t → ll[j]? = some x → ∃ l, LoadIs b m t l ∧ q.num m l = x) :
    ∃ L, TrueIs b m L ∧ gSum q i0 n m L = ll.sum := by
  obtain ⟨L0, hL0⟩ := mem_truthsL.1 hm
  have hall : ∀ i ∈ List.range b.ls.length, ∃ l : Int × Int, (∀ t, b.ls[i]? = some t → LoadIs b m t l) ∧ ∀ j x, i = i0 + j → j < n → ll[j]? = some x → q.num m l = x := by
    intro i hi
    have hi := List.mem_range.1 hi
    by_cases hc : i0 ≤ i ∧ i < i0 + n
    · obtain ⟨j, rfl⟩ : ∃ j, i = i0 + j := ⟨i - i0, by omega⟩
      have e1 : b.ls[i0 + j]? = some b.ls[i0 + j] := List.getElem?_eq_getElem hi
      have e2 : ll[j]? = some (ll[j]'(by omega)) := List.getElem?_eq_getElem (by omega)
      obtain ⟨l, h1, h2⟩ := h j _ _ (by rw [cutL_get (by omega)]; exact e1) e2
      refine ⟨l, fun t ht => by rw [e1] at ht; cases ht; exact h1, fun j' x hj' _ hx => ?_⟩
      obtain rfl : j' = j := by omega
      rw [e2] at hx; cases hx
      exact h2
    · have e1 : b.ls[i]? = some b.ls[i] := List.getElem?_eq_getElem hi
      have hlen := hL0.len
      have e2 : L0[i]? = some (L0[i]'(by omega)) := List.getElem?_eq_getElem (by omega)
      refine ⟨L0[i]'(by omega), fun t ht => hL0.ok i t _ ht e2, fun j x hj hjn => by omega⟩
  obtain ⟨L, h1, h2⟩ := choose_all (R := fun (i : Nat) (l : Int × Int) => (∀ t, b.ls[i]? = some t → LoadIs b m t l) ∧ ∀ j x, i = i0 + j → j < n → ll[j]? = some x → q.num m l = x) hall
  rw [List.length_range] at h1
  refine ⟨L, ⟨hL0.ms, h1, fun i t l ht hlL => ?_⟩, ?_⟩
  · have hi := (List.getElem?_eq_some_iff.1 ht).1
    exact (h2 i i l (List.getElem?_range hi) hlL).1 t ht
  · unfold gSum
    have e : ((L.drop i0).take n).map (q.num m) = ll := by
      refine List.ext_getElem? (fun j => ?_)
      by_cases hj : j < n
      · rw [List.getElem?_map, show ((L.drop i0).take n)[j]? = L[i0 + j]? from cutL_get hj]
        have e1 : L[i0 + j]? = some (L[i0 + j]'(by omega)) := List.getElem?_eq_getElem (by omega)
        have e2 : ll[j]? = some (ll[j]'(by omega)) := List.getElem?_eq_getElem (by omega)
        rw [e1, e2, Option.map_some]
        congr 1
        exact (h2 (i0 + j) (i0 + j) _ (List.getElem?_range (by omega)) e1).2 j _ rfl hj e2
      · rw [List.getElem?_eq_none (by rw [List.length_map, List.length_take, List.length_drop]; omega), List.getElem?_eq_none (by omega)]
    rw [e]
/-- The ends of what is asked of some lots, once measures hold so many. -/
theorem EndsUp.ends {b : Ck} {m : Ms} {q : Qs} {i0 n : Nat} {ll lh : List Int} (h : EndsUp b m q (cutL b.ls i0 n) n ll lh) (hm : m ∈ truthsL b) (hn : i0 + n ≤ b.ls.length) : EndsM b (gSum q i0 n) m ll.sum lh.sum := by
  have key : ∀ j, j < n → ∃ t lo hi, (cutL b.ls i0 n)[j]? = some t ∧ ll[j]? = some lo ∧ lh[j]? = some hi := fun j hj => ⟨_, _, _, List.getElem?_eq_getElem (by rw [cutL_len hn]; exact hj), List.getElem?_eq_getElem (by rw [h.l1]; exact hj), List.getElem?_eq_getElem (by rw [h.l2]; exact hj)⟩
  refine ⟨truth_with hm hn h.l1 (fun j t x ht hx => ?_), truth_with hm hn h.l2 (fun j t x ht hx => ?_), fun L hL => ?_⟩
  · have hj := (List.getElem?_eq_some_iff.1 hx).1
    rw [h.l1] at hj
    obtain ⟨t', lo, hi, e1, e2, e3⟩ := key j hj
    rw [e1] at ht; cases ht
    rw [e2] at hx; cases hx
    exact (h.each j t _ hi e1 e2 e3).low
  · have hj := (List.getElem?_eq_some_iff.1 hx).1
    rw [h.l2] at hj
    obtain ⟨t', lo, hi, e1, e2, e3⟩ := key j hj
    rw [e1] at ht; cases ht
    rw [e3] at hx; cases hx
    exact (h.each j t lo _ e1 e2 e3).high
  · have hlen := hL.len
    have hcl : ((L.drop i0).take n).length = n := cutL_len (l := L) (by omega)
    have val : ∀ j, j < n → ∃ t l lo hi, (cutL b.ls i0 n)[j]? = some t ∧ ((L.drop i0).take n)[j]? = some l ∧ ll[j]? = some lo ∧ lh[j]? = some hi ∧ LoadIs b m t l := fun j hj => by
      obtain ⟨t, lo, hi, e1, e2, e3⟩ := key j hj
      have e4 : ((L.drop i0).take n)[j]? = L[i0 + j]? := cutL_get hj
      have e5 : L[i0 + j]? = some (L[i0 + j]'(by omega)) := List.getElem?_eq_getElem (by omega)
      refine ⟨t, _, lo, hi, e1, e4.trans e5, e2, e3, hL.ok (i0 + j) t _ ?_ e5⟩
      rw [← cutL_get hj]; exact e1
    constructor
    · refine sum_le (by rw [h.l1, List.length_map, hcl]) (fun j a c ha hc => ?_)
      have hj := (List.getElem?_eq_some_iff.1 ha).1
      rw [h.l1] at hj
      obtain ⟨t, l, lo, hi, e1, e2, e3, e4, e5⟩ := val j hj
      rw [e3] at ha; cases ha
      rw [List.getElem?_map, e2] at hc; cases hc
      exact ((h.each j t _ hi e1 e3 e4).all l e5).1
    · refine sum_le (by rw [h.l2, List.length_map, hcl]) (fun j a c ha hc => ?_)
      have hj := (List.getElem?_eq_some_iff.1 hc).1
      rw [h.l2] at hj
      obtain ⟨t, l, lo, hi, e1, e2, e3, e4, e5⟩ := val j hj
      rw [e4] at hc; cases hc
      rw [List.getElem?_map, e2] at ha; cases ha
      exact ((h.each j t lo _ e1 e3 e4).all l e5).2
end Go.Proofs.Ytpiadbdkiibdbaa

