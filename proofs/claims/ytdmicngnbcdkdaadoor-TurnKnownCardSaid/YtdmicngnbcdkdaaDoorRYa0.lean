/- Lists that rise, and sets of small numbers, as plain facts. -/
/- Plain facts: what compacting leaves of a sorted list; companies of turns. -/
import Derived.Test.YtdmicngnbcdkdaaDoorRTa
import Derived.Test.YtdmicngnbcdkdaaDoorRUk
set_option linter.unusedSimpArgs false
set_option linter.unusedVariables false
namespace Go.Proofs.YtdmicngnbcdkdaaDoor
open Go Go.RowKit

def risesB (below : Int) : Int → List Int → Bool
  | _, [] => true
  | y, x :: l => decide (y ≤ x) && decide (x < below) && risesB below (x + 1) l
/-- A set of small numbers, as the number that has their bits. -/
def orB (a : Nat) (x : Int) : Nat := a ||| (1 <<< x.toNat)
def setB' (a : Nat) (l : List Int) : Nat := l.foldl orB a
def setN (l : List Int) : Nat := setB' 0 l
theorem bits_or : ∀ z : Nat, z < 16 → ∀ x : Nat, x < 4 → bits .or .i64 (z : Int) (wrap64 (2 ^ x)) = ((orB z (x : Int) : Nat) : Int) ∧ orB z (x : Int) < 16 := by decide +kernel
theorem bits_or' (z : Nat) (x : Int) (hz : z < 16) (h0 : 0 ≤ x) (h4 : x < 4) : bits .or .i64 (z : Int) (wrap64 (2 ^ x.toNat)) = ((orB z x : Nat) : Int) ∧ orB z x < 16 := by
  obtain ⟨k, rfl⟩ := Int.eq_ofNat_of_zero_le h0
  exact bits_or z hz k (by omega)
theorem setB_bit (l : List Int) (i : Nat) : ∀ a, (setB' a l).testBit i = (a.testBit i || l.any fun x => x.toNat == i) := by
  induction l with
  | nil => intro a; simp [setB']
  | cons x l ih =>
    intro a
    show (setB' (orB a x) l).testBit i = _
    rw [ih]
    simp only [orB, Nat.testBit_or, List.any_cons, Nat.one_shiftLeft, Nat.testBit_two_pow]
    rw [Bool.or_assoc]
    rfl
theorem setN_eq {l m : List Int} (h : ∀ x, x ∈ l ↔ x ∈ m) : setN l = setN m := by
  apply Nat.eq_of_testBit_eq
  intro i
  unfold setN
  rw [setB_bit, setB_bit]
  congr 1
  rw [Bool.eq_iff_iff, List.any_eq_true, List.any_eq_true]
  exact ⟨fun ⟨x, h1, h2⟩ => ⟨x, (h x).1 h1, h2⟩, fun ⟨x, h1, h2⟩ => ⟨x, (h x).2 h1, h2⟩⟩
theorem setN_snoc (l : List Int) (x : Int) : setN (l ++ [x]) = orB (setN l) x := by simp [setN, setB']
theorem setN_lt (l : List Int) (h : ∀ x ∈ l, 0 ≤ x ∧ x < 4) : setN l < 16 := by
  suffices H : ∀ a, a < 16 → setB' a l < 16 from H 0 (by omega)
  induction l with
  | nil => intro a ha; exact ha
  | cons x l ih =>
    intro a ha
    show setB' (orB a x) l < 16
    exact ih (fun y hy => h y (by simp [hy])) _ (bits_or' a x ha (h x (by simp)).1 (h x (by simp)).2).2
end Go.Proofs.YtdmicngnbcdkdaaDoor

namespace Go.Proofs.YtdmicngnbcdkdaaDoor
open Go Go.RowKit

theorem compact_sorted (d : Array Int) (hs : ∀ i, i + 1 < d.size → d[i]! ≤ d[i + 1]!) : ∀ m, m ≤ d.size → (∀ x, x ∈ Lib.compactUpTo d m ↔ ∃ j, j < m ∧ d[j]! = x) ∧ (Lib.compactUpTo d m).Pairwise (· < ·) ∧ ∀ x ∈ Lib.compactUpTo d m, 0 < m ∧ x ≤ d[m - 1]! := by
  intro m
  induction m with
  | zero => intro _; simp [Lib.compactUpTo]
  | succ m ih =>
    intro hm
    obtain ⟨h1, h2, h3⟩ := ih (by omega)
    rw [Lib.compactUpTo_succ]
    by_cases hk : Lib.keeps d m = true
    · rw [if_pos hk]
      have hle : ∀ x ∈ Lib.compactUpTo d m, x < d[m]! := by
        intro x hx
        obtain ⟨hm0, hx2⟩ := h3 x hx
        have hs2 := hs (m - 1) (by omega)
        rw [show m - 1 + 1 = m by omega] at hs2
        simp only [Lib.keeps, decide_eq_true_eq] at hk
        have : d[m]! ≠ d[m - 1]! := by
          rcases hk with hk | hk
          · omega
          · exact hk
        omega
      refine ⟨fun x => ?_, ?_, ?_⟩
      · rw [List.mem_append, h1]
        simp only [List.mem_singleton]
        constructor
        · rintro (⟨j, hj, rfl⟩ | rfl)
          · exact ⟨j, by omega, rfl⟩
          · exact ⟨m, by omega, rfl⟩
        · rintro ⟨j, hj, rfl⟩
          by_cases e : j = m
          · subst e; exact .inr rfl
          · exact .inl ⟨j, by omega, rfl⟩
      · rw [List.pairwise_append]
        refine ⟨h2, by simp, fun x hx y hy => ?_⟩
        simp only [List.mem_singleton] at hy
        subst hy
        exact hle x hx
      · intro x hx
        refine ⟨by omega, ?_⟩
        rw [Nat.add_sub_cancel]
        rcases List.mem_append.1 hx with hx | hx
        · exact Int.le_of_lt (hle x hx)
        · simp only [List.mem_singleton] at hx; omega
    · rw [if_neg hk, List.append_nil]
      have hm0 : 0 < m := by
        rcases Nat.eq_zero_or_pos m with h | h
        · subst h; simp [Lib.keeps] at hk
        · exact h
      have he : d[m]! = d[m - 1]! := by
        simp only [Lib.keeps, decide_eq_true_eq, not_or, Decidable.not_not] at hk
        exact hk.2
      refine ⟨fun x => ?_, h2, fun x hx => ⟨by omega, ?_⟩⟩
      · rw [h1]
        constructor
        · rintro ⟨j, hj, rfl⟩; exact ⟨j, by omega, rfl⟩
        · rintro ⟨j, hj, rfl⟩
          by_cases e : j = m
          · subst e; exact ⟨j - 1, by omega, he.symm⟩
          · exact ⟨j, by omega, rfl⟩
      · rw [Nat.add_sub_cancel, he]; exact (h3 x hx).2
theorem sort_pair (l : List Int) : (l.mergeSort fun x y => decide (x ≤ y)).Pairwise (· ≤ ·) := by
  have := List.pairwise_mergeSort (le := fun x y : Int => decide (x ≤ y)) (fun a b c h1 h2 => by simp at *; omega) (fun a b => by simp; omega) l
  exact this.imp (by simp)
theorem owners_facts (l : List Int) : (∀ x, x ∈ Lib.compact (l.mergeSort fun x y => decide (x ≤ y)) ↔ x ∈ l) ∧ (Lib.compact (l.mergeSort fun x y => decide (x ≤ y))).Pairwise (· < ·) := by
  have hp := sort_pair l
  have hperm := List.mergeSort_perm l (fun x y => decide (x ≤ y))
  generalize l.mergeSort (fun x y => decide (x ≤ y)) = s at *
  have h := compact_sorted s.toArray (fun i hi => by
    have h1 : i < s.length := by simp at hi; omega
    have h2 : i + 1 < s.length := by simpa using hi
    rw [getElem!_pos _ i (by simpa using h1), getElem!_pos _ (i + 1) (by simpa using h2)]
    simpa using List.pairwise_iff_getElem.1 hp i (i + 1) h1 h2 (by omega)) s.length (by simp)
  refine ⟨fun x => ?_, h.2.1⟩
  show x ∈ Lib.compactUpTo s.toArray s.length ↔ _
  rw [h.1, ← hperm.mem_iff, List.mem_iff_getElem]
  constructor
  · rintro ⟨j, hj, rfl⟩; exact ⟨j, hj, by rw [getElem!_pos _ j (by simpa using hj)]; simp⟩
  · rintro ⟨j, hj, rfl⟩; exact ⟨j, hj, by rw [getElem!_pos _ j (by simpa using hj)]; simp⟩
theorem risesB_of {below : Int} : ∀ (l : List Int) (y : Int), (∀ x ∈ l, y ≤ x ∧ x < below) → l.Pairwise (· < ·) → risesB below y l = true
  | [], _, _, _ => rfl
  | x :: l, y, h, hp => by
    rw [List.pairwise_cons] at hp
    simp only [risesB, Bool.and_eq_true, decide_eq_true_eq]
    exact ⟨h x (by simp), risesB_of l (x + 1) (fun z hz => ⟨by have := hp.1 z hz; omega, (h z (by simp [hz])).2⟩) hp.2⟩

/-- Who can have turns is a company. -/
theorem ownf_co {b : Bk} (hv : bookB b = true) {st t : Nat} (hst : st < b.os.length) (ht : t ≤ b.bs.length) : 0 ≤ ownf b.os st t ∧ ownf b.os st t < b.n := by
  simp only [bookB, ordersB, Bool.and_eq_true, decide_eq_true_eq] at hv
  obtain ⟨r, hr⟩ := get_some b.os st hst
  have h1 := List.all_eq_true.1 hv.1.2.2 r (List.mem_of_getElem? hr)
  simp only [orderB, Bool.and_eq_true, decide_eq_true_eq] at h1
  obtain ⟨c, hc⟩ := get_some r t (by omega)
  rw [ownf_get hr hc]
  exact of_isN (List.all_eq_true.1 h1.2 c (List.mem_of_getElem? hc))
theorem mem_seg {lo hi t : Nat} : t ∈ seg lo hi ↔ lo ≤ t ∧ t ≤ hi := by
  simp only [seg, upto, List.mem_map, List.mem_range]
  constructor
  · rintro ⟨a, ha, rfl⟩; omega
  · intro h; exact ⟨t - lo, by omega, by omega⟩
theorem mem_ownersL {b : Bk} {st lo hi : Nat} {x : Int} : x ∈ ownersL b st lo hi ↔ ∃ t, lo ≤ t ∧ t ≤ hi ∧ ownf b.os st t = x := by
  unfold ownersL
  rw [(owners_facts _).1, List.mem_map]
  exact ⟨fun ⟨t, h1, h2⟩ => ⟨t, (mem_seg.1 h1).1, (mem_seg.1 h1).2, h2⟩, fun ⟨t, h1, h2, h3⟩ => ⟨t, mem_seg.2 ⟨h1, h2⟩, h3⟩⟩
theorem ownersL_rises {b : Bk} (hv : bookB b = true) {st lo hi : Nat} (hst : st < b.os.length) (hhi : hi ≤ b.bs.length) : risesB b.n 0 (ownersL b st lo hi) = true :=
  risesB_of _ _ (fun x hx => by
    obtain ⟨t, _, h2, rfl⟩ := mem_ownersL.1 hx
    exact ownf_co hv hst (by omega)) (owners_facts _).2
theorem ownersL_len (b : Bk) (st lo hi : Nat) : (ownersL b st lo hi).length ≤ hi + 1 := by
  unfold ownersL
  refine Nat.le_trans (Lib.compact_length_le _) ?_
  simp [seg, upto]
  try omega
/-- The bounds that a minute is past, by the book's own. -/
theorem cnt_tl (v : List Int) (h4 : v.length ≤ 4) (m : Int) (hm : m < 1440) : cnt (tl v) m = cnt v m := by
  rcases four v h4 with rfl | ⟨x, rfl⟩ | ⟨x, y, rfl⟩ | ⟨x, y, z, rfl⟩ | ⟨x, y, z, u, rfl⟩ <;> simp only [tl, List.getD_cons_zero, List.getD_cons_succ, List.getD_nil, cnt_cons, cnt_nil] <;> (repeat' split) <;> omega
/-- A row of the orders. -/
theorem row_at {w : World} {po : Option Addr} {os : List (List Int)} (h : RowsAt w po os) {st : Nat} (hst : st < os.length) : ∃ bb o q c, po = some ⟨bb, o, none⟩ ∧ bb < w.heap.size ∧ w.cell? ⟨bb, o + st, none⟩ = some (.slice q (os.getD st []).length c) ∧ IntsAt w q (os.getD st []) := by
  obtain ⟨r, hr⟩ := get_some os st hst
  obtain ⟨bb, o, h1, h2, q, c, h3, h4⟩ := h st r hr
  have e : os.getD st [] = r := by rw [List.getD_eq_getElem?_getD, hr]; rfl
  rw [e]
  exact ⟨bb, o, q, c, h1, h2, h3, h4⟩

end Go.Proofs.YtdmicngnbcdkdaaDoor

