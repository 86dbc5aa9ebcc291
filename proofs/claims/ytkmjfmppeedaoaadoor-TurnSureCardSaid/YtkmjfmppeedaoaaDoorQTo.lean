/- What is known of bounds, as plain numbers. -/
import Derived.Test.YtkmjfmppeedaoaaDoorQTe
set_option linter.unusedSimpArgs false
set_option linter.unusedVariables false
namespace Go.Proofs.YtkmjfmppeedaoaaDoor
open Go Go.RowKit

def soonL (l : List (Int × Int)) : List Int := [kspec l 2 0 0, kspec l 2 0 1, kspec l 2 0 2, kspec l 2 0 3]
def lateL (l : List (Int × Int)) : List Int := [kspec l 2 0 4, kspec l 2 0 5, kspec l 2 0 6, kspec l 2 0 7]

/-- The bounds that a minute is past, counted one by one. -/
theorem cnt_cons (t : Int) (l : List Int) (m : Int) : cnt (t :: l) m = (if t ≤ m then 1 else 0) + cnt l m := by
  unfold cnt
  by_cases h : t ≤ m <;> simp [List.filter_cons, h]; omega
theorem cnt_nil (m : Int) : cnt [] m = 0 := rfl

theorem kspec2 (l : List (Int × Int)) (j : Nat) (hj : j < 8) : kspec l 2 0 j = padv l (j / 4) (j % 4) := by
  unfold kspec; rw [if_pos (.inl (by omega))]
theorem soon_eq (l : List (Int × Int)) : soonL l = [(l.map Prod.fst).getD 0 1440, (l.map Prod.fst).getD 1 1440, (l.map Prod.fst).getD 2 1440, (l.map Prod.fst).getD 3 1440] := by
  simp [soonL, kspec2, padv]
theorem late_eq (l : List (Int × Int)) : lateL l = [(l.map Prod.snd).getD 0 1440, (l.map Prod.snd).getD 1 1440, (l.map Prod.snd).getD 2 1440, (l.map Prod.snd).getD 3 1440] := by
  simp [lateL, kspec2, padv]

/-- The four cases of a list of at most four. -/
theorem four {α : Type} (l : List α) (h : l.length ≤ 4) : l = [] ∨ (∃ a, l = [a]) ∨ (∃ a b, l = [a, b]) ∨ (∃ a b c, l = [a, b, c]) ∨ ∃ a b c d, l = [a, b, c, d] := by
  match l, h with
  | [], _ => exact .inl rfl
  | [a], _ => exact .inr (.inl ⟨a, rfl⟩)
  | [a, b], _ => exact .inr (.inr (.inl ⟨a, b, rfl⟩))
  | [a, b, c], _ => exact .inr (.inr (.inr (.inl ⟨a, b, c, rfl⟩)))
  | [a, b, c, d], _ => exact .inr (.inr (.inr (.inr ⟨a, b, c, d, rfl⟩)))
  | _ :: _ :: _ :: _ :: _ :: _, h => simp at h

theorem chain_facts {p : Int} {l : List (Int × Int)} (h : chainB p l = true) : ∀ s ∈ l, s.1 ≤ s.2 := by
  induction l generalizing p with
  | nil => simp
  | cons s l ih =>
    simp only [chainB, Bool.and_eq_true, decide_eq_true_eq] at h
    intro x hx
    rcases List.mem_cons.1 hx with rfl | hx
    · have := momB_iff.1 h.1.1; unfold Mom at this; omega
    · exact ih h.2 x hx

/-- What is past at the latest is past at the soonest, at a minute that is no sooner. -/
theorem cnt_late_soon (l : List (Int × Int)) (h4 : l.length ≤ 4) (hs : ∀ s ∈ l, s.1 ≤ s.2) (a b : Int) (hab : a ≤ b) : cnt (lateL l) a ≤ cnt (soonL l) b := by
  rw [soon_eq, late_eq]
  rcases four l h4 with rfl | ⟨x, rfl⟩ | ⟨x, y, rfl⟩ | ⟨x, y, z, rfl⟩ | ⟨x, y, z, u, rfl⟩ <;> simp only [List.mem_cons, List.not_mem_nil, or_false, forall_eq_or_imp, forall_eq] at hs <;> simp only [List.map_cons, List.map_nil, List.getD_cons_zero, List.getD_cons_succ, List.getD_nil, cnt_cons, cnt_nil] <;> (repeat' split) <;> omega
theorem cnt_soon_le (l : List (Int × Int)) (h4 : l.length ≤ 4) (b : Int) (hb : b < 1440) : cnt (soonL l) b ≤ l.length := by
  rw [soon_eq]
  rcases four l h4 with rfl | ⟨x, rfl⟩ | ⟨x, y, rfl⟩ | ⟨x, y, z, rfl⟩ | ⟨x, y, z, u, rfl⟩ <;> simp only [List.map_cons, List.map_nil, List.getD_cons_zero, List.getD_cons_succ, List.getD_nil, cnt_cons, cnt_nil, List.length_cons, List.length_nil] <;> (repeat' split) <;> omega

/-- What a valid book's shots are. -/
theorem bookB_shot {b : Bk} (hv : bookB b = true) {i : Nat} {s : Shot} (hi : b.ss[i]? = some s) : (0 ≤ s.st ∧ s.st < b.os.length) ∧ (0 ≤ s.co ∧ s.co < b.n) ∧ Mom s.lo s.hi := by
  simp only [bookB, shotsB, Bool.and_eq_true] at hv
  have := List.all_eq_true.1 hv.2.2 s (List.mem_of_getElem? hi)
  simp only [shotB, Bool.and_eq_true] at this
  exact ⟨of_isN this.1.1, of_isN this.1.2, momB_iff.1 this.2⟩
theorem bookB_bounds {b : Bk} (hv : bookB b = true) : b.bs.length ≤ 4 ∧ (∀ s ∈ b.bs, s.1 ≤ s.2) ∧ chainB (-1) b.bs = true := by
  simp only [bookB, boundsB, Bool.and_eq_true, decide_eq_true_eq] at hv
  exact ⟨hv.1.1.2.1, chain_facts hv.1.1.2.2, hv.1.1.2.2⟩
end Go.Proofs.YtkmjfmppeedaoaaDoor

