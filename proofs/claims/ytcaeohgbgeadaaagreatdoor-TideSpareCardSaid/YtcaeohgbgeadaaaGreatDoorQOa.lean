/- Package tide, plainly: the tides that can be spared. -/
import Derived.Test.YtcaeohgbgeadaaaGreatDoorQEv
set_option linter.unusedSimpArgs false
set_option linter.unusedVariables false
namespace Go.Proofs.YtcaeohgbgeadaaaGreatDoor
open Go Go.RowKit Go.Shelf
theorem sprL_sub (h : Hl) (pl : List Int) : ∀ n, (sprL h pl n).Sublist (pl.take n)
  | 0 => by simp [sprL]
  | n + 1 => by
    cases hp : pl[n]? with
    | none =>
      have e : sprL h pl (n + 1) = sprL h pl n := by conv => lhs; unfold sprL
                                                     simp [hp]
      have hn := List.getElem?_eq_none_iff.1 hp
      have e2 : pl.take (n + 1) = pl.take n := by rw [List.take_of_length_le (show pl.length ≤ n + 1 by omega), List.take_of_length_le hn]
      rw [e, e2]
      exact sprL_sub h pl n
    | some t =>
      have ht : pl.take (n + 1) = pl.take n ++ [t] := by rw [List.take_add_one, hp]; rfl
      rw [ht]
      by_cases hq : ansHi h 1 (pl.eraseIdx n) ≤ ansHi h 1 pl
      · rw [sprL_yes hp hq]
        exact (sprL_sub h pl n).append (List.Sublist.refl _)
      · rw [sprL_no hp hq]
        exact (sprL_sub h pl n).trans (List.sublist_append_left _ _)
/-- The best plan has no tide that can be spared. -/
theorem best_spare {h : Hl} (k : h.OK) {pl : List Int} (hb : IsBest h pl) (n : Nat) : sprL h pl n = [] := by
  rw [List.eq_nil_iff_forall_not_mem]
  intro t ht
  obtain ⟨i, hi, hi2, h3⟩ := mem_sprL.1 ht
  have hp := plan_erase k.rs.1 hb.1 i
  have h1 := hb.lost hp
  have h2 := hb.2 _ hp
  have hlt := (List.getElem?_eq_some_iff.1 hi2).1
  have hlen : (pl.eraseIdx i).length < pl.length := by rw [List.length_eraseIdx_of_lt hlt]; omega
  unfold betterB fewerB at h2
  have e1 : ansHi h 1 (pl.eraseIdx i) = ansHi h 1 pl := by omega
  simp [e1, hlen] at h2
/-- A tide of a plan can be spared just if the most that are lost stay. -/
theorem spare_iff {h : Hl} (k : h.OK) {pl : List Int} (hp : planB h.b.ts h.b.most h.b.rest pl = true) {i : Nat} {t : Int} (hi : pl[i]? = some t) : (ansHi h 1 (pl.eraseIdx i) = ansHi h 1 pl ↔ t ∈ sprL h pl pl.length) ∧ ansHi h 1 pl ≤ ansHi h 1 (pl.eraseIdx i) := by
  have hle := (ends_erase k hp i).2.1.2
  refine ⟨⟨fun e => mem_sprL.2 ⟨i, (List.getElem?_eq_some_iff.1 hi).1, hi, by omega⟩, fun hm => ?_⟩, hle⟩
  obtain ⟨j, hj, hj2, h3⟩ := mem_sprL.1 hm
  have hpw := plan_inc k.rs.1 hp
  obtain ⟨hi1, hi2⟩ := List.getElem?_eq_some_iff.1 hi
  obtain ⟨hj1, hj3⟩ := List.getElem?_eq_some_iff.1 hj2
  have hij : i = j := by
    rcases Nat.lt_trichotomy i j with h1 | h1 | h1
    · have := List.pairwise_iff_getElem.1 hpw i j hi1 hj1 h1; omega
    · exact h1
    · have := List.pairwise_iff_getElem.1 hpw j i hj1 hi1 h1; omega
  subst hij
  omega
theorem spare_rises {h : Hl} (k : h.OK) {pl : List Int} (hp : planB h.b.ts h.b.most h.b.rest pl = true) : (sprL h pl pl.length).Pairwise (· < ·) ∧ (∀ x ∈ sprL h pl pl.length, x ∈ pl ∧ 0 ≤ x ∧ x < (h.b.ts.length : Int)) := by
  have hs := sprL_sub h pl pl.length
  rw [List.take_of_length_le (Nat.le_refl _)] at hs
  exact ⟨(plan_inc k.rs.1 hp).sublist hs, fun x hx => ⟨hs.subset hx, ((planB_iff k.rs.1).1 hp).2.1 x (hs.subset hx)⟩⟩
end Go.Proofs.YtcaeohgbgeadaaaGreatDoor

