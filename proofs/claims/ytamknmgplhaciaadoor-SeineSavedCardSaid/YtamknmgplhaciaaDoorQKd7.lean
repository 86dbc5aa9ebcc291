/- The walk of SeineSaved, whole. Written by gen_saved.py. -/
import Derived.Test.YtamknmgplhaciaaDoorQKd1
import Derived.Test.YtamknmgplhaciaaDoorQKd3
import Derived.Test.YtamknmgplhaciaaDoorQKd
import Derived.Test.YtamknmgplhaciaaDoorQPg
import Derived.Test.YtamknmgplhaciaaDoorQPe
set_option linter.unusedSimpArgs false
set_option linter.unusedVariables false
namespace Go.Proofs.YtamknmgplhaciaaDoor
open Go Go.RowKit Go.Shelf
attribute [local go_sem] Oper.semAt_some frozen_alloc_lt
theorem SeineSaved_any (b : Sn) (p : Option Addr) (c : Nat) (w : World) (hk : SBk w b p) (hc : SBc b p c) :
    Calls Tryd.prog 10 #[bV b p c] w fun e w' => e = .returned (.bool true) ∧ ∃ x, w' = ext w x := by
  cases hv : snB b with
  | false => exact SeineSaved_bad b p c w hk hv
  | true =>
  by_cases h8 : b.ns.length = 8
  · exact SeineSaved_full b p c w hk hv h8
  have hok := Ok9.of hv
  have hl := lastN_bd hok
  have hmn : ntB (mendN (lastN b.ns)) = true := by
    simp [ntB, noteB, spanB, inB, mostOf]
    omega
  have hw := Ok9.with hv hmn
  have hvm := snB_with hv hmn (by have := snB_len hv; omega)
  have hrm := mend_right hok (h := lastN b.ns) (Int.le_refl _)
  have hem : b.ns = [] ∨ ∃ (k : Nat) (t : Nt), b.ns.length = k + 1 ∧ b.ns[k]? = some t := by
    cases hl : b.ns.length with
    | zero => exact .inl (List.eq_nil_of_length_eq_zero hl)
    | succ k =>
      obtain ⟨t, ht⟩ := get_some b.ns k (by omega)
      exact .inr ⟨k, t, rfl, ht⟩
  cases hr : rightS b with
  | false =>
    rw [hr] at hrm
    rcases hem with hem | ⟨k, t, hnk, ht⟩
    · exact SeineSaved_no0 b p c _ w hk hc hv h8 rfl hem hr hrm hvm
    · exact SeineSaved_no1 b p c _ w hk hc hv h8 rfl k t hnk ht hr hrm hvm
  | true =>
    rw [hr] at hrm
    have E1 := ends_held hok hr (lastN b.ns)
    have E2 := ends_held hok hr 60
    have E3 := ends_rate hok hr (lastN b.ns)
    have E4 := ends_saved hok hr (lastN b.ns) (60 - lastN b.ns)
    obtain ⟨f0, f1, f2, f3, f4, f5, f6⟩ := saved_facts hok E1 E2 E3 E4
    obtain ⟨m1, m2⟩ := (ends_held hw hrm 60).uniq (mend_held hok (Int.le_refl _) hl.2 hw hl.1 E1)
    have bd : ∀ {h l u : Int}, Ends b (fun f => (At b f h).1) l u → (0 ≤ l ∧ l ≤ 400) ∧ 0 ≤ u ∧ u ≤ 400 := fun {h l u} E => by
      obtain ⟨g1, p1, e1⟩ := E.low
      obtain ⟨g2, p2, e2⟩ := E.high
      try dsimp only at e1 e2
      rw [← e1, ← e2]
      exact ⟨(At_bd hok p1 h).1, (At_bd hok p2 h).1⟩
    rcases hem with hem | ⟨k, t, hnk, ht⟩
    · exact SeineSaved_yes0 b p c _ w hk hc hv h8 rfl hem _ _ _ _ _ _ _ _ hr hrm hvm rfl rfl rfl rfl rfl rfl rfl rfl m1 m2 f0 f1 f2 f3 f4 f5 f6 (bd E1).1 (bd E1).2 (bd E2).2
    · exact SeineSaved_yes1 b p c _ w hk hc hv h8 rfl k t hnk ht _ _ _ _ _ _ _ _ hr hrm hvm rfl rfl rfl rfl rfl rfl rfl rfl m1 m2 f0 f1 f2 f3 f4 f5 f6 (bd E1).1 (bd E1).2 (bd E2).2
end Go.Proofs.YtamknmgplhaciaaDoor

