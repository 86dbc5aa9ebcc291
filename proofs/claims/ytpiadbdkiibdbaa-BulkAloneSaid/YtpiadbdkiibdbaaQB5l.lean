/- Package bulk, plainly: the ends of what is asked of a lot, out of the two ends of its loads. Written by gen_b5l.py. -/
import Derived.Test.YtpiadbdkiibdbaaQB5k
import Derived.Test.YtpiadbdkiibdbaaQB5p
set_option linter.unusedSimpArgs false
set_option linter.unusedVariables false
namespace Go.Proofs.Ytpiadbdkiibdbaa
open Go Go.RowKit
theorem lsF_spec (g : Int × Int → Int) : ∀ (l : List (Int × Int)) (a : Int), (∀ x ∈ l, l.foldl (fun a x => min a (g x)) a ≤ g x) ∧ l.foldl (fun a x => min a (g x)) a ≤ a ∧ (l.foldl (fun a x => min a (g x)) a = a ∨ ∃ x ∈ l, l.foldl (fun a x => min a (g x)) a = g x)
  | [], a => ⟨fun x hx => by simp at hx, Int.le_refl _, .inl rfl⟩
  | y :: l, a => by
    obtain ⟨h1, h2, h3⟩ := lsF_spec g l (min a (g y))
    rw [List.foldl_cons]
    generalize l.foldl (fun a x => min a (g x)) (min a (g y)) = r at *
    refine ⟨fun x hx => ?_, by omega, ?_⟩
    · rcases List.mem_cons.1 hx with rfl | h
      · omega
      · exact h1 x h
    · rcases h3 with h3 | ⟨x, hx, h3⟩
      · rcases Int.le_total a (g y) with h | h
        · exact .inl (by omega)
        · exact .inr ⟨y, by simp, by omega⟩
      · exact .inr ⟨x, by simp [hx], h3⟩
theorem gtF_spec (g : Int × Int → Int) : ∀ (l : List (Int × Int)) (a : Int), (∀ x ∈ l, g x ≤ l.foldl (fun a x => max a (g x)) a) ∧ a ≤ l.foldl (fun a x => max a (g x)) a ∧ (l.foldl (fun a x => max a (g x)) a = a ∨ ∃ x ∈ l, l.foldl (fun a x => max a (g x)) a = g x)
  | [], a => ⟨fun x hx => by simp at hx, Int.le_refl _, .inl rfl⟩
  | y :: l, a => by
    obtain ⟨h1, h2, h3⟩ := gtF_spec g l (max a (g y))
    rw [List.foldl_cons]
    generalize l.foldl (fun a x => max a (g x)) (max a (g y)) = r at *
    refine ⟨fun x hx => ?_, by omega, ?_⟩
    · rcases List.mem_cons.1 hx with rfl | h
      · omega
      · exact h1 x h
    · rcases h3 with h3 | ⟨x, hx, h3⟩
      · rcases Int.le_total a (g y) with h | h
        · exact .inr ⟨y, by simp, by omega⟩
        · exact .inl (by omega)
      · exact .inr ⟨x, by simp [hx], h3⟩
/-- The least of numbers that are all within limits is one of them. -/
theorem lsF_in {g : Int × Int → Int} {l : List (Int × Int)} (hn : l ≠ []) (hb : ∀ x ∈ l, g x ≤ 400) : (∀ x ∈ l, lsF g l ≤ g x) ∧ ∃ x ∈ l, lsF g l = g x := by
  obtain ⟨h1, h2, h3⟩ := lsF_spec g l 400
  refine ⟨h1, ?_⟩
  rcases h3 with h3 | h3
  · obtain ⟨x, hx⟩ := List.exists_mem_of_ne_nil _ hn
    exact ⟨x, hx, by unfold lsF; have := h1 x hx; have := hb x hx; omega⟩
  · exact h3
theorem gtF_in {g : Int × Int → Int} {l : List (Int × Int)} (hn : l ≠ []) (hb : ∀ x ∈ l, 0 ≤ g x) : (∀ x ∈ l, g x ≤ gtF g l) ∧ ∃ x ∈ l, gtF g l = g x := by
  obtain ⟨h1, h2, h3⟩ := gtF_spec g l 0
  refine ⟨h1, ?_⟩
  rcases h3 with h3 | h3
  · obtain ⟨x, hx⟩ := List.exists_mem_of_ne_nil _ hn
    exact ⟨x, hx, by unfold gtF; have := h1 x hx; have := hb x hx; omega⟩
  · exact h3
/-- A question rises with the fish alone, or with what is packed alone. -/
theorem num_way (q : Qs) (m : Ms) (hm : MsOK m) (hq : ∀ k, q = .count k → k < 3) : ∃ (s : Bool) (φ : Int → Int), (∀ l, q.num m l = φ (if s then l.2 else l.1)) ∧ (∀ x y, x ≤ y → φ x ≤ φ y) ∧ ∀ x, 0 ≤ x → 0 ≤ φ x ∧ φ x ≤ x := by
  cases q with
  | fish => exact ⟨false, id, fun l => rfl, fun x y h => h, fun x h => ⟨h, Int.le_refl _⟩⟩
  | packed => exact ⟨true, id, fun l => rfl, fun x y h => h, fun x h => ⟨h, Int.le_refl _⟩⟩
  | count k =>
    have h1 : 1 ≤ m.at k := (hm.at k).1
    refine ⟨!decide (k < 2), fun x => enoughI x (m.at k), fun l => ?_, fun x y h => enoughI_mono h1 h, fun x h => ⟨enoughI_nonneg h h1, enoughI_self h h1⟩⟩
    show cntI m k l = _
    unfold cntI
    by_cases h : k < 2 <;> simp [h]
/-- The ends of what is asked of a lot: of the two ends of its loads. -/
theorem ends_of (b : Ck) (m : Ms) (t : Lt) (q : Qs) (dn : List (Int × Int)) (hm : MsOK m) (hq : ∀ k, q = .count k → k < 3) (hc : canB b m t = true) (hin : ∀ l ∈ loadsL b m t, (0 ≤ l.1 ∧ l.1 ≤ 400) ∧ 0 ≤ l.2 ∧ l.2 ≤ 400) (hd : ∀ z, z ∈ dn ↔ z ∈ endsOf (loadsL b m t)) :
    EndsL b m t (q.num m) (lsF (q.num m) dn) (gtF (q.num m) dn) := by
  obtain ⟨s, φ, hφ, hmono, hbd⟩ := num_way q m hm hq
  have hne : loadsL b m t ≠ [] := by
    unfold canB at hc
    rw [Bool.not_eq_true', List.isEmpty_eq_false_iff_exists_mem] at hc
    obtain ⟨x, hx⟩ := hc
    exact List.ne_nil_of_mem hx
  obtain ⟨f1, f2, hf2, ef2⟩ := lsF_in (g := Prod.fst) hne (fun x hx => (hin x hx).1.2)
  obtain ⟨p1, p2, hp2, ep2⟩ := lsF_in (g := Prod.snd) hne (fun x hx => (hin x hx).2.2)
  obtain ⟨F1, F2, hF2, eF2⟩ := gtF_in (g := Prod.fst) hne (fun x hx => (hin x hx).1.1)
  obtain ⟨P1, P2, hP2, eP2⟩ := gtF_in (g := Prod.snd) hne (fun x hx => (hin x hx).2.1)
  have hA : (lsF Prod.fst (loadsL b m t), lsF Prod.snd (loadsL b m t)) ∈ dn := (hd _).2 (by simp [endsOf])
  have hB : (gtF Prod.fst (loadsL b m t), gtF Prod.snd (loadsL b m t)) ∈ dn := (hd _).2 (by simp [endsOf])
  have hall : ∀ z ∈ dn, ∃ l ∈ loadsL b m t, q.num m z = q.num m l := by
    intro z hz
    have := (hd z).1 hz
    unfold endsOf at this
    simp only [List.mem_cons, List.not_mem_nil, or_false] at this
    rcases this with rfl | rfl
    · cases s
      · exact ⟨F2, hF2, by rw [hφ, hφ]; simp [eF2]⟩
      · exact ⟨P2, hP2, by rw [hφ, hφ]; simp [eP2]⟩
    · cases s
      · exact ⟨f2, hf2, by rw [hφ, hφ]; simp [ef2]⟩
      · exact ⟨p2, hp2, by rw [hφ, hφ]; simp [ep2]⟩
  have hnb : ∀ l ∈ loadsL b m t, 0 ≤ q.num m l ∧ q.num m l ≤ 400 := by
    intro l hl
    obtain ⟨⟨a1, a2⟩, a3, a4⟩ := hin l hl
    rw [hφ]
    cases s
    · have := hbd l.1 a1; simp; omega
    · have := hbd l.2 a3; simp; omega
  have hdb : ∀ z ∈ dn, 0 ≤ q.num m z ∧ q.num m z ≤ 400 := by
    intro z hz
    obtain ⟨l, hl, e⟩ := hall z hz
    rw [e]; exact hnb l hl
  have hdn : dn ≠ [] := List.ne_nil_of_mem hA
  obtain ⟨l1, x, hx, ex⟩ := lsF_in (g := q.num m) hdn (fun z hz => (hdb z hz).2)
  obtain ⟨g1, y, hy, ey⟩ := gtF_in (g := q.num m) hdn (fun z hz => (hdb z hz).1)
  have hlow : ∀ l ∈ loadsL b m t, lsF (q.num m) dn ≤ q.num m l ∧ q.num m l ≤ gtF (q.num m) dn := by
    intro l hl
    have a1 := l1 _ hA
    have a2 := g1 _ hB
    have b1 := f1 l hl
    have b2 := p1 l hl
    have b3 := F1 l hl
    have b4 := P1 l hl
    have c1 : q.num m (lsF Prod.fst (loadsL b m t), lsF Prod.snd (loadsL b m t)) ≤ q.num m l := by
      rw [hφ, hφ]; exact hmono _ _ (by cases s <;> simp <;> assumption)
    have c2 : q.num m l ≤ q.num m (gtF Prod.fst (loadsL b m t), gtF Prod.snd (loadsL b m t)) := by
      rw [hφ, hφ]; exact hmono _ _ (by cases s <;> simp <;> assumption)
    omega
  refine ⟨?_, ?_, fun l hl => hlow l (mem_loadsL.2 hl)⟩
  · obtain ⟨l, hl, e⟩ := hall x hx
    exact ⟨l, mem_loadsL.1 hl, by rw [ex, e]⟩
  · obtain ⟨l, hl, e⟩ := hall y hy
    exact ⟨l, mem_loadsL.1 hl, by rw [ey, e]⟩
end Go.Proofs.Ytpiadbdkiibdbaa

