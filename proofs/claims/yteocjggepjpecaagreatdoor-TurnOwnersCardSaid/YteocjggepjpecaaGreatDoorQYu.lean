/- Plain facts: what the runs of minutes are, and how many there are at most. -/
import Derived.Test.YteocjggepjpecaaGreatDoorQXa0
import Derived.Test.YteocjggepjpecaaGreatDoorQVa
set_option linter.unusedSimpArgs false
set_option linter.unusedVariables false
namespace Go.Proofs.YteocjggepjpecaaGreatDoor
open Go Go.RowKit

structure RunsOK (ok : Nat → Bool) (k : Nat) (l : List (Int × Int)) : Prop where
  bd : ∀ r ∈ l, 0 ≤ r.1 ∧ r.1 ≤ r.2 ∧ r.2 < (k : Int)
  yes : ∀ r ∈ l, ∀ t : Nat, r.1 ≤ (t : Int) → (t : Int) ≤ r.2 → ok t = true
  pair : l.Pairwise fun a b => a.2 + 2 ≤ b.1
  pre : ∀ r ∈ l, ∀ t : Nat, (t : Int) + 1 = r.1 → ok t = false
  post : ∀ r ∈ l, ∀ t : Nat, (t : Int) = r.2 + 1 → t < k → ok t = false
  all : ∀ t : Nat, t < k → ok t = true → ∃ r ∈ l, r.1 ≤ (t : Int) ∧ (t : Int) ≤ r.2

theorem runs_ok (ok : Nat → Bool) : ∀ k, RunsOK ok k (runsTo ok k)
  | 0 => ⟨by simp [runsTo], by simp [runsTo], by simp [runsTo], by simp [runsTo], by simp [runsTo], by intro t ht; omega⟩
  | k + 1 => by
    have ih := runs_ok ok k
    unfold runsTo
    cases hk : ok k with
    | false =>
      rw [if_neg (by simp)]
      refine ⟨fun r hr => ?_, ih.yes, ih.pair, ih.pre, fun r hr t ht hlt => ?_, fun t ht hy => ?_⟩
      · have := ih.bd r hr; omega
      · by_cases e : t = k
        · subst e; exact hk
        · exact ih.post r hr t ht (by omega)
      · by_cases e : t = k
        · subst e; rw [hk] at hy; cases hy
        · exact ih.all t (by omega) hy
    | true =>
      rw [if_pos rfl]
      generalize runsTo ok k = l at *
      rcases List.eq_nil_or_concat l with rfl | ⟨i, ⟨x, y⟩, rfl⟩
      · rw [addMin_nil]
        refine ⟨?_, ?_, by simp, ?_, ?_, ?_⟩
        · intro r hr; simp at hr; subst hr; dsimp only; omega
        · intro r hr t h1 h2
          simp at hr; subst hr; dsimp only at h1 h2
          obtain rfl : t = k := by omega
          exact hk
        · intro r hr t h1
          simp at hr; subst hr; dsimp only at h1
          cases ht : ok t with
          | false => rfl
          | true => obtain ⟨r, hr, _⟩ := ih.all t (by omega) ht; cases hr
        · intro r hr t h1 h2
          simp at hr; subst hr; dsimp only at h1; omega
        · intro t ht hy
          by_cases e : t = k
          · subst e; exact ⟨((t : Int), (t : Int)), by simp, by dsimp only; omega, by dsimp only; omega⟩
          · obtain ⟨r, hr, _⟩ := ih.all t (by omega) hy; cases hr
      · rw [List.concat_eq_append] at *
        have hlast := ih.bd (x, y) (by simp)
        dsimp only at hlast
        have hp := ih.pair
        rw [List.pairwise_append] at hp
        have hinit : ∀ a ∈ i, a.2 + 2 ≤ x := fun a ha => hp.2.2 a ha (x, y) (by simp)
        by_cases hy : y = (k : Int) - 1
        · rw [addMin_grow _ _ _ _ hy]
          refine ⟨?_, ?_, ?_, ?_, ?_, ?_⟩
          · intro r hr
            rcases List.mem_append.1 hr with hr | hr
            · have := ih.bd r (by simp [hr]); omega
            · simp at hr; subst hr; dsimp only; omega
          · intro r hr t h1 h2
            rcases List.mem_append.1 hr with hr | hr
            · exact ih.yes r (by simp [hr]) t h1 h2
            · simp at hr; subst hr; dsimp only at h1 h2
              by_cases e : t = k
              · subst e; exact hk
              · exact ih.yes (x, y) (by simp) t h1 (by dsimp only; omega)
          · rw [List.pairwise_append]
            exact ⟨hp.1, by simp, fun a ha b hb => by simp at hb; subst hb; exact hinit a ha⟩
          · intro r hr t h1
            rcases List.mem_append.1 hr with hr | hr
            · exact ih.pre r (by simp [hr]) t h1
            · simp at hr; subst hr; exact ih.pre (x, y) (by simp) t h1
          · intro r hr t h1 h2
            rcases List.mem_append.1 hr with hr | hr
            · have := hinit r hr
              exact ih.post r (by simp [hr]) t h1 (by omega)
            · simp at hr; subst hr; dsimp only at h1; omega
          · intro t ht hyy
            by_cases e : t = k
            · subst e; exact ⟨(x, (t : Int)), by simp, by dsimp only; omega, by dsimp only; omega⟩
            · obtain ⟨r, hr, h1, h2⟩ := ih.all t (by omega) hyy
              rcases List.mem_append.1 hr with hr | hr
              · exact ⟨r, by simp [hr], h1, h2⟩
              · simp at hr; subst hr; dsimp only at h1 h2
                exact ⟨(x, (k : Int)), by simp, by dsimp only; omega, by dsimp only; omega⟩
        · rw [addMin_new _ _ _ _ hy]
          have hall : ∀ a ∈ i ++ [(x, y)], a.2 + 2 ≤ (k : Int) := by
            intro a ha
            rcases List.mem_append.1 ha with ha | ha
            · have := hinit a ha; omega
            · simp at ha; subst ha; dsimp only; omega
          refine ⟨?_, ?_, ?_, ?_, ?_, ?_⟩
          · intro r hr
            rcases List.mem_append.1 hr with hr | hr
            · have := ih.bd r hr; omega
            · simp at hr; subst hr; dsimp only; omega
          · intro r hr t h1 h2
            rcases List.mem_append.1 hr with hr | hr
            · exact ih.yes r hr t h1 h2
            · simp at hr; subst hr; dsimp only at h1 h2
              obtain rfl : t = k := by omega
              exact hk
          · rw [List.pairwise_append]
            exact ⟨ih.pair, by simp, fun a ha b hb => by simp at hb; subst hb; exact hall a ha⟩
          · intro r hr t h1
            rcases List.mem_append.1 hr with hr | hr
            · exact ih.pre r hr t h1
            · simp at hr; subst hr; dsimp only at h1
              cases ht : ok t with
              | false => rfl
              | true =>
                obtain ⟨r, hr, _, h3⟩ := ih.all t (by omega) ht
                have := hall r hr
                omega
          · intro r hr t h1 h2
            rcases List.mem_append.1 hr with hr | hr
            · have := hall r hr
              exact ih.post r hr t h1 (by omega)
            · simp at hr; subst hr; dsimp only at h1; omega
          · intro t ht hyy
            by_cases e : t = k
            · subst e; exact ⟨((t : Int), (t : Int)), by simp, by dsimp only; omega, by dsimp only; omega⟩
            · obtain ⟨r, hr, h1, h2⟩ := ih.all t (by omega) hyy
              exact ⟨r, by simp only [List.mem_append]; exact .inl (by simpa using hr), h1, h2⟩

theorem rising_len : ∀ (l : List Nat) (lo B : Nat), l.Pairwise (· < ·) → (∀ x ∈ l, lo ≤ x ∧ x ≤ B) → l.length ≤ B + 1 - lo
  | [], _, _, _, _ => by simp
  | x :: l, lo, B, hp, hb => by
    rw [List.pairwise_cons] at hp
    have h1 := hb x (by simp)
    have h2 := rising_len l (x + 1) B hp.2 (fun y hy => ⟨hp.1 y hy, (hb y (by simp [hy])).2⟩)
    simp only [List.length_cons]
    omega
/-- There are no more runs than bounds, and one. -/
theorem runs_few {b : Bk} (hv : bookB b = true) (st : Nat) (co : Int) : (runsTo (onlyAt b st co) 1440).length ≤ b.bs.length + 1 := by
  have h := runs_ok (onlyAt b st co) 1440
  generalize runsTo (onlyAt b st co) 1440 = l at h
  have h4 := (bookB_bounds hv).1
  have hp : (l.map fun r => cnt (b.bs.map Prod.snd) r.2).Pairwise (· < ·) := by
    rw [List.pairwise_map]
    refine h.pair.imp_of_mem (fun {a c} ha hc hac => ?_)
    have ba := h.bd a ha
    have bc := h.bd c hc
    obtain ⟨t, et⟩ := Int.eq_ofNat_of_zero_le (show 0 ≤ a.2 + 1 by omega)
    obtain ⟨u, eu⟩ := Int.eq_ofNat_of_zero_le (show 0 ≤ c.2 by omega)
    have h1 := h.post a ha t (by omega) (by omega)
    have h2 := h.yes c hc u (by omega) (by omega)
    have m1 := cnt_mono (b.bs.map Prod.snd) a.2 c.2 (by omega)
    refine Nat.lt_of_le_of_ne m1 (fun e => ?_)
    have m2 := cnt_mono (b.bs.map Prod.snd) a.2 (t : Int) (by omega)
    have m3 := cnt_mono (b.bs.map Prod.snd) (t : Int) (u : Int) (by omega)
    have m4 := cnt_mono (b.bs.map Prod.fst) (t : Int) (u : Int) (by omega)
    rw [← eu] at m3 m4
    unfold onlyAt at h1 h2
    rw [late_tl, soon_tl, cnt_tl _ (by simpa using h4) _ (by omega), cnt_tl _ (by simpa using h4) _ (by omega)] at h1 h2
    rw [List.all_eq_true] at h2
    have h3 : (seg (cnt (b.bs.map Prod.snd) (t : Int)) (cnt (b.bs.map Prod.fst) (t : Int))).all (fun t => ownf b.os st t == co) = true := by
      rw [List.all_eq_true]
      intro x hx
      refine h2 x (mem_seg.2 ?_)
      have := mem_seg.1 hx
      rw [← eu]
      omega
    rw [h3] at h1
    cases h1
  have := rising_len _ 0 b.bs.length hp (fun x hx => by
    obtain ⟨r, _, rfl⟩ := List.mem_map.1 hx
    have := cnt_le (b.bs.map Prod.snd) r.2
    simp at this
    omega)
  simpa using this
/-- Nobody else can have the turn. -/
theorem only_owner {b : Bk} {st lo hi : Nat} {co : Int} (hle : lo ≤ hi) : decide (ownersL b st lo hi = [co]) = (seg lo hi).all fun t => ownf b.os st t == co := by
  rw [Bool.eq_iff_iff, decide_eq_true_eq, List.all_eq_true]
  constructor
  · intro h t ht
    have h1 : ownf b.os st t ∈ ownersL b st lo hi := mem_ownersL.2 ⟨t, (mem_seg.1 ht).1, (mem_seg.1 ht).2, rfl⟩
    rw [h] at h1
    simpa using h1
  · intro h
    have hall : ∀ x ∈ ownersL b st lo hi, x = co := by
      intro x hx
      obtain ⟨t, h1, h2, rfl⟩ := mem_ownersL.1 hx
      exact eq_of_beq (h t (mem_seg.2 ⟨h1, h2⟩))
    have hin : ownf b.os st lo ∈ ownersL b st lo hi := mem_ownersL.2 ⟨lo, Nat.le_refl _, hle, rfl⟩
    have hp : (ownersL b st lo hi).Pairwise (· < ·) := (owners_facts _).2
    match hL : ownersL b st lo hi with
    | [] => rw [hL] at hin; cases hin
    | [x] => rw [hall x (by rw [hL]; simp)]
    | x :: y :: l =>
      have e1 := hall x (by rw [hL]; simp)
      have e2 := hall y (by rw [hL]; simp)
      rw [hL, List.pairwise_cons] at hp
      have := hp.1 y (by simp)
      omega
end Go.Proofs.YteocjggepjpecaaGreatDoor

