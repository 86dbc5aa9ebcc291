/- Package tide, plainly: each plan is drawn by some set; a later gale leaves no more. -/
import Derived.Test.YtcaeohgbgeadaaaGreatDoorQOf
set_option linter.unusedSimpArgs false
set_option linter.unusedVariables false
namespace Go.Proofs.YtcaeohgbgeadaaaGreatDoor
open Go Go.RowKit Go.Shelf
theorem set_of (f : Nat → Bool) : ∀ n, ∃ z, z < 2 ^ n ∧ ∀ k, k < n → z.testBit k = f k := by
  intro n
  induction n generalizing f with
  | zero => exact ⟨0, by simp, fun k hk => by omega⟩
  | succ n ih =>
    obtain ⟨z, h1, h2⟩ := ih (fun k => f (k + 1))
    refine ⟨2 * z + (f 0).toNat, ?_, fun k hk => ?_⟩
    · have : (f 0).toNat ≤ 1 := by cases f 0 <;> simp
      rw [Nat.pow_succ]
      omega
    · cases k with
      | zero =>
        rw [Nat.testBit_zero]
        cases f 0 <;> simp <;> omega
      | succ k =>
        rw [Nat.testBit_succ, show (2 * z + (f 0).toNat) / 2 = z by cases f 0 <;> simp <;> omega]
        exact h2 k (by omega)
theorem rises_ext : ∀ {l m : List Int}, l.Pairwise (· < ·) → m.Pairwise (· < ·) → (∀ x, x ∈ l ↔ x ∈ m) → l = m
  | [], [], _, _, _ => rfl
  | [], y :: m, _, _, h => absurd ((h y).2 (by simp)) (by simp)
  | x :: l, [], _, _, h => absurd ((h x).1 (by simp)) (by simp)
  | x :: l, y :: m, hl, hm, h => by
    rw [List.pairwise_cons] at hl hm
    have e : x = y := by
      have h1 := (h x).1 (by simp)
      have h2 := (h y).2 (by simp)
      rcases List.mem_cons.1 h1 with h1 | h1
      · exact h1
      · rcases List.mem_cons.1 h2 with h2 | h2
        · exact h2.symm
        · have := hm.1 x h1; have := hl.1 y h2; omega
    subst e
    rw [rises_ext hl.2 hm.2 (fun z => ?_)]
    constructor
    · intro hz
      rcases List.mem_cons.1 ((h z).1 (by simp [hz])) with e | e
      · have := hl.1 z hz; omega
      · exact e
    · intro hz
      rcases List.mem_cons.1 ((h z).2 (by simp [hz])) with e | e
      · have := hm.1 z hz; omega
      · exact e
theorem draw_self {b : Tk} {pl : List Int} (hr : 0 ≤ b.rest) (h : planB b.ts b.most b.rest pl = true) : ∀ k, k ≤ pl.length → drawT b pl k = pl.take k
  | 0, _ => by simp [drawT]
  | k + 1, hk => by
    obtain ⟨x, hx⟩ := get_some pl k (by omega)
    have ih := draw_self hr h k (by omega)
    have hp := (planB_iff hr).1 h
    have hc : canT b (drawT b pl k) x = true := by
      unfold canT
      rw [ih]
      have h1 : ((pl.take k).length : Int) < b.most := by rw [List.length_take]; have := hp.1; omega
      rw [Bool.and_eq_true, decide_eq_true_eq]
      refine ⟨h1, ?_⟩
      cases k with
      | zero => simp
      | succ j =>
        obtain ⟨y, hy⟩ := get_some pl j (by omega)
        have hl : (pl.take (j + 1)).getLast? = some y := by
          rw [List.getLast?_eq_getElem?, List.length_take, show min (j + 1) pl.length - 1 = j by omega, List.getElem?_take_of_lt (by omega), hy]
        rw [hl]
        dsimp only
        obtain ⟨i1, e1⟩ := List.getElem?_eq_some_iff.1 hy
        obtain ⟨i2, e2⟩ := List.getElem?_eq_some_iff.1 hx
        have hf := List.pairwise_iff_getElem.1 hp.2.2 j (j + 1) i1 i2 (by omega)
        rw [e1, e2] at hf
        obtain ⟨-, s, t, hs, ht, hd⟩ := follows_is hf
        unfold hourT
        rw [hs, ht]
        simp only [decide_eq_true_eq]
        omega
    rw [drawT_yes hx hc, ih, List.take_add_one, hx]
    rfl
/-- Each plan is drawn by some set. -/
theorem drawn_some {b : Tk} {pl : List Int} (hr : 0 ≤ b.rest) (h : planB b.ts b.most b.rest pl = true) : ∃ z, z < 2 ^ b.ts.length ∧ drawT b (bitsL z b.ts.length) (bitsL z b.ts.length).length = pl := by
  obtain ⟨z, h1, h2⟩ := set_of (fun k => decide ((k : Int) ∈ pl)) b.ts.length
  have hp := (planB_iff hr).1 h
  have e : bitsL z b.ts.length = pl := by
    refine rises_ext (bitsL_rises _ _) (plan_inc hr h) fun x => ?_
    rw [mem_bitsL]
    constructor
    · rintro ⟨k, hk, hb, rfl⟩
      rw [h2 k hk] at hb
      simpa using hb
    · intro hx
      have := hp.2.1 x hx
      obtain ⟨k, rfl⟩ := Int.eq_ofNat_of_zero_le this.1
      exact ⟨k, by omega, by rw [h2 k (by omega)]; simpa using hx, rfl⟩
  exact ⟨z, h1, by rw [e, draw_self hr h _ (Nat.le_refl _), List.take_of_length_le (Nat.le_refl _)]⟩
theorem haul_at (b : Tk) (g : Int) : haulOf (b.at g) = (haulOf b).gale g := rfl
theorem valid_at {b : Tk} (h : validB b = true) {g : Int} (hg : b.now ≤ g ∧ g ≤ 60) : validB (b.at g) = true := by
  unfold validB at h ⊢
  simp only [Bool.and_eq_true] at h ⊢
  refine ⟨⟨⟨⟨⟨h.1.1.1.1.1, h.1.1.1.1.2⟩, ?_⟩, h.1.1.2⟩, h.1.2⟩, h.2⟩
  show spanT g g b.now 60 = true
  simp only [spanT, inT, Bool.and_eq_true, decide_eq_true_eq]
  omega
/-- A later gale leaves no more. -/
theorem left_later {h : Hl} (k : h.OK) {pl : List Int} (hp : planB h.b.ts h.b.most h.b.rest pl = true) {g g' : Int} (h1 : h.b.now ≤ g) (h2 : g ≤ g') (h3 : g' ≤ 60) : ansHi (h.gale g') 2 pl ≤ ansHi (h.gale g) 2 pl := by
  have k1 := k.gale (g := g) (by omega)
  have k2 := k.gale (g := g') (by omega)
  rw [ansHi_is k1 hp, ansHi_is k2 hp, end_corn k1 hp, end_corn k2 hp]
  have hh := k.hd
  have rr := k.rt
  have rm := fun i => (k.room false i).1
  simp only [loC, hiC, endN, askN, Bool.not_false, Bool.not_true, Bool.false_eq_true, if_false, if_true]
  exact run_left (ts := h.b.ts) rm (fun i => Int.le_refl _) (by show 0 ≤ h.hh; omega) (Int.le_refl _) rr.1 (Int.le_refl _) h2 h1 (plan_ord k.rs.1 k.ch hp)
theorem calm_later {h : Hl} (k : h.OK) {g g' : Int} (hc : CalmP h g) (h1 : h.b.now ≤ g) (h2 : g ≤ g') (h3 : g' ≤ 60) : CalmP h g' := by
  obtain ⟨pl, hp, e⟩ := hc
  have hl := left_later k hp h1 h2 h3
  have hb := (ans_bd (k.gale (g := g') (by omega)) (pl := pl) hp 2)
  exact ⟨pl, hp, by omega⟩
end Go.Proofs.YtcaeohgbgeadaaaGreatDoor

