/- Plain facts: a seine without notes, and with one tucking. -/
import Derived.Test.YtamknmgplhaciaaDoorQPa
set_option linter.unusedSimpArgs false
set_option linter.unusedVariables false
namespace Go.Proofs.YtamknmgplhaciaaDoor
open Go Go.RowKit Go.Shelf

theorem Ends.uniq {b : Sn} {g : (Nat → Int × Int) → Int} {l u l' u' : Int} (h : Ends b g l u) (k : Ends b g l' u') : l = l' ∧ u = u' := by
  obtain ⟨f1, hf1, e1⟩ := h.low
  obtain ⟨f2, hf2, e2⟩ := h.high
  obtain ⟨f3, hf3, e3⟩ := k.low
  obtain ⟨f4, hf4, e4⟩ := k.high
  have a1 := k.all f1 hf1
  have a2 := k.all f2 hf2
  have a3 := h.all f3 hf3
  have a4 := h.all f4 hf4
  omega
theorem mem_startL {lo hi : Int} {q : Int × Int} : q ∈ startL lo hi ↔ (lo ≤ q.1 ∧ q.1 ≤ hi) ∧ q.2 = 0 := by
  unfold startL
  simp only [List.mem_map, mem_numsL]
  constructor
  · rintro ⟨a, h, rfl⟩; exact ⟨h, rfl⟩
  · rintro ⟨h1, h2⟩; exact ⟨q.1, h1, Prod.ext rfl h2.symm⟩
theorem aft_still {q : Int × Int} (h0 : 0 ≤ q.1) (h1 : q.2 = 0) (n : Int) : aftS q n = q := by
  obtain ⟨m, r⟩ := q
  dsimp only at h0 h1
  subst h1
  unfold aftS
  dsimp only
  rw [afterH_stay (by omega)]
section
variable {lo hi : Int}
theorem path_none {f : Nat → Int × Int} : Path ⟨lo, hi, []⟩ f ↔ (lo ≤ (f 0).1 ∧ (f 0).1 ≤ hi) ∧ (f 0).2 = 0 := by
  constructor
  · rintro ⟨h, -⟩; exact mem_startL.1 h
  · intro h; exact ⟨mem_startL.2 h, fun k s hs => by simp at hs⟩
theorem At_none (h0 : 0 ≤ lo) {f : Nat → Int × Int} (hf : Path ⟨lo, hi, []⟩ f) (h : Int) : At ⟨lo, hi, []⟩ f h = f 0 := by
  obtain ⟨h1, h2⟩ := path_none.1 hf
  exact aft_still (by simp [upN]; omega) (by simpa [upN] using h2) _
theorem plain_right (h : lo ≤ hi) : rightS ⟨lo, hi, []⟩ = true := rightS_iff.2 ⟨fun _ => (lo, 0), path_none.2 ⟨⟨by omega, by omega⟩, rfl⟩⟩
theorem plain_held (h0 : 0 ≤ lo) (h : lo ≤ hi) (t : Int) : Ends ⟨lo, hi, []⟩ (fun f => (At ⟨lo, hi, []⟩ f t).1) lo hi := by
  have pl : Path ⟨lo, hi, []⟩ (fun _ => (lo, 0)) := path_none.2 ⟨⟨by omega, by omega⟩, rfl⟩
  have ph : Path ⟨lo, hi, []⟩ (fun _ => (hi, 0)) := path_none.2 ⟨⟨by omega, by omega⟩, rfl⟩
  refine ⟨⟨_, pl, by simp only [At_none h0 pl]⟩, ⟨_, ph, by simp only [At_none h0 ph]⟩, fun f hf => ?_⟩
  have := (path_none.1 hf).1
  simp only [At_none h0 hf]
  exact this
theorem plain_rate (h0 : 0 ≤ lo) (h : lo ≤ hi) (t : Int) : Ends ⟨lo, hi, []⟩ (fun f => (At ⟨lo, hi, []⟩ f t).2) 0 0 := by
  have pl : Path ⟨lo, hi, []⟩ (fun _ => (lo, 0)) := path_none.2 ⟨⟨by omega, by omega⟩, rfl⟩
  refine ⟨⟨_, pl, by simp only [At_none h0 pl]⟩, ⟨_, pl, by simp only [At_none h0 pl]⟩, fun f hf => ?_⟩
  have := (path_none.1 hf).2
  simp only [At_none h0 hf]
  omega
theorem plain_saved (h0 : 0 ≤ lo) (h : lo ≤ hi) (t n : Int) : Ends ⟨lo, hi, []⟩ (fun f => savS n (At ⟨lo, hi, []⟩ f t)) 0 0 := by
  have key : ∀ f, Path ⟨lo, hi, []⟩ f → savS n (At ⟨lo, hi, []⟩ f t) = 0 := fun f hf => by
    have h1 := path_none.1 hf
    rw [At_none h0 hf]
    unfold savS
    rw [aft_still (by omega) h1.2]
    omega
  have pl : Path ⟨lo, hi, []⟩ (fun _ => (lo, 0)) := path_none.2 ⟨⟨by omega, by omega⟩, rfl⟩
  exact ⟨⟨_, pl, key _ pl⟩, ⟨_, pl, key _ pl⟩, fun f hf => by have := key f hf; omega⟩
variable {at' many : Int}
abbrev tuckS (lo hi at' many : Int) : Sn := ⟨lo, hi, [⟨0, at', many, many⟩]⟩
theorem path_tuck (h0 : 0 ≤ lo) {f : Nat → Int × Int} : Path (tuckS lo hi at' many) f ↔ ((lo ≤ (f 0).1 ∧ (f 0).1 ≤ hi) ∧ (f 0).2 = 0) ∧ many ≤ (f 0).1 ∧ f 1 = ((f 0).1 - many, 0) := by
  have hb : ∀ g : Nat → Int × Int, 0 ≤ (g 0).1 → (g 0).2 = 0 → (g 1 ∈ behL ⟨0, at', many, many⟩ (befS [⟨0, at', many, many⟩] 0 (g 0)) ↔ many ≤ (g 0).1 ∧ g 1 = ((g 0).1 - many, 0)) := fun g g1 g2 => by
    have e : befS [⟨0, at', many, many⟩] 0 (g 0) = g 0 := aft_still g1 g2 _
    rw [e]
    unfold behL
    simp only [List.mem_map, List.mem_filter, mem_numsL]
    constructor
    · rintro ⟨m, ⟨h1, h2⟩, h3⟩
      obtain rfl : m = many := by omega
      simp [rightB] at h2
      refine ⟨h2, ?_⟩
      rw [← h3]
      simp [doesS, g2]
    · rintro ⟨h1, h2⟩
      refine ⟨many, ⟨⟨Int.le_refl _, Int.le_refl _⟩, by simp [rightB, h1]⟩, ?_⟩
      rw [h2]
      simp [doesS, g2]
  constructor
  · rintro ⟨h1, h2⟩
    have h3 : (lo ≤ (f 0).1 ∧ (f 0).1 ≤ hi) ∧ (f 0).2 = 0 := mem_startL.1 h1
    exact ⟨h3, (hb f (by omega) h3.2).1 (h2 0 _ rfl)⟩
  · rintro ⟨h1, h2⟩
    refine ⟨mem_startL.2 h1, fun k s hs => ?_⟩
    cases k with
    | zero =>
      simp at hs
      subst hs
      exact (hb f (by omega) h1.2).2 h2
    | succ k => simp at hs
theorem tuck_right (h0 : 0 ≤ lo) (h : lo ≤ hi) : rightS (tuckS lo hi at' many) = decide (many ≤ hi) := by
  by_cases hm : many ≤ hi
  · rw [rightS_iff.2 ⟨fun k => if k = 0 then (hi, 0) else (hi - many, 0), (path_tuck h0).2 ⟨⟨⟨by simp; omega, by simp⟩, rfl⟩, by simpa using hm, rfl⟩⟩]
    simp [hm]
  · have : rightS (tuckS lo hi at' many) ≠ true := fun e => by
      obtain ⟨f, hf⟩ := rightS_iff.1 e
      have := (path_tuck h0).1 hf
      omega
    simp only [Bool.not_eq_true] at this
    rw [this]
    simp [hm]
def tuckF (m many : Int) : Nat → Int × Int := fun k => if k = 0 then (m, 0) else (m - many, 0)
theorem tuck_path (h0 : 0 ≤ lo) {m : Int} (h1 : lo ≤ m) (h2 : m ≤ hi) (h3 : many ≤ m) : Path (tuckS lo hi at' many) (tuckF m many) := (path_tuck h0).2 ⟨⟨⟨h1, h2⟩, rfl⟩, h3, rfl⟩
theorem tuck_before (h0 : 0 ≤ lo) (h : lo ≤ hi) (hm : many ≤ hi) {t : Int} (ht : t < at') : Ends (tuckS lo hi at' many) (fun f => (At (tuckS lo hi at' many) f t).1) (max lo many) hi := by
  have key : ∀ f, Path (tuckS lo hi at' many) f → (At (tuckS lo hi at' many) f t).1 = (f 0).1 := fun f hf => by
    have h1 := (path_tuck h0).1 hf
    have hu : upN (tuckS lo hi at' many).ns t = 0 := by simp [upN, List.takeWhile_cons]; omega
    unfold At
    rw [hu, aft_still (by omega) h1.1.2]
  have p1 := tuck_path (at' := at') (hi := hi) h0 (m := max lo many) (by omega) (by omega) (by omega : many ≤ max lo many)
  have p2 := tuck_path (at' := at') (hi := hi) h0 (m := hi) (by omega) (by omega) hm
  refine ⟨⟨_, p1, key _ p1⟩, ⟨_, p2, key _ p2⟩, fun f hf => ?_⟩
  have h1 := (path_tuck h0).1 hf
  have h2 := key f hf
  omega
theorem tuck_behind (h0 : 0 ≤ lo) (h : lo ≤ hi) (hm : many ≤ hi) {t : Int} (ht : at' ≤ t) : Ends (tuckS lo hi at' many) (fun f => (At (tuckS lo hi at' many) f t).1) (max lo many - many) (hi - many) := by
  have key : ∀ f, Path (tuckS lo hi at' many) f → (At (tuckS lo hi at' many) f t).1 = (f 0).1 - many := fun f hf => by
    have h1 := (path_tuck h0).1 hf
    have hu : upN (tuckS lo hi at' many).ns t = 1 := by simp [upN, List.takeWhile_cons, ht]
    unfold At
    rw [hu, h1.2.2, aft_still (by dsimp only; omega) rfl]
  have p1 := tuck_path (at' := at') (hi := hi) h0 (m := max lo many) (by omega) (by omega) (by omega : many ≤ max lo many)
  have p2 := tuck_path (at' := at') (hi := hi) h0 (m := hi) (by omega) (by omega) hm
  refine ⟨⟨_, p1, key _ p1⟩, ⟨_, p2, key _ p2⟩, fun f hf => ?_⟩
  have h1 := (path_tuck h0).1 hf
  have h2 := key f hf
  omega
theorem tuck_valid (s1 : 0 ≤ lo) (s2 : lo ≤ 400) (s3 : 0 ≤ hi) (s4 : hi ≤ 400) (s5 : lo ≤ hi) (s6 : hi - lo ≤ 12) (b1 : 0 ≤ at' ∧ at' ≤ 60) (b2 : 0 ≤ many ∧ many ≤ 400) : snB (tuckS lo hi at' many) = true := by
  simp [snB, notesB, chainN, ntB, noteB, spanB, inB, mostOf]
  omega
end
end Go.Proofs.YtamknmgplhaciaaDoor

