/- Plain facts: a note more among a book's notes; a sounding asks what can be held. -/
import Derived.Test.YtamknmgplhaciaaDoorQPc
set_option linter.unusedSimpArgs false
set_option linter.unusedVariables false
namespace Go.Proofs.YtamknmgplhaciaaDoor
open Go Go.RowKit Go.Shelf

theorem aft_aft {q : Int × Int} (h0 : 0 ≤ q.1) (h1 : 0 ≤ q.2) {a c : Int} (ha : 0 ≤ a) (hc : 0 ≤ c) : aftS (aftS q a) c = aftS q (a + c) := by
  obtain ⟨x, r⟩ := q
  dsimp only at h0 h1
  unfold aftS
  dsimp only
  refine Prod.ext ?_ rfl
  dsimp only
  have hb := afterH_bd h1 a.toNat x h0
  rw [afterH_eq h1 c.toNat _ hb.1, afterH_eq h1 a.toNat x h0, afterH_eq h1 (a + c).toNat x h0, Int.toNat_of_nonneg ha, Int.toNat_of_nonneg hc, Int.toNat_of_nonneg (by omega), Int.add_mul]
  have p1 : 0 ≤ a * r := Int.mul_nonneg ha h1
  have p2 : 0 ≤ c * r := Int.mul_nonneg hc h1
  generalize a * r = A at *
  generalize c * r = C at *
  omega
section
variable {ns : List Nt} {u : Nat} {s : Nt}
abbrev insN (ns : List Nt) (u : Nat) (s : Nt) : List Nt := ns.take u ++ [s] ++ ns.drop u
theorem ins_lt (hu : u ≤ ns.length) {k : Nat} (hk : k < u) : (insN ns u s)[k]? = ns[k]? := by
  rw [insN, List.append_assoc, List.getElem?_append_left (by rw [List.length_take]; omega), List.getElem?_take_of_lt hk]
theorem ins_at (hu : u ≤ ns.length) : (insN ns u s)[u]? = some s := by
  rw [insN, List.append_assoc, List.getElem?_append_right (by rw [List.length_take]; omega), List.length_take, Nat.min_eq_left hu, Nat.sub_self]
  rfl
theorem ins_gt (hu : u ≤ ns.length) {k : Nat} (hk : u ≤ k) : (insN ns u s)[k + 1]? = ns[k]? := by
  rw [insN, List.getElem?_append_right (by rw [List.length_append, List.length_take, List.length_singleton]; omega), List.length_append, List.length_take, List.length_singleton, Nat.min_eq_left hu, List.getElem?_drop]
  congr 1; omega
theorem past_lt (hu : u ≤ ns.length) {k : Nat} (hk : k ≤ u) : pastN (insN ns u s) k = pastN ns k := by
  cases k with
  | zero => rfl
  | succ k => simp only [pastN, ins_lt hu (show k < u by omega)]
theorem past_at (hu : u ≤ ns.length) : pastN (insN ns u s) (u + 1) = s.hour := by simp only [pastN, ins_at hu]
theorem past_gt (hu : u ≤ ns.length) {k : Nat} (hk : u ≤ k) : pastN (insN ns u s) (k + 2) = pastN ns (k + 1) := by
  simp only [pastN]
  rw [ins_gt hu hk]
end
theorem with_ins (b : Sn) (s : Nt) : withS b s = ⟨b.lo, b.hi, insN b.ns (upN b.ns s.hour) s⟩ := rfl
/-- What is so before a note behind the new one, if the seine was as it was at its hour. -/
theorem bef_next {b : Sn} (hok : Ok9 b) {s t : Nt} (h0 : 0 ≤ s.hour) {q : Int × Int} (q0 : 0 ≤ q.1) (q1 : 0 ≤ q.2) (ht : b.ns[upN b.ns s.hour]? = some t) :
    befS (insN b.ns (upN b.ns s.hour) s) (upN b.ns s.hour + 1) (aftS q (sinN b.ns s.hour)) = befS b.ns (upN b.ns s.hour) q := by
  have hu := upN_le b.ns s.hour
  have h1 : gapN (insN b.ns (upN b.ns s.hour) s) (upN b.ns s.hour + 1) = t.hour - s.hour := by
    rw [gapN_at (s := t) (by rw [ins_gt hu (Nat.le_refl _)]; exact ht), past_at hu]
  have h2 := upN_not ht
  have h3 := sinN_bd hok h0
  unfold befS
  rw [h1, aft_aft q0 q1 h3.1 (by omega), gapN_at ht]
  congr 1
  unfold sinN; omega
/-- A book with one note more is true on a path just if the seine, as it is at its hour, leads on by it. -/
theorem path_with {b : Sn} (hok : Ok9 b) {s : Nt} (h0 : 0 ≤ s.hour) (hs : s.kind = 4) {g : Nat → Int × Int} (hg : Path b g) (hm : s.lo ≤ (At b g s.hour).1 ∧ (At b g s.hour).1 ≤ s.hi) : ∃ f, Path (withS b s) f := by
  have hu := upN_le b.ns s.hour
  obtain ⟨g0, g1⟩ := hg
  refine ⟨fun k => if k ≤ upN b.ns s.hour then g k else if k = upN b.ns s.hour + 1 then At b g s.hour else g (k - 1), by
    have h : g 0 ∈ startL b.lo b.hi := g0
    show (if 0 ≤ upN b.ns s.hour then g 0 else _) ∈ startL b.lo b.hi
    simpa using h, fun k t ht => ?_⟩
  have ht' : (insN b.ns (upN b.ns s.hour) s)[k]? = some t := ht
  show _ ∈ behL t (befS (insN b.ns (upN b.ns s.hour) s) k _)
  rcases Nat.lt_trichotomy k (upN b.ns s.hour) with hk | hk | hk
  · rw [ins_lt hu hk] at ht'
    have e : befS (insN b.ns (upN b.ns s.hour) s) k = befS b.ns k := by
      funext q
      unfold befS
      rw [gapN_at (by rw [ins_lt hu hk]; exact ht'), gapN_at ht', past_lt hu (by omega)]
    simp only [if_pos (show k + 1 ≤ upN b.ns s.hour by omega), if_pos (show k ≤ upN b.ns s.hour by omega), e]
    exact g1 k t ht'
  · subst hk
    rw [ins_at hu] at ht'
    cases ht'
    have e : befS (insN b.ns (upN b.ns s.hour) s) (upN b.ns s.hour) (g (upN b.ns s.hour)) = At b g s.hour := by
      unfold befS At
      rw [gapN_at (ins_at hu), past_lt hu (Nat.le_refl _)]
      rfl
    simp only [if_neg (show ¬ upN b.ns s.hour + 1 ≤ upN b.ns s.hour by omega), if_true, Nat.le_refl, e]
    unfold behL
    refine List.mem_map.2 ⟨(At b g s.hour).1, List.mem_filter.2 ⟨mem_numsL.2 hm, by simp [rightB, hs]⟩, by simp [doesS, hs]⟩
  · obtain ⟨j, rfl⟩ : ∃ j, k = j + 1 := ⟨k - 1, by omega⟩
    rw [ins_gt hu (by omega)] at ht'
    have hjl := (List.getElem?_eq_some_iff.1 ht').1
    by_cases hj : j = upN b.ns s.hour
    · subst hj
      have hq := path_K hok ⟨g0, g1⟩ hu
      simp only [if_neg (show ¬ upN b.ns s.hour + 1 + 1 ≤ upN b.ns s.hour by omega), if_neg (show ¬ upN b.ns s.hour + 1 + 1 = upN b.ns s.hour + 1 by omega), if_neg (show ¬ upN b.ns s.hour + 1 ≤ upN b.ns s.hour by omega), if_true]
      rw [show At b g s.hour = aftS (g (upN b.ns s.hour)) (sinN b.ns s.hour) from rfl, bef_next hok h0 hq.1.1 hq.2.1 ht']
      exact g1 _ t ht'
    · obtain ⟨i, rfl⟩ : ∃ i, j = i + 1 := ⟨j - 1, by omega⟩
      have e : befS (insN b.ns (upN b.ns s.hour) s) (i + 1 + 1) = befS b.ns (i + 1) := by
        funext q
        unfold befS
        rw [gapN_at (by rw [ins_gt hu (by omega)]; exact ht'), gapN_at ht', past_gt hu (by omega)]
      simp only [if_neg (show ¬ i + 1 + 1 + 1 ≤ upN b.ns s.hour by omega), if_neg (show ¬ i + 1 + 1 + 1 = upN b.ns s.hour + 1 by omega), if_neg (show ¬ i + 1 + 1 ≤ upN b.ns s.hour by omega), if_neg (show ¬ i + 1 + 1 = upN b.ns s.hour + 1 by omega), e]
      exact g1 (i + 1) t ht'
theorem path_without {b : Sn} (hok : Ok9 b) {s : Nt} (h0 : 0 ≤ s.hour) (hs : s.kind = 4) {f : Nat → Int × Int} (hf : Path (withS b s) f) (hq : ∀ k, k ≤ b.ns.length → 0 ≤ (f k).1 ∧ 0 ≤ (f k).2) : ∃ g, Path b g ∧ s.lo ≤ (At b g s.hour).1 ∧ (At b g s.hour).1 ≤ s.hi := by
  have hu := upN_le b.ns s.hour
  obtain ⟨f0, f1⟩ := hf
  have e0 : befS (insN b.ns (upN b.ns s.hour) s) (upN b.ns s.hour) (f (upN b.ns s.hour)) = aftS (f (upN b.ns s.hour)) (sinN b.ns s.hour) := by
    unfold befS
    rw [gapN_at (ins_at hu), past_lt hu (Nat.le_refl _)]
    rfl
  have h1 : f (upN b.ns s.hour + 1) ∈ behL s (aftS (f (upN b.ns s.hour)) (sinN b.ns s.hour)) := by
    have := f1 (upN b.ns s.hour) s (ins_at hu)
    rw [← e0]; exact this
  have h2 : f (upN b.ns s.hour + 1) = aftS (f (upN b.ns s.hour)) (sinN b.ns s.hour) ∧ s.lo ≤ (aftS (f (upN b.ns s.hour)) (sinN b.ns s.hour)).1 ∧ (aftS (f (upN b.ns s.hour)) (sinN b.ns s.hour)).1 ≤ s.hi := by
    unfold behL at h1
    obtain ⟨m, hm, h3⟩ := List.mem_map.1 h1
    obtain ⟨h4, h5⟩ := List.mem_filter.1 hm
    have h6 := mem_numsL.1 h4
    simp [rightB, hs] at h5
    simp [doesS, hs] at h3
    exact ⟨h3.symm, by omega, by omega⟩
  refine ⟨fun k => if k ≤ upN b.ns s.hour then f k else f (k + 1), ⟨by
    have h : f 0 ∈ startL b.lo b.hi := f0
    simpa using h, fun k t ht => ?_⟩, ?_⟩
  · rcases Nat.lt_trichotomy k (upN b.ns s.hour) with hk | hk | hk
    · have e : befS (insN b.ns (upN b.ns s.hour) s) k = befS b.ns k := by
        funext q
        unfold befS
        rw [gapN_at (by rw [ins_lt hu hk]; exact ht), gapN_at ht, past_lt hu (by omega)]
      simp only [if_pos (show k + 1 ≤ upN b.ns s.hour by omega), if_pos (show k ≤ upN b.ns s.hour by omega), ← e]
      exact f1 k t (by show (insN b.ns _ s)[k]? = _; rw [ins_lt hu hk]; exact ht)
    · subst hk
      obtain ⟨q0, q1⟩ := hq _ hu
      simp only [if_neg (show ¬ upN b.ns s.hour + 1 ≤ upN b.ns s.hour by omega), if_pos (Nat.le_refl _)]
      have h3 := f1 (upN b.ns s.hour + 1) t (by show (insN b.ns _ s)[upN b.ns s.hour + 1]? = _; rw [ins_gt hu (Nat.le_refl _)]; exact ht)
      have h4 : befS (withS b s).ns (upN b.ns s.hour + 1) (f (upN b.ns s.hour + 1)) = befS b.ns (upN b.ns s.hour) (f (upN b.ns s.hour)) := by
        rw [h2.1]; exact bef_next hok h0 q0 q1 ht
      rw [h4] at h3
      exact h3
    · obtain ⟨j, rfl⟩ : ∃ j, k = j + 1 := ⟨k - 1, by omega⟩
      have e : befS (insN b.ns (upN b.ns s.hour) s) (j + 1 + 1) = befS b.ns (j + 1) := by
        funext q
        unfold befS
        rw [gapN_at (by rw [ins_gt hu (by omega)]; exact ht), gapN_at ht, past_gt hu (by omega)]
      simp only [if_neg (show ¬ j + 1 + 1 ≤ upN b.ns s.hour by omega), if_neg (show ¬ j + 1 ≤ upN b.ns s.hour by omega), ← e]
      exact f1 (j + 1 + 1) t (by show (insN b.ns _ s)[j + 1 + 1]? = _; rw [ins_gt hu (by omega)]; exact ht)
  · have : At b (fun k => if k ≤ upN b.ns s.hour then f k else f (k + 1)) s.hour = aftS (f (upN b.ns s.hour)) (sinN b.ns s.hour) := by
      unfold At
      simp
    rw [this]
    exact h2.2
/-- A number can be sounded at an hour just if so much can be held then. -/
theorem sounds_can {b : Sn} (hok : Ok9 b) {h m : Int} (h0 : 0 ≤ h) (hw : Ok9 (withS b ⟨4, h, m, m⟩)) : rightS (withS b ⟨4, h, m, m⟩) = canB b h m := by
  rw [Bool.eq_iff_iff, rightS_iff, can_iff]
  constructor
  · rintro ⟨f, hf⟩
    obtain ⟨g, hg, h1, h2⟩ := path_without hok (s := ⟨4, h, m, m⟩) h0 rfl hf (fun k hk => by
      have h3 := path_K hw hf (k := k) (by
        show k ≤ (insN b.ns _ _).length
        rw [insN, List.length_append, List.length_append, List.length_take, List.length_drop]
        simp only [List.length_singleton]
        omega)
      exact ⟨h3.1.1, h3.2.1⟩)
    dsimp only at h1 h2
    exact ⟨g, hg, by omega⟩
  · rintro ⟨g, hg, e⟩
    exact path_with hok (s := ⟨4, h, m, m⟩) h0 rfl hg (by dsimp only; omega)
end Go.Proofs.YtamknmgplhaciaaDoor

