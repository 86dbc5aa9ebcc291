/- Plain facts: a note put behind all others; what a mending saves. -/
/- Plain facts: what a mending at the last hour saves. -/
/- Plain facts: what a note more leaves at each hour could be before. -/
import Derived.Test.YtjjfpbjdcmkkhaaDoorQPc
set_option linter.unusedSimpArgs false
set_option linter.unusedVariables false
namespace Go.Proofs.YtjjfpbjdcmkkhaaDoor
open Go Go.RowKit Go.Shelf

theorem hours_rise {b : Sn} (hok : Ok9 b) : ∀ (d i : Nat) (s t : Nt), b.ns[i]? = some s → b.ns[i + d]? = some t → s.hour ≤ t.hour
  | 0, i, s, t, hs, ht => by rw [Nat.add_zero] at ht; rw [hs] at ht; cases ht; exact Int.le_refl _
  | d + 1, i, s, t, hs, ht => by
    have hl := (List.getElem?_eq_some_iff.1 ht).1
    obtain ⟨u, hu⟩ := get_some b.ns (i + d) (by omega)
    have h1 := hours_rise hok d i s u hs hu
    have h2 := hok.gap ht
    rw [gapN_at ht, show i + (d + 1) = (i + d) + 1 by omega] at h2
    simp only [pastN, hu] at h2
    omega
theorem hour_last {b : Sn} (hok : Ok9 b) {i : Nat} {s : Nt} (hs : b.ns[i]? = some s) : s.hour ≤ lastN b.ns := by
  have hl := (List.getElem?_eq_some_iff.1 hs).1
  obtain ⟨k, hk⟩ : ∃ k, b.ns.length = k + 1 := ⟨b.ns.length - 1, by omega⟩
  obtain ⟨t, ht⟩ := get_some b.ns k (by omega)
  have h1 := hours_rise hok (k - i) i s t hs (by rw [show i + (k - i) = k by omega]; exact ht)
  unfold lastN
  rw [hk]
  simp only [pastN, ht]
  exact h1
theorem up_last {b : Sn} (hok : Ok9 b) {h : Int} (hl : lastN b.ns ≤ h) : upN b.ns h = b.ns.length :=
  upN_at (fun i s _ hs => by have := hour_last hok hs; omega) (Nat.le_refl _) (fun s hs => by simp at hs)
theorem sin_last {b : Sn} (hok : Ok9 b) {h : Int} (hl : lastN b.ns ≤ h) : sinN b.ns h = h - lastN b.ns := by
  unfold sinN
  rw [up_last hok hl]
  rfl
theorem At_last {b : Sn} (hok : Ok9 b) {h : Int} (hl : lastN b.ns ≤ h) (f : Nat → Int × Int) : At b f h = aftS (f b.ns.length) (h - lastN b.ns) := by
  unfold At
  rw [up_last hok hl, sin_last hok hl]
theorem with_end {b : Sn} (hok : Ok9 b) {s : Nt} (hl : lastN b.ns ≤ s.hour) : withS b s = ⟨b.lo, b.hi, b.ns ++ [s]⟩ := by
  unfold withS
  rw [up_last hok hl, List.take_length, List.drop_length, List.append_nil]
theorem last_end {b : Sn} (hok : Ok9 b) {s : Nt} (hl : lastN b.ns ≤ s.hour) : lastN (withS b s).ns = s.hour := by
  rw [with_end hok hl]
  unfold lastN
  simp [pastN]
/-- The truths of a book with a note more behind all others. -/
theorem path_end {b : Sn} (hok : Ok9 b) {s : Nt} (hl : lastN b.ns ≤ s.hour) {f : Nat → Int × Int} : Path (withS b s) f ↔ Path b f ∧ f (b.ns.length + 1) ∈ behL s (At b f s.hour) := by
  rw [with_end hok hl, At_last hok hl]
  have hb : ∀ k t, b.ns[k]? = some t → befS (b.ns ++ [s]) k (f k) = befS b.ns k (f k) := fun k t ht => by
    have hk := (List.getElem?_eq_some_iff.1 ht).1
    have e : pastN (b.ns ++ [s]) k = pastN b.ns k := by
      cases k with
      | zero => rfl
      | succ k => simp only [pastN, List.getElem?_append_left (show k < b.ns.length by omega)]
    unfold befS
    rw [gapN_at (by rw [List.getElem?_append_left hk]; exact ht), gapN_at ht, e]
  have hN : befS (b.ns ++ [s]) b.ns.length (f b.ns.length) = aftS (f b.ns.length) (s.hour - lastN b.ns) := by
    have e : pastN (b.ns ++ [s]) b.ns.length = lastN b.ns := by
      unfold lastN
      cases h : b.ns.length with
      | zero => rfl
      | succ k => simp only [pastN, List.getElem?_append_left (show k < b.ns.length by omega)]
    unfold befS
    rw [gapN_at (s := s) (by simp), e]
  constructor
  · rintro ⟨h0, h1⟩
    refine ⟨⟨h0, fun k t ht => ?_⟩, ?_⟩
    · have hk := (List.getElem?_eq_some_iff.1 ht).1
      have := h1 k t (by rw [List.getElem?_append_left hk]; exact ht)
      rw [hb k t ht] at this
      exact this
    · have := h1 b.ns.length s (by simp)
      rw [hN] at this
      exact this
  · rintro ⟨⟨h0, h1⟩, h2⟩
    refine ⟨h0, fun k t ht => ?_⟩
    by_cases hk : k < b.ns.length
    · have ht2 : b.ns[k]? = some t := by
        have ht' : (b.ns ++ [s])[k]? = some t := ht
        rw [List.getElem?_append_left hk] at ht'
        exact ht'
      show f (k + 1) ∈ behL t (befS (b.ns ++ [s]) k (f k))
      rw [hb k t ht2]
      exact h1 k t ht2
    · have hk2 := (List.getElem?_eq_some_iff.1 ht).1
      have hk2' : k < b.ns.length + 1 := by simpa using hk2
      have hke : k = b.ns.length := by omega
      subst hke
      have ht' : (b.ns ++ [s])[b.ns.length]? = some t := ht
      simp only [List.getElem?_append_right (Nat.le_refl _), Nat.sub_self, List.getElem?_cons_zero, Option.some.injEq] at ht'
      subst ht'
      show f (b.ns.length + 1) ∈ behL s (befS (b.ns ++ [s]) b.ns.length (f b.ns.length))
      rw [hN]
      exact h2
end Go.Proofs.YtjjfpbjdcmkkhaaDoor

namespace Go.Proofs.YtjjfpbjdcmkkhaaDoor
open Go Go.RowKit Go.Shelf

theorem path_congr {b : Sn} {f g : Nat → Int × Int} (h : ∀ k, k ≤ b.ns.length → f k = g k) (hf : Path b f) : Path b g := by
  refine ⟨by rw [← h 0 (by omega)]; exact hf.1, fun k s hs => ?_⟩
  have hk := (List.getElem?_eq_some_iff.1 hs).1
  rw [← h k (by omega), ← h (k + 1) (by omega)]
  exact hf.2 k s hs
theorem At_congr {b : Sn} {f g : Nat → Int × Int} (h : ∀ k, k ≤ b.ns.length → f k = g k) (t : Int) : At b f t = At b g t := by
  unfold At
  rw [h _ (upN_le _ _)]
abbrev mendN (h : Int) : Nt := ⟨2, h, 0, 0⟩
theorem beh_mend (h : Int) (q z : Int × Int) : z ∈ behL (mendN h) q ↔ z = (q.1, 0) := by
  unfold behL
  simp only [List.mem_map, List.mem_filter, mem_numsL]
  constructor
  · rintro ⟨m, ⟨h1, h2⟩, rfl⟩
    simp [doesS]
  · rintro rfl
    exact ⟨0, ⟨⟨by simp, by simp⟩, by simp [rightB]⟩, by simp [doesS]⟩
section
variable {b : Sn}
theorem mend_path (hok : Ok9 b) {h : Int} (hl : lastN b.ns ≤ h) {f : Nat → Int × Int} : Path (withS b (mendN h)) f ↔ Path b f ∧ f (b.ns.length + 1) = ((At b f h).1, 0) := by
  rw [path_end hok (s := mendN h) hl, beh_mend]
/-- Each truth of the book goes on behind the mending. -/
theorem mend_on (hok : Ok9 b) {h : Int} (hl : lastN b.ns ≤ h) {g : Nat → Int × Int} (hg : Path b g) : ∃ f, Path (withS b (mendN h)) f ∧ Path b f ∧ ∀ t, At b f t = At b g t := by
  have h1 : ∀ k, k ≤ b.ns.length → g k = (fun k => if k ≤ b.ns.length then g k else ((At b g h).1, 0)) k := fun k hk => by simp only [if_pos hk]
  have h2 := path_congr h1 hg
  have h3 := At_congr h1
  refine ⟨_, (mend_path hok hl).2 ⟨h2, ?_⟩, h2, fun t => (h3 t).symm⟩
  rw [← h3 h]
  simp only [if_neg (show ¬ b.ns.length + 1 ≤ b.ns.length by omega)]
theorem mend_right (hok : Ok9 b) {h : Int} (hl : lastN b.ns ≤ h) : rightS (withS b (mendN h)) = rightS b := by
  rw [Bool.eq_iff_iff, rightS_iff, rightS_iff]
  constructor
  · rintro ⟨f, hf⟩
    exact ⟨f, ((mend_path hok hl).1 hf).1⟩
  · rintro ⟨g, hg⟩
    obtain ⟨f, hf, -⟩ := mend_on hok hl hg
    exact ⟨f, hf⟩
theorem mend_At (hok : Ok9 b) {h t : Int} (hl : lastN b.ns ≤ h) (ht : h ≤ t) (hw : Ok9 (withS b (mendN h))) (h0 : 0 ≤ h) {f : Nat → Int × Int} (hf : Path (withS b (mendN h)) f) : (At (withS b (mendN h)) f t).1 = (At b f h).1 := by
  obtain ⟨hp, he⟩ := (mend_path hok hl).1 hf
  have hb := (At_bd hok hp h).1.1
  rw [At_last hw (by rw [last_end hok (s := mendN h) hl]; exact ht), last_end hok (s := mendN h) hl, withS_len, he, aft_still (q := ((At b f h).1, 0)) hb rfl]
theorem mend_held (hok : Ok9 b) {h t : Int} (hl : lastN b.ns ≤ h) (ht : h ≤ t) (hw : Ok9 (withS b (mendN h))) (h0 : 0 ≤ h) {l u : Int} (hE : Ends b (fun f => (At b f h).1) l u) : Ends (withS b (mendN h)) (fun f => (At (withS b (mendN h)) f t).1) l u := by
  refine ⟨?_, ?_, fun f hf => ?_⟩
  · obtain ⟨g, hg, e⟩ := hE.low
    obtain ⟨f, hf, -, h3⟩ := mend_on hok hl hg
    exact ⟨f, hf, by rw [mend_At hok hl ht hw h0 hf, h3]; exact e⟩
  · obtain ⟨g, hg, e⟩ := hE.high
    obtain ⟨f, hf, -, h3⟩ := mend_on hok hl hg
    exact ⟨f, hf, by rw [mend_At hok hl ht hw h0 hf, h3]; exact e⟩
  · have h3 := mend_At hok hl ht hw h0 hf
    have := hE.all f ((mend_path hok hl).1 hf).1
    rw [← h3] at this
    exact this
/-- What is saved on a path is what would else be gone at the end. -/
theorem saved_path (hok : Ok9 b) {f : Nat → Int × Int} (hf : Path b f) {t : Int} (ht : lastN b.ns ≤ t) : savS (t - lastN b.ns) (At b f (lastN b.ns)) = (At b f (lastN b.ns)).1 - (At b f t).1 := by
  have hb := path_K hok hf (Nat.le_refl _)
  unfold savS
  rw [At_last hok (Int.le_refl _), At_last hok ht, aft_aft hb.1.1 hb.2.1 (by omega) (by omega)]
  congr 3
  omega
theorem saved_facts (hok : Ok9 b) {l1 u1 l2 u2 r1 r2 s1 s2 : Int} (h1 : Ends b (fun f => (At b f (lastN b.ns)).1) l1 u1) (h2 : Ends b (fun f => (At b f 60).1) l2 u2)
    (h3 : Ends b (fun f => (At b f (lastN b.ns)).2) r1 r2) (h4 : Ends b (fun f => savS (60 - lastN b.ns) (At b f (lastN b.ns))) s1 s2) :
    0 ≤ s1 ∧ l1 - u2 ≤ s1 ∧ s2 ≤ u1 ∧ s1 ≤ s2 ∧ u1 - u2 ≤ s2 ∧ (0 < r2 ∨ s1 = 0 ∧ s2 = 0) ∧ (lastN b.ns < 60 ∨ s1 = 0 ∧ s2 = 0) := by
  have hl := lastN_bd hok
  have hS : ∀ f, Path b f → savS (60 - lastN b.ns) (At b f (lastN b.ns)) = (At b f (lastN b.ns)).1 - (At b f 60).1 := fun f hf => saved_path hok hf hl.2
  obtain ⟨f1, p1, e1⟩ := h4.low
  obtain ⟨f2, p2, e2⟩ := h4.high
  obtain ⟨f3, p3, e3⟩ := h1.high
  have a1 := h1.all f1 p1
  have a2 := h2.all f1 p1
  have b1 := h1.all f2 p2
  have b2 := (At_bd hok p2 60).1.1
  have c2 := h2.all f3 p3
  have c4 := h4.all f3 p3
  have d1 := At_le hok p1 hl.1 hl.2
  have z : ∀ f, Path b f → (r2 ≤ 0 ∨ 60 ≤ lastN b.ns) → savS (60 - lastN b.ns) (At b f (lastN b.ns)) = 0 := fun f hf hc => by
    have g1 := At_bd hok hf (lastN b.ns)
    have g2 := (h3.all f hf).2
    unfold savS aftS
    dsimp only
    rw [afterH_eq g1.2.1 _ _ g1.1.1]
    rcases hc with hc | hc
    · rw [show (At b f (lastN b.ns)).2 = 0 by omega]
      omega
    · rw [show (60 - lastN b.ns).toNat = 0 by omega]
      simp
      omega
  have hS1 := hS f1 p1
  have hS2 := hS f2 p2
  have hS3 := hS f3 p3
  have y : (r2 ≤ 0 ∨ 60 ≤ lastN b.ns) → s1 = 0 ∧ s2 = 0 := fun hc => ⟨by rw [← e1]; exact z f1 p1 hc, by rw [← e2]; exact z f2 p2 hc⟩
  refine ⟨by omega, by omega, by omega, by omega, by omega, ?_, ?_⟩
  · by_cases hc : 0 < r2
    · exact .inl hc
    · exact .inr (y (.inl (by omega)))
  · by_cases hc : lastN b.ns < 60
    · exact .inl hc
    · exact .inr (y (.inr (by omega)))
end
end Go.Proofs.YtjjfpbjdcmkkhaaDoor

namespace Go.Proofs.YtjjfpbjdcmkkhaaDoor
open Go Go.RowKit Go.Shelf
theorem upN_in {h : Int} {s : Nt} : ∀ {ns : List Nt} {i : Nat}, i < upN ns h → ns[i]? = some s → s.hour ≤ h
  | [], i, hi, _ => by simp [upN] at hi
  | t :: l, i, hi, hs => by
    unfold upN at hi
    by_cases h1 : t.hour ≤ h
    · rw [List.takeWhile_cons_of_pos (by simpa using h1), List.length_cons] at hi
      cases i with
      | zero => simp at hs; subst hs; exact h1
      | succ i =>
        rw [List.getElem?_cons_succ] at hs
        exact upN_in (ns := l) (i := i) (by unfold upN; omega) hs
    · rw [List.takeWhile_cons_of_neg (by simpa using h1)] at hi
      simp at hi
theorem ins_len {ns : List Nt} {u : Nat} {s : Nt} (hu : u ≤ ns.length) : (insN ns u s).length = ns.length + 1 := by
  rw [insN, List.length_append, List.length_append, List.length_take, List.length_drop, List.length_singleton]
  omega
section
variable {b : Sn} {s : Nt} {t : Int}
theorem up_before (ht : t < s.hour) : upN (insN b.ns (upN b.ns s.hour) s) t = upN b.ns t := by
  have hu := upN_le b.ns s.hour
  have hv := upN_le b.ns t
  have hm : upN b.ns t ≤ upN b.ns s.hour := upN_mono (by omega)
  refine upN_at (fun i s' hi hs => ?_) (by rw [ins_len hu]; omega) (fun s' hs => ?_)
  · rw [ins_lt hu (by omega)] at hs
    exact upN_in hi hs
  · by_cases he : upN b.ns t = upN b.ns s.hour
    · rw [he, ins_at hu] at hs
      cases hs
      omega
    · rw [ins_lt hu (by omega)] at hs
      have := upN_not hs
      omega
theorem up_behind (ht : s.hour ≤ t) : upN (insN b.ns (upN b.ns s.hour) s) t = upN b.ns t + 1 := by
  have hu := upN_le b.ns s.hour
  have hv := upN_le b.ns t
  have hm : upN b.ns s.hour ≤ upN b.ns t := upN_mono ht
  refine upN_at (fun i s' hi hs => ?_) (by rw [ins_len hu]; omega) (fun s' hs => ?_)
  · rcases Nat.lt_trichotomy i (upN b.ns s.hour) with h | h | h
    · rw [ins_lt hu h] at hs
      have := upN_in h hs
      omega
    · rw [h, ins_at hu] at hs
      cases hs
      exact ht
    · obtain ⟨j, rfl⟩ : ∃ j, i = j + 1 := ⟨i - 1, by omega⟩
      rw [ins_gt hu (by omega)] at hs
      exact upN_in (by omega) hs
  · rw [ins_gt hu hm] at hs
    have := upN_not hs
    omega
theorem at_before (ht : t < s.hour) (f : Nat → Int × Int) : At (withS b s) f t = At b f t := by
  unfold At sinN
  show aftS (f (upN (insN b.ns (upN b.ns s.hour) s) t)) (t - pastN (insN b.ns (upN b.ns s.hour) s) (upN (insN b.ns (upN b.ns s.hour) s) t)) = _
  rw [up_before ht, past_lt (upN_le _ _) (upN_mono (by omega))]
/-- Without a sounding a path goes on as it did. -/
theorem path_less (hok : Ok9 b) (hw : Ok9 (withS b s)) (h0 : 0 ≤ s.hour) (hs : s.kind = 4) {f : Nat → Int × Int} (hf : Path (withS b s) f) : ∃ g, Path b g ∧ ∀ t, At (withS b s) f t = At b g t := by
  have hu := upN_le b.ns s.hour
  have hq : ∀ k, k ≤ b.ns.length → 0 ≤ (f k).1 ∧ 0 ≤ (f k).2 := fun k hk => by
    have h3 := path_K hw hf (k := k) (by rw [withS_len]; omega)
    exact ⟨h3.1.1, h3.2.1⟩
  obtain ⟨f0, f1⟩ := hf
  have e0 : befS (insN b.ns (upN b.ns s.hour) s) (upN b.ns s.hour) (f (upN b.ns s.hour)) = aftS (f (upN b.ns s.hour)) (sinN b.ns s.hour) := by
    unfold befS
    rw [gapN_at (ins_at hu), past_lt hu (Nat.le_refl _)]
    rfl
  have h1 : f (upN b.ns s.hour + 1) ∈ behL s (aftS (f (upN b.ns s.hour)) (sinN b.ns s.hour)) := by
    have := f1 (upN b.ns s.hour) s (ins_at hu)
    rw [← e0]; exact this
  have h2 : f (upN b.ns s.hour + 1) = aftS (f (upN b.ns s.hour)) (sinN b.ns s.hour) := by
    unfold behL at h1
    obtain ⟨m, hm, h3⟩ := List.mem_map.1 h1
    obtain ⟨h4, h5⟩ := List.mem_filter.1 hm
    simp [rightB, hs] at h5
    simp [doesS, hs] at h3
    exact h3.symm
  refine ⟨fun k => if k ≤ upN b.ns s.hour then f k else f (k + 1), ⟨by
    have h : f 0 ∈ startL b.lo b.hi := f0
    simpa using h, fun k t ht => ?_⟩, fun t => ?_⟩
  · rcases Nat.lt_trichotomy k (upN b.ns s.hour) with hk | hk | hk
    · have e : befS (insN b.ns (upN b.ns s.hour) s) k = befS b.ns k := by
        funext q
        unfold befS
        rw [gapN_at (by rw [ins_lt hu hk]; exact ht), gapN_at ht, past_lt hu (by omega)]
      simp only [if_pos (show k + 1 ≤ upN b.ns s.hour by omega), if_pos (show k ≤ upN b.ns s.hour by omega), ← e]
      exact f1 k t (by show (insN b.ns _ s)[k]? = _; rw [ins_lt hu hk]; exact ht)
    · subst hk
      obtain ⟨q0, q1⟩ := hq _ hu
      simp only [if_neg (show ¬ upN b.ns s.hour + 1 ≤ upN b.ns s.hour by omega), if_pos (Nat.le_refl _)]
      have h3 := f1 (upN b.ns s.hour + 1) t (by show (insN b.ns _ s)[upN b.ns s.hour + 1]? = _; rw [ins_gt hu (Nat.le_refl _)]; exact ht)
      have h4 : befS (withS b s).ns (upN b.ns s.hour + 1) (f (upN b.ns s.hour + 1)) = befS b.ns (upN b.ns s.hour) (f (upN b.ns s.hour)) := by
        rw [h2]; exact bef_next hok h0 q0 q1 ht
      rw [h4] at h3
      exact h3
    · obtain ⟨j, rfl⟩ : ∃ j, k = j + 1 := ⟨k - 1, by omega⟩
      have e : befS (insN b.ns (upN b.ns s.hour) s) (j + 1 + 1) = befS b.ns (j + 1) := by
        funext q
        unfold befS
        rw [gapN_at (by rw [ins_gt hu (by omega)]; exact ht), gapN_at ht, past_gt hu (by omega)]
      simp only [if_neg (show ¬ j + 1 + 1 ≤ upN b.ns s.hour by omega), if_neg (show ¬ j + 1 ≤ upN b.ns s.hour by omega), ← e]
      exact f1 (j + 1 + 1) t (by show (insN b.ns _ s)[j + 1 + 1]? = _; rw [ins_gt hu (by omega)]; exact ht)
  · by_cases ht : t < s.hour
    · rw [at_before ht]
      unfold At
      simp only [if_pos (upN_mono (ns := b.ns) (show t ≤ s.hour by omega))]
    · have hm : upN b.ns s.hour ≤ upN b.ns t := upN_mono (by omega)
      unfold At sinN
      show aftS (f (upN (insN b.ns (upN b.ns s.hour) s) t)) (t - pastN (insN b.ns (upN b.ns s.hour) s) (upN (insN b.ns (upN b.ns s.hour) s) t)) = _
      rw [up_behind (by omega)]
      by_cases he : upN b.ns t = upN b.ns s.hour
      · obtain ⟨q0, q1⟩ := hq _ hu
        have hb := sinN_bd hok h0
        rw [he, past_at hu, h2, aft_aft q0 q1 hb.1 (by omega)]
        simp only [if_pos (Nat.le_refl _)]
        congr 1
        unfold sinN; omega
      · obtain ⟨j, hj⟩ : ∃ j, upN b.ns t = j + 1 := ⟨upN b.ns t - 1, by omega⟩
        rw [hj, past_gt hu (by omega)]
        simp only [if_neg (show ¬ j + 1 ≤ upN b.ns s.hour by omega)]
theorem more_on (hok : Ok9 b) (hw : Ok9 (withS b s)) (h0 : 0 ≤ s.hour) (hc : s.kind = 4 ∨ lastN b.ns ≤ s.hour) {f : Nat → Int × Int} (hf : Path (withS b s) f) : ∃ g, Path b g ∧ ∀ t, (s.kind = 4 ∨ t < s.hour) → At (withS b s) f t = At b g t := by
  by_cases hk : s.kind = 4
  · obtain ⟨g, hg, h⟩ := path_less hok hw h0 hk hf
    exact ⟨g, hg, fun t _ => h t⟩
  · exact ⟨f, ((path_end hok (hc.resolve_left hk)).1 hf).1, fun t ht => at_before (ht.resolve_left hk) f⟩
theorem more_right (hok : Ok9 b) (hw : Ok9 (withS b s)) (h0 : 0 ≤ s.hour) (hc : s.kind = 4 ∨ lastN b.ns ≤ s.hour) (hr : rightS (withS b s) = true) : rightS b = true := by
  obtain ⟨f, hf⟩ := rightS_iff.1 hr
  obtain ⟨g, hg, -⟩ := more_on hok hw h0 hc hf
  exact rightS_iff.2 ⟨g, hg⟩
theorem more_ends (hok : Ok9 b) (hw : Ok9 (withS b s)) (h0 : 0 ≤ s.hour) (hc : s.kind = 4 ∨ lastN b.ns ≤ s.hour) (ht : s.kind = 4 ∨ t < s.hour) {G : Int × Int → Int} {l u l' u' : Int}
    (hE : Ends b (fun f => G (At b f t)) l u) (hE' : Ends (withS b s) (fun f => G (At (withS b s) f t)) l' u') : l ≤ l' ∧ u' ≤ u := by
  obtain ⟨f1, p1, e1⟩ := hE'.low
  obtain ⟨f2, p2, e2⟩ := hE'.high
  obtain ⟨g1, q1, k1⟩ := more_on hok hw h0 hc p1
  obtain ⟨g2, q2, k2⟩ := more_on hok hw h0 hc p2
  have a1 := (hE.all g1 q1).1
  have a2 := (hE.all g2 q2).2
  rw [← k1 t ht] at a1
  rw [← k2 t ht] at a2
  try dsimp only at e1 e2
  omega
end
theorem snB_with {b : Sn} {s : Nt} (hv : snB b = true) (hs : ntB s = true) (h8 : b.ns.length < 8) : snB (withS b s) = true := by
  have h1 := (Ok9.with hv hs).chain
  have h2 := withS_len b s
  simp only [snB, notesB, Bool.and_eq_true, decide_eq_true_eq] at hv ⊢
  exact ⟨hv.1, by omega, h1⟩
theorem snB_len {b : Sn} (hv : snB b = true) : b.ns.length ≤ 8 := by
  simp only [snB, notesB, Bool.and_eq_true, decide_eq_true_eq] at hv
  exact hv.2.1
theorem last_at {l : List Nt} {k : Nat} {t : Nt} (hk : l.length = k + 1) (ht : l[k]? = some t) : lastN l = t.hour := by
  unfold lastN
  rw [hk]
  simp only [pastN, ht]
theorem chainN_each : ∀ {l : List Nt} {a : Int}, chainN a l = true → ∀ s ∈ l, ntB s = true
  | [], _, _, s, hs => by simp at hs
  | t :: l, a, h, s, hs => by
    simp only [chainN, Bool.and_eq_true, decide_eq_true_eq] at h
    rcases List.mem_cons.1 hs with rfl | hs
    · exact h.1.1
    · exact chainN_each h.2 s hs
theorem snB_not {b : Sn} {s : Nt} (hs : ntB s = false) : snB (withS b s) = false := by
  cases h : snB (withS b s) with
  | false => rfl
  | true =>
    simp only [snB, notesB, Bool.and_eq_true, decide_eq_true_eq] at h
    have := chainN_each h.2.2 s (by rw [withS_ns]; simp)
    rw [hs] at this
    cases this
end Go.Proofs.YtjjfpbjdcmkkhaaDoor

