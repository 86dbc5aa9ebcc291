/- Plain facts: a seine without notes, and with one tucking. -/
/- Plain facts: a note more among a book's notes; a sounding asks what can be held. -/
import Derived.Test.YtjjfpbjdcmkkhaaDoorQPa
set_option linter.unusedSimpArgs false
set_option linter.unusedVariables false
namespace Go.Proofs.YtjjfpbjdcmkkhaaDoor
open Go Go.RowKit Go.Shelf

theorem Ends.uniq {b : Sn} {g : (Nat → Int × Int) → Int} {l u l' u' : Int} (h : Ends b g l u) (k : Ends b g l' u') : l = l' ∧ u = u' := by
  obtain ⟨f1, hf1, e1⟩ := h.low
  obtain ⟨f2, hf2, e2⟩ := h.high
  obtain ⟨f3, hf3, e3⟩ := k.low
  obtain ⟨f4, hf4, e4⟩ := k.high
  have a1 := k.all f1 hf1
  have a2 := k.all f2 hf2
  have a3 := h.all f3 hf3
  have a4 := h.all f4 hf4
  omega
theorem mem_startL {lo hi : Int} {q : Int × Int} : q ∈ startL lo hi ↔ (lo ≤ q.1 ∧ q.1 ≤ hi) ∧ q.2 = 0 := by
  unfold startL
  simp only [List.mem_map, mem_numsL]
  constructor
  · rintro ⟨a, h, rfl⟩; exact ⟨h, rfl⟩
  · rintro ⟨h1, h2⟩; exact ⟨q.1, h1, Prod.ext rfl h2.symm⟩
theorem aft_still {q : Int × Int} (h0 : 0 ≤ q.1) (h1 : q.2 = 0) (n : Int) : aftS q n = q := by
  obtain ⟨m, r⟩ := q
  dsimp only at h0 h1
  subst h1
  unfold aftS
  dsimp only
  rw [afterH_stay (by omega)]
section
variable {lo hi : Int}
theorem path_none {f : Nat → Int × Int} : Path ⟨lo, hi, []⟩ f ↔ (lo ≤ (f 0).1 ∧ (f 0).1 ≤ hi) ∧ (f 0).2 = 0 := by
  constructor
  · rintro ⟨h, -⟩; exact mem_startL.1 h
  · intro h; exact ⟨mem_startL.2 h, fun k s hs => by simp at hs⟩
theorem At_none (h0 : 0 ≤ lo) {f : Nat → Int × Int} (hf : Path ⟨lo, hi, []⟩ f) (h : Int) : At ⟨lo, hi, []⟩ f h = f 0 := by
  obtain ⟨h1, h2⟩ := path_none.1 hf
  exact aft_still (by simp [upN]; omega) (by simpa [upN] using h2) _
theorem plain_right (h : lo ≤ hi) : rightS ⟨lo, hi, []⟩ = true := rightS_iff.2 ⟨fun _ => (lo, 0), path_none.2 ⟨⟨by omega, by omega⟩, rfl⟩⟩
theorem plain_held (h0 : 0 ≤ lo) (h : lo ≤ hi) (t : Int) : Ends ⟨lo, hi, []⟩ (fun f => (At ⟨lo, hi, []⟩ f t).1) lo hi := by
  have pl : Path ⟨lo, hi, []⟩ (fun _ => (lo, 0)) := path_none.2 ⟨⟨by omega, by omega⟩, rfl⟩
  have ph : Path ⟨lo, hi, []⟩ (fun _ => (hi, 0)) := path_none.2 ⟨⟨by omega, by omega⟩, rfl⟩
  refine ⟨⟨_, pl, by simp only [At_none h0 pl]⟩, ⟨_, ph, by simp only [At_none h0 ph]⟩, fun f hf => ?_⟩
  have := (path_none.1 hf).1
  simp only [At_none h0 hf]
  exact this
theorem plain_rate (h0 : 0 ≤ lo) (h : lo ≤ hi) (t : Int) : Ends ⟨lo, hi, []⟩ (fun f => (At ⟨lo, hi, []⟩ f t).2) 0 0 := by
  have pl : Path ⟨lo, hi, []⟩ (fun _ => (lo, 0)) := path_none.2 ⟨⟨by omega, by omega⟩, rfl⟩
  refine ⟨⟨_, pl, by simp only [At_none h0 pl]⟩, ⟨_, pl, by simp only [At_none h0 pl]⟩, fun f hf => ?_⟩
  have := (path_none.1 hf).2
  simp only [At_none h0 hf]
  omega
theorem plain_saved (h0 : 0 ≤ lo) (h : lo ≤ hi) (t n : Int) : Ends ⟨lo, hi, []⟩ (fun f => savS n (At ⟨lo, hi, []⟩ f t)) 0 0 := by
  have key : ∀ f, Path ⟨lo, hi, []⟩ f → savS n (At ⟨lo, hi, []⟩ f t) = 0 := fun f hf => by
    have h1 := path_none.1 hf
    rw [At_none h0 hf]
    unfold savS
    rw [aft_still (by omega) h1.2]
    omega
  have pl : Path ⟨lo, hi, []⟩ (fun _ => (lo, 0)) := path_none.2 ⟨⟨by omega, by omega⟩, rfl⟩
  exact ⟨⟨_, pl, key _ pl⟩, ⟨_, pl, key _ pl⟩, fun f hf => by have := key f hf; omega⟩
variable {at' many : Int}
abbrev tuckS (lo hi at' many : Int) : Sn := ⟨lo, hi, [⟨0, at', many, many⟩]⟩
theorem path_tuck (h0 : 0 ≤ lo) {f : Nat → Int × Int} : Path (tuckS lo hi at' many) f ↔ ((lo ≤ (f 0).1 ∧ (f 0).1 ≤ hi) ∧ (f 0).2 = 0) ∧ many ≤ (f 0).1 ∧ f 1 = ((f 0).1 - many, 0) := by
  have hb : ∀ g : Nat → Int × Int, 0 ≤ (g 0).1 → (g 0).2 = 0 → (g 1 ∈ behL ⟨0, at', many, many⟩ (befS [⟨0, at', many, many⟩] 0 (g 0)) ↔ many ≤ (g 0).1 ∧ g 1 = ((g 0).1 - many, 0)) := fun g g1 g2 => by
    have e : befS [⟨0, at', many, many⟩] 0 (g 0) = g 0 := aft_still g1 g2 _
    rw [e]
    unfold behL
    simp only [List.mem_map, List.mem_filter, mem_numsL]
    constructor
    · rintro ⟨m, ⟨h1, h2⟩, h3⟩
      obtain rfl : m = many := by omega
      simp [rightB] at h2
      refine ⟨h2, ?_⟩
      rw [← h3]
      simp [doesS, g2]
    · rintro ⟨h1, h2⟩
      refine ⟨many, ⟨⟨Int.le_refl _, Int.le_refl _⟩, by simp [rightB, h1]⟩, ?_⟩
      rw [h2]
      simp [doesS, g2]
  constructor
  · rintro ⟨h1, h2⟩
    have h3 : (lo ≤ (f 0).1 ∧ (f 0).1 ≤ hi) ∧ (f 0).2 = 0 := mem_startL.1 h1
    exact ⟨h3, (hb f (by omega) h3.2).1 (h2 0 _ rfl)⟩
  · rintro ⟨h1, h2⟩
    refine ⟨mem_startL.2 h1, fun k s hs => ?_⟩
    cases k with
    | zero =>
      simp at hs
      subst hs
      exact (hb f (by omega) h1.2).2 h2
    | succ k => simp at hs
theorem tuck_right (h0 : 0 ≤ lo) (h : lo ≤ hi) : rightS (tuckS lo hi at' many) = decide (many ≤ hi) := by
  by_cases hm : many ≤ hi
  · rw [rightS_iff.2 ⟨fun k => if k = 0 then (hi, 0) else (hi - many, 0), (path_tuck h0).2 ⟨⟨⟨by simp; omega, by simp⟩, rfl⟩, by simpa using hm, rfl⟩⟩]
    simp [hm]
  · have : rightS (tuckS lo hi at' many) ≠ true := fun e => by
      obtain ⟨f, hf⟩ := rightS_iff.1 e
      have := (path_tuck h0).1 hf
      omega
    simp only [Bool.not_eq_true] at this
    rw [this]
    simp [hm]
def tuckF (m many : Int) : Nat → Int × Int := fun k => if k = 0 then (m, 0) else (m - many, 0)
theorem tuck_path (h0 : 0 ≤ lo) {m : Int} (h1 : lo ≤ m) (h2 : m ≤ hi) (h3 : many ≤ m) : Path (tuckS lo hi at' many) (tuckF m many) := (path_tuck h0).2 ⟨⟨⟨h1, h2⟩, rfl⟩, h3, rfl⟩
theorem tuck_before (h0 : 0 ≤ lo) (h : lo ≤ hi) (hm : many ≤ hi) {t : Int} (ht : t < at') : Ends (tuckS lo hi at' many) (fun f => (At (tuckS lo hi at' many) f t).1) (max lo many) hi := by
  have key : ∀ f, Path (tuckS lo hi at' many) f → (At (tuckS lo hi at' many) f t).1 = (f 0).1 := fun f hf => by
    have h1 := (path_tuck h0).1 hf
    have hu : upN (tuckS lo hi at' many).ns t = 0 := by simp [upN, List.takeWhile_cons]; omega
    unfold At
    rw [hu, aft_still (by omega) h1.1.2]
  have p1 := tuck_path (at' := at') (hi := hi) h0 (m := max lo many) (by omega) (by omega) (by omega : many ≤ max lo many)
  have p2 := tuck_path (at' := at') (hi := hi) h0 (m := hi) (by omega) (by omega) hm
  refine ⟨⟨_, p1, key _ p1⟩, ⟨_, p2, key _ p2⟩, fun f hf => ?_⟩
  have h1 := (path_tuck h0).1 hf
  have h2 := key f hf
  omega
theorem tuck_behind (h0 : 0 ≤ lo) (h : lo ≤ hi) (hm : many ≤ hi) {t : Int} (ht : at' ≤ t) : Ends (tuckS lo hi at' many) (fun f => (At (tuckS lo hi at' many) f t).1) (max lo many - many) (hi - many) := by
  have key : ∀ f, Path (tuckS lo hi at' many) f → (At (tuckS lo hi at' many) f t).1 = (f 0).1 - many := fun f hf => by
    have h1 := (path_tuck h0).1 hf
    have hu : upN (tuckS lo hi at' many).ns t = 1 := by simp [upN, List.takeWhile_cons, ht]
    unfold At
    rw [hu, h1.2.2, aft_still (by dsimp only; omega) rfl]
  have p1 := tuck_path (at' := at') (hi := hi) h0 (m := max lo many) (by omega) (by omega) (by omega : many ≤ max lo many)
  have p2 := tuck_path (at' := at') (hi := hi) h0 (m := hi) (by omega) (by omega) hm
  refine ⟨⟨_, p1, key _ p1⟩, ⟨_, p2, key _ p2⟩, fun f hf => ?_⟩
  have h1 := (path_tuck h0).1 hf
  have h2 := key f hf
  omega
theorem tuck_valid (s1 : 0 ≤ lo) (s2 : lo ≤ 400) (s3 : 0 ≤ hi) (s4 : hi ≤ 400) (s5 : lo ≤ hi) (s6 : hi - lo ≤ 12) (b1 : 0 ≤ at' ∧ at' ≤ 60) (b2 : 0 ≤ many ∧ many ≤ 400) : snB (tuckS lo hi at' many) = true := by
  simp [snB, notesB, chainN, ntB, noteB, spanB, inB, mostOf]
  omega
end
end Go.Proofs.YtjjfpbjdcmkkhaaDoor

namespace Go.Proofs.YtjjfpbjdcmkkhaaDoor
open Go Go.RowKit Go.Shelf

theorem aft_aft {q : Int × Int} (h0 : 0 ≤ q.1) (h1 : 0 ≤ q.2) {a c : Int} (ha : 0 ≤ a) (hc : 0 ≤ c) : aftS (aftS q a) c = aftS q (a + c) := by
  obtain ⟨x, r⟩ := q
  dsimp only at h0 h1
  unfold aftS
  dsimp only
  refine Prod.ext ?_ rfl
  dsimp only
  have hb := afterH_bd h1 a.toNat x h0
  rw [afterH_eq h1 c.toNat _ hb.1, afterH_eq h1 a.toNat x h0, afterH_eq h1 (a + c).toNat x h0, Int.toNat_of_nonneg ha, Int.toNat_of_nonneg hc, Int.toNat_of_nonneg (by omega), Int.add_mul]
  have p1 : 0 ≤ a * r := Int.mul_nonneg ha h1
  have p2 : 0 ≤ c * r := Int.mul_nonneg hc h1
  generalize a * r = A at *
  generalize c * r = C at *
  omega
section
variable {ns : List Nt} {u : Nat} {s : Nt}
abbrev insN (ns : List Nt) (u : Nat) (s : Nt) : List Nt := ns.take u ++ [s] ++ ns.drop u
theorem ins_lt (hu : u ≤ ns.length) {k : Nat} (hk : k < u) : (insN ns u s)[k]? = ns[k]? := by
  rw [insN, List.append_assoc, List.getElem?_append_left (by rw [List.length_take]; omega), List.getElem?_take_of_lt hk]
theorem ins_at (hu : u ≤ ns.length) : (insN ns u s)[u]? = some s := by
  rw [insN, List.append_assoc, List.getElem?_append_right (by rw [List.length_take]; omega), List.length_take, Nat.min_eq_left hu, Nat.sub_self]
  rfl
theorem ins_gt (hu : u ≤ ns.length) {k : Nat} (hk : u ≤ k) : (insN ns u s)[k + 1]? = ns[k]? := by
  rw [insN, List.getElem?_append_right (by rw [List.length_append, List.length_take, List.length_singleton]; omega), List.length_append, List.length_take, List.length_singleton, Nat.min_eq_left hu, List.getElem?_drop]
  congr 1; omega
theorem past_lt (hu : u ≤ ns.length) {k : Nat} (hk : k ≤ u) : pastN (insN ns u s) k = pastN ns k := by
  cases k with
  | zero => rfl
  | succ k => simp only [pastN, ins_lt hu (show k < u by omega)]
theorem past_at (hu : u ≤ ns.length) : pastN (insN ns u s) (u + 1) = s.hour := by simp only [pastN, ins_at hu]
theorem past_gt (hu : u ≤ ns.length) {k : Nat} (hk : u ≤ k) : pastN (insN ns u s) (k + 2) = pastN ns (k + 1) := by
  simp only [pastN]
  rw [ins_gt hu hk]
end
theorem with_ins (b : Sn) (s : Nt) : withS b s = ⟨b.lo, b.hi, insN b.ns (upN b.ns s.hour) s⟩ := rfl
/-- What is so before a note behind the new one, if the seine was as it was at its hour. -/
theorem bef_next {b : Sn} (hok : Ok9 b) {s t : Nt} (h0 : 0 ≤ s.hour) {q : Int × Int} (q0 : 0 ≤ q.1) (q1 : 0 ≤ q.2) (ht : b.ns[upN b.ns s.hour]? = some t) :
    befS (insN b.ns (upN b.ns s.hour) s) (upN b.ns s.hour + 1) (aftS q (sinN b.ns s.hour)) = befS b.ns (upN b.ns s.hour) q := by
  have hu := upN_le b.ns s.hour
  have h1 : gapN (insN b.ns (upN b.ns s.hour) s) (upN b.ns s.hour + 1) = t.hour - s.hour := by
    rw [gapN_at (s := t) (by rw [ins_gt hu (Nat.le_refl _)]; exact ht), past_at hu]
  have h2 := upN_not ht
  have h3 := sinN_bd hok h0
  unfold befS
  rw [h1, aft_aft q0 q1 h3.1 (by omega), gapN_at ht]
  congr 1
  unfold sinN; omega
/-- A book with one note more is true on a path just if the seine, as it is at its hour, leads on by it. -/
theorem path_with {b : Sn} (hok : Ok9 b) {s : Nt} (h0 : 0 ≤ s.hour) (hs : s.kind = 4) {g : Nat → Int × Int} (hg : Path b g) (hm : s.lo ≤ (At b g s.hour).1 ∧ (At b g s.hour).1 ≤ s.hi) : ∃ f, Path (withS b s) f := by
  have hu := upN_le b.ns s.hour
  obtain ⟨g0, g1⟩ := hg
  refine ⟨fun k => if k ≤ upN b.ns s.hour then g k else if k = upN b.ns s.hour + 1 then At b g s.hour else g (k - 1), by
    have h : g 0 ∈ startL b.lo b.hi := g0
    show (if 0 ≤ upN b.ns s.hour then g 0 else _) ∈ startL b.lo b.hi
    simpa using h, fun k t ht => ?_⟩
  have ht' : (insN b.ns (upN b.ns s.hour) s)[k]? = some t := ht
  show _ ∈ behL t (befS (insN b.ns (upN b.ns s.hour) s) k _)
  rcases Nat.lt_trichotomy k (upN b.ns s.hour) with hk | hk | hk
  · rw [ins_lt hu hk] at ht'
    have e : befS (insN b.ns (upN b.ns s.hour) s) k = befS b.ns k := by
      funext q
      unfold befS
      rw [gapN_at (by rw [ins_lt hu hk]; exact ht'), gapN_at ht', past_lt hu (by omega)]
    simp only [if_pos (show k + 1 ≤ upN b.ns s.hour by omega), if_pos (show k ≤ upN b.ns s.hour by omega), e]
    exact g1 k t ht'
  · subst hk
    rw [ins_at hu] at ht'
    cases ht'
    have e : befS (insN b.ns (upN b.ns s.hour) s) (upN b.ns s.hour) (g (upN b.ns s.hour)) = At b g s.hour := by
      unfold befS At
      rw [gapN_at (ins_at hu), past_lt hu (Nat.le_refl _)]
      rfl
    simp only [if_neg (show ¬ upN b.ns s.hour + 1 ≤ upN b.ns s.hour by omega), if_true, Nat.le_refl, e]
    unfold behL
    refine List.mem_map.2 ⟨(At b g s.hour).1, List.mem_filter.2 ⟨mem_numsL.2 hm, by simp [rightB, hs]⟩, by simp [doesS, hs]⟩
  · obtain ⟨j, rfl⟩ : ∃ j, k = j + 1 := ⟨k - 1, by omega⟩
    rw [ins_gt hu (by omega)] at ht'
    have hjl := (List.getElem?_eq_some_iff.1 ht').1
    by_cases hj : j = upN b.ns s.hour
    · subst hj
      have hq := path_K hok ⟨g0, g1⟩ hu
      simp only [if_neg (show ¬ upN b.ns s.hour + 1 + 1 ≤ upN b.ns s.hour by omega), if_neg (show ¬ upN b.ns s.hour + 1 + 1 = upN b.ns s.hour + 1 by omega), if_neg (show ¬ upN b.ns s.hour + 1 ≤ upN b.ns s.hour by omega), if_true]
      rw [show At b g s.hour = aftS (g (upN b.ns s.hour)) (sinN b.ns s.hour) from rfl, bef_next hok h0 hq.1.1 hq.2.1 ht']
      exact g1 _ t ht'
    · obtain ⟨i, rfl⟩ : ∃ i, j = i + 1 := ⟨j - 1, by omega⟩
      have e : befS (insN b.ns (upN b.ns s.hour) s) (i + 1 + 1) = befS b.ns (i + 1) := by
        funext q
        unfold befS
        rw [gapN_at (by rw [ins_gt hu (by omega)]; exact ht'), gapN_at ht', past_gt hu (by omega)]
      simp only [if_neg (show ¬ i + 1 + 1 + 1 ≤ upN b.ns s.hour by omega), if_neg (show ¬ i + 1 + 1 + 1 = upN b.ns s.hour + 1 by omega), if_neg (show ¬ i + 1 + 1 ≤ upN b.ns s.hour by omega), if_neg (show ¬ i + 1 + 1 = upN b.ns s.hour + 1 by omega), e]
      exact g1 (i + 1) t ht'
theorem path_without {b : Sn} (hok : Ok9 b) {s : Nt} (h0 : 0 ≤ s.hour) (hs : s.kind = 4) {f : Nat → Int × Int} (hf : Path (withS b s) f) (hq : ∀ k, k ≤ b.ns.length → 0 ≤ (f k).1 ∧ 0 ≤ (f k).2) : ∃ g, Path b g ∧ s.lo ≤ (At b g s.hour).1 ∧ (At b g s.hour).1 ≤ s.hi := by
  have hu := upN_le b.ns s.hour
  obtain ⟨f0, f1⟩ := hf
  have e0 : befS (insN b.ns (upN b.ns s.hour) s) (upN b.ns s.hour) (f (upN b.ns s.hour)) = aftS (f (upN b.ns s.hour)) (sinN b.ns s.hour) := by
    unfold befS
    rw [gapN_at (ins_at hu), past_lt hu (Nat.le_refl _)]
    rfl
  have h1 : f (upN b.ns s.hour + 1) ∈ behL s (aftS (f (upN b.ns s.hour)) (sinN b.ns s.hour)) := by
    have := f1 (upN b.ns s.hour) s (ins_at hu)
    rw [← e0]; exact this
  have h2 : f (upN b.ns s.hour + 1) = aftS (f (upN b.ns s.hour)) (sinN b.ns s.hour) ∧ s.lo ≤ (aftS (f (upN b.ns s.hour)) (sinN b.ns s.hour)).1 ∧ (aftS (f (upN b.ns s.hour)) (sinN b.ns s.hour)).1 ≤ s.hi := by
    unfold behL at h1
    obtain ⟨m, hm, h3⟩ := List.mem_map.1 h1
    obtain ⟨h4, h5⟩ := List.mem_filter.1 hm
    have h6 := mem_numsL.1 h4
    simp [rightB, hs] at h5
    simp [doesS, hs] at h3
    exact ⟨h3.symm, by omega, by omega⟩
  refine ⟨fun k => if k ≤ upN b.ns s.hour then f k else f (k + 1), ⟨by
    have h : f 0 ∈ startL b.lo b.hi := f0
    simpa using h, fun k t ht => ?_⟩, ?_⟩
  · rcases Nat.lt_trichotomy k (upN b.ns s.hour) with hk | hk | hk
    · have e : befS (insN b.ns (upN b.ns s.hour) s) k = befS b.ns k := by
        funext q
        unfold befS
        rw [gapN_at (by rw [ins_lt hu hk]; exact ht), gapN_at ht, past_lt hu (by omega)]
      simp only [if_pos (show k + 1 ≤ upN b.ns s.hour by omega), if_pos (show k ≤ upN b.ns s.hour by omega), ← e]
      exact f1 k t (by show (insN b.ns _ s)[k]? = _; rw [ins_lt hu hk]; exact ht)
    · subst hk
      obtain ⟨q0, q1⟩ := hq _ hu
      simp only [if_neg (show ¬ upN b.ns s.hour + 1 ≤ upN b.ns s.hour by omega), if_pos (Nat.le_refl _)]
      have h3 := f1 (upN b.ns s.hour + 1) t (by show (insN b.ns _ s)[upN b.ns s.hour + 1]? = _; rw [ins_gt hu (Nat.le_refl _)]; exact ht)
      have h4 : befS (withS b s).ns (upN b.ns s.hour + 1) (f (upN b.ns s.hour + 1)) = befS b.ns (upN b.ns s.hour) (f (upN b.ns s.hour)) := by
        rw [h2.1]; exact bef_next hok h0 q0 q1 ht
      rw [h4] at h3
      exact h3
    · obtain ⟨j, rfl⟩ : ∃ j, k = j + 1 := ⟨k - 1, by omega⟩
      have e : befS (insN b.ns (upN b.ns s.hour) s) (j + 1 + 1) = befS b.ns (j + 1) := by
        funext q
        unfold befS
        rw [gapN_at (by rw [ins_gt hu (by omega)]; exact ht), gapN_at ht, past_gt hu (by omega)]
      simp only [if_neg (show ¬ j + 1 + 1 ≤ upN b.ns s.hour by omega), if_neg (show ¬ j + 1 ≤ upN b.ns s.hour by omega), ← e]
      exact f1 (j + 1 + 1) t (by show (insN b.ns _ s)[j + 1 + 1]? = _; rw [ins_gt hu (by omega)]; exact ht)
  · have : At b (fun k => if k ≤ upN b.ns s.hour then f k else f (k + 1)) s.hour = aftS (f (upN b.ns s.hour)) (sinN b.ns s.hour) := by
      unfold At
      simp
    rw [this]
    exact h2.2
/-- A number can be sounded at an hour just if so much can be held then. -/
theorem sounds_can {b : Sn} (hok : Ok9 b) {h m : Int} (h0 : 0 ≤ h) (hw : Ok9 (withS b ⟨4, h, m, m⟩)) : rightS (withS b ⟨4, h, m, m⟩) = canB b h m := by
  rw [Bool.eq_iff_iff, rightS_iff, can_iff]
  constructor
  · rintro ⟨f, hf⟩
    obtain ⟨g, hg, h1, h2⟩ := path_without hok (s := ⟨4, h, m, m⟩) h0 rfl hf (fun k hk => by
      have h3 := path_K hw hf (k := k) (by
        show k ≤ (insN b.ns _ _).length
        rw [insN, List.length_append, List.length_append, List.length_take, List.length_drop]
        simp only [List.length_singleton]
        omega)
      exact ⟨h3.1.1, h3.2.1⟩)
    dsimp only at h1 h2
    exact ⟨g, hg, by omega⟩
  · rintro ⟨g, hg, e⟩
    exact path_with hok (s := ⟨4, h, m, m⟩) h0 rfl hg (by dsimp only; omega)
end Go.Proofs.YtjjfpbjdcmkkhaaDoor

