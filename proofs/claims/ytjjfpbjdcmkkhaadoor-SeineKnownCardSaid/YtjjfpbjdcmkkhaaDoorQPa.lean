/- Plain facts: what a seine's book tells, as paths of states through its notes. -/
/- Plain facts: what is held falls as hours go by. -/
import Derived.Test.YtjjfpbjdcmkkhaaDoorQNh
set_option linter.unusedSimpArgs false
set_option linter.unusedVariables false
namespace Go.Proofs.YtjjfpbjdcmkkhaaDoor
open Go Go.RowKit Go.Shelf

/-- A path through all notes: a state behind each number of them. -/
def Path (b : Sn) (f : Nat → Int × Int) : Prop := f 0 ∈ startL b.lo b.hi ∧ ∀ k s, b.ns[k]? = some s → f (k + 1) ∈ behL s (befS b.ns k (f k))
/-- The same from one note on. -/
def PathJ (ns : List Nt) (k j : Nat) (l : List (Int × Int)) (f : Nat → Int × Int) : Prop := f k ∈ l ∧ ∀ i s, k ≤ i → i < k + j → ns[i]? = some s → f (i + 1) ∈ behL s (befS ns i (f i))
theorem mem_tlL {ns : List Nt} : ∀ (j k : Nat) (l : List (Int × Int)), k + j = ns.length → ∀ (i : Nat) (L : List (Int × Int)), (tlL ns j k l)[i]? = some L → ∀ z, z ∈ L ↔ ∃ f, PathJ ns k j l f ∧ f (k + i) = z
  | 0, k, l, _, i, L, hL, z => by
    cases i with
    | succ i => simp [tlL] at hL
    | zero =>
      simp [tlL] at hL; subst hL
      constructor
      · intro hz
        exact ⟨fun _ => z, ⟨hz, fun i s h1 h2 => by omega⟩, rfl⟩
      · rintro ⟨f, ⟨h1, -⟩, rfl⟩
        exact h1
  | j + 1, k, l, hkj, i, L, hL, z => by
    obtain ⟨s, hs⟩ := get_some ns k (by omega)
    rw [tlL_step hs] at hL
    have hlen := tlL_len (ns := ns) j (k + 1) (rchL ns k s l) (by omega)
    cases i with
    | zero =>
      simp only [List.getElem?_cons_zero, Option.some.injEq] at hL
      subst hL
      obtain ⟨L0, hL0⟩ := get_some (tlL ns j (k + 1) (rchL ns k s l)) 0 (by omega)
      have hd : (tlL ns j (k + 1) (rchL ns k s l)).headD [] = L0 := by
        cases htl : tlL ns j (k + 1) (rchL ns k s l) with
        | nil => rw [htl] at hlen; simp at hlen
        | cons a t => rw [htl] at hL0; simp at hL0; simp [hL0]
      rw [hd]
      have ih := mem_tlL j (k + 1) (rchL ns k s l) (by omega) 0 L0 hL0
      simp only [leadL, leadB, List.mem_filter, List.any_eq_true, decide_eq_true_eq]
      constructor
      · rintro ⟨hz, u, hu, hu2⟩
        obtain ⟨f, ⟨h1, h2⟩, h3⟩ := (ih u).1 hu2
        refine ⟨fun n => if n ≤ k then z else f n, ⟨by simpa using hz, fun i t hi1 hi2 ht => ?_⟩, by simp⟩
        by_cases hik : i = k
        · subst hik
          rw [hs] at ht; cases ht
          simp only [Nat.le_refl, if_true, if_neg (show ¬ i + 1 ≤ i by omega)]
          rw [Nat.add_zero] at h3
          rw [h3]; exact hu
        · simp only [if_neg (show ¬ i + 1 ≤ k by omega), if_neg (show ¬ i ≤ k by omega)]
          exact h2 i t (by omega) (by omega) ht
      · rintro ⟨f, ⟨h1, h2⟩, rfl⟩
        rw [Nat.add_zero] at *
        have h3 := h2 k s (Nat.le_refl _) (by omega) hs
        refine ⟨h1, f (k + 1), h3, (ih _).2 ⟨f, ⟨?_, fun i t a1 a2 a3 => h2 i t (by omega) (by omega) a3⟩, rfl⟩⟩
        exact List.mem_flatMap.2 ⟨f k, h1, h3⟩
    | succ i =>
      rw [List.getElem?_cons_succ] at hL
      rw [mem_tlL j (k + 1) (rchL ns k s l) (by omega) i L hL z]
      constructor
      · rintro ⟨f, ⟨h1, h2⟩, rfl⟩
        obtain ⟨st, hst, h3⟩ := List.mem_flatMap.1 h1
        refine ⟨fun n => if n ≤ k then st else f n, ⟨by simpa using hst, fun i t hi1 hi2 ht => ?_⟩, by simp only [if_neg (show ¬ k + (i + 1) ≤ k by omega)]; congr 1; omega⟩
        by_cases hik : i = k
        · subst hik
          rw [hs] at ht; cases ht
          simp only [Nat.le_refl, if_true, if_neg (show ¬ i + 1 ≤ i by omega)]
          exact h3
        · simp only [if_neg (show ¬ i + 1 ≤ k by omega), if_neg (show ¬ i ≤ k by omega)]
          exact h2 i t (by omega) (by omega) ht
      · rintro ⟨f, ⟨h1, h2⟩, rfl⟩
        exact ⟨f, ⟨List.mem_flatMap.2 ⟨f k, h1, h2 k s (Nat.le_refl _) (by omega) hs⟩, fun i t a1 a2 a3 => h2 i t (by omega) (by omega) a3⟩, by congr 1; omega⟩
theorem mem_behN {b : Sn} {k : Nat} (hk : k ≤ b.ns.length) {z : Int × Int} : z ∈ behN b k ↔ ∃ f, Path b f ∧ f k = z := by
  have h := mem_tlL b.ns.length 0 (startL b.lo b.hi) (by omega) k (behN b k) (behN_at hk) z
  rw [h]
  constructor
  · rintro ⟨f, ⟨h1, h2⟩, h3⟩
    exact ⟨f, ⟨h1, fun i s hs => h2 i s (by omega) (by have := (List.getElem?_eq_some_iff.1 hs).1; omega) hs⟩, by rw [← h3, Nat.zero_add]⟩
  · rintro ⟨f, ⟨h1, h2⟩, h3⟩
    exact ⟨f, ⟨h1, fun i s _ _ hs => h2 i s hs⟩, by rw [← h3, Nat.zero_add]⟩
theorem mem_atL {b : Sn} {h : Int} {z : Int × Int} : z ∈ atL b h ↔ ∃ f, Path b f ∧ aftS (f (upN b.ns h)) (sinN b.ns h) = z := by
  simp only [atL, latL, List.mem_map, mem_behN (upN_le b.ns h)]
  constructor
  · rintro ⟨a, ⟨f, h1, rfl⟩, h2⟩; exact ⟨f, h1, h2⟩
  · rintro ⟨f, h1, h2⟩; exact ⟨_, ⟨f, h1, rfl⟩, h2⟩
theorem rightS_iff {b : Sn} : rightS b = true ↔ ∃ f, Path b f := by
  unfold rightS
  rw [decide_eq_true_eq]
  constructor
  · intro h
    obtain ⟨z, hz⟩ := List.exists_mem_of_ne_nil _ h
    obtain ⟨f, hf, -⟩ := (mem_behN (Nat.zero_le _)).1 hz
    exact ⟨f, hf⟩
  · rintro ⟨f, hf⟩ he
    have := (mem_behN (Nat.zero_le _)).2 ⟨f, hf, rfl⟩
    rw [he] at this; simp at this
/-- What is so at an hour of a path. -/
def At (b : Sn) (f : Nat → Int × Int) (h : Int) : Int × Int := aftS (f (upN b.ns h)) (sinN b.ns h)
theorem path_K {b : Sn} (hok : Ok9 b) {f : Nat → Int × Int} (hf : Path b f) {k : Nat} (hk : k ≤ b.ns.length) : StK k (f k) :=
  talL_K hok (behN_at hk) _ ((mem_behN hk).2 ⟨f, hf, rfl⟩)
theorem At_mem {b : Sn} {f : Nat → Int × Int} (hf : Path b f) (h : Int) : At b f h ∈ atL b h := mem_atL.2 ⟨f, hf, rfl⟩
theorem mem_At {b : Sn} {h : Int} {z : Int × Int} (hz : z ∈ atL b h) : ∃ f, Path b f ∧ At b f h = z := mem_atL.1 hz
theorem At_bd {b : Sn} (hok : Ok9 b) {f : Nat → Int × Int} (hf : Path b f) (h : Int) : (0 ≤ (At b f h).1 ∧ (At b f h).1 ≤ 400) ∧ 0 ≤ (At b f h).2 ∧ (At b f h).2 ≤ 81 := by
  have h1 := path_K hok hf (upN_le b.ns h)
  obtain ⟨⟨g1, g2⟩, g3, g4⟩ := h1
  have h2 := afterH_bd g3 (sinN b.ns h).toNat (f (upN b.ns h)).1 g1
  have h3 := upN_le b.ns h
  have h4 := hok.len
  unfold At aftS
  dsimp only
  refine ⟨by omega, g3, ?_⟩
  have : (upN b.ns h : Int) ≤ 9 := by omega
  omega
/-- The least and the greatest of a list, by a number of its elements. -/
theorem minF_le {g : Int × Int → Int} : ∀ {l : List (Int × Int)} {a : Int}, minF g a l ≤ a ∧ ∀ z ∈ l, minF g a l ≤ g z
  | [], a => ⟨Int.le_refl _, fun z hz => by simp at hz⟩
  | x :: l, a => by
    have h : minF g a (x :: l) = minF g (min a (g x)) l := rfl
    obtain ⟨h1, h2⟩ := minF_le (g := g) (l := l) (a := min a (g x))
    rw [h]
    refine ⟨by omega, fun z hz => ?_⟩
    rcases List.mem_cons.1 hz with rfl | hz
    · omega
    · exact h2 z hz
theorem minF_mem {g : Int × Int → Int} : ∀ {l : List (Int × Int)} {a : Int}, minF g a l = a ∨ ∃ z ∈ l, minF g a l = g z
  | [], a => .inl rfl
  | x :: l, a => by
    have h : minF g a (x :: l) = minF g (min a (g x)) l := rfl
    rw [h]
    rcases minF_mem (g := g) (l := l) (a := min a (g x)) with h1 | ⟨z, hz, h1⟩
    · rw [h1]
      by_cases hx : a ≤ g x
      · exact .inl (Int.min_eq_left hx)
      · exact .inr ⟨x, by simp, Int.min_eq_right (by omega)⟩
    · exact .inr ⟨z, by simp [hz], h1⟩
theorem maxF_ge {g : Int × Int → Int} : ∀ {l : List (Int × Int)} {a : Int}, a ≤ maxF g a l ∧ ∀ z ∈ l, g z ≤ maxF g a l
  | [], a => ⟨Int.le_refl _, fun z hz => by simp at hz⟩
  | x :: l, a => by
    have h : maxF g a (x :: l) = maxF g (max a (g x)) l := rfl
    obtain ⟨h1, h2⟩ := maxF_ge (g := g) (l := l) (a := max a (g x))
    rw [h]
    refine ⟨by omega, fun z hz => ?_⟩
    rcases List.mem_cons.1 hz with rfl | hz
    · omega
    · exact h2 z hz
theorem maxF_mem {g : Int × Int → Int} : ∀ {l : List (Int × Int)} {a : Int}, maxF g a l = a ∨ ∃ z ∈ l, maxF g a l = g z
  | [], a => .inl rfl
  | x :: l, a => by
    have h : maxF g a (x :: l) = maxF g (max a (g x)) l := rfl
    rw [h]
    rcases maxF_mem (g := g) (l := l) (a := max a (g x)) with h1 | ⟨z, hz, h1⟩
    · rw [h1]
      by_cases hx : g x ≤ a
      · exact .inl (Int.max_eq_left hx)
      · exact .inr ⟨x, by simp, Int.max_eq_right (by omega)⟩
    · exact .inr ⟨z, by simp [hz], h1⟩
/-- The ends of what is held, or lost, at an hour are those of a path. -/
structure Ends (b : Sn) (g : (Nat → Int × Int) → Int) (lo hi : Int) : Prop where
  low : ∃ f, Path b f ∧ g f = lo
  high : ∃ f, Path b f ∧ g f = hi
  all : ∀ f, Path b f → lo ≤ g f ∧ g f ≤ hi
theorem Ends.of {b : Sn} {g : Int × Int → Int} {l : List (Int × Int)} {G : (Nat → Int × Int) → Int} {lo hi : Int} (h1 : ∀ f, Path b f → ∃ z ∈ l, g z = G f) (h2 : ∀ z ∈ l, ∃ f, Path b f ∧ G f = g z) (h3 : ∃ f, Path b f) (h4 : ∀ f, Path b f → lo ≤ G f ∧ G f ≤ hi) (hlo : hi ≤ hi) : Ends b G (minF g hi l) (maxF g lo l) := by
  obtain ⟨f0, hf0⟩ := h3
  obtain ⟨z0, hz0, e0⟩ := h1 f0 hf0
  have hb0 := h4 f0 hf0
  refine ⟨?_, ?_, fun f hf => ?_⟩
  · rcases minF_mem (g := g) (l := l) (a := hi) with h5 | ⟨z, hz, h5⟩
    · have := (minF_le (g := g) (l := l) (a := hi)).2 z0 hz0
      exact ⟨f0, hf0, by omega⟩
    · obtain ⟨f, hf, e⟩ := h2 z hz
      exact ⟨f, hf, by rw [e, h5]⟩
  · rcases maxF_mem (g := g) (l := l) (a := lo) with h5 | ⟨z, hz, h5⟩
    · have := (maxF_ge (g := g) (l := l) (a := lo)).2 z0 hz0
      exact ⟨f0, hf0, by omega⟩
    · obtain ⟨f, hf, e⟩ := h2 z hz
      exact ⟨f, hf, by rw [e, h5]⟩
  · obtain ⟨z, hz, e⟩ := h1 f hf
    rw [← e]
    exact ⟨(minF_le (g := g) (l := l) (a := hi)).2 z hz, (maxF_ge (g := g) (l := l) (a := lo)).2 z hz⟩
theorem ends_held {b : Sn} (hok : Ok9 b) (hr : rightS b = true) (h : Int) : Ends b (fun f => (At b f h).1) (minF Prod.fst 400 (atL b h)) (maxF Prod.fst 0 (atL b h)) :=
  Ends.of (fun f hf => ⟨_, At_mem hf h, rfl⟩) (fun z hz => by obtain ⟨f, hf, e⟩ := mem_At hz; exact ⟨f, hf, by rw [← e]⟩) (rightS_iff.1 hr) (fun f hf => (At_bd hok hf h).1) (Int.le_refl _)
theorem ends_rate {b : Sn} (hok : Ok9 b) (hr : rightS b = true) (h : Int) : Ends b (fun f => (At b f h).2) (minF Prod.snd 400 (atL b h)) (maxF Prod.snd 0 (atL b h)) :=
  Ends.of (fun f hf => ⟨_, At_mem hf h, rfl⟩) (fun z hz => by obtain ⟨f, hf, e⟩ := mem_At hz; exact ⟨f, hf, by rw [← e]⟩) (rightS_iff.1 hr) (fun f hf => by have := (At_bd hok hf h).2; omega) (Int.le_refl _)
theorem ends_saved {b : Sn} (hok : Ok9 b) (hr : rightS b = true) (h n : Int) : Ends b (fun f => savS n (At b f h)) (minF (savS n) 400 (atL b h)) (maxF (savS n) 0 (atL b h)) :=
  Ends.of (fun f hf => ⟨_, At_mem hf h, rfl⟩) (fun z hz => by obtain ⟨f, hf, e⟩ := mem_At hz; exact ⟨f, hf, by rw [← e]⟩) (rightS_iff.1 hr) (fun f hf => by
    have h1 := At_bd hok hf h
    have h2 := afterH_bd h1.2.1 n.toNat _ h1.1.1
    unfold savS aftS
    dsimp only
    omega) (Int.le_refl _)
theorem can_iff {b : Sn} {h m : Int} : canB b h m = true ↔ ∃ f, Path b f ∧ (At b f h).1 = m := by
  unfold canB
  simp only [List.any_eq_true, decide_eq_true_eq]
  constructor
  · rintro ⟨z, hz, rfl⟩; obtain ⟨f, hf, e⟩ := mem_At hz; exact ⟨f, hf, by rw [e]⟩
  · rintro ⟨f, hf, rfl⟩; exact ⟨_, At_mem hf h, rfl⟩
end Go.Proofs.YtjjfpbjdcmkkhaaDoor

namespace Go.Proofs.YtjjfpbjdcmkkhaaDoor
open Go Go.RowKit Go.Shelf

theorem upN_mono {ns : List Nt} {a c : Int} (h : a ≤ c) : upN ns a ≤ upN ns c := by
  unfold upN
  induction ns with
  | nil => simp
  | cons s l ih =>
    by_cases h1 : s.hour ≤ a
    · have h2 : s.hour ≤ c := by omega
      rw [List.takeWhile_cons_of_pos (by simpa using h1), List.takeWhile_cons_of_pos (by simpa using h2)]
      simpa using ih
    · rw [List.takeWhile_cons_of_neg (by simpa using h1)]
      simp
theorem upN_not {ns : List Nt} {h : Int} {s : Nt} (hs : ns[upN ns h]? = some s) : h < s.hour := by
  unfold upN at hs
  induction ns with
  | nil => simp at hs
  | cons t l ih =>
    by_cases h1 : t.hour ≤ h
    · rw [List.takeWhile_cons_of_pos (by simpa using h1), List.length_cons, List.getElem?_cons_succ] at hs
      exact ih hs
    · rw [List.takeWhile_cons_of_neg (by simpa using h1)] at hs
      simp at hs
      subst hs; omega
theorem afterH_mono {r h : Int} (hr : 0 ≤ r) (h0 : 0 ≤ h) {m n : Nat} (hmn : m ≤ n) : afterH r n h ≤ afterH r m h := by
  rw [afterH_eq hr n h h0, afterH_eq hr m h h0]
  have : (m : Int) * r ≤ (n : Int) * r := Int.mul_le_mul_of_nonneg_right (by omega) hr
  omega
theorem beh_le {b : Sn} (hok : Ok9 b) {k : Nat} {s : Nt} (hs : b.ns[k]? = some s) {st z : Int × Int} (h1 : 0 ≤ st.1) (h2 : 0 ≤ st.2) (hz : z ∈ behL s (befS b.ns k st)) : z.1 ≤ (befS b.ns k st).1 := by
  obtain ⟨hkn, -, hsp⟩ := hok.nt hs
  have h3 := afterH_bd h2 (gapN b.ns k).toNat st.1 h1
  exact (behL_bd hkn hsp (st := befS b.ns k st) h3.1 h2 hz).2.1
theorem At_le {b : Sn} (hok : Ok9 b) {f : Nat → Int × Int} (hf : Path b f) {a c : Int} (h0 : 0 ≤ a) (hac : a ≤ c) : (At b f c).1 ≤ (At b f a).1 := by
  have hN : ∀ k, k ≤ b.ns.length → 0 ≤ (f k).1 ∧ 0 ≤ (f k).2 := fun k hk => ⟨(path_K hok hf hk).1.1, (path_K hok hf hk).2.1⟩
  have hu := upN_le b.ns a
  have hv := upN_le b.ns c
  have huv := upN_mono (ns := b.ns) hac
  have key : ∀ k, upN b.ns a < k → k ≤ b.ns.length → (f k).1 ≤ (At b f a).1 := by
    intro k
    induction k with
    | zero => intro h; omega
    | succ k ih =>
      intro h1 h2
      obtain ⟨s, hs⟩ := get_some b.ns k (by omega)
      obtain ⟨hk1, hk2⟩ := hN k (by omega)
      have h3 := beh_le hok hs hk1 hk2 (hf.2 k s hs)
      by_cases hk : k = upN b.ns a
      · have hs2 := hs
        rw [hk] at hs2
        have h4 := upN_not hs2
        have h5 : gapN b.ns k = s.hour - pastN b.ns k := gapN_at hs
        have h6 : (befS b.ns k (f k)).1 ≤ (At b f a).1 := by
          unfold At
          rw [← hk]
          unfold befS aftS sinN
          rw [← hk]
          dsimp only
          exact afterH_mono hk2 hk1 (by omega)
        omega
      · have h4 := ih (by omega) (by omega)
        have h5 := (afterH_bd hk2 (gapN b.ns k).toNat (f k).1 hk1).2
        have h6 : (befS b.ns k (f k)).1 ≤ (f k).1 := h5
        omega
  obtain ⟨hv1, hv2⟩ := hN _ hv
  by_cases he : upN b.ns a = upN b.ns c
  · unfold At aftS
    rw [← he] at hv1 hv2 ⊢
    unfold sinN
    rw [← he]
    dsimp only
    exact afterH_mono hv2 hv1 (by omega)
  · have h1 := key (upN b.ns c) (by omega) hv
    have h2 := (afterH_bd hv2 (sinN b.ns c).toNat (f (upN b.ns c)).1 hv1).2
    have h3 : (At b f c).1 ≤ (f (upN b.ns c)).1 := h2
    omega
/-- Both ends of what is held fall. -/
theorem ends_fall {b : Sn} (hok : Ok9 b) {a c : Int} (h0 : 0 ≤ a) (hac : a ≤ c) {l1 u1 l2 u2 : Int} (h1 : Ends b (fun f => (At b f a).1) l1 u1) (h2 : Ends b (fun f => (At b f c).1) l2 u2) : l2 ≤ l1 ∧ u2 ≤ u1 := by
  obtain ⟨f, hf, e⟩ := h1.low
  obtain ⟨g, hg, e2⟩ := h2.high
  have h3 := (h2.all f hf).1
  have h4 := (h1.all g hg).2
  have h5 := At_le hok hf h0 hac
  have h6 := At_le hok hg h0 hac
  omega
theorem topH_bd {b : Sn} (hok : Ok9 b) (hr : rightS b = true) (h : Int) : 0 ≤ topH b h := by
  obtain ⟨f, hf, e⟩ := (ends_held hok hr h).high
  have h2 := (At_bd hok hf h).1.1
  have e2 : (At b f h).1 = topH b h := e
  omega
end Go.Proofs.YtjjfpbjdcmkkhaaDoor

