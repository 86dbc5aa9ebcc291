/- Package tide: a haul that loses nothing; one whose gale comes at an hour. -/
/- Package seine, plainly: truths as paths; the ends of what is held, and of the rate. Cut out of Pa by gen_cutT.py. -/
import Derived.Test.YtcaeohgbgeadaaaGreatDoorQEa
import Derived.Test.YtcaeohgbgeadaaaGreatDoorQDn
set_option linter.unusedSimpArgs false
set_option linter.unusedVariables false
namespace Go.Proofs.YtcaeohgbgeadaaaGreatDoor
open Go Go.RowKit Go.Shelf
/-- The haul if the seine loses nothing. -/
def Hl.mend (h : Hl) : Hl := ⟨h.b, h.hl, h.hh, 0, 0⟩
/-- The haul if the gale comes at an hour. -/
def Hl.gale (h : Hl) (g : Int) : Hl := ⟨⟨h.b.q, h.b.now, h.b.ts, g, g, h.b.most, h.b.rest⟩, h.hl, h.hh, h.rl, h.rh⟩
attribute [local go_sem] Oper.semAt_some frozen_alloc_lt
set_option maxRecDepth 100000 in
set_option maxHeartbeats 4000000 in
theorem mended_any (h : Hl) (p : Tp) (w : World) : Calls Tryz.prog 75 #[hlv h p] w fun e w' => e = .returned (hlv (h.mend) p) ∧ ∃ x, w' = ext w x := by
  unfold hlv
  go_enter Tryz.func75, Tryz.ntmps75
  go_wp2_with fail
  refine bodyPost_ret (v := hlv (h.mend) p) (by simp [hlv, results, Tryz.results75, go_sem, Hl.mend, Hl.gale]) rfl ⟨rfl, by (exact ext_of (by (repeat (first | (with_reducible exact Below.refl _ _) | (with_reducible assumption) | ((with_reducible refine below_ext_trans ?_ ?_ _); rotate_left; focus (((try dsimp only); repeat (first | omega | simp only [World.size_alloc, World.size_setCell, World.size_drew] | (with_reducible refine le_ext_of ?_) | (with_reducible refine le_ext_add ?_))); done)) | ((with_reducible refine Below.alloc ?_ ?_ _); rotate_left; focus (((try dsimp only); repeat (first | omega | simp only [World.size_alloc, World.size_setCell, World.size_drew] | (with_reducible refine le_ext_of ?_) | (with_reducible refine le_ext_add ?_))); done)) | ((with_reducible refine Below.setCell ?_ ?_ _); rotate_left; focus (((try dsimp only); repeat (first | omega | simp only [World.size_alloc, World.size_setCell, World.size_drew] | (with_reducible refine le_ext_of ?_) | (with_reducible refine le_ext_add ?_))); done)) | (with_reducible refine Below.drew ?_)))))⟩
set_option maxRecDepth 100000 in
set_option maxHeartbeats 4000000 in
theorem with_anyT (h : Hl) (p : Tp) (g : Int) (w : World) : Calls Tryz.prog 82 #[hlv h p, .int .i64 g] w fun e w' => e = .returned (hlv (h.gale g) p) ∧ ∃ x, w' = ext w x := by
  unfold hlv
  go_enter Tryz.func82, Tryz.ntmps82
  go_wp2_with fail
  refine bodyPost_ret (v := hlv (h.gale g) p) (by simp [hlv, results, Tryz.results82, go_sem, Hl.mend, Hl.gale]) rfl ⟨rfl, by (exact ext_of (by (repeat (first | (with_reducible exact Below.refl _ _) | (with_reducible assumption) | ((with_reducible refine below_ext_trans ?_ ?_ _); rotate_left; focus (((try dsimp only); repeat (first | omega | simp only [World.size_alloc, World.size_setCell, World.size_drew] | (with_reducible refine le_ext_of ?_) | (with_reducible refine le_ext_add ?_))); done)) | ((with_reducible refine Below.alloc ?_ ?_ _); rotate_left; focus (((try dsimp only); repeat (first | omega | simp only [World.size_alloc, World.size_setCell, World.size_drew] | (with_reducible refine le_ext_of ?_) | (with_reducible refine le_ext_add ?_))); done)) | ((with_reducible refine Below.setCell ?_ ?_ _); rotate_left; focus (((try dsimp only); repeat (first | omega | simp only [World.size_alloc, World.size_setCell, World.size_drew] | (with_reducible refine le_ext_of ?_) | (with_reducible refine le_ext_add ?_))); done)) | (with_reducible refine Below.drew ?_)))))⟩
end Go.Proofs.YtcaeohgbgeadaaaGreatDoor

namespace Go.Proofs.YtcaeohgbgeadaaaGreatDoor
open Go Go.RowKit Go.Shelf

/-- A path through all notes: a state behind each number of them. -/
def Path (b : Sn) (f : Nat → Int × Int) : Prop := f 0 ∈ startL b.lo b.hi ∧ ∀ k s, b.ns[k]? = some s → f (k + 1) ∈ behL s (befS b.ns k (f k))
/-- The same from one note on. -/
def PathJ (ns : List Nt) (k j : Nat) (l : List (Int × Int)) (f : Nat → Int × Int) : Prop := f k ∈ l ∧ ∀ i s, k ≤ i → i < k + j → ns[i]? = some s → f (i + 1) ∈ behL s (befS ns i (f i))
theorem mem_tlL {ns : List Nt} : ∀ (j k : Nat) (l : List (Int × Int)), k + j = ns.length → ∀ (i : Nat) (L : List (Int × Int)), (tlL ns j k l)[i]? = some L → ∀ z, z ∈ L ↔ ∃ f, PathJ ns k j l f ∧ f (k + i) = z
  | 0, k, l, _, i, L, hL, z => by
    cases i with
    | succ i => simp [tlL] at hL
    | zero =>
      simp [tlL] at hL; subst hL
      constructor
      · intro hz
        exact ⟨fun _ => z, ⟨hz, fun i s h1 h2 => by omega⟩, rfl⟩
      · rintro ⟨f, ⟨h1, -⟩, rfl⟩
        exact h1
  | j + 1, k, l, hkj, i, L, hL, z => by
    obtain ⟨s, hs⟩ := get_some ns k (by omega)
    rw [tlL_step hs] at hL
    have hlen := tlL_len (ns := ns) j (k + 1) (rchL ns k s l) (by omega)
    cases i with
    | zero =>
      simp only [List.getElem?_cons_zero, Option.some.injEq] at hL
      subst hL
      obtain ⟨L0, hL0⟩ := get_some (tlL ns j (k + 1) (rchL ns k s l)) 0 (by omega)
      have hd : (tlL ns j (k + 1) (rchL ns k s l)).headD [] = L0 := by
        cases htl : tlL ns j (k + 1) (rchL ns k s l) with
        | nil => rw [htl] at hlen; simp at hlen
        | cons a t => rw [htl] at hL0; simp at hL0; simp [hL0]
      rw [hd]
      have ih := mem_tlL j (k + 1) (rchL ns k s l) (by omega) 0 L0 hL0
      simp only [leadL, leadB, List.mem_filter, List.any_eq_true, decide_eq_true_eq]
      constructor
      · rintro ⟨hz, u, hu, hu2⟩
        obtain ⟨f, ⟨h1, h2⟩, h3⟩ := (ih u).1 hu2
        refine ⟨fun n => if n ≤ k then z else f n, ⟨by simpa using hz, fun i t hi1 hi2 ht => ?_⟩, by simp⟩
        by_cases hik : i = k
        · subst hik
          rw [hs] at ht; cases ht
          simp only [Nat.le_refl, if_true, if_neg (show ¬ i + 1 ≤ i by omega)]
          rw [Nat.add_zero] at h3
          rw [h3]; exact hu
        · simp only [if_neg (show ¬ i + 1 ≤ k by omega), if_neg (show ¬ i ≤ k by omega)]
          exact h2 i t (by omega) (by omega) ht
      · rintro ⟨f, ⟨h1, h2⟩, rfl⟩
        rw [Nat.add_zero] at *
        have h3 := h2 k s (Nat.le_refl _) (by omega) hs
        refine ⟨h1, f (k + 1), h3, (ih _).2 ⟨f, ⟨?_, fun i t a1 a2 a3 => h2 i t (by omega) (by omega) a3⟩, rfl⟩⟩
        exact List.mem_flatMap.2 ⟨f k, h1, h3⟩
    | succ i =>
      rw [List.getElem?_cons_succ] at hL
      rw [mem_tlL j (k + 1) (rchL ns k s l) (by omega) i L hL z]
      constructor
      · rintro ⟨f, ⟨h1, h2⟩, rfl⟩
        obtain ⟨st, hst, h3⟩ := List.mem_flatMap.1 h1
        refine ⟨fun n => if n ≤ k then st else f n, ⟨by simpa using hst, fun i t hi1 hi2 ht => ?_⟩, by simp only [if_neg (show ¬ k + (i + 1) ≤ k by omega)]; congr 1; omega⟩
        by_cases hik : i = k
        · subst hik
          rw [hs] at ht; cases ht
          simp only [Nat.le_refl, if_true, if_neg (show ¬ i + 1 ≤ i by omega)]
          exact h3
        · simp only [if_neg (show ¬ i + 1 ≤ k by omega), if_neg (show ¬ i ≤ k by omega)]
          exact h2 i t (by omega) (by omega) ht
      · rintro ⟨f, ⟨h1, h2⟩, rfl⟩
        exact ⟨f, ⟨List.mem_flatMap.2 ⟨f k, h1, h2 k s (Nat.le_refl _) (by omega) hs⟩, fun i t a1 a2 a3 => h2 i t (by omega) (by omega) a3⟩, by congr 1; omega⟩
theorem mem_behN {b : Sn} {k : Nat} (hk : k ≤ b.ns.length) {z : Int × Int} : z ∈ behN b k ↔ ∃ f, Path b f ∧ f k = z := by
  have h := mem_tlL b.ns.length 0 (startL b.lo b.hi) (by omega) k (behN b k) (behN_at hk) z
  rw [h]
  constructor
  · rintro ⟨f, ⟨h1, h2⟩, h3⟩
    exact ⟨f, ⟨h1, fun i s hs => h2 i s (by omega) (by have := (List.getElem?_eq_some_iff.1 hs).1; omega) hs⟩, by rw [← h3, Nat.zero_add]⟩
  · rintro ⟨f, ⟨h1, h2⟩, h3⟩
    exact ⟨f, ⟨h1, fun i s _ _ hs => h2 i s hs⟩, by rw [← h3, Nat.zero_add]⟩
theorem mem_atL {b : Sn} {h : Int} {z : Int × Int} : z ∈ atL b h ↔ ∃ f, Path b f ∧ aftS (f (upN b.ns h)) (sinN b.ns h) = z := by
  simp only [atL, latL, List.mem_map, mem_behN (upN_le b.ns h)]
  constructor
  · rintro ⟨a, ⟨f, h1, rfl⟩, h2⟩; exact ⟨f, h1, h2⟩
  · rintro ⟨f, h1, h2⟩; exact ⟨_, ⟨f, h1, rfl⟩, h2⟩
theorem rightS_iff {b : Sn} : rightS b = true ↔ ∃ f, Path b f := by
  unfold rightS
  rw [decide_eq_true_eq]
  constructor
  · intro h
    obtain ⟨z, hz⟩ := List.exists_mem_of_ne_nil _ h
    obtain ⟨f, hf, -⟩ := (mem_behN (Nat.zero_le _)).1 hz
    exact ⟨f, hf⟩
  · rintro ⟨f, hf⟩ he
    have := (mem_behN (Nat.zero_le _)).2 ⟨f, hf, rfl⟩
    rw [he] at this; simp at this
/-- What is so at an hour of a path. -/
def At (b : Sn) (f : Nat → Int × Int) (h : Int) : Int × Int := aftS (f (upN b.ns h)) (sinN b.ns h)
theorem path_K {b : Sn} (hok : Ok9 b) {f : Nat → Int × Int} (hf : Path b f) {k : Nat} (hk : k ≤ b.ns.length) : StK k (f k) :=
  talL_K hok (behN_at hk) _ ((mem_behN hk).2 ⟨f, hf, rfl⟩)
theorem At_mem {b : Sn} {f : Nat → Int × Int} (hf : Path b f) (h : Int) : At b f h ∈ atL b h := mem_atL.2 ⟨f, hf, rfl⟩
theorem mem_At {b : Sn} {h : Int} {z : Int × Int} (hz : z ∈ atL b h) : ∃ f, Path b f ∧ At b f h = z := mem_atL.1 hz
theorem At_bd {b : Sn} (hok : Ok9 b) {f : Nat → Int × Int} (hf : Path b f) (h : Int) : (0 ≤ (At b f h).1 ∧ (At b f h).1 ≤ 400) ∧ 0 ≤ (At b f h).2 ∧ (At b f h).2 ≤ 81 := by
  have h1 := path_K hok hf (upN_le b.ns h)
  obtain ⟨⟨g1, g2⟩, g3, g4⟩ := h1
  have h2 := afterH_bd g3 (sinN b.ns h).toNat (f (upN b.ns h)).1 g1
  have h3 := upN_le b.ns h
  have h4 := hok.len
  unfold At aftS
  dsimp only
  refine ⟨by omega, g3, ?_⟩
  have : (upN b.ns h : Int) ≤ 9 := by omega
  omega
/-- The least and the greatest of a list, by a number of its elements. -/
theorem minF_le {g : Int × Int → Int} : ∀ {l : List (Int × Int)} {a : Int}, minF g a l ≤ a ∧ ∀ z ∈ l, minF g a l ≤ g z
  | [], a => ⟨Int.le_refl _, fun z hz => by simp at hz⟩
  | x :: l, a => by
    have h : minF g a (x :: l) = minF g (min a (g x)) l := rfl
    obtain ⟨h1, h2⟩ := minF_le (g := g) (l := l) (a := min a (g x))
    rw [h]
    refine ⟨by omega, fun z hz => ?_⟩
    rcases List.mem_cons.1 hz with rfl | hz
    · omega
    · exact h2 z hz
theorem minF_mem {g : Int × Int → Int} : ∀ {l : List (Int × Int)} {a : Int}, minF g a l = a ∨ ∃ z ∈ l, minF g a l = g z
  | [], a => .inl rfl
  | x :: l, a => by
    have h : minF g a (x :: l) = minF g (min a (g x)) l := rfl
    rw [h]
    rcases minF_mem (g := g) (l := l) (a := min a (g x)) with h1 | ⟨z, hz, h1⟩
    · rw [h1]
      by_cases hx : a ≤ g x
      · exact .inl (Int.min_eq_left hx)
      · exact .inr ⟨x, by simp, Int.min_eq_right (by omega)⟩
    · exact .inr ⟨z, by simp [hz], h1⟩
theorem maxF_ge {g : Int × Int → Int} : ∀ {l : List (Int × Int)} {a : Int}, a ≤ maxF g a l ∧ ∀ z ∈ l, g z ≤ maxF g a l
  | [], a => ⟨Int.le_refl _, fun z hz => by simp at hz⟩
  | x :: l, a => by
    have h : maxF g a (x :: l) = maxF g (max a (g x)) l := rfl
    obtain ⟨h1, h2⟩ := maxF_ge (g := g) (l := l) (a := max a (g x))
    rw [h]
    refine ⟨by omega, fun z hz => ?_⟩
    rcases List.mem_cons.1 hz with rfl | hz
    · omega
    · exact h2 z hz
theorem maxF_mem {g : Int × Int → Int} : ∀ {l : List (Int × Int)} {a : Int}, maxF g a l = a ∨ ∃ z ∈ l, maxF g a l = g z
  | [], a => .inl rfl
  | x :: l, a => by
    have h : maxF g a (x :: l) = maxF g (max a (g x)) l := rfl
    rw [h]
    rcases maxF_mem (g := g) (l := l) (a := max a (g x)) with h1 | ⟨z, hz, h1⟩
    · rw [h1]
      by_cases hx : g x ≤ a
      · exact .inl (Int.max_eq_left hx)
      · exact .inr ⟨x, by simp, Int.max_eq_right (by omega)⟩
    · exact .inr ⟨z, by simp [hz], h1⟩
/-- The ends of what is held, or lost, at an hour are those of a path. -/
structure Ends (b : Sn) (g : (Nat → Int × Int) → Int) (lo hi : Int) : Prop where
  low : ∃ f, Path b f ∧ g f = lo
  high : ∃ f, Path b f ∧ g f = hi
  all : ∀ f, Path b f → lo ≤ g f ∧ g f ≤ hi
theorem Ends.of {b : Sn} {g : Int × Int → Int} {l : List (Int × Int)} {G : (Nat → Int × Int) → Int} {lo hi : Int} (h1 : ∀ f, Path b f → ∃ z ∈ l, g z = G f) (h2 : ∀ z ∈ l, ∃ f, Path b f ∧ G f = g z) (h3 : ∃ f, Path b f) (h4 : ∀ f, Path b f → lo ≤ G f ∧ G f ≤ hi) (hlo : hi ≤ hi) : Ends b G (minF g hi l) (maxF g lo l) := by
  obtain ⟨f0, hf0⟩ := h3
  obtain ⟨z0, hz0, e0⟩ := h1 f0 hf0
  have hb0 := h4 f0 hf0
  refine ⟨?_, ?_, fun f hf => ?_⟩
  · rcases minF_mem (g := g) (l := l) (a := hi) with h5 | ⟨z, hz, h5⟩
    · have := (minF_le (g := g) (l := l) (a := hi)).2 z0 hz0
      exact ⟨f0, hf0, by omega⟩
    · obtain ⟨f, hf, e⟩ := h2 z hz
      exact ⟨f, hf, by rw [e, h5]⟩
  · rcases maxF_mem (g := g) (l := l) (a := lo) with h5 | ⟨z, hz, h5⟩
    · have := (maxF_ge (g := g) (l := l) (a := lo)).2 z0 hz0
      exact ⟨f0, hf0, by omega⟩
    · obtain ⟨f, hf, e⟩ := h2 z hz
      exact ⟨f, hf, by rw [e, h5]⟩
  · obtain ⟨z, hz, e⟩ := h1 f hf
    rw [← e]
    exact ⟨(minF_le (g := g) (l := l) (a := hi)).2 z hz, (maxF_ge (g := g) (l := l) (a := lo)).2 z hz⟩
theorem ends_held {b : Sn} (hok : Ok9 b) (hr : rightS b = true) (h : Int) : Ends b (fun f => (At b f h).1) (minF Prod.fst 400 (atL b h)) (maxF Prod.fst 0 (atL b h)) :=
  Ends.of (fun f hf => ⟨_, At_mem hf h, rfl⟩) (fun z hz => by obtain ⟨f, hf, e⟩ := mem_At hz; exact ⟨f, hf, by rw [← e]⟩) (rightS_iff.1 hr) (fun f hf => (At_bd hok hf h).1) (Int.le_refl _)
theorem ends_rate {b : Sn} (hok : Ok9 b) (hr : rightS b = true) (h : Int) : Ends b (fun f => (At b f h).2) (minF Prod.snd 400 (atL b h)) (maxF Prod.snd 0 (atL b h)) :=
  Ends.of (fun f hf => ⟨_, At_mem hf h, rfl⟩) (fun z hz => by obtain ⟨f, hf, e⟩ := mem_At hz; exact ⟨f, hf, by rw [← e]⟩) (rightS_iff.1 hr) (fun f hf => by have := (At_bd hok hf h).2; omega) (Int.le_refl _)
end Go.Proofs.YtcaeohgbgeadaaaGreatDoor

