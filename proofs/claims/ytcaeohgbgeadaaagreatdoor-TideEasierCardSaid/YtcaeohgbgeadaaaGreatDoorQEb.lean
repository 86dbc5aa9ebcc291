/- Package tide: a haul that loses nothing; one whose gale comes at an hour. -/
/- Package seine, plainly: truths as paths; the ends of what is held, and of the rate. Cut out of Pa by gen_cutT.py. -/
/- Package tide: its functions, on a good book and plan, and in each bad way. -/
/- Package tide: its functions, on a good book and plan. -/
import Derived.Test.YtcaeohgbgeadaaaGreatDoorQEa
import Derived.Test.YtcaeohgbgeadaaaGreatDoorQDn
import Derived.Test.YtcaeohgbgeadaaaGreatDoorQEi
set_option linter.unusedSimpArgs false
set_option linter.unusedVariables false
namespace Go.Proofs.YtcaeohgbgeadaaaGreatDoor
open Go Go.RowKit Go.Shelf
/-- The haul if the seine loses nothing. -/
def Hl.mend (h : Hl) : Hl := ⟨h.b, h.hl, h.hh, 0, 0⟩
/-- The haul if the gale comes at an hour. -/
def Hl.gale (h : Hl) (g : Int) : Hl := ⟨⟨h.b.q, h.b.now, h.b.ts, g, g, h.b.most, h.b.rest⟩, h.hl, h.hh, h.rl, h.rh⟩
attribute [local go_sem] Oper.semAt_some frozen_alloc_lt
set_option maxRecDepth 100000 in
set_option maxHeartbeats 4000000 in
theorem mended_any (h : Hl) (p : Tp) (w : World) : Calls Tryz.prog 75 #[hlv h p] w fun e w' => e = .returned (hlv (h.mend) p) ∧ ∃ x, w' = ext w x := by
  unfold hlv
  go_enter Tryz.func75, Tryz.ntmps75
  go_wp2_with fail
  refine bodyPost_ret (v := hlv (h.mend) p) (by simp [hlv, results, Tryz.results75, go_sem, Hl.mend, Hl.gale]) rfl ⟨rfl, by (exact ext_of (by (exact belA)))⟩
set_option maxRecDepth 100000 in
set_option maxHeartbeats 4000000 in
theorem with_anyT (h : Hl) (p : Tp) (g : Int) (w : World) : Calls Tryz.prog 82 #[hlv h p, .int .i64 g] w fun e w' => e = .returned (hlv (h.gale g) p) ∧ ∃ x, w' = ext w x := by
  unfold hlv
  go_enter Tryz.func82, Tryz.ntmps82
  go_wp2_with fail
  refine bodyPost_ret (v := hlv (h.gale g) p) (by simp [hlv, results, Tryz.results82, go_sem, Hl.mend, Hl.gale]) rfl ⟨rfl, by (exact ext_of (by (exact belA)))⟩
end Go.Proofs.YtcaeohgbgeadaaaGreatDoor

namespace Go.Proofs.YtcaeohgbgeadaaaGreatDoor
open Go Go.RowKit Go.Shelf

/-- A path through all notes: a state behind each number of them. -/
def Path (b : Sn) (f : Nat → Int × Int) : Prop := f 0 ∈ startL b.lo b.hi ∧ ∀ k s, b.ns[k]? = some s → f (k + 1) ∈ behL s (befS b.ns k (f k))
/-- The same from one note on. -/
def PathJ (ns : List Nt) (k j : Nat) (l : List (Int × Int)) (f : Nat → Int × Int) : Prop := f k ∈ l ∧ ∀ i s, k ≤ i → i < k + j → ns[i]? = some s → f (i + 1) ∈ behL s (befS ns i (f i))
theorem mem_tlL {ns : List Nt} : ∀ (j k : Nat) (l : List (Int × Int)), k + j = ns.length → ∀ (i : Nat) (L : List (Int × Int)), (tlL ns j k l)[i]? = some L → ∀ z, z ∈ L ↔ ∃ f, PathJ ns k j l f ∧ f (k + i) = z
  | 0, k, l, _, i, L, hL, z => by
    cases i with
    | succ i => simp [tlL] at hL
    | zero =>
      simp [tlL] at hL; subst hL
      constructor
      · intro hz
        exact ⟨fun _ => z, ⟨hz, fun i s h1 h2 => by omega⟩, rfl⟩
      · rintro ⟨f, ⟨h1, -⟩, rfl⟩
        exact h1
  | j + 1, k, l, hkj, i, L, hL, z => by
    obtain ⟨s, hs⟩ := get_some ns k (by omega)
    rw [tlL_step hs] at hL
    have hlen := tlL_len (ns := ns) j (k + 1) (rchL ns k s l) (by omega)
    cases i with
    | zero =>
      simp only [List.getElem?_cons_zero, Option.some.injEq] at hL
      subst hL
      obtain ⟨L0, hL0⟩ := get_some (tlL ns j (k + 1) (rchL ns k s l)) 0 (by omega)
      have hd : (tlL ns j (k + 1) (rchL ns k s l)).headD [] = L0 := by
        cases htl : tlL ns j (k + 1) (rchL ns k s l) with
        | nil => rw [htl] at hlen; simp at hlen
        | cons a t => rw [htl] at hL0; simp at hL0; simp [hL0]
      rw [hd]
      have ih := mem_tlL j (k + 1) (rchL ns k s l) (by omega) 0 L0 hL0
      simp only [leadL, leadB, List.mem_filter, List.any_eq_true, decide_eq_true_eq]
      constructor
      · rintro ⟨hz, u, hu, hu2⟩
        obtain ⟨f, ⟨h1, h2⟩, h3⟩ := (ih u).1 hu2
        refine ⟨fun n => if n ≤ k then z else f n, ⟨by simpa using hz, fun i t hi1 hi2 ht => ?_⟩, by simp⟩
        by_cases hik : i = k
        · subst hik
          rw [hs] at ht; cases ht
          simp only [Nat.le_refl, if_true, if_neg (show ¬ i + 1 ≤ i by omega)]
          rw [Nat.add_zero] at h3
          rw [h3]; exact hu
        · simp only [if_neg (show ¬ i + 1 ≤ k by omega), if_neg (show ¬ i ≤ k by omega)]
          exact h2 i t (by omega) (by omega) ht
      · rintro ⟨f, ⟨h1, h2⟩, rfl⟩
        rw [Nat.add_zero] at *
        have h3 := h2 k s (Nat.le_refl _) (by omega) hs
        refine ⟨h1, f (k + 1), h3, (ih _).2 ⟨f, ⟨?_, fun i t a1 a2 a3 => h2 i t (by omega) (by omega) a3⟩, rfl⟩⟩
        exact List.mem_flatMap.2 ⟨f k, h1, h3⟩
    | succ i =>
      rw [List.getElem?_cons_succ] at hL
      rw [mem_tlL j (k + 1) (rchL ns k s l) (by omega) i L hL z]
      constructor
      · rintro ⟨f, ⟨h1, h2⟩, rfl⟩
        obtain ⟨st, hst, h3⟩ := List.mem_flatMap.1 h1
        refine ⟨fun n => if n ≤ k then st else f n, ⟨by simpa using hst, fun i t hi1 hi2 ht => ?_⟩, by simp only [if_neg (show ¬ k + (i + 1) ≤ k by omega)]; congr 1; omega⟩
        by_cases hik : i = k
        · subst hik
          rw [hs] at ht; cases ht
          simp only [Nat.le_refl, if_true, if_neg (show ¬ i + 1 ≤ i by omega)]
          exact h3
        · simp only [if_neg (show ¬ i + 1 ≤ k by omega), if_neg (show ¬ i ≤ k by omega)]
          exact h2 i t (by omega) (by omega) ht
      · rintro ⟨f, ⟨h1, h2⟩, rfl⟩
        exact ⟨f, ⟨List.mem_flatMap.2 ⟨f k, h1, h2 k s (Nat.le_refl _) (by omega) hs⟩, fun i t a1 a2 a3 => h2 i t (by omega) (by omega) a3⟩, by congr 1; omega⟩
theorem mem_behN {b : Sn} {k : Nat} (hk : k ≤ b.ns.length) {z : Int × Int} : z ∈ behN b k ↔ ∃ f, Path b f ∧ f k = z := by
  have h := mem_tlL b.ns.length 0 (startL b.lo b.hi) (by omega) k (behN b k) (behN_at hk) z
  rw [h]
  constructor
  · rintro ⟨f, ⟨h1, h2⟩, h3⟩
    exact ⟨f, ⟨h1, fun i s hs => h2 i s (by omega) (by have := (List.getElem?_eq_some_iff.1 hs).1; omega) hs⟩, by rw [← h3, Nat.zero_add]⟩
  · rintro ⟨f, ⟨h1, h2⟩, h3⟩
    exact ⟨f, ⟨h1, fun i s _ _ hs => h2 i s hs⟩, by rw [← h3, Nat.zero_add]⟩
theorem mem_atL {b : Sn} {h : Int} {z : Int × Int} : z ∈ atL b h ↔ ∃ f, Path b f ∧ aftS (f (upN b.ns h)) (sinN b.ns h) = z := by
  simp only [atL, latL, List.mem_map, mem_behN (upN_le b.ns h)]
  constructor
  · rintro ⟨a, ⟨f, h1, rfl⟩, h2⟩; exact ⟨f, h1, h2⟩
  · rintro ⟨f, h1, h2⟩; exact ⟨_, ⟨f, h1, rfl⟩, h2⟩
theorem rightS_iff {b : Sn} : rightS b = true ↔ ∃ f, Path b f := by
  unfold rightS
  rw [decide_eq_true_eq]
  constructor
  · intro h
    obtain ⟨z, hz⟩ := List.exists_mem_of_ne_nil _ h
    obtain ⟨f, hf, -⟩ := (mem_behN (Nat.zero_le _)).1 hz
    exact ⟨f, hf⟩
  · rintro ⟨f, hf⟩ he
    have := (mem_behN (Nat.zero_le _)).2 ⟨f, hf, rfl⟩
    rw [he] at this; simp at this
/-- What is so at an hour of a path. -/
def At (b : Sn) (f : Nat → Int × Int) (h : Int) : Int × Int := aftS (f (upN b.ns h)) (sinN b.ns h)
theorem path_K {b : Sn} (hok : Ok9 b) {f : Nat → Int × Int} (hf : Path b f) {k : Nat} (hk : k ≤ b.ns.length) : StK k (f k) :=
  talL_K hok (behN_at hk) _ ((mem_behN hk).2 ⟨f, hf, rfl⟩)
theorem At_mem {b : Sn} {f : Nat → Int × Int} (hf : Path b f) (h : Int) : At b f h ∈ atL b h := mem_atL.2 ⟨f, hf, rfl⟩
theorem mem_At {b : Sn} {h : Int} {z : Int × Int} (hz : z ∈ atL b h) : ∃ f, Path b f ∧ At b f h = z := mem_atL.1 hz
theorem At_bd {b : Sn} (hok : Ok9 b) {f : Nat → Int × Int} (hf : Path b f) (h : Int) : (0 ≤ (At b f h).1 ∧ (At b f h).1 ≤ 400) ∧ 0 ≤ (At b f h).2 ∧ (At b f h).2 ≤ 81 := by
  have h1 := path_K hok hf (upN_le b.ns h)
  obtain ⟨⟨g1, g2⟩, g3, g4⟩ := h1
  have h2 := afterH_bd g3 (sinN b.ns h).toNat (f (upN b.ns h)).1 g1
  have h3 := upN_le b.ns h
  have h4 := hok.len
  unfold At aftS
  dsimp only
  refine ⟨by omega, g3, ?_⟩
  have : (upN b.ns h : Int) ≤ 9 := by omega
  omega
/-- The least and the greatest of a list, by a number of its elements. -/
theorem minF_le {g : Int × Int → Int} : ∀ {l : List (Int × Int)} {a : Int}, minF g a l ≤ a ∧ ∀ z ∈ l, minF g a l ≤ g z
  | [], a => ⟨Int.le_refl _, fun z hz => by simp at hz⟩
  | x :: l, a => by
    have h : minF g a (x :: l) = minF g (min a (g x)) l := rfl
    obtain ⟨h1, h2⟩ := minF_le (g := g) (l := l) (a := min a (g x))
    rw [h]
    refine ⟨by omega, fun z hz => ?_⟩
    rcases List.mem_cons.1 hz with rfl | hz
    · omega
    · exact h2 z hz
theorem minF_mem {g : Int × Int → Int} : ∀ {l : List (Int × Int)} {a : Int}, minF g a l = a ∨ ∃ z ∈ l, minF g a l = g z
  | [], a => .inl rfl
  | x :: l, a => by
    have h : minF g a (x :: l) = minF g (min a (g x)) l := rfl
    rw [h]
    rcases minF_mem (g := g) (l := l) (a := min a (g x)) with h1 | ⟨z, hz, h1⟩
    · rw [h1]
      by_cases hx : a ≤ g x
      · exact .inl (Int.min_eq_left hx)
      · exact .inr ⟨x, by simp, Int.min_eq_right (by omega)⟩
    · exact .inr ⟨z, by simp [hz], h1⟩
theorem maxF_ge {g : Int × Int → Int} : ∀ {l : List (Int × Int)} {a : Int}, a ≤ maxF g a l ∧ ∀ z ∈ l, g z ≤ maxF g a l
  | [], a => ⟨Int.le_refl _, fun z hz => by simp at hz⟩
  | x :: l, a => by
    have h : maxF g a (x :: l) = maxF g (max a (g x)) l := rfl
    obtain ⟨h1, h2⟩ := maxF_ge (g := g) (l := l) (a := max a (g x))
    rw [h]
    refine ⟨by omega, fun z hz => ?_⟩
    rcases List.mem_cons.1 hz with rfl | hz
    · omega
    · exact h2 z hz
theorem maxF_mem {g : Int × Int → Int} : ∀ {l : List (Int × Int)} {a : Int}, maxF g a l = a ∨ ∃ z ∈ l, maxF g a l = g z
  | [], a => .inl rfl
  | x :: l, a => by
    have h : maxF g a (x :: l) = maxF g (max a (g x)) l := rfl
    rw [h]
    rcases maxF_mem (g := g) (l := l) (a := max a (g x)) with h1 | ⟨z, hz, h1⟩
    · rw [h1]
      by_cases hx : g x ≤ a
      · exact .inl (Int.max_eq_left hx)
      · exact .inr ⟨x, by simp, Int.max_eq_right (by omega)⟩
    · exact .inr ⟨z, by simp [hz], h1⟩
/-- The ends of what is held, or lost, at an hour are those of a path. -/
structure Ends (b : Sn) (g : (Nat → Int × Int) → Int) (lo hi : Int) : Prop where
  low : ∃ f, Path b f ∧ g f = lo
  high : ∃ f, Path b f ∧ g f = hi
  all : ∀ f, Path b f → lo ≤ g f ∧ g f ≤ hi
theorem Ends.of {b : Sn} {g : Int × Int → Int} {l : List (Int × Int)} {G : (Nat → Int × Int) → Int} {lo hi : Int} (h1 : ∀ f, Path b f → ∃ z ∈ l, g z = G f) (h2 : ∀ z ∈ l, ∃ f, Path b f ∧ G f = g z) (h3 : ∃ f, Path b f) (h4 : ∀ f, Path b f → lo ≤ G f ∧ G f ≤ hi) (hlo : hi ≤ hi) : Ends b G (minF g hi l) (maxF g lo l) := by
  obtain ⟨f0, hf0⟩ := h3
  obtain ⟨z0, hz0, e0⟩ := h1 f0 hf0
  have hb0 := h4 f0 hf0
  refine ⟨?_, ?_, fun f hf => ?_⟩
  · rcases minF_mem (g := g) (l := l) (a := hi) with h5 | ⟨z, hz, h5⟩
    · have := (minF_le (g := g) (l := l) (a := hi)).2 z0 hz0
      exact ⟨f0, hf0, by omega⟩
    · obtain ⟨f, hf, e⟩ := h2 z hz
      exact ⟨f, hf, by rw [e, h5]⟩
  · rcases maxF_mem (g := g) (l := l) (a := lo) with h5 | ⟨z, hz, h5⟩
    · have := (maxF_ge (g := g) (l := l) (a := lo)).2 z0 hz0
      exact ⟨f0, hf0, by omega⟩
    · obtain ⟨f, hf, e⟩ := h2 z hz
      exact ⟨f, hf, by rw [e, h5]⟩
  · obtain ⟨z, hz, e⟩ := h1 f hf
    rw [← e]
    exact ⟨(minF_le (g := g) (l := l) (a := hi)).2 z hz, (maxF_ge (g := g) (l := l) (a := lo)).2 z hz⟩
theorem ends_held {b : Sn} (hok : Ok9 b) (hr : rightS b = true) (h : Int) : Ends b (fun f => (At b f h).1) (minF Prod.fst 400 (atL b h)) (maxF Prod.fst 0 (atL b h)) :=
  Ends.of (fun f hf => ⟨_, At_mem hf h, rfl⟩) (fun z hz => by obtain ⟨f, hf, e⟩ := mem_At hz; exact ⟨f, hf, by rw [← e]⟩) (rightS_iff.1 hr) (fun f hf => (At_bd hok hf h).1) (Int.le_refl _)
theorem ends_rate {b : Sn} (hok : Ok9 b) (hr : rightS b = true) (h : Int) : Ends b (fun f => (At b f h).2) (minF Prod.snd 400 (atL b h)) (maxF Prod.snd 0 (atL b h)) :=
  Ends.of (fun f hf => ⟨_, At_mem hf h, rfl⟩) (fun z hz => by obtain ⟨f, hf, e⟩ := mem_At hz; exact ⟨f, hf, by rw [← e]⟩) (rightS_iff.1 hr) (fun f hf => by have := (At_bd hok hf h).2; omega) (Int.le_refl _)
end Go.Proofs.YtcaeohgbgeadaaaGreatDoor

namespace Go.Proofs.YtcaeohgbgeadaaaGreatDoor
open Go Go.RowKit Go.Shelf
theorem of_validB {b : Tk} (h : validB b = true) : (0 ≤ b.now ∧ b.now ≤ 60) ∧ chainT b.now b.ts = true ∧ b.ts.length ≤ 6 ∧ (b.now ≤ b.glo ∧ b.glo ≤ b.ghi ∧ b.ghi ≤ 60) ∧ (0 ≤ b.most ∧ b.most ≤ 6) ∧ (0 ≤ b.rest ∧ b.rest ≤ 60) := by
  unfold validB nowB tidesB at h
  simp only [Bool.and_eq_true, decide_eq_true_eq] at h
  have h1 := of_inT h.1.1.1.1.1.1
  have h2 := of_spanT h.1.1.1.2
  exact ⟨h1, h.1.1.1.1.2.2, h.1.1.1.1.2.1, ⟨h2.1, h2.2.1, h2.2.2.1⟩, of_inT h.1.1.2, of_inT h.1.2⟩
/-- What is known of the haul of a valid book. -/
theorem haul_ok {b : Tk} (h : validB b = true) : (haulOf b).OK := by
  obtain ⟨h1, h2, h3, h4, h5, h6⟩ := of_validB h
  obtain ⟨v1, v2, -⟩ := validB_of h
  have hok := Ok9.of v1
  obtain ⟨f1, e1, e2⟩ := (ends_held hok v2 b.now).low
  obtain ⟨f2, e3, e4⟩ := (ends_held hok v2 b.now).high
  obtain ⟨f3, e5, e6⟩ := (ends_rate hok v2 b.now).low
  obtain ⟨f4, e7, e8⟩ := (ends_rate hok v2 b.now).high
  have a1 := (ends_held hok v2 b.now).all f1 e1
  have a2 := (ends_rate hok v2 b.now).all f3 e5
  have b1 := At_bd hok e1 b.now
  have b2 := At_bd hok e3 b.now
  have b3 := At_bd hok e5 b.now
  have b4 := At_bd hok e7 b.now
  refine ⟨?_, ?_, h1, h4, h2, h3, h5, h6⟩
  · show 0 ≤ minF Prod.fst 400 (atL b.q b.now) ∧ minF Prod.fst 400 (atL b.q b.now) ≤ maxF Prod.fst 0 (atL b.q b.now) ∧ maxF Prod.fst 0 (atL b.q b.now) ≤ 400
    omega
  · show 0 ≤ minF Prod.snd 400 (atL b.q b.now) ∧ minF Prod.snd 400 (atL b.q b.now) ≤ maxF Prod.snd 0 (atL b.q b.now) ∧ maxF Prod.snd 0 (atL b.q b.now) ≤ 400
    omega
/-- Why a book cannot be opened with a plan. -/
def OpenT (b : Tk) (pl : List Int) (e : Int) : Prop := (validB b = false ∧ e = 40) ∨ (validB b = true ∧ planB b.ts b.most b.rest pl = false ∧ e = 41)
theorem OpenT.pos {b : Tk} {pl : List Int} {e : Int} (h : OpenT b pl e) : e = 40 ∨ e = 41 := by
  rcases h with ⟨-, h⟩ | ⟨-, -, h⟩
  · exact .inl h
  · exact .inr h
theorem topen_err (b : Tk) (p : Tp) (v : Value) (pl : List Int) (e : Int) (w : World) (hk : TB w b p) (hn : Hid (b.q.ns.length ≤ 9223372036854775807)) (hp : PlanAt w v pl) (hlen : pl.length ≤ 1000) (he : OpenT b pl e) :
    Calls Tryz.prog 66 #[tv b p, v] w fun e' w' => e' = .returned (.tuple #[zeroHl, .int .i64 e]) ∧ ∃ x, w' = ext w x := by
  obtain ⟨pp, pc, rfl, hi, -, -, -⟩ := hp
  rcases he with ⟨h1, rfl⟩ | ⟨h1, h2, rfl⟩
  · exact topen_bad b p pp pc pl.length w hk hn h1
  · exact topen_ask b p pp pc pl w hk hn h1 hi hlen h2
theorem topen_good (b : Tk) (p : Tp) (v : Value) (pl : List Int) (H : Hl) (w : World) (hk : TB w b p) (hn : Hid (b.q.ns.length ≤ 9223372036854775807)) (hp : PlanAt w v pl) (hlen : pl.length ≤ 1000) (hv : validB b = true) (hq : planB b.ts b.most b.rest pl = true) (hH : haulOf b = H) :
    Calls Tryz.prog 66 #[tv b p, v] w fun e' w' => e' = .returned (.tuple #[hlv H p, .int .i64 0]) ∧ ∃ x, w' = ext w x := by
  subst hH
  obtain ⟨pp, pc, rfl, hi, -, -, -⟩ := hp
  exact topen_yes b p pp pc pl w hk hn hv hi hlen hq
attribute [local go_sem] Oper.semAt_some frozen_alloc_lt
set_option maxRecDepth 100000 in
set_option maxHeartbeats 4000000 in
theorem IsPlan_bad (b : Tk) (p : Tp) (v : Value) (w : World) (hk : TB w b p) (hn : Hid (b.q.ns.length ≤ 9223372036854775807)) (hv : validB b = false) :
    Calls Tryz.prog 15 #[tv b p, v] w fun e w' => e = .returned (.tuple #[.bool false, .int .i64 40]) ∧ ∃ x, w' = ext w x := by
  have HK := Lib.hid hk
  have HV := Lib.hid hv
  clear hk hv
  unfold tv
  go_enter Tryz.func15, Tryz.ntmps15
  go_wp2_with (go_at_call 17; refine (tCheck_eq b p _ _ (HK.out.bel belA) hn HV.out).mono ?_; rintro e w1 ⟨rfl, y, rfl⟩)
  refine bodyPost_ret (v := .tuple #[.bool false, .int .i64 40]) (by simp [results, Tryz.results15, go_sem]) rfl ⟨rfl, by (exact ext_of (by (exact belA)))⟩
set_option maxRecDepth 100000 in
set_option maxHeartbeats 4000000 in
theorem IsPlan_is (b : Tk) (p : Tp) (v : Value) (pl : List Int) (q : Bool) (w : World) (hk : TB w b p) (hn : Hid (b.q.ns.length ≤ 9223372036854775807)) (hp : PlanAt w v pl) (hlen : pl.length ≤ 1000) (hv : validB b = true) (hq : planB b.ts b.most b.rest pl = q) :
    Calls Tryz.prog 15 #[tv b p, v] w fun e w' => e = .returned (.tuple #[.bool q, .int .i64 0]) ∧ ∃ x, w' = ext w x := by
  obtain ⟨pp, pc, rfl, hi, -, -, -⟩ := hp
  have HK := Lib.hid hk
  have HV := Lib.hid hv
  have HP := Lib.hid hi
  have HQ := Lib.hid hq
  clear hk hv hi hq
  unfold tv
  go_enter Tryz.func15, Tryz.ntmps15
  go_upto_region 2 with (go_at_call 17; refine (tCheck_eq b p _ _ (HK.out.bel belA) hn HV.out).mono ?_; rintro e w1 ⟨rfl, y, rfl⟩)
  generalize hW : ext _ y = W
  have hB : Below w.heap.size w W := by rw [← hW]; (exact belA)
  have kB : Blk W w.heap.size 29 (tcs b p) := by rw [← hW]; exact (Blk.new rfl).ext y
  have HB := Lib.hid hB
  unfold tcs at kB
  obtain ⟨c0, c1, c2, c3, c4, c5, c6, c7, c8⟩ := Blk.c9 kB
  have lB := kB.lt
  clear hW hB kB
  go_wp2_with (go_at_call 60; refine (isPlan_eq b p pp pc pl _ _ (HK.out.ts' HB.out) HV.out (HP.out.below HB.out) hlen HQ.out).mono ?_; rintro e w1 ⟨rfl, y2, rfl⟩)
  refine bodyPost_ret (v := .tuple #[.bool q, .int .i64 0]) (by simp [results, Tryz.results15, go_sem]) rfl ⟨rfl, ext_of (HB.out.trans ((below_ext W y2).mono HB.out.size))⟩
end Go.Proofs.YtcaeohgbgeadaaaGreatDoor

namespace Go.Proofs.YtcaeohgbgeadaaaGreatDoor
open Go Go.RowKit Go.Shelf
theorem Hl.OK.mend {h : Hl} (k : h.OK) : h.mend.OK := ⟨k.hd, by show 0 ≤ (0 : Int) ∧ (0 : Int) ≤ 0 ∧ (0 : Int) ≤ 400; omega, k.nw, k.gl, k.ch, k.ln, k.ms, k.rs⟩
theorem Hl.OK.gale {h : Hl} (k : h.OK) {g : Int} (hg : h.b.now ≤ g ∧ g ≤ 60) : (h.gale g).OK := ⟨k.hd, k.rt, k.nw, by show h.b.now ≤ g ∧ g ≤ g ∧ g ≤ 60; omega, k.ch, k.ln, k.ms, k.rs⟩
attribute [local go_sem] Oper.semAt_some frozen_alloc_lt
set_option maxRecDepth 100000 in
set_option maxHeartbeats 4000000 in
theorem Out_yes (b : Tk) (p : Tp) (v : Value) (pl : List Int) (H : Hl) (w : World) (hk : TB w b p) (hn : Hid (b.q.ns.length ≤ 9223372036854775807)) (hp : PlanAt w v pl) (hlen : pl.length ≤ 1000) (hv : validB b = true) (hq : planB b.ts b.most b.rest pl = true) (hH : haulOf b = H) :
    Calls Tryz.prog 19 #[tv b p, v] w fun e' w' => e' = .returned (.tuple #[.agg #[.int .i64 (ansLo (H) 0 pl), .int .i64 (ansHi (H) 0 pl)], .int .i64 0]) ∧ ∃ x, w' = ext w x := by
  have HK := Lib.hid hk
  have HV := Lib.hid hv
  have HH := Lib.hid hH
  have HO := Lib.hid (show H.OK from hH ▸ haul_ok hv)
  have HL := Lib.hid (show LowsAt w p.tp H.b.ts from hH ▸ hk.ts)
  have HP := Lib.hid hp
  have HQ := Lib.hid hq
  have HT := Lib.hid (show ordT H.b.ts H.b.now pl from hH ▸ plan_ord (of_validB hv).2.2.2.2.2.1 (of_validB hv).2.1 hq)
  clear hk hv hq hp hH
  unfold tv
  go_enter Tryz.func19, Tryz.ntmps19
  go_upto_region 2 with (go_at_call 66; refine (topen_good b p _ pl H _ (HK.out.bel belA) hn (HP.out.bel belA) hlen HV.out HQ.out HH.out).mono ?_; rintro e' w1 ⟨he, y, rfl⟩; unfold hlv at he; subst he)
  generalize hW : ext _ y = W0
  have hB0 : Below w.heap.size w W0 := by rw [← hW]; (exact belA)
  have kR0 : Blk W0 (w.heap.size + 1) 23 #[.int .i64 0, .int .i64 0] := by rw [← hW]; exact (Blk.new (by simp)).ext y
  have hB := hB0.alloc hB0.size (.cells #[.int .i64 H.b.q.lo, .int .i64 H.b.q.hi, .slice p.np H.b.q.ns.length p.nc, .int .i64 H.b.now, .slice p.tp H.b.ts.length p.tc, .int .i64 H.b.glo, .int .i64 H.b.ghi, .int .i64 H.b.most, .int .i64 H.b.rest, .int .i64 H.hl, .int .i64 H.hh, .int .i64 H.rl, .int .i64 H.rh] 87)
  have kR := kR0.alloc (.cells #[.int .i64 H.b.q.lo, .int .i64 H.b.q.hi, .slice p.np H.b.q.ns.length p.nc, .int .i64 H.b.now, .slice p.tp H.b.ts.length p.tc, .int .i64 H.b.glo, .int .i64 H.b.ghi, .int .i64 H.b.most, .int .i64 H.b.rest, .int .i64 H.hl, .int .i64 H.hh, .int .i64 H.rl, .int .i64 H.rh] 87)
  have kH : Blk (W0.alloc (.cells #[.int .i64 H.b.q.lo, .int .i64 H.b.q.hi, .slice p.np H.b.q.ns.length p.nc, .int .i64 H.b.now, .slice p.tp H.b.ts.length p.tc, .int .i64 H.b.glo, .int .i64 H.b.ghi, .int .i64 H.b.most, .int .i64 H.b.rest, .int .i64 H.hl, .int .i64 H.hh, .int .i64 H.rl, .int .i64 H.rh] 87)) W0.heap.size 87 #[.int .i64 H.b.q.lo, .int .i64 H.b.q.hi, .slice p.np H.b.q.ns.length p.nc, .int .i64 H.b.now, .slice p.tp H.b.ts.length p.tc, .int .i64 H.b.glo, .int .i64 H.b.ghi, .int .i64 H.b.most, .int .i64 H.b.rest, .int .i64 H.hl, .int .i64 H.hh, .int .i64 H.rl, .int .i64 H.rh] := Blk.new rfl
  generalize W0.alloc (.cells #[.int .i64 H.b.q.lo, .int .i64 H.b.q.hi, .slice p.np H.b.q.ns.length p.nc, .int .i64 H.b.now, .slice p.tp H.b.ts.length p.tc, .int .i64 H.b.glo, .int .i64 H.b.ghi, .int .i64 H.b.most, .int .i64 H.b.rest, .int .i64 H.hl, .int .i64 H.hh, .int .i64 H.rl, .int .i64 H.rh] 87) = W at *
  generalize W0.heap.size = gH at *
  have HB := Lib.hid hB
  have KR := Lib.hid kR
  obtain ⟨c0, c1, c2, c3, c4, c5, c6, c7, c8, c9, c10, c11, c12⟩ := Blk.c13 kH
  have lH := kH.lt
  clear hW hB0 kR0 hB kR kH
  go_wp2_with (go_at_call 67; refine (answer_plan H p 0 _ pl _ HO.out (by omega) (HL.out.below HB.out) (HP.out.bel HB.out) hlen HT.out).mono ?_; rintro e' w2 ⟨rfl, y2, rfl⟩; have HB2 := Lib.hid (HB.out.trans ((below_ext W y2).mono HB.out.size)); have KR2 := Lib.hid (KR.out.ext y2); clear c0 c1 c2 c3 c4 c5 c6 c7 c8 c9 c10 c11 c12 lH; have kR := KR2.out; generalize ext W y2 = W2 at *; obtain ⟨r0, r1⟩ := Blk.c2 kR; obtain ⟨f0, f1⟩ := Blk.f2 kR; have lR := kR.lt; clear kR)
  have kE := KR2.out.set2 (.int .i64 (ansLo (H) 0 pl)) (.int .i64 (ansHi (H) 0 pl))
  have hE := (HB2.out.setCell (p := ⟨w.heap.size + 1, 0, none⟩) (by dsimp only; omega) (.int .i64 (ansLo (H) 0 pl))).setCell (p := ⟨w.heap.size + 1, 1, none⟩) (by dsimp only; omega) (.int .i64 (ansHi (H) 0 pl))
  generalize hWW : World.setCell _ _ _ = WW at kE hE ⊢
  clear hWW
  have HE2 := Lib.hid hE
  obtain ⟨e0, e1⟩ := Blk.c2 kE
  have lE := kE.lt
  clear hE kE
  refine bodyPost_ret (v := .tuple #[.agg #[(.int .i64 (ansLo (H) 0 pl)), (.int .i64 (ansHi (H) 0 pl))], .int .i64 0]) (by simp [results, Tryz.results19, go_sem, e0, e1, lE]) rfl ⟨rfl, ext_of HE2.out⟩
set_option maxRecDepth 100000 in
set_option maxHeartbeats 4000000 in
theorem Lost_yes (b : Tk) (p : Tp) (v : Value) (pl : List Int) (H : Hl) (w : World) (hk : TB w b p) (hn : Hid (b.q.ns.length ≤ 9223372036854775807)) (hp : PlanAt w v pl) (hlen : pl.length ≤ 1000) (hv : validB b = true) (hq : planB b.ts b.most b.rest pl = true) (hH : haulOf b = H) :
    Calls Tryz.prog 21 #[tv b p, v] w fun e' w' => e' = .returned (.tuple #[.agg #[.int .i64 (ansLo (H) 1 pl), .int .i64 (ansHi (H) 1 pl)], .int .i64 0]) ∧ ∃ x, w' = ext w x := by
  have HK := Lib.hid hk
  have HV := Lib.hid hv
  have HH := Lib.hid hH
  have HO := Lib.hid (show H.OK from hH ▸ haul_ok hv)
  have HL := Lib.hid (show LowsAt w p.tp H.b.ts from hH ▸ hk.ts)
  have HP := Lib.hid hp
  have HQ := Lib.hid hq
  have HT := Lib.hid (show ordT H.b.ts H.b.now pl from hH ▸ plan_ord (of_validB hv).2.2.2.2.2.1 (of_validB hv).2.1 hq)
  clear hk hv hq hp hH
  unfold tv
  go_enter Tryz.func21, Tryz.ntmps21
  go_upto_region 2 with (go_at_call 66; refine (topen_good b p _ pl H _ (HK.out.bel belA) hn (HP.out.bel belA) hlen HV.out HQ.out HH.out).mono ?_; rintro e' w1 ⟨he, y, rfl⟩; unfold hlv at he; subst he)
  generalize hW : ext _ y = W0
  have hB0 : Below w.heap.size w W0 := by rw [← hW]; (exact belA)
  have kR0 : Blk W0 (w.heap.size + 1) 23 #[.int .i64 0, .int .i64 0] := by rw [← hW]; exact (Blk.new (by simp)).ext y
  have hB := hB0.alloc hB0.size (.cells #[.int .i64 H.b.q.lo, .int .i64 H.b.q.hi, .slice p.np H.b.q.ns.length p.nc, .int .i64 H.b.now, .slice p.tp H.b.ts.length p.tc, .int .i64 H.b.glo, .int .i64 H.b.ghi, .int .i64 H.b.most, .int .i64 H.b.rest, .int .i64 H.hl, .int .i64 H.hh, .int .i64 H.rl, .int .i64 H.rh] 87)
  have kR := kR0.alloc (.cells #[.int .i64 H.b.q.lo, .int .i64 H.b.q.hi, .slice p.np H.b.q.ns.length p.nc, .int .i64 H.b.now, .slice p.tp H.b.ts.length p.tc, .int .i64 H.b.glo, .int .i64 H.b.ghi, .int .i64 H.b.most, .int .i64 H.b.rest, .int .i64 H.hl, .int .i64 H.hh, .int .i64 H.rl, .int .i64 H.rh] 87)
  have kH : Blk (W0.alloc (.cells #[.int .i64 H.b.q.lo, .int .i64 H.b.q.hi, .slice p.np H.b.q.ns.length p.nc, .int .i64 H.b.now, .slice p.tp H.b.ts.length p.tc, .int .i64 H.b.glo, .int .i64 H.b.ghi, .int .i64 H.b.most, .int .i64 H.b.rest, .int .i64 H.hl, .int .i64 H.hh, .int .i64 H.rl, .int .i64 H.rh] 87)) W0.heap.size 87 #[.int .i64 H.b.q.lo, .int .i64 H.b.q.hi, .slice p.np H.b.q.ns.length p.nc, .int .i64 H.b.now, .slice p.tp H.b.ts.length p.tc, .int .i64 H.b.glo, .int .i64 H.b.ghi, .int .i64 H.b.most, .int .i64 H.b.rest, .int .i64 H.hl, .int .i64 H.hh, .int .i64 H.rl, .int .i64 H.rh] := Blk.new rfl
  generalize W0.alloc (.cells #[.int .i64 H.b.q.lo, .int .i64 H.b.q.hi, .slice p.np H.b.q.ns.length p.nc, .int .i64 H.b.now, .slice p.tp H.b.ts.length p.tc, .int .i64 H.b.glo, .int .i64 H.b.ghi, .int .i64 H.b.most, .int .i64 H.b.rest, .int .i64 H.hl, .int .i64 H.hh, .int .i64 H.rl, .int .i64 H.rh] 87) = W at *
  generalize W0.heap.size = gH at *
  have HB := Lib.hid hB
  have KR := Lib.hid kR
  obtain ⟨c0, c1, c2, c3, c4, c5, c6, c7, c8, c9, c10, c11, c12⟩ := Blk.c13 kH
  have lH := kH.lt
  clear hW hB0 kR0 hB kR kH
  go_wp2_with (go_at_call 67; refine (answer_plan H p 1 _ pl _ HO.out (by omega) (HL.out.below HB.out) (HP.out.bel HB.out) hlen HT.out).mono ?_; rintro e' w2 ⟨rfl, y2, rfl⟩; have HB2 := Lib.hid (HB.out.trans ((below_ext W y2).mono HB.out.size)); have KR2 := Lib.hid (KR.out.ext y2); clear c0 c1 c2 c3 c4 c5 c6 c7 c8 c9 c10 c11 c12 lH; have kR := KR2.out; generalize ext W y2 = W2 at *; obtain ⟨r0, r1⟩ := Blk.c2 kR; obtain ⟨f0, f1⟩ := Blk.f2 kR; have lR := kR.lt; clear kR)
  have kE := KR2.out.set2 (.int .i64 (ansLo (H) 1 pl)) (.int .i64 (ansHi (H) 1 pl))
  have hE := (HB2.out.setCell (p := ⟨w.heap.size + 1, 0, none⟩) (by dsimp only; omega) (.int .i64 (ansLo (H) 1 pl))).setCell (p := ⟨w.heap.size + 1, 1, none⟩) (by dsimp only; omega) (.int .i64 (ansHi (H) 1 pl))
  generalize hWW : World.setCell _ _ _ = WW at kE hE ⊢
  clear hWW
  have HE2 := Lib.hid hE
  obtain ⟨e0, e1⟩ := Blk.c2 kE
  have lE := kE.lt
  clear hE kE
  refine bodyPost_ret (v := .tuple #[.agg #[(.int .i64 (ansLo (H) 1 pl)), (.int .i64 (ansHi (H) 1 pl))], .int .i64 0]) (by simp [results, Tryz.results21, go_sem, e0, e1, lE]) rfl ⟨rfl, ext_of HE2.out⟩
set_option maxRecDepth 100000 in
set_option maxHeartbeats 4000000 in
theorem Left_yes (b : Tk) (p : Tp) (v : Value) (pl : List Int) (H : Hl) (w : World) (hk : TB w b p) (hn : Hid (b.q.ns.length ≤ 9223372036854775807)) (hp : PlanAt w v pl) (hlen : pl.length ≤ 1000) (hv : validB b = true) (hq : planB b.ts b.most b.rest pl = true) (hH : haulOf b = H) :
    Calls Tryz.prog 24 #[tv b p, v] w fun e' w' => e' = .returned (.tuple #[.agg #[.int .i64 (ansLo (H) 2 pl), .int .i64 (ansHi (H) 2 pl)], .int .i64 0]) ∧ ∃ x, w' = ext w x := by
  have HK := Lib.hid hk
  have HV := Lib.hid hv
  have HH := Lib.hid hH
  have HO := Lib.hid (show H.OK from hH ▸ haul_ok hv)
  have HL := Lib.hid (show LowsAt w p.tp H.b.ts from hH ▸ hk.ts)
  have HP := Lib.hid hp
  have HQ := Lib.hid hq
  have HT := Lib.hid (show ordT H.b.ts H.b.now pl from hH ▸ plan_ord (of_validB hv).2.2.2.2.2.1 (of_validB hv).2.1 hq)
  clear hk hv hq hp hH
  unfold tv
  go_enter Tryz.func24, Tryz.ntmps24
  go_upto_region 2 with (go_at_call 66; refine (topen_good b p _ pl H _ (HK.out.bel belA) hn (HP.out.bel belA) hlen HV.out HQ.out HH.out).mono ?_; rintro e' w1 ⟨he, y, rfl⟩; unfold hlv at he; subst he)
  generalize hW : ext _ y = W0
  have hB0 : Below w.heap.size w W0 := by rw [← hW]; (exact belA)
  have kR0 : Blk W0 (w.heap.size + 1) 23 #[.int .i64 0, .int .i64 0] := by rw [← hW]; exact (Blk.new (by simp)).ext y
  have hB := hB0.alloc hB0.size (.cells #[.int .i64 H.b.q.lo, .int .i64 H.b.q.hi, .slice p.np H.b.q.ns.length p.nc, .int .i64 H.b.now, .slice p.tp H.b.ts.length p.tc, .int .i64 H.b.glo, .int .i64 H.b.ghi, .int .i64 H.b.most, .int .i64 H.b.rest, .int .i64 H.hl, .int .i64 H.hh, .int .i64 H.rl, .int .i64 H.rh] 87)
  have kR := kR0.alloc (.cells #[.int .i64 H.b.q.lo, .int .i64 H.b.q.hi, .slice p.np H.b.q.ns.length p.nc, .int .i64 H.b.now, .slice p.tp H.b.ts.length p.tc, .int .i64 H.b.glo, .int .i64 H.b.ghi, .int .i64 H.b.most, .int .i64 H.b.rest, .int .i64 H.hl, .int .i64 H.hh, .int .i64 H.rl, .int .i64 H.rh] 87)
  have kH : Blk (W0.alloc (.cells #[.int .i64 H.b.q.lo, .int .i64 H.b.q.hi, .slice p.np H.b.q.ns.length p.nc, .int .i64 H.b.now, .slice p.tp H.b.ts.length p.tc, .int .i64 H.b.glo, .int .i64 H.b.ghi, .int .i64 H.b.most, .int .i64 H.b.rest, .int .i64 H.hl, .int .i64 H.hh, .int .i64 H.rl, .int .i64 H.rh] 87)) W0.heap.size 87 #[.int .i64 H.b.q.lo, .int .i64 H.b.q.hi, .slice p.np H.b.q.ns.length p.nc, .int .i64 H.b.now, .slice p.tp H.b.ts.length p.tc, .int .i64 H.b.glo, .int .i64 H.b.ghi, .int .i64 H.b.most, .int .i64 H.b.rest, .int .i64 H.hl, .int .i64 H.hh, .int .i64 H.rl, .int .i64 H.rh] := Blk.new rfl
  generalize W0.alloc (.cells #[.int .i64 H.b.q.lo, .int .i64 H.b.q.hi, .slice p.np H.b.q.ns.length p.nc, .int .i64 H.b.now, .slice p.tp H.b.ts.length p.tc, .int .i64 H.b.glo, .int .i64 H.b.ghi, .int .i64 H.b.most, .int .i64 H.b.rest, .int .i64 H.hl, .int .i64 H.hh, .int .i64 H.rl, .int .i64 H.rh] 87) = W at *
  generalize W0.heap.size = gH at *
  have HB := Lib.hid hB
  have KR := Lib.hid kR
  obtain ⟨c0, c1, c2, c3, c4, c5, c6, c7, c8, c9, c10, c11, c12⟩ := Blk.c13 kH
  have lH := kH.lt
  clear hW hB0 kR0 hB kR kH
  go_wp2_with (go_at_call 67; refine (answer_plan H p 2 _ pl _ HO.out (by omega) (HL.out.below HB.out) (HP.out.bel HB.out) hlen HT.out).mono ?_; rintro e' w2 ⟨rfl, y2, rfl⟩; have HB2 := Lib.hid (HB.out.trans ((below_ext W y2).mono HB.out.size)); have KR2 := Lib.hid (KR.out.ext y2); clear c0 c1 c2 c3 c4 c5 c6 c7 c8 c9 c10 c11 c12 lH; have kR := KR2.out; generalize ext W y2 = W2 at *; obtain ⟨r0, r1⟩ := Blk.c2 kR; obtain ⟨f0, f1⟩ := Blk.f2 kR; have lR := kR.lt; clear kR)
  have kE := KR2.out.set2 (.int .i64 (ansLo (H) 2 pl)) (.int .i64 (ansHi (H) 2 pl))
  have hE := (HB2.out.setCell (p := ⟨w.heap.size + 1, 0, none⟩) (by dsimp only; omega) (.int .i64 (ansLo (H) 2 pl))).setCell (p := ⟨w.heap.size + 1, 1, none⟩) (by dsimp only; omega) (.int .i64 (ansHi (H) 2 pl))
  generalize hWW : World.setCell _ _ _ = WW at kE hE ⊢
  clear hWW
  have HE2 := Lib.hid hE
  obtain ⟨e0, e1⟩ := Blk.c2 kE
  have lE := kE.lt
  clear hE kE
  refine bodyPost_ret (v := .tuple #[.agg #[(.int .i64 (ansLo (H) 2 pl)), (.int .i64 (ansHi (H) 2 pl))], .int .i64 0]) (by simp [results, Tryz.results24, go_sem, e0, e1, lE]) rfl ⟨rfl, ext_of HE2.out⟩
set_option maxRecDepth 100000 in
set_option maxHeartbeats 4000000 in
theorem Mended_yes (b : Tk) (p : Tp) (v : Value) (pl : List Int) (H : Hl) (w : World) (hk : TB w b p) (hn : Hid (b.q.ns.length ≤ 9223372036854775807)) (hp : PlanAt w v pl) (hlen : pl.length ≤ 1000) (hv : validB b = true) (hq : planB b.ts b.most b.rest pl = true) (hH : haulOf b = H) :
    Calls Tryz.prog 26 #[tv b p, v] w fun e' w' => e' = .returned (.tuple #[.agg #[.int .i64 (ansLo (H.mend) 0 pl), .int .i64 (ansHi (H.mend) 0 pl)], .int .i64 0]) ∧ ∃ x, w' = ext w x := by
  have HK := Lib.hid hk
  have HV := Lib.hid hv
  have HH := Lib.hid hH
  have HO := Lib.hid (show H.OK from hH ▸ haul_ok hv)
  have HL := Lib.hid (show LowsAt w p.tp H.b.ts from hH ▸ hk.ts)
  have HP := Lib.hid hp
  have HQ := Lib.hid hq
  have HT := Lib.hid (show ordT H.b.ts H.b.now pl from hH ▸ plan_ord (of_validB hv).2.2.2.2.2.1 (of_validB hv).2.1 hq)
  clear hk hv hq hp hH
  unfold tv
  go_enter Tryz.func26, Tryz.ntmps26
  go_upto_region 2 with (go_at_call 66; refine (topen_good b p _ pl H _ (HK.out.bel belA) hn (HP.out.bel belA) hlen HV.out HQ.out HH.out).mono ?_; rintro e' w1 ⟨he, y, rfl⟩; unfold hlv at he; subst he)
  generalize hW : ext _ y = W0
  have hB0 : Below w.heap.size w W0 := by rw [← hW]; (exact belA)
  have kR0 : Blk W0 (w.heap.size + 1) 23 #[.int .i64 0, .int .i64 0] := by rw [← hW]; exact (Blk.new (by simp)).ext y
  have hB := hB0.alloc hB0.size (.cells #[.int .i64 H.b.q.lo, .int .i64 H.b.q.hi, .slice p.np H.b.q.ns.length p.nc, .int .i64 H.b.now, .slice p.tp H.b.ts.length p.tc, .int .i64 H.b.glo, .int .i64 H.b.ghi, .int .i64 H.b.most, .int .i64 H.b.rest, .int .i64 H.hl, .int .i64 H.hh, .int .i64 H.rl, .int .i64 H.rh] 87)
  have kR := kR0.alloc (.cells #[.int .i64 H.b.q.lo, .int .i64 H.b.q.hi, .slice p.np H.b.q.ns.length p.nc, .int .i64 H.b.now, .slice p.tp H.b.ts.length p.tc, .int .i64 H.b.glo, .int .i64 H.b.ghi, .int .i64 H.b.most, .int .i64 H.b.rest, .int .i64 H.hl, .int .i64 H.hh, .int .i64 H.rl, .int .i64 H.rh] 87)
  have kH : Blk (W0.alloc (.cells #[.int .i64 H.b.q.lo, .int .i64 H.b.q.hi, .slice p.np H.b.q.ns.length p.nc, .int .i64 H.b.now, .slice p.tp H.b.ts.length p.tc, .int .i64 H.b.glo, .int .i64 H.b.ghi, .int .i64 H.b.most, .int .i64 H.b.rest, .int .i64 H.hl, .int .i64 H.hh, .int .i64 H.rl, .int .i64 H.rh] 87)) W0.heap.size 87 #[.int .i64 H.b.q.lo, .int .i64 H.b.q.hi, .slice p.np H.b.q.ns.length p.nc, .int .i64 H.b.now, .slice p.tp H.b.ts.length p.tc, .int .i64 H.b.glo, .int .i64 H.b.ghi, .int .i64 H.b.most, .int .i64 H.b.rest, .int .i64 H.hl, .int .i64 H.hh, .int .i64 H.rl, .int .i64 H.rh] := Blk.new rfl
  generalize W0.alloc (.cells #[.int .i64 H.b.q.lo, .int .i64 H.b.q.hi, .slice p.np H.b.q.ns.length p.nc, .int .i64 H.b.now, .slice p.tp H.b.ts.length p.tc, .int .i64 H.b.glo, .int .i64 H.b.ghi, .int .i64 H.b.most, .int .i64 H.b.rest, .int .i64 H.hl, .int .i64 H.hh, .int .i64 H.rl, .int .i64 H.rh] 87) = W at *
  generalize W0.heap.size = gH at *
  have HB := Lib.hid hB
  have KR := Lib.hid kR
  obtain ⟨c0, c1, c2, c3, c4, c5, c6, c7, c8, c9, c10, c11, c12⟩ := Blk.c13 kH
  have lH := kH.lt
  clear hW hB0 kR0 hB kR kH
  go_wp2_with (first
    | (go_at_call 75; refine (mended_any H p _).mono ?_; rintro e' w2 ⟨rfl, y2, rfl⟩; have HB1 := Lib.hid (HB.out.trans ((below_ext W y2).mono HB.out.size)); have KR1 := Lib.hid (KR.out.ext y2); clear c0 c1 c2 c3 c4 c5 c6 c7 c8 c9 c10 c11 c12 lH; generalize ext W y2 = W1 at *)
    | (go_at_call 67; refine (answer_plan H.mend p 0 _ pl _ HO.out.mend (by omega) (HL.out.below HB1.out) (HP.out.bel HB1.out) hlen HT.out).mono ?_; rintro e' w2 ⟨rfl, y3, rfl⟩; have HB2 := Lib.hid (HB1.out.trans ((below_ext W1 y3).mono HB1.out.size)); have KR2 := Lib.hid (KR1.out.ext y3); have kR := KR2.out; generalize ext W1 y3 = W2 at *; obtain ⟨r0, r1⟩ := Blk.c2 kR; obtain ⟨f0, f1⟩ := Blk.f2 kR; have lR := kR.lt; clear kR))
  have kE := KR2.out.set2 (.int .i64 (ansLo (H.mend) 0 pl)) (.int .i64 (ansHi (H.mend) 0 pl))
  have hE := (HB2.out.setCell (p := ⟨w.heap.size + 1, 0, none⟩) (by dsimp only; omega) (.int .i64 (ansLo (H.mend) 0 pl))).setCell (p := ⟨w.heap.size + 1, 1, none⟩) (by dsimp only; omega) (.int .i64 (ansHi (H.mend) 0 pl))
  generalize hWW : World.setCell _ _ _ = WW at kE hE ⊢
  clear hWW
  have HE2 := Lib.hid hE
  obtain ⟨e0, e1⟩ := Blk.c2 kE
  have lE := kE.lt
  clear hE kE
  refine bodyPost_ret (v := .tuple #[.agg #[(.int .i64 (ansLo (H.mend) 0 pl)), (.int .i64 (ansHi (H.mend) 0 pl))], .int .i64 0]) (by simp [results, Tryz.results26, go_sem, e0, e1, lE]) rfl ⟨rfl, ext_of HE2.out⟩
set_option maxRecDepth 100000 in
set_option maxHeartbeats 4000000 in
theorem Spare_yes (b : Tk) (p : Tp) (v : Value) (pl : List Int) (H : Hl) (w : World) (hk : TB w b p) (hn : Hid (b.q.ns.length ≤ 9223372036854775807)) (hp : PlanAt w v pl) (hlen : pl.length ≤ 1000) (hv : validB b = true) (hq : planB b.ts b.most b.rest pl = true) (hH : haulOf b = H) :
    Calls Tryz.prog 28 #[tv b p, v] w fun e' w' => ∃ v', e' = .returned (.tuple #[v', .int .i64 0]) ∧ OwnInts w' w.heap.size v' (sprL H pl pl.length) ∧ ∃ x, w' = ext w x := by
  have HK := Lib.hid hk
  have HV := Lib.hid hv
  have HH := Lib.hid hH
  have HO := Lib.hid (show H.OK from hH ▸ haul_ok hv)
  have HL := Lib.hid (show LowsAt w p.tp H.b.ts from hH ▸ hk.ts)
  have HP := Lib.hid hp
  have HQ := Lib.hid hq
  have HT := Lib.hid (show ordT H.b.ts H.b.now pl from hH ▸ plan_ord (of_validB hv).2.2.2.2.2.1 (of_validB hv).2.1 hq)
  clear hk hv hq hp hH
  unfold tv
  go_enter Tryz.func28, Tryz.ntmps28
  go_upto_region 2 with (go_at_call 66; refine (topen_good b p _ pl H _ (HK.out.bel belA) hn (HP.out.bel belA) hlen HV.out HQ.out HH.out).mono ?_; rintro e' w1 ⟨he, y, rfl⟩; unfold hlv at he; subst he)
  generalize hW : ext _ y = W0
  have hB0 : Below w.heap.size w W0 := by rw [← hW]; (exact belA)
  have hB := hB0.alloc hB0.size (.cells #[.int .i64 H.b.q.lo, .int .i64 H.b.q.hi, .slice p.np H.b.q.ns.length p.nc, .int .i64 H.b.now, .slice p.tp H.b.ts.length p.tc, .int .i64 H.b.glo, .int .i64 H.b.ghi, .int .i64 H.b.most, .int .i64 H.b.rest, .int .i64 H.hl, .int .i64 H.hh, .int .i64 H.rl, .int .i64 H.rh] 87)
  have kH : Blk (W0.alloc (.cells #[.int .i64 H.b.q.lo, .int .i64 H.b.q.hi, .slice p.np H.b.q.ns.length p.nc, .int .i64 H.b.now, .slice p.tp H.b.ts.length p.tc, .int .i64 H.b.glo, .int .i64 H.b.ghi, .int .i64 H.b.most, .int .i64 H.b.rest, .int .i64 H.hl, .int .i64 H.hh, .int .i64 H.rl, .int .i64 H.rh] 87)) W0.heap.size 87 #[.int .i64 H.b.q.lo, .int .i64 H.b.q.hi, .slice p.np H.b.q.ns.length p.nc, .int .i64 H.b.now, .slice p.tp H.b.ts.length p.tc, .int .i64 H.b.glo, .int .i64 H.b.ghi, .int .i64 H.b.most, .int .i64 H.b.rest, .int .i64 H.hl, .int .i64 H.hh, .int .i64 H.rl, .int .i64 H.rh] := Blk.new rfl
  generalize W0.alloc (.cells #[.int .i64 H.b.q.lo, .int .i64 H.b.q.hi, .slice p.np H.b.q.ns.length p.nc, .int .i64 H.b.now, .slice p.tp H.b.ts.length p.tc, .int .i64 H.b.glo, .int .i64 H.b.ghi, .int .i64 H.b.most, .int .i64 H.b.rest, .int .i64 H.hl, .int .i64 H.hh, .int .i64 H.rl, .int .i64 H.rh] 87) = W at *
  generalize W0.heap.size = gH at *
  have HB := Lib.hid hB
  obtain ⟨c0, c1, c2, c3, c4, c5, c6, c7, c8, c9, c10, c11, c12⟩ := Blk.c13 kH
  have lH := kH.lt
  clear hW hB0 hB kH
  go_wp2_with (go_at_call 78; refine (spare_any H p _ pl _ HO.out (HL.out.below HB.out) (HP.out.bel HB.out) hlen HT.out).mono ?_; rintro e' w2 ⟨v', rfl, hv', y2, rfl⟩; have HV' := Lib.hid hv'; clear hv')
  refine bodyPost_ret (v := .tuple #[v', .int .i64 0]) (by simp [results, Tryz.results28, go_sem]) rfl ⟨v', rfl, HV'.out.mono HB.out.size, ext_of (HB.out.trans ((below_ext W y2).mono HB.out.size))⟩
set_option maxRecDepth 100000 in
set_option maxHeartbeats 4000000 in
theorem Best_yes (b : Tk) (p : Tp) (H : Hl) (w : World) (hk : TB w b p) (hn : Hid (b.q.ns.length ≤ 9223372036854775807)) (hv : validB b = true) (hH : haulOf b = H) :
    Calls Tryz.prog 31 #[tv b p] w fun e' w' => ∃ (v' : Value) (pb : List Int), e' = .returned (.tuple #[v', .int .i64 0]) ∧ PlanIn w.heap.size w' v' pb ∧ IsBest H pb ∧ ∃ x, w' = ext w x := by
  have HK := Lib.hid hk
  have HV := Lib.hid hv
  have HH := Lib.hid hH
  have HO := Lib.hid (show H.OK from hH ▸ haul_ok hv)
  have HL := Lib.hid (show LowsAt w p.tp H.b.ts from hH ▸ hk.ts)
  have HQ := Lib.hid (show planB b.ts b.most b.rest [] = true from plan_nil (of_validB hv).2.2.2.2.1.1)
  clear hk hv hH
  unfold tv
  go_enter Tryz.func31, Tryz.ntmps31
  go_upto_region 2 with (go_at_call 66; refine (topen_good b p _ [] H _ (HK.out.bel belA) hn (PlanAt.nil _) (by simp) HV.out HQ.out HH.out).mono ?_; rintro e' w1 ⟨he, y, rfl⟩; unfold hlv at he; subst he)
  generalize hW : ext _ y = W0
  have hB0 : Below w.heap.size w W0 := by rw [← hW]; (exact belA)
  have hB := hB0.alloc hB0.size (.cells #[.int .i64 H.b.q.lo, .int .i64 H.b.q.hi, .slice p.np H.b.q.ns.length p.nc, .int .i64 H.b.now, .slice p.tp H.b.ts.length p.tc, .int .i64 H.b.glo, .int .i64 H.b.ghi, .int .i64 H.b.most, .int .i64 H.b.rest, .int .i64 H.hl, .int .i64 H.hh, .int .i64 H.rl, .int .i64 H.rh] 87)
  have kH : Blk (W0.alloc (.cells #[.int .i64 H.b.q.lo, .int .i64 H.b.q.hi, .slice p.np H.b.q.ns.length p.nc, .int .i64 H.b.now, .slice p.tp H.b.ts.length p.tc, .int .i64 H.b.glo, .int .i64 H.b.ghi, .int .i64 H.b.most, .int .i64 H.b.rest, .int .i64 H.hl, .int .i64 H.hh, .int .i64 H.rl, .int .i64 H.rh] 87)) W0.heap.size 87 #[.int .i64 H.b.q.lo, .int .i64 H.b.q.hi, .slice p.np H.b.q.ns.length p.nc, .int .i64 H.b.now, .slice p.tp H.b.ts.length p.tc, .int .i64 H.b.glo, .int .i64 H.b.ghi, .int .i64 H.b.most, .int .i64 H.b.rest, .int .i64 H.hl, .int .i64 H.hh, .int .i64 H.rl, .int .i64 H.rh] := Blk.new rfl
  generalize W0.alloc (.cells #[.int .i64 H.b.q.lo, .int .i64 H.b.q.hi, .slice p.np H.b.q.ns.length p.nc, .int .i64 H.b.now, .slice p.tp H.b.ts.length p.tc, .int .i64 H.b.glo, .int .i64 H.b.ghi, .int .i64 H.b.most, .int .i64 H.b.rest, .int .i64 H.hl, .int .i64 H.hh, .int .i64 H.rl, .int .i64 H.rh] 87) = W at *
  generalize W0.heap.size = gH at *
  have HB := Lib.hid hB
  obtain ⟨c0, c1, c2, c3, c4, c5, c6, c7, c8, c9, c10, c11, c12⟩ := Blk.c13 kH
  have lH := kH.lt
  clear hW hB0 hB kH
  go_wp2_with (go_at_call 80; refine (best_any H p _ HO.out (HL.out.below HB.out)).mono ?_; rintro e' w2 ⟨v', pb, rfl, hv', hb', y2, rfl⟩; have HV' := Lib.hid hv'; have HBB := Lib.hid hb'; clear hv' hb')
  refine bodyPost_ret (v := .tuple #[v', .int .i64 0]) (by simp [results, Tryz.results31, go_sem]) rfl ⟨v', pb, rfl, HV'.out.mono HB.out.size, HBB.out, ext_of (HB.out.trans ((below_ext W y2).mono HB.out.size))⟩
end Go.Proofs.YtcaeohgbgeadaaaGreatDoor

