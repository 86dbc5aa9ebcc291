/- Package tide, plainly: what makes a plan, and what follows of it. -/
/- Package tide, plainly: what is asked of a plan, at least and at most: the truths at the ends, and all others between them. -/
import Derived.Test.YtcaeohgbgeadaaaGreatDoorQFa
import Derived.Test.YtcaeohgbgeadaaaGreatDoorQDq
import Derived.Test.YtcaeohgbgeadaaaGreatDoorQDn
set_option linter.unusedSimpArgs false
set_option linter.unusedVariables false
namespace Go.Proofs.YtcaeohgbgeadaaaGreatDoor
open Go Go.RowKit
theorem of_spanT {a b f t : Int} (h : spanT a b f t = true) : f ≤ a ∧ a ≤ b ∧ b ≤ t ∧ b - a ≤ 12 := by
  unfold spanT at h
  simp only [Bool.and_eq_true, decide_eq_true_eq] at h
  have h1 := of_inT h.1.1.1
  have h2 := of_inT h.1.1.2
  omega
theorem chainT_get2 : ∀ {ts : List Lw} {a : Int} {i : Nat} {s : Lw}, chainT a ts = true → ts[i]? = some s → a ≤ s.hour ∧ s.hour ≤ 60 ∧ 0 ≤ s.lo ∧ s.lo ≤ s.hi ∧ s.hi ≤ 99
  | [], _, i, _, _, h => by simp at h
  | x :: l, a, i, s, hc, h => by
    unfold chainT at hc
    simp only [Bool.and_eq_true] at hc
    have h1 := of_inT hc.1.1
    have h2 := of_spanT hc.1.2
    cases i with
    | zero => simp only [List.getElem?_cons_zero, Option.some.injEq] at h; subst h; omega
    | succ i =>
      rw [List.getElem?_cons_succ] at h
      have := chainT_get2 hc.2 h
      omega
theorem chainT_lt : ∀ {ts : List Lw} {a : Int} {i j : Nat} {s t : Lw}, chainT a ts = true → i < j → ts[i]? = some s → ts[j]? = some t → s.hour < t.hour
  | [], _, i, _, _, _, _, _, h, _ => by simp at h
  | x :: l, a, i, j, s, t, hc, hij, h, h' => by
    unfold chainT at hc
    simp only [Bool.and_eq_true] at hc
    cases j with
    | zero => omega
    | succ j =>
      rw [List.getElem?_cons_succ] at h'
      cases i with
      | zero =>
        simp only [List.getElem?_cons_zero, Option.some.injEq] at h; subst h
        have := chainT_get2 hc.2 h'
        omega
      | succ i =>
        rw [List.getElem?_cons_succ] at h
        exact chainT_lt hc.2 (by omega) h h'
theorem follows_is {ts : List Lw} {rest a b : Int} (h : followsB ts rest a b = true) : a < b ∧ ∃ s t, ts[a.toNat]? = some s ∧ ts[b.toNat]? = some t ∧ rest ≤ t.hour - s.hour := by
  unfold followsB at h
  simp only [Bool.and_eq_true, decide_eq_true_eq] at h
  refine ⟨h.1, ?_⟩
  have h2 := h.2
  split at h2
  · rename_i s t h3 h4
    exact ⟨s, t, h3, h4, by simpa using h2⟩
  · simp at h2
theorem follows_of {ts : List Lw} {rest a b : Int} {s t : Lw} (h : a < b) (hs : ts[a.toNat]? = some s) (ht : ts[b.toNat]? = some t) (hr : rest ≤ t.hour - s.hour) : followsB ts rest a b = true := by
  unfold followsB
  simp only [hs, ht, Bool.and_eq_true, decide_eq_true_eq]
  exact ⟨h, hr⟩
theorem follows_trans {ts : List Lw} {rest a b c : Int} (hr : 0 ≤ rest) (h1 : followsB ts rest a b = true) (h2 : followsB ts rest b c = true) : followsB ts rest a c = true := by
  obtain ⟨e1, s, t, e2, e3, e4⟩ := follows_is h1
  obtain ⟨f1, s', t', f2, f3, f4⟩ := follows_is h2
  rw [e3] at f2
  obtain rfl := Option.some.inj f2
  exact follows_of (by omega) e2 f3 (by omega)
theorem each_pair {ts : List Lw} {rest : Int} (hr : 0 ≤ rest) : ∀ {pl : List Int}, eachB (followsB ts rest) pl = true ↔ pl.Pairwise (fun a b => followsB ts rest a b = true)
  | [] => by simp [eachB]
  | [a] => by simp [eachB]
  | a :: b :: l => by
    have ih := each_pair (ts := ts) hr (pl := b :: l)
    unfold eachB
    rw [Bool.and_eq_true, ih, List.pairwise_cons (a := a)]
    constructor
    · rintro ⟨h1, h2⟩
      refine ⟨fun c hc => ?_, h2⟩
      rcases List.mem_cons.1 hc with rfl | hc
      · exact h1
      · exact follows_trans hr h1 ((List.pairwise_cons.1 h2).1 c hc)
    · rintro ⟨h1, h2⟩
      exact ⟨h1 b (by simp), h2⟩
theorem planB_iff {ts : List Lw} {most rest : Int} {pl : List Int} (hr : 0 ≤ rest) : planB ts most rest pl = true ↔ (pl.length : Int) ≤ most ∧ (∀ t ∈ pl, 0 ≤ t ∧ t < (ts.length : Int)) ∧ pl.Pairwise (fun a b => followsB ts rest a b = true) := by
  unfold planB
  rw [Bool.and_eq_true, Bool.and_eq_true, each_pair hr, decide_eq_true_eq, List.all_eq_true, and_assoc]
  refine and_congr_right fun _ => and_congr_left fun _ => ⟨fun h t ht => ?_, fun h t ht => ?_⟩
  · have := of_inT (h t ht); omega
  · have := h t ht; simp only [inT, decide_eq_true_eq]; omega
theorem plan_sub {ts : List Lw} {most rest : Int} {pl l : List Int} (hr : 0 ≤ rest) (h : planB ts most rest pl = true) (hs : l.Sublist pl) : planB ts most rest l = true := by
  rw [planB_iff hr] at h ⊢
  have := hs.length_le
  exact ⟨by omega, fun t ht => h.2.1 t (hs.subset ht), h.2.2.sublist hs⟩
theorem plan_nil {ts : List Lw} {most rest : Int} (hm : 0 ≤ most) : planB ts most rest [] = true := by simp [planB, eachB, hm]
theorem plan_erase {ts : List Lw} {most rest : Int} {pl : List Int} (hr : 0 ≤ rest) (h : planB ts most rest pl = true) (k : Nat) : planB ts most rest (pl.eraseIdx k) = true := plan_sub hr h (List.eraseIdx_sublist pl k)
theorem plan_snoc {ts : List Lw} {most rest : Int} {pl : List Int} {t : Int} (hr : 0 ≤ rest) : planB ts most rest (pl ++ [t]) = true ↔ planB ts most rest pl = true ∧ (pl.length : Int) < most ∧ (0 ≤ t ∧ t < (ts.length : Int)) ∧ ∀ a ∈ pl, followsB ts rest a t = true := by
  rw [planB_iff hr, planB_iff hr, List.pairwise_append]
  simp only [List.length_append, List.length_cons, List.length_nil, List.mem_append, List.mem_singleton, List.pairwise_singleton, true_and]
  constructor
  · rintro ⟨h1, h2, h3, h4⟩
    exact ⟨⟨by omega, fun x hx => h2 x (.inl hx), h3⟩, by omega, h2 t (.inr rfl), fun a ha => h4 a ha t rfl⟩
  · rintro ⟨⟨h1, h2, h3⟩, h4, h5, h6⟩
    exact ⟨by omega, fun x hx => hx.elim (h2 x) (fun e => e ▸ h5), h3, fun a ha b hb => hb ▸ h6 a ha⟩
/-- The tides of a plan come one after the other. -/
theorem pair_ord {ts : List Lw} {rest now : Int} (hc : chainT now ts = true) : ∀ {pl : List Int} {a : Int}, (∀ t ∈ pl, 0 ≤ t ∧ t < (ts.length : Int)) → pl.Pairwise (fun a b => followsB ts rest a b = true) → (∀ t ∈ pl, ∀ s, ts[t.toNat]? = some s → a ≤ s.hour) → ordT ts a pl
  | [], _, _, _, _ => trivial
  | t :: l, a, h1, h2, h3 => by
    have ht := h1 t (by simp)
    obtain ⟨s, hs⟩ : ∃ s, ts[t.toNat]? = some s := ⟨ts[t.toNat]'(by omega), by rw [List.getElem?_eq_getElem]⟩
    rw [List.pairwise_cons] at h2
    refine ⟨ht.1, s, hs, h3 t (by simp) s hs, (chainT_get2 hc hs).2.1, pair_ord hc (fun u hu => h1 u (by simp [hu])) h2.2 fun u hu s2 hs2 => ?_⟩
    obtain ⟨hlt, -⟩ := follows_is (h2.1 u hu)
    have := chainT_lt hc (i := t.toNat) (j := u.toNat) (by omega) hs hs2
    omega
theorem plan_ord {ts : List Lw} {most rest now : Int} {pl : List Int} (hr : 0 ≤ rest) (hc : chainT now ts = true) (h : planB ts most rest pl = true) : ordT ts now pl := by
  rw [planB_iff hr] at h
  exact pair_ord hc h.2.1 h.2.2 fun t _ s hs => (chainT_get2 hc hs).1
/-- The tides of a plan are increasing numbers. -/
theorem plan_inc {ts : List Lw} {most rest : Int} {pl : List Int} (hr : 0 ≤ rest) (h : planB ts most rest pl = true) : pl.Pairwise (· < ·) := by
  rw [planB_iff hr] at h
  exact h.2.2.imp fun h => (follows_is h).1
theorem plan_len {ts : List Lw} {most rest : Int} {pl : List Int} (h : planB ts most rest pl = true) : (pl.length : Int) ≤ most := by
  unfold planB at h
  simp only [Bool.and_eq_true, decide_eq_true_eq] at h
  exact h.1.1
end Go.Proofs.YtcaeohgbgeadaaaGreatDoor

namespace Go.Proofs.YtcaeohgbgeadaaaGreatDoor
open Go Go.RowKit
/-- The least and the greatest number of some things, and one more. -/
def minG {α : Type} (f : α → Int) (a : Int) (l : List α) : Int := l.foldl (fun m z => min m (f z)) a
def maxG {α : Type} (f : α → Int) (a : Int) (l : List α) : Int := l.foldl (fun m z => max m (f z)) a
theorem minG_snoc {α : Type} (f : α → Int) (a : Int) (l : List α) (z : α) : minG f a (l ++ [z]) = min (minG f a l) (f z) := by simp [minG, List.foldl_append]
theorem maxG_snoc {α : Type} (f : α → Int) (a : Int) (l : List α) (z : α) : maxG f a (l ++ [z]) = max (maxG f a l) (f z) := by simp [maxG, List.foldl_append]
theorem minG_spec {α : Type} (f : α → Int) (l : List α) : ∀ a, minG f a l ≤ a ∧ (∀ z ∈ l, minG f a l ≤ f z) ∧ (minG f a l = a ∨ ∃ z ∈ l, minG f a l = f z) := by
  induction l with
  | nil => intro a; simp [minG]
  | cons z l ih =>
    intro a
    obtain ⟨h1, h2, h3⟩ := ih (min a (f z))
    have e : minG f a (z :: l) = minG f (min a (f z)) l := rfl
    rw [e]
    refine ⟨by omega, fun y hy => ?_, ?_⟩
    · rcases List.mem_cons.1 hy with rfl | hy
      · omega
      · exact h2 y hy
    · rcases h3 with h3 | ⟨y, hy, h3⟩
      · by_cases h : a ≤ f z
        · exact .inl (by omega)
        · exact .inr ⟨z, by simp, by omega⟩
      · exact .inr ⟨y, by simp [hy], h3⟩
theorem maxG_spec {α : Type} (f : α → Int) (l : List α) : ∀ a, a ≤ maxG f a l ∧ (∀ z ∈ l, f z ≤ maxG f a l) ∧ (maxG f a l = a ∨ ∃ z ∈ l, maxG f a l = f z) := by
  induction l with
  | nil => intro a; simp [maxG]
  | cons z l ih =>
    intro a
    obtain ⟨h1, h2, h3⟩ := ih (max a (f z))
    have e : maxG f a (z :: l) = maxG f (max a (f z)) l := rfl
    rw [e]
    refine ⟨by omega, fun y hy => ?_, ?_⟩
    · rcases List.mem_cons.1 hy with rfl | hy
      · omega
      · exact h2 y hy
    · rcases h3 with h3 | ⟨y, hy, h3⟩
      · by_cases h : f z ≤ a
        · exact .inl (by omega)
        · exact .inr ⟨z, by simp, by omega⟩
      · exact .inr ⟨y, by simp [hy], h3⟩
theorem minG_is {α : Type} {f : α → Int} {a : Int} {l : List α} {z : α} (hz : z ∈ l) (h : ∀ y ∈ l, f z ≤ f y) (ha : f z ≤ a) : minG f a l = f z := by
  obtain ⟨h1, h2, h3⟩ := minG_spec f l a
  have := h2 z hz
  rcases h3 with h3 | ⟨y, hy, h3⟩
  · omega
  · have := h y hy; omega
theorem maxG_is {α : Type} {f : α → Int} {a : Int} {l : List α} {z : α} (hz : z ∈ l) (h : ∀ y ∈ l, f y ≤ f z) (ha : a ≤ f z) : maxG f a l = f z := by
  obtain ⟨h1, h2, h3⟩ := maxG_spec f l a
  have := h2 z hz
  rcases h3 with h3 | ⟨y, hy, h3⟩
  · omega
  · have := h y hy; omega
theorem minG_congr {α : Type} (f : α → Int) (a : Int) {l l' : List α} (h : ∀ z, z ∈ l ↔ z ∈ l') : minG f a l = minG f a l' := by
  obtain ⟨a1, a2, a3⟩ := minG_spec f l a
  obtain ⟨b1, b2, b3⟩ := minG_spec f l' a
  have h1 : minG f a l ≤ minG f a l' := by
    rcases b3 with b3 | ⟨z, hz, b3⟩
    · omega
    · have := a2 z ((h z).2 hz); omega
  have h2 : minG f a l' ≤ minG f a l := by
    rcases a3 with a3 | ⟨z, hz, a3⟩
    · omega
    · have := b2 z ((h z).1 hz); omega
  omega
theorem maxG_congr {α : Type} (f : α → Int) (a : Int) {l l' : List α} (h : ∀ z, z ∈ l ↔ z ∈ l') : maxG f a l = maxG f a l' := by
  obtain ⟨a1, a2, a3⟩ := maxG_spec f l a
  obtain ⟨b1, b2, b3⟩ := maxG_spec f l' a
  have h1 : maxG f a l ≤ maxG f a l' := by
    rcases a3 with a3 | ⟨z, hz, a3⟩
    · omega
    · have := b2 z ((h z).1 hz); omega
  have h2 : maxG f a l' ≤ maxG f a l := by
    rcases b3 with b3 | ⟨z, hz, b3⟩
    · omega
    · have := a2 z ((h z).2 hz); omega
  omega
/-- An end of what a tide lets out; nothing where there is none. -/
def roomT (ts : List Lw) (c : Bool) (i : Nat) : Int := match ts[i]? with
  | some s => if c then s.hi else s.lo
  | none => 0
/-- An end of two numbers. -/
def endN (c : Bool) (lo hi : Int) : Int := if c then hi else lo
/-- A truth at the ends of what is known. -/
def trOf (h : Hl) (x y c d : Bool) : Tr := ⟨endN x h.hl h.hh, endN y h.rl h.rh, roomT h.b.ts c 0, roomT h.b.ts c 1, roomT h.b.ts c 2, roomT h.b.ts c 3, roomT h.b.ts c 4, roomT h.b.ts c 5, endN d h.b.glo h.b.ghi⟩
def bothB : List Bool := [false, true]
theorem mem_bothB (x : Bool) : x ∈ bothB := by cases x <;> simp [bothB]
/-- All truths at the ends. -/
def corn (h : Hl) : List Tr := bothB.flatMap fun x => bothB.flatMap fun y => bothB.flatMap fun c => bothB.map fun d => trOf h x y c d
theorem mem_corn {h : Hl} {t : Tr} : t ∈ corn h ↔ ∃ x y c d, t = trOf h x y c d := by
  simp only [corn, List.mem_flatMap, List.mem_map]
  constructor
  · rintro ⟨x, _, y, _, c, _, d, _, rfl⟩; exact ⟨x, y, c, d, rfl⟩
  · rintro ⟨x, y, c, d, rfl⟩; exact ⟨x, mem_bothB x, y, mem_bothB y, c, mem_bothB c, d, mem_bothB d, rfl⟩
/-- What is asked of a plan. -/
def askN (k : Nat) (e : Int × Int × Int) : Int := match k with
  | 0 => e.2.1
  | 1 => e.1 - e.2.1
  | _ => e.2.2
/-- What is asked, at least and at most. -/
def ansLo (h : Hl) (k : Nat) (pl : List Int) : Int := minG (fun t => askN k (endS h.b t pl)) 400 (corn h)
def ansHi (h : Hl) (k : Nat) (pl : List Int) : Int := maxG (fun t => askN k (endS h.b t pl)) 0 (corn h)
theorem trOf_room (h : Hl) (x y c d : Bool) {i : Nat} (hi : i < 6) : (trOf h x y c d).room i = roomT h.b.ts c i := by
  match i, hi with
  | 0, _ => rfl
  | 1, _ => rfl
  | 2, _ => rfl
  | 3, _ => rfl
  | 4, _ => rfl
  | 5, _ => rfl
  | k + 6, h => omega
theorem runS_congr {ts : List Lw} {room room' : Nat → Int} {r g : Int} : ∀ (l : List Int) (h a o : Int), (∀ t ∈ l, room t.toNat = room' t.toNat) → runS ts room r g l h a o = runS ts room' r g l h a o
  | [], _, _, _, _ => rfl
  | t :: l, h, a, o, he => by
    unfold runS
    have e1 := he t (by simp)
    rw [e1]
    cases ts[t.toNat]? with
    | none => rfl
    | some s =>
      dsimp only
      by_cases hg : g ≤ s.hour
      · rw [if_pos hg, if_pos hg]
      · rw [if_neg hg, if_neg hg]
        exact runS_congr l _ _ _ fun u hu => he u (by simp [hu])
theorem endS_run (b : Tk) (t : Tr) (pl : List Int) : endS b t pl = (t.h, runS b.ts t.room t.r t.g pl t.h b.now 0) := by
  rw [runS_play]; rfl
/-- Of two truths the first one is worse for tucking: no more are tucked out of it. -/
theorem run_out {ts : List Lw} {room room' : Nat → Int} {h h' r r' g g' a : Int} {pl : List Int} (hrm : ∀ i, 0 ≤ room i) (hrr : ∀ i, room i ≤ room' i) (h0 : 0 ≤ h) (hh : h ≤ h') (hr : 0 ≤ r') (hr2 : r' ≤ r) (hg : g ≤ g') (ha : a ≤ g) (ho : ordT ts a pl) :
    (runS ts room r g pl h a 0).1 ≤ (runS ts room' r' g' pl h' a 0).1 := by
  have e1 := (runS_more (ts := ts) (g := g) hrm hr hr2 pl h h' a 0 0 h0 hh (Int.le_refl _) ho).1
  have e2 := (runS_good (ts := ts) (g := g) hrm hrr hr pl h' h' a 0 0 (by omega) (Int.le_refl _) (Int.le_refl _) (Int.le_refl _) ho).1
  have e3 := (runS_gale (ts := ts) (room := room') (fun i => Int.le_trans (hrm i) (hrr i)) hr hg pl h' a 0 (by omega) ha ho).1
  omega
theorem run_lost {ts : List Lw} {room room' : Nat → Int} {h h' r r' g g' a : Int} {pl : List Int} (hrm : ∀ i, 0 ≤ room' i) (hrr : ∀ i, room' i ≤ room i) (h0 : 0 ≤ h) (hh : h ≤ h') (hr : 0 ≤ r) (hr2 : r ≤ r') (hg : g' ≤ g) (ha : a ≤ g') (ho : ordT ts a pl) :
    h - (runS ts room r g pl h a 0).1 ≤ h' - (runS ts room' r' g' pl h' a 0).1 := by
  have e1 := runS_lip (ts := ts) (room := room') (r := r') (g := g') hrm (by omega) pl h h' a 0 0 h0 hh ho
  have e2 := run_out (ts := ts) (pl := pl) (r := r') (r' := r) (g := g') (g' := g) hrm hrr h0 (Int.le_refl h) hr hr2 hg ha ho
  omega
theorem run_left {ts : List Lw} {room room' : Nat → Int} {h h' r r' g g' a : Int} {pl : List Int} (hrm : ∀ i, 0 ≤ room' i) (hrr : ∀ i, room' i ≤ room i) (h0 : 0 ≤ h) (hh : h ≤ h') (hr : 0 ≤ r') (hr2 : r' ≤ r) (hg : g' ≤ g) (ha : a ≤ g') (ho : ordT ts a pl) :
    (runS ts room r g pl h a 0).2 ≤ (runS ts room' r' g' pl h' a 0).2 := by
  have e1 := (runS_more (ts := ts) (room := room') (g := g') hrm hr hr2 pl h h' a 0 0 h0 hh (Int.le_refl _) ho).2
  have e2 := (runS_good (ts := ts) (g := g') (r := r) hrm hrr (by omega) pl h h a 0 0 h0 (Int.le_refl _) (Int.le_refl _) (Int.le_refl _) ho).2
  have e3 := (runS_gale (ts := ts) (room := room) (r := r) (fun i => Int.le_trans (hrm i) (hrr i)) (by omega) hg pl h a 0 h0 ha ho).2
  omega
/-- What is known of a haul: its numbers are in order, and none too great. -/
structure Hl.OK (h : Hl) : Prop where
  hd : 0 ≤ h.hl ∧ h.hl ≤ h.hh ∧ h.hh ≤ 400
  rt : 0 ≤ h.rl ∧ h.rl ≤ h.rh ∧ h.rh ≤ 400
  nw : 0 ≤ h.b.now ∧ h.b.now ≤ 60
  gl : h.b.now ≤ h.b.glo ∧ h.b.glo ≤ h.b.ghi ∧ h.b.ghi ≤ 60
  ch : chainT h.b.now h.b.ts = true
  ln : h.b.ts.length ≤ 6
  ms : 0 ≤ h.b.most ∧ h.b.most ≤ 6
  rs : 0 ≤ h.b.rest ∧ h.b.rest ≤ 60
theorem Hl.OK.room {h : Hl} (k : h.OK) (c : Bool) (i : Nat) : 0 ≤ roomT h.b.ts c i ∧ roomT h.b.ts c i ≤ 99 := by
  unfold roomT
  cases hs : h.b.ts[i]? with
  | none => dsimp only; omega
  | some s =>
    have := chainT_get2 k.ch hs
    dsimp only
    cases c
    · simp only [Bool.false_eq_true, if_false]; omega
    · simp only [if_true]; omega
theorem Hl.OK.room2 {h : Hl} (k : h.OK) (i : Nat) : roomT h.b.ts false i ≤ roomT h.b.ts true i := by
  unfold roomT
  cases hs : h.b.ts[i]? with
  | none => dsimp only; omega
  | some s =>
    have := chainT_get2 k.ch hs
    dsimp only
    simp only [Bool.false_eq_true, if_false, if_true]; omega
/-- A truth between the ends. -/
structure Btw (h : Hl) (x y g : Int) (room : Nat → Int) : Prop where
  x : h.hl ≤ x ∧ x ≤ h.hh
  y : h.rl ≤ y ∧ y ≤ h.rh
  g : h.b.glo ≤ g ∧ g ≤ h.b.ghi
  rm : ∀ i, roomT h.b.ts false i ≤ room i ∧ room i ≤ roomT h.b.ts true i
theorem btw_corn {h : Hl} (k : h.OK) (x y c d : Bool) : Btw h (endN x h.hl h.hh) (endN y h.rl h.rh) (endN d h.b.glo h.b.ghi) (roomT h.b.ts c) := by
  have h1 := k.hd
  have h2 := k.rt
  have h3 := k.gl
  refine ⟨?_, ?_, ?_, fun i => ?_⟩
  · cases x <;> simp [endN] <;> omega
  · cases y <;> simp [endN] <;> omega
  · cases d <;> simp [endN] <;> omega
  · have := k.room2 i
    cases c <;> omega
theorem end_corn {h : Hl} (k : h.OK) {pl : List Int} (hp : planB h.b.ts h.b.most h.b.rest pl = true) (x y c d : Bool) :
    endS h.b (trOf h x y c d) pl = (endN x h.hl h.hh, runS h.b.ts (roomT h.b.ts c) (endN y h.rl h.rh) (endN d h.b.glo h.b.ghi) pl (endN x h.hl h.hh) h.b.now 0) := by
  rw [endS_run]
  have h1 := ((planB_iff k.rs.1).1 hp).2.1
  have h2 := k.ln
  rw [runS_congr (room' := roomT h.b.ts c) pl _ _ _ (fun t ht => trOf_room h x y c d (by have := h1 t ht; omega))]
  rfl
/-- What is asked of a truth. -/
def askX (k : Nat) (x : Int) (e : Int × Int) : Int := askN k (x, e)
theorem end_bd {h : Hl} (k : h.OK) {pl : List Int} (hp : planB h.b.ts h.b.most h.b.rest pl = true) {x y g : Int} {room : Nat → Int} (hb : Btw h x y g room) (q : Nat) :
    0 ≤ askX q x (runS h.b.ts room y g pl x h.b.now 0) ∧ askX q x (runS h.b.ts room y g pl x h.b.now 0) ≤ 400 := by
  have h1 := runS_bd (ts := h.b.ts) (room := room) (g := g) (fun i => Int.le_trans (k.room false i).1 (hb.rm i).1) (r := y) (by have := k.rt; have := hb.y; omega) pl x h.b.now 0 (by have := k.hd; have := hb.x; omega) (plan_ord k.rs.1 k.ch hp)
  have h2 := k.hd
  have h3 := hb.x
  unfold askX askN
  split <;> dsimp only <;> omega
/-- The corners at which what is asked is least and greatest: of the fish, the rate, the rooms and the gale. -/
def loC : Nat → Bool × Bool × Bool
  | 0 => (false, true, false)
  | 1 => (false, false, true)
  | _ => (false, true, true)
def hiC (q : Nat) : Bool × Bool × Bool := (!(loC q).1, !(loC q).2.1, !(loC q).2.2)
theorem ask_mono {h : Hl} (k : h.OK) {pl : List Int} (hp : planB h.b.ts h.b.most h.b.rest pl = true) {x y g : Int} {room : Nat → Int} (hb : Btw h x y g room) (q : Nat) :
    askN q (endS h.b (trOf h (loC q).1 (loC q).2.1 (loC q).2.2 (loC q).2.2) pl) ≤ askX q x (runS h.b.ts room y g pl x h.b.now 0) ∧
    askX q x (runS h.b.ts room y g pl x h.b.now 0) ≤ askN q (endS h.b (trOf h (hiC q).1 (hiC q).2.1 (hiC q).2.2 (hiC q).2.2) pl) := by
  have ho := plan_ord k.rs.1 k.ch hp
  have k1 := k.hd
  have k2 := k.rt
  have k3 := k.gl
  have b1 := hb.x
  have b2 := hb.y
  have b3 := hb.g
  rw [end_corn k hp, end_corn k hp]
  have r0 : ∀ c i, 0 ≤ roomT h.b.ts c i := fun c i => (k.room c i).1
  have rr : ∀ i, 0 ≤ room i := fun i => Int.le_trans (r0 false i) (hb.rm i).1
  match q with
  | 0 =>
    simp only [loC, hiC, endN, askX, askN, Bool.not_false, Bool.not_true, Bool.false_eq_true, if_false, if_true]
    exact ⟨run_out (r0 false) (fun i => (hb.rm i).1) (by omega) b1.1 (by omega) b2.2 b3.1 (by omega) ho, run_out rr (fun i => (hb.rm i).2) (by omega) b1.2 (by omega) b2.1 b3.2 (by omega) ho⟩
  | 1 =>
    simp only [loC, hiC, endN, askX, askN, Bool.not_false, Bool.not_true, Bool.false_eq_true, if_false, if_true]
    exact ⟨run_lost rr (fun i => (hb.rm i).2) (by omega) b1.1 (by omega) b2.1 b3.2 (by omega) ho, run_lost (r0 false) (fun i => (hb.rm i).1) (by omega) b1.2 (by omega) b2.2 b3.1 (by omega) ho⟩
  | n + 2 =>
    simp only [loC, hiC, endN, askX, askN, Bool.not_false, Bool.not_true, Bool.false_eq_true, if_false, if_true]
    exact ⟨run_left rr (fun i => (hb.rm i).2) (by omega) b1.1 (by omega) b2.2 b3.2 (by omega) ho, run_left (r0 false) (fun i => (hb.rm i).1) (by omega) b1.2 (by omega) b2.1 b3.1 (by omega) ho⟩
theorem ask_corn {h : Hl} (k : h.OK) {pl : List Int} (hp : planB h.b.ts h.b.most h.b.rest pl = true) (x y c d : Bool) (q : Nat) :
    askN q (endS h.b (trOf h (loC q).1 (loC q).2.1 (loC q).2.2 (loC q).2.2) pl) ≤ askN q (endS h.b (trOf h x y c d) pl) ∧
    askN q (endS h.b (trOf h x y c d) pl) ≤ askN q (endS h.b (trOf h (hiC q).1 (hiC q).2.1 (hiC q).2.2 (hiC q).2.2) pl) := by
  have := ask_mono k hp (btw_corn k x y c d) q
  rw [show askN q (endS h.b (trOf h x y c d) pl) = _ from congrArg (askN q) (end_corn k hp x y c d)]
  exact this
theorem ask_bd {h : Hl} (k : h.OK) {pl : List Int} (hp : planB h.b.ts h.b.most h.b.rest pl = true) (x y c d : Bool) (q : Nat) :
    0 ≤ askN q (endS h.b (trOf h x y c d) pl) ∧ askN q (endS h.b (trOf h x y c d) pl) ≤ 400 := by
  have := end_bd k hp (btw_corn k x y c d) q
  rw [show askN q (endS h.b (trOf h x y c d) pl) = _ from congrArg (askN q) (end_corn k hp x y c d)]
  exact this
theorem ansLo_is {h : Hl} (k : h.OK) {pl : List Int} (hp : planB h.b.ts h.b.most h.b.rest pl = true) (q : Nat) : ansLo h q pl = askN q (endS h.b (trOf h (loC q).1 (loC q).2.1 (loC q).2.2 (loC q).2.2) pl) :=
  minG_is (f := fun t => askN q (endS h.b t pl)) (mem_corn.2 ⟨_, _, _, _, rfl⟩) (fun y hy => by obtain ⟨a, b, c, d, rfl⟩ := mem_corn.1 hy; exact (ask_corn k hp a b c d q).1) (ask_bd k hp _ _ _ _ q).2
theorem ansHi_is {h : Hl} (k : h.OK) {pl : List Int} (hp : planB h.b.ts h.b.most h.b.rest pl = true) (q : Nat) : ansHi h q pl = askN q (endS h.b (trOf h (hiC q).1 (hiC q).2.1 (hiC q).2.2 (hiC q).2.2) pl) :=
  maxG_is (f := fun t => askN q (endS h.b t pl)) (mem_corn.2 ⟨_, _, _, _, rfl⟩) (fun y hy => by obtain ⟨a, b, c, d, rfl⟩ := mem_corn.1 hy; exact (ask_corn k hp a b c d q).2) (ask_bd k hp _ _ _ _ q).1
/-- Whatever is true: what is asked lies between what is told. -/
theorem ans_btw {h : Hl} (k : h.OK) {pl : List Int} (hp : planB h.b.ts h.b.most h.b.rest pl = true) {x y g : Int} {room : Nat → Int} (hb : Btw h x y g room) (q : Nat) :
    ansLo h q pl ≤ askX q x (runS h.b.ts room y g pl x h.b.now 0) ∧ askX q x (runS h.b.ts room y g pl x h.b.now 0) ≤ ansHi h q pl := by
  rw [ansLo_is k hp, ansHi_is k hp]
  exact ask_mono k hp hb q
theorem ans_bd {h : Hl} (k : h.OK) {pl : List Int} (hp : planB h.b.ts h.b.most h.b.rest pl = true) (q : Nat) : 0 ≤ ansLo h q pl ∧ ansLo h q pl ≤ ansHi h q pl ∧ ansHi h q pl ≤ 400 := by
  have h1 := ask_corn k hp (loC q).1 (loC q).2.1 (loC q).2.2 (loC q).2.2 q
  have h2 := ask_bd k hp (loC q).1 (loC q).2.1 (loC q).2.2 (loC q).2.2 q
  have h3 := ask_bd k hp (hiC q).1 (hiC q).2.1 (hiC q).2.2 (hiC q).2.2 q
  rw [ansLo_is k hp, ansHi_is k hp]
  omega
end Go.Proofs.YtcaeohgbgeadaaaGreatDoor

