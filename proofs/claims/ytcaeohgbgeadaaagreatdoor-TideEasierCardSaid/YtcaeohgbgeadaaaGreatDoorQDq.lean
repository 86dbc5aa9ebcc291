/- Package tide, plainly: how what is tucked out and what is left hang on what is known: on the fish, the rate, the rooms, the gale, the tides of the plan. -/
import Derived.Test.YtcaeohgbgeadaaaGreatDoorQFa
set_option linter.unusedSimpArgs false
set_option linter.unusedVariables false
namespace Go.Proofs.YtcaeohgbgeadaaaGreatDoor
open Go Go.RowKit
/-- What becomes of a seine by a plan: how many are tucked out, how many are left. -/
def runS (ts : List Lw) (room : Nat → Int) (r g : Int) : List Int → Int → Int → Int → Int × Int
  | [], h, a, o => (o, afterH r (g - a).toNat h)
  | t :: l, h, a, o => match ts[t.toNat]? with
    | some s => if g ≤ s.hour then (o, afterH r (g - a).toNat h) else
      runS ts room r g l (afterH r (s.hour - a).toNat h - min (afterH r (s.hour - a).toNat h) (room t.toNat)) s.hour (o + min (afterH r (s.hour - a).toNat h) (room t.toNat))
    | none => (o, afterH r (g - a).toNat h)
theorem runS_play (ts : List Lw) (room : Nat → Int) (r g : Int) : ∀ (l : List Int) (h a o : Int), runS ts room r g l h a o = ((playS ts room r g l (h, a, o)).2.2, afterH r (g - (playS ts room r g l (h, a, o)).2.1).toNat (playS ts room r g l (h, a, o)).1)
  | [], h, a, o => rfl
  | t :: l, h, a, o => by
    unfold runS playS
    cases ts[t.toNat]? with
    | none => rfl
    | some s =>
      dsimp only
      by_cases hg : g ≤ s.hour
      · rw [if_pos hg, if_pos hg]
      · rw [if_neg hg, if_neg hg]
        exact runS_play ts room r g l _ _ _
theorem aft_mono {r r' : Int} (h0 : 0 ≤ r') (h1 : r' ≤ r) : ∀ (n : Nat) {h h' : Int}, 0 ≤ h → h ≤ h' → afterH r n h ≤ afterH r' n h'
  | 0, h, h', _, h3 => h3
  | n + 1, h, h', h2, h3 => by
    unfold afterH
    exact aft_mono h0 h1 n (by omega) (by omega)
theorem aft_lip {r : Int} (h0 : 0 ≤ r) : ∀ (n : Nat) {h h' : Int}, 0 ≤ h → h ≤ h' → afterH r n h' - afterH r n h ≤ h' - h
  | 0, h, h', _, h3 => by unfold afterH; omega
  | n + 1, h, h', h2, h3 => by
    unfold afterH
    have := aft_lip h0 n (h := h - min h r) (h' := h' - min h' r) (by omega) (by omega)
    omega
theorem aft_add (r : Int) : ∀ (n m : Nat) (h : Int), afterH r (n + m) h = afterH r m (afterH r n h)
  | 0, m, h => by rw [Nat.zero_add]; rfl
  | n + 1, m, h => by
    rw [show n + 1 + m = (n + m) + 1 by omega]
    show afterH r (n + m) (h - min h r) = afterH r m (afterH r n (h - min h r))
    exact aft_add r n m _
theorem aft_len {r : Int} (h0 : 0 ≤ r) {n m : Nat} (hnm : n ≤ m) {h : Int} (hh : 0 ≤ h) : afterH r m h ≤ afterH r n h := by
  obtain ⟨k, rfl⟩ : ∃ k, m = n + k := ⟨m - n, by omega⟩
  rw [aft_add]
  exact (afterH_bd h0 k _ (afterH_bd h0 n h hh).1).2
theorem aft_between (r : Int) {a c e h : Int} (h1 : a ≤ c) (h2 : c ≤ e) : afterH r (e - a).toNat h = afterH r (e - c).toNat (afterH r (c - a).toNat h) := by
  rw [← aft_add]; congr 1; omega
theorem runS_nil (ts : List Lw) (room : Nat → Int) (r g h a o : Int) : runS ts room r g [] h a o = (o, afterH r (g - a).toNat h) := rfl
theorem runS_stop {ts : List Lw} {room : Nat → Int} {r g t : Int} {l : List Int} {s : Lw} {h a o : Int} (hs : ts[t.toNat]? = some s) (hg : g ≤ s.hour) : runS ts room r g (t :: l) h a o = (o, afterH r (g - a).toNat h) := by
  conv => lhs; unfold runS
  simp only [hs]; rw [if_pos hg]
theorem runS_go {ts : List Lw} {room : Nat → Int} {r g t : Int} {l : List Int} {s : Lw} {h a o : Int} (hs : ts[t.toNat]? = some s) (hg : ¬ g ≤ s.hour) :
    runS ts room r g (t :: l) h a o = runS ts room r g l (afterH r (s.hour - a).toNat h - min (afterH r (s.hour - a).toNat h) (room t.toNat)) s.hour (o + min (afterH r (s.hour - a).toNat h) (room t.toNat)) := by
  conv => lhs; unfold runS
  simp only [hs]; rw [if_neg hg]
/-- What is tucked out and left lies between nothing and what is held. -/
theorem runS_bd {ts : List Lw} {room : Nat → Int} (hrm : ∀ i, 0 ≤ room i) {r g : Int} (hr : 0 ≤ r) : ∀ (l : List Int) (h a o : Int), 0 ≤ h → ordT ts a l → o ≤ (runS ts room r g l h a o).1 ∧ 0 ≤ (runS ts room r g l h a o).2 ∧ (runS ts room r g l h a o).1 + (runS ts room r g l h a o).2 ≤ o + h
  | [], h, a, o, h0, _ => by
    have := afterH_bd hr (g - a).toNat h h0
    rw [runS_nil]; dsimp only; omega
  | t :: l, h, a, o, h0, hord => by
    obtain ⟨ht, s, hs, h1, h2, h3⟩ := hord
    by_cases hg : g ≤ s.hour
    · have := afterH_bd hr (g - a).toNat h h0
      rw [runS_stop hs hg]; dsimp only; omega
    · rw [runS_go hs hg]
      have hb := afterH_bd hr (s.hour - a).toNat h h0
      have hm := hrm t.toNat
      generalize afterH r (s.hour - a).toNat h = q at *
      generalize room t.toNat = m at *
      have := runS_bd hrm hr (g := g) l (q - min q m) s.hour (o + min q m) (by omega) h3
      omega
/-- More fish that get away more slowly: no fewer are tucked out, no fewer are left. -/
theorem runS_more {ts : List Lw} {room : Nat → Int} (hrm : ∀ i, 0 ≤ room i) {r r' g : Int} (hr : 0 ≤ r') (hrr : r' ≤ r) : ∀ (l : List Int) (h h' a o o' : Int), 0 ≤ h → h ≤ h' → o ≤ o' → ordT ts a l → (runS ts room r g l h a o).1 ≤ (runS ts room r' g l h' a o').1 ∧ (runS ts room r g l h a o).2 ≤ (runS ts room r' g l h' a o').2
  | [], h, h', a, o, o', h0, hh, ho, _ => by
    have := aft_mono hr hrr (g - a).toNat h0 hh
    rw [runS_nil, runS_nil]; exact ⟨ho, this⟩
  | t :: l, h, h', a, o, o', h0, hh, ho, hord => by
    obtain ⟨ht, s, hs, h1, h2, h3⟩ := hord
    by_cases hg : g ≤ s.hour
    · have := aft_mono hr hrr (g - a).toNat h0 hh
      rw [runS_stop hs hg, runS_stop hs hg]; exact ⟨ho, this⟩
    · rw [runS_go hs hg, runS_go hs hg]
      have hb := afterH_bd (show 0 ≤ r by omega) (s.hour - a).toNat h h0
      have hc := aft_mono hr hrr (s.hour - a).toNat h0 hh
      have hm := hrm t.toNat
      generalize afterH r (s.hour - a).toNat h = q at *
      generalize afterH r' (s.hour - a).toNat h' = q' at *
      generalize room t.toNat = m at *
      exact runS_more hrm hr hrr l _ _ s.hour _ _ (by omega) (by omega) (by omega) h3
/-- Of so many more fish at most as many more are tucked out. -/
theorem runS_lip {ts : List Lw} {room : Nat → Int} (hrm : ∀ i, 0 ≤ room i) {r g : Int} (hr : 0 ≤ r) : ∀ (l : List Int) (h h' a o o' : Int), 0 ≤ h → h ≤ h' → ordT ts a l → (runS ts room r g l h' a o').1 - o' ≤ (runS ts room r g l h a o).1 - o + (h' - h)
  | [], h, h', a, o, o', h0, hh, _ => by
    rw [runS_nil, runS_nil]; dsimp only; omega
  | t :: l, h, h', a, o, o', h0, hh, hord => by
    obtain ⟨ht, s, hs, h1, h2, h3⟩ := hord
    by_cases hg : g ≤ s.hour
    · rw [runS_stop hs hg, runS_stop hs hg]; dsimp only; omega
    · rw [runS_go hs hg, runS_go hs hg]
      have hb := afterH_bd hr (s.hour - a).toNat h h0
      have hc := aft_mono hr (Int.le_refl r) (s.hour - a).toNat h0 hh
      have hd := aft_lip hr (s.hour - a).toNat h0 hh
      have hm := hrm t.toNat
      generalize afterH r (s.hour - a).toNat h = q at *
      generalize afterH r (s.hour - a).toNat h' = q' at *
      generalize room t.toNat = m at *
      have := runS_lip hrm hr (g := g) l (q - min q m) (q' - min q' m) s.hour (o + min q m) (o' + min q' m) (by omega) (by omega) h3
      omega
/-- Greater rooms, and what was tucked out sooner: no fewer are tucked out, no more are left. -/
theorem runS_good {ts : List Lw} {room room' : Nat → Int} (hrm : ∀ i, 0 ≤ room i) (hrr : ∀ i, room i ≤ room' i) {r g : Int} (hr : 0 ≤ r) : ∀ (l : List Int) (h h' a o o' : Int), 0 ≤ h' → h' ≤ h → o ≤ o' → o + h ≤ o' + h' → ordT ts a l → (runS ts room r g l h a o).1 ≤ (runS ts room' r g l h' a o').1 ∧ (runS ts room' r g l h' a o').2 ≤ (runS ts room r g l h a o).2
  | [], h, h', a, o, o', h0, hh, ho, _, _ => by
    have := aft_mono hr (Int.le_refl r) (g - a).toNat h0 hh
    rw [runS_nil, runS_nil]; exact ⟨ho, this⟩
  | t :: l, h, h', a, o, o', h0, hh, ho, hs', hord => by
    obtain ⟨ht, s, hs, h1, h2, h3⟩ := hord
    by_cases hg : g ≤ s.hour
    · have := aft_mono hr (Int.le_refl r) (g - a).toNat h0 hh
      rw [runS_stop hs hg, runS_stop hs hg]; exact ⟨ho, this⟩
    · rw [runS_go hs hg, runS_go hs hg]
      have hb := afterH_bd hr (s.hour - a).toNat h' h0
      have hc := aft_mono hr (Int.le_refl r) (s.hour - a).toNat h0 hh
      have hd := aft_lip hr (s.hour - a).toNat h0 hh
      have hm := hrm t.toNat
      have hm' := hrr t.toNat
      generalize afterH r (s.hour - a).toNat h = q at *
      generalize afterH r (s.hour - a).toNat h' = q' at *
      generalize room t.toNat = m at *
      generalize room' t.toNat = m' at *
      exact runS_good hrm hrr hr l _ _ s.hour _ _ (by omega) (by omega) (by omega) (by omega) h3
/-- What is left at an hour is no more than what was there sooner. -/
theorem runS_left {ts : List Lw} {room : Nat → Int} (hrm : ∀ i, 0 ≤ room i) {r g : Int} (hr : 0 ≤ r) : ∀ (l : List Int) (h a o e : Int), 0 ≤ h → a ≤ e → e ≤ g → ordT ts a l → (runS ts room r g l h a o).2 ≤ afterH r (e - a).toNat h
  | [], h, a, o, e, h0, h1, h2, _ => by
    rw [runS_nil]; exact aft_len hr (by omega) h0
  | t :: l, h, a, o, e, h0, ha, he, hord => by
    obtain ⟨ht, s, hs, h1, h2, h3⟩ := hord
    by_cases hg : g ≤ s.hour
    · rw [runS_stop hs hg]; exact aft_len hr (by omega) h0
    · rw [runS_go hs hg]
      have hb := afterH_bd hr (s.hour - a).toNat h h0
      have hm := hrm t.toNat
      by_cases hes : e ≤ s.hour
      · have hl := aft_len hr (n := (e - a).toNat) (m := (s.hour - a).toNat) (by omega) h0
        generalize afterH r (s.hour - a).toNat h = q at *
        generalize room t.toNat = m at *
        have := runS_left hrm hr (g := g) l (q - min q m) s.hour (o + min q m) s.hour (by omega) (Int.le_refl _) (by omega) h3
        rw [show (s.hour - s.hour).toNat = 0 by omega] at this
        unfold afterH at this
        omega
      · rw [aft_between r (a := a) (c := s.hour) (e := e) h1 (by omega)]
        generalize afterH r (s.hour - a).toNat h = q at *
        generalize room t.toNat = m at *
        have := runS_left hrm hr (g := g) l (q - min q m) s.hour (o + min q m) e (by omega) (by omega) he h3
        exact Int.le_trans this (aft_mono hr (Int.le_refl r) _ (by omega) (by omega))
/-- A later gale: no fewer are tucked out, no more are left. -/
theorem runS_gale {ts : List Lw} {room : Nat → Int} (hrm : ∀ i, 0 ≤ room i) {r g g' : Int} (hr : 0 ≤ r) (hgg : g ≤ g') : ∀ (l : List Int) (h a o : Int), 0 ≤ h → a ≤ g → ordT ts a l → (runS ts room r g l h a o).1 ≤ (runS ts room r g' l h a o).1 ∧ (runS ts room r g' l h a o).2 ≤ (runS ts room r g l h a o).2
  | [], h, a, o, h0, ha, _ => by
    rw [runS_nil, runS_nil]; exact ⟨Int.le_refl _, aft_len hr (by omega) h0⟩
  | t :: l, h, a, o, h0, ha, hord => by
    have hord' := hord
    obtain ⟨ht, s, hs, h1, h2, h3⟩ := hord
    by_cases hg : g ≤ s.hour
    · have e1 := runS_bd hrm hr (g := g') (t :: l) h a o h0 hord'
      have e2 := runS_left hrm hr (g := g') (t :: l) h a o g h0 ha hgg hord'
      rw [runS_stop hs hg]
      exact ⟨e1.1, e2⟩
    · rw [runS_go hs hg, runS_go hs (by omega)]
      have hb := afterH_bd hr (s.hour - a).toNat h h0
      have hm := hrm t.toNat
      generalize afterH r (s.hour - a).toNat h = q at *
      generalize room t.toNat = m at *
      exact runS_gale hrm hr hgg l _ s.hour _ (by omega) (by omega) h3
/-- From a later hour on, before the next tide. -/
theorem runS_shift {ts : List Lw} {room : Nat → Int} {r g : Int} : ∀ (l : List Int) (h a c o : Int), a ≤ c → c ≤ g → ordT ts c l → runS ts room r g l h a o = runS ts room r g l (afterH r (c - a).toNat h) c o
  | [], h, a, c, o, h1, h2, _ => by
    rw [runS_nil, runS_nil, ← aft_between r h1 h2]
  | t :: l, h, a, c, o, hac, hcg, hord => by
    obtain ⟨ht, s, hs, h1, h2, h3⟩ := hord
    by_cases hg : g ≤ s.hour
    · rw [runS_stop hs hg, runS_stop hs hg, ← aft_between r hac hcg]
    · rw [runS_go hs hg, runS_go hs hg, ← aft_between r hac h1]
theorem ordT_weak {ts : List Lw} : ∀ {l : List Int} {a c : Int}, a ≤ c → ordT ts c l → ordT ts a l
  | [], _, _, _, _ => trivial
  | _ :: _, _, _, hac, ⟨h1, s, h2, h3, h4, h5⟩ => ⟨h1, s, h2, by omega, h4, h5⟩
theorem ordT_erase {ts : List Lw} : ∀ {l : List Int} {a : Int} (k : Nat), ordT ts a l → ordT ts a (l.eraseIdx k)
  | [], _, _, _ => trivial
  | _ :: _, _, 0, ⟨_, _, _, h3, _, h5⟩ => ordT_weak h3 h5
  | t :: l, a, k + 1, ⟨h1, s, h2, h3, h4, h5⟩ => ⟨h1, s, h2, h3, h4, ordT_erase k h5⟩
/-- Without a tide of it a plan tucks out no more, and leaves no fewer. -/
theorem runS_erase {ts : List Lw} {room : Nat → Int} (hrm : ∀ i, 0 ≤ room i) {r g : Int} (hr : 0 ≤ r) : ∀ (l : List Int) (k : Nat) (h a o : Int), 0 ≤ h → a ≤ g → ordT ts a l → (runS ts room r g (l.eraseIdx k) h a o).1 ≤ (runS ts room r g l h a o).1 ∧ (runS ts room r g l h a o).2 ≤ (runS ts room r g (l.eraseIdx k) h a o).2
  | [], k, h, a, o, h0, ha, _ => by simp
  | t :: l, 0, h, a, o, h0, ha, ⟨ht, s, hs, h1, h2, h3⟩ => by
    rw [List.eraseIdx_zero, List.tail_cons]
    have hb := afterH_bd hr (s.hour - a).toNat h h0
    have hm := hrm t.toNat
    by_cases hg : g ≤ s.hour
    · have hk : runS ts room r g l h a o = (o, afterH r (g - a).toNat h) := by
        cases l with
        | nil => rfl
        | cons u l =>
          obtain ⟨_, s2, hs2, h4, _, _⟩ := h3
          exact runS_stop hs2 (by omega)
      rw [hk, runS_stop hs hg]; exact ⟨Int.le_refl _, Int.le_refl _⟩
    · rw [runS_go hs hg, runS_shift l h a s.hour o h1 (by omega) h3]
      generalize afterH r (s.hour - a).toNat h = q at *
      generalize hM : room t.toNat = m at *
      exact runS_good hrm (fun _ => Int.le_refl _) hr l _ _ s.hour _ _ (by omega) (by omega) (by omega) (by omega) h3
  | t :: l, k + 1, h, a, o, h0, ha, ⟨ht, s, hs, h1, h2, h3⟩ => by
    rw [List.eraseIdx_cons_succ]
    have hb := afterH_bd hr (s.hour - a).toNat h h0
    have hm := hrm t.toNat
    by_cases hg : g ≤ s.hour
    · rw [runS_stop hs hg, runS_stop hs hg]; exact ⟨Int.le_refl _, Int.le_refl _⟩
    · rw [runS_go hs hg, runS_go hs hg]
      exact runS_erase hrm hr l k _ s.hour _ (by omega) (by omega) h3
end Go.Proofs.YtcaeohgbgeadaaaGreatDoor

