/- Plain facts for Wrong: a book without some of its notes; the lists of notes that can be left out. -/
import Derived.Test.YtjjfpbjdcmkkhaaDoorQNz
import Derived.Test.YtjjfpbjdcmkkhaaDoorQPg
set_option linter.unusedSimpArgs false
set_option linter.unusedVariables false
namespace Go.Proofs.YtjjfpbjdcmkkhaaDoor
open Go Go.RowKit Go.Shelf
/-- The first notes, without those of a list. -/
def woutN (ns : List Nt) (l : List Int) : Nat → List Nt
  | 0 => []
  | k + 1 => woutN ns l k ++ (match ns[k]? with | some s => if (k : Int) ∈ l then [] else [s] | none => [])
abbrev woutS (b : Sn) (l : List Int) (k : Nat) : Sn := ⟨b.lo, b.hi, woutN b.ns l k⟩
section
variable {ns : List Nt} {l : List Int} {k : Nat} {s : Nt}
theorem woutN_in (hs : ns[k]? = some s) (hm : (k : Int) ∈ l) : woutN ns l (k + 1) = woutN ns l k := by
  simp [woutN, hs, hm]
theorem woutN_out (hs : ns[k]? = some s) (hm : (k : Int) ∉ l) : woutN ns l (k + 1) = woutN ns l k ++ [s] := by
  simp [woutN, hs, hm]
theorem woutN_len (ns : List Nt) (l : List Int) : ∀ k, (woutN ns l k).length ≤ k
  | 0 => by simp [woutN]
  | k + 1 => by
    have := woutN_len ns l k
    unfold woutN
    rw [List.length_append]
    split
    · split <;> simp <;> omega
    · simp; omega
theorem woutN_congr {l' : List Int} : ∀ {k : Nat}, (∀ i : Nat, i < k → ((i : Int) ∈ l ↔ (i : Int) ∈ l')) → woutN ns l k = woutN ns l' k
  | 0, _ => rfl
  | k + 1, h => by
    unfold woutN
    rw [woutN_congr (l' := l') (k := k) (fun i hi => h i (by omega))]
    have hk := h k (by omega)
    by_cases hm : (k : Int) ∈ l
    · have hm' := hk.1 hm
      simp [hm, hm']
    · have hm' : (k : Int) ∉ l' := fun c => hm (hk.2 c)
      simp [hm, hm']
theorem woutN_nil : ∀ {k : Nat}, k ≤ ns.length → woutN ns [] k = ns.take k
  | 0, _ => by simp [woutN]
  | k + 1, h => by
    obtain ⟨s, hs⟩ := get_some ns k (by omega)
    rw [woutN_out hs (by simp), woutN_nil (by omega), List.take_add_one, hs]
    rfl
theorem mem_woutN : ∀ {k : Nat}, s ∈ woutN ns l k → ∃ i : Nat, i < k ∧ ns[i]? = some s ∧ (i : Int) ∉ l
  | 0, h => by simp [woutN] at h
  | k + 1, h => by
    unfold woutN at h
    rcases List.mem_append.1 h with h | h
    · obtain ⟨i, h1, h2, h3⟩ := mem_woutN h
      exact ⟨i, by omega, h2, h3⟩
    · cases hs : ns[k]? with
      | none => rw [hs] at h; simp at h
      | some t =>
        rw [hs] at h
        by_cases hm : (k : Int) ∈ l
        · simp [hm] at h
        · simp [hm] at h
          subst h
          exact ⟨k, by omega, hs, hm⟩
end
theorem sorted_eq : ∀ {a c : List Int}, a.Pairwise (· < ·) → c.Pairwise (· < ·) → (∀ x, x ∈ a ↔ x ∈ c) → a = c
  | [], c, _, _, h => by
    cases c with
    | nil => rfl
    | cons y c => have := (h y).2 (by simp); simp at this
  | x :: a, c, ha, hc, h => by
    cases c with
    | nil => have := (h x).1 (by simp); simp at this
    | cons y c =>
      obtain ⟨ha1, ha2⟩ := List.pairwise_cons.1 ha
      obtain ⟨hc1, hc2⟩ := List.pairwise_cons.1 hc
      have e : x = y := by
        rcases List.mem_cons.1 ((h x).1 (by simp)) with e | e
        · exact e
        · rcases List.mem_cons.1 ((h y).2 (by simp)) with e2 | e2
          · exact e2.symm
          · have h1 := hc1 x e
            have h2 := ha1 y e2
            omega
      subst e
      rw [sorted_eq ha2 hc2 (fun z => ⟨fun hz => by
        have h1 := ha1 z hz
        rcases List.mem_cons.1 ((h z).1 (List.mem_cons_of_mem _ hz)) with e | e
        · omega
        · exact e, fun hz => by
        have h1 := hc1 z hz
        rcases List.mem_cons.1 ((h z).2 (List.mem_cons_of_mem _ hz)) with e | e
        · omega
        · exact e⟩)]
theorem aft_zero (q : Int × Int) (n : Int) (hn : n = 0) : aftS q n = q := by
  subst hn; rfl
section
variable {b : Sn}
theorem ok_end (hok : Ok9 b) {s : Nt} (hs : ntB s = true) (hl : lastN b.ns ≤ s.hour) (h9 : b.ns.length < 9) : Ok9 ⟨b.lo, b.hi, b.ns ++ [s]⟩ := by
  have h0 := (lastN_bd hok).1
  have h1 := chainN_with s hs b.ns 0 (by omega) hok.chain
  have h2 := with_end hok hl
  unfold withS at h2
  injection h2 with _ _ h2
  rw [h2] at h1
  exact ⟨hok.span, h1, by simp; omega⟩
theorem last_app (l : List Nt) (s : Nt) : lastN (l ++ [s]) = s.hour := by
  unfold lastN
  simp [pastN]
theorem past_le (hok : Ok9 b) {k : Nat} {s : Nt} (hs : b.ns[k]? = some s) : 0 ≤ pastN b.ns k ∧ pastN b.ns k ≤ s.hour ∧ pastN b.ns (k + 1) = s.hour := by
  have h1 := hok.gap hs
  rw [gapN_at hs] at h1
  refine ⟨?_, by omega, by simp [pastN, hs]⟩
  cases k with
  | zero => simp [pastN]
  | succ k =>
    obtain ⟨t, ht⟩ := get_some b.ns k (by have := (List.getElem?_eq_some_iff.1 hs).1; omega)
    simp only [pastN, ht]
    exact (hok.nt ht).2.1.1
theorem wout_ok (hok : Ok9 b) (l : List Int) : ∀ k, k ≤ b.ns.length → Ok9 (woutS b l k) ∧ lastN (woutN b.ns l k) ≤ pastN b.ns k
  | 0, _ => ⟨⟨hok.span, rfl, by simp [woutN]⟩, by simp [woutN, lastN, pastN]⟩
  | k + 1, hk => by
    obtain ⟨h1, h2⟩ := wout_ok hok l k (by omega)
    obtain ⟨s, hs⟩ := get_some b.ns k (by omega)
    obtain ⟨h3, h4, h5⟩ := past_le hok hs
    rw [h5]
    by_cases hm : (k : Int) ∈ l
    · unfold woutS
      rw [woutN_in hs hm]
      exact ⟨h1, by omega⟩
    · unfold woutS
      rw [woutN_out hs hm, last_app]
      have h6 := woutN_len b.ns l k
      have h7 := hok.len
      exact ⟨ok_end h1 (chainN_all hok.chain s (List.mem_of_getElem? hs)) (by show lastN (woutN b.ns l k) ≤ _; omega) (by show (woutN b.ns l k).length < 9; omega), Int.le_refl _⟩
theorem wout_bef (hok : Ok9 b) {l : List Int} {k : Nat} {s : Nt} (hs : b.ns[k]? = some s) {f : Nat → Int × Int} (hf : Path (woutS b l k) f) : At (woutS b l k) f s.hour = befS b.ns k (At (woutS b l k) f (pastN b.ns k)) := by
  have hk := (List.getElem?_eq_some_iff.1 hs).1
  obtain ⟨h1, h2⟩ := wout_ok hok l k (by omega)
  obtain ⟨h3, h4, h5⟩ := past_le hok hs
  have hb := path_K h1 hf (Nat.le_refl _)
  rw [At_last h1 (by show lastN (woutN b.ns l k) ≤ _; omega), At_last h1 h2]
  unfold befS
  rw [gapN_at hs, aft_aft hb.1.1 hb.2.1 (by show 0 ≤ pastN b.ns k - lastN (woutN b.ns l k); omega) (by omega)]
  congr 1
  omega
theorem path_app (hok : Ok9 b) {s : Nt} (hl : lastN b.ns ≤ s.hour) {f : Nat → Int × Int} : Path ⟨b.lo, b.hi, b.ns ++ [s]⟩ f ↔ Path b f ∧ f (b.ns.length + 1) ∈ behL s (At b f s.hour) := by
  rw [← path_end hok hl, with_end hok hl]
theorem at_app (hok : Ok9 b) {s : Nt} (hs : ntB s = true) (hl : lastN b.ns ≤ s.hour) (h9 : b.ns.length < 9) (f : Nat → Int × Int) : At ⟨b.lo, b.hi, b.ns ++ [s]⟩ f s.hour = f (b.ns.length + 1) := by
  rw [At_last (ok_end hok hs hl h9) (by rw [last_app]; exact Int.le_refl _)]
  rw [aft_zero _ _ (by show s.hour - lastN (b.ns ++ [s]) = 0; rw [last_app]; omega)]
  simp
/-- What can be behind the first notes without some: a path through the others. -/
theorem rch_wout (hok : Ok9 b) : ∀ k, k ≤ b.ns.length → ∀ (st : Int × Int) (l : List Int), Rch b k (st, l) → (∀ x ∈ l, 0 ≤ x ∧ x < (k : Int)) ∧ l.Pairwise (· < ·) ∧ ∃ f, Path (woutS b l k) f ∧ At (woutS b l k) f (pastN b.ns k) = st
  | 0, _, st, l, h => by
    obtain ⟨h1, h2⟩ := h
    dsimp only at h1 h2
    subst h2
    refine ⟨by simp, List.Pairwise.nil, fun _ => st, ⟨h1, fun k s hs => by simp [woutN] at hs⟩, ?_⟩
    have hf : Path ⟨b.lo, b.hi, []⟩ (fun _ => st) := ⟨h1, fun k s hs => by simp at hs⟩
    exact At_none hok.span.1 hf _
  | k + 1, hk, st, l, h => by
    obtain ⟨s, ⟨st0, l0⟩, hs, h0, hq⟩ := h
    obtain ⟨i1, i2, f, i3, i4⟩ := rch_wout hok k (by omega) st0 l0 h0
    obtain ⟨o1, o2⟩ := wout_ok hok l0 k (by omega)
    obtain ⟨h3, h4, h5⟩ := past_le hok hs
    have hbf := wout_bef hok hs i3
    rw [i4] at hbf
    simp only [offL, List.mem_cons, List.mem_map, Prod.mk.injEq] at hq
    rcases hq with ⟨rfl, rfl⟩ | ⟨u, hu, rfl, rfl⟩
    · have e : woutN b.ns (l0 ++ [(k : Int)]) (k + 1) = woutN b.ns l0 k := by
        rw [woutN_in hs (by simp)]
        refine woutN_congr (fun i hi => ?_)
        simp
        omega
      refine ⟨fun x hx => ?_, ?_, f, ?_, ?_⟩
      · rcases List.mem_append.1 hx with h | h
        · have := i1 x h; omega
        · simp at h; subst h; omega
      · exact List.pairwise_append.2 ⟨i2, by simp, fun a ha c hc => by simp at hc; subst hc; exact (i1 a ha).2⟩
      · unfold woutS; rw [e]; exact i3
      · unfold woutS; rw [e, h5]; exact hbf
    · have hn : (k : Int) ∉ l0 := fun c => by have := i1 _ c; omega
      have e := woutN_out hs hn
      have h6 := woutN_len b.ns l0 k
      have h7 := hok.len
      have hsb := chainN_all hok.chain s (List.mem_of_getElem? hs)
      have g1 : ∀ j, j ≤ (woutS b l0 k).ns.length → f j = (fun j => if j ≤ (woutN b.ns l0 k).length then f j else u) j := fun j hj => by
        have hj' : j ≤ (woutN b.ns l0 k).length := hj
        simp only [if_pos hj']
      have g2 := path_congr g1 i3
      have g3 := At_congr g1 s.hour
      refine ⟨fun x hx => by have := i1 x hx; omega, i2, fun j => if j ≤ (woutN b.ns l0 k).length then f j else u, ?_, ?_⟩
      · unfold woutS; rw [e]
        refine (path_app o1 (by show lastN (woutN b.ns l0 k) ≤ _; omega)).2 ⟨g2, ?_⟩
        rw [← g3, hbf]
        simp only [if_neg (show ¬ (woutN b.ns l0 k).length + 1 ≤ (woutN b.ns l0 k).length by omega)]
        exact hu
      · unfold woutS; rw [e, h5]
        rw [at_app (b := woutS b l0 k) o1 hsb (by show lastN (woutN b.ns l0 k) ≤ _; omega) (by show (woutN b.ns l0 k).length < 9; omega)]
        simp only [if_neg (show ¬ (woutN b.ns l0 k).length + 1 ≤ (woutN b.ns l0 k).length by omega)]
/-- The numbers below k that are in a list. -/
def idxL (o : List Int) : Nat → List Int
  | 0 => []
  | k + 1 => idxL o k ++ (if (k : Int) ∈ o then [(k : Int)] else [])
theorem idxL_succ (o : List Int) (k : Nat) : idxL o (k + 1) = idxL o k ++ (if (k : Int) ∈ o then [(k : Int)] else []) := rfl
theorem mem_idxL {o : List Int} {x : Int} : ∀ {k : Nat}, x ∈ idxL o k ↔ x ∈ o ∧ 0 ≤ x ∧ x < (k : Int)
  | 0 => by simp [idxL]; try omega
  | k + 1 => by
    unfold idxL
    rw [List.mem_append, mem_idxL (k := k)]
    by_cases hm : (k : Int) ∈ o
    · simp only [hm, if_true, List.mem_singleton]
      constructor
      · rintro (h | rfl)
        · exact ⟨h.1, by omega, by omega⟩
        · exact ⟨hm, by omega, by omega⟩
      · rintro ⟨h1, h2, h3⟩
        by_cases hx : x = k
        · exact .inr hx
        · exact .inl ⟨h1, h2, by omega⟩
    · simp only [hm, if_false, List.not_mem_nil, or_false]
      constructor
      · rintro ⟨h1, h2, h3⟩
        exact ⟨h1, h2, by omega⟩
      · rintro ⟨h1, h2, h3⟩
        refine ⟨h1, h2, ?_⟩
        have : x ≠ k := by rintro rfl; exact hm h1
        omega
theorem idxL_rise (o : List Int) : ∀ k, (idxL o k).Pairwise (· < ·)
  | 0 => List.Pairwise.nil
  | k + 1 => by
    unfold idxL
    refine List.pairwise_append.2 ⟨idxL_rise o k, ?_, fun a ha c hc => ?_⟩
    · split <;> simp
    · have h1 := (mem_idxL.1 ha).2.2
      split at hc
      · simp at hc; subst hc; exact h1
      · simp at hc
theorem idxL_len (o : List Int) : ∀ k, (idxL o k).length ≤ k
  | 0 => by simp [idxL]
  | k + 1 => by
    have := idxL_len o k
    rw [idxL_succ, List.length_append]
    split <;> simp <;> omega
theorem idxL_self {o : List Int} {k : Nat} (ho : o.Pairwise (· < ·)) (hx : ∀ x ∈ o, 0 ≤ x ∧ x < (k : Int)) : idxL o k = o :=
  sorted_eq (idxL_rise o k) ho (fun x => ⟨fun h => (mem_idxL.1 h).1, fun h => mem_idxL.2 ⟨h, hx x h⟩⟩)
theorem wout_rch (hok : Ok9 b) (o : List Int) : ∀ k, k ≤ b.ns.length → ∀ f, Path (woutS b o k) f → Rch b k (At (woutS b o k) f (pastN b.ns k), idxL o k)
  | 0, _, f, h => by
    have hf : Path ⟨b.lo, b.hi, []⟩ f := h
    refine ⟨?_, rfl⟩
    show At ⟨b.lo, b.hi, []⟩ f _ ∈ _
    rw [At_none hok.span.1 hf]
    exact hf.1
  | k + 1, hk, f, h => by
    obtain ⟨s, hs⟩ := get_some b.ns k (by omega)
    obtain ⟨h3, h4, h5⟩ := past_le hok hs
    obtain ⟨o1, o2⟩ := wout_ok hok o k (by omega)
    rw [h5]
    by_cases hm : (k : Int) ∈ o
    · have e := woutN_in hs hm
      unfold woutS at h ⊢
      rw [e] at h ⊢
      refine ⟨s, _, hs, wout_rch hok o k (by omega) f h, ?_⟩
      rw [idxL_succ]
      simp only [hm, if_true, offL, List.mem_cons, Prod.mk.injEq]
      exact .inl ⟨wout_bef hok hs h, by first | rfl | trivial⟩
    · have e := woutN_out hs hm
      have h6 := woutN_len b.ns o k
      have h7 := hok.len
      have hsb := chainN_all hok.chain s (List.mem_of_getElem? hs)
      unfold woutS at h ⊢
      rw [e] at h ⊢
      obtain ⟨hf, hu⟩ := (path_app (b := woutS b o k) o1 (by show lastN (woutN b.ns o k) ≤ _; omega)).1 h
      refine ⟨s, _, hs, wout_rch hok o k (by omega) f hf, ?_⟩
      rw [at_app (b := woutS b o k) o1 hsb (by show lastN (woutN b.ns o k) ≤ _; omega) (by show (woutN b.ns o k).length < 9; omega)]
      rw [wout_bef hok hs hf] at hu
      rw [idxL_succ]
      simp only [hm, if_false, List.append_nil, offL, List.mem_cons, List.mem_map, Prod.mk.injEq]
      exact .inr ⟨_, hu, rfl, by first | rfl | trivial⟩
/-- What Wrong tells of a book: a list of notes without which it can be true, and none is before it. -/
def WrongIs (b : Sn) (l : List Int) : Prop := (∃ st, Rch b b.ns.length (st, l)) ∧ ∀ st l', Rch b b.ns.length (st, l') → fewerB l' l = false
theorem wrong_inn (hok : Ok9 b) {l : List Int} (h : WrongIs b l) : (∀ x ∈ l, 0 ≤ x ∧ x < (b.ns.length : Int)) ∧ l.Pairwise (· < ·) := by
  obtain ⟨⟨st, h1⟩, -⟩ := h
  obtain ⟨k1, k2, -⟩ := rch_wout hok _ (Nat.le_refl _) st l h1
  exact ⟨k1, k2⟩
theorem wrong_rest (hok : Ok9 b) {l : List Int} (h : WrongIs b l) : rightS (woutS b l b.ns.length) = true := by
  obtain ⟨⟨st, h1⟩, -⟩ := h
  obtain ⟨-, -, f, k3, -⟩ := rch_wout hok _ (Nat.le_refl _) st l h1
  exact rightS_iff.2 ⟨f, k3⟩
theorem wout_all (b : Sn) : woutS b [] b.ns.length = b := by
  unfold woutS
  rw [woutN_nil (Nat.le_refl _), List.take_length]
theorem idxL_nil : ∀ k, idxL [] k = []
  | 0 => rfl
  | k + 1 => by unfold idxL; rw [idxL_nil k]; simp
theorem wrong_none (hok : Ok9 b) {l : List Int} (h : WrongIs b l) : (l.length = 0) ↔ rightS b = true := by
  constructor
  · intro h0
    have := wrong_rest hok h
    rw [List.length_eq_zero_iff.1 h0, wout_all] at this
    exact this
  · intro hr
    obtain ⟨f, hf⟩ := rightS_iff.1 hr
    rw [← wout_all b] at hf
    have h1 := h.2 _ _ (wout_rch hok [] _ (Nat.le_refl _) f hf)
    rw [idxL_nil] at h1
    cases l with
    | nil => rfl
    | cons x l => simp [fewerB] at h1
theorem wrong_less (hok : Ok9 b) {l o : List Int} (h : WrongIs b l) (ho : o.Pairwise (· < ·)) (hx : ∀ x ∈ o, 0 ≤ x ∧ x < (b.ns.length : Int)) (hf : fewerB o l = true) : rightS (woutS b o b.ns.length) = false := by
  cases hr : rightS (woutS b o b.ns.length) with
  | false => rfl
  | true =>
    obtain ⟨f, hp⟩ := rightS_iff.1 hr
    have h1 := h.2 _ _ (wout_rch hok o _ (Nat.le_refl _) f hp)
    rw [idxL_self ho hx, hf] at h1
    cases h1
theorem wout_valid (hv : snB b = true) (l : List Int) : snB (woutS b l b.ns.length) = true := by
  have h1 := (wout_ok (Ok9.of hv) l _ (Nat.le_refl _)).1.chain
  have h2 := woutN_len b.ns l b.ns.length
  simp only [snB, notesB, Bool.and_eq_true, decide_eq_true_eq] at hv ⊢
  exact ⟨hv.1, by show (woutN b.ns l b.ns.length).length ≤ 8; omega, h1⟩
/-- A path through notes none of which can be wrong. -/
def goF (b : Sn) : Nat → Int × Int
  | 0 => (b.lo, 0)
  | k + 1 => match b.ns[k]? with | some s => doesS s.kind (befS b.ns k (goF b k)) s.lo | none => (0, 0)
theorem goF_at {k : Nat} {s : Nt} (hs : b.ns[k]? = some s) : goF b (k + 1) = doesS s.kind (befS b.ns k (goF b k)) s.lo := by
  show (match b.ns[k]? with | some s => _ | none => _) = _
  rw [hs]
theorem never_wrong (hok : Ok9 b) (hk : ∀ s ∈ b.ns, s.kind ≠ 0 ∧ s.kind ≠ 4) : rightS b = true := by
  refine rightS_iff.2 ⟨goF b, ?_, fun k s hs => ?_⟩
  · exact List.mem_map.2 ⟨b.lo, mem_numsL.2 ⟨Int.le_refl _, hok.span.2.2.2.2.1⟩, rfl⟩
  · obtain ⟨h1, h2⟩ := hk s (List.mem_of_getElem? hs)
    obtain ⟨-, -, h3⟩ := hok.nt hs
    rw [goF_at hs]
    exact List.mem_map.2 ⟨s.lo, List.mem_filter.2 ⟨mem_numsL.2 ⟨Int.le_refl _, h3.2.2.2.2.1⟩, by simp [rightB, h1, h2]⟩, rfl⟩
end
end Go.Proofs.YtjjfpbjdcmkkhaaDoor

