/- Plain facts for Wrong: a book without some of its notes; the lists of notes that can be left out. -/
/- huerref00: lists of numbers: Pick, Place, Rises, Bit, Bits, Sooner, Fewer; an append to numbers of a call's own. Cut out of others by gen_jk.py. -/
/- The laws' own without: a copy of a book without some of its notes. -/
import Derived.Test.YtamknmgplhaciaaDoorQNz
import Derived.Test.YtamknmgplhaciaaDoorQPg
import Derived.Test.YtamknmgplhaciaaDoorQJf
import Derived.OwnWalk
import Derived.OwnWalkIn
import Derived.Test.YtamknmgplhaciaaDoorQPe
import Derived.Test.YtamknmgplhaciaaDoorQFh
import Derived.RegionTactic
set_option linter.unusedSimpArgs false
set_option linter.unusedVariables false
namespace Go.Proofs.YtamknmgplhaciaaDoor
open Go Go.RowKit Go.Shelf
/-- The first notes, without those of a list. -/
def woutN (ns : List Nt) (l : List Int) : Nat → List Nt
  | 0 => []
  | k + 1 => woutN ns l k ++ (match ns[k]? with | some s => if (k : Int) ∈ l then [] else [s] | none => [])
abbrev woutS (b : Sn) (l : List Int) (k : Nat) : Sn := ⟨b.lo, b.hi, woutN b.ns l k⟩
section
variable {ns : List Nt} {l : List Int} {k : Nat} {s : Nt}
theorem woutN_in (hs : ns[k]? = some s) (hm : (k : Int) ∈ l) : woutN ns l (k + 1) = woutN ns l k := by
  simp [woutN, hs, hm]
theorem woutN_out (hs : ns[k]? = some s) (hm : (k : Int) ∉ l) : woutN ns l (k + 1) = woutN ns l k ++ [s] := by
  simp [woutN, hs, hm]
theorem woutN_len (ns : List Nt) (l : List Int) : ∀ k, (woutN ns l k).length ≤ k
  | 0 => by simp [woutN]
  | k + 1 => by
    have := woutN_len ns l k
    unfold woutN
    rw [List.length_append]
    split
    · split <;> simp <;> omega
    · simp; omega
theorem woutN_congr {l' : List Int} : ∀ {k : Nat}, (∀ i : Nat, i < k → ((i : Int) ∈ l ↔ (i : Int) ∈ l')) → woutN ns l k = woutN ns l' k
  | 0, _ => rfl
  | k + 1, h => by
    unfold woutN
    rw [woutN_congr (l' := l') (k := k) (fun i hi => h i (by omega))]
    have hk := h k (by omega)
    by_cases hm : (k : Int) ∈ l
    · have hm' := hk.1 hm
      simp [hm, hm']
    · have hm' : (k : Int) ∉ l' := fun c => hm (hk.2 c)
      simp [hm, hm']
theorem woutN_nil : ∀ {k : Nat}, k ≤ ns.length → woutN ns [] k = ns.take k
  | 0, _ => by simp [woutN]
  | k + 1, h => by
    obtain ⟨s, hs⟩ := get_some ns k (by omega)
    rw [woutN_out hs (by simp), woutN_nil (by omega), List.take_add_one, hs]
    rfl
theorem mem_woutN : ∀ {k : Nat}, s ∈ woutN ns l k → ∃ i : Nat, i < k ∧ ns[i]? = some s ∧ (i : Int) ∉ l
  | 0, h => by simp [woutN] at h
  | k + 1, h => by
    unfold woutN at h
    rcases List.mem_append.1 h with h | h
    · obtain ⟨i, h1, h2, h3⟩ := mem_woutN h
      exact ⟨i, by omega, h2, h3⟩
    · cases hs : ns[k]? with
      | none => rw [hs] at h; simp at h
      | some t =>
        rw [hs] at h
        by_cases hm : (k : Int) ∈ l
        · simp [hm] at h
        · simp [hm] at h
          subst h
          exact ⟨k, by omega, hs, hm⟩
end
theorem sorted_eq : ∀ {a c : List Int}, a.Pairwise (· < ·) → c.Pairwise (· < ·) → (∀ x, x ∈ a ↔ x ∈ c) → a = c
  | [], c, _, _, h => by
    cases c with
    | nil => rfl
    | cons y c => have := (h y).2 (by simp); simp at this
  | x :: a, c, ha, hc, h => by
    cases c with
    | nil => have := (h x).1 (by simp); simp at this
    | cons y c =>
      obtain ⟨ha1, ha2⟩ := List.pairwise_cons.1 ha
      obtain ⟨hc1, hc2⟩ := List.pairwise_cons.1 hc
      have e : x = y := by
        rcases List.mem_cons.1 ((h x).1 (by simp)) with e | e
        · exact e
        · rcases List.mem_cons.1 ((h y).2 (by simp)) with e2 | e2
          · exact e2.symm
          · have h1 := hc1 x e
            have h2 := ha1 y e2
            omega
      subst e
      rw [sorted_eq ha2 hc2 (fun z => ⟨fun hz => by
        have h1 := ha1 z hz
        rcases List.mem_cons.1 ((h z).1 (List.mem_cons_of_mem _ hz)) with e | e
        · omega
        · exact e, fun hz => by
        have h1 := hc1 z hz
        rcases List.mem_cons.1 ((h z).2 (List.mem_cons_of_mem _ hz)) with e | e
        · omega
        · exact e⟩)]
theorem aft_zero (q : Int × Int) (n : Int) (hn : n = 0) : aftS q n = q := by
  subst hn; rfl
section
variable {b : Sn}
theorem ok_end (hok : Ok9 b) {s : Nt} (hs : ntB s = true) (hl : lastN b.ns ≤ s.hour) (h9 : b.ns.length < 9) : Ok9 ⟨b.lo, b.hi, b.ns ++ [s]⟩ := by
  have h0 := (lastN_bd hok).1
  have h1 := chainN_with s hs b.ns 0 (by omega) hok.chain
  have h2 := with_end hok hl
  unfold withS at h2
  injection h2 with _ _ h2
  rw [h2] at h1
  exact ⟨hok.span, h1, by simp; omega⟩
theorem last_app (l : List Nt) (s : Nt) : lastN (l ++ [s]) = s.hour := by
  unfold lastN
  simp [pastN]
theorem past_le (hok : Ok9 b) {k : Nat} {s : Nt} (hs : b.ns[k]? = some s) : 0 ≤ pastN b.ns k ∧ pastN b.ns k ≤ s.hour ∧ pastN b.ns (k + 1) = s.hour := by
  have h1 := hok.gap hs
  rw [gapN_at hs] at h1
  refine ⟨?_, by omega, by simp [pastN, hs]⟩
  cases k with
  | zero => simp [pastN]
  | succ k =>
    obtain ⟨t, ht⟩ := get_some b.ns k (by have := (List.getElem?_eq_some_iff.1 hs).1; omega)
    simp only [pastN, ht]
    exact (hok.nt ht).2.1.1
theorem wout_ok (hok : Ok9 b) (l : List Int) : ∀ k, k ≤ b.ns.length → Ok9 (woutS b l k) ∧ lastN (woutN b.ns l k) ≤ pastN b.ns k
  | 0, _ => ⟨⟨hok.span, rfl, by simp [woutN]⟩, by simp [woutN, lastN, pastN]⟩
  | k + 1, hk => by
    obtain ⟨h1, h2⟩ := wout_ok hok l k (by omega)
    obtain ⟨s, hs⟩ := get_some b.ns k (by omega)
    obtain ⟨h3, h4, h5⟩ := past_le hok hs
    rw [h5]
    by_cases hm : (k : Int) ∈ l
    · unfold woutS
      rw [woutN_in hs hm]
      exact ⟨h1, by omega⟩
    · unfold woutS
      rw [woutN_out hs hm, last_app]
      have h6 := woutN_len b.ns l k
      have h7 := hok.len
      exact ⟨ok_end h1 (chainN_all hok.chain s (List.mem_of_getElem? hs)) (by show lastN (woutN b.ns l k) ≤ _; omega) (by show (woutN b.ns l k).length < 9; omega), Int.le_refl _⟩
theorem wout_bef (hok : Ok9 b) {l : List Int} {k : Nat} {s : Nt} (hs : b.ns[k]? = some s) {f : Nat → Int × Int} (hf : Path (woutS b l k) f) : At (woutS b l k) f s.hour = befS b.ns k (At (woutS b l k) f (pastN b.ns k)) := by
  have hk := (List.getElem?_eq_some_iff.1 hs).1
  obtain ⟨h1, h2⟩ := wout_ok hok l k (by omega)
  obtain ⟨h3, h4, h5⟩ := past_le hok hs
  have hb := path_K h1 hf (Nat.le_refl _)
  rw [At_last h1 (by show lastN (woutN b.ns l k) ≤ _; omega), At_last h1 h2]
  unfold befS
  rw [gapN_at hs, aft_aft hb.1.1 hb.2.1 (by show 0 ≤ pastN b.ns k - lastN (woutN b.ns l k); omega) (by omega)]
  congr 1
  omega
theorem path_app (hok : Ok9 b) {s : Nt} (hl : lastN b.ns ≤ s.hour) {f : Nat → Int × Int} : Path ⟨b.lo, b.hi, b.ns ++ [s]⟩ f ↔ Path b f ∧ f (b.ns.length + 1) ∈ behL s (At b f s.hour) := by
  rw [← path_end hok hl, with_end hok hl]
theorem at_app (hok : Ok9 b) {s : Nt} (hs : ntB s = true) (hl : lastN b.ns ≤ s.hour) (h9 : b.ns.length < 9) (f : Nat → Int × Int) : At ⟨b.lo, b.hi, b.ns ++ [s]⟩ f s.hour = f (b.ns.length + 1) := by
  rw [At_last (ok_end hok hs hl h9) (by rw [last_app]; exact Int.le_refl _)]
  rw [aft_zero _ _ (by show s.hour - lastN (b.ns ++ [s]) = 0; rw [last_app]; omega)]
  simp
/-- What can be behind the first notes without some: a path through the others. -/
theorem rch_wout (hok : Ok9 b) : ∀ k, k ≤ b.ns.length → ∀ (st : Int × Int) (l : List Int), Rch b k (st, l) → (∀ x ∈ l, 0 ≤ x ∧ x < (k : Int)) ∧ l.Pairwise (· < ·) ∧ ∃ f, Path (woutS b l k) f ∧ At (woutS b l k) f (pastN b.ns k) = st
  | 0, _, st, l, h => by
    obtain ⟨h1, h2⟩ := h
    dsimp only at h1 h2
    subst h2
    refine ⟨by simp, List.Pairwise.nil, fun _ => st, ⟨h1, fun k s hs => by simp [woutN] at hs⟩, ?_⟩
    have hf : Path ⟨b.lo, b.hi, []⟩ (fun _ => st) := ⟨h1, fun k s hs => by simp at hs⟩
    exact At_none hok.span.1 hf _
  | k + 1, hk, st, l, h => by
    obtain ⟨s, ⟨st0, l0⟩, hs, h0, hq⟩ := h
    obtain ⟨i1, i2, f, i3, i4⟩ := rch_wout hok k (by omega) st0 l0 h0
    obtain ⟨o1, o2⟩ := wout_ok hok l0 k (by omega)
    obtain ⟨h3, h4, h5⟩ := past_le hok hs
    have hbf := wout_bef hok hs i3
    rw [i4] at hbf
    simp only [offL, List.mem_cons, List.mem_map, Prod.mk.injEq] at hq
    rcases hq with ⟨rfl, rfl⟩ | ⟨u, hu, rfl, rfl⟩
    · have e : woutN b.ns (l0 ++ [(k : Int)]) (k + 1) = woutN b.ns l0 k := by
        rw [woutN_in hs (by simp)]
        refine woutN_congr (fun i hi => ?_)
        simp
        omega
      refine ⟨fun x hx => ?_, ?_, f, ?_, ?_⟩
      · rcases List.mem_append.1 hx with h | h
        · have := i1 x h; omega
        · simp at h; subst h; omega
      · exact List.pairwise_append.2 ⟨i2, by simp, fun a ha c hc => by simp at hc; subst hc; exact (i1 a ha).2⟩
      · unfold woutS; rw [e]; exact i3
      · unfold woutS; rw [e, h5]; exact hbf
    · have hn : (k : Int) ∉ l0 := fun c => by have := i1 _ c; omega
      have e := woutN_out hs hn
      have h6 := woutN_len b.ns l0 k
      have h7 := hok.len
      have hsb := chainN_all hok.chain s (List.mem_of_getElem? hs)
      have g1 : ∀ j, j ≤ (woutS b l0 k).ns.length → f j = (fun j => if j ≤ (woutN b.ns l0 k).length then f j else u) j := fun j hj => by
        have hj' : j ≤ (woutN b.ns l0 k).length := hj
        simp only [if_pos hj']
      have g2 := path_congr g1 i3
      have g3 := At_congr g1 s.hour
      refine ⟨fun x hx => by have := i1 x hx; omega, i2, fun j => if j ≤ (woutN b.ns l0 k).length then f j else u, ?_, ?_⟩
      · unfold woutS; rw [e]
        refine (path_app o1 (by show lastN (woutN b.ns l0 k) ≤ _; omega)).2 ⟨g2, ?_⟩
        rw [← g3, hbf]
        simp only [if_neg (show ¬ (woutN b.ns l0 k).length + 1 ≤ (woutN b.ns l0 k).length by omega)]
        exact hu
      · unfold woutS; rw [e, h5]
        rw [at_app (b := woutS b l0 k) o1 hsb (by show lastN (woutN b.ns l0 k) ≤ _; omega) (by show (woutN b.ns l0 k).length < 9; omega)]
        simp only [if_neg (show ¬ (woutN b.ns l0 k).length + 1 ≤ (woutN b.ns l0 k).length by omega)]
/-- The numbers below k that are in a list. -/
def idxL (o : List Int) : Nat → List Int
  | 0 => []
  | k + 1 => idxL o k ++ (if (k : Int) ∈ o then [(k : Int)] else [])
theorem idxL_succ (o : List Int) (k : Nat) : idxL o (k + 1) = idxL o k ++ (if (k : Int) ∈ o then [(k : Int)] else []) := rfl
theorem mem_idxL {o : List Int} {x : Int} : ∀ {k : Nat}, x ∈ idxL o k ↔ x ∈ o ∧ 0 ≤ x ∧ x < (k : Int)
  | 0 => by simp [idxL]; try omega
  | k + 1 => by
    unfold idxL
    rw [List.mem_append, mem_idxL (k := k)]
    by_cases hm : (k : Int) ∈ o
    · simp only [hm, if_true, List.mem_singleton]
      constructor
      · rintro (h | rfl)
        · exact ⟨h.1, by omega, by omega⟩
        · exact ⟨hm, by omega, by omega⟩
      · rintro ⟨h1, h2, h3⟩
        by_cases hx : x = k
        · exact .inr hx
        · exact .inl ⟨h1, h2, by omega⟩
    · simp only [hm, if_false, List.not_mem_nil, or_false]
      constructor
      · rintro ⟨h1, h2, h3⟩
        exact ⟨h1, h2, by omega⟩
      · rintro ⟨h1, h2, h3⟩
        refine ⟨h1, h2, ?_⟩
        have : x ≠ k := by rintro rfl; exact hm h1
        omega
theorem idxL_rise (o : List Int) : ∀ k, (idxL o k).Pairwise (· < ·)
  | 0 => List.Pairwise.nil
  | k + 1 => by
    unfold idxL
    refine List.pairwise_append.2 ⟨idxL_rise o k, ?_, fun a ha c hc => ?_⟩
    · split <;> simp
    · have h1 := (mem_idxL.1 ha).2.2
      split at hc
      · simp at hc; subst hc; exact h1
      · simp at hc
theorem idxL_len (o : List Int) : ∀ k, (idxL o k).length ≤ k
  | 0 => by simp [idxL]
  | k + 1 => by
    have := idxL_len o k
    rw [idxL_succ, List.length_append]
    split <;> simp <;> omega
theorem idxL_self {o : List Int} {k : Nat} (ho : o.Pairwise (· < ·)) (hx : ∀ x ∈ o, 0 ≤ x ∧ x < (k : Int)) : idxL o k = o :=
  sorted_eq (idxL_rise o k) ho (fun x => ⟨fun h => (mem_idxL.1 h).1, fun h => mem_idxL.2 ⟨h, hx x h⟩⟩)
theorem wout_rch (hok : Ok9 b) (o : List Int) : ∀ k, k ≤ b.ns.length → ∀ f, Path (woutS b o k) f → Rch b k (At (woutS b o k) f (pastN b.ns k), idxL o k)
  | 0, _, f, h => by
    have hf : Path ⟨b.lo, b.hi, []⟩ f := h
    refine ⟨?_, rfl⟩
    show At ⟨b.lo, b.hi, []⟩ f _ ∈ _
    rw [At_none hok.span.1 hf]
    exact hf.1
  | k + 1, hk, f, h => by
    obtain ⟨s, hs⟩ := get_some b.ns k (by omega)
    obtain ⟨h3, h4, h5⟩ := past_le hok hs
    obtain ⟨o1, o2⟩ := wout_ok hok o k (by omega)
    rw [h5]
    by_cases hm : (k : Int) ∈ o
    · have e := woutN_in hs hm
      unfold woutS at h ⊢
      rw [e] at h ⊢
      refine ⟨s, _, hs, wout_rch hok o k (by omega) f h, ?_⟩
      rw [idxL_succ]
      simp only [hm, if_true, offL, List.mem_cons, Prod.mk.injEq]
      exact .inl ⟨wout_bef hok hs h, by first | rfl | trivial⟩
    · have e := woutN_out hs hm
      have h6 := woutN_len b.ns o k
      have h7 := hok.len
      have hsb := chainN_all hok.chain s (List.mem_of_getElem? hs)
      unfold woutS at h ⊢
      rw [e] at h ⊢
      obtain ⟨hf, hu⟩ := (path_app (b := woutS b o k) o1 (by show lastN (woutN b.ns o k) ≤ _; omega)).1 h
      refine ⟨s, _, hs, wout_rch hok o k (by omega) f hf, ?_⟩
      rw [at_app (b := woutS b o k) o1 hsb (by show lastN (woutN b.ns o k) ≤ _; omega) (by show (woutN b.ns o k).length < 9; omega)]
      rw [wout_bef hok hs hf] at hu
      rw [idxL_succ]
      simp only [hm, if_false, List.append_nil, offL, List.mem_cons, List.mem_map, Prod.mk.injEq]
      exact .inr ⟨_, hu, rfl, by first | rfl | trivial⟩
/-- What Wrong tells of a book: a list of notes without which it can be true, and none is before it. -/
def WrongIs (b : Sn) (l : List Int) : Prop := (∃ st, Rch b b.ns.length (st, l)) ∧ ∀ st l', Rch b b.ns.length (st, l') → fewerB l' l = false
theorem wrong_inn (hok : Ok9 b) {l : List Int} (h : WrongIs b l) : (∀ x ∈ l, 0 ≤ x ∧ x < (b.ns.length : Int)) ∧ l.Pairwise (· < ·) := by
  obtain ⟨⟨st, h1⟩, -⟩ := h
  obtain ⟨k1, k2, -⟩ := rch_wout hok _ (Nat.le_refl _) st l h1
  exact ⟨k1, k2⟩
theorem wrong_rest (hok : Ok9 b) {l : List Int} (h : WrongIs b l) : rightS (woutS b l b.ns.length) = true := by
  obtain ⟨⟨st, h1⟩, -⟩ := h
  obtain ⟨-, -, f, k3, -⟩ := rch_wout hok _ (Nat.le_refl _) st l h1
  exact rightS_iff.2 ⟨f, k3⟩
theorem wout_all (b : Sn) : woutS b [] b.ns.length = b := by
  unfold woutS
  rw [woutN_nil (Nat.le_refl _), List.take_length]
theorem idxL_nil : ∀ k, idxL [] k = []
  | 0 => rfl
  | k + 1 => by unfold idxL; rw [idxL_nil k]; simp
theorem wrong_none (hok : Ok9 b) {l : List Int} (h : WrongIs b l) : (l.length = 0) ↔ rightS b = true := by
  constructor
  · intro h0
    have := wrong_rest hok h
    rw [List.length_eq_zero_iff.1 h0, wout_all] at this
    exact this
  · intro hr
    obtain ⟨f, hf⟩ := rightS_iff.1 hr
    rw [← wout_all b] at hf
    have h1 := h.2 _ _ (wout_rch hok [] _ (Nat.le_refl _) f hf)
    rw [idxL_nil] at h1
    cases l with
    | nil => rfl
    | cons x l => simp [fewerB] at h1
theorem wrong_less (hok : Ok9 b) {l o : List Int} (h : WrongIs b l) (ho : o.Pairwise (· < ·)) (hx : ∀ x ∈ o, 0 ≤ x ∧ x < (b.ns.length : Int)) (hf : fewerB o l = true) : rightS (woutS b o b.ns.length) = false := by
  cases hr : rightS (woutS b o b.ns.length) with
  | false => rfl
  | true =>
    obtain ⟨f, hp⟩ := rightS_iff.1 hr
    have h1 := h.2 _ _ (wout_rch hok o _ (Nat.le_refl _) f hp)
    rw [idxL_self ho hx, hf] at h1
    cases h1
theorem wout_valid (hv : snB b = true) (l : List Int) : snB (woutS b l b.ns.length) = true := by
  have h1 := (wout_ok (Ok9.of hv) l _ (Nat.le_refl _)).1.chain
  have h2 := woutN_len b.ns l b.ns.length
  simp only [snB, notesB, Bool.and_eq_true, decide_eq_true_eq] at hv ⊢
  exact ⟨hv.1, by show (woutN b.ns l b.ns.length).length ≤ 8; omega, h1⟩
/-- A path through notes none of which can be wrong. -/
def goF (b : Sn) : Nat → Int × Int
  | 0 => (b.lo, 0)
  | k + 1 => match b.ns[k]? with | some s => doesS s.kind (befS b.ns k (goF b k)) s.lo | none => (0, 0)
theorem goF_at {k : Nat} {s : Nt} (hs : b.ns[k]? = some s) : goF b (k + 1) = doesS s.kind (befS b.ns k (goF b k)) s.lo := by
  show (match b.ns[k]? with | some s => _ | none => _) = _
  rw [hs]
theorem never_wrong (hok : Ok9 b) (hk : ∀ s ∈ b.ns, s.kind ≠ 0 ∧ s.kind ≠ 4) : rightS b = true := by
  refine rightS_iff.2 ⟨goF b, ?_, fun k s hs => ?_⟩
  · exact List.mem_map.2 ⟨b.lo, mem_numsL.2 ⟨Int.le_refl _, hok.span.2.2.2.2.1⟩, rfl⟩
  · obtain ⟨h1, h2⟩ := hk s (List.mem_of_getElem? hs)
    obtain ⟨-, -, h3⟩ := hok.nt hs
    rw [goF_at hs]
    exact List.mem_map.2 ⟨s.lo, List.mem_filter.2 ⟨mem_numsL.2 ⟨Int.le_refl _, h3.2.2.2.2.1⟩, by simp [rightB, h1, h2]⟩, rfl⟩
end
end Go.Proofs.YtamknmgplhaciaaDoor

namespace Go.Proofs.YtamknmgplhaciaaDoor
open Go Go.RowKit
def risesB (below : Int) : Int → List Int → Bool
  | _, [] => true
  | y, x :: l => decide (y ≤ x) && decide (x < below) && risesB below (x + 1) l
theorem risesB_of {below : Int} : ∀ (l : List Int) (y : Int), (∀ x ∈ l, y ≤ x ∧ x < below) → l.Pairwise (· < ·) → risesB below y l = true
  | [], _, _, _ => rfl
  | x :: l, y, h, hp => by
    rw [List.pairwise_cons] at hp
    simp only [risesB, Bool.and_eq_true, decide_eq_true_eq]
    exact ⟨h x (by simp), risesB_of l (x + 1) (fun z hz => ⟨by have := hp.1 z hz; omega, (h z (by simp [hz])).2⟩) hp.2⟩

/-- The number of a list to which any number leads. -/
def pickI (l : List Int) (n : Int) : Int := if l.length < 1 then 0 else l.getD (n % (l.length : Int)).toNat 0
set_option maxHeartbeats 400000 in
theorem Wheel_big (n m : Int) (w : World) (hm : 1 ≤ m) (hm2 : m ≤ 9223372036854775807) : Calls Tryd.prog 37 #[.int .i64 n, .int .i64 m] w fun e w' => e = .returned (.int .i64 (n % m)) ∧ ∃ x, w' = ext w x := by
  by_cases h2 : m < 2
  · obtain rfl : m = 1 := by omega
    have H := Lib.hid (Int.emod_one n)
    clear hm hm2 h2
    go_enter Tryd.func37, Tryd.ntmps37
    go_wp2
    go_ret
    exact ⟨ret_int (by rw [H.out]), ext_of (Below.refl _ _)⟩
  · obtain ⟨H1, H2, H3, H4⟩ := tmod_cases n m (by omega)
    have H1 := Lib.hid H1
    have H2 := Lib.hid H2
    have h0 : ¬ m = 0 := by omega
    by_cases h : n.tmod m < 0
    all_goals
      go_enter Tryd.func37, Tryd.ntmps37
      go_wp2
      go_ret
      first
        | exact ⟨rfl, ext_of (Below.refl _ _)⟩
        | exact ⟨ret_int (H2.out (by assumption)), ext_of (Below.refl _ _)⟩
set_option maxHeartbeats 1000000 in
theorem Pick_any (p : Option Addr) (c : Nat) (l : List Int) (n : Int) (w : World) (hl : IntsAt w p l) (hb : (l.length : Int) ≤ 9223372036854775807) :
    Calls Tryd.prog 79 #[.slice p l.length c, .int .i64 n] w fun e w' => e = .returned (.int .i64 (pickI l n)) ∧ ∃ x, w' = ext w x := by
  by_cases h1 : (l.length : Int) < 1
  · have H := Lib.hid (show pickI l n = 0 by unfold pickI; rw [if_pos (by omega)])
    go_enter Tryd.func79, Tryd.ntmps79
    go_wp2_with fail
    go_ret
    exact ⟨ret_int (by rw [H.out]), ext_of (Below.refl _ _)⟩
  · have hi0 := Int.emod_nonneg n (show (l.length : Int) ≠ 0 by omega)
    have hi1 := Int.emod_lt_of_pos n (show 0 < (l.length : Int) by omega)
    obtain ⟨i, ei⟩ := Int.eq_ofNat_of_zero_le hi0
    obtain ⟨x, hx⟩ := get_some l i (by omega)
    obtain ⟨b, o, rfl, hb1, c1⟩ := hl i x hx
    have H := Lib.hid (show pickI l n = x by unfold pickI; rw [if_neg (by omega), ei, List.getD_eq_getElem?_getD]; simp [hx])
    have EI := Lib.hid ei
    have i0 : (0 : Int) ≤ (i : Int) := by omega
    have i1 : (i : Int) < (l.length : Int) := by omega
    have l1 : 1 ≤ (l.length : Int) := by omega
    clear hi0 hi1 ei hx
    go_enter Tryd.func79, Tryd.ntmps79
    go_wp2_with (go_at_call 37; refine (Wheel_big n _ _ l1 hb).mono ?_; rintro e w1 ⟨rfl, y, rfl⟩; rw [EI.out])
    go_ret
    exact ⟨ret_int (by rw [H.out]), by (exact ext_of (by (repeat (first | (with_reducible exact Below.refl _ _) | (with_reducible assumption) | ((with_reducible refine below_ext_trans ?_ ?_ _); rotate_left; focus (((try dsimp only); repeat (first | omega | simp only [World.size_alloc, World.size_setCell, World.size_drew] | (with_reducible refine le_ext_of ?_) | (with_reducible refine le_ext_add ?_))); done)) | ((with_reducible refine Below.alloc ?_ ?_ _); rotate_left; focus (((try dsimp only); repeat (first | omega | simp only [World.size_alloc, World.size_setCell, World.size_drew] | (with_reducible refine le_ext_of ?_) | (with_reducible refine le_ext_add ?_))); done)) | ((with_reducible refine Below.setCell ?_ ?_ _); rotate_left; focus (((try dsimp only); repeat (first | omega | simp only [World.size_alloc, World.size_setCell, World.size_drew] | (with_reducible refine le_ext_of ?_) | (with_reducible refine le_ext_add ?_))); done)) | (with_reducible refine Below.drew ?_)))))⟩
/-- The first place of a number in a list that has it. -/
def AtPlace (l : List Int) (x : Int) (w : World) (e : Ending) (w' : World) : Prop := ∃ k : Nat, l[k]? = some x ∧ e = .returned (.int .i64 k) ∧ w = w'
set_option maxHeartbeats 1000000 in
theorem Place_yes (p : Option Addr) (c : Nat) (l : List Int) (x : Int) (w : World) (hl : IntsAt w p l) (hb : (l.length : Int) ≤ 1000) (hx : x ∈ l) :
    Calls Tryd.prog 80 #[.slice p l.length c, .int .i64 x] w (AtPlace l x w) := by
  have H0 : Hid (x ∈ l.drop 0) := Lib.hid hx
  clear hx
  go_enter Tryd.func80, Tryd.ntmps80
  go_wp2_with fail
  go_loop [5] (fun i => ∃ k : Nat, k ≤ l.length ∧ i = .int .i64 k ∧ Hid (x ∈ l.drop k)) (fun i => l.length - (intOf i).toNat)
  case atStart => exact ⟨0, by omega, rfl, H0⟩
  case round =>
    clear H0
    obtain ⟨k, hk, rfl, H⟩ := hrel
    by_cases hlt : k < l.length
    · obtain ⟨y, hy⟩ := get_some l k hlt
      obtain ⟨b1, o1, rfl, hb1, c1⟩ := hl k y hy
      by_cases hxy : y = x
      · subst hxy
        have HY := Lib.hid hy
        clear hy H
        go_wp2_with fail
        go_ret
        exact ⟨k, HY.out, rfl, rfl⟩
      · have H2 := Lib.hid (show x ∈ l.drop (k + 1) by
          have := H.out
          rw [drop_of_get hy] at this
          rcases List.mem_cons.1 this with h | h
          · exact absurd h.symm hxy
          · exact h)
        have hyx : (y == x) = false := by simpa using hxy
        clear hy H hxy
        go_wp2_with fail
        go_round
        case rel => exact ⟨k + 1, by omega, by go_num, H2⟩
        case measure => simp [intOf]; omega
    · exact absurd H.out (by rw [List.drop_eq_nil_of_le (by omega)]; simp)
set_option maxHeartbeats 1000000 in
theorem Place_no (p : Option Addr) (c : Nat) (l : List Int) (x : Int) (w : World) (hl : IntsAt w p l) (hb : (l.length : Int) ≤ 1000) (hx : x ∉ l) :
    Calls Tryd.prog 80 #[.slice p l.length c, .int .i64 x] w fun e w' => e = .returned (.int .i64 (-1)) ∧ w = w' := by
  have H0 := Lib.hid hx
  clear hx
  go_enter Tryd.func80, Tryd.ntmps80
  go_wp2_with fail
  go_loop [5] (fun i => ∃ k : Nat, k ≤ l.length ∧ i = .int .i64 k) (fun i => l.length - (intOf i).toNat)
  case atStart => exact ⟨0, by omega, rfl⟩
  case round =>
    obtain ⟨k, hk, rfl⟩ := hrel
    by_cases hlt : k < l.length
    · obtain ⟨y, hy⟩ := get_some l k hlt
      obtain ⟨b1, o1, rfl, hb1, c1⟩ := hl k y hy
      have hxy : (y == x) = false := by
        cases hc : (y == x) with
        | false => rfl
        | true => exact absurd (by rw [← eq_of_beq hc]; exact List.mem_of_getElem? hy) H0.out
      clear hy
      go_wp2_with fail
      go_round
      case rel => exact ⟨k + 1, by omega, by go_num⟩
      case measure => simp [intOf]; omega
    · go_wp2_with fail
      go_ret
      exact ⟨rfl, rfl⟩
theorem Place_none (p : Option Addr) (c : Nat) (l : List Int) (n : Nat) (x : Int) (w : World) (hl : IntsAt w p l) (hb : (l.length : Int) ≤ 1000) (hx : x ∉ l) (hn : l.length = n) :
    Calls Tryd.prog 80 #[.slice p n c, .int .i64 x] w fun e w' => e = .returned (.int .i64 (-1)) ∧ w = w' := by
  subst hn; exact Place_no p c l x w hl hb hx
set_option maxHeartbeats 1000000 in
theorem Rises_yes (p : Option Addr) (c : Nat) (l : List Int) (below : Int) (w : World) (hl : IntsAt w p l) (hb : (l.length : Int) ≤ 1000) (h1 : 0 ≤ below) (h2 : below ≤ 100000) (hr : risesB below 0 l = true) :
    Calls Tryd.prog 44 #[.slice p l.length c, .int .i64 below] w fun e w' => e = .returned (.bool true) ∧ w = w' := by
  have H0 := Lib.hid hr
  clear hr
  go_enter Tryd.func44, Tryd.ntmps44
  go_wp2_with fail
  go_loop [5, 6] (fun y i => ∃ (k : Nat) (z : Int), k ≤ l.length ∧ 0 ≤ z ∧ z ≤ 100001 ∧ i = .int .i64 k ∧ y = .int .i64 z ∧ Hid (risesB below z (l.drop k) = true)) (fun _ i => l.length - (intOf i).toNat)
  case atStart => exact ⟨0, 0, by omega, by omega, by omega, rfl, rfl, H0⟩
  case round =>
    clear H0
    obtain ⟨k, z, hk, z0, z1, rfl, rfl, H⟩ := hrel
    by_cases hlt : k < l.length
    · obtain ⟨x, hx⟩ := get_some l k hlt
      obtain ⟨b1, o1, rfl, hb1, c1⟩ := hl k x hx
      have h3 := H.out
      rw [drop_of_get hx] at h3
      simp only [risesB, Bool.and_eq_true, decide_eq_true_eq] at h3
      obtain ⟨⟨h4, h5⟩, h6⟩ := h3
      have H2 := Lib.hid h6
      have h7 : x ≤ below - 1 := by omega
      clear h6 H hx
      go_wp2_with (go_at_call 38; refine (Between_yes _ _ _ _ (by assumption) (by assumption)).mono ?_; rintro e w' ⟨rfl, rfl⟩)
      go_round
      case rel => exact ⟨k + 1, x + 1, by omega, by omega, by omega, by go_num, rfl, H2⟩
      case measure => simp [intOf]; omega
    · go_wp2_with fail
      go_ret
      exact ⟨rfl, rfl⟩
def OwnInts (w : World) (B : Nat) (v : Value) (l : List Int) : Prop := w.ownsRow B 3 1 v l.length (l.map (Value.int .i64))
theorem OwnInts.nil (w : World) (B : Nat) : OwnInts w B (.slice none 0 0) [] := World.ownsRow_nil _ _ _ _
theorem wpList_append_int {ops : Array Oper} {rest : List Oper} {o : Oper} {a : Act} {Q : Exit → Act → World → Prop} {w : World} (hgd : o.guard = none) (s x : Operand)
    (ho : o.op = .call { callee := .builtin .append, args := #[s, x], argTypes := #[44, 44] }) (B : Nat)
    (v : Value) (l : List Int) (hs : a.eval s = v) (hown : OwnInts w B v l) (g : Nat) (y : Int) (hx : a.eval x = .slice (some ⟨g, 0, none⟩) 1 1) (hc : w.cell? ⟨g, 0, none⟩ = some (.int .i64 y))
    (hl : l.length ≤ 100000) (hB : B ≤ w.heap.size)
    (h : ∀ v' w', OwnInts w' B v' (l ++ [y]) → w.grownBy w' v.ownBlock → wpList Tryd.prog ops Q rest (a.put o.dst v') w') : wpList Tryd.prog ops Q (o :: rest) a w := by
  obtain ⟨i0, hi, hz0, hz1, hz2⟩ := info_parts info_num
  refine wpList_append_own w hgd s x 44 ho B 3 i0 (.int .i64 0) 1 8 under_nums hi hz0 hz1 hz2 rfl (by decide) v l.length _ hs hown ⟨g, 0, none⟩ 1 1 [.int .i64 y] hx rfl ?_ ?_ ?_ ?_ hB ?_
  · intro j u hj
    match j, hj with
    | 0, hj => simp at hj; subst hj; simpa [Addr.add] using hc
  · intro u hu; simp at hu; subst hu; rfl
  · unfold maxLen; omega
  · omega
  · intro v' w' h1 h2 _
    refine h v' w' ?_ h2
    unfold OwnInts
    simpa using h1

theorem OwnInts.of_blk {w : World} {g : Nat} {l : List Int} {n : Nat} {cs : Array Value} (h : Blk w g 3 cs) (hn : n = l.length) (hc : cs = (l.map (Value.int .i64)).toArray) (hl : l.length ≤ 100000) : OwnInts w g (.slice (some ⟨g, 0, none⟩) n n) l := by
  subst hn hc
  refine ⟨by simp, .inr ⟨g, l.length, _, rfl, Nat.le_refl _, h, Nat.le_refl _, by unfold maxLen; omega, by simp, ?_⟩⟩
  rw [List.take_of_length_le (by simp)]
theorem OwnInts.kept {w w' : World} {B : Nat} {v : Value} {l : List Int} (h : OwnInts w B v l) (hb : ∀ g, v.ownBlock = some g → w'.heap[g]? = w.heap[g]?) : OwnInts w' B v l := by
  obtain ⟨h1, h2⟩ := h
  refine ⟨h1, ?_⟩
  rcases h2 with h2 | ⟨g, cap, cur, rfl, hg, hh, r⟩
  · exact .inl h2
  · exact .inr ⟨g, cap, cur, rfl, hg, (hb g rfl).trans hh, r⟩
theorem OwnInts.lt {w : World} {B : Nat} {v : Value} {l : List Int} (h : OwnInts w B v l) : ∀ g, v.ownBlock = some g → B ≤ g ∧ g < w.heap.size := World.ownsRow.lt h
theorem OwnInts.below {w w' : World} {B : Nat} {v : Value} {l : List Int} (h : OwnInts w B v l) (hb : Below w.heap.size w w') : OwnInts w' B v l := h.kept (fun g hg => hb.block g (h.lt g hg).2)
theorem OwnInts.at {w : World} {B : Nat} {v : Value} {l : List Int} (h : OwnInts w B v l) : ∃ p c, v = .slice p l.length c ∧ IntsAt w p l ∧ ∀ g o, p = some ⟨g, o, none⟩ → B ≤ g := by
  obtain ⟨h1, h2⟩ := h
  rcases h2 with ⟨h2, h3⟩ | ⟨g, cap, cur, rfl, hg, hh, hn, hm, hs, ht⟩
  · refine ⟨none, 0, by rw [h2, h3], fun i x hx => ?_, fun g o h => by cases h⟩
    have := (List.getElem?_eq_some_iff.1 hx).1
    omega
  · refine ⟨_, cap, rfl, fun i x hx => ⟨g, 0, rfl, (Array.getElem?_eq_some_iff.1 hh).1, ?_⟩, fun g' o e => by cases e; exact hg⟩
    have hi := (List.getElem?_eq_some_iff.1 hx).1
    have h4 := World.ownsRow.cellAt (w := w) (base := B) (e := 3) (size := 1) (g := g) (cap := cap) (n := l.length) (xs := l.map (Value.int .i64)) ⟨h1, .inr ⟨g, cap, cur, rfl, hg, hh, hn, hm, hs, ht⟩⟩ i (by omega)
    rw [Nat.zero_add, h4]
    simp [hx]
set_option maxHeartbeats 1000000 in
theorem Bit_any (s n : Nat) (w : World) (hs : s < 256) (hn : n < 8) : Calls Tryd.prog 81 #[.int .i64 s, .int .i64 n] w fun e w' => ∃ q, e = .returned (.bool q) ∧ w = w' := by
  have n0 : (0 : Int) ≤ (n : Int) := by omega
  have n1 : (n : Int) < 64 := by omega
  go_enter Tryd.func81, Tryd.ntmps81
  go_wp2
  go_ret
  exact ⟨_, rfl, rfl⟩

/-- A list of numbers, in order, in memory of its own. -/
def RisesPost (w : World) (m : Nat) (e : Ending) (w' : World) : Prop := ∃ (L : List Int) (p : Option Addr) (c : Nat), e = .returned (.slice p L.length c) ∧ IntsAt w' p L ∧ L.Pairwise (· < ·) ∧ (∀ x ∈ L, 0 ≤ x ∧ x < (m : Int)) ∧ L.length ≤ m ∧ ∃ x, w' = ext w x
set_option maxHeartbeats 4000000 in
theorem Bits_any (s m : Nat) (w : World) (hs : s < 256) (hm : m ≤ 8) : Calls Tryd.prog 46 #[.int .i64 s, .int .i64 m] w (RisesPost w m) := by
  go_enter Tryd.func46, Tryd.ntmps46
  go_wp2_with fail
  generalize hW : w.alloc _ = W
  have hWB : Below w.heap.size w W := by rw [← hW]; (repeat (first | (with_reducible exact Below.refl _ _) | (with_reducible assumption) | ((with_reducible refine below_ext_trans ?_ ?_ _); rotate_left; focus (((try dsimp only); repeat (first | omega | simp only [World.size_alloc, World.size_setCell, World.size_drew] | (with_reducible refine le_ext_of ?_) | (with_reducible refine le_ext_add ?_))); done)) | ((with_reducible refine Below.alloc ?_ ?_ _); rotate_left; focus (((try dsimp only); repeat (first | omega | simp only [World.size_alloc, World.size_setCell, World.size_drew] | (with_reducible refine le_ext_of ?_) | (with_reducible refine le_ext_add ?_))); done)) | ((with_reducible refine Below.setCell ?_ ?_ _); rotate_left; focus (((try dsimp only); repeat (first | omega | simp only [World.size_alloc, World.size_setCell, World.size_drew] | (with_reducible refine le_ext_of ?_) | (with_reducible refine le_ext_add ?_))); done)) | (with_reducible refine Below.drew ?_)))
  have ho : OwnInts W w.heap.size (.slice (some ⟨w.heap.size, 0, none⟩) 0 0) [] := by rw [← hW]; exact OwnInts.of_blk (Blk.new rfl) rfl rfl (by simp)
  have HW := Lib.hid hWB
  have HO0 := Lib.hid ho
  have hWs : w.heap.size ≤ W.heap.size := hWB.size
  clear hW hWB ho
  go_loopw [5, 6] (fun v i wr => ∃ (k : Nat) (L : List Int), k ≤ m ∧ i = .int .i64 k ∧ L.length ≤ k ∧ Hid (OwnInts wr w.heap.size v L) ∧ Hid (L.Pairwise (· < ·)) ∧ Hid (∀ x ∈ L, 0 ≤ x ∧ x < (k : Int)) ∧ Hid (Below w.heap.size w wr)) (fun _ i _ => m - (intOf i).toNat)
  case atStart => exact ⟨0, [], by omega, rfl, by simp, HO0, Lib.hid List.Pairwise.nil, Lib.hid (by simp), HW⟩
  case round =>
    obtain ⟨k, L, hk, rfl, hl, HO, HP, HX, HB⟩ := hrel
    have hzr : w.heap.size ≤ wr.heap.size := HB.out.size
    by_cases hlt : k < m
    · go_upto_if 15 with (go_at_call 81; refine (Bit_any s k _ hs (by omega)).mono ?_; rintro e w1 ⟨q, rfl, rfl⟩)
      cases q with
      | true =>
        go_wp2_with (at_builtin; refine wpList_append_int rfl _ _ rfl w.heap.size _ _ rfl (HO.out.below ((Below.refl _ _).alloc (Nat.le_refl _) _)) wr.heap.size (k : Int) rfl (by simp [go_sem]) (by omega) (by ((try dsimp only); repeat (first | omega | simp only [World.size_alloc, World.size_setCell, World.size_drew] | (with_reducible refine le_ext_of ?_) | (with_reducible refine le_ext_add ?_)))) ?_; intro v' w1 ho hg)
        have HO' := Lib.hid ho
        have hB2 : Below w.heap.size w w1 := by
          have hB := HB.out
          refine Below.grown (w := wr.alloc (.cells #[.int .i64 (k : Int)] 3)) (by (repeat (first | (with_reducible exact Below.refl _ _) | (with_reducible assumption) | ((with_reducible refine below_ext_trans ?_ ?_ _); rotate_left; focus (((try dsimp only); repeat (first | omega | simp only [World.size_alloc, World.size_setCell, World.size_drew] | (with_reducible refine le_ext_of ?_) | (with_reducible refine le_ext_add ?_))); done)) | ((with_reducible refine Below.alloc ?_ ?_ _); rotate_left; focus (((try dsimp only); repeat (first | omega | simp only [World.size_alloc, World.size_setCell, World.size_drew] | (with_reducible refine le_ext_of ?_) | (with_reducible refine le_ext_add ?_))); done)) | ((with_reducible refine Below.setCell ?_ ?_ _); rotate_left; focus (((try dsimp only); repeat (first | omega | simp only [World.size_alloc, World.size_setCell, World.size_drew] | (with_reducible refine le_ext_of ?_) | (with_reducible refine le_ext_add ?_))); done)) | (with_reducible refine Below.drew ?_)))) hg (by ((try dsimp only); repeat (first | omega | simp only [World.size_alloc, World.size_setCell, World.size_drew] | (with_reducible refine le_ext_of ?_) | (with_reducible refine le_ext_add ?_)))) ?_
          intro j hj
          exact (HO.out.lt j hj).1
        have HB2 := Lib.hid hB2
        clear ho hg hB2
        go_wp2_with fail
        go_roundw
        case rel => exact ⟨k + 1, L ++ [(k : Int)], by omega, by go_num, by simp; omega, HO', Lib.hid (List.pairwise_append.2 ⟨HP.out, by simp, fun a ha c hc => by simp at hc; subst hc; exact (HX.out a ha).2⟩), Lib.hid (fun x hx => by
          rcases List.mem_append.1 hx with h | h
          · have := HX.out x h; omega
          · simp at h; omega), HB2⟩
        case measure => simp [intOf]; omega
      | false =>
        go_wp2_with fail
        go_roundw
        case rel => exact ⟨k + 1, L, by omega, by go_num, by omega, HO, HP, Lib.hid (fun x hx => by have := HX.out x hx; omega), HB⟩
        case measure => simp [intOf]; omega
    · obtain rfl : k = m := by omega
      obtain ⟨p, c, rfl, hI, -⟩ := HO.out.at
      go_wp2_with fail
      go_ret
      exact ⟨L, p, c, rfl, hI, HP.out, HX.out, hl, ext_of HB.out⟩

theorem lexB_same {l : List Int} : lexB l l = false := lexB_irrefl l
theorem lexB_part : ∀ {l m : List Int} {k : Nat} {a c : Int}, l.take k = m.take k → l[k]? = some a → m[k]? = some c → a ≠ c → lexB l m = decide (a < c)
  | x :: l, y :: m, 0, a, c, _, h1, h2, h3 => by
    simp at h1 h2; subst h1 h2
    simp [lexB, h3]
  | x :: l, y :: m, k + 1, a, c, h, h1, h2, h3 => by
    simp only [List.take_succ_cons, List.cons.injEq] at h
    obtain ⟨rfl, h⟩ := h
    simp [lexB, lexB_part h (by simpa using h1) (by simpa using h2) h3]
  | [], _, _, _, _, _, h1, _, _ => by simp at h1
  | _, [], _, _, _, _, _, h2, _ => by simp at h2
set_option maxHeartbeats 4000000 in
theorem Sooner_eq (p q : Option Addr) (c d : Nat) (l m : List Int) (n : Nat) (w : World) (hl : IntsAt w p l) (hm : IntsAt w q m) (hb : (n : Int) ≤ 1000) (e1 : l.length = n) (e2 : m.length = n) :
    Calls Tryd.prog 82 #[.slice p n c, .slice q n d] w fun e w' => e = .returned (.bool (lexB l m)) ∧ ∃ x, w' = ext w x := by
  have HL := Lib.hid hl
  have HM := Lib.hid hm
  have E1 := Lib.hid e1
  have E2 := Lib.hid e2
  clear hl hm e1 e2
  go_enter Tryd.func82, Tryd.ntmps82
  go_wp2_with fail
  go_loopw [5] (fun i wr => ∃ k : Nat, k ≤ n ∧ i = .int .i64 k ∧ Hid (l.take k = m.take k) ∧ ∃ x, wr = ext w x) (fun i _ => n - (intOf i).toNat)
  case atStart => exact ⟨0, by omega, rfl, Lib.hid (by simp), ext_of (Below.refl _ _)⟩
  case round =>
    obtain ⟨k, hk, rfl, HT, x, rfl⟩ := hrel
    by_cases hlt : k < n
    · obtain ⟨a, ha⟩ := get_some l k (by rw [E1.out]; exact hlt)
      obtain ⟨c2, hc⟩ := get_some m k (by rw [E2.out]; exact hlt)
      obtain ⟨b1, o1, rfl, hb1, q1⟩ := HL.out k a ha
      obtain ⟨b2, o2, rfl, hb2, q2⟩ := HM.out k c2 hc
      have hlt' : (k : Int) < (n : Int) := by omega
      have hk0 : (0 : Int) ≤ (k : Int) := by omega
      have HA := Lib.hid ha
      have HC := Lib.hid hc
      clear ha hc
      by_cases hac : a = c2
      · subst hac
        have HT2 := Lib.hid (show l.take (k + 1) = m.take (k + 1) by
          rw [List.take_add_one, List.take_add_one, HT.out, HA.out, HC.out])
        clear HT
        go_upto_region 2 with fail
        refine wp_region_ext (by kernel_rfl) (by kernel_rfl) ?_
        repeat (go_big_quiet_step (fail))
        (refine wpQuiet_nil ?_; rintro _ ⟨x, rfl⟩)
        go_wp2_with fail
        go_roundw
        case rel => exact ⟨k + 1, by omega, by go_num, HT2, by (exact ext_of (by (repeat (first | (with_reducible exact Below.refl _ _) | (with_reducible assumption) | ((with_reducible refine below_ext_trans ?_ ?_ _); rotate_left; focus (((try dsimp only); repeat (first | omega | simp only [World.size_alloc, World.size_setCell, World.size_drew] | (with_reducible refine le_ext_of ?_) | (with_reducible refine le_ext_add ?_))); done)) | ((with_reducible refine Below.alloc ?_ ?_ _); rotate_left; focus (((try dsimp only); repeat (first | omega | simp only [World.size_alloc, World.size_setCell, World.size_drew] | (with_reducible refine le_ext_of ?_) | (with_reducible refine le_ext_add ?_))); done)) | ((with_reducible refine Below.setCell ?_ ?_ _); rotate_left; focus (((try dsimp only); repeat (first | omega | simp only [World.size_alloc, World.size_setCell, World.size_drew] | (with_reducible refine le_ext_of ?_) | (with_reducible refine le_ext_add ?_))); done)) | (with_reducible refine Below.drew ?_)))))⟩
        case measure => simp [intOf]; omega
      · have hq : (a == c2) = false := by simpa using hac
        have HR := Lib.hid (lexB_part HT.out HA.out HC.out hac)
        have hkn : ((k : Int) == (n : Int)) = false := by simp; omega
        clear hac
        go_upto_region 2 with fail
        refine wp_region_ext (by kernel_rfl) (by kernel_rfl) ?_
        repeat (go_big_quiet_step (fail))
        (refine wpQuiet_nil ?_; rintro _ ⟨x, rfl⟩)
        go_upto_region 4 with fail
        refine wp_region_ext (by kernel_rfl) (by kernel_rfl) ?_
        repeat (go_big_quiet_step (fail))
        (refine wpQuiet_nil ?_; rintro _ ⟨x, rfl⟩)
        go_wp2_with fail
        go_ret
        exact ⟨by rw [HR.out]; rfl, by (exact ext_of (by (repeat (first | (with_reducible exact Below.refl _ _) | (with_reducible assumption) | ((with_reducible refine below_ext_trans ?_ ?_ _); rotate_left; focus (((try dsimp only); repeat (first | omega | simp only [World.size_alloc, World.size_setCell, World.size_drew] | (with_reducible refine le_ext_of ?_) | (with_reducible refine le_ext_add ?_))); done)) | ((with_reducible refine Below.alloc ?_ ?_ _); rotate_left; focus (((try dsimp only); repeat (first | omega | simp only [World.size_alloc, World.size_setCell, World.size_drew] | (with_reducible refine le_ext_of ?_) | (with_reducible refine le_ext_add ?_))); done)) | ((with_reducible refine Below.setCell ?_ ?_ _); rotate_left; focus (((try dsimp only); repeat (first | omega | simp only [World.size_alloc, World.size_setCell, World.size_drew] | (with_reducible refine le_ext_of ?_) | (with_reducible refine le_ext_add ?_))); done)) | (with_reducible refine Below.drew ?_)))))⟩
    · obtain rfl : k = n := by omega
      have HR := Lib.hid (show lexB l m = false by
        have h := HT.out
        rw [List.take_of_length_le (by rw [E1.out]; exact Nat.le_refl _), List.take_of_length_le (by rw [E2.out]; exact Nat.le_refl _)] at h
        rw [h]; exact lexB_irrefl _)
      go_upto_region 2 with fail
      refine wp_region_ext (by kernel_rfl) (by kernel_rfl) ?_
      repeat (go_big_quiet_step (fail))
      (refine wpQuiet_nil ?_; rintro _ ⟨x, rfl⟩)
      go_upto_region 4 with fail
      refine wp_region_ext (by kernel_rfl) (by kernel_rfl) ?_
      repeat (go_big_quiet_step (fail))
      (refine wpQuiet_nil ?_; rintro _ ⟨x, rfl⟩)
      go_wp2_with fail
      go_ret
      exact ⟨by rw [HR.out]; rfl, by (exact ext_of (by (repeat (first | (with_reducible exact Below.refl _ _) | (with_reducible assumption) | ((with_reducible refine below_ext_trans ?_ ?_ _); rotate_left; focus (((try dsimp only); repeat (first | omega | simp only [World.size_alloc, World.size_setCell, World.size_drew] | (with_reducible refine le_ext_of ?_) | (with_reducible refine le_ext_add ?_))); done)) | ((with_reducible refine Below.alloc ?_ ?_ _); rotate_left; focus (((try dsimp only); repeat (first | omega | simp only [World.size_alloc, World.size_setCell, World.size_drew] | (with_reducible refine le_ext_of ?_) | (with_reducible refine le_ext_add ?_))); done)) | ((with_reducible refine Below.setCell ?_ ?_ _); rotate_left; focus (((try dsimp only); repeat (first | omega | simp only [World.size_alloc, World.size_setCell, World.size_drew] | (with_reducible refine le_ext_of ?_) | (with_reducible refine le_ext_add ?_))); done)) | (with_reducible refine Below.drew ?_)))))⟩
set_option maxHeartbeats 1000000 in
theorem Fewer_eq (p q : Option Addr) (c d : Nat) (l m : List Int) (n k : Nat) (w : World) (hl : IntsAt w p l) (hm : IntsAt w q m) (hb : (n : Int) ≤ 1000) (e1 : l.length = n) (e2 : m.length = k) :
    Calls Tryd.prog 47 #[.slice p n c, .slice q k d] w fun e w' => e = .returned (.bool (fewerB l m)) ∧ ∃ x, w' = ext w x := by
  by_cases h1 : n < k
  · have HR := Lib.hid (show fewerB l m = true by unfold fewerB; rw [e1, e2]; simp [h1])
    have h2 : (n : Int) < (k : Int) := by omega
    clear hl hm
    go_enter Tryd.func47, Tryd.ntmps47
    go_wp2_with fail
    go_ret
    exact ⟨by rw [HR.out]; rfl, by (exact ext_of (by (repeat (first | (with_reducible exact Below.refl _ _) | (with_reducible assumption) | ((with_reducible refine below_ext_trans ?_ ?_ _); rotate_left; focus (((try dsimp only); repeat (first | omega | simp only [World.size_alloc, World.size_setCell, World.size_drew] | (with_reducible refine le_ext_of ?_) | (with_reducible refine le_ext_add ?_))); done)) | ((with_reducible refine Below.alloc ?_ ?_ _); rotate_left; focus (((try dsimp only); repeat (first | omega | simp only [World.size_alloc, World.size_setCell, World.size_drew] | (with_reducible refine le_ext_of ?_) | (with_reducible refine le_ext_add ?_))); done)) | ((with_reducible refine Below.setCell ?_ ?_ _); rotate_left; focus (((try dsimp only); repeat (first | omega | simp only [World.size_alloc, World.size_setCell, World.size_drew] | (with_reducible refine le_ext_of ?_) | (with_reducible refine le_ext_add ?_))); done)) | (with_reducible refine Below.drew ?_)))))⟩
  · by_cases h2 : n = k
    · subst h2
      have HR := Lib.hid (show fewerB l m = lexB l m by unfold fewerB; rw [e1, e2]; simp)
      have HL := Lib.hid hl
      have HM := Lib.hid hm
      clear hl hm h1
      go_enter Tryd.func47, Tryd.ntmps47
      go_wp2_with (go_at_call 82; refine (Sooner_eq p q c d l m n _ (HL.out.below (by (repeat (first | (with_reducible exact Below.refl _ _) | (with_reducible assumption) | ((with_reducible refine below_ext_trans ?_ ?_ _); rotate_left; focus (((try dsimp only); repeat (first | omega | simp only [World.size_alloc, World.size_setCell, World.size_drew] | (with_reducible refine le_ext_of ?_) | (with_reducible refine le_ext_add ?_))); done)) | ((with_reducible refine Below.alloc ?_ ?_ _); rotate_left; focus (((try dsimp only); repeat (first | omega | simp only [World.size_alloc, World.size_setCell, World.size_drew] | (with_reducible refine le_ext_of ?_) | (with_reducible refine le_ext_add ?_))); done)) | ((with_reducible refine Below.setCell ?_ ?_ _); rotate_left; focus (((try dsimp only); repeat (first | omega | simp only [World.size_alloc, World.size_setCell, World.size_drew] | (with_reducible refine le_ext_of ?_) | (with_reducible refine le_ext_add ?_))); done)) | (with_reducible refine Below.drew ?_))))) (HM.out.below (by (repeat (first | (with_reducible exact Below.refl _ _) | (with_reducible assumption) | ((with_reducible refine below_ext_trans ?_ ?_ _); rotate_left; focus (((try dsimp only); repeat (first | omega | simp only [World.size_alloc, World.size_setCell, World.size_drew] | (with_reducible refine le_ext_of ?_) | (with_reducible refine le_ext_add ?_))); done)) | ((with_reducible refine Below.alloc ?_ ?_ _); rotate_left; focus (((try dsimp only); repeat (first | omega | simp only [World.size_alloc, World.size_setCell, World.size_drew] | (with_reducible refine le_ext_of ?_) | (with_reducible refine le_ext_add ?_))); done)) | ((with_reducible refine Below.setCell ?_ ?_ _); rotate_left; focus (((try dsimp only); repeat (first | omega | simp only [World.size_alloc, World.size_setCell, World.size_drew] | (with_reducible refine le_ext_of ?_) | (with_reducible refine le_ext_add ?_))); done)) | (with_reducible refine Below.drew ?_))))) hb e1 e2).mono ?_; rintro e w1 ⟨rfl, y, rfl⟩)
      go_ret
      exact ⟨by rw [HR.out]; rfl, by (exact ext_of (by (repeat (first | (with_reducible exact Below.refl _ _) | (with_reducible assumption) | ((with_reducible refine below_ext_trans ?_ ?_ _); rotate_left; focus (((try dsimp only); repeat (first | omega | simp only [World.size_alloc, World.size_setCell, World.size_drew] | (with_reducible refine le_ext_of ?_) | (with_reducible refine le_ext_add ?_))); done)) | ((with_reducible refine Below.alloc ?_ ?_ _); rotate_left; focus (((try dsimp only); repeat (first | omega | simp only [World.size_alloc, World.size_setCell, World.size_drew] | (with_reducible refine le_ext_of ?_) | (with_reducible refine le_ext_add ?_))); done)) | ((with_reducible refine Below.setCell ?_ ?_ _); rotate_left; focus (((try dsimp only); repeat (first | omega | simp only [World.size_alloc, World.size_setCell, World.size_drew] | (with_reducible refine le_ext_of ?_) | (with_reducible refine le_ext_add ?_))); done)) | (with_reducible refine Below.drew ?_)))))⟩
    · have HR := Lib.hid (show fewerB l m = false by unfold fewerB; rw [e1, e2]; simp [h1, h2])
      have h3 : ¬ (n : Int) < (k : Int) := by omega
      have h4 : ((n : Int) == (k : Int)) = false := by simp; omega
      clear hl hm
      go_enter Tryd.func47, Tryd.ntmps47
      go_wp2_with fail
      go_ret
      exact ⟨by rw [HR.out]; rfl, by (exact ext_of (by (repeat (first | (with_reducible exact Below.refl _ _) | (with_reducible assumption) | ((with_reducible refine below_ext_trans ?_ ?_ _); rotate_left; focus (((try dsimp only); repeat (first | omega | simp only [World.size_alloc, World.size_setCell, World.size_drew] | (with_reducible refine le_ext_of ?_) | (with_reducible refine le_ext_add ?_))); done)) | ((with_reducible refine Below.alloc ?_ ?_ _); rotate_left; focus (((try dsimp only); repeat (first | omega | simp only [World.size_alloc, World.size_setCell, World.size_drew] | (with_reducible refine le_ext_of ?_) | (with_reducible refine le_ext_add ?_))); done)) | ((with_reducible refine Below.setCell ?_ ?_ _); rotate_left; focus (((try dsimp only); repeat (first | omega | simp only [World.size_alloc, World.size_setCell, World.size_drew] | (with_reducible refine le_ext_of ?_) | (with_reducible refine le_ext_add ?_))); done)) | (with_reducible refine Below.drew ?_)))))⟩
set_option maxHeartbeats 1000000 in
/-- The number of a span to which any number leads. -/
theorem Some_any (lo hi n : Int) (w : World) (h0 : 0 ≤ lo) (h1 : lo ≤ hi) (h2 : hi ≤ 100000) : Calls Tryd.prog 78 #[.agg #[.int .i64 lo, .int .i64 hi], .int .i64 n] w fun e w' => e = .returned (.int .i64 (lo + n % (hi - lo + 1))) ∧ ∃ x, w' = ext w x := by
  have e1 : IntKind.i64.wrap (hi - lo) = hi - lo := IntWalk.i64_in _ (by omega)
  have e2 : IntKind.i64.wrap (hi - lo + 1) = hi - lo + 1 := IntWalk.i64_in _ (by omega)
  have hr0 : 0 ≤ n % (hi - lo + 1) := Int.emod_nonneg _ (by omega)
  have hr1 : n % (hi - lo + 1) < hi - lo + 1 := Int.emod_lt_of_pos _ (by omega)
  have e3 : IntKind.i64.wrap (lo + n % (hi - lo + 1)) = lo + n % (hi - lo + 1) := IntWalk.i64_in _ (by omega)
  have hm : 1 ≤ hi - lo + 1 ∧ hi - lo + 1 ≤ 1000000 := by omega
  clear h0 h1 h2 hr0 hr1
  go_enter Tryd.func78, Tryd.ntmps78
  go_wp2_with fail
  refine wp_region_ext (by kernel_rfl) (by kernel_rfl) ?_
  repeat (go_big_quiet_step ((go_at_call 37; exact quiet_ext (Wheel_any _ _ _ hm.1 hm.2))))
  (refine wpQuiet_nil ?_; rintro _ ⟨x, rfl⟩)
  go_wp2_with fail
  go_ret
  exact ⟨ret_int (by first | rfl | exact e3), by (exact ext_of (by (repeat (first | (with_reducible exact Below.refl _ _) | (with_reducible assumption) | ((with_reducible refine below_ext_trans ?_ ?_ _); rotate_left; focus (((try dsimp only); repeat (first | omega | simp only [World.size_alloc, World.size_setCell, World.size_drew] | (with_reducible refine le_ext_of ?_) | (with_reducible refine le_ext_add ?_))); done)) | ((with_reducible refine Below.alloc ?_ ?_ _); rotate_left; focus (((try dsimp only); repeat (first | omega | simp only [World.size_alloc, World.size_setCell, World.size_drew] | (with_reducible refine le_ext_of ?_) | (with_reducible refine le_ext_add ?_))); done)) | ((with_reducible refine Below.setCell ?_ ?_ _); rotate_left; focus (((try dsimp only); repeat (first | omega | simp only [World.size_alloc, World.size_setCell, World.size_drew] | (with_reducible refine le_ext_of ?_) | (with_reducible refine le_ext_add ?_))); done)) | (with_reducible refine Below.drew ?_)))))⟩
def someI (lo hi n : Int) : Int := lo + n % (hi - lo + 1)
theorem someI_bd {lo hi : Int} (h : lo ≤ hi) (n : Int) : lo ≤ someI lo hi n ∧ someI lo hi n ≤ hi := by
  have h1 : 0 ≤ n % (hi - lo + 1) := Int.emod_nonneg _ (by omega)
  have h2 : n % (hi - lo + 1) < hi - lo + 1 := Int.emod_lt_of_pos _ (by omega)
  unfold someI
  omega
theorem Some_is (lo hi n x : Int) (w : World) (h : 0 ≤ lo ∧ lo ≤ hi ∧ hi ≤ 100000) (hx : someI lo hi n = x) : Calls Tryd.prog 78 #[.agg #[.int .i64 lo, .int .i64 hi], .int .i64 n] w fun e w' => e = .returned (.int .i64 x) ∧ ∃ x, w' = ext w x := by
  subst hx; exact Some_any lo hi n w h.1 h.2.1 h.2.2
theorem Pick_is (p : Option Addr) (c : Nat) (l : List Int) (m : Nat) (n v : Int) (w : World) (hl : IntsAt w p l) (hb : (l.length : Int) ≤ 9223372036854775807) (hm : l.length = m) (hv : pickI l n = v) : Calls Tryd.prog 79 #[.slice p m c, .int .i64 n] w fun e w' => e = .returned (.int .i64 v) ∧ ∃ x, w' = ext w x := by
  subst hm hv; exact Pick_any p c l n w hl hb
theorem Place_is (p : Option Addr) (c : Nat) (l : List Int) (n : Nat) (x : Int) (w : World) (hl : IntsAt w p l) (hb : (l.length : Int) ≤ 1000) (hx : x ∈ l) (hn : l.length = n) :
    Calls Tryd.prog 80 #[.slice p n c, .int .i64 x] w (AtPlace l x w) := by
  subst hn; exact Place_yes p c l x w hl hb hx
end Go.Proofs.YtamknmgplhaciaaDoor

namespace Go.Proofs.YtamknmgplhaciaaDoor
open Go Go.RowKit Go.Shelf
theorem SBk.own {w : World} {B c : Nat} {p : Option Addr} {b : Sn} (h : OwnNs w B (.slice p b.ns.length c) b.ns) (hm : MM w) : SBk w b p := ⟨h.notes, hm, h.ends.2.2⟩
section
variable {o : Oper} {w : World} (ρ : Operand → Value)
theorem run_atNote {g j s u n c k : Nat} (hop : o.op = .indexAddr 24 (.tmp s) (.tmp u)) (h1 : ρ (.tmp s) = .slice (some ⟨g, j, none⟩) n c) (h2 : ρ (.tmp u) = .int .i64 k) (hk : k < n) (hl : g < w.heap.size) :
    (execOp ρ o).run Tryd.prog w = .ok (.value (.pointer (some ⟨g, j + k * 4, none⟩))) w := by
  have k0 : (0 : Int) ≤ (k : Int) := by omega
  have k1 : (k : Int) < (n : Int) := by omega
  unfold execOp
  simp [hop, h1, h2, go_sem, hl, k0, k1]
theorem run_noteAt {g j s : Nat} {x y z u : Int} (hop : o.op = .load 38 (.tmp s)) (hs : ρ (.tmp s) = .pointer (some ⟨g, j, none⟩)) (k0 : w.cell? ⟨g, j, none⟩ = some (.int .i64 x)) (k1 : w.cell? ⟨g, j + 1, none⟩ = some (.int .i64 y)) (k2 : w.cell? ⟨g, j + 2, none⟩ = some (.int .i64 z)) (k3 : w.cell? ⟨g, j + 3, none⟩ = some (.int .i64 u)) :
    (execOp ρ o).run Tryd.prog w = .ok (.value (.agg #[.int .i64 x, .int .i64 y, .int .i64 z, .int .i64 u])) w := by
  unfold execOp
  simp [hop, hs, go_sem, k0, k1, k2, k3]
end
/-- What the operations leave that append a note. -/
def woutR (gx gb a j ns cs k : Nat) (p : Option Addr) (m c : Nat) (q1 : Option Addr) (L : List Nt) (s : Nt) (f : Bool) (i : Nat) (u : Value) (w : World) : Prop :=
  match i with
  | 0 => u = .pointer (some ⟨gx, 2, none⟩)
  | 1 => u = .slice p m c ∧ (f = false → OwnNs w (gx + 1) (.slice p m c) L)
  | 2 => u = .pointer (some ⟨gb, 2, none⟩)
  | 3 => u = .slice q1 ns cs
  | 4 => u = .int .i64 k
  | 5 => u = .pointer (some ⟨a, j, none⟩)
  | 6 => u = .agg #[.int .i64 s.kind, .int .i64 s.hour, .int .i64 s.lo, .int .i64 s.hi]
  | 7 => ∃ q, u = .slice (some ⟨q, 0, none⟩) 1 1 ∧ (f = false → Blk w q 38 #[.int .i64 s.kind, .int .i64 s.hour, .int .i64 s.lo, .int .i64 s.hi])
  | 8 => f = true ∧ OwnNs w (gx + 1) u (L ++ [s])
  | 9 => u = .pointer (some ⟨gx, 2, none⟩)
  | _ => True
theorem woutR_kept (gx gb a j ns cs k : Nat) (p : Option Addr) (m c : Nat) (q1 : Option Addr) (L : List Nt) (s : Nt) : ∀ (f : Bool) (i : Nat), i < 10 → ∀ (u : Value) (w w' : World), woutR gx gb a j ns cs k p m c q1 L s f i u w → Below w.heap.size w w' → woutR gx gb a j ns cs k p m c q1 L s f i u w' := by
  intro f i hi u w w' h hb
  rcases (show i = 0 ∨ i = 1 ∨ i = 2 ∨ i = 3 ∨ i = 4 ∨ i = 5 ∨ i = 6 ∨ i = 7 ∨ i = 8 ∨ i = 9 by omega) with hi0 | hi0 | hi0 | hi0 | hi0 | hi0 | hi0 | hi0 | hi0 | hi0
  all_goals subst hi0
  · exact h
  · exact ⟨h.1, fun hf => (h.2 hf).below hb⟩
  · exact h
  · exact h
  · exact h
  · exact h
  · exact h
  · obtain ⟨q, h1, h2⟩ := h; exact ⟨q, h1, fun hf => (h2 hf).bel hb⟩
  · exact ⟨h.1, h.2.below hb⟩
  · exact h
attribute [local go_sem] Oper.semAt_some frozen_alloc_lt
set_option maxRecDepth 100000 in
set_option maxHeartbeats 8000000 in
theorem without_any (b : Sn) (p0 : Option Addr) (c0 : Nat) (pl : Option Addr) (cl n : Nat) (l : List Int) (w : World) (hb : SBk w b p0) (h9 : b.ns.length ≤ 9) (hl : IntsAt w pl l) (hll : (l.length : Int) ≤ 1000) (hn : l.length = n) :
    Calls Tryd.prog 45 #[bV b p0 c0, .slice pl n cl] w fun e w' => ∃ p3 c3, e = .returned (bV (woutS b l b.ns.length) p3 c3) ∧ OwnNs w' w.heap.size (.slice p3 (woutN b.ns l b.ns.length).length c3) (woutN b.ns l b.ns.length) ∧ ∃ x, w' = ext w x := by
  have HB := Lib.hid hb
  have HL := Lib.hid hl
  have HLL := Lib.hid hll
  have HN := Lib.hid hn
  clear hb hl hll hn
  go_enter Tryd.func45, Tryd.ntmps45
  go_upto_region 3 with fail
  generalize hW : ((w.alloc _).alloc _).alloc _ = W
  obtain ⟨gb, egb⟩ : ∃ gb, w.heap.size = gb := ⟨_, rfl⟩
  have hWB : Below w.heap.size w W := by rw [← hW]; (repeat (first | (with_reducible exact Below.refl _ _) | (with_reducible assumption) | ((with_reducible refine below_ext_trans ?_ ?_ _); rotate_left; focus (((try dsimp only); repeat (first | omega | simp only [World.size_alloc, World.size_setCell, World.size_drew] | (with_reducible refine le_ext_of ?_) | (with_reducible refine le_ext_add ?_))); done)) | ((with_reducible refine Below.alloc ?_ ?_ _); rotate_left; focus (((try dsimp only); repeat (first | omega | simp only [World.size_alloc, World.size_setCell, World.size_drew] | (with_reducible refine le_ext_of ?_) | (with_reducible refine le_ext_add ?_))); done)) | ((with_reducible refine Below.setCell ?_ ?_ _); rotate_left; focus (((try dsimp only); repeat (first | omega | simp only [World.size_alloc, World.size_setCell, World.size_drew] | (with_reducible refine le_ext_of ?_) | (with_reducible refine le_ext_add ?_))); done)) | (with_reducible refine Below.drew ?_)))
  have hWs : W.heap.size = gb + 3 := by rw [← hW]; simp; omega
  have kb : Blk W gb 26 #[.int .i64 b.lo, .int .i64 b.hi, .slice p0 b.ns.length c0] := by rw [← hW]; exact ((Blk.new egb.symm).alloc _).alloc _
  have kr : Blk W (gb + 1) 26 #[.int .i64 0, .int .i64 0, .slice none 0 0] := by rw [← hW]; exact (Blk.new (by simp; omega)).alloc _
  have kx : Blk W (gb + 2) 26 #[.int .i64 b.lo, .int .i64 b.hi, .slice none 0 0] := by rw [← hW]; exact Blk.new (by simp; omega)
  have HWB := Lib.hid hWB
  have HWs := Lib.hid hWs
  have KB := Lib.hid kb
  have KR := Lib.hid kr
  have KX := Lib.hid kx
  have HE := Lib.hid egb
  rw [egb]
  clear hW hWB hWs kb kr kx egb
  go_wp2_with fail
  go_loopw [6] (fun i wr => ∃ (k : Nat) (p : Option Addr) (c m : Nat), k ≤ b.ns.length ∧ i = .int .i64 k ∧ Hid ((woutN b.ns l k).length = m) ∧ Hid (Blk wr (gb + 2) 26 #[.int .i64 b.lo, .int .i64 b.hi, .slice p m c]) ∧ Hid (OwnNs wr (gb + 2 + 1) (.slice p m c) (woutN b.ns l k)) ∧ Hid (Below (gb + 2) W wr)) (fun i _ => b.ns.length - (intOf i).toNat)
  case atStart => exact ⟨0, none, 0, 0, by omega, rfl, Lib.hid rfl, KX, Lib.hid (OwnNs.nil _ _), Lib.hid (Below.refl _ _)⟩
  case round =>
    obtain ⟨k, p, c, m, hk, rfl, HM, HX, HO, HBL⟩ := hrel
    have kb : Blk wr gb 26 #[.int .i64 b.lo, .int .i64 b.hi, .slice p0 b.ns.length c0] := (HBL.out.block gb (by omega)).trans KB.out
    have d2 : wr.cell? ⟨gb, 2, none⟩ = some (.slice p0 b.ns.length c0) := kb.cell 2
    have kl := kb.lt
    have xl := HX.out.lt
    have hbw : Below w.heap.size w wr := HWB.out.trans (HBL.out.mono (by have := HE.out; omega))
    have HBW := Lib.hid hbw
    have KB2 := Lib.hid kb
    clear kb hbw
    by_cases hlt : k < b.ns.length
    · obtain ⟨s, hs⟩ := get_some b.ns k hlt
      have HS := Lib.hid hs
      have hk1 : (k : Int) < (b.ns.length : Int) := by omega
      have hk0 : (0 : Int) ≤ (k : Int) := by omega
      clear hs
      by_cases hm : (k : Int) ∈ l
      · have HMM := Lib.hid hm
        have HU := Lib.hid (woutN_in HS.out hm)
        clear hm
        go_wp2_with (go_at_call 80; refine (Place_is pl cl l n k _ ((HL.out.below HBW.out).below (by (repeat (first | (with_reducible exact Below.refl _ _) | (with_reducible assumption) | ((with_reducible refine below_ext_trans ?_ ?_ _); rotate_left; focus (((try dsimp only); repeat (first | omega | simp only [World.size_alloc, World.size_setCell, World.size_drew] | (with_reducible refine le_ext_of ?_) | (with_reducible refine le_ext_add ?_))); done)) | ((with_reducible refine Below.alloc ?_ ?_ _); rotate_left; focus (((try dsimp only); repeat (first | omega | simp only [World.size_alloc, World.size_setCell, World.size_drew] | (with_reducible refine le_ext_of ?_) | (with_reducible refine le_ext_add ?_))); done)) | ((with_reducible refine Below.setCell ?_ ?_ _); rotate_left; focus (((try dsimp only); repeat (first | omega | simp only [World.size_alloc, World.size_setCell, World.size_drew] | (with_reducible refine le_ext_of ?_) | (with_reducible refine le_ext_add ?_))); done)) | (with_reducible refine Below.drew ?_))))) HLL.out HMM.out HN.out).mono ?_; rintro e w1 ⟨kk, hkk, rfl, rfl⟩; clear hkk; have hkk0 : (0 : Int) ≤ (kk : Int) := by omega)
        go_roundw
        case rel => exact ⟨k + 1, p, c, m, by omega, by go_num, by rw [HU.out]; exact HM, HX, by rw [HU.out]; exact HO, HBL⟩
        case measure => simp [intOf]; omega
      · have HMM := Lib.hid hm
        have HU := Lib.hid (woutN_out HS.out hm)
        clear hm
        obtain ⟨bb1, o1, hps, hb1, q0, q1, q2, q3⟩ := (HB.out.bel HBW.out).nt k _ HS.out
        subst hps
        have HA := Lib.hid hb1
        have HQ := Lib.hid (And.intro q0 (And.intro q1 (And.intro q2 q3)))
        have hbb : bb1 < gb := by
          obtain ⟨b2, o2, e, h2, -⟩ := HB.out.nt k _ HS.out
          cases e
          have := HE.out; omega
        have hrow : ∀ g, (Value.slice p m c).ownBlock = some g → gb + 2 + 1 ≤ g := fun g hg => (HO.out.lt g hg).1
        have HROW := Lib.hid hrow
        have hml : (woutN b.ns l k).length ≤ 1000 := by have := woutN_len b.ns l k; omega
        clear hb1 q0 q1 q2 q3 hrow
        go_upto_region 7 with (go_at_call 80; refine (Place_none pl cl l n k _ ((HL.out.below HBW.out).below (by (repeat (first | (with_reducible exact Below.refl _ _) | (with_reducible assumption) | ((with_reducible refine below_ext_trans ?_ ?_ _); rotate_left; focus (((try dsimp only); repeat (first | omega | simp only [World.size_alloc, World.size_setCell, World.size_drew] | (with_reducible refine le_ext_of ?_) | (with_reducible refine le_ext_add ?_))); done)) | ((with_reducible refine Below.alloc ?_ ?_ _); rotate_left; focus (((try dsimp only); repeat (first | omega | simp only [World.size_alloc, World.size_setCell, World.size_drew] | (with_reducible refine le_ext_of ?_) | (with_reducible refine le_ext_add ?_))); done)) | ((with_reducible refine Below.setCell ?_ ?_ _); rotate_left; focus (((try dsimp only); repeat (first | omega | simp only [World.size_alloc, World.size_setCell, World.size_drew] | (with_reducible refine le_ext_of ?_) | (with_reducible refine le_ext_add ?_))); done)) | (with_reducible refine Below.drew ?_))))) HLL.out HMM.out HN.out).mono ?_; rintro e w1 ⟨rfl, rfl⟩)
        refine wp_region_flow_backH 10 31 8 (Value.slice p m c).ownBlock (woutR (gb + 2) gb bb1 (o1 + k * 4) b.ns.length c0 k p m c (some ⟨bb1, o1, none⟩) (woutN b.ns l k) s) (by kernel_rfl) (by kernel_rfl) rfl (by omega) (woutR_kept _ _ _ _ _ _ _ _ _ _ _ _ _) ?_ ?_ ?_
        · intro i hin hne f a W1 h1 h2 h3 h4 h5' h6' KK hKK
          have far : ∀ g', g' < wr.heap.size → g' ≤ gb + 2 → W1.heap[g']? = wr.heap[g']? := fun g' hg hg2 => h5'.block g' hg (fun e => by have := HROW.out g' e.symm; omega)
          rcases (show i = 0 ∨ i = 1 ∨ i = 2 ∨ i = 3 ∨ i = 4 ∨ i = 5 ∨ i = 6 ∨ i = 7 ∨ i = 9 by omega) with hi0 | hi0 | hi0 | hi0 | hi0 | hi0 | hi0 | hi0 | hi0
          · subst hi0
            exact st_val rfl (wanted_none rfl) (run_fBook1 _ rfl (h3 5 (by kernel_rfl)) (Nat.lt_of_lt_of_le HX.out.lt h5'.size)) (hKK _ _ rfl (Below.refl _ _))
          · subst hi0
            have kx : Blk W1 (gb + 2) _ _ := (far (gb + 2) HX.out.lt (by omega)).trans HX.out
            exact st_val rfl (wanted_none rfl) (run_lNotes _ rfl (h4 0 (by kernel_rfl)) (Blk.cell kx 2)) (hKK _ _ ⟨rfl, fun hf => HO.out.below (h6' hf)⟩ (Below.refl _ _))
          · subst hi0
            exact st_val rfl (wanted_none rfl) (run_fBook1 _ rfl (h3 2 (by kernel_rfl)) (Nat.lt_of_lt_of_le KB2.out.lt h5'.size)) (hKK _ _ rfl (Below.refl _ _))
          · subst hi0
            have kb : Blk W1 gb _ _ := (far gb KB2.out.lt (by omega)).trans KB2.out
            exact st_val rfl (wanted_none rfl) (run_lNotes _ rfl (h4 2 (by kernel_rfl)) (Blk.cell kb 2)) (hKK _ _ rfl (Below.refl _ _))
          · subst hi0
            exact st_move rfl rfl (wanted_none rfl) (h3 6 (by kernel_rfl)) (hKK _ _ rfl (Below.refl _ _))
          · subst hi0
            exact st_val rfl (wanted_none rfl) (run_atNote _ rfl (h4 3 (by kernel_rfl)) (h4 4 (by kernel_rfl)) hlt (Nat.lt_of_lt_of_le HA.out h5'.size)) (hKK _ _ rfl (Below.refl _ _))
          · subst hi0
            have hc : ∀ j, W1.cell? ⟨bb1, j, none⟩ = wr.cell? ⟨bb1, j, none⟩ := fun j => World.cell?_of_block (a := ⟨bb1, j, none⟩) (far bb1 HA.out (by omega))
            exact st_val rfl (wanted_none rfl) (run_noteAt _ rfl (h4 5 (by kernel_rfl)) ((hc _).trans HQ.out.1) ((hc _).trans HQ.out.2.1) ((hc _).trans HQ.out.2.2.1) ((hc _).trans HQ.out.2.2.2)) (hKK _ _ rfl (Below.refl _ _))
          · subst hi0
            exact st_valw rfl (wanted_none rfl) (run_bsNote _ rfl (h4 6 (by kernel_rfl))) (hKK _ _ ⟨_, rfl, fun _ => Blk.new rfl⟩ ((Below.refl _ _).alloc (Nat.le_refl _) _))
          · subst hi0
            exact st_val rfl (wanted_none rfl) (run_fBook1 _ rfl (h3 5 (by kernel_rfl)) (Nat.lt_of_lt_of_le HX.out.lt h5'.size)) (hKK _ _ rfl (Below.refl _ _))
        · intro a W1 h1 h2 h3 h4 h5' KK hKK
          obtain ⟨e1, ho⟩ := h4 1 (by kernel_rfl)
          obtain ⟨q, e2, hq⟩ := h4 7 (by kernel_rfl)
          refine st_append_note rfl (wanted_none rfl) _ _ rfl (gb + 2 + 1) _ _ e1 (ho rfl) q s e2 (hq rfl) hml (by have := HX.out.lt; have := h5'.size; omega) ?_
          intro v' w' h7 h8
          refine hKK _ _ ⟨rfl, h7⟩ (fun j u hj hr => ?_) h8
          rcases (show j = 0 ∨ j = 1 ∨ j = 2 ∨ j = 3 ∨ j = 4 ∨ j = 5 ∨ j = 6 ∨ j = 7 ∨ j = 8 ∨ j = 9 by omega) with hi0 | hi0 | hi0 | hi0 | hi0 | hi0 | hi0 | hi0 | hi0 | hi0
          all_goals subst hi0
          · exact hr
          · exact ⟨hr.1, fun hf => by cases hf⟩
          · exact hr
          · exact hr
          · exact hr
          · exact hr
          · exact hr
          · obtain ⟨q', e, _⟩ := hr; exact ⟨q', e, fun hf => by cases hf⟩
          · exact absurd hr.1 (by decide)
          · exact hr
        · intro vs W3 hvs hB3
          have v0 : vs 0 = _ := hvs 0 (by omega)
          have v1 : vs 1 = _ := (hvs 1 (by omega)).1
          have v2 : vs 2 = _ := hvs 2 (by omega)
          have v3 : vs 3 = _ := hvs 3 (by omega)
          have v4 : vs 4 = _ := hvs 4 (by omega)
          have v5 : vs 5 = _ := hvs 5 (by omega)
          have v6 : vs 6 = _ := hvs 6 (by omega)
          obtain ⟨q, v7, -⟩ := hvs 7 (by omega)
          have ho8 := (hvs 8 (by omega)).2
          obtain ⟨p', c', v8, -⟩ := ho8.at
          have v9 : vs 9 = _ := hvs 9 (by omega)
          rw [v8] at ho8
          obtain ⟨m', hm'⟩ : ∃ m', (woutN b.ns l k ++ [s]).length = m' := ⟨_, rfl⟩
          rw [hm'] at ho8 v8
          simp only [putAll, v0, v1, v2, v3, v4, v5, v6, v7, v8, v9]
          clear v0 v1 v2 v3 v4 v5 v6 v7 v8 v9 hvs
          simp only [dstOf, Act.put, List.getElem?_toArray, List.getElem?_cons_zero, List.getElem?_cons_succ, Option.bind_some, Option.getD_some, List.setIfInBounds_toArray, List.set_cons_succ, List.set_cons_zero, List.drop_succ_cons, List.drop_zero]
          have kx3 : Blk W3 (gb + 2) 26 #[.int .i64 b.lo, .int .i64 b.hi, .slice p m c] := (hB3.block _ HX.out.lt (fun e => by have := HROW.out _ e.symm; omega)).trans HX.out
          have x2 := kx3.cell 2
          have f2 := kx3.frozen 2
          simp only [List.size_toArray, List.length_cons, List.length_nil, Nat.reduceAdd, Nat.reduceLT, getElem?_pos, List.getElem_toArray, List.getElem_cons_zero, List.getElem_cons_succ] at x2
          have xl3 := kx3.lt
          have hbl3 : Below (gb + 2) W W3 := Below.grown HBL.out hB3 (by have := HX.out.lt; omega) (fun j hj => by have := HROW.out j hj; omega)
          have KX3 := Lib.hid kx3
          have HO8 := Lib.hid ho8
          have HM8 := Lib.hid hm'
          have HBL3 := Lib.hid hbl3
          clear kx3 ho8 hm' hbl3 hB3
          go_wp2_with fail
          go_roundw
          case rel => exact ⟨k + 1, p', c', m', by omega, by go_num, by rw [HU.out]; exact HM8, Lib.hid (by simpa using KX3.out.set 2 (.slice p' m' c')), by rw [HU.out]; exact Lib.hid (HO8.out.kept (fun g hg => by have := (HO8.out.lt g hg).1; exact Below.heap_setCell _ _ _ _ (by dsimp only; omega))), Lib.hid (HBL3.out.setCell (by dsimp only; omega) _)⟩
          case measure => simp [intOf]; omega
    · obtain rfl : k = b.ns.length := by omega
      have kr : Blk wr (gb + 1) 26 #[.int .i64 0, .int .i64 0, .slice none 0 0] := (HBL.out.block (gb + 1) (by omega)).trans KR.out
      have x0 := HX.out.cell 0
      have x1 := HX.out.cell 1
      have x2 := HX.out.cell 2
      have r0 := kr.cell 0
      have r1 := kr.cell 1
      have r2 := kr.cell 2
      have s0 := kr.frozen 0
      have s1 := kr.frozen 1
      have s2 := kr.frozen 2
      simp only [List.size_toArray, List.length_cons, List.length_nil, Nat.reduceAdd, Nat.reduceLT, getElem?_pos, List.getElem_toArray, List.getElem_cons_zero, List.getElem_cons_succ] at x0 x1 x2 r0 r1 r2
      have rl := kr.lt
      have KRR := Lib.hid kr
      clear kr
      have hO3 : OwnNs (((wr.setCell ⟨gb + 1, 0, none⟩ (.int .i64 b.lo)).setCell ⟨gb + 1, 1, none⟩ (.int .i64 b.hi)).setCell ⟨gb + 1, 2, none⟩ (.slice p m c)) (gb + 2 + 1) (.slice p m c) (woutN b.ns l b.ns.length) := HO.out.kept (fun g hg => by
        have h1 := (HO.out.lt g hg).1
        have e : ∀ (w : World) (i : Nat) (v : Value), (w.setCell ⟨gb + 1, i, none⟩ v).heap[g]? = w.heap[g]? := fun w i v => Below.heap_setCell _ _ _ _ (by dsimp only; omega)
        rw [e, e, e])
      have HO3 := Lib.hid hO3
      clear hO3
      go_wp2_with fail
      refine bodyPost_ret (v := .agg #[.int .i64 b.lo, .int .i64 b.hi, .slice p m c]) (by simp [results, Tryd.results45, go_sem, r0, r1, r2, s0, s1, s2, rl]) rfl ?_
      refine ⟨p, c, by show Ending.returned (Value.agg #[.int .i64 b.lo, .int .i64 b.hi, .slice p m c]) = Ending.returned (.agg #[.int .i64 b.lo, .int .i64 b.hi, .slice p (woutN b.ns l b.ns.length).length c]); rw [HM.out], by rw [HM.out]; exact HO3.out.mono (by have := HE.out; omega), ext_of ?_⟩
      have hB := HBW.out
      have hE := HE.out
      show Below w.heap.size w (((wr.setCell ⟨gb + 1, 0, none⟩ _).setCell ⟨gb + 1, 1, none⟩ _).setCell ⟨gb + 1, 2, none⟩ _)
      (repeat (first | (with_reducible exact Below.refl _ _) | (with_reducible assumption) | ((with_reducible refine below_ext_trans ?_ ?_ _); rotate_left; focus (((try dsimp only); repeat (first | omega | simp only [World.size_alloc, World.size_setCell, World.size_drew] | (with_reducible refine le_ext_of ?_) | (with_reducible refine le_ext_add ?_))); done)) | ((with_reducible refine Below.alloc ?_ ?_ _); rotate_left; focus (((try dsimp only); repeat (first | omega | simp only [World.size_alloc, World.size_setCell, World.size_drew] | (with_reducible refine le_ext_of ?_) | (with_reducible refine le_ext_add ?_))); done)) | ((with_reducible refine Below.setCell ?_ ?_ _); rotate_left; focus (((try dsimp only); repeat (first | omega | simp only [World.size_alloc, World.size_setCell, World.size_drew] | (with_reducible refine le_ext_of ?_) | (with_reducible refine le_ext_add ?_))); done)) | (with_reducible refine Below.drew ?_)))
end Go.Proofs.YtamknmgplhaciaaDoor

