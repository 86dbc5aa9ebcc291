/- Plain facts: at a minute at most one bound is open; on what a shot hangs whose minute is known. -/
/- Plain facts: a book of which more is known is a book; how a shot is told once the minute of the bound is known on which it hangs. -/
/- Plain facts: what is left of what is told of shots once more is known. -/
/- Plain facts: the shots that are unfair in a truth. -/
import Derived.Test.YtdmicngnbcdkdaaDoorRYp0
import Derived.Test.YtdmicngnbcdkdaaDoorRVe
set_option linter.unusedSimpArgs false
set_option linter.unusedVariables false
namespace Go.Proofs.YtdmicngnbcdkdaaDoor
open Go Go.RowKit

theorem cnt_none {l : List Int} {x : Int} (h : ∀ y ∈ l, x < y) : cnt l x = 0 := by
  unfold cnt
  rw [List.filter_eq_nil_iff.2 (fun y hy => by have := h y hy; simp; omega)]
  rfl
/-- Of what rises, those at most a number stand before the others. -/
theorem cnt_idx : ∀ {l : List Int} {i : Nat} {x y : Int}, l.Pairwise (· < ·) → l[i]? = some y → (y ≤ x ↔ i < cnt l x)
  | a :: l, i, x, y, hp, h => by
    rw [List.pairwise_cons] at hp
    rw [cnt_cons]
    by_cases ha : a ≤ x
    · rw [if_pos ha]
      cases i with
      | zero => simp at h; subst h; constructor <;> intro _ <;> omega
      | succ i =>
        have := cnt_idx (x := x) hp.2 (show l[i]? = some y by simpa using h)
        rw [this]; omega
    · rw [if_neg ha, cnt_none (fun z hz => by have := hp.1 z hz; omega)]
      cases i with
      | zero => simp at h; subst h; constructor <;> intro _ <;> omega
      | succ i =>
        have hy : y ∈ l := List.mem_of_getElem? (show l[i]? = some y by simpa using h)
        have := hp.1 y hy
        constructor <;> intro _ <;> omega
theorem fst_rises {b : Bk} (hv : bookB b = true) : (b.bs.map Prod.fst).Pairwise (· < ·) := by
  obtain ⟨_, hs, hch⟩ := bookB_bounds hv
  rw [List.pairwise_map]
  exact (chain_pair hch).imp_of_mem (fun {a c} ha hc h => by have := hs a ha; omega)
theorem snd_rises {b : Bk} (hv : bookB b = true) : (b.bs.map Prod.snd).Pairwise (· < ·) := by
  obtain ⟨_, hs, hch⟩ := bookB_bounds hv
  rw [List.pairwise_map]
  exact (chain_pair hch).imp_of_mem (fun {a c} ha hc h => by have := hs c hc; omega)
theorem lo_iff {b : Bk} (hv : bookB b = true) {k : Nat} {lo hi x : Int} (h : b.bs[k]? = some (lo, hi)) : lo ≤ x ↔ k < cnt (b.bs.map Prod.fst) x :=
  cnt_idx (fst_rises hv) (by simp [h])
theorem hi_iff {b : Bk} (hv : bookB b = true) {k : Nat} {lo hi x : Int} (h : b.bs[k]? = some (lo, hi)) : hi ≤ x ↔ k < cnt (b.bs.map Prod.snd) x :=
  cnt_idx (snd_rises hv) (by simp [h])
/-- At a minute at most one bound is open. -/
theorem one_open {b : Bk} (hv : bookB b = true) (x : Int) : cnt (b.bs.map Prod.fst) x ≤ cnt (b.bs.map Prod.snd) x + 1 := by
  have h5 := cnt_le (b.bs.map Prod.fst) x
  rw [List.length_map] at h5
  rcases Nat.lt_or_ge (cnt (b.bs.map Prod.fst) x) 2 with h | h
  · omega
  · obtain ⟨j, ej⟩ : ∃ j, cnt (b.bs.map Prod.fst) x = j + 2 := ⟨_, (Nat.sub_add_cancel h).symm⟩
    rw [ej] at h5 ⊢
    obtain ⟨⟨l0, h0⟩, e0⟩ := get_some b.bs j (by omega)
    obtain ⟨⟨l1, h1⟩, e1⟩ := get_some b.bs (j + 1) (by omega)
    have hp := List.pairwise_iff_getElem.1 (chain_pair (bookB_bounds hv).2.2) j (j + 1) (by omega) (by omega) (by omega)
    rw [(List.getElem?_eq_some_iff.1 e0).2, (List.getElem?_eq_some_iff.1 e1).2] at hp
    dsimp only at hp
    have g1 := (lo_iff hv (x := x) e1).2 (by omega)
    have g0 := (hi_iff hv (x := x) e0).1 (by omega)
    omega
theorem cnt_set : ∀ (l : List Int) (k : Nat) (v x y : Int), l[k]? = some y → cnt (l.set k v) x + (if y ≤ x then 1 else 0) = cnt l x + (if v ≤ x then 1 else 0)
  | a :: l, 0, v, x, y, h => by
    simp at h; subst h
    rw [List.set_cons_zero, cnt_cons, cnt_cons]; omega
  | a :: l, k + 1, v, x, y, h => by
    have := cnt_set l k v x y (by simpa using h)
    rw [List.set_cons_succ, cnt_cons, cnt_cons]; omega
theorem ltc_eq {b : Bk} {k : Nat} (h4 : b.bs.length ≤ 4) (hk : k < b.bs.length) : [ltc b k 0, ltc b k 1, ltc b k 2, ltc b k 3] = tl ((b.bs.map Prod.fst).set k ((b.bs.map Prod.snd).getD k 1440)) := by
  have hk4 : k = 0 ∨ k = 1 ∨ k = 2 ∨ k = 3 := by omega
  rcases four b.bs h4 with e | ⟨x, e⟩ | ⟨x, y, e⟩ | ⟨x, y, z, e⟩ | ⟨x, y, z, u, e⟩ <;> rw [e] at hk <;> simp only [List.length_nil, List.length_cons] at hk <;> rcases hk4 with rfl | rfl | rfl | rfl <;> first
    | omega
    | simp [ltc, e, tl, kspec2, padv]
/-- A shot hangs on a bound at a minute just if that is open then, and the companies before it and behind it are not told alike. -/
theorem hd_eq {b : Bk} (hv : bookB b = true) (st : Nat) (s : Shot) {k : Nat} (hk : k < b.bs.length) {x : Int} (hx : x < 1440) :
    hdB b st k s x = (decide (cnt (b.bs.map Prod.snd) x ≤ k ∧ k < cnt (b.bs.map Prod.fst) x) && (okB b st s k != okB b st s (k + 1))) := by
  have h4 := (bookB_bounds hv).1
  obtain ⟨⟨lo, hi⟩, hb⟩ := get_some b.bs k hk
  have hle := (bookB_bounds hv).2.1 _ (List.mem_of_getElem? hb)
  dsimp only at hle
  have e1 := lo_iff hv (x := x) hb
  have e2 := hi_iff hv (x := x) hb
  have e3 := one_open hv x
  have e5 : (b.bs.map Prod.snd).getD k 1440 = hi := by simp [List.getD_eq_getElem?_getD, hb]
  have e4 := cnt_set (b.bs.map Prod.fst) k hi x lo (by simp [hb])
  unfold hdB
  rw [ltc_eq h4 hk, soon_tl, cnt_tl _ (by simpa using h4) _ hx, cnt_tl _ (by simpa using h4) _ hx, e5]
  by_cases ho : cnt (b.bs.map Prod.snd) x ≤ k ∧ k < cnt (b.bs.map Prod.fst) x
  · have h1 := e1.2 ho.2
    have h2 : ¬ hi ≤ x := fun h => by have := e2.1 h; omega
    rw [if_pos h1, if_neg h2] at e4
    rw [decide_eq_true ho, Bool.true_and, show cnt (b.bs.map Prod.fst) x = k + 1 by omega, show cnt ((b.bs.map Prod.fst).set k hi) x = k by omega]
    cases okB b st s k <;> cases okB b st s (k + 1) <;> rfl
  · rw [decide_eq_false ho, Bool.false_and]
    have : cnt ((b.bs.map Prod.fst).set k hi) x = cnt (b.bs.map Prod.fst) x := by
      by_cases h1 : lo ≤ x
      · have h2 : hi ≤ x := e2.2 (by have := e1.1 h1; omega)
        rw [if_pos h1, if_pos h2] at e4; omega
      · rw [if_neg h1, if_neg (by omega)] at e4; omega
    rw [this]
    simp
/-- How a shot is told whose minute is known. -/
theorem kind_known {b : Bk} (hv : bookB b = true) (st : Nat) (s : Shot) (x : Int) :
    (cnt (b.bs.map Prod.snd) x = cnt (b.bs.map Prod.fst) x ∧ kindOf (okB b st s) (seg (cnt (b.bs.map Prod.snd) x) (cnt (b.bs.map Prod.fst) x)) = if okB b st s (cnt (b.bs.map Prod.fst) x) then 2 else 0) ∨
    (cnt (b.bs.map Prod.fst) x = cnt (b.bs.map Prod.snd) x + 1 ∧ kindOf (okB b st s) (seg (cnt (b.bs.map Prod.snd) x) (cnt (b.bs.map Prod.fst) x)) = if okB b st s (cnt (b.bs.map Prod.snd) x) != okB b st s (cnt (b.bs.map Prod.snd) x + 1) then 1 else if okB b st s (cnt (b.bs.map Prod.snd) x) then 2 else 0) := by
  have h1 := one_open hv x
  have h2 := vOf_between hv [] x
  have h3 : cnt (b.bs.map Prod.fst) x = cnt (b.bs.map Prod.snd) x ∨ cnt (b.bs.map Prod.fst) x = cnt (b.bs.map Prod.snd) x + 1 := by omega
  rcases h3 with h3 | h3
  · left
    refine ⟨h3.symm, ?_⟩
    rw [h3]
    generalize cnt (b.bs.map Prod.snd) x = c
    have e : seg c c = [c] := by simp [seg, upto, List.range_succ]
    rw [e]
    unfold kindOf
    cases h5 : okB b st s c <;> simp [h5]
  · right
    refine ⟨h3, ?_⟩
    rw [h3]
    generalize cnt (b.bs.map Prod.snd) x = c
    have e : seg c (c + 1) = [c, c + 1] := by
      have e2 : c + 1 + 1 - c = 2 := by omega
      simp [seg, upto, e2, List.range_succ]
      omega
    rw [e]
    unfold kindOf
    cases h5 : okB b st s c <;> cases h6 : okB b st s (c + 1) <;> simp [h5, h6]
theorem range_one : ∀ (n c : Nat), c < n → (List.range n).filter (fun k => k == c) = [c]
  | n + 1, c, h => by
    rw [List.range_succ, List.filter_append]
    by_cases e : c = n
    · subst e
      rw [List.filter_eq_nil_iff.2 (fun k hk => by have := List.mem_range.1 hk; simp; omega)]
      simp
    · rw [range_one n c (by omega)]
      have : (n == c) = false := by simp; omega
      simp [List.filter_cons, this]
theorem range_filter_one {n c : Nat} {p : Nat → Bool} (hc : c < n) (h : ∀ k, k < n → (p k = true ↔ k = c)) : (List.range n).filter p = [c] := by
  rw [← range_one n c hc]
  refine List.filter_congr (fun k hk => ?_)
  rw [Bool.eq_iff_iff, h k (List.mem_range.1 hk)]
  simp
theorem hang_known {b : Bk} (hv : bookB b = true) (st : Nat) {s : Shot} {x : Int} (hlo : s.lo = x) (hhi : s.hi = x) (hx : x < 1440) {k : Nat} (hk : k < b.bs.length) :
    hangB b st k s = (decide (cnt (b.bs.map Prod.snd) x ≤ k ∧ k < cnt (b.bs.map Prod.fst) x) && (okB b st s k != okB b st s (k + 1))) := by
  unfold hangB
  have e : mins s.lo s.hi = [x] := by rw [hlo, hhi]; unfold mins mupto; rw [show (x - x + 1).toNat = 1 by omega]; simp [List.range_succ]
  rw [e]
  simp only [List.any_cons, List.any_nil, Bool.or_false]
  exact hd_eq hv st s hk hx
/-- On what a shot hangs whose minute is known. -/
theorem hangs_known {b : Bk} (hv : bookB b = true) (st : Nat) {s : Shot} {x : Int} (hlo : s.lo = x) (hhi : s.hi = x) (hx : x < 1440) :
    (hangsTo b st s b.bs.length = [] ∧ kindOf (okB b st s) (seg (cnt (b.bs.map Prod.snd) x) (cnt (b.bs.map Prod.fst) x)) ≠ 1) ∨
    ∃ k : Nat, k < b.bs.length ∧ hangsTo b st s b.bs.length = [(k : Int)] ∧ kindOf (okB b st s) (seg (cnt (b.bs.map Prod.snd) x) (cnt (b.bs.map Prod.fst) x)) = 1 ∧
      cnt (b.bs.map Prod.snd) x = k ∧ cnt (b.bs.map Prod.fst) x = k + 1 ∧ (okB b st s k != okB b st s (k + 1)) = true := by
  have h5 := cnt_le (b.bs.map Prod.fst) x
  rw [List.length_map] at h5
  have hno : (¬ ∃ k, k < b.bs.length ∧ hangB b st k s = true) → hangsTo b st s b.bs.length = [] := fun h => by
    unfold hangsTo
    rw [List.filter_eq_nil_iff.2 (fun k hk hh => h ⟨k, List.mem_range.1 hk, hh⟩)]
    rfl
  rcases kind_known hv st s x with ⟨e1, e2⟩ | ⟨e1, e2⟩
  · left
    refine ⟨hno (fun ⟨k, hk, hh⟩ => ?_), ?_⟩
    · rw [hang_known hv st hlo hhi hx hk] at hh
      simp only [Bool.and_eq_true, decide_eq_true_eq] at hh
      omega
    · rw [e2]; split <;> decide
  · by_cases hd : (okB b st s (cnt (b.bs.map Prod.snd) x) != okB b st s (cnt (b.bs.map Prod.snd) x + 1)) = true
    · right
      refine ⟨cnt (b.bs.map Prod.snd) x, by omega, ?_, by rw [e2, if_pos hd], rfl, e1, hd⟩
      unfold hangsTo
      rw [range_filter_one (c := cnt (b.bs.map Prod.snd) x) (by omega) (fun k hk => ?_)]
      · rfl
      · rw [hang_known hv st hlo hhi hx hk]
        simp only [Bool.and_eq_true, decide_eq_true_eq]
        constructor
        · rintro ⟨h1, -⟩; omega
        · rintro rfl; exact ⟨by omega, hd⟩
    · left
      refine ⟨hno (fun ⟨k, hk, hh⟩ => ?_), ?_⟩
      · rw [hang_known hv st hlo hhi hx hk] at hh
        simp only [Bool.and_eq_true, decide_eq_true_eq] at hh
        obtain rfl : k = cnt (b.bs.map Prod.snd) x := by omega
        exact hd hh.2
      · rw [e2, if_neg hd]; split <;> decide
/-- What is told of a shot of a known minute is told of the wider one, too. -/
theorem hangs_wide {b : Bk} (st : Nat) {s t : Shot} (hst : t.co = s.co) {x : Int} (hlo : s.lo ≤ x) (hhi : x ≤ s.hi) (h1 : t.lo = x) (h2 : t.hi = x) {k : Nat} (h : hangB b st k t = true) : hangB b st k s = true := by
  unfold hangB at h ⊢
  have e : mins t.lo t.hi = [x] := by rw [h1, h2]; unfold mins mupto; rw [show (x - x + 1).toNat = 1 by omega]; simp [List.range_succ]
  rw [e] at h
  simp only [List.any_cons, List.any_nil, Bool.or_false] at h
  refine List.any_eq_true.2 ⟨x, ?_, ?_⟩
  · simp only [mins, mupto, List.mem_map, List.mem_range]
    exact ⟨(x - s.lo).toNat, by omega, by omega⟩
  · unfold hdB okB at h ⊢
    rw [← hst]
    exact h
end Go.Proofs.YtdmicngnbcdkdaaDoor

namespace Go.Proofs.YtdmicngnbcdkdaaDoor
open Go Go.RowKit

/-- A book of which the minute of a shot, or of a bound, is known. -/
def onlyBk (b : Bk) (k : Nat) (x : Int) : Bk := { b with ss := b.ss.set k { st := (b.ss.getD k ⟨0, 0, 0, 0⟩).st, co := (b.ss.getD k ⟨0, 0, 0, 0⟩).co, lo := x, hi := x } }
def knownBk (b : Bk) (k : Nat) (v : Int) : Bk := { b with bs := b.bs.set k (v, v) }
theorem chain_less {p q : Int} (h : q ≤ p) : ∀ {l : List (Int × Int)}, chainB p l = true → chainB q l = true
  | [], _ => rfl
  | s :: l, hc => by
    simp only [chainB, Bool.and_eq_true, decide_eq_true_eq] at hc ⊢
    exact ⟨⟨hc.1.1, by omega⟩, hc.2⟩
theorem chain_set : ∀ {l : List (Int × Int)} {p : Int} {k : Nat} {lo hi v : Int}, chainB p l = true → l[k]? = some (lo, hi) → lo ≤ v → v ≤ hi → chainB p (l.set k (v, v)) = true
  | s :: l, p, 0, lo, hi, v, hc, hk, h1, h2 => by
    simp at hk; subst hk
    simp only [chainB, Bool.and_eq_true, decide_eq_true_eq, List.set_cons_zero] at hc ⊢
    have hm := momB_iff.1 hc.1.1
    unfold Mom at hm
    exact ⟨⟨momB_iff.2 (by unfold Mom; omega), by omega⟩, chain_less (by omega) hc.2⟩
  | s :: l, p, k + 1, lo, hi, v, hc, hk, h1, h2 => by
    simp only [chainB, Bool.and_eq_true, decide_eq_true_eq, List.set_cons_succ] at hc ⊢
    exact ⟨hc.1, chain_set hc.2 (by simpa using hk) h1 h2⟩
theorem known_ok {b : Bk} (hv : bookB b = true) {k : Nat} {lo hi v : Int} (hk : b.bs[k]? = some (lo, hi)) (h1 : lo ≤ v) (h2 : v ≤ hi) : bookB (knownBk b k v) = true := by
  simp only [bookB, boundsB, Bool.and_eq_true, decide_eq_true_eq] at hv ⊢
  obtain ⟨⟨⟨ha, hb1, hb2⟩, hc⟩, hd⟩ := hv
  refine ⟨⟨⟨ha, by simpa [knownBk] using hb1, chain_set hb2 hk h1 h2⟩, ?_⟩, hd⟩
  simpa [knownBk] using hc
theorem only_ok {b : Bk} (hv : bookB b = true) {k : Nat} {s : Shot} {x : Int} (hk : b.ss[k]? = some s) (h1 : s.lo ≤ x) (h2 : x ≤ s.hi) : bookB (onlyBk b k x) = true := by
  have hb := bookB_shot hv hk
  have hm := hb.2.2
  unfold Mom at hm
  simp only [bookB, shotsB, Bool.and_eq_true, decide_eq_true_eq] at hv ⊢
  obtain ⟨⟨⟨ha, hb'⟩, hc⟩, hd, he⟩ := hv
  refine ⟨⟨⟨ha, hb'⟩, hc⟩, by simpa [onlyBk] using hd, ?_⟩
  rw [List.all_eq_true]
  intro t ht
  rcases List.mem_or_eq_of_mem_set ht with ht | rfl
  · exact List.all_eq_true.1 he t ht
  · have e : b.ss.getD k ⟨0, 0, 0, 0⟩ = s := by simp [List.getD_eq_getElem?_getD, hk]
    rw [e]
    simp only [shotB, Bool.and_eq_true]
    exact ⟨⟨isN_yes hb.1, isN_yes hb.2.1⟩, momB_iff.2 (by unfold Mom; omega)⟩
theorem only_get {b : Bk} {k : Nat} {s : Shot} {x : Int} (hk : b.ss[k]? = some s) : (onlyBk b k x).ss[k]? = some ⟨s.st, s.co, x, x⟩ := by
  have hl := (List.getElem?_eq_some_iff.1 hk).1
  have e : b.ss.getD k ⟨0, 0, 0, 0⟩ = s := by simp [List.getD_eq_getElem?_getD, hk]
  unfold onlyBk
  rw [e]
  simp [hl]
/-- Once the minute of the open bound is known, the shot is told by the turn before it, or behind it. -/
theorem known_kind {b : Bk} (hv : bookB b = true) (st : Nat) (s : Shot) {k : Nat} {x lo hi v : Int} (hk : b.bs[k]? = some (lo, hi)) (h1 : lo ≤ v) (h2 : v ≤ hi) (e1 : cnt (b.bs.map Prod.snd) x = k) (e2 : cnt (b.bs.map Prod.fst) x = k + 1) :
    kindOf (okB b st s) (seg (cnt ((knownBk b k v).bs.map Prod.snd) x) (cnt ((knownBk b k v).bs.map Prod.fst) x)) = if okB b st s (if v ≤ x then k + 1 else k) then 2 else 0 := by
  have a1 := cnt_set (b.bs.map Prod.snd) k v x hi (by simp [hk])
  have a2 := cnt_set (b.bs.map Prod.fst) k v x lo (by simp [hk])
  have g1 := (lo_iff hv (x := x) hk).2 (by omega)
  have g2 : ¬ hi ≤ x := fun h => by have := (hi_iff hv (x := x) hk).1 h; omega
  have m1 : (knownBk b k v).bs.map Prod.snd = (b.bs.map Prod.snd).set k v := by simp [knownBk, List.map_set]
  have m2 : (knownBk b k v).bs.map Prod.fst = (b.bs.map Prod.fst).set k v := by simp [knownBk, List.map_set]
  rw [m1, m2]
  rw [if_neg g2] at a1
  rw [if_pos g1] at a2
  have c1 : cnt ((b.bs.map Prod.snd).set k v) x = if v ≤ x then k + 1 else k := by split <;> simp_all
  have c2 : cnt ((b.bs.map Prod.fst).set k v) x = if v ≤ x then k + 1 else k := by split <;> simp_all
  rw [c1, c2]
  generalize (if v ≤ x then k + 1 else k) = c
  have e : seg c c = [c] := by simp [seg, upto, List.range_succ]
  rw [e]
  unfold kindOf
  cases h5 : okB b st s c <;> simp [h5]
/-- On what a shot hangs is a list of bounds, in order. -/
theorem hangsTo_rises (b : Bk) (st : Nat) (s : Shot) (n : Nat) : risesB (n : Int) 0 (hangsTo b st s n) = true := by
  refine risesB_of _ _ (fun x hx => ?_) ?_
  · unfold hangsTo at hx
    obtain ⟨k, hk, rfl⟩ := List.mem_map.1 hx
    have := List.mem_range.1 (List.mem_filter.1 hk).1
    omega
  · unfold hangsTo
    rw [List.pairwise_map]
    exact (List.pairwise_lt_range.sublist List.filter_sublist).imp (fun {a c} h => by omega)
end Go.Proofs.YtdmicngnbcdkdaaDoor

namespace Go.Proofs.YtdmicngnbcdkdaaDoor
open Go Go.RowKit

/-- More is known of the bounds and the shots of a book. -/
structure More (X b : Bk) : Prop where
  os : X.os = b.os
  bl : X.bs.length = b.bs.length
  bs : ∀ (j : Nat) (lo hi : Int), b.bs[j]? = some (lo, hi) → ∃ lo' hi', X.bs[j]? = some (lo', hi') ∧ lo ≤ lo' ∧ hi' ≤ hi
  sl : X.ss.length = b.ss.length
  ss : ∀ (i : Nat) (s : Shot), b.ss[i]? = some s → ∃ t, X.ss[i]? = some t ∧ t.st = s.st ∧ t.co = s.co ∧ s.lo ≤ t.lo ∧ t.hi ≤ s.hi
theorem More.refl (b : Bk) : More b b := ⟨rfl, rfl, fun _ lo hi h => ⟨lo, hi, h, by omega, by omega⟩, rfl, fun _ s h => ⟨s, h, rfl, rfl, by omega, by omega⟩⟩
theorem More.trans {X Y b : Bk} (h : More X Y) (k : More Y b) : More X b where
  os := h.os.trans k.os
  bl := h.bl.trans k.bl
  bs := fun j lo hi e => by
    obtain ⟨l1, h1, e1, a, c⟩ := k.bs j lo hi e
    obtain ⟨l2, h2, e2, a', c'⟩ := h.bs j l1 h1 e1
    exact ⟨l2, h2, e2, by omega, by omega⟩
  sl := h.sl.trans k.sl
  ss := fun i s e => by
    obtain ⟨t, e1, a1, a2, a3, a4⟩ := k.ss i s e
    obtain ⟨u, e2, c1, c2, c3, c4⟩ := h.ss i t e1
    exact ⟨u, e2, c1.trans a1, c2.trans a2, by omega, by omega⟩
theorem known_get {b : Bk} {k : Nat} {v : Int} (hk : k < b.bs.length) : (knownBk b k v).bs[k]? = some (v, v) := by simp [knownBk, hk]
theorem known_more {b : Bk} {k : Nat} {lo hi v : Int} (hk : b.bs[k]? = some (lo, hi)) (h1 : lo ≤ v) (h2 : v ≤ hi) : More (knownBk b k v) b where
  os := rfl
  bl := by simp [knownBk]
  bs := fun j lo' hi' e => by
    by_cases hj : j = k
    · subst hj
      rw [hk] at e
      cases e
      exact ⟨v, v, known_get (List.getElem?_eq_some_iff.1 hk).1, h1, h2⟩
    · exact ⟨lo', hi', by simp only [knownBk]; rw [List.getElem?_set_ne (Ne.symm hj)]; exact e, by omega, by omega⟩
  sl := rfl
  ss := fun i s e => ⟨s, e, rfl, rfl, by omega, by omega⟩
theorem only_more {b : Bk} {k : Nat} {s : Shot} {x : Int} (hk : b.ss[k]? = some s) (h1 : s.lo ≤ x) (h2 : x ≤ s.hi) : More (onlyBk b k x) b where
  os := rfl
  bl := rfl
  bs := fun j lo hi e => ⟨lo, hi, e, by omega, by omega⟩
  sl := by simp [onlyBk]
  ss := fun i t e => by
    by_cases hj : i = k
    · subst hj
      rw [hk] at e
      cases e
      exact ⟨_, only_get hk, rfl, rfl, h1, h2⟩
    · exact ⟨t, by simp only [onlyBk]; rw [List.getElem?_set_ne (Ne.symm hj)]; exact e, rfl, rfl, by omega, by omega⟩

theorem More.fst {X b : Bk} (h : More X b) (m : Int) : cnt (X.bs.map Prod.fst) m ≤ cnt (b.bs.map Prod.fst) m :=
  cnt_each _ _ (by simp [h.bl]) (fun i x y hx hy => by
    rw [List.getElem?_map, Option.map_eq_some_iff] at hx hy
    obtain ⟨⟨a, c⟩, hx, rfl⟩ := hx
    obtain ⟨⟨d, e⟩, hy, rfl⟩ := hy
    obtain ⟨l1, h1, e1, g, _⟩ := h.bs i d e hy
    rw [hx] at e1; cases e1
    exact g) m
theorem More.snd {X b : Bk} (h : More X b) (m : Int) : cnt (b.bs.map Prod.snd) m ≤ cnt (X.bs.map Prod.snd) m :=
  cnt_each _ _ (by simp [h.bl]) (fun i x y hx hy => by
    rw [List.getElem?_map, Option.map_eq_some_iff] at hx hy
    obtain ⟨⟨a, c⟩, hx, rfl⟩ := hx
    obtain ⟨⟨d, e⟩, hy, rfl⟩ := hy
    obtain ⟨l1, h1, e1, _, g⟩ := h.bs i a c hx
    rw [hy] at e1; cases e1
    exact g) m

theorem kind_sub {ok : Nat → Bool} {l m : List Nat} {x : Nat} (hx : x ∈ l) (hs : ∀ y ∈ l, y ∈ m) (h : kindOf ok m ≠ 1) : kindOf ok l = kindOf ok m := by
  unfold kindOf at h ⊢
  by_cases h1 : m.all ok = true
  · have h2 : l.all ok = true := List.all_eq_true.2 (fun y hy => List.all_eq_true.1 h1 y (hs y hy))
    rw [if_pos h1, if_pos h2]
  · rw [if_neg h1] at h ⊢
    by_cases h2 : m.any ok = true
    · rw [if_pos h2] at h; exact absurd rfl h
    · rw [if_neg h2]
      have h3 : ¬ l.any ok = true := fun hc => by
        obtain ⟨y, hy, hk⟩ := List.any_eq_true.1 hc
        exact h2 (List.any_eq_true.2 ⟨y, hs y hy, hk⟩)
      have h4 : ¬ l.all ok = true := fun hc => h3 (List.any_eq_true.2 ⟨x, hx, List.all_eq_true.1 hc x hx⟩)
      rw [if_neg h4, if_neg h3]

/-- What was fair in each truth, or in none, still is. -/
theorem More.kind {X b : Bk} (h : More X b) (hv : bookB b = true) (hx : bookB X = true) {i : Nat} {s t : Shot} (hs : b.ss[i]? = some s) (ht : X.ss[i]? = some t) {st : Nat} {K K' : Int}
    (hK : kindOf (fun u => ownf b.os st u == s.co) (seg (cnt (lateL b.bs) s.lo) (cnt (soonL b.bs) s.hi)) = K)
    (hK' : kindOf (fun u => ownf X.os st u == t.co) (seg (cnt (lateL X.bs) t.lo) (cnt (soonL X.bs) t.hi)) = K') (h1 : K ≠ 1) : K' = K := by
  obtain ⟨t', e, e1, e2, e3, e4⟩ := h.ss i s hs
  rw [ht] at e; cases e
  have h4 := (bookB_bounds hv).1
  have h4' := (bookB_bounds hx).1
  obtain ⟨-, -, m1⟩ := bookB_shot hv hs
  obtain ⟨-, -, m2⟩ := bookB_shot hx ht
  unfold Mom at m1 m2
  rw [← hK, ← hK'] 
  rw [← hK] at h1
  rw [h.os, e2]
  have a1 : cnt (lateL b.bs) s.lo = cnt (b.bs.map Prod.snd) s.lo := by rw [late_tl]; exact cnt_tl _ (by simpa using h4) _ (by omega)
  have a2 : cnt (soonL b.bs) s.hi = cnt (b.bs.map Prod.fst) s.hi := by rw [soon_tl]; exact cnt_tl _ (by simpa using h4) _ (by omega)
  have a3 : cnt (lateL X.bs) t.lo = cnt (X.bs.map Prod.snd) t.lo := by rw [late_tl]; exact cnt_tl _ (by simpa using h4') _ (by omega)
  have a4 : cnt (soonL X.bs) t.hi = cnt (X.bs.map Prod.fst) t.hi := by rw [soon_tl]; exact cnt_tl _ (by simpa using h4') _ (by omega)
  rw [a1, a2] at h1 ⊢
  rw [a3, a4]
  have g1 := h.snd s.lo
  have g2 := h.fst t.hi
  have g3 := cnt_mono (X.bs.map Prod.snd) _ _ e3
  have g4 := cnt_mono (b.bs.map Prod.fst) _ _ e4
  have g5 := (vOf_between hx [] t.lo)
  have g6 := cnt_mono (X.bs.map Prod.fst) t.lo t.hi (by omega)
  refine kind_sub (x := cnt (X.bs.map Prod.snd) t.lo) (mem_seg.2 ⟨Nat.le_refl _, by omega⟩) (fun y hy => ?_) h1
  rw [mem_seg] at hy ⊢
  omega

theorem allT_fst {b : Bk} (hv : bookB b = true) : b.bs.map Prod.fst ∈ allT b := by
  obtain ⟨_, hs, _⟩ := bookB_bounds hv
  unfold allT
  rw [mem_prodL]
  refine ⟨by simp [MS], fun i x l hx hl => ?_⟩
  unfold MS at hl
  rw [List.getElem?_map, Option.map_eq_some_iff] at hl hx
  obtain ⟨⟨lo, hi⟩, hl, rfl⟩ := hl
  obtain ⟨⟨lo', hi'⟩, hx, rfl⟩ := hx
  rw [hl] at hx; cases hx
  have := hs _ (List.mem_of_getElem? hl)
  dsimp only at this
  simp only [mins, mupto, List.mem_map, List.mem_range]
  exact ⟨0, by omega, by omega⟩
theorem More.allT {X b : Bk} (h : More X b) {v : List Int} (hv : v ∈ allT X) : v ∈ allT b := by
  unfold Proofs.YtdmicngnbcdkdaaDoor.allT at hv ⊢
  rw [mem_prodL] at hv ⊢
  obtain ⟨h1, h2⟩ := hv
  refine ⟨by simpa [MS, h.bl] using h1, fun i x l hx hl => ?_⟩
  unfold MS at hl h2
  rw [List.getElem?_map, Option.map_eq_some_iff] at hl
  obtain ⟨⟨lo, hi⟩, hl, rfl⟩ := hl
  obtain ⟨lo', hi', e, g1, g2⟩ := h.bs i lo hi hl
  have h3 := mem_mins (h2 i x _ hx (by rw [List.getElem?_map, e]; rfl))
  dsimp only at h3
  simp only [mins, mupto, List.mem_map, List.mem_range]
  exact ⟨(x - lo).toNat, by omega, by omega⟩
theorem unf_more {X b : Bk} (h : More X b) (hv : bookB b = true) (hx : bookB X = true) {v : List Int} (hl : v.length = b.bs.length) {i : Nat} (hu : unfairB b v i = true) : unfairB X v i = true := by
  unfold unfairB at hu ⊢
  cases hs : b.ss[i]? with
  | none => rw [hs] at hu; cases hu
  | some s =>
    rw [hs] at hu
    obtain ⟨t, e, e1, e2, e3, e4⟩ := h.ss i s hs
    rw [e]
    dsimp only at hu ⊢
    obtain ⟨-, -, m1⟩ := bookB_shot hv hs
    obtain ⟨-, -, m2⟩ := bookB_shot hx e
    unfold Mom at m1 m2
    have h4 := (bookB_bounds hv).1
    have h0 := eq_of_beq hu
    unfold jk at h0 ⊢
    have g3 := cnt_mono (tl v) _ _ e3
    have g4 := cnt_mono (tl v) _ _ e4
    have g6 := cnt_mono (tl v) t.lo t.hi (by omega)
    rw [h.os, e1, e2]
    rw [kind_sub (m := seg (cnt (tl v) s.lo) (cnt (tl v) s.hi)) (x := cnt (tl v) t.lo) (mem_seg.2 ⟨Nat.le_refl _, g6⟩) (fun y hy => by rw [mem_seg] at hy; exact mem_seg.2 ⟨by omega, by omega⟩) (by rw [h0]; decide), h0]
    rfl
theorem U_more {X b : Bk} (h : More X b) (hv : bookB b = true) (hx : bookB X = true) {v : List Int} (hl : v.length = b.bs.length) : (U b v).length ≤ (U X v).length := by
  unfold U unfairL
  rw [List.length_map, List.length_map, h.sl, ← List.countP_eq_length_filter, ← List.countP_eq_length_filter]
  exact List.countP_mono_left (fun i _ hu => unf_more h hv hx hl hu)
/-- The best list is no longer than that of any truth, and is that of one. -/
theorem wrong_min {b : Bk} {v : List Int} (h : v ∈ allT b) : (wrongL b).length ≤ (U b v).length := by
  have h := (bestOf_le (U b (b.bs.map Prod.fst)) ((allT b).map (U b))).2 _ (List.mem_map.2 ⟨_, h, rfl⟩)
  simp only [fewerB, Bool.or_eq_false_iff, decide_eq_false_iff_not] at h
  show (bestOf (U b (b.bs.map Prod.fst)) ((allT b).map (U b))).length ≤ _
  omega
theorem wrong_of {b : Bk} (hv : bookB b = true) : ∃ v ∈ allT b, wrongL b = U b v := by
  unfold wrongL wrongOf
  rcases bestOf_mem (U b (b.bs.map Prod.fst)) ((allT b).map (U b)) with h | h
  · exact ⟨_, allT_fst hv, h⟩
  · obtain ⟨v, h1, h2⟩ := List.mem_map.1 h
    exact ⟨v, h1, h2.symm⟩
/-- No fewer shots must be unfair. -/
theorem More.wrong {X b : Bk} (h : More X b) (hv : bookB b = true) (hx : bookB X = true) : (wrongL b).length ≤ (wrongL X).length := by
  obtain ⟨v, h1, h2⟩ := wrong_of hx
  have h3 := h.allT h1
  rw [h2]
  exact Nat.le_trans (wrong_min h3) (U_more h hv hx (allT_len h3))

/-- No shot hangs on a bound of which the minute is known; on the others it hangs only if it did. -/
theorem hang_of_known {b : Bk} (hv : bookB b = true) {k : Nat} {lo hi v : Int} (hk : b.bs[k]? = some (lo, hi)) (h1 : lo ≤ v) (h2 : v ≤ hi) (st : Nat) {s : Shot} (hs : s.hi < 1440) : hangB (knownBk b k v) st k s = false := by
  have hv' := known_ok hv hk h1 h2
  have hl := (List.getElem?_eq_some_iff.1 hk).1
  cases hc : hangB (knownBk b k v) st k s with
  | false => rfl
  | true =>
    unfold hangB at hc
    obtain ⟨m, hm, hd⟩ := List.any_eq_true.1 hc
    have hm2 := mem_mins hm
    rw [hd_eq hv' st s (by simpa [knownBk] using hl) (by omega)] at hd
    simp only [Bool.and_eq_true, decide_eq_true_eq] at hd
    have e1 := lo_iff hv' (x := m) (known_get hl)
    have e2 := hi_iff hv' (x := m) (known_get hl)
    have := e2.1 (e1.2 hd.1.2)
    omega
theorem hang_less {b : Bk} (hv : bookB b = true) {k : Nat} {lo hi v : Int} (hk : b.bs[k]? = some (lo, hi)) (h1 : lo ≤ v) (h2 : v ≤ hi) (st : Nat) {s : Shot} (hs : s.hi < 1440) {j : Nat} (hj : j < b.bs.length) (h : hangB (knownBk b k v) st j s = true) : hangB b st j s = true := by
  have hv' := known_ok hv hk h1 h2
  by_cases hjk : j = k
  · subst hjk
    rw [hang_of_known hv hk h1 h2 st hs] at h; cases h
  · unfold hangB at h ⊢
    obtain ⟨m, hm, hd⟩ := List.any_eq_true.1 h
    have hm2 := mem_mins hm
    refine List.any_eq_true.2 ⟨m, hm, ?_⟩
    rw [hd_eq hv' st s (by simpa [knownBk] using hj) (by omega)] at hd
    rw [hd_eq hv st s hj (by omega)]
    simp only [Bool.and_eq_true, decide_eq_true_eq] at hd ⊢
    obtain ⟨⟨a, c⟩, hb⟩ := get_some b.bs j hj
    have hb' : (knownBk b k v).bs[j]? = some (a, c) := by simp only [knownBk]; rw [List.getElem?_set_ne (Ne.symm hjk)]; exact hb
    have e1 := lo_iff hv' (x := m) hb'
    have e2 := hi_iff hv' (x := m) hb'
    have e3 := lo_iff hv (x := m) hb
    have e4 := hi_iff hv (x := m) hb
    refine ⟨⟨?_, e3.1 (e1.2 hd.1.2)⟩, hd.2⟩
    have : ¬ j < cnt (b.bs.map Prod.snd) m := fun hc => by have := e2.1 (e4.2 hc); omega
    omega
theorem mem_hangsTo {b : Bk} {st : Nat} {s : Shot} {n : Nat} {x : Int} : x ∈ hangsTo b st s n ↔ ∃ j : Nat, j < n ∧ hangB b st j s = true ∧ x = (j : Int) := by
  unfold hangsTo
  rw [List.mem_map]
  constructor
  · rintro ⟨j, hj, rfl⟩
    rw [List.mem_filter, List.mem_range] at hj
    exact ⟨j, hj.1, hj.2, rfl⟩
  · rintro ⟨j, h1, h2, rfl⟩
    exact ⟨j, List.mem_filter.2 ⟨List.mem_range.2 h1, h2⟩, rfl⟩
theorem known_hangs {b : Bk} (hv : bookB b = true) {k : Nat} {lo hi v : Int} (hk : b.bs[k]? = some (lo, hi)) (h1 : lo ≤ v) (h2 : v ≤ hi) (st : Nat) {s : Shot} (hs : s.hi < 1440) :
    (k : Int) ∉ hangsTo (knownBk b k v) st s b.bs.length ∧ ∀ x ∈ hangsTo (knownBk b k v) st s b.bs.length, x ∈ hangsTo b st s b.bs.length := by
  constructor
  · intro hc
    obtain ⟨j, h3, h4, h5⟩ := mem_hangsTo.1 hc
    obtain rfl : k = j := by omega
    rw [hang_of_known hv hk h1 h2 st hs] at h4; cases h4
  · intro x hx
    obtain ⟨j, h3, h4, rfl⟩ := mem_hangsTo.1 hx
    exact mem_hangsTo.2 ⟨j, h3, hang_less hv hk h1 h2 st hs h3 h4, rfl⟩

theorem setN_sub {l m : List Int} (h : ∀ x ∈ l, x ∈ m) : setN l ||| setN m = setN m := by
  apply Nat.eq_of_testBit_eq
  intro i
  rw [Nat.testBit_or]
  unfold setN
  rw [setB_bit, setB_bit]
  cases h1 : l.any (fun x => x.toNat == i) with
  | false => simp
  | true =>
    obtain ⟨x, hx, hi⟩ := List.any_eq_true.1 h1
    have : m.any (fun x => x.toNat == i) = true := List.any_eq_true.2 ⟨x, h x hx, hi⟩
    rw [this]; simp
theorem bits_orN : ∀ a : Nat, a < 16 → ∀ c : Nat, c < 16 → bits .or .i64 (a : Int) (c : Int) = ((a ||| c : Nat) : Int) := by decide +kernel
end Go.Proofs.YtdmicngnbcdkdaaDoor

namespace Go.Proofs.YtdmicngnbcdkdaaDoor
open Go Go.RowKit

theorem mem_U {b : Bk} {v : List Int} {x : Int} : x ∈ U b v ↔ ∃ i : Nat, i < b.ss.length ∧ unfairB b v i = true ∧ x = (i : Int) := by
  unfold U unfairL
  rw [List.mem_map]
  constructor
  · rintro ⟨i, hi, rfl⟩
    rw [List.mem_filter, List.mem_range] at hi
    exact ⟨i, hi.1, hi.2, rfl⟩
  · rintro ⟨i, h1, h2, rfl⟩
    exact ⟨i, List.mem_filter.2 ⟨List.mem_range.2 h1, h2⟩, rfl⟩
theorem U_rises (b : Bk) (v : List Int) : (U b v).Pairwise (· < ·) := by
  unfold U unfairL
  rw [List.pairwise_map]
  exact (List.pairwise_lt_range.sublist List.filter_sublist).imp (fun {a c} h => by omega)
theorem sub_sorted : ∀ {l m : List Int}, l.Pairwise (· < ·) → m.Pairwise (· < ·) → (∀ x ∈ l, x ∈ m) → l.Sublist m
  | [], m, _, _, _ => List.nil_sublist m
  | a :: l, [], _, _, h => by have := h a (by simp); simp at this
  | a :: l, c :: m, hl, hm, h => by
    rw [List.pairwise_cons] at hl hm
    by_cases e : a = c
    · subst e
      refine List.Sublist.cons_cons a (sub_sorted hl.2 hm.2 (fun x hx => ?_))
      rcases List.mem_cons.1 (h x (by simp [hx])) with rfl | h2
      · have := hl.1 x hx; omega
      · exact h2
    · have ha : a ∈ m := by
        rcases List.mem_cons.1 (h a (by simp)) with h2 | h2
        · exact absurd h2 e
        · exact h2
      refine List.Sublist.cons c (sub_sorted (List.pairwise_cons.2 hl) hm.2 (fun x hx => ?_))
      rcases List.mem_cons.1 hx with rfl | hx
      · exact ha
      · rcases List.mem_cons.1 (h x (by simp [hx])) with rfl | h2
        · have := hl.1 x hx; have := hm.1 a ha; omega
        · exact h2
theorem allT_ends {b : Bk} {v : List Int} (h : v ∈ allT b) (m : Int) : cnt (b.bs.map Prod.snd) m ≤ cnt v m ∧ cnt v m ≤ cnt (b.bs.map Prod.fst) m := by
  have hl := allT_len h
  unfold allT at h
  rw [mem_prodL] at h
  have hbd : ∀ (i : Nat) (x lo hi : Int), v[i]? = some x → b.bs[i]? = some (lo, hi) → lo ≤ x ∧ x ≤ hi := fun i x lo hi hx hb => by
    have := h.2 i x (mins lo hi) hx (by unfold MS; rw [List.getElem?_map, hb]; rfl)
    exact mem_mins this
  constructor
  · refine cnt_each _ _ (by simp [hl]) (fun i x y hx hy => ?_) m
    rw [List.getElem?_map, Option.map_eq_some_iff] at hx
    obtain ⟨⟨lo, hi⟩, hx, rfl⟩ := hx
    exact (hbd i y lo hi hy hx).2
  · refine cnt_each _ _ (by simp [hl]) (fun i x y hx hy => ?_) m
    rw [List.getElem?_map, Option.map_eq_some_iff] at hy
    obtain ⟨⟨lo, hi⟩, hy, rfl⟩ := hy
    exact (hbd i x lo hi hx hy).1
end Go.Proofs.YtdmicngnbcdkdaaDoor

