/- The number of a list to which any number leads. -/
/- Plain facts: true minutes that numbers choose. -/
/- Plain facts: what truly was the turn lies between what is known; no fewer shots are truly unfair than must be. -/
import Derived.Test.YtdmicngnbcdkdaaDoorRTa
import Derived.Test.YtdmicngnbcdkdaaDoorRYa0
import Derived.Test.YtdmicngnbcdkdaaDoorRIt
import Derived.Test.YtdmicngnbcdkdaaDoorRUi
set_option linter.unusedSimpArgs false
set_option linter.unusedVariables false
namespace Go.Proofs.YtdmicngnbcdkdaaDoor
open Go Go.RowKit

/-- The number of a list to which any number leads. -/
def pickI (l : List Int) (n : Int) : Int := if l.length < 1 then 0 else l.getD (n % (l.length : Int)).toNat 0
end Go.Proofs.YtdmicngnbcdkdaaDoor

namespace Go.Proofs.YtdmicngnbcdkdaaDoor
open Go Go.RowKit

/-- The true minute of a span that a number chooses. -/
def someI (lo hi n : Int) : Int := lo + n % (hi - lo + 1)
/-- The true minutes of all bounds, as numbers choose them. -/
def vOf (b : Bk) (bits : List Int) : List Int := (List.range b.bs.length).map fun k => someI (b.bs.getD k (0, 0)).1 (b.bs.getD k (0, 0)).2 (pickI bits (k : Int))
theorem vOf_len (b : Bk) (bits : List Int) : (vOf b bits).length = b.bs.length := by simp [vOf]
theorem vOf_get {b : Bk} {bits : List Int} {k : Nat} {lo hi : Int} (h : b.bs[k]? = some (lo, hi)) : (vOf b bits)[k]? = some (someI lo hi (pickI bits (k : Int))) := by
  have hk := (List.getElem?_eq_some_iff.1 h).1
  simp [vOf, List.getElem?_map, List.getElem?_range hk, List.getD_eq_getElem?_getD, h]
theorem someI_bd {lo hi n : Int} (h : lo ≤ hi) : lo ≤ someI lo hi n ∧ someI lo hi n ≤ hi := by
  have h1 := Int.emod_nonneg n (show hi - lo + 1 ≠ 0 by omega)
  have h2 := Int.emod_lt_of_pos n (show 0 < hi - lo + 1 by omega)
  unfold someI
  omega
theorem chain_later {p : Int} {l : List (Int × Int)} (h : chainB p l = true) : ∀ s ∈ l, p < s.1 := by
  induction l generalizing p with
  | nil => simp
  | cons s l ih =>
    simp only [chainB, Bool.and_eq_true, decide_eq_true_eq] at h
    intro x hx
    rcases List.mem_cons.1 hx with rfl | hx
    · exact h.1.2
    · have := ih h.2 x hx
      have hm := momB_iff.1 h.1.1
      unfold Mom at hm
      omega
theorem chain_pair {p : Int} {l : List (Int × Int)} (h : chainB p l = true) : l.Pairwise fun s t => s.2 < t.1 := by
  induction l generalizing p with
  | nil => exact List.Pairwise.nil
  | cons s l ih =>
    simp only [chainB, Bool.and_eq_true, decide_eq_true_eq] at h
    exact List.pairwise_cons.2 ⟨fun t ht => chain_later h.2 t ht, ih h.2⟩
/-- The bounds truly come one behind the other. -/
theorem vOf_rises {b : Bk} (hv : bookB b = true) (bits : List Int) : (vOf b bits).Pairwise (· < ·) := by
  obtain ⟨_, hs, hch⟩ := bookB_bounds hv
  have hp := chain_pair hch
  rw [List.pairwise_iff_getElem] at hp ⊢
  intro i j hi hj hij
  rw [vOf_len] at hi hj
  have hgi := vOf_get (b := b) (bits := bits) (k := i) (List.getElem?_eq_getElem hi)
  have hgj := vOf_get (b := b) (bits := bits) (k := j) (List.getElem?_eq_getElem hj)
  rw [List.getElem?_eq_getElem (by rw [vOf_len]; exact hi), Option.some.injEq] at hgi
  rw [List.getElem?_eq_getElem (by rw [vOf_len]; exact hj), Option.some.injEq] at hgj
  rw [hgi, hgj]
  have h1 := someI_bd (n := pickI bits (i : Int)) (hs _ (List.getElem_mem hi))
  have h2 := someI_bd (n := pickI bits (j : Int)) (hs _ (List.getElem_mem hj))
  have h3 := hp i j hi hj hij
  exact Int.lt_of_le_of_lt h1.2 (Int.lt_of_lt_of_le h3 h2.1)
/-- Of what rises, as many are at most a number as there are before the first one above it. -/
theorem cnt_first {l : List Int} {k : Nat} {m : Int} (hk : k ≤ l.length) (h1 : ∀ j x, j < k → l[j]? = some x → x ≤ m) (h2 : k = l.length ∨ ∃ x, l[k]? = some x ∧ m < x) (hp : l.Pairwise (· < ·)) : cnt l m = k := by
  have e : l = l.take k ++ l.drop k := (List.take_append_drop k l).symm
  rw [e]
  unfold cnt
  rw [List.filter_append]
  have f1 : (l.take k).filter (fun t => decide (t ≤ m)) = l.take k := by
    rw [List.filter_eq_self]
    intro x hx
    obtain ⟨j, hj, rfl⟩ := List.mem_iff_getElem.1 hx
    have hjk : j < k := by simp at hj; omega
    rw [List.getElem_take]
    exact decide_eq_true (h1 j _ hjk (List.getElem?_eq_getElem (by omega)))
  have f2 : (l.drop k).filter (fun t => decide (t ≤ m)) = [] := by
    rw [List.filter_eq_nil_iff]
    intro x hx
    rcases h2 with h2 | ⟨y, hy, hmy⟩
    · rw [List.drop_eq_nil_of_le (by omega)] at hx; cases hx
    · rw [drop_of_get hy] at hx
      have hpd : (l.drop k).Pairwise (· < ·) := hp.sublist (List.drop_sublist k l)
      rw [drop_of_get hy, List.pairwise_cons] at hpd
      rcases List.mem_cons.1 hx with rfl | hx
      · simp; omega
      · have := hpd.1 x hx
        simp; omega
  rw [f1, f2]
  simp
  omega
end Go.Proofs.YtdmicngnbcdkdaaDoor

namespace Go.Proofs.YtdmicngnbcdkdaaDoor
open Go Go.RowKit

theorem cnt_each : ∀ (l m : List Int), l.length = m.length → (∀ (i : Nat) (x y : Int), l[i]? = some x → m[i]? = some y → y ≤ x) → ∀ t, cnt l t ≤ cnt m t
  | [], [], _, _, _ => Nat.le_refl _
  | x :: l, y :: m, h, k, t => by
    have h1 := cnt_each l m (by simpa using h) (fun i a c ha hc => k (i + 1) a c (by simpa using ha) (by simpa using hc)) t
    have h2 := k 0 x y rfl rfl
    rw [cnt_cons, cnt_cons]
    split <;> split <;> omega
  | [], _ :: _, h, _, _ => by simp at h
  | _ :: _, [], h, _, _ => by simp at h
theorem vOf_bd {b : Bk} (hv : bookB b = true) (bits : List Int) {i : Nat} {x lo hi : Int} (h1 : (vOf b bits)[i]? = some x) (h2 : b.bs[i]? = some (lo, hi)) : lo ≤ x ∧ x ≤ hi := by
  obtain ⟨_, hs, _⟩ := bookB_bounds hv
  rw [vOf_get h2] at h1
  cases h1
  exact someI_bd (hs _ (List.mem_of_getElem? h2))
/-- The true turn lies between the least and the greatest. -/
theorem vOf_between {b : Bk} (hv : bookB b = true) (bits : List Int) (t : Int) : cnt (b.bs.map Prod.snd) t ≤ cnt (vOf b bits) t ∧ cnt (vOf b bits) t ≤ cnt (b.bs.map Prod.fst) t := by
  constructor
  · refine cnt_each _ _ (by simp [vOf_len]) (fun i x y hx hy => ?_) t
    rw [List.getElem?_map, Option.map_eq_some_iff] at hx
    obtain ⟨⟨lo, hi⟩, hx, rfl⟩ := hx
    exact (vOf_bd hv bits hy hx).2
  · refine cnt_each _ _ (by simp [vOf_len]) (fun i x y hx hy => ?_) t
    rw [List.getElem?_map, Option.map_eq_some_iff] at hy
    obtain ⟨⟨lo, hi⟩, hy, rfl⟩ := hy
    exact (vOf_bd hv bits hx hy).1
theorem vOf_allT {b : Bk} (hv : bookB b = true) (bits : List Int) : vOf b bits ∈ allT b := by
  unfold allT
  rw [mem_prodL]
  refine ⟨by simp [MS, vOf_len], fun i x l hx hl => ?_⟩
  unfold MS at hl
  rw [List.getElem?_map, Option.map_eq_some_iff] at hl
  obtain ⟨⟨lo, hi⟩, hl, rfl⟩ := hl
  have := vOf_bd hv bits hx hl
  simp only [mins, mupto, List.mem_map, List.mem_range]
  exact ⟨(x - lo).toNat, by omega, by omega⟩

/-- The company that truly had the turn at a shot, as numbers choose its minute. -/
def itOf (b : Bk) (bits : List Int) (i : Nat) (s : Shot) : Int := ownf b.os s.st.toNat (cnt (vOf b bits) (someI s.lo s.hi (pickI bits ((i : Int) + 3))))
def unfT (b : Bk) (bits : List Int) (i : Nat) : Bool := match b.ss[i]? with | some s => !(itOf b bits i s == s.co) | none => false
/-- How many of the first shots truly were unfair. -/
def unfN (b : Bk) (bits : List Int) (k : Nat) : Nat := ((List.range k).filter (unfT b bits)).length
theorem unfN_succ (b : Bk) (bits : List Int) (k : Nat) : unfN b bits (k + 1) = unfN b bits k + if unfT b bits k then 1 else 0 := by
  unfold unfN
  rw [List.range_succ, List.filter_append]
  by_cases h : unfT b bits k <;> simp [h]
theorem unfN_le (b : Bk) (bits : List Int) (k : Nat) : unfN b bits k ≤ k := by
  unfold unfN
  exact Nat.le_trans (List.length_filter_le _ _) (by simp)
theorem kind_facts {ok : Nat → Bool} {l : List Nat} {x : Nat} (hx : x ∈ l) : kindOf ok l = 0 ∧ ok x = false ∨ kindOf ok l = 1 ∨ kindOf ok l = 2 ∧ ok x = true := by
  unfold kindOf
  split
  · rename_i h
    exact .inr (.inr ⟨rfl, List.all_eq_true.1 h x hx⟩)
  · split
    · exact .inr (.inl rfl)
    · rename_i h
      refine .inl ⟨rfl, ?_⟩
      cases hc : ok x with
      | false => rfl
      | true => exact absurd (List.any_eq_true.2 ⟨x, hx, hc⟩) h
/-- What is told of a shot, and what truly was. -/
theorem shot_kind {b : Bk} (hv : bookB b = true) (bits : List Int) {i : Nat} {s : Shot} (hs : b.ss[i]? = some s) {st : Nat} (hst : s.st = st) {K : Int} (hK : kindOf (fun t => ownf b.os st t == s.co) (seg (cnt (lateL b.bs) s.lo) (cnt (soonL b.bs) s.hi)) = K) :
    K = 0 ∧ (itOf b bits i s == s.co) = false ∨ K = 1 ∨ K = 2 ∧ (itOf b bits i s == s.co) = true := by
  obtain ⟨-, -, hm⟩ := bookB_shot hv hs
  unfold Mom at hm
  have h4 := (bookB_bounds hv).1
  have hx := someI_bd (n := pickI bits ((i : Int) + 3)) (show s.lo ≤ s.hi by omega)
  have hin : cnt (vOf b bits) (someI s.lo s.hi (pickI bits ((i : Int) + 3))) ∈ seg (cnt (lateL b.bs) s.lo) (cnt (soonL b.bs) s.hi) := by
    rw [mem_seg, late_tl, soon_tl, cnt_tl _ (by simpa using h4) _ (by omega), cnt_tl _ (by simpa using h4) _ (by omega)]
    have h1 := (vOf_between hv bits s.lo).1
    have h2 := (vOf_between hv bits s.hi).2
    have h3 := cnt_mono (vOf b bits) _ _ hx.1
    have h5 := cnt_mono (vOf b bits) _ _ hx.2
    omega
  have hk := kind_facts (ok := fun t => ownf b.os st t == s.co) hin
  rw [hK] at hk
  have e : itOf b bits i s = ownf b.os st (cnt (vOf b bits) (someI s.lo s.hi (pickI bits ((i : Int) + 3)))) := by unfold itOf; rw [hst]; rfl
  rw [e]
  exact hk
theorem U_le {b : Bk} (hv : bookB b = true) (bits : List Int) : (U b (vOf b bits)).length ≤ unfN b bits b.ss.length := by
  unfold U unfairL unfN
  rw [List.length_map, ← List.countP_eq_length_filter, ← List.countP_eq_length_filter]
  refine List.countP_mono_left (fun i hi h => ?_)
  unfold unfairB at h
  unfold unfT
  cases hs : b.ss[i]? with
  | none => rw [hs] at h; cases h
  | some s =>
    rw [hs] at h
    dsimp only at h ⊢
    obtain ⟨-, -, hm⟩ := bookB_shot hv hs
    unfold Mom at hm
    have h4 := (bookB_bounds hv).1
    have hx := someI_bd (n := pickI bits ((i : Int) + 3)) (show s.lo ≤ s.hi by omega)
    have hin : cnt (vOf b bits) (someI s.lo s.hi (pickI bits ((i : Int) + 3))) ∈ seg (cnt (tl (vOf b bits)) s.lo) (cnt (tl (vOf b bits)) s.hi) := by
      rw [mem_seg, cnt_tl _ (by rw [vOf_len]; exact h4) _ (by omega), cnt_tl _ (by rw [vOf_len]; exact h4) _ (by omega)]
      exact ⟨cnt_mono (vOf b bits) _ _ hx.1, cnt_mono (vOf b bits) _ _ hx.2⟩
    have hk := kind_facts (ok := fun t => ownf b.os s.st.toNat t == s.co) hin
    have h0 : kindOf (fun t => ownf b.os s.st.toNat t == s.co) (seg (cnt (tl (vOf b bits)) s.lo) (cnt (tl (vOf b bits)) s.hi)) = 0 := by
      unfold jk at h
      exact eq_of_beq h
    rw [h0] at hk
    rcases hk with ⟨_, hk⟩ | hk | ⟨hk, _⟩
    · show (!(itOf b bits i s == s.co)) = true
      unfold itOf
      rw [hk]; rfl
    · omega
    · omega
theorem wrong_le {b : Bk} (hv : bookB b = true) (bits : List Int) : (wrongL b).length ≤ unfN b bits b.ss.length := by
  have h := (bestOf_le (U b (b.bs.map Prod.fst)) ((allT b).map (U b))).2 _ (List.mem_map.2 ⟨_, vOf_allT hv bits, rfl⟩)
  have h2 := U_le hv bits
  simp only [fewerB, Bool.or_eq_false_iff, decide_eq_false_iff_not] at h
  show (bestOf (U b (b.bs.map Prod.fst)) ((allT b).map (U b))).length ≤ _
  omega
end Go.Proofs.YtdmicngnbcdkdaaDoor

