/- Contracts of Rises and Set. -/
/- Plain facts: what compacting leaves of a sorted list; companies of turns. -/
/- TurnEnds' walk. -/
import Derived.Test.YtmnbfjphndgmnaaDoorQXa
import Derived.Test.YtmnbfjphndgmnaaDoorQTa
import Derived.Test.YtmnbfjphndgmnaaDoorQUk
import Derived.Test.YtmnbfjphndgmnaaDoorQVk
import Derived.Test.YtmnbfjphndgmnaaDoorQXc1
set_option linter.unusedSimpArgs false
set_option linter.unusedVariables false
namespace Go.Proofs.YtmnbfjphndgmnaaDoor
open Go Go.RowKit

def risesB (below : Int) : Int → List Int → Bool
  | _, [] => true
  | y, x :: l => decide (y ≤ x) && decide (x < below) && risesB below (x + 1) l
set_option maxHeartbeats 1000000 in
theorem Rises_yes (p : Option Addr) (c : Nat) (l : List Int) (below : Int) (w : World) (hl : IntsAt w p l) (hb : (l.length : Int) ≤ 1000) (h1 : 0 ≤ below) (h2 : below ≤ 100000) (hr : risesB below 0 l = true) :
    Calls Tryd.prog 19 #[.slice p l.length c, .int .i64 below] w fun e w' => e = .returned (.bool true) ∧ w = w' := by
  have H0 := Lib.hid hr
  clear hr
  go_enter Tryd.func19, Tryd.ntmps19
  go_wp2_with fail
  go_loop [5, 6] (fun y i => ∃ (k : Nat) (z : Int), k ≤ l.length ∧ 0 ≤ z ∧ z ≤ 100001 ∧ i = .int .i64 k ∧ y = .int .i64 z ∧ Hid (risesB below z (l.drop k) = true)) (fun _ i => l.length - (intOf i).toNat)
  case atStart => exact ⟨0, 0, by omega, by omega, by omega, rfl, rfl, H0⟩
  case round =>
    clear H0
    obtain ⟨k, z, hk, z0, z1, rfl, rfl, H⟩ := hrel
    by_cases hlt : k < l.length
    · obtain ⟨x, hx⟩ := get_some l k hlt
      obtain ⟨b1, o1, rfl, hb1, c1⟩ := hl k x hx
      have h3 := H.out
      rw [drop_of_get hx] at h3
      simp only [risesB, Bool.and_eq_true, decide_eq_true_eq] at h3
      obtain ⟨⟨h4, h5⟩, h6⟩ := h3
      have H2 := Lib.hid h6
      have h7 : x ≤ below - 1 := by omega
      clear h6 H hx
      go_wp2_with (go_at_call 25; refine (Between_yes _ _ _ _ (by assumption) (by assumption)).mono ?_; rintro e w' ⟨rfl, rfl⟩)
      go_round
      case rel => exact ⟨k + 1, x + 1, by omega, by omega, by omega, by go_num, rfl, H2⟩
      case measure => simp [intOf]; omega
    · go_wp2_with fail
      go_ret
      exact ⟨rfl, rfl⟩

/-- A set of small numbers, as the number that has their bits. -/
def orB (a : Nat) (x : Int) : Nat := a ||| (1 <<< x.toNat)
def setB' (a : Nat) (l : List Int) : Nat := l.foldl orB a
def setN (l : List Int) : Nat := setB' 0 l
theorem bits_or : ∀ z : Nat, z < 16 → ∀ x : Nat, x < 4 → bits .or .i64 (z : Int) (wrap64 (2 ^ x)) = ((orB z (x : Int) : Nat) : Int) ∧ orB z (x : Int) < 16 := by decide +kernel
theorem bits_or' (z : Nat) (x : Int) (hz : z < 16) (h0 : 0 ≤ x) (h4 : x < 4) : bits .or .i64 (z : Int) (wrap64 (2 ^ x.toNat)) = ((orB z x : Nat) : Int) ∧ orB z x < 16 := by
  obtain ⟨k, rfl⟩ := Int.eq_ofNat_of_zero_le h0
  exact bits_or z hz k (by omega)
theorem setB_bit (l : List Int) (i : Nat) : ∀ a, (setB' a l).testBit i = (a.testBit i || l.any fun x => x.toNat == i) := by
  induction l with
  | nil => intro a; simp [setB']
  | cons x l ih =>
    intro a
    show (setB' (orB a x) l).testBit i = _
    rw [ih]
    simp only [orB, Nat.testBit_or, List.any_cons, Nat.one_shiftLeft, Nat.testBit_two_pow]
    rw [Bool.or_assoc]
    rfl
theorem setN_eq {l m : List Int} (h : ∀ x, x ∈ l ↔ x ∈ m) : setN l = setN m := by
  apply Nat.eq_of_testBit_eq
  intro i
  unfold setN
  rw [setB_bit, setB_bit]
  congr 1
  rw [Bool.eq_iff_iff, List.any_eq_true, List.any_eq_true]
  exact ⟨fun ⟨x, h1, h2⟩ => ⟨x, (h x).1 h1, h2⟩, fun ⟨x, h1, h2⟩ => ⟨x, (h x).2 h1, h2⟩⟩
theorem setN_snoc (l : List Int) (x : Int) : setN (l ++ [x]) = orB (setN l) x := by simp [setN, setB']
theorem setN_lt (l : List Int) (h : ∀ x ∈ l, 0 ≤ x ∧ x < 4) : setN l < 16 := by
  suffices H : ∀ a, a < 16 → setB' a l < 16 from H 0 (by omega)
  induction l with
  | nil => intro a ha; exact ha
  | cons x l ih =>
    intro a ha
    show setB' (orB a x) l < 16
    exact ih (fun y hy => h y (by simp [hy])) _ (bits_or' a x ha (h x (by simp)).1 (h x (by simp)).2).2

set_option maxHeartbeats 1000000 in
theorem Set_any (p : Option Addr) (c : Nat) (l : List Int) (w : World) (hl : IntsAt w p l) (hb : (l.length : Int) ≤ 1000) (hr : ∀ x ∈ l, 0 ≤ x ∧ x < 4) :
    Calls Tryd.prog 27 #[.slice p l.length c] w fun e w' => e = .returned (.int .i64 (setN l)) ∧ w = w' := by
  have HR := Lib.hid hr
  clear hr
  go_enter Tryd.func27, Tryd.ntmps27
  go_wp2_with fail
  go_loop [3, 4] (fun y i => ∃ (k z : Nat), k ≤ l.length ∧ z < 16 ∧ i = .int .i64 k ∧ y = .int .i64 z ∧ Hid (z = setN (l.take k))) (fun _ i => l.length - (intOf i).toNat)
  case atStart => exact ⟨0, 0, by omega, by omega, rfl, rfl, Lib.hid rfl⟩
  case round =>
    obtain ⟨k, z, hk, z1, rfl, rfl, H⟩ := hrel
    by_cases hlt : k < l.length
    · obtain ⟨x, hx⟩ := get_some l k hlt
      obtain ⟨b1, o1, rfl, hb1, c1⟩ := hl k x hx
      obtain ⟨h4, h5⟩ := HR.out x (List.mem_of_getElem? hx)
      obtain ⟨e1, e2⟩ := bits_or' z x z1 h4 h5
      have HS := Lib.hid (show orB z x = setN (l.take (k + 1)) by
        obtain ⟨h6, rfl⟩ := List.getElem?_eq_some_iff.1 hx
        rw [List.take_succ_eq_append_getElem h6, setN_snoc, ← H.out])
      clear hx H
      go_wp2_with fail
      go_round
      case rel => exact ⟨k + 1, orB z x, by omega, e2, by go_num, rfl, HS⟩
      case measure => simp [intOf]; omega
    · have HE := Lib.hid (show z = setN l by rw [H.out, List.take_of_length_le (by omega)])
      go_wp2_with fail
      go_ret
      exact ⟨ret_int (by rw [HE.out]), rfl⟩
end Go.Proofs.YtmnbfjphndgmnaaDoor

namespace Go.Proofs.YtmnbfjphndgmnaaDoor
open Go Go.RowKit

theorem compact_sorted (d : Array Int) (hs : ∀ i, i + 1 < d.size → d[i]! ≤ d[i + 1]!) : ∀ m, m ≤ d.size → (∀ x, x ∈ Lib.compactUpTo d m ↔ ∃ j, j < m ∧ d[j]! = x) ∧ (Lib.compactUpTo d m).Pairwise (· < ·) ∧ ∀ x ∈ Lib.compactUpTo d m, 0 < m ∧ x ≤ d[m - 1]! := by
  intro m
  induction m with
  | zero => intro _; simp [Lib.compactUpTo]
  | succ m ih =>
    intro hm
    obtain ⟨h1, h2, h3⟩ := ih (by omega)
    rw [Lib.compactUpTo_succ]
    by_cases hk : Lib.keeps d m = true
    · rw [if_pos hk]
      have hle : ∀ x ∈ Lib.compactUpTo d m, x < d[m]! := by
        intro x hx
        obtain ⟨hm0, hx2⟩ := h3 x hx
        have hs2 := hs (m - 1) (by omega)
        rw [show m - 1 + 1 = m by omega] at hs2
        simp only [Lib.keeps, decide_eq_true_eq] at hk
        have : d[m]! ≠ d[m - 1]! := by
          rcases hk with hk | hk
          · omega
          · exact hk
        omega
      refine ⟨fun x => ?_, ?_, ?_⟩
      · rw [List.mem_append, h1]
        simp only [List.mem_singleton]
        constructor
        · rintro (⟨j, hj, rfl⟩ | rfl)
          · exact ⟨j, by omega, rfl⟩
          · exact ⟨m, by omega, rfl⟩
        · rintro ⟨j, hj, rfl⟩
          by_cases e : j = m
          · subst e; exact .inr rfl
          · exact .inl ⟨j, by omega, rfl⟩
      · rw [List.pairwise_append]
        refine ⟨h2, by simp, fun x hx y hy => ?_⟩
        simp only [List.mem_singleton] at hy
        subst hy
        exact hle x hx
      · intro x hx
        refine ⟨by omega, ?_⟩
        rw [Nat.add_sub_cancel]
        rcases List.mem_append.1 hx with hx | hx
        · exact Int.le_of_lt (hle x hx)
        · simp only [List.mem_singleton] at hx; omega
    · rw [if_neg hk, List.append_nil]
      have hm0 : 0 < m := by
        rcases Nat.eq_zero_or_pos m with h | h
        · subst h; simp [Lib.keeps] at hk
        · exact h
      have he : d[m]! = d[m - 1]! := by
        simp only [Lib.keeps, decide_eq_true_eq, not_or, Decidable.not_not] at hk
        exact hk.2
      refine ⟨fun x => ?_, h2, fun x hx => ⟨by omega, ?_⟩⟩
      · rw [h1]
        constructor
        · rintro ⟨j, hj, rfl⟩; exact ⟨j, by omega, rfl⟩
        · rintro ⟨j, hj, rfl⟩
          by_cases e : j = m
          · subst e; exact ⟨j - 1, by omega, he.symm⟩
          · exact ⟨j, by omega, rfl⟩
      · rw [Nat.add_sub_cancel, he]; exact (h3 x hx).2
theorem sort_pair (l : List Int) : (l.mergeSort fun x y => decide (x ≤ y)).Pairwise (· ≤ ·) := by
  have := List.pairwise_mergeSort (le := fun x y : Int => decide (x ≤ y)) (fun a b c h1 h2 => by simp at *; omega) (fun a b => by simp; omega) l
  exact this.imp (by simp)
theorem owners_facts (l : List Int) : (∀ x, x ∈ Lib.compact (l.mergeSort fun x y => decide (x ≤ y)) ↔ x ∈ l) ∧ (Lib.compact (l.mergeSort fun x y => decide (x ≤ y))).Pairwise (· < ·) := by
  have hp := sort_pair l
  have hperm := List.mergeSort_perm l (fun x y => decide (x ≤ y))
  generalize l.mergeSort (fun x y => decide (x ≤ y)) = s at *
  have h := compact_sorted s.toArray (fun i hi => by
    have h1 : i < s.length := by simp at hi; omega
    have h2 : i + 1 < s.length := by simpa using hi
    rw [getElem!_pos _ i (by simpa using h1), getElem!_pos _ (i + 1) (by simpa using h2)]
    simpa using List.pairwise_iff_getElem.1 hp i (i + 1) h1 h2 (by omega)) s.length (by simp)
  refine ⟨fun x => ?_, h.2.1⟩
  show x ∈ Lib.compactUpTo s.toArray s.length ↔ _
  rw [h.1, ← hperm.mem_iff, List.mem_iff_getElem]
  constructor
  · rintro ⟨j, hj, rfl⟩; exact ⟨j, hj, by rw [getElem!_pos _ j (by simpa using hj)]; simp⟩
  · rintro ⟨j, hj, rfl⟩; exact ⟨j, hj, by rw [getElem!_pos _ j (by simpa using hj)]; simp⟩
theorem risesB_of {below : Int} : ∀ (l : List Int) (y : Int), (∀ x ∈ l, y ≤ x ∧ x < below) → l.Pairwise (· < ·) → risesB below y l = true
  | [], _, _, _ => rfl
  | x :: l, y, h, hp => by
    rw [List.pairwise_cons] at hp
    simp only [risesB, Bool.and_eq_true, decide_eq_true_eq]
    exact ⟨h x (by simp), risesB_of l (x + 1) (fun z hz => ⟨by have := hp.1 z hz; omega, (h z (by simp [hz])).2⟩) hp.2⟩

/-- Who can have turns is a company. -/
theorem ownf_co {b : Bk} (hv : bookB b = true) {st t : Nat} (hst : st < b.os.length) (ht : t ≤ b.bs.length) : 0 ≤ ownf b.os st t ∧ ownf b.os st t < b.n := by
  simp only [bookB, ordersB, Bool.and_eq_true, decide_eq_true_eq] at hv
  obtain ⟨r, hr⟩ := get_some b.os st hst
  have h1 := List.all_eq_true.1 hv.1.2.2 r (List.mem_of_getElem? hr)
  simp only [orderB, Bool.and_eq_true, decide_eq_true_eq] at h1
  obtain ⟨c, hc⟩ := get_some r t (by omega)
  rw [ownf_get hr hc]
  exact of_isN (List.all_eq_true.1 h1.2 c (List.mem_of_getElem? hc))
theorem mem_seg {lo hi t : Nat} : t ∈ seg lo hi ↔ lo ≤ t ∧ t ≤ hi := by
  simp only [seg, upto, List.mem_map, List.mem_range]
  constructor
  · rintro ⟨a, ha, rfl⟩; omega
  · intro h; exact ⟨t - lo, by omega, by omega⟩
theorem mem_ownersL {b : Bk} {st lo hi : Nat} {x : Int} : x ∈ ownersL b st lo hi ↔ ∃ t, lo ≤ t ∧ t ≤ hi ∧ ownf b.os st t = x := by
  unfold ownersL
  rw [(owners_facts _).1, List.mem_map]
  exact ⟨fun ⟨t, h1, h2⟩ => ⟨t, (mem_seg.1 h1).1, (mem_seg.1 h1).2, h2⟩, fun ⟨t, h1, h2, h3⟩ => ⟨t, mem_seg.2 ⟨h1, h2⟩, h3⟩⟩
theorem ownersL_rises {b : Bk} (hv : bookB b = true) {st lo hi : Nat} (hst : st < b.os.length) (hhi : hi ≤ b.bs.length) : risesB b.n 0 (ownersL b st lo hi) = true :=
  risesB_of _ _ (fun x hx => by
    obtain ⟨t, _, h2, rfl⟩ := mem_ownersL.1 hx
    exact ownf_co hv hst (by omega)) (owners_facts _).2
theorem ownersL_len (b : Bk) (st lo hi : Nat) : (ownersL b st lo hi).length ≤ hi + 1 := by
  unfold ownersL
  refine Nat.le_trans (Lib.compact_length_le _) ?_
  simp [seg, upto]
  try omega
/-- The bounds that a minute is past, by the book's own. -/
theorem cnt_tl (v : List Int) (h4 : v.length ≤ 4) (m : Int) (hm : m < 1440) : cnt (tl v) m = cnt v m := by
  rcases four v h4 with rfl | ⟨x, rfl⟩ | ⟨x, y, rfl⟩ | ⟨x, y, z, rfl⟩ | ⟨x, y, z, u, rfl⟩ <;> simp only [tl, List.getD_cons_zero, List.getD_cons_succ, List.getD_nil, cnt_cons, cnt_nil] <;> (repeat' split) <;> omega
/-- A row of the orders. -/
theorem row_at {w : World} {po : Option Addr} {os : List (List Int)} (h : RowsAt w po os) {st : Nat} (hst : st < os.length) : ∃ bb o q c, po = some ⟨bb, o, none⟩ ∧ bb < w.heap.size ∧ w.cell? ⟨bb, o + st, none⟩ = some (.slice q (os.getD st []).length c) ∧ IntsAt w q (os.getD st []) := by
  obtain ⟨r, hr⟩ := get_some os st hst
  obtain ⟨bb, o, h1, h2, q, c, h3, h4⟩ := h st r hr
  have e : os.getD st [] = r := by rw [List.getD_eq_getElem?_getD, hr]; rfl
  rw [e]
  exact ⟨bb, o, q, c, h1, h2, h3, h4⟩

end Go.Proofs.YtmnbfjphndgmnaaDoor

namespace Go.Proofs.YtmnbfjphndgmnaaDoor
open Go Go.RowKit

set_option maxRecDepth 100000 in
set_option maxHeartbeats 4000000 in
theorem TurnEnds_bad (h : Hd) (b : Bk) (n0 n1 : Int) (w : World) (hb : BkAt w h b) (hv : bookB b = false) (hn : NB w) :
    Calls Tryd.prog 4 #[.agg #[.int .i64 b.n, .slice h.pb b.bs.length h.cb, .slice h.po b.os.length h.co, .slice h.ps b.ss.length h.cs], .agg #[.int .i64 n0, .int .i64 n1]] w fun e w' => e = .returned (.bool true) ∧ ∃ x, w' = ext w x := by
  have HB := Lib.hid hb
  have HN := Lib.hid hn
  clear hb hn
  go_enter Tryd.func4, Tryd.ntmps4
  go_wp2_with (first
    | (go_at_call 12; refine (sound_no h b _ (HB.out.below (by (repeat (first | (with_reducible exact Below.refl _ _) | (with_reducible assumption) | ((with_reducible refine below_ext_trans ?_ ?_ _); rotate_left; focus (((try dsimp only); repeat (first | omega | simp only [World.size_alloc, World.size_setCell, World.size_drew] | (with_reducible refine le_ext_of ?_) | (with_reducible refine le_ext_add ?_))); done)) | ((with_reducible refine Below.alloc ?_ ?_ _); rotate_left; focus (((try dsimp only); repeat (first | omega | simp only [World.size_alloc, World.size_setCell, World.size_drew] | (with_reducible refine le_ext_of ?_) | (with_reducible refine le_ext_add ?_))); done)) | ((with_reducible refine Below.setCell ?_ ?_ _); rotate_left; focus (((try dsimp only); repeat (first | omega | simp only [World.size_alloc, World.size_setCell, World.size_drew] | (with_reducible refine le_ext_of ?_) | (with_reducible refine le_ext_add ?_))); done)) | (with_reducible refine Below.drew ?_))))) hv).mono ?_; rintro e w1 ⟨rfl, y1, rfl⟩)
    | (go_at_call 13; refine (shot_any _ (HN.out.below (by (repeat (first | (with_reducible exact Below.refl _ _) | (with_reducible assumption) | ((with_reducible refine below_ext_trans ?_ ?_ _); rotate_left; focus (((try dsimp only); repeat (first | omega | simp only [World.size_alloc, World.size_setCell, World.size_drew] | (with_reducible refine le_ext_of ?_) | (with_reducible refine le_ext_add ?_))); done)) | ((with_reducible refine Below.alloc ?_ ?_ _); rotate_left; focus (((try dsimp only); repeat (first | omega | simp only [World.size_alloc, World.size_setCell, World.size_drew] | (with_reducible refine le_ext_of ?_) | (with_reducible refine le_ext_add ?_))); done)) | ((with_reducible refine Below.setCell ?_ ?_ _); rotate_left; focus (((try dsimp only); repeat (first | omega | simp only [World.size_alloc, World.size_setCell, World.size_drew] | (with_reducible refine le_ext_of ?_) | (with_reducible refine le_ext_add ?_))); done)) | (with_reducible refine Below.drew ?_)))))).mono ?_; rintro e w1 ⟨rfl, y, rfl⟩))
  go_ret
  exact ⟨rfl, by (exact ext_of (by (repeat (first | (with_reducible exact Below.refl _ _) | (with_reducible assumption) | ((with_reducible refine below_ext_trans ?_ ?_ _); rotate_left; focus (((try dsimp only); repeat (first | omega | simp only [World.size_alloc, World.size_setCell, World.size_drew] | (with_reducible refine le_ext_of ?_) | (with_reducible refine le_ext_add ?_))); done)) | ((with_reducible refine Below.alloc ?_ ?_ _); rotate_left; focus (((try dsimp only); repeat (first | omega | simp only [World.size_alloc, World.size_setCell, World.size_drew] | (with_reducible refine le_ext_of ?_) | (with_reducible refine le_ext_add ?_))); done)) | ((with_reducible refine Below.setCell ?_ ?_ _); rotate_left; focus (((try dsimp only); repeat (first | omega | simp only [World.size_alloc, World.size_setCell, World.size_drew] | (with_reducible refine le_ext_of ?_) | (with_reducible refine le_ext_add ?_))); done)) | (with_reducible refine Below.drew ?_)))))⟩

/-- What Turn returns, by the book's own bounds. -/
theorem Turn_eq (h : Hd) (b : Bk) (m : Int) (lo hi : Nat) (w : World) (hb : BkAt w h b) (hv : bookB b = true) (hn : NB w) (hm0 : 0 ≤ m) (hm1 : m < 1440) (h1 : cnt (b.bs.map Prod.snd) m = lo) (h2 : cnt (b.bs.map Prod.fst) m = hi) :
    Calls Tryd.prog 15 #[.agg #[.int .i64 b.n, .slice h.pb b.bs.length h.cb, .slice h.po b.os.length h.co, .slice h.ps b.ss.length h.cs], .int .i64 m] w fun e w' => e = .returned (.tuple #[.agg #[.int .i64 lo, .int .i64 hi], .int .i64 0]) ∧ ∃ x, w' = ext w x :=
  (Turn_yes h b m w hb hv hn (isN_yes ⟨hm0, hm1⟩)).mono fun e w' ⟨he, hx⟩ => by
    have h4 := (bookB_bounds hv).1
    have e1 : cnt [kspec b.bs 2 0 4, kspec b.bs 2 0 5, kspec b.bs 2 0 6, kspec b.bs 2 0 7] m = lo := by
      have := cnt_tl (b.bs.map Prod.snd) (by simpa using h4) m hm1
      rw [← late_tl] at this
      exact this.trans h1
    have e2 : cnt [kspec b.bs 2 0 0, kspec b.bs 2 0 1, kspec b.bs 2 0 2, kspec b.bs 2 0 3] m = hi := by
      have := cnt_tl (b.bs.map Prod.fst) (by simpa using h4) m hm1
      rw [← soon_tl] at this
      exact this.trans h2
    rw [e1, e2] at he
    exact ⟨he, hx⟩
theorem Owners_eq (h : Hd) (b : Bk) (st : Nat) (m : Int) (lo hi : Nat) (L : List Int) (n : Nat) (w : World) (hb : BkAt w h b) (hv : bookB b = true) (hn : NB w) (hst : st < b.os.length) (hm0 : 0 ≤ m) (hm1 : m < 1440) (h1 : cnt (b.bs.map Prod.snd) m = lo) (h2 : cnt (b.bs.map Prod.fst) m = hi) (hL : ownersL b st lo hi = L) (hln : L.length = n) :
    Calls Tryd.prog 16 #[.agg #[.int .i64 b.n, .slice h.pb b.bs.length h.cb, .slice h.po b.os.length h.co, .slice h.ps b.ss.length h.cs], .int .i64 st, .int .i64 m] w (OneList w L n) :=
  (Owners_yes h b st m w hb hv hn hst hm0 hm1).mono fun e w' ⟨p, c, he, hI, hx⟩ => by
    have h4 := (bookB_bounds hv).1
    have e1 : cnt (lateL b.bs) m = lo := by rw [late_tl, cnt_tl _ (by simpa using h4) m hm1, h1]
    have e2 : cnt (soonL b.bs) m = hi := by rw [soon_tl, cnt_tl _ (by simpa using h4) m hm1, h2]
    rw [e1, e2, hL] at he hI
    rw [hln] at he
    exact ⟨p, c, he, hI, hx⟩
theorem Rises_ext (p : Option Addr) (c : Nat) (l : List Int) (n : Nat) (below : Int) (w : World) (hn : l.length = n) (hl : IntsAt w p l) (hb : (l.length : Int) ≤ 1000) (h1 : 0 ≤ below) (h2 : below ≤ 100000) (hr : risesB below 0 l = true) :
    Calls Tryd.prog 19 #[.slice p n c, .int .i64 below] w fun e w' => e = .returned (.bool true) ∧ ∃ x, w' = ext w x := by
  subst hn
  exact (Rises_yes p c l below w hl hb h1 h2 hr).mono fun e w' ⟨he, hw⟩ => ⟨he, ext_of (by rw [← hw]; exact Below.refl _ _)⟩
theorem Set_eq (p : Option Addr) (c : Nat) (l : List Int) (n : Nat) (w : World) (hn : l.length = n) (hl : IntsAt w p l) (hb : (l.length : Int) ≤ 1000) (hr : ∀ x ∈ l, 0 ≤ x ∧ x < 4) :
    Calls Tryd.prog 27 #[.slice p n c] w fun e w' => e = .returned (.int .i64 (setN l)) ∧ w = w' := by
  subst hn; exact Set_any p c l w hl hb hr
theorem cnt_take (l : List Int) (k : Nat) (m a : Int) (h : l[k]? = some a) : cnt (l.take (k + 1)) m = cnt (l.take k) m + if a ≤ m then 1 else 0 := by
  obtain ⟨h1, rfl⟩ := List.getElem?_eq_some_iff.1 h
  rw [List.take_succ_eq_append_getElem h1, cnt_snoc]
set_option maxRecDepth 100000 in
set_option maxHeartbeats 8000000 in
theorem TurnEnds_yes (h : Hd) (b : Bk) (n0 n1 : Int) (w : World) (hb : BkAt w h b) (hv : bookB b = true) (hn : NB w) (st : Nat) (m : Int) (lo hi n : Nat) (L : List Int) (hst : n0 % (b.os.length : Int) = (st : Int)) (hsl : st < b.os.length) (hm : n1 % 1440 = m) (hm0 : 0 ≤ m) (hm1 : m < 1440)
    (hlo : cnt (b.bs.map Prod.snd) m = lo) (hhi : cnt (b.bs.map Prod.fst) m = hi) (hle : lo ≤ hi) (hhb : hi ≤ b.bs.length) (hL : ownersL b st lo hi = L) (hln : L.length = n) :
    Calls Tryd.prog 4 #[.agg #[.int .i64 b.n, .slice h.pb b.bs.length h.cb, .slice h.po b.os.length h.co, .slice h.ps b.ss.length h.cs], .agg #[.int .i64 n0, .int .i64 n1]] w fun e w' => e = .returned (.bool true) ∧ ∃ x, w' = ext w x := by
  obtain ⟨pb, cb, po, co, ps, cs⟩ := h
  dsimp only
  obtain ⟨⟨ho1, ho3⟩, -⟩ := bookB_orders hv
  have h4 := (bookB_bounds hv).1
  have HB := Lib.hid hb
  have HN := Lib.hid hn
  have HV := Lib.hid hv
  have HST := Lib.hid hst
  have HSL := Lib.hid hsl
  have HM := Lib.hid hm
  have HLO := Lib.hid hlo
  have HHI := Lib.hid hhi
  have HL := Lib.hid hL
  have HLN := Lib.hid hln
  have HM0 := Lib.hid hm0
  have HM1 := Lib.hid hm1
  have HO1 := Lib.hid (show 1 ≤ (b.os.length : Int) ∧ (b.os.length : Int) ≤ 1000000 by omega)
  clear hb hn hv hst hsl hm hlo hhi hL hln
  go_enter Tryd.func4, Tryd.ntmps4
  go_upto_region 3 with (go_at_call 12; refine (sound_yes ⟨pb, cb, po, co, ps, cs⟩ b _ (HB.out.below (by (repeat (first | (with_reducible exact Below.refl _ _) | (with_reducible assumption) | ((with_reducible refine below_ext_trans ?_ ?_ _); rotate_left; focus (((try dsimp only); repeat (first | omega | simp only [World.size_alloc, World.size_setCell, World.size_drew] | (with_reducible refine le_ext_of ?_) | (with_reducible refine le_ext_add ?_))); done)) | ((with_reducible refine Below.alloc ?_ ?_ _); rotate_left; focus (((try dsimp only); repeat (first | omega | simp only [World.size_alloc, World.size_setCell, World.size_drew] | (with_reducible refine le_ext_of ?_) | (with_reducible refine le_ext_add ?_))); done)) | ((with_reducible refine Below.setCell ?_ ?_ _); rotate_left; focus (((try dsimp only); repeat (first | omega | simp only [World.size_alloc, World.size_setCell, World.size_drew] | (with_reducible refine le_ext_of ?_) | (with_reducible refine le_ext_add ?_))); done)) | (with_reducible refine Below.drew ?_))))) HV.out).mono ?_; rintro e w1 ⟨rfl, y1, rfl⟩)
  refine wp_region_ext (by kernel_rfl) (by kernel_rfl) ?_
  repeat (go_big_quiet_step (fail))
  go_big_quiet_step ((go_at_call 14; exact quiet_ext (Wheel_eq n0 _ st _ HO1.out HST.out)))
  repeat (go_big_quiet_step (fail))
  go_big_quiet_step ((go_at_call 14; exact quiet_ext (Wheel_eq n1 1440 m _ ⟨by omega, by omega⟩ HM.out)))
  repeat (go_big_quiet_step (fail))
  (refine wpQuiet_nil ?_; rintro _ ⟨x, rfl⟩)
  go_upto_region 5 with (go_at_call 15; refine (Turn_eq ⟨pb, cb, po, co, ps, cs⟩ b m lo hi _ (HB.out.below (by (repeat (first | (with_reducible exact Below.refl _ _) | (with_reducible assumption) | ((with_reducible refine below_ext_trans ?_ ?_ _); rotate_left; focus (((try dsimp only); repeat (first | omega | simp only [World.size_alloc, World.size_setCell, World.size_drew] | (with_reducible refine le_ext_of ?_) | (with_reducible refine le_ext_add ?_))); done)) | ((with_reducible refine Below.alloc ?_ ?_ _); rotate_left; focus (((try dsimp only); repeat (first | omega | simp only [World.size_alloc, World.size_setCell, World.size_drew] | (with_reducible refine le_ext_of ?_) | (with_reducible refine le_ext_add ?_))); done)) | ((with_reducible refine Below.setCell ?_ ?_ _); rotate_left; focus (((try dsimp only); repeat (first | omega | simp only [World.size_alloc, World.size_setCell, World.size_drew] | (with_reducible refine le_ext_of ?_) | (with_reducible refine le_ext_add ?_))); done)) | (with_reducible refine Below.drew ?_))))) HV.out (HN.out.below (by (repeat (first | (with_reducible exact Below.refl _ _) | (with_reducible assumption) | ((with_reducible refine below_ext_trans ?_ ?_ _); rotate_left; focus (((try dsimp only); repeat (first | omega | simp only [World.size_alloc, World.size_setCell, World.size_drew] | (with_reducible refine le_ext_of ?_) | (with_reducible refine le_ext_add ?_))); done)) | ((with_reducible refine Below.alloc ?_ ?_ _); rotate_left; focus (((try dsimp only); repeat (first | omega | simp only [World.size_alloc, World.size_setCell, World.size_drew] | (with_reducible refine le_ext_of ?_) | (with_reducible refine le_ext_add ?_))); done)) | ((with_reducible refine Below.setCell ?_ ?_ _); rotate_left; focus (((try dsimp only); repeat (first | omega | simp only [World.size_alloc, World.size_setCell, World.size_drew] | (with_reducible refine le_ext_of ?_) | (with_reducible refine le_ext_add ?_))); done)) | (with_reducible refine Below.drew ?_))))) HM0.out HM1.out HLO.out HHI.out).mono ?_; rintro e w1 ⟨rfl, y2, rfl⟩)
  generalize hW : (ext ((w.alloc _).alloc _) _).alloc _ = W
  generalize hg : (ext ((w.alloc _).alloc _) _).heap.size = g7
  have hWB : Below w.heap.size w W := by rw [← hW]; (repeat (first | (with_reducible exact Below.refl _ _) | (with_reducible assumption) | ((with_reducible refine below_ext_trans ?_ ?_ _); rotate_left; focus (((try dsimp only); repeat (first | omega | simp only [World.size_alloc, World.size_setCell, World.size_drew] | (with_reducible refine le_ext_of ?_) | (with_reducible refine le_ext_add ?_))); done)) | ((with_reducible refine Below.alloc ?_ ?_ _); rotate_left; focus (((try dsimp only); repeat (first | omega | simp only [World.size_alloc, World.size_setCell, World.size_drew] | (with_reducible refine le_ext_of ?_) | (with_reducible refine le_ext_add ?_))); done)) | ((with_reducible refine Below.setCell ?_ ?_ _); rotate_left; focus (((try dsimp only); repeat (first | omega | simp only [World.size_alloc, World.size_setCell, World.size_drew] | (with_reducible refine le_ext_of ?_) | (with_reducible refine le_ext_add ?_))); done)) | (with_reducible refine Below.drew ?_)))
  have kb : Blk W w.heap.size 26 #[.int .i64 b.n, .slice pb b.bs.length cb, .slice po b.os.length co, .slice ps b.ss.length cs] := by rw [← hW]; exact (((Blk.new rfl).alloc _).ext _).alloc _
  have k7 : Blk W g7 33 #[.int .i64 lo, .int .i64 hi] := by rw [← hW]; exact Blk.new hg.symm
  have d0 := kb.cell 0
  have d1 := kb.cell 1
  have d2 := kb.cell 2
  have d3 := kb.cell 3
  have e0 := k7.cell 0
  have e1 := k7.cell 1
  simp only [List.size_toArray, List.length_cons, List.length_nil, Nat.reduceAdd, Nat.reduceLT, getElem?_pos, List.getElem_toArray, List.getElem_cons_zero, List.getElem_cons_succ] at d0 d1 d2 d3 e0 e1
  have kl := kb.lt
  have k7l := k7.lt
  have HBW := Lib.hid (HB.out.below hWB)
  have HNW := Lib.hid (HN.out.below hWB)
  have HWB := Lib.hid hWB
  have KB := Lib.hid kb
  have K7 := Lib.hid k7
  clear hW hWB kb k7 hg HB HN
  go_upto_region 6 with (go_at_call 16; refine (Owners_eq ⟨pb, cb, po, co, ps, cs⟩ b st m lo hi L n _ (HBW.out.below (by (repeat (first | (with_reducible exact Below.refl _ _) | (with_reducible assumption) | ((with_reducible refine below_ext_trans ?_ ?_ _); rotate_left; focus (((try dsimp only); repeat (first | omega | simp only [World.size_alloc, World.size_setCell, World.size_drew] | (with_reducible refine le_ext_of ?_) | (with_reducible refine le_ext_add ?_))); done)) | ((with_reducible refine Below.alloc ?_ ?_ _); rotate_left; focus (((try dsimp only); repeat (first | omega | simp only [World.size_alloc, World.size_setCell, World.size_drew] | (with_reducible refine le_ext_of ?_) | (with_reducible refine le_ext_add ?_))); done)) | ((with_reducible refine Below.setCell ?_ ?_ _); rotate_left; focus (((try dsimp only); repeat (first | omega | simp only [World.size_alloc, World.size_setCell, World.size_drew] | (with_reducible refine le_ext_of ?_) | (with_reducible refine le_ext_add ?_))); done)) | (with_reducible refine Below.drew ?_))))) HV.out (HNW.out.below (by (repeat (first | (with_reducible exact Below.refl _ _) | (with_reducible assumption) | ((with_reducible refine below_ext_trans ?_ ?_ _); rotate_left; focus (((try dsimp only); repeat (first | omega | simp only [World.size_alloc, World.size_setCell, World.size_drew] | (with_reducible refine le_ext_of ?_) | (with_reducible refine le_ext_add ?_))); done)) | ((with_reducible refine Below.alloc ?_ ?_ _); rotate_left; focus (((try dsimp only); repeat (first | omega | simp only [World.size_alloc, World.size_setCell, World.size_drew] | (with_reducible refine le_ext_of ?_) | (with_reducible refine le_ext_add ?_))); done)) | ((with_reducible refine Below.setCell ?_ ?_ _); rotate_left; focus (((try dsimp only); repeat (first | omega | simp only [World.size_alloc, World.size_setCell, World.size_drew] | (with_reducible refine le_ext_of ?_) | (with_reducible refine le_ext_add ?_))); done)) | (with_reducible refine Below.drew ?_))))) HSL.out HM0.out HM1.out HLO.out HHI.out HL.out HLN.out).mono ?_; rintro e w1 ⟨p, c, rfl, hI, y3, rfl⟩; (try simp only [ext_ext] at hI); have HI := Lib.hid hI; clear hI)
  go_wp2_with fail
  go_loopw [11, 12, 13] (fun u v i wr => ∃ k kx ky : Nat, k ≤ b.bs.length ∧ i = .int .i64 k ∧ u = .int .i64 kx ∧ v = .int .i64 ky ∧ kx ≤ k ∧ ky ≤ k ∧ Hid (kx = cnt ((b.bs.map Prod.snd).take k) m) ∧ Hid (ky = cnt ((b.bs.map Prod.fst).take k) m) ∧ wr = ext W y3) (fun _ _ i _ => b.bs.length - (intOf i).toNat)
  case atStart => exact ⟨0, 0, 0, by omega, rfl, rfl, rfl, by omega, by omega, Lib.hid rfl, Lib.hid rfl, rfl⟩
  case round =>
    obtain ⟨k, kx, ky, hk, rfl, rfl, rfl, hx, hy, HX, HY, rfl⟩ := hrel
    by_cases hlt : k < b.bs.length
    · obtain ⟨⟨slo, shi⟩, hsk⟩ := get_some b.bs k hlt
      obtain ⟨bb, o, rfl, hbb, q1, q2⟩ := HBW.out.bs k _ hsk
      dsimp only at q1 q2
      have hks : (b.bs.map Prod.snd)[k]? = some shi := by simp [hsk]
      have hkf : (b.bs.map Prod.fst)[k]? = some slo := by simp [hsk]
      have HX2 := Lib.hid (show cnt ((b.bs.map Prod.snd).take (k + 1)) m = kx + if shi ≤ m then 1 else 0 by rw [cnt_take _ _ _ _ hks, ← HX.out])
      have HY2 := Lib.hid (show cnt ((b.bs.map Prod.fst).take (k + 1)) m = ky + if slo ≤ m then 1 else 0 by rw [cnt_take _ _ _ _ hkf, ← HY.out])
      have k0 : (0 : Int) ≤ (k : Int) := by omega
      have k1 : (k : Int) < (b.bs.length : Int) := by omega
      clear hsk hks hkf HX HY
      by_cases c1 : shi ≤ m
      · by_cases c2 : slo ≤ m
        · have HC1 := Lib.hid c1
          have HC2 := Lib.hid c2
          go_wp2_with fail
          go_roundw
          case rel => exact ⟨k + 1, kx + 1, ky + 1, by omega, by go_num, by go_num, by go_num, by omega, by omega, Lib.hid (by rw [HX2.out, if_pos HC1.out]), Lib.hid (by rw [HY2.out, if_pos HC2.out]), trivial⟩
          case measure => simp [intOf]; omega
        · have HC1 := Lib.hid c1
          have HC2 := Lib.hid c2
          go_wp2_with fail
          go_roundw
          case rel => exact ⟨k + 1, kx + 1, ky, by omega, by go_num, by go_num, rfl, by omega, by omega, Lib.hid (by rw [HX2.out, if_pos HC1.out]), Lib.hid (by rw [HY2.out, if_neg HC2.out]; rfl), trivial⟩
          case measure => simp [intOf]; omega
      · by_cases c2 : slo ≤ m
        · have HC1 := Lib.hid c1
          have HC2 := Lib.hid c2
          go_wp2_with fail
          go_roundw
          case rel => exact ⟨k + 1, kx, ky + 1, by omega, by go_num, rfl, by go_num, by omega, by omega, Lib.hid (by rw [HX2.out, if_neg HC1.out]; rfl), Lib.hid (by rw [HY2.out, if_pos HC2.out]), trivial⟩
          case measure => simp [intOf]; omega
        · have HC1 := Lib.hid c1
          have HC2 := Lib.hid c2
          go_wp2_with fail
          go_roundw
          case rel => exact ⟨k + 1, kx, ky, by omega, by go_num, rfl, rfl, by omega, by omega, Lib.hid (by rw [HX2.out, if_neg HC1.out]; rfl), Lib.hid (by rw [HY2.out, if_neg HC2.out]; rfl), trivial⟩
          case measure => simp [intOf]; omega
    · obtain rfl : k = b.bs.length := by omega
      obtain rfl : kx = lo := by rw [HX.out, List.take_of_length_le (by simp), HLO.out]
      obtain rfl : ky = hi := by rw [HY.out, List.take_of_length_le (by simp), HHI.out]
      clear hk hlt hx hy HX HY d0 d1 d2 d3 e0 e1 kl k7l
      have hB2 : Below W.heap.size W (ext W y3) := below_ext W y3
      generalize ext W y3 = W2 at *
      have kb2 := KB.out.bel hB2
      have k72 := K7.out.bel hB2
      have d0 := kb2.cell 0
      have d1 := kb2.cell 1
      have d2 := kb2.cell 2
      have d3 := kb2.cell 3
      have e0 := k72.cell 0
      have e1 := k72.cell 1
      simp only [List.size_toArray, List.length_cons, List.length_nil, Nat.reduceAdd, Nat.reduceLT, getElem?_pos, List.getElem_toArray, List.getElem_cons_zero, List.getElem_cons_succ] at d0 d1 d2 d3 e0 e1
      have kl := kb2.lt
      have k7l := k72.lt
      have HB2 := Lib.hid (HBW.out.below hB2)
      have HN2 := Lib.hid (HNW.out.below hB2)
      have HW2 := Lib.hid (HWB.out.trans (hB2.mono HWB.out.size))
      clear kb2 k72 hB2 KB K7 HBW HNW HWB
      have hneq : ∀ w, (Go.binOp .neq 33 (.agg #[.int .i64 kx, .int .i64 ky]) (.agg #[.int .i64 kx, .int .i64 ky])).run Tryd.prog w = .ok (.bool false) w := fun w => by rw [span_neq]; simp
      have hn5 := bookB_n HV.out
      have HRI := Lib.hid (show risesB b.n 0 L = true by rw [← HL.out]; exact ownersL_rises HV.out HSL.out hhb)
      have HLL := Lib.hid (show (L.length : Int) ≤ 1000 by rw [← HL.out]; have := ownersL_len b st kx ky; omega)
      have HN5 := Lib.hid hn5
      clear hn5
      go_upto_region 14 with fail
      refine wp_region_ext (by kernel_rfl) (by kernel_rfl) ?_
      repeat (go_big_quiet_step (fail))
      go_big_quiet_step ((go_at_call 26; exact quiet_ext (To_any _ _ _)))
      repeat (go_big_quiet_step (fail))
      go_big_quiet_step ((go_at_call 19; exact quiet_ext (Rises_ext p c L n b.n _ HLN.out (HI.out.below (below_ext _ _)) HLL.out (by have := HN5.out; omega) (by have := HN5.out; omega) HRI.out)))
      repeat (go_big_quiet_step (fail))
      (refine wpQuiet_nil ?_; rintro _ ⟨x, rfl⟩)
      go_wp2_with fail
      obtain ⟨bb, o, q, cq, hpo, hbb, hcell, hints⟩ := row_at HB2.out.os HSL.out
      dsimp only at hpo
      subst hpo
      have hrow : ∀ j : Nat, j ≤ b.bs.length → (b.os.getD st [])[j]? = some (ownf b.os st j) ∧ (j : Int) < ((b.os.getD st []).length : Int) := fun j hj => by
        obtain ⟨r, hr⟩ := get_some b.os st HSL.out
        have e : b.os.getD st [] = r := by rw [List.getD_eq_getElem?_getD, hr]; rfl
        have hrl := (bookB_orders HV.out).2 r (List.mem_of_getElem? hr)
        obtain ⟨v, hv⟩ := get_some r j (by omega)
        rw [e, ownf_get hr hv]
        exact ⟨hv, by omega⟩
      have HROW := Lib.hid hrow
      have HINTS := Lib.hid hints
      have s0 : (0 : Int) ≤ (st : Int) := by omega
      have s1 : (st : Int) < (b.os.length : Int) := by have := HSL.out; omega
      clear hrow hints
      generalize b.os.getD st [] = R at *
      go_loopw [14, 15] (fun u i wr => ∃ j z : Nat, kx ≤ j ∧ j ≤ ky + 1 ∧ i = .int .i64 j ∧ u = .int .i64 z ∧ z < 16 ∧ Hid (z = setN ((upto kx j).map fun t => ownf b.os st t)) ∧ ∃ x, wr = ext W2 x) (fun _ i _ => ky + 1 - (intOf i).toNat)
      case atStart => exact ⟨kx, 0, by omega, by omega, rfl, rfl, by omega, Lib.hid (by rw [upto_self]; rfl), _, rfl⟩
      case round =>
        obtain ⟨j, z, hj1, hj2, rfl, rfl, hz, HZ, xx, rfl⟩ := hrel
        by_cases hlt : j ≤ ky
        · obtain ⟨hv, hjl⟩ := HROW.out j (by omega)
          obtain ⟨b2, o2, rfl, hb2, c2⟩ := HINTS.out j _ hv
          obtain ⟨v0, v1⟩ := ownf_co HV.out HSL.out (show j ≤ b.bs.length by omega)
          have v2 := (bookB_n HV.out).2
          obtain ⟨x1, x2⟩ := bits_or' z (ownf b.os st j) hz v0 (by omega)
          have HS := Lib.hid (show orB z (ownf b.os st j) = setN ((upto kx (j + 1)).map fun t => ownf b.os st t) by rw [← upto_snoc kx j hj1, List.map_append, List.map_cons, List.map_nil, setN_snoc, ← HZ.out])
          have hw4 : ownf b.os st j % 4 = ownf b.os st j := Int.emod_eq_of_lt v0 (by omega)
          have HW4 := Lib.hid hw4
          have j0 : (0 : Int) ≤ (j : Int) := by omega
          generalize ownf b.os st j = v at *
          clear hv hw4 HZ
          go_wp2_with (go_at_call 14; refine (Wheel_eq v 4 v _ ⟨by omega, by omega⟩ HW4.out).mono ?_; rintro e w1 ⟨rfl, yy, rfl⟩)
          go_roundw
          case rel => exact ⟨j + 1, orB z v, by omega, by omega, by go_num, rfl, x2, HS, _, rfl⟩
          case measure => simp [intOf]; omega
        · obtain rfl : j = ky + 1 := by omega
          have HZL : z = setN L := (show z = setN L by
            rw [HZ.out, ← HL.out]
            refine setN_eq (fun x => ?_)
            rw [mem_ownersL, List.mem_map]
            exact ⟨fun ⟨t, h1, h2⟩ => ⟨t, (mem_seg.1 h1).1, (mem_seg.1 h1).2, h2⟩, fun ⟨t, h1, h2, h3⟩ => ⟨t, mem_seg.2 ⟨h1, h2⟩, h3⟩⟩)
          have HL4 := Lib.hid (show ∀ x ∈ L, 0 ≤ x ∧ x < 4 by
            intro x hx
            rw [← HL.out] at hx
            obtain ⟨t, _, h2, rfl⟩ := mem_ownersL.1 hx
            have h3 := ownf_co HV.out HSL.out (show t ≤ b.bs.length by omega)
            have h4 := (bookB_n HV.out).2
            omega)
          subst HZL
          go_wp2_with (first
            | (go_at_call 27; refine (Set_eq p c L n _ HLN.out (HI.out.below (by (repeat (first | (with_reducible exact Below.refl _ _) | (with_reducible assumption) | ((with_reducible refine below_ext_trans ?_ ?_ _); rotate_left; focus (((try dsimp only); repeat (first | omega | simp only [World.size_alloc, World.size_setCell, World.size_drew] | (with_reducible refine le_ext_of ?_) | (with_reducible refine le_ext_add ?_))); done)) | ((with_reducible refine Below.alloc ?_ ?_ _); rotate_left; focus (((try dsimp only); repeat (first | omega | simp only [World.size_alloc, World.size_setCell, World.size_drew] | (with_reducible refine le_ext_of ?_) | (with_reducible refine le_ext_add ?_))); done)) | ((with_reducible refine Below.setCell ?_ ?_ _); rotate_left; focus (((try dsimp only); repeat (first | omega | simp only [World.size_alloc, World.size_setCell, World.size_drew] | (with_reducible refine le_ext_of ?_) | (with_reducible refine le_ext_add ?_))); done)) | (with_reducible refine Below.drew ?_))))) HLL.out HL4.out).mono ?_; rintro e w1 ⟨rfl, rfl⟩)
            | (go_at_call 13; refine (shot_any _ (HN2.out.below (by (repeat (first | (with_reducible exact Below.refl _ _) | (with_reducible assumption) | ((with_reducible refine below_ext_trans ?_ ?_ _); rotate_left; focus (((try dsimp only); repeat (first | omega | simp only [World.size_alloc, World.size_setCell, World.size_drew] | (with_reducible refine le_ext_of ?_) | (with_reducible refine le_ext_add ?_))); done)) | ((with_reducible refine Below.alloc ?_ ?_ _); rotate_left; focus (((try dsimp only); repeat (first | omega | simp only [World.size_alloc, World.size_setCell, World.size_drew] | (with_reducible refine le_ext_of ?_) | (with_reducible refine le_ext_add ?_))); done)) | ((with_reducible refine Below.setCell ?_ ?_ _); rotate_left; focus (((try dsimp only); repeat (first | omega | simp only [World.size_alloc, World.size_setCell, World.size_drew] | (with_reducible refine le_ext_of ?_) | (with_reducible refine le_ext_add ?_))); done)) | (with_reducible refine Below.drew ?_)))))).mono ?_; rintro e w1 ⟨rfl, y, rfl⟩))
          go_ret
          exact ⟨rfl, by have hB := HW2.out; (exact ext_of (by (repeat (first | (with_reducible exact Below.refl _ _) | (with_reducible assumption) | ((with_reducible refine below_ext_trans ?_ ?_ _); rotate_left; focus (((try dsimp only); repeat (first | omega | simp only [World.size_alloc, World.size_setCell, World.size_drew] | (with_reducible refine le_ext_of ?_) | (with_reducible refine le_ext_add ?_))); done)) | ((with_reducible refine Below.alloc ?_ ?_ _); rotate_left; focus (((try dsimp only); repeat (first | omega | simp only [World.size_alloc, World.size_setCell, World.size_drew] | (with_reducible refine le_ext_of ?_) | (with_reducible refine le_ext_add ?_))); done)) | ((with_reducible refine Below.setCell ?_ ?_ _); rotate_left; focus (((try dsimp only); repeat (first | omega | simp only [World.size_alloc, World.size_setCell, World.size_drew] | (with_reducible refine le_ext_of ?_) | (with_reducible refine le_ext_add ?_))); done)) | (with_reducible refine Below.drew ?_)))))⟩

theorem TurnEnds_any (h : Hd) (b : Bk) (n0 n1 : Int) (w : World) (hb : BkAt w h b) (hn : NB w) :
    Calls Tryd.prog 4 #[.agg #[.int .i64 b.n, .slice h.pb b.bs.length h.cb, .slice h.po b.os.length h.co, .slice h.ps b.ss.length h.cs], .agg #[.int .i64 n0, .int .i64 n1]] w fun e w' => e = .returned (.bool true) ∧ ∃ x, w' = ext w x := by
  cases hv : bookB b with
  | false => exact TurnEnds_bad h b n0 n1 w hb hv hn
  | true =>
    obtain ⟨⟨ho1, ho3⟩, -⟩ := bookB_orders hv
    obtain ⟨h4, hs, -⟩ := bookB_bounds hv
    have hi0 := Int.emod_nonneg n0 (show (b.os.length : Int) ≠ 0 by omega)
    have hi1 := Int.emod_lt_of_pos n0 (show 0 < (b.os.length : Int) by omega)
    have hm0 := Int.emod_nonneg n1 (show (1440 : Int) ≠ 0 by omega)
    have hm1 := Int.emod_lt_of_pos n1 (show (0 : Int) < 1440 by omega)
    obtain ⟨st, est⟩ := Int.eq_ofNat_of_zero_le hi0
    have hle := cnt_late_soon b.bs h4 hs (n1 % 1440) (n1 % 1440) (by omega)
    rw [late_tl, soon_tl, cnt_tl _ (by simpa using h4) _ hm1, cnt_tl _ (by simpa using h4) _ hm1] at hle
    have hhb := cnt_le (b.bs.map Prod.fst) (n1 % 1440)
    exact TurnEnds_yes h b n0 n1 w hb hv hn st _ _ _ _ _ est (by omega) rfl hm0 hm1 rfl rfl hle (by simpa using hhb) rfl rfl
end Go.Proofs.YtmnbfjphndgmnaaDoor

