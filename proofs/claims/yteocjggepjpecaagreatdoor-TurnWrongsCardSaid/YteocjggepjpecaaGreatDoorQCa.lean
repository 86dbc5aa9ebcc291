/- Plain facts: all truths of a book, gone through one by one, tell what is told of its bounds. -/
/- Contracts of Bit and Bits, exactly. -/
/- Plain facts: the fewest shots without which all others can be fair together, gone through set by set. -/
import Derived.Test.YteocjggepjpecaaGreatDoorQYv
import Derived.Test.YteocjggepjpecaaGreatDoorQAa
set_option linter.unusedSimpArgs false
set_option linter.unusedVariables false
namespace Go.Proofs.YteocjggepjpecaaGreatDoor
open Go Go.RowKit

theorem mem_mins_iff {lo hi m : Int} : m ∈ mins lo hi ↔ lo ≤ m ∧ m ≤ hi := by
  constructor
  · exact mem_mins
  · intro h
    simp only [mins, mupto, List.mem_map, List.mem_range]
    exact ⟨(m - lo).toNat, by omega, by omega⟩
theorem allT_snd {b : Bk} (hv : bookB b = true) : b.bs.map Prod.snd ∈ allT b := by
  obtain ⟨_, hs, _⟩ := bookB_bounds hv
  unfold allT
  rw [mem_prodL]
  refine ⟨by simp [MS], fun i x l hx hl => ?_⟩
  unfold MS at hl
  rw [List.getElem?_map, Option.map_eq_some_iff] at hl hx
  obtain ⟨⟨lo, hi⟩, hl, rfl⟩ := hl
  obtain ⟨⟨lo', hi'⟩, hx, rfl⟩ := hx
  rw [hl] at hx; cases hx
  have := hs _ (List.mem_of_getElem? hl)
  dsimp only at this
  exact mem_mins_iff.2 ⟨this, Int.le_refl _⟩
theorem allT_bd {b : Bk} {v : List Int} (h : v ∈ allT b) {i : Nat} {x lo hi : Int} (hx : v[i]? = some x) (hb : b.bs[i]? = some (lo, hi)) : lo ≤ x ∧ x ≤ hi := by
  unfold allT at h
  rw [mem_prodL] at h
  have := h.2 i x (mins lo hi) hx (by unfold MS; rw [List.getElem?_map, hb]; rfl)
  exact mem_mins this
theorem allT_set {b : Bk} {v : List Int} (h : v ∈ allT b) {k : Nat} {lo hi n : Int} (hb : b.bs[k]? = some (lo, hi)) (h1 : lo ≤ n) (h2 : n ≤ hi) : v.set k n ∈ allT b := by
  have hl := allT_len h
  have hk := (List.getElem?_eq_some_iff.1 hb).1
  unfold allT at h ⊢
  rw [mem_prodL] at h ⊢
  refine ⟨by simpa using h.1, fun i x l hx hl' => ?_⟩
  by_cases e : k = i
  · subst e
    rw [List.getElem?_set_self (by omega)] at hx
    cases hx
    unfold MS at hl'
    rw [List.getElem?_map, hb] at hl'
    simp at hl'
    subst hl'
    exact mem_mins_iff.2 ⟨h1, h2⟩
  · rw [List.getElem?_set_ne e] at hx
    exact h.2 i x l hx hl'
theorem cnt_next : ∀ {l : List Int} (m : Int), l.Pairwise (· < ·) → cnt l (m + 1) ≤ cnt l m + 1
  | [], m, _ => by simp [cnt]
  | a :: l, m, h => by
    rw [List.pairwise_cons] at h
    have ih := cnt_next (l := l) m h.2
    rw [cnt_cons, cnt_cons]
    by_cases h1 : a ≤ m
    · rw [if_pos h1, if_pos (by omega)]; omega
    · have h2 : cnt l (m + 1) = 0 := cnt_none (fun y hy => by have := h.1 y hy; omega)
      rw [h2]; split <;> omega
theorem cnt_found {l : List Int} (hp : l.Pairwise (· < ·)) (lo : Int) : ∀ (n t : Nat), cnt l lo ≤ t → t ≤ cnt l (lo + (n : Int)) → ∃ j : Nat, j ≤ n ∧ cnt l (lo + (j : Int)) = t
  | 0, t, h1, h2 => ⟨0, Nat.le_refl _, by simp at h2 ⊢; omega⟩
  | n + 1, t, h1, h2 => by
    by_cases h : t ≤ cnt l (lo + (n : Int))
    · obtain ⟨j, hj, e⟩ := cnt_found hp lo n t h1 h
      exact ⟨j, by omega, e⟩
    · have := cnt_next (lo + (n : Int)) hp
      have e : lo + ((n + 1 : Nat) : Int) = lo + (n : Int) + 1 := by omega
      rw [e] at h2
      exact ⟨n + 1, Nat.le_refl _, by rw [e]; omega⟩
/-- Each turn between is that of a truth at one of the minutes. -/
theorem turn_found {b : Bk} (hv : bookB b = true) {lo hi : Int} (hlh : lo ≤ hi) {t : Nat} (h1 : cnt (b.bs.map Prod.snd) lo ≤ t) (h2 : t ≤ cnt (b.bs.map Prod.fst) hi) : ∃ v ∈ allT b, ∃ m, lo ≤ m ∧ m ≤ hi ∧ cnt v m = t := by
  by_cases h : t ≤ cnt (b.bs.map Prod.snd) hi
  · obtain ⟨j, hj, e⟩ := cnt_found (snd_rises hv) lo (hi - lo).toNat t h1 (by rw [show lo + ((hi - lo).toNat : Int) = hi by omega]; exact h)
    exact ⟨_, allT_snd hv, lo + (j : Int), by omega, by omega, e⟩
  · have := one_open hv hi
    exact ⟨_, allT_fst hv, hi, hlh, Int.le_refl _, by omega⟩
theorem turn_between {b : Bk} {v : List Int} (h : v ∈ allT b) {lo hi m : Int} (h1 : lo ≤ m) (h2 : m ≤ hi) : cnt (b.bs.map Prod.snd) lo ≤ cnt v m ∧ cnt v m ≤ cnt (b.bs.map Prod.fst) hi := by
  have g1 := (allT_ends h m)
  have g2 := cnt_mono (b.bs.map Prod.snd) _ _ h1
  have g3 := cnt_mono (b.bs.map Prod.fst) _ _ h2
  omega

/-- Whether a shot is fair in a truth at a minute, gone through. -/
def fairRow (b : Bk) (st : Nat) (s : Shot) (v : List Int) : List Bool := (mins s.lo s.hi).map fun m => okB b st s (cnt v m)
def fairAll (b : Bk) (st : Nat) (s : Shot) (l : List (List Int)) : List Bool := l.flatMap (fairRow b st s)
def fairK (l : List Bool) : Int := if l.all id then 2 else if l.any id then 1 else 0
theorem fair_same {b : Bk} (hv : bookB b = true) {i : Nat} {s : Shot} (hs : b.ss[i]? = some s) {st : Nat} :
    fairK (fairAll b st s (allT b)) = kindOf (fun t => ownf b.os st t == s.co) (seg (cnt (lateL b.bs) s.lo) (cnt (soonL b.bs) s.hi)) := by
  obtain ⟨-, -, m1⟩ := bookB_shot hv hs
  unfold Mom at m1
  have h4 := (bookB_bounds hv).1
  have a1 : cnt (lateL b.bs) s.lo = cnt (b.bs.map Prod.snd) s.lo := by rw [late_tl]; exact cnt_tl _ (by simpa using h4) _ (by omega)
  have a2 : cnt (soonL b.bs) s.hi = cnt (b.bs.map Prod.fst) s.hi := by rw [soon_tl]; exact cnt_tl _ (by simpa using h4) _ (by omega)
  rw [a1, a2]
  have key : ∀ x : Bool, x ∈ fairAll b st s (allT b) ↔ ∃ t ∈ seg (cnt (b.bs.map Prod.snd) s.lo) (cnt (b.bs.map Prod.fst) s.hi), okB b st s t = x := by
    intro x
    unfold fairAll fairRow
    rw [List.mem_flatMap]
    constructor
    · rintro ⟨v, hv', hx⟩
      obtain ⟨m, hm, rfl⟩ := List.mem_map.1 hx
      have hm := mem_mins_iff.1 hm
      exact ⟨_, mem_seg.2 (turn_between hv' hm.1 hm.2), rfl⟩
    · rintro ⟨t, ht, rfl⟩
      have ht := mem_seg.1 ht
      obtain ⟨v, hv', m, g1, g2, e⟩ := turn_found hv (show s.lo ≤ s.hi by omega) ht.1 ht.2
      exact ⟨v, hv', List.mem_map.2 ⟨m, mem_mins_iff.2 ⟨g1, g2⟩, by rw [e]⟩⟩
  have hall : (fairAll b st s (allT b)).all id = (seg (cnt (b.bs.map Prod.snd) s.lo) (cnt (b.bs.map Prod.fst) s.hi)).all (fun t => ownf b.os st t == s.co) := by
    rw [Bool.eq_iff_iff, List.all_eq_true, List.all_eq_true]
    constructor
    · intro h t ht
      exact h _ ((key _).2 ⟨t, ht, rfl⟩)
    · intro h x hx
      obtain ⟨t, ht, rfl⟩ := (key x).1 hx
      exact h t ht
  have hany : (fairAll b st s (allT b)).any id = (seg (cnt (b.bs.map Prod.snd) s.lo) (cnt (b.bs.map Prod.fst) s.hi)).any (fun t => ownf b.os st t == s.co) := by
    rw [Bool.eq_iff_iff, List.any_eq_true, List.any_eq_true]
    constructor
    · rintro ⟨x, hx, hx2⟩
      obtain ⟨t, ht, rfl⟩ := (key x).1 hx
      exact ⟨t, ht, hx2⟩
    · rintro ⟨t, ht, hx⟩
      exact ⟨_, (key _).2 ⟨t, ht, rfl⟩, hx⟩
  unfold fairK kindOf
  rw [hall, hany]

/-- Whether a shot hangs on a bound, gone through. -/
def hangRow (b : Bk) (st k : Nat) (s : Shot) (v : List Int) (n : Int) : List Bool := (mins s.lo s.hi).map fun m => okB b st s (cnt v m) != okB b st s (cnt (v.set k n) m)
def hangT (b : Bk) (st k : Nat) (s : Shot) (v : List Int) : Bool := match b.bs[k]? with | some c => (mins c.1 c.2).any fun n => (mins s.lo s.hi).any fun m => okB b st s (cnt v m) != okB b st s (cnt (v.set k n) m) | none => false
theorem hang_same {b : Bk} (hv : bookB b = true) {i : Nat} {s : Shot} (hs : b.ss[i]? = some s) {st k : Nat} (hk : k < b.bs.length) :
    (allT b).any (hangT b st k s) = hangB b st k s := by
  obtain ⟨-, -, m1⟩ := bookB_shot hv hs
  unfold Mom at m1
  obtain ⟨⟨lo, hi⟩, hb⟩ := get_some b.bs k hk
  have hle := (bookB_bounds hv).2.1 _ (List.mem_of_getElem? hb)
  dsimp only at hle
  rw [Bool.eq_iff_iff, List.any_eq_true]
  unfold hangB
  rw [List.any_eq_true]
  constructor
  · rintro ⟨v, hv', h⟩
    unfold hangT at h
    rw [hb] at h
    obtain ⟨n, hn, h⟩ := List.any_eq_true.1 h
    obtain ⟨m, hm, h⟩ := List.any_eq_true.1 h
    dsimp only at hn
    have hn := mem_mins_iff.1 hn
    have hm' := mem_mins_iff.1 hm
    refine ⟨m, hm, ?_⟩
    rw [hd_eq hv st s hk (by omega)]
    obtain ⟨y, hy⟩ := get_some v k (by rw [allT_len hv']; exact hk)
    have hyb := allT_bd hv' hy hb
    have e0 := cnt_set v k n m y hy
    have e1 := lo_iff hv (x := m) hb
    have e2 := hi_iff hv (x := m) hb
    have e3 := one_open hv m
    have g1 := allT_ends hv' m
    have g2 := allT_ends (allT_set hv' hb hn.1 hn.2) m
    have hne : cnt v m ≠ cnt (v.set k n) m := by
      intro e
      rw [e] at h
      simp at h
    have h1 : lo ≤ m := by
      refine Classical.byContradiction fun hc => ?_
      rw [if_neg (by omega), if_neg (by omega)] at e0
      omega
    have h2 : ¬ hi ≤ m := by
      intro hc
      rw [if_pos (by omega), if_pos (by omega)] at e0
      omega
    have h3 := e1.1 h1
    have h4 : ¬ k < cnt (b.bs.map Prod.snd) m := fun hc => h2 (e2.2 hc)
    rw [decide_eq_true ⟨by omega, h3⟩, Bool.true_and]
    have c : (cnt v m = k ∧ cnt (v.set k n) m = k + 1) ∨ (cnt v m = k + 1 ∧ cnt (v.set k n) m = k) := by omega
    rcases c with ⟨c1, c2⟩ | ⟨c1, c2⟩
    · rw [c1, c2] at h; exact h
    · rw [c1, c2] at h
      cases h5 : okB b st s k <;> cases h6 : okB b st s (k + 1) <;> rw [h5, h6] at h <;> first | rfl | exact absurd h (by decide)
  · rintro ⟨m, hm, h⟩
    have hm' := mem_mins_iff.1 hm
    rw [hd_eq hv st s hk (by omega)] at h
    simp only [Bool.and_eq_true, decide_eq_true_eq] at h
    obtain ⟨⟨h1, h2⟩, h3⟩ := h
    refine ⟨_, allT_fst hv, ?_⟩
    unfold hangT
    rw [hb]
    refine List.any_eq_true.2 ⟨hi, mem_mins_iff.2 ⟨hle, Int.le_refl _⟩, List.any_eq_true.2 ⟨m, hm, ?_⟩⟩
    have e0 := cnt_set (b.bs.map Prod.fst) k hi m lo (by simp [hb])
    have e1 := (lo_iff hv (x := m) hb).2 h2
    have e2 : ¬ hi ≤ m := fun hc => by have := (hi_iff hv (x := m) hb).1 hc; omega
    have e3 := one_open hv m
    rw [if_pos e1, if_neg e2] at e0
    rw [show cnt (b.bs.map Prod.fst) m = k + 1 by omega, show cnt ((b.bs.map Prod.fst).set k hi) m = k by omega]
    cases h5 : okB b st s k <;> cases h6 : okB b st s (k + 1) <;> rw [h5, h6] at h3 <;> first | rfl | exact absurd h3 (by decide)
end Go.Proofs.YteocjggepjpecaaGreatDoor

namespace Go.Proofs.YteocjggepjpecaaGreatDoor
open Go Go.RowKit

theorem bit_fact : ∀ s : Nat, s < 32 → ∀ n : Nat, n < 5 → (((s : Int) / 2 ^ n).tmod 2 == 1) = s.testBit n := by decide +kernel
set_option maxHeartbeats 1000000 in
theorem Bit_eq (s n : Nat) (q : Bool) (w : World) (hs : s < 32) (hn : n < 5) (hq : s.testBit n = q) : Calls Tryz.prog 76 #[.int .i64 s, .int .i64 n] w fun e w' => e = .returned (.bool q) ∧ w = w' := by
  subst hq
  have n0 : (0 : Int) ≤ (n : Int) := by omega
  have n1 : (n : Int) < 64 := by omega
  have H := Lib.hid (bit_fact s hs n hn)
  go_enter Tryz.func76, Tryz.ntmps76
  go_wp2
  go_ret
  exact ⟨by rw [← H.out]; rfl, rfl⟩
/-- The numbers of a set. -/
def bitsL (s m : Nat) : List Int := ((List.range m).filter (fun k => s.testBit k)).map (fun (k : Nat) => (k : Int))
theorem bitsL_yes {s k : Nat} (h : s.testBit k = true) : bitsL s (k + 1) = bitsL s k ++ [(k : Int)] := by simp [bitsL, List.range_succ, List.filter_append, h]
theorem bitsL_no {s k : Nat} (h : s.testBit k = false) : bitsL s (k + 1) = bitsL s k := by simp [bitsL, List.range_succ, List.filter_append, h]
theorem bitsL_le (s m : Nat) : (bitsL s m).length ≤ m := by
  unfold bitsL
  rw [List.length_map]
  exact Nat.le_trans (List.length_filter_le _ _) (by simp)
theorem mem_bitsL {s m : Nat} {x : Int} : x ∈ bitsL s m ↔ ∃ k : Nat, k < m ∧ s.testBit k = true ∧ x = (k : Int) := by
  unfold bitsL
  rw [List.mem_map]
  constructor
  · rintro ⟨k, hk, rfl⟩
    rw [List.mem_filter, List.mem_range] at hk
    exact ⟨k, hk.1, hk.2, rfl⟩
  · rintro ⟨k, h1, h2, rfl⟩
    exact ⟨k, List.mem_filter.2 ⟨List.mem_range.2 h1, h2⟩, rfl⟩
theorem bitsL_rises (s m : Nat) : (bitsL s m).Pairwise (· < ·) := by
  unfold bitsL
  rw [List.pairwise_map]
  exact (List.pairwise_lt_range.sublist List.filter_sublist).imp (fun {a c} h => by omega)
def BitsPost (w : World) (L : List Int) (e : Ending) (w' : World) : Prop := ∃ (p : Option Addr) (c : Nat), e = .returned (.slice p L.length c) ∧ IntsAt w' p L ∧ ∃ x, w' = ext w x
set_option maxHeartbeats 4000000 in
theorem Bits_eq (s m : Nat) (w : World) (hs : s < 32) (hm : m ≤ 5) : Calls Tryz.prog 43 #[.int .i64 s, .int .i64 m] w (BitsPost w (bitsL s m)) := by
  go_enter Tryz.func43, Tryz.ntmps43
  go_wp2_with fail
  generalize hW : w.alloc _ = W
  have hWB : Below w.heap.size w W := by rw [← hW]; (repeat (first | (with_reducible exact Below.refl _ _) | (with_reducible assumption) | ((with_reducible refine below_ext_trans ?_ ?_ _); rotate_left; focus (((try dsimp only); repeat (first | omega | simp only [World.size_alloc, World.size_setCell, World.size_drew] | (with_reducible refine le_ext_of ?_) | (with_reducible refine le_ext_add ?_))); done)) | ((with_reducible refine Below.alloc ?_ ?_ _); rotate_left; focus (((try dsimp only); repeat (first | omega | simp only [World.size_alloc, World.size_setCell, World.size_drew] | (with_reducible refine le_ext_of ?_) | (with_reducible refine le_ext_add ?_))); done)) | ((with_reducible refine Below.setCell ?_ ?_ _); rotate_left; focus (((try dsimp only); repeat (first | omega | simp only [World.size_alloc, World.size_setCell, World.size_drew] | (with_reducible refine le_ext_of ?_) | (with_reducible refine le_ext_add ?_))); done)) | (with_reducible refine Below.drew ?_)))
  have ho : OwnInts W w.heap.size (.slice (some ⟨w.heap.size, 0, none⟩) 0 0) [] := by rw [← hW]; exact OwnInts.of_blk (Blk.new rfl) rfl rfl (by simp)
  have HW := Lib.hid hWB
  have HO0 := Lib.hid ho
  have hWs : w.heap.size ≤ W.heap.size := hWB.size
  clear hW hWB ho
  go_loopw [5, 6] (fun v i wr => ∃ k : Nat, k ≤ m ∧ i = .int .i64 k ∧ Hid (OwnInts wr w.heap.size v (bitsL s k)) ∧ Hid (Below w.heap.size w wr)) (fun _ i _ => m - (intOf i).toNat)
  case atStart => exact ⟨0, by omega, rfl, HO0, HW⟩
  case round =>
    obtain ⟨k, hk, rfl, HO, HB⟩ := hrel
    have hzr : w.heap.size ≤ wr.heap.size := HB.out.size
    by_cases hlt : k < m
    · have hle := bitsL_le s k
      cases hq : s.testBit k
      · have HU := Lib.hid (bitsL_no hq)
        have HQ := Lib.hid hq
        clear hq
        go_wp2_with (go_at_call 76; refine (Bit_eq s k false _ hs (by omega) HQ.out).mono ?_; rintro e w1 ⟨rfl, rfl⟩)
        go_roundw
        case rel => exact ⟨k + 1, by omega, by go_num, by rw [HU.out]; exact HO, HB⟩
        case measure => simp [intOf]; omega
      · have HU := Lib.hid (bitsL_yes hq)
        have HQ := Lib.hid hq
        clear hq
        go_wp2_with (first
          | (go_at_call 76; refine (Bit_eq s k true _ hs (by omega) HQ.out).mono ?_; rintro e w1 ⟨rfl, rfl⟩)
          | (at_builtin; refine wpList_append_int rfl _ _ rfl w.heap.size _ _ rfl (HO.out.below ((Below.refl _ _).alloc (Nat.le_refl _) _)) wr.heap.size (k : Int) rfl (by simp [go_sem]) (by omega) (by ((try dsimp only); repeat (first | omega | simp only [World.size_alloc, World.size_setCell, World.size_drew] | (with_reducible refine le_ext_of ?_) | (with_reducible refine le_ext_add ?_)))) ?_; intro v' w1 ho hg))
        have HO' := Lib.hid ho
        have hB2 : Below w.heap.size w w1 := by
          have hB := HB.out
          refine Below.grown (w := wr.alloc (.cells #[.int .i64 (k : Int)] 3)) (by (repeat (first | (with_reducible exact Below.refl _ _) | (with_reducible assumption) | ((with_reducible refine below_ext_trans ?_ ?_ _); rotate_left; focus (((try dsimp only); repeat (first | omega | simp only [World.size_alloc, World.size_setCell, World.size_drew] | (with_reducible refine le_ext_of ?_) | (with_reducible refine le_ext_add ?_))); done)) | ((with_reducible refine Below.alloc ?_ ?_ _); rotate_left; focus (((try dsimp only); repeat (first | omega | simp only [World.size_alloc, World.size_setCell, World.size_drew] | (with_reducible refine le_ext_of ?_) | (with_reducible refine le_ext_add ?_))); done)) | ((with_reducible refine Below.setCell ?_ ?_ _); rotate_left; focus (((try dsimp only); repeat (first | omega | simp only [World.size_alloc, World.size_setCell, World.size_drew] | (with_reducible refine le_ext_of ?_) | (with_reducible refine le_ext_add ?_))); done)) | (with_reducible refine Below.drew ?_)))) hg (by ((try dsimp only); repeat (first | omega | simp only [World.size_alloc, World.size_setCell, World.size_drew] | (with_reducible refine le_ext_of ?_) | (with_reducible refine le_ext_add ?_)))) ?_
          intro j hj
          exact (HO.out.lt j hj).1
        have HB2 := Lib.hid hB2
        clear ho hg hB2
        go_wp2_with fail
        go_roundw
        case rel => exact ⟨k + 1, by omega, by go_num, by rw [HU.out]; exact HO', HB2⟩
        case measure => simp [intOf]; omega
    · obtain rfl : k = m := by omega
      obtain ⟨p, c, rfl, hI, -⟩ := HO.out.at
      go_wp2_with fail
      go_ret
      exact ⟨p, c, rfl, hI, ext_of HB.out⟩
end Go.Proofs.YteocjggepjpecaaGreatDoor

namespace Go.Proofs.YteocjggepjpecaaGreatDoor
open Go Go.RowKit

theorem allT_rises {b : Bk} (hv : bookB b = true) {v : List Int} (h : v ∈ allT b) : v.Pairwise (· < ·) := by
  rw [List.pairwise_iff_getElem]
  intro i j hi hj hij
  have hl := allT_len h
  have hp := List.pairwise_iff_getElem.1 (chain_pair (bookB_bounds hv).2.2) i j (by omega) (by omega) hij
  have b1 := allT_bd h (List.getElem?_eq_getElem hi) (show b.bs[i]? = some (b.bs[i].1, b.bs[i].2) by rw [List.getElem?_eq_getElem (by omega)])
  have b2 := allT_bd h (List.getElem?_eq_getElem hj) (show b.bs[j]? = some (b.bs[j].1, b.bs[j].2) by rw [List.getElem?_eq_getElem (by omega)])
  omega
def someB (b : Bk) (v : List Int) (k : Nat) : Bool := match b.ss[k]? with | some s => (mins s.lo s.hi).any fun m => ownf b.os s.st.toNat (cnt v m) == s.co | none => false
theorem kind_zero {ok : Nat → Bool} {l : List Nat} (h : l ≠ []) : (kindOf ok l == 0) = !(l.any ok) := by
  unfold kindOf
  cases ha : l.any ok with
  | false =>
    have hn : l.all ok = false := by
      obtain ⟨a, r, rfl⟩ := List.exists_cons_of_ne_nil h
      simp only [List.any_cons, Bool.or_eq_false_iff] at ha
      simp [ha.1]
    rw [hn]; rfl
  | true => cases l.all ok <;> rfl
theorem any_turns {b : Bk} (hv : bookB b = true) {v : List Int} (hvT : v ∈ allT b) {lo hi : Int} (hm : lo ≤ hi) (ok : Nat → Bool) : ((mins lo hi).any fun m => ok (cnt v m)) = (seg (cnt v lo) (cnt v hi)).any ok := by
  rw [Bool.eq_iff_iff, List.any_eq_true, List.any_eq_true]
  constructor
  · rintro ⟨m, hm, h⟩
    have hm := mem_mins_iff.1 hm
    exact ⟨_, mem_seg.2 ⟨cnt_mono v _ _ hm.1, cnt_mono v _ _ hm.2⟩, h⟩
  · rintro ⟨t, ht, h⟩
    have ht := mem_seg.1 ht
    obtain ⟨j, hj, e⟩ := cnt_found (allT_rises hv hvT) lo (hi - lo).toNat t ht.1 (by rw [show lo + ((hi - lo).toNat : Int) = hi by omega]; exact ht.2)
    exact ⟨lo + (j : Int), mem_mins_iff.2 ⟨by omega, by omega⟩, by rw [e]; exact h⟩
theorem some_same {b : Bk} (hv : bookB b = true) {v : List Int} (hvT : v ∈ allT b) {k : Nat} (hk : k < b.ss.length) : someB b v k = !unfairB b v k := by
  obtain ⟨⟨st, co, lo, hi⟩, hs⟩ := get_some b.ss k hk
  obtain ⟨-, -, m1⟩ := bookB_shot hv hs
  unfold Mom at m1
  dsimp only at m1
  have h4 := (bookB_bounds hv).1
  have hl := allT_len hvT
  unfold someB unfairB
  rw [hs]
  dsimp only
  unfold jk
  dsimp only
  rw [cnt_tl v (by omega) lo (by omega), cnt_tl v (by omega) hi (by omega), kind_zero (by
    have := cnt_mono v lo hi (by omega)
    intro hc
    have hx : cnt v lo ∈ seg (cnt v lo) (cnt v hi) := mem_seg.2 ⟨Nat.le_refl _, this⟩
    rw [hc] at hx; cases hx), Bool.not_not, ← any_turns hv hvT (by omega) (fun t => ownf b.os st.toNat t == co)]
/-- Can all shots but those of a set be fair in a truth, and in some truth? -/
def goodTo (b : Bk) (v : List Int) (s k : Nat) : Bool := (List.range k).all fun j => s.testBit j || someB b v j
def goodB (b : Bk) (s : Nat) (v : List Int) : Bool := goodTo b v s b.ss.length
def canB (b : Bk) (s : Nat) : Bool := (allT b).any (goodB b s)
theorem goodTo_snoc (b : Bk) (v : List Int) (s k : Nat) : goodTo b v s (k + 1) = (goodTo b v s k && (s.testBit k || someB b v k)) := by simp [goodTo, List.range_succ, List.all_append]
theorem good_iff {b : Bk} (hv : bookB b = true) {v : List Int} (hvT : v ∈ allT b) {s : Nat} : goodB b s v = true ↔ ∀ k, k < b.ss.length → unfairB b v k = true → s.testBit k = true := by
  unfold goodB goodTo
  rw [List.all_eq_true]
  constructor
  · intro h k hk hu
    have := h k (List.mem_range.2 hk)
    rw [some_same hv hvT hk, hu] at this
    simpa using this
  · intro h k hk
    have hk := List.mem_range.1 hk
    rw [some_same hv hvT hk]
    cases hu : unfairB b v k with
    | false => simp
    | true => simp [h k hk hu]
/-- The best set so far. -/
def wstep (b : Bk) (m : Nat) (best : List Int) (s : Nat) : List Int := if fewerB (bitsL s m) best && canB b s then bitsL s m else best
def wfold (b : Bk) (m S : Nat) : List Int := (List.range S).foldl (wstep b m) (bitsL (2 ^ m - 1) m)
theorem wfold_snoc (b : Bk) (m S : Nat) : wfold b m (S + 1) = wstep b m (wfold b m S) S := by simp [wfold, List.range_succ, List.foldl_append]
theorem some_set (f : Nat → Bool) : ∀ m : Nat, ∃ s, s < 2 ^ m ∧ ∀ k, k < m → s.testBit k = f k
  | 0 => ⟨0, by simp, fun k hk => by omega⟩
  | m + 1 => by
    obtain ⟨s, h1, h2⟩ := some_set f m
    cases hf : f m with
    | false =>
      refine ⟨s, by rw [Nat.pow_succ]; omega, fun k hk => ?_⟩
      by_cases e : k = m
      · subst e; rw [hf]; exact Nat.testBit_lt_two_pow h1
      · exact h2 k (by omega)
    | true =>
      refine ⟨s ||| 2 ^ m, Nat.or_lt_two_pow (by rw [Nat.pow_succ]; omega) (Nat.pow_lt_pow_right (by decide) (by omega)), fun k hk => ?_⟩
      rw [Nat.testBit_or, Nat.testBit_two_pow]
      by_cases e : k = m
      · subst e; rw [hf]; simp
      · rw [h2 k (by omega)]; simp [Ne.symm e]
theorem set_of {b : Bk} (hv : bookB b = true) {v : List Int} (hvT : v ∈ allT b) : ∃ s, s < 2 ^ b.ss.length ∧ bitsL s b.ss.length = U b v ∧ canB b s = true := by
  obtain ⟨s, h1, h2⟩ := some_set (unfairB b v) b.ss.length
  refine ⟨s, h1, ?_, ?_⟩
  · unfold bitsL U unfairL
    congr 1
    exact List.filter_congr (fun k hk => h2 k (List.mem_range.1 hk))
  · unfold canB
    exact List.any_eq_true.2 ⟨v, hvT, (good_iff hv hvT).2 (fun k hk hu => by rw [h2 k hk]; exact hu)⟩
theorem wfold_in {b : Bk} (hv : bookB b = true) : ∀ S, S ≤ 2 ^ b.ss.length → ∃ s, s < 2 ^ b.ss.length ∧ wfold b b.ss.length S = bitsL s b.ss.length ∧ canB b s = true
  | 0, _ => ⟨2 ^ b.ss.length - 1, by have := Nat.two_pow_pos b.ss.length; omega, rfl, by
    unfold canB
    exact List.any_eq_true.2 ⟨_, allT_fst hv, (good_iff hv (allT_fst hv)).2 (fun k hk _ => by rw [Nat.testBit_two_pow_sub_one]; simpa using hk)⟩⟩
  | S + 1, h => by
    obtain ⟨s, h1, h2, h3⟩ := wfold_in hv S (by omega)
    rw [wfold_snoc]
    unfold wstep
    split
    · rename_i hc
      simp only [Bool.and_eq_true] at hc
      exact ⟨S, by omega, rfl, hc.2⟩
    · exact ⟨s, h1, h2, h3⟩
theorem wfold_min (b : Bk) (m : Nat) : ∀ S s, s < S → canB b s = true → fewerB (bitsL s m) (wfold b m S) = false
  | S + 1, s, hs, hc => by
    rw [wfold_snoc]
    unfold wstep
    split
    · rename_i h
      simp only [Bool.and_eq_true] at h
      by_cases e : s = S
      · subst e; exact fewerB_irrefl _
      · cases hx : fewerB (bitsL s m) (bitsL S m) with
        | false => rfl
        | true =>
          have h1 := wfold_min b m S s (by omega) hc
          rw [fewerB_trans _ _ _ hx h.1] at h1
          cases h1
    · rename_i h
      by_cases e : s = S
      · subst e
        rw [hc, Bool.and_true] at h
        simpa using h
      · exact wfold_min b m S s (by omega) hc
theorem wfold_all {b : Bk} (hv : bookB b = true) : wfold b b.ss.length (2 ^ b.ss.length) = wrongL b := by
  obtain ⟨s, h1, h2, h3⟩ := wfold_in hv _ (Nat.le_refl _)
  have hmin := wfold_min b b.ss.length (2 ^ b.ss.length)
  refine fewerB_total ?_ ?_
  · obtain ⟨v, hvT, hg⟩ := List.any_eq_true.1 (show (allT b).any (goodB b s) = true from h3)
    have hsub : (U b v).Sublist (bitsL s b.ss.length) := sub_sorted (U_rises b v) (bitsL_rises _ _) (fun x hx => by
      obtain ⟨i, hi, hu, rfl⟩ := mem_U.1 hx
      exact mem_bitsL.2 ⟨i, hi, (good_iff hv hvT).1 hg i hi hu, rfl⟩)
    have hle := hsub.length_le
    have hw : fewerB (U b v) (wrongL b) = false := (bestOf_le (U b (b.bs.map Prod.fst)) ((allT b).map (U b))).2 _ (List.mem_map.2 ⟨_, hvT, rfl⟩)
    rw [h2] at hmin ⊢
    rcases Nat.lt_or_ge (U b v).length (bitsL s b.ss.length).length with hl | hl
    · obtain ⟨s', e1, e2, e3⟩ := set_of hv hvT
      have h4 := hmin s' e1 e3
      rw [e2] at h4
      unfold fewerB at h4
      rw [decide_eq_true hl] at h4
      cases h4
    · rw [← hsub.eq_of_length (by omega)]; exact hw
  · obtain ⟨v, hvT, e⟩ := wrong_of hv
    obtain ⟨s', e1, e2, e3⟩ := set_of hv hvT
    rw [e, ← e2]
    exact hmin s' e1 e3
end Go.Proofs.YteocjggepjpecaaGreatDoor

