/- Contracts of Pick, Holds and Place; of Wheel, however many. -/
/- Contract of truly: the turn in a truth that numbers choose. -/
import Derived.Test.YtmnbfjphndgmnaaDoorQXa
import Derived.Test.YtmnbfjphndgmnaaDoorQTa
import Derived.Test.YtmnbfjphndgmnaaDoorQYa
import Derived.Test.YtmnbfjphndgmnaaDoorQIt
set_option linter.unusedSimpArgs false
set_option linter.unusedVariables false
namespace Go.Proofs.YtmnbfjphndgmnaaDoor
open Go Go.RowKit

set_option maxHeartbeats 400000 in
theorem Wheel_big (n m : Int) (w : World) (hm : 1 ≤ m) (hm2 : m ≤ 9223372036854775807) : Calls Tryd.prog 14 #[.int .i64 n, .int .i64 m] w fun e w' => e = .returned (.int .i64 (n % m)) ∧ ∃ x, w' = ext w x := by
  by_cases h2 : m < 2
  · obtain rfl : m = 1 := by omega
    have H := Lib.hid (Int.emod_one n)
    clear hm hm2 h2
    go_enter Tryd.func14, Tryd.ntmps14
    go_wp2
    go_ret
    exact ⟨ret_int (by rw [H.out]), ext_of (Below.refl _ _)⟩
  · obtain ⟨H1, H2, H3, H4⟩ := tmod_cases n m (by omega)
    have H1 := Lib.hid H1
    have H2 := Lib.hid H2
    have h0 : ¬ m = 0 := by omega
    by_cases h : n.tmod m < 0
    all_goals
      go_enter Tryd.func14, Tryd.ntmps14
      go_wp2
      go_ret
      first
        | exact ⟨rfl, ext_of (Below.refl _ _)⟩
        | exact ⟨ret_int (H2.out (by assumption)), ext_of (Below.refl _ _)⟩

/-- The number of a list to which any number leads. -/
def pickI (l : List Int) (n : Int) : Int := if l.length < 1 then 0 else l.getD (n % (l.length : Int)).toNat 0
set_option maxHeartbeats 1000000 in
theorem Pick_any (p : Option Addr) (c : Nat) (l : List Int) (n : Int) (w : World) (hl : IntsAt w p l) (hb : (l.length : Int) ≤ 9223372036854775807) :
    Calls Tryd.prog 24 #[.slice p l.length c, .int .i64 n] w fun e w' => e = .returned (.int .i64 (pickI l n)) ∧ ∃ x, w' = ext w x := by
  by_cases h1 : (l.length : Int) < 1
  · have H := Lib.hid (show pickI l n = 0 by unfold pickI; rw [if_pos (by omega)])
    go_enter Tryd.func24, Tryd.ntmps24
    go_wp2_with fail
    go_ret
    exact ⟨ret_int (by rw [H.out]), ext_of (Below.refl _ _)⟩
  · have hi0 := Int.emod_nonneg n (show (l.length : Int) ≠ 0 by omega)
    have hi1 := Int.emod_lt_of_pos n (show 0 < (l.length : Int) by omega)
    obtain ⟨i, ei⟩ := Int.eq_ofNat_of_zero_le hi0
    obtain ⟨x, hx⟩ := get_some l i (by omega)
    obtain ⟨b, o, rfl, hb1, c1⟩ := hl i x hx
    have H := Lib.hid (show pickI l n = x by unfold pickI; rw [if_neg (by omega), ei, List.getD_eq_getElem?_getD]; simp [hx])
    have EI := Lib.hid ei
    have i0 : (0 : Int) ≤ (i : Int) := by omega
    have i1 : (i : Int) < (l.length : Int) := by omega
    have l1 : 1 ≤ (l.length : Int) := by omega
    clear hi0 hi1 ei hx
    go_enter Tryd.func24, Tryd.ntmps24
    go_wp2_with (go_at_call 14; refine (Wheel_big n _ _ l1 hb).mono ?_; rintro e w1 ⟨rfl, y, rfl⟩; rw [EI.out])
    go_ret
    exact ⟨ret_int (by rw [H.out]), by (exact ext_of (by (repeat (first | (with_reducible exact Below.refl _ _) | (with_reducible assumption) | ((with_reducible refine below_ext_trans ?_ ?_ _); rotate_left; focus (((try dsimp only); repeat (first | omega | simp only [World.size_alloc, World.size_setCell, World.size_drew] | (with_reducible refine le_ext_of ?_) | (with_reducible refine le_ext_add ?_))); done)) | ((with_reducible refine Below.alloc ?_ ?_ _); rotate_left; focus (((try dsimp only); repeat (first | omega | simp only [World.size_alloc, World.size_setCell, World.size_drew] | (with_reducible refine le_ext_of ?_) | (with_reducible refine le_ext_add ?_))); done)) | ((with_reducible refine Below.setCell ?_ ?_ _); rotate_left; focus (((try dsimp only); repeat (first | omega | simp only [World.size_alloc, World.size_setCell, World.size_drew] | (with_reducible refine le_ext_of ?_) | (with_reducible refine le_ext_add ?_))); done)) | (with_reducible refine Below.drew ?_)))))⟩

theorem Holds_yes (a b n : Int) (w : World) (h1 : a ≤ n) (h2 : n ≤ b) : Calls Tryd.prog 18 #[.agg #[.int .i64 a, .int .i64 b], .int .i64 n] w fun e w' => e = .returned (.bool true) ∧ ∃ x, w' = ext w x := by
  go_enter Tryd.func18, Tryd.ntmps18
  go_wp2
  go_ret
  exact ⟨rfl, by (exact ext_of (by (repeat (first | (with_reducible exact Below.refl _ _) | (with_reducible assumption) | ((with_reducible refine below_ext_trans ?_ ?_ _); rotate_left; focus (((try dsimp only); repeat (first | omega | simp only [World.size_alloc, World.size_setCell, World.size_drew] | (with_reducible refine le_ext_of ?_) | (with_reducible refine le_ext_add ?_))); done)) | ((with_reducible refine Below.alloc ?_ ?_ _); rotate_left; focus (((try dsimp only); repeat (first | omega | simp only [World.size_alloc, World.size_setCell, World.size_drew] | (with_reducible refine le_ext_of ?_) | (with_reducible refine le_ext_add ?_))); done)) | ((with_reducible refine Below.setCell ?_ ?_ _); rotate_left; focus (((try dsimp only); repeat (first | omega | simp only [World.size_alloc, World.size_setCell, World.size_drew] | (with_reducible refine le_ext_of ?_) | (with_reducible refine le_ext_add ?_))); done)) | (with_reducible refine Below.drew ?_)))))⟩

/-- The first place of a number in a list that has it. -/
def AtPlace (l : List Int) (x : Int) (w : World) (e : Ending) (w' : World) : Prop := ∃ k : Nat, l[k]? = some x ∧ e = .returned (.int .i64 k) ∧ w = w'
set_option maxHeartbeats 1000000 in
theorem Place_yes (p : Option Addr) (c : Nat) (l : List Int) (x : Int) (w : World) (hl : IntsAt w p l) (hb : (l.length : Int) ≤ 1000) (hx : x ∈ l) :
    Calls Tryd.prog 20 #[.slice p l.length c, .int .i64 x] w (AtPlace l x w) := by
  have H0 : Hid (x ∈ l.drop 0) := Lib.hid hx
  clear hx
  go_enter Tryd.func20, Tryd.ntmps20
  go_wp2_with fail
  go_loop [5] (fun i => ∃ k : Nat, k ≤ l.length ∧ i = .int .i64 k ∧ Hid (x ∈ l.drop k)) (fun i => l.length - (intOf i).toNat)
  case atStart => exact ⟨0, by omega, rfl, H0⟩
  case round =>
    clear H0
    obtain ⟨k, hk, rfl, H⟩ := hrel
    by_cases hlt : k < l.length
    · obtain ⟨y, hy⟩ := get_some l k hlt
      obtain ⟨b1, o1, rfl, hb1, c1⟩ := hl k y hy
      by_cases hxy : y = x
      · subst hxy
        have HY := Lib.hid hy
        clear hy H
        go_wp2_with fail
        go_ret
        exact ⟨k, HY.out, rfl, rfl⟩
      · have H2 := Lib.hid (show x ∈ l.drop (k + 1) by
          have := H.out
          rw [drop_of_get hy] at this
          rcases List.mem_cons.1 this with h | h
          · exact absurd h.symm hxy
          · exact h)
        have hyx : (y == x) = false := by simpa using hxy
        clear hy H hxy
        go_wp2_with fail
        go_round
        case rel => exact ⟨k + 1, by omega, by go_num, H2⟩
        case measure => simp [intOf]; omega
    · exact absurd H.out (by rw [List.drop_eq_nil_of_le (by omega)]; simp)
end Go.Proofs.YtmnbfjphndgmnaaDoor

namespace Go.Proofs.YtmnbfjphndgmnaaDoor
open Go Go.RowKit

/-- The true minute of a span that a number chooses. -/
def someI (lo hi n : Int) : Int := lo + n % (hi - lo + 1)
/-- The true minutes of all bounds, as numbers choose them. -/
def vOf (b : Bk) (bits : List Int) : List Int := (List.range b.bs.length).map fun k => someI (b.bs.getD k (0, 0)).1 (b.bs.getD k (0, 0)).2 (pickI bits (k : Int))
theorem vOf_len (b : Bk) (bits : List Int) : (vOf b bits).length = b.bs.length := by simp [vOf]
theorem vOf_get {b : Bk} {bits : List Int} {k : Nat} {lo hi : Int} (h : b.bs[k]? = some (lo, hi)) : (vOf b bits)[k]? = some (someI lo hi (pickI bits (k : Int))) := by
  have hk := (List.getElem?_eq_some_iff.1 h).1
  simp [vOf, List.getElem?_map, List.getElem?_range hk, List.getD_eq_getElem?_getD, h]
theorem someI_bd {lo hi n : Int} (h : lo ≤ hi) : lo ≤ someI lo hi n ∧ someI lo hi n ≤ hi := by
  have h1 := Int.emod_nonneg n (show hi - lo + 1 ≠ 0 by omega)
  have h2 := Int.emod_lt_of_pos n (show 0 < hi - lo + 1 by omega)
  unfold someI
  omega
theorem chain_later {p : Int} {l : List (Int × Int)} (h : chainB p l = true) : ∀ s ∈ l, p < s.1 := by
  induction l generalizing p with
  | nil => simp
  | cons s l ih =>
    simp only [chainB, Bool.and_eq_true, decide_eq_true_eq] at h
    intro x hx
    rcases List.mem_cons.1 hx with rfl | hx
    · exact h.1.2
    · have := ih h.2 x hx
      have hm := momB_iff.1 h.1.1
      unfold Mom at hm
      omega
theorem chain_pair {p : Int} {l : List (Int × Int)} (h : chainB p l = true) : l.Pairwise fun s t => s.2 < t.1 := by
  induction l generalizing p with
  | nil => exact List.Pairwise.nil
  | cons s l ih =>
    simp only [chainB, Bool.and_eq_true, decide_eq_true_eq] at h
    exact List.pairwise_cons.2 ⟨fun t ht => chain_later h.2 t ht, ih h.2⟩
/-- The bounds truly come one behind the other. -/
theorem vOf_rises {b : Bk} (hv : bookB b = true) (bits : List Int) : (vOf b bits).Pairwise (· < ·) := by
  obtain ⟨_, hs, hch⟩ := bookB_bounds hv
  have hp := chain_pair hch
  rw [List.pairwise_iff_getElem] at hp ⊢
  intro i j hi hj hij
  rw [vOf_len] at hi hj
  have hgi := vOf_get (b := b) (bits := bits) (k := i) (List.getElem?_eq_getElem hi)
  have hgj := vOf_get (b := b) (bits := bits) (k := j) (List.getElem?_eq_getElem hj)
  rw [List.getElem?_eq_getElem (by rw [vOf_len]; exact hi), Option.some.injEq] at hgi
  rw [List.getElem?_eq_getElem (by rw [vOf_len]; exact hj), Option.some.injEq] at hgj
  rw [hgi, hgj]
  have h1 := someI_bd (n := pickI bits (i : Int)) (hs _ (List.getElem_mem hi))
  have h2 := someI_bd (n := pickI bits (j : Int)) (hs _ (List.getElem_mem hj))
  have h3 := hp i j hi hj hij
  exact Int.lt_of_le_of_lt h1.2 (Int.lt_of_lt_of_le h3 h2.1)
/-- Of what rises, as many are at most a number as there are before the first one above it. -/
theorem cnt_first {l : List Int} {k : Nat} {m : Int} (hk : k ≤ l.length) (h1 : ∀ j x, j < k → l[j]? = some x → x ≤ m) (h2 : k = l.length ∨ ∃ x, l[k]? = some x ∧ m < x) (hp : l.Pairwise (· < ·)) : cnt l m = k := by
  have e : l = l.take k ++ l.drop k := (List.take_append_drop k l).symm
  rw [e]
  unfold cnt
  rw [List.filter_append]
  have f1 : (l.take k).filter (fun t => decide (t ≤ m)) = l.take k := by
    rw [List.filter_eq_self]
    intro x hx
    obtain ⟨j, hj, rfl⟩ := List.mem_iff_getElem.1 hx
    have hjk : j < k := by simp at hj; omega
    rw [List.getElem_take]
    exact decide_eq_true (h1 j _ hjk (List.getElem?_eq_getElem (by omega)))
  have f2 : (l.drop k).filter (fun t => decide (t ≤ m)) = [] := by
    rw [List.filter_eq_nil_iff]
    intro x hx
    rcases h2 with h2 | ⟨y, hy, hmy⟩
    · rw [List.drop_eq_nil_of_le (by omega)] at hx; cases hx
    · rw [drop_of_get hy] at hx
      have hpd : (l.drop k).Pairwise (· < ·) := hp.sublist (List.drop_sublist k l)
      rw [drop_of_get hy, List.pairwise_cons] at hpd
      rcases List.mem_cons.1 hx with rfl | hx
      · simp; omega
      · have := hpd.1 x hx
        simp; omega
  rw [f1, f2]
  simp
  omega

theorem Pick_eq (p : Option Addr) (c : Nat) (l : List Int) (n v : Int) (w : World) (hl : IntsAt w p l) (hb : (l.length : Int) ≤ 9223372036854775807) (hv : pickI l n = v) : Calls Tryd.prog 24 #[.slice p l.length c, .int .i64 n] w fun e w' => e = .returned (.int .i64 v) ∧ ∃ x, w' = ext w x := by
  subst hv; exact Pick_any p c l n w hl hb
theorem Some_eq' (lo hi n x : Int) (w : World) (h : 0 ≤ lo ∧ lo ≤ hi ∧ hi ≤ 100000) (hx : someI lo hi n = x) : Calls Tryd.prog 23 #[.agg #[.int .i64 lo, .int .i64 hi], .int .i64 n] w fun e w' => e = .returned (.int .i64 x) ∧ ∃ x, w' = ext w x := by
  subst hx; exact Some_any lo hi n w h.1 h.2.1 h.2.2

set_option maxHeartbeats 4000000 in
theorem truly_any (h : Hd) (b : Bk) (st : Nat) (m : Int) (pi : Option Addr) (ci : Nat) (bits : List Int) (w : World) (hb : BkAt w h b) (hv : bookB b = true) (hst : st < b.os.length) (hi : IntsAt w pi bits) (hbl : (bits.length : Int) ≤ 9223372036854775807) :
    Calls Tryd.prog 17 #[.agg #[.int .i64 b.n, .slice h.pb b.bs.length h.cb, .slice h.po b.os.length h.co, .slice h.ps b.ss.length h.cs], .int .i64 st, .int .i64 m, .slice pi bits.length ci] w fun e w' => e = .returned (.tuple #[.int .i64 (ownf b.os st (cnt (vOf b bits) m)), .int .i64 (cnt (vOf b bits) m)]) ∧ ∃ x, w' = ext w x := by
  obtain ⟨pb, cb, po, co, ps, cs⟩ := h
  dsimp only
  obtain ⟨bb0, o0, q, cq, hpo, hbb0, hcell, hints⟩ := row_at hb.os hst
  dsimp only at hpo
  subst hpo
  have h4 := (bookB_bounds hv).1
  have HCH := Lib.hid (chain_bounds (bookB_bounds hv).2.2)
  have HR := Lib.hid (vOf_rises hv bits)
  have hrow : ∀ j : Nat, j ≤ b.bs.length → (b.os.getD st [])[j]? = some (ownf b.os st j) ∧ (j : Int) < ((b.os.getD st []).length : Int) := fun j hj => by
    obtain ⟨r, hr⟩ := get_some b.os st hst
    have e : b.os.getD st [] = r := by rw [List.getD_eq_getElem?_getD, hr]; rfl
    have hrl := (bookB_orders hv).2 r (List.mem_of_getElem? hr)
    obtain ⟨v, hv⟩ := get_some r j (by omega)
    rw [e, ownf_get hr hv]
    exact ⟨hv, by omega⟩
  have HROW := Lib.hid hrow
  have HINTS := Lib.hid hints
  have HB := Lib.hid hb
  have HI := Lib.hid hi
  have HBL := Lib.hid hbl
  have s0 : (0 : Int) ≤ (st : Int) := by omega
  have s1 : (st : Int) < (b.os.length : Int) := by omega
  have hb01 : bb0 < w.heap.size + 1 := by omega
  clear hrow hints hb hi hbl hv
  generalize b.os.getD st [] = R at *
  go_enter Tryd.func17, Tryd.ntmps17
  go_wp2_with fail
  go_loopw [10, 11] (fun u i wr => ∃ k : Nat, k ≤ b.bs.length ∧ i = .int .i64 k ∧ u = .int .i64 k ∧ Hid (∀ j x, j < k → (vOf b bits)[j]? = some x → x ≤ m) ∧ ∃ x, wr = ext (w.alloc (.cells #[.int .i64 b.n, .slice pb b.bs.length cb, .slice (some ⟨bb0, o0, none⟩) b.os.length co, .slice ps b.ss.length cs] 26)) x) (fun _ i _ => b.bs.length - (intOf i).toNat)
  case atStart => exact ⟨0, by omega, rfl, rfl, Lib.hid (by intro j x hj; omega), ext_of (Below.refl _ _)⟩
  case round =>
    obtain ⟨k, hk, rfl, rfl, HV, xx, rfl⟩ := hrel
    have hout : Hid (((k = b.bs.length ∨ ∃ x, (vOf b bits)[k]? = some x ∧ m < x)) → cnt (vOf b bits) m = k) := Lib.hid (fun h => cnt_first (by rw [vOf_len]; exact hk) HV.out (by rw [vOf_len]; exact h) HR.out)
    by_cases hlt : k < b.bs.length
    · obtain ⟨⟨lo, hi⟩, hsk⟩ := get_some b.bs k hlt
      obtain ⟨bb, o, rfl, hbb, q1, q2⟩ := HB.out.bs k _ hsk
      dsimp only at q1 q2
      have hM := HCH.out _ (List.mem_of_getElem? hsk)
      unfold Mom at hM
      have HSB := Lib.hid (show 0 ≤ lo ∧ lo ≤ hi ∧ hi ≤ 100000 by omega)
      have HGET := Lib.hid (vOf_get (bits := bits) hsk)
      obtain ⟨v, hv⟩ : ∃ v, someI lo hi (pickI bits (k : Int)) = v := ⟨_, rfl⟩
      have HVV := Lib.hid hv
      have HG2 := Lib.hid (show (vOf b bits)[k]? = some v by rw [HGET.out, hv])
      have k0 : (0 : Int) ≤ (k : Int) := by omega
      have k1 : (k : Int) < (b.bs.length : Int) := by omega
      have hbb1 : bb < w.heap.size + 1 := by omega
      obtain ⟨p, hp⟩ : ∃ p, pickI bits (k : Int) = p := ⟨_, rfl⟩
      have HP := Lib.hid hp
      have HVP := Lib.hid (show someI lo hi p = v by rw [← hp]; exact hv)
      clear hM hsk HGET hv hp HVV
      by_cases hvm : v ≤ m
      · have HV2 := Lib.hid (show ∀ j x, j < k + 1 → (vOf b bits)[j]? = some x → x ≤ m by
          intro j x hj hx
          by_cases e : j = k
          · subst e; rw [HG2.out] at hx; cases hx; exact hvm
          · exact HV.out j x (by omega) hx)
        clear HV
        go_wp2_with fail
        refine wp_region_ext (by kernel_rfl) (by kernel_rfl) ?_
        repeat (go_big_quiet_step (fail))
        go_big_quiet_step ((go_at_call 24; exact quiet_ext (Pick_eq pi ci bits k p _ (HI.out.below (by (repeat (first | (with_reducible exact Below.refl _ _) | (with_reducible assumption) | ((with_reducible refine below_ext_trans ?_ ?_ _); rotate_left; focus (((try dsimp only); repeat (first | omega | simp only [World.size_alloc, World.size_setCell, World.size_drew] | (with_reducible refine le_ext_of ?_) | (with_reducible refine le_ext_add ?_))); done)) | ((with_reducible refine Below.alloc ?_ ?_ _); rotate_left; focus (((try dsimp only); repeat (first | omega | simp only [World.size_alloc, World.size_setCell, World.size_drew] | (with_reducible refine le_ext_of ?_) | (with_reducible refine le_ext_add ?_))); done)) | ((with_reducible refine Below.setCell ?_ ?_ _); rotate_left; focus (((try dsimp only); repeat (first | omega | simp only [World.size_alloc, World.size_setCell, World.size_drew] | (with_reducible refine le_ext_of ?_) | (with_reducible refine le_ext_add ?_))); done)) | (with_reducible refine Below.drew ?_))))) HBL.out HP.out)))
        repeat (go_big_quiet_step (fail))
        go_big_quiet_step ((go_at_call 23; exact quiet_ext (Some_eq' lo hi p v _ HSB.out HVP.out)))
        repeat (go_big_quiet_step (fail))
        (refine wpQuiet_nil ?_; rintro _ ⟨x, rfl⟩)
        go_wp2_with fail
        go_roundw
        case rel => exact ⟨k + 1, by omega, by go_num, by go_num, HV2, by (exact ext_of (by (repeat (first | (with_reducible exact Below.refl _ _) | (with_reducible assumption) | ((with_reducible refine below_ext_trans ?_ ?_ _); rotate_left; focus (((try dsimp only); repeat (first | omega | simp only [World.size_alloc, World.size_setCell, World.size_drew] | (with_reducible refine le_ext_of ?_) | (with_reducible refine le_ext_add ?_))); done)) | ((with_reducible refine Below.alloc ?_ ?_ _); rotate_left; focus (((try dsimp only); repeat (first | omega | simp only [World.size_alloc, World.size_setCell, World.size_drew] | (with_reducible refine le_ext_of ?_) | (with_reducible refine le_ext_add ?_))); done)) | ((with_reducible refine Below.setCell ?_ ?_ _); rotate_left; focus (((try dsimp only); repeat (first | omega | simp only [World.size_alloc, World.size_setCell, World.size_drew] | (with_reducible refine le_ext_of ?_) | (with_reducible refine le_ext_add ?_))); done)) | (with_reducible refine Below.drew ?_)))))⟩
        case measure => simp [intOf]; omega
      · have hcn := hout.out (.inr ⟨v, HG2.out, by omega⟩)
        have HCN := Lib.hid hcn
        obtain ⟨hrv, hrl⟩ := HROW.out k (by omega)
        obtain ⟨b2, o2, rfl, hb2, c2⟩ := HINTS.out k _ hrv
        have hb21 : b2 < w.heap.size + 1 := by omega
        have hvm' : decide (v ≤ m) = false := by simpa using hvm
        clear hcn hrv hvm
        go_wp2_with fail
        refine wp_region_ext (by kernel_rfl) (by kernel_rfl) ?_
        repeat (go_big_quiet_step (fail))
        go_big_quiet_step ((go_at_call 24; exact quiet_ext (Pick_eq pi ci bits k p _ (HI.out.below (by (repeat (first | (with_reducible exact Below.refl _ _) | (with_reducible assumption) | ((with_reducible refine below_ext_trans ?_ ?_ _); rotate_left; focus (((try dsimp only); repeat (first | omega | simp only [World.size_alloc, World.size_setCell, World.size_drew] | (with_reducible refine le_ext_of ?_) | (with_reducible refine le_ext_add ?_))); done)) | ((with_reducible refine Below.alloc ?_ ?_ _); rotate_left; focus (((try dsimp only); repeat (first | omega | simp only [World.size_alloc, World.size_setCell, World.size_drew] | (with_reducible refine le_ext_of ?_) | (with_reducible refine le_ext_add ?_))); done)) | ((with_reducible refine Below.setCell ?_ ?_ _); rotate_left; focus (((try dsimp only); repeat (first | omega | simp only [World.size_alloc, World.size_setCell, World.size_drew] | (with_reducible refine le_ext_of ?_) | (with_reducible refine le_ext_add ?_))); done)) | (with_reducible refine Below.drew ?_))))) HBL.out HP.out)))
        repeat (go_big_quiet_step (fail))
        go_big_quiet_step ((go_at_call 23; exact quiet_ext (Some_eq' lo hi p v _ HSB.out HVP.out)))
        repeat (go_big_quiet_step (fail))
        (refine wpQuiet_nil ?_; rintro _ ⟨x, rfl⟩)
        go_wp2_with fail
        go_ret2
        exact ⟨by rw [HCN.out]; rfl, by (exact ext_of (by (repeat (first | (with_reducible exact Below.refl _ _) | (with_reducible assumption) | ((with_reducible refine below_ext_trans ?_ ?_ _); rotate_left; focus (((try dsimp only); repeat (first | omega | simp only [World.size_alloc, World.size_setCell, World.size_drew] | (with_reducible refine le_ext_of ?_) | (with_reducible refine le_ext_add ?_))); done)) | ((with_reducible refine Below.alloc ?_ ?_ _); rotate_left; focus (((try dsimp only); repeat (first | omega | simp only [World.size_alloc, World.size_setCell, World.size_drew] | (with_reducible refine le_ext_of ?_) | (with_reducible refine le_ext_add ?_))); done)) | ((with_reducible refine Below.setCell ?_ ?_ _); rotate_left; focus (((try dsimp only); repeat (first | omega | simp only [World.size_alloc, World.size_setCell, World.size_drew] | (with_reducible refine le_ext_of ?_) | (with_reducible refine le_ext_add ?_))); done)) | (with_reducible refine Below.drew ?_)))))⟩
    · obtain rfl : k = b.bs.length := by omega
      have hcn := hout.out (.inl rfl)
      have HCN := Lib.hid hcn
      obtain ⟨hrv, hrl⟩ := HROW.out b.bs.length (by omega)
      obtain ⟨b2, o2, rfl, hb2, c2⟩ := HINTS.out _ _ hrv
      have hb21 : b2 < w.heap.size + 1 := by omega
      have hll : ((b.bs.length : Int) < (b.bs.length : Int)) = False := by simp
      clear hcn hrv
      go_wp2_with fail
      refine wp_region_ext (by kernel_rfl) (by kernel_rfl) ?_
      repeat (go_big_quiet_step (fail))
      (refine wpQuiet_nil ?_; rintro _ ⟨x, rfl⟩)
      go_wp2_with fail
      go_ret2
      exact ⟨by rw [HCN.out]; rfl, by (exact ext_of (by (repeat (first | (with_reducible exact Below.refl _ _) | (with_reducible assumption) | ((with_reducible refine below_ext_trans ?_ ?_ _); rotate_left; focus (((try dsimp only); repeat (first | omega | simp only [World.size_alloc, World.size_setCell, World.size_drew] | (with_reducible refine le_ext_of ?_) | (with_reducible refine le_ext_add ?_))); done)) | ((with_reducible refine Below.alloc ?_ ?_ _); rotate_left; focus (((try dsimp only); repeat (first | omega | simp only [World.size_alloc, World.size_setCell, World.size_drew] | (with_reducible refine le_ext_of ?_) | (with_reducible refine le_ext_add ?_))); done)) | ((with_reducible refine Below.setCell ?_ ?_ _); rotate_left; focus (((try dsimp only); repeat (first | omega | simp only [World.size_alloc, World.size_setCell, World.size_drew] | (with_reducible refine le_ext_of ?_) | (with_reducible refine le_ext_add ?_))); done)) | (with_reducible refine Below.drew ?_)))))⟩
end Go.Proofs.YtmnbfjphndgmnaaDoor

