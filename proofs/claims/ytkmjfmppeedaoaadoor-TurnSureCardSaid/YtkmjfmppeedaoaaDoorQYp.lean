/- Contracts of Pick, Holds and Place; of Wheel, however many. -/
import Derived.Test.YtkmjfmppeedaoaaDoorQXa
import Derived.Test.YtkmjfmppeedaoaaDoorQTa
set_option linter.unusedSimpArgs false
set_option linter.unusedVariables false
namespace Go.Proofs.YtkmjfmppeedaoaaDoor
open Go Go.RowKit

set_option maxHeartbeats 400000 in
theorem Wheel_big (n m : Int) (w : World) (hm : 1 ≤ m) (hm2 : m ≤ 9223372036854775807) : Calls Tryd.prog 14 #[.int .i64 n, .int .i64 m] w fun e w' => e = .returned (.int .i64 (n % m)) ∧ ∃ x, w' = ext w x := by
  by_cases h2 : m < 2
  · obtain rfl : m = 1 := by omega
    have H := Lib.hid (Int.emod_one n)
    clear hm hm2 h2
    go_enter Tryd.func14, Tryd.ntmps14
    go_wp2
    go_ret
    exact ⟨ret_int (by rw [H.out]), ext_of (Below.refl _ _)⟩
  · obtain ⟨H1, H2, H3, H4⟩ := tmod_cases n m (by omega)
    have H1 := Lib.hid H1
    have H2 := Lib.hid H2
    have h0 : ¬ m = 0 := by omega
    by_cases h : n.tmod m < 0
    all_goals
      go_enter Tryd.func14, Tryd.ntmps14
      go_wp2
      go_ret
      first
        | exact ⟨rfl, ext_of (Below.refl _ _)⟩
        | exact ⟨ret_int (H2.out (by assumption)), ext_of (Below.refl _ _)⟩

/-- The number of a list to which any number leads. -/
def pickI (l : List Int) (n : Int) : Int := if l.length < 1 then 0 else l.getD (n % (l.length : Int)).toNat 0
set_option maxHeartbeats 1000000 in
theorem Pick_any (p : Option Addr) (c : Nat) (l : List Int) (n : Int) (w : World) (hl : IntsAt w p l) (hb : (l.length : Int) ≤ 9223372036854775807) :
    Calls Tryd.prog 24 #[.slice p l.length c, .int .i64 n] w fun e w' => e = .returned (.int .i64 (pickI l n)) ∧ ∃ x, w' = ext w x := by
  by_cases h1 : (l.length : Int) < 1
  · have H := Lib.hid (show pickI l n = 0 by unfold pickI; rw [if_pos (by omega)])
    go_enter Tryd.func24, Tryd.ntmps24
    go_wp2_with fail
    go_ret
    exact ⟨ret_int (by rw [H.out]), ext_of (Below.refl _ _)⟩
  · have hi0 := Int.emod_nonneg n (show (l.length : Int) ≠ 0 by omega)
    have hi1 := Int.emod_lt_of_pos n (show 0 < (l.length : Int) by omega)
    obtain ⟨i, ei⟩ := Int.eq_ofNat_of_zero_le hi0
    obtain ⟨x, hx⟩ := get_some l i (by omega)
    obtain ⟨b, o, rfl, hb1, c1⟩ := hl i x hx
    have H := Lib.hid (show pickI l n = x by unfold pickI; rw [if_neg (by omega), ei, List.getD_eq_getElem?_getD]; simp [hx])
    have EI := Lib.hid ei
    have i0 : (0 : Int) ≤ (i : Int) := by omega
    have i1 : (i : Int) < (l.length : Int) := by omega
    have l1 : 1 ≤ (l.length : Int) := by omega
    clear hi0 hi1 ei hx
    go_enter Tryd.func24, Tryd.ntmps24
    go_wp2_with (go_at_call 14; refine (Wheel_big n _ _ l1 hb).mono ?_; rintro e w1 ⟨rfl, y, rfl⟩; rw [EI.out])
    go_ret
    exact ⟨ret_int (by rw [H.out]), by (exact ext_of (by (repeat (first | (with_reducible exact Below.refl _ _) | (with_reducible assumption) | ((with_reducible refine below_ext_trans ?_ ?_ _); rotate_left; focus (((try dsimp only); repeat (first | omega | simp only [World.size_alloc, World.size_setCell, World.size_drew] | (with_reducible refine le_ext_of ?_) | (with_reducible refine le_ext_add ?_))); done)) | ((with_reducible refine Below.alloc ?_ ?_ _); rotate_left; focus (((try dsimp only); repeat (first | omega | simp only [World.size_alloc, World.size_setCell, World.size_drew] | (with_reducible refine le_ext_of ?_) | (with_reducible refine le_ext_add ?_))); done)) | ((with_reducible refine Below.setCell ?_ ?_ _); rotate_left; focus (((try dsimp only); repeat (first | omega | simp only [World.size_alloc, World.size_setCell, World.size_drew] | (with_reducible refine le_ext_of ?_) | (with_reducible refine le_ext_add ?_))); done)) | (with_reducible refine Below.drew ?_)))))⟩

theorem Holds_yes (a b n : Int) (w : World) (h1 : a ≤ n) (h2 : n ≤ b) : Calls Tryd.prog 18 #[.agg #[.int .i64 a, .int .i64 b], .int .i64 n] w fun e w' => e = .returned (.bool true) ∧ ∃ x, w' = ext w x := by
  go_enter Tryd.func18, Tryd.ntmps18
  go_wp2
  go_ret
  exact ⟨rfl, by (exact ext_of (by (repeat (first | (with_reducible exact Below.refl _ _) | (with_reducible assumption) | ((with_reducible refine below_ext_trans ?_ ?_ _); rotate_left; focus (((try dsimp only); repeat (first | omega | simp only [World.size_alloc, World.size_setCell, World.size_drew] | (with_reducible refine le_ext_of ?_) | (with_reducible refine le_ext_add ?_))); done)) | ((with_reducible refine Below.alloc ?_ ?_ _); rotate_left; focus (((try dsimp only); repeat (first | omega | simp only [World.size_alloc, World.size_setCell, World.size_drew] | (with_reducible refine le_ext_of ?_) | (with_reducible refine le_ext_add ?_))); done)) | ((with_reducible refine Below.setCell ?_ ?_ _); rotate_left; focus (((try dsimp only); repeat (first | omega | simp only [World.size_alloc, World.size_setCell, World.size_drew] | (with_reducible refine le_ext_of ?_) | (with_reducible refine le_ext_add ?_))); done)) | (with_reducible refine Below.drew ?_)))))⟩

/-- The first place of a number in a list that has it. -/
def AtPlace (l : List Int) (x : Int) (w : World) (e : Ending) (w' : World) : Prop := ∃ k : Nat, l[k]? = some x ∧ e = .returned (.int .i64 k) ∧ w = w'
set_option maxHeartbeats 1000000 in
theorem Place_yes (p : Option Addr) (c : Nat) (l : List Int) (x : Int) (w : World) (hl : IntsAt w p l) (hb : (l.length : Int) ≤ 1000) (hx : x ∈ l) :
    Calls Tryd.prog 20 #[.slice p l.length c, .int .i64 x] w (AtPlace l x w) := by
  have H0 : Hid (x ∈ l.drop 0) := Lib.hid hx
  clear hx
  go_enter Tryd.func20, Tryd.ntmps20
  go_wp2_with fail
  go_loop [5] (fun i => ∃ k : Nat, k ≤ l.length ∧ i = .int .i64 k ∧ Hid (x ∈ l.drop k)) (fun i => l.length - (intOf i).toNat)
  case atStart => exact ⟨0, by omega, rfl, H0⟩
  case round =>
    clear H0
    obtain ⟨k, hk, rfl, H⟩ := hrel
    by_cases hlt : k < l.length
    · obtain ⟨y, hy⟩ := get_some l k hlt
      obtain ⟨b1, o1, rfl, hb1, c1⟩ := hl k y hy
      by_cases hxy : y = x
      · subst hxy
        have HY := Lib.hid hy
        clear hy H
        go_wp2_with fail
        go_ret
        exact ⟨k, HY.out, rfl, rfl⟩
      · have H2 := Lib.hid (show x ∈ l.drop (k + 1) by
          have := H.out
          rw [drop_of_get hy] at this
          rcases List.mem_cons.1 this with h | h
          · exact absurd h.symm hxy
          · exact h)
        have hyx : (y == x) = false := by simpa using hxy
        clear hy H hxy
        go_wp2_with fail
        go_round
        case rel => exact ⟨k + 1, by omega, by go_num, H2⟩
        case measure => simp [intOf]; omega
    · exact absurd H.out (by rw [List.drop_eq_nil_of_le (by omega)]; simp)
end Go.Proofs.YtkmjfmppeedaoaaDoor

