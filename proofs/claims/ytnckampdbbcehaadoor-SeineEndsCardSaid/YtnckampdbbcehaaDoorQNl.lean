/- Package seine: the comparison of lists (cmp.Compare, slices.Compare, cmp.Or as in Ua); compare. -/
import Derived.Test.YtnckampdbbcehaaDoorQNk
import Derived.Test.YtnckampdbbcehaaDoorQFh
set_option linter.unusedSimpArgs false
set_option linter.unusedVariables false
namespace Go.Proofs.YtnckampdbbcehaaDoor
open Go Go.RowKit

def cmpI (x y : Int) : Int := if x < y then -1 else if y < x then 1 else 0
theorem cmp_any (x y : Int) (w : World) : Calls Tryd.prog 111 #[.int .i64 x, .int .i64 y] w fun e w' => e = .returned (.int .i64 (cmpI x y)) ∧ w = w' := by
  by_cases h1 : x < y
  · have H := Lib.hid (show cmpI x y = -1 by simp [cmpI, h1])
    go_enter Tryd.func111, Tryd.ntmps111
    go_wp2
    go_ret
    exact ⟨ret_int H.out.symm, rfl⟩
  · by_cases h2 : y < x
    · have H := Lib.hid (show cmpI x y = 1 by simp [cmpI, h1, h2])
      have h3 : decide (x < y) = false := by simpa using h1
      clear h1
      go_enter Tryd.func111, Tryd.ntmps111
      go_wp2
      go_ret
      exact ⟨ret_int H.out.symm, rfl⟩
    · have H := Lib.hid (show cmpI x y = 0 by simp [cmpI, h1, h2])
      have h3 : decide (x < y) = false := by simpa using h1
      have h4 : decide (y < x) = false := by simpa using h2
      clear h1 h2
      go_enter Tryd.func111, Tryd.ntmps111
      go_wp2
      go_ret
      exact ⟨ret_int H.out.symm, rfl⟩
theorem cmpI_zero {x y : Int} (h : cmpI x y = 0) : x = y := by unfold cmpI at h; split at h; omega; split at h <;> omega
theorem cmpI_self (x : Int) : cmpI x x = 0 := by simp [cmpI]

def cmpL : List Int → List Int → Int
  | [], [] => 0
  | [], _ :: _ => -1
  | _ :: _, [] => 1
  | a :: l, b :: m => if cmpI a b = 0 then cmpL l m else cmpI a b
theorem cmpL_lex : ∀ l m, decide (cmpL l m < 0) = lexB l m
  | [], [] => rfl
  | [], _ :: _ => rfl
  | _ :: _, [] => rfl
  | a :: l, b :: m => by
    rw [cmpL, lexB, ← cmpL_lex l m]
    by_cases h1 : a < b
    · simp [cmpI, h1]
    · by_cases h2 : b < a
      · have : ¬ a = b := by omega
        simp [cmpI, h1, h2, this]
      · have : a = b := by omega
        simp [cmpI, this]

set_option maxHeartbeats 1000000 in
theorem compare_any (p q : Option Addr) (c d : Nat) (l m : List Int) (w : World) (hl : IntsAt w p l) (hm : IntsAt w q m) (hb : (l.length : Int) ≤ 1000) :
    Calls Tryd.prog 112 #[.slice p l.length c, .slice q m.length d] w fun e w' => e = .returned (.int .i64 (cmpL l m)) ∧ w = w' := by
  have H0 : Hid (cmpL l m = cmpL (l.drop 0) (m.drop 0)) := Lib.hid rfl
  go_enter Tryd.func112, Tryd.ntmps112
  go_wp2_with fail
  go_loop [4, 5, 6, 7, 8, 11] (fun _ _ _ _ _ i => ∃ k : Nat, k ≤ l.length ∧ k ≤ m.length ∧ i = .int .i64 k ∧ Hid (cmpL l m = cmpL (l.drop k) (m.drop k))) (fun _ _ _ _ _ i => l.length - (intOf i).toNat)
  case atStart => exact ⟨0, by omega, by omega, rfl, H0⟩
  case round =>
    clear H0
    obtain ⟨k, hk, hk2, rfl, H⟩ := hrel
    by_cases hlt : k < l.length
    · obtain ⟨x, hx⟩ := get_some l k hlt
      obtain ⟨b, o, rfl, hb1, c1⟩ := hl k x hx
      have HX := Lib.hid hx
      clear hx
      by_cases hlm : k < m.length
      · obtain ⟨y, hy⟩ := get_some m k hlm
        obtain ⟨b2, o2, rfl, hb2, c2⟩ := hm k y hy
        have HY := Lib.hid hy
        clear hy
        have hge : decide ((m.length : Int) ≤ (k : Int)) = false := by simp; omega
        have HS : Hid (cmpL l m = if cmpI x y = 0 then cmpL (l.drop (k + 1)) (m.drop (k + 1)) else cmpI x y) := Lib.hid (by rw [H.out, drop_of_get HX.out, drop_of_get HY.out]; rfl)
        clear H HX HY
        by_cases h0 : cmpI x y = 0
        · have HS2 := Lib.hid (show cmpL l m = cmpL (l.drop (k + 1)) (m.drop (k + 1)) by rw [HS.out, if_pos h0])
          clear HS
          go_wp2_with (go_at_call 111; refine (cmp_any _ _ _).mono ?_; rintro e w' ⟨rfl, rfl⟩)
          go_round
          case rel => exact ⟨k + 1, by omega, by omega, by go_num, HS2⟩
          case measure => simp [intOf]; omega
        · have HS2 := Lib.hid (show cmpL l m = cmpI x y by rw [HS.out, if_neg h0])
          clear HS
          have h0' : (cmpI x y == 0) = false := by simpa using h0
          have h0'' : (cmpI x y != 0) = true := by simpa using h0
          clear h0
          go_wp2_with (go_at_call 111; refine (cmp_any _ _ _).mono ?_; rintro e w' ⟨rfl, rfl⟩)
          go_ret
          exact ⟨ret_int HS2.out.symm, rfl⟩
      · have hge : (m.length : Int) ≤ (k : Int) := by omega
        have HS := Lib.hid (show cmpL l m = 1 by rw [H.out, drop_of_get HX.out, List.drop_eq_nil_of_le (show m.length ≤ k by omega)]; rfl)
        clear H HX
        go_wp2_with fail
        go_ret
        exact ⟨ret_int HS.out.symm, rfl⟩
    · have hle : l.length = k := by omega
      by_cases hlm : k < m.length
      · have HS := Lib.hid (show cmpL l m = -1 by
          obtain ⟨y, hy⟩ := get_some m k hlm
          rw [H.out, drop_of_get hy, List.drop_eq_nil_of_le (show l.length ≤ k by omega)]; rfl)
        have hc : decide (l.length < m.length) = true := by simp; omega
        clear H hle
        go_wp2_with fail
        go_ret
        exact ⟨ret_int HS.out.symm, rfl⟩
      · have HS := Lib.hid (show cmpL l m = 0 by
          rw [H.out, List.drop_eq_nil_of_le (show m.length ≤ k by omega), List.drop_eq_nil_of_le (show l.length ≤ k by omega)]; rfl)
        have hc : decide (l.length < m.length) = false := by simp; omega
        clear H hle
        go_wp2_with fail
        go_ret
        exact ⟨ret_int HS.out.symm, rfl⟩

def orL : List Int → Int
  | [] => 0
  | x :: l => if x = 0 then orL l else x
set_option maxHeartbeats 1000000 in
theorem or_any (p : Option Addr) (c : Nat) (l : List Int) (w : World) (hl : IntsAt w p l) (hb : (l.length : Int) ≤ 1000) :
    Calls Tryd.prog 110 #[.slice p l.length c] w fun e w' => e = .returned (.int .i64 (orL l)) ∧ w = w' := by
  have H0 : Hid (orL l = orL (l.drop 0)) := Lib.hid rfl
  go_enter Tryd.func110, Tryd.ntmps110
  go_wp2_with fail
  go_loop [2, 5, 8] (fun _ _ i => ∃ k : Nat, k ≤ l.length ∧ i = .int .i64 k ∧ Hid (orL l = orL (l.drop k))) (fun _ _ i => l.length - (intOf i).toNat)
  case atStart => exact ⟨0, by omega, rfl, H0⟩
  case round =>
    clear H0
    obtain ⟨k, hk, rfl, H⟩ := hrel
    by_cases hlt : k < l.length
    · obtain ⟨x, hx⟩ := get_some l k hlt
      obtain ⟨b, o, rfl, hb1, c1⟩ := hl k x hx
      have HS : Hid (orL l = if x = 0 then orL (l.drop (k + 1)) else x) := Lib.hid (by rw [H.out, drop_of_get hx]; rfl)
      clear hx H
      by_cases h0 : x = 0
      · have HS2 := Lib.hid (show orL l = orL (l.drop (k + 1)) by rw [HS.out, if_pos h0])
        clear HS
        subst h0
        go_wp2_with fail
        go_round
        case rel => exact ⟨k + 1, by omega, by go_num, HS2⟩
        case measure => simp [intOf]; omega
      · have HS2 := Lib.hid (show orL l = x by rw [HS.out, if_neg h0])
        clear HS
        have h0' : (x == 0) = false := by simpa using h0
        have h0'' : (x != 0) = true := by simpa using h0
        clear h0
        go_wp2_with fail
        go_ret
        exact ⟨ret_int HS2.out.symm, rfl⟩
    · have HS := Lib.hid (show orL l = 0 by rw [H.out, List.drop_eq_nil_of_le (by omega)]; rfl)
      clear H
      go_wp2_with fail
      go_ret
      exact ⟨ret_int HS.out.symm, rfl⟩

theorem fewer_cmp (l m : List Int) : decide (orL [cmpI l.length m.length, cmpL l m] < 0) = fewerB l m := by
  unfold fewerB
  rw [← cmpL_lex]
  by_cases h1 : l.length < m.length
  · have : (l.length : Int) < m.length := by omega
    simp [orL, cmpI, this, h1]
  · by_cases h2 : m.length < l.length
    · have a : ¬ (l.length : Int) < m.length := by omega
      have b : (m.length : Int) < l.length := by omega
      have c : ¬ l.length = m.length := by omega
      simp [orL, cmpI, a, b, h1, c]
    · have c : l.length = m.length := by omega
      have a : ¬ (l.length : Int) < m.length := by omega
      have b : ¬ (m.length : Int) < l.length := by omega
      simp only [orL, cmpI, a, b, h1, c]
      by_cases h : cmpL l m = 0 <;> simp [h]

theorem IntsAt.two {w : World} {b : Nat} {t : TypeId} {x y : Int} (h0 : w.cell? ⟨b, 0, none⟩ = some (.int .i64 x)) (h1 : w.cell? ⟨b, 1, none⟩ = some (.int .i64 y)) (hb : b < w.heap.size) : IntsAt w (some ⟨b, 0, none⟩) [x, y] := fun i z hz => by
  refine ⟨b, 0, rfl, hb, ?_⟩
  rcases i with _ | _ | i
  · simp at hz; subst hz; exact h0
  · simp at hz; subst hz; exact h1
  · simp at hz
/-- How two lists compare. -/
def cmpF (l m : List Int) : Int := orL [cmpI l.length m.length, cmpL l m]
set_option maxHeartbeats 1000000 in
theorem compareS_any (p q : Option Addr) (c d : Nat) (l m : List Int) (w : World) (hl : IntsAt w p l) (hm : IntsAt w q m) (hb : (l.length : Int) ≤ 1000) :
    Calls Tryd.prog 99 #[.slice p l.length c, .slice q m.length d] w fun e w' => e = .returned (.int .i64 (cmpF l m)) ∧ ∃ x, w' = ext w x := by
  go_enter Tryd.func99, Tryd.ntmps99
  go_wp2_with (first
    | (go_at_call 111; refine (cmp_any _ _ _).mono ?_; rintro e w' ⟨rfl, rfl⟩)
    | (go_at_call 112; refine (compare_any p q c d l m _ hl hm hb).mono ?_; rintro e w' ⟨rfl, rfl⟩)
    | (go_at_call 110; refine (or_any _ _ [cmpI l.length m.length, cmpL l m] _ (IntsAt.two (t := 3) (by simp [go_sem]) (by simp [go_sem]) (by simp)) (by simp)).mono ?_; rintro e w' ⟨rfl, rfl⟩))
  go_ret
  exact ⟨rfl, by (exact ext_of (by (repeat (first | (with_reducible exact Below.refl _ _) | (with_reducible assumption) | ((with_reducible refine below_ext_trans ?_ ?_ _); rotate_left; focus (((try dsimp only); repeat (first | omega | simp only [World.size_alloc, World.size_setCell, World.size_drew] | (with_reducible refine le_ext_of ?_) | (with_reducible refine le_ext_add ?_))); done)) | ((with_reducible refine Below.alloc ?_ ?_ _); rotate_left; focus (((try dsimp only); repeat (first | omega | simp only [World.size_alloc, World.size_setCell, World.size_drew] | (with_reducible refine le_ext_of ?_) | (with_reducible refine le_ext_add ?_))); done)) | ((with_reducible refine Below.setCell ?_ ?_ _); rotate_left; focus (((try dsimp only); repeat (first | omega | simp only [World.size_alloc, World.size_setCell, World.size_drew] | (with_reducible refine le_ext_of ?_) | (with_reducible refine le_ext_add ?_))); done)) | (with_reducible refine Below.drew ?_)))))⟩
theorem cmpF_neg (l m : List Int) : decide (cmpF l m < 0) = fewerB l m := fewer_cmp l m
end Go.Proofs.YtnckampdbbcehaaDoor

