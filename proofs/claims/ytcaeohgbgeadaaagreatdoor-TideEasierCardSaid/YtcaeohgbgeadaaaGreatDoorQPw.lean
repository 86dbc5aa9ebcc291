/- Plain facts: lists of numbers by how few they are, and which comes first; the best of several. -/
/- Comparison of lists of numbers. Cut out of Nl by gen_cutT.py. -/
/- huerref00: spans, numbers, equal lists. Cut out of Ja by gen_cutT.py. -/
import Derived.Test.YtcaeohgbgeadaaaGreatDoorQEa
import Derived.IntWalk
import Derived.Laws.StructEq
import Derived.Deep.DeepCutAuto
set_option linter.unusedSimpArgs false
set_option linter.unusedVariables false
namespace Go.Proofs.YtcaeohgbgeadaaaGreatDoor

/-- Is a list before another one, compared element by element? -/
def lexB : List Int → List Int → Bool
  | [], [] => false
  | [], _ :: _ => true
  | _ :: _, [] => false
  | a :: l, b :: m => decide (a < b) || (decide (a = b) && lexB l m)
/-- Is a list better than another one? -/
def fewerB (l m : List Int) : Bool := decide (l.length < m.length) || (decide (l.length = m.length) && lexB l m)
theorem lexB_irrefl : ∀ l, lexB l l = false
  | [] => rfl
  | a :: l => by simp [lexB, lexB_irrefl l]
theorem lexB_trans : ∀ a b c, lexB a b = true → lexB b c = true → lexB a c = true
  | [], [], c, h, _ => by simp [lexB] at h
  | [], _ :: _, [], _, h => by simp [lexB] at h
  | [], _ :: _, _ :: _, _, _ => rfl
  | _ :: _, [], _, h, _ => by simp [lexB] at h
  | _ :: _, _ :: _, [], _, h => by simp [lexB] at h
  | x :: a, y :: b, z :: c, h, k => by
    simp only [lexB, Bool.or_eq_true, Bool.and_eq_true, decide_eq_true_eq] at h k ⊢
    rcases h with h | ⟨h, h'⟩ <;> rcases k with k | ⟨k, k'⟩
    · left; omega
    · left; omega
    · left; omega
    · right; exact ⟨by omega, lexB_trans a b c h' k'⟩
theorem lexB_total : ∀ a b, a.length = b.length → lexB a b = false → lexB b a = false → a = b
  | [], [], _, _, _ => rfl
  | [], _ :: _, h, _, _ => by simp at h
  | _ :: _, [], h, _, _ => by simp at h
  | x :: a, y :: b, hl, h, k => by
    simp only [lexB, Bool.or_eq_false_iff, Bool.and_eq_false_iff, decide_eq_false_iff_not] at h k
    have hxy : x = y := by omega
    subst hxy
    have h2 : lexB a b = false := by rcases h.2 with h | h; exact absurd rfl h; exact h
    have k2 : lexB b a = false := by rcases k.2 with h | h; exact absurd rfl h; exact h
    rw [lexB_total a b (by simpa using hl) h2 k2]
theorem fewerB_irrefl (l : List Int) : fewerB l l = false := by simp [fewerB, lexB_irrefl]
theorem fewerB_trans (a b c : List Int) (h : fewerB a b = true) (k : fewerB b c = true) : fewerB a c = true := by
  simp only [fewerB, Bool.or_eq_true, Bool.and_eq_true, decide_eq_true_eq] at h k ⊢
  rcases h with h | ⟨h, h'⟩ <;> rcases k with k | ⟨k, k'⟩
  · left; omega
  · left; omega
  · left; omega
  · right; exact ⟨by omega, lexB_trans a b c h' k'⟩
theorem fewerB_nil (l : List Int) : fewerB l [] = false := by cases l <;> simp [fewerB, lexB]
theorem fewerB_total {a b : List Int} (h : fewerB a b = false) (k : fewerB b a = false) : a = b := by
  simp only [fewerB, Bool.or_eq_false_iff, Bool.and_eq_false_iff, decide_eq_false_iff_not] at h k
  have hl : a.length = b.length := by omega
  refine lexB_total a b hl ?_ ?_
  · rcases h.2 with h | h
    · exact absurd hl h
    · exact h
  · rcases k.2 with h | h
    · exact absurd hl.symm h
    · exact h
/-- One list more is looked at. -/
def bestStep (best l : List Int) : List Int := if fewerB l best then l else best
def bestOf (best : List Int) (ls : List (List Int)) : List Int := ls.foldl bestStep best
theorem bestOf_nil (ls : List (List Int)) : bestOf [] ls = [] := by
  induction ls with
  | nil => rfl
  | cons l ls ih => simp only [bestOf, List.foldl_cons, bestStep, fewerB_nil]; exact ih
theorem bestOf_snoc (best : List Int) (ls : List (List Int)) (l : List Int) : bestOf best (ls ++ [l]) = bestStep (bestOf best ls) l := by simp [bestOf]
theorem bestOf_append (best : List Int) (ls ms : List (List Int)) : bestOf best (ls ++ ms) = bestOf (bestOf best ls) ms := by simp [bestOf]
theorem bestOf_mem (best : List Int) (ls : List (List Int)) : bestOf best ls = best ∨ bestOf best ls ∈ ls := by
  induction ls generalizing best with
  | nil => exact .inl rfl
  | cons l ls ih =>
    rw [show bestOf best (l :: ls) = bestOf (bestStep best l) ls from rfl]
    rcases ih (bestStep best l) with h | h
    · rw [h]; unfold bestStep; split
      · exact .inr (by simp)
      · exact .inl rfl
    · exact .inr (by simp [h])
theorem fewerB_step {best l m : List Int} (h : fewerB m (bestStep best l) = true) : fewerB m best = true := by
  unfold bestStep at h
  split at h
  · rename_i h'; exact fewerB_trans _ _ _ h h'
  · exact h
theorem bestOf_le (best : List Int) (ls : List (List Int)) : fewerB best (bestOf best ls) = false ∧ ∀ l ∈ ls, fewerB l (bestOf best ls) = false := by
  induction ls generalizing best with
  | nil => exact ⟨fewerB_irrefl _, by simp⟩
  | cons l ls ih =>
    rw [show bestOf best (l :: ls) = bestOf (bestStep best l) ls from rfl]
    obtain ⟨h1, h2⟩ := ih (bestStep best l)
    have up : ∀ m, (fewerB m (bestStep best l) = true ∨ m = bestStep best l ∨ fewerB (bestStep best l) m = true) := fun m => by
      by_cases a : fewerB m (bestStep best l) = true
      · exact .inl a
      · by_cases c : fewerB (bestStep best l) m = true
        · exact .inr (.inr c)
        · exact .inr (.inl (fewerB_total (by simpa using a) (by simpa using c)))
    -- what is no better than the step's choice is no better than the rest's
    have key : ∀ m, fewerB m (bestStep best l) = false → fewerB m (bestOf (bestStep best l) ls) = false := fun m hm => by
      rcases up m with a | rfl | c
      · rw [a] at hm; cases hm
      · exact h1
      · cases hx : fewerB m (bestOf (bestStep best l) ls) with
        | false => rfl
        | true => rw [fewerB_trans _ _ _ c hx] at h1; cases h1
    have hb : fewerB best (bestStep best l) = false := by
      cases hx : fewerB best (bestStep best l) with
      | false => rfl
      | true => have := fewerB_step hx; rw [fewerB_irrefl] at this; cases this
    have hl : fewerB l (bestStep best l) = false := by
      unfold bestStep
      split
      · exact fewerB_irrefl _
      · rename_i h; simpa using h
    refine ⟨key _ hb, fun x hx => ?_⟩
    rcases List.mem_cons.1 hx with rfl | hx
    · exact key _ hl
    · exact h2 x hx

/-- All choices of one element of each list, the last one changing first. -/
def prodL {α : Type} : List (List α) → List (List α)
  | [] => [[]]
  | l :: ls => l.flatMap (fun m => (prodL ls).map (m :: ·))
theorem mem_prodL {α : Type} : ∀ (ls : List (List α)) (v : List α), v ∈ prodL ls ↔ v.length = ls.length ∧ ∀ (i : Nat) (x : α) (l : List α), v[i]? = some x → ls[i]? = some l → x ∈ l
  | [], v => by
    simp only [prodL, List.mem_singleton, List.length_nil]
    constructor
    · rintro rfl; exact ⟨rfl, by simp⟩
    · rintro ⟨h, _⟩; exact List.length_eq_zero_iff.1 h
  | l :: ls, v => by
    simp only [prodL, List.mem_flatMap, List.mem_map]
    constructor
    · rintro ⟨m, hm, u, hu, rfl⟩
      obtain ⟨h1, h2⟩ := (mem_prodL ls u).1 hu
      refine ⟨by simp [h1], ?_⟩
      rintro (_ | i) x k hx hk
      · simp at hx hk; subst hx hk; exact hm
      · exact h2 i x k (by simpa using hx) (by simpa using hk)
    · rintro ⟨h1, h2⟩
      cases v with
      | nil => simp at h1
      | cons m u =>
        refine ⟨m, h2 0 m l rfl rfl, u, (mem_prodL ls u).2 ⟨by simpa using h1, fun i x k hx hk => h2 (i + 1) x k (by simpa using hx) (by simpa using hk)⟩, rfl⟩
end Go.Proofs.YtcaeohgbgeadaaaGreatDoor

namespace Go.Proofs.YtcaeohgbgeadaaaGreatDoor
open Go Go.RowKit
def cmpI (x y : Int) : Int := if x < y then -1 else if y < x then 1 else 0
theorem cmp_any (x y : Int) (w : World) : Calls Tryz.prog 127 #[.int .i64 x, .int .i64 y] w fun e w' => e = .returned (.int .i64 (cmpI x y)) ∧ w = w' := by
  by_cases h1 : x < y
  · have H := Lib.hid (show cmpI x y = -1 by simp [cmpI, h1])
    go_enter Tryz.func127, Tryz.ntmps127
    go_wp2
    go_ret
    exact ⟨ret_int H.out.symm, rfl⟩
  · by_cases h2 : y < x
    · have H := Lib.hid (show cmpI x y = 1 by simp [cmpI, h1, h2])
      have h3 : decide (x < y) = false := by simpa using h1
      clear h1
      go_enter Tryz.func127, Tryz.ntmps127
      go_wp2
      go_ret
      exact ⟨ret_int H.out.symm, rfl⟩
    · have H := Lib.hid (show cmpI x y = 0 by simp [cmpI, h1, h2])
      have h3 : decide (x < y) = false := by simpa using h1
      have h4 : decide (y < x) = false := by simpa using h2
      clear h1 h2
      go_enter Tryz.func127, Tryz.ntmps127
      go_wp2
      go_ret
      exact ⟨ret_int H.out.symm, rfl⟩
theorem cmpI_zero {x y : Int} (h : cmpI x y = 0) : x = y := by unfold cmpI at h; split at h; omega; split at h <;> omega
theorem cmpI_self (x : Int) : cmpI x x = 0 := by simp [cmpI]

def cmpL : List Int → List Int → Int
  | [], [] => 0
  | [], _ :: _ => -1
  | _ :: _, [] => 1
  | a :: l, b :: m => if cmpI a b = 0 then cmpL l m else cmpI a b
theorem cmpL_lex : ∀ l m, decide (cmpL l m < 0) = lexB l m
  | [], [] => rfl
  | [], _ :: _ => rfl
  | _ :: _, [] => rfl
  | a :: l, b :: m => by
    rw [cmpL, lexB, ← cmpL_lex l m]
    by_cases h1 : a < b
    · simp [cmpI, h1]
    · by_cases h2 : b < a
      · have : ¬ a = b := by omega
        simp [cmpI, h1, h2, this]
      · have : a = b := by omega
        simp [cmpI, this]

set_option maxHeartbeats 1000000 in
theorem compare_any (p q : Option Addr) (c d : Nat) (l m : List Int) (w : World) (hl : IntsAt w p l) (hm : IntsAt w q m) (hb : (l.length : Int) ≤ 1000) :
    Calls Tryz.prog 128 #[.slice p l.length c, .slice q m.length d] w fun e w' => e = .returned (.int .i64 (cmpL l m)) ∧ w = w' := by
  have H0 : Hid (cmpL l m = cmpL (l.drop 0) (m.drop 0)) := Lib.hid rfl
  go_enter Tryz.func128, Tryz.ntmps128
  go_wp2_with fail
  go_loop [4, 5, 6, 7, 8, 11] (fun _ _ _ _ _ i => ∃ k : Nat, k ≤ l.length ∧ k ≤ m.length ∧ i = .int .i64 k ∧ Hid (cmpL l m = cmpL (l.drop k) (m.drop k))) (fun _ _ _ _ _ i => l.length - (intOf i).toNat)
  case atStart => exact ⟨0, by omega, by omega, rfl, H0⟩
  case round =>
    clear H0
    obtain ⟨k, hk, hk2, rfl, H⟩ := hrel
    by_cases hlt : k < l.length
    · obtain ⟨x, hx⟩ := get_some l k hlt
      obtain ⟨b, o, rfl, hb1, c1⟩ := hl k x hx
      have HX := Lib.hid hx
      clear hx
      by_cases hlm : k < m.length
      · obtain ⟨y, hy⟩ := get_some m k hlm
        obtain ⟨b2, o2, rfl, hb2, c2⟩ := hm k y hy
        have HY := Lib.hid hy
        clear hy
        have hge : decide ((m.length : Int) ≤ (k : Int)) = false := by simp; omega
        have HS : Hid (cmpL l m = if cmpI x y = 0 then cmpL (l.drop (k + 1)) (m.drop (k + 1)) else cmpI x y) := Lib.hid (by rw [H.out, drop_of_get HX.out, drop_of_get HY.out]; rfl)
        clear H HX HY
        by_cases h0 : cmpI x y = 0
        · have HS2 := Lib.hid (show cmpL l m = cmpL (l.drop (k + 1)) (m.drop (k + 1)) by rw [HS.out, if_pos h0])
          clear HS
          go_wp2_with (go_at_call 127; refine (cmp_any _ _ _).mono ?_; rintro e w' ⟨rfl, rfl⟩)
          go_round
          case rel => exact ⟨k + 1, by omega, by omega, by go_num, HS2⟩
          case measure => simp [intOf]; omega
        · have HS2 := Lib.hid (show cmpL l m = cmpI x y by rw [HS.out, if_neg h0])
          clear HS
          have h0' : (cmpI x y == 0) = false := by simpa using h0
          have h0'' : (cmpI x y != 0) = true := by simpa using h0
          clear h0
          go_wp2_with (go_at_call 127; refine (cmp_any _ _ _).mono ?_; rintro e w' ⟨rfl, rfl⟩)
          go_ret
          exact ⟨ret_int HS2.out.symm, rfl⟩
      · have hge : (m.length : Int) ≤ (k : Int) := by omega
        have HS := Lib.hid (show cmpL l m = 1 by rw [H.out, drop_of_get HX.out, List.drop_eq_nil_of_le (show m.length ≤ k by omega)]; rfl)
        clear H HX
        go_wp2_with fail
        go_ret
        exact ⟨ret_int HS.out.symm, rfl⟩
    · have hle : l.length = k := by omega
      by_cases hlm : k < m.length
      · have HS := Lib.hid (show cmpL l m = -1 by
          obtain ⟨y, hy⟩ := get_some m k hlm
          rw [H.out, drop_of_get hy, List.drop_eq_nil_of_le (show l.length ≤ k by omega)]; rfl)
        have hc : decide (l.length < m.length) = true := by simp; omega
        clear H hle
        go_wp2_with fail
        go_ret
        exact ⟨ret_int HS.out.symm, rfl⟩
      · have HS := Lib.hid (show cmpL l m = 0 by
          rw [H.out, List.drop_eq_nil_of_le (show m.length ≤ k by omega), List.drop_eq_nil_of_le (show l.length ≤ k by omega)]; rfl)
        have hc : decide (l.length < m.length) = false := by simp; omega
        clear H hle
        go_wp2_with fail
        go_ret
        exact ⟨ret_int HS.out.symm, rfl⟩

def orL : List Int → Int
  | [] => 0
  | x :: l => if x = 0 then orL l else x
set_option maxHeartbeats 1000000 in
theorem or_any (p : Option Addr) (c : Nat) (l : List Int) (w : World) (hl : IntsAt w p l) (hb : (l.length : Int) ≤ 1000) :
    Calls Tryz.prog 126 #[.slice p l.length c] w fun e w' => e = .returned (.int .i64 (orL l)) ∧ w = w' := by
  have H0 : Hid (orL l = orL (l.drop 0)) := Lib.hid rfl
  go_enter Tryz.func126, Tryz.ntmps126
  go_wp2_with fail
  go_loop [2, 5, 8] (fun _ _ i => ∃ k : Nat, k ≤ l.length ∧ i = .int .i64 k ∧ Hid (orL l = orL (l.drop k))) (fun _ _ i => l.length - (intOf i).toNat)
  case atStart => exact ⟨0, by omega, rfl, H0⟩
  case round =>
    clear H0
    obtain ⟨k, hk, rfl, H⟩ := hrel
    by_cases hlt : k < l.length
    · obtain ⟨x, hx⟩ := get_some l k hlt
      obtain ⟨b, o, rfl, hb1, c1⟩ := hl k x hx
      have HS : Hid (orL l = if x = 0 then orL (l.drop (k + 1)) else x) := Lib.hid (by rw [H.out, drop_of_get hx]; rfl)
      clear hx H
      by_cases h0 : x = 0
      · have HS2 := Lib.hid (show orL l = orL (l.drop (k + 1)) by rw [HS.out, if_pos h0])
        clear HS
        subst h0
        go_wp2_with fail
        go_round
        case rel => exact ⟨k + 1, by omega, by go_num, HS2⟩
        case measure => simp [intOf]; omega
      · have HS2 := Lib.hid (show orL l = x by rw [HS.out, if_neg h0])
        clear HS
        have h0' : (x == 0) = false := by simpa using h0
        have h0'' : (x != 0) = true := by simpa using h0
        clear h0
        go_wp2_with fail
        go_ret
        exact ⟨ret_int HS2.out.symm, rfl⟩
    · have HS := Lib.hid (show orL l = 0 by rw [H.out, List.drop_eq_nil_of_le (by omega)]; rfl)
      clear H
      go_wp2_with fail
      go_ret
      exact ⟨ret_int HS.out.symm, rfl⟩

theorem fewer_cmp (l m : List Int) : decide (orL [cmpI l.length m.length, cmpL l m] < 0) = fewerB l m := by
  unfold fewerB
  rw [← cmpL_lex]
  by_cases h1 : l.length < m.length
  · have : (l.length : Int) < m.length := by omega
    simp [orL, cmpI, this, h1]
  · by_cases h2 : m.length < l.length
    · have a : ¬ (l.length : Int) < m.length := by omega
      have b : (m.length : Int) < l.length := by omega
      have c : ¬ l.length = m.length := by omega
      simp [orL, cmpI, a, b, h1, c]
    · have c : l.length = m.length := by omega
      have a : ¬ (l.length : Int) < m.length := by omega
      have b : ¬ (m.length : Int) < l.length := by omega
      simp only [orL, cmpI, a, b, h1, c]
      by_cases h : cmpL l m = 0 <;> simp [h]

theorem IntsAt.two {w : World} {b : Nat} {t : TypeId} {x y : Int} (h0 : w.cell? ⟨b, 0, none⟩ = some (.int .i64 x)) (h1 : w.cell? ⟨b, 1, none⟩ = some (.int .i64 y)) (hb : b < w.heap.size) : IntsAt w (some ⟨b, 0, none⟩) [x, y] := fun i z hz => by
  refine ⟨b, 0, rfl, hb, ?_⟩
  rcases i with _ | _ | i
  · simp at hz; subst hz; exact h0
  · simp at hz; subst hz; exact h1
  · simp at hz
end Go.Proofs.YtcaeohgbgeadaaaGreatDoor

namespace Go.Proofs.YtcaeohgbgeadaaaGreatDoor
open Go Go.RowKit

theorem To_any (a b : Int) (w : World) : Calls Tryz.prog 48 #[.int .i64 a, .int .i64 b] w fun e w' => e = .returned (.agg #[.int .i64 a, .int .i64 b]) ∧ ∃ x, w' = ext w x := by
  go_enter Tryz.func48, Tryz.ntmps48
  go_wp2
  refine bodyPost_ret (v := .agg #[.int .i64 a, .int .i64 b]) (by simp [results, Tryz.results48, go_sem]) rfl ⟨rfl, ?_⟩
  (exact ext_of (by (exact belA)))
theorem Just_any (a : Int) (w : World) : Calls Tryz.prog 44 #[.int .i64 a] w fun e w' => e = .returned (.agg #[.int .i64 a, .int .i64 a]) ∧ ∃ x, w' = ext w x := by
  go_enter Tryz.func44, Tryz.ntmps44
  go_wp2
  refine bodyPost_ret (v := .agg #[.int .i64 a, .int .i64 a]) (by simp [results, Tryz.results44, go_sem]) rfl ⟨rfl, ?_⟩
  (exact ext_of (by (exact belA)))
theorem Between_any (n a b : Int) (w : World) : Calls Tryz.prog 50 #[.int .i64 n, .int .i64 a, .int .i64 b] w fun e w' => e = .returned (.bool (decide (a ≤ n ∧ n ≤ b))) ∧ w = w' := by
  by_cases h1 : a ≤ n
  · by_cases h2 : n ≤ b
    · have H := Lib.hid (show decide (a ≤ n ∧ n ≤ b) = true by simp [h1, h2])
      go_enter Tryz.func50, Tryz.ntmps50
      go_wp2
      go_ret
      exact ⟨by rw [H.out]; rfl, rfl⟩
    · have H := Lib.hid (show decide (a ≤ n ∧ n ≤ b) = false by simp [h2])
      have h2' : decide (n ≤ b) = false := by simpa using h2
      clear h2
      go_enter Tryz.func50, Tryz.ntmps50
      go_wp2
      go_ret
      exact ⟨by rw [H.out]; rfl, rfl⟩
  · have H := Lib.hid (show decide (a ≤ n ∧ n ≤ b) = false by simp [h1])
    have h1' : decide (a ≤ n) = false := by simpa using h1
    clear h1
    go_enter Tryz.func50, Tryz.ntmps50
    go_wp2
    go_ret
    exact ⟨by rw [H.out]; rfl, rfl⟩
theorem Between_yes (n a b : Int) (w : World) (h1 : a ≤ n) (h2 : n ≤ b) : Calls Tryz.prog 50 #[.int .i64 n, .int .i64 a, .int .i64 b] w fun e w' => e = .returned (.bool true) ∧ w = w' :=
  (Between_any n a b w).mono fun e w' ⟨he, hw⟩ => ⟨by rw [he]; simp [h1, h2], hw⟩
theorem Sane_yes (lo hi a b : Int) (w : World) (h1 : a ≤ lo) (h2 : hi ≤ b) (h3 : lo ≤ hi) : Calls Tryz.prog 64 #[.agg #[.int .i64 lo, .int .i64 hi], .int .i64 a, .int .i64 b] w fun e w' => e = .returned (.bool true) ∧ ∃ x, w' = ext w x := by
  go_enter Tryz.func64, Tryz.ntmps64
  go_wp2
  go_ret
  exact ⟨rfl, by (exact ext_of (by (exact belA)))⟩
theorem tmod_cases (n m : Int) (hm : 0 < m) : (n.tmod m < 0 → n.tmod m + m = n % m) ∧ (¬ n.tmod m < 0 → n.tmod m = n % m) ∧ -m < n.tmod m ∧ n.tmod m < m := by
  have h1 := Int.tmod_add_mul_tdiv n m
  have h2 : n.tmod m < m := Int.tmod_lt_of_pos n hm
  have h3 : -m < n.tmod m := by
    rcases Int.le_total 0 n with h | h
    · have := Int.tmod_nonneg m h; omega
    · have h4 := Int.tmod_lt_of_pos (-n) hm
      rw [Int.neg_tmod] at h4
      omega
  have h5 : n % m = (n.tmod m) % m := by
    conv => lhs; rw [← h1]
    exact Int.add_mul_emod_self_left _ _ _
  refine ⟨fun h => ?_, fun h => ?_, h3, h2⟩
  · rw [h5, ← Int.add_emod_right, Int.emod_eq_of_lt (by omega) (by omega)]
  · rw [h5, Int.emod_eq_of_lt (by omega) h2]
set_option maxHeartbeats 400000 in
theorem Wheel_any (n m : Int) (w : World) (hm : 1 ≤ m) (hm2 : m ≤ 1000000) : Calls Tryz.prog 45 #[.int .i64 n, .int .i64 m] w fun e w' => e = .returned (.int .i64 (n % m)) ∧ ∃ x, w' = ext w x := by
  by_cases h2 : m < 2
  · obtain rfl : m = 1 := by omega
    have H := Lib.hid (Int.emod_one n)
    clear hm hm2 h2
    go_enter Tryz.func45, Tryz.ntmps45
    go_wp2
    go_ret
    exact ⟨ret_int (by rw [H.out]), ext_of (Below.refl _ _)⟩
  · obtain ⟨H1, H2, H3, H4⟩ := tmod_cases n m (by omega)
    have H1 := Lib.hid H1
    have H2 := Lib.hid H2
    have h0 : ¬ m = 0 := by omega
    by_cases h : n.tmod m < 0
    all_goals
      go_enter Tryz.func45, Tryz.ntmps45
      go_wp2
      go_ret
      first
        | exact ⟨rfl, ext_of (Below.refl _ _)⟩
        | exact ⟨ret_int (H2.out (by assumption)), ext_of (Below.refl _ _)⟩
set_option maxHeartbeats 1000000 in
/-- The number of a span to which any number leads. -/
def sameTo {α : Type} [DecidableEq α] (l m : List α) (k : Nat) : Bool := decide (l.length = m.length) && decide (l.take k = m.take k)
theorem sameTo_zero {α : Type} [DecidableEq α] (l m : List α) : sameTo l m 0 = decide (l.length = m.length) := by simp [sameTo]
theorem sameTo_no {α : Type} [DecidableEq α] {l m : List α} {k : Nat} (h : sameTo l m k = false) : decide (l = m) = false := by
  simp only [decide_eq_false_iff_not]
  rintro rfl
  simp [sameTo] at h
theorem sameTo_end {α : Type} [DecidableEq α] {l m : List α} {k : Nat} (h : sameTo l m k = true) (hk : l.length ≤ k) : decide (l = m) = true := by
  simp only [sameTo, Bool.and_eq_true, decide_eq_true_eq] at h
  rw [List.take_of_length_le hk, List.take_of_length_le (by omega)] at h
  simpa using h.2
theorem sameTo_len {α : Type} [DecidableEq α] {l m : List α} {k : Nat} (h : sameTo l m k = true) : l.length = m.length := by
  simp only [sameTo, Bool.and_eq_true, decide_eq_true_eq] at h
  exact h.1
theorem sameTo_step {α : Type} [DecidableEq α] {l m : List α} {k : Nat} {x y : α} (h : sameTo l m k = true) (hx : l[k]? = some x) (hy : m[k]? = some y) : sameTo l m (k + 1) = decide (x = y) := by
  simp only [sameTo, Bool.and_eq_true, decide_eq_true_eq] at h
  obtain ⟨h1, h2⟩ := h
  obtain ⟨hlk, rfl⟩ := List.getElem?_eq_some_iff.1 hx
  obtain ⟨hmk, rfl⟩ := List.getElem?_eq_some_iff.1 hy
  simp only [sameTo, h1, decide_true, Bool.true_and, List.take_succ_eq_append_getElem hlk, List.take_succ_eq_append_getElem hmk, h2, List.append_cancel_left_eq, List.cons.injEq, and_true]

set_option maxHeartbeats 1000000 in
theorem Same_any (p q : Option Addr) (c d : Nat) (l m : List Int) (w : World) (hl : IntsAt w p l) (hm : IntsAt w q m) (hb : (l.length : Int) ≤ 1000) (hb2 : (m.length : Int) ≤ 1000) :
    Calls Tryz.prog 30 #[.slice p l.length c, .slice q m.length d] w fun e w' => e = .returned (.bool (decide (l = m))) ∧ ∃ x, w' = ext w x := by
  have H0 := Lib.hid (sameTo_zero l m)
  go_enter Tryz.func30, Tryz.ntmps30
  by_cases hlen : l.length = m.length
  all_goals
    have HL := Lib.hid hlen
    have e1 : ((l.length : Int) == (m.length : Int)) = decide (l.length = m.length) := by rw [Bool.eq_iff_iff]; simp; omega
    simp only [hlen] at e1
    clear hlen
    go_wp2_with fail
    go_loopw [5, 6] (fun s i wr => ∃ (k : Nat) (sb : Bool), k ≤ l.length ∧ i = .int .i64 k ∧ s = .bool sb ∧ Hid (sameTo l m k = sb) ∧ ∃ x, wr = ext w x) (fun _ i _ => l.length - (intOf i).toNat)
    case atStart => exact ⟨0, _, by omega, rfl, rfl, Lib.hid (by rw [H0.out]; simp [HL.out]), ext_of (Below.refl _ _)⟩
    case round =>
      obtain ⟨k, sb, hk, rfl, rfl, H, x, rfl⟩ := hrel
      clear e1
      cases sb with
      | false =>
        have HF := Lib.hid (sameTo_no H.out)
        go_wp2_with fail
        go_ret
        exact ⟨by rw [HF.out]; rfl, by (exact ext_of (by (exact belA)))⟩
      | true =>
        by_cases hlt : k < l.length
        · obtain ⟨a, ha⟩ := get_some l k hlt
          obtain ⟨b, hbm⟩ := get_some m k (by have := sameTo_len H.out; omega)
          have hlm : k < m.length := by have := sameTo_len H.out; omega
          obtain ⟨b1, o1, rfl, hb1, c1⟩ := hl k a ha
          obtain ⟨b2, o2, rfl, hb2', c2⟩ := hm k b hbm
          have HS := Lib.hid (sameTo_step H.out ha hbm)
          have hlt' : (k : Int) < (l.length : Int) := by omega
          have hlm' : (k : Int) < (m.length : Int) := by omega
          have hk0 : (0 : Int) ≤ (k : Int) := by omega
          clear H ha hbm HL H0
          go_wp2_with fail
          refine wp_region_ext (by kernel_rfl) (by kernel_rfl) ?_
          repeat (go_big_quiet_step (fail))
          (refine wpQuiet_nil ?_; rintro _ ⟨x, rfl⟩)
          go_wp2_with fail
          go_roundw
          case rel => exact ⟨k + 1, _, by omega, by go_num, rfl, Lib.hid (by rw [HS.out]; rw [Bool.eq_iff_iff]; simp), by (exact ext_of (by (exact belA)))⟩
          case measure => simp [intOf]; omega
        · have HT := Lib.hid (sameTo_end H.out (by omega))
          go_wp2_with fail
          go_ret
          exact ⟨by rw [HT.out]; rfl, by (exact ext_of (by (exact belA)))⟩
theorem span_eql (c d e f : Int) (w : World) : (Go.binOp .eql 23 (.agg #[.int .i64 c, .int .i64 d]) (.agg #[.int .i64 e, .int .i64 f])).run Tryz.prog w = .ok (.bool (decide ((c, d) = (e, f)))) w := by
  by_cases h1 : c = e <;> by_cases h2 : d = f <;> simp [go_sem, h1, h2]
theorem span_neq (c d e f : Int) (w : World) : (Go.binOp .neq 23 (.agg #[.int .i64 c, .int .i64 d]) (.agg #[.int .i64 e, .int .i64 f])).run Tryz.prog w = .ok (.bool (!decide ((c, d) = (e, f)))) w := by
  by_cases h1 : c = e <;> by_cases h2 : d = f <;> simp [go_sem, h1, h2]
set_option maxHeartbeats 1000000 in
theorem run_sneq {o : Oper} {w : World} {x y z u : Int} {s t : Nat} {t2 : TypeId} (ρ : Operand → Value) (hop : o.op = .binOp .neq 23 (.tmp s) (.tmp t) t2) (h1 : ρ (.tmp s) = .agg #[.int .i64 x, .int .i64 y]) (h2 : ρ (.tmp t) = .agg #[.int .i64 z, .int .i64 u]) :
    (execOp ρ o).run Tryz.prog w = .ok (.value (.bool (!decide ((x, y) = (z, u))))) w := by
  unfold execOp
  simp only [hop, h1, h2]
  simp only [Sem.run_bind, span_neq]
  simp [go_sem]
theorem run_bs1 {o : Oper} {w : World} {x : Int} (ρ : Operand → Value) (hop : o.op = .buildSlice 30 1 #[(0, .const (.int .i64 x))]) (h1 : ρ (.const (.int .i64 x)) = .int .i64 x := by rfl) :
    (execOp ρ o).run Tryz.prog w = .ok (.value (.slice (some ⟨w.heap.size, 0, none⟩) 1 1)) (w.alloc (.cells #[.int .i64 x] 3)) := by
  unfold execOp
  simp [hop, h1, go_sem]

theorem run_load_span {w : World} {g : Nat} {x y : Int} {d : Option Tmp} {ty : TypeId} {pos : String} {af : Array Edge} {gd : Option (Nat × Bool)} (ρ : Operand → Value) {s : Operand} (hs : ρ s = .pointer (some ⟨g, 0, none⟩)) (k : Blk w g 23 #[.int .i64 x, .int .i64 y]) :
    (execOp ρ { dst := d, op := .load 23 s, type := ty, pos := pos, after := af, guard := gd }).run Tryz.prog w = .ok (.value (.agg #[.int .i64 x, .int .i64 y])) w := by
  have c0 := k.cell 0
  have c1 := k.cell 1
  simp only [List.size_toArray, List.length_cons, List.length_nil, Nat.reduceAdd, Nat.reduceLT, getElem?_pos, List.getElem_toArray, List.getElem_cons_zero, List.getElem_cons_succ] at c0 c1
  unfold execOp
  simp [hs, go_sem, c0, c1]
theorem args2 {a : Act} {s t : Nat} {v u : Value} (h1 : a.tmps.getD s undef = v) (h2 : a.tmps.getD t undef = u) : (#[Operand.tmp s, Operand.tmp t]).map a.eval = #[v, u] := by
  simp only [List.map_toArray, List.map_cons, List.map_nil, Act.eval, h1, h2]
theorem consts2 {a : Act} (v u : Value) : (#[Operand.const v, Operand.const u]).map a.eval = #[v, u] := by
  simp only [List.map_toArray, List.map_cons, List.map_nil, Act.eval]
theorem bel_comp {A X : World} {u : Grow A} {z : Grow (ext A u)} (h : Below X.heap.size X (ext A u)) : Below X.heap.size X (ext A (u.comp z)) := h.trans ((below_ext _ z).mono h.size)
theorem bel_alloc {X Y : World} (h : Below X.heap.size X Y) (o : Obj) : Below X.heap.size X (Y.alloc o) := h.alloc h.size o
theorem bel_ext {X Y : World} (h : Below X.heap.size X Y) (y : Grow Y) : Below X.heap.size X (ext Y y) := h.trans ((below_ext Y y).mono h.size)
theorem belC {n : Nat} {a w : World} (h : Below n a w := by (repeat (first | (with_reducible exact Below.refl _ _) | (with_reducible refine bel_comp ?_) | (with_reducible refine bel_alloc ?_ _) | (with_reducible refine bel_ext ?_ _)))) : Below n a w := h
end Go.Proofs.YtcaeohgbgeadaaaGreatDoor

