/- Plain facts: lists of numbers by how few they are, and which comes first; the best of several. -/
/- Package bulk: the comparison of lists; compare. Cut out of Nl by gen_cutB.py. -/
/- Package bulk: lists in memory, the best of several (slices.MinFunc). Cut out of No and Nu by gen_cutB.py. -/
import Derived.Test.YtpiadbdkiibdbaaQB5n
import Derived.Carry
set_option linter.unusedSimpArgs false
set_option linter.unusedVariables false
namespace Go.Proofs.Ytpiadbdkiibdbaa

/-- Is a list before another one, compared element by element? -/
def lexB : List Int → List Int → Bool
  | [], [] => false
  | [], _ :: _ => true
  | _ :: _, [] => false
  | a :: l, b :: m => decide (a < b) || (decide (a = b) && lexB l m)
/-- Is a list better than another one? -/
def fewerB (l m : List Int) : Bool := decide (l.length < m.length) || (decide (l.length = m.length) && lexB l m)
theorem lexB_irrefl : ∀ l, lexB l l = false
  | [] => rfl
  | a :: l => by simp [lexB, lexB_irrefl l]
theorem lexB_trans : ∀ a b c, lexB a b = true → lexB b c = true → lexB a c = true
  | [], [], c, h, _ => by simp [lexB] at h
  | [], _ :: _, [], _, h => by simp [lexB] at h
  | [], _ :: _, _ :: _, _, _ => rfl
  | _ :: _, [], _, h, _ => by simp [lexB] at h
  | _ :: _, _ :: _, [], _, h => by simp [lexB] at h
  | x :: a, y :: b, z :: c, h, k => by
    simp only [lexB, Bool.or_eq_true, Bool.and_eq_true, decide_eq_true_eq] at h k ⊢
    rcases h with h | ⟨h, h'⟩ <;> rcases k with k | ⟨k, k'⟩
    · left; omega
    · left; omega
    · left; omega
    · right; exact ⟨by omega, lexB_trans a b c h' k'⟩
theorem lexB_total : ∀ a b, a.length = b.length → lexB a b = false → lexB b a = false → a = b
  | [], [], _, _, _ => rfl
  | [], _ :: _, h, _, _ => by simp at h
  | _ :: _, [], h, _, _ => by simp at h
  | x :: a, y :: b, hl, h, k => by
    simp only [lexB, Bool.or_eq_false_iff, Bool.and_eq_false_iff, decide_eq_false_iff_not] at h k
    have hxy : x = y := by omega
    subst hxy
    have h2 : lexB a b = false := by rcases h.2 with h | h; exact absurd rfl h; exact h
    have k2 : lexB b a = false := by rcases k.2 with h | h; exact absurd rfl h; exact h
    rw [lexB_total a b (by simpa using hl) h2 k2]
theorem fewerB_irrefl (l : List Int) : fewerB l l = false := by simp [fewerB, lexB_irrefl]
theorem fewerB_trans (a b c : List Int) (h : fewerB a b = true) (k : fewerB b c = true) : fewerB a c = true := by
  simp only [fewerB, Bool.or_eq_true, Bool.and_eq_true, decide_eq_true_eq] at h k ⊢
  rcases h with h | ⟨h, h'⟩ <;> rcases k with k | ⟨k, k'⟩
  · left; omega
  · left; omega
  · left; omega
  · right; exact ⟨by omega, lexB_trans a b c h' k'⟩
theorem fewerB_nil (l : List Int) : fewerB l [] = false := by cases l <;> simp [fewerB, lexB]
theorem fewerB_total {a b : List Int} (h : fewerB a b = false) (k : fewerB b a = false) : a = b := by
  simp only [fewerB, Bool.or_eq_false_iff, Bool.and_eq_false_iff, decide_eq_false_iff_not] at h k
  have hl : a.length = b.length := by omega
  refine lexB_total a b hl ?_ ?_
  · rcases h.2 with h | h
    · exact absurd hl h
    · exact h
  · rcases k.2 with h | h
    · exact absurd hl.symm h
    · exact h
/-- One list more is looked at. -/
def bestStep (best l : List Int) : List Int := if fewerB l best then l else best
def bestOf (best : List Int) (ls : List (List Int)) : List Int := ls.foldl bestStep best
theorem bestOf_nil (ls : List (List Int)) : bestOf [] ls = [] := by
  induction ls with
  | nil => rfl
  | cons l ls ih => simp only [bestOf, List.foldl_cons, bestStep, fewerB_nil]; exact ih
theorem bestOf_snoc (best : List Int) (ls : List (List Int)) (l : List Int) : bestOf best (ls ++ [l]) = bestStep (bestOf best ls) l := by simp [bestOf]
theorem bestOf_append (best : List Int) (ls ms : List (List Int)) : bestOf best (ls ++ ms) = bestOf (bestOf best ls) ms := by simp [bestOf]
theorem bestOf_mem (best : List Int) (ls : List (List Int)) : bestOf best ls = best ∨ bestOf best ls ∈ ls := by
  induction ls generalizing best with
  | nil => exact .inl rfl
  | cons l ls ih =>
    rw [show bestOf best (l :: ls) = bestOf (bestStep best l) ls from rfl]
    rcases ih (bestStep best l) with h | h
    · rw [h]; unfold bestStep; split
      · exact .inr (by simp)
      · exact .inl rfl
    · exact .inr (by simp [h])
theorem fewerB_step {best l m : List Int} (h : fewerB m (bestStep best l) = true) : fewerB m best = true := by
  unfold bestStep at h
  split at h
  · rename_i h'; exact fewerB_trans _ _ _ h h'
  · exact h
theorem bestOf_le (best : List Int) (ls : List (List Int)) : fewerB best (bestOf best ls) = false ∧ ∀ l ∈ ls, fewerB l (bestOf best ls) = false := by
  induction ls generalizing best with
  | nil => exact ⟨fewerB_irrefl _, by simp⟩
  | cons l ls ih =>
    rw [show bestOf best (l :: ls) = bestOf (bestStep best l) ls from rfl]
    obtain ⟨h1, h2⟩ := ih (bestStep best l)
    have up : ∀ m, (fewerB m (bestStep best l) = true ∨ m = bestStep best l ∨ fewerB (bestStep best l) m = true) := fun m => by
      by_cases a : fewerB m (bestStep best l) = true
      · exact .inl a
      · by_cases c : fewerB (bestStep best l) m = true
        · exact .inr (.inr c)
        · exact .inr (.inl (fewerB_total (by simpa using a) (by simpa using c)))
    -- what is no better than the step's choice is no better than the rest's
    have key : ∀ m, fewerB m (bestStep best l) = false → fewerB m (bestOf (bestStep best l) ls) = false := fun m hm => by
      rcases up m with a | rfl | c
      · rw [a] at hm; cases hm
      · exact h1
      · cases hx : fewerB m (bestOf (bestStep best l) ls) with
        | false => rfl
        | true => rw [fewerB_trans _ _ _ c hx] at h1; cases h1
    have hb : fewerB best (bestStep best l) = false := by
      cases hx : fewerB best (bestStep best l) with
      | false => rfl
      | true => have := fewerB_step hx; rw [fewerB_irrefl] at this; cases this
    have hl : fewerB l (bestStep best l) = false := by
      unfold bestStep
      split
      · exact fewerB_irrefl _
      · rename_i h; simpa using h
    refine ⟨key _ hb, fun x hx => ?_⟩
    rcases List.mem_cons.1 hx with rfl | hx
    · exact key _ hl
    · exact h2 x hx

/-- All choices of one element of each list, the last one changing first. -/
def prodL {α : Type} : List (List α) → List (List α)
  | [] => [[]]
  | l :: ls => l.flatMap (fun m => (prodL ls).map (m :: ·))
theorem mem_prodL {α : Type} : ∀ (ls : List (List α)) (v : List α), v ∈ prodL ls ↔ v.length = ls.length ∧ ∀ (i : Nat) (x : α) (l : List α), v[i]? = some x → ls[i]? = some l → x ∈ l
  | [], v => by
    simp only [prodL, List.mem_singleton, List.length_nil]
    constructor
    · rintro rfl; exact ⟨rfl, by simp⟩
    · rintro ⟨h, _⟩; exact List.length_eq_zero_iff.1 h
  | l :: ls, v => by
    simp only [prodL, List.mem_flatMap, List.mem_map]
    constructor
    · rintro ⟨m, hm, u, hu, rfl⟩
      obtain ⟨h1, h2⟩ := (mem_prodL ls u).1 hu
      refine ⟨by simp [h1], ?_⟩
      rintro (_ | i) x k hx hk
      · simp at hx hk; subst hx hk; exact hm
      · exact h2 i x k (by simpa using hx) (by simpa using hk)
    · rintro ⟨h1, h2⟩
      cases v with
      | nil => simp at h1
      | cons m u =>
        refine ⟨m, h2 0 m l rfl rfl, u, (mem_prodL ls u).2 ⟨by simpa using h1, fun i x k hx hk => h2 (i + 1) x k (by simpa using hx) (by simpa using hk)⟩, rfl⟩
end Go.Proofs.Ytpiadbdkiibdbaa

namespace Go.Proofs.Ytpiadbdkiibdbaa
open Go Go.RowKit

def cmpI (x y : Int) : Int := if x < y then -1 else if y < x then 1 else 0
theorem cmp_any (x y : Int) (w : World) : Calls Try.prog 122 #[.int .i64 x, .int .i64 y] w fun e w' => e = .returned (.int .i64 (cmpI x y)) ∧ w = w' := by
  by_cases h1 : x < y
  · have H := Lib.hid (show cmpI x y = -1 by simp [cmpI, h1])
    go_enter Try.func122, Try.ntmps122
    go_wp2
    go_ret
    exact ⟨ret_int H.out.symm, rfl⟩
  · by_cases h2 : y < x
    · have H := Lib.hid (show cmpI x y = 1 by simp [cmpI, h1, h2])
      have h3 : decide (x < y) = false := by simpa using h1
      clear h1
      go_enter Try.func122, Try.ntmps122
      go_wp2
      go_ret
      exact ⟨ret_int H.out.symm, rfl⟩
    · have H := Lib.hid (show cmpI x y = 0 by simp [cmpI, h1, h2])
      have h3 : decide (x < y) = false := by simpa using h1
      have h4 : decide (y < x) = false := by simpa using h2
      clear h1 h2
      go_enter Try.func122, Try.ntmps122
      go_wp2
      go_ret
      exact ⟨ret_int H.out.symm, rfl⟩
theorem cmpI_zero {x y : Int} (h : cmpI x y = 0) : x = y := by unfold cmpI at h; split at h; omega; split at h <;> omega
theorem cmpI_self (x : Int) : cmpI x x = 0 := by simp [cmpI]

def cmpL : List Int → List Int → Int
  | [], [] => 0
  | [], _ :: _ => -1
  | _ :: _, [] => 1
  | a :: l, b :: m => if cmpI a b = 0 then cmpL l m else cmpI a b
theorem cmpL_lex : ∀ l m, decide (cmpL l m < 0) = lexB l m
  | [], [] => rfl
  | [], _ :: _ => rfl
  | _ :: _, [] => rfl
  | a :: l, b :: m => by
    rw [cmpL, lexB, ← cmpL_lex l m]
    by_cases h1 : a < b
    · simp [cmpI, h1]
    · by_cases h2 : b < a
      · have : ¬ a = b := by omega
        simp [cmpI, h1, h2, this]
      · have : a = b := by omega
        simp [cmpI, this]

set_option maxHeartbeats 1000000 in
theorem compare_any (p q : Option Addr) (c d : Nat) (l m : List Int) (w : World) (hl : IntsAt w p l) (hm : IntsAt w q m) (hb : (l.length : Int) ≤ 1000) :
    Calls Try.prog 123 #[.slice p l.length c, .slice q m.length d] w fun e w' => e = .returned (.int .i64 (cmpL l m)) ∧ w = w' := by
  have H0 : Hid (cmpL l m = cmpL (l.drop 0) (m.drop 0)) := Lib.hid rfl
  go_enter Try.func123, Try.ntmps123
  go_wp2_with fail
  go_loop [4, 5, 6, 7, 8, 11] (fun _ _ _ _ _ i => ∃ k : Nat, k ≤ l.length ∧ k ≤ m.length ∧ i = .int .i64 k ∧ Hid (cmpL l m = cmpL (l.drop k) (m.drop k))) (fun _ _ _ _ _ i => l.length - (intOf i).toNat)
  case atStart => exact ⟨0, by omega, by omega, rfl, H0⟩
  case round =>
    clear H0
    obtain ⟨k, hk, hk2, rfl, H⟩ := hrel
    by_cases hlt : k < l.length
    · obtain ⟨x, hx⟩ := get_some l k hlt
      obtain ⟨b, o, rfl, hb1, c1⟩ := hl k x hx
      have HX := Lib.hid hx
      clear hx
      by_cases hlm : k < m.length
      · obtain ⟨y, hy⟩ := get_some m k hlm
        obtain ⟨b2, o2, rfl, hb2, c2⟩ := hm k y hy
        have HY := Lib.hid hy
        clear hy
        have hge : decide ((m.length : Int) ≤ (k : Int)) = false := by simp; omega
        have HS : Hid (cmpL l m = if cmpI x y = 0 then cmpL (l.drop (k + 1)) (m.drop (k + 1)) else cmpI x y) := Lib.hid (by rw [H.out, drop_of_get HX.out, drop_of_get HY.out]; rfl)
        clear H HX HY
        by_cases h0 : cmpI x y = 0
        · have HS2 := Lib.hid (show cmpL l m = cmpL (l.drop (k + 1)) (m.drop (k + 1)) by rw [HS.out, if_pos h0])
          clear HS
          go_wp2_with (go_at_call 122; refine (cmp_any _ _ _).mono ?_; rintro e w' ⟨rfl, rfl⟩)
          go_round
          case rel => exact ⟨k + 1, by omega, by omega, by go_num, HS2⟩
          case measure => simp [intOf]; omega
        · have HS2 := Lib.hid (show cmpL l m = cmpI x y by rw [HS.out, if_neg h0])
          clear HS
          have h0' : (cmpI x y == 0) = false := by simpa using h0
          have h0'' : (cmpI x y != 0) = true := by simpa using h0
          clear h0
          go_wp2_with (go_at_call 122; refine (cmp_any _ _ _).mono ?_; rintro e w' ⟨rfl, rfl⟩)
          go_ret
          exact ⟨ret_int HS2.out.symm, rfl⟩
      · have hge : (m.length : Int) ≤ (k : Int) := by omega
        have HS := Lib.hid (show cmpL l m = 1 by rw [H.out, drop_of_get HX.out, List.drop_eq_nil_of_le (show m.length ≤ k by omega)]; rfl)
        clear H HX
        go_wp2_with fail
        go_ret
        exact ⟨ret_int HS.out.symm, rfl⟩
    · have hle : l.length = k := by omega
      by_cases hlm : k < m.length
      · have HS := Lib.hid (show cmpL l m = -1 by
          obtain ⟨y, hy⟩ := get_some m k hlm
          rw [H.out, drop_of_get hy, List.drop_eq_nil_of_le (show l.length ≤ k by omega)]; rfl)
        have hc : decide (l.length < m.length) = true := by simp; omega
        clear H hle
        go_wp2_with fail
        go_ret
        exact ⟨ret_int HS.out.symm, rfl⟩
      · have HS := Lib.hid (show cmpL l m = 0 by
          rw [H.out, List.drop_eq_nil_of_le (show m.length ≤ k by omega), List.drop_eq_nil_of_le (show l.length ≤ k by omega)]; rfl)
        have hc : decide (l.length < m.length) = false := by simp; omega
        clear H hle
        go_wp2_with fail
        go_ret
        exact ⟨ret_int HS.out.symm, rfl⟩

def orL : List Int → Int
  | [] => 0
  | x :: l => if x = 0 then orL l else x
set_option maxHeartbeats 1000000 in
theorem or_any (p : Option Addr) (c : Nat) (l : List Int) (w : World) (hl : IntsAt w p l) (hb : (l.length : Int) ≤ 1000) :
    Calls Try.prog 121 #[.slice p l.length c] w fun e w' => e = .returned (.int .i64 (orL l)) ∧ w = w' := by
  have H0 : Hid (orL l = orL (l.drop 0)) := Lib.hid rfl
  go_enter Try.func121, Try.ntmps121
  go_wp2_with fail
  go_loop [2, 5, 8] (fun _ _ i => ∃ k : Nat, k ≤ l.length ∧ i = .int .i64 k ∧ Hid (orL l = orL (l.drop k))) (fun _ _ i => l.length - (intOf i).toNat)
  case atStart => exact ⟨0, by omega, rfl, H0⟩
  case round =>
    clear H0
    obtain ⟨k, hk, rfl, H⟩ := hrel
    by_cases hlt : k < l.length
    · obtain ⟨x, hx⟩ := get_some l k hlt
      obtain ⟨b, o, rfl, hb1, c1⟩ := hl k x hx
      have HS : Hid (orL l = if x = 0 then orL (l.drop (k + 1)) else x) := Lib.hid (by rw [H.out, drop_of_get hx]; rfl)
      clear hx H
      by_cases h0 : x = 0
      · have HS2 := Lib.hid (show orL l = orL (l.drop (k + 1)) by rw [HS.out, if_pos h0])
        clear HS
        subst h0
        go_wp2_with fail
        go_round
        case rel => exact ⟨k + 1, by omega, by go_num, HS2⟩
        case measure => simp [intOf]; omega
      · have HS2 := Lib.hid (show orL l = x by rw [HS.out, if_neg h0])
        clear HS
        have h0' : (x == 0) = false := by simpa using h0
        have h0'' : (x != 0) = true := by simpa using h0
        clear h0
        go_wp2_with fail
        go_ret
        exact ⟨ret_int HS2.out.symm, rfl⟩
    · have HS := Lib.hid (show orL l = 0 by rw [H.out, List.drop_eq_nil_of_le (by omega)]; rfl)
      clear H
      go_wp2_with fail
      go_ret
      exact ⟨ret_int HS.out.symm, rfl⟩

theorem fewer_cmp (l m : List Int) : decide (orL [cmpI l.length m.length, cmpL l m] < 0) = fewerB l m := by
  unfold fewerB
  rw [← cmpL_lex]
  by_cases h1 : l.length < m.length
  · have : (l.length : Int) < m.length := by omega
    simp [orL, cmpI, this, h1]
  · by_cases h2 : m.length < l.length
    · have a : ¬ (l.length : Int) < m.length := by omega
      have b : (m.length : Int) < l.length := by omega
      have c : ¬ l.length = m.length := by omega
      simp [orL, cmpI, a, b, h1, c]
    · have c : l.length = m.length := by omega
      have a : ¬ (l.length : Int) < m.length := by omega
      have b : ¬ (m.length : Int) < l.length := by omega
      simp only [orL, cmpI, a, b, h1, c]
      by_cases h : cmpL l m = 0 <;> simp [h]

theorem IntsAt.two {w : World} {b : Nat} {t : TypeId} {x y : Int} (h0 : w.cell? ⟨b, 0, none⟩ = some (.int .i64 x)) (h1 : w.cell? ⟨b, 1, none⟩ = some (.int .i64 y)) (hb : b < w.heap.size) : IntsAt w (some ⟨b, 0, none⟩) [x, y] := fun i z hz => by
  refine ⟨b, 0, rfl, hb, ?_⟩
  rcases i with _ | _ | i
  · simp at hz; subst hz; exact h0
  · simp at hz; subst hz; exact h1
  · simp at hz
/-- How two lists compare. -/
def cmpF (l m : List Int) : Int := orL [cmpI l.length m.length, cmpL l m]
set_option maxHeartbeats 1000000 in
theorem compareB_any (p q : Option Addr) (c d : Nat) (l m : List Int) (w : World) (hl : IntsAt w p l) (hm : IntsAt w q m) (hb : (l.length : Int) ≤ 1000) :
    Calls Try.prog 104 #[.slice p l.length c, .slice q m.length d] w fun e w' => e = .returned (.int .i64 (cmpF l m)) ∧ ∃ x, w' = ext w x := by
  go_enter Try.func104, Try.ntmps104
  go_wp2_with (first
    | (go_at_call 122; refine (cmp_any _ _ _).mono ?_; rintro e w' ⟨rfl, rfl⟩)
    | (go_at_call 123; refine (compare_any p q c d l m _ hl hm hb).mono ?_; rintro e w' ⟨rfl, rfl⟩)
    | (go_at_call 121; refine (or_any _ _ [cmpI l.length m.length, cmpL l m] _ (IntsAt.two (t := 3) (by simp [go_sem]) (by simp [go_sem]) (by simp)) (by simp)).mono ?_; rintro e w' ⟨rfl, rfl⟩))
  go_ret
  exact ⟨rfl, by (exact ext_of (by (exact belA)))⟩
theorem cmpF_neg (l m : List Int) : decide (cmpF l m < 0) = fewerB l m := fewer_cmp l m
end Go.Proofs.Ytpiadbdkiibdbaa

namespace Go.Proofs.Ytpiadbdkiibdbaa
open Go Go.RowKit Go.Shelf
/-- A list of numbers that lies in memory, below a block. -/
def ListAt (B : Nat) (w : World) (v : Value) (l : List Int) : Prop :=
  ∃ (p : Option Addr) (c : Nat), v = .slice p l.length c ∧ IntsAt w p l ∧ l.length ≤ c ∧ (∀ a, p = some a → (∃ b o, a = ⟨b, o, none⟩) ∧ a.block < B) ∧ (p = none → c = 0) ∧ B ≤ w.heap.size
theorem ListAt.below {B m : Nat} {w w' : World} {v : Value} {l : List Int} (h : ListAt B w v l) (hm : B ≤ m) (hb : Below m w w') : ListAt B w' v l := by
  obtain ⟨p, c, h1, h2, h3, h4, h5, h6⟩ := h
  refine ⟨p, c, h1, fun i x hi => ?_, h3, h4, h5, Nat.le_trans h6 hb.size⟩
  obtain ⟨b, o, e1, e2, e3⟩ := h2 i x hi
  have hbB := (h4 _ e1).2
  dsimp only at hbB
  refine ⟨b, o, e1, Nat.lt_of_lt_of_le e2 hb.size, ?_⟩
  rw [World.cell?_of_block (a := ⟨b, o + i, none⟩) (hb.block b (by omega))]
  exact e3
theorem ListAt.bel {B : Nat} {w w' : World} {v : Value} {l : List Int} (h : ListAt B w v l) (hb : Below w.heap.size w w') : ListAt B w' v l := by
  have hB : B ≤ w.heap.size := by obtain ⟨_, _, -, -, -, -, -, h6⟩ := h; exact h6
  exact h.below hB hb
theorem ListAt.mono {B B' : Nat} {w : World} {v : Value} {l : List Int} (h : ListAt B w v l) (hB : B ≤ B') (hw : B' ≤ w.heap.size) : ListAt B' w v l := by
  obtain ⟨p, c, h1, h2, h3, h4, h5, h6⟩ := h
  exact ⟨p, c, h1, h2, h3, fun a ha => ⟨(h4 a ha).1, Nat.lt_of_lt_of_le (h4 a ha).2 hB⟩, h5, hw⟩
theorem ListAt.nil {B : Nat} {w : World} (hB : B ≤ w.heap.size) : ListAt B w (.slice none 0 0) [] := ⟨none, 0, rfl, fun i x hi => by simp at hi, by simp, (fun a ha => by cases ha), (fun _ => rfl), hB⟩
/-- Lists that lie in memory, as a slice of them does. -/
def LsAt (B : Nat) (w : World) (p : Option Addr) (ls : List (List Int)) : Prop :=
  ∀ (i : Nat) (l : List Int), ls[i]? = some l → ∃ (b o : Nat) (u : Value), p = some ⟨b, o, none⟩ ∧ b < w.heap.size ∧ w.cell? ⟨b, o + i, none⟩ = some u ∧ ListAt B w u l
theorem LsAt.ext {B : Nat} {w : World} {p : Option Addr} {ls : List (List Int)} (h : LsAt B w p ls) (x : Grow w) : LsAt B (ext w x) p ls := fun i l hi => by
  obtain ⟨b, o, u, h1, h2, h3, h4⟩ := h i l hi
  exact ⟨b, o, u, h1, Nat.lt_of_lt_of_le h2 x.ok.size, by rw [ext_cell _ _ _ _ h2]; exact h3, h4.bel (below_ext _ _)⟩
attribute [local go_sem] Oper.semAt_some frozen_alloc_lt
set_option maxRecDepth 100000 in
set_option maxHeartbeats 2000000 in
theorem minFunc_any (B : Nat) (p : Option Addr) (c : Nat) (l0 : List Int) (ls : List (List Int)) (w : World) (h : LsAt B w p (l0 :: ls)) (hn : ls.length ≤ 1000000000000) (hs : ∀ l ∈ l0 :: ls, l.length ≤ 1000) :
    Calls Try.prog 103 #[.slice p (l0 :: ls).length c, .func (.func 104) #[] #[]] w fun e w' => ∃ v, e = .returned v ∧ ListAt B w' v (bestOf l0 ls) ∧ ∃ x, w' = ext w x := by
  obtain ⟨b, o, u, hp, hb, hc, hu⟩ := h 0 l0 rfl
  subst hp
  rw [Nat.add_zero] at hc
  rw [List.length_cons]
  have HH := Lib.hid h
  have HU := Lib.hid hu
  have hge : ¬ ((ls.length + 1 : Nat) : Int) < 1 := by omega
  have hpos : (0 : Int) < ((ls.length + 1 : Nat) : Int) := by omega
  obtain ⟨m, hm⟩ : ∃ m, ls.length + 1 = m := ⟨_, rfl⟩
  rw [hm] at hge hpos ⊢
  have hpos' : 0 < m := by omega
  clear h hu
  go_enter Try.func103, Try.ntmps103
  go_wp2_with fail
  go_loopw [5, 6] (fun cur i wr => ∃ k : Nat, k ≤ ls.length ∧ i = .int .i64 ((k + 1 : Nat) : Int) ∧ Hid (ListAt B wr cur (bestOf l0 (ls.take k))) ∧ ∃ x, wr = ext w x) (fun _ i _ => m - (intOf i).toNat)
  case atStart => exact ⟨0, by omega, rfl, HU, by (exact ext_of (by (exact belA)))⟩
  case round =>
    obtain ⟨k, hk, rfl, HC, x, rfl⟩ := hrel
    obtain ⟨j, hj⟩ : ∃ j, k + 1 = j := ⟨_, rfl⟩
    rw [hj]
    have hj0 : (0 : Int) ≤ (j : Int) := by omega
    by_cases hlt : k < ls.length
    · obtain ⟨l, hl⟩ := get_some ls k hlt
      obtain ⟨b2, o2, u2, e1, e2, e3, e4⟩ := HH.out (k + 1) l (by simpa using hl)
      simp only [Option.some.injEq, Addr.mk.injEq, and_true] at e1
      obtain ⟨rfl, rfl⟩ := e1
      rw [hj] at e3
      have hjm : (j : Int) < (m : Int) := by omega
      have hstep : bestOf l0 (ls.take (k + 1)) = bestStep (bestOf l0 (ls.take k)) l := by
        rw [List.take_add_one, hl, Option.toList_some, bestOf_snoc]
      obtain ⟨p1, c1, rfl, i1, -, -, -, -⟩ := id e4
      obtain ⟨p2, c2, hcur, i2, -, -, -, -⟩ := id HC.out
      have hcb : j ≤ m := by omega
      subst hcur
      have HE4 := Lib.hid e4
      have I1 := Lib.hid i1
      have I2 := Lib.hid i2
      have hl1 : (l.length : Int) ≤ 1000 := by have := hs l (by simp [List.mem_of_getElem? hl]); omega
      have HSTEP := Lib.hid hstep
      have hcn := cmpF_neg l (bestOf l0 (ls.take k))
      generalize hbo : bestOf l0 (ls.take k) = bo at *
      clear e4 i1 i2 hstep
      cases hq : fewerB l bo with
      | true =>
        rw [hq] at hcn
        go_wp2_with (go_at_call 104; refine (compareB_any p1 p2 c1 c2 l bo _ (I1.out.below belA) (I2.out.below belA) hl1).mono ?_; rintro e w1 ⟨rfl, y1, rfl⟩)
        go_roundw
        case rel =>
          refine ⟨k + 1, by omega, by subst hj; go_num, Lib.hid ?_, by (exact ext_of (by (exact belA)))⟩
          rw [HSTEP.out, bestStep, hq]
          exact HE4.out.bel (below_ext _ _)
        case measure => simp [intOf]; omega
      | false =>
        rw [hq] at hcn
        go_wp2_with (go_at_call 104; refine (compareB_any p1 p2 c1 c2 l bo _ (I1.out.below belA) (I2.out.below belA) hl1).mono ?_; rintro e w1 ⟨rfl, y1, rfl⟩)
        go_roundw
        case rel =>
          refine ⟨k + 1, by omega, by subst hj; go_num, Lib.hid ?_, by (exact ext_of (by (exact belA)))⟩
          rw [HSTEP.out, bestStep, hq]
          exact HC.out.bel (below_ext (ext w x) y1)
        case measure => simp [intOf]; omega
    · obtain rfl : k = ls.length := by omega
      have hjm : ¬ (j : Int) < (m : Int) := by omega
      rw [List.take_length] at HC
      go_wp2_with fail
      go_ret
      exact ⟨_, rfl, HC.out, by (exact ext_of (by (exact belA)))⟩
end Go.Proofs.Ytpiadbdkiibdbaa

