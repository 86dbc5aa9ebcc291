/- Contracts of the comparison of lists: cmp.Compare, slices.Compare, cmp.Or, fewer; of greatest. -/
/- An append of one number, or of one span, to a list of the call's own; what is known of bounds as padded lists. -/
/- Contracts of unfair and undecided: loops over all shots. -/
/- Contracts of learn's closure, winner. -/
import Derived.Test.YtdmicngnbcdkdaaDoorRTc
import Derived.Test.YtdmicngnbcdkdaaDoorRIt
import Derived.Test.YtdmicngnbcdkdaaDoorRTm
import Derived.Test.YtdmicngnbcdkdaaDoorRTj
import Derived.OwnWalk
import Derived.OwnWalkIn
import Derived.Deep.DeepCutAuto
set_option linter.unusedSimpArgs false
set_option linter.unusedVariables false
namespace Go.Proofs.YtdmicngnbcdkdaaDoor
open Go Go.RowKit

def cmpI (x y : Int) : Int := if x < y then -1 else if y < x then 1 else 0
theorem cmp_any (x y : Int) (w : World) : Calls Tryd.prog 93 #[.int .i64 x, .int .i64 y] w fun e w' => e = .returned (.int .i64 (cmpI x y)) ∧ w = w' := by
  by_cases h1 : x < y
  · have H := Lib.hid (show cmpI x y = -1 by simp [cmpI, h1])
    go_enter Tryd.func93, Tryd.ntmps93
    go_wp2
    go_ret
    exact ⟨ret_int H.out.symm, rfl⟩
  · by_cases h2 : y < x
    · have H := Lib.hid (show cmpI x y = 1 by simp [cmpI, h1, h2])
      have h3 : decide (x < y) = false := by simpa using h1
      clear h1
      go_enter Tryd.func93, Tryd.ntmps93
      go_wp2
      go_ret
      exact ⟨ret_int H.out.symm, rfl⟩
    · have H := Lib.hid (show cmpI x y = 0 by simp [cmpI, h1, h2])
      have h3 : decide (x < y) = false := by simpa using h1
      have h4 : decide (y < x) = false := by simpa using h2
      clear h1 h2
      go_enter Tryd.func93, Tryd.ntmps93
      go_wp2
      go_ret
      exact ⟨ret_int H.out.symm, rfl⟩
theorem cmpI_zero {x y : Int} (h : cmpI x y = 0) : x = y := by unfold cmpI at h; split at h; omega; split at h <;> omega
theorem cmpI_self (x : Int) : cmpI x x = 0 := by simp [cmpI]

def cmpL : List Int → List Int → Int
  | [], [] => 0
  | [], _ :: _ => -1
  | _ :: _, [] => 1
  | a :: l, b :: m => if cmpI a b = 0 then cmpL l m else cmpI a b
theorem cmpL_lex : ∀ l m, decide (cmpL l m < 0) = lexB l m
  | [], [] => rfl
  | [], _ :: _ => rfl
  | _ :: _, [] => rfl
  | a :: l, b :: m => by
    rw [cmpL, lexB, ← cmpL_lex l m]
    by_cases h1 : a < b
    · simp [cmpI, h1]
    · by_cases h2 : b < a
      · have : ¬ a = b := by omega
        simp [cmpI, h1, h2, this]
      · have : a = b := by omega
        simp [cmpI, this]

set_option maxHeartbeats 1000000 in
theorem compare_any (p q : Option Addr) (c d : Nat) (l m : List Int) (w : World) (hl : IntsAt w p l) (hm : IntsAt w q m) (hb : (l.length : Int) ≤ 1000) :
    Calls Tryd.prog 94 #[.slice p l.length c, .slice q m.length d] w fun e w' => e = .returned (.int .i64 (cmpL l m)) ∧ w = w' := by
  have H0 : Hid (cmpL l m = cmpL (l.drop 0) (m.drop 0)) := Lib.hid rfl
  go_enter Tryd.func94, Tryd.ntmps94
  go_wp2_with fail
  go_loop [4, 5, 6, 7, 8, 11] (fun _ _ _ _ _ i => ∃ k : Nat, k ≤ l.length ∧ k ≤ m.length ∧ i = .int .i64 k ∧ Hid (cmpL l m = cmpL (l.drop k) (m.drop k))) (fun _ _ _ _ _ i => l.length - (intOf i).toNat)
  case atStart => exact ⟨0, by omega, by omega, rfl, H0⟩
  case round =>
    clear H0
    obtain ⟨k, hk, hk2, rfl, H⟩ := hrel
    by_cases hlt : k < l.length
    · obtain ⟨x, hx⟩ := get_some l k hlt
      obtain ⟨b, o, rfl, hb1, c1⟩ := hl k x hx
      have HX := Lib.hid hx
      clear hx
      by_cases hlm : k < m.length
      · obtain ⟨y, hy⟩ := get_some m k hlm
        obtain ⟨b2, o2, rfl, hb2, c2⟩ := hm k y hy
        have HY := Lib.hid hy
        clear hy
        have hge : decide ((m.length : Int) ≤ (k : Int)) = false := by simp; omega
        have HS : Hid (cmpL l m = if cmpI x y = 0 then cmpL (l.drop (k + 1)) (m.drop (k + 1)) else cmpI x y) := Lib.hid (by rw [H.out, drop_of_get HX.out, drop_of_get HY.out]; rfl)
        clear H HX HY
        by_cases h0 : cmpI x y = 0
        · have HS2 := Lib.hid (show cmpL l m = cmpL (l.drop (k + 1)) (m.drop (k + 1)) by rw [HS.out, if_pos h0])
          clear HS
          go_wp2_with (go_at_call 93; refine (cmp_any _ _ _).mono ?_; rintro e w' ⟨rfl, rfl⟩)
          go_round
          case rel => exact ⟨k + 1, by omega, by omega, by go_num, HS2⟩
          case measure => simp [intOf]; omega
        · have HS2 := Lib.hid (show cmpL l m = cmpI x y by rw [HS.out, if_neg h0])
          clear HS
          have h0' : (cmpI x y == 0) = false := by simpa using h0
          have h0'' : (cmpI x y != 0) = true := by simpa using h0
          clear h0
          go_wp2_with (go_at_call 93; refine (cmp_any _ _ _).mono ?_; rintro e w' ⟨rfl, rfl⟩)
          go_ret
          exact ⟨ret_int HS2.out.symm, rfl⟩
      · have hge : (m.length : Int) ≤ (k : Int) := by omega
        have HS := Lib.hid (show cmpL l m = 1 by rw [H.out, drop_of_get HX.out, List.drop_eq_nil_of_le (show m.length ≤ k by omega)]; rfl)
        clear H HX
        go_wp2_with fail
        go_ret
        exact ⟨ret_int HS.out.symm, rfl⟩
    · have hle : l.length = k := by omega
      by_cases hlm : k < m.length
      · have HS := Lib.hid (show cmpL l m = -1 by
          obtain ⟨y, hy⟩ := get_some m k hlm
          rw [H.out, drop_of_get hy, List.drop_eq_nil_of_le (show l.length ≤ k by omega)]; rfl)
        have hc : decide (l.length < m.length) = true := by simp; omega
        clear H hle
        go_wp2_with fail
        go_ret
        exact ⟨ret_int HS.out.symm, rfl⟩
      · have HS := Lib.hid (show cmpL l m = 0 by
          rw [H.out, List.drop_eq_nil_of_le (show m.length ≤ k by omega), List.drop_eq_nil_of_le (show l.length ≤ k by omega)]; rfl)
        have hc : decide (l.length < m.length) = false := by simp; omega
        clear H hle
        go_wp2_with fail
        go_ret
        exact ⟨ret_int HS.out.symm, rfl⟩

def orL : List Int → Int
  | [] => 0
  | x :: l => if x = 0 then orL l else x
set_option maxHeartbeats 1000000 in
theorem or_any (p : Option Addr) (c : Nat) (l : List Int) (w : World) (hl : IntsAt w p l) (hb : (l.length : Int) ≤ 1000) :
    Calls Tryd.prog 92 #[.slice p l.length c] w fun e w' => e = .returned (.int .i64 (orL l)) ∧ w = w' := by
  have H0 : Hid (orL l = orL (l.drop 0)) := Lib.hid rfl
  go_enter Tryd.func92, Tryd.ntmps92
  go_wp2_with fail
  go_loop [2, 5, 8] (fun _ _ i => ∃ k : Nat, k ≤ l.length ∧ i = .int .i64 k ∧ Hid (orL l = orL (l.drop k))) (fun _ _ i => l.length - (intOf i).toNat)
  case atStart => exact ⟨0, by omega, rfl, H0⟩
  case round =>
    clear H0
    obtain ⟨k, hk, rfl, H⟩ := hrel
    by_cases hlt : k < l.length
    · obtain ⟨x, hx⟩ := get_some l k hlt
      obtain ⟨b, o, rfl, hb1, c1⟩ := hl k x hx
      have HS : Hid (orL l = if x = 0 then orL (l.drop (k + 1)) else x) := Lib.hid (by rw [H.out, drop_of_get hx]; rfl)
      clear hx H
      by_cases h0 : x = 0
      · have HS2 := Lib.hid (show orL l = orL (l.drop (k + 1)) by rw [HS.out, if_pos h0])
        clear HS
        subst h0
        go_wp2_with fail
        go_round
        case rel => exact ⟨k + 1, by omega, by go_num, HS2⟩
        case measure => simp [intOf]; omega
      · have HS2 := Lib.hid (show orL l = x by rw [HS.out, if_neg h0])
        clear HS
        have h0' : (x == 0) = false := by simpa using h0
        have h0'' : (x != 0) = true := by simpa using h0
        clear h0
        go_wp2_with fail
        go_ret
        exact ⟨ret_int HS2.out.symm, rfl⟩
    · have HS := Lib.hid (show orL l = 0 by rw [H.out, List.drop_eq_nil_of_le (by omega)]; rfl)
      clear H
      go_wp2_with fail
      go_ret
      exact ⟨ret_int HS.out.symm, rfl⟩

theorem fewer_cmp (l m : List Int) : decide (orL [cmpI l.length m.length, cmpL l m] < 0) = fewerB l m := by
  unfold fewerB
  rw [← cmpL_lex]
  by_cases h1 : l.length < m.length
  · have : (l.length : Int) < m.length := by omega
    simp [orL, cmpI, this, h1]
  · by_cases h2 : m.length < l.length
    · have a : ¬ (l.length : Int) < m.length := by omega
      have b : (m.length : Int) < l.length := by omega
      have c : ¬ l.length = m.length := by omega
      simp [orL, cmpI, a, b, h1, c]
    · have c : l.length = m.length := by omega
      have a : ¬ (l.length : Int) < m.length := by omega
      have b : ¬ (m.length : Int) < l.length := by omega
      simp only [orL, cmpI, a, b, h1, c]
      by_cases h : cmpL l m = 0 <;> simp [h]

theorem IntsAt.two {w : World} {b : Nat} {t : TypeId} {x y : Int} (h0 : w.cell? ⟨b, 0, none⟩ = some (.int .i64 x)) (h1 : w.cell? ⟨b, 1, none⟩ = some (.int .i64 y)) (hb : b < w.heap.size) : IntsAt w (some ⟨b, 0, none⟩) [x, y] := fun i z hz => by
  refine ⟨b, 0, rfl, hb, ?_⟩
  rcases i with _ | _ | i
  · simp at hz; subst hz; exact h0
  · simp at hz; subst hz; exact h1
  · simp at hz
set_option maxHeartbeats 1000000 in
theorem fewer_any (p q : Option Addr) (c d : Nat) (l m : List Int) (w : World) (hl : IntsAt w p l) (hm : IntsAt w q m) (hb : (l.length : Int) ≤ 1000) :
    Calls Tryd.prog 75 #[.slice p l.length c, .slice q m.length d] w fun e w' => e = .returned (.bool (fewerB l m)) ∧ ∃ x, w' = ext w x := by
  have HF := Lib.hid (fewer_cmp l m)
  go_enter Tryd.func75, Tryd.ntmps75
  go_wp2_with (first
    | (go_at_call 93; refine (cmp_any _ _ _).mono ?_; rintro e w' ⟨rfl, rfl⟩)
    | (go_at_call 94; refine (compare_any p q c d l m _ hl hm hb).mono ?_; rintro e w' ⟨rfl, rfl⟩)
    | (go_at_call 92; refine (or_any _ _ [cmpI l.length m.length, cmpL l m] _ (IntsAt.two (t := 3) (by simp [go_sem]) (by simp [go_sem]) (by simp)) (by simp)).mono ?_; rintro e w' ⟨rfl, rfl⟩))
  go_ret
  exact ⟨by rw [← HF.out]; rfl, by (exact ext_of (by (repeat (first | (with_reducible exact Below.refl _ _) | (with_reducible assumption) | ((with_reducible refine below_ext_trans ?_ ?_ _); rotate_left; focus (((try dsimp only); repeat (first | omega | simp only [World.size_alloc, World.size_setCell, World.size_drew] | (with_reducible refine le_ext_of ?_) | (with_reducible refine le_ext_add ?_))); done)) | ((with_reducible refine Below.alloc ?_ ?_ _); rotate_left; focus (((try dsimp only); repeat (first | omega | simp only [World.size_alloc, World.size_setCell, World.size_drew] | (with_reducible refine le_ext_of ?_) | (with_reducible refine le_ext_add ?_))); done)) | ((with_reducible refine Below.setCell ?_ ?_ _); rotate_left; focus (((try dsimp only); repeat (first | omega | simp only [World.size_alloc, World.size_setCell, World.size_drew] | (with_reducible refine le_ext_of ?_) | (with_reducible refine le_ext_add ?_))); done)) | (with_reducible refine Below.drew ?_)))))⟩

/-- The greatest of two numbers, as greatest gives it. -/
theorem greatest_any (a x : Int) (b c : Nat) (w : World) (h0 : w.cell? ⟨b, 0, none⟩ = some (.int .i64 x)) :
    Calls Tryd.prog 96 #[.int .i64 a, .slice (some ⟨b, 0, none⟩) 1 c] w fun e w' => e = .returned (.int .i64 (max a x)) ∧ w = w' := by
  go_enter Tryd.func96, Tryd.ntmps96
  go_wp2
  go_loop [0, 6, 9] (fun f _ i => (i = .int .i64 0 ∧ f = .int .i64 a) ∨ (i = .int .i64 1 ∧ f = .int .i64 (max a x))) (fun _ _ i => 1 - (intOf i).toNat)
  case atStart => exact .inl ⟨rfl, rfl⟩
  case round =>
    rcases hrel with ⟨rfl, rfl⟩ | ⟨rfl, rfl⟩
    · go_wp2
      go_round
      case rel => exact .inr ⟨rfl, by simp; rw [Int.max_def]; split <;> split <;> omega⟩
      case measure => simp [intOf]
    · go_wp2
      go_ret
      exact ⟨rfl, rfl⟩
end Go.Proofs.YtdmicngnbcdkdaaDoor

namespace Go.Proofs.YtdmicngnbcdkdaaDoor
open Go Go.RowKit

theorem info_int : (Tryd.prog.info? 3).map (fun i => (i.zero, i.size, i.bytes)) = some (some (.int .i64 0), 1, 8) := by kernel_rfl
theorem under_ints : Tryd.prog.underlying 28 = some (.slice 3) := by kernel_rfl
theorem info_span : (Tryd.prog.info? 33).map (fun i => (i.zero, i.size, i.bytes)) = some (some (.agg #[.int .i64 0, .int .i64 0]), 2, 16) := by kernel_rfl
theorem under_spans : Tryd.prog.underlying 22 = some (.slice 33) := by kernel_rfl

/-- A list of numbers in an array of the call's own (or nil). -/
def OwnInts (w : World) (B : Nat) (v : Value) (l : List Int) : Prop := w.ownsRow B 3 1 v l.length (l.map (Value.int .i64))
def encSpans (l : List (Int × Int)) : List Value := l.flatMap (fun s => [.int .i64 s.1, .int .i64 s.2])
def OwnSpans (w : World) (B : Nat) (v : Value) (l : List (Int × Int)) : Prop := w.ownsRow B 33 2 v l.length (encSpans l)
theorem OwnInts.nil (w : World) (B : Nat) : OwnInts w B (.slice none 0 0) [] := World.ownsRow_nil _ _ _ _
theorem OwnSpans.nil (w : World) (B : Nat) : OwnSpans w B (.slice none 0 0) [] := World.ownsRow_nil _ _ _ _
theorem encSpans_snoc (l : List (Int × Int)) (s : Int × Int) : encSpans (l ++ [s]) = encSpans l ++ [.int .i64 s.1, .int .i64 s.2] := by simp [encSpans]

theorem wpList_append_int {ops : Array Oper} {rest : List Oper} {o : Oper} {a : Act} {Q : Exit → Act → World → Prop} {w : World} (hgd : o.guard = none) (s x : Operand)
    (ho : o.op = .call { callee := .builtin .append, args := #[s, x], argTypes := #[28, 28] }) (B : Nat)
    (v : Value) (l : List Int) (hs : a.eval s = v) (hown : OwnInts w B v l) (g : Nat) (y : Int) (hx : a.eval x = .slice (some ⟨g, 0, none⟩) 1 1) (hc : w.cell? ⟨g, 0, none⟩ = some (.int .i64 y))
    (hl : l.length ≤ 100000) (hB : B ≤ w.heap.size)
    (h : ∀ v' w', OwnInts w' B v' (l ++ [y]) → w.grownBy w' v.ownBlock → wpList Tryd.prog ops Q rest (a.put o.dst v') w') : wpList Tryd.prog ops Q (o :: rest) a w := by
  obtain ⟨i0, hi, hz0, hz1, hz2⟩ := info_parts info_int
  refine wpList_append_own w hgd s x 28 ho B 3 i0 (.int .i64 0) 1 8 under_ints hi hz0 hz1 hz2 rfl (by decide) v l.length _ hs hown ⟨g, 0, none⟩ 1 1 [.int .i64 y] hx rfl ?_ ?_ ?_ ?_ hB ?_
  · intro j u hj
    match j, hj with
    | 0, hj => simp at hj; subst hj; simpa [Addr.add] using hc
  · intro u hu; simp at hu; subst hu; rfl
  · unfold maxLen; omega
  · omega
  · intro v' w' h1 h2 _
    refine h v' w' ?_ h2
    unfold OwnInts
    simpa using h1

theorem wpListIn_append_int {F : Fence} {n : Nat} {ops : Array Oper} {rest : List Oper} {o : Oper} {a : Act} {Q : Exit → Act → World → Prop} {w : World} (hgd : o.guard = none) (s x : Operand)
    (ho : o.op = .call { callee := .builtin .append, args := #[s, x], argTypes := #[28, 28] }) (B : Nat)
    (v : Value) (l : List Int) (hs : a.eval s = v) (hown : OwnInts w B v l) (g : Nat) (y : Int) (hx : a.eval x = .slice (some ⟨g, 0, none⟩) 1 1) (hc : w.cell? ⟨g, 0, none⟩ = some (.int .i64 y))
    (hl : l.length ≤ 100000) (hB : B ≤ w.heap.size)
    (h : ∀ v' w', OwnInts w' B v' (l ++ [y]) → w.grownBy w' v.ownBlock → wpListIn F n Tryd.prog ops Q rest (a.put o.dst v') w') : wpListIn F n Tryd.prog ops Q (o :: rest) a w := by
  obtain ⟨i0, hi, hz0, hz1, hz2⟩ := info_parts info_int
  refine wpListIn_append_own w hgd s x 28 ho B 3 i0 (.int .i64 0) 1 8 under_ints hi hz0 hz1 hz2 rfl (by decide) v l.length _ hs hown ⟨g, 0, none⟩ 1 1 [.int .i64 y] hx rfl ?_ ?_ ?_ ?_ hB ?_
  · intro j u hj
    match j, hj with
    | 0, hj => simp at hj; subst hj; simpa [Addr.add] using hc
  · intro u hu; simp at hu; subst hu; rfl
  · unfold maxLen; omega
  · omega
  · intro v' w' h1 h2 _
    refine h v' w' ?_ h2
    unfold OwnInts
    simpa using h1

theorem wpList_append_span {ops : Array Oper} {rest : List Oper} {o : Oper} {a : Act} {Q : Exit → Act → World → Prop} {w : World} (hgd : o.guard = none) (s x : Operand)
    (ho : o.op = .call { callee := .builtin .append, args := #[s, x], argTypes := #[22, 22] }) (B : Nat)
    (v : Value) (l : List (Int × Int)) (hs : a.eval s = v) (hown : OwnSpans w B v l) (g : Nat) (y z : Int) (hx : a.eval x = .slice (some ⟨g, 0, none⟩) 1 1) (hc : w.cell? ⟨g, 0, none⟩ = some (.int .i64 y)) (hc2 : w.cell? ⟨g, 1, none⟩ = some (.int .i64 z))
    (hl : l.length ≤ 100000) (hB : B ≤ w.heap.size)
    (h : ∀ v' w', OwnSpans w' B v' (l ++ [(y, z)]) → w.grownBy w' v.ownBlock → wpList Tryd.prog ops Q rest (a.put o.dst v') w') : wpList Tryd.prog ops Q (o :: rest) a w := by
  obtain ⟨i0, hi, hz0, hz1, hz2⟩ := info_parts info_span
  refine wpList_append_own w hgd s x 22 ho B 33 i0 (.agg #[.int .i64 0, .int .i64 0]) 2 16 under_spans hi hz0 hz1 hz2 rfl (by decide) v l.length _ hs hown ⟨g, 0, none⟩ 1 1 [.int .i64 y, .int .i64 z] hx rfl ?_ ?_ ?_ ?_ hB ?_
  · intro j u hj
    match j, hj with
    | 0, hj => simp at hj; subst hj; simpa [Addr.add] using hc
    | 1, hj => simp at hj; subst hj; simpa [Addr.add] using hc2
  · intro u hu; simp at hu; rcases hu with rfl | rfl <;> rfl
  · unfold maxLen; omega
  · omega
  · intro v' w' h1 h2 _
    refine h v' w' ?_ h2
    unfold OwnSpans
    rw [encSpans_snoc]
    simpa using h1

theorem encSpans_append (l m : List (Int × Int)) : encSpans (l ++ m) = encSpans l ++ encSpans m := by simp [encSpans]
theorem encSpans_len (l : List (Int × Int)) : (encSpans l).length = l.length * 2 := by
  induction l with
  | nil => rfl
  | cons a l ih => rw [show encSpans (a :: l) = .int .i64 a.1 :: .int .i64 a.2 :: encSpans l from rfl]; simp [ih]; omega
theorem encSpans_one (l : List (Int × Int)) : ∀ u ∈ encSpans l, u.oneCell' = true := by
  induction l with
  | nil => simp [encSpans]
  | cons a l ih =>
    intro u hu
    rw [show encSpans (a :: l) = .int .i64 a.1 :: .int .i64 a.2 :: encSpans l from rfl] at hu
    simp only [List.mem_cons] at hu
    rcases hu with rfl | rfl | hu
    · rfl
    · rfl
    · exact ih u hu
theorem wpList_append_spans {ops : Array Oper} {rest : List Oper} {o : Oper} {a : Act} {Q : Exit → Act → World → Prop} {w : World} (hgd : o.guard = none) (s x : Operand)
    (ho : o.op = .call { callee := .builtin .append, args := #[s, x], argTypes := #[22, 22] }) (B : Nat)
    (v : Value) (n : Nat) (l L : List (Int × Int)) (hs : a.eval s = v) (hown : OwnSpans w B v l) (hln : l.length = n) (ad : Addr) (m c : Nat) (hm : L.length = m) (hx : a.eval x = .slice (some ad) m c) (hc : ∀ j u, (encSpans L)[j]? = some u → w.cell? (ad.add j) = some u)
    (hl : l.length + L.length ≤ 100000) (hB : B ≤ w.heap.size)
    (h : ∀ v' w', OwnSpans w' B v' (l ++ L) → w.grownBy w' v.ownBlock → wpList Tryd.prog ops Q rest (a.put o.dst v') w') : wpList Tryd.prog ops Q (o :: rest) a w := by
  obtain ⟨i0, hi, hz0, hz1, hz2⟩ := info_parts info_span
  subst hm hln
  refine wpList_append_own w hgd s x 22 ho B 33 i0 (.agg #[.int .i64 0, .int .i64 0]) 2 16 under_spans hi hz0 hz1 hz2 rfl (by decide) v l.length _ hs hown ad L.length c (encSpans L) hx (encSpans_len L) hc (encSpans_one L) ?_ ?_ hB ?_
  · unfold maxLen; omega
  · omega
  · intro v' w' h1 h2 _
    refine h v' w' ?_ h2
    unfold OwnSpans
    rw [encSpans_append, List.length_append]
    exact h1
theorem OwnInts.kept {w w' : World} {B : Nat} {v : Value} {l : List Int} (h : OwnInts w B v l) (hb : ∀ g, v.ownBlock = some g → w'.heap[g]? = w.heap[g]?) : OwnInts w' B v l := by
  obtain ⟨h1, h2⟩ := h
  refine ⟨h1, ?_⟩
  rcases h2 with h2 | ⟨g, cap, cur, rfl, hg, hh, r⟩
  · exact .inl h2
  · exact .inr ⟨g, cap, cur, rfl, hg, (hb g rfl).trans hh, r⟩
theorem OwnInts.lt {w : World} {B : Nat} {v : Value} {l : List Int} (h : OwnInts w B v l) : ∀ g, v.ownBlock = some g → B ≤ g ∧ g < w.heap.size := World.ownsRow.lt h
theorem OwnInts.below {w w' : World} {B : Nat} {v : Value} {l : List Int} (h : OwnInts w B v l) (hb : Below w.heap.size w w') : OwnInts w' B v l := h.kept (fun g hg => hb.block g (h.lt g hg).2)
theorem OwnInts.mono {w : World} {B B' : Nat} {v : Value} {l : List Int} (h : OwnInts w B v l) (hB : B' ≤ B) : OwnInts w B' v l := by
  obtain ⟨h1, h2⟩ := h
  refine ⟨h1, ?_⟩
  rcases h2 with h2 | ⟨g, cap, cur, rfl, hg, r⟩
  · exact .inl h2
  · exact .inr ⟨g, cap, cur, rfl, by omega, r⟩
/-- What is the call's own lies as any list does. -/
theorem OwnInts.at {w : World} {B : Nat} {v : Value} {l : List Int} (h : OwnInts w B v l) : ∃ p c, v = .slice p l.length c ∧ IntsAt w p l ∧ ∀ g o, p = some ⟨g, o, none⟩ → B ≤ g := by
  obtain ⟨h1, h2⟩ := h
  rcases h2 with ⟨h2, h3⟩ | ⟨g, cap, cur, rfl, hg, hh, hn, hm, hs, ht⟩
  · refine ⟨none, 0, by rw [h2, h3], fun i x hx => ?_, fun g o h => by cases h⟩
    have := (List.getElem?_eq_some_iff.1 hx).1
    omega
  · refine ⟨_, cap, rfl, fun i x hx => ⟨g, 0, rfl, (Array.getElem?_eq_some_iff.1 hh).1, ?_⟩, fun g' o e => by cases e; exact hg⟩
    have hi := (List.getElem?_eq_some_iff.1 hx).1
    have h4 := World.ownsRow.cellAt (w := w) (base := B) (e := 3) (size := 1) (g := g) (cap := cap) (n := l.length) (xs := l.map (Value.int .i64)) ⟨h1, .inr ⟨g, cap, cur, rfl, hg, hh, hn, hm, hs, ht⟩⟩ i (by omega)
    rw [Nat.zero_add, h4]
    simp [hx]
def SpansLen : List (Int × Int) → Nat := List.length
theorem OwnSpans.kept {w w' : World} {B : Nat} {v : Value} {l : List (Int × Int)} (h : OwnSpans w B v l) (hb : ∀ g, v.ownBlock = some g → w'.heap[g]? = w.heap[g]?) : OwnSpans w' B v l := by
  obtain ⟨h1, h2⟩ := h
  refine ⟨h1, ?_⟩
  rcases h2 with h2 | ⟨g, cap, cur, rfl, hg, hh, r⟩
  · exact .inl h2
  · exact .inr ⟨g, cap, cur, rfl, hg, (hb g rfl).trans hh, r⟩
theorem OwnSpans.lt {w : World} {B : Nat} {v : Value} {l : List (Int × Int)} (h : OwnSpans w B v l) : ∀ g, v.ownBlock = some g → B ≤ g ∧ g < w.heap.size := World.ownsRow.lt h
theorem OwnSpans.below {w w' : World} {B : Nat} {v : Value} {l : List (Int × Int)} (h : OwnSpans w B v l) (hb : Below w.heap.size w w') : OwnSpans w' B v l := h.kept (fun g hg => hb.block g (h.lt g hg).2)
theorem encSpans_get : ∀ (l : List (Int × Int)) (i : Nat) (s : Int × Int), l[i]? = some s → (encSpans l)[i * 2]? = some (.int .i64 s.1) ∧ (encSpans l)[i * 2 + 1]? = some (.int .i64 s.2)
  | [], i, s, h => by simp at h
  | a :: l, 0, s, h => by simp at h; subst h; simp [encSpans]
  | a :: l, i + 1, s, h => by
    have := encSpans_get l i s (by simpa using h)
    rw [show encSpans (a :: l) = .int .i64 a.1 :: .int .i64 a.2 :: encSpans l from rfl, show (i + 1) * 2 = i * 2 + 1 + 1 by omega]
    simpa using this
theorem OwnSpans.at {w : World} {B : Nat} {v : Value} {l : List (Int × Int)} (h : OwnSpans w B v l) : ∃ p c, v = .slice p l.length c ∧ SpansAt w p l := by
  obtain ⟨h1, h2⟩ := h
  rcases h2 with ⟨h2, h3⟩ | ⟨g, cap, cur, rfl, hg, hh, hn, hm, hs, ht⟩
  · refine ⟨none, 0, by rw [h2, h3], fun i x hx => ?_⟩
    have := (List.getElem?_eq_some_iff.1 hx).1
    omega
  · refine ⟨_, cap, rfl, fun i x hx => ⟨g, 0, rfl, (Array.getElem?_eq_some_iff.1 hh).1, ?_⟩⟩
    have hi := (List.getElem?_eq_some_iff.1 hx).1
    have ho : w.ownsRow B 33 2 (.slice (some ⟨g, 0, none⟩) l.length cap) l.length (encSpans l) := ⟨h1, .inr ⟨g, cap, cur, rfl, hg, hh, hn, hm, hs, ht⟩⟩
    obtain ⟨e1, e2⟩ := encSpans_get l i x hx
    rw [Nat.zero_add, ho.cellAt (i * 2) (by omega), ho.cellAt (i * 2 + 1) (by omega)]
    exact ⟨e1, e2⟩

theorem Blk.set1 {w : World} {g : Nat} {t : TypeId} {v0 v : Value} (h : Blk w g t #[v0]) : Blk (w.setCell ⟨g, 0, none⟩ v) g t #[v] := by simpa using h.set 0 v
/-- Minutes of bounds, padded by the minute that never comes. -/
def tl (v : List Int) : List Int := [v.getD 0 1440, v.getD 1 1440, v.getD 2 1440, v.getD 3 1440]
theorem soon_tl (l : List (Int × Int)) : soonL l = tl (l.map Prod.fst) := soon_eq l
theorem late_tl (l : List (Int × Int)) : lateL l = tl (l.map Prod.snd) := late_eq l
theorem cnt_mono (l : List Int) (a b : Int) (h : a ≤ b) : cnt l a ≤ cnt l b := by
  induction l with
  | nil => simp [cnt]
  | cons t l ih => rw [cnt_cons, cnt_cons]; split <;> split <;> omega
theorem cnt_tl_le (v : List Int) (h4 : v.length ≤ 4) (m : Int) (hm : m < 1440) : cnt (tl v) m ≤ v.length := by
  rcases four v h4 with rfl | ⟨x, rfl⟩ | ⟨x, y, rfl⟩ | ⟨x, y, z, rfl⟩ | ⟨x, y, z, u, rfl⟩ <;> simp only [tl, List.getD_cons_zero, List.getD_cons_succ, List.getD_nil, cnt_cons, cnt_nil, List.length_cons, List.length_nil] <;> (repeat' split) <;> omega

/-- In how many truths a shot is fair, by what is known of the bounds. -/
def jk (b : Bk) (S L : List Int) (s : Shot) : Int := kindOf (fun t => ownf b.os s.st.toNat t == s.co) (seg (cnt L s.lo) (cnt S s.hi))
theorem judge_known (h : Hd) (b : Bk) (B : Nat) (i : Nat) (s : Shot) (w : World) (hk : CoveOK w h b B) (hi : b.ss[i]? = some s) :
    Calls Tryd.prog 55 #[.agg #[.int .i64 b.n, .slice h.pb b.bs.length h.cb, .slice h.po b.os.length h.co, .slice h.ps b.ss.length h.cs, .int .i64 (kspec b.bs 2 0 0), .int .i64 (kspec b.bs 2 0 1), .int .i64 (kspec b.bs 2 0 2), .int .i64 (kspec b.bs 2 0 3), .int .i64 (kspec b.bs 2 0 4), .int .i64 (kspec b.bs 2 0 5), .int .i64 (kspec b.bs 2 0 6), .int .i64 (kspec b.bs 2 0 7), .map (some B)], .int .i64 i, .agg #[.int .i64 (kspec b.bs 2 0 0), .int .i64 (kspec b.bs 2 0 1), .int .i64 (kspec b.bs 2 0 2), .int .i64 (kspec b.bs 2 0 3), .int .i64 (kspec b.bs 2 0 4), .int .i64 (kspec b.bs 2 0 5), .int .i64 (kspec b.bs 2 0 6), .int .i64 (kspec b.bs 2 0 7)]] w fun e w' =>
      e = .returned (.int .i64 (jk b (soonL b.bs) (lateL b.bs) s)) ∧ ∃ x, w' = ext w x := by
  obtain ⟨⟨q1, q2⟩, _, q4⟩ := bookB_shot hk.ok hi
  obtain ⟨v1, v2, _⟩ := bookB_bounds hk.ok
  unfold Mom at q4
  exact judge_any h b B i s.st.toNat s _ _ _ _ _ _ _ _ w hk hi (by omega) (cnt_late_soon _ v1 v2 _ _ (by omega)) (cnt_soon_le _ v1 _ (by omega)) (by omega)
theorem judge_truth (h : Hd) (b : Bk) (B : Nat) (i : Nat) (s : Shot) (v : List Int) (v0 v1 v2 v3 : Int) (w : World) (hk : CoveOK w h b B) (hi : b.ss[i]? = some s) (hv : v.length = b.bs.length) (ht : tl v = [v0, v1, v2, v3]) :
    Calls Tryd.prog 55 #[.agg #[.int .i64 b.n, .slice h.pb b.bs.length h.cb, .slice h.po b.os.length h.co, .slice h.ps b.ss.length h.cs, .int .i64 (kspec b.bs 2 0 0), .int .i64 (kspec b.bs 2 0 1), .int .i64 (kspec b.bs 2 0 2), .int .i64 (kspec b.bs 2 0 3), .int .i64 (kspec b.bs 2 0 4), .int .i64 (kspec b.bs 2 0 5), .int .i64 (kspec b.bs 2 0 6), .int .i64 (kspec b.bs 2 0 7), .map (some B)], .int .i64 i, .agg #[.int .i64 v0, .int .i64 v1, .int .i64 v2, .int .i64 v3, .int .i64 v0, .int .i64 v1, .int .i64 v2, .int .i64 v3]] w fun e w' =>
      e = .returned (.int .i64 (jk b (tl v) (tl v) s)) ∧ ∃ x, w' = ext w x := by
  obtain ⟨⟨q1, q2⟩, _, q4⟩ := bookB_shot hk.ok hi
  obtain ⟨b1, b2, _⟩ := bookB_bounds hk.ok
  unfold Mom at q4
  have h1 := cnt_tl_le v (by omega) s.hi (by omega)
  rw [ht] at h1 ⊢
  exact judge_any h b B i s.st.toNat s _ _ _ _ _ _ _ _ w hk hi (by omega) (cnt_mono _ _ _ (by omega)) (by rw [hv] at h1; exact h1) (by omega)
end Go.Proofs.YtdmicngnbcdkdaaDoor

namespace Go.Proofs.YtdmicngnbcdkdaaDoor
open Go Go.RowKit Go.Maps

def unfairB (b : Bk) (v : List Int) (i : Nat) : Bool := match b.ss[i]? with | some s => jk b (tl v) (tl v) s == 0 | none => false
def unfairL (b : Bk) (v : List Int) (k : Nat) : List Int := ((List.range k).filter (unfairB b v)).map (fun (i : Nat) => (i : Int))
theorem unfairL_yes {b : Bk} {v : List Int} {k : Nat} (h : unfairB b v k = true) : unfairL b v (k + 1) = unfairL b v k ++ [(k : Int)] := by simp [unfairL, List.range_succ, List.filter_append, h]
theorem unfairL_no {b : Bk} {v : List Int} {k : Nat} (h : unfairB b v k = false) : unfairL b v (k + 1) = unfairL b v k := by simp [unfairL, List.range_succ, List.filter_append, h]
theorem unfairL_le (b : Bk) (v : List Int) (k : Nat) : (unfairL b v k).length ≤ k := by
  unfold unfairL; rw [List.length_map]
  exact Nat.le_trans (List.length_filter_le _ _) (by simp)
theorem bookB_ss {b : Bk} (hv : bookB b = true) : b.ss.length ≤ 5 := by
  simp only [bookB, shotsB, Bool.and_eq_true, decide_eq_true_eq] at hv; exact hv.2.1

abbrev cvcells (h : Hd) (b : Bk) (B : Nat) : Array Value := #[.int .i64 b.n, .slice h.pb b.bs.length h.cb, .slice h.po b.os.length h.co, .slice h.ps b.ss.length h.cs, .int .i64 (kspec b.bs 2 0 0), .int .i64 (kspec b.bs 2 0 1), .int .i64 (kspec b.bs 2 0 2), .int .i64 (kspec b.bs 2 0 3), .int .i64 (kspec b.bs 2 0 4), .int .i64 (kspec b.bs 2 0 5), .int .i64 (kspec b.bs 2 0 6), .int .i64 (kspec b.bs 2 0 7), .map (some B)]
/-- The cells of a cove in a block of its own, each by itself. -/
theorem cvBlk {w : World} {g : Nat} {h : Hd} {b : Bk} {B : Nat} (k : Blk w g 83 (cvcells h b B)) :
    w.cell? ⟨g, 0, none⟩ = some (.int .i64 b.n) ∧ w.cell? ⟨g, 1, none⟩ = some (.slice h.pb b.bs.length h.cb) ∧ w.cell? ⟨g, 2, none⟩ = some (.slice h.po b.os.length h.co) ∧ w.cell? ⟨g, 3, none⟩ = some (.slice h.ps b.ss.length h.cs) ∧
    w.cell? ⟨g, 4, none⟩ = some (.int .i64 (kspec b.bs 2 0 0)) ∧ w.cell? ⟨g, 5, none⟩ = some (.int .i64 (kspec b.bs 2 0 1)) ∧ w.cell? ⟨g, 6, none⟩ = some (.int .i64 (kspec b.bs 2 0 2)) ∧ w.cell? ⟨g, 7, none⟩ = some (.int .i64 (kspec b.bs 2 0 3)) ∧
    w.cell? ⟨g, 8, none⟩ = some (.int .i64 (kspec b.bs 2 0 4)) ∧ w.cell? ⟨g, 9, none⟩ = some (.int .i64 (kspec b.bs 2 0 5)) ∧ w.cell? ⟨g, 10, none⟩ = some (.int .i64 (kspec b.bs 2 0 6)) ∧ w.cell? ⟨g, 11, none⟩ = some (.int .i64 (kspec b.bs 2 0 7)) ∧ w.cell? ⟨g, 12, none⟩ = some (.map (some B)) := by
  refine ⟨?_, ?_, ?_, ?_, ?_, ?_, ?_, ?_, ?_, ?_, ?_, ?_, ?_⟩ <;> (rw [k.cell]; rfl)

/-- A list in new memory is handed back. -/
def ListPost (w : World) (l : List Int) (e : Ending) (w' : World) : Prop := ∃ v, e = .returned v ∧ OwnInts w' w.heap.size v l ∧ ∃ x, w' = ext w x

set_option maxHeartbeats 4000000 in
theorem unfair_any (h : Hd) (b : Bk) (B : Nat) (v : List Int) (v0 v1 v2 v3 : Int) (w : World) (hk : CoveOK w h b B) (hv : v.length = b.bs.length) (ht : tl v = [v0, v1, v2, v3]) :
    Calls Tryd.prog 73 #[.agg #[.int .i64 b.n, .slice h.pb b.bs.length h.cb, .slice h.po b.os.length h.co, .slice h.ps b.ss.length h.cs, .int .i64 (kspec b.bs 2 0 0), .int .i64 (kspec b.bs 2 0 1), .int .i64 (kspec b.bs 2 0 2), .int .i64 (kspec b.bs 2 0 3), .int .i64 (kspec b.bs 2 0 4), .int .i64 (kspec b.bs 2 0 5), .int .i64 (kspec b.bs 2 0 6), .int .i64 (kspec b.bs 2 0 7), .map (some B)], .agg #[.int .i64 v0, .int .i64 v1, .int .i64 v2, .int .i64 v3]] w (ListPost w (unfairL b v b.ss.length)) := by
  have h5 := bookB_ss hk.ok
  go_enter Tryd.func73, Tryd.ntmps73
  go_wp2_with fail
  generalize hW : (w.alloc _).alloc _ = W
  have hWB : Below w.heap.size w W := by rw [← hW]; (repeat (first | (with_reducible exact Below.refl _ _) | (with_reducible assumption) | ((with_reducible refine below_ext_trans ?_ ?_ _); rotate_left; focus (((try dsimp only); repeat (first | omega | simp only [World.size_alloc, World.size_setCell, World.size_drew] | (with_reducible refine le_ext_of ?_) | (with_reducible refine le_ext_add ?_))); done)) | ((with_reducible refine Below.alloc ?_ ?_ _); rotate_left; focus (((try dsimp only); repeat (first | omega | simp only [World.size_alloc, World.size_setCell, World.size_drew] | (with_reducible refine le_ext_of ?_) | (with_reducible refine le_ext_add ?_))); done)) | ((with_reducible refine Below.setCell ?_ ?_ _); rotate_left; focus (((try dsimp only); repeat (first | omega | simp only [World.size_alloc, World.size_setCell, World.size_drew] | (with_reducible refine le_ext_of ?_) | (with_reducible refine le_ext_add ?_))); done)) | (with_reducible refine Below.drew ?_)))
  have hWs : W.heap.size = w.heap.size + 2 := by rw [← hW]; simp
  have kb1 : Blk W w.heap.size 83 (cvcells h b B) := by rw [← hW]; exact (Blk.new rfl).alloc _
  have kb2 : Blk W (w.heap.size + 1) 78 #[.int .i64 v0, .int .i64 v1, .int .i64 v2, .int .i64 v3] := by rw [← hW]; exact Blk.new (by simp)
  have c3 := (cvBlk kb1).2.2.2.1
  have HK := Lib.hid (hk.below hWB)
  have HW := Lib.hid hWB
  have HWs := Lib.hid hWs
  have KB1 := Lib.hid kb1
  have KB2 := Lib.hid kb2
  have HV := Lib.hid hv
  have HT := Lib.hid ht
  have hlt1 : w.heap.size < W.heap.size := by omega
  clear hW hk hWB kb1 kb2 hWs hv ht
  go_wp2_with fail
  clear c3
  go_loopw [5, 6, 11] (fun q _ i wr => ∃ k : Nat, k ≤ b.ss.length ∧ i = .int .i64 k ∧ Hid (OwnInts wr W.heap.size q (unfairL b v k)) ∧ Hid (Below W.heap.size W wr)) (fun _ _ i _ => b.ss.length - (intOf i).toNat)
  case atStart => exact ⟨0, by omega, rfl, Lib.hid (OwnInts.nil _ _), Lib.hid (Below.refl _ _)⟩
  case round =>
    obtain ⟨k, hkl, rfl, HO, HB⟩ := hrel
    by_cases hlt : k < b.ss.length
    · obtain ⟨s, hs⟩ := get_some b.ss k hlt
      have HS := Lib.hid hs
      have kb1 := (HB.out.block _ KB1.out.lt).trans KB1.out
      have kb2 := (HB.out.block _ KB2.out.lt).trans KB2.out
      have kb1 : Blk wr w.heap.size 83 (cvcells h b B) := kb1
      have kb2 : Blk wr (w.heap.size + 1) 78 #[.int .i64 v0, .int .i64 v1, .int .i64 v2, .int .i64 v3] := kb2
      obtain ⟨d0, d1, d2, d3, d4, d5, d6, d7, d8, d9, d10, d11, d12⟩ := cvBlk kb1
      have e0 := kb2.cell 0
      have e1 := kb2.cell 1
      have e2 := kb2.cell 2
      have e3 := kb2.cell 3
      simp only [List.size_toArray, List.length_cons, List.length_nil, Nat.reduceAdd, Nat.reduceLT, getElem?_pos, List.getElem_toArray, List.getElem_cons_zero, List.getElem_cons_succ] at e0 e1 e2 e3
      have hzr : W.heap.size ≤ wr.heap.size := HB.out.size
      have hl1 : w.heap.size < wr.heap.size := kb1.lt
      have hl2 : w.heap.size + 1 < wr.heap.size := kb2.lt
      have HKr := Lib.hid (HK.out.below HB.out)
      clear hs kb1 kb2
      by_cases hj : jk b (tl v) (tl v) s = 0
      · have HU := Lib.hid (unfairL_yes (b := b) (v := v) (k := k) (by unfold unfairB; rw [HS.out]; simp [hj]))
        have hjj : (jk b (tl v) (tl v) s == 0) = true := by simp [hj]
        have HJ := Lib.hid hj
        clear hj
        go_wp2_with (first
          | (go_at_call 55; refine (judge_truth h b B k s v _ _ _ _ _ HKr.out HS.out HV.out HT.out).mono ?_; rintro e w' ⟨rfl, y, rfl⟩)
          | (at_builtin; refine wpList_append_int rfl _ _ rfl W.heap.size _ _ rfl ((HO.out.below (below_ext wr y)).below ((Below.refl _ _).alloc (Nat.le_refl _) _)) (ext wr y).heap.size (k : Int) rfl (by simp [go_sem]) (by have := unfairL_le b v k; omega) (by ((try dsimp only); repeat (first | omega | simp only [World.size_alloc, World.size_setCell, World.size_drew] | (with_reducible refine le_ext_of ?_) | (with_reducible refine le_ext_add ?_)))) ?_; intro v' w1 ho hg))
        have HO' := Lib.hid ho
        have hB2 : Below W.heap.size W w1 := by
          have hB := HB.out
          refine Below.grown (w := (ext wr y).alloc (.cells #[.int .i64 (k : Int)] 3)) (by (repeat (first | (with_reducible exact Below.refl _ _) | (with_reducible assumption) | ((with_reducible refine below_ext_trans ?_ ?_ _); rotate_left; focus (((try dsimp only); repeat (first | omega | simp only [World.size_alloc, World.size_setCell, World.size_drew] | (with_reducible refine le_ext_of ?_) | (with_reducible refine le_ext_add ?_))); done)) | ((with_reducible refine Below.alloc ?_ ?_ _); rotate_left; focus (((try dsimp only); repeat (first | omega | simp only [World.size_alloc, World.size_setCell, World.size_drew] | (with_reducible refine le_ext_of ?_) | (with_reducible refine le_ext_add ?_))); done)) | ((with_reducible refine Below.setCell ?_ ?_ _); rotate_left; focus (((try dsimp only); repeat (first | omega | simp only [World.size_alloc, World.size_setCell, World.size_drew] | (with_reducible refine le_ext_of ?_) | (with_reducible refine le_ext_add ?_))); done)) | (with_reducible refine Below.drew ?_)))) hg (by ((try dsimp only); repeat (first | omega | simp only [World.size_alloc, World.size_setCell, World.size_drew] | (with_reducible refine le_ext_of ?_) | (with_reducible refine le_ext_add ?_)))) ?_
          intro j hj
          exact (HO.out.lt j hj).1
        have HB2 := Lib.hid hB2
        clear ho hg hB2 HJ hjj
        go_wp2_with fail
        go_roundw
        case rel => exact ⟨k + 1, by omega, by go_num, by rw [HU.out]; exact HO', HB2⟩
        case measure => simp [intOf]; omega
      · have HU := Lib.hid (unfairL_no (b := b) (v := v) (k := k) (by unfold unfairB; rw [HS.out]; simp [hj]))
        have hjj : (jk b (tl v) (tl v) s == 0) = false := by simp [hj]
        clear hj
        go_wp2_with (first
          | (go_at_call 55; refine (judge_truth h b B k s v _ _ _ _ _ HKr.out HS.out HV.out HT.out).mono ?_; rintro e w' ⟨rfl, y, rfl⟩))
        go_roundw
        case rel => exact ⟨k + 1, by omega, by go_num, by rw [HU.out]; exact Lib.hid (HO.out.below (below_ext wr y)), Lib.hid (by have hB := HB.out; (repeat (first | (with_reducible exact Below.refl _ _) | (with_reducible assumption) | ((with_reducible refine below_ext_trans ?_ ?_ _); rotate_left; focus (((try dsimp only); repeat (first | omega | simp only [World.size_alloc, World.size_setCell, World.size_drew] | (with_reducible refine le_ext_of ?_) | (with_reducible refine le_ext_add ?_))); done)) | ((with_reducible refine Below.alloc ?_ ?_ _); rotate_left; focus (((try dsimp only); repeat (first | omega | simp only [World.size_alloc, World.size_setCell, World.size_drew] | (with_reducible refine le_ext_of ?_) | (with_reducible refine le_ext_add ?_))); done)) | ((with_reducible refine Below.setCell ?_ ?_ _); rotate_left; focus (((try dsimp only); repeat (first | omega | simp only [World.size_alloc, World.size_setCell, World.size_drew] | (with_reducible refine le_ext_of ?_) | (with_reducible refine le_ext_add ?_))); done)) | (with_reducible refine Below.drew ?_))))⟩
        case measure => simp [intOf]; omega
    · obtain rfl : k = b.ss.length := by omega
      go_wp2_with fail
      go_ret
      exact ⟨_, rfl, HO.out.mono (by have := HWs.out; omega), ext_of (HW.out.trans (HB.out.mono (by have := HWs.out; omega)))⟩

def undB (b : Bk) (i : Nat) : Bool := match b.ss[i]? with | some s => jk b (soonL b.bs) (lateL b.bs) s == 1 | none => false
def undN (b : Bk) (k : Nat) : Nat := ((List.range k).filter (undB b)).length
theorem undN_yes {b : Bk} {k : Nat} (h : undB b k = true) : undN b (k + 1) = undN b k + 1 := by simp [undN, List.range_succ, List.filter_append, h]
theorem undN_no {b : Bk} {k : Nat} (h : undB b k = false) : undN b (k + 1) = undN b k := by simp [undN, List.range_succ, List.filter_append, h]
theorem undN_le (b : Bk) (k : Nat) : undN b k ≤ k := Nat.le_trans (List.length_filter_le _ _) (by simp)

set_option maxHeartbeats 4000000 in
theorem undecided_any (h : Hd) (b : Bk) (B : Nat) (w : World) (hk : CoveOK w h b B) :
    Calls Tryd.prog 98 #[.agg #[.int .i64 b.n, .slice h.pb b.bs.length h.cb, .slice h.po b.os.length h.co, .slice h.ps b.ss.length h.cs, .int .i64 (kspec b.bs 2 0 0), .int .i64 (kspec b.bs 2 0 1), .int .i64 (kspec b.bs 2 0 2), .int .i64 (kspec b.bs 2 0 3), .int .i64 (kspec b.bs 2 0 4), .int .i64 (kspec b.bs 2 0 5), .int .i64 (kspec b.bs 2 0 6), .int .i64 (kspec b.bs 2 0 7), .map (some B)]] w fun e w' => e = .returned (.int .i64 (undN b b.ss.length)) ∧ ∃ x, w' = ext w x := by
  have h5 := bookB_ss hk.ok
  go_enter Tryd.func98, Tryd.ntmps98
  go_wp2_with fail
  generalize hW : w.alloc _ = W
  have hWB : Below w.heap.size w W := by rw [← hW]; (repeat (first | (with_reducible exact Below.refl _ _) | (with_reducible assumption) | ((with_reducible refine below_ext_trans ?_ ?_ _); rotate_left; focus (((try dsimp only); repeat (first | omega | simp only [World.size_alloc, World.size_setCell, World.size_drew] | (with_reducible refine le_ext_of ?_) | (with_reducible refine le_ext_add ?_))); done)) | ((with_reducible refine Below.alloc ?_ ?_ _); rotate_left; focus (((try dsimp only); repeat (first | omega | simp only [World.size_alloc, World.size_setCell, World.size_drew] | (with_reducible refine le_ext_of ?_) | (with_reducible refine le_ext_add ?_))); done)) | ((with_reducible refine Below.setCell ?_ ?_ _); rotate_left; focus (((try dsimp only); repeat (first | omega | simp only [World.size_alloc, World.size_setCell, World.size_drew] | (with_reducible refine le_ext_of ?_) | (with_reducible refine le_ext_add ?_))); done)) | (with_reducible refine Below.drew ?_)))
  have hWs : W.heap.size = w.heap.size + 1 := by rw [← hW]; simp
  have kb1 : Blk W w.heap.size 83 (cvcells h b B) := by rw [← hW]; exact Blk.new rfl
  have c3 := (cvBlk kb1).2.2.2.1
  have HK := Lib.hid (hk.below hWB)
  have HW := Lib.hid hWB
  have HWs := Lib.hid hWs
  have KB1 := Lib.hid kb1
  have hlt1 : w.heap.size < W.heap.size := by omega
  clear hW hk hWB kb1 hWs
  go_wp2_with fail
  clear c3
  go_loopw [3, 4, 9] (fun q _ i wr => ∃ k : Nat, k ≤ b.ss.length ∧ i = .int .i64 k ∧ q = .int .i64 (undN b k) ∧ Hid (Below W.heap.size W wr)) (fun _ _ i _ => b.ss.length - (intOf i).toNat)
  case atStart => exact ⟨0, by omega, rfl, rfl, Lib.hid (Below.refl _ _)⟩
  case round =>
    obtain ⟨k, hkl, rfl, rfl, HB⟩ := hrel
    by_cases hlt : k < b.ss.length
    · obtain ⟨s, hs⟩ := get_some b.ss k hlt
      have HS := Lib.hid hs
      have kb1 : Blk wr w.heap.size 83 (cvcells h b B) := (HB.out.block _ KB1.out.lt).trans KB1.out
      obtain ⟨d0, d1, d2, d3, d4, d5, d6, d7, d8, d9, d10, d11, d12⟩ := cvBlk kb1
      have hl1 : w.heap.size < wr.heap.size := kb1.lt
      have HKr := Lib.hid (HK.out.below HB.out)
      have hun := undN_le b k
      have hzr : W.heap.size ≤ wr.heap.size := HB.out.size
      clear hs kb1
      by_cases hj : jk b (soonL b.bs) (lateL b.bs) s = 1
      · have HU := Lib.hid (undN_yes (b := b) (k := k) (by unfold undB; rw [HS.out]; simp [hj]))
        have hjj : (jk b (soonL b.bs) (lateL b.bs) s == 1) = true := by simp [hj]
        clear hj
        go_wp2_with (first
          | (go_at_call 55; refine (judge_known h b B k s _ HKr.out HS.out).mono ?_; rintro e w' ⟨rfl, y, rfl⟩))
        go_roundw
        case rel => exact ⟨k + 1, by omega, by go_num, by rw [HU.out]; go_num, Lib.hid (by have hB := HB.out; (repeat (first | (with_reducible exact Below.refl _ _) | (with_reducible assumption) | ((with_reducible refine below_ext_trans ?_ ?_ _); rotate_left; focus (((try dsimp only); repeat (first | omega | simp only [World.size_alloc, World.size_setCell, World.size_drew] | (with_reducible refine le_ext_of ?_) | (with_reducible refine le_ext_add ?_))); done)) | ((with_reducible refine Below.alloc ?_ ?_ _); rotate_left; focus (((try dsimp only); repeat (first | omega | simp only [World.size_alloc, World.size_setCell, World.size_drew] | (with_reducible refine le_ext_of ?_) | (with_reducible refine le_ext_add ?_))); done)) | ((with_reducible refine Below.setCell ?_ ?_ _); rotate_left; focus (((try dsimp only); repeat (first | omega | simp only [World.size_alloc, World.size_setCell, World.size_drew] | (with_reducible refine le_ext_of ?_) | (with_reducible refine le_ext_add ?_))); done)) | (with_reducible refine Below.drew ?_))))⟩
        case measure => simp [intOf]; omega
      · have HU := Lib.hid (undN_no (b := b) (k := k) (by unfold undB; rw [HS.out]; simp [hj]))
        have hjj : (jk b (soonL b.bs) (lateL b.bs) s == 1) = false := by simp [hj]
        clear hj
        go_wp2_with (first
          | (go_at_call 55; refine (judge_known h b B k s _ HKr.out HS.out).mono ?_; rintro e w' ⟨rfl, y, rfl⟩))
        go_roundw
        case rel => exact ⟨k + 1, by omega, by go_num, by rw [HU.out], Lib.hid (by have hB := HB.out; (repeat (first | (with_reducible exact Below.refl _ _) | (with_reducible assumption) | ((with_reducible refine below_ext_trans ?_ ?_ _); rotate_left; focus (((try dsimp only); repeat (first | omega | simp only [World.size_alloc, World.size_setCell, World.size_drew] | (with_reducible refine le_ext_of ?_) | (with_reducible refine le_ext_add ?_))); done)) | ((with_reducible refine Below.alloc ?_ ?_ _); rotate_left; focus (((try dsimp only); repeat (first | omega | simp only [World.size_alloc, World.size_setCell, World.size_drew] | (with_reducible refine le_ext_of ?_) | (with_reducible refine le_ext_add ?_))); done)) | ((with_reducible refine Below.setCell ?_ ?_ _); rotate_left; focus (((try dsimp only); repeat (first | omega | simp only [World.size_alloc, World.size_setCell, World.size_drew] | (with_reducible refine le_ext_of ?_) | (with_reducible refine le_ext_add ?_))); done)) | (with_reducible refine Below.drew ?_))))⟩
        case measure => simp [intOf]; omega
    · obtain rfl : k = b.ss.length := by omega
      go_wp2_with fail
      go_ret
      exact ⟨rfl, ext_of (HW.out.trans (HB.out.mono (by have := HWs.out; omega)))⟩
end Go.Proofs.YtdmicngnbcdkdaaDoor

namespace Go.Proofs.YtdmicngnbcdkdaaDoor
open Go Go.RowKit Go.Maps

theorem four_cases {k : Nat} (h : k < 4) : k = 0 ∨ k = 1 ∨ k = 2 ∨ k = 3 := by omega

set_option maxHeartbeats 1000000 in
theorem learn1_any (g i j : Nat) (l0 l1 l2 l3 : Int) (w : World) (hi : i < 4) (hj : j < 4) (hg : g < w.heap.size) (c0 : w.cell? ⟨g, 0, none⟩ = some (.int .i64 l0)) (c1 : w.cell? ⟨g, 1, none⟩ = some (.int .i64 l1)) (c2 : w.cell? ⟨g, 2, none⟩ = some (.int .i64 l2)) (c3 : w.cell? ⟨g, 3, none⟩ = some (.int .i64 l3)) :
    Calls Tryd.prog 81 #[.int .i64 i, .int .i64 j, .pointer (some ⟨g, 0, none⟩)] w fun e w' => e = .returned (.bool (decide ([l0, l1, l2, l3].getD i 0 < [l0, l1, l2, l3].getD j 0))) ∧ ∃ x, w' = ext w x := by
  rcases four_cases hi with rfl | rfl | rfl | rfl <;> rcases four_cases hj with rfl | rfl | rfl | rfl
  all_goals
    go_enter Tryd.func81, Tryd.ntmps81
    go_wp2_with fail
    refine wp_region_ext (by kernel_rfl) (by kernel_rfl) ?_
    repeat (go_big_quiet_step (fail))
    (refine wpQuiet_nil ?_; rintro _ ⟨x, rfl⟩)
    go_wp2_with fail
    go_ret
    exact ⟨by first | rfl | simp, by (exact ext_of (by (repeat (first | (with_reducible exact Below.refl _ _) | (with_reducible assumption) | ((with_reducible refine below_ext_trans ?_ ?_ _); rotate_left; focus (((try dsimp only); repeat (first | omega | simp only [World.size_alloc, World.size_setCell, World.size_drew] | (with_reducible refine le_ext_of ?_) | (with_reducible refine le_ext_add ?_))); done)) | ((with_reducible refine Below.alloc ?_ ?_ _); rotate_left; focus (((try dsimp only); repeat (first | omega | simp only [World.size_alloc, World.size_setCell, World.size_drew] | (with_reducible refine le_ext_of ?_) | (with_reducible refine le_ext_add ?_))); done)) | ((with_reducible refine Below.setCell ?_ ?_ _); rotate_left; focus (((try dsimp only); repeat (first | omega | simp only [World.size_alloc, World.size_setCell, World.size_drew] | (with_reducible refine le_ext_of ?_) | (with_reducible refine le_ext_add ?_))); done)) | (with_reducible refine Below.drew ?_)))))⟩

/-- The first of the best of so many things. -/
def winStep (lt : Nat → Nat → Bool) (best n : Nat) : Nat := if lt n best then n else best
def winN (lt : Nat → Nat → Bool) (n : Nat) : Nat := (List.range n).foldl (winStep lt) 0
theorem winN_succ (lt : Nat → Nat → Bool) (n : Nat) : winN lt (n + 1) = winStep lt (winN lt n) n := by simp [winN, List.range_succ]
theorem winN_lt (lt : Nat → Nat → Bool) (n : Nat) (h : 0 < n) : winN lt n < n := by
  induction n with
  | zero => omega
  | succ n ih =>
    rw [winN_succ]; unfold winStep; split
    · omega
    · rcases Nat.eq_zero_or_pos n with rfl | h'
      · simp [winN]
      · have := ih h'; omega
theorem winN_le (lt : Nat → Nat → Bool) (n : Nat) (m : Nat) (h : n ≤ m) (hm : 0 < m) : winN lt n < m := by
  rcases Nat.eq_zero_or_pos n with rfl | h'
  · simpa [winN] using hm
  · have := winN_lt lt n h'; omega

set_option maxHeartbeats 1000000 in
theorem winner_any (f : FuncId) (fb : Array Value) (lt : Nat → Nat → Bool) (n : Nat) (w : World) (hn : (n : Int) ≤ 1000)
    (hf : ∀ args w, (callFunc f args).run Tryd.prog w = .ok (.enter f args) w)
    (his : ∀ i j : Nat, i < n → j < n → ∀ W' : World, Below w.heap.size w W' → Calls Tryd.prog f (#[.int .i64 i, .int .i64 j] ++ fb) W' fun e w' => e = .returned (.bool (lt i j)) ∧ ∃ x, w' = ext W' x) :
    Calls Tryd.prog 82 #[.agg #[.func (.func f) #[] fb], .int .i64 n] w fun e w' => e = .returned (.int .i64 (winN lt n)) ∧ ∃ x, w' = ext w x := by
  have HIS := Lib.hid his
  clear his
  go_enter Tryd.func82, Tryd.ntmps82
  go_wp2_with fail
  generalize hW : w.alloc _ = W
  have hWB : Below w.heap.size w W := by rw [← hW]; (repeat (first | (with_reducible exact Below.refl _ _) | (with_reducible assumption) | ((with_reducible refine below_ext_trans ?_ ?_ _); rotate_left; focus (((try dsimp only); repeat (first | omega | simp only [World.size_alloc, World.size_setCell, World.size_drew] | (with_reducible refine le_ext_of ?_) | (with_reducible refine le_ext_add ?_))); done)) | ((with_reducible refine Below.alloc ?_ ?_ _); rotate_left; focus (((try dsimp only); repeat (first | omega | simp only [World.size_alloc, World.size_setCell, World.size_drew] | (with_reducible refine le_ext_of ?_) | (with_reducible refine le_ext_add ?_))); done)) | ((with_reducible refine Below.setCell ?_ ?_ _); rotate_left; focus (((try dsimp only); repeat (first | omega | simp only [World.size_alloc, World.size_setCell, World.size_drew] | (with_reducible refine le_ext_of ?_) | (with_reducible refine le_ext_add ?_))); done)) | (with_reducible refine Below.drew ?_)))
  have kb1 : Blk W w.heap.size 119 #[.func (.func f) #[] fb] := by rw [← hW]; exact Blk.new rfl
  have HW := Lib.hid hWB
  have KB1 := Lib.hid kb1
  have hWs : w.heap.size ≤ W.heap.size := hWB.size
  clear hW hWB kb1
  go_loopw [5, 6, 8] (fun q _ i wr => ∃ k : Nat, k ≤ n ∧ i = .int .i64 k ∧ q = .int .i64 (winN lt k) ∧ Hid (Below W.heap.size W wr)) (fun _ _ i _ => n - (intOf i).toNat)
  case atStart => exact ⟨0, by omega, rfl, rfl, Lib.hid (Below.refl _ _)⟩
  case round =>
    obtain ⟨k, hkl, rfl, rfl, HB⟩ := hrel
    by_cases hlt : k < n
    · have kb1 : Blk wr w.heap.size 119 #[.func (.func f) #[] fb] := (HB.out.block _ KB1.out.lt).trans KB1.out
      have hl1 := kb1.lt
      have d0 := kb1.cell 0
      simp only [List.size_toArray, List.length_cons, List.length_nil, Nat.reduceAdd, Nat.reduceLT, getElem?_pos, List.getElem_toArray, List.getElem_cons_zero, List.getElem_cons_succ] at d0
      have hzr : W.heap.size ≤ wr.heap.size := HB.out.size
      have HC := Lib.hid (HIS.out k (winN lt k) hlt (winN_le lt k n hkl (by omega)) wr (HW.out.trans (HB.out.mono hWs)))
      clear kb1
      by_cases hj : lt k (winN lt k) = true
      · have HU := Lib.hid (show winN lt (k + 1) = k by rw [winN_succ, winStep, if_pos hj])
        go_wp2_with (refine (HC.out).mono ?_; rintro e w' ⟨rfl, y, rfl⟩)
        go_roundw
        case rel => exact ⟨k + 1, by omega, by go_num, by rw [HU.out], Lib.hid (by have hB := HB.out; (repeat (first | (with_reducible exact Below.refl _ _) | (with_reducible assumption) | ((with_reducible refine below_ext_trans ?_ ?_ _); rotate_left; focus (((try dsimp only); repeat (first | omega | simp only [World.size_alloc, World.size_setCell, World.size_drew] | (with_reducible refine le_ext_of ?_) | (with_reducible refine le_ext_add ?_))); done)) | ((with_reducible refine Below.alloc ?_ ?_ _); rotate_left; focus (((try dsimp only); repeat (first | omega | simp only [World.size_alloc, World.size_setCell, World.size_drew] | (with_reducible refine le_ext_of ?_) | (with_reducible refine le_ext_add ?_))); done)) | ((with_reducible refine Below.setCell ?_ ?_ _); rotate_left; focus (((try dsimp only); repeat (first | omega | simp only [World.size_alloc, World.size_setCell, World.size_drew] | (with_reducible refine le_ext_of ?_) | (with_reducible refine le_ext_add ?_))); done)) | (with_reducible refine Below.drew ?_))))⟩
        case measure => simp [intOf]; omega
      · have HU := Lib.hid (show winN lt (k + 1) = winN lt k by rw [winN_succ, winStep, if_neg hj])
        have hj : lt k (winN lt k) = false := by simpa using hj
        go_wp2_with (refine (HC.out).mono ?_; rintro e w' ⟨rfl, y, rfl⟩)
        go_roundw
        case rel => exact ⟨k + 1, by omega, by go_num, by rw [HU.out], Lib.hid (by have hB := HB.out; (repeat (first | (with_reducible exact Below.refl _ _) | (with_reducible assumption) | ((with_reducible refine below_ext_trans ?_ ?_ _); rotate_left; focus (((try dsimp only); repeat (first | omega | simp only [World.size_alloc, World.size_setCell, World.size_drew] | (with_reducible refine le_ext_of ?_) | (with_reducible refine le_ext_add ?_))); done)) | ((with_reducible refine Below.alloc ?_ ?_ _); rotate_left; focus (((try dsimp only); repeat (first | omega | simp only [World.size_alloc, World.size_setCell, World.size_drew] | (with_reducible refine le_ext_of ?_) | (with_reducible refine le_ext_add ?_))); done)) | ((with_reducible refine Below.setCell ?_ ?_ _); rotate_left; focus (((try dsimp only); repeat (first | omega | simp only [World.size_alloc, World.size_setCell, World.size_drew] | (with_reducible refine le_ext_of ?_) | (with_reducible refine le_ext_add ?_))); done)) | (with_reducible refine Below.drew ?_))))⟩
        case measure => simp [intOf]; omega
    · obtain rfl : k = n := by omega
      go_wp2_with fail
      go_ret
      exact ⟨rfl, ext_of (HW.out.trans (HB.out.mono hWs))⟩
end Go.Proofs.YtdmicngnbcdkdaaDoor

