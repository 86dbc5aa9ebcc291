/- huerref00: spans, numbers, equal lists. Cut out of Ed by gen_cutU.py. -/
import Derived.Test.YtpiadbdkiibdbaaQB5zi
import Derived.IntWalk
import Derived.Laws.StructEq
import Derived.Deep.DeepCutAuto
set_option linter.unusedSimpArgs false
set_option linter.unusedVariables false
namespace Go.Proofs.Ytpiadbdkiibdbaa
open Go Go.RowKit

theorem To_any (a b : Int) (w : World) : Calls Try.prog 52 #[.int .i64 a, .int .i64 b] w fun e w' => e = .returned (.agg #[.int .i64 a, .int .i64 b]) ∧ ∃ x, w' = ext w x := by
  go_enter Try.func52, Try.ntmps52
  go_wp2
  refine bodyPost_ret (v := .agg #[.int .i64 a, .int .i64 b]) (by simp [results, Try.results52, go_sem]) rfl ⟨rfl, ?_⟩
  (exact ext_of (by (exact belA)))
theorem Just_any (a : Int) (w : World) : Calls Try.prog 43 #[.int .i64 a] w fun e w' => e = .returned (.agg #[.int .i64 a, .int .i64 a]) ∧ ∃ x, w' = ext w x := by
  go_enter Try.func43, Try.ntmps43
  go_wp2
  refine bodyPost_ret (v := .agg #[.int .i64 a, .int .i64 a]) (by simp [results, Try.results43, go_sem]) rfl ⟨rfl, ?_⟩
  (exact ext_of (by (exact belA)))
theorem Between_any (n a b : Int) (w : World) : Calls Try.prog 45 #[.int .i64 n, .int .i64 a, .int .i64 b] w fun e w' => e = .returned (.bool (decide (a ≤ n ∧ n ≤ b))) ∧ w = w' := by
  by_cases h1 : a ≤ n
  · by_cases h2 : n ≤ b
    · have H := Lib.hid (show decide (a ≤ n ∧ n ≤ b) = true by simp [h1, h2])
      go_enter Try.func45, Try.ntmps45
      go_wp2
      go_ret
      exact ⟨by rw [H.out]; rfl, rfl⟩
    · have H := Lib.hid (show decide (a ≤ n ∧ n ≤ b) = false by simp [h2])
      have h2' : decide (n ≤ b) = false := by simpa using h2
      clear h2
      go_enter Try.func45, Try.ntmps45
      go_wp2
      go_ret
      exact ⟨by rw [H.out]; rfl, rfl⟩
  · have H := Lib.hid (show decide (a ≤ n ∧ n ≤ b) = false by simp [h1])
    have h1' : decide (a ≤ n) = false := by simpa using h1
    clear h1
    go_enter Try.func45, Try.ntmps45
    go_wp2
    go_ret
    exact ⟨by rw [H.out]; rfl, rfl⟩
theorem Between_yes (n a b : Int) (w : World) (h1 : a ≤ n) (h2 : n ≤ b) : Calls Try.prog 45 #[.int .i64 n, .int .i64 a, .int .i64 b] w fun e w' => e = .returned (.bool true) ∧ w = w' :=
  (Between_any n a b w).mono fun e w' ⟨he, hw⟩ => ⟨by rw [he]; simp [h1, h2], hw⟩
theorem Sane_yes (lo hi a b : Int) (w : World) (h1 : a ≤ lo) (h2 : hi ≤ b) (h3 : lo ≤ hi) : Calls Try.prog 61 #[.agg #[.int .i64 lo, .int .i64 hi], .int .i64 a, .int .i64 b] w fun e w' => e = .returned (.bool true) ∧ ∃ x, w' = ext w x := by
  go_enter Try.func61, Try.ntmps61
  go_wp2
  go_ret
  exact ⟨rfl, by (exact ext_of (by (exact belA)))⟩
theorem tmod_cases (n m : Int) (hm : 0 < m) : (n.tmod m < 0 → n.tmod m + m = n % m) ∧ (¬ n.tmod m < 0 → n.tmod m = n % m) ∧ -m < n.tmod m ∧ n.tmod m < m := by
  have h1 := Int.tmod_add_mul_tdiv n m
  have h2 : n.tmod m < m := Int.tmod_lt_of_pos n hm
  have h3 : -m < n.tmod m := by
    rcases Int.le_total 0 n with h | h
    · have := Int.tmod_nonneg m h; omega
    · have h4 := Int.tmod_lt_of_pos (-n) hm
      rw [Int.neg_tmod] at h4
      omega
  have h5 : n % m = (n.tmod m) % m := by
    conv => lhs; rw [← h1]
    exact Int.add_mul_emod_self_left _ _ _
  refine ⟨fun h => ?_, fun h => ?_, h3, h2⟩
  · rw [h5, ← Int.add_emod_right, Int.emod_eq_of_lt (by omega) (by omega)]
  · rw [h5, Int.emod_eq_of_lt (by omega) h2]
set_option maxHeartbeats 400000 in
theorem Wheel_any (n m : Int) (w : World) (hm : 1 ≤ m) (hm2 : m ≤ 1000000) : Calls Try.prog 40 #[.int .i64 n, .int .i64 m] w fun e w' => e = .returned (.int .i64 (n % m)) ∧ ∃ x, w' = ext w x := by
  by_cases h2 : m < 2
  · obtain rfl : m = 1 := by omega
    have H := Lib.hid (Int.emod_one n)
    clear hm hm2 h2
    go_enter Try.func40, Try.ntmps40
    go_wp2
    go_ret
    exact ⟨ret_int (by rw [H.out]), ext_of (Below.refl _ _)⟩
  · obtain ⟨H1, H2, H3, H4⟩ := tmod_cases n m (by omega)
    have H1 := Lib.hid H1
    have H2 := Lib.hid H2
    have h0 : ¬ m = 0 := by omega
    by_cases h : n.tmod m < 0
    all_goals
      go_enter Try.func40, Try.ntmps40
      go_wp2
      go_ret
      first
        | exact ⟨rfl, ext_of (Below.refl _ _)⟩
        | exact ⟨ret_int (H2.out (by assumption)), ext_of (Below.refl _ _)⟩
set_option maxHeartbeats 1000000 in
/-- The number of a span to which any number leads. -/
def sameTo {α : Type} [DecidableEq α] (l m : List α) (k : Nat) : Bool := decide (l.length = m.length) && decide (l.take k = m.take k)
theorem sameTo_zero {α : Type} [DecidableEq α] (l m : List α) : sameTo l m 0 = decide (l.length = m.length) := by simp [sameTo]
theorem sameTo_no {α : Type} [DecidableEq α] {l m : List α} {k : Nat} (h : sameTo l m k = false) : decide (l = m) = false := by
  simp only [decide_eq_false_iff_not]
  rintro rfl
  simp [sameTo] at h
theorem sameTo_end {α : Type} [DecidableEq α] {l m : List α} {k : Nat} (h : sameTo l m k = true) (hk : l.length ≤ k) : decide (l = m) = true := by
  simp only [sameTo, Bool.and_eq_true, decide_eq_true_eq] at h
  rw [List.take_of_length_le hk, List.take_of_length_le (by omega)] at h
  simpa using h.2
theorem sameTo_len {α : Type} [DecidableEq α] {l m : List α} {k : Nat} (h : sameTo l m k = true) : l.length = m.length := by
  simp only [sameTo, Bool.and_eq_true, decide_eq_true_eq] at h
  exact h.1
theorem sameTo_step {α : Type} [DecidableEq α] {l m : List α} {k : Nat} {x y : α} (h : sameTo l m k = true) (hx : l[k]? = some x) (hy : m[k]? = some y) : sameTo l m (k + 1) = decide (x = y) := by
  simp only [sameTo, Bool.and_eq_true, decide_eq_true_eq] at h
  obtain ⟨h1, h2⟩ := h
  obtain ⟨hlk, rfl⟩ := List.getElem?_eq_some_iff.1 hx
  obtain ⟨hmk, rfl⟩ := List.getElem?_eq_some_iff.1 hy
  simp only [sameTo, h1, decide_true, Bool.true_and, List.take_succ_eq_append_getElem hlk, List.take_succ_eq_append_getElem hmk, h2, List.append_cancel_left_eq, List.cons.injEq, and_true]

set_option maxHeartbeats 1000000 in
theorem Same_any (p q : Option Addr) (c d : Nat) (l m : List Int) (w : World) (hl : IntsAt w p l) (hm : IntsAt w q m) (hb : (l.length : Int) ≤ 1000) (hb2 : (m.length : Int) ≤ 1000) :
    Calls Try.prog 35 #[.slice p l.length c, .slice q m.length d] w fun e w' => e = .returned (.bool (decide (l = m))) ∧ ∃ x, w' = ext w x := by
  have H0 := Lib.hid (sameTo_zero l m)
  go_enter Try.func35, Try.ntmps35
  by_cases hlen : l.length = m.length
  all_goals
    have HL := Lib.hid hlen
    have e1 : ((l.length : Int) == (m.length : Int)) = decide (l.length = m.length) := by rw [Bool.eq_iff_iff]; simp; omega
    simp only [hlen] at e1
    clear hlen
    go_wp2_with fail
    go_loopw [5, 6] (fun s i wr => ∃ (k : Nat) (sb : Bool), k ≤ l.length ∧ i = .int .i64 k ∧ s = .bool sb ∧ Hid (sameTo l m k = sb) ∧ ∃ x, wr = ext w x) (fun _ i _ => l.length - (intOf i).toNat)
    case atStart => exact ⟨0, _, by omega, rfl, rfl, Lib.hid (by rw [H0.out]; simp [HL.out]), ext_of (Below.refl _ _)⟩
    case round =>
      obtain ⟨k, sb, hk, rfl, rfl, H, x, rfl⟩ := hrel
      clear e1
      cases sb with
      | false =>
        have HF := Lib.hid (sameTo_no H.out)
        go_wp2_with fail
        go_ret
        exact ⟨by rw [HF.out]; rfl, by (exact ext_of (by (exact belA)))⟩
      | true =>
        by_cases hlt : k < l.length
        · obtain ⟨a, ha⟩ := get_some l k hlt
          obtain ⟨b, hbm⟩ := get_some m k (by have := sameTo_len H.out; omega)
          have hlm : k < m.length := by have := sameTo_len H.out; omega
          obtain ⟨b1, o1, rfl, hb1, c1⟩ := hl k a ha
          obtain ⟨b2, o2, rfl, hb2', c2⟩ := hm k b hbm
          have HS := Lib.hid (sameTo_step H.out ha hbm)
          have hlt' : (k : Int) < (l.length : Int) := by omega
          have hlm' : (k : Int) < (m.length : Int) := by omega
          have hk0 : (0 : Int) ≤ (k : Int) := by omega
          clear H ha hbm HL H0
          go_wp2_with fail
          refine wp_region_ext (by kernel_rfl) (by kernel_rfl) ?_
          repeat (go_big_quiet_step (fail))
          (refine wpQuiet_nil ?_; rintro _ ⟨x, rfl⟩)
          go_wp2_with fail
          go_roundw
          case rel => exact ⟨k + 1, _, by omega, by go_num, rfl, Lib.hid (by rw [HS.out]; rw [Bool.eq_iff_iff]; simp), by (exact ext_of (by (exact belA)))⟩
          case measure => simp [intOf]; omega
        · have HT := Lib.hid (sameTo_end H.out (by omega))
          go_wp2_with fail
          go_ret
          exact ⟨by rw [HT.out]; rfl, by (exact ext_of (by (exact belA)))⟩
theorem span_eql (c d e f : Int) (w : World) : (Go.binOp .eql 23 (.agg #[.int .i64 c, .int .i64 d]) (.agg #[.int .i64 e, .int .i64 f])).run Try.prog w = .ok (.bool (decide ((c, d) = (e, f)))) w := by
  by_cases h1 : c = e <;> by_cases h2 : d = f <;> simp [go_sem, h1, h2]
theorem span_neq (c d e f : Int) (w : World) : (Go.binOp .neq 23 (.agg #[.int .i64 c, .int .i64 d]) (.agg #[.int .i64 e, .int .i64 f])).run Try.prog w = .ok (.bool (!decide ((c, d) = (e, f)))) w := by
  by_cases h1 : c = e <;> by_cases h2 : d = f <;> simp [go_sem, h1, h2]
set_option maxHeartbeats 1000000 in
theorem run_sneq {o : Oper} {w : World} {x y z u : Int} {s t : Nat} {t2 : TypeId} (ρ : Operand → Value) (hop : o.op = .binOp .neq 23 (.tmp s) (.tmp t) t2) (h1 : ρ (.tmp s) = .agg #[.int .i64 x, .int .i64 y]) (h2 : ρ (.tmp t) = .agg #[.int .i64 z, .int .i64 u]) :
    (execOp ρ o).run Try.prog w = .ok (.value (.bool (!decide ((x, y) = (z, u))))) w := by
  unfold execOp
  simp only [hop, h1, h2]
  simp only [Sem.run_bind, span_neq]
  simp [go_sem]
theorem run_bs1 {o : Oper} {w : World} {x : Int} (ρ : Operand → Value) (hop : o.op = .buildSlice 43 1 #[(0, .const (.int .i64 x))]) (h1 : ρ (.const (.int .i64 x)) = .int .i64 x := by rfl) :
    (execOp ρ o).run Try.prog w = .ok (.value (.slice (some ⟨w.heap.size, 0, none⟩) 1 1)) (w.alloc (.cells #[.int .i64 x] 3)) := by
  unfold execOp
  simp [hop, h1, go_sem]

theorem run_load_span {w : World} {g : Nat} {x y : Int} {d : Option Tmp} {ty : TypeId} {pos : String} {af : Array Edge} {gd : Option (Nat × Bool)} (ρ : Operand → Value) {s : Operand} (hs : ρ s = .pointer (some ⟨g, 0, none⟩)) (k : Blk w g 23 #[.int .i64 x, .int .i64 y]) :
    (execOp ρ { dst := d, op := .load 23 s, type := ty, pos := pos, after := af, guard := gd }).run Try.prog w = .ok (.value (.agg #[.int .i64 x, .int .i64 y])) w := by
  have c0 := k.cell 0
  have c1 := k.cell 1
  simp only [List.size_toArray, List.length_cons, List.length_nil, Nat.reduceAdd, Nat.reduceLT, getElem?_pos, List.getElem_toArray, List.getElem_cons_zero, List.getElem_cons_succ] at c0 c1
  unfold execOp
  simp [hs, go_sem, c0, c1]
end Go.Proofs.Ytpiadbdkiibdbaa

