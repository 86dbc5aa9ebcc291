/- Contracts of Same and SameSpans. -/
/- Contract of SameSpans. -/
import Derived.Test.YtdmicngnbcdkdaaDoorRWa
import Derived.Test.YtdmicngnbcdkdaaDoorRUa
import Derived.Laws.StructEq
set_option linter.unusedSimpArgs false
set_option linter.unusedVariables false
namespace Go.Proofs.YtdmicngnbcdkdaaDoor
open Go Go.RowKit

def sameTo {α : Type} [DecidableEq α] (l m : List α) (k : Nat) : Bool := decide (l.length = m.length) && decide (l.take k = m.take k)
theorem sameTo_zero {α : Type} [DecidableEq α] (l m : List α) : sameTo l m 0 = decide (l.length = m.length) := by simp [sameTo]
theorem sameTo_no {α : Type} [DecidableEq α] {l m : List α} {k : Nat} (h : sameTo l m k = false) : decide (l = m) = false := by
  simp only [decide_eq_false_iff_not]
  rintro rfl
  simp [sameTo] at h
theorem sameTo_end {α : Type} [DecidableEq α] {l m : List α} {k : Nat} (h : sameTo l m k = true) (hk : l.length ≤ k) : decide (l = m) = true := by
  simp only [sameTo, Bool.and_eq_true, decide_eq_true_eq] at h
  rw [List.take_of_length_le hk, List.take_of_length_le (by omega)] at h
  simpa using h.2
theorem sameTo_len {α : Type} [DecidableEq α] {l m : List α} {k : Nat} (h : sameTo l m k = true) : l.length = m.length := by
  simp only [sameTo, Bool.and_eq_true, decide_eq_true_eq] at h
  exact h.1
theorem sameTo_step {α : Type} [DecidableEq α] {l m : List α} {k : Nat} {x y : α} (h : sameTo l m k = true) (hx : l[k]? = some x) (hy : m[k]? = some y) : sameTo l m (k + 1) = decide (x = y) := by
  simp only [sameTo, Bool.and_eq_true, decide_eq_true_eq] at h
  obtain ⟨h1, h2⟩ := h
  obtain ⟨hlk, rfl⟩ := List.getElem?_eq_some_iff.1 hx
  obtain ⟨hmk, rfl⟩ := List.getElem?_eq_some_iff.1 hy
  simp only [sameTo, h1, decide_true, Bool.true_and, List.take_succ_eq_append_getElem hlk, List.take_succ_eq_append_getElem hmk, h2, List.append_cancel_left_eq, List.cons.injEq, and_true]

set_option maxHeartbeats 1000000 in
theorem Same_any (p q : Option Addr) (c d : Nat) (l m : List Int) (w : World) (hl : IntsAt w p l) (hm : IntsAt w q m) (hb : (l.length : Int) ≤ 1000) (hb2 : (m.length : Int) ≤ 1000) :
    Calls Tryd.prog 36 #[.slice p l.length c, .slice q m.length d] w fun e w' => e = .returned (.bool (decide (l = m))) ∧ ∃ x, w' = ext w x := by
  have H0 := Lib.hid (sameTo_zero l m)
  go_enter Tryd.func36, Tryd.ntmps36
  by_cases hlen : l.length = m.length
  all_goals
    have HL := Lib.hid hlen
    have e1 : ((l.length : Int) == (m.length : Int)) = decide (l.length = m.length) := by rw [Bool.eq_iff_iff]; simp; omega
    simp only [hlen] at e1
    clear hlen
    go_wp2_with fail
    go_loopw [5, 6] (fun s i wr => ∃ (k : Nat) (sb : Bool), k ≤ l.length ∧ i = .int .i64 k ∧ s = .bool sb ∧ Hid (sameTo l m k = sb) ∧ ∃ x, wr = ext w x) (fun _ i _ => l.length - (intOf i).toNat)
    case atStart => exact ⟨0, _, by omega, rfl, rfl, Lib.hid (by rw [H0.out]; simp [HL.out]), ext_of (Below.refl _ _)⟩
    case round =>
      obtain ⟨k, sb, hk, rfl, rfl, H, x, rfl⟩ := hrel
      clear e1
      cases sb with
      | false =>
        have HF := Lib.hid (sameTo_no H.out)
        go_wp2_with fail
        go_ret
        exact ⟨by rw [HF.out]; rfl, by (exact ext_of (by (repeat (first | (with_reducible exact Below.refl _ _) | (with_reducible assumption) | ((with_reducible refine below_ext_trans ?_ ?_ _); rotate_left; focus (((try dsimp only); repeat (first | omega | simp only [World.size_alloc, World.size_setCell, World.size_drew] | (with_reducible refine le_ext_of ?_) | (with_reducible refine le_ext_add ?_))); done)) | ((with_reducible refine Below.alloc ?_ ?_ _); rotate_left; focus (((try dsimp only); repeat (first | omega | simp only [World.size_alloc, World.size_setCell, World.size_drew] | (with_reducible refine le_ext_of ?_) | (with_reducible refine le_ext_add ?_))); done)) | ((with_reducible refine Below.setCell ?_ ?_ _); rotate_left; focus (((try dsimp only); repeat (first | omega | simp only [World.size_alloc, World.size_setCell, World.size_drew] | (with_reducible refine le_ext_of ?_) | (with_reducible refine le_ext_add ?_))); done)) | (with_reducible refine Below.drew ?_)))))⟩
      | true =>
        by_cases hlt : k < l.length
        · obtain ⟨a, ha⟩ := get_some l k hlt
          obtain ⟨b, hbm⟩ := get_some m k (by have := sameTo_len H.out; omega)
          have hlm : k < m.length := by have := sameTo_len H.out; omega
          obtain ⟨b1, o1, rfl, hb1, c1⟩ := hl k a ha
          obtain ⟨b2, o2, rfl, hb2', c2⟩ := hm k b hbm
          have HS := Lib.hid (sameTo_step H.out ha hbm)
          have hlt' : (k : Int) < (l.length : Int) := by omega
          have hlm' : (k : Int) < (m.length : Int) := by omega
          have hk0 : (0 : Int) ≤ (k : Int) := by omega
          clear H ha hbm HL H0
          go_wp2_with fail
          refine wp_region_ext (by kernel_rfl) (by kernel_rfl) ?_
          repeat (go_big_quiet_step (fail))
          (refine wpQuiet_nil ?_; rintro _ ⟨x, rfl⟩)
          go_wp2_with fail
          go_roundw
          case rel => exact ⟨k + 1, _, by omega, by go_num, rfl, Lib.hid (by rw [HS.out]; rw [Bool.eq_iff_iff]; simp), by (exact ext_of (by (repeat (first | (with_reducible exact Below.refl _ _) | (with_reducible assumption) | ((with_reducible refine below_ext_trans ?_ ?_ _); rotate_left; focus (((try dsimp only); repeat (first | omega | simp only [World.size_alloc, World.size_setCell, World.size_drew] | (with_reducible refine le_ext_of ?_) | (with_reducible refine le_ext_add ?_))); done)) | ((with_reducible refine Below.alloc ?_ ?_ _); rotate_left; focus (((try dsimp only); repeat (first | omega | simp only [World.size_alloc, World.size_setCell, World.size_drew] | (with_reducible refine le_ext_of ?_) | (with_reducible refine le_ext_add ?_))); done)) | ((with_reducible refine Below.setCell ?_ ?_ _); rotate_left; focus (((try dsimp only); repeat (first | omega | simp only [World.size_alloc, World.size_setCell, World.size_drew] | (with_reducible refine le_ext_of ?_) | (with_reducible refine le_ext_add ?_))); done)) | (with_reducible refine Below.drew ?_)))))⟩
          case measure => simp [intOf]; omega
        · have HT := Lib.hid (sameTo_end H.out (by omega))
          go_wp2_with fail
          go_ret
          exact ⟨by rw [HT.out]; rfl, by (exact ext_of (by (repeat (first | (with_reducible exact Below.refl _ _) | (with_reducible assumption) | ((with_reducible refine below_ext_trans ?_ ?_ _); rotate_left; focus (((try dsimp only); repeat (first | omega | simp only [World.size_alloc, World.size_setCell, World.size_drew] | (with_reducible refine le_ext_of ?_) | (with_reducible refine le_ext_add ?_))); done)) | ((with_reducible refine Below.alloc ?_ ?_ _); rotate_left; focus (((try dsimp only); repeat (first | omega | simp only [World.size_alloc, World.size_setCell, World.size_drew] | (with_reducible refine le_ext_of ?_) | (with_reducible refine le_ext_add ?_))); done)) | ((with_reducible refine Below.setCell ?_ ?_ _); rotate_left; focus (((try dsimp only); repeat (first | omega | simp only [World.size_alloc, World.size_setCell, World.size_drew] | (with_reducible refine le_ext_of ?_) | (with_reducible refine le_ext_add ?_))); done)) | (with_reducible refine Below.drew ?_)))))⟩
end Go.Proofs.YtdmicngnbcdkdaaDoor

namespace Go.Proofs.YtdmicngnbcdkdaaDoor
open Go Go.RowKit

theorem span_eql (c d e f : Int) (w : World) : (Go.binOp .eql 33 (.agg #[.int .i64 c, .int .i64 d]) (.agg #[.int .i64 e, .int .i64 f])).run Tryd.prog w = .ok (.bool (decide ((c, d) = (e, f)))) w := by
  by_cases h1 : c = e <;> by_cases h2 : d = f <;> simp [go_sem, h1, h2]
theorem span_neq (c d e f : Int) (w : World) : (Go.binOp .neq 33 (.agg #[.int .i64 c, .int .i64 d]) (.agg #[.int .i64 e, .int .i64 f])).run Tryd.prog w = .ok (.bool (!decide ((c, d) = (e, f)))) w := by
  by_cases h1 : c = e <;> by_cases h2 : d = f <;> simp [go_sem, h1, h2]
set_option maxHeartbeats 1000000 in
theorem SameSpans_any (p q : Option Addr) (c d : Nat) (l m : List (Int × Int)) (w : World) (hl : SpansAt w p l) (hm : SpansAt w q m) (hb : (l.length : Int) ≤ 1000) (hb2 : (m.length : Int) ≤ 1000) :
    Calls Tryd.prog 45 #[.slice p l.length c, .slice q m.length d] w fun e w' => e = .returned (.bool (decide (l = m))) ∧ ∃ x, w' = ext w x := by
  have H0 := Lib.hid (sameTo_zero l m)
  go_enter Tryd.func45, Tryd.ntmps45
  by_cases hlen : l.length = m.length
  all_goals
    have HL := Lib.hid hlen
    have e1 : ((l.length : Int) == (m.length : Int)) = decide (l.length = m.length) := by rw [Bool.eq_iff_iff]; simp; omega
    simp only [hlen] at e1
    clear hlen
    go_wp2_with fail
    go_loopw [5, 6] (fun s i wr => ∃ (k : Nat) (sb : Bool), k ≤ l.length ∧ i = .int .i64 k ∧ s = .bool sb ∧ Hid (sameTo l m k = sb) ∧ ∃ x, wr = ext w x) (fun _ i _ => l.length - (intOf i).toNat)
    case atStart => exact ⟨0, _, by omega, rfl, rfl, Lib.hid (by rw [H0.out]; simp [HL.out]), ext_of (Below.refl _ _)⟩
    case round =>
      obtain ⟨k, sb, hk, rfl, rfl, H, x, rfl⟩ := hrel
      clear e1
      cases sb with
      | false =>
        have HF := Lib.hid (sameTo_no H.out)
        go_wp2_with fail
        go_ret
        exact ⟨by rw [HF.out]; rfl, by (exact ext_of (by (repeat (first | (with_reducible exact Below.refl _ _) | (with_reducible assumption) | ((with_reducible refine below_ext_trans ?_ ?_ _); rotate_left; focus (((try dsimp only); repeat (first | omega | simp only [World.size_alloc, World.size_setCell, World.size_drew] | (with_reducible refine le_ext_of ?_) | (with_reducible refine le_ext_add ?_))); done)) | ((with_reducible refine Below.alloc ?_ ?_ _); rotate_left; focus (((try dsimp only); repeat (first | omega | simp only [World.size_alloc, World.size_setCell, World.size_drew] | (with_reducible refine le_ext_of ?_) | (with_reducible refine le_ext_add ?_))); done)) | ((with_reducible refine Below.setCell ?_ ?_ _); rotate_left; focus (((try dsimp only); repeat (first | omega | simp only [World.size_alloc, World.size_setCell, World.size_drew] | (with_reducible refine le_ext_of ?_) | (with_reducible refine le_ext_add ?_))); done)) | (with_reducible refine Below.drew ?_)))))⟩
      | true =>
        by_cases hlt : k < l.length
        · obtain ⟨⟨a, a'⟩, ha⟩ := get_some l k hlt
          obtain ⟨⟨b, b'⟩, hbm⟩ := get_some m k (by have := sameTo_len H.out; omega)
          have hlm : k < m.length := by have := sameTo_len H.out; omega
          obtain ⟨b1, o1, rfl, hb1, c1, c1'⟩ := hl k _ ha
          obtain ⟨b2, o2, rfl, hb2', c2, c2'⟩ := hm k _ hbm
          dsimp only at c1 c1' c2 c2'
          have HS := Lib.hid (sameTo_step H.out ha hbm)
          have hlt' : (k : Int) < (l.length : Int) := by omega
          have hlm' : (k : Int) < (m.length : Int) := by omega
          have hk0 : (0 : Int) ≤ (k : Int) := by omega
          clear H ha hbm HL H0
          have heq : ∀ w, (Go.binOp .eql 33 (.agg #[.int .i64 a, .int .i64 a']) (.agg #[.int .i64 b, .int .i64 b'])).run Tryd.prog w = .ok (.bool (decide ((a, a') = (b, b')))) w := span_eql a a' b b'
          go_wp2_with fail
          refine wp_region_ext (by kernel_rfl) (by kernel_rfl) ?_
          repeat (go_big_quiet_step (fail))
          (refine wpQuiet_nil ?_; rintro _ ⟨x, rfl⟩)
          go_wp2_with fail
          go_roundw
          case rel => exact ⟨k + 1, _, by omega, by go_num, rfl, Lib.hid (by rw [HS.out]; simp [Bool.decide_and]), by (exact ext_of (by (repeat (first | (with_reducible exact Below.refl _ _) | (with_reducible assumption) | ((with_reducible refine below_ext_trans ?_ ?_ _); rotate_left; focus (((try dsimp only); repeat (first | omega | simp only [World.size_alloc, World.size_setCell, World.size_drew] | (with_reducible refine le_ext_of ?_) | (with_reducible refine le_ext_add ?_))); done)) | ((with_reducible refine Below.alloc ?_ ?_ _); rotate_left; focus (((try dsimp only); repeat (first | omega | simp only [World.size_alloc, World.size_setCell, World.size_drew] | (with_reducible refine le_ext_of ?_) | (with_reducible refine le_ext_add ?_))); done)) | ((with_reducible refine Below.setCell ?_ ?_ _); rotate_left; focus (((try dsimp only); repeat (first | omega | simp only [World.size_alloc, World.size_setCell, World.size_drew] | (with_reducible refine le_ext_of ?_) | (with_reducible refine le_ext_add ?_))); done)) | (with_reducible refine Below.drew ?_)))))⟩
          case measure => simp [intOf]; omega
        · have HT := Lib.hid (sameTo_end H.out (by omega))
          go_wp2_with fail
          go_ret
          exact ⟨by rw [HT.out]; rfl, by (exact ext_of (by (repeat (first | (with_reducible exact Below.refl _ _) | (with_reducible assumption) | ((with_reducible refine below_ext_trans ?_ ?_ _); rotate_left; focus (((try dsimp only); repeat (first | omega | simp only [World.size_alloc, World.size_setCell, World.size_drew] | (with_reducible refine le_ext_of ?_) | (with_reducible refine le_ext_add ?_))); done)) | ((with_reducible refine Below.alloc ?_ ?_ _); rotate_left; focus (((try dsimp only); repeat (first | omega | simp only [World.size_alloc, World.size_setCell, World.size_drew] | (with_reducible refine le_ext_of ?_) | (with_reducible refine le_ext_add ?_))); done)) | ((with_reducible refine Below.setCell ?_ ?_ _); rotate_left; focus (((try dsimp only); repeat (first | omega | simp only [World.size_alloc, World.size_setCell, World.size_drew] | (with_reducible refine le_ext_of ?_) | (with_reducible refine le_ext_add ?_))); done)) | (with_reducible refine Below.drew ?_)))))⟩
end Go.Proofs.YtdmicngnbcdkdaaDoor

