/- Contracts of learn's closure, winner. -/
import Derived.Test.YtkmjfmppeedaoaaDoorQUb
import Derived.Deep.DeepCutAuto
set_option linter.unusedSimpArgs false
set_option linter.unusedVariables false
namespace Go.Proofs.YtkmjfmppeedaoaaDoor
open Go Go.RowKit Go.Maps

theorem four_cases {k : Nat} (h : k < 4) : k = 0 ∨ k = 1 ∨ k = 2 ∨ k = 3 := by omega

set_option maxHeartbeats 1000000 in
theorem learn1_any (g i j : Nat) (l0 l1 l2 l3 : Int) (w : World) (hi : i < 4) (hj : j < 4) (hg : g < w.heap.size) (c0 : w.cell? ⟨g, 0, none⟩ = some (.int .i64 l0)) (c1 : w.cell? ⟨g, 1, none⟩ = some (.int .i64 l1)) (c2 : w.cell? ⟨g, 2, none⟩ = some (.int .i64 l2)) (c3 : w.cell? ⟨g, 3, none⟩ = some (.int .i64 l3)) :
    Calls Tryd.prog 81 #[.int .i64 i, .int .i64 j, .pointer (some ⟨g, 0, none⟩)] w fun e w' => e = .returned (.bool (decide ([l0, l1, l2, l3].getD i 0 < [l0, l1, l2, l3].getD j 0))) ∧ ∃ x, w' = ext w x := by
  rcases four_cases hi with rfl | rfl | rfl | rfl <;> rcases four_cases hj with rfl | rfl | rfl | rfl
  all_goals
    go_enter Tryd.func81, Tryd.ntmps81
    go_wp2_with fail
    refine wp_region_ext (by kernel_rfl) (by kernel_rfl) ?_
    repeat (go_big_quiet_step (fail))
    (refine wpQuiet_nil ?_; rintro _ ⟨x, rfl⟩)
    go_wp2_with fail
    go_ret
    exact ⟨by first | rfl | simp, by (exact ext_of (by (repeat (first | (with_reducible exact Below.refl _ _) | (with_reducible assumption) | ((with_reducible refine below_ext_trans ?_ ?_ _); rotate_left; focus (((try dsimp only); repeat (first | omega | simp only [World.size_alloc, World.size_setCell, World.size_drew] | (with_reducible refine le_ext_of ?_) | (with_reducible refine le_ext_add ?_))); done)) | ((with_reducible refine Below.alloc ?_ ?_ _); rotate_left; focus (((try dsimp only); repeat (first | omega | simp only [World.size_alloc, World.size_setCell, World.size_drew] | (with_reducible refine le_ext_of ?_) | (with_reducible refine le_ext_add ?_))); done)) | ((with_reducible refine Below.setCell ?_ ?_ _); rotate_left; focus (((try dsimp only); repeat (first | omega | simp only [World.size_alloc, World.size_setCell, World.size_drew] | (with_reducible refine le_ext_of ?_) | (with_reducible refine le_ext_add ?_))); done)) | (with_reducible refine Below.drew ?_)))))⟩

/-- The first of the best of so many things. -/
def winStep (lt : Nat → Nat → Bool) (best n : Nat) : Nat := if lt n best then n else best
def winN (lt : Nat → Nat → Bool) (n : Nat) : Nat := (List.range n).foldl (winStep lt) 0
theorem winN_succ (lt : Nat → Nat → Bool) (n : Nat) : winN lt (n + 1) = winStep lt (winN lt n) n := by simp [winN, List.range_succ]
theorem winN_lt (lt : Nat → Nat → Bool) (n : Nat) (h : 0 < n) : winN lt n < n := by
  induction n with
  | zero => omega
  | succ n ih =>
    rw [winN_succ]; unfold winStep; split
    · omega
    · rcases Nat.eq_zero_or_pos n with rfl | h'
      · simp [winN]
      · have := ih h'; omega
theorem winN_le (lt : Nat → Nat → Bool) (n : Nat) (m : Nat) (h : n ≤ m) (hm : 0 < m) : winN lt n < m := by
  rcases Nat.eq_zero_or_pos n with rfl | h'
  · simpa [winN] using hm
  · have := winN_lt lt n h'; omega

set_option maxHeartbeats 1000000 in
theorem winner_any (f : FuncId) (fb : Array Value) (lt : Nat → Nat → Bool) (n : Nat) (w : World) (hn : (n : Int) ≤ 1000)
    (hf : ∀ args w, (callFunc f args).run Tryd.prog w = .ok (.enter f args) w)
    (his : ∀ i j : Nat, i < n → j < n → ∀ W' : World, Below w.heap.size w W' → Calls Tryd.prog f (#[.int .i64 i, .int .i64 j] ++ fb) W' fun e w' => e = .returned (.bool (lt i j)) ∧ ∃ x, w' = ext W' x) :
    Calls Tryd.prog 82 #[.agg #[.func (.func f) #[] fb], .int .i64 n] w fun e w' => e = .returned (.int .i64 (winN lt n)) ∧ ∃ x, w' = ext w x := by
  have HIS := Lib.hid his
  clear his
  go_enter Tryd.func82, Tryd.ntmps82
  go_wp2_with fail
  generalize hW : w.alloc _ = W
  have hWB : Below w.heap.size w W := by rw [← hW]; (repeat (first | (with_reducible exact Below.refl _ _) | (with_reducible assumption) | ((with_reducible refine below_ext_trans ?_ ?_ _); rotate_left; focus (((try dsimp only); repeat (first | omega | simp only [World.size_alloc, World.size_setCell, World.size_drew] | (with_reducible refine le_ext_of ?_) | (with_reducible refine le_ext_add ?_))); done)) | ((with_reducible refine Below.alloc ?_ ?_ _); rotate_left; focus (((try dsimp only); repeat (first | omega | simp only [World.size_alloc, World.size_setCell, World.size_drew] | (with_reducible refine le_ext_of ?_) | (with_reducible refine le_ext_add ?_))); done)) | ((with_reducible refine Below.setCell ?_ ?_ _); rotate_left; focus (((try dsimp only); repeat (first | omega | simp only [World.size_alloc, World.size_setCell, World.size_drew] | (with_reducible refine le_ext_of ?_) | (with_reducible refine le_ext_add ?_))); done)) | (with_reducible refine Below.drew ?_)))
  have kb1 : Blk W w.heap.size 119 #[.func (.func f) #[] fb] := by rw [← hW]; exact Blk.new rfl
  have HW := Lib.hid hWB
  have KB1 := Lib.hid kb1
  have hWs : w.heap.size ≤ W.heap.size := hWB.size
  clear hW hWB kb1
  go_loopw [5, 6, 8] (fun q _ i wr => ∃ k : Nat, k ≤ n ∧ i = .int .i64 k ∧ q = .int .i64 (winN lt k) ∧ Hid (Below W.heap.size W wr)) (fun _ _ i _ => n - (intOf i).toNat)
  case atStart => exact ⟨0, by omega, rfl, rfl, Lib.hid (Below.refl _ _)⟩
  case round =>
    obtain ⟨k, hkl, rfl, rfl, HB⟩ := hrel
    by_cases hlt : k < n
    · have kb1 : Blk wr w.heap.size 119 #[.func (.func f) #[] fb] := (HB.out.block _ KB1.out.lt).trans KB1.out
      have hl1 := kb1.lt
      have d0 := kb1.cell 0
      simp only [List.size_toArray, List.length_cons, List.length_nil, Nat.reduceAdd, Nat.reduceLT, getElem?_pos, List.getElem_toArray, List.getElem_cons_zero, List.getElem_cons_succ] at d0
      have hzr : W.heap.size ≤ wr.heap.size := HB.out.size
      have HC := Lib.hid (HIS.out k (winN lt k) hlt (winN_le lt k n hkl (by omega)) wr (HW.out.trans (HB.out.mono hWs)))
      clear kb1
      by_cases hj : lt k (winN lt k) = true
      · have HU := Lib.hid (show winN lt (k + 1) = k by rw [winN_succ, winStep, if_pos hj])
        go_wp2_with (refine (HC.out).mono ?_; rintro e w' ⟨rfl, y, rfl⟩)
        go_roundw
        case rel => exact ⟨k + 1, by omega, by go_num, by rw [HU.out], Lib.hid (by have hB := HB.out; (repeat (first | (with_reducible exact Below.refl _ _) | (with_reducible assumption) | ((with_reducible refine below_ext_trans ?_ ?_ _); rotate_left; focus (((try dsimp only); repeat (first | omega | simp only [World.size_alloc, World.size_setCell, World.size_drew] | (with_reducible refine le_ext_of ?_) | (with_reducible refine le_ext_add ?_))); done)) | ((with_reducible refine Below.alloc ?_ ?_ _); rotate_left; focus (((try dsimp only); repeat (first | omega | simp only [World.size_alloc, World.size_setCell, World.size_drew] | (with_reducible refine le_ext_of ?_) | (with_reducible refine le_ext_add ?_))); done)) | ((with_reducible refine Below.setCell ?_ ?_ _); rotate_left; focus (((try dsimp only); repeat (first | omega | simp only [World.size_alloc, World.size_setCell, World.size_drew] | (with_reducible refine le_ext_of ?_) | (with_reducible refine le_ext_add ?_))); done)) | (with_reducible refine Below.drew ?_))))⟩
        case measure => simp [intOf]; omega
      · have HU := Lib.hid (show winN lt (k + 1) = winN lt k by rw [winN_succ, winStep, if_neg hj])
        have hj : lt k (winN lt k) = false := by simpa using hj
        go_wp2_with (refine (HC.out).mono ?_; rintro e w' ⟨rfl, y, rfl⟩)
        go_roundw
        case rel => exact ⟨k + 1, by omega, by go_num, by rw [HU.out], Lib.hid (by have hB := HB.out; (repeat (first | (with_reducible exact Below.refl _ _) | (with_reducible assumption) | ((with_reducible refine below_ext_trans ?_ ?_ _); rotate_left; focus (((try dsimp only); repeat (first | omega | simp only [World.size_alloc, World.size_setCell, World.size_drew] | (with_reducible refine le_ext_of ?_) | (with_reducible refine le_ext_add ?_))); done)) | ((with_reducible refine Below.alloc ?_ ?_ _); rotate_left; focus (((try dsimp only); repeat (first | omega | simp only [World.size_alloc, World.size_setCell, World.size_drew] | (with_reducible refine le_ext_of ?_) | (with_reducible refine le_ext_add ?_))); done)) | ((with_reducible refine Below.setCell ?_ ?_ _); rotate_left; focus (((try dsimp only); repeat (first | omega | simp only [World.size_alloc, World.size_setCell, World.size_drew] | (with_reducible refine le_ext_of ?_) | (with_reducible refine le_ext_add ?_))); done)) | (with_reducible refine Below.drew ?_))))⟩
        case measure => simp [intOf]; omega
    · obtain rfl : k = n := by omega
      go_wp2_with fail
      go_ret
      exact ⟨rfl, ext_of (HW.out.trans (HB.out.mono hWs))⟩
end Go.Proofs.YtkmjfmppeedaoaaDoor

