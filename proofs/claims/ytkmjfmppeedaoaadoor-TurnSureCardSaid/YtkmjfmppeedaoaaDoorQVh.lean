/- Contract of Learn, for a book that is one. -/
import Derived.Test.YtkmjfmppeedaoaaDoorQUj
import Derived.Test.YtkmjfmppeedaoaaDoorQTn
import Derived.Test.YtkmjfmppeedaoaaDoorQTo
import Derived.Laws.StructEq
import Derived.ChangeKeysEq
set_option linter.unusedSimpArgs false
set_option linter.unusedVariables false
namespace Go.Proofs.YtkmjfmppeedaoaaDoor
open Go Go.RowKit Go.Maps

theorem under_truth : Tryd.prog.underlying 78 = some (.array 4 3) := by kernel_rfl
theorem truth_eql (a b c d e f g h : Int) (w : World) : (Go.binOp .eql 78 (.agg #[.int .i64 a, .int .i64 b, .int .i64 c, .int .i64 d]) (.agg #[.int .i64 e, .int .i64 f, .int .i64 g, .int .i64 h])).run Tryd.prog w = .ok (.bool (a == e && (b == f && (c == g && d == h)))) w := by
  obtain ⟨i, hi⟩ : ∃ i, Tryd.prog.info? 3 = some i := by
    have := info_int
    cases h : Tryd.prog.info? 3 with
    | none => rw [h] at this; cases this
    | some i => exact ⟨i, rfl⟩
  have hc : Tryd.prog.cellsOf 3 = 1 := by kernel_rfl
  rw [run_eql_struct, show (10000 : Nat) = 9999 + 1 from rfl, run_equalIn_array w 9999 _ _ under_truth hi, hc, show List.range 4 = [0, 1, 2, 3] from rfl]
  by_cases h1 : a = e <;> by_cases h2 : b = f <;> by_cases h3 : c = g <;> by_cases h4 : d = h <;> simp [go_sem, Op.eqItems, h1, h2, h3, h4]
theorem kspec_real {b : Bk} (hv : bookB b = true) (hne : b.bs ≠ []) : (kspec b.bs 2 0 0 == 1440) = false := by
  obtain ⟨s, l, hl⟩ := List.exists_cons_of_ne_nil hne
  have h3 := (bookB_bounds hv).2.2
  rw [hl] at h3
  simp only [chainB, Bool.and_eq_true] at h3
  have hm := momB_iff.1 h3.1.1
  unfold Mom at hm
  rw [kspec2 _ _ (by omega), hl]
  simp [padv]
  omega
set_option maxHeartbeats 4000000 in
theorem Learn_yes (h : Hd) (b : Bk) (w : World) (hb : BkAt w h b) (hv : bookB b = true) (hn : NB w) (hcap : b.bs.length ≤ h.cb) (hne : b.bs ≠ []) :
    Calls Tryd.prog 38 #[.agg #[.int .i64 b.n, .slice h.pb b.bs.length h.cb, .slice h.po b.os.length h.co, .slice h.ps b.ss.length h.cs]] w fun e w' => e = .returned (.tuple #[.int .i64 (learnN b), .int .i64 0]) ∧ ∃ x, w' = ext w x := by
  have HB := Lib.hid hb
  have HN := Lib.hid hn
  have hz := kspec_real hv hne
  have heq : ∀ a b c d e f g h : Int, ∀ w, (Go.binOp .eql 78 (.agg #[.int .i64 a, .int .i64 b, .int .i64 c, .int .i64 d]) (.agg #[.int .i64 e, .int .i64 f, .int .i64 g, .int .i64 h])).run Tryd.prog w = .ok (.bool (a == e && (b == f && (c == g && d == h)))) w := truth_eql
  obtain ⟨sz, g0, g1, g2, g3⟩ := hn
  have HC := Lib.hid hcap
  clear hb hcap hne
  go_enter Tryd.func38, Tryd.ntmps38
  go_wp2_with (first
    | (go_at_call 47; refine (open_yes _ _ _ (HB.out.below (by (repeat (first | (with_reducible exact Below.refl _ _) | (with_reducible assumption) | ((with_reducible refine below_ext_trans ?_ ?_ _); rotate_left; focus (((try dsimp only); repeat (first | omega | simp only [World.size_alloc, World.size_setCell, World.size_drew] | (with_reducible refine le_ext_of ?_) | (with_reducible refine le_ext_add ?_))); done)) | ((with_reducible refine Below.alloc ?_ ?_ _); rotate_left; focus (((try dsimp only); repeat (first | omega | simp only [World.size_alloc, World.size_setCell, World.size_drew] | (with_reducible refine le_ext_of ?_) | (with_reducible refine le_ext_add ?_))); done)) | ((with_reducible refine Below.setCell ?_ ?_ _); rotate_left; focus (((try dsimp only); repeat (first | omega | simp only [World.size_alloc, World.size_setCell, World.size_drew] | (with_reducible refine le_ext_of ?_) | (with_reducible refine le_ext_add ?_))); done)) | (with_reducible refine Below.drew ?_))))) hv (HN.out.below (by (repeat (first | (with_reducible exact Below.refl _ _) | (with_reducible assumption) | ((with_reducible refine below_ext_trans ?_ ?_ _); rotate_left; focus (((try dsimp only); repeat (first | omega | simp only [World.size_alloc, World.size_setCell, World.size_drew] | (with_reducible refine le_ext_of ?_) | (with_reducible refine le_ext_add ?_))); done)) | ((with_reducible refine Below.alloc ?_ ?_ _); rotate_left; focus (((try dsimp only); repeat (first | omega | simp only [World.size_alloc, World.size_setCell, World.size_drew] | (with_reducible refine le_ext_of ?_) | (with_reducible refine le_ext_add ?_))); done)) | ((with_reducible refine Below.setCell ?_ ?_ _); rotate_left; focus (((try dsimp only); repeat (first | omega | simp only [World.size_alloc, World.size_setCell, World.size_drew] | (with_reducible refine le_ext_of ?_) | (with_reducible refine le_ext_add ?_))); done)) | (with_reducible refine Below.drew ?_)))))).mono ?_; rintro e w' ⟨B, rfl, hok, y, rfl⟩; have HOK := Lib.hid hok; clear hok)
    | (go_at_call 63; refine (learn_any h b B _ (HOK.out.below (by (repeat (first | (with_reducible exact Below.refl _ _) | (with_reducible assumption) | ((with_reducible refine below_ext_trans ?_ ?_ _); rotate_left; focus (((try dsimp only); repeat (first | omega | simp only [World.size_alloc, World.size_setCell, World.size_drew] | (with_reducible refine le_ext_of ?_) | (with_reducible refine le_ext_add ?_))); done)) | ((with_reducible refine Below.alloc ?_ ?_ _); rotate_left; focus (((try dsimp only); repeat (first | omega | simp only [World.size_alloc, World.size_setCell, World.size_drew] | (with_reducible refine le_ext_of ?_) | (with_reducible refine le_ext_add ?_))); done)) | ((with_reducible refine Below.setCell ?_ ?_ _); rotate_left; focus (((try dsimp only); repeat (first | omega | simp only [World.size_alloc, World.size_setCell, World.size_drew] | (with_reducible refine le_ext_of ?_) | (with_reducible refine le_ext_add ?_))); done)) | (with_reducible refine Below.drew ?_))))) (HN.out.below (by (repeat (first | (with_reducible exact Below.refl _ _) | (with_reducible assumption) | ((with_reducible refine below_ext_trans ?_ ?_ _); rotate_left; focus (((try dsimp only); repeat (first | omega | simp only [World.size_alloc, World.size_setCell, World.size_drew] | (with_reducible refine le_ext_of ?_) | (with_reducible refine le_ext_add ?_))); done)) | ((with_reducible refine Below.alloc ?_ ?_ _); rotate_left; focus (((try dsimp only); repeat (first | omega | simp only [World.size_alloc, World.size_setCell, World.size_drew] | (with_reducible refine le_ext_of ?_) | (with_reducible refine le_ext_add ?_))); done)) | ((with_reducible refine Below.setCell ?_ ?_ _); rotate_left; focus (((try dsimp only); repeat (first | omega | simp only [World.size_alloc, World.size_setCell, World.size_drew] | (with_reducible refine le_ext_of ?_) | (with_reducible refine le_ext_add ?_))); done)) | (with_reducible refine Below.drew ?_))))) HC.out).mono ?_; rintro e w' ⟨rfl, z, rfl⟩))
  go_ret2
  exact ⟨rfl, by (exact ext_of (by (repeat (first | (with_reducible exact Below.refl _ _) | (with_reducible assumption) | ((with_reducible refine below_ext_trans ?_ ?_ _); rotate_left; focus (((try dsimp only); repeat (first | omega | simp only [World.size_alloc, World.size_setCell, World.size_drew] | (with_reducible refine le_ext_of ?_) | (with_reducible refine le_ext_add ?_))); done)) | ((with_reducible refine Below.alloc ?_ ?_ _); rotate_left; focus (((try dsimp only); repeat (first | omega | simp only [World.size_alloc, World.size_setCell, World.size_drew] | (with_reducible refine le_ext_of ?_) | (with_reducible refine le_ext_add ?_))); done)) | ((with_reducible refine Below.setCell ?_ ?_ _); rotate_left; focus (((try dsimp only); repeat (first | omega | simp only [World.size_alloc, World.size_setCell, World.size_drew] | (with_reducible refine le_ext_of ?_) | (with_reducible refine le_ext_add ?_))); done)) | (with_reducible refine Below.drew ?_)))))⟩
end Go.Proofs.YtkmjfmppeedaoaaDoor

