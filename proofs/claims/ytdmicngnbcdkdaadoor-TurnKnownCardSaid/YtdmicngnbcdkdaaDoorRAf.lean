/- Contracts of Learn on what is no book, and on a book without bounds; plain facts: the first of the least. -/
import Derived.Test.YtdmicngnbcdkdaaDoorRYv
import Derived.Test.YtdmicngnbcdkdaaDoorRVe
set_option linter.unusedSimpArgs false
set_option linter.unusedVariables false
namespace Go.Proofs.YtdmicngnbcdkdaaDoor
open Go Go.RowKit

set_option maxHeartbeats 4000000 in
theorem Learn_bad (h : Hd) (b : Bk) (w : World) (hb : BkAt w h b) (hv : bookB b = false) :
    Calls Tryd.prog 38 #[.agg #[.int .i64 b.n, .slice h.pb b.bs.length h.cb, .slice h.po b.os.length h.co, .slice h.ps b.ss.length h.cs]] w fun e w' => e = .returned (.tuple #[.int .i64 0, .int .i64 20]) ∧ ∃ x, w' = ext w x := by
  have HB := Lib.hid hb
  clear hb
  go_enter Tryd.func38, Tryd.ntmps38
  go_wp2_with (go_at_call 47; refine (open_bad _ _ _ _ (HB.out.below (by (repeat (first | (with_reducible exact Below.refl _ _) | (with_reducible assumption) | ((with_reducible refine below_ext_trans ?_ ?_ _); rotate_left; focus (((try dsimp only); repeat (first | omega | simp only [World.size_alloc, World.size_setCell, World.size_drew] | (with_reducible refine le_ext_of ?_) | (with_reducible refine le_ext_add ?_))); done)) | ((with_reducible refine Below.alloc ?_ ?_ _); rotate_left; focus (((try dsimp only); repeat (first | omega | simp only [World.size_alloc, World.size_setCell, World.size_drew] | (with_reducible refine le_ext_of ?_) | (with_reducible refine le_ext_add ?_))); done)) | ((with_reducible refine Below.setCell ?_ ?_ _); rotate_left; focus (((try dsimp only); repeat (first | omega | simp only [World.size_alloc, World.size_setCell, World.size_drew] | (with_reducible refine le_ext_of ?_) | (with_reducible refine le_ext_add ?_))); done)) | (with_reducible refine Below.drew ?_))))) hv).mono ?_; rintro e w' ⟨rfl, y, rfl⟩)
  go_ret2
  exact ⟨rfl, by (exact ext_of (by (repeat (first | (with_reducible exact Below.refl _ _) | (with_reducible assumption) | ((with_reducible refine below_ext_trans ?_ ?_ _); rotate_left; focus (((try dsimp only); repeat (first | omega | simp only [World.size_alloc, World.size_setCell, World.size_drew] | (with_reducible refine le_ext_of ?_) | (with_reducible refine le_ext_add ?_))); done)) | ((with_reducible refine Below.alloc ?_ ?_ _); rotate_left; focus (((try dsimp only); repeat (first | omega | simp only [World.size_alloc, World.size_setCell, World.size_drew] | (with_reducible refine le_ext_of ?_) | (with_reducible refine le_ext_add ?_))); done)) | ((with_reducible refine Below.setCell ?_ ?_ _); rotate_left; focus (((try dsimp only); repeat (first | omega | simp only [World.size_alloc, World.size_setCell, World.size_drew] | (with_reducible refine le_ext_of ?_) | (with_reducible refine le_ext_add ?_))); done)) | (with_reducible refine Below.drew ?_)))))⟩
theorem kspec_none (j : Nat) (hj : j < 8) : kspec [] 2 0 j = 1440 := by
  rcases (show j = 0 ∨ j = 1 ∨ j = 2 ∨ j = 3 ∨ j = 4 ∨ j = 5 ∨ j = 6 ∨ j = 7 by omega) with rfl | rfl | rfl | rfl | rfl | rfl | rfl | rfl <;> decide
set_option maxHeartbeats 4000000 in
theorem Learn_none (h : Hd) (b : Bk) (w : World) (hb : BkAt w h b) (hv : bookB b = true) (hn : NB w) (hne : b.bs = []) :
    Calls Tryd.prog 38 #[.agg #[.int .i64 b.n, .slice h.pb b.bs.length h.cb, .slice h.po b.os.length h.co, .slice h.ps b.ss.length h.cs]] w fun e w' => e = .returned (.tuple #[.int .i64 0, .int .i64 4]) ∧ ∃ x, w' = ext w x := by
  have HB := Lib.hid hb
  have HN := Lib.hid hn
  have z0 : kspec b.bs 2 0 0 = 1440 := by rw [hne]; exact kspec_none 0 (by omega)
  have z1 : kspec b.bs 2 0 1 = 1440 := by rw [hne]; exact kspec_none 1 (by omega)
  have z2 : kspec b.bs 2 0 2 = 1440 := by rw [hne]; exact kspec_none 2 (by omega)
  have z3 : kspec b.bs 2 0 3 = 1440 := by rw [hne]; exact kspec_none 3 (by omega)
  have heq : ∀ a b c d e f g h : Int, ∀ w, (Go.binOp .eql 78 (.agg #[.int .i64 a, .int .i64 b, .int .i64 c, .int .i64 d]) (.agg #[.int .i64 e, .int .i64 f, .int .i64 g, .int .i64 h])).run Tryd.prog w = .ok (.bool (a == e && (b == f && (c == g && d == h)))) w := truth_eql
  obtain ⟨sz, g0, g1, g2, g3⟩ := hn
  clear hb hne
  go_enter Tryd.func38, Tryd.ntmps38
  go_wp2_with (go_at_call 47; refine (open_yes _ _ _ (HB.out.below (by (repeat (first | (with_reducible exact Below.refl _ _) | (with_reducible assumption) | ((with_reducible refine below_ext_trans ?_ ?_ _); rotate_left; focus (((try dsimp only); repeat (first | omega | simp only [World.size_alloc, World.size_setCell, World.size_drew] | (with_reducible refine le_ext_of ?_) | (with_reducible refine le_ext_add ?_))); done)) | ((with_reducible refine Below.alloc ?_ ?_ _); rotate_left; focus (((try dsimp only); repeat (first | omega | simp only [World.size_alloc, World.size_setCell, World.size_drew] | (with_reducible refine le_ext_of ?_) | (with_reducible refine le_ext_add ?_))); done)) | ((with_reducible refine Below.setCell ?_ ?_ _); rotate_left; focus (((try dsimp only); repeat (first | omega | simp only [World.size_alloc, World.size_setCell, World.size_drew] | (with_reducible refine le_ext_of ?_) | (with_reducible refine le_ext_add ?_))); done)) | (with_reducible refine Below.drew ?_))))) hv (HN.out.below (by (repeat (first | (with_reducible exact Below.refl _ _) | (with_reducible assumption) | ((with_reducible refine below_ext_trans ?_ ?_ _); rotate_left; focus (((try dsimp only); repeat (first | omega | simp only [World.size_alloc, World.size_setCell, World.size_drew] | (with_reducible refine le_ext_of ?_) | (with_reducible refine le_ext_add ?_))); done)) | ((with_reducible refine Below.alloc ?_ ?_ _); rotate_left; focus (((try dsimp only); repeat (first | omega | simp only [World.size_alloc, World.size_setCell, World.size_drew] | (with_reducible refine le_ext_of ?_) | (with_reducible refine le_ext_add ?_))); done)) | ((with_reducible refine Below.setCell ?_ ?_ _); rotate_left; focus (((try dsimp only); repeat (first | omega | simp only [World.size_alloc, World.size_setCell, World.size_drew] | (with_reducible refine le_ext_of ?_) | (with_reducible refine le_ext_add ?_))); done)) | (with_reducible refine Below.drew ?_)))))).mono ?_; rintro e w' ⟨B, rfl, hok, y, rfl⟩; have HOK := Lib.hid hok; clear hok; try rw [z0, z1, z2, z3])
  go_ret2
  exact ⟨rfl, by (exact ext_of (by (repeat (first | (with_reducible exact Below.refl _ _) | (with_reducible assumption) | ((with_reducible refine below_ext_trans ?_ ?_ _); rotate_left; focus (((try dsimp only); repeat (first | omega | simp only [World.size_alloc, World.size_setCell, World.size_drew] | (with_reducible refine le_ext_of ?_) | (with_reducible refine le_ext_add ?_))); done)) | ((with_reducible refine Below.alloc ?_ ?_ _); rotate_left; focus (((try dsimp only); repeat (first | omega | simp only [World.size_alloc, World.size_setCell, World.size_drew] | (with_reducible refine le_ext_of ?_) | (with_reducible refine le_ext_add ?_))); done)) | ((with_reducible refine Below.setCell ?_ ?_ _); rotate_left; focus (((try dsimp only); repeat (first | omega | simp only [World.size_alloc, World.size_setCell, World.size_drew] | (with_reducible refine le_ext_of ?_) | (with_reducible refine le_ext_add ?_))); done)) | (with_reducible refine Below.drew ?_)))))⟩

theorem setB_known {b : Bk} {k : Nat} (m : Int) (hk : k < b.bs.length) : setB b k m = knownBk b k m := by
  unfold setB knownBk
  rw [List.set_eq_take_append_cons_drop, if_pos hk]
  simp
theorem undB_kind {X : Bk} {i : Nat} {s : Shot} (hs : X.ss[i]? = some s) {st : Nat} (hst : s.st = st) {K : Int} (hK : kindOf (fun t => ownf X.os st t == s.co) (seg (cnt (lateL X.bs) s.lo) (cnt (soonL X.bs) s.hi)) = K) : undB X i = (K == 1) := by
  unfold undB
  rw [hs]
  dsimp only
  unfold jk
  have e : s.st.toNat = st := by rw [hst]; rfl
  rw [e, hK]
theorem undN_next {X : Bk} {i : Nat} {K : Int} (h : undB X i = (K == 1)) : undN X (i + 1) = undN X i + if K = 1 then 1 else 0 := by
  by_cases hk : K = 1
  · rw [if_pos hk]; exact undN_yes (by rw [h, hk]; rfl)
  · rw [if_neg hk]; exact undN_no (by rw [h]; simpa using hk)
theorem worst_le {b : Bk} {k : Nat} : ∀ (ms : List Int), worst b k ms ≤ (b.ss.length : Int) ∧ 0 ≤ worst b k ms := by
  intro ms
  unfold worst
  suffices H : ∀ x : Int, 0 ≤ x → x ≤ (b.ss.length : Int) → ms.foldl (fun x m => max x (undM b k m)) x ≤ (b.ss.length : Int) ∧ 0 ≤ ms.foldl (fun x m => max x (undM b k m)) x from H 0 (by omega) (by omega)
  induction ms with
  | nil => intro x h1 h2; exact ⟨h2, h1⟩
  | cons m ms ih =>
    intro x h1 h2
    have h3 : undM b k m ≤ (b.ss.length : Int) := by unfold undM; have := undN_le (setB b k m) b.ss.length; omega
    exact ih _ (by dsimp only; omega) (by dsimp only; omega)
theorem wk_le (b : Bk) (k : Nat) : wk b k ≤ (b.ss.length : Int) ∧ 0 ≤ wk b k := by
  unfold wk
  split
  · exact worst_le _
  · omega
theorem winN_best (f : Nat → Int) : ∀ n, 0 < n → ∀ j, j < n → f (winN (fun i j => decide (f i < f j)) n) < f j ∨ f (winN (fun i j => decide (f i < f j)) n) = f j ∧ winN (fun i j => decide (f i < f j)) n ≤ j
  | n + 1, _, j, hj => by
    rw [winN_succ]
    unfold winStep
    rcases Nat.eq_zero_or_pos n with rfl | hn
    · obtain rfl : j = 0 := by omega
      simp [winN]
    · have ih := winN_best f n hn
      have hl := winN_lt (fun i j => decide (f i < f j)) n hn
      generalize winN (fun i j => decide (f i < f j)) n = q at *
      by_cases h : f n < f q
      · rw [if_pos (by simpa using h)]
        by_cases hjn : j = n
        · subst hjn; right; exact ⟨rfl, Nat.le_refl _⟩
        · left
          rcases ih j (by omega) with h1 | ⟨h1, _⟩ <;> omega
      · rw [if_neg (by simpa using h)]
        by_cases hjn : j = n
        · subst hjn
          rcases (show f q < f j ∨ f q = f j by omega) with h1 | h1
          · exact .inl h1
          · exact .inr ⟨h1, by omega⟩
        · exact ih j (by omega)
theorem lk_wk {b : Bk} (h4 : b.bs.length ≤ 4) {i : Nat} (hi : i < b.bs.length) : (lkL b).getD i 0 = wk b i := by
  unfold lkL
  rcases (show i = 0 ∨ i = 1 ∨ i = 2 ∨ i = 3 by omega) with rfl | rfl | rfl | rfl <;> simp [lk, hi]
/-- With the bound that is told no more shots are undecided, at the worst, than with any other one, nor as many if that comes before it. -/
theorem learn_best {b : Bk} (h4 : b.bs.length ≤ 4) (hn : 0 < b.bs.length) : learnN b < b.bs.length ∧ ∀ j, j < b.bs.length → wk b (learnN b) < wk b j ∨ wk b (learnN b) = wk b j ∧ learnN b ≤ j := by
  have h1 : learnN b < b.bs.length := winN_lt _ _ hn
  refine ⟨h1, fun j hj => ?_⟩
  have h2 := winN_best (fun i => (lkL b).getD i 0) b.bs.length hn j hj
  rw [← lk_wk h4 h1, ← lk_wk h4 hj]
  exact h2
end Go.Proofs.YtdmicngnbcdkdaaDoor

