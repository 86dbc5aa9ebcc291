/- Contracts of Learn on what is no book, and on a book without bounds; plain facts: the first of the least. -/
/- Contract of undecided: how many shots are fair in some truths and not in others, at the worst. -/
/- TurnLearn's walk. -/
import Derived.Test.YtmnbfjphndgmnaaDoorQAa
import Derived.Test.YtmnbfjphndgmnaaDoorQVe
set_option linter.unusedSimpArgs false
set_option linter.unusedVariables false
namespace Go.Proofs.YtmnbfjphndgmnaaDoor
open Go Go.RowKit

set_option maxHeartbeats 4000000 in
theorem Learn_bad (h : Hd) (b : Bk) (w : World) (hb : BkAt w h b) (hv : bookB b = false) :
    Calls Tryd.prog 38 #[.agg #[.int .i64 b.n, .slice h.pb b.bs.length h.cb, .slice h.po b.os.length h.co, .slice h.ps b.ss.length h.cs]] w fun e w' => e = .returned (.tuple #[.int .i64 0, .int .i64 20]) ∧ ∃ x, w' = ext w x := by
  have HB := Lib.hid hb
  clear hb
  go_enter Tryd.func38, Tryd.ntmps38
  go_wp2_with (go_at_call 47; refine (open_bad _ _ _ _ (HB.out.below (by (repeat (first | (with_reducible exact Below.refl _ _) | (with_reducible assumption) | ((with_reducible refine below_ext_trans ?_ ?_ _); rotate_left; focus (((try dsimp only); repeat (first | omega | simp only [World.size_alloc, World.size_setCell, World.size_drew] | (with_reducible refine le_ext_of ?_) | (with_reducible refine le_ext_add ?_))); done)) | ((with_reducible refine Below.alloc ?_ ?_ _); rotate_left; focus (((try dsimp only); repeat (first | omega | simp only [World.size_alloc, World.size_setCell, World.size_drew] | (with_reducible refine le_ext_of ?_) | (with_reducible refine le_ext_add ?_))); done)) | ((with_reducible refine Below.setCell ?_ ?_ _); rotate_left; focus (((try dsimp only); repeat (first | omega | simp only [World.size_alloc, World.size_setCell, World.size_drew] | (with_reducible refine le_ext_of ?_) | (with_reducible refine le_ext_add ?_))); done)) | (with_reducible refine Below.drew ?_))))) hv).mono ?_; rintro e w' ⟨rfl, y, rfl⟩)
  go_ret2
  exact ⟨rfl, by (exact ext_of (by (repeat (first | (with_reducible exact Below.refl _ _) | (with_reducible assumption) | ((with_reducible refine below_ext_trans ?_ ?_ _); rotate_left; focus (((try dsimp only); repeat (first | omega | simp only [World.size_alloc, World.size_setCell, World.size_drew] | (with_reducible refine le_ext_of ?_) | (with_reducible refine le_ext_add ?_))); done)) | ((with_reducible refine Below.alloc ?_ ?_ _); rotate_left; focus (((try dsimp only); repeat (first | omega | simp only [World.size_alloc, World.size_setCell, World.size_drew] | (with_reducible refine le_ext_of ?_) | (with_reducible refine le_ext_add ?_))); done)) | ((with_reducible refine Below.setCell ?_ ?_ _); rotate_left; focus (((try dsimp only); repeat (first | omega | simp only [World.size_alloc, World.size_setCell, World.size_drew] | (with_reducible refine le_ext_of ?_) | (with_reducible refine le_ext_add ?_))); done)) | (with_reducible refine Below.drew ?_)))))⟩
theorem kspec_none (j : Nat) (hj : j < 8) : kspec [] 2 0 j = 1440 := by
  rcases (show j = 0 ∨ j = 1 ∨ j = 2 ∨ j = 3 ∨ j = 4 ∨ j = 5 ∨ j = 6 ∨ j = 7 by omega) with rfl | rfl | rfl | rfl | rfl | rfl | rfl | rfl <;> decide
set_option maxHeartbeats 4000000 in
theorem Learn_none (h : Hd) (b : Bk) (w : World) (hb : BkAt w h b) (hv : bookB b = true) (hn : NB w) (hne : b.bs = []) :
    Calls Tryd.prog 38 #[.agg #[.int .i64 b.n, .slice h.pb b.bs.length h.cb, .slice h.po b.os.length h.co, .slice h.ps b.ss.length h.cs]] w fun e w' => e = .returned (.tuple #[.int .i64 0, .int .i64 4]) ∧ ∃ x, w' = ext w x := by
  have HB := Lib.hid hb
  have HN := Lib.hid hn
  have z0 : kspec b.bs 2 0 0 = 1440 := by rw [hne]; exact kspec_none 0 (by omega)
  have z1 : kspec b.bs 2 0 1 = 1440 := by rw [hne]; exact kspec_none 1 (by omega)
  have z2 : kspec b.bs 2 0 2 = 1440 := by rw [hne]; exact kspec_none 2 (by omega)
  have z3 : kspec b.bs 2 0 3 = 1440 := by rw [hne]; exact kspec_none 3 (by omega)
  have heq : ∀ a b c d e f g h : Int, ∀ w, (Go.binOp .eql 78 (.agg #[.int .i64 a, .int .i64 b, .int .i64 c, .int .i64 d]) (.agg #[.int .i64 e, .int .i64 f, .int .i64 g, .int .i64 h])).run Tryd.prog w = .ok (.bool (a == e && (b == f && (c == g && d == h)))) w := truth_eql
  obtain ⟨sz, g0, g1, g2, g3⟩ := hn
  clear hb hne
  go_enter Tryd.func38, Tryd.ntmps38
  go_wp2_with (go_at_call 47; refine (open_yes _ _ _ (HB.out.below (by (repeat (first | (with_reducible exact Below.refl _ _) | (with_reducible assumption) | ((with_reducible refine below_ext_trans ?_ ?_ _); rotate_left; focus (((try dsimp only); repeat (first | omega | simp only [World.size_alloc, World.size_setCell, World.size_drew] | (with_reducible refine le_ext_of ?_) | (with_reducible refine le_ext_add ?_))); done)) | ((with_reducible refine Below.alloc ?_ ?_ _); rotate_left; focus (((try dsimp only); repeat (first | omega | simp only [World.size_alloc, World.size_setCell, World.size_drew] | (with_reducible refine le_ext_of ?_) | (with_reducible refine le_ext_add ?_))); done)) | ((with_reducible refine Below.setCell ?_ ?_ _); rotate_left; focus (((try dsimp only); repeat (first | omega | simp only [World.size_alloc, World.size_setCell, World.size_drew] | (with_reducible refine le_ext_of ?_) | (with_reducible refine le_ext_add ?_))); done)) | (with_reducible refine Below.drew ?_))))) hv (HN.out.below (by (repeat (first | (with_reducible exact Below.refl _ _) | (with_reducible assumption) | ((with_reducible refine below_ext_trans ?_ ?_ _); rotate_left; focus (((try dsimp only); repeat (first | omega | simp only [World.size_alloc, World.size_setCell, World.size_drew] | (with_reducible refine le_ext_of ?_) | (with_reducible refine le_ext_add ?_))); done)) | ((with_reducible refine Below.alloc ?_ ?_ _); rotate_left; focus (((try dsimp only); repeat (first | omega | simp only [World.size_alloc, World.size_setCell, World.size_drew] | (with_reducible refine le_ext_of ?_) | (with_reducible refine le_ext_add ?_))); done)) | ((with_reducible refine Below.setCell ?_ ?_ _); rotate_left; focus (((try dsimp only); repeat (first | omega | simp only [World.size_alloc, World.size_setCell, World.size_drew] | (with_reducible refine le_ext_of ?_) | (with_reducible refine le_ext_add ?_))); done)) | (with_reducible refine Below.drew ?_)))))).mono ?_; rintro e w' ⟨B, rfl, hok, y, rfl⟩; have HOK := Lib.hid hok; clear hok; try rw [z0, z1, z2, z3])
  go_ret2
  exact ⟨rfl, by (exact ext_of (by (repeat (first | (with_reducible exact Below.refl _ _) | (with_reducible assumption) | ((with_reducible refine below_ext_trans ?_ ?_ _); rotate_left; focus (((try dsimp only); repeat (first | omega | simp only [World.size_alloc, World.size_setCell, World.size_drew] | (with_reducible refine le_ext_of ?_) | (with_reducible refine le_ext_add ?_))); done)) | ((with_reducible refine Below.alloc ?_ ?_ _); rotate_left; focus (((try dsimp only); repeat (first | omega | simp only [World.size_alloc, World.size_setCell, World.size_drew] | (with_reducible refine le_ext_of ?_) | (with_reducible refine le_ext_add ?_))); done)) | ((with_reducible refine Below.setCell ?_ ?_ _); rotate_left; focus (((try dsimp only); repeat (first | omega | simp only [World.size_alloc, World.size_setCell, World.size_drew] | (with_reducible refine le_ext_of ?_) | (with_reducible refine le_ext_add ?_))); done)) | (with_reducible refine Below.drew ?_)))))⟩

theorem setB_known {b : Bk} {k : Nat} (m : Int) (hk : k < b.bs.length) : setB b k m = knownBk b k m := by
  unfold setB knownBk
  rw [List.set_eq_take_append_cons_drop, if_pos hk]
  simp
theorem undB_kind {X : Bk} {i : Nat} {s : Shot} (hs : X.ss[i]? = some s) {st : Nat} (hst : s.st = st) {K : Int} (hK : kindOf (fun t => ownf X.os st t == s.co) (seg (cnt (lateL X.bs) s.lo) (cnt (soonL X.bs) s.hi)) = K) : undB X i = (K == 1) := by
  unfold undB
  rw [hs]
  dsimp only
  unfold jk
  have e : s.st.toNat = st := by rw [hst]; rfl
  rw [e, hK]
theorem undN_next {X : Bk} {i : Nat} {K : Int} (h : undB X i = (K == 1)) : undN X (i + 1) = undN X i + if K = 1 then 1 else 0 := by
  by_cases hk : K = 1
  · rw [if_pos hk]; exact undN_yes (by rw [h, hk]; rfl)
  · rw [if_neg hk]; exact undN_no (by rw [h]; simpa using hk)
theorem worst_le {b : Bk} {k : Nat} : ∀ (ms : List Int), worst b k ms ≤ (b.ss.length : Int) ∧ 0 ≤ worst b k ms := by
  intro ms
  unfold worst
  suffices H : ∀ x : Int, 0 ≤ x → x ≤ (b.ss.length : Int) → ms.foldl (fun x m => max x (undM b k m)) x ≤ (b.ss.length : Int) ∧ 0 ≤ ms.foldl (fun x m => max x (undM b k m)) x from H 0 (by omega) (by omega)
  induction ms with
  | nil => intro x h1 h2; exact ⟨h2, h1⟩
  | cons m ms ih =>
    intro x h1 h2
    have h3 : undM b k m ≤ (b.ss.length : Int) := by unfold undM; have := undN_le (setB b k m) b.ss.length; omega
    exact ih _ (by dsimp only; omega) (by dsimp only; omega)
theorem wk_le (b : Bk) (k : Nat) : wk b k ≤ (b.ss.length : Int) ∧ 0 ≤ wk b k := by
  unfold wk
  split
  · exact worst_le _
  · omega
theorem winN_best (f : Nat → Int) : ∀ n, 0 < n → ∀ j, j < n → f (winN (fun i j => decide (f i < f j)) n) < f j ∨ f (winN (fun i j => decide (f i < f j)) n) = f j ∧ winN (fun i j => decide (f i < f j)) n ≤ j
  | n + 1, _, j, hj => by
    rw [winN_succ]
    unfold winStep
    rcases Nat.eq_zero_or_pos n with rfl | hn
    · obtain rfl : j = 0 := by omega
      simp [winN]
    · have ih := winN_best f n hn
      have hl := winN_lt (fun i j => decide (f i < f j)) n hn
      generalize winN (fun i j => decide (f i < f j)) n = q at *
      by_cases h : f n < f q
      · rw [if_pos (by simpa using h)]
        by_cases hjn : j = n
        · subst hjn; right; exact ⟨rfl, Nat.le_refl _⟩
        · left
          rcases ih j (by omega) with h1 | ⟨h1, _⟩ <;> omega
      · rw [if_neg (by simpa using h)]
        by_cases hjn : j = n
        · subst hjn
          rcases (show f q < f j ∨ f q = f j by omega) with h1 | h1
          · exact .inl h1
          · exact .inr ⟨h1, by omega⟩
        · exact ih j (by omega)
theorem lk_wk {b : Bk} (h4 : b.bs.length ≤ 4) {i : Nat} (hi : i < b.bs.length) : (lkL b).getD i 0 = wk b i := by
  unfold lkL
  rcases (show i = 0 ∨ i = 1 ∨ i = 2 ∨ i = 3 by omega) with rfl | rfl | rfl | rfl <;> simp [lk, hi]
/-- With the bound that is told no more shots are undecided, at the worst, than with any other one, nor as many if that comes before it. -/
theorem learn_best {b : Bk} (h4 : b.bs.length ≤ 4) (hn : 0 < b.bs.length) : learnN b < b.bs.length ∧ ∀ j, j < b.bs.length → wk b (learnN b) < wk b j ∨ wk b (learnN b) = wk b j ∧ learnN b ≤ j := by
  have h1 : learnN b < b.bs.length := winN_lt _ _ hn
  refine ⟨h1, fun j hj => ?_⟩
  have h2 := winN_best (fun i => (lkL b).getD i 0) b.bs.length hn j hj
  rw [← lk_wk h4 h1, ← lk_wk h4 hj]
  exact h2
end Go.Proofs.YtmnbfjphndgmnaaDoor

namespace Go.Proofs.YtmnbfjphndgmnaaDoor
open Go Go.RowKit

theorem known_len2 (p1 p2 p3 : Option Addr) (c1 c2 c3 l1 l2 l3 : Nat) (n : Int) (b : Bk) (k : Nat) (v : Int) (w : World) (hb : BkAt w ⟨p1, c1, p2, c2, p3, c3⟩ b) (hk : k < b.bs.length) (h4 : b.bs.length ≤ 4) (e0 : b.n = n) (e1 : b.bs.length = l1) (e2 : b.os.length = l2) (e3 : b.ss.length = l3) :
    Calls Tryd.prog 30 #[.agg #[.int .i64 n, .slice p1 l1 c1, .slice p2 l2 c2, .slice p3 l3 c3], .int .i64 k, .int .i64 v] w fun e w' => ∃ g2 d1, e = .returned (.agg #[.int .i64 n, .slice (some ⟨g2, 0, none⟩) l1 d1, .slice p2 l2 c2, .slice p3 l3 c3]) ∧ SpansAt w' (some ⟨g2, 0, none⟩) (b.bs.set k (v, v)) ∧ ∃ x, w' = ext w x := by
  subst e0 e1 e2 e3
  exact (known_new ⟨p1, c1, p2, c2, p3, c3⟩ b k v w hb hk h4).mono fun e w' ⟨g2, d1, he, _, hs, _, hx⟩ => ⟨g2, d1, he, hs, hx⟩
set_option maxRecDepth 100000 in
set_option maxHeartbeats 8000000 in
theorem undecided_law (h : Hd) (b : Bk) (k : Nat) (lo hi : Int) (w : World) (hb : BkAt w h b) (hv : bookB b = true) (hn : NB w) (hk : b.bs[k]? = some (lo, hi)) :
    Calls Tryd.prog 39 #[.agg #[.int .i64 b.n, .slice h.pb b.bs.length h.cb, .slice h.po b.os.length h.co, .slice h.ps b.ss.length h.cs], .int .i64 k] w fun e w' => e = .returned (.int .i64 (wk b k)) ∧ ∃ x, w' = ext w x := by
  obtain ⟨pb, cb, po, co, ps, cs⟩ := h
  dsimp only
  have hle := chain_bounds (bookB_bounds hv).2.2 _ (List.mem_of_getElem? hk)
  unfold Mom at hle
  dsimp only at hle
  have h4 := (bookB_bounds hv).1
  have hkl := (List.getElem?_eq_some_iff.1 hk).1
  have hs5 := bookB_ss hv
  have HWK := Lib.hid (show wk b k = worst b k (mins lo hi) by unfold wk; rw [hk])
  obtain ⟨bb1, o1, hpb, hb1, qlo, qhi⟩ := hb.bs k _ hk
  dsimp only at hpb qlo qhi
  subst hpb
  have HA := Lib.hid hb1
  have HQ := Lib.hid (And.intro qlo qhi)
  have HK := Lib.hid hk
  have HB := Lib.hid hb
  have HN := Lib.hid hn
  have HV := Lib.hid hv
  have k0 : (0 : Int) ≤ (k : Int) := by omega
  have k1 : (k : Int) < (b.bs.length : Int) := by omega
  have bb1' : bb1 < w.heap.size + 1 := by omega
  clear hb hv hn hk hb1
  go_enter Tryd.func39, Tryd.ntmps39
  go_upto_region 2 with fail
  generalize hW1 : w.alloc _ = W1
  have hB1 : Below w.heap.size w W1 := by rw [← hW1]; (repeat (first | (with_reducible exact Below.refl _ _) | (with_reducible assumption) | ((with_reducible refine below_ext_trans ?_ ?_ _); rotate_left; focus (((try dsimp only); repeat (first | omega | simp only [World.size_alloc, World.size_setCell, World.size_drew] | (with_reducible refine le_ext_of ?_) | (with_reducible refine le_ext_add ?_))); done)) | ((with_reducible refine Below.alloc ?_ ?_ _); rotate_left; focus (((try dsimp only); repeat (first | omega | simp only [World.size_alloc, World.size_setCell, World.size_drew] | (with_reducible refine le_ext_of ?_) | (with_reducible refine le_ext_add ?_))); done)) | ((with_reducible refine Below.setCell ?_ ?_ _); rotate_left; focus (((try dsimp only); repeat (first | omega | simp only [World.size_alloc, World.size_setCell, World.size_drew] | (with_reducible refine le_ext_of ?_) | (with_reducible refine le_ext_add ?_))); done)) | (with_reducible refine Below.drew ?_)))
  have kb1 : Blk W1 w.heap.size 26 #[.int .i64 b.n, .slice (some ⟨bb1, o1, none⟩) b.bs.length cb, .slice po b.os.length co, .slice ps b.ss.length cs] := by rw [← hW1]; exact Blk.new rfl
  have HW1 := Lib.hid hB1
  have KB1 := Lib.hid kb1
  have d1 : W1.cell? ⟨w.heap.size, 1, none⟩ = some (.slice (some ⟨bb1, o1, none⟩) b.bs.length cb) := kb1.cell 1
  have kl := kb1.lt
  have q0 := (hB1.cell (p := ⟨bb1, o1 + k * 2, none⟩) HA.out).trans HQ.out.1
  have q1 := (hB1.cell (p := ⟨bb1, o1 + k * 2 + 1, none⟩) HA.out).trans HQ.out.2
  have al := Nat.lt_of_lt_of_le HA.out hB1.size
  try dsimp only at q0 q1
  clear hW1 hB1 kb1 qlo qhi bb1'
  go_wp2_with fail
  go_loopw [5, 6] (fun u m wr => ∃ j : Nat, (j : Int) ≤ hi - lo + 1 ∧ m = .int .i64 (lo + j) ∧ (∃ x : Int, 0 ≤ x ∧ x ≤ 5 ∧ u = .int .i64 x ∧ Hid (worst b k (mupto lo j) = x)) ∧ ∃ x, wr = ext W1 x) (fun _ m _ => (hi + 1 - intOf m).toNat)
  case atStart => exact ⟨0, by omega, by go_num, ⟨0, by omega, by omega, rfl, Lib.hid rfl⟩, ext_of (Below.refl _ _)⟩
  case round =>
    obtain ⟨j, hj, rfl, ⟨x, hx0, hx5, rfl, HX⟩, y1, rfl⟩ := hrel
    clear d1 kl q0 q1 al
    have hB2 := below_ext W1 y1
    generalize ext W1 y1 = W2 at *
    have kb2 := KB1.out.bel hB2
    have hw2 := HW1.out.trans (hB2.mono HW1.out.size)
    have HB2 := Lib.hid (HB.out.below hw2)
    have HN2 := Lib.hid (HN.out.below hw2)
    have HW2 := Lib.hid hw2
    have HX2 := Lib.hid hB2
    have d0 := kb2.cell 0
    have d1 := kb2.cell 1
    have d2 := kb2.cell 2
    have d3 := kb2.cell 3
    simp only [List.size_toArray, List.length_cons, List.length_nil, Nat.reduceAdd, Nat.reduceLT, getElem?_pos, List.getElem_toArray, List.getElem_cons_zero, List.getElem_cons_succ] at d0 d1 d2 d3
    have kl := kb2.lt
    have KB2 := Lib.hid kb2
    have q0 := (hw2.cell (p := ⟨bb1, o1 + k * 2, none⟩) HA.out).trans HQ.out.1
    have q1 := (hw2.cell (p := ⟨bb1, o1 + k * 2 + 1, none⟩) HA.out).trans HQ.out.2
    have al := Nat.lt_of_lt_of_le HA.out hw2.size
    try dsimp only at q0 q1
    clear hB2 hw2 kb2
    by_cases hlt : lo + (j : Int) ≤ hi
    · have hv1 : lo ≤ lo + (j : Int) := by omega
      obtain ⟨v, ev⟩ : ∃ v, lo + (j : Int) = v := ⟨_, rfl⟩
      have HXV := Lib.hid (known_ok HV.out HK.out (v := v) (by omega) (by omega))
      have HE := Lib.hid ev
      go_upto_region 6 with (go_at_call 30; refine (known_len2 (some ⟨bb1, o1, none⟩) po ps cb co cs _ _ _ _ b k _ _ (HB2.out.below (by (repeat (first | (with_reducible exact Below.refl _ _) | (with_reducible assumption) | ((with_reducible refine below_ext_trans ?_ ?_ _); rotate_left; focus (((try dsimp only); repeat (first | omega | simp only [World.size_alloc, World.size_setCell, World.size_drew] | (with_reducible refine le_ext_of ?_) | (with_reducible refine le_ext_add ?_))); done)) | ((with_reducible refine Below.alloc ?_ ?_ _); rotate_left; focus (((try dsimp only); repeat (first | omega | simp only [World.size_alloc, World.size_setCell, World.size_drew] | (with_reducible refine le_ext_of ?_) | (with_reducible refine le_ext_add ?_))); done)) | ((with_reducible refine Below.setCell ?_ ?_ _); rotate_left; focus (((try dsimp only); repeat (first | omega | simp only [World.size_alloc, World.size_setCell, World.size_drew] | (with_reducible refine le_ext_of ?_) | (with_reducible refine le_ext_add ?_))); done)) | (with_reducible refine Below.drew ?_))))) hkl h4 rfl rfl rfl rfl).mono ?_; rintro e w1 ⟨g2, d1', rfl, hs2, y2, rfl⟩)
      generalize hW3 : (ext W2 y2).alloc _ = W3
      generalize hg : (ext W2 y2).heap.size = gx
      have hB3 : Below W2.heap.size W2 W3 := by rw [← hW3]; (repeat (first | (with_reducible exact Below.refl _ _) | (with_reducible assumption) | ((with_reducible refine below_ext_trans ?_ ?_ _); rotate_left; focus (((try dsimp only); repeat (first | omega | simp only [World.size_alloc, World.size_setCell, World.size_drew] | (with_reducible refine le_ext_of ?_) | (with_reducible refine le_ext_add ?_))); done)) | ((with_reducible refine Below.alloc ?_ ?_ _); rotate_left; focus (((try dsimp only); repeat (first | omega | simp only [World.size_alloc, World.size_setCell, World.size_drew] | (with_reducible refine le_ext_of ?_) | (with_reducible refine le_ext_add ?_))); done)) | ((with_reducible refine Below.setCell ?_ ?_ _); rotate_left; focus (((try dsimp only); repeat (first | omega | simp only [World.size_alloc, World.size_setCell, World.size_drew] | (with_reducible refine le_ext_of ?_) | (with_reducible refine le_ext_add ?_))); done)) | (with_reducible refine Below.drew ?_)))
      have hB3' : Below (ext W2 y2).heap.size (ext W2 y2) W3 := by rw [← hW3]; (repeat (first | (with_reducible exact Below.refl _ _) | (with_reducible assumption) | ((with_reducible refine below_ext_trans ?_ ?_ _); rotate_left; focus (((try dsimp only); repeat (first | omega | simp only [World.size_alloc, World.size_setCell, World.size_drew] | (with_reducible refine le_ext_of ?_) | (with_reducible refine le_ext_add ?_))); done)) | ((with_reducible refine Below.alloc ?_ ?_ _); rotate_left; focus (((try dsimp only); repeat (first | omega | simp only [World.size_alloc, World.size_setCell, World.size_drew] | (with_reducible refine le_ext_of ?_) | (with_reducible refine le_ext_add ?_))); done)) | ((with_reducible refine Below.setCell ?_ ?_ _); rotate_left; focus (((try dsimp only); repeat (first | omega | simp only [World.size_alloc, World.size_setCell, World.size_drew] | (with_reducible refine le_ext_of ?_) | (with_reducible refine le_ext_add ?_))); done)) | (with_reducible refine Below.drew ?_)))
      have kx3 : Blk W3 gx 26 #[.int .i64 b.n, .slice (some ⟨g2, 0, none⟩) b.bs.length d1', .slice po b.os.length co, .slice ps b.ss.length cs] := by rw [← hW3]; exact Blk.new hg.symm
      have hw3 := HW2.out.trans (hB3.mono HW2.out.size)
      have HW3 := Lib.hid hw3
      have HX3 := Lib.hid (HX2.out.trans (hB3.mono HX2.out.size))
      have HS3 := Lib.hid (hs2.below hB3')
      have KX3 := Lib.hid kx3
      have KB3 := Lib.hid (KB2.out.bel hB3)
      clear hW3 hg hB3 hB3' kx3 hw3 hs2 HB2 HN2 HW2 HX2 KB2 d0 d1 d2 d3 kl q0 q1 al
      go_wp2_with fail
      go_loopw [8, 9] (fun u i wr => ∃ (q z : Nat), q ≤ b.ss.length ∧ z ≤ q ∧ i = .int .i64 q ∧ u = .int .i64 z ∧ Hid (undN (knownBk b k v) q = z) ∧ ∃ x, wr = ext W3 x) (fun _ i _ => b.ss.length - (intOf i).toNat)
      case atStart => exact ⟨0, 0, by omega, by omega, rfl, rfl, Lib.hid rfl, ext_of (Below.refl _ _)⟩
      case round =>
        obtain ⟨q, z, hq, hz, rfl, rfl, HZ, y3, rfl⟩ := hrel
        have hB4 := below_ext W3 y3
        generalize ext W3 y3 = W4 at *
        have kb4 := KB3.out.bel hB4
        have kx4 := KX3.out.bel hB4
        have hw4 := HW3.out.trans (hB4.mono HW3.out.size)
        have HB4 := Lib.hid (HB.out.below hw4)
        have HN4 := Lib.hid (HN.out.below hw4)
        have HS4 := Lib.hid (HS3.out.below hB4)
        have HW4 := Lib.hid hw4
        have HX4 := Lib.hid hB4
        have d0 := kb4.cell 0
        have d1 := kb4.cell 1
        have d2 := kb4.cell 2
        have d3 := kb4.cell 3
        have x0 := kx4.cell 0
        have x1 := kx4.cell 1
        have x2 := kx4.cell 2
        have x3 := kx4.cell 3
        simp only [List.size_toArray, List.length_cons, List.length_nil, Nat.reduceAdd, Nat.reduceLT, getElem?_pos, List.getElem_toArray, List.getElem_cons_zero, List.getElem_cons_succ] at d0 d1 d2 d3 x0 x1 x2 x3
        have kl := kb4.lt
        have xl := kx4.lt
        clear hB4 hw4 kb4 kx4
        by_cases hlt2 : q < b.ss.length
        · obtain ⟨s, hs⟩ := get_some b.ss q hlt2
          obtain ⟨⟨g0, -⟩, -, -⟩ := bookB_shot HV.out hs
          obtain ⟨st, est⟩ := Int.eq_ofNat_of_zero_le g0
          obtain ⟨K, hK⟩ : ∃ K, kindOf (fun u => ownf (knownBk b k v).os st u == s.co) (seg (cnt (lateL (knownBk b k v).bs) s.lo) (cnt (soonL (knownBk b k v).bs) s.hi)) = K := ⟨_, rfl⟩
          have HU := Lib.hid (undN_next (undB_kind (X := knownBk b k v) hs est hK))
          have HK := Lib.hid hK
          have HS := Lib.hid hs
          have EST := Lib.hid est
          have j0 : (0 : Int) ≤ (q : Int) := by omega
          have j1 : (q : Int) < (b.ss.length : Int) := by omega
          clear hs g0 est hK
          go_upto_region 11 with (go_at_call 22; refine (Fair_len' (some ⟨g2, 0, none⟩) po ps d1' co cs _ _ _ _ (knownBk b k v) q st s K _ (⟨HS4.out.below (by (repeat (first | (with_reducible exact Below.refl _ _) | (with_reducible assumption) | ((with_reducible refine below_ext_trans ?_ ?_ _); rotate_left; focus (((try dsimp only); repeat (first | omega | simp only [World.size_alloc, World.size_setCell, World.size_drew] | (with_reducible refine le_ext_of ?_) | (with_reducible refine le_ext_add ?_))); done)) | ((with_reducible refine Below.alloc ?_ ?_ _); rotate_left; focus (((try dsimp only); repeat (first | omega | simp only [World.size_alloc, World.size_setCell, World.size_drew] | (with_reducible refine le_ext_of ?_) | (with_reducible refine le_ext_add ?_))); done)) | ((with_reducible refine Below.setCell ?_ ?_ _); rotate_left; focus (((try dsimp only); repeat (first | omega | simp only [World.size_alloc, World.size_setCell, World.size_drew] | (with_reducible refine le_ext_of ?_) | (with_reducible refine le_ext_add ?_))); done)) | (with_reducible refine Below.drew ?_)))), (HB4.out.below (by (repeat (first | (with_reducible exact Below.refl _ _) | (with_reducible assumption) | ((with_reducible refine below_ext_trans ?_ ?_ _); rotate_left; focus (((try dsimp only); repeat (first | omega | simp only [World.size_alloc, World.size_setCell, World.size_drew] | (with_reducible refine le_ext_of ?_) | (with_reducible refine le_ext_add ?_))); done)) | ((with_reducible refine Below.alloc ?_ ?_ _); rotate_left; focus (((try dsimp only); repeat (first | omega | simp only [World.size_alloc, World.size_setCell, World.size_drew] | (with_reducible refine le_ext_of ?_) | (with_reducible refine le_ext_add ?_))); done)) | ((with_reducible refine Below.setCell ?_ ?_ _); rotate_left; focus (((try dsimp only); repeat (first | omega | simp only [World.size_alloc, World.size_setCell, World.size_drew] | (with_reducible refine le_ext_of ?_) | (with_reducible refine le_ext_add ?_))); done)) | (with_reducible refine Below.drew ?_))))).os, (HB4.out.below (by (repeat (first | (with_reducible exact Below.refl _ _) | (with_reducible assumption) | ((with_reducible refine below_ext_trans ?_ ?_ _); rotate_left; focus (((try dsimp only); repeat (first | omega | simp only [World.size_alloc, World.size_setCell, World.size_drew] | (with_reducible refine le_ext_of ?_) | (with_reducible refine le_ext_add ?_))); done)) | ((with_reducible refine Below.alloc ?_ ?_ _); rotate_left; focus (((try dsimp only); repeat (first | omega | simp only [World.size_alloc, World.size_setCell, World.size_drew] | (with_reducible refine le_ext_of ?_) | (with_reducible refine le_ext_add ?_))); done)) | ((with_reducible refine Below.setCell ?_ ?_ _); rotate_left; focus (((try dsimp only); repeat (first | omega | simp only [World.size_alloc, World.size_setCell, World.size_drew] | (with_reducible refine le_ext_of ?_) | (with_reducible refine le_ext_add ?_))); done)) | (with_reducible refine Below.drew ?_))))).ss⟩) HXV.out (HN4.out.below (by (repeat (first | (with_reducible exact Below.refl _ _) | (with_reducible assumption) | ((with_reducible refine below_ext_trans ?_ ?_ _); rotate_left; focus (((try dsimp only); repeat (first | omega | simp only [World.size_alloc, World.size_setCell, World.size_drew] | (with_reducible refine le_ext_of ?_) | (with_reducible refine le_ext_add ?_))); done)) | ((with_reducible refine Below.alloc ?_ ?_ _); rotate_left; focus (((try dsimp only); repeat (first | omega | simp only [World.size_alloc, World.size_setCell, World.size_drew] | (with_reducible refine le_ext_of ?_) | (with_reducible refine le_ext_add ?_))); done)) | ((with_reducible refine Below.setCell ?_ ?_ _); rotate_left; focus (((try dsimp only); repeat (first | omega | simp only [World.size_alloc, World.size_setCell, World.size_drew] | (with_reducible refine le_ext_of ?_) | (with_reducible refine le_ext_add ?_))); done)) | (with_reducible refine Below.drew ?_))))) HS.out EST.out HK.out rfl (by simp [knownBk]) rfl rfl).mono ?_; rintro e w1 ⟨rfl, y4, rfl⟩)
          by_cases hK1 : K = 1
          · have HU2 := Lib.hid (show undN (knownBk b k v) (q + 1) = z + 1 by rw [HU.out, if_pos hK1, HZ.out])
            clear HU HK
            subst hK1
            go_wp2_with fail
            go_roundw
            case rel => exact ⟨q + 1, z + 1, by omega, by omega, by go_num, by go_num, HU2, by refine ext_of (HX4.out.trans (Below.mono ?_ HX4.out.size)); (repeat (first | (with_reducible exact Below.refl _ _) | (with_reducible assumption) | ((with_reducible refine below_ext_trans ?_ ?_ _); rotate_left; focus (((try dsimp only); repeat (first | omega | simp only [World.size_alloc, World.size_setCell, World.size_drew] | (with_reducible refine le_ext_of ?_) | (with_reducible refine le_ext_add ?_))); done)) | ((with_reducible refine Below.alloc ?_ ?_ _); rotate_left; focus (((try dsimp only); repeat (first | omega | simp only [World.size_alloc, World.size_setCell, World.size_drew] | (with_reducible refine le_ext_of ?_) | (with_reducible refine le_ext_add ?_))); done)) | ((with_reducible refine Below.setCell ?_ ?_ _); rotate_left; focus (((try dsimp only); repeat (first | omega | simp only [World.size_alloc, World.size_setCell, World.size_drew] | (with_reducible refine le_ext_of ?_) | (with_reducible refine le_ext_add ?_))); done)) | (with_reducible refine Below.drew ?_)))⟩
            case measure => simp [intOf]; omega
          · have HU2 := Lib.hid (show undN (knownBk b k v) (q + 1) = z by rw [HU.out, if_neg hK1, HZ.out]; rfl)
            have hK2 : (K == 1) = false := by simpa using hK1
            clear HU HK
            go_wp2_with fail
            go_roundw
            case rel => exact ⟨q + 1, z, by omega, by omega, by go_num, rfl, HU2, by refine ext_of (HX4.out.trans (Below.mono ?_ HX4.out.size)); (repeat (first | (with_reducible exact Below.refl _ _) | (with_reducible assumption) | ((with_reducible refine below_ext_trans ?_ ?_ _); rotate_left; focus (((try dsimp only); repeat (first | omega | simp only [World.size_alloc, World.size_setCell, World.size_drew] | (with_reducible refine le_ext_of ?_) | (with_reducible refine le_ext_add ?_))); done)) | ((with_reducible refine Below.alloc ?_ ?_ _); rotate_left; focus (((try dsimp only); repeat (first | omega | simp only [World.size_alloc, World.size_setCell, World.size_drew] | (with_reducible refine le_ext_of ?_) | (with_reducible refine le_ext_add ?_))); done)) | ((with_reducible refine Below.setCell ?_ ?_ _); rotate_left; focus (((try dsimp only); repeat (first | omega | simp only [World.size_alloc, World.size_setCell, World.size_drew] | (with_reducible refine le_ext_of ?_) | (with_reducible refine le_ext_add ?_))); done)) | (with_reducible refine Below.drew ?_)))⟩
            case measure => simp [intOf]; omega
        · obtain rfl : q = b.ss.length := by omega
          go_wp2_with fail
          refine ⟨⟨j + 1, by omega, by have := HE.out; go_num, ⟨max x (z : Int), by omega, by omega, rfl, Lib.hid ?_⟩, ext_of (HX3.out.trans (HX4.out.mono HX3.out.size))⟩, by have := HE.out; simp [intOf]; omega⟩
          rw [← mupto_snoc, worst_snoc, HX.out, HE.out]
          unfold undM
          rw [setB_known v hkl, HZ.out]
    · have hjn : (hi - lo + 1).toNat = j := by omega
      have HR := Lib.hid (show wk b k = x by rw [HWK.out, ← HX.out]; unfold mins; rw [hjn])
      go_wp2_with fail
      go_ret
      exact ⟨by rw [HR.out]; rfl, ext_of HW2.out⟩
end Go.Proofs.YtmnbfjphndgmnaaDoor

namespace Go.Proofs.YtmnbfjphndgmnaaDoor
open Go Go.RowKit

theorem undecided_eq (h : Hd) (b : Bk) (k : Nat) (lo hi x : Int) (w : World) (hb : BkAt w h b) (hv : bookB b = true) (hn : NB w) (hk : b.bs[k]? = some (lo, hi)) (hx : wk b k = x) :
    Calls Tryd.prog 39 #[.agg #[.int .i64 b.n, .slice h.pb b.bs.length h.cb, .slice h.po b.os.length h.co, .slice h.ps b.ss.length h.cs], .int .i64 k] w fun e w' => e = .returned (.int .i64 x) ∧ ∃ x, w' = ext w x := by
  subst hx; exact undecided_law h b k lo hi w hb hv hn hk
theorem Learn_eq (h : Hd) (b : Bk) (k : Nat) (w : World) (hb : BkAt w h b) (hv : bookB b = true) (hn : NB w) (hcap : b.bs.length ≤ h.cb) (hne : b.bs ≠ []) (hk : learnN b = k) :
    Calls Tryd.prog 38 #[.agg #[.int .i64 b.n, .slice h.pb b.bs.length h.cb, .slice h.po b.os.length h.co, .slice h.ps b.ss.length h.cs]] w fun e w' => e = .returned (.tuple #[.int .i64 k, .int .i64 0]) ∧ ∃ x, w' = ext w x := by
  subst hk; exact Learn_yes h b w hb hv hn hcap hne
set_option maxRecDepth 100000 in
set_option maxHeartbeats 4000000 in
theorem TurnLearn_bad (h : Hd) (b : Bk) (n0 : Int) (w : World) (hb : BkAt w h b) (hv : bookB b = false) (hn : NB w) :
    Calls Tryd.prog 10 #[.agg #[.int .i64 b.n, .slice h.pb b.bs.length h.cb, .slice h.po b.os.length h.co, .slice h.ps b.ss.length h.cs], .int .i64 n0] w fun e w' => e = .returned (.bool true) ∧ ∃ x, w' = ext w x := by
  have HB := Lib.hid hb
  have HN := Lib.hid hn
  clear hb hn
  go_enter Tryd.func10, Tryd.ntmps10
  go_upto_region 2 with (go_at_call 38; refine (Learn_bad h b _ (HB.out.below (by (repeat (first | (with_reducible exact Below.refl _ _) | (with_reducible assumption) | ((with_reducible refine below_ext_trans ?_ ?_ _); rotate_left; focus (((try dsimp only); repeat (first | omega | simp only [World.size_alloc, World.size_setCell, World.size_drew] | (with_reducible refine le_ext_of ?_) | (with_reducible refine le_ext_add ?_))); done)) | ((with_reducible refine Below.alloc ?_ ?_ _); rotate_left; focus (((try dsimp only); repeat (first | omega | simp only [World.size_alloc, World.size_setCell, World.size_drew] | (with_reducible refine le_ext_of ?_) | (with_reducible refine le_ext_add ?_))); done)) | ((with_reducible refine Below.setCell ?_ ?_ _); rotate_left; focus (((try dsimp only); repeat (first | omega | simp only [World.size_alloc, World.size_setCell, World.size_drew] | (with_reducible refine le_ext_of ?_) | (with_reducible refine le_ext_add ?_))); done)) | (with_reducible refine Below.drew ?_))))) hv).mono ?_; rintro e w1 ⟨rfl, y0, rfl⟩)
  go_upto_region 3 with (go_at_call 12; refine (sound_no h b _ (HB.out.below (by (repeat (first | (with_reducible exact Below.refl _ _) | (with_reducible assumption) | ((with_reducible refine below_ext_trans ?_ ?_ _); rotate_left; focus (((try dsimp only); repeat (first | omega | simp only [World.size_alloc, World.size_setCell, World.size_drew] | (with_reducible refine le_ext_of ?_) | (with_reducible refine le_ext_add ?_))); done)) | ((with_reducible refine Below.alloc ?_ ?_ _); rotate_left; focus (((try dsimp only); repeat (first | omega | simp only [World.size_alloc, World.size_setCell, World.size_drew] | (with_reducible refine le_ext_of ?_) | (with_reducible refine le_ext_add ?_))); done)) | ((with_reducible refine Below.setCell ?_ ?_ _); rotate_left; focus (((try dsimp only); repeat (first | omega | simp only [World.size_alloc, World.size_setCell, World.size_drew] | (with_reducible refine le_ext_of ?_) | (with_reducible refine le_ext_add ?_))); done)) | (with_reducible refine Below.drew ?_))))) hv).mono ?_; rintro e w1 ⟨rfl, y1, rfl⟩)
  go_wp2_with (go_at_call 13; refine (shot_any _ (HN.out.below (by (repeat (first | (with_reducible exact Below.refl _ _) | (with_reducible assumption) | ((with_reducible refine below_ext_trans ?_ ?_ _); rotate_left; focus (((try dsimp only); repeat (first | omega | simp only [World.size_alloc, World.size_setCell, World.size_drew] | (with_reducible refine le_ext_of ?_) | (with_reducible refine le_ext_add ?_))); done)) | ((with_reducible refine Below.alloc ?_ ?_ _); rotate_left; focus (((try dsimp only); repeat (first | omega | simp only [World.size_alloc, World.size_setCell, World.size_drew] | (with_reducible refine le_ext_of ?_) | (with_reducible refine le_ext_add ?_))); done)) | ((with_reducible refine Below.setCell ?_ ?_ _); rotate_left; focus (((try dsimp only); repeat (first | omega | simp only [World.size_alloc, World.size_setCell, World.size_drew] | (with_reducible refine le_ext_of ?_) | (with_reducible refine le_ext_add ?_))); done)) | (with_reducible refine Below.drew ?_)))))).mono ?_; rintro e w1 ⟨rfl, y, rfl⟩)
  go_ret
  exact ⟨rfl, by (exact ext_of (by (repeat (first | (with_reducible exact Below.refl _ _) | (with_reducible assumption) | ((with_reducible refine below_ext_trans ?_ ?_ _); rotate_left; focus (((try dsimp only); repeat (first | omega | simp only [World.size_alloc, World.size_setCell, World.size_drew] | (with_reducible refine le_ext_of ?_) | (with_reducible refine le_ext_add ?_))); done)) | ((with_reducible refine Below.alloc ?_ ?_ _); rotate_left; focus (((try dsimp only); repeat (first | omega | simp only [World.size_alloc, World.size_setCell, World.size_drew] | (with_reducible refine le_ext_of ?_) | (with_reducible refine le_ext_add ?_))); done)) | ((with_reducible refine Below.setCell ?_ ?_ _); rotate_left; focus (((try dsimp only); repeat (first | omega | simp only [World.size_alloc, World.size_setCell, World.size_drew] | (with_reducible refine le_ext_of ?_) | (with_reducible refine le_ext_add ?_))); done)) | (with_reducible refine Below.drew ?_)))))⟩
set_option maxRecDepth 100000 in
set_option maxHeartbeats 4000000 in
theorem TurnLearn_none (h : Hd) (b : Bk) (n0 : Int) (w : World) (hb : BkAt w h b) (hv : bookB b = true) (hn : NB w) (hne : b.bs = []) :
    Calls Tryd.prog 10 #[.agg #[.int .i64 b.n, .slice h.pb b.bs.length h.cb, .slice h.po b.os.length h.co, .slice h.ps b.ss.length h.cs], .int .i64 n0] w fun e w' => e = .returned (.bool true) ∧ ∃ x, w' = ext w x := by
  obtain ⟨pb, cb, po, co, ps, cs⟩ := h
  dsimp only
  have HB := Lib.hid hb
  have HN := Lib.hid hn
  have HV := Lib.hid hv
  have HNE := Lib.hid hne
  have hl0 : (b.bs.length : Int) = 0 := by rw [hne]; rfl
  clear hb hn hv hne
  go_enter Tryd.func10, Tryd.ntmps10
  go_upto_region 2 with (go_at_call 38; refine (Learn_none ⟨pb, cb, po, co, ps, cs⟩ b _ (HB.out.below (by (repeat (first | (with_reducible exact Below.refl _ _) | (with_reducible assumption) | ((with_reducible refine below_ext_trans ?_ ?_ _); rotate_left; focus (((try dsimp only); repeat (first | omega | simp only [World.size_alloc, World.size_setCell, World.size_drew] | (with_reducible refine le_ext_of ?_) | (with_reducible refine le_ext_add ?_))); done)) | ((with_reducible refine Below.alloc ?_ ?_ _); rotate_left; focus (((try dsimp only); repeat (first | omega | simp only [World.size_alloc, World.size_setCell, World.size_drew] | (with_reducible refine le_ext_of ?_) | (with_reducible refine le_ext_add ?_))); done)) | ((with_reducible refine Below.setCell ?_ ?_ _); rotate_left; focus (((try dsimp only); repeat (first | omega | simp only [World.size_alloc, World.size_setCell, World.size_drew] | (with_reducible refine le_ext_of ?_) | (with_reducible refine le_ext_add ?_))); done)) | (with_reducible refine Below.drew ?_))))) HV.out (HN.out.below (by (repeat (first | (with_reducible exact Below.refl _ _) | (with_reducible assumption) | ((with_reducible refine below_ext_trans ?_ ?_ _); rotate_left; focus (((try dsimp only); repeat (first | omega | simp only [World.size_alloc, World.size_setCell, World.size_drew] | (with_reducible refine le_ext_of ?_) | (with_reducible refine le_ext_add ?_))); done)) | ((with_reducible refine Below.alloc ?_ ?_ _); rotate_left; focus (((try dsimp only); repeat (first | omega | simp only [World.size_alloc, World.size_setCell, World.size_drew] | (with_reducible refine le_ext_of ?_) | (with_reducible refine le_ext_add ?_))); done)) | ((with_reducible refine Below.setCell ?_ ?_ _); rotate_left; focus (((try dsimp only); repeat (first | omega | simp only [World.size_alloc, World.size_setCell, World.size_drew] | (with_reducible refine le_ext_of ?_) | (with_reducible refine le_ext_add ?_))); done)) | (with_reducible refine Below.drew ?_))))) HNE.out).mono ?_; rintro e w1 ⟨rfl, y0, rfl⟩)
  go_upto_region 3 with (go_at_call 12; refine (sound_yes ⟨pb, cb, po, co, ps, cs⟩ b _ (HB.out.below (by (repeat (first | (with_reducible exact Below.refl _ _) | (with_reducible assumption) | ((with_reducible refine below_ext_trans ?_ ?_ _); rotate_left; focus (((try dsimp only); repeat (first | omega | simp only [World.size_alloc, World.size_setCell, World.size_drew] | (with_reducible refine le_ext_of ?_) | (with_reducible refine le_ext_add ?_))); done)) | ((with_reducible refine Below.alloc ?_ ?_ _); rotate_left; focus (((try dsimp only); repeat (first | omega | simp only [World.size_alloc, World.size_setCell, World.size_drew] | (with_reducible refine le_ext_of ?_) | (with_reducible refine le_ext_add ?_))); done)) | ((with_reducible refine Below.setCell ?_ ?_ _); rotate_left; focus (((try dsimp only); repeat (first | omega | simp only [World.size_alloc, World.size_setCell, World.size_drew] | (with_reducible refine le_ext_of ?_) | (with_reducible refine le_ext_add ?_))); done)) | (with_reducible refine Below.drew ?_))))) HV.out).mono ?_; rintro e w1 ⟨rfl, y1, rfl⟩)
  go_wp2_with (go_at_call 13; refine (shot_any _ (HN.out.below (by (repeat (first | (with_reducible exact Below.refl _ _) | (with_reducible assumption) | ((with_reducible refine below_ext_trans ?_ ?_ _); rotate_left; focus (((try dsimp only); repeat (first | omega | simp only [World.size_alloc, World.size_setCell, World.size_drew] | (with_reducible refine le_ext_of ?_) | (with_reducible refine le_ext_add ?_))); done)) | ((with_reducible refine Below.alloc ?_ ?_ _); rotate_left; focus (((try dsimp only); repeat (first | omega | simp only [World.size_alloc, World.size_setCell, World.size_drew] | (with_reducible refine le_ext_of ?_) | (with_reducible refine le_ext_add ?_))); done)) | ((with_reducible refine Below.setCell ?_ ?_ _); rotate_left; focus (((try dsimp only); repeat (first | omega | simp only [World.size_alloc, World.size_setCell, World.size_drew] | (with_reducible refine le_ext_of ?_) | (with_reducible refine le_ext_add ?_))); done)) | (with_reducible refine Below.drew ?_)))))).mono ?_; rintro e w1 ⟨rfl, y, rfl⟩)
  go_ret
  exact ⟨rfl, by (exact ext_of (by (repeat (first | (with_reducible exact Below.refl _ _) | (with_reducible assumption) | ((with_reducible refine below_ext_trans ?_ ?_ _); rotate_left; focus (((try dsimp only); repeat (first | omega | simp only [World.size_alloc, World.size_setCell, World.size_drew] | (with_reducible refine le_ext_of ?_) | (with_reducible refine le_ext_add ?_))); done)) | ((with_reducible refine Below.alloc ?_ ?_ _); rotate_left; focus (((try dsimp only); repeat (first | omega | simp only [World.size_alloc, World.size_setCell, World.size_drew] | (with_reducible refine le_ext_of ?_) | (with_reducible refine le_ext_add ?_))); done)) | ((with_reducible refine Below.setCell ?_ ?_ _); rotate_left; focus (((try dsimp only); repeat (first | omega | simp only [World.size_alloc, World.size_setCell, World.size_drew] | (with_reducible refine le_ext_of ?_) | (with_reducible refine le_ext_add ?_))); done)) | (with_reducible refine Below.drew ?_)))))⟩
set_option maxRecDepth 100000 in
set_option maxHeartbeats 4000000 in
theorem TurnLearn_yes (h : Hd) (b : Bk) (n0 : Int) (w : World) (hb : BkAt w h b) (hv : bookB b = true) (hn : NB w) (hcap : b.bs.length ≤ h.cb) (hne : b.bs ≠ []) :
    Calls Tryd.prog 10 #[.agg #[.int .i64 b.n, .slice h.pb b.bs.length h.cb, .slice h.po b.os.length h.co, .slice h.ps b.ss.length h.cs], .int .i64 n0] w fun e w' => e = .returned (.bool true) ∧ ∃ x, w' = ext w x := by
  obtain ⟨pb, cb, po, co, ps, cs⟩ := h
  dsimp only at hcap ⊢
  have h4 := (bookB_bounds hv).1
  have hpos : 0 < b.bs.length := List.length_pos_iff.2 hne
  obtain ⟨k, hk⟩ : ∃ k, learnN b = k := ⟨_, rfl⟩
  obtain ⟨hkl, hbest⟩ := learn_best h4 hpos
  rw [hk] at hkl hbest
  obtain ⟨j, ej⟩ := Int.eq_ofNat_of_zero_le (Int.emod_nonneg n0 (show (b.bs.length : Int) ≠ 0 by omega))
  have hjl : j < b.bs.length := by have := Int.emod_lt_of_pos n0 (show 0 < (b.bs.length : Int) by omega); omega
  have hb2 := hbest j hjl
  obtain ⟨⟨lo, hi⟩, hbk⟩ := get_some b.bs k hkl
  obtain ⟨⟨lo2, hi2⟩, hbj⟩ := get_some b.bs j hjl
  obtain ⟨x, hx⟩ : ∃ x, wk b k = x := ⟨_, rfl⟩
  obtain ⟨y, hy⟩ : ∃ y, wk b j = y := ⟨_, rfl⟩
  have hxs := (wk_le b k).1
  rw [hx] at hb2 hxs
  rw [hy] at hb2
  have hl1 : ¬ (b.bs.length : Int) = 0 := by omega
  have HB := Lib.hid hb
  have HN := Lib.hid hn
  have HV := Lib.hid hv
  have HNE := Lib.hid hne
  have HCAP := Lib.hid hcap
  have HK := Lib.hid hk
  have HBK := Lib.hid hbk
  have HBJ := Lib.hid hbj
  have HX := Lib.hid hx
  have HY := Lib.hid hy
  have EJ := Lib.hid ej
  have HL1 := Lib.hid (show 1 ≤ (b.bs.length : Int) ∧ (b.bs.length : Int) ≤ 1000000 by omega)
  have HBE := Lib.hid hb2
  have k0 : (0 : Int) ≤ (k : Int) := by omega
  have k1 : (k : Int) ≤ (b.bs.length : Int) - 1 := by omega
  clear hb hn hv hne hcap hk hbest hbk hbj hx hy ej hb2
  go_enter Tryd.func10, Tryd.ntmps10
  go_upto_region 1 with fail
  generalize hW1 : w.alloc _ = W1
  have hB1 : Below w.heap.size w W1 := by rw [← hW1]; (repeat (first | (with_reducible exact Below.refl _ _) | (with_reducible assumption) | ((with_reducible refine below_ext_trans ?_ ?_ _); rotate_left; focus (((try dsimp only); repeat (first | omega | simp only [World.size_alloc, World.size_setCell, World.size_drew] | (with_reducible refine le_ext_of ?_) | (with_reducible refine le_ext_add ?_))); done)) | ((with_reducible refine Below.alloc ?_ ?_ _); rotate_left; focus (((try dsimp only); repeat (first | omega | simp only [World.size_alloc, World.size_setCell, World.size_drew] | (with_reducible refine le_ext_of ?_) | (with_reducible refine le_ext_add ?_))); done)) | ((with_reducible refine Below.setCell ?_ ?_ _); rotate_left; focus (((try dsimp only); repeat (first | omega | simp only [World.size_alloc, World.size_setCell, World.size_drew] | (with_reducible refine le_ext_of ?_) | (with_reducible refine le_ext_add ?_))); done)) | (with_reducible refine Below.drew ?_)))
  have kb1 : Blk W1 w.heap.size 26 #[.int .i64 b.n, .slice pb b.bs.length cb, .slice po b.os.length co, .slice ps b.ss.length cs] := by rw [← hW1]; exact Blk.new rfl
  have HB1 := Lib.hid (HB.out.below hB1)
  have HN1 := Lib.hid (HN.out.below hB1)
  have HW1 := Lib.hid hB1
  have d0 := kb1.cell 0
  have d1 := kb1.cell 1
  have d2 := kb1.cell 2
  have d3 := kb1.cell 3
  simp only [List.size_toArray, List.length_cons, List.length_nil, Nat.reduceAdd, Nat.reduceLT, getElem?_pos, List.getElem_toArray, List.getElem_cons_zero, List.getElem_cons_succ] at d0 d1 d2 d3
  have kl := kb1.lt
  clear hW1 hB1 kb1
  go_upto_region 2 with (go_at_call 38; refine (Learn_eq ⟨pb, cb, po, co, ps, cs⟩ b k _ (HB1.out.below (by (repeat (first | (with_reducible exact Below.refl _ _) | (with_reducible assumption) | ((with_reducible refine below_ext_trans ?_ ?_ _); rotate_left; focus (((try dsimp only); repeat (first | omega | simp only [World.size_alloc, World.size_setCell, World.size_drew] | (with_reducible refine le_ext_of ?_) | (with_reducible refine le_ext_add ?_))); done)) | ((with_reducible refine Below.alloc ?_ ?_ _); rotate_left; focus (((try dsimp only); repeat (first | omega | simp only [World.size_alloc, World.size_setCell, World.size_drew] | (with_reducible refine le_ext_of ?_) | (with_reducible refine le_ext_add ?_))); done)) | ((with_reducible refine Below.setCell ?_ ?_ _); rotate_left; focus (((try dsimp only); repeat (first | omega | simp only [World.size_alloc, World.size_setCell, World.size_drew] | (with_reducible refine le_ext_of ?_) | (with_reducible refine le_ext_add ?_))); done)) | (with_reducible refine Below.drew ?_))))) HV.out (HN1.out.below (by (repeat (first | (with_reducible exact Below.refl _ _) | (with_reducible assumption) | ((with_reducible refine below_ext_trans ?_ ?_ _); rotate_left; focus (((try dsimp only); repeat (first | omega | simp only [World.size_alloc, World.size_setCell, World.size_drew] | (with_reducible refine le_ext_of ?_) | (with_reducible refine le_ext_add ?_))); done)) | ((with_reducible refine Below.alloc ?_ ?_ _); rotate_left; focus (((try dsimp only); repeat (first | omega | simp only [World.size_alloc, World.size_setCell, World.size_drew] | (with_reducible refine le_ext_of ?_) | (with_reducible refine le_ext_add ?_))); done)) | ((with_reducible refine Below.setCell ?_ ?_ _); rotate_left; focus (((try dsimp only); repeat (first | omega | simp only [World.size_alloc, World.size_setCell, World.size_drew] | (with_reducible refine le_ext_of ?_) | (with_reducible refine le_ext_add ?_))); done)) | (with_reducible refine Below.drew ?_))))) HCAP.out HNE.out HK.out).mono ?_; rintro e w1 ⟨rfl, y0, rfl⟩)
  go_upto_region 4 with (go_at_call 12; refine (sound_yes ⟨pb, cb, po, co, ps, cs⟩ b _ (HB1.out.below (by (repeat (first | (with_reducible exact Below.refl _ _) | (with_reducible assumption) | ((with_reducible refine below_ext_trans ?_ ?_ _); rotate_left; focus (((try dsimp only); repeat (first | omega | simp only [World.size_alloc, World.size_setCell, World.size_drew] | (with_reducible refine le_ext_of ?_) | (with_reducible refine le_ext_add ?_))); done)) | ((with_reducible refine Below.alloc ?_ ?_ _); rotate_left; focus (((try dsimp only); repeat (first | omega | simp only [World.size_alloc, World.size_setCell, World.size_drew] | (with_reducible refine le_ext_of ?_) | (with_reducible refine le_ext_add ?_))); done)) | ((with_reducible refine Below.setCell ?_ ?_ _); rotate_left; focus (((try dsimp only); repeat (first | omega | simp only [World.size_alloc, World.size_setCell, World.size_drew] | (with_reducible refine le_ext_of ?_) | (with_reducible refine le_ext_add ?_))); done)) | (with_reducible refine Below.drew ?_))))) HV.out).mono ?_; rintro e w1 ⟨rfl, y1, rfl⟩)
  go_upto_region 6 with (go_at_call 25; refine (Between_yes _ _ _ _ (by omega) (by omega)).mono ?_; rintro e w1 ⟨rfl, rfl⟩)
  go_upto_region 7 with (go_at_call 14; refine (Wheel_eq n0 _ j _ HL1.out EJ.out).mono ?_; rintro e w1 ⟨rfl, y2, rfl⟩)
  refine wp_region_ext (by kernel_rfl) (by kernel_rfl) ?_
  repeat (go_big_quiet_step (fail))
  go_big_quiet_step ((go_at_call 39; exact quiet_ext (undecided_eq ⟨pb, cb, po, co, ps, cs⟩ b k lo hi x _ (HB1.out.below (by (repeat (first | (with_reducible exact Below.refl _ _) | (with_reducible assumption) | ((with_reducible refine below_ext_trans ?_ ?_ _); rotate_left; focus (((try dsimp only); repeat (first | omega | simp only [World.size_alloc, World.size_setCell, World.size_drew] | (with_reducible refine le_ext_of ?_) | (with_reducible refine le_ext_add ?_))); done)) | ((with_reducible refine Below.alloc ?_ ?_ _); rotate_left; focus (((try dsimp only); repeat (first | omega | simp only [World.size_alloc, World.size_setCell, World.size_drew] | (with_reducible refine le_ext_of ?_) | (with_reducible refine le_ext_add ?_))); done)) | ((with_reducible refine Below.setCell ?_ ?_ _); rotate_left; focus (((try dsimp only); repeat (first | omega | simp only [World.size_alloc, World.size_setCell, World.size_drew] | (with_reducible refine le_ext_of ?_) | (with_reducible refine le_ext_add ?_))); done)) | (with_reducible refine Below.drew ?_))))) HV.out (HN1.out.below (by (repeat (first | (with_reducible exact Below.refl _ _) | (with_reducible assumption) | ((with_reducible refine below_ext_trans ?_ ?_ _); rotate_left; focus (((try dsimp only); repeat (first | omega | simp only [World.size_alloc, World.size_setCell, World.size_drew] | (with_reducible refine le_ext_of ?_) | (with_reducible refine le_ext_add ?_))); done)) | ((with_reducible refine Below.alloc ?_ ?_ _); rotate_left; focus (((try dsimp only); repeat (first | omega | simp only [World.size_alloc, World.size_setCell, World.size_drew] | (with_reducible refine le_ext_of ?_) | (with_reducible refine le_ext_add ?_))); done)) | ((with_reducible refine Below.setCell ?_ ?_ _); rotate_left; focus (((try dsimp only); repeat (first | omega | simp only [World.size_alloc, World.size_setCell, World.size_drew] | (with_reducible refine le_ext_of ?_) | (with_reducible refine le_ext_add ?_))); done)) | (with_reducible refine Below.drew ?_))))) HBK.out HX.out)))
  repeat (go_big_quiet_step (fail))
  go_big_quiet_step ((go_at_call 39; exact quiet_ext (undecided_eq ⟨pb, cb, po, co, ps, cs⟩ b j lo2 hi2 y _ (HB1.out.below (by (repeat (first | (with_reducible exact Below.refl _ _) | (with_reducible assumption) | ((with_reducible refine below_ext_trans ?_ ?_ _); rotate_left; focus (((try dsimp only); repeat (first | omega | simp only [World.size_alloc, World.size_setCell, World.size_drew] | (with_reducible refine le_ext_of ?_) | (with_reducible refine le_ext_add ?_))); done)) | ((with_reducible refine Below.alloc ?_ ?_ _); rotate_left; focus (((try dsimp only); repeat (first | omega | simp only [World.size_alloc, World.size_setCell, World.size_drew] | (with_reducible refine le_ext_of ?_) | (with_reducible refine le_ext_add ?_))); done)) | ((with_reducible refine Below.setCell ?_ ?_ _); rotate_left; focus (((try dsimp only); repeat (first | omega | simp only [World.size_alloc, World.size_setCell, World.size_drew] | (with_reducible refine le_ext_of ?_) | (with_reducible refine le_ext_add ?_))); done)) | (with_reducible refine Below.drew ?_))))) HV.out (HN1.out.below (by (repeat (first | (with_reducible exact Below.refl _ _) | (with_reducible assumption) | ((with_reducible refine below_ext_trans ?_ ?_ _); rotate_left; focus (((try dsimp only); repeat (first | omega | simp only [World.size_alloc, World.size_setCell, World.size_drew] | (with_reducible refine le_ext_of ?_) | (with_reducible refine le_ext_add ?_))); done)) | ((with_reducible refine Below.alloc ?_ ?_ _); rotate_left; focus (((try dsimp only); repeat (first | omega | simp only [World.size_alloc, World.size_setCell, World.size_drew] | (with_reducible refine le_ext_of ?_) | (with_reducible refine le_ext_add ?_))); done)) | ((with_reducible refine Below.setCell ?_ ?_ _); rotate_left; focus (((try dsimp only); repeat (first | omega | simp only [World.size_alloc, World.size_setCell, World.size_drew] | (with_reducible refine le_ext_of ?_) | (with_reducible refine le_ext_add ?_))); done)) | (with_reducible refine Below.drew ?_))))) HBJ.out HY.out)))
  repeat (go_big_quiet_step (fail))
  (refine wpQuiet_nil ?_; rintro _ ⟨x, rfl⟩)
  rcases HBE.out with hlt | ⟨rfl, hkj⟩
  · go_wp2_with (go_at_call 13; refine (shot_any _ (HN1.out.below (by (repeat (first | (with_reducible exact Below.refl _ _) | (with_reducible assumption) | ((with_reducible refine below_ext_trans ?_ ?_ _); rotate_left; focus (((try dsimp only); repeat (first | omega | simp only [World.size_alloc, World.size_setCell, World.size_drew] | (with_reducible refine le_ext_of ?_) | (with_reducible refine le_ext_add ?_))); done)) | ((with_reducible refine Below.alloc ?_ ?_ _); rotate_left; focus (((try dsimp only); repeat (first | omega | simp only [World.size_alloc, World.size_setCell, World.size_drew] | (with_reducible refine le_ext_of ?_) | (with_reducible refine le_ext_add ?_))); done)) | ((with_reducible refine Below.setCell ?_ ?_ _); rotate_left; focus (((try dsimp only); repeat (first | omega | simp only [World.size_alloc, World.size_setCell, World.size_drew] | (with_reducible refine le_ext_of ?_) | (with_reducible refine le_ext_add ?_))); done)) | (with_reducible refine Below.drew ?_)))))).mono ?_; rintro e w1 ⟨rfl, y, rfl⟩)
    go_ret
    exact ⟨rfl, by have hB := HW1.out; have hBs := hB.size; (exact ext_of (by (repeat (first | (with_reducible exact Below.refl _ _) | (with_reducible assumption) | ((with_reducible refine below_ext_trans ?_ ?_ _); rotate_left; focus (((try dsimp only); repeat (first | omega | simp only [World.size_alloc, World.size_setCell, World.size_drew] | (with_reducible refine le_ext_of ?_) | (with_reducible refine le_ext_add ?_))); done)) | ((with_reducible refine Below.alloc ?_ ?_ _); rotate_left; focus (((try dsimp only); repeat (first | omega | simp only [World.size_alloc, World.size_setCell, World.size_drew] | (with_reducible refine le_ext_of ?_) | (with_reducible refine le_ext_add ?_))); done)) | ((with_reducible refine Below.setCell ?_ ?_ _); rotate_left; focus (((try dsimp only); repeat (first | omega | simp only [World.size_alloc, World.size_setCell, World.size_drew] | (with_reducible refine le_ext_of ?_) | (with_reducible refine le_ext_add ?_))); done)) | (with_reducible refine Below.drew ?_)))))⟩
  · have hkj' : (k : Int) ≤ (j : Int) := by omega
    go_wp2_with (go_at_call 13; refine (shot_any _ (HN1.out.below (by (repeat (first | (with_reducible exact Below.refl _ _) | (with_reducible assumption) | ((with_reducible refine below_ext_trans ?_ ?_ _); rotate_left; focus (((try dsimp only); repeat (first | omega | simp only [World.size_alloc, World.size_setCell, World.size_drew] | (with_reducible refine le_ext_of ?_) | (with_reducible refine le_ext_add ?_))); done)) | ((with_reducible refine Below.alloc ?_ ?_ _); rotate_left; focus (((try dsimp only); repeat (first | omega | simp only [World.size_alloc, World.size_setCell, World.size_drew] | (with_reducible refine le_ext_of ?_) | (with_reducible refine le_ext_add ?_))); done)) | ((with_reducible refine Below.setCell ?_ ?_ _); rotate_left; focus (((try dsimp only); repeat (first | omega | simp only [World.size_alloc, World.size_setCell, World.size_drew] | (with_reducible refine le_ext_of ?_) | (with_reducible refine le_ext_add ?_))); done)) | (with_reducible refine Below.drew ?_)))))).mono ?_; rintro e w1 ⟨rfl, y, rfl⟩)
    go_ret
    exact ⟨rfl, by have hB := HW1.out; have hBs := hB.size; (exact ext_of (by (repeat (first | (with_reducible exact Below.refl _ _) | (with_reducible assumption) | ((with_reducible refine below_ext_trans ?_ ?_ _); rotate_left; focus (((try dsimp only); repeat (first | omega | simp only [World.size_alloc, World.size_setCell, World.size_drew] | (with_reducible refine le_ext_of ?_) | (with_reducible refine le_ext_add ?_))); done)) | ((with_reducible refine Below.alloc ?_ ?_ _); rotate_left; focus (((try dsimp only); repeat (first | omega | simp only [World.size_alloc, World.size_setCell, World.size_drew] | (with_reducible refine le_ext_of ?_) | (with_reducible refine le_ext_add ?_))); done)) | ((with_reducible refine Below.setCell ?_ ?_ _); rotate_left; focus (((try dsimp only); repeat (first | omega | simp only [World.size_alloc, World.size_setCell, World.size_drew] | (with_reducible refine le_ext_of ?_) | (with_reducible refine le_ext_add ?_))); done)) | (with_reducible refine Below.drew ?_)))))⟩
theorem TurnLearn_any (h : Hd) (b : Bk) (n0 : Int) (w : World) (hb : BkAt w h b) (hn : NB w) (hcap : b.bs.length ≤ h.cb) :
    Calls Tryd.prog 10 #[.agg #[.int .i64 b.n, .slice h.pb b.bs.length h.cb, .slice h.po b.os.length h.co, .slice h.ps b.ss.length h.cs], .int .i64 n0] w fun e w' => e = .returned (.bool true) ∧ ∃ x, w' = ext w x := by
  cases hv : bookB b with
  | false => exact TurnLearn_bad h b n0 w hb hv hn
  | true =>
    by_cases hne : b.bs = []
    · exact TurnLearn_none h b n0 w hb hv hn hne
    · exact TurnLearn_yes h b n0 w hb hv hn hcap hne
end Go.Proofs.YtmnbfjphndgmnaaDoor

