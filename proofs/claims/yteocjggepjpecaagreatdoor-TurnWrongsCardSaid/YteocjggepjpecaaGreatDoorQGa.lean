/- Contracts of the reference's leaves: minute, isStation, isCompany, isShot, turn, And. -/
/- Contract of the reference's And; rows of numbers in memory of the call's own. -/
import Derived.Test.YteocjggepjpecaaGreatDoorQXa0
import Derived.Test.YteocjggepjpecaaGreatDoorQUa
set_option linter.unusedSimpArgs false
set_option linter.unusedVariables false
namespace Go.Proofs.YteocjggepjpecaaGreatDoor
open Go Go.RowKit

theorem Sane_no (lo hi a b : Int) (w : World) (h : ¬ (a ≤ lo ∧ hi ≤ b ∧ lo ≤ hi)) : Calls Tryz.prog 72 #[.agg #[.int .i64 lo, .int .i64 hi], .int .i64 a, .int .i64 b] w fun e w' => e = .returned (.bool false) ∧ ∃ x, w' = ext w x := by
  by_cases h1 : a ≤ lo
  · by_cases h2 : hi ≤ b
    · have h3 : decide (lo ≤ hi) = false := by simp; omega
      clear h
      go_enter Tryz.func72, Tryz.ntmps72
      go_wp2
      go_ret
      exact ⟨by simp [h3], by (exact ext_of (by (repeat (first | (with_reducible exact Below.refl _ _) | (with_reducible assumption) | ((with_reducible refine below_ext_trans ?_ ?_ _); rotate_left; focus (((try dsimp only); repeat (first | omega | simp only [World.size_alloc, World.size_setCell, World.size_drew] | (with_reducible refine le_ext_of ?_) | (with_reducible refine le_ext_add ?_))); done)) | ((with_reducible refine Below.alloc ?_ ?_ _); rotate_left; focus (((try dsimp only); repeat (first | omega | simp only [World.size_alloc, World.size_setCell, World.size_drew] | (with_reducible refine le_ext_of ?_) | (with_reducible refine le_ext_add ?_))); done)) | ((with_reducible refine Below.setCell ?_ ?_ _); rotate_left; focus (((try dsimp only); repeat (first | omega | simp only [World.size_alloc, World.size_setCell, World.size_drew] | (with_reducible refine le_ext_of ?_) | (with_reducible refine le_ext_add ?_))); done)) | (with_reducible refine Below.drew ?_)))))⟩
    · have h2' : decide (hi ≤ b) = false := by simpa using h2
      clear h h2
      go_enter Tryz.func72, Tryz.ntmps72
      go_wp2
      go_ret
      exact ⟨rfl, by (exact ext_of (by (repeat (first | (with_reducible exact Below.refl _ _) | (with_reducible assumption) | ((with_reducible refine below_ext_trans ?_ ?_ _); rotate_left; focus (((try dsimp only); repeat (first | omega | simp only [World.size_alloc, World.size_setCell, World.size_drew] | (with_reducible refine le_ext_of ?_) | (with_reducible refine le_ext_add ?_))); done)) | ((with_reducible refine Below.alloc ?_ ?_ _); rotate_left; focus (((try dsimp only); repeat (first | omega | simp only [World.size_alloc, World.size_setCell, World.size_drew] | (with_reducible refine le_ext_of ?_) | (with_reducible refine le_ext_add ?_))); done)) | ((with_reducible refine Below.setCell ?_ ?_ _); rotate_left; focus (((try dsimp only); repeat (first | omega | simp only [World.size_alloc, World.size_setCell, World.size_drew] | (with_reducible refine le_ext_of ?_) | (with_reducible refine le_ext_add ?_))); done)) | (with_reducible refine Below.drew ?_)))))⟩
  · have h1' : decide (a ≤ lo) = false := by simpa using h1
    clear h h1
    go_enter Tryz.func72, Tryz.ntmps72
    go_wp2
    go_ret
    exact ⟨rfl, by (exact ext_of (by (repeat (first | (with_reducible exact Below.refl _ _) | (with_reducible assumption) | ((with_reducible refine below_ext_trans ?_ ?_ _); rotate_left; focus (((try dsimp only); repeat (first | omega | simp only [World.size_alloc, World.size_setCell, World.size_drew] | (with_reducible refine le_ext_of ?_) | (with_reducible refine le_ext_add ?_))); done)) | ((with_reducible refine Below.alloc ?_ ?_ _); rotate_left; focus (((try dsimp only); repeat (first | omega | simp only [World.size_alloc, World.size_setCell, World.size_drew] | (with_reducible refine le_ext_of ?_) | (with_reducible refine le_ext_add ?_))); done)) | ((with_reducible refine Below.setCell ?_ ?_ _); rotate_left; focus (((try dsimp only); repeat (first | omega | simp only [World.size_alloc, World.size_setCell, World.size_drew] | (with_reducible refine le_ext_of ?_) | (with_reducible refine le_ext_add ?_))); done)) | (with_reducible refine Below.drew ?_)))))⟩
theorem minute_any (lo hi : Int) (w : World) : Calls Tryz.prog 38 #[.agg #[.int .i64 lo, .int .i64 hi]] w fun e w' => e = .returned (.bool (momB lo hi)) ∧ ∃ x, w' = ext w x := by
  by_cases h : 0 ≤ lo ∧ hi ≤ 1439 ∧ lo ≤ hi
  · have e1 : IntKind.i64.wrap (hi - lo) = hi - lo := IntWalk.i64_in _ (by omega)
    have H := Lib.hid (show momB lo hi = decide (hi - lo ≤ 10) by
      by_cases h2 : hi - lo ≤ 10
      · rw [decide_eq_true h2, momB_iff]; unfold Mom; omega
      · rw [decide_eq_false h2, momB_no]; unfold Mom; omega)
    have H1 := Lib.hid h
    clear h
    go_enter Tryz.func38, Tryz.ntmps38
    go_wp2_with (go_at_call 72; refine (Sane_yes _ _ _ _ _ H1.out.1 H1.out.2.1 H1.out.2.2).mono ?_; rintro e w' ⟨rfl, y, rfl⟩)
    go_ret
    exact ⟨by rw [H.out]; first | rfl | simp [e1], by (exact ext_of (by (repeat (first | (with_reducible exact Below.refl _ _) | (with_reducible assumption) | ((with_reducible refine below_ext_trans ?_ ?_ _); rotate_left; focus (((try dsimp only); repeat (first | omega | simp only [World.size_alloc, World.size_setCell, World.size_drew] | (with_reducible refine le_ext_of ?_) | (with_reducible refine le_ext_add ?_))); done)) | ((with_reducible refine Below.alloc ?_ ?_ _); rotate_left; focus (((try dsimp only); repeat (first | omega | simp only [World.size_alloc, World.size_setCell, World.size_drew] | (with_reducible refine le_ext_of ?_) | (with_reducible refine le_ext_add ?_))); done)) | ((with_reducible refine Below.setCell ?_ ?_ _); rotate_left; focus (((try dsimp only); repeat (first | omega | simp only [World.size_alloc, World.size_setCell, World.size_drew] | (with_reducible refine le_ext_of ?_) | (with_reducible refine le_ext_add ?_))); done)) | (with_reducible refine Below.drew ?_)))))⟩
  · have H := Lib.hid (show momB lo hi = false by rw [momB_no]; unfold Mom; omega)
    have H1 := Lib.hid h
    clear h
    go_enter Tryz.func38, Tryz.ntmps38
    go_wp2_with (go_at_call 72; refine (Sane_no _ _ _ _ _ H1.out).mono ?_; rintro e w' ⟨rfl, y, rfl⟩)
    go_ret
    exact ⟨by rw [H.out]; rfl, by (exact ext_of (by (repeat (first | (with_reducible exact Below.refl _ _) | (with_reducible assumption) | ((with_reducible refine below_ext_trans ?_ ?_ _); rotate_left; focus (((try dsimp only); repeat (first | omega | simp only [World.size_alloc, World.size_setCell, World.size_drew] | (with_reducible refine le_ext_of ?_) | (with_reducible refine le_ext_add ?_))); done)) | ((with_reducible refine Below.alloc ?_ ?_ _); rotate_left; focus (((try dsimp only); repeat (first | omega | simp only [World.size_alloc, World.size_setCell, World.size_drew] | (with_reducible refine le_ext_of ?_) | (with_reducible refine le_ext_add ?_))); done)) | ((with_reducible refine Below.setCell ?_ ?_ _); rotate_left; focus (((try dsimp only); repeat (first | omega | simp only [World.size_alloc, World.size_setCell, World.size_drew] | (with_reducible refine le_ext_of ?_) | (with_reducible refine le_ext_add ?_))); done)) | (with_reducible refine Below.drew ?_)))))⟩
theorem le_isN (a : Int) (n : Nat) : decide (0 ≤ a ∧ a ≤ (n : Int) - 1) = isN a n := by
  unfold isN
  congr 1
  exact propext ⟨fun h => by omega, fun h => by omega⟩
theorem le_isN' (a n : Int) : decide (0 ≤ a ∧ a ≤ n - 1) = isN a n := by
  unfold isN
  congr 1
  exact propext ⟨fun h => by omega, fun h => by omega⟩
theorem risStation_any (n : Int) (pb po ps : Option Addr) (nb cb no co ns cs : Nat) (a : Int) (w : World) (hno : (no : Int) ≤ 1000000) : Calls Tryz.prog 40 #[.agg #[.int .i64 n, .slice pb nb cb, .slice po no co, .slice ps ns cs], .int .i64 a] w fun e w' => e = .returned (.bool (isN a no)) ∧ ∃ x, w' = ext w x := by
  have e1 : IntKind.i64.wrap ((no : Int) - 1) = (no : Int) - 1 := IntWalk.i64_in _ (by omega)
  go_enter Tryz.func40, Tryz.ntmps40
  go_wp2_with (go_at_call 32; refine (Between_any _ _ _ _).mono ?_; rintro e w' ⟨rfl, rfl⟩)
  go_ret
  exact ⟨by rw [← le_isN, Bool.decide_and]; rfl, by (exact ext_of (by (repeat (first | (with_reducible exact Below.refl _ _) | (with_reducible assumption) | ((with_reducible refine below_ext_trans ?_ ?_ _); rotate_left; focus (((try dsimp only); repeat (first | omega | simp only [World.size_alloc, World.size_setCell, World.size_drew] | (with_reducible refine le_ext_of ?_) | (with_reducible refine le_ext_add ?_))); done)) | ((with_reducible refine Below.alloc ?_ ?_ _); rotate_left; focus (((try dsimp only); repeat (first | omega | simp only [World.size_alloc, World.size_setCell, World.size_drew] | (with_reducible refine le_ext_of ?_) | (with_reducible refine le_ext_add ?_))); done)) | ((with_reducible refine Below.setCell ?_ ?_ _); rotate_left; focus (((try dsimp only); repeat (first | omega | simp only [World.size_alloc, World.size_setCell, World.size_drew] | (with_reducible refine le_ext_of ?_) | (with_reducible refine le_ext_add ?_))); done)) | (with_reducible refine Below.drew ?_)))))⟩
theorem risShot_any (n : Int) (pb po ps : Option Addr) (nb cb no co ns cs : Nat) (a : Int) (w : World) (hns : (ns : Int) ≤ 1000000) : Calls Tryz.prog 53 #[.agg #[.int .i64 n, .slice pb nb cb, .slice po no co, .slice ps ns cs], .int .i64 a] w fun e w' => e = .returned (.bool (isN a ns)) ∧ ∃ x, w' = ext w x := by
  have e1 : IntKind.i64.wrap ((ns : Int) - 1) = (ns : Int) - 1 := IntWalk.i64_in _ (by omega)
  go_enter Tryz.func53, Tryz.ntmps53
  go_wp2_with (go_at_call 32; refine (Between_any _ _ _ _).mono ?_; rintro e w' ⟨rfl, rfl⟩)
  go_ret
  exact ⟨by rw [← le_isN, Bool.decide_and]; rfl, by (exact ext_of (by (repeat (first | (with_reducible exact Below.refl _ _) | (with_reducible assumption) | ((with_reducible refine below_ext_trans ?_ ?_ _); rotate_left; focus (((try dsimp only); repeat (first | omega | simp only [World.size_alloc, World.size_setCell, World.size_drew] | (with_reducible refine le_ext_of ?_) | (with_reducible refine le_ext_add ?_))); done)) | ((with_reducible refine Below.alloc ?_ ?_ _); rotate_left; focus (((try dsimp only); repeat (first | omega | simp only [World.size_alloc, World.size_setCell, World.size_drew] | (with_reducible refine le_ext_of ?_) | (with_reducible refine le_ext_add ?_))); done)) | ((with_reducible refine Below.setCell ?_ ?_ _); rotate_left; focus (((try dsimp only); repeat (first | omega | simp only [World.size_alloc, World.size_setCell, World.size_drew] | (with_reducible refine le_ext_of ?_) | (with_reducible refine le_ext_add ?_))); done)) | (with_reducible refine Below.drew ?_)))))⟩
theorem risCompany_any (n : Int) (pb po ps : Option Addr) (nb cb no co ns cs : Nat) (a : Int) (w : World) (hn : 1 ≤ n ∧ n ≤ 4) : Calls Tryz.prog 39 #[.agg #[.int .i64 n, .slice pb nb cb, .slice po no co, .slice ps ns cs], .int .i64 a] w fun e w' => e = .returned (.bool (isN a n)) ∧ ∃ x, w' = ext w x := by
  have e1 : IntKind.i64.wrap (n - 1) = n - 1 := IntWalk.i64_in _ (by omega)
  go_enter Tryz.func39, Tryz.ntmps39
  go_wp2_with (go_at_call 32; refine (Between_any _ _ _ _).mono ?_; rintro e w' ⟨rfl, rfl⟩)
  go_ret
  exact ⟨by rw [← le_isN', Bool.decide_and]; rfl, by (exact ext_of (by (repeat (first | (with_reducible exact Below.refl _ _) | (with_reducible assumption) | ((with_reducible refine below_ext_trans ?_ ?_ _); rotate_left; focus (((try dsimp only); repeat (first | omega | simp only [World.size_alloc, World.size_setCell, World.size_drew] | (with_reducible refine le_ext_of ?_) | (with_reducible refine le_ext_add ?_))); done)) | ((with_reducible refine Below.alloc ?_ ?_ _); rotate_left; focus (((try dsimp only); repeat (first | omega | simp only [World.size_alloc, World.size_setCell, World.size_drew] | (with_reducible refine le_ext_of ?_) | (with_reducible refine le_ext_add ?_))); done)) | ((with_reducible refine Below.setCell ?_ ?_ _); rotate_left; focus (((try dsimp only); repeat (first | omega | simp only [World.size_alloc, World.size_setCell, World.size_drew] | (with_reducible refine le_ext_of ?_) | (with_reducible refine le_ext_add ?_))); done)) | (with_reducible refine Below.drew ?_)))))⟩
/-- The turn at a minute, by the true minutes of all bounds. -/
theorem rturn_any (p : Option Addr) (c : Nat) (v : List Int) (m : Int) (w : World) (hs : IntsAt w p v) (h4 : (v.length : Int) ≤ 1000) :
    Calls Tryz.prog 35 #[.slice p v.length c, .int .i64 m] w fun e w' => e = .returned (.int .i64 (cnt v m)) ∧ ∃ x, w' = ext w x := by
  go_enter Tryz.func35, Tryz.ntmps35
  go_wp2_with fail
  go_loopw [5, 6] (fun q i wr => ∃ k n : Nat, k ≤ v.length ∧ n ≤ k ∧ i = .int .i64 k ∧ q = .int .i64 n ∧ Hid (n = cnt (v.take k) m) ∧ ∃ x, wr = ext w x) (fun _ i _ => v.length - (intOf i).toNat)
  case atStart => exact ⟨0, 0, by omega, by omega, rfl, rfl, Lib.hid rfl, ext_of (Below.refl _ _)⟩
  case round =>
    obtain ⟨k, n, hk, hn, rfl, rfl, H, x, rfl⟩ := hrel
    by_cases hlt : k < v.length
    · obtain ⟨t, ht⟩ := get_some v k hlt
      obtain ⟨b, o, rfl, hb, c1⟩ := hs.ext x k _ ht
      have HS := Lib.hid (show cnt (v.take (k + 1)) m = cnt (v.take k) m + if t ≤ m then 1 else 0 by rw [List.take_succ_eq_append_getElem hlt, cnt_snoc, (List.getElem?_eq_some_iff.1 ht).2])
      clear ht
      by_cases hm : t ≤ m
      · have HZ := Lib.hid (show n + 1 = cnt (v.take (k + 1)) m by rw [HS.out, if_pos hm, H.out])
        clear HS
        go_wp2_with fail
        go_roundw
        case rel => exact ⟨k + 1, n + 1, by omega, by omega, by go_num, by go_num, HZ, by (exact ext_of (by (repeat (first | (with_reducible exact Below.refl _ _) | (with_reducible assumption) | ((with_reducible refine below_ext_trans ?_ ?_ _); rotate_left; focus (((try dsimp only); repeat (first | omega | simp only [World.size_alloc, World.size_setCell, World.size_drew] | (with_reducible refine le_ext_of ?_) | (with_reducible refine le_ext_add ?_))); done)) | ((with_reducible refine Below.alloc ?_ ?_ _); rotate_left; focus (((try dsimp only); repeat (first | omega | simp only [World.size_alloc, World.size_setCell, World.size_drew] | (with_reducible refine le_ext_of ?_) | (with_reducible refine le_ext_add ?_))); done)) | ((with_reducible refine Below.setCell ?_ ?_ _); rotate_left; focus (((try dsimp only); repeat (first | omega | simp only [World.size_alloc, World.size_setCell, World.size_drew] | (with_reducible refine le_ext_of ?_) | (with_reducible refine le_ext_add ?_))); done)) | (with_reducible refine Below.drew ?_)))))⟩
        case measure => simp [intOf]; omega
      · have HZ := Lib.hid (show n = cnt (v.take (k + 1)) m by rw [HS.out, if_neg hm, H.out, Nat.add_zero])
        clear HS
        have hm' : decide (t ≤ m) = false := by simpa using hm
        go_wp2_with fail
        go_roundw
        case rel => exact ⟨k + 1, n, by omega, by omega, by go_num, by go_num, HZ, by (exact ext_of (by (repeat (first | (with_reducible exact Below.refl _ _) | (with_reducible assumption) | ((with_reducible refine below_ext_trans ?_ ?_ _); rotate_left; focus (((try dsimp only); repeat (first | omega | simp only [World.size_alloc, World.size_setCell, World.size_drew] | (with_reducible refine le_ext_of ?_) | (with_reducible refine le_ext_add ?_))); done)) | ((with_reducible refine Below.alloc ?_ ?_ _); rotate_left; focus (((try dsimp only); repeat (first | omega | simp only [World.size_alloc, World.size_setCell, World.size_drew] | (with_reducible refine le_ext_of ?_) | (with_reducible refine le_ext_add ?_))); done)) | ((with_reducible refine Below.setCell ?_ ?_ _); rotate_left; focus (((try dsimp only); repeat (first | omega | simp only [World.size_alloc, World.size_setCell, World.size_drew] | (with_reducible refine le_ext_of ?_) | (with_reducible refine le_ext_add ?_))); done)) | (with_reducible refine Below.drew ?_)))))⟩
        case measure => simp [intOf]; omega
    · obtain rfl : k = v.length := by omega
      go_wp2_with fail
      go_ret
      exact ⟨by rw [H.out, List.take_length]; rfl, ext_of (below_ext _ _)⟩
end Go.Proofs.YteocjggepjpecaaGreatDoor

namespace Go.Proofs.YteocjggepjpecaaGreatDoor
open Go Go.RowKit

theorem IntsAt.grown {w w' : World} {p : Option Addr} {l : List Int} (h : IntsAt w p l) {r : Option Nat} (hg : w.grownBy w' r) (hr : ∀ a, p = some a → some a.block ≠ r) : IntsAt w' p l := fun i x hx => by
  obtain ⟨b, o, rfl, hb, hc⟩ := h i x hx
  refine ⟨b, o, rfl, Nat.lt_of_lt_of_le hb hg.size, ?_⟩
  exact (World.cell?_of_block (a := ⟨b, o + i, none⟩) (hg.block b hb (hr _ rfl))).trans hc
theorem IntsAt.cells {w : World} {g o : Nat} {l : List Int} (h : IntsAt w (some ⟨g, o, none⟩) l) : ∀ (j : Nat) (u : Value), (l.map (Value.int .i64))[j]? = some u → w.cell? ((⟨g, o, none⟩ : Addr).add j) = some u := by
  intro j u hj
  rw [List.getElem?_map, Option.map_eq_some_iff] at hj
  obtain ⟨x, hx, rfl⟩ := hj
  obtain ⟨b, o', e, hb, hc⟩ := h j x hx
  cases e
  rw [Addr.add_lit]
  exact hc
/-- A block of numbers. -/
def Typed (w : World) (q : Nat) : Prop := ∃ cur, w.heap[q]? = some (.cells cur 3 (0, 0))
theorem Typed.lt {w : World} {q : Nat} (h : Typed w q) : q < w.heap.size := by obtain ⟨cur, h⟩ := h; exact (Array.getElem?_eq_some_iff.1 h).1
theorem Typed.below {w w' : World} {q : Nat} (h : Typed w q) (hb : Below w.heap.size w w') : Typed w' q := by
  have hl := h.lt
  obtain ⟨cur, h⟩ := h
  exact ⟨cur, (hb.block q hl).trans h⟩
theorem OwnInts.typed {w : World} {B g n c : Nat} {l : List Int} (h : OwnInts w B (.slice (some ⟨g, 0, none⟩) n c) l) : Typed w g := by
  rcases h.2 with ⟨h4, _⟩ | ⟨g', cap, cur, e, hg, hh, _⟩
  · cases h4
  · cases e
    exact ⟨cur, hh⟩
attribute [local go_sem] Oper.semAt_some
set_option maxHeartbeats 4000000 in
theorem And_any (g o c : Nat) (l : List Int) (n : Int) (w : World) (hl : IntsAt w (some ⟨g, o, none⟩) l) (hg : g < w.heap.size) (hb : (l.length : Int) ≤ 1000) :
    Calls Tryz.prog 68 #[.slice (some ⟨g, o, none⟩) l.length c, .int .i64 n] w fun e w' => ∃ g' c' : Nat, e = .returned (.slice (some ⟨g', 0, none⟩) (l.length + 1) c') ∧ IntsAt w' (some ⟨g', 0, none⟩) (l ++ [n]) ∧ Typed w' g' ∧ ∃ x, w' = ext w x := by
  obtain ⟨i0, hi, hz0, hz1, hz2⟩ := info_parts info_int
  go_enter Tryz.func68, Tryz.ntmps68
  go_wp2_with (at_make; refine wpList_make_own _ rfl _ _ 34 rfl w.heap.size 3 i0 (.int .i64 0) 1 under_ints hi hz0 hz1 _ _ _ (l.length + 1) rfl rfl (by simp) (by rw [hz2]; omega) (by unfold maxLen; omega) (Nat.le_refl _) ?_)
  intro w1 ho1 hg1
  have hb1 : Below w.heap.size w w1 := Below.grown (Below.refl _ _) hg1 (Nat.le_refl _) (fun j hj => by cases hj)
  have hl1 := (hl.below hb1).cells
  have HB1 := Lib.hid hb1
  clear hb1 hg1
  go_wp2_with (at_builtin; refine wpList_append_fits _ rfl _ _ 34 rfl w.heap.size 3 i0 1 under_ints hi hz1 _ 0 (l.length + 1) [] rfl ho1 ⟨g, o, none⟩ l.length c (l.map (Value.int .i64)) rfl (by simp) hl1 (ints_oneCell _ _) (by omega) ?_)
  intro w2 ho2 hg2
  have HB2 := Lib.hid (show Below w.heap.size w w2 from Below.grown HB1.out hg2 HB1.out.size (fun j hj => by cases hj; exact Nat.le_refl _))
  have hz2' : w.heap.size ≤ w2.heap.size := HB2.out.size
  clear hg2 ho1
  have ho4 : OwnInts w2 w.heap.size (.slice (some ⟨w.heap.size, 0, none⟩) l.length (l.length + 1)) l := by simpa [OwnInts] using ho2
  have HO4 := Lib.hid ho4
  clear ho2 ho4
  try simp only [Nat.zero_add]
  go_wp2_with (at_builtin; refine wpList_append_fits _ rfl _ _ 34 rfl w.heap.size 3 i0 1 under_ints hi hz1 _ l.length (l.length + 1) _ rfl (HO4.out.below ((Below.refl _ _).alloc (Nat.le_refl _) _)) ⟨w2.heap.size, 0, none⟩ 1 1 [Value.int .i64 n] rfl (by simp) (by intro j u hj; match j, hj with | 0, hj => (simp at hj; subst hj; simp [go_sem])) (by intro u hu; simp at hu; subst hu; rfl) (by omega) ?_)
  intro w3 ho3 hg3
  have ho5 : OwnInts w3 w.heap.size (.slice (some ⟨w.heap.size, 0, none⟩) (l.length + 1) (l.length + 1)) (l ++ [n]) := by simpa [OwnInts] using ho3
  have hlt := ho5.typed
  have hB3 : Below w.heap.size w w3 := Below.grown (HB2.out.trans ((Below.refl _ _).alloc hz2' _)) hg3 (by simp; omega) (fun j hj => by cases hj; exact Nat.le_refl _)
  obtain ⟨p, c2, e, hp, -⟩ := ho5.at
  simp only [Value.slice.injEq] at e
  obtain ⟨rfl, -, rfl⟩ := e
  have HP := Lib.hid hp
  clear ho3 hg3 ho5 hp
  go_wp2_with fail
  go_ret
  exact ⟨w.heap.size, _, rfl, HP.out, hlt, ext_of hB3⟩
theorem And_len (g o c m : Nat) (l : List Int) (n : Int) (w : World) (hm : l.length = m) (hl : IntsAt w (some ⟨g, o, none⟩) l) (hg : g < w.heap.size) (hb : (m : Int) ≤ 1000) :
    Calls Tryz.prog 68 #[.slice (some ⟨g, o, none⟩) m c, .int .i64 n] w fun e w' => ∃ g' c' : Nat, e = .returned (.slice (some ⟨g', 0, none⟩) (m + 1) c') ∧ IntsAt w' (some ⟨g', 0, none⟩) (l ++ [n]) ∧ Typed w' g' ∧ ∃ x, w' = ext w x := by
  subst hm
  exact And_any g o c l n w hl hg hb

/-- Rows of numbers, each with memory. -/
def RowsIn (w : World) (p : Option Addr) (L : List (List Int)) : Prop :=
  ∀ (i : Nat) (r : List Int), L[i]? = some r → ∃ b o : Nat, p = some ⟨b, o, none⟩ ∧ b < w.heap.size ∧ ∃ (q c : Nat), w.cell? ⟨b, o + i, none⟩ = some (.slice (some ⟨q, 0, none⟩) r.length c) ∧ Typed w q ∧ IntsAt w (some ⟨q, 0, none⟩) r
theorem RowsIn.below {w w' : World} {p : Option Addr} {L : List (List Int)} (h : RowsIn w p L) (hb : Below w.heap.size w w') : RowsIn w' p L := fun i r hi => by
  obtain ⟨b, o, h1, h2, q, c, h3, h4, h5⟩ := h i r hi
  exact ⟨b, o, h1, Nat.lt_of_lt_of_le h2 hb.size, q, c, by rw [hb.cell (p := ⟨b, o + i, none⟩) h2]; exact h3, h4.below hb, h5.below hb⟩
/-- What a row's cell is. -/
def RowCell (w : World) (u : Value) (r : List Int) : Prop := ∃ q c : Nat, u = .slice (some ⟨q, 0, none⟩) r.length c ∧ Typed w q ∧ IntsAt w (some ⟨q, 0, none⟩) r
theorem RowCell.below {w w' : World} {u : Value} {r : List Int} (h : RowCell w u r) (hb : Below w.heap.size w w') : RowCell w' u r := by
  obtain ⟨q, c, h1, h2, h3⟩ := h
  exact ⟨q, c, h1, h2.below hb, h3.below hb⟩
/-- Rows in an array of the call's own (or nil). -/
def OwnRows (w : World) (B : Nat) (v : Value) (L : List (List Int)) : Prop := ∃ cs : List Value, w.ownsRow B 34 1 v L.length cs ∧ cs.length = L.length ∧ ∀ (i : Nat) (u : Value) (r : List Int), cs[i]? = some u → L[i]? = some r → RowCell w u r
theorem info_row : (Tryz.prog.info? 34).map (fun i => (i.zero, i.size, i.bytes)) = some (some (.slice none 0 0), 1, 24) := by kernel_rfl
theorem under_rows : Tryz.prog.underlying 23 = some (.slice 34) := by kernel_rfl
theorem OwnRows.kept {w w' : World} {B : Nat} {v : Value} {L : List (List Int)} (h : OwnRows w B v L) (hb : Below w.heap.size w w') : OwnRows w' B v L := by
  obtain ⟨cs, h1, h2, h3⟩ := h
  have hlt := World.ownsRow.lt h1
  refine ⟨cs, ⟨h1.1, ?_⟩, h2, fun i u r hu hr => (h3 i u r hu hr).below hb⟩
  rcases h1.2 with h4 | ⟨g, cap, cur, rfl, hg, hh, r⟩
  · exact .inl h4
  · exact .inr ⟨g, cap, cur, rfl, hg, (hb.block g (hlt g rfl).2).trans hh, r⟩
theorem OwnRows.lt {w : World} {B : Nat} {v : Value} {L : List (List Int)} (h : OwnRows w B v L) : ∀ g, v.ownBlock = some g → B ≤ g ∧ g < w.heap.size := by
  obtain ⟨cs, h1, _⟩ := h; exact World.ownsRow.lt h1
theorem OwnRows.at {w : World} {B : Nat} {v : Value} {L : List (List Int)} (h : OwnRows w B v L) : ∃ p c, v = .slice p L.length c ∧ RowsIn w p L := by
  obtain ⟨cs, h1, h2, h3⟩ := h
  rcases h1.2 with ⟨h4, h5⟩ | ⟨g, cap, cur, rfl, hg, hh, hn, hm, hs, ht⟩
  · refine ⟨none, 0, by rw [h4, h5], fun i x hx => ?_⟩
    have := (List.getElem?_eq_some_iff.1 hx).1
    omega
  · refine ⟨_, cap, rfl, fun i r hr => ⟨g, 0, rfl, (Array.getElem?_eq_some_iff.1 hh).1, ?_⟩⟩
    have hi := (List.getElem?_eq_some_iff.1 hr).1
    obtain ⟨u, hu⟩ := get_some cs i (by omega)
    obtain ⟨q, c, e, hq, hI⟩ := h3 i u r hu hr
    refine ⟨q, c, ?_, hq, hI⟩
    have h4 := World.ownsRow.cellAt (w := w) (base := B) (e := 34) (size := 1) (g := g) (cap := cap) (n := L.length) (xs := cs) h1 i (by omega)
    rw [Nat.zero_add, h4, hu, e]
theorem wpList_append_rows {ops : Array Oper} {rest : List Oper} {o : Oper} {a : Act} {Q : Exit → Act → World → Prop} {w : World} (hgd : o.guard = none) (s x : Operand)
    (ho : o.op = .call { callee := .builtin .append, args := #[s, x], argTypes := #[23, 23] }) (B : Nat)
    (v : Value) (l L : List (List Int)) (hs : a.eval s = v) (hown : OwnRows w B v l) (gb go m c : Nat) (hm : L.length = m) (hx : a.eval x = .slice (some ⟨gb, go, none⟩) m c) (hL : RowsIn w (some ⟨gb, go, none⟩) L)
    (hl : l.length + L.length ≤ 100000) (hB : B ≤ w.heap.size)
    (h : ∀ v' w', OwnRows w' B v' (l ++ L) → w.grownBy w' v.ownBlock → wpList Tryz.prog ops Q rest (a.put o.dst v') w') : wpList Tryz.prog ops Q (o :: rest) a w := by
  obtain ⟨i0, hi, hz0, hz1, hz2⟩ := info_parts info_row
  subst hm
  obtain ⟨cs, h1, h2, h3⟩ := hown
  have hq : ∀ i : Nat, ∃ u : Value, ∀ r, L[i]? = some r → w.cell? ⟨gb, go + i, none⟩ = some u ∧ RowCell w u r := fun i => by
    cases hr : L[i]? with
    | none => exact ⟨undef, fun r h => by cases h⟩
    | some r =>
      obtain ⟨b, o', e, hb, q, c, hc, hq, hI⟩ := hL i r hr
      cases e
      exact ⟨_, fun r' h' => by cases h'; exact ⟨hc, q, c, rfl, hq, hI⟩⟩
  have hlt := World.ownsRow.lt h1
  let news : List Value := (List.range L.length).map fun i => Classical.choose (hq i)
  have hnl : news.length = L.length := by simp [news]
  have hnews : ∀ (j : Nat) (u : Value), news[j]? = some u → ∃ r, L[j]? = some r ∧ w.cell? ⟨gb, go + j, none⟩ = some u ∧ RowCell w u r := fun j u hj => by
    have hjl : j < L.length := by rw [← hnl]; exact (List.getElem?_eq_some_iff.1 hj).1
    simp only [news] at hj
    rw [List.getElem?_map, List.getElem?_range hjl] at hj
    simp only [Option.map_some, Option.some.injEq] at hj
    subst hj
    obtain ⟨r, hr⟩ := get_some L j hjl
    exact ⟨r, hr, Classical.choose_spec (hq j) r hr⟩
  refine wpList_append_own w hgd s x 23 ho B 34 i0 (.slice none 0 0) 1 24 under_rows hi hz0 hz1 hz2 rfl (by decide) v l.length _ hs h1 ⟨gb, go, none⟩ L.length c news hx (by simp [hnl]) ?_ ?_ ?_ ?_ hB ?_
  · intro j u hj
    obtain ⟨r, _, hc, _⟩ := hnews j u hj
    rw [Addr.add_lit]
    exact hc
  · intro u hu
    obtain ⟨j, hj, e⟩ := List.getElem_of_mem hu
    obtain ⟨r, _, _, q, c, e2, _⟩ := hnews j u (by rw [List.getElem?_eq_getElem hj, e])
    rw [e2]; rfl
  · unfold maxLen; omega
  · omega
  · intro v' w' h4 h5 _
    refine h v' w' ⟨cs ++ news, by rw [List.length_append]; exact h4, by simp [hnl, h2], fun i u r hu hr => ?_⟩ h5
    -- the rows' own blocks are no part of the array
    have keep : ∀ u r, RowCell w u r → RowCell w' u r := fun u r ⟨q, c, e, hq, hI⟩ => by
      have hne : some q ≠ v.ownBlock := fun hc => by
        obtain ⟨cur, hq⟩ := hq
        rcases h1.2 with ⟨hv, _⟩ | ⟨g, cap, cur2, hv, hg, hh, _⟩
        · rw [hv] at hc; cases hc
        · rw [hv] at hc
          cases hc
          rw [hh] at hq
          simp at hq
      refine ⟨q, c, e, ?_, hI.grown h5 (fun a ha => by cases ha; exact hne)⟩
      obtain ⟨cur, hq'⟩ := hq
      exact ⟨cur, (h5.block q (Array.getElem?_eq_some_iff.1 hq').1 hne).trans hq'⟩
    by_cases hi : i < cs.length
    · rw [List.getElem?_append_left hi] at hu
      rw [List.getElem?_append_left (by omega)] at hr
      exact keep u r (h3 i u r hu hr)
    · rw [List.getElem?_append_right (by omega)] at hu
      rw [List.getElem?_append_right (by omega)] at hr
      obtain ⟨r', e1, _, e3⟩ := hnews _ u hu
      rw [h2] at e1
      rw [hr] at e1
      cases e1
      exact keep u r e3
end Go.Proofs.YteocjggepjpecaaGreatDoor

