/- Package seine: the best of several lists (slices.MinFunc). -/
import Derived.Test.YtjjfpbjdcmkkhaaDoorQNq
set_option linter.unusedSimpArgs false
set_option linter.unusedVariables false
namespace Go.Proofs.YtjjfpbjdcmkkhaaDoor
open Go Go.RowKit Go.Shelf
/-- Lists that lie in memory, as a slice of them does. -/
def LsAt (B : Nat) (w : World) (p : Option Addr) (ls : List (List Int)) : Prop :=
  ∀ (i : Nat) (l : List Int), ls[i]? = some l → ∃ (b o : Nat) (u : Value), p = some ⟨b, o, none⟩ ∧ b < w.heap.size ∧ w.cell? ⟨b, o + i, none⟩ = some u ∧ ListAt B w u l
theorem LsAt.ext {B : Nat} {w : World} {p : Option Addr} {ls : List (List Int)} (h : LsAt B w p ls) (x : Grow w) : LsAt B (ext w x) p ls := fun i l hi => by
  obtain ⟨b, o, u, h1, h2, h3, h4⟩ := h i l hi
  exact ⟨b, o, u, h1, Nat.lt_of_lt_of_le h2 x.ok.size, by rw [ext_cell _ _ _ _ h2]; exact h3, h4.bel (below_ext _ _)⟩
attribute [local go_sem] Oper.semAt_some frozen_alloc_lt
set_option maxRecDepth 100000 in
set_option maxHeartbeats 2000000 in
theorem minFunc_any (B : Nat) (p : Option Addr) (c : Nat) (l0 : List Int) (ls : List (List Int)) (w : World) (h : LsAt B w p (l0 :: ls)) (hn : ls.length ≤ 1000000000000) (hs : ∀ l ∈ l0 :: ls, l.length ≤ 1000) :
    Calls Tryd.prog 102 #[.slice p (l0 :: ls).length c, .func (.func 99) #[] #[]] w fun e w' => ∃ v, e = .returned v ∧ ListAt B w' v (bestOf l0 ls) ∧ ∃ x, w' = ext w x := by
  obtain ⟨b, o, u, hp, hb, hc, hu⟩ := h 0 l0 rfl
  subst hp
  rw [Nat.add_zero] at hc
  rw [List.length_cons]
  have HH := Lib.hid h
  have HU := Lib.hid hu
  have hge : ¬ ((ls.length + 1 : Nat) : Int) < 1 := by omega
  have hpos : (0 : Int) < ((ls.length + 1 : Nat) : Int) := by omega
  obtain ⟨m, hm⟩ : ∃ m, ls.length + 1 = m := ⟨_, rfl⟩
  rw [hm] at hge hpos ⊢
  have hpos' : 0 < m := by omega
  clear h hu
  go_enter Tryd.func102, Tryd.ntmps102
  go_wp2_with fail
  go_loopw [5, 6] (fun cur i wr => ∃ k : Nat, k ≤ ls.length ∧ i = .int .i64 ((k + 1 : Nat) : Int) ∧ Hid (ListAt B wr cur (bestOf l0 (ls.take k))) ∧ ∃ x, wr = ext w x) (fun _ i _ => m - (intOf i).toNat)
  case atStart => exact ⟨0, by omega, rfl, HU, by (exact ext_of (by (repeat (first | (with_reducible exact Below.refl _ _) | (with_reducible assumption) | ((with_reducible refine below_ext_trans ?_ ?_ _); rotate_left; focus (((try dsimp only); repeat (first | omega | simp only [World.size_alloc, World.size_setCell, World.size_drew] | (with_reducible refine le_ext_of ?_) | (with_reducible refine le_ext_add ?_))); done)) | ((with_reducible refine Below.alloc ?_ ?_ _); rotate_left; focus (((try dsimp only); repeat (first | omega | simp only [World.size_alloc, World.size_setCell, World.size_drew] | (with_reducible refine le_ext_of ?_) | (with_reducible refine le_ext_add ?_))); done)) | ((with_reducible refine Below.setCell ?_ ?_ _); rotate_left; focus (((try dsimp only); repeat (first | omega | simp only [World.size_alloc, World.size_setCell, World.size_drew] | (with_reducible refine le_ext_of ?_) | (with_reducible refine le_ext_add ?_))); done)) | (with_reducible refine Below.drew ?_)))))⟩
  case round =>
    obtain ⟨k, hk, rfl, HC, x, rfl⟩ := hrel
    obtain ⟨j, hj⟩ : ∃ j, k + 1 = j := ⟨_, rfl⟩
    rw [hj]
    have hj0 : (0 : Int) ≤ (j : Int) := by omega
    by_cases hlt : k < ls.length
    · obtain ⟨l, hl⟩ := get_some ls k hlt
      obtain ⟨b2, o2, u2, e1, e2, e3, e4⟩ := HH.out (k + 1) l (by simpa using hl)
      simp only [Option.some.injEq, Addr.mk.injEq, and_true] at e1
      obtain ⟨rfl, rfl⟩ := e1
      rw [hj] at e3
      have hjm : (j : Int) < (m : Int) := by omega
      have hstep : bestOf l0 (ls.take (k + 1)) = bestStep (bestOf l0 (ls.take k)) l := by
        rw [List.take_add_one, hl, Option.toList_some, bestOf_snoc]
      obtain ⟨p1, c1, rfl, i1, -, -, -, -⟩ := id e4
      obtain ⟨p2, c2, hcur, i2, -, -, -, -⟩ := id HC.out
      have hcb : j ≤ m := by omega
      subst hcur
      have HE4 := Lib.hid e4
      have I1 := Lib.hid i1
      have I2 := Lib.hid i2
      have hl1 : (l.length : Int) ≤ 1000 := by have := hs l (by simp [List.mem_of_getElem? hl]); omega
      have HSTEP := Lib.hid hstep
      have hcn := cmpF_neg l (bestOf l0 (ls.take k))
      generalize hbo : bestOf l0 (ls.take k) = bo at *
      clear e4 i1 i2 hstep
      cases hq : fewerB l bo with
      | true =>
        rw [hq] at hcn
        go_wp2_with (go_at_call 99; refine (compareS_any p1 p2 c1 c2 l bo _ (I1.out.below (by (repeat (first | (with_reducible exact Below.refl _ _) | (with_reducible assumption) | ((with_reducible refine below_ext_trans ?_ ?_ _); rotate_left; focus (((try dsimp only); repeat (first | omega | simp only [World.size_alloc, World.size_setCell, World.size_drew] | (with_reducible refine le_ext_of ?_) | (with_reducible refine le_ext_add ?_))); done)) | ((with_reducible refine Below.alloc ?_ ?_ _); rotate_left; focus (((try dsimp only); repeat (first | omega | simp only [World.size_alloc, World.size_setCell, World.size_drew] | (with_reducible refine le_ext_of ?_) | (with_reducible refine le_ext_add ?_))); done)) | ((with_reducible refine Below.setCell ?_ ?_ _); rotate_left; focus (((try dsimp only); repeat (first | omega | simp only [World.size_alloc, World.size_setCell, World.size_drew] | (with_reducible refine le_ext_of ?_) | (with_reducible refine le_ext_add ?_))); done)) | (with_reducible refine Below.drew ?_))))) (I2.out.below (by (repeat (first | (with_reducible exact Below.refl _ _) | (with_reducible assumption) | ((with_reducible refine below_ext_trans ?_ ?_ _); rotate_left; focus (((try dsimp only); repeat (first | omega | simp only [World.size_alloc, World.size_setCell, World.size_drew] | (with_reducible refine le_ext_of ?_) | (with_reducible refine le_ext_add ?_))); done)) | ((with_reducible refine Below.alloc ?_ ?_ _); rotate_left; focus (((try dsimp only); repeat (first | omega | simp only [World.size_alloc, World.size_setCell, World.size_drew] | (with_reducible refine le_ext_of ?_) | (with_reducible refine le_ext_add ?_))); done)) | ((with_reducible refine Below.setCell ?_ ?_ _); rotate_left; focus (((try dsimp only); repeat (first | omega | simp only [World.size_alloc, World.size_setCell, World.size_drew] | (with_reducible refine le_ext_of ?_) | (with_reducible refine le_ext_add ?_))); done)) | (with_reducible refine Below.drew ?_))))) hl1).mono ?_; rintro e w1 ⟨rfl, y1, rfl⟩)
        go_roundw
        case rel =>
          refine ⟨k + 1, by omega, by subst hj; go_num, Lib.hid ?_, by (exact ext_of (by (repeat (first | (with_reducible exact Below.refl _ _) | (with_reducible assumption) | ((with_reducible refine below_ext_trans ?_ ?_ _); rotate_left; focus (((try dsimp only); repeat (first | omega | simp only [World.size_alloc, World.size_setCell, World.size_drew] | (with_reducible refine le_ext_of ?_) | (with_reducible refine le_ext_add ?_))); done)) | ((with_reducible refine Below.alloc ?_ ?_ _); rotate_left; focus (((try dsimp only); repeat (first | omega | simp only [World.size_alloc, World.size_setCell, World.size_drew] | (with_reducible refine le_ext_of ?_) | (with_reducible refine le_ext_add ?_))); done)) | ((with_reducible refine Below.setCell ?_ ?_ _); rotate_left; focus (((try dsimp only); repeat (first | omega | simp only [World.size_alloc, World.size_setCell, World.size_drew] | (with_reducible refine le_ext_of ?_) | (with_reducible refine le_ext_add ?_))); done)) | (with_reducible refine Below.drew ?_)))))⟩
          rw [HSTEP.out, bestStep, hq]
          exact HE4.out.bel (below_ext _ _)
        case measure => simp [intOf]; omega
      | false =>
        rw [hq] at hcn
        go_wp2_with (go_at_call 99; refine (compareS_any p1 p2 c1 c2 l bo _ (I1.out.below (by (repeat (first | (with_reducible exact Below.refl _ _) | (with_reducible assumption) | ((with_reducible refine below_ext_trans ?_ ?_ _); rotate_left; focus (((try dsimp only); repeat (first | omega | simp only [World.size_alloc, World.size_setCell, World.size_drew] | (with_reducible refine le_ext_of ?_) | (with_reducible refine le_ext_add ?_))); done)) | ((with_reducible refine Below.alloc ?_ ?_ _); rotate_left; focus (((try dsimp only); repeat (first | omega | simp only [World.size_alloc, World.size_setCell, World.size_drew] | (with_reducible refine le_ext_of ?_) | (with_reducible refine le_ext_add ?_))); done)) | ((with_reducible refine Below.setCell ?_ ?_ _); rotate_left; focus (((try dsimp only); repeat (first | omega | simp only [World.size_alloc, World.size_setCell, World.size_drew] | (with_reducible refine le_ext_of ?_) | (with_reducible refine le_ext_add ?_))); done)) | (with_reducible refine Below.drew ?_))))) (I2.out.below (by (repeat (first | (with_reducible exact Below.refl _ _) | (with_reducible assumption) | ((with_reducible refine below_ext_trans ?_ ?_ _); rotate_left; focus (((try dsimp only); repeat (first | omega | simp only [World.size_alloc, World.size_setCell, World.size_drew] | (with_reducible refine le_ext_of ?_) | (with_reducible refine le_ext_add ?_))); done)) | ((with_reducible refine Below.alloc ?_ ?_ _); rotate_left; focus (((try dsimp only); repeat (first | omega | simp only [World.size_alloc, World.size_setCell, World.size_drew] | (with_reducible refine le_ext_of ?_) | (with_reducible refine le_ext_add ?_))); done)) | ((with_reducible refine Below.setCell ?_ ?_ _); rotate_left; focus (((try dsimp only); repeat (first | omega | simp only [World.size_alloc, World.size_setCell, World.size_drew] | (with_reducible refine le_ext_of ?_) | (with_reducible refine le_ext_add ?_))); done)) | (with_reducible refine Below.drew ?_))))) hl1).mono ?_; rintro e w1 ⟨rfl, y1, rfl⟩)
        go_roundw
        case rel =>
          refine ⟨k + 1, by omega, by subst hj; go_num, Lib.hid ?_, by (exact ext_of (by (repeat (first | (with_reducible exact Below.refl _ _) | (with_reducible assumption) | ((with_reducible refine below_ext_trans ?_ ?_ _); rotate_left; focus (((try dsimp only); repeat (first | omega | simp only [World.size_alloc, World.size_setCell, World.size_drew] | (with_reducible refine le_ext_of ?_) | (with_reducible refine le_ext_add ?_))); done)) | ((with_reducible refine Below.alloc ?_ ?_ _); rotate_left; focus (((try dsimp only); repeat (first | omega | simp only [World.size_alloc, World.size_setCell, World.size_drew] | (with_reducible refine le_ext_of ?_) | (with_reducible refine le_ext_add ?_))); done)) | ((with_reducible refine Below.setCell ?_ ?_ _); rotate_left; focus (((try dsimp only); repeat (first | omega | simp only [World.size_alloc, World.size_setCell, World.size_drew] | (with_reducible refine le_ext_of ?_) | (with_reducible refine le_ext_add ?_))); done)) | (with_reducible refine Below.drew ?_)))))⟩
          rw [HSTEP.out, bestStep, hq]
          exact HC.out.bel (below_ext (ext w x) y1)
        case measure => simp [intOf]; omega
    · obtain rfl : k = ls.length := by omega
      have hjm : ¬ (j : Int) < (m : Int) := by omega
      rw [List.take_length] at HC
      go_wp2_with fail
      go_ret
      exact ⟨_, rfl, HC.out, by (exact ext_of (by (repeat (first | (with_reducible exact Below.refl _ _) | (with_reducible assumption) | ((with_reducible refine below_ext_trans ?_ ?_ _); rotate_left; focus (((try dsimp only); repeat (first | omega | simp only [World.size_alloc, World.size_setCell, World.size_drew] | (with_reducible refine le_ext_of ?_) | (with_reducible refine le_ext_add ?_))); done)) | ((with_reducible refine Below.alloc ?_ ?_ _); rotate_left; focus (((try dsimp only); repeat (first | omega | simp only [World.size_alloc, World.size_setCell, World.size_drew] | (with_reducible refine le_ext_of ?_) | (with_reducible refine le_ext_add ?_))); done)) | ((with_reducible refine Below.setCell ?_ ?_ _); rotate_left; focus (((try dsimp only); repeat (first | omega | simp only [World.size_alloc, World.size_setCell, World.size_drew] | (with_reducible refine le_ext_of ?_) | (with_reducible refine le_ext_add ?_))); done)) | (with_reducible refine Below.drew ?_)))))⟩
set_option maxHeartbeats 1000000 in
theorem values_any (M : Nat) (w : World) :
    Calls Tryd.prog 104 #[.map (some M)] w fun e w' => e = .returned (.func (.func 121) #[] #[.pointer (some ⟨w.heap.size, 0, none⟩)]) ∧ Blk w' w.heap.size 122 #[.map (some M)] ∧ Below w.heap.size w w' := by
  go_enter Tryd.func104, Tryd.ntmps104
  go_wp2
  go_ret
  exact ⟨rfl, Blk.new rfl, by (repeat (first | (with_reducible exact Below.refl _ _) | (with_reducible assumption) | ((with_reducible refine below_ext_trans ?_ ?_ _); rotate_left; focus (((try dsimp only); repeat (first | omega | simp only [World.size_alloc, World.size_setCell, World.size_drew] | (with_reducible refine le_ext_of ?_) | (with_reducible refine le_ext_add ?_))); done)) | ((with_reducible refine Below.alloc ?_ ?_ _); rotate_left; focus (((try dsimp only); repeat (first | omega | simp only [World.size_alloc, World.size_setCell, World.size_drew] | (with_reducible refine le_ext_of ?_) | (with_reducible refine le_ext_add ?_))); done)) | ((with_reducible refine Below.setCell ?_ ?_ _); rotate_left; focus (((try dsimp only); repeat (first | omega | simp only [World.size_alloc, World.size_setCell, World.size_drew] | (with_reducible refine le_ext_of ?_) | (with_reducible refine le_ext_add ?_))); done)) | (with_reducible refine Below.drew ?_)))⟩
end Go.Proofs.YtjjfpbjdcmkkhaaDoor

