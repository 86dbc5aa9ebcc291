/- The walk of SeineLater. -/
import Derived.Test.YtnckampdbbcehaaDoorQJf
import Derived.RegionTactic
set_option linter.unusedSimpArgs false
set_option linter.unusedVariables false
namespace Go.Proofs.YtnckampdbbcehaaDoor
open Go Go.RowKit Go.Shelf
attribute [local go_sem] Oper.semAt_some frozen_alloc_lt
set_option maxRecDepth 100000 in
set_option maxHeartbeats 4000000 in
theorem SeineLater_bad (b : Sn) (p : Option Addr) (c : Nat) (n0 n1 : Int) (w : World) (hk : SBk w b p) (hv : snB b = false) :
    Calls Tryd.prog 9 #[bV b p c, .agg #[.int .i64 n0, .int .i64 n1]] w fun e w' => e = .returned (.bool true) ∧ ∃ x, w' = ext w x := by
  have HK := Lib.hid hk
  clear hk
  go_enter Tryd.func9, Tryd.ntmps9
  go_wp2_with (first
    | (go_at_call 34; refine (sound_no b p c _ (HK.out.bel (by (repeat (first | (with_reducible exact Below.refl _ _) | (with_reducible assumption) | ((with_reducible refine below_ext_trans ?_ ?_ _); rotate_left; focus (((try dsimp only); repeat (first | omega | simp only [World.size_alloc, World.size_setCell, World.size_drew] | (with_reducible refine le_ext_of ?_) | (with_reducible refine le_ext_add ?_))); done)) | ((with_reducible refine Below.alloc ?_ ?_ _); rotate_left; focus (((try dsimp only); repeat (first | omega | simp only [World.size_alloc, World.size_setCell, World.size_drew] | (with_reducible refine le_ext_of ?_) | (with_reducible refine le_ext_add ?_))); done)) | ((with_reducible refine Below.setCell ?_ ?_ _); rotate_left; focus (((try dsimp only); repeat (first | omega | simp only [World.size_alloc, World.size_setCell, World.size_drew] | (with_reducible refine le_ext_of ?_) | (with_reducible refine le_ext_add ?_))); done)) | (with_reducible refine Below.drew ?_))))) hv).mono ?_; rintro e w1 ⟨rfl, y, rfl⟩)
    | (go_at_call 24; refine (sounded_any _ (HK.out.mm.below (by (repeat (first | (with_reducible exact Below.refl _ _) | (with_reducible assumption) | ((with_reducible refine below_ext_trans ?_ ?_ _); rotate_left; focus (((try dsimp only); repeat (first | omega | simp only [World.size_alloc, World.size_setCell, World.size_drew] | (with_reducible refine le_ext_of ?_) | (with_reducible refine le_ext_add ?_))); done)) | ((with_reducible refine Below.alloc ?_ ?_ _); rotate_left; focus (((try dsimp only); repeat (first | omega | simp only [World.size_alloc, World.size_setCell, World.size_drew] | (with_reducible refine le_ext_of ?_) | (with_reducible refine le_ext_add ?_))); done)) | ((with_reducible refine Below.setCell ?_ ?_ _); rotate_left; focus (((try dsimp only); repeat (first | omega | simp only [World.size_alloc, World.size_setCell, World.size_drew] | (with_reducible refine le_ext_of ?_) | (with_reducible refine le_ext_add ?_))); done)) | (with_reducible refine Below.drew ?_)))))).mono ?_; rintro e w1 ⟨rfl, y, rfl⟩))
  go_ret
  exact ⟨rfl, by (exact ext_of (by (repeat (first | (with_reducible exact Below.refl _ _) | (with_reducible assumption) | ((with_reducible refine below_ext_trans ?_ ?_ _); rotate_left; focus (((try dsimp only); repeat (first | omega | simp only [World.size_alloc, World.size_setCell, World.size_drew] | (with_reducible refine le_ext_of ?_) | (with_reducible refine le_ext_add ?_))); done)) | ((with_reducible refine Below.alloc ?_ ?_ _); rotate_left; focus (((try dsimp only); repeat (first | omega | simp only [World.size_alloc, World.size_setCell, World.size_drew] | (with_reducible refine le_ext_of ?_) | (with_reducible refine le_ext_add ?_))); done)) | ((with_reducible refine Below.setCell ?_ ?_ _); rotate_left; focus (((try dsimp only); repeat (first | omega | simp only [World.size_alloc, World.size_setCell, World.size_drew] | (with_reducible refine le_ext_of ?_) | (with_reducible refine le_ext_add ?_))); done)) | (with_reducible refine Below.drew ?_)))))⟩
set_option maxRecDepth 100000 in
set_option maxHeartbeats 4000000 in
theorem SeineLater_ok (b : Sn) (p : Option Addr) (c : Nat) (n0 n1 : Int) (w : World) (hk : SBk w b p) (hv : snB b = true) :
    Calls Tryd.prog 9 #[bV b p c, .agg #[.int .i64 n0, .int .i64 n1]] w fun e w' => e = .returned (.bool true) ∧ ∃ x, w' = ext w x := by
  have HK := Lib.hid hk
  have HM := Lib.hid hk.mm
  clear hk
  obtain ⟨r0, hr0⟩ : ∃ r, n0 % 61 = r := ⟨_, rfl⟩
  obtain ⟨r1, hr1⟩ : ∃ r, n1 % 61 = r := ⟨_, rfl⟩
  have b0 : 0 ≤ r0 ∧ r0 ≤ 60 := by omega
  have b1 : 0 ≤ r1 ∧ r1 ≤ 60 := by omega
  go_enter Tryd.func9, Tryd.ntmps9
  go_upto_region 3 with (go_at_call 34; refine (sound_yes b p c _ (HK.out.bel (by (repeat (first | (with_reducible exact Below.refl _ _) | (with_reducible assumption) | ((with_reducible refine below_ext_trans ?_ ?_ _); rotate_left; focus (((try dsimp only); repeat (first | omega | simp only [World.size_alloc, World.size_setCell, World.size_drew] | (with_reducible refine le_ext_of ?_) | (with_reducible refine le_ext_add ?_))); done)) | ((with_reducible refine Below.alloc ?_ ?_ _); rotate_left; focus (((try dsimp only); repeat (first | omega | simp only [World.size_alloc, World.size_setCell, World.size_drew] | (with_reducible refine le_ext_of ?_) | (with_reducible refine le_ext_add ?_))); done)) | ((with_reducible refine Below.setCell ?_ ?_ _); rotate_left; focus (((try dsimp only); repeat (first | omega | simp only [World.size_alloc, World.size_setCell, World.size_drew] | (with_reducible refine le_ext_of ?_) | (with_reducible refine le_ext_add ?_))); done)) | (with_reducible refine Below.drew ?_))))) hv).mono ?_; rintro e w1 ⟨rfl, y, rfl⟩)
  refine wp_region_ext (by kernel_rfl) (by kernel_rfl) ?_
  repeat (go_big_quiet_step (first | (go_at_call 37; exact quiet_ext (Wheel_any _ _ _ (by decide) (by decide)))))
  (refine wpQuiet_nil ?_; rintro _ ⟨x, rfl⟩)
  simp only [hr0, hr1]
  generalize hW : ext (ext _ _) _ = W
  have hB : Below w.heap.size w W := by rw [← hW]; (repeat (first | (with_reducible exact Below.refl _ _) | (with_reducible assumption) | ((with_reducible refine below_ext_trans ?_ ?_ _); rotate_left; focus (((try dsimp only); repeat (first | omega | simp only [World.size_alloc, World.size_setCell, World.size_drew] | (with_reducible refine le_ext_of ?_) | (with_reducible refine le_ext_add ?_))); done)) | ((with_reducible refine Below.alloc ?_ ?_ _); rotate_left; focus (((try dsimp only); repeat (first | omega | simp only [World.size_alloc, World.size_setCell, World.size_drew] | (with_reducible refine le_ext_of ?_) | (with_reducible refine le_ext_add ?_))); done)) | ((with_reducible refine Below.setCell ?_ ?_ _); rotate_left; focus (((try dsimp only); repeat (first | omega | simp only [World.size_alloc, World.size_setCell, World.size_drew] | (with_reducible refine le_ext_of ?_) | (with_reducible refine le_ext_add ?_))); done)) | (with_reducible refine Below.drew ?_)))
  have hq : Blk W w.heap.size 26 #[.int .i64 b.lo, .int .i64 b.hi, .slice p b.ns.length c] := by rw [← hW]; exact (((Blk.new rfl).alloc _).ext _).ext _
  have HBW := Lib.hid hB
  have HK1 := Lib.hid (HK.out.bel hB)
  have Kb := Lib.hid hq
  clear hW hB hq hr0 hr1 HK
  have qb0 := Kb.out.cell 0
  have qb1 := Kb.out.cell 1
  have qb2 := Kb.out.cell 2
  have lb := Kb.out.lt
  simp only [List.size_toArray, List.length_cons, List.length_nil, Nat.reduceAdd, Nat.reduceLT, getElem?_pos, List.getElem_toArray, List.getElem_cons_zero, List.getElem_cons_succ] at qb0 qb1 qb2
  go_upto_region 5 with fail
  generalize hA : (if r1 < r0 then r1 else r0) = a at *
  generalize hC : (if r0 < r1 then r1 else r0) = cc at *
  have ha0 : 0 ≤ a ∧ a ≤ 60 := by rw [← hA]; split <;> omega
  have hc0 : 0 ≤ cc ∧ cc ≤ 60 := by rw [← hC]; split <;> omega
  have hac : a ≤ cc := by rw [← hA, ← hC]; split <;> split <;> omega
  clear hA hC b0 b1
  have hok := Ok9.of hv
  have HOK := Lib.hid hok
  clear hok
  cases hr : rightS b with
  | false =>
    go_upto_region 6 with (go_at_call 20; refine (Held_no b p c _ _ HK1.out hv hr (by assumption)).mono ?_; rintro e wu ⟨rfl, y, rfl⟩)
    generalize hX : (ext W y).alloc _ = X0
    generalize hg : (ext W y).heap.size = gs at *
    have hBX : Below W.heap.size W X0 := by rw [← hX]; (repeat (first | (with_reducible exact Below.refl _ _) | (with_reducible assumption) | ((with_reducible refine below_ext_trans ?_ ?_ _); rotate_left; focus (((try dsimp only); repeat (first | omega | simp only [World.size_alloc, World.size_setCell, World.size_drew] | (with_reducible refine le_ext_of ?_) | (with_reducible refine le_ext_add ?_))); done)) | ((with_reducible refine Below.alloc ?_ ?_ _); rotate_left; focus (((try dsimp only); repeat (first | omega | simp only [World.size_alloc, World.size_setCell, World.size_drew] | (with_reducible refine le_ext_of ?_) | (with_reducible refine le_ext_add ?_))); done)) | ((with_reducible refine Below.setCell ?_ ?_ _); rotate_left; focus (((try dsimp only); repeat (first | omega | simp only [World.size_alloc, World.size_setCell, World.size_drew] | (with_reducible refine le_ext_of ?_) | (with_reducible refine le_ext_add ?_))); done)) | (with_reducible refine Below.drew ?_)))
    have HBX := Lib.hid (HBW.out.trans (hBX.mono HBW.out.size))
    have Nb := Lib.hid (show Blk X0 w.heap.size 26 #[.int .i64 b.lo, .int .i64 b.hi, .slice p b.ns.length c] from Kb.out.bel hBX)
    have Ns := Lib.hid (show Blk X0 gs 23 #[.int .i64 0, .int .i64 0] by rw [← hX]; exact Blk.new hg.symm)
    have HK2 := Lib.hid (HK1.out.bel hBX); clear HK1; have HK1 := HK2; clear HK2
    clear qb0 qb1 qb2 lb
    clear hX hBX HBW hg Kb
    have Kb := Nb
    have Ks := Ns
    clear Nb Ns
    have HBX0 := HBX
    clear HBX
    have qb0 := Kb.out.cell 0
    have qb1 := Kb.out.cell 1
    have qb2 := Kb.out.cell 2
    have lb := Kb.out.lt
    have qs0 := Ks.out.cell 0
    have qs1 := Ks.out.cell 1
    have ls := Ks.out.lt
    simp only [List.size_toArray, List.length_cons, List.length_nil, Nat.reduceAdd, Nat.reduceLT, getElem?_pos, List.getElem_toArray, List.getElem_cons_zero, List.getElem_cons_succ] at qb0 qb1 qb2 qs0 qs1
    go_upto_region 7 with (go_at_call 20; refine (Held_no b p c _ _ HK1.out hv hr (by assumption)).mono ?_; rintro e wu ⟨rfl, y, rfl⟩)
    generalize hX : (ext X0 y).alloc _ = X1
    generalize hg : (ext X0 y).heap.size = gt at *
    have hBX : Below X0.heap.size X0 X1 := by rw [← hX]; (repeat (first | (with_reducible exact Below.refl _ _) | (with_reducible assumption) | ((with_reducible refine below_ext_trans ?_ ?_ _); rotate_left; focus (((try dsimp only); repeat (first | omega | simp only [World.size_alloc, World.size_setCell, World.size_drew] | (with_reducible refine le_ext_of ?_) | (with_reducible refine le_ext_add ?_))); done)) | ((with_reducible refine Below.alloc ?_ ?_ _); rotate_left; focus (((try dsimp only); repeat (first | omega | simp only [World.size_alloc, World.size_setCell, World.size_drew] | (with_reducible refine le_ext_of ?_) | (with_reducible refine le_ext_add ?_))); done)) | ((with_reducible refine Below.setCell ?_ ?_ _); rotate_left; focus (((try dsimp only); repeat (first | omega | simp only [World.size_alloc, World.size_setCell, World.size_drew] | (with_reducible refine le_ext_of ?_) | (with_reducible refine le_ext_add ?_))); done)) | (with_reducible refine Below.drew ?_)))
    have HBX := Lib.hid (HBX0.out.trans (hBX.mono HBX0.out.size))
    have Nb := Lib.hid (show Blk X1 w.heap.size 26 #[.int .i64 b.lo, .int .i64 b.hi, .slice p b.ns.length c] from Kb.out.bel hBX)
    have Ns := Lib.hid (show Blk X1 gs 23 #[.int .i64 0, .int .i64 0] from Ks.out.bel hBX)
    have Nt := Lib.hid (show Blk X1 gt 23 #[.int .i64 0, .int .i64 0] by rw [← hX]; exact Blk.new hg.symm)
    have HK2 := Lib.hid (HK1.out.bel hBX); clear HK1; have HK1 := HK2; clear HK2
    clear qb0 qb1 qb2 qs0 qs1 lb ls
    clear hX hBX HBX0 hg Kb Ks
    have Kb := Nb
    have Ks := Ns
    have Kt := Nt
    clear Nb Ns Nt
    have HBX1 := HBX
    clear HBX
    have qb0 := Kb.out.cell 0
    have qb1 := Kb.out.cell 1
    have qb2 := Kb.out.cell 2
    have lb := Kb.out.lt
    have qs0 := Ks.out.cell 0
    have qs1 := Ks.out.cell 1
    have ls := Ks.out.lt
    have qt0 := Kt.out.cell 0
    have qt1 := Kt.out.cell 1
    have lt := Kt.out.lt
    simp only [List.size_toArray, List.length_cons, List.length_nil, Nat.reduceAdd, Nat.reduceLT, getElem?_pos, List.getElem_toArray, List.getElem_cons_zero, List.getElem_cons_succ] at qb0 qb1 qb2 qs0 qs1 qt0 qt1
    go_upto_region 8 with (go_at_call 25; refine (Empty_no b p c _ HK1.out hv hr).mono ?_; rintro e wu ⟨rfl, y, rfl⟩)
    generalize hX : ext X1 y = X2 at *
    have hBX : Below X1.heap.size X1 X2 := by rw [← hX]; (repeat (first | (with_reducible exact Below.refl _ _) | (with_reducible assumption) | ((with_reducible refine below_ext_trans ?_ ?_ _); rotate_left; focus (((try dsimp only); repeat (first | omega | simp only [World.size_alloc, World.size_setCell, World.size_drew] | (with_reducible refine le_ext_of ?_) | (with_reducible refine le_ext_add ?_))); done)) | ((with_reducible refine Below.alloc ?_ ?_ _); rotate_left; focus (((try dsimp only); repeat (first | omega | simp only [World.size_alloc, World.size_setCell, World.size_drew] | (with_reducible refine le_ext_of ?_) | (with_reducible refine le_ext_add ?_))); done)) | ((with_reducible refine Below.setCell ?_ ?_ _); rotate_left; focus (((try dsimp only); repeat (first | omega | simp only [World.size_alloc, World.size_setCell, World.size_drew] | (with_reducible refine le_ext_of ?_) | (with_reducible refine le_ext_add ?_))); done)) | (with_reducible refine Below.drew ?_)))
    have HBX := Lib.hid (HBX1.out.trans (hBX.mono HBX1.out.size))
    have Nb := Lib.hid (show Blk X2 w.heap.size 26 #[.int .i64 b.lo, .int .i64 b.hi, .slice p b.ns.length c] from Kb.out.bel hBX)
    have Ns := Lib.hid (show Blk X2 gs 23 #[.int .i64 0, .int .i64 0] from Ks.out.bel hBX)
    have Nt := Lib.hid (show Blk X2 gt 23 #[.int .i64 0, .int .i64 0] from Kt.out.bel hBX)
    have HK2 := Lib.hid (HK1.out.bel hBX); clear HK1; have HK1 := HK2; clear HK2
    clear qb0 qb1 qb2 qs0 qs1 qt0 qt1 lb ls lt
    clear hX hBX HBX1 Kb Ks Kt
    have Kb := Nb
    have Ks := Ns
    have Kt := Nt
    clear Nb Ns Nt
    have HBX2 := HBX
    clear HBX
    have qb0 := Kb.out.cell 0
    have qb1 := Kb.out.cell 1
    have qb2 := Kb.out.cell 2
    have lb := Kb.out.lt
    have qs0 := Ks.out.cell 0
    have qs1 := Ks.out.cell 1
    have ls := Ks.out.lt
    have qt0 := Kt.out.cell 0
    have qt1 := Kt.out.cell 1
    have lt := Kt.out.lt
    simp only [List.size_toArray, List.length_cons, List.length_nil, Nat.reduceAdd, Nat.reduceLT, getElem?_pos, List.getElem_toArray, List.getElem_cons_zero, List.getElem_cons_succ] at qb0 qb1 qb2 qs0 qs1 qt0 qt1
    go_wp2_with (go_at_call 24; refine (sounded_any _ HK1.out.mm).mono ?_; rintro e w1 ⟨rfl, y, rfl⟩)
    go_ret
    exact ⟨rfl, ext_of (HBX2.out.trans ((below_ext _ _).mono HBX2.out.size))⟩
  | true =>
    have hF := ends_fall HOK.out ha0.1 hac (ends_held HOK.out hr a) (ends_held HOK.out hr cc)
    obtain ⟨l1, hl1⟩ : ∃ x, minF Prod.fst 400 (atL b a) = x := ⟨_, rfl⟩
    obtain ⟨l2, hl2⟩ : ∃ x, minF Prod.fst 400 (atL b cc) = x := ⟨_, rfl⟩
    obtain ⟨u1, hu1⟩ : ∃ x, topH b a = x := ⟨_, rfl⟩
    obtain ⟨u2, hu2⟩ : ∃ x, topH b cc = x := ⟨_, rfl⟩
    have hu1' : maxF Prod.fst 0 (atL b a) = u1 := hu1
    have hu2' : maxF Prod.fst 0 (atL b cc) = u2 := hu2
    rw [hl1, hl2, hu1', hu2'] at hF
    obtain ⟨f1, f2⟩ := hF
    have g1 : decide (l1 < l2) = false := by simp; omega
    have g2 : decide (u1 < u2) = false := by simp; omega
    have hu20 : 0 ≤ u2 := by rw [← hu2]; exact topH_bd HOK.out hr cc
    rcases emptyN b with ⟨k, hk60, hk0, hkl⟩ | hno
    · have hk1 : ((k : Nat) : Int) ≤ 60 := by omega
      have hk00 : (0 : Int) ≤ (k : Int) := by omega
      have hu : ∀ h : Int, 0 ≤ h → ((k : Int) ≤ h ↔ topH b h = 0) := fun h h0 => by
        constructor
        · intro hkh
          have h1 := (ends_fall HOK.out (by omega) hkh (ends_held HOK.out hr k) (ends_held HOK.out hr h)).2
          have h2 := topH_bd HOK.out hr h
          have h3 : topH b h ≤ topH b k := h1
          omega
        · intro h1
          refine Classical.byContradiction fun h2 => ?_
          have h3 := hkl h.toNat (by omega)
          rw [Int.toNat_of_nonneg h0] at h3
          exact h3 h1
      have HUA := hu a ha0.1
      have HUC := hu cc hc0.1
      rw [hu1] at HUA
      rw [hu2] at HUC
      have e1 : (u1 == 0) = decide ((k : Int) ≤ a) := by rw [Bool.eq_iff_iff]; simp only [beq_iff_eq, decide_eq_true_eq]; exact HUA.symm
      have e2 : (u2 == 0) = decide ((k : Int) ≤ cc) := by rw [Bool.eq_iff_iff]; simp only [beq_iff_eq, decide_eq_true_eq]; exact HUC.symm
      clear hu HUA HUC
      go_upto_region 6 with (go_at_call 20; refine (Held_is b p c a l1 u1 _ HK1.out hv hr (by assumption) hl1 hu1').mono ?_; rintro e wu ⟨rfl, y, rfl⟩)
      generalize hX : (ext W y).alloc _ = X0
      generalize hg : (ext W y).heap.size = gs at *
      have hBX : Below W.heap.size W X0 := by rw [← hX]; (repeat (first | (with_reducible exact Below.refl _ _) | (with_reducible assumption) | ((with_reducible refine below_ext_trans ?_ ?_ _); rotate_left; focus (((try dsimp only); repeat (first | omega | simp only [World.size_alloc, World.size_setCell, World.size_drew] | (with_reducible refine le_ext_of ?_) | (with_reducible refine le_ext_add ?_))); done)) | ((with_reducible refine Below.alloc ?_ ?_ _); rotate_left; focus (((try dsimp only); repeat (first | omega | simp only [World.size_alloc, World.size_setCell, World.size_drew] | (with_reducible refine le_ext_of ?_) | (with_reducible refine le_ext_add ?_))); done)) | ((with_reducible refine Below.setCell ?_ ?_ _); rotate_left; focus (((try dsimp only); repeat (first | omega | simp only [World.size_alloc, World.size_setCell, World.size_drew] | (with_reducible refine le_ext_of ?_) | (with_reducible refine le_ext_add ?_))); done)) | (with_reducible refine Below.drew ?_)))
      have HBX := Lib.hid (HBW.out.trans (hBX.mono HBW.out.size))
      have Nb := Lib.hid (show Blk X0 w.heap.size 26 #[.int .i64 b.lo, .int .i64 b.hi, .slice p b.ns.length c] from Kb.out.bel hBX)
      have Ns := Lib.hid (show Blk X0 gs 23 #[.int .i64 l1, .int .i64 u1] by rw [← hX]; exact Blk.new hg.symm)
      have HK2 := Lib.hid (HK1.out.bel hBX); clear HK1; have HK1 := HK2; clear HK2
      clear qb0 qb1 qb2 lb
      clear hX hBX HBW hg Kb
      have Kb := Nb
      have Ks := Ns
      clear Nb Ns
      have HBX0 := HBX
      clear HBX
      have qb0 := Kb.out.cell 0
      have qb1 := Kb.out.cell 1
      have qb2 := Kb.out.cell 2
      have lb := Kb.out.lt
      have qs0 := Ks.out.cell 0
      have qs1 := Ks.out.cell 1
      have ls := Ks.out.lt
      simp only [List.size_toArray, List.length_cons, List.length_nil, Nat.reduceAdd, Nat.reduceLT, getElem?_pos, List.getElem_toArray, List.getElem_cons_zero, List.getElem_cons_succ] at qb0 qb1 qb2 qs0 qs1
      go_upto_region 7 with (go_at_call 20; refine (Held_is b p c cc l2 u2 _ HK1.out hv hr (by assumption) hl2 hu2').mono ?_; rintro e wu ⟨rfl, y, rfl⟩)
      generalize hX : (ext X0 y).alloc _ = X1
      generalize hg : (ext X0 y).heap.size = gt at *
      have hBX : Below X0.heap.size X0 X1 := by rw [← hX]; (repeat (first | (with_reducible exact Below.refl _ _) | (with_reducible assumption) | ((with_reducible refine below_ext_trans ?_ ?_ _); rotate_left; focus (((try dsimp only); repeat (first | omega | simp only [World.size_alloc, World.size_setCell, World.size_drew] | (with_reducible refine le_ext_of ?_) | (with_reducible refine le_ext_add ?_))); done)) | ((with_reducible refine Below.alloc ?_ ?_ _); rotate_left; focus (((try dsimp only); repeat (first | omega | simp only [World.size_alloc, World.size_setCell, World.size_drew] | (with_reducible refine le_ext_of ?_) | (with_reducible refine le_ext_add ?_))); done)) | ((with_reducible refine Below.setCell ?_ ?_ _); rotate_left; focus (((try dsimp only); repeat (first | omega | simp only [World.size_alloc, World.size_setCell, World.size_drew] | (with_reducible refine le_ext_of ?_) | (with_reducible refine le_ext_add ?_))); done)) | (with_reducible refine Below.drew ?_)))
      have HBX := Lib.hid (HBX0.out.trans (hBX.mono HBX0.out.size))
      have Nb := Lib.hid (show Blk X1 w.heap.size 26 #[.int .i64 b.lo, .int .i64 b.hi, .slice p b.ns.length c] from Kb.out.bel hBX)
      have Ns := Lib.hid (show Blk X1 gs 23 #[.int .i64 l1, .int .i64 u1] from Ks.out.bel hBX)
      have Nt := Lib.hid (show Blk X1 gt 23 #[.int .i64 l2, .int .i64 u2] by rw [← hX]; exact Blk.new hg.symm)
      have HK2 := Lib.hid (HK1.out.bel hBX); clear HK1; have HK1 := HK2; clear HK2
      clear qb0 qb1 qb2 qs0 qs1 lb ls
      clear hX hBX HBX0 hg Kb Ks
      have Kb := Nb
      have Ks := Ns
      have Kt := Nt
      clear Nb Ns Nt
      have HBX1 := HBX
      clear HBX
      have qb0 := Kb.out.cell 0
      have qb1 := Kb.out.cell 1
      have qb2 := Kb.out.cell 2
      have lb := Kb.out.lt
      have qs0 := Ks.out.cell 0
      have qs1 := Ks.out.cell 1
      have ls := Ks.out.lt
      have qt0 := Kt.out.cell 0
      have qt1 := Kt.out.cell 1
      have lt := Kt.out.lt
      simp only [List.size_toArray, List.length_cons, List.length_nil, Nat.reduceAdd, Nat.reduceLT, getElem?_pos, List.getElem_toArray, List.getElem_cons_zero, List.getElem_cons_succ] at qb0 qb1 qb2 qs0 qs1 qt0 qt1
      go_upto_region 8 with (go_at_call 25; refine (Empty_at b p c k _ HK1.out hv hr hk60 hk0 hkl).mono ?_; rintro e wu ⟨rfl, y, rfl⟩)
      generalize hX : ext X1 y = X2 at *
      have hBX : Below X1.heap.size X1 X2 := by rw [← hX]; (repeat (first | (with_reducible exact Below.refl _ _) | (with_reducible assumption) | ((with_reducible refine below_ext_trans ?_ ?_ _); rotate_left; focus (((try dsimp only); repeat (first | omega | simp only [World.size_alloc, World.size_setCell, World.size_drew] | (with_reducible refine le_ext_of ?_) | (with_reducible refine le_ext_add ?_))); done)) | ((with_reducible refine Below.alloc ?_ ?_ _); rotate_left; focus (((try dsimp only); repeat (first | omega | simp only [World.size_alloc, World.size_setCell, World.size_drew] | (with_reducible refine le_ext_of ?_) | (with_reducible refine le_ext_add ?_))); done)) | ((with_reducible refine Below.setCell ?_ ?_ _); rotate_left; focus (((try dsimp only); repeat (first | omega | simp only [World.size_alloc, World.size_setCell, World.size_drew] | (with_reducible refine le_ext_of ?_) | (with_reducible refine le_ext_add ?_))); done)) | (with_reducible refine Below.drew ?_)))
      have HBX := Lib.hid (HBX1.out.trans (hBX.mono HBX1.out.size))
      have Nb := Lib.hid (show Blk X2 w.heap.size 26 #[.int .i64 b.lo, .int .i64 b.hi, .slice p b.ns.length c] from Kb.out.bel hBX)
      have Ns := Lib.hid (show Blk X2 gs 23 #[.int .i64 l1, .int .i64 u1] from Ks.out.bel hBX)
      have Nt := Lib.hid (show Blk X2 gt 23 #[.int .i64 l2, .int .i64 u2] from Kt.out.bel hBX)
      have HK2 := Lib.hid (HK1.out.bel hBX); clear HK1; have HK1 := HK2; clear HK2
      clear qb0 qb1 qb2 qs0 qs1 qt0 qt1 lb ls lt
      clear hX hBX HBX1 Kb Ks Kt
      have Kb := Nb
      have Ks := Ns
      have Kt := Nt
      clear Nb Ns Nt
      have HBX2 := HBX
      clear HBX
      have qb0 := Kb.out.cell 0
      have qb1 := Kb.out.cell 1
      have qb2 := Kb.out.cell 2
      have lb := Kb.out.lt
      have qs0 := Ks.out.cell 0
      have qs1 := Ks.out.cell 1
      have ls := Ks.out.lt
      have qt0 := Kt.out.cell 0
      have qt1 := Kt.out.cell 1
      have lt := Kt.out.lt
      simp only [List.size_toArray, List.length_cons, List.length_nil, Nat.reduceAdd, Nat.reduceLT, getElem?_pos, List.getElem_toArray, List.getElem_cons_zero, List.getElem_cons_succ] at qb0 qb1 qb2 qs0 qs1 qt0 qt1
      clear hl1 hl2 hu1 hu2 hu1' hu2' hk0 hkl
      go_wp2_with (first | (go_at_call 38; refine (Between_yes _ _ _ _ (by assumption) (by assumption)).mono ?_; rintro e w1 ⟨rfl, rfl⟩) | (go_at_call 24; refine (sounded_any _ HK1.out.mm).mono ?_; rintro e w1 ⟨rfl, y, rfl⟩))
      go_ret
      exact ⟨rfl, ext_of (HBX2.out.trans ((below_ext _ _).mono HBX2.out.size))⟩
    · have hu2p : 0 < u2 := by
        have h1 := hno cc.toNat (by omega)
        rw [Int.toNat_of_nonneg hc0.1, hu2] at h1
        omega
      go_upto_region 6 with (go_at_call 20; refine (Held_is b p c a l1 u1 _ HK1.out hv hr (by assumption) hl1 hu1').mono ?_; rintro e wu ⟨rfl, y, rfl⟩)
      generalize hX : (ext W y).alloc _ = X0
      generalize hg : (ext W y).heap.size = gs at *
      have hBX : Below W.heap.size W X0 := by rw [← hX]; (repeat (first | (with_reducible exact Below.refl _ _) | (with_reducible assumption) | ((with_reducible refine below_ext_trans ?_ ?_ _); rotate_left; focus (((try dsimp only); repeat (first | omega | simp only [World.size_alloc, World.size_setCell, World.size_drew] | (with_reducible refine le_ext_of ?_) | (with_reducible refine le_ext_add ?_))); done)) | ((with_reducible refine Below.alloc ?_ ?_ _); rotate_left; focus (((try dsimp only); repeat (first | omega | simp only [World.size_alloc, World.size_setCell, World.size_drew] | (with_reducible refine le_ext_of ?_) | (with_reducible refine le_ext_add ?_))); done)) | ((with_reducible refine Below.setCell ?_ ?_ _); rotate_left; focus (((try dsimp only); repeat (first | omega | simp only [World.size_alloc, World.size_setCell, World.size_drew] | (with_reducible refine le_ext_of ?_) | (with_reducible refine le_ext_add ?_))); done)) | (with_reducible refine Below.drew ?_)))
      have HBX := Lib.hid (HBW.out.trans (hBX.mono HBW.out.size))
      have Nb := Lib.hid (show Blk X0 w.heap.size 26 #[.int .i64 b.lo, .int .i64 b.hi, .slice p b.ns.length c] from Kb.out.bel hBX)
      have Ns := Lib.hid (show Blk X0 gs 23 #[.int .i64 l1, .int .i64 u1] by rw [← hX]; exact Blk.new hg.symm)
      have HK2 := Lib.hid (HK1.out.bel hBX); clear HK1; have HK1 := HK2; clear HK2
      clear qb0 qb1 qb2 lb
      clear hX hBX HBW hg Kb
      have Kb := Nb
      have Ks := Ns
      clear Nb Ns
      have HBX0 := HBX
      clear HBX
      have qb0 := Kb.out.cell 0
      have qb1 := Kb.out.cell 1
      have qb2 := Kb.out.cell 2
      have lb := Kb.out.lt
      have qs0 := Ks.out.cell 0
      have qs1 := Ks.out.cell 1
      have ls := Ks.out.lt
      simp only [List.size_toArray, List.length_cons, List.length_nil, Nat.reduceAdd, Nat.reduceLT, getElem?_pos, List.getElem_toArray, List.getElem_cons_zero, List.getElem_cons_succ] at qb0 qb1 qb2 qs0 qs1
      go_upto_region 7 with (go_at_call 20; refine (Held_is b p c cc l2 u2 _ HK1.out hv hr (by assumption) hl2 hu2').mono ?_; rintro e wu ⟨rfl, y, rfl⟩)
      generalize hX : (ext X0 y).alloc _ = X1
      generalize hg : (ext X0 y).heap.size = gt at *
      have hBX : Below X0.heap.size X0 X1 := by rw [← hX]; (repeat (first | (with_reducible exact Below.refl _ _) | (with_reducible assumption) | ((with_reducible refine below_ext_trans ?_ ?_ _); rotate_left; focus (((try dsimp only); repeat (first | omega | simp only [World.size_alloc, World.size_setCell, World.size_drew] | (with_reducible refine le_ext_of ?_) | (with_reducible refine le_ext_add ?_))); done)) | ((with_reducible refine Below.alloc ?_ ?_ _); rotate_left; focus (((try dsimp only); repeat (first | omega | simp only [World.size_alloc, World.size_setCell, World.size_drew] | (with_reducible refine le_ext_of ?_) | (with_reducible refine le_ext_add ?_))); done)) | ((with_reducible refine Below.setCell ?_ ?_ _); rotate_left; focus (((try dsimp only); repeat (first | omega | simp only [World.size_alloc, World.size_setCell, World.size_drew] | (with_reducible refine le_ext_of ?_) | (with_reducible refine le_ext_add ?_))); done)) | (with_reducible refine Below.drew ?_)))
      have HBX := Lib.hid (HBX0.out.trans (hBX.mono HBX0.out.size))
      have Nb := Lib.hid (show Blk X1 w.heap.size 26 #[.int .i64 b.lo, .int .i64 b.hi, .slice p b.ns.length c] from Kb.out.bel hBX)
      have Ns := Lib.hid (show Blk X1 gs 23 #[.int .i64 l1, .int .i64 u1] from Ks.out.bel hBX)
      have Nt := Lib.hid (show Blk X1 gt 23 #[.int .i64 l2, .int .i64 u2] by rw [← hX]; exact Blk.new hg.symm)
      have HK2 := Lib.hid (HK1.out.bel hBX); clear HK1; have HK1 := HK2; clear HK2
      clear qb0 qb1 qb2 qs0 qs1 lb ls
      clear hX hBX HBX0 hg Kb Ks
      have Kb := Nb
      have Ks := Ns
      have Kt := Nt
      clear Nb Ns Nt
      have HBX1 := HBX
      clear HBX
      have qb0 := Kb.out.cell 0
      have qb1 := Kb.out.cell 1
      have qb2 := Kb.out.cell 2
      have lb := Kb.out.lt
      have qs0 := Ks.out.cell 0
      have qs1 := Ks.out.cell 1
      have ls := Ks.out.lt
      have qt0 := Kt.out.cell 0
      have qt1 := Kt.out.cell 1
      have lt := Kt.out.lt
      simp only [List.size_toArray, List.length_cons, List.length_nil, Nat.reduceAdd, Nat.reduceLT, getElem?_pos, List.getElem_toArray, List.getElem_cons_zero, List.getElem_cons_succ] at qb0 qb1 qb2 qs0 qs1 qt0 qt1
      go_upto_region 8 with (go_at_call 25; refine (Empty_non b p c _ HK1.out hv hr hno).mono ?_; rintro e wu ⟨rfl, y, rfl⟩)
      generalize hX : ext X1 y = X2 at *
      have hBX : Below X1.heap.size X1 X2 := by rw [← hX]; (repeat (first | (with_reducible exact Below.refl _ _) | (with_reducible assumption) | ((with_reducible refine below_ext_trans ?_ ?_ _); rotate_left; focus (((try dsimp only); repeat (first | omega | simp only [World.size_alloc, World.size_setCell, World.size_drew] | (with_reducible refine le_ext_of ?_) | (with_reducible refine le_ext_add ?_))); done)) | ((with_reducible refine Below.alloc ?_ ?_ _); rotate_left; focus (((try dsimp only); repeat (first | omega | simp only [World.size_alloc, World.size_setCell, World.size_drew] | (with_reducible refine le_ext_of ?_) | (with_reducible refine le_ext_add ?_))); done)) | ((with_reducible refine Below.setCell ?_ ?_ _); rotate_left; focus (((try dsimp only); repeat (first | omega | simp only [World.size_alloc, World.size_setCell, World.size_drew] | (with_reducible refine le_ext_of ?_) | (with_reducible refine le_ext_add ?_))); done)) | (with_reducible refine Below.drew ?_)))
      have HBX := Lib.hid (HBX1.out.trans (hBX.mono HBX1.out.size))
      have Nb := Lib.hid (show Blk X2 w.heap.size 26 #[.int .i64 b.lo, .int .i64 b.hi, .slice p b.ns.length c] from Kb.out.bel hBX)
      have Ns := Lib.hid (show Blk X2 gs 23 #[.int .i64 l1, .int .i64 u1] from Ks.out.bel hBX)
      have Nt := Lib.hid (show Blk X2 gt 23 #[.int .i64 l2, .int .i64 u2] from Kt.out.bel hBX)
      have HK2 := Lib.hid (HK1.out.bel hBX); clear HK1; have HK1 := HK2; clear HK2
      clear qb0 qb1 qb2 qs0 qs1 qt0 qt1 lb ls lt
      clear hX hBX HBX1 Kb Ks Kt
      have Kb := Nb
      have Ks := Ns
      have Kt := Nt
      clear Nb Ns Nt
      have HBX2 := HBX
      clear HBX
      have qb0 := Kb.out.cell 0
      have qb1 := Kb.out.cell 1
      have qb2 := Kb.out.cell 2
      have lb := Kb.out.lt
      have qs0 := Ks.out.cell 0
      have qs1 := Ks.out.cell 1
      have ls := Ks.out.lt
      have qt0 := Kt.out.cell 0
      have qt1 := Kt.out.cell 1
      have lt := Kt.out.lt
      simp only [List.size_toArray, List.length_cons, List.length_nil, Nat.reduceAdd, Nat.reduceLT, getElem?_pos, List.getElem_toArray, List.getElem_cons_zero, List.getElem_cons_succ] at qb0 qb1 qb2 qs0 qs1 qt0 qt1
      clear hl1 hl2 hu1 hu2 hu1' hu2'
      go_wp2_with (go_at_call 24; refine (sounded_any _ HK1.out.mm).mono ?_; rintro e w1 ⟨rfl, y, rfl⟩)
      go_ret
      exact ⟨rfl, ext_of (HBX2.out.trans ((below_ext _ _).mono HBX2.out.size))⟩
theorem SeineLater_any (b : Sn) (p : Option Addr) (c : Nat) (n0 n1 : Int) (w : World) (hk : SBk w b p) (_ : SBc b p c) :
    Calls Tryd.prog 9 #[bV b p c, .agg #[.int .i64 n0, .int .i64 n1]] w fun e w' => e = .returned (.bool true) ∧ ∃ x, w' = ext w x := by
  cases hv : snB b with
  | false => exact SeineLater_bad b p c n0 n1 w hk hv
  | true => exact SeineLater_ok b p c n0 n1 w hk hv
end Go.Proofs.YtnckampdbbcehaaDoor

