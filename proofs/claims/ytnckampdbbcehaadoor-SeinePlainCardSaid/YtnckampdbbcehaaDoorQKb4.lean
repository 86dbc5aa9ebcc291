/- The walk of SeinePlain, a case. Written by gen_plain.py. -/
/- The walk of SeinePlain, a case. Written by gen_plain.py. -/
/- The walk of SeinePlain, a case. Written by gen_plain.py. -/
import Derived.Test.YtnckampdbbcehaaDoorQKb
import Derived.RegionTactic
set_option linter.unusedSimpArgs false
set_option linter.unusedVariables false
namespace Go.Proofs.YtnckampdbbcehaaDoor
open Go Go.RowKit Go.Shelf
attribute [local go_sem] Oper.semAt_some frozen_alloc_lt
set_option maxRecDepth 100000 in
set_option maxHeartbeats 8000000 in
theorem SeinePlain_mTZ (lo hi n0 n1 n2 r0 r1 r2 : Int) (w : World) (hmm : MM w) (hr0 : n0 % 61 = r0) (hr1 : n1 % 61 = r1) (hr2 : n2 % 401 = r2) (hm : r2 ≤ hi) (ht : ¬ r0 < r1) (hz : ¬ hi = 0) (hv : snB ⟨lo, hi, []⟩ = true) :
    Calls Tryd.prog 12 #[.agg #[.int .i64 lo, .int .i64 hi], .agg #[.int .i64 n0, .int .i64 n1, .int .i64 n2]] w fun e w' => e = .returned (.bool true) ∧ ∃ x, w' = ext w x := by
  have HM := Lib.hid hmm
  have HZ := Lib.hid hz
  clear hmm hz
  obtain ⟨s1, s2, s3, s4, s5, s6⟩ := (Ok9.of hv).span
  dsimp only at s1 s2 s3 s4 s5 s6
  have b0 : 0 ≤ r0 ∧ r0 ≤ 60 := by omega
  have b1 : 0 ≤ r1 ∧ r1 ≤ 60 := by omega
  have b2 : 0 ≤ r2 ∧ r2 ≤ 400 := by omega
  go_enter Tryd.func12, Tryd.ntmps12
  go_upto_region 4 with (go_at_call 34; refine (sound_yes ⟨lo, hi, []⟩ none 0 _ (sbk_none lo hi (HM.out.below (by (repeat (first | (with_reducible exact Below.refl _ _) | (with_reducible assumption) | ((with_reducible refine below_ext_trans ?_ ?_ _); rotate_left; focus (((try dsimp only); repeat (first | omega | simp only [World.size_alloc, World.size_setCell, World.size_drew] | (with_reducible refine le_ext_of ?_) | (with_reducible refine le_ext_add ?_))); done)) | ((with_reducible refine Below.alloc ?_ ?_ _); rotate_left; focus (((try dsimp only); repeat (first | omega | simp only [World.size_alloc, World.size_setCell, World.size_drew] | (with_reducible refine le_ext_of ?_) | (with_reducible refine le_ext_add ?_))); done)) | ((with_reducible refine Below.setCell ?_ ?_ _); rotate_left; focus (((try dsimp only); repeat (first | omega | simp only [World.size_alloc, World.size_setCell, World.size_drew] | (with_reducible refine le_ext_of ?_) | (with_reducible refine le_ext_add ?_))); done)) | (with_reducible refine Below.drew ?_)))))) hv).mono ?_; rintro e w1 ⟨rfl, y, rfl⟩)
  refine wp_region_ext (by kernel_rfl) (by kernel_rfl) ?_
  repeat (go_big_quiet_step (first | (go_at_call 37; exact quiet_ext (Wheel_any _ _ _ (by decide) (by decide)))))
  (refine wpQuiet_nil ?_; rintro _ ⟨x, rfl⟩)
  simp only [hr0, hr1, hr2]
  clear hr0 hr1 hr2
  go_upto_region 6 with fail
  generalize hX : (ext (((w.alloc _).alloc _).alloc _) _).alloc _ = XA
  generalize hg : (ext (((w.alloc _).alloc _).alloc _) _).heap.size = gx
  have hgx : w.heap.size + 3 ≤ gx := by
    rw [← hg]
    have := (below_ext (((w.alloc (Obj.cells #[Value.int .i64 lo, Value.int .i64 hi] 23)).alloc (Obj.cells #[Value.int .i64 n0, Value.int .i64 n1, Value.int .i64 n2] 67)).alloc (Obj.cells #[Value.int .i64 lo, Value.int .i64 hi, Value.slice none 0 0] 26)) (y.comp x)).size
    simpa using this
  have hBA : Below w.heap.size w XA := by rw [← hX]; (repeat (first | (with_reducible exact Below.refl _ _) | (with_reducible assumption) | ((with_reducible refine below_ext_trans ?_ ?_ _); rotate_left; focus (((try dsimp only); repeat (first | omega | simp only [World.size_alloc, World.size_setCell, World.size_drew] | (with_reducible refine le_ext_of ?_) | (with_reducible refine le_ext_add ?_))); done)) | ((with_reducible refine Below.alloc ?_ ?_ _); rotate_left; focus (((try dsimp only); repeat (first | omega | simp only [World.size_alloc, World.size_setCell, World.size_drew] | (with_reducible refine le_ext_of ?_) | (with_reducible refine le_ext_add ?_))); done)) | ((with_reducible refine Below.setCell ?_ ?_ _); rotate_left; focus (((try dsimp only); repeat (first | omega | simp only [World.size_alloc, World.size_setCell, World.size_drew] | (with_reducible refine le_ext_of ?_) | (with_reducible refine le_ext_add ?_))); done)) | (with_reducible refine Below.drew ?_)))
  have ks : Blk XA w.heap.size 23 #[.int .i64 lo, .int .i64 hi] := by rw [← hX]; exact ((((Blk.new rfl).alloc _).alloc _).ext _).alloc _
  have kb : Blk XA (w.heap.size + 2) 26 #[.int .i64 lo, .int .i64 hi, .slice none 0 0] := by rw [← hX]; exact ((Blk.new (by simp)).ext _).alloc _
  have kx : Blk XA gx 26 #[.int .i64 lo, .int .i64 hi, .slice none 0 0] := by rw [← hX]; exact Blk.new hg.symm
  have hxl := kx.lt
  have hxf := kx.frozen 2
  have hxc := kx.cell 2
  simp only [List.size_toArray, List.length_cons, List.length_nil, Nat.reduceAdd, Nat.reduceLT, getElem?_pos, List.getElem_toArray, List.getElem_cons_zero, List.getElem_cons_succ] at hxc
  have HBA := Lib.hid hBA
  have KS0 := Lib.hid ks
  have KB0 := Lib.hid kb
  have KX0 := Lib.hid kx
  clear hX hg hBA ks kb kx
  go_upto_region 7 with (first
    | (go_at_call 39; refine (Just_any _ _).mono ?_; rintro e w1 ⟨rfl, y, rfl⟩)
    | (go_at_call 40; refine (note_any _ _ _ _ _).mono ?_; rintro e w1 ⟨rfl, y, rfl⟩))
  generalize hX : ((ext XA _).setCell _ _).alloc _ = W
  generalize hg : (ext XA _).heap.size = gn
  have hgn : XA.heap.size ≤ gn := by rw [← hg]; exact (below_ext _ _).size
  have hx0 := HBA.out.size
  have hBW : Below w.heap.size w W := by
    rw [← hX]
    exact (((HBA.out.trans ((below_ext _ _).mono hx0)).setCell (by dsimp only; omega) _).alloc (by rw [World.size_setCell]; exact Nat.le_trans hx0 (below_ext _ _).size) _)
  have Ks := Lib.hid (show Blk W w.heap.size 23 #[.int .i64 lo, .int .i64 hi] by rw [← hX]; exact ((KS0.out.ext _).setOther (by omega) _ _).alloc _)
  have Kb := Lib.hid (show Blk W (w.heap.size + 2) 26 #[.int .i64 lo, .int .i64 hi, .slice none 0 0] by rw [← hX]; exact ((KB0.out.ext _).setOther (by omega) _ _).alloc _)
  have Kx := Lib.hid (show Blk W gx 26 #[.int .i64 lo, .int .i64 hi, .slice (some ⟨gn, 0, none⟩) 1 1] by rw [← hX, ← hg]; exact ((KX0.out.ext _).set 2 _).alloc _)
  have Kn := Lib.hid (show Blk W gn 38 #[.int .i64 0, .int .i64 r1, .int .i64 r2, .int .i64 r2] by rw [← hX]; exact Blk.new (by simp [hg]))
  have HBW := Lib.hid hBW
  have HMW := HM.out.below hBW
  have HK1 := Lib.hid (sbk_none lo hi HMW)
  have HK2 := Lib.hid (show SBk W (tuckS lo hi r1 r2) (some ⟨gn, 0, none⟩) from ⟨notes_of_blk Kn.out rfl (by simp), HMW, fun a ha => by cases ha; exact Kn.out.lt⟩)
  clear hX hg hBW HBA KS0 KB0 KX0 hxl hxf hxc HMW
  clear Kn
  have qs0 := Ks.out.cell 0
  have qs1 := Ks.out.cell 1
  have ls := Ks.out.lt
  have qb0 := Kb.out.cell 0
  have qb1 := Kb.out.cell 1
  have qb2 := Kb.out.cell 2
  have lb := Kb.out.lt
  have qx0 := Kx.out.cell 0
  have qx1 := Kx.out.cell 1
  have qx2 := Kx.out.cell 2
  have lx := Kx.out.lt
  simp only [List.size_toArray, List.length_cons, List.length_nil, Nat.reduceAdd, Nat.reduceLT, getElem?_pos, List.getElem_toArray, List.getElem_cons_zero, List.getElem_cons_succ] at qs0 qs1 qb0 qb1 qb2 qx0 qx1 qx2
  have hok : Ok9 ⟨lo, hi, []⟩ := Ok9.of hv
  have hr : rightS ⟨lo, hi, []⟩ = true := plain_right s5
  obtain ⟨eh1, eh2⟩ := (ends_held hok hr r0).uniq (plain_held s1 s5 r0)
  obtain ⟨er1, er2⟩ := (ends_rate hok hr r0).uniq (plain_rate s1 s5 r0)
  obtain ⟨es1, es2⟩ := (ends_saved hok hr (lastN []) (60 - lastN [])).uniq (plain_saved s1 s5 (lastN []) (60 - lastN []))
  go_upto_region 8 with (go_at_call 20; refine (Held_is ⟨lo, hi, []⟩ none 0 r0 lo hi _ HK1.out hv hr b0 eh1 eh2).mono ?_; rintro e wu ⟨rfl, y, rfl⟩)
  generalize hX : (ext W y).alloc _ = X0
  generalize hg : (ext W y).heap.size = gt at *
  have hBX : Below W.heap.size W X0 := by rw [← hX]; (repeat (first | (with_reducible exact Below.refl _ _) | (with_reducible assumption) | ((with_reducible refine below_ext_trans ?_ ?_ _); rotate_left; focus (((try dsimp only); repeat (first | omega | simp only [World.size_alloc, World.size_setCell, World.size_drew] | (with_reducible refine le_ext_of ?_) | (with_reducible refine le_ext_add ?_))); done)) | ((with_reducible refine Below.alloc ?_ ?_ _); rotate_left; focus (((try dsimp only); repeat (first | omega | simp only [World.size_alloc, World.size_setCell, World.size_drew] | (with_reducible refine le_ext_of ?_) | (with_reducible refine le_ext_add ?_))); done)) | ((with_reducible refine Below.setCell ?_ ?_ _); rotate_left; focus (((try dsimp only); repeat (first | omega | simp only [World.size_alloc, World.size_setCell, World.size_drew] | (with_reducible refine le_ext_of ?_) | (with_reducible refine le_ext_add ?_))); done)) | (with_reducible refine Below.drew ?_)))
  have HBX := Lib.hid (HBW.out.trans (hBX.mono HBW.out.size))
  have Ns := Lib.hid (show Blk X0 w.heap.size 23 #[.int .i64 lo, .int .i64 hi] from Ks.out.bel hBX)
  have Nb := Lib.hid (show Blk X0 (w.heap.size + 2) 26 #[.int .i64 lo, .int .i64 hi, .slice none 0 0] from Kb.out.bel hBX)
  have Nx := Lib.hid (show Blk X0 gx 26 #[.int .i64 lo, .int .i64 hi, .slice (some ⟨gn, 0, none⟩) 1 1] from Kx.out.bel hBX)
  have Nt := Lib.hid (show Blk X0 gt 23 #[.int .i64 lo, .int .i64 hi] by rw [← hX]; exact Blk.new hg.symm)
  have HK3 := Lib.hid (HK1.out.bel hBX); clear HK1; have HK1 := HK3; clear HK3; have HK3 := Lib.hid (HK2.out.bel hBX); clear HK2; have HK2 := HK3; clear HK3
  clear qs0 qs1 qb0 qb1 qb2 qx0 qx1 qx2 ls lb lx
  clear hX hBX HBW hg Ks Kb Kx
  have Ks := Ns
  have Kb := Nb
  have Kx := Nx
  have Kt := Nt
  clear Ns Nb Nx Nt
  have HBX0 := HBX
  clear HBX
  have qs0 := Ks.out.cell 0
  have qs1 := Ks.out.cell 1
  have ls := Ks.out.lt
  have qb0 := Kb.out.cell 0
  have qb1 := Kb.out.cell 1
  have qb2 := Kb.out.cell 2
  have lb := Kb.out.lt
  have qx0 := Kx.out.cell 0
  have qx1 := Kx.out.cell 1
  have qx2 := Kx.out.cell 2
  have lx := Kx.out.lt
  have qt0 := Kt.out.cell 0
  have qt1 := Kt.out.cell 1
  have lt := Kt.out.lt
  simp only [List.size_toArray, List.length_cons, List.length_nil, Nat.reduceAdd, Nat.reduceLT, getElem?_pos, List.getElem_toArray, List.getElem_cons_zero, List.getElem_cons_succ] at qs0 qs1 qb0 qb1 qb2 qx0 qx1 qx2 qt0 qt1
  go_upto_region 9 with (go_at_call 22; refine (Rate_is ⟨lo, hi, []⟩ none 0 r0 0 0 _ HK1.out hv hr b0 er1 er2).mono ?_; rintro e wu ⟨rfl, y, rfl⟩)
  generalize hX : (ext X0 y).alloc _ = X1
  generalize hg : (ext X0 y).heap.size = gr at *
  have hBX : Below X0.heap.size X0 X1 := by rw [← hX]; (repeat (first | (with_reducible exact Below.refl _ _) | (with_reducible assumption) | ((with_reducible refine below_ext_trans ?_ ?_ _); rotate_left; focus (((try dsimp only); repeat (first | omega | simp only [World.size_alloc, World.size_setCell, World.size_drew] | (with_reducible refine le_ext_of ?_) | (with_reducible refine le_ext_add ?_))); done)) | ((with_reducible refine Below.alloc ?_ ?_ _); rotate_left; focus (((try dsimp only); repeat (first | omega | simp only [World.size_alloc, World.size_setCell, World.size_drew] | (with_reducible refine le_ext_of ?_) | (with_reducible refine le_ext_add ?_))); done)) | ((with_reducible refine Below.setCell ?_ ?_ _); rotate_left; focus (((try dsimp only); repeat (first | omega | simp only [World.size_alloc, World.size_setCell, World.size_drew] | (with_reducible refine le_ext_of ?_) | (with_reducible refine le_ext_add ?_))); done)) | (with_reducible refine Below.drew ?_)))
  have HBX := Lib.hid (HBX0.out.trans (hBX.mono HBX0.out.size))
  have Ns := Lib.hid (show Blk X1 w.heap.size 23 #[.int .i64 lo, .int .i64 hi] from Ks.out.bel hBX)
  have Nb := Lib.hid (show Blk X1 (w.heap.size + 2) 26 #[.int .i64 lo, .int .i64 hi, .slice none 0 0] from Kb.out.bel hBX)
  have Nx := Lib.hid (show Blk X1 gx 26 #[.int .i64 lo, .int .i64 hi, .slice (some ⟨gn, 0, none⟩) 1 1] from Kx.out.bel hBX)
  have Nt := Lib.hid (show Blk X1 gt 23 #[.int .i64 lo, .int .i64 hi] from Kt.out.bel hBX)
  have Nr := Lib.hid (show Blk X1 gr 23 #[.int .i64 0, .int .i64 0] by rw [← hX]; exact Blk.new hg.symm)
  have HK3 := Lib.hid (HK1.out.bel hBX); clear HK1; have HK1 := HK3; clear HK3; have HK3 := Lib.hid (HK2.out.bel hBX); clear HK2; have HK2 := HK3; clear HK3
  clear qs0 qs1 qb0 qb1 qb2 qx0 qx1 qx2 qt0 qt1 ls lb lx lt
  clear hX hBX HBX0 hg Ks Kb Kx Kt
  have Ks := Ns
  have Kb := Nb
  have Kx := Nx
  have Kt := Nt
  have Kr := Nr
  clear Ns Nb Nx Nt Nr
  have HBX1 := HBX
  clear HBX
  have qs0 := Ks.out.cell 0
  have qs1 := Ks.out.cell 1
  have ls := Ks.out.lt
  have qb0 := Kb.out.cell 0
  have qb1 := Kb.out.cell 1
  have qb2 := Kb.out.cell 2
  have lb := Kb.out.lt
  have qx0 := Kx.out.cell 0
  have qx1 := Kx.out.cell 1
  have qx2 := Kx.out.cell 2
  have lx := Kx.out.lt
  have qt0 := Kt.out.cell 0
  have qt1 := Kt.out.cell 1
  have lt := Kt.out.lt
  have qr0 := Kr.out.cell 0
  have qr1 := Kr.out.cell 1
  have lr := Kr.out.lt
  simp only [List.size_toArray, List.length_cons, List.length_nil, Nat.reduceAdd, Nat.reduceLT, getElem?_pos, List.getElem_toArray, List.getElem_cons_zero, List.getElem_cons_succ] at qs0 qs1 qb0 qb1 qb2 qx0 qx1 qx2 qt0 qt1 qr0 qr1
  go_upto_region 10 with (go_at_call 27; refine (Saved_is ⟨lo, hi, []⟩ none 0 0 0 _ HK1.out hv hr es1 es2).mono ?_; rintro e wu ⟨rfl, y, rfl⟩)
  generalize hX : (ext X1 y).alloc _ = X2
  generalize hg : (ext X1 y).heap.size = gv at *
  have hBX : Below X1.heap.size X1 X2 := by rw [← hX]; (repeat (first | (with_reducible exact Below.refl _ _) | (with_reducible assumption) | ((with_reducible refine below_ext_trans ?_ ?_ _); rotate_left; focus (((try dsimp only); repeat (first | omega | simp only [World.size_alloc, World.size_setCell, World.size_drew] | (with_reducible refine le_ext_of ?_) | (with_reducible refine le_ext_add ?_))); done)) | ((with_reducible refine Below.alloc ?_ ?_ _); rotate_left; focus (((try dsimp only); repeat (first | omega | simp only [World.size_alloc, World.size_setCell, World.size_drew] | (with_reducible refine le_ext_of ?_) | (with_reducible refine le_ext_add ?_))); done)) | ((with_reducible refine Below.setCell ?_ ?_ _); rotate_left; focus (((try dsimp only); repeat (first | omega | simp only [World.size_alloc, World.size_setCell, World.size_drew] | (with_reducible refine le_ext_of ?_) | (with_reducible refine le_ext_add ?_))); done)) | (with_reducible refine Below.drew ?_)))
  have HBX := Lib.hid (HBX1.out.trans (hBX.mono HBX1.out.size))
  have Ns := Lib.hid (show Blk X2 w.heap.size 23 #[.int .i64 lo, .int .i64 hi] from Ks.out.bel hBX)
  have Nb := Lib.hid (show Blk X2 (w.heap.size + 2) 26 #[.int .i64 lo, .int .i64 hi, .slice none 0 0] from Kb.out.bel hBX)
  have Nx := Lib.hid (show Blk X2 gx 26 #[.int .i64 lo, .int .i64 hi, .slice (some ⟨gn, 0, none⟩) 1 1] from Kx.out.bel hBX)
  have Nt := Lib.hid (show Blk X2 gt 23 #[.int .i64 lo, .int .i64 hi] from Kt.out.bel hBX)
  have Nr := Lib.hid (show Blk X2 gr 23 #[.int .i64 0, .int .i64 0] from Kr.out.bel hBX)
  have Nv := Lib.hid (show Blk X2 gv 23 #[.int .i64 0, .int .i64 0] by rw [← hX]; exact Blk.new hg.symm)
  have HK3 := Lib.hid (HK1.out.bel hBX); clear HK1; have HK1 := HK3; clear HK3; have HK3 := Lib.hid (HK2.out.bel hBX); clear HK2; have HK2 := HK3; clear HK3
  clear qs0 qs1 qb0 qb1 qb2 qx0 qx1 qx2 qt0 qt1 qr0 qr1 ls lb lx lt lr
  clear hX hBX HBX1 hg Ks Kb Kx Kt Kr
  have Ks := Ns
  have Kb := Nb
  have Kx := Nx
  have Kt := Nt
  have Kr := Nr
  have Kv := Nv
  clear Ns Nb Nx Nt Nr Nv
  have HBX2 := HBX
  clear HBX
  have qs0 := Ks.out.cell 0
  have qs1 := Ks.out.cell 1
  have ls := Ks.out.lt
  have qb0 := Kb.out.cell 0
  have qb1 := Kb.out.cell 1
  have qb2 := Kb.out.cell 2
  have lb := Kb.out.lt
  have qx0 := Kx.out.cell 0
  have qx1 := Kx.out.cell 1
  have qx2 := Kx.out.cell 2
  have lx := Kx.out.lt
  have qt0 := Kt.out.cell 0
  have qt1 := Kt.out.cell 1
  have lt := Kt.out.lt
  have qr0 := Kr.out.cell 0
  have qr1 := Kr.out.cell 1
  have lr := Kr.out.lt
  have qv0 := Kv.out.cell 0
  have qv1 := Kv.out.cell 1
  have lv := Kv.out.lt
  simp only [List.size_toArray, List.length_cons, List.length_nil, Nat.reduceAdd, Nat.reduceLT, getElem?_pos, List.getElem_toArray, List.getElem_cons_zero, List.getElem_cons_succ] at qs0 qs1 qb0 qb1 qb2 qx0 qx1 qx2 qt0 qt1 qr0 qr1 qv0 qv1
  have hvx : snB (tuckS lo hi r1 r2) = true := tuck_valid s1 s2 s3 s4 s5 s6 b1 b2
  have hokx : Ok9 (tuckS lo hi r1 r2) := Ok9.of hvx
  have htop : ∀ t : Int, topH ⟨lo, hi, []⟩ t = hi := fun t => ((ends_held hok hr t).uniq (plain_held s1 s5 t)).2
  obtain ⟨M, hM1, hM2⟩ : ∃ M, max lo r2 = M ∧ (if lo < r2 then r2 else lo) = M := ⟨max lo r2, rfl, by split <;> omega⟩
  have hM3 : lo ≤ M ∧ r2 ≤ M ∧ M ≤ 400 := by omega
  have e1 : IntKind.i64.wrap (M - r2) = M - r2 := IntWalk.i64_in _ (by omega)
  have e2 : IntKind.i64.wrap (hi - r2) = hi - r2 := IntWalk.i64_in _ (by omega)
  clear eh1 eh2 er1 er2 es1 es2
  have hm2 : ¬ hi < r2 := by omega
  have hm3 : decide (hi < r2) = false := by simpa using hm2
  have hrx : rightS (tuckS lo hi r1 r2) = true := by rw [tuck_right s1 s5]; simpa using hm
  have ht2 : decide (r0 < r1) = false := by simpa using ht
  obtain ⟨eh1, eh2⟩ := (ends_held hokx hrx r0).uniq (tuck_behind s1 s5 hm (by omega))
  rw [hM1] at eh1
  go_upto_region 11 with (go_at_call 20; refine (Held_is (tuckS lo hi r1 r2) _ 1 r0 (M - r2) (hi - r2) _ HK2.out hvx hrx b0 eh1 eh2).mono ?_; rintro e wu ⟨rfl, y, rfl⟩)
  generalize hX : (ext X2 y).alloc _ = X3
  generalize hg : (ext X2 y).heap.size = gh at *
  have hBX : Below X2.heap.size X2 X3 := by rw [← hX]; (repeat (first | (with_reducible exact Below.refl _ _) | (with_reducible assumption) | ((with_reducible refine below_ext_trans ?_ ?_ _); rotate_left; focus (((try dsimp only); repeat (first | omega | simp only [World.size_alloc, World.size_setCell, World.size_drew] | (with_reducible refine le_ext_of ?_) | (with_reducible refine le_ext_add ?_))); done)) | ((with_reducible refine Below.alloc ?_ ?_ _); rotate_left; focus (((try dsimp only); repeat (first | omega | simp only [World.size_alloc, World.size_setCell, World.size_drew] | (with_reducible refine le_ext_of ?_) | (with_reducible refine le_ext_add ?_))); done)) | ((with_reducible refine Below.setCell ?_ ?_ _); rotate_left; focus (((try dsimp only); repeat (first | omega | simp only [World.size_alloc, World.size_setCell, World.size_drew] | (with_reducible refine le_ext_of ?_) | (with_reducible refine le_ext_add ?_))); done)) | (with_reducible refine Below.drew ?_)))
  have HBX := Lib.hid (HBX2.out.trans (hBX.mono HBX2.out.size))
  have Ns := Lib.hid (show Blk X3 w.heap.size 23 #[.int .i64 lo, .int .i64 hi] from Ks.out.bel hBX)
  have Nb := Lib.hid (show Blk X3 (w.heap.size + 2) 26 #[.int .i64 lo, .int .i64 hi, .slice none 0 0] from Kb.out.bel hBX)
  have Nx := Lib.hid (show Blk X3 gx 26 #[.int .i64 lo, .int .i64 hi, .slice (some ⟨gn, 0, none⟩) 1 1] from Kx.out.bel hBX)
  have Nt := Lib.hid (show Blk X3 gt 23 #[.int .i64 lo, .int .i64 hi] from Kt.out.bel hBX)
  have Nr := Lib.hid (show Blk X3 gr 23 #[.int .i64 0, .int .i64 0] from Kr.out.bel hBX)
  have Nv := Lib.hid (show Blk X3 gv 23 #[.int .i64 0, .int .i64 0] from Kv.out.bel hBX)
  have Nh := Lib.hid (show Blk X3 gh 23 #[.int .i64 (M - r2), .int .i64 (hi - r2)] by rw [← hX]; exact Blk.new hg.symm)
  have HK3 := Lib.hid (HK1.out.bel hBX); clear HK1; have HK1 := HK3; clear HK3; have HK3 := Lib.hid (HK2.out.bel hBX); clear HK2; have HK2 := HK3; clear HK3
  clear qs0 qs1 qb0 qb1 qb2 qx0 qx1 qx2 qt0 qt1 qr0 qr1 qv0 qv1 ls lb lx lt lr lv
  clear hX hBX HBX2 hg Ks Kb Kx Kt Kr Kv
  have Ks := Ns
  have Kb := Nb
  have Kx := Nx
  have Kt := Nt
  have Kr := Nr
  have Kv := Nv
  have Kh := Nh
  clear Ns Nb Nx Nt Nr Nv Nh
  have HBX3 := HBX
  clear HBX
  have qs0 := Ks.out.cell 0
  have qs1 := Ks.out.cell 1
  have ls := Ks.out.lt
  have qb0 := Kb.out.cell 0
  have qb1 := Kb.out.cell 1
  have qb2 := Kb.out.cell 2
  have lb := Kb.out.lt
  have qx0 := Kx.out.cell 0
  have qx1 := Kx.out.cell 1
  have qx2 := Kx.out.cell 2
  have lx := Kx.out.lt
  have qt0 := Kt.out.cell 0
  have qt1 := Kt.out.cell 1
  have lt := Kt.out.lt
  have qr0 := Kr.out.cell 0
  have qr1 := Kr.out.cell 1
  have lr := Kr.out.lt
  have qv0 := Kv.out.cell 0
  have qv1 := Kv.out.cell 1
  have lv := Kv.out.lt
  have qh0 := Kh.out.cell 0
  have qh1 := Kh.out.cell 1
  have lh := Kh.out.lt
  simp only [List.size_toArray, List.length_cons, List.length_nil, Nat.reduceAdd, Nat.reduceLT, getElem?_pos, List.getElem_toArray, List.getElem_cons_zero, List.getElem_cons_succ] at qs0 qs1 qb0 qb1 qb2 qx0 qx1 qx2 qt0 qt1 qr0 qr1 qv0 qv1 qh0 qh1
  clear eh1 eh2
  have hz1 : (hi == 0) = false := by simpa using HZ.out
  have hE0 : ∀ j : Nat, j ≤ 60 → topH ⟨lo, hi, []⟩ (j : Int) ≠ 0 := fun j _ => by rw [htop]; exact HZ.out
  go_upto_region 12 with (go_at_call 25; refine (Empty_non ⟨lo, hi, []⟩ none 0 _ HK1.out hv hr hE0).mono ?_; rintro e wu ⟨rfl, y, rfl⟩)
  generalize hX : ext X3 y = X4 at *
  have hBX : Below X3.heap.size X3 X4 := by rw [← hX]; (repeat (first | (with_reducible exact Below.refl _ _) | (with_reducible assumption) | ((with_reducible refine below_ext_trans ?_ ?_ _); rotate_left; focus (((try dsimp only); repeat (first | omega | simp only [World.size_alloc, World.size_setCell, World.size_drew] | (with_reducible refine le_ext_of ?_) | (with_reducible refine le_ext_add ?_))); done)) | ((with_reducible refine Below.alloc ?_ ?_ _); rotate_left; focus (((try dsimp only); repeat (first | omega | simp only [World.size_alloc, World.size_setCell, World.size_drew] | (with_reducible refine le_ext_of ?_) | (with_reducible refine le_ext_add ?_))); done)) | ((with_reducible refine Below.setCell ?_ ?_ _); rotate_left; focus (((try dsimp only); repeat (first | omega | simp only [World.size_alloc, World.size_setCell, World.size_drew] | (with_reducible refine le_ext_of ?_) | (with_reducible refine le_ext_add ?_))); done)) | (with_reducible refine Below.drew ?_)))
  have HBX := Lib.hid (HBX3.out.trans (hBX.mono HBX3.out.size))
  have Ns := Lib.hid (show Blk X4 w.heap.size 23 #[.int .i64 lo, .int .i64 hi] from Ks.out.bel hBX)
  have Nb := Lib.hid (show Blk X4 (w.heap.size + 2) 26 #[.int .i64 lo, .int .i64 hi, .slice none 0 0] from Kb.out.bel hBX)
  have Nx := Lib.hid (show Blk X4 gx 26 #[.int .i64 lo, .int .i64 hi, .slice (some ⟨gn, 0, none⟩) 1 1] from Kx.out.bel hBX)
  have Nt := Lib.hid (show Blk X4 gt 23 #[.int .i64 lo, .int .i64 hi] from Kt.out.bel hBX)
  have Nr := Lib.hid (show Blk X4 gr 23 #[.int .i64 0, .int .i64 0] from Kr.out.bel hBX)
  have Nv := Lib.hid (show Blk X4 gv 23 #[.int .i64 0, .int .i64 0] from Kv.out.bel hBX)
  have Nh := Lib.hid (show Blk X4 gh 23 #[.int .i64 (M - r2), .int .i64 (hi - r2)] from Kh.out.bel hBX)
  have HK3 := Lib.hid (HK1.out.bel hBX); clear HK1; have HK1 := HK3; clear HK3; have HK3 := Lib.hid (HK2.out.bel hBX); clear HK2; have HK2 := HK3; clear HK3
  clear qs0 qs1 qb0 qb1 qb2 qx0 qx1 qx2 qt0 qt1 qr0 qr1 qv0 qv1 qh0 qh1 ls lb lx lt lr lv lh
  clear hX hBX HBX3 Ks Kb Kx Kt Kr Kv Kh
  have Ks := Ns
  have Kb := Nb
  have Kx := Nx
  have Kt := Nt
  have Kr := Nr
  have Kv := Nv
  have Kh := Nh
  clear Ns Nb Nx Nt Nr Nv Nh
  have HBX4 := HBX
  clear HBX
  have qs0 := Ks.out.cell 0
  have qs1 := Ks.out.cell 1
  have ls := Ks.out.lt
  have qb0 := Kb.out.cell 0
  have qb1 := Kb.out.cell 1
  have qb2 := Kb.out.cell 2
  have lb := Kb.out.lt
  have qx0 := Kx.out.cell 0
  have qx1 := Kx.out.cell 1
  have qx2 := Kx.out.cell 2
  have lx := Kx.out.lt
  have qt0 := Kt.out.cell 0
  have qt1 := Kt.out.cell 1
  have lt := Kt.out.lt
  have qr0 := Kr.out.cell 0
  have qr1 := Kr.out.cell 1
  have lr := Kr.out.lt
  have qv0 := Kv.out.cell 0
  have qv1 := Kv.out.cell 1
  have lv := Kv.out.lt
  have qh0 := Kh.out.cell 0
  have qh1 := Kh.out.cell 1
  have lh := Kh.out.lt
  simp only [List.size_toArray, List.length_cons, List.length_nil, Nat.reduceAdd, Nat.reduceLT, getElem?_pos, List.getElem_toArray, List.getElem_cons_zero, List.getElem_cons_succ] at qs0 qs1 qb0 qb1 qb2 qx0 qx1 qx2 qt0 qt1 qr0 qr1 qv0 qv1 qh0 qh1
  clear htop hE0
  refine wp_region_ext (by kernel_rfl) (by kernel_rfl) ?_
  repeat (go_big_quiet_step (first | (go_at_call 39; exact quiet_ext (Just_any _ _))))
  (refine wpQuiet_nil ?_; rintro _ ⟨x, rfl⟩)
  generalize hX : ext X4 _ = Y0
  have hBX : Below X4.heap.size X4 Y0 := by rw [← hX]; exact below_ext _ _
  have HBY0 := Lib.hid (HBX4.out.trans (hBX.mono HBX4.out.size))
  have HK3 := Lib.hid (HK1.out.bel hBX); clear HK1; have HK1 := HK3; clear HK3; have HK3 := Lib.hid (HK2.out.bel hBX); clear HK2; have HK2 := HK3; clear HK3
  have Ns := Lib.hid (show Blk Y0 w.heap.size 23 #[.int .i64 lo, .int .i64 hi] from Ks.out.bel hBX)
  have Nb := Lib.hid (show Blk Y0 (w.heap.size + 2) 26 #[.int .i64 lo, .int .i64 hi, .slice none 0 0] from Kb.out.bel hBX)
  have Nx := Lib.hid (show Blk Y0 gx 26 #[.int .i64 lo, .int .i64 hi, .slice (some ⟨gn, 0, none⟩) 1 1] from Kx.out.bel hBX)
  have Nt := Lib.hid (show Blk Y0 gt 23 #[.int .i64 lo, .int .i64 hi] from Kt.out.bel hBX)
  have Nr := Lib.hid (show Blk Y0 gr 23 #[.int .i64 0, .int .i64 0] from Kr.out.bel hBX)
  have Nv := Lib.hid (show Blk Y0 gv 23 #[.int .i64 0, .int .i64 0] from Kv.out.bel hBX)
  have Nh := Lib.hid (show Blk Y0 gh 23 #[.int .i64 (M - r2), .int .i64 (hi - r2)] from Kh.out.bel hBX)
  clear qs0 qs1 qb0 qb1 qb2 qx0 qx1 qx2 qt0 qt1 qr0 qr1 qv0 qv1 qh0 qh1 ls lb lx lt lr lv lh
  clear hX hBX HBX4 Ks Kb Kx Kt Kr Kv Kh
  have Ks := Ns
  have Kb := Nb
  have Kx := Nx
  have Kt := Nt
  have Kr := Nr
  have Kv := Nv
  have Kh := Nh
  clear Ns Nb Nx Nt Nr Nv Nh
  have qs0 := Ks.out.cell 0
  have qs1 := Ks.out.cell 1
  have ls := Ks.out.lt
  have qb0 := Kb.out.cell 0
  have qb1 := Kb.out.cell 1
  have qb2 := Kb.out.cell 2
  have lb := Kb.out.lt
  have qx0 := Kx.out.cell 0
  have qx1 := Kx.out.cell 1
  have qx2 := Kx.out.cell 2
  have lx := Kx.out.lt
  have qt0 := Kt.out.cell 0
  have qt1 := Kt.out.cell 1
  have lt := Kt.out.lt
  have qr0 := Kr.out.cell 0
  have qr1 := Kr.out.cell 1
  have lr := Kr.out.lt
  have qv0 := Kv.out.cell 0
  have qv1 := Kv.out.cell 1
  have lv := Kv.out.lt
  have qh0 := Kh.out.cell 0
  have qh1 := Kh.out.cell 1
  have lh := Kh.out.lt
  simp only [List.size_toArray, List.length_cons, List.length_nil, Nat.reduceAdd, Nat.reduceLT, getElem?_pos, List.getElem_toArray, List.getElem_cons_zero, List.getElem_cons_succ] at qs0 qs1 qb0 qb1 qb2 qx0 qx1 qx2 qt0 qt1 qr0 qr1 qv0 qv1 qh0 qh1
  go_upto_region 17 with (go_at_call 48; refine (To_any _ _ _).mono ?_; rintro e wu ⟨rfl, y, rfl⟩)
  try simp only [hM2]
  generalize hX : (ext Y0 y).alloc _ = X5
  generalize hg : (ext Y0 y).heap.size = gd at *
  have hBX : Below Y0.heap.size Y0 X5 := by rw [← hX]; (repeat (first | (with_reducible exact Below.refl _ _) | (with_reducible assumption) | ((with_reducible refine below_ext_trans ?_ ?_ _); rotate_left; focus (((try dsimp only); repeat (first | omega | simp only [World.size_alloc, World.size_setCell, World.size_drew] | (with_reducible refine le_ext_of ?_) | (with_reducible refine le_ext_add ?_))); done)) | ((with_reducible refine Below.alloc ?_ ?_ _); rotate_left; focus (((try dsimp only); repeat (first | omega | simp only [World.size_alloc, World.size_setCell, World.size_drew] | (with_reducible refine le_ext_of ?_) | (with_reducible refine le_ext_add ?_))); done)) | ((with_reducible refine Below.setCell ?_ ?_ _); rotate_left; focus (((try dsimp only); repeat (first | omega | simp only [World.size_alloc, World.size_setCell, World.size_drew] | (with_reducible refine le_ext_of ?_) | (with_reducible refine le_ext_add ?_))); done)) | (with_reducible refine Below.drew ?_)))
  have HBX := Lib.hid (HBY0.out.trans (hBX.mono HBY0.out.size))
  have Ns := Lib.hid (show Blk X5 w.heap.size 23 #[.int .i64 lo, .int .i64 hi] from Ks.out.bel hBX)
  have Nb := Lib.hid (show Blk X5 (w.heap.size + 2) 26 #[.int .i64 lo, .int .i64 hi, .slice none 0 0] from Kb.out.bel hBX)
  have Nx := Lib.hid (show Blk X5 gx 26 #[.int .i64 lo, .int .i64 hi, .slice (some ⟨gn, 0, none⟩) 1 1] from Kx.out.bel hBX)
  have Nt := Lib.hid (show Blk X5 gt 23 #[.int .i64 lo, .int .i64 hi] from Kt.out.bel hBX)
  have Nr := Lib.hid (show Blk X5 gr 23 #[.int .i64 0, .int .i64 0] from Kr.out.bel hBX)
  have Nv := Lib.hid (show Blk X5 gv 23 #[.int .i64 0, .int .i64 0] from Kv.out.bel hBX)
  have Nh := Lib.hid (show Blk X5 gh 23 #[.int .i64 (M - r2), .int .i64 (hi - r2)] from Kh.out.bel hBX)
  have Nd := Lib.hid (show Blk X5 gd 23 #[.int .i64 M, .int .i64 hi] by rw [← hX]; exact Blk.new hg.symm)
  have HK3 := Lib.hid (HK1.out.bel hBX); clear HK1; have HK1 := HK3; clear HK3; have HK3 := Lib.hid (HK2.out.bel hBX); clear HK2; have HK2 := HK3; clear HK3
  clear qs0 qs1 qb0 qb1 qb2 qx0 qx1 qx2 qt0 qt1 qr0 qr1 qv0 qv1 qh0 qh1 ls lb lx lt lr lv lh
  clear hX hBX HBY0 hg Ks Kb Kx Kt Kr Kv Kh
  have Ks := Ns
  have Kb := Nb
  have Kx := Nx
  have Kt := Nt
  have Kr := Nr
  have Kv := Nv
  have Kh := Nh
  have Kd := Nd
  clear Ns Nb Nx Nt Nr Nv Nh Nd
  have HBX5 := HBX
  clear HBX
  have qs0 := Ks.out.cell 0
  have qs1 := Ks.out.cell 1
  have ls := Ks.out.lt
  have qb0 := Kb.out.cell 0
  have qb1 := Kb.out.cell 1
  have qb2 := Kb.out.cell 2
  have lb := Kb.out.lt
  have qx0 := Kx.out.cell 0
  have qx1 := Kx.out.cell 1
  have qx2 := Kx.out.cell 2
  have lx := Kx.out.lt
  have qt0 := Kt.out.cell 0
  have qt1 := Kt.out.cell 1
  have lt := Kt.out.lt
  have qr0 := Kr.out.cell 0
  have qr1 := Kr.out.cell 1
  have lr := Kr.out.lt
  have qv0 := Kv.out.cell 0
  have qv1 := Kv.out.cell 1
  have lv := Kv.out.lt
  have qh0 := Kh.out.cell 0
  have qh1 := Kh.out.cell 1
  have lh := Kh.out.lt
  have qd0 := Kd.out.cell 0
  have qd1 := Kd.out.cell 1
  have ld := Kd.out.lt
  simp only [List.size_toArray, List.length_cons, List.length_nil, Nat.reduceAdd, Nat.reduceLT, getElem?_pos, List.getElem_toArray, List.getElem_cons_zero, List.getElem_cons_succ] at qs0 qs1 qb0 qb1 qb2 qx0 qx1 qx2 qt0 qt1 qr0 qr1 qv0 qv1 qh0 qh1 qd0 qd1
  go_upto_region 19 with fail
  refine wp_region_ext (by kernel_rfl) (by kernel_rfl) ?_
  repeat (go_big_quiet_step (first | (go_at_call 48; exact quiet_ext (To_any _ _ _)) | (go_at_call 24; exact quiet_ext (sounded_any _ (HK1.out.mm.below (by (repeat (first | (with_reducible exact Below.refl _ _) | (with_reducible assumption) | ((with_reducible refine below_ext_trans ?_ ?_ _); rotate_left; focus (((try dsimp only); repeat (first | omega | simp only [World.size_alloc, World.size_setCell, World.size_drew] | (with_reducible refine le_ext_of ?_) | (with_reducible refine le_ext_add ?_))); done)) | ((with_reducible refine Below.alloc ?_ ?_ _); rotate_left; focus (((try dsimp only); repeat (first | omega | simp only [World.size_alloc, World.size_setCell, World.size_drew] | (with_reducible refine le_ext_of ?_) | (with_reducible refine le_ext_add ?_))); done)) | ((with_reducible refine Below.setCell ?_ ?_ _); rotate_left; focus (((try dsimp only); repeat (first | omega | simp only [World.size_alloc, World.size_setCell, World.size_drew] | (with_reducible refine le_ext_of ?_) | (with_reducible refine le_ext_add ?_))); done)) | (with_reducible refine Below.drew ?_)))))))))
  (refine wpQuiet_nil ?_; rintro _ ⟨x, rfl⟩)
  go_wp2_with fail
  go_ret
  exact ⟨rfl, ext_of (HBX5.out.trans ((below_ext _ _).mono HBX5.out.size))⟩
end Go.Proofs.YtnckampdbbcehaaDoor

namespace Go.Proofs.YtnckampdbbcehaaDoor
open Go Go.RowKit Go.Shelf
attribute [local go_sem] Oper.semAt_some frozen_alloc_lt
set_option maxRecDepth 100000 in
set_option maxHeartbeats 8000000 in
theorem SeinePlain_Mz (lo hi n0 n1 n2 r0 r1 r2 : Int) (w : World) (hmm : MM w) (hr0 : n0 % 61 = r0) (hr1 : n1 % 61 = r1) (hr2 : n2 % 401 = r2) (hm : ¬ r2 ≤ hi) (hz : hi = 0) (hv : snB ⟨lo, hi, []⟩ = true) :
    Calls Tryd.prog 12 #[.agg #[.int .i64 lo, .int .i64 hi], .agg #[.int .i64 n0, .int .i64 n1, .int .i64 n2]] w fun e w' => e = .returned (.bool true) ∧ ∃ x, w' = ext w x := by
  have HM := Lib.hid hmm
  have HZ := Lib.hid hz
  clear hmm hz
  obtain ⟨s1, s2, s3, s4, s5, s6⟩ := (Ok9.of hv).span
  dsimp only at s1 s2 s3 s4 s5 s6
  have b0 : 0 ≤ r0 ∧ r0 ≤ 60 := by omega
  have b1 : 0 ≤ r1 ∧ r1 ≤ 60 := by omega
  have b2 : 0 ≤ r2 ∧ r2 ≤ 400 := by omega
  go_enter Tryd.func12, Tryd.ntmps12
  go_upto_region 4 with (go_at_call 34; refine (sound_yes ⟨lo, hi, []⟩ none 0 _ (sbk_none lo hi (HM.out.below (by (repeat (first | (with_reducible exact Below.refl _ _) | (with_reducible assumption) | ((with_reducible refine below_ext_trans ?_ ?_ _); rotate_left; focus (((try dsimp only); repeat (first | omega | simp only [World.size_alloc, World.size_setCell, World.size_drew] | (with_reducible refine le_ext_of ?_) | (with_reducible refine le_ext_add ?_))); done)) | ((with_reducible refine Below.alloc ?_ ?_ _); rotate_left; focus (((try dsimp only); repeat (first | omega | simp only [World.size_alloc, World.size_setCell, World.size_drew] | (with_reducible refine le_ext_of ?_) | (with_reducible refine le_ext_add ?_))); done)) | ((with_reducible refine Below.setCell ?_ ?_ _); rotate_left; focus (((try dsimp only); repeat (first | omega | simp only [World.size_alloc, World.size_setCell, World.size_drew] | (with_reducible refine le_ext_of ?_) | (with_reducible refine le_ext_add ?_))); done)) | (with_reducible refine Below.drew ?_)))))) hv).mono ?_; rintro e w1 ⟨rfl, y, rfl⟩)
  refine wp_region_ext (by kernel_rfl) (by kernel_rfl) ?_
  repeat (go_big_quiet_step (first | (go_at_call 37; exact quiet_ext (Wheel_any _ _ _ (by decide) (by decide)))))
  (refine wpQuiet_nil ?_; rintro _ ⟨x, rfl⟩)
  simp only [hr0, hr1, hr2]
  clear hr0 hr1 hr2
  go_upto_region 6 with fail
  generalize hX : (ext (((w.alloc _).alloc _).alloc _) _).alloc _ = XA
  generalize hg : (ext (((w.alloc _).alloc _).alloc _) _).heap.size = gx
  have hgx : w.heap.size + 3 ≤ gx := by
    rw [← hg]
    have := (below_ext (((w.alloc (Obj.cells #[Value.int .i64 lo, Value.int .i64 hi] 23)).alloc (Obj.cells #[Value.int .i64 n0, Value.int .i64 n1, Value.int .i64 n2] 67)).alloc (Obj.cells #[Value.int .i64 lo, Value.int .i64 hi, Value.slice none 0 0] 26)) (y.comp x)).size
    simpa using this
  have hBA : Below w.heap.size w XA := by rw [← hX]; (repeat (first | (with_reducible exact Below.refl _ _) | (with_reducible assumption) | ((with_reducible refine below_ext_trans ?_ ?_ _); rotate_left; focus (((try dsimp only); repeat (first | omega | simp only [World.size_alloc, World.size_setCell, World.size_drew] | (with_reducible refine le_ext_of ?_) | (with_reducible refine le_ext_add ?_))); done)) | ((with_reducible refine Below.alloc ?_ ?_ _); rotate_left; focus (((try dsimp only); repeat (first | omega | simp only [World.size_alloc, World.size_setCell, World.size_drew] | (with_reducible refine le_ext_of ?_) | (with_reducible refine le_ext_add ?_))); done)) | ((with_reducible refine Below.setCell ?_ ?_ _); rotate_left; focus (((try dsimp only); repeat (first | omega | simp only [World.size_alloc, World.size_setCell, World.size_drew] | (with_reducible refine le_ext_of ?_) | (with_reducible refine le_ext_add ?_))); done)) | (with_reducible refine Below.drew ?_)))
  have ks : Blk XA w.heap.size 23 #[.int .i64 lo, .int .i64 hi] := by rw [← hX]; exact ((((Blk.new rfl).alloc _).alloc _).ext _).alloc _
  have kb : Blk XA (w.heap.size + 2) 26 #[.int .i64 lo, .int .i64 hi, .slice none 0 0] := by rw [← hX]; exact ((Blk.new (by simp)).ext _).alloc _
  have kx : Blk XA gx 26 #[.int .i64 lo, .int .i64 hi, .slice none 0 0] := by rw [← hX]; exact Blk.new hg.symm
  have hxl := kx.lt
  have hxf := kx.frozen 2
  have hxc := kx.cell 2
  simp only [List.size_toArray, List.length_cons, List.length_nil, Nat.reduceAdd, Nat.reduceLT, getElem?_pos, List.getElem_toArray, List.getElem_cons_zero, List.getElem_cons_succ] at hxc
  have HBA := Lib.hid hBA
  have KS0 := Lib.hid ks
  have KB0 := Lib.hid kb
  have KX0 := Lib.hid kx
  clear hX hg hBA ks kb kx
  go_upto_region 7 with (first
    | (go_at_call 39; refine (Just_any _ _).mono ?_; rintro e w1 ⟨rfl, y, rfl⟩)
    | (go_at_call 40; refine (note_any _ _ _ _ _).mono ?_; rintro e w1 ⟨rfl, y, rfl⟩))
  generalize hX : ((ext XA _).setCell _ _).alloc _ = W
  generalize hg : (ext XA _).heap.size = gn
  have hgn : XA.heap.size ≤ gn := by rw [← hg]; exact (below_ext _ _).size
  have hx0 := HBA.out.size
  have hBW : Below w.heap.size w W := by
    rw [← hX]
    exact (((HBA.out.trans ((below_ext _ _).mono hx0)).setCell (by dsimp only; omega) _).alloc (by rw [World.size_setCell]; exact Nat.le_trans hx0 (below_ext _ _).size) _)
  have Ks := Lib.hid (show Blk W w.heap.size 23 #[.int .i64 lo, .int .i64 hi] by rw [← hX]; exact ((KS0.out.ext _).setOther (by omega) _ _).alloc _)
  have Kb := Lib.hid (show Blk W (w.heap.size + 2) 26 #[.int .i64 lo, .int .i64 hi, .slice none 0 0] by rw [← hX]; exact ((KB0.out.ext _).setOther (by omega) _ _).alloc _)
  have Kx := Lib.hid (show Blk W gx 26 #[.int .i64 lo, .int .i64 hi, .slice (some ⟨gn, 0, none⟩) 1 1] by rw [← hX, ← hg]; exact ((KX0.out.ext _).set 2 _).alloc _)
  have Kn := Lib.hid (show Blk W gn 38 #[.int .i64 0, .int .i64 r1, .int .i64 r2, .int .i64 r2] by rw [← hX]; exact Blk.new (by simp [hg]))
  have HBW := Lib.hid hBW
  have HMW := HM.out.below hBW
  have HK1 := Lib.hid (sbk_none lo hi HMW)
  have HK2 := Lib.hid (show SBk W (tuckS lo hi r1 r2) (some ⟨gn, 0, none⟩) from ⟨notes_of_blk Kn.out rfl (by simp), HMW, fun a ha => by cases ha; exact Kn.out.lt⟩)
  clear hX hg hBW HBA KS0 KB0 KX0 hxl hxf hxc HMW
  clear Kn
  have qs0 := Ks.out.cell 0
  have qs1 := Ks.out.cell 1
  have ls := Ks.out.lt
  have qb0 := Kb.out.cell 0
  have qb1 := Kb.out.cell 1
  have qb2 := Kb.out.cell 2
  have lb := Kb.out.lt
  have qx0 := Kx.out.cell 0
  have qx1 := Kx.out.cell 1
  have qx2 := Kx.out.cell 2
  have lx := Kx.out.lt
  simp only [List.size_toArray, List.length_cons, List.length_nil, Nat.reduceAdd, Nat.reduceLT, getElem?_pos, List.getElem_toArray, List.getElem_cons_zero, List.getElem_cons_succ] at qs0 qs1 qb0 qb1 qb2 qx0 qx1 qx2
  have hok : Ok9 ⟨lo, hi, []⟩ := Ok9.of hv
  have hr : rightS ⟨lo, hi, []⟩ = true := plain_right s5
  obtain ⟨eh1, eh2⟩ := (ends_held hok hr r0).uniq (plain_held s1 s5 r0)
  obtain ⟨er1, er2⟩ := (ends_rate hok hr r0).uniq (plain_rate s1 s5 r0)
  obtain ⟨es1, es2⟩ := (ends_saved hok hr (lastN []) (60 - lastN [])).uniq (plain_saved s1 s5 (lastN []) (60 - lastN []))
  go_upto_region 8 with (go_at_call 20; refine (Held_is ⟨lo, hi, []⟩ none 0 r0 lo hi _ HK1.out hv hr b0 eh1 eh2).mono ?_; rintro e wu ⟨rfl, y, rfl⟩)
  generalize hX : (ext W y).alloc _ = X0
  generalize hg : (ext W y).heap.size = gt at *
  have hBX : Below W.heap.size W X0 := by rw [← hX]; (repeat (first | (with_reducible exact Below.refl _ _) | (with_reducible assumption) | ((with_reducible refine below_ext_trans ?_ ?_ _); rotate_left; focus (((try dsimp only); repeat (first | omega | simp only [World.size_alloc, World.size_setCell, World.size_drew] | (with_reducible refine le_ext_of ?_) | (with_reducible refine le_ext_add ?_))); done)) | ((with_reducible refine Below.alloc ?_ ?_ _); rotate_left; focus (((try dsimp only); repeat (first | omega | simp only [World.size_alloc, World.size_setCell, World.size_drew] | (with_reducible refine le_ext_of ?_) | (with_reducible refine le_ext_add ?_))); done)) | ((with_reducible refine Below.setCell ?_ ?_ _); rotate_left; focus (((try dsimp only); repeat (first | omega | simp only [World.size_alloc, World.size_setCell, World.size_drew] | (with_reducible refine le_ext_of ?_) | (with_reducible refine le_ext_add ?_))); done)) | (with_reducible refine Below.drew ?_)))
  have HBX := Lib.hid (HBW.out.trans (hBX.mono HBW.out.size))
  have Ns := Lib.hid (show Blk X0 w.heap.size 23 #[.int .i64 lo, .int .i64 hi] from Ks.out.bel hBX)
  have Nb := Lib.hid (show Blk X0 (w.heap.size + 2) 26 #[.int .i64 lo, .int .i64 hi, .slice none 0 0] from Kb.out.bel hBX)
  have Nx := Lib.hid (show Blk X0 gx 26 #[.int .i64 lo, .int .i64 hi, .slice (some ⟨gn, 0, none⟩) 1 1] from Kx.out.bel hBX)
  have Nt := Lib.hid (show Blk X0 gt 23 #[.int .i64 lo, .int .i64 hi] by rw [← hX]; exact Blk.new hg.symm)
  have HK3 := Lib.hid (HK1.out.bel hBX); clear HK1; have HK1 := HK3; clear HK3; have HK3 := Lib.hid (HK2.out.bel hBX); clear HK2; have HK2 := HK3; clear HK3
  clear qs0 qs1 qb0 qb1 qb2 qx0 qx1 qx2 ls lb lx
  clear hX hBX HBW hg Ks Kb Kx
  have Ks := Ns
  have Kb := Nb
  have Kx := Nx
  have Kt := Nt
  clear Ns Nb Nx Nt
  have HBX0 := HBX
  clear HBX
  have qs0 := Ks.out.cell 0
  have qs1 := Ks.out.cell 1
  have ls := Ks.out.lt
  have qb0 := Kb.out.cell 0
  have qb1 := Kb.out.cell 1
  have qb2 := Kb.out.cell 2
  have lb := Kb.out.lt
  have qx0 := Kx.out.cell 0
  have qx1 := Kx.out.cell 1
  have qx2 := Kx.out.cell 2
  have lx := Kx.out.lt
  have qt0 := Kt.out.cell 0
  have qt1 := Kt.out.cell 1
  have lt := Kt.out.lt
  simp only [List.size_toArray, List.length_cons, List.length_nil, Nat.reduceAdd, Nat.reduceLT, getElem?_pos, List.getElem_toArray, List.getElem_cons_zero, List.getElem_cons_succ] at qs0 qs1 qb0 qb1 qb2 qx0 qx1 qx2 qt0 qt1
  go_upto_region 9 with (go_at_call 22; refine (Rate_is ⟨lo, hi, []⟩ none 0 r0 0 0 _ HK1.out hv hr b0 er1 er2).mono ?_; rintro e wu ⟨rfl, y, rfl⟩)
  generalize hX : (ext X0 y).alloc _ = X1
  generalize hg : (ext X0 y).heap.size = gr at *
  have hBX : Below X0.heap.size X0 X1 := by rw [← hX]; (repeat (first | (with_reducible exact Below.refl _ _) | (with_reducible assumption) | ((with_reducible refine below_ext_trans ?_ ?_ _); rotate_left; focus (((try dsimp only); repeat (first | omega | simp only [World.size_alloc, World.size_setCell, World.size_drew] | (with_reducible refine le_ext_of ?_) | (with_reducible refine le_ext_add ?_))); done)) | ((with_reducible refine Below.alloc ?_ ?_ _); rotate_left; focus (((try dsimp only); repeat (first | omega | simp only [World.size_alloc, World.size_setCell, World.size_drew] | (with_reducible refine le_ext_of ?_) | (with_reducible refine le_ext_add ?_))); done)) | ((with_reducible refine Below.setCell ?_ ?_ _); rotate_left; focus (((try dsimp only); repeat (first | omega | simp only [World.size_alloc, World.size_setCell, World.size_drew] | (with_reducible refine le_ext_of ?_) | (with_reducible refine le_ext_add ?_))); done)) | (with_reducible refine Below.drew ?_)))
  have HBX := Lib.hid (HBX0.out.trans (hBX.mono HBX0.out.size))
  have Ns := Lib.hid (show Blk X1 w.heap.size 23 #[.int .i64 lo, .int .i64 hi] from Ks.out.bel hBX)
  have Nb := Lib.hid (show Blk X1 (w.heap.size + 2) 26 #[.int .i64 lo, .int .i64 hi, .slice none 0 0] from Kb.out.bel hBX)
  have Nx := Lib.hid (show Blk X1 gx 26 #[.int .i64 lo, .int .i64 hi, .slice (some ⟨gn, 0, none⟩) 1 1] from Kx.out.bel hBX)
  have Nt := Lib.hid (show Blk X1 gt 23 #[.int .i64 lo, .int .i64 hi] from Kt.out.bel hBX)
  have Nr := Lib.hid (show Blk X1 gr 23 #[.int .i64 0, .int .i64 0] by rw [← hX]; exact Blk.new hg.symm)
  have HK3 := Lib.hid (HK1.out.bel hBX); clear HK1; have HK1 := HK3; clear HK3; have HK3 := Lib.hid (HK2.out.bel hBX); clear HK2; have HK2 := HK3; clear HK3
  clear qs0 qs1 qb0 qb1 qb2 qx0 qx1 qx2 qt0 qt1 ls lb lx lt
  clear hX hBX HBX0 hg Ks Kb Kx Kt
  have Ks := Ns
  have Kb := Nb
  have Kx := Nx
  have Kt := Nt
  have Kr := Nr
  clear Ns Nb Nx Nt Nr
  have HBX1 := HBX
  clear HBX
  have qs0 := Ks.out.cell 0
  have qs1 := Ks.out.cell 1
  have ls := Ks.out.lt
  have qb0 := Kb.out.cell 0
  have qb1 := Kb.out.cell 1
  have qb2 := Kb.out.cell 2
  have lb := Kb.out.lt
  have qx0 := Kx.out.cell 0
  have qx1 := Kx.out.cell 1
  have qx2 := Kx.out.cell 2
  have lx := Kx.out.lt
  have qt0 := Kt.out.cell 0
  have qt1 := Kt.out.cell 1
  have lt := Kt.out.lt
  have qr0 := Kr.out.cell 0
  have qr1 := Kr.out.cell 1
  have lr := Kr.out.lt
  simp only [List.size_toArray, List.length_cons, List.length_nil, Nat.reduceAdd, Nat.reduceLT, getElem?_pos, List.getElem_toArray, List.getElem_cons_zero, List.getElem_cons_succ] at qs0 qs1 qb0 qb1 qb2 qx0 qx1 qx2 qt0 qt1 qr0 qr1
  go_upto_region 10 with (go_at_call 27; refine (Saved_is ⟨lo, hi, []⟩ none 0 0 0 _ HK1.out hv hr es1 es2).mono ?_; rintro e wu ⟨rfl, y, rfl⟩)
  generalize hX : (ext X1 y).alloc _ = X2
  generalize hg : (ext X1 y).heap.size = gv at *
  have hBX : Below X1.heap.size X1 X2 := by rw [← hX]; (repeat (first | (with_reducible exact Below.refl _ _) | (with_reducible assumption) | ((with_reducible refine below_ext_trans ?_ ?_ _); rotate_left; focus (((try dsimp only); repeat (first | omega | simp only [World.size_alloc, World.size_setCell, World.size_drew] | (with_reducible refine le_ext_of ?_) | (with_reducible refine le_ext_add ?_))); done)) | ((with_reducible refine Below.alloc ?_ ?_ _); rotate_left; focus (((try dsimp only); repeat (first | omega | simp only [World.size_alloc, World.size_setCell, World.size_drew] | (with_reducible refine le_ext_of ?_) | (with_reducible refine le_ext_add ?_))); done)) | ((with_reducible refine Below.setCell ?_ ?_ _); rotate_left; focus (((try dsimp only); repeat (first | omega | simp only [World.size_alloc, World.size_setCell, World.size_drew] | (with_reducible refine le_ext_of ?_) | (with_reducible refine le_ext_add ?_))); done)) | (with_reducible refine Below.drew ?_)))
  have HBX := Lib.hid (HBX1.out.trans (hBX.mono HBX1.out.size))
  have Ns := Lib.hid (show Blk X2 w.heap.size 23 #[.int .i64 lo, .int .i64 hi] from Ks.out.bel hBX)
  have Nb := Lib.hid (show Blk X2 (w.heap.size + 2) 26 #[.int .i64 lo, .int .i64 hi, .slice none 0 0] from Kb.out.bel hBX)
  have Nx := Lib.hid (show Blk X2 gx 26 #[.int .i64 lo, .int .i64 hi, .slice (some ⟨gn, 0, none⟩) 1 1] from Kx.out.bel hBX)
  have Nt := Lib.hid (show Blk X2 gt 23 #[.int .i64 lo, .int .i64 hi] from Kt.out.bel hBX)
  have Nr := Lib.hid (show Blk X2 gr 23 #[.int .i64 0, .int .i64 0] from Kr.out.bel hBX)
  have Nv := Lib.hid (show Blk X2 gv 23 #[.int .i64 0, .int .i64 0] by rw [← hX]; exact Blk.new hg.symm)
  have HK3 := Lib.hid (HK1.out.bel hBX); clear HK1; have HK1 := HK3; clear HK3; have HK3 := Lib.hid (HK2.out.bel hBX); clear HK2; have HK2 := HK3; clear HK3
  clear qs0 qs1 qb0 qb1 qb2 qx0 qx1 qx2 qt0 qt1 qr0 qr1 ls lb lx lt lr
  clear hX hBX HBX1 hg Ks Kb Kx Kt Kr
  have Ks := Ns
  have Kb := Nb
  have Kx := Nx
  have Kt := Nt
  have Kr := Nr
  have Kv := Nv
  clear Ns Nb Nx Nt Nr Nv
  have HBX2 := HBX
  clear HBX
  have qs0 := Ks.out.cell 0
  have qs1 := Ks.out.cell 1
  have ls := Ks.out.lt
  have qb0 := Kb.out.cell 0
  have qb1 := Kb.out.cell 1
  have qb2 := Kb.out.cell 2
  have lb := Kb.out.lt
  have qx0 := Kx.out.cell 0
  have qx1 := Kx.out.cell 1
  have qx2 := Kx.out.cell 2
  have lx := Kx.out.lt
  have qt0 := Kt.out.cell 0
  have qt1 := Kt.out.cell 1
  have lt := Kt.out.lt
  have qr0 := Kr.out.cell 0
  have qr1 := Kr.out.cell 1
  have lr := Kr.out.lt
  have qv0 := Kv.out.cell 0
  have qv1 := Kv.out.cell 1
  have lv := Kv.out.lt
  simp only [List.size_toArray, List.length_cons, List.length_nil, Nat.reduceAdd, Nat.reduceLT, getElem?_pos, List.getElem_toArray, List.getElem_cons_zero, List.getElem_cons_succ] at qs0 qs1 qb0 qb1 qb2 qx0 qx1 qx2 qt0 qt1 qr0 qr1 qv0 qv1
  have hvx : snB (tuckS lo hi r1 r2) = true := tuck_valid s1 s2 s3 s4 s5 s6 b1 b2
  have hokx : Ok9 (tuckS lo hi r1 r2) := Ok9.of hvx
  have htop : ∀ t : Int, topH ⟨lo, hi, []⟩ t = hi := fun t => ((ends_held hok hr t).uniq (plain_held s1 s5 t)).2
  obtain ⟨M, hM1, hM2⟩ : ∃ M, max lo r2 = M ∧ (if lo < r2 then r2 else lo) = M := ⟨max lo r2, rfl, by split <;> omega⟩
  have hM3 : lo ≤ M ∧ r2 ≤ M ∧ M ≤ 400 := by omega
  have e1 : IntKind.i64.wrap (M - r2) = M - r2 := IntWalk.i64_in _ (by omega)
  have e2 : IntKind.i64.wrap (hi - r2) = hi - r2 := IntWalk.i64_in _ (by omega)
  clear eh1 eh2 er1 er2 es1 es2
  have hm2 : hi < r2 := by omega
  have hm3 : decide (hi < r2) = true := by simpa using hm2
  have hrx : rightS (tuckS lo hi r1 r2) = false := by rw [tuck_right s1 s5]; simpa using hm
  go_upto_region 11 with (go_at_call 20; refine (Held_no (tuckS lo hi r1 r2) _ 1 r0 _ HK2.out hvx hrx b0).mono ?_; rintro e wu ⟨rfl, y, rfl⟩)
  generalize hX : (ext X2 y).alloc _ = X3
  generalize hg : (ext X2 y).heap.size = gh at *
  have hBX : Below X2.heap.size X2 X3 := by rw [← hX]; (repeat (first | (with_reducible exact Below.refl _ _) | (with_reducible assumption) | ((with_reducible refine below_ext_trans ?_ ?_ _); rotate_left; focus (((try dsimp only); repeat (first | omega | simp only [World.size_alloc, World.size_setCell, World.size_drew] | (with_reducible refine le_ext_of ?_) | (with_reducible refine le_ext_add ?_))); done)) | ((with_reducible refine Below.alloc ?_ ?_ _); rotate_left; focus (((try dsimp only); repeat (first | omega | simp only [World.size_alloc, World.size_setCell, World.size_drew] | (with_reducible refine le_ext_of ?_) | (with_reducible refine le_ext_add ?_))); done)) | ((with_reducible refine Below.setCell ?_ ?_ _); rotate_left; focus (((try dsimp only); repeat (first | omega | simp only [World.size_alloc, World.size_setCell, World.size_drew] | (with_reducible refine le_ext_of ?_) | (with_reducible refine le_ext_add ?_))); done)) | (with_reducible refine Below.drew ?_)))
  have HBX := Lib.hid (HBX2.out.trans (hBX.mono HBX2.out.size))
  have Ns := Lib.hid (show Blk X3 w.heap.size 23 #[.int .i64 lo, .int .i64 hi] from Ks.out.bel hBX)
  have Nb := Lib.hid (show Blk X3 (w.heap.size + 2) 26 #[.int .i64 lo, .int .i64 hi, .slice none 0 0] from Kb.out.bel hBX)
  have Nx := Lib.hid (show Blk X3 gx 26 #[.int .i64 lo, .int .i64 hi, .slice (some ⟨gn, 0, none⟩) 1 1] from Kx.out.bel hBX)
  have Nt := Lib.hid (show Blk X3 gt 23 #[.int .i64 lo, .int .i64 hi] from Kt.out.bel hBX)
  have Nr := Lib.hid (show Blk X3 gr 23 #[.int .i64 0, .int .i64 0] from Kr.out.bel hBX)
  have Nv := Lib.hid (show Blk X3 gv 23 #[.int .i64 0, .int .i64 0] from Kv.out.bel hBX)
  have Nh := Lib.hid (show Blk X3 gh 23 #[.int .i64 0, .int .i64 0] by rw [← hX]; exact Blk.new hg.symm)
  have HK3 := Lib.hid (HK1.out.bel hBX); clear HK1; have HK1 := HK3; clear HK3; have HK3 := Lib.hid (HK2.out.bel hBX); clear HK2; have HK2 := HK3; clear HK3
  clear qs0 qs1 qb0 qb1 qb2 qx0 qx1 qx2 qt0 qt1 qr0 qr1 qv0 qv1 ls lb lx lt lr lv
  clear hX hBX HBX2 hg Ks Kb Kx Kt Kr Kv
  have Ks := Ns
  have Kb := Nb
  have Kx := Nx
  have Kt := Nt
  have Kr := Nr
  have Kv := Nv
  have Kh := Nh
  clear Ns Nb Nx Nt Nr Nv Nh
  have HBX3 := HBX
  clear HBX
  have qs0 := Ks.out.cell 0
  have qs1 := Ks.out.cell 1
  have ls := Ks.out.lt
  have qb0 := Kb.out.cell 0
  have qb1 := Kb.out.cell 1
  have qb2 := Kb.out.cell 2
  have lb := Kb.out.lt
  have qx0 := Kx.out.cell 0
  have qx1 := Kx.out.cell 1
  have qx2 := Kx.out.cell 2
  have lx := Kx.out.lt
  have qt0 := Kt.out.cell 0
  have qt1 := Kt.out.cell 1
  have lt := Kt.out.lt
  have qr0 := Kr.out.cell 0
  have qr1 := Kr.out.cell 1
  have lr := Kr.out.lt
  have qv0 := Kv.out.cell 0
  have qv1 := Kv.out.cell 1
  have lv := Kv.out.lt
  have qh0 := Kh.out.cell 0
  have qh1 := Kh.out.cell 1
  have lh := Kh.out.lt
  simp only [List.size_toArray, List.length_cons, List.length_nil, Nat.reduceAdd, Nat.reduceLT, getElem?_pos, List.getElem_toArray, List.getElem_cons_zero, List.getElem_cons_succ] at qs0 qs1 qb0 qb1 qb2 qx0 qx1 qx2 qt0 qt1 qr0 qr1 qv0 qv1 qh0 qh1
  have hz1 : (hi == 0) = true := by simpa using HZ.out
  have hE0 : (0 : Nat) ≤ 60 := by omega
  have hE1 : topH ⟨lo, hi, []⟩ ((0 : Nat) : Int) = 0 := by rw [htop]; exact HZ.out
  have hE2 : ∀ j : Nat, j < 0 → topH ⟨lo, hi, []⟩ (j : Int) ≠ 0 := fun j hj => absurd hj (Nat.not_lt_zero j)
  go_upto_region 12 with (go_at_call 25; refine (Empty_at ⟨lo, hi, []⟩ none 0 0 _ HK1.out hv hr hE0 hE1 hE2).mono ?_; rintro e wu ⟨rfl, y, rfl⟩)
  generalize hX : ext X3 y = X4 at *
  have hBX : Below X3.heap.size X3 X4 := by rw [← hX]; (repeat (first | (with_reducible exact Below.refl _ _) | (with_reducible assumption) | ((with_reducible refine below_ext_trans ?_ ?_ _); rotate_left; focus (((try dsimp only); repeat (first | omega | simp only [World.size_alloc, World.size_setCell, World.size_drew] | (with_reducible refine le_ext_of ?_) | (with_reducible refine le_ext_add ?_))); done)) | ((with_reducible refine Below.alloc ?_ ?_ _); rotate_left; focus (((try dsimp only); repeat (first | omega | simp only [World.size_alloc, World.size_setCell, World.size_drew] | (with_reducible refine le_ext_of ?_) | (with_reducible refine le_ext_add ?_))); done)) | ((with_reducible refine Below.setCell ?_ ?_ _); rotate_left; focus (((try dsimp only); repeat (first | omega | simp only [World.size_alloc, World.size_setCell, World.size_drew] | (with_reducible refine le_ext_of ?_) | (with_reducible refine le_ext_add ?_))); done)) | (with_reducible refine Below.drew ?_)))
  have HBX := Lib.hid (HBX3.out.trans (hBX.mono HBX3.out.size))
  have Ns := Lib.hid (show Blk X4 w.heap.size 23 #[.int .i64 lo, .int .i64 hi] from Ks.out.bel hBX)
  have Nb := Lib.hid (show Blk X4 (w.heap.size + 2) 26 #[.int .i64 lo, .int .i64 hi, .slice none 0 0] from Kb.out.bel hBX)
  have Nx := Lib.hid (show Blk X4 gx 26 #[.int .i64 lo, .int .i64 hi, .slice (some ⟨gn, 0, none⟩) 1 1] from Kx.out.bel hBX)
  have Nt := Lib.hid (show Blk X4 gt 23 #[.int .i64 lo, .int .i64 hi] from Kt.out.bel hBX)
  have Nr := Lib.hid (show Blk X4 gr 23 #[.int .i64 0, .int .i64 0] from Kr.out.bel hBX)
  have Nv := Lib.hid (show Blk X4 gv 23 #[.int .i64 0, .int .i64 0] from Kv.out.bel hBX)
  have Nh := Lib.hid (show Blk X4 gh 23 #[.int .i64 0, .int .i64 0] from Kh.out.bel hBX)
  have HK3 := Lib.hid (HK1.out.bel hBX); clear HK1; have HK1 := HK3; clear HK3; have HK3 := Lib.hid (HK2.out.bel hBX); clear HK2; have HK2 := HK3; clear HK3
  clear qs0 qs1 qb0 qb1 qb2 qx0 qx1 qx2 qt0 qt1 qr0 qr1 qv0 qv1 qh0 qh1 ls lb lx lt lr lv lh
  clear hX hBX HBX3 Ks Kb Kx Kt Kr Kv Kh
  have Ks := Ns
  have Kb := Nb
  have Kx := Nx
  have Kt := Nt
  have Kr := Nr
  have Kv := Nv
  have Kh := Nh
  clear Ns Nb Nx Nt Nr Nv Nh
  have HBX4 := HBX
  clear HBX
  have qs0 := Ks.out.cell 0
  have qs1 := Ks.out.cell 1
  have ls := Ks.out.lt
  have qb0 := Kb.out.cell 0
  have qb1 := Kb.out.cell 1
  have qb2 := Kb.out.cell 2
  have lb := Kb.out.lt
  have qx0 := Kx.out.cell 0
  have qx1 := Kx.out.cell 1
  have qx2 := Kx.out.cell 2
  have lx := Kx.out.lt
  have qt0 := Kt.out.cell 0
  have qt1 := Kt.out.cell 1
  have lt := Kt.out.lt
  have qr0 := Kr.out.cell 0
  have qr1 := Kr.out.cell 1
  have lr := Kr.out.lt
  have qv0 := Kv.out.cell 0
  have qv1 := Kv.out.cell 1
  have lv := Kv.out.lt
  have qh0 := Kh.out.cell 0
  have qh1 := Kh.out.cell 1
  have lh := Kh.out.lt
  simp only [List.size_toArray, List.length_cons, List.length_nil, Nat.reduceAdd, Nat.reduceLT, getElem?_pos, List.getElem_toArray, List.getElem_cons_zero, List.getElem_cons_succ] at qs0 qs1 qb0 qb1 qb2 qx0 qx1 qx2 qt0 qt1 qr0 qr1 qv0 qv1 qh0 qh1
  clear htop hE0 hE1 hE2
  refine wp_region_ext (by kernel_rfl) (by kernel_rfl) ?_
  repeat (go_big_quiet_step (first | (go_at_call 39; exact quiet_ext (Just_any _ _))))
  (refine wpQuiet_nil ?_; rintro _ ⟨x, rfl⟩)
  generalize hX : ext X4 _ = Y0
  have hBX : Below X4.heap.size X4 Y0 := by rw [← hX]; exact below_ext _ _
  have HBY0 := Lib.hid (HBX4.out.trans (hBX.mono HBX4.out.size))
  have HK3 := Lib.hid (HK1.out.bel hBX); clear HK1; have HK1 := HK3; clear HK3; have HK3 := Lib.hid (HK2.out.bel hBX); clear HK2; have HK2 := HK3; clear HK3
  have Ns := Lib.hid (show Blk Y0 w.heap.size 23 #[.int .i64 lo, .int .i64 hi] from Ks.out.bel hBX)
  have Nb := Lib.hid (show Blk Y0 (w.heap.size + 2) 26 #[.int .i64 lo, .int .i64 hi, .slice none 0 0] from Kb.out.bel hBX)
  have Nx := Lib.hid (show Blk Y0 gx 26 #[.int .i64 lo, .int .i64 hi, .slice (some ⟨gn, 0, none⟩) 1 1] from Kx.out.bel hBX)
  have Nt := Lib.hid (show Blk Y0 gt 23 #[.int .i64 lo, .int .i64 hi] from Kt.out.bel hBX)
  have Nr := Lib.hid (show Blk Y0 gr 23 #[.int .i64 0, .int .i64 0] from Kr.out.bel hBX)
  have Nv := Lib.hid (show Blk Y0 gv 23 #[.int .i64 0, .int .i64 0] from Kv.out.bel hBX)
  have Nh := Lib.hid (show Blk Y0 gh 23 #[.int .i64 0, .int .i64 0] from Kh.out.bel hBX)
  clear qs0 qs1 qb0 qb1 qb2 qx0 qx1 qx2 qt0 qt1 qr0 qr1 qv0 qv1 qh0 qh1 ls lb lx lt lr lv lh
  clear hX hBX HBX4 Ks Kb Kx Kt Kr Kv Kh
  have Ks := Ns
  have Kb := Nb
  have Kx := Nx
  have Kt := Nt
  have Kr := Nr
  have Kv := Nv
  have Kh := Nh
  clear Ns Nb Nx Nt Nr Nv Nh
  have qs0 := Ks.out.cell 0
  have qs1 := Ks.out.cell 1
  have ls := Ks.out.lt
  have qb0 := Kb.out.cell 0
  have qb1 := Kb.out.cell 1
  have qb2 := Kb.out.cell 2
  have lb := Kb.out.lt
  have qx0 := Kx.out.cell 0
  have qx1 := Kx.out.cell 1
  have qx2 := Kx.out.cell 2
  have lx := Kx.out.lt
  have qt0 := Kt.out.cell 0
  have qt1 := Kt.out.cell 1
  have lt := Kt.out.lt
  have qr0 := Kr.out.cell 0
  have qr1 := Kr.out.cell 1
  have lr := Kr.out.lt
  have qv0 := Kv.out.cell 0
  have qv1 := Kv.out.cell 1
  have lv := Kv.out.lt
  have qh0 := Kh.out.cell 0
  have qh1 := Kh.out.cell 1
  have lh := Kh.out.lt
  simp only [List.size_toArray, List.length_cons, List.length_nil, Nat.reduceAdd, Nat.reduceLT, getElem?_pos, List.getElem_toArray, List.getElem_cons_zero, List.getElem_cons_succ] at qs0 qs1 qb0 qb1 qb2 qx0 qx1 qx2 qt0 qt1 qr0 qr1 qv0 qv1 qh0 qh1
  go_wp2_with (go_at_call 24; refine (sounded_any _ (HK1.out.mm.below (by (repeat (first | (with_reducible exact Below.refl _ _) | (with_reducible assumption) | ((with_reducible refine below_ext_trans ?_ ?_ _); rotate_left; focus (((try dsimp only); repeat (first | omega | simp only [World.size_alloc, World.size_setCell, World.size_drew] | (with_reducible refine le_ext_of ?_) | (with_reducible refine le_ext_add ?_))); done)) | ((with_reducible refine Below.alloc ?_ ?_ _); rotate_left; focus (((try dsimp only); repeat (first | omega | simp only [World.size_alloc, World.size_setCell, World.size_drew] | (with_reducible refine le_ext_of ?_) | (with_reducible refine le_ext_add ?_))); done)) | ((with_reducible refine Below.setCell ?_ ?_ _); rotate_left; focus (((try dsimp only); repeat (first | omega | simp only [World.size_alloc, World.size_setCell, World.size_drew] | (with_reducible refine le_ext_of ?_) | (with_reducible refine le_ext_add ?_))); done)) | (with_reducible refine Below.drew ?_)))))).mono ?_; rintro e w1 ⟨rfl, y, rfl⟩)
  go_ret
  exact ⟨rfl, ext_of (HBY0.out.trans ((below_ext _ _).mono HBY0.out.size))⟩
end Go.Proofs.YtnckampdbbcehaaDoor

namespace Go.Proofs.YtnckampdbbcehaaDoor
open Go Go.RowKit Go.Shelf
attribute [local go_sem] Oper.semAt_some frozen_alloc_lt
set_option maxRecDepth 100000 in
set_option maxHeartbeats 8000000 in
theorem SeinePlain_MZ (lo hi n0 n1 n2 r0 r1 r2 : Int) (w : World) (hmm : MM w) (hr0 : n0 % 61 = r0) (hr1 : n1 % 61 = r1) (hr2 : n2 % 401 = r2) (hm : ¬ r2 ≤ hi) (hz : ¬ hi = 0) (hv : snB ⟨lo, hi, []⟩ = true) :
    Calls Tryd.prog 12 #[.agg #[.int .i64 lo, .int .i64 hi], .agg #[.int .i64 n0, .int .i64 n1, .int .i64 n2]] w fun e w' => e = .returned (.bool true) ∧ ∃ x, w' = ext w x := by
  have HM := Lib.hid hmm
  have HZ := Lib.hid hz
  clear hmm hz
  obtain ⟨s1, s2, s3, s4, s5, s6⟩ := (Ok9.of hv).span
  dsimp only at s1 s2 s3 s4 s5 s6
  have b0 : 0 ≤ r0 ∧ r0 ≤ 60 := by omega
  have b1 : 0 ≤ r1 ∧ r1 ≤ 60 := by omega
  have b2 : 0 ≤ r2 ∧ r2 ≤ 400 := by omega
  go_enter Tryd.func12, Tryd.ntmps12
  go_upto_region 4 with (go_at_call 34; refine (sound_yes ⟨lo, hi, []⟩ none 0 _ (sbk_none lo hi (HM.out.below (by (repeat (first | (with_reducible exact Below.refl _ _) | (with_reducible assumption) | ((with_reducible refine below_ext_trans ?_ ?_ _); rotate_left; focus (((try dsimp only); repeat (first | omega | simp only [World.size_alloc, World.size_setCell, World.size_drew] | (with_reducible refine le_ext_of ?_) | (with_reducible refine le_ext_add ?_))); done)) | ((with_reducible refine Below.alloc ?_ ?_ _); rotate_left; focus (((try dsimp only); repeat (first | omega | simp only [World.size_alloc, World.size_setCell, World.size_drew] | (with_reducible refine le_ext_of ?_) | (with_reducible refine le_ext_add ?_))); done)) | ((with_reducible refine Below.setCell ?_ ?_ _); rotate_left; focus (((try dsimp only); repeat (first | omega | simp only [World.size_alloc, World.size_setCell, World.size_drew] | (with_reducible refine le_ext_of ?_) | (with_reducible refine le_ext_add ?_))); done)) | (with_reducible refine Below.drew ?_)))))) hv).mono ?_; rintro e w1 ⟨rfl, y, rfl⟩)
  refine wp_region_ext (by kernel_rfl) (by kernel_rfl) ?_
  repeat (go_big_quiet_step (first | (go_at_call 37; exact quiet_ext (Wheel_any _ _ _ (by decide) (by decide)))))
  (refine wpQuiet_nil ?_; rintro _ ⟨x, rfl⟩)
  simp only [hr0, hr1, hr2]
  clear hr0 hr1 hr2
  go_upto_region 6 with fail
  generalize hX : (ext (((w.alloc _).alloc _).alloc _) _).alloc _ = XA
  generalize hg : (ext (((w.alloc _).alloc _).alloc _) _).heap.size = gx
  have hgx : w.heap.size + 3 ≤ gx := by
    rw [← hg]
    have := (below_ext (((w.alloc (Obj.cells #[Value.int .i64 lo, Value.int .i64 hi] 23)).alloc (Obj.cells #[Value.int .i64 n0, Value.int .i64 n1, Value.int .i64 n2] 67)).alloc (Obj.cells #[Value.int .i64 lo, Value.int .i64 hi, Value.slice none 0 0] 26)) (y.comp x)).size
    simpa using this
  have hBA : Below w.heap.size w XA := by rw [← hX]; (repeat (first | (with_reducible exact Below.refl _ _) | (with_reducible assumption) | ((with_reducible refine below_ext_trans ?_ ?_ _); rotate_left; focus (((try dsimp only); repeat (first | omega | simp only [World.size_alloc, World.size_setCell, World.size_drew] | (with_reducible refine le_ext_of ?_) | (with_reducible refine le_ext_add ?_))); done)) | ((with_reducible refine Below.alloc ?_ ?_ _); rotate_left; focus (((try dsimp only); repeat (first | omega | simp only [World.size_alloc, World.size_setCell, World.size_drew] | (with_reducible refine le_ext_of ?_) | (with_reducible refine le_ext_add ?_))); done)) | ((with_reducible refine Below.setCell ?_ ?_ _); rotate_left; focus (((try dsimp only); repeat (first | omega | simp only [World.size_alloc, World.size_setCell, World.size_drew] | (with_reducible refine le_ext_of ?_) | (with_reducible refine le_ext_add ?_))); done)) | (with_reducible refine Below.drew ?_)))
  have ks : Blk XA w.heap.size 23 #[.int .i64 lo, .int .i64 hi] := by rw [← hX]; exact ((((Blk.new rfl).alloc _).alloc _).ext _).alloc _
  have kb : Blk XA (w.heap.size + 2) 26 #[.int .i64 lo, .int .i64 hi, .slice none 0 0] := by rw [← hX]; exact ((Blk.new (by simp)).ext _).alloc _
  have kx : Blk XA gx 26 #[.int .i64 lo, .int .i64 hi, .slice none 0 0] := by rw [← hX]; exact Blk.new hg.symm
  have hxl := kx.lt
  have hxf := kx.frozen 2
  have hxc := kx.cell 2
  simp only [List.size_toArray, List.length_cons, List.length_nil, Nat.reduceAdd, Nat.reduceLT, getElem?_pos, List.getElem_toArray, List.getElem_cons_zero, List.getElem_cons_succ] at hxc
  have HBA := Lib.hid hBA
  have KS0 := Lib.hid ks
  have KB0 := Lib.hid kb
  have KX0 := Lib.hid kx
  clear hX hg hBA ks kb kx
  go_upto_region 7 with (first
    | (go_at_call 39; refine (Just_any _ _).mono ?_; rintro e w1 ⟨rfl, y, rfl⟩)
    | (go_at_call 40; refine (note_any _ _ _ _ _).mono ?_; rintro e w1 ⟨rfl, y, rfl⟩))
  generalize hX : ((ext XA _).setCell _ _).alloc _ = W
  generalize hg : (ext XA _).heap.size = gn
  have hgn : XA.heap.size ≤ gn := by rw [← hg]; exact (below_ext _ _).size
  have hx0 := HBA.out.size
  have hBW : Below w.heap.size w W := by
    rw [← hX]
    exact (((HBA.out.trans ((below_ext _ _).mono hx0)).setCell (by dsimp only; omega) _).alloc (by rw [World.size_setCell]; exact Nat.le_trans hx0 (below_ext _ _).size) _)
  have Ks := Lib.hid (show Blk W w.heap.size 23 #[.int .i64 lo, .int .i64 hi] by rw [← hX]; exact ((KS0.out.ext _).setOther (by omega) _ _).alloc _)
  have Kb := Lib.hid (show Blk W (w.heap.size + 2) 26 #[.int .i64 lo, .int .i64 hi, .slice none 0 0] by rw [← hX]; exact ((KB0.out.ext _).setOther (by omega) _ _).alloc _)
  have Kx := Lib.hid (show Blk W gx 26 #[.int .i64 lo, .int .i64 hi, .slice (some ⟨gn, 0, none⟩) 1 1] by rw [← hX, ← hg]; exact ((KX0.out.ext _).set 2 _).alloc _)
  have Kn := Lib.hid (show Blk W gn 38 #[.int .i64 0, .int .i64 r1, .int .i64 r2, .int .i64 r2] by rw [← hX]; exact Blk.new (by simp [hg]))
  have HBW := Lib.hid hBW
  have HMW := HM.out.below hBW
  have HK1 := Lib.hid (sbk_none lo hi HMW)
  have HK2 := Lib.hid (show SBk W (tuckS lo hi r1 r2) (some ⟨gn, 0, none⟩) from ⟨notes_of_blk Kn.out rfl (by simp), HMW, fun a ha => by cases ha; exact Kn.out.lt⟩)
  clear hX hg hBW HBA KS0 KB0 KX0 hxl hxf hxc HMW
  clear Kn
  have qs0 := Ks.out.cell 0
  have qs1 := Ks.out.cell 1
  have ls := Ks.out.lt
  have qb0 := Kb.out.cell 0
  have qb1 := Kb.out.cell 1
  have qb2 := Kb.out.cell 2
  have lb := Kb.out.lt
  have qx0 := Kx.out.cell 0
  have qx1 := Kx.out.cell 1
  have qx2 := Kx.out.cell 2
  have lx := Kx.out.lt
  simp only [List.size_toArray, List.length_cons, List.length_nil, Nat.reduceAdd, Nat.reduceLT, getElem?_pos, List.getElem_toArray, List.getElem_cons_zero, List.getElem_cons_succ] at qs0 qs1 qb0 qb1 qb2 qx0 qx1 qx2
  have hok : Ok9 ⟨lo, hi, []⟩ := Ok9.of hv
  have hr : rightS ⟨lo, hi, []⟩ = true := plain_right s5
  obtain ⟨eh1, eh2⟩ := (ends_held hok hr r0).uniq (plain_held s1 s5 r0)
  obtain ⟨er1, er2⟩ := (ends_rate hok hr r0).uniq (plain_rate s1 s5 r0)
  obtain ⟨es1, es2⟩ := (ends_saved hok hr (lastN []) (60 - lastN [])).uniq (plain_saved s1 s5 (lastN []) (60 - lastN []))
  go_upto_region 8 with (go_at_call 20; refine (Held_is ⟨lo, hi, []⟩ none 0 r0 lo hi _ HK1.out hv hr b0 eh1 eh2).mono ?_; rintro e wu ⟨rfl, y, rfl⟩)
  generalize hX : (ext W y).alloc _ = X0
  generalize hg : (ext W y).heap.size = gt at *
  have hBX : Below W.heap.size W X0 := by rw [← hX]; (repeat (first | (with_reducible exact Below.refl _ _) | (with_reducible assumption) | ((with_reducible refine below_ext_trans ?_ ?_ _); rotate_left; focus (((try dsimp only); repeat (first | omega | simp only [World.size_alloc, World.size_setCell, World.size_drew] | (with_reducible refine le_ext_of ?_) | (with_reducible refine le_ext_add ?_))); done)) | ((with_reducible refine Below.alloc ?_ ?_ _); rotate_left; focus (((try dsimp only); repeat (first | omega | simp only [World.size_alloc, World.size_setCell, World.size_drew] | (with_reducible refine le_ext_of ?_) | (with_reducible refine le_ext_add ?_))); done)) | ((with_reducible refine Below.setCell ?_ ?_ _); rotate_left; focus (((try dsimp only); repeat (first | omega | simp only [World.size_alloc, World.size_setCell, World.size_drew] | (with_reducible refine le_ext_of ?_) | (with_reducible refine le_ext_add ?_))); done)) | (with_reducible refine Below.drew ?_)))
  have HBX := Lib.hid (HBW.out.trans (hBX.mono HBW.out.size))
  have Ns := Lib.hid (show Blk X0 w.heap.size 23 #[.int .i64 lo, .int .i64 hi] from Ks.out.bel hBX)
  have Nb := Lib.hid (show Blk X0 (w.heap.size + 2) 26 #[.int .i64 lo, .int .i64 hi, .slice none 0 0] from Kb.out.bel hBX)
  have Nx := Lib.hid (show Blk X0 gx 26 #[.int .i64 lo, .int .i64 hi, .slice (some ⟨gn, 0, none⟩) 1 1] from Kx.out.bel hBX)
  have Nt := Lib.hid (show Blk X0 gt 23 #[.int .i64 lo, .int .i64 hi] by rw [← hX]; exact Blk.new hg.symm)
  have HK3 := Lib.hid (HK1.out.bel hBX); clear HK1; have HK1 := HK3; clear HK3; have HK3 := Lib.hid (HK2.out.bel hBX); clear HK2; have HK2 := HK3; clear HK3
  clear qs0 qs1 qb0 qb1 qb2 qx0 qx1 qx2 ls lb lx
  clear hX hBX HBW hg Ks Kb Kx
  have Ks := Ns
  have Kb := Nb
  have Kx := Nx
  have Kt := Nt
  clear Ns Nb Nx Nt
  have HBX0 := HBX
  clear HBX
  have qs0 := Ks.out.cell 0
  have qs1 := Ks.out.cell 1
  have ls := Ks.out.lt
  have qb0 := Kb.out.cell 0
  have qb1 := Kb.out.cell 1
  have qb2 := Kb.out.cell 2
  have lb := Kb.out.lt
  have qx0 := Kx.out.cell 0
  have qx1 := Kx.out.cell 1
  have qx2 := Kx.out.cell 2
  have lx := Kx.out.lt
  have qt0 := Kt.out.cell 0
  have qt1 := Kt.out.cell 1
  have lt := Kt.out.lt
  simp only [List.size_toArray, List.length_cons, List.length_nil, Nat.reduceAdd, Nat.reduceLT, getElem?_pos, List.getElem_toArray, List.getElem_cons_zero, List.getElem_cons_succ] at qs0 qs1 qb0 qb1 qb2 qx0 qx1 qx2 qt0 qt1
  go_upto_region 9 with (go_at_call 22; refine (Rate_is ⟨lo, hi, []⟩ none 0 r0 0 0 _ HK1.out hv hr b0 er1 er2).mono ?_; rintro e wu ⟨rfl, y, rfl⟩)
  generalize hX : (ext X0 y).alloc _ = X1
  generalize hg : (ext X0 y).heap.size = gr at *
  have hBX : Below X0.heap.size X0 X1 := by rw [← hX]; (repeat (first | (with_reducible exact Below.refl _ _) | (with_reducible assumption) | ((with_reducible refine below_ext_trans ?_ ?_ _); rotate_left; focus (((try dsimp only); repeat (first | omega | simp only [World.size_alloc, World.size_setCell, World.size_drew] | (with_reducible refine le_ext_of ?_) | (with_reducible refine le_ext_add ?_))); done)) | ((with_reducible refine Below.alloc ?_ ?_ _); rotate_left; focus (((try dsimp only); repeat (first | omega | simp only [World.size_alloc, World.size_setCell, World.size_drew] | (with_reducible refine le_ext_of ?_) | (with_reducible refine le_ext_add ?_))); done)) | ((with_reducible refine Below.setCell ?_ ?_ _); rotate_left; focus (((try dsimp only); repeat (first | omega | simp only [World.size_alloc, World.size_setCell, World.size_drew] | (with_reducible refine le_ext_of ?_) | (with_reducible refine le_ext_add ?_))); done)) | (with_reducible refine Below.drew ?_)))
  have HBX := Lib.hid (HBX0.out.trans (hBX.mono HBX0.out.size))
  have Ns := Lib.hid (show Blk X1 w.heap.size 23 #[.int .i64 lo, .int .i64 hi] from Ks.out.bel hBX)
  have Nb := Lib.hid (show Blk X1 (w.heap.size + 2) 26 #[.int .i64 lo, .int .i64 hi, .slice none 0 0] from Kb.out.bel hBX)
  have Nx := Lib.hid (show Blk X1 gx 26 #[.int .i64 lo, .int .i64 hi, .slice (some ⟨gn, 0, none⟩) 1 1] from Kx.out.bel hBX)
  have Nt := Lib.hid (show Blk X1 gt 23 #[.int .i64 lo, .int .i64 hi] from Kt.out.bel hBX)
  have Nr := Lib.hid (show Blk X1 gr 23 #[.int .i64 0, .int .i64 0] by rw [← hX]; exact Blk.new hg.symm)
  have HK3 := Lib.hid (HK1.out.bel hBX); clear HK1; have HK1 := HK3; clear HK3; have HK3 := Lib.hid (HK2.out.bel hBX); clear HK2; have HK2 := HK3; clear HK3
  clear qs0 qs1 qb0 qb1 qb2 qx0 qx1 qx2 qt0 qt1 ls lb lx lt
  clear hX hBX HBX0 hg Ks Kb Kx Kt
  have Ks := Ns
  have Kb := Nb
  have Kx := Nx
  have Kt := Nt
  have Kr := Nr
  clear Ns Nb Nx Nt Nr
  have HBX1 := HBX
  clear HBX
  have qs0 := Ks.out.cell 0
  have qs1 := Ks.out.cell 1
  have ls := Ks.out.lt
  have qb0 := Kb.out.cell 0
  have qb1 := Kb.out.cell 1
  have qb2 := Kb.out.cell 2
  have lb := Kb.out.lt
  have qx0 := Kx.out.cell 0
  have qx1 := Kx.out.cell 1
  have qx2 := Kx.out.cell 2
  have lx := Kx.out.lt
  have qt0 := Kt.out.cell 0
  have qt1 := Kt.out.cell 1
  have lt := Kt.out.lt
  have qr0 := Kr.out.cell 0
  have qr1 := Kr.out.cell 1
  have lr := Kr.out.lt
  simp only [List.size_toArray, List.length_cons, List.length_nil, Nat.reduceAdd, Nat.reduceLT, getElem?_pos, List.getElem_toArray, List.getElem_cons_zero, List.getElem_cons_succ] at qs0 qs1 qb0 qb1 qb2 qx0 qx1 qx2 qt0 qt1 qr0 qr1
  go_upto_region 10 with (go_at_call 27; refine (Saved_is ⟨lo, hi, []⟩ none 0 0 0 _ HK1.out hv hr es1 es2).mono ?_; rintro e wu ⟨rfl, y, rfl⟩)
  generalize hX : (ext X1 y).alloc _ = X2
  generalize hg : (ext X1 y).heap.size = gv at *
  have hBX : Below X1.heap.size X1 X2 := by rw [← hX]; (repeat (first | (with_reducible exact Below.refl _ _) | (with_reducible assumption) | ((with_reducible refine below_ext_trans ?_ ?_ _); rotate_left; focus (((try dsimp only); repeat (first | omega | simp only [World.size_alloc, World.size_setCell, World.size_drew] | (with_reducible refine le_ext_of ?_) | (with_reducible refine le_ext_add ?_))); done)) | ((with_reducible refine Below.alloc ?_ ?_ _); rotate_left; focus (((try dsimp only); repeat (first | omega | simp only [World.size_alloc, World.size_setCell, World.size_drew] | (with_reducible refine le_ext_of ?_) | (with_reducible refine le_ext_add ?_))); done)) | ((with_reducible refine Below.setCell ?_ ?_ _); rotate_left; focus (((try dsimp only); repeat (first | omega | simp only [World.size_alloc, World.size_setCell, World.size_drew] | (with_reducible refine le_ext_of ?_) | (with_reducible refine le_ext_add ?_))); done)) | (with_reducible refine Below.drew ?_)))
  have HBX := Lib.hid (HBX1.out.trans (hBX.mono HBX1.out.size))
  have Ns := Lib.hid (show Blk X2 w.heap.size 23 #[.int .i64 lo, .int .i64 hi] from Ks.out.bel hBX)
  have Nb := Lib.hid (show Blk X2 (w.heap.size + 2) 26 #[.int .i64 lo, .int .i64 hi, .slice none 0 0] from Kb.out.bel hBX)
  have Nx := Lib.hid (show Blk X2 gx 26 #[.int .i64 lo, .int .i64 hi, .slice (some ⟨gn, 0, none⟩) 1 1] from Kx.out.bel hBX)
  have Nt := Lib.hid (show Blk X2 gt 23 #[.int .i64 lo, .int .i64 hi] from Kt.out.bel hBX)
  have Nr := Lib.hid (show Blk X2 gr 23 #[.int .i64 0, .int .i64 0] from Kr.out.bel hBX)
  have Nv := Lib.hid (show Blk X2 gv 23 #[.int .i64 0, .int .i64 0] by rw [← hX]; exact Blk.new hg.symm)
  have HK3 := Lib.hid (HK1.out.bel hBX); clear HK1; have HK1 := HK3; clear HK3; have HK3 := Lib.hid (HK2.out.bel hBX); clear HK2; have HK2 := HK3; clear HK3
  clear qs0 qs1 qb0 qb1 qb2 qx0 qx1 qx2 qt0 qt1 qr0 qr1 ls lb lx lt lr
  clear hX hBX HBX1 hg Ks Kb Kx Kt Kr
  have Ks := Ns
  have Kb := Nb
  have Kx := Nx
  have Kt := Nt
  have Kr := Nr
  have Kv := Nv
  clear Ns Nb Nx Nt Nr Nv
  have HBX2 := HBX
  clear HBX
  have qs0 := Ks.out.cell 0
  have qs1 := Ks.out.cell 1
  have ls := Ks.out.lt
  have qb0 := Kb.out.cell 0
  have qb1 := Kb.out.cell 1
  have qb2 := Kb.out.cell 2
  have lb := Kb.out.lt
  have qx0 := Kx.out.cell 0
  have qx1 := Kx.out.cell 1
  have qx2 := Kx.out.cell 2
  have lx := Kx.out.lt
  have qt0 := Kt.out.cell 0
  have qt1 := Kt.out.cell 1
  have lt := Kt.out.lt
  have qr0 := Kr.out.cell 0
  have qr1 := Kr.out.cell 1
  have lr := Kr.out.lt
  have qv0 := Kv.out.cell 0
  have qv1 := Kv.out.cell 1
  have lv := Kv.out.lt
  simp only [List.size_toArray, List.length_cons, List.length_nil, Nat.reduceAdd, Nat.reduceLT, getElem?_pos, List.getElem_toArray, List.getElem_cons_zero, List.getElem_cons_succ] at qs0 qs1 qb0 qb1 qb2 qx0 qx1 qx2 qt0 qt1 qr0 qr1 qv0 qv1
  have hvx : snB (tuckS lo hi r1 r2) = true := tuck_valid s1 s2 s3 s4 s5 s6 b1 b2
  have hokx : Ok9 (tuckS lo hi r1 r2) := Ok9.of hvx
  have htop : ∀ t : Int, topH ⟨lo, hi, []⟩ t = hi := fun t => ((ends_held hok hr t).uniq (plain_held s1 s5 t)).2
  obtain ⟨M, hM1, hM2⟩ : ∃ M, max lo r2 = M ∧ (if lo < r2 then r2 else lo) = M := ⟨max lo r2, rfl, by split <;> omega⟩
  have hM3 : lo ≤ M ∧ r2 ≤ M ∧ M ≤ 400 := by omega
  have e1 : IntKind.i64.wrap (M - r2) = M - r2 := IntWalk.i64_in _ (by omega)
  have e2 : IntKind.i64.wrap (hi - r2) = hi - r2 := IntWalk.i64_in _ (by omega)
  clear eh1 eh2 er1 er2 es1 es2
  have hm2 : hi < r2 := by omega
  have hm3 : decide (hi < r2) = true := by simpa using hm2
  have hrx : rightS (tuckS lo hi r1 r2) = false := by rw [tuck_right s1 s5]; simpa using hm
  go_upto_region 11 with (go_at_call 20; refine (Held_no (tuckS lo hi r1 r2) _ 1 r0 _ HK2.out hvx hrx b0).mono ?_; rintro e wu ⟨rfl, y, rfl⟩)
  generalize hX : (ext X2 y).alloc _ = X3
  generalize hg : (ext X2 y).heap.size = gh at *
  have hBX : Below X2.heap.size X2 X3 := by rw [← hX]; (repeat (first | (with_reducible exact Below.refl _ _) | (with_reducible assumption) | ((with_reducible refine below_ext_trans ?_ ?_ _); rotate_left; focus (((try dsimp only); repeat (first | omega | simp only [World.size_alloc, World.size_setCell, World.size_drew] | (with_reducible refine le_ext_of ?_) | (with_reducible refine le_ext_add ?_))); done)) | ((with_reducible refine Below.alloc ?_ ?_ _); rotate_left; focus (((try dsimp only); repeat (first | omega | simp only [World.size_alloc, World.size_setCell, World.size_drew] | (with_reducible refine le_ext_of ?_) | (with_reducible refine le_ext_add ?_))); done)) | ((with_reducible refine Below.setCell ?_ ?_ _); rotate_left; focus (((try dsimp only); repeat (first | omega | simp only [World.size_alloc, World.size_setCell, World.size_drew] | (with_reducible refine le_ext_of ?_) | (with_reducible refine le_ext_add ?_))); done)) | (with_reducible refine Below.drew ?_)))
  have HBX := Lib.hid (HBX2.out.trans (hBX.mono HBX2.out.size))
  have Ns := Lib.hid (show Blk X3 w.heap.size 23 #[.int .i64 lo, .int .i64 hi] from Ks.out.bel hBX)
  have Nb := Lib.hid (show Blk X3 (w.heap.size + 2) 26 #[.int .i64 lo, .int .i64 hi, .slice none 0 0] from Kb.out.bel hBX)
  have Nx := Lib.hid (show Blk X3 gx 26 #[.int .i64 lo, .int .i64 hi, .slice (some ⟨gn, 0, none⟩) 1 1] from Kx.out.bel hBX)
  have Nt := Lib.hid (show Blk X3 gt 23 #[.int .i64 lo, .int .i64 hi] from Kt.out.bel hBX)
  have Nr := Lib.hid (show Blk X3 gr 23 #[.int .i64 0, .int .i64 0] from Kr.out.bel hBX)
  have Nv := Lib.hid (show Blk X3 gv 23 #[.int .i64 0, .int .i64 0] from Kv.out.bel hBX)
  have Nh := Lib.hid (show Blk X3 gh 23 #[.int .i64 0, .int .i64 0] by rw [← hX]; exact Blk.new hg.symm)
  have HK3 := Lib.hid (HK1.out.bel hBX); clear HK1; have HK1 := HK3; clear HK3; have HK3 := Lib.hid (HK2.out.bel hBX); clear HK2; have HK2 := HK3; clear HK3
  clear qs0 qs1 qb0 qb1 qb2 qx0 qx1 qx2 qt0 qt1 qr0 qr1 qv0 qv1 ls lb lx lt lr lv
  clear hX hBX HBX2 hg Ks Kb Kx Kt Kr Kv
  have Ks := Ns
  have Kb := Nb
  have Kx := Nx
  have Kt := Nt
  have Kr := Nr
  have Kv := Nv
  have Kh := Nh
  clear Ns Nb Nx Nt Nr Nv Nh
  have HBX3 := HBX
  clear HBX
  have qs0 := Ks.out.cell 0
  have qs1 := Ks.out.cell 1
  have ls := Ks.out.lt
  have qb0 := Kb.out.cell 0
  have qb1 := Kb.out.cell 1
  have qb2 := Kb.out.cell 2
  have lb := Kb.out.lt
  have qx0 := Kx.out.cell 0
  have qx1 := Kx.out.cell 1
  have qx2 := Kx.out.cell 2
  have lx := Kx.out.lt
  have qt0 := Kt.out.cell 0
  have qt1 := Kt.out.cell 1
  have lt := Kt.out.lt
  have qr0 := Kr.out.cell 0
  have qr1 := Kr.out.cell 1
  have lr := Kr.out.lt
  have qv0 := Kv.out.cell 0
  have qv1 := Kv.out.cell 1
  have lv := Kv.out.lt
  have qh0 := Kh.out.cell 0
  have qh1 := Kh.out.cell 1
  have lh := Kh.out.lt
  simp only [List.size_toArray, List.length_cons, List.length_nil, Nat.reduceAdd, Nat.reduceLT, getElem?_pos, List.getElem_toArray, List.getElem_cons_zero, List.getElem_cons_succ] at qs0 qs1 qb0 qb1 qb2 qx0 qx1 qx2 qt0 qt1 qr0 qr1 qv0 qv1 qh0 qh1
  have hz1 : (hi == 0) = false := by simpa using HZ.out
  have hE0 : ∀ j : Nat, j ≤ 60 → topH ⟨lo, hi, []⟩ (j : Int) ≠ 0 := fun j _ => by rw [htop]; exact HZ.out
  go_upto_region 12 with (go_at_call 25; refine (Empty_non ⟨lo, hi, []⟩ none 0 _ HK1.out hv hr hE0).mono ?_; rintro e wu ⟨rfl, y, rfl⟩)
  generalize hX : ext X3 y = X4 at *
  have hBX : Below X3.heap.size X3 X4 := by rw [← hX]; (repeat (first | (with_reducible exact Below.refl _ _) | (with_reducible assumption) | ((with_reducible refine below_ext_trans ?_ ?_ _); rotate_left; focus (((try dsimp only); repeat (first | omega | simp only [World.size_alloc, World.size_setCell, World.size_drew] | (with_reducible refine le_ext_of ?_) | (with_reducible refine le_ext_add ?_))); done)) | ((with_reducible refine Below.alloc ?_ ?_ _); rotate_left; focus (((try dsimp only); repeat (first | omega | simp only [World.size_alloc, World.size_setCell, World.size_drew] | (with_reducible refine le_ext_of ?_) | (with_reducible refine le_ext_add ?_))); done)) | ((with_reducible refine Below.setCell ?_ ?_ _); rotate_left; focus (((try dsimp only); repeat (first | omega | simp only [World.size_alloc, World.size_setCell, World.size_drew] | (with_reducible refine le_ext_of ?_) | (with_reducible refine le_ext_add ?_))); done)) | (with_reducible refine Below.drew ?_)))
  have HBX := Lib.hid (HBX3.out.trans (hBX.mono HBX3.out.size))
  have Ns := Lib.hid (show Blk X4 w.heap.size 23 #[.int .i64 lo, .int .i64 hi] from Ks.out.bel hBX)
  have Nb := Lib.hid (show Blk X4 (w.heap.size + 2) 26 #[.int .i64 lo, .int .i64 hi, .slice none 0 0] from Kb.out.bel hBX)
  have Nx := Lib.hid (show Blk X4 gx 26 #[.int .i64 lo, .int .i64 hi, .slice (some ⟨gn, 0, none⟩) 1 1] from Kx.out.bel hBX)
  have Nt := Lib.hid (show Blk X4 gt 23 #[.int .i64 lo, .int .i64 hi] from Kt.out.bel hBX)
  have Nr := Lib.hid (show Blk X4 gr 23 #[.int .i64 0, .int .i64 0] from Kr.out.bel hBX)
  have Nv := Lib.hid (show Blk X4 gv 23 #[.int .i64 0, .int .i64 0] from Kv.out.bel hBX)
  have Nh := Lib.hid (show Blk X4 gh 23 #[.int .i64 0, .int .i64 0] from Kh.out.bel hBX)
  have HK3 := Lib.hid (HK1.out.bel hBX); clear HK1; have HK1 := HK3; clear HK3; have HK3 := Lib.hid (HK2.out.bel hBX); clear HK2; have HK2 := HK3; clear HK3
  clear qs0 qs1 qb0 qb1 qb2 qx0 qx1 qx2 qt0 qt1 qr0 qr1 qv0 qv1 qh0 qh1 ls lb lx lt lr lv lh
  clear hX hBX HBX3 Ks Kb Kx Kt Kr Kv Kh
  have Ks := Ns
  have Kb := Nb
  have Kx := Nx
  have Kt := Nt
  have Kr := Nr
  have Kv := Nv
  have Kh := Nh
  clear Ns Nb Nx Nt Nr Nv Nh
  have HBX4 := HBX
  clear HBX
  have qs0 := Ks.out.cell 0
  have qs1 := Ks.out.cell 1
  have ls := Ks.out.lt
  have qb0 := Kb.out.cell 0
  have qb1 := Kb.out.cell 1
  have qb2 := Kb.out.cell 2
  have lb := Kb.out.lt
  have qx0 := Kx.out.cell 0
  have qx1 := Kx.out.cell 1
  have qx2 := Kx.out.cell 2
  have lx := Kx.out.lt
  have qt0 := Kt.out.cell 0
  have qt1 := Kt.out.cell 1
  have lt := Kt.out.lt
  have qr0 := Kr.out.cell 0
  have qr1 := Kr.out.cell 1
  have lr := Kr.out.lt
  have qv0 := Kv.out.cell 0
  have qv1 := Kv.out.cell 1
  have lv := Kv.out.lt
  have qh0 := Kh.out.cell 0
  have qh1 := Kh.out.cell 1
  have lh := Kh.out.lt
  simp only [List.size_toArray, List.length_cons, List.length_nil, Nat.reduceAdd, Nat.reduceLT, getElem?_pos, List.getElem_toArray, List.getElem_cons_zero, List.getElem_cons_succ] at qs0 qs1 qb0 qb1 qb2 qx0 qx1 qx2 qt0 qt1 qr0 qr1 qv0 qv1 qh0 qh1
  clear htop hE0
  refine wp_region_ext (by kernel_rfl) (by kernel_rfl) ?_
  repeat (go_big_quiet_step (first | (go_at_call 39; exact quiet_ext (Just_any _ _))))
  (refine wpQuiet_nil ?_; rintro _ ⟨x, rfl⟩)
  generalize hX : ext X4 _ = Y0
  have hBX : Below X4.heap.size X4 Y0 := by rw [← hX]; exact below_ext _ _
  have HBY0 := Lib.hid (HBX4.out.trans (hBX.mono HBX4.out.size))
  have HK3 := Lib.hid (HK1.out.bel hBX); clear HK1; have HK1 := HK3; clear HK3; have HK3 := Lib.hid (HK2.out.bel hBX); clear HK2; have HK2 := HK3; clear HK3
  have Ns := Lib.hid (show Blk Y0 w.heap.size 23 #[.int .i64 lo, .int .i64 hi] from Ks.out.bel hBX)
  have Nb := Lib.hid (show Blk Y0 (w.heap.size + 2) 26 #[.int .i64 lo, .int .i64 hi, .slice none 0 0] from Kb.out.bel hBX)
  have Nx := Lib.hid (show Blk Y0 gx 26 #[.int .i64 lo, .int .i64 hi, .slice (some ⟨gn, 0, none⟩) 1 1] from Kx.out.bel hBX)
  have Nt := Lib.hid (show Blk Y0 gt 23 #[.int .i64 lo, .int .i64 hi] from Kt.out.bel hBX)
  have Nr := Lib.hid (show Blk Y0 gr 23 #[.int .i64 0, .int .i64 0] from Kr.out.bel hBX)
  have Nv := Lib.hid (show Blk Y0 gv 23 #[.int .i64 0, .int .i64 0] from Kv.out.bel hBX)
  have Nh := Lib.hid (show Blk Y0 gh 23 #[.int .i64 0, .int .i64 0] from Kh.out.bel hBX)
  clear qs0 qs1 qb0 qb1 qb2 qx0 qx1 qx2 qt0 qt1 qr0 qr1 qv0 qv1 qh0 qh1 ls lb lx lt lr lv lh
  clear hX hBX HBX4 Ks Kb Kx Kt Kr Kv Kh
  have Ks := Ns
  have Kb := Nb
  have Kx := Nx
  have Kt := Nt
  have Kr := Nr
  have Kv := Nv
  have Kh := Nh
  clear Ns Nb Nx Nt Nr Nv Nh
  have qs0 := Ks.out.cell 0
  have qs1 := Ks.out.cell 1
  have ls := Ks.out.lt
  have qb0 := Kb.out.cell 0
  have qb1 := Kb.out.cell 1
  have qb2 := Kb.out.cell 2
  have lb := Kb.out.lt
  have qx0 := Kx.out.cell 0
  have qx1 := Kx.out.cell 1
  have qx2 := Kx.out.cell 2
  have lx := Kx.out.lt
  have qt0 := Kt.out.cell 0
  have qt1 := Kt.out.cell 1
  have lt := Kt.out.lt
  have qr0 := Kr.out.cell 0
  have qr1 := Kr.out.cell 1
  have lr := Kr.out.lt
  have qv0 := Kv.out.cell 0
  have qv1 := Kv.out.cell 1
  have lv := Kv.out.lt
  have qh0 := Kh.out.cell 0
  have qh1 := Kh.out.cell 1
  have lh := Kh.out.lt
  simp only [List.size_toArray, List.length_cons, List.length_nil, Nat.reduceAdd, Nat.reduceLT, getElem?_pos, List.getElem_toArray, List.getElem_cons_zero, List.getElem_cons_succ] at qs0 qs1 qb0 qb1 qb2 qx0 qx1 qx2 qt0 qt1 qr0 qr1 qv0 qv1 qh0 qh1
  go_wp2_with (go_at_call 24; refine (sounded_any _ (HK1.out.mm.below (by (repeat (first | (with_reducible exact Below.refl _ _) | (with_reducible assumption) | ((with_reducible refine below_ext_trans ?_ ?_ _); rotate_left; focus (((try dsimp only); repeat (first | omega | simp only [World.size_alloc, World.size_setCell, World.size_drew] | (with_reducible refine le_ext_of ?_) | (with_reducible refine le_ext_add ?_))); done)) | ((with_reducible refine Below.alloc ?_ ?_ _); rotate_left; focus (((try dsimp only); repeat (first | omega | simp only [World.size_alloc, World.size_setCell, World.size_drew] | (with_reducible refine le_ext_of ?_) | (with_reducible refine le_ext_add ?_))); done)) | ((with_reducible refine Below.setCell ?_ ?_ _); rotate_left; focus (((try dsimp only); repeat (first | omega | simp only [World.size_alloc, World.size_setCell, World.size_drew] | (with_reducible refine le_ext_of ?_) | (with_reducible refine le_ext_add ?_))); done)) | (with_reducible refine Below.drew ?_)))))).mono ?_; rintro e w1 ⟨rfl, y, rfl⟩)
  go_ret
  exact ⟨rfl, ext_of (HBY0.out.trans ((below_ext _ _).mono HBY0.out.size))⟩
end Go.Proofs.YtnckampdbbcehaaDoor

