/- The walk of SeineMore, before others. Written by gen_more.py. -/
/- The walk of SeineMore, a sounding. Written by gen_more.py. -/
/- The walk of SeineMore, a sounding. Written by gen_more.py. -/
import Derived.Test.YtamknmgplhaciaaDoorQKe
import Derived.RegionTactic
import Derived.BigQuiet
set_option linter.unusedSimpArgs false
set_option linter.unusedVariables false
namespace Go.Proofs.YtamknmgplhaciaaDoor
open Go Go.RowKit Go.Shelf
attribute [local go_sem] Oper.semAt_some frozen_alloc_lt
set_option maxRecDepth 100000 in
set_option maxHeartbeats 8000000 in
theorem SeineMore_mid (b : Sn) (p : Option Addr) (c : Nat) (s : Nt) (n : Int) (w : World) (hk : SBk w b p) (hc : SBc b p c) (hv : snB b = true) (hn8 : b.ns.length ≠ 8) (r : Bool) (hs : ntB s = true) (hq : rightS (withS b s) = true) (hr : rightS b = r) (k : Nat) (t : Nt) (la : Int) (hnk : b.ns.length = k + 1) (ht : b.ns[k]? = some t) (hla : t.hour = la) (hkd : (s.kind != 4) = true) (hl : decide (la ≤ s.hour) = false) :
    Calls Tryd.prog 8 #[bV b p c, .agg (ntC s), .int .i64 n] w fun e w' => e = .returned (.bool true) ∧ ∃ x, w' = ext w x := by
  have HK := Lib.hid hk
  have HC := Lib.hid hc
  have hok := Ok9.of hv
  have hlen : b.ns.length ≤ 9 := hok.len
  have hd8 : ((b.ns.length : Int) == 8) = false := by simpa using (show ¬ (b.ns.length : Int) = 8 by omega)
  have HV := Lib.hid hv
  have HS := Lib.hid hs
  have HQ := Lib.hid hq
  have HR := Lib.hid hr
  have HVX := Lib.hid (snB_with hv hs (by have := snB_len hv; omega))
  clear hs hq hr
  have HNK := Lib.hid hnk
  have HT := Lib.hid ht
  have HLA := Lib.hid hla
  clear hnk ht hla
  clear hk hc hok hn8
  go_enter Tryd.func8, Tryd.ntmps8
  go_upto_region 3 with (go_at_call 34; refine (sound_yes b p c _ (HK.out.bel (by (repeat (first | (with_reducible exact Below.refl _ _) | (with_reducible assumption) | ((with_reducible refine below_ext_trans ?_ ?_ _); rotate_left; focus (((try dsimp only); repeat (first | omega | simp only [World.size_alloc, World.size_setCell, World.size_drew] | (with_reducible refine le_ext_of ?_) | (with_reducible refine le_ext_add ?_))); done)) | ((with_reducible refine Below.alloc ?_ ?_ _); rotate_left; focus (((try dsimp only); repeat (first | omega | simp only [World.size_alloc, World.size_setCell, World.size_drew] | (with_reducible refine le_ext_of ?_) | (with_reducible refine le_ext_add ?_))); done)) | ((with_reducible refine Below.setCell ?_ ?_ _); rotate_left; focus (((try dsimp only); repeat (first | omega | simp only [World.size_alloc, World.size_setCell, World.size_drew] | (with_reducible refine le_ext_of ?_) | (with_reducible refine le_ext_add ?_))); done)) | (with_reducible refine Below.drew ?_))))) hv).mono ?_; rintro e w1 ⟨rfl, y, rfl⟩)
  generalize hX : ext ((w.alloc _).alloc _) _ = W
  have hB : Below w.heap.size w W := by rw [← hX]; (repeat (first | (with_reducible exact Below.refl _ _) | (with_reducible assumption) | ((with_reducible refine below_ext_trans ?_ ?_ _); rotate_left; focus (((try dsimp only); repeat (first | omega | simp only [World.size_alloc, World.size_setCell, World.size_drew] | (with_reducible refine le_ext_of ?_) | (with_reducible refine le_ext_add ?_))); done)) | ((with_reducible refine Below.alloc ?_ ?_ _); rotate_left; focus (((try dsimp only); repeat (first | omega | simp only [World.size_alloc, World.size_setCell, World.size_drew] | (with_reducible refine le_ext_of ?_) | (with_reducible refine le_ext_add ?_))); done)) | ((with_reducible refine Below.setCell ?_ ?_ _); rotate_left; focus (((try dsimp only); repeat (first | omega | simp only [World.size_alloc, World.size_setCell, World.size_drew] | (with_reducible refine le_ext_of ?_) | (with_reducible refine le_ext_add ?_))); done)) | (with_reducible refine Below.drew ?_)))
  have Kb := Lib.hid (show Blk W w.heap.size 26 #[.int .i64 b.lo, .int .i64 b.hi, .slice p b.ns.length c] by rw [← hX]; exact ((Blk.new rfl).alloc _).ext _)
  have Kn := Lib.hid (show Blk W (w.heap.size + 1) 38 #[.int .i64 s.kind, .int .i64 s.hour, .int .i64 s.lo, .int .i64 s.hi] by rw [← hX]; exact (Blk.new (by simp)).ext _)
  have HBW := Lib.hid hB
  have HK1 := Lib.hid (HK.out.bel hB)
  clear hX hB HK hd8 hv
  have qb0 := Kb.out.cell 0
  have qb1 := Kb.out.cell 1
  have qb2 := Kb.out.cell 2
  have lb := Kb.out.lt
  have qn0 := Kn.out.cell 0
  have qn1 := Kn.out.cell 1
  have qn2 := Kn.out.cell 2
  have qn3 := Kn.out.cell 3
  have ln := Kn.out.lt
  simp only [List.size_toArray, List.length_cons, List.length_nil, Nat.reduceAdd, Nat.reduceLT, getElem?_pos, List.getElem_toArray, List.getElem_cons_zero, List.getElem_cons_succ] at qb0 qb1 qb2 qn0 qn1 qn2 qn3
  go_upto_region 4 with (go_at_call 29; refine (Fits_is b p c s true _ HK1.out HC.out HV.out HS.out HQ.out).mono ?_; rintro e wu ⟨rfl, y, rfl⟩)
  generalize hX : ext W y = X0 at *
  have hBX : Below W.heap.size W X0 := by rw [← hX]; (repeat (first | (with_reducible exact Below.refl _ _) | (with_reducible assumption) | ((with_reducible refine below_ext_trans ?_ ?_ _); rotate_left; focus (((try dsimp only); repeat (first | omega | simp only [World.size_alloc, World.size_setCell, World.size_drew] | (with_reducible refine le_ext_of ?_) | (with_reducible refine le_ext_add ?_))); done)) | ((with_reducible refine Below.alloc ?_ ?_ _); rotate_left; focus (((try dsimp only); repeat (first | omega | simp only [World.size_alloc, World.size_setCell, World.size_drew] | (with_reducible refine le_ext_of ?_) | (with_reducible refine le_ext_add ?_))); done)) | ((with_reducible refine Below.setCell ?_ ?_ _); rotate_left; focus (((try dsimp only); repeat (first | omega | simp only [World.size_alloc, World.size_setCell, World.size_drew] | (with_reducible refine le_ext_of ?_) | (with_reducible refine le_ext_add ?_))); done)) | (with_reducible refine Below.drew ?_)))
  have HBX := Lib.hid (HBW.out.trans (hBX.mono HBW.out.size))
  have Nb := Lib.hid (show Blk X0 w.heap.size 26 #[.int .i64 b.lo, .int .i64 b.hi, .slice p b.ns.length c] from Kb.out.bel hBX)
  have Nn := Lib.hid (show Blk X0 (w.heap.size + 1) 38 #[.int .i64 s.kind, .int .i64 s.hour, .int .i64 s.lo, .int .i64 s.hi] from Kn.out.bel hBX)
  have HK2 := Lib.hid (HK1.out.bel hBX); clear HK1; have HK1 := HK2; clear HK2
  clear qb0 qb1 qb2 qn0 qn1 qn2 qn3 lb ln
  clear hX hBX HBW Kb Kn
  have Kb := Nb
  have Kn := Nn
  clear Nb Nn
  have HBX0 := HBX
  clear HBX
  have qb0 := Kb.out.cell 0
  have qb1 := Kb.out.cell 1
  have qb2 := Kb.out.cell 2
  have lb := Kb.out.lt
  have qn0 := Kn.out.cell 0
  have qn1 := Kn.out.cell 1
  have qn2 := Kn.out.cell 2
  have qn3 := Kn.out.cell 3
  have ln := Kn.out.lt
  simp only [List.size_toArray, List.length_cons, List.length_nil, Nat.reduceAdd, Nat.reduceLT, getElem?_pos, List.getElem_toArray, List.getElem_cons_zero, List.getElem_cons_succ] at qb0 qb1 qb2 qn0 qn1 qn2 qn3
  go_upto_region 5 with (go_at_call 14; refine (Right_is b p c r _ HK1.out HV.out HR.out).mono ?_; rintro e wu ⟨rfl, y, rfl⟩)
  generalize hX : ext X0 y = X1 at *
  have hBX : Below X0.heap.size X0 X1 := by rw [← hX]; (repeat (first | (with_reducible exact Below.refl _ _) | (with_reducible assumption) | ((with_reducible refine below_ext_trans ?_ ?_ _); rotate_left; focus (((try dsimp only); repeat (first | omega | simp only [World.size_alloc, World.size_setCell, World.size_drew] | (with_reducible refine le_ext_of ?_) | (with_reducible refine le_ext_add ?_))); done)) | ((with_reducible refine Below.alloc ?_ ?_ _); rotate_left; focus (((try dsimp only); repeat (first | omega | simp only [World.size_alloc, World.size_setCell, World.size_drew] | (with_reducible refine le_ext_of ?_) | (with_reducible refine le_ext_add ?_))); done)) | ((with_reducible refine Below.setCell ?_ ?_ _); rotate_left; focus (((try dsimp only); repeat (first | omega | simp only [World.size_alloc, World.size_setCell, World.size_drew] | (with_reducible refine le_ext_of ?_) | (with_reducible refine le_ext_add ?_))); done)) | (with_reducible refine Below.drew ?_)))
  have HBX := Lib.hid (HBX0.out.trans (hBX.mono HBX0.out.size))
  have Nb := Lib.hid (show Blk X1 w.heap.size 26 #[.int .i64 b.lo, .int .i64 b.hi, .slice p b.ns.length c] from Kb.out.bel hBX)
  have Nn := Lib.hid (show Blk X1 (w.heap.size + 1) 38 #[.int .i64 s.kind, .int .i64 s.hour, .int .i64 s.lo, .int .i64 s.hi] from Kn.out.bel hBX)
  have HK2 := Lib.hid (HK1.out.bel hBX); clear HK1; have HK1 := HK2; clear HK2
  clear qb0 qb1 qb2 qn0 qn1 qn2 qn3 lb ln
  clear hX hBX HBX0 Kb Kn
  have Kb := Nb
  have Kn := Nn
  clear Nb Nn
  have HBX1 := HBX
  clear HBX
  have qb0 := Kb.out.cell 0
  have qb1 := Kb.out.cell 1
  have qb2 := Kb.out.cell 2
  have lb := Kb.out.lt
  have qn0 := Kn.out.cell 0
  have qn1 := Kn.out.cell 1
  have qn2 := Kn.out.cell 2
  have qn3 := Kn.out.cell 3
  have ln := Kn.out.lt
  simp only [List.size_toArray, List.length_cons, List.length_nil, Nat.reduceAdd, Nat.reduceLT, getElem?_pos, List.getElem_toArray, List.getElem_cons_zero, List.getElem_cons_succ] at qb0 qb1 qb2 qn0 qn1 qn2 qn3
  go_upto_region 6 with (go_at_call 42; refine (lwith_any b p c s _ HK1.out HC.out (by omega)).mono ?_; rintro e wu ⟨gm, cm, rfl, hOm, y, rfl⟩)
  generalize hX : (ext X1 y).alloc _ = X2
  generalize hg : (ext X1 y).heap.size = gx at *
  have hBX : Below X1.heap.size X1 X2 := by rw [← hX]; (repeat (first | (with_reducible exact Below.refl _ _) | (with_reducible assumption) | ((with_reducible refine below_ext_trans ?_ ?_ _); rotate_left; focus (((try dsimp only); repeat (first | omega | simp only [World.size_alloc, World.size_setCell, World.size_drew] | (with_reducible refine le_ext_of ?_) | (with_reducible refine le_ext_add ?_))); done)) | ((with_reducible refine Below.alloc ?_ ?_ _); rotate_left; focus (((try dsimp only); repeat (first | omega | simp only [World.size_alloc, World.size_setCell, World.size_drew] | (with_reducible refine le_ext_of ?_) | (with_reducible refine le_ext_add ?_))); done)) | ((with_reducible refine Below.setCell ?_ ?_ _); rotate_left; focus (((try dsimp only); repeat (first | omega | simp only [World.size_alloc, World.size_setCell, World.size_drew] | (with_reducible refine le_ext_of ?_) | (with_reducible refine le_ext_add ?_))); done)) | (with_reducible refine Below.drew ?_)))
  have HBX := Lib.hid (HBX1.out.trans (hBX.mono HBX1.out.size))
  have Nb := Lib.hid (show Blk X2 w.heap.size 26 #[.int .i64 b.lo, .int .i64 b.hi, .slice p b.ns.length c] from Kb.out.bel hBX)
  have Nn := Lib.hid (show Blk X2 (w.heap.size + 1) 38 #[.int .i64 s.kind, .int .i64 s.hour, .int .i64 s.lo, .int .i64 s.hi] from Kn.out.bel hBX)
  have Nx := Lib.hid (show Blk X2 gx 26 #[.int .i64 b.lo, .int .i64 b.hi, .slice (some ⟨gm, 0, none⟩) (withS b s).ns.length cm] by rw [← hX]; exact Blk.new hg.symm)
  have HM := Lib.hid ((sbk_of hOm (HK1.out.bel (below_ext _ _)).mm).bel (show Below (ext X1 y).heap.size (ext X1 y) X2 by rw [← hX]; (repeat (first | (with_reducible exact Below.refl _ _) | (with_reducible assumption) | ((with_reducible refine below_ext_trans ?_ ?_ _); rotate_left; focus (((try dsimp only); repeat (first | omega | simp only [World.size_alloc, World.size_setCell, World.size_drew] | (with_reducible refine le_ext_of ?_) | (with_reducible refine le_ext_add ?_))); done)) | ((with_reducible refine Below.alloc ?_ ?_ _); rotate_left; focus (((try dsimp only); repeat (first | omega | simp only [World.size_alloc, World.size_setCell, World.size_drew] | (with_reducible refine le_ext_of ?_) | (with_reducible refine le_ext_add ?_))); done)) | ((with_reducible refine Below.setCell ?_ ?_ _); rotate_left; focus (((try dsimp only); repeat (first | omega | simp only [World.size_alloc, World.size_setCell, World.size_drew] | (with_reducible refine le_ext_of ?_) | (with_reducible refine le_ext_add ?_))); done)) | (with_reducible refine Below.drew ?_))))); clear hOm; have HK2 := Lib.hid (HK1.out.bel hBX); clear HK1; have HK1 := HK2; clear HK2
  clear qb0 qb1 qb2 qn0 qn1 qn2 qn3 lb ln
  clear hX hBX HBX1 hg Kb Kn
  have Kb := Nb
  have Kn := Nn
  have Kx := Nx
  clear Nb Nn Nx
  have HBX2 := HBX
  clear HBX
  have qb0 := Kb.out.cell 0
  have qb1 := Kb.out.cell 1
  have qb2 := Kb.out.cell 2
  have lb := Kb.out.lt
  have qn0 := Kn.out.cell 0
  have qn1 := Kn.out.cell 1
  have qn2 := Kn.out.cell 2
  have qn3 := Kn.out.cell 3
  have ln := Kn.out.lt
  have qx0 := Kx.out.cell 0
  have qx1 := Kx.out.cell 1
  have qx2 := Kx.out.cell 2
  have lx := Kx.out.lt
  simp only [List.size_toArray, List.length_cons, List.length_nil, Nat.reduceAdd, Nat.reduceLT, getElem?_pos, List.getElem_toArray, List.getElem_cons_zero, List.getElem_cons_succ] at qb0 qb1 qb2 qn0 qn1 qn2 qn3 qx0 qx1 qx2
  go_upto_region 9 with (go_at_call 14; refine (Right_is (withS b s) (some ⟨gm, 0, none⟩) cm true _ HM.out HVX.out HQ.out).mono ?_; rintro e wu ⟨rfl, y, rfl⟩)
  generalize hX : ext X2 y = X3 at *
  have hBX : Below X2.heap.size X2 X3 := by rw [← hX]; (repeat (first | (with_reducible exact Below.refl _ _) | (with_reducible assumption) | ((with_reducible refine below_ext_trans ?_ ?_ _); rotate_left; focus (((try dsimp only); repeat (first | omega | simp only [World.size_alloc, World.size_setCell, World.size_drew] | (with_reducible refine le_ext_of ?_) | (with_reducible refine le_ext_add ?_))); done)) | ((with_reducible refine Below.alloc ?_ ?_ _); rotate_left; focus (((try dsimp only); repeat (first | omega | simp only [World.size_alloc, World.size_setCell, World.size_drew] | (with_reducible refine le_ext_of ?_) | (with_reducible refine le_ext_add ?_))); done)) | ((with_reducible refine Below.setCell ?_ ?_ _); rotate_left; focus (((try dsimp only); repeat (first | omega | simp only [World.size_alloc, World.size_setCell, World.size_drew] | (with_reducible refine le_ext_of ?_) | (with_reducible refine le_ext_add ?_))); done)) | (with_reducible refine Below.drew ?_)))
  have HBX := Lib.hid (HBX2.out.trans (hBX.mono HBX2.out.size))
  have Nb := Lib.hid (show Blk X3 w.heap.size 26 #[.int .i64 b.lo, .int .i64 b.hi, .slice p b.ns.length c] from Kb.out.bel hBX)
  have Nn := Lib.hid (show Blk X3 (w.heap.size + 1) 38 #[.int .i64 s.kind, .int .i64 s.hour, .int .i64 s.lo, .int .i64 s.hi] from Kn.out.bel hBX)
  have Nx := Lib.hid (show Blk X3 gx 26 #[.int .i64 b.lo, .int .i64 b.hi, .slice (some ⟨gm, 0, none⟩) (withS b s).ns.length cm] from Kx.out.bel hBX)
  have HK2 := Lib.hid (HK1.out.bel hBX); clear HK1; have HK1 := HK2; clear HK2; have HM2 := Lib.hid (HM.out.bel hBX); clear HM; have HM := HM2; clear HM2
  clear qb0 qb1 qb2 qn0 qn1 qn2 qn3 qx0 qx1 qx2 lb ln lx
  clear hX hBX HBX2 Kb Kn Kx
  have Kb := Nb
  have Kn := Nn
  have Kx := Nx
  clear Nb Nn Nx
  have HBX3 := HBX
  clear HBX
  have qb0 := Kb.out.cell 0
  have qb1 := Kb.out.cell 1
  have qb2 := Kb.out.cell 2
  have lb := Kb.out.lt
  have qn0 := Kn.out.cell 0
  have qn1 := Kn.out.cell 1
  have qn2 := Kn.out.cell 2
  have qn3 := Kn.out.cell 3
  have ln := Kn.out.lt
  have qx0 := Kx.out.cell 0
  have qx1 := Kx.out.cell 1
  have qx2 := Kx.out.cell 2
  have lx := Kx.out.lt
  simp only [List.size_toArray, List.length_cons, List.length_nil, Nat.reduceAdd, Nat.reduceLT, getElem?_pos, List.getElem_toArray, List.getElem_cons_zero, List.getElem_cons_succ] at qb0 qb1 qb2 qn0 qn1 qn2 qn3 qx0 qx1 qx2
  go_upto_region 11 with fail
  have hnk := HNK.out
  have ht := HT.out
  have hg0 : ((b.ns.length : Int) == 0) = false := by simpa using (show ¬ (b.ns.length : Int) = 0 by omega)
  have e1 : IntKind.i64.wrap ((b.ns.length : Int) - 1) = (k : Int) := by rw [IntWalk.i64_in _ (by omega)]; omega
  have hk0 : (0 : Int) ≤ (k : Int) := by omega
  have hkl : (k : Int) < (b.ns.length : Int) := by omega
  have HKC := Lib.hid HK1.out.nt
  obtain ⟨bb, o, hp, hbb, c0, c1, c2, c3⟩ := HKC.out k t ht
  rw [HLA.out] at c1
  clear HKC ht hnk HT HNK HLA
  rw [hp] at qb2
  clear hp
  refine wp_region_ext (by kernel_rfl) (by kernel_rfl) ?_
  repeat (go_big_quiet_step (first | fail))
  (refine wpQuiet_nil ?_; rintro _ ⟨x, rfl⟩)
  generalize hX : ext X3 _ = Y4
  have hBX : Below X3.heap.size X3 Y4 := by rw [← hX]; exact below_ext _ _
  have HBY4 := Lib.hid (HBX3.out.trans (hBX.mono HBX3.out.size))
  have HK2 := Lib.hid (HK1.out.bel hBX); clear HK1; have HK1 := HK2; clear HK2; have HM2 := Lib.hid (HM.out.bel hBX); clear HM; have HM := HM2; clear HM2
  have Nb := Lib.hid (show Blk Y4 w.heap.size 26 #[.int .i64 b.lo, .int .i64 b.hi, .slice p b.ns.length c] from Kb.out.bel hBX)
  have Nn := Lib.hid (show Blk Y4 (w.heap.size + 1) 38 #[.int .i64 s.kind, .int .i64 s.hour, .int .i64 s.lo, .int .i64 s.hi] from Kn.out.bel hBX)
  have Nx := Lib.hid (show Blk Y4 gx 26 #[.int .i64 b.lo, .int .i64 b.hi, .slice (some ⟨gm, 0, none⟩) (withS b s).ns.length cm] from Kx.out.bel hBX)
  clear qb0 qb1 qb2 qn0 qn1 qn2 qn3 qx0 qx1 qx2 lb ln lx
  clear hX hBX HBX3 Kb Kn Kx
  have Kb := Nb
  have Kn := Nn
  have Kx := Nx
  clear Nb Nn Nx
  have qb0 := Kb.out.cell 0
  have qb1 := Kb.out.cell 1
  have qb2 := Kb.out.cell 2
  have lb := Kb.out.lt
  have qn0 := Kn.out.cell 0
  have qn1 := Kn.out.cell 1
  have qn2 := Kn.out.cell 2
  have qn3 := Kn.out.cell 3
  have ln := Kn.out.lt
  have qx0 := Kx.out.cell 0
  have qx1 := Kx.out.cell 1
  have qx2 := Kx.out.cell 2
  have lx := Kx.out.lt
  simp only [List.size_toArray, List.length_cons, List.length_nil, Nat.reduceAdd, Nat.reduceLT, getElem?_pos, List.getElem_toArray, List.getElem_cons_zero, List.getElem_cons_succ] at qb0 qb1 qb2 qn0 qn1 qn2 qn3 qx0 qx1 qx2
  clear c0 c1 c2 c3 hkl hk0 e1 hg0
  go_wp2_with (go_at_call 24; refine (sounded_any _ (HK1.out.mm.below (by (repeat (first | (with_reducible exact Below.refl _ _) | (with_reducible assumption) | ((with_reducible refine below_ext_trans ?_ ?_ _); rotate_left; focus (((try dsimp only); repeat (first | omega | simp only [World.size_alloc, World.size_setCell, World.size_drew] | (with_reducible refine le_ext_of ?_) | (with_reducible refine le_ext_add ?_))); done)) | ((with_reducible refine Below.alloc ?_ ?_ _); rotate_left; focus (((try dsimp only); repeat (first | omega | simp only [World.size_alloc, World.size_setCell, World.size_drew] | (with_reducible refine le_ext_of ?_) | (with_reducible refine le_ext_add ?_))); done)) | ((with_reducible refine Below.setCell ?_ ?_ _); rotate_left; focus (((try dsimp only); repeat (first | omega | simp only [World.size_alloc, World.size_setCell, World.size_drew] | (with_reducible refine le_ext_of ?_) | (with_reducible refine le_ext_add ?_))); done)) | (with_reducible refine Below.drew ?_)))))).mono ?_; rintro e w1 ⟨rfl, y, rfl⟩)
  go_ret
  exact ⟨rfl, ext_of (HBY4.out.trans (Below.mono (show Below Y4.heap.size Y4 _ by (repeat (first | (with_reducible exact Below.refl _ _) | (with_reducible assumption) | ((with_reducible refine below_ext_trans ?_ ?_ _); rotate_left; focus (((try dsimp only); repeat (first | omega | simp only [World.size_alloc, World.size_setCell, World.size_drew] | (with_reducible refine le_ext_of ?_) | (with_reducible refine le_ext_add ?_))); done)) | ((with_reducible refine Below.alloc ?_ ?_ _); rotate_left; focus (((try dsimp only); repeat (first | omega | simp only [World.size_alloc, World.size_setCell, World.size_drew] | (with_reducible refine le_ext_of ?_) | (with_reducible refine le_ext_add ?_))); done)) | ((with_reducible refine Below.setCell ?_ ?_ _); rotate_left; focus (((try dsimp only); repeat (first | omega | simp only [World.size_alloc, World.size_setCell, World.size_drew] | (with_reducible refine le_ext_of ?_) | (with_reducible refine le_ext_add ?_))); done)) | (with_reducible refine Below.drew ?_)))) HBY4.out.size))⟩
end Go.Proofs.YtamknmgplhaciaaDoor

namespace Go.Proofs.YtamknmgplhaciaaDoor
open Go Go.RowKit Go.Shelf
attribute [local go_sem] Oper.semAt_some frozen_alloc_lt
set_option maxRecDepth 100000 in
set_option maxHeartbeats 8000000 in
theorem SeineMore_snd1 (b : Sn) (p : Option Addr) (c : Nat) (s : Nt) (n : Int) (w : World) (hk : SBk w b p) (hc : SBc b p c) (hv : snB b = true) (hn8 : b.ns.length ≠ 8) (hs : ntB s = true) (hq : rightS (withS b s) = true) (hr : rightS b = true) (hn0 : b.ns = []) (hkd : (s.kind != 4) = false) (h l1 u1 l2 u2 r1 r2 r3 r4 : Int) (hb : 0 ≤ h ∧ h ≤ 60) (hE1 : minF Prod.fst 400 (atL b h) = l1) (hE2 : maxF Prod.fst 0 (atL b h) = u1) (hE3 : minF Prod.fst 400 (atL (withS b s) h) = l2) (hE4 : maxF Prod.fst 0 (atL (withS b s) h) = u2) (hE5 : minF Prod.snd 400 (atL b h) = r1) (hE6 : maxF Prod.snd 0 (atL b h) = r2) (hE7 : minF Prod.snd 400 (atL (withS b s) h) = r3) (hE8 : maxF Prod.snd 0 (atL (withS b s) h) = r4) (f1 : l1 ≤ l2 ∧ u2 ≤ u1) (f2 : r1 ≤ r3 ∧ r4 ≤ r2) (hh : n % 61 = h) :
    Calls Tryd.prog 8 #[bV b p c, .agg (ntC s), .int .i64 n] w fun e w' => e = .returned (.bool true) ∧ ∃ x, w' = ext w x := by
  have HK := Lib.hid hk
  have HC := Lib.hid hc
  have hok := Ok9.of hv
  have hlen : b.ns.length ≤ 9 := hok.len
  have hd8 : ((b.ns.length : Int) == 8) = false := by simpa using (show ¬ (b.ns.length : Int) = 8 by omega)
  have HV := Lib.hid hv
  have HE1 := Lib.hid hE1
  have HE2 := Lib.hid hE2
  have HE3 := Lib.hid hE3
  have HE4 := Lib.hid hE4
  have HE5 := Lib.hid hE5
  have HE6 := Lib.hid hE6
  have HE7 := Lib.hid hE7
  have HE8 := Lib.hid hE8
  clear hE1 hE2 hE3 hE4 hE5 hE6 hE7 hE8
  have HS := Lib.hid hs
  have HQ := Lib.hid hq
  have HR := Lib.hid hr
  have HVX := Lib.hid (snB_with hv hs (by have := snB_len hv; omega))
  clear hs hq hr
  have HN0 := Lib.hid hn0
  clear hn0
  clear hk hc hok hn8
  go_enter Tryd.func8, Tryd.ntmps8
  go_upto_region 3 with (go_at_call 34; refine (sound_yes b p c _ (HK.out.bel (by (repeat (first | (with_reducible exact Below.refl _ _) | (with_reducible assumption) | ((with_reducible refine below_ext_trans ?_ ?_ _); rotate_left; focus (((try dsimp only); repeat (first | omega | simp only [World.size_alloc, World.size_setCell, World.size_drew] | (with_reducible refine le_ext_of ?_) | (with_reducible refine le_ext_add ?_))); done)) | ((with_reducible refine Below.alloc ?_ ?_ _); rotate_left; focus (((try dsimp only); repeat (first | omega | simp only [World.size_alloc, World.size_setCell, World.size_drew] | (with_reducible refine le_ext_of ?_) | (with_reducible refine le_ext_add ?_))); done)) | ((with_reducible refine Below.setCell ?_ ?_ _); rotate_left; focus (((try dsimp only); repeat (first | omega | simp only [World.size_alloc, World.size_setCell, World.size_drew] | (with_reducible refine le_ext_of ?_) | (with_reducible refine le_ext_add ?_))); done)) | (with_reducible refine Below.drew ?_))))) hv).mono ?_; rintro e w1 ⟨rfl, y, rfl⟩)
  generalize hX : ext ((w.alloc _).alloc _) _ = W
  have hB : Below w.heap.size w W := by rw [← hX]; (repeat (first | (with_reducible exact Below.refl _ _) | (with_reducible assumption) | ((with_reducible refine below_ext_trans ?_ ?_ _); rotate_left; focus (((try dsimp only); repeat (first | omega | simp only [World.size_alloc, World.size_setCell, World.size_drew] | (with_reducible refine le_ext_of ?_) | (with_reducible refine le_ext_add ?_))); done)) | ((with_reducible refine Below.alloc ?_ ?_ _); rotate_left; focus (((try dsimp only); repeat (first | omega | simp only [World.size_alloc, World.size_setCell, World.size_drew] | (with_reducible refine le_ext_of ?_) | (with_reducible refine le_ext_add ?_))); done)) | ((with_reducible refine Below.setCell ?_ ?_ _); rotate_left; focus (((try dsimp only); repeat (first | omega | simp only [World.size_alloc, World.size_setCell, World.size_drew] | (with_reducible refine le_ext_of ?_) | (with_reducible refine le_ext_add ?_))); done)) | (with_reducible refine Below.drew ?_)))
  have Kb := Lib.hid (show Blk W w.heap.size 26 #[.int .i64 b.lo, .int .i64 b.hi, .slice p b.ns.length c] by rw [← hX]; exact ((Blk.new rfl).alloc _).ext _)
  have Kn := Lib.hid (show Blk W (w.heap.size + 1) 38 #[.int .i64 s.kind, .int .i64 s.hour, .int .i64 s.lo, .int .i64 s.hi] by rw [← hX]; exact (Blk.new (by simp)).ext _)
  have HBW := Lib.hid hB
  have HK1 := Lib.hid (HK.out.bel hB)
  clear hX hB HK hd8 hv
  have qb0 := Kb.out.cell 0
  have qb1 := Kb.out.cell 1
  have qb2 := Kb.out.cell 2
  have lb := Kb.out.lt
  have qn0 := Kn.out.cell 0
  have qn1 := Kn.out.cell 1
  have qn2 := Kn.out.cell 2
  have qn3 := Kn.out.cell 3
  have ln := Kn.out.lt
  simp only [List.size_toArray, List.length_cons, List.length_nil, Nat.reduceAdd, Nat.reduceLT, getElem?_pos, List.getElem_toArray, List.getElem_cons_zero, List.getElem_cons_succ] at qb0 qb1 qb2 qn0 qn1 qn2 qn3
  go_upto_region 4 with (go_at_call 29; refine (Fits_is b p c s true _ HK1.out HC.out HV.out HS.out HQ.out).mono ?_; rintro e wu ⟨rfl, y, rfl⟩)
  generalize hX : ext W y = X0 at *
  have hBX : Below W.heap.size W X0 := by rw [← hX]; (repeat (first | (with_reducible exact Below.refl _ _) | (with_reducible assumption) | ((with_reducible refine below_ext_trans ?_ ?_ _); rotate_left; focus (((try dsimp only); repeat (first | omega | simp only [World.size_alloc, World.size_setCell, World.size_drew] | (with_reducible refine le_ext_of ?_) | (with_reducible refine le_ext_add ?_))); done)) | ((with_reducible refine Below.alloc ?_ ?_ _); rotate_left; focus (((try dsimp only); repeat (first | omega | simp only [World.size_alloc, World.size_setCell, World.size_drew] | (with_reducible refine le_ext_of ?_) | (with_reducible refine le_ext_add ?_))); done)) | ((with_reducible refine Below.setCell ?_ ?_ _); rotate_left; focus (((try dsimp only); repeat (first | omega | simp only [World.size_alloc, World.size_setCell, World.size_drew] | (with_reducible refine le_ext_of ?_) | (with_reducible refine le_ext_add ?_))); done)) | (with_reducible refine Below.drew ?_)))
  have HBX := Lib.hid (HBW.out.trans (hBX.mono HBW.out.size))
  have Nb := Lib.hid (show Blk X0 w.heap.size 26 #[.int .i64 b.lo, .int .i64 b.hi, .slice p b.ns.length c] from Kb.out.bel hBX)
  have Nn := Lib.hid (show Blk X0 (w.heap.size + 1) 38 #[.int .i64 s.kind, .int .i64 s.hour, .int .i64 s.lo, .int .i64 s.hi] from Kn.out.bel hBX)
  have HK2 := Lib.hid (HK1.out.bel hBX); clear HK1; have HK1 := HK2; clear HK2
  clear qb0 qb1 qb2 qn0 qn1 qn2 qn3 lb ln
  clear hX hBX HBW Kb Kn
  have Kb := Nb
  have Kn := Nn
  clear Nb Nn
  have HBX0 := HBX
  clear HBX
  have qb0 := Kb.out.cell 0
  have qb1 := Kb.out.cell 1
  have qb2 := Kb.out.cell 2
  have lb := Kb.out.lt
  have qn0 := Kn.out.cell 0
  have qn1 := Kn.out.cell 1
  have qn2 := Kn.out.cell 2
  have qn3 := Kn.out.cell 3
  have ln := Kn.out.lt
  simp only [List.size_toArray, List.length_cons, List.length_nil, Nat.reduceAdd, Nat.reduceLT, getElem?_pos, List.getElem_toArray, List.getElem_cons_zero, List.getElem_cons_succ] at qb0 qb1 qb2 qn0 qn1 qn2 qn3
  go_upto_region 5 with (go_at_call 14; refine (Right_is b p c true _ HK1.out HV.out HR.out).mono ?_; rintro e wu ⟨rfl, y, rfl⟩)
  generalize hX : ext X0 y = X1 at *
  have hBX : Below X0.heap.size X0 X1 := by rw [← hX]; (repeat (first | (with_reducible exact Below.refl _ _) | (with_reducible assumption) | ((with_reducible refine below_ext_trans ?_ ?_ _); rotate_left; focus (((try dsimp only); repeat (first | omega | simp only [World.size_alloc, World.size_setCell, World.size_drew] | (with_reducible refine le_ext_of ?_) | (with_reducible refine le_ext_add ?_))); done)) | ((with_reducible refine Below.alloc ?_ ?_ _); rotate_left; focus (((try dsimp only); repeat (first | omega | simp only [World.size_alloc, World.size_setCell, World.size_drew] | (with_reducible refine le_ext_of ?_) | (with_reducible refine le_ext_add ?_))); done)) | ((with_reducible refine Below.setCell ?_ ?_ _); rotate_left; focus (((try dsimp only); repeat (first | omega | simp only [World.size_alloc, World.size_setCell, World.size_drew] | (with_reducible refine le_ext_of ?_) | (with_reducible refine le_ext_add ?_))); done)) | (with_reducible refine Below.drew ?_)))
  have HBX := Lib.hid (HBX0.out.trans (hBX.mono HBX0.out.size))
  have Nb := Lib.hid (show Blk X1 w.heap.size 26 #[.int .i64 b.lo, .int .i64 b.hi, .slice p b.ns.length c] from Kb.out.bel hBX)
  have Nn := Lib.hid (show Blk X1 (w.heap.size + 1) 38 #[.int .i64 s.kind, .int .i64 s.hour, .int .i64 s.lo, .int .i64 s.hi] from Kn.out.bel hBX)
  have HK2 := Lib.hid (HK1.out.bel hBX); clear HK1; have HK1 := HK2; clear HK2
  clear qb0 qb1 qb2 qn0 qn1 qn2 qn3 lb ln
  clear hX hBX HBX0 Kb Kn
  have Kb := Nb
  have Kn := Nn
  clear Nb Nn
  have HBX1 := HBX
  clear HBX
  have qb0 := Kb.out.cell 0
  have qb1 := Kb.out.cell 1
  have qb2 := Kb.out.cell 2
  have lb := Kb.out.lt
  have qn0 := Kn.out.cell 0
  have qn1 := Kn.out.cell 1
  have qn2 := Kn.out.cell 2
  have qn3 := Kn.out.cell 3
  have ln := Kn.out.lt
  simp only [List.size_toArray, List.length_cons, List.length_nil, Nat.reduceAdd, Nat.reduceLT, getElem?_pos, List.getElem_toArray, List.getElem_cons_zero, List.getElem_cons_succ] at qb0 qb1 qb2 qn0 qn1 qn2 qn3
  go_upto_region 6 with (go_at_call 42; refine (lwith_any b p c s _ HK1.out HC.out (by omega)).mono ?_; rintro e wu ⟨gm, cm, rfl, hOm, y, rfl⟩)
  generalize hX : (ext X1 y).alloc _ = X2
  generalize hg : (ext X1 y).heap.size = gx at *
  have hBX : Below X1.heap.size X1 X2 := by rw [← hX]; (repeat (first | (with_reducible exact Below.refl _ _) | (with_reducible assumption) | ((with_reducible refine below_ext_trans ?_ ?_ _); rotate_left; focus (((try dsimp only); repeat (first | omega | simp only [World.size_alloc, World.size_setCell, World.size_drew] | (with_reducible refine le_ext_of ?_) | (with_reducible refine le_ext_add ?_))); done)) | ((with_reducible refine Below.alloc ?_ ?_ _); rotate_left; focus (((try dsimp only); repeat (first | omega | simp only [World.size_alloc, World.size_setCell, World.size_drew] | (with_reducible refine le_ext_of ?_) | (with_reducible refine le_ext_add ?_))); done)) | ((with_reducible refine Below.setCell ?_ ?_ _); rotate_left; focus (((try dsimp only); repeat (first | omega | simp only [World.size_alloc, World.size_setCell, World.size_drew] | (with_reducible refine le_ext_of ?_) | (with_reducible refine le_ext_add ?_))); done)) | (with_reducible refine Below.drew ?_)))
  have HBX := Lib.hid (HBX1.out.trans (hBX.mono HBX1.out.size))
  have Nb := Lib.hid (show Blk X2 w.heap.size 26 #[.int .i64 b.lo, .int .i64 b.hi, .slice p b.ns.length c] from Kb.out.bel hBX)
  have Nn := Lib.hid (show Blk X2 (w.heap.size + 1) 38 #[.int .i64 s.kind, .int .i64 s.hour, .int .i64 s.lo, .int .i64 s.hi] from Kn.out.bel hBX)
  have Nx := Lib.hid (show Blk X2 gx 26 #[.int .i64 b.lo, .int .i64 b.hi, .slice (some ⟨gm, 0, none⟩) (withS b s).ns.length cm] by rw [← hX]; exact Blk.new hg.symm)
  have HM := Lib.hid ((sbk_of hOm (HK1.out.bel (below_ext _ _)).mm).bel (show Below (ext X1 y).heap.size (ext X1 y) X2 by rw [← hX]; (repeat (first | (with_reducible exact Below.refl _ _) | (with_reducible assumption) | ((with_reducible refine below_ext_trans ?_ ?_ _); rotate_left; focus (((try dsimp only); repeat (first | omega | simp only [World.size_alloc, World.size_setCell, World.size_drew] | (with_reducible refine le_ext_of ?_) | (with_reducible refine le_ext_add ?_))); done)) | ((with_reducible refine Below.alloc ?_ ?_ _); rotate_left; focus (((try dsimp only); repeat (first | omega | simp only [World.size_alloc, World.size_setCell, World.size_drew] | (with_reducible refine le_ext_of ?_) | (with_reducible refine le_ext_add ?_))); done)) | ((with_reducible refine Below.setCell ?_ ?_ _); rotate_left; focus (((try dsimp only); repeat (first | omega | simp only [World.size_alloc, World.size_setCell, World.size_drew] | (with_reducible refine le_ext_of ?_) | (with_reducible refine le_ext_add ?_))); done)) | (with_reducible refine Below.drew ?_))))); clear hOm; have HK2 := Lib.hid (HK1.out.bel hBX); clear HK1; have HK1 := HK2; clear HK2
  clear qb0 qb1 qb2 qn0 qn1 qn2 qn3 lb ln
  clear hX hBX HBX1 hg Kb Kn
  have Kb := Nb
  have Kn := Nn
  have Kx := Nx
  clear Nb Nn Nx
  have HBX2 := HBX
  clear HBX
  have qb0 := Kb.out.cell 0
  have qb1 := Kb.out.cell 1
  have qb2 := Kb.out.cell 2
  have lb := Kb.out.lt
  have qn0 := Kn.out.cell 0
  have qn1 := Kn.out.cell 1
  have qn2 := Kn.out.cell 2
  have qn3 := Kn.out.cell 3
  have ln := Kn.out.lt
  have qx0 := Kx.out.cell 0
  have qx1 := Kx.out.cell 1
  have qx2 := Kx.out.cell 2
  have lx := Kx.out.lt
  simp only [List.size_toArray, List.length_cons, List.length_nil, Nat.reduceAdd, Nat.reduceLT, getElem?_pos, List.getElem_toArray, List.getElem_cons_zero, List.getElem_cons_succ] at qb0 qb1 qb2 qn0 qn1 qn2 qn3 qx0 qx1 qx2
  go_upto_region 9 with (go_at_call 14; refine (Right_is (withS b s) (some ⟨gm, 0, none⟩) cm true _ HM.out HVX.out HQ.out).mono ?_; rintro e wu ⟨rfl, y, rfl⟩)
  generalize hX : ext X2 y = X3 at *
  have hBX : Below X2.heap.size X2 X3 := by rw [← hX]; (repeat (first | (with_reducible exact Below.refl _ _) | (with_reducible assumption) | ((with_reducible refine below_ext_trans ?_ ?_ _); rotate_left; focus (((try dsimp only); repeat (first | omega | simp only [World.size_alloc, World.size_setCell, World.size_drew] | (with_reducible refine le_ext_of ?_) | (with_reducible refine le_ext_add ?_))); done)) | ((with_reducible refine Below.alloc ?_ ?_ _); rotate_left; focus (((try dsimp only); repeat (first | omega | simp only [World.size_alloc, World.size_setCell, World.size_drew] | (with_reducible refine le_ext_of ?_) | (with_reducible refine le_ext_add ?_))); done)) | ((with_reducible refine Below.setCell ?_ ?_ _); rotate_left; focus (((try dsimp only); repeat (first | omega | simp only [World.size_alloc, World.size_setCell, World.size_drew] | (with_reducible refine le_ext_of ?_) | (with_reducible refine le_ext_add ?_))); done)) | (with_reducible refine Below.drew ?_)))
  have HBX := Lib.hid (HBX2.out.trans (hBX.mono HBX2.out.size))
  have Nb := Lib.hid (show Blk X3 w.heap.size 26 #[.int .i64 b.lo, .int .i64 b.hi, .slice p b.ns.length c] from Kb.out.bel hBX)
  have Nn := Lib.hid (show Blk X3 (w.heap.size + 1) 38 #[.int .i64 s.kind, .int .i64 s.hour, .int .i64 s.lo, .int .i64 s.hi] from Kn.out.bel hBX)
  have Nx := Lib.hid (show Blk X3 gx 26 #[.int .i64 b.lo, .int .i64 b.hi, .slice (some ⟨gm, 0, none⟩) (withS b s).ns.length cm] from Kx.out.bel hBX)
  have HK2 := Lib.hid (HK1.out.bel hBX); clear HK1; have HK1 := HK2; clear HK2; have HM2 := Lib.hid (HM.out.bel hBX); clear HM; have HM := HM2; clear HM2
  clear qb0 qb1 qb2 qn0 qn1 qn2 qn3 qx0 qx1 qx2 lb ln lx
  clear hX hBX HBX2 Kb Kn Kx
  have Kb := Nb
  have Kn := Nn
  have Kx := Nx
  clear Nb Nn Nx
  have HBX3 := HBX
  clear HBX
  have qb0 := Kb.out.cell 0
  have qb1 := Kb.out.cell 1
  have qb2 := Kb.out.cell 2
  have lb := Kb.out.lt
  have qn0 := Kn.out.cell 0
  have qn1 := Kn.out.cell 1
  have qn2 := Kn.out.cell 2
  have qn3 := Kn.out.cell 3
  have ln := Kn.out.lt
  have qx0 := Kx.out.cell 0
  have qx1 := Kx.out.cell 1
  have qx2 := Kx.out.cell 2
  have lx := Kx.out.lt
  simp only [List.size_toArray, List.length_cons, List.length_nil, Nat.reduceAdd, Nat.reduceLT, getElem?_pos, List.getElem_toArray, List.getElem_cons_zero, List.getElem_cons_succ] at qb0 qb1 qb2 qn0 qn1 qn2 qn3 qx0 qx1 qx2
  go_upto_region 11 with fail
  have hg0 : ((b.ns.length : Int) == 0) = true := by rw [HN0.out]; rfl
  clear HN0
  refine wp_region_ext (by kernel_rfl) (by kernel_rfl) ?_
  repeat (go_big_quiet_step (first | fail))
  (refine wpQuiet_nil ?_; rintro _ ⟨x, rfl⟩)
  generalize hX : ext X3 _ = Y4
  have hBX : Below X3.heap.size X3 Y4 := by rw [← hX]; exact below_ext _ _
  have HBY4 := Lib.hid (HBX3.out.trans (hBX.mono HBX3.out.size))
  have HK2 := Lib.hid (HK1.out.bel hBX); clear HK1; have HK1 := HK2; clear HK2; have HM2 := Lib.hid (HM.out.bel hBX); clear HM; have HM := HM2; clear HM2
  have Nb := Lib.hid (show Blk Y4 w.heap.size 26 #[.int .i64 b.lo, .int .i64 b.hi, .slice p b.ns.length c] from Kb.out.bel hBX)
  have Nn := Lib.hid (show Blk Y4 (w.heap.size + 1) 38 #[.int .i64 s.kind, .int .i64 s.hour, .int .i64 s.lo, .int .i64 s.hi] from Kn.out.bel hBX)
  have Nx := Lib.hid (show Blk Y4 gx 26 #[.int .i64 b.lo, .int .i64 b.hi, .slice (some ⟨gm, 0, none⟩) (withS b s).ns.length cm] from Kx.out.bel hBX)
  clear qb0 qb1 qb2 qn0 qn1 qn2 qn3 qx0 qx1 qx2 lb ln lx
  clear hX hBX HBX3 Kb Kn Kx
  have Kb := Nb
  have Kn := Nn
  have Kx := Nx
  clear Nb Nn Nx
  have qb0 := Kb.out.cell 0
  have qb1 := Kb.out.cell 1
  have qb2 := Kb.out.cell 2
  have lb := Kb.out.lt
  have qn0 := Kn.out.cell 0
  have qn1 := Kn.out.cell 1
  have qn2 := Kn.out.cell 2
  have qn3 := Kn.out.cell 3
  have ln := Kn.out.lt
  have qx0 := Kx.out.cell 0
  have qx1 := Kx.out.cell 1
  have qx2 := Kx.out.cell 2
  have lx := Kx.out.lt
  simp only [List.size_toArray, List.length_cons, List.length_nil, Nat.reduceAdd, Nat.reduceLT, getElem?_pos, List.getElem_toArray, List.getElem_cons_zero, List.getElem_cons_succ] at qb0 qb1 qb2 qn0 qn1 qn2 qn3 qx0 qx1 qx2
  clear hg0
  go_upto_region 21 with (go_at_call 37; refine (Wheel_eq n 61 h _ (by decide) hh).mono ?_; rintro e wu ⟨rfl, y, rfl⟩)
  generalize hX : ext Y4 y = X5 at *
  have hBX : Below Y4.heap.size Y4 X5 := by rw [← hX]; (repeat (first | (with_reducible exact Below.refl _ _) | (with_reducible assumption) | ((with_reducible refine below_ext_trans ?_ ?_ _); rotate_left; focus (((try dsimp only); repeat (first | omega | simp only [World.size_alloc, World.size_setCell, World.size_drew] | (with_reducible refine le_ext_of ?_) | (with_reducible refine le_ext_add ?_))); done)) | ((with_reducible refine Below.alloc ?_ ?_ _); rotate_left; focus (((try dsimp only); repeat (first | omega | simp only [World.size_alloc, World.size_setCell, World.size_drew] | (with_reducible refine le_ext_of ?_) | (with_reducible refine le_ext_add ?_))); done)) | ((with_reducible refine Below.setCell ?_ ?_ _); rotate_left; focus (((try dsimp only); repeat (first | omega | simp only [World.size_alloc, World.size_setCell, World.size_drew] | (with_reducible refine le_ext_of ?_) | (with_reducible refine le_ext_add ?_))); done)) | (with_reducible refine Below.drew ?_)))
  have HBX := Lib.hid (HBY4.out.trans (hBX.mono HBY4.out.size))
  have Nb := Lib.hid (show Blk X5 w.heap.size 26 #[.int .i64 b.lo, .int .i64 b.hi, .slice p b.ns.length c] from Kb.out.bel hBX)
  have Nn := Lib.hid (show Blk X5 (w.heap.size + 1) 38 #[.int .i64 s.kind, .int .i64 s.hour, .int .i64 s.lo, .int .i64 s.hi] from Kn.out.bel hBX)
  have Nx := Lib.hid (show Blk X5 gx 26 #[.int .i64 b.lo, .int .i64 b.hi, .slice (some ⟨gm, 0, none⟩) (withS b s).ns.length cm] from Kx.out.bel hBX)
  have HK2 := Lib.hid (HK1.out.bel hBX); clear HK1; have HK1 := HK2; clear HK2; have HM2 := Lib.hid (HM.out.bel hBX); clear HM; have HM := HM2; clear HM2
  clear qb0 qb1 qb2 qn0 qn1 qn2 qn3 qx0 qx1 qx2 lb ln lx
  clear hX hBX HBY4 Kb Kn Kx
  have Kb := Nb
  have Kn := Nn
  have Kx := Nx
  clear Nb Nn Nx
  have HBX5 := HBX
  clear HBX
  have qb0 := Kb.out.cell 0
  have qb1 := Kb.out.cell 1
  have qb2 := Kb.out.cell 2
  have lb := Kb.out.lt
  have qn0 := Kn.out.cell 0
  have qn1 := Kn.out.cell 1
  have qn2 := Kn.out.cell 2
  have qn3 := Kn.out.cell 3
  have ln := Kn.out.lt
  have qx0 := Kx.out.cell 0
  have qx1 := Kx.out.cell 1
  have qx2 := Kx.out.cell 2
  have lx := Kx.out.lt
  simp only [List.size_toArray, List.length_cons, List.length_nil, Nat.reduceAdd, Nat.reduceLT, getElem?_pos, List.getElem_toArray, List.getElem_cons_zero, List.getElem_cons_succ] at qb0 qb1 qb2 qn0 qn1 qn2 qn3 qx0 qx1 qx2
  clear hh
  go_upto_region 22 with (go_at_call 20; refine (Held_is b p c h l1 u1 _ HK1.out HV.out HR.out hb HE1.out HE2.out).mono ?_; rintro e wu ⟨rfl, y, rfl⟩)
  generalize hX : (ext X5 y).alloc _ = X6
  generalize hg : (ext X5 y).heap.size = gs at *
  have hBX : Below X5.heap.size X5 X6 := by rw [← hX]; (repeat (first | (with_reducible exact Below.refl _ _) | (with_reducible assumption) | ((with_reducible refine below_ext_trans ?_ ?_ _); rotate_left; focus (((try dsimp only); repeat (first | omega | simp only [World.size_alloc, World.size_setCell, World.size_drew] | (with_reducible refine le_ext_of ?_) | (with_reducible refine le_ext_add ?_))); done)) | ((with_reducible refine Below.alloc ?_ ?_ _); rotate_left; focus (((try dsimp only); repeat (first | omega | simp only [World.size_alloc, World.size_setCell, World.size_drew] | (with_reducible refine le_ext_of ?_) | (with_reducible refine le_ext_add ?_))); done)) | ((with_reducible refine Below.setCell ?_ ?_ _); rotate_left; focus (((try dsimp only); repeat (first | omega | simp only [World.size_alloc, World.size_setCell, World.size_drew] | (with_reducible refine le_ext_of ?_) | (with_reducible refine le_ext_add ?_))); done)) | (with_reducible refine Below.drew ?_)))
  have HBX := Lib.hid (HBX5.out.trans (hBX.mono HBX5.out.size))
  have Nb := Lib.hid (show Blk X6 w.heap.size 26 #[.int .i64 b.lo, .int .i64 b.hi, .slice p b.ns.length c] from Kb.out.bel hBX)
  have Nn := Lib.hid (show Blk X6 (w.heap.size + 1) 38 #[.int .i64 s.kind, .int .i64 s.hour, .int .i64 s.lo, .int .i64 s.hi] from Kn.out.bel hBX)
  have Nx := Lib.hid (show Blk X6 gx 26 #[.int .i64 b.lo, .int .i64 b.hi, .slice (some ⟨gm, 0, none⟩) (withS b s).ns.length cm] from Kx.out.bel hBX)
  have Ns := Lib.hid (show Blk X6 gs 23 #[.int .i64 l1, .int .i64 u1] by rw [← hX]; exact Blk.new hg.symm)
  have HK2 := Lib.hid (HK1.out.bel hBX); clear HK1; have HK1 := HK2; clear HK2; have HM2 := Lib.hid (HM.out.bel hBX); clear HM; have HM := HM2; clear HM2
  clear qb0 qb1 qb2 qn0 qn1 qn2 qn3 qx0 qx1 qx2 lb ln lx
  clear hX hBX HBX5 hg Kb Kn Kx
  have Kb := Nb
  have Kn := Nn
  have Kx := Nx
  have Ks := Ns
  clear Nb Nn Nx Ns
  have HBX6 := HBX
  clear HBX
  have qb0 := Kb.out.cell 0
  have qb1 := Kb.out.cell 1
  have qb2 := Kb.out.cell 2
  have lb := Kb.out.lt
  have qn0 := Kn.out.cell 0
  have qn1 := Kn.out.cell 1
  have qn2 := Kn.out.cell 2
  have qn3 := Kn.out.cell 3
  have ln := Kn.out.lt
  have qx0 := Kx.out.cell 0
  have qx1 := Kx.out.cell 1
  have qx2 := Kx.out.cell 2
  have lx := Kx.out.lt
  have qs0 := Ks.out.cell 0
  have qs1 := Ks.out.cell 1
  have ls := Ks.out.lt
  simp only [List.size_toArray, List.length_cons, List.length_nil, Nat.reduceAdd, Nat.reduceLT, getElem?_pos, List.getElem_toArray, List.getElem_cons_zero, List.getElem_cons_succ] at qb0 qb1 qb2 qn0 qn1 qn2 qn3 qx0 qx1 qx2 qs0 qs1
  go_upto_region 23 with (go_at_call 20; refine (Held_is (withS b s) (some ⟨gm, 0, none⟩) cm h l2 u2 _ HM.out HVX.out HQ.out hb HE3.out HE4.out).mono ?_; rintro e wu ⟨rfl, y, rfl⟩)
  generalize hX : (ext X6 y).alloc _ = X7
  generalize hg : (ext X6 y).heap.size = gt at *
  have hBX : Below X6.heap.size X6 X7 := by rw [← hX]; (repeat (first | (with_reducible exact Below.refl _ _) | (with_reducible assumption) | ((with_reducible refine below_ext_trans ?_ ?_ _); rotate_left; focus (((try dsimp only); repeat (first | omega | simp only [World.size_alloc, World.size_setCell, World.size_drew] | (with_reducible refine le_ext_of ?_) | (with_reducible refine le_ext_add ?_))); done)) | ((with_reducible refine Below.alloc ?_ ?_ _); rotate_left; focus (((try dsimp only); repeat (first | omega | simp only [World.size_alloc, World.size_setCell, World.size_drew] | (with_reducible refine le_ext_of ?_) | (with_reducible refine le_ext_add ?_))); done)) | ((with_reducible refine Below.setCell ?_ ?_ _); rotate_left; focus (((try dsimp only); repeat (first | omega | simp only [World.size_alloc, World.size_setCell, World.size_drew] | (with_reducible refine le_ext_of ?_) | (with_reducible refine le_ext_add ?_))); done)) | (with_reducible refine Below.drew ?_)))
  have HBX := Lib.hid (HBX6.out.trans (hBX.mono HBX6.out.size))
  have Nb := Lib.hid (show Blk X7 w.heap.size 26 #[.int .i64 b.lo, .int .i64 b.hi, .slice p b.ns.length c] from Kb.out.bel hBX)
  have Nn := Lib.hid (show Blk X7 (w.heap.size + 1) 38 #[.int .i64 s.kind, .int .i64 s.hour, .int .i64 s.lo, .int .i64 s.hi] from Kn.out.bel hBX)
  have Nx := Lib.hid (show Blk X7 gx 26 #[.int .i64 b.lo, .int .i64 b.hi, .slice (some ⟨gm, 0, none⟩) (withS b s).ns.length cm] from Kx.out.bel hBX)
  have Ns := Lib.hid (show Blk X7 gs 23 #[.int .i64 l1, .int .i64 u1] from Ks.out.bel hBX)
  have Nt := Lib.hid (show Blk X7 gt 23 #[.int .i64 l2, .int .i64 u2] by rw [← hX]; exact Blk.new hg.symm)
  have HK2 := Lib.hid (HK1.out.bel hBX); clear HK1; have HK1 := HK2; clear HK2; have HM2 := Lib.hid (HM.out.bel hBX); clear HM; have HM := HM2; clear HM2
  clear qb0 qb1 qb2 qn0 qn1 qn2 qn3 qx0 qx1 qx2 qs0 qs1 lb ln lx ls
  clear hX hBX HBX6 hg Kb Kn Kx Ks
  have Kb := Nb
  have Kn := Nn
  have Kx := Nx
  have Ks := Ns
  have Kt := Nt
  clear Nb Nn Nx Ns Nt
  have HBX7 := HBX
  clear HBX
  have qb0 := Kb.out.cell 0
  have qb1 := Kb.out.cell 1
  have qb2 := Kb.out.cell 2
  have lb := Kb.out.lt
  have qn0 := Kn.out.cell 0
  have qn1 := Kn.out.cell 1
  have qn2 := Kn.out.cell 2
  have qn3 := Kn.out.cell 3
  have ln := Kn.out.lt
  have qx0 := Kx.out.cell 0
  have qx1 := Kx.out.cell 1
  have qx2 := Kx.out.cell 2
  have lx := Kx.out.lt
  have qs0 := Ks.out.cell 0
  have qs1 := Ks.out.cell 1
  have ls := Ks.out.lt
  have qt0 := Kt.out.cell 0
  have qt1 := Kt.out.cell 1
  have lt := Kt.out.lt
  simp only [List.size_toArray, List.length_cons, List.length_nil, Nat.reduceAdd, Nat.reduceLT, getElem?_pos, List.getElem_toArray, List.getElem_cons_zero, List.getElem_cons_succ] at qb0 qb1 qb2 qn0 qn1 qn2 qn3 qx0 qx1 qx2 qs0 qs1 qt0 qt1
  go_upto_region 24 with (go_at_call 22; refine (Rate_is b p c h r1 r2 _ HK1.out HV.out HR.out hb HE5.out HE6.out).mono ?_; rintro e wu ⟨rfl, y, rfl⟩)
  generalize hX : (ext X7 y).alloc _ = X8
  generalize hg : (ext X7 y).heap.size = gu at *
  have hBX : Below X7.heap.size X7 X8 := by rw [← hX]; (repeat (first | (with_reducible exact Below.refl _ _) | (with_reducible assumption) | ((with_reducible refine below_ext_trans ?_ ?_ _); rotate_left; focus (((try dsimp only); repeat (first | omega | simp only [World.size_alloc, World.size_setCell, World.size_drew] | (with_reducible refine le_ext_of ?_) | (with_reducible refine le_ext_add ?_))); done)) | ((with_reducible refine Below.alloc ?_ ?_ _); rotate_left; focus (((try dsimp only); repeat (first | omega | simp only [World.size_alloc, World.size_setCell, World.size_drew] | (with_reducible refine le_ext_of ?_) | (with_reducible refine le_ext_add ?_))); done)) | ((with_reducible refine Below.setCell ?_ ?_ _); rotate_left; focus (((try dsimp only); repeat (first | omega | simp only [World.size_alloc, World.size_setCell, World.size_drew] | (with_reducible refine le_ext_of ?_) | (with_reducible refine le_ext_add ?_))); done)) | (with_reducible refine Below.drew ?_)))
  have HBX := Lib.hid (HBX7.out.trans (hBX.mono HBX7.out.size))
  have Nb := Lib.hid (show Blk X8 w.heap.size 26 #[.int .i64 b.lo, .int .i64 b.hi, .slice p b.ns.length c] from Kb.out.bel hBX)
  have Nn := Lib.hid (show Blk X8 (w.heap.size + 1) 38 #[.int .i64 s.kind, .int .i64 s.hour, .int .i64 s.lo, .int .i64 s.hi] from Kn.out.bel hBX)
  have Nx := Lib.hid (show Blk X8 gx 26 #[.int .i64 b.lo, .int .i64 b.hi, .slice (some ⟨gm, 0, none⟩) (withS b s).ns.length cm] from Kx.out.bel hBX)
  have Ns := Lib.hid (show Blk X8 gs 23 #[.int .i64 l1, .int .i64 u1] from Ks.out.bel hBX)
  have Nt := Lib.hid (show Blk X8 gt 23 #[.int .i64 l2, .int .i64 u2] from Kt.out.bel hBX)
  have Nu := Lib.hid (show Blk X8 gu 23 #[.int .i64 r1, .int .i64 r2] by rw [← hX]; exact Blk.new hg.symm)
  have HK2 := Lib.hid (HK1.out.bel hBX); clear HK1; have HK1 := HK2; clear HK2; have HM2 := Lib.hid (HM.out.bel hBX); clear HM; have HM := HM2; clear HM2
  clear qb0 qb1 qb2 qn0 qn1 qn2 qn3 qx0 qx1 qx2 qs0 qs1 qt0 qt1 lb ln lx ls lt
  clear hX hBX HBX7 hg Kb Kn Kx Ks Kt
  have Kb := Nb
  have Kn := Nn
  have Kx := Nx
  have Ks := Ns
  have Kt := Nt
  have Ku := Nu
  clear Nb Nn Nx Ns Nt Nu
  have HBX8 := HBX
  clear HBX
  have qb0 := Kb.out.cell 0
  have qb1 := Kb.out.cell 1
  have qb2 := Kb.out.cell 2
  have lb := Kb.out.lt
  have qn0 := Kn.out.cell 0
  have qn1 := Kn.out.cell 1
  have qn2 := Kn.out.cell 2
  have qn3 := Kn.out.cell 3
  have ln := Kn.out.lt
  have qx0 := Kx.out.cell 0
  have qx1 := Kx.out.cell 1
  have qx2 := Kx.out.cell 2
  have lx := Kx.out.lt
  have qs0 := Ks.out.cell 0
  have qs1 := Ks.out.cell 1
  have ls := Ks.out.lt
  have qt0 := Kt.out.cell 0
  have qt1 := Kt.out.cell 1
  have lt := Kt.out.lt
  have qu0 := Ku.out.cell 0
  have qu1 := Ku.out.cell 1
  have lu := Ku.out.lt
  simp only [List.size_toArray, List.length_cons, List.length_nil, Nat.reduceAdd, Nat.reduceLT, getElem?_pos, List.getElem_toArray, List.getElem_cons_zero, List.getElem_cons_succ] at qb0 qb1 qb2 qn0 qn1 qn2 qn3 qx0 qx1 qx2 qs0 qs1 qt0 qt1 qu0 qu1
  go_upto_region 25 with (go_at_call 22; refine (Rate_is (withS b s) (some ⟨gm, 0, none⟩) cm h r3 r4 _ HM.out HVX.out HQ.out hb HE7.out HE8.out).mono ?_; rintro e wu ⟨rfl, y, rfl⟩)
  generalize hX : (ext X8 y).alloc _ = X9
  generalize hg : (ext X8 y).heap.size = gv at *
  have hBX : Below X8.heap.size X8 X9 := by rw [← hX]; (repeat (first | (with_reducible exact Below.refl _ _) | (with_reducible assumption) | ((with_reducible refine below_ext_trans ?_ ?_ _); rotate_left; focus (((try dsimp only); repeat (first | omega | simp only [World.size_alloc, World.size_setCell, World.size_drew] | (with_reducible refine le_ext_of ?_) | (with_reducible refine le_ext_add ?_))); done)) | ((with_reducible refine Below.alloc ?_ ?_ _); rotate_left; focus (((try dsimp only); repeat (first | omega | simp only [World.size_alloc, World.size_setCell, World.size_drew] | (with_reducible refine le_ext_of ?_) | (with_reducible refine le_ext_add ?_))); done)) | ((with_reducible refine Below.setCell ?_ ?_ _); rotate_left; focus (((try dsimp only); repeat (first | omega | simp only [World.size_alloc, World.size_setCell, World.size_drew] | (with_reducible refine le_ext_of ?_) | (with_reducible refine le_ext_add ?_))); done)) | (with_reducible refine Below.drew ?_)))
  have HBX := Lib.hid (HBX8.out.trans (hBX.mono HBX8.out.size))
  have Nb := Lib.hid (show Blk X9 w.heap.size 26 #[.int .i64 b.lo, .int .i64 b.hi, .slice p b.ns.length c] from Kb.out.bel hBX)
  have Nn := Lib.hid (show Blk X9 (w.heap.size + 1) 38 #[.int .i64 s.kind, .int .i64 s.hour, .int .i64 s.lo, .int .i64 s.hi] from Kn.out.bel hBX)
  have Nx := Lib.hid (show Blk X9 gx 26 #[.int .i64 b.lo, .int .i64 b.hi, .slice (some ⟨gm, 0, none⟩) (withS b s).ns.length cm] from Kx.out.bel hBX)
  have Ns := Lib.hid (show Blk X9 gs 23 #[.int .i64 l1, .int .i64 u1] from Ks.out.bel hBX)
  have Nt := Lib.hid (show Blk X9 gt 23 #[.int .i64 l2, .int .i64 u2] from Kt.out.bel hBX)
  have Nu := Lib.hid (show Blk X9 gu 23 #[.int .i64 r1, .int .i64 r2] from Ku.out.bel hBX)
  have Nv := Lib.hid (show Blk X9 gv 23 #[.int .i64 r3, .int .i64 r4] by rw [← hX]; exact Blk.new hg.symm)
  have HK2 := Lib.hid (HK1.out.bel hBX); clear HK1; have HK1 := HK2; clear HK2; have HM2 := Lib.hid (HM.out.bel hBX); clear HM; have HM := HM2; clear HM2
  clear qb0 qb1 qb2 qn0 qn1 qn2 qn3 qx0 qx1 qx2 qs0 qs1 qt0 qt1 qu0 qu1 lb ln lx ls lt lu
  clear hX hBX HBX8 hg Kb Kn Kx Ks Kt Ku
  have Kb := Nb
  have Kn := Nn
  have Kx := Nx
  have Ks := Ns
  have Kt := Nt
  have Ku := Nu
  have Kv := Nv
  clear Nb Nn Nx Ns Nt Nu Nv
  have HBX9 := HBX
  clear HBX
  have qb0 := Kb.out.cell 0
  have qb1 := Kb.out.cell 1
  have qb2 := Kb.out.cell 2
  have lb := Kb.out.lt
  have qn0 := Kn.out.cell 0
  have qn1 := Kn.out.cell 1
  have qn2 := Kn.out.cell 2
  have qn3 := Kn.out.cell 3
  have ln := Kn.out.lt
  have qx0 := Kx.out.cell 0
  have qx1 := Kx.out.cell 1
  have qx2 := Kx.out.cell 2
  have lx := Kx.out.lt
  have qs0 := Ks.out.cell 0
  have qs1 := Ks.out.cell 1
  have ls := Ks.out.lt
  have qt0 := Kt.out.cell 0
  have qt1 := Kt.out.cell 1
  have lt := Kt.out.lt
  have qu0 := Ku.out.cell 0
  have qu1 := Ku.out.cell 1
  have lu := Ku.out.lt
  have qv0 := Kv.out.cell 0
  have qv1 := Kv.out.cell 1
  have lv := Kv.out.lt
  simp only [List.size_toArray, List.length_cons, List.length_nil, Nat.reduceAdd, Nat.reduceLT, getElem?_pos, List.getElem_toArray, List.getElem_cons_zero, List.getElem_cons_succ] at qb0 qb1 qb2 qn0 qn1 qn2 qn3 qx0 qx1 qx2 qs0 qs1 qt0 qt1 qu0 qu1 qv0 qv1
  obtain ⟨f1, f3⟩ := f1
  obtain ⟨f2, f4⟩ := f2
  go_wp2_with (first | (go_at_call 43; refine (Spans_yes _ _ _ _ _ (by assumption) (by assumption)).mono ?_; rintro e w1 ⟨rfl, y, rfl⟩) | (go_at_call 24; refine (sounded_any _ (HK1.out.mm.below (by (repeat (first | (with_reducible exact Below.refl _ _) | (with_reducible assumption) | ((with_reducible refine below_ext_trans ?_ ?_ _); rotate_left; focus (((try dsimp only); repeat (first | omega | simp only [World.size_alloc, World.size_setCell, World.size_drew] | (with_reducible refine le_ext_of ?_) | (with_reducible refine le_ext_add ?_))); done)) | ((with_reducible refine Below.alloc ?_ ?_ _); rotate_left; focus (((try dsimp only); repeat (first | omega | simp only [World.size_alloc, World.size_setCell, World.size_drew] | (with_reducible refine le_ext_of ?_) | (with_reducible refine le_ext_add ?_))); done)) | ((with_reducible refine Below.setCell ?_ ?_ _); rotate_left; focus (((try dsimp only); repeat (first | omega | simp only [World.size_alloc, World.size_setCell, World.size_drew] | (with_reducible refine le_ext_of ?_) | (with_reducible refine le_ext_add ?_))); done)) | (with_reducible refine Below.drew ?_)))))).mono ?_; rintro e w1 ⟨rfl, y, rfl⟩))
  go_ret
  exact ⟨rfl, ext_of (HBX9.out.trans (Below.mono (show Below X9.heap.size X9 _ by (repeat (first | (with_reducible exact Below.refl _ _) | (with_reducible assumption) | ((with_reducible refine below_ext_trans ?_ ?_ _); rotate_left; focus (((try dsimp only); repeat (first | omega | simp only [World.size_alloc, World.size_setCell, World.size_drew] | (with_reducible refine le_ext_of ?_) | (with_reducible refine le_ext_add ?_))); done)) | ((with_reducible refine Below.alloc ?_ ?_ _); rotate_left; focus (((try dsimp only); repeat (first | omega | simp only [World.size_alloc, World.size_setCell, World.size_drew] | (with_reducible refine le_ext_of ?_) | (with_reducible refine le_ext_add ?_))); done)) | ((with_reducible refine Below.setCell ?_ ?_ _); rotate_left; focus (((try dsimp only); repeat (first | omega | simp only [World.size_alloc, World.size_setCell, World.size_drew] | (with_reducible refine le_ext_of ?_) | (with_reducible refine le_ext_add ?_))); done)) | (with_reducible refine Below.drew ?_)))) HBX9.out.size))⟩
end Go.Proofs.YtamknmgplhaciaaDoor

namespace Go.Proofs.YtamknmgplhaciaaDoor
open Go Go.RowKit Go.Shelf
attribute [local go_sem] Oper.semAt_some frozen_alloc_lt
set_option maxRecDepth 100000 in
set_option maxHeartbeats 8000000 in
theorem SeineMore_snd0 (b : Sn) (p : Option Addr) (c : Nat) (s : Nt) (n : Int) (w : World) (hk : SBk w b p) (hc : SBc b p c) (hv : snB b = true) (hn8 : b.ns.length ≠ 8) (hs : ntB s = true) (hq : rightS (withS b s) = true) (hr : rightS b = true) (k : Nat) (t : Nt) (la : Int) (hnk : b.ns.length = k + 1) (ht : b.ns[k]? = some t) (hla : t.hour = la) (hkd : (s.kind != 4) = false) (h l1 u1 l2 u2 r1 r2 r3 r4 : Int) (hb : 0 ≤ h ∧ h ≤ 60) (hE1 : minF Prod.fst 400 (atL b h) = l1) (hE2 : maxF Prod.fst 0 (atL b h) = u1) (hE3 : minF Prod.fst 400 (atL (withS b s) h) = l2) (hE4 : maxF Prod.fst 0 (atL (withS b s) h) = u2) (hE5 : minF Prod.snd 400 (atL b h) = r1) (hE6 : maxF Prod.snd 0 (atL b h) = r2) (hE7 : minF Prod.snd 400 (atL (withS b s) h) = r3) (hE8 : maxF Prod.snd 0 (atL (withS b s) h) = r4) (f1 : l1 ≤ l2 ∧ u2 ≤ u1) (f2 : r1 ≤ r3 ∧ r4 ≤ r2) (hh : n % 61 = h) :
    Calls Tryd.prog 8 #[bV b p c, .agg (ntC s), .int .i64 n] w fun e w' => e = .returned (.bool true) ∧ ∃ x, w' = ext w x := by
  have HK := Lib.hid hk
  have HC := Lib.hid hc
  have hok := Ok9.of hv
  have hlen : b.ns.length ≤ 9 := hok.len
  have hd8 : ((b.ns.length : Int) == 8) = false := by simpa using (show ¬ (b.ns.length : Int) = 8 by omega)
  have HV := Lib.hid hv
  have HE1 := Lib.hid hE1
  have HE2 := Lib.hid hE2
  have HE3 := Lib.hid hE3
  have HE4 := Lib.hid hE4
  have HE5 := Lib.hid hE5
  have HE6 := Lib.hid hE6
  have HE7 := Lib.hid hE7
  have HE8 := Lib.hid hE8
  clear hE1 hE2 hE3 hE4 hE5 hE6 hE7 hE8
  have HS := Lib.hid hs
  have HQ := Lib.hid hq
  have HR := Lib.hid hr
  have HVX := Lib.hid (snB_with hv hs (by have := snB_len hv; omega))
  clear hs hq hr
  have HNK := Lib.hid hnk
  have HT := Lib.hid ht
  have HLA := Lib.hid hla
  clear hnk ht hla
  clear hk hc hok hn8
  go_enter Tryd.func8, Tryd.ntmps8
  go_upto_region 3 with (go_at_call 34; refine (sound_yes b p c _ (HK.out.bel (by (repeat (first | (with_reducible exact Below.refl _ _) | (with_reducible assumption) | ((with_reducible refine below_ext_trans ?_ ?_ _); rotate_left; focus (((try dsimp only); repeat (first | omega | simp only [World.size_alloc, World.size_setCell, World.size_drew] | (with_reducible refine le_ext_of ?_) | (with_reducible refine le_ext_add ?_))); done)) | ((with_reducible refine Below.alloc ?_ ?_ _); rotate_left; focus (((try dsimp only); repeat (first | omega | simp only [World.size_alloc, World.size_setCell, World.size_drew] | (with_reducible refine le_ext_of ?_) | (with_reducible refine le_ext_add ?_))); done)) | ((with_reducible refine Below.setCell ?_ ?_ _); rotate_left; focus (((try dsimp only); repeat (first | omega | simp only [World.size_alloc, World.size_setCell, World.size_drew] | (with_reducible refine le_ext_of ?_) | (with_reducible refine le_ext_add ?_))); done)) | (with_reducible refine Below.drew ?_))))) hv).mono ?_; rintro e w1 ⟨rfl, y, rfl⟩)
  generalize hX : ext ((w.alloc _).alloc _) _ = W
  have hB : Below w.heap.size w W := by rw [← hX]; (repeat (first | (with_reducible exact Below.refl _ _) | (with_reducible assumption) | ((with_reducible refine below_ext_trans ?_ ?_ _); rotate_left; focus (((try dsimp only); repeat (first | omega | simp only [World.size_alloc, World.size_setCell, World.size_drew] | (with_reducible refine le_ext_of ?_) | (with_reducible refine le_ext_add ?_))); done)) | ((with_reducible refine Below.alloc ?_ ?_ _); rotate_left; focus (((try dsimp only); repeat (first | omega | simp only [World.size_alloc, World.size_setCell, World.size_drew] | (with_reducible refine le_ext_of ?_) | (with_reducible refine le_ext_add ?_))); done)) | ((with_reducible refine Below.setCell ?_ ?_ _); rotate_left; focus (((try dsimp only); repeat (first | omega | simp only [World.size_alloc, World.size_setCell, World.size_drew] | (with_reducible refine le_ext_of ?_) | (with_reducible refine le_ext_add ?_))); done)) | (with_reducible refine Below.drew ?_)))
  have Kb := Lib.hid (show Blk W w.heap.size 26 #[.int .i64 b.lo, .int .i64 b.hi, .slice p b.ns.length c] by rw [← hX]; exact ((Blk.new rfl).alloc _).ext _)
  have Kn := Lib.hid (show Blk W (w.heap.size + 1) 38 #[.int .i64 s.kind, .int .i64 s.hour, .int .i64 s.lo, .int .i64 s.hi] by rw [← hX]; exact (Blk.new (by simp)).ext _)
  have HBW := Lib.hid hB
  have HK1 := Lib.hid (HK.out.bel hB)
  clear hX hB HK hd8 hv
  have qb0 := Kb.out.cell 0
  have qb1 := Kb.out.cell 1
  have qb2 := Kb.out.cell 2
  have lb := Kb.out.lt
  have qn0 := Kn.out.cell 0
  have qn1 := Kn.out.cell 1
  have qn2 := Kn.out.cell 2
  have qn3 := Kn.out.cell 3
  have ln := Kn.out.lt
  simp only [List.size_toArray, List.length_cons, List.length_nil, Nat.reduceAdd, Nat.reduceLT, getElem?_pos, List.getElem_toArray, List.getElem_cons_zero, List.getElem_cons_succ] at qb0 qb1 qb2 qn0 qn1 qn2 qn3
  go_upto_region 4 with (go_at_call 29; refine (Fits_is b p c s true _ HK1.out HC.out HV.out HS.out HQ.out).mono ?_; rintro e wu ⟨rfl, y, rfl⟩)
  generalize hX : ext W y = X0 at *
  have hBX : Below W.heap.size W X0 := by rw [← hX]; (repeat (first | (with_reducible exact Below.refl _ _) | (with_reducible assumption) | ((with_reducible refine below_ext_trans ?_ ?_ _); rotate_left; focus (((try dsimp only); repeat (first | omega | simp only [World.size_alloc, World.size_setCell, World.size_drew] | (with_reducible refine le_ext_of ?_) | (with_reducible refine le_ext_add ?_))); done)) | ((with_reducible refine Below.alloc ?_ ?_ _); rotate_left; focus (((try dsimp only); repeat (first | omega | simp only [World.size_alloc, World.size_setCell, World.size_drew] | (with_reducible refine le_ext_of ?_) | (with_reducible refine le_ext_add ?_))); done)) | ((with_reducible refine Below.setCell ?_ ?_ _); rotate_left; focus (((try dsimp only); repeat (first | omega | simp only [World.size_alloc, World.size_setCell, World.size_drew] | (with_reducible refine le_ext_of ?_) | (with_reducible refine le_ext_add ?_))); done)) | (with_reducible refine Below.drew ?_)))
  have HBX := Lib.hid (HBW.out.trans (hBX.mono HBW.out.size))
  have Nb := Lib.hid (show Blk X0 w.heap.size 26 #[.int .i64 b.lo, .int .i64 b.hi, .slice p b.ns.length c] from Kb.out.bel hBX)
  have Nn := Lib.hid (show Blk X0 (w.heap.size + 1) 38 #[.int .i64 s.kind, .int .i64 s.hour, .int .i64 s.lo, .int .i64 s.hi] from Kn.out.bel hBX)
  have HK2 := Lib.hid (HK1.out.bel hBX); clear HK1; have HK1 := HK2; clear HK2
  clear qb0 qb1 qb2 qn0 qn1 qn2 qn3 lb ln
  clear hX hBX HBW Kb Kn
  have Kb := Nb
  have Kn := Nn
  clear Nb Nn
  have HBX0 := HBX
  clear HBX
  have qb0 := Kb.out.cell 0
  have qb1 := Kb.out.cell 1
  have qb2 := Kb.out.cell 2
  have lb := Kb.out.lt
  have qn0 := Kn.out.cell 0
  have qn1 := Kn.out.cell 1
  have qn2 := Kn.out.cell 2
  have qn3 := Kn.out.cell 3
  have ln := Kn.out.lt
  simp only [List.size_toArray, List.length_cons, List.length_nil, Nat.reduceAdd, Nat.reduceLT, getElem?_pos, List.getElem_toArray, List.getElem_cons_zero, List.getElem_cons_succ] at qb0 qb1 qb2 qn0 qn1 qn2 qn3
  go_upto_region 5 with (go_at_call 14; refine (Right_is b p c true _ HK1.out HV.out HR.out).mono ?_; rintro e wu ⟨rfl, y, rfl⟩)
  generalize hX : ext X0 y = X1 at *
  have hBX : Below X0.heap.size X0 X1 := by rw [← hX]; (repeat (first | (with_reducible exact Below.refl _ _) | (with_reducible assumption) | ((with_reducible refine below_ext_trans ?_ ?_ _); rotate_left; focus (((try dsimp only); repeat (first | omega | simp only [World.size_alloc, World.size_setCell, World.size_drew] | (with_reducible refine le_ext_of ?_) | (with_reducible refine le_ext_add ?_))); done)) | ((with_reducible refine Below.alloc ?_ ?_ _); rotate_left; focus (((try dsimp only); repeat (first | omega | simp only [World.size_alloc, World.size_setCell, World.size_drew] | (with_reducible refine le_ext_of ?_) | (with_reducible refine le_ext_add ?_))); done)) | ((with_reducible refine Below.setCell ?_ ?_ _); rotate_left; focus (((try dsimp only); repeat (first | omega | simp only [World.size_alloc, World.size_setCell, World.size_drew] | (with_reducible refine le_ext_of ?_) | (with_reducible refine le_ext_add ?_))); done)) | (with_reducible refine Below.drew ?_)))
  have HBX := Lib.hid (HBX0.out.trans (hBX.mono HBX0.out.size))
  have Nb := Lib.hid (show Blk X1 w.heap.size 26 #[.int .i64 b.lo, .int .i64 b.hi, .slice p b.ns.length c] from Kb.out.bel hBX)
  have Nn := Lib.hid (show Blk X1 (w.heap.size + 1) 38 #[.int .i64 s.kind, .int .i64 s.hour, .int .i64 s.lo, .int .i64 s.hi] from Kn.out.bel hBX)
  have HK2 := Lib.hid (HK1.out.bel hBX); clear HK1; have HK1 := HK2; clear HK2
  clear qb0 qb1 qb2 qn0 qn1 qn2 qn3 lb ln
  clear hX hBX HBX0 Kb Kn
  have Kb := Nb
  have Kn := Nn
  clear Nb Nn
  have HBX1 := HBX
  clear HBX
  have qb0 := Kb.out.cell 0
  have qb1 := Kb.out.cell 1
  have qb2 := Kb.out.cell 2
  have lb := Kb.out.lt
  have qn0 := Kn.out.cell 0
  have qn1 := Kn.out.cell 1
  have qn2 := Kn.out.cell 2
  have qn3 := Kn.out.cell 3
  have ln := Kn.out.lt
  simp only [List.size_toArray, List.length_cons, List.length_nil, Nat.reduceAdd, Nat.reduceLT, getElem?_pos, List.getElem_toArray, List.getElem_cons_zero, List.getElem_cons_succ] at qb0 qb1 qb2 qn0 qn1 qn2 qn3
  go_upto_region 6 with (go_at_call 42; refine (lwith_any b p c s _ HK1.out HC.out (by omega)).mono ?_; rintro e wu ⟨gm, cm, rfl, hOm, y, rfl⟩)
  generalize hX : (ext X1 y).alloc _ = X2
  generalize hg : (ext X1 y).heap.size = gx at *
  have hBX : Below X1.heap.size X1 X2 := by rw [← hX]; (repeat (first | (with_reducible exact Below.refl _ _) | (with_reducible assumption) | ((with_reducible refine below_ext_trans ?_ ?_ _); rotate_left; focus (((try dsimp only); repeat (first | omega | simp only [World.size_alloc, World.size_setCell, World.size_drew] | (with_reducible refine le_ext_of ?_) | (with_reducible refine le_ext_add ?_))); done)) | ((with_reducible refine Below.alloc ?_ ?_ _); rotate_left; focus (((try dsimp only); repeat (first | omega | simp only [World.size_alloc, World.size_setCell, World.size_drew] | (with_reducible refine le_ext_of ?_) | (with_reducible refine le_ext_add ?_))); done)) | ((with_reducible refine Below.setCell ?_ ?_ _); rotate_left; focus (((try dsimp only); repeat (first | omega | simp only [World.size_alloc, World.size_setCell, World.size_drew] | (with_reducible refine le_ext_of ?_) | (with_reducible refine le_ext_add ?_))); done)) | (with_reducible refine Below.drew ?_)))
  have HBX := Lib.hid (HBX1.out.trans (hBX.mono HBX1.out.size))
  have Nb := Lib.hid (show Blk X2 w.heap.size 26 #[.int .i64 b.lo, .int .i64 b.hi, .slice p b.ns.length c] from Kb.out.bel hBX)
  have Nn := Lib.hid (show Blk X2 (w.heap.size + 1) 38 #[.int .i64 s.kind, .int .i64 s.hour, .int .i64 s.lo, .int .i64 s.hi] from Kn.out.bel hBX)
  have Nx := Lib.hid (show Blk X2 gx 26 #[.int .i64 b.lo, .int .i64 b.hi, .slice (some ⟨gm, 0, none⟩) (withS b s).ns.length cm] by rw [← hX]; exact Blk.new hg.symm)
  have HM := Lib.hid ((sbk_of hOm (HK1.out.bel (below_ext _ _)).mm).bel (show Below (ext X1 y).heap.size (ext X1 y) X2 by rw [← hX]; (repeat (first | (with_reducible exact Below.refl _ _) | (with_reducible assumption) | ((with_reducible refine below_ext_trans ?_ ?_ _); rotate_left; focus (((try dsimp only); repeat (first | omega | simp only [World.size_alloc, World.size_setCell, World.size_drew] | (with_reducible refine le_ext_of ?_) | (with_reducible refine le_ext_add ?_))); done)) | ((with_reducible refine Below.alloc ?_ ?_ _); rotate_left; focus (((try dsimp only); repeat (first | omega | simp only [World.size_alloc, World.size_setCell, World.size_drew] | (with_reducible refine le_ext_of ?_) | (with_reducible refine le_ext_add ?_))); done)) | ((with_reducible refine Below.setCell ?_ ?_ _); rotate_left; focus (((try dsimp only); repeat (first | omega | simp only [World.size_alloc, World.size_setCell, World.size_drew] | (with_reducible refine le_ext_of ?_) | (with_reducible refine le_ext_add ?_))); done)) | (with_reducible refine Below.drew ?_))))); clear hOm; have HK2 := Lib.hid (HK1.out.bel hBX); clear HK1; have HK1 := HK2; clear HK2
  clear qb0 qb1 qb2 qn0 qn1 qn2 qn3 lb ln
  clear hX hBX HBX1 hg Kb Kn
  have Kb := Nb
  have Kn := Nn
  have Kx := Nx
  clear Nb Nn Nx
  have HBX2 := HBX
  clear HBX
  have qb0 := Kb.out.cell 0
  have qb1 := Kb.out.cell 1
  have qb2 := Kb.out.cell 2
  have lb := Kb.out.lt
  have qn0 := Kn.out.cell 0
  have qn1 := Kn.out.cell 1
  have qn2 := Kn.out.cell 2
  have qn3 := Kn.out.cell 3
  have ln := Kn.out.lt
  have qx0 := Kx.out.cell 0
  have qx1 := Kx.out.cell 1
  have qx2 := Kx.out.cell 2
  have lx := Kx.out.lt
  simp only [List.size_toArray, List.length_cons, List.length_nil, Nat.reduceAdd, Nat.reduceLT, getElem?_pos, List.getElem_toArray, List.getElem_cons_zero, List.getElem_cons_succ] at qb0 qb1 qb2 qn0 qn1 qn2 qn3 qx0 qx1 qx2
  go_upto_region 9 with (go_at_call 14; refine (Right_is (withS b s) (some ⟨gm, 0, none⟩) cm true _ HM.out HVX.out HQ.out).mono ?_; rintro e wu ⟨rfl, y, rfl⟩)
  generalize hX : ext X2 y = X3 at *
  have hBX : Below X2.heap.size X2 X3 := by rw [← hX]; (repeat (first | (with_reducible exact Below.refl _ _) | (with_reducible assumption) | ((with_reducible refine below_ext_trans ?_ ?_ _); rotate_left; focus (((try dsimp only); repeat (first | omega | simp only [World.size_alloc, World.size_setCell, World.size_drew] | (with_reducible refine le_ext_of ?_) | (with_reducible refine le_ext_add ?_))); done)) | ((with_reducible refine Below.alloc ?_ ?_ _); rotate_left; focus (((try dsimp only); repeat (first | omega | simp only [World.size_alloc, World.size_setCell, World.size_drew] | (with_reducible refine le_ext_of ?_) | (with_reducible refine le_ext_add ?_))); done)) | ((with_reducible refine Below.setCell ?_ ?_ _); rotate_left; focus (((try dsimp only); repeat (first | omega | simp only [World.size_alloc, World.size_setCell, World.size_drew] | (with_reducible refine le_ext_of ?_) | (with_reducible refine le_ext_add ?_))); done)) | (with_reducible refine Below.drew ?_)))
  have HBX := Lib.hid (HBX2.out.trans (hBX.mono HBX2.out.size))
  have Nb := Lib.hid (show Blk X3 w.heap.size 26 #[.int .i64 b.lo, .int .i64 b.hi, .slice p b.ns.length c] from Kb.out.bel hBX)
  have Nn := Lib.hid (show Blk X3 (w.heap.size + 1) 38 #[.int .i64 s.kind, .int .i64 s.hour, .int .i64 s.lo, .int .i64 s.hi] from Kn.out.bel hBX)
  have Nx := Lib.hid (show Blk X3 gx 26 #[.int .i64 b.lo, .int .i64 b.hi, .slice (some ⟨gm, 0, none⟩) (withS b s).ns.length cm] from Kx.out.bel hBX)
  have HK2 := Lib.hid (HK1.out.bel hBX); clear HK1; have HK1 := HK2; clear HK2; have HM2 := Lib.hid (HM.out.bel hBX); clear HM; have HM := HM2; clear HM2
  clear qb0 qb1 qb2 qn0 qn1 qn2 qn3 qx0 qx1 qx2 lb ln lx
  clear hX hBX HBX2 Kb Kn Kx
  have Kb := Nb
  have Kn := Nn
  have Kx := Nx
  clear Nb Nn Nx
  have HBX3 := HBX
  clear HBX
  have qb0 := Kb.out.cell 0
  have qb1 := Kb.out.cell 1
  have qb2 := Kb.out.cell 2
  have lb := Kb.out.lt
  have qn0 := Kn.out.cell 0
  have qn1 := Kn.out.cell 1
  have qn2 := Kn.out.cell 2
  have qn3 := Kn.out.cell 3
  have ln := Kn.out.lt
  have qx0 := Kx.out.cell 0
  have qx1 := Kx.out.cell 1
  have qx2 := Kx.out.cell 2
  have lx := Kx.out.lt
  simp only [List.size_toArray, List.length_cons, List.length_nil, Nat.reduceAdd, Nat.reduceLT, getElem?_pos, List.getElem_toArray, List.getElem_cons_zero, List.getElem_cons_succ] at qb0 qb1 qb2 qn0 qn1 qn2 qn3 qx0 qx1 qx2
  go_upto_region 11 with fail
  have hnk := HNK.out
  have ht := HT.out
  have hg0 : ((b.ns.length : Int) == 0) = false := by simpa using (show ¬ (b.ns.length : Int) = 0 by omega)
  have e1 : IntKind.i64.wrap ((b.ns.length : Int) - 1) = (k : Int) := by rw [IntWalk.i64_in _ (by omega)]; omega
  have hk0 : (0 : Int) ≤ (k : Int) := by omega
  have hkl : (k : Int) < (b.ns.length : Int) := by omega
  have HKC := Lib.hid HK1.out.nt
  obtain ⟨bb, o, hp, hbb, c0, c1, c2, c3⟩ := HKC.out k t ht
  rw [HLA.out] at c1
  clear HKC ht hnk HT HNK HLA
  rw [hp] at qb2
  clear hp
  refine wp_region_ext (by kernel_rfl) (by kernel_rfl) ?_
  repeat (go_big_quiet_step (first | fail))
  (refine wpQuiet_nil ?_; rintro _ ⟨x, rfl⟩)
  generalize hX : ext X3 _ = Y4
  have hBX : Below X3.heap.size X3 Y4 := by rw [← hX]; exact below_ext _ _
  have HBY4 := Lib.hid (HBX3.out.trans (hBX.mono HBX3.out.size))
  have HK2 := Lib.hid (HK1.out.bel hBX); clear HK1; have HK1 := HK2; clear HK2; have HM2 := Lib.hid (HM.out.bel hBX); clear HM; have HM := HM2; clear HM2
  have Nb := Lib.hid (show Blk Y4 w.heap.size 26 #[.int .i64 b.lo, .int .i64 b.hi, .slice p b.ns.length c] from Kb.out.bel hBX)
  have Nn := Lib.hid (show Blk Y4 (w.heap.size + 1) 38 #[.int .i64 s.kind, .int .i64 s.hour, .int .i64 s.lo, .int .i64 s.hi] from Kn.out.bel hBX)
  have Nx := Lib.hid (show Blk Y4 gx 26 #[.int .i64 b.lo, .int .i64 b.hi, .slice (some ⟨gm, 0, none⟩) (withS b s).ns.length cm] from Kx.out.bel hBX)
  clear qb0 qb1 qb2 qn0 qn1 qn2 qn3 qx0 qx1 qx2 lb ln lx
  clear hX hBX HBX3 Kb Kn Kx
  have Kb := Nb
  have Kn := Nn
  have Kx := Nx
  clear Nb Nn Nx
  have qb0 := Kb.out.cell 0
  have qb1 := Kb.out.cell 1
  have qb2 := Kb.out.cell 2
  have lb := Kb.out.lt
  have qn0 := Kn.out.cell 0
  have qn1 := Kn.out.cell 1
  have qn2 := Kn.out.cell 2
  have qn3 := Kn.out.cell 3
  have ln := Kn.out.lt
  have qx0 := Kx.out.cell 0
  have qx1 := Kx.out.cell 1
  have qx2 := Kx.out.cell 2
  have lx := Kx.out.lt
  simp only [List.size_toArray, List.length_cons, List.length_nil, Nat.reduceAdd, Nat.reduceLT, getElem?_pos, List.getElem_toArray, List.getElem_cons_zero, List.getElem_cons_succ] at qb0 qb1 qb2 qn0 qn1 qn2 qn3 qx0 qx1 qx2
  clear c0 c1 c2 c3 hkl hk0 e1 hg0
  go_upto_region 21 with (go_at_call 37; refine (Wheel_eq n 61 h _ (by decide) hh).mono ?_; rintro e wu ⟨rfl, y, rfl⟩)
  generalize hX : ext Y4 y = X5 at *
  have hBX : Below Y4.heap.size Y4 X5 := by rw [← hX]; (repeat (first | (with_reducible exact Below.refl _ _) | (with_reducible assumption) | ((with_reducible refine below_ext_trans ?_ ?_ _); rotate_left; focus (((try dsimp only); repeat (first | omega | simp only [World.size_alloc, World.size_setCell, World.size_drew] | (with_reducible refine le_ext_of ?_) | (with_reducible refine le_ext_add ?_))); done)) | ((with_reducible refine Below.alloc ?_ ?_ _); rotate_left; focus (((try dsimp only); repeat (first | omega | simp only [World.size_alloc, World.size_setCell, World.size_drew] | (with_reducible refine le_ext_of ?_) | (with_reducible refine le_ext_add ?_))); done)) | ((with_reducible refine Below.setCell ?_ ?_ _); rotate_left; focus (((try dsimp only); repeat (first | omega | simp only [World.size_alloc, World.size_setCell, World.size_drew] | (with_reducible refine le_ext_of ?_) | (with_reducible refine le_ext_add ?_))); done)) | (with_reducible refine Below.drew ?_)))
  have HBX := Lib.hid (HBY4.out.trans (hBX.mono HBY4.out.size))
  have Nb := Lib.hid (show Blk X5 w.heap.size 26 #[.int .i64 b.lo, .int .i64 b.hi, .slice p b.ns.length c] from Kb.out.bel hBX)
  have Nn := Lib.hid (show Blk X5 (w.heap.size + 1) 38 #[.int .i64 s.kind, .int .i64 s.hour, .int .i64 s.lo, .int .i64 s.hi] from Kn.out.bel hBX)
  have Nx := Lib.hid (show Blk X5 gx 26 #[.int .i64 b.lo, .int .i64 b.hi, .slice (some ⟨gm, 0, none⟩) (withS b s).ns.length cm] from Kx.out.bel hBX)
  have HK2 := Lib.hid (HK1.out.bel hBX); clear HK1; have HK1 := HK2; clear HK2; have HM2 := Lib.hid (HM.out.bel hBX); clear HM; have HM := HM2; clear HM2
  clear qb0 qb1 qb2 qn0 qn1 qn2 qn3 qx0 qx1 qx2 lb ln lx
  clear hX hBX HBY4 Kb Kn Kx
  have Kb := Nb
  have Kn := Nn
  have Kx := Nx
  clear Nb Nn Nx
  have HBX5 := HBX
  clear HBX
  have qb0 := Kb.out.cell 0
  have qb1 := Kb.out.cell 1
  have qb2 := Kb.out.cell 2
  have lb := Kb.out.lt
  have qn0 := Kn.out.cell 0
  have qn1 := Kn.out.cell 1
  have qn2 := Kn.out.cell 2
  have qn3 := Kn.out.cell 3
  have ln := Kn.out.lt
  have qx0 := Kx.out.cell 0
  have qx1 := Kx.out.cell 1
  have qx2 := Kx.out.cell 2
  have lx := Kx.out.lt
  simp only [List.size_toArray, List.length_cons, List.length_nil, Nat.reduceAdd, Nat.reduceLT, getElem?_pos, List.getElem_toArray, List.getElem_cons_zero, List.getElem_cons_succ] at qb0 qb1 qb2 qn0 qn1 qn2 qn3 qx0 qx1 qx2
  clear hh
  go_upto_region 22 with (go_at_call 20; refine (Held_is b p c h l1 u1 _ HK1.out HV.out HR.out hb HE1.out HE2.out).mono ?_; rintro e wu ⟨rfl, y, rfl⟩)
  generalize hX : (ext X5 y).alloc _ = X6
  generalize hg : (ext X5 y).heap.size = gs at *
  have hBX : Below X5.heap.size X5 X6 := by rw [← hX]; (repeat (first | (with_reducible exact Below.refl _ _) | (with_reducible assumption) | ((with_reducible refine below_ext_trans ?_ ?_ _); rotate_left; focus (((try dsimp only); repeat (first | omega | simp only [World.size_alloc, World.size_setCell, World.size_drew] | (with_reducible refine le_ext_of ?_) | (with_reducible refine le_ext_add ?_))); done)) | ((with_reducible refine Below.alloc ?_ ?_ _); rotate_left; focus (((try dsimp only); repeat (first | omega | simp only [World.size_alloc, World.size_setCell, World.size_drew] | (with_reducible refine le_ext_of ?_) | (with_reducible refine le_ext_add ?_))); done)) | ((with_reducible refine Below.setCell ?_ ?_ _); rotate_left; focus (((try dsimp only); repeat (first | omega | simp only [World.size_alloc, World.size_setCell, World.size_drew] | (with_reducible refine le_ext_of ?_) | (with_reducible refine le_ext_add ?_))); done)) | (with_reducible refine Below.drew ?_)))
  have HBX := Lib.hid (HBX5.out.trans (hBX.mono HBX5.out.size))
  have Nb := Lib.hid (show Blk X6 w.heap.size 26 #[.int .i64 b.lo, .int .i64 b.hi, .slice p b.ns.length c] from Kb.out.bel hBX)
  have Nn := Lib.hid (show Blk X6 (w.heap.size + 1) 38 #[.int .i64 s.kind, .int .i64 s.hour, .int .i64 s.lo, .int .i64 s.hi] from Kn.out.bel hBX)
  have Nx := Lib.hid (show Blk X6 gx 26 #[.int .i64 b.lo, .int .i64 b.hi, .slice (some ⟨gm, 0, none⟩) (withS b s).ns.length cm] from Kx.out.bel hBX)
  have Ns := Lib.hid (show Blk X6 gs 23 #[.int .i64 l1, .int .i64 u1] by rw [← hX]; exact Blk.new hg.symm)
  have HK2 := Lib.hid (HK1.out.bel hBX); clear HK1; have HK1 := HK2; clear HK2; have HM2 := Lib.hid (HM.out.bel hBX); clear HM; have HM := HM2; clear HM2
  clear qb0 qb1 qb2 qn0 qn1 qn2 qn3 qx0 qx1 qx2 lb ln lx
  clear hX hBX HBX5 hg Kb Kn Kx
  have Kb := Nb
  have Kn := Nn
  have Kx := Nx
  have Ks := Ns
  clear Nb Nn Nx Ns
  have HBX6 := HBX
  clear HBX
  have qb0 := Kb.out.cell 0
  have qb1 := Kb.out.cell 1
  have qb2 := Kb.out.cell 2
  have lb := Kb.out.lt
  have qn0 := Kn.out.cell 0
  have qn1 := Kn.out.cell 1
  have qn2 := Kn.out.cell 2
  have qn3 := Kn.out.cell 3
  have ln := Kn.out.lt
  have qx0 := Kx.out.cell 0
  have qx1 := Kx.out.cell 1
  have qx2 := Kx.out.cell 2
  have lx := Kx.out.lt
  have qs0 := Ks.out.cell 0
  have qs1 := Ks.out.cell 1
  have ls := Ks.out.lt
  simp only [List.size_toArray, List.length_cons, List.length_nil, Nat.reduceAdd, Nat.reduceLT, getElem?_pos, List.getElem_toArray, List.getElem_cons_zero, List.getElem_cons_succ] at qb0 qb1 qb2 qn0 qn1 qn2 qn3 qx0 qx1 qx2 qs0 qs1
  go_upto_region 23 with (go_at_call 20; refine (Held_is (withS b s) (some ⟨gm, 0, none⟩) cm h l2 u2 _ HM.out HVX.out HQ.out hb HE3.out HE4.out).mono ?_; rintro e wu ⟨rfl, y, rfl⟩)
  generalize hX : (ext X6 y).alloc _ = X7
  generalize hg : (ext X6 y).heap.size = gt at *
  have hBX : Below X6.heap.size X6 X7 := by rw [← hX]; (repeat (first | (with_reducible exact Below.refl _ _) | (with_reducible assumption) | ((with_reducible refine below_ext_trans ?_ ?_ _); rotate_left; focus (((try dsimp only); repeat (first | omega | simp only [World.size_alloc, World.size_setCell, World.size_drew] | (with_reducible refine le_ext_of ?_) | (with_reducible refine le_ext_add ?_))); done)) | ((with_reducible refine Below.alloc ?_ ?_ _); rotate_left; focus (((try dsimp only); repeat (first | omega | simp only [World.size_alloc, World.size_setCell, World.size_drew] | (with_reducible refine le_ext_of ?_) | (with_reducible refine le_ext_add ?_))); done)) | ((with_reducible refine Below.setCell ?_ ?_ _); rotate_left; focus (((try dsimp only); repeat (first | omega | simp only [World.size_alloc, World.size_setCell, World.size_drew] | (with_reducible refine le_ext_of ?_) | (with_reducible refine le_ext_add ?_))); done)) | (with_reducible refine Below.drew ?_)))
  have HBX := Lib.hid (HBX6.out.trans (hBX.mono HBX6.out.size))
  have Nb := Lib.hid (show Blk X7 w.heap.size 26 #[.int .i64 b.lo, .int .i64 b.hi, .slice p b.ns.length c] from Kb.out.bel hBX)
  have Nn := Lib.hid (show Blk X7 (w.heap.size + 1) 38 #[.int .i64 s.kind, .int .i64 s.hour, .int .i64 s.lo, .int .i64 s.hi] from Kn.out.bel hBX)
  have Nx := Lib.hid (show Blk X7 gx 26 #[.int .i64 b.lo, .int .i64 b.hi, .slice (some ⟨gm, 0, none⟩) (withS b s).ns.length cm] from Kx.out.bel hBX)
  have Ns := Lib.hid (show Blk X7 gs 23 #[.int .i64 l1, .int .i64 u1] from Ks.out.bel hBX)
  have Nt := Lib.hid (show Blk X7 gt 23 #[.int .i64 l2, .int .i64 u2] by rw [← hX]; exact Blk.new hg.symm)
  have HK2 := Lib.hid (HK1.out.bel hBX); clear HK1; have HK1 := HK2; clear HK2; have HM2 := Lib.hid (HM.out.bel hBX); clear HM; have HM := HM2; clear HM2
  clear qb0 qb1 qb2 qn0 qn1 qn2 qn3 qx0 qx1 qx2 qs0 qs1 lb ln lx ls
  clear hX hBX HBX6 hg Kb Kn Kx Ks
  have Kb := Nb
  have Kn := Nn
  have Kx := Nx
  have Ks := Ns
  have Kt := Nt
  clear Nb Nn Nx Ns Nt
  have HBX7 := HBX
  clear HBX
  have qb0 := Kb.out.cell 0
  have qb1 := Kb.out.cell 1
  have qb2 := Kb.out.cell 2
  have lb := Kb.out.lt
  have qn0 := Kn.out.cell 0
  have qn1 := Kn.out.cell 1
  have qn2 := Kn.out.cell 2
  have qn3 := Kn.out.cell 3
  have ln := Kn.out.lt
  have qx0 := Kx.out.cell 0
  have qx1 := Kx.out.cell 1
  have qx2 := Kx.out.cell 2
  have lx := Kx.out.lt
  have qs0 := Ks.out.cell 0
  have qs1 := Ks.out.cell 1
  have ls := Ks.out.lt
  have qt0 := Kt.out.cell 0
  have qt1 := Kt.out.cell 1
  have lt := Kt.out.lt
  simp only [List.size_toArray, List.length_cons, List.length_nil, Nat.reduceAdd, Nat.reduceLT, getElem?_pos, List.getElem_toArray, List.getElem_cons_zero, List.getElem_cons_succ] at qb0 qb1 qb2 qn0 qn1 qn2 qn3 qx0 qx1 qx2 qs0 qs1 qt0 qt1
  go_upto_region 24 with (go_at_call 22; refine (Rate_is b p c h r1 r2 _ HK1.out HV.out HR.out hb HE5.out HE6.out).mono ?_; rintro e wu ⟨rfl, y, rfl⟩)
  generalize hX : (ext X7 y).alloc _ = X8
  generalize hg : (ext X7 y).heap.size = gu at *
  have hBX : Below X7.heap.size X7 X8 := by rw [← hX]; (repeat (first | (with_reducible exact Below.refl _ _) | (with_reducible assumption) | ((with_reducible refine below_ext_trans ?_ ?_ _); rotate_left; focus (((try dsimp only); repeat (first | omega | simp only [World.size_alloc, World.size_setCell, World.size_drew] | (with_reducible refine le_ext_of ?_) | (with_reducible refine le_ext_add ?_))); done)) | ((with_reducible refine Below.alloc ?_ ?_ _); rotate_left; focus (((try dsimp only); repeat (first | omega | simp only [World.size_alloc, World.size_setCell, World.size_drew] | (with_reducible refine le_ext_of ?_) | (with_reducible refine le_ext_add ?_))); done)) | ((with_reducible refine Below.setCell ?_ ?_ _); rotate_left; focus (((try dsimp only); repeat (first | omega | simp only [World.size_alloc, World.size_setCell, World.size_drew] | (with_reducible refine le_ext_of ?_) | (with_reducible refine le_ext_add ?_))); done)) | (with_reducible refine Below.drew ?_)))
  have HBX := Lib.hid (HBX7.out.trans (hBX.mono HBX7.out.size))
  have Nb := Lib.hid (show Blk X8 w.heap.size 26 #[.int .i64 b.lo, .int .i64 b.hi, .slice p b.ns.length c] from Kb.out.bel hBX)
  have Nn := Lib.hid (show Blk X8 (w.heap.size + 1) 38 #[.int .i64 s.kind, .int .i64 s.hour, .int .i64 s.lo, .int .i64 s.hi] from Kn.out.bel hBX)
  have Nx := Lib.hid (show Blk X8 gx 26 #[.int .i64 b.lo, .int .i64 b.hi, .slice (some ⟨gm, 0, none⟩) (withS b s).ns.length cm] from Kx.out.bel hBX)
  have Ns := Lib.hid (show Blk X8 gs 23 #[.int .i64 l1, .int .i64 u1] from Ks.out.bel hBX)
  have Nt := Lib.hid (show Blk X8 gt 23 #[.int .i64 l2, .int .i64 u2] from Kt.out.bel hBX)
  have Nu := Lib.hid (show Blk X8 gu 23 #[.int .i64 r1, .int .i64 r2] by rw [← hX]; exact Blk.new hg.symm)
  have HK2 := Lib.hid (HK1.out.bel hBX); clear HK1; have HK1 := HK2; clear HK2; have HM2 := Lib.hid (HM.out.bel hBX); clear HM; have HM := HM2; clear HM2
  clear qb0 qb1 qb2 qn0 qn1 qn2 qn3 qx0 qx1 qx2 qs0 qs1 qt0 qt1 lb ln lx ls lt
  clear hX hBX HBX7 hg Kb Kn Kx Ks Kt
  have Kb := Nb
  have Kn := Nn
  have Kx := Nx
  have Ks := Ns
  have Kt := Nt
  have Ku := Nu
  clear Nb Nn Nx Ns Nt Nu
  have HBX8 := HBX
  clear HBX
  have qb0 := Kb.out.cell 0
  have qb1 := Kb.out.cell 1
  have qb2 := Kb.out.cell 2
  have lb := Kb.out.lt
  have qn0 := Kn.out.cell 0
  have qn1 := Kn.out.cell 1
  have qn2 := Kn.out.cell 2
  have qn3 := Kn.out.cell 3
  have ln := Kn.out.lt
  have qx0 := Kx.out.cell 0
  have qx1 := Kx.out.cell 1
  have qx2 := Kx.out.cell 2
  have lx := Kx.out.lt
  have qs0 := Ks.out.cell 0
  have qs1 := Ks.out.cell 1
  have ls := Ks.out.lt
  have qt0 := Kt.out.cell 0
  have qt1 := Kt.out.cell 1
  have lt := Kt.out.lt
  have qu0 := Ku.out.cell 0
  have qu1 := Ku.out.cell 1
  have lu := Ku.out.lt
  simp only [List.size_toArray, List.length_cons, List.length_nil, Nat.reduceAdd, Nat.reduceLT, getElem?_pos, List.getElem_toArray, List.getElem_cons_zero, List.getElem_cons_succ] at qb0 qb1 qb2 qn0 qn1 qn2 qn3 qx0 qx1 qx2 qs0 qs1 qt0 qt1 qu0 qu1
  go_upto_region 25 with (go_at_call 22; refine (Rate_is (withS b s) (some ⟨gm, 0, none⟩) cm h r3 r4 _ HM.out HVX.out HQ.out hb HE7.out HE8.out).mono ?_; rintro e wu ⟨rfl, y, rfl⟩)
  generalize hX : (ext X8 y).alloc _ = X9
  generalize hg : (ext X8 y).heap.size = gv at *
  have hBX : Below X8.heap.size X8 X9 := by rw [← hX]; (repeat (first | (with_reducible exact Below.refl _ _) | (with_reducible assumption) | ((with_reducible refine below_ext_trans ?_ ?_ _); rotate_left; focus (((try dsimp only); repeat (first | omega | simp only [World.size_alloc, World.size_setCell, World.size_drew] | (with_reducible refine le_ext_of ?_) | (with_reducible refine le_ext_add ?_))); done)) | ((with_reducible refine Below.alloc ?_ ?_ _); rotate_left; focus (((try dsimp only); repeat (first | omega | simp only [World.size_alloc, World.size_setCell, World.size_drew] | (with_reducible refine le_ext_of ?_) | (with_reducible refine le_ext_add ?_))); done)) | ((with_reducible refine Below.setCell ?_ ?_ _); rotate_left; focus (((try dsimp only); repeat (first | omega | simp only [World.size_alloc, World.size_setCell, World.size_drew] | (with_reducible refine le_ext_of ?_) | (with_reducible refine le_ext_add ?_))); done)) | (with_reducible refine Below.drew ?_)))
  have HBX := Lib.hid (HBX8.out.trans (hBX.mono HBX8.out.size))
  have Nb := Lib.hid (show Blk X9 w.heap.size 26 #[.int .i64 b.lo, .int .i64 b.hi, .slice p b.ns.length c] from Kb.out.bel hBX)
  have Nn := Lib.hid (show Blk X9 (w.heap.size + 1) 38 #[.int .i64 s.kind, .int .i64 s.hour, .int .i64 s.lo, .int .i64 s.hi] from Kn.out.bel hBX)
  have Nx := Lib.hid (show Blk X9 gx 26 #[.int .i64 b.lo, .int .i64 b.hi, .slice (some ⟨gm, 0, none⟩) (withS b s).ns.length cm] from Kx.out.bel hBX)
  have Ns := Lib.hid (show Blk X9 gs 23 #[.int .i64 l1, .int .i64 u1] from Ks.out.bel hBX)
  have Nt := Lib.hid (show Blk X9 gt 23 #[.int .i64 l2, .int .i64 u2] from Kt.out.bel hBX)
  have Nu := Lib.hid (show Blk X9 gu 23 #[.int .i64 r1, .int .i64 r2] from Ku.out.bel hBX)
  have Nv := Lib.hid (show Blk X9 gv 23 #[.int .i64 r3, .int .i64 r4] by rw [← hX]; exact Blk.new hg.symm)
  have HK2 := Lib.hid (HK1.out.bel hBX); clear HK1; have HK1 := HK2; clear HK2; have HM2 := Lib.hid (HM.out.bel hBX); clear HM; have HM := HM2; clear HM2
  clear qb0 qb1 qb2 qn0 qn1 qn2 qn3 qx0 qx1 qx2 qs0 qs1 qt0 qt1 qu0 qu1 lb ln lx ls lt lu
  clear hX hBX HBX8 hg Kb Kn Kx Ks Kt Ku
  have Kb := Nb
  have Kn := Nn
  have Kx := Nx
  have Ks := Ns
  have Kt := Nt
  have Ku := Nu
  have Kv := Nv
  clear Nb Nn Nx Ns Nt Nu Nv
  have HBX9 := HBX
  clear HBX
  have qb0 := Kb.out.cell 0
  have qb1 := Kb.out.cell 1
  have qb2 := Kb.out.cell 2
  have lb := Kb.out.lt
  have qn0 := Kn.out.cell 0
  have qn1 := Kn.out.cell 1
  have qn2 := Kn.out.cell 2
  have qn3 := Kn.out.cell 3
  have ln := Kn.out.lt
  have qx0 := Kx.out.cell 0
  have qx1 := Kx.out.cell 1
  have qx2 := Kx.out.cell 2
  have lx := Kx.out.lt
  have qs0 := Ks.out.cell 0
  have qs1 := Ks.out.cell 1
  have ls := Ks.out.lt
  have qt0 := Kt.out.cell 0
  have qt1 := Kt.out.cell 1
  have lt := Kt.out.lt
  have qu0 := Ku.out.cell 0
  have qu1 := Ku.out.cell 1
  have lu := Ku.out.lt
  have qv0 := Kv.out.cell 0
  have qv1 := Kv.out.cell 1
  have lv := Kv.out.lt
  simp only [List.size_toArray, List.length_cons, List.length_nil, Nat.reduceAdd, Nat.reduceLT, getElem?_pos, List.getElem_toArray, List.getElem_cons_zero, List.getElem_cons_succ] at qb0 qb1 qb2 qn0 qn1 qn2 qn3 qx0 qx1 qx2 qs0 qs1 qt0 qt1 qu0 qu1 qv0 qv1
  obtain ⟨f1, f3⟩ := f1
  obtain ⟨f2, f4⟩ := f2
  go_wp2_with (first | (go_at_call 43; refine (Spans_yes _ _ _ _ _ (by assumption) (by assumption)).mono ?_; rintro e w1 ⟨rfl, y, rfl⟩) | (go_at_call 24; refine (sounded_any _ (HK1.out.mm.below (by (repeat (first | (with_reducible exact Below.refl _ _) | (with_reducible assumption) | ((with_reducible refine below_ext_trans ?_ ?_ _); rotate_left; focus (((try dsimp only); repeat (first | omega | simp only [World.size_alloc, World.size_setCell, World.size_drew] | (with_reducible refine le_ext_of ?_) | (with_reducible refine le_ext_add ?_))); done)) | ((with_reducible refine Below.alloc ?_ ?_ _); rotate_left; focus (((try dsimp only); repeat (first | omega | simp only [World.size_alloc, World.size_setCell, World.size_drew] | (with_reducible refine le_ext_of ?_) | (with_reducible refine le_ext_add ?_))); done)) | ((with_reducible refine Below.setCell ?_ ?_ _); rotate_left; focus (((try dsimp only); repeat (first | omega | simp only [World.size_alloc, World.size_setCell, World.size_drew] | (with_reducible refine le_ext_of ?_) | (with_reducible refine le_ext_add ?_))); done)) | (with_reducible refine Below.drew ?_)))))).mono ?_; rintro e w1 ⟨rfl, y, rfl⟩))
  go_ret
  exact ⟨rfl, ext_of (HBX9.out.trans (Below.mono (show Below X9.heap.size X9 _ by (repeat (first | (with_reducible exact Below.refl _ _) | (with_reducible assumption) | ((with_reducible refine below_ext_trans ?_ ?_ _); rotate_left; focus (((try dsimp only); repeat (first | omega | simp only [World.size_alloc, World.size_setCell, World.size_drew] | (with_reducible refine le_ext_of ?_) | (with_reducible refine le_ext_add ?_))); done)) | ((with_reducible refine Below.alloc ?_ ?_ _); rotate_left; focus (((try dsimp only); repeat (first | omega | simp only [World.size_alloc, World.size_setCell, World.size_drew] | (with_reducible refine le_ext_of ?_) | (with_reducible refine le_ext_add ?_))); done)) | ((with_reducible refine Below.setCell ?_ ?_ _); rotate_left; focus (((try dsimp only); repeat (first | omega | simp only [World.size_alloc, World.size_setCell, World.size_drew] | (with_reducible refine le_ext_of ?_) | (with_reducible refine le_ext_add ?_))); done)) | (with_reducible refine Below.drew ?_)))) HBX9.out.size))⟩
end Go.Proofs.YtamknmgplhaciaaDoor

