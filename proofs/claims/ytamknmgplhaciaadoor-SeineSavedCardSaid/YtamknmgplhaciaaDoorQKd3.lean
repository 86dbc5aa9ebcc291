/- The walk of SeineSaved, a case. Written by gen_saved.py. -/
/- The walk of SeineSaved, a case. Written by gen_saved.py. -/
import Derived.Test.YtamknmgplhaciaaDoorQKd
import Derived.Test.YtamknmgplhaciaaDoorQPg
import Derived.Test.YtamknmgplhaciaaDoorQPe
import Derived.RegionTactic
set_option linter.unusedSimpArgs false
set_option linter.unusedVariables false
namespace Go.Proofs.YtamknmgplhaciaaDoor
open Go Go.RowKit Go.Shelf
attribute [local go_sem] Oper.semAt_some frozen_alloc_lt
set_option maxRecDepth 100000 in
set_option maxHeartbeats 8000000 in
theorem SeineSaved_yes0 (b : Sn) (p : Option Addr) (c : Nat) (la : Int) (w : World) (hk : SBk w b p) (hc : SBc b p c) (hv : snB b = true) (hn8 : b.ns.length ≠ 8) (hla : lastN b.ns = la) (hn0 : b.ns = []) (l1 u1 l2 u2 r1 r2 s1 s2 : Int) (hr : rightS b = true) (hrm : rightS (withS b (mendN la)) = true) (hvm : snB (withS b (mendN la)) = true) (hs1 : minF (savS (60 - lastN b.ns)) 400 (atL b (lastN b.ns)) = s1) (hs2 : maxF (savS (60 - lastN b.ns)) 0 (atL b (lastN b.ns)) = s2) (hl1 : minF Prod.fst 400 (atL b la) = l1) (hu1 : maxF Prod.fst 0 (atL b la) = u1) (hl2 : minF Prod.fst 400 (atL b 60) = l2) (hu2 : maxF Prod.fst 0 (atL b 60) = u2) (hr1 : minF Prod.snd 400 (atL b la) = r1) (hr2 : maxF Prod.snd 0 (atL b la) = r2) (hm1 : minF Prod.fst 400 (atL (withS b (mendN la)) 60) = l1) (hm2 : maxF Prod.fst 0 (atL (withS b (mendN la)) 60) = u1) (f0 : 0 ≤ s1) (f1 : l1 - u2 ≤ s1) (f2 : s2 ≤ u1) (f3 : s1 ≤ s2) (f4 : u1 - u2 ≤ s2) (f5 : 0 < r2 ∨ s1 = 0 ∧ s2 = 0) (f6 : la < 60 ∨ s1 = 0 ∧ s2 = 0) (z1 : 0 ≤ l1 ∧ l1 ≤ 400) (z2 : 0 ≤ u1 ∧ u1 ≤ 400) (z3 : 0 ≤ u2 ∧ u2 ≤ 400) :
    Calls Tryd.prog 10 #[bV b p c] w fun e w' => e = .returned (.bool true) ∧ ∃ x, w' = ext w x := by
  have HK := Lib.hid hk
  have HC := Lib.hid hc
  have hok := Ok9.of hv
  have b0 : 0 ≤ la ∧ la ≤ 60 := by rw [← hla]; exact lastN_bd hok
  have hlen : b.ns.length ≤ 9 := hok.len
  have hd8 : ((b.ns.length : Int) == 8) = false := by simpa using (show ¬ (b.ns.length : Int) = 8 by omega)
  have HV := Lib.hid hv
  have HLA := Lib.hid hla
  clear hk hc hok hn8
  have HN0 := Lib.hid hn0
  clear hn0
  clear hla
  go_enter Tryd.func10, Tryd.ntmps10
  go_upto_region 4 with (go_at_call 34; refine (sound_yes b p c _ (HK.out.bel (by (repeat (first | (with_reducible exact Below.refl _ _) | (with_reducible assumption) | ((with_reducible refine below_ext_trans ?_ ?_ _); rotate_left; focus (((try dsimp only); repeat (first | omega | simp only [World.size_alloc, World.size_setCell, World.size_drew] | (with_reducible refine le_ext_of ?_) | (with_reducible refine le_ext_add ?_))); done)) | ((with_reducible refine Below.alloc ?_ ?_ _); rotate_left; focus (((try dsimp only); repeat (first | omega | simp only [World.size_alloc, World.size_setCell, World.size_drew] | (with_reducible refine le_ext_of ?_) | (with_reducible refine le_ext_add ?_))); done)) | ((with_reducible refine Below.setCell ?_ ?_ _); rotate_left; focus (((try dsimp only); repeat (first | omega | simp only [World.size_alloc, World.size_setCell, World.size_drew] | (with_reducible refine le_ext_of ?_) | (with_reducible refine le_ext_add ?_))); done)) | (with_reducible refine Below.drew ?_))))) hv).mono ?_; rintro e w1 ⟨rfl, y, rfl⟩)
  generalize hX : ext (w.alloc _) _ = W
  have hB : Below w.heap.size w W := by rw [← hX]; (repeat (first | (with_reducible exact Below.refl _ _) | (with_reducible assumption) | ((with_reducible refine below_ext_trans ?_ ?_ _); rotate_left; focus (((try dsimp only); repeat (first | omega | simp only [World.size_alloc, World.size_setCell, World.size_drew] | (with_reducible refine le_ext_of ?_) | (with_reducible refine le_ext_add ?_))); done)) | ((with_reducible refine Below.alloc ?_ ?_ _); rotate_left; focus (((try dsimp only); repeat (first | omega | simp only [World.size_alloc, World.size_setCell, World.size_drew] | (with_reducible refine le_ext_of ?_) | (with_reducible refine le_ext_add ?_))); done)) | ((with_reducible refine Below.setCell ?_ ?_ _); rotate_left; focus (((try dsimp only); repeat (first | omega | simp only [World.size_alloc, World.size_setCell, World.size_drew] | (with_reducible refine le_ext_of ?_) | (with_reducible refine le_ext_add ?_))); done)) | (with_reducible refine Below.drew ?_)))
  have Kb := Lib.hid (show Blk W w.heap.size 26 #[.int .i64 b.lo, .int .i64 b.hi, .slice p b.ns.length c] by rw [← hX]; exact (Blk.new rfl).ext _)
  have HBW := Lib.hid hB
  have HK1 := Lib.hid (HK.out.bel hB)
  clear hX hB HK hd8
  have qb0 := Kb.out.cell 0
  have qb1 := Kb.out.cell 1
  have qb2 := Kb.out.cell 2
  have lb := Kb.out.lt
  simp only [List.size_toArray, List.length_cons, List.length_nil, Nat.reduceAdd, Nat.reduceLT, getElem?_pos, List.getElem_toArray, List.getElem_cons_zero, List.getElem_cons_succ] at qb0 qb1 qb2
  have hla := HLA.out
  have hn0 := HN0.out
  have hz : lastN b.ns = 0 := by rw [hn0]; rfl
  obtain rfl : la = 0 := by omega
  have hg0 : decide (0 < b.ns.length) = false := by rw [hn0]; rfl
  clear hz hla HLA
  clear hn0
  go_upto_region 6 with fail
  clear hg0
  have HVM := Lib.hid hvm
  have HRM := Lib.hid hrm
  have HM1 := Lib.hid hm1
  have HM2 := Lib.hid hm2
  clear hvm hrm hm1 hm2
  go_upto_region 7 with (go_at_call 27; refine (Saved_is b p c s1 s2 _ HK1.out HV.out hr hs1 hs2).mono ?_; rintro e wu ⟨rfl, y, rfl⟩)
  generalize hX : (ext W y).alloc _ = X0
  generalize hg : (ext W y).heap.size = gv at *
  have hBX : Below W.heap.size W X0 := by rw [← hX]; (repeat (first | (with_reducible exact Below.refl _ _) | (with_reducible assumption) | ((with_reducible refine below_ext_trans ?_ ?_ _); rotate_left; focus (((try dsimp only); repeat (first | omega | simp only [World.size_alloc, World.size_setCell, World.size_drew] | (with_reducible refine le_ext_of ?_) | (with_reducible refine le_ext_add ?_))); done)) | ((with_reducible refine Below.alloc ?_ ?_ _); rotate_left; focus (((try dsimp only); repeat (first | omega | simp only [World.size_alloc, World.size_setCell, World.size_drew] | (with_reducible refine le_ext_of ?_) | (with_reducible refine le_ext_add ?_))); done)) | ((with_reducible refine Below.setCell ?_ ?_ _); rotate_left; focus (((try dsimp only); repeat (first | omega | simp only [World.size_alloc, World.size_setCell, World.size_drew] | (with_reducible refine le_ext_of ?_) | (with_reducible refine le_ext_add ?_))); done)) | (with_reducible refine Below.drew ?_)))
  have HBX := Lib.hid (HBW.out.trans (hBX.mono HBW.out.size))
  have Nb := Lib.hid (show Blk X0 w.heap.size 26 #[.int .i64 b.lo, .int .i64 b.hi, .slice p b.ns.length c] from Kb.out.bel hBX)
  have Nv := Lib.hid (show Blk X0 gv 23 #[.int .i64 s1, .int .i64 s2] by rw [← hX]; exact Blk.new hg.symm)
  have HK2 := Lib.hid (HK1.out.bel hBX); clear HK1; have HK1 := HK2; clear HK2
  clear qb0 qb1 qb2 lb
  clear hX hBX HBW hg Kb
  have Kb := Nb
  have Kv := Nv
  clear Nb Nv
  have HBX0 := HBX
  clear HBX
  have qb0 := Kb.out.cell 0
  have qb1 := Kb.out.cell 1
  have qb2 := Kb.out.cell 2
  have lb := Kb.out.lt
  have qv0 := Kv.out.cell 0
  have qv1 := Kv.out.cell 1
  have lv := Kv.out.lt
  simp only [List.size_toArray, List.length_cons, List.length_nil, Nat.reduceAdd, Nat.reduceLT, getElem?_pos, List.getElem_toArray, List.getElem_cons_zero, List.getElem_cons_succ] at qb0 qb1 qb2 qv0 qv1
  go_upto_region 8 with (go_at_call 20; refine (Held_is b p c 0 l1 u1 _ HK1.out HV.out hr b0 hl1 hu1).mono ?_; rintro e wu ⟨rfl, y, rfl⟩)
  generalize hX : (ext X0 y).alloc _ = X1
  generalize hg : (ext X0 y).heap.size = gt at *
  have hBX : Below X0.heap.size X0 X1 := by rw [← hX]; (repeat (first | (with_reducible exact Below.refl _ _) | (with_reducible assumption) | ((with_reducible refine below_ext_trans ?_ ?_ _); rotate_left; focus (((try dsimp only); repeat (first | omega | simp only [World.size_alloc, World.size_setCell, World.size_drew] | (with_reducible refine le_ext_of ?_) | (with_reducible refine le_ext_add ?_))); done)) | ((with_reducible refine Below.alloc ?_ ?_ _); rotate_left; focus (((try dsimp only); repeat (first | omega | simp only [World.size_alloc, World.size_setCell, World.size_drew] | (with_reducible refine le_ext_of ?_) | (with_reducible refine le_ext_add ?_))); done)) | ((with_reducible refine Below.setCell ?_ ?_ _); rotate_left; focus (((try dsimp only); repeat (first | omega | simp only [World.size_alloc, World.size_setCell, World.size_drew] | (with_reducible refine le_ext_of ?_) | (with_reducible refine le_ext_add ?_))); done)) | (with_reducible refine Below.drew ?_)))
  have HBX := Lib.hid (HBX0.out.trans (hBX.mono HBX0.out.size))
  have Nb := Lib.hid (show Blk X1 w.heap.size 26 #[.int .i64 b.lo, .int .i64 b.hi, .slice p b.ns.length c] from Kb.out.bel hBX)
  have Nv := Lib.hid (show Blk X1 gv 23 #[.int .i64 s1, .int .i64 s2] from Kv.out.bel hBX)
  have Nt := Lib.hid (show Blk X1 gt 23 #[.int .i64 l1, .int .i64 u1] by rw [← hX]; exact Blk.new hg.symm)
  have HK2 := Lib.hid (HK1.out.bel hBX); clear HK1; have HK1 := HK2; clear HK2
  clear qb0 qb1 qb2 qv0 qv1 lb lv
  clear hX hBX HBX0 hg Kb Kv
  have Kb := Nb
  have Kv := Nv
  have Kt := Nt
  clear Nb Nv Nt
  have HBX1 := HBX
  clear HBX
  have qb0 := Kb.out.cell 0
  have qb1 := Kb.out.cell 1
  have qb2 := Kb.out.cell 2
  have lb := Kb.out.lt
  have qv0 := Kv.out.cell 0
  have qv1 := Kv.out.cell 1
  have lv := Kv.out.lt
  have qt0 := Kt.out.cell 0
  have qt1 := Kt.out.cell 1
  have lt := Kt.out.lt
  simp only [List.size_toArray, List.length_cons, List.length_nil, Nat.reduceAdd, Nat.reduceLT, getElem?_pos, List.getElem_toArray, List.getElem_cons_zero, List.getElem_cons_succ] at qb0 qb1 qb2 qv0 qv1 qt0 qt1
  go_upto_region 9 with (go_at_call 20; refine (Held_is b p c 60 l2 u2 _ HK1.out HV.out hr (by decide) hl2 hu2).mono ?_; rintro e wu ⟨rfl, y, rfl⟩)
  generalize hX : (ext X1 y).alloc _ = X2
  generalize hg : (ext X1 y).heap.size = ge at *
  have hBX : Below X1.heap.size X1 X2 := by rw [← hX]; (repeat (first | (with_reducible exact Below.refl _ _) | (with_reducible assumption) | ((with_reducible refine below_ext_trans ?_ ?_ _); rotate_left; focus (((try dsimp only); repeat (first | omega | simp only [World.size_alloc, World.size_setCell, World.size_drew] | (with_reducible refine le_ext_of ?_) | (with_reducible refine le_ext_add ?_))); done)) | ((with_reducible refine Below.alloc ?_ ?_ _); rotate_left; focus (((try dsimp only); repeat (first | omega | simp only [World.size_alloc, World.size_setCell, World.size_drew] | (with_reducible refine le_ext_of ?_) | (with_reducible refine le_ext_add ?_))); done)) | ((with_reducible refine Below.setCell ?_ ?_ _); rotate_left; focus (((try dsimp only); repeat (first | omega | simp only [World.size_alloc, World.size_setCell, World.size_drew] | (with_reducible refine le_ext_of ?_) | (with_reducible refine le_ext_add ?_))); done)) | (with_reducible refine Below.drew ?_)))
  have HBX := Lib.hid (HBX1.out.trans (hBX.mono HBX1.out.size))
  have Nb := Lib.hid (show Blk X2 w.heap.size 26 #[.int .i64 b.lo, .int .i64 b.hi, .slice p b.ns.length c] from Kb.out.bel hBX)
  have Nv := Lib.hid (show Blk X2 gv 23 #[.int .i64 s1, .int .i64 s2] from Kv.out.bel hBX)
  have Nt := Lib.hid (show Blk X2 gt 23 #[.int .i64 l1, .int .i64 u1] from Kt.out.bel hBX)
  have Ne := Lib.hid (show Blk X2 ge 23 #[.int .i64 l2, .int .i64 u2] by rw [← hX]; exact Blk.new hg.symm)
  have HK2 := Lib.hid (HK1.out.bel hBX); clear HK1; have HK1 := HK2; clear HK2
  clear qb0 qb1 qb2 qv0 qv1 qt0 qt1 lb lv lt
  clear hX hBX HBX1 hg Kb Kv Kt
  have Kb := Nb
  have Kv := Nv
  have Kt := Nt
  have Ke := Ne
  clear Nb Nv Nt Ne
  have HBX2 := HBX
  clear HBX
  have qb0 := Kb.out.cell 0
  have qb1 := Kb.out.cell 1
  have qb2 := Kb.out.cell 2
  have lb := Kb.out.lt
  have qv0 := Kv.out.cell 0
  have qv1 := Kv.out.cell 1
  have lv := Kv.out.lt
  have qt0 := Kt.out.cell 0
  have qt1 := Kt.out.cell 1
  have lt := Kt.out.lt
  have qe0 := Ke.out.cell 0
  have qe1 := Ke.out.cell 1
  have le := Ke.out.lt
  simp only [List.size_toArray, List.length_cons, List.length_nil, Nat.reduceAdd, Nat.reduceLT, getElem?_pos, List.getElem_toArray, List.getElem_cons_zero, List.getElem_cons_succ] at qb0 qb1 qb2 qv0 qv1 qt0 qt1 qe0 qe1
  go_upto_region 10 with (go_at_call 22; refine (Rate_is b p c 0 r1 r2 _ HK1.out HV.out hr b0 hr1 hr2).mono ?_; rintro e wu ⟨rfl, y, rfl⟩)
  generalize hX : (ext X2 y).alloc _ = X3
  generalize hg : (ext X2 y).heap.size = gr at *
  have hBX : Below X2.heap.size X2 X3 := by rw [← hX]; (repeat (first | (with_reducible exact Below.refl _ _) | (with_reducible assumption) | ((with_reducible refine below_ext_trans ?_ ?_ _); rotate_left; focus (((try dsimp only); repeat (first | omega | simp only [World.size_alloc, World.size_setCell, World.size_drew] | (with_reducible refine le_ext_of ?_) | (with_reducible refine le_ext_add ?_))); done)) | ((with_reducible refine Below.alloc ?_ ?_ _); rotate_left; focus (((try dsimp only); repeat (first | omega | simp only [World.size_alloc, World.size_setCell, World.size_drew] | (with_reducible refine le_ext_of ?_) | (with_reducible refine le_ext_add ?_))); done)) | ((with_reducible refine Below.setCell ?_ ?_ _); rotate_left; focus (((try dsimp only); repeat (first | omega | simp only [World.size_alloc, World.size_setCell, World.size_drew] | (with_reducible refine le_ext_of ?_) | (with_reducible refine le_ext_add ?_))); done)) | (with_reducible refine Below.drew ?_)))
  have HBX := Lib.hid (HBX2.out.trans (hBX.mono HBX2.out.size))
  have Nb := Lib.hid (show Blk X3 w.heap.size 26 #[.int .i64 b.lo, .int .i64 b.hi, .slice p b.ns.length c] from Kb.out.bel hBX)
  have Nv := Lib.hid (show Blk X3 gv 23 #[.int .i64 s1, .int .i64 s2] from Kv.out.bel hBX)
  have Nt := Lib.hid (show Blk X3 gt 23 #[.int .i64 l1, .int .i64 u1] from Kt.out.bel hBX)
  have Ne := Lib.hid (show Blk X3 ge 23 #[.int .i64 l2, .int .i64 u2] from Ke.out.bel hBX)
  have Nr := Lib.hid (show Blk X3 gr 23 #[.int .i64 r1, .int .i64 r2] by rw [← hX]; exact Blk.new hg.symm)
  have HK2 := Lib.hid (HK1.out.bel hBX); clear HK1; have HK1 := HK2; clear HK2
  clear qb0 qb1 qb2 qv0 qv1 qt0 qt1 qe0 qe1 lb lv lt le
  clear hX hBX HBX2 hg Kb Kv Kt Ke
  have Kb := Nb
  have Kv := Nv
  have Kt := Nt
  have Ke := Ne
  have Kr := Nr
  clear Nb Nv Nt Ne Nr
  have HBX3 := HBX
  clear HBX
  have qb0 := Kb.out.cell 0
  have qb1 := Kb.out.cell 1
  have qb2 := Kb.out.cell 2
  have lb := Kb.out.lt
  have qv0 := Kv.out.cell 0
  have qv1 := Kv.out.cell 1
  have lv := Kv.out.lt
  have qt0 := Kt.out.cell 0
  have qt1 := Kt.out.cell 1
  have lt := Kt.out.lt
  have qe0 := Ke.out.cell 0
  have qe1 := Ke.out.cell 1
  have le := Ke.out.lt
  have qr0 := Kr.out.cell 0
  have qr1 := Kr.out.cell 1
  have lr := Kr.out.lt
  simp only [List.size_toArray, List.length_cons, List.length_nil, Nat.reduceAdd, Nat.reduceLT, getElem?_pos, List.getElem_toArray, List.getElem_cons_zero, List.getElem_cons_succ] at qb0 qb1 qb2 qv0 qv1 qt0 qt1 qe0 qe1 qr0 qr1
  clear hs1 hs2 hl1 hu1 hl2 hu2 hr1 hr2
  refine wp_region_flow_backS 11 160 10 (fun _ => True) (svR w.heap.size X3.heap.size b p c 0 l1 u1 0) (by kernel_rfl) (by kernel_rfl) rfl (by omega) (svR_kept _ _ _ _ _ _ _ _ _) (fun _ _ h _ => h) ?_ ?_ ?_
  · intro i hin hik f a X g1 g2 g3 g4 g5 hfw KK hKK
    have hzX := g5.size
    have hwz := HBX3.out.size
    match i, hin with
    | 0, _ => exact st_val rfl (wanted_none rfl) (run_lBookS _ rfl (g3 1 (by kernel_rfl)) (Kb.out.bel g5)) (hKK _ _ rfl (Below.refl _ _))
    | 1, _ => exact st_move rfl rfl (wanted_none rfl) (g3 3 (by kernel_rfl)) (hKK _ _ rfl (Below.refl _ _))
    | 2, _ =>
      refine st_call rfl rfl (wanted_none rfl) (vs := #[.int .i64 0]) (const1c _) (run_enter Tryd.func39 (by kernel_rfl) (by kernel_rfl) _) ?_
      refine (Just_any _ _).mono ?_
      rintro e w1 ⟨rfl, y, rfl⟩
      exact ⟨_, rfl, hKK _ _ rfl (below_ext _ _)⟩
    | 3, _ =>
      refine st_call rfl rfl (wanted_none rfl) (vs := #[.int .i64 2, .int .i64 0, .agg #[.int .i64 0, .int .i64 0]]) (args3c (g4 1 (by decide) (by kernel_rfl)) (g4 2 (by decide) (by kernel_rfl))) (run_enter Tryd.func40 (by kernel_rfl) (by kernel_rfl) _) ?_
      refine (note_any _ _ _ _ _).mono ?_
      rintro e w1 ⟨rfl, y, rfl⟩
      exact ⟨_, rfl, hKK _ _ rfl (below_ext _ _)⟩
    | 4, _ =>
      refine st_call rfl rfl (wanted_none rfl) (vs := #[bV b p c, .agg (ntC (mendN 0))]) (args2 (g4 0 (by decide) (by kernel_rfl)) (g4 3 (by decide) (by kernel_rfl))) (run_enter Tryd.func42 (by kernel_rfl) (by kernel_rfl) _) ?_
      refine (lwith_any b p c (mendN 0) _ (HK1.out.bel g5) HC.out (by omega)).mono ?_
      rintro e w1 ⟨g, c', rfl, hO, y, rfl⟩
      exact ⟨_, rfl, hKK _ _ ⟨g, c', rfl, hO.mono (by omega)⟩ (below_ext _ _)⟩
    | 5, _ =>
      obtain ⟨g, c', e4, hO⟩ := g4 4 (by decide) (by kernel_rfl)
      refine st_call rfl rfl (wanted_none rfl) (vs := #[bkV (withS b (mendN 0)) g c', .int .i64 60]) (args1k e4) (run_enter Tryd.func20 (by kernel_rfl) (by kernel_rfl) _) ?_
      refine (Held_is (withS b (mendN 0)) (some ⟨g, 0, none⟩) c' 60 l1 u1 _ (sbk_of hO (HK1.out.bel g5).mm) HVM.out HRM.out (by decide) HM1.out HM2.out).mono ?_
      rintro e w1 ⟨rfl, y, rfl⟩
      exact ⟨_, rfl, hKK _ _ rfl (below_ext _ _)⟩
    | 6, _ => exact st_move rfl rfl (wanted_none rfl) (g4 5 (by decide) (by kernel_rfl)) (hKK _ _ rfl (Below.refl _ _))
    | 7, _ => exact st_val rfl (wanted_none rfl) (run_extractS _ rfl (g4 6 (by decide) (by kernel_rfl)) rfl) (hKK _ _ rfl (Below.refl _ _))
    | 8, _ => exact st_val rfl (wanted_none rfl) (run_extractS _ rfl (g4 6 (by decide) (by kernel_rfl)) rfl) (hKK _ _ rfl (Below.refl _ _))
    | 9, _ =>
      cases f with
      | true =>
        have e := hfw rfl
        have e2 : true = false := Eq.trans (by kernel_rfl) e
        cases e2
      | false => exact st_valw rfl (wanted_none rfl) (run_aSpan _ rfl) (hKK _ _ ⟨_, rfl, by omega, fun _ => Blk.new rfl, fun e => by cases e⟩ ((Below.refl _ _).alloc (Nat.le_refl _) _))
    | 10, _ => exact absurd rfl hik
    | k + 11, hk => omega
  · intro a X g1 g2 g3 g4 g5 KK hKK
    obtain ⟨ba, e1, e2, e3, -⟩ := g4 9 (by decide) (by kernel_rfl)
    refine st_store_span rfl (wanted_none rfl) rfl rfl e1 (g4 7 (by decide) (by kernel_rfl)) (e3 rfl) (fun w' hw' hfar hblk => hKK w' trivial (fun j hj hjk hr => ?_) (hw' _ e2))
    match j, hj with
    | 0, _ => exact hr
    | 1, _ => exact hr
    | 2, _ => exact hr
    | 3, _ => exact hr
    | 4, _ =>
      obtain ⟨g, c', d1, d2⟩ := hr
      refine ⟨g, c', d1, d2.kept (fun q hq => hfar q ?_)⟩
      have hq' : g = q := by simpa [Value.ownBlock] using hq
      rw [← hq']
      exact d2.far (e3 rfl)
    | 5, _ => exact hr
    | 6, _ => exact hr
    | 7, _ => exact hr
    | 8, _ => exact hr
    | 9, _ =>
      obtain ⟨ba', d1, d2, -, -⟩ := hr
      have hbb : ba' = ba := by
        have := e1.symm.trans d1
        simpa using this.symm
      subst hbb
      exact ⟨_, d1, d2, (fun e => by cases e), fun _ => hblk⟩
    | 10, _ => exact absurd rfl hjk
    | k + 11, hk => omega
  intro vs Z hvs _ hgz
  have v0 : vs 0 = _ := hvs 0 (by omega) (by decide)
  have v1 : vs 1 = _ := hvs 1 (by omega) (by decide)
  have v2 : vs 2 = _ := hvs 2 (by omega) (by decide)
  have v3 : vs 3 = _ := hvs 3 (by omega) (by decide)
  have v5 : vs 5 = _ := hvs 5 (by omega) (by decide)
  have v6 : vs 6 = _ := hvs 6 (by omega) (by decide)
  have v7 : vs 7 = _ := hvs 7 (by omega) (by decide)
  have v8 : vs 8 = _ := hvs 8 (by omega) (by decide)
  obtain ⟨gm, cm, v4, -⟩ := hvs 4 (by omega) (by decide)
  obtain ⟨gk, v9, hgk, -, hKk⟩ := hvs 9 (by omega) (by decide)
  simp only [putSkip, Nat.reduceEqDiff, reduceIte, v0, v1, v2, v3, v4, v5, v6, v7, v8, v9]
  clear v0 v1 v2 v3 v4 v5 v6 v7 v8 v9 hvs
  simp only [dstOf, Act.put, List.getElem?_toArray, List.getElem?_cons_zero, List.getElem?_cons_succ, Option.bind_some, Option.getD_some, List.setIfInBounds_toArray, List.set_cons_succ, List.set_cons_zero, List.drop_succ_cons, List.drop_zero]
  have hBX := hgz
  have HBZ := Lib.hid (HBX3.out.trans (hBX.mono HBX3.out.size))
  have HK2 := Lib.hid (HK1.out.bel hBX); clear HK1; have HK1 := HK2; clear HK2
  have Nb := Lib.hid (show Blk Z w.heap.size 26 #[.int .i64 b.lo, .int .i64 b.hi, .slice p b.ns.length c] from Kb.out.bel hBX)
  have Nv := Lib.hid (show Blk Z gv 23 #[.int .i64 s1, .int .i64 s2] from Kv.out.bel hBX)
  have Nt := Lib.hid (show Blk Z gt 23 #[.int .i64 l1, .int .i64 u1] from Kt.out.bel hBX)
  have Ne := Lib.hid (show Blk Z ge 23 #[.int .i64 l2, .int .i64 u2] from Ke.out.bel hBX)
  have Nr := Lib.hid (show Blk Z gr 23 #[.int .i64 r1, .int .i64 r2] from Kr.out.bel hBX)
  have Nk := Lib.hid (show Blk Z gk 23 #[.int .i64 l1, .int .i64 u1] from hKk rfl)
  clear qb0 qb1 qb2 qv0 qv1 qt0 qt1 qe0 qe1 qr0 qr1 lb lv lt le lr
  clear hBX hgz hgk hKk HBX3 Kb Kv Kt Ke Kr
  have Kb := Nb
  have Kv := Nv
  have Kt := Nt
  have Ke := Ne
  have Kr := Nr
  have Kk := Nk
  clear Nb Nv Nt Ne Nr Nk
  have qb0 := Kb.out.cell 0
  have qb1 := Kb.out.cell 1
  have qb2 := Kb.out.cell 2
  have lb := Kb.out.lt
  have qv0 := Kv.out.cell 0
  have qv1 := Kv.out.cell 1
  have lv := Kv.out.lt
  have qt0 := Kt.out.cell 0
  have qt1 := Kt.out.cell 1
  have lt := Kt.out.lt
  have qe0 := Ke.out.cell 0
  have qe1 := Ke.out.cell 1
  have le := Ke.out.lt
  have qr0 := Kr.out.cell 0
  have qr1 := Kr.out.cell 1
  have lr := Kr.out.lt
  have qk0 := Kk.out.cell 0
  have qk1 := Kk.out.cell 1
  have lk := Kk.out.lt
  simp only [List.size_toArray, List.length_cons, List.length_nil, Nat.reduceAdd, Nat.reduceLT, getElem?_pos, List.getElem_toArray, List.getElem_cons_zero, List.getElem_cons_succ] at qb0 qb1 qb2 qv0 qv1 qt0 qt1 qe0 qe1 qr0 qr1 qk0 qk1
  clear HC
  go_upto_region 11 with fail
  refine wp_region_ext (by kernel_rfl) (by kernel_rfl) ?_
  repeat (go_big_quiet_step (first | (go_at_call 39; exact quiet_ext (Just_any _ _))))
  (refine wpQuiet_nil ?_; rintro _ ⟨x, rfl⟩)
  generalize hX : ext Z _ = Y4
  have hBX : Below Z.heap.size Z Y4 := by rw [← hX]; exact below_ext _ _
  have HBY4 := Lib.hid (HBZ.out.trans (hBX.mono HBZ.out.size))
  have HK2 := Lib.hid (HK1.out.bel hBX); clear HK1; have HK1 := HK2; clear HK2
  have Nb := Lib.hid (show Blk Y4 w.heap.size 26 #[.int .i64 b.lo, .int .i64 b.hi, .slice p b.ns.length c] from Kb.out.bel hBX)
  have Nv := Lib.hid (show Blk Y4 gv 23 #[.int .i64 s1, .int .i64 s2] from Kv.out.bel hBX)
  have Nt := Lib.hid (show Blk Y4 gt 23 #[.int .i64 l1, .int .i64 u1] from Kt.out.bel hBX)
  have Ne := Lib.hid (show Blk Y4 ge 23 #[.int .i64 l2, .int .i64 u2] from Ke.out.bel hBX)
  have Nr := Lib.hid (show Blk Y4 gr 23 #[.int .i64 r1, .int .i64 r2] from Kr.out.bel hBX)
  have Nk := Lib.hid (show Blk Y4 gk 23 #[.int .i64 l1, .int .i64 u1] from Kk.out.bel hBX)
  clear qb0 qb1 qb2 qv0 qv1 qt0 qt1 qe0 qe1 qr0 qr1 qk0 qk1 lb lv lt le lr lk
  clear hX hBX HBZ Kb Kv Kt Ke Kr Kk
  have Kb := Nb
  have Kv := Nv
  have Kt := Nt
  have Ke := Ne
  have Kr := Nr
  have Kk := Nk
  clear Nb Nv Nt Ne Nr Nk
  have qb0 := Kb.out.cell 0
  have qb1 := Kb.out.cell 1
  have qb2 := Kb.out.cell 2
  have lb := Kb.out.lt
  have qv0 := Kv.out.cell 0
  have qv1 := Kv.out.cell 1
  have lv := Kv.out.lt
  have qt0 := Kt.out.cell 0
  have qt1 := Kt.out.cell 1
  have lt := Kt.out.lt
  have qe0 := Ke.out.cell 0
  have qe1 := Ke.out.cell 1
  have le := Ke.out.lt
  have qr0 := Kr.out.cell 0
  have qr1 := Kr.out.cell 1
  have lr := Kr.out.lt
  have qk0 := Kk.out.cell 0
  have qk1 := Kk.out.cell 1
  have lk := Kk.out.lt
  simp only [List.size_toArray, List.length_cons, List.length_nil, Nat.reduceAdd, Nat.reduceLT, getElem?_pos, List.getElem_toArray, List.getElem_cons_zero, List.getElem_cons_succ] at qb0 qb1 qb2 qv0 qv1 qt0 qt1 qe0 qe1 qr0 qr1 qk0 qk1
  have e1 : IntKind.i64.wrap (l1 - u2) = l1 - u2 := IntWalk.i64_in _ (by omega)
  have e2 : IntKind.i64.wrap (u1 - u2) = u1 - u2 := IntWalk.i64_in _ (by omega)
  have g1 : decide (s1 < max 0 (l1 - u2)) = false := by simpa using (show max 0 (l1 - u2) ≤ s1 by omega)
  have g2 : decide (u1 < s2) = false := by simpa using f2
  have g3 : decide (s2 < s1) = false := by simpa using f3
  have g4 : decide (s2 < u1 - u2) = false := by simpa using f4
  go_upto_region 17 with fail
  clear e1 e2 g1 g2 g3 g4
  all_goals
    clear f0 f1 f2 f3 f4 z1 z2 z3
    rcases f5 with f5 | ⟨t1, t2⟩
    · have k5 : decide (0 < r2) = true := by simpa using f5
      refine wp_region_ext (by kernel_rfl) (by kernel_rfl) ?_
      repeat (go_big_quiet_step (first | (go_at_call 39; exact quiet_ext (Just_any _ _)) | (go_at_call 24; exact quiet_ext (sounded_any _ (HK1.out.mm.below (by (repeat (first | (with_reducible exact Below.refl _ _) | (with_reducible assumption) | ((with_reducible refine below_ext_trans ?_ ?_ _); rotate_left; focus (((try dsimp only); repeat (first | omega | simp only [World.size_alloc, World.size_setCell, World.size_drew] | (with_reducible refine le_ext_of ?_) | (with_reducible refine le_ext_add ?_))); done)) | ((with_reducible refine Below.alloc ?_ ?_ _); rotate_left; focus (((try dsimp only); repeat (first | omega | simp only [World.size_alloc, World.size_setCell, World.size_drew] | (with_reducible refine le_ext_of ?_) | (with_reducible refine le_ext_add ?_))); done)) | ((with_reducible refine Below.setCell ?_ ?_ _); rotate_left; focus (((try dsimp only); repeat (first | omega | simp only [World.size_alloc, World.size_setCell, World.size_drew] | (with_reducible refine le_ext_of ?_) | (with_reducible refine le_ext_add ?_))); done)) | (with_reducible refine Below.drew ?_)))))))))
      (refine wpQuiet_nil ?_; rintro _ ⟨x, rfl⟩)
      go_wp2_with fail
      go_ret
      exact ⟨rfl, ext_of (HBY4.out.trans ((below_ext _ _).mono HBY4.out.size))⟩
    · have t3 : (s1 == 0) = true := by simpa using t1
      have t4 : (s2 == 0) = true := by simpa using t2
      clear t1 t2
      rcases Bool.eq_false_or_eq_true (decide (0 < r2)) with k5 | k5
      all_goals
        refine wp_region_ext (by kernel_rfl) (by kernel_rfl) ?_
        repeat (go_big_quiet_step (first | (go_at_call 39; exact quiet_ext (Just_any _ _)) | (go_at_call 24; exact quiet_ext (sounded_any _ (HK1.out.mm.below (by (repeat (first | (with_reducible exact Below.refl _ _) | (with_reducible assumption) | ((with_reducible refine below_ext_trans ?_ ?_ _); rotate_left; focus (((try dsimp only); repeat (first | omega | simp only [World.size_alloc, World.size_setCell, World.size_drew] | (with_reducible refine le_ext_of ?_) | (with_reducible refine le_ext_add ?_))); done)) | ((with_reducible refine Below.alloc ?_ ?_ _); rotate_left; focus (((try dsimp only); repeat (first | omega | simp only [World.size_alloc, World.size_setCell, World.size_drew] | (with_reducible refine le_ext_of ?_) | (with_reducible refine le_ext_add ?_))); done)) | ((with_reducible refine Below.setCell ?_ ?_ _); rotate_left; focus (((try dsimp only); repeat (first | omega | simp only [World.size_alloc, World.size_setCell, World.size_drew] | (with_reducible refine le_ext_of ?_) | (with_reducible refine le_ext_add ?_))); done)) | (with_reducible refine Below.drew ?_)))))))))
        (refine wpQuiet_nil ?_; rintro _ ⟨x, rfl⟩)
        go_wp2_with fail
        go_ret
        exact ⟨rfl, ext_of (HBY4.out.trans ((below_ext _ _).mono HBY4.out.size))⟩
end Go.Proofs.YtamknmgplhaciaaDoor

namespace Go.Proofs.YtamknmgplhaciaaDoor
open Go Go.RowKit Go.Shelf
attribute [local go_sem] Oper.semAt_some frozen_alloc_lt
set_option maxRecDepth 100000 in
set_option maxHeartbeats 8000000 in
theorem SeineSaved_yes1 (b : Sn) (p : Option Addr) (c : Nat) (la : Int) (w : World) (hk : SBk w b p) (hc : SBc b p c) (hv : snB b = true) (hn8 : b.ns.length ≠ 8) (hla : lastN b.ns = la) (k : Nat) (s : Nt) (hnk : b.ns.length = k + 1) (hs : b.ns[k]? = some s) (l1 u1 l2 u2 r1 r2 s1 s2 : Int) (hr : rightS b = true) (hrm : rightS (withS b (mendN la)) = true) (hvm : snB (withS b (mendN la)) = true) (hs1 : minF (savS (60 - lastN b.ns)) 400 (atL b (lastN b.ns)) = s1) (hs2 : maxF (savS (60 - lastN b.ns)) 0 (atL b (lastN b.ns)) = s2) (hl1 : minF Prod.fst 400 (atL b la) = l1) (hu1 : maxF Prod.fst 0 (atL b la) = u1) (hl2 : minF Prod.fst 400 (atL b 60) = l2) (hu2 : maxF Prod.fst 0 (atL b 60) = u2) (hr1 : minF Prod.snd 400 (atL b la) = r1) (hr2 : maxF Prod.snd 0 (atL b la) = r2) (hm1 : minF Prod.fst 400 (atL (withS b (mendN la)) 60) = l1) (hm2 : maxF Prod.fst 0 (atL (withS b (mendN la)) 60) = u1) (f0 : 0 ≤ s1) (f1 : l1 - u2 ≤ s1) (f2 : s2 ≤ u1) (f3 : s1 ≤ s2) (f4 : u1 - u2 ≤ s2) (f5 : 0 < r2 ∨ s1 = 0 ∧ s2 = 0) (f6 : la < 60 ∨ s1 = 0 ∧ s2 = 0) (z1 : 0 ≤ l1 ∧ l1 ≤ 400) (z2 : 0 ≤ u1 ∧ u1 ≤ 400) (z3 : 0 ≤ u2 ∧ u2 ≤ 400) :
    Calls Tryd.prog 10 #[bV b p c] w fun e w' => e = .returned (.bool true) ∧ ∃ x, w' = ext w x := by
  have HK := Lib.hid hk
  have HC := Lib.hid hc
  have hok := Ok9.of hv
  have b0 : 0 ≤ la ∧ la ≤ 60 := by rw [← hla]; exact lastN_bd hok
  have hlen : b.ns.length ≤ 9 := hok.len
  have hd8 : ((b.ns.length : Int) == 8) = false := by simpa using (show ¬ (b.ns.length : Int) = 8 by omega)
  have HV := Lib.hid hv
  have HLA := Lib.hid hla
  clear hk hc hok hn8
  have HNK := Lib.hid hnk
  have HS := Lib.hid hs
  clear hnk hs
  clear hla
  go_enter Tryd.func10, Tryd.ntmps10
  go_upto_region 4 with (go_at_call 34; refine (sound_yes b p c _ (HK.out.bel (by (repeat (first | (with_reducible exact Below.refl _ _) | (with_reducible assumption) | ((with_reducible refine below_ext_trans ?_ ?_ _); rotate_left; focus (((try dsimp only); repeat (first | omega | simp only [World.size_alloc, World.size_setCell, World.size_drew] | (with_reducible refine le_ext_of ?_) | (with_reducible refine le_ext_add ?_))); done)) | ((with_reducible refine Below.alloc ?_ ?_ _); rotate_left; focus (((try dsimp only); repeat (first | omega | simp only [World.size_alloc, World.size_setCell, World.size_drew] | (with_reducible refine le_ext_of ?_) | (with_reducible refine le_ext_add ?_))); done)) | ((with_reducible refine Below.setCell ?_ ?_ _); rotate_left; focus (((try dsimp only); repeat (first | omega | simp only [World.size_alloc, World.size_setCell, World.size_drew] | (with_reducible refine le_ext_of ?_) | (with_reducible refine le_ext_add ?_))); done)) | (with_reducible refine Below.drew ?_))))) hv).mono ?_; rintro e w1 ⟨rfl, y, rfl⟩)
  generalize hX : ext (w.alloc _) _ = W
  have hB : Below w.heap.size w W := by rw [← hX]; (repeat (first | (with_reducible exact Below.refl _ _) | (with_reducible assumption) | ((with_reducible refine below_ext_trans ?_ ?_ _); rotate_left; focus (((try dsimp only); repeat (first | omega | simp only [World.size_alloc, World.size_setCell, World.size_drew] | (with_reducible refine le_ext_of ?_) | (with_reducible refine le_ext_add ?_))); done)) | ((with_reducible refine Below.alloc ?_ ?_ _); rotate_left; focus (((try dsimp only); repeat (first | omega | simp only [World.size_alloc, World.size_setCell, World.size_drew] | (with_reducible refine le_ext_of ?_) | (with_reducible refine le_ext_add ?_))); done)) | ((with_reducible refine Below.setCell ?_ ?_ _); rotate_left; focus (((try dsimp only); repeat (first | omega | simp only [World.size_alloc, World.size_setCell, World.size_drew] | (with_reducible refine le_ext_of ?_) | (with_reducible refine le_ext_add ?_))); done)) | (with_reducible refine Below.drew ?_)))
  have Kb := Lib.hid (show Blk W w.heap.size 26 #[.int .i64 b.lo, .int .i64 b.hi, .slice p b.ns.length c] by rw [← hX]; exact (Blk.new rfl).ext _)
  have HBW := Lib.hid hB
  have HK1 := Lib.hid (HK.out.bel hB)
  clear hX hB HK hd8
  have qb0 := Kb.out.cell 0
  have qb1 := Kb.out.cell 1
  have qb2 := Kb.out.cell 2
  have lb := Kb.out.lt
  simp only [List.size_toArray, List.length_cons, List.length_nil, Nat.reduceAdd, Nat.reduceLT, getElem?_pos, List.getElem_toArray, List.getElem_cons_zero, List.getElem_cons_succ] at qb0 qb1 qb2
  have hla := HLA.out
  have hnk := HNK.out
  have hs := HS.out
  have hsh : s.hour = la := by rw [← hla]; unfold lastN; rw [hnk]; simp only [pastN, hs]
  have hg0 : decide (0 < (b.ns.length : Int)) = true := by simpa using (show (0 : Int) < (b.ns.length : Int) by omega)
  have e1 : IntKind.i64.wrap ((b.ns.length : Int) - 1) = (k : Int) := by rw [IntWalk.i64_in _ (by omega)]; omega
  have hk0 : (0 : Int) ≤ (k : Int) := by omega
  have hkl : (k : Int) < (b.ns.length : Int) := by omega
  have HKC := Lib.hid HK1.out.nt
  obtain ⟨bb, o, hp, hbb, c0, c1, c2, c3⟩ := HKC.out k s hs
  rw [hsh] at c1
  clear HKC hs hnk hsh hla HLA
  subst hp
  go_upto_region 6 with fail
  clear c0 c1 c2 c3 hkl hk0 e1 hg0
  generalize hpp : (some (⟨bb, o, none⟩ : Addr)) = p at HK1 HC Kb qb2 ⊢
  have HVM := Lib.hid hvm
  have HRM := Lib.hid hrm
  have HM1 := Lib.hid hm1
  have HM2 := Lib.hid hm2
  clear hvm hrm hm1 hm2
  go_upto_region 7 with (go_at_call 27; refine (Saved_is b p c s1 s2 _ HK1.out HV.out hr hs1 hs2).mono ?_; rintro e wu ⟨rfl, y, rfl⟩)
  generalize hX : (ext W y).alloc _ = X0
  generalize hg : (ext W y).heap.size = gv at *
  have hBX : Below W.heap.size W X0 := by rw [← hX]; (repeat (first | (with_reducible exact Below.refl _ _) | (with_reducible assumption) | ((with_reducible refine below_ext_trans ?_ ?_ _); rotate_left; focus (((try dsimp only); repeat (first | omega | simp only [World.size_alloc, World.size_setCell, World.size_drew] | (with_reducible refine le_ext_of ?_) | (with_reducible refine le_ext_add ?_))); done)) | ((with_reducible refine Below.alloc ?_ ?_ _); rotate_left; focus (((try dsimp only); repeat (first | omega | simp only [World.size_alloc, World.size_setCell, World.size_drew] | (with_reducible refine le_ext_of ?_) | (with_reducible refine le_ext_add ?_))); done)) | ((with_reducible refine Below.setCell ?_ ?_ _); rotate_left; focus (((try dsimp only); repeat (first | omega | simp only [World.size_alloc, World.size_setCell, World.size_drew] | (with_reducible refine le_ext_of ?_) | (with_reducible refine le_ext_add ?_))); done)) | (with_reducible refine Below.drew ?_)))
  have HBX := Lib.hid (HBW.out.trans (hBX.mono HBW.out.size))
  have Nb := Lib.hid (show Blk X0 w.heap.size 26 #[.int .i64 b.lo, .int .i64 b.hi, .slice p b.ns.length c] from Kb.out.bel hBX)
  have Nv := Lib.hid (show Blk X0 gv 23 #[.int .i64 s1, .int .i64 s2] by rw [← hX]; exact Blk.new hg.symm)
  have HK2 := Lib.hid (HK1.out.bel hBX); clear HK1; have HK1 := HK2; clear HK2
  clear qb0 qb1 qb2 lb
  clear hX hBX HBW hg Kb
  have Kb := Nb
  have Kv := Nv
  clear Nb Nv
  have HBX0 := HBX
  clear HBX
  have qb0 := Kb.out.cell 0
  have qb1 := Kb.out.cell 1
  have qb2 := Kb.out.cell 2
  have lb := Kb.out.lt
  have qv0 := Kv.out.cell 0
  have qv1 := Kv.out.cell 1
  have lv := Kv.out.lt
  simp only [List.size_toArray, List.length_cons, List.length_nil, Nat.reduceAdd, Nat.reduceLT, getElem?_pos, List.getElem_toArray, List.getElem_cons_zero, List.getElem_cons_succ] at qb0 qb1 qb2 qv0 qv1
  go_upto_region 8 with (go_at_call 20; refine (Held_is b p c la l1 u1 _ HK1.out HV.out hr b0 hl1 hu1).mono ?_; rintro e wu ⟨rfl, y, rfl⟩)
  generalize hX : (ext X0 y).alloc _ = X1
  generalize hg : (ext X0 y).heap.size = gt at *
  have hBX : Below X0.heap.size X0 X1 := by rw [← hX]; (repeat (first | (with_reducible exact Below.refl _ _) | (with_reducible assumption) | ((with_reducible refine below_ext_trans ?_ ?_ _); rotate_left; focus (((try dsimp only); repeat (first | omega | simp only [World.size_alloc, World.size_setCell, World.size_drew] | (with_reducible refine le_ext_of ?_) | (with_reducible refine le_ext_add ?_))); done)) | ((with_reducible refine Below.alloc ?_ ?_ _); rotate_left; focus (((try dsimp only); repeat (first | omega | simp only [World.size_alloc, World.size_setCell, World.size_drew] | (with_reducible refine le_ext_of ?_) | (with_reducible refine le_ext_add ?_))); done)) | ((with_reducible refine Below.setCell ?_ ?_ _); rotate_left; focus (((try dsimp only); repeat (first | omega | simp only [World.size_alloc, World.size_setCell, World.size_drew] | (with_reducible refine le_ext_of ?_) | (with_reducible refine le_ext_add ?_))); done)) | (with_reducible refine Below.drew ?_)))
  have HBX := Lib.hid (HBX0.out.trans (hBX.mono HBX0.out.size))
  have Nb := Lib.hid (show Blk X1 w.heap.size 26 #[.int .i64 b.lo, .int .i64 b.hi, .slice p b.ns.length c] from Kb.out.bel hBX)
  have Nv := Lib.hid (show Blk X1 gv 23 #[.int .i64 s1, .int .i64 s2] from Kv.out.bel hBX)
  have Nt := Lib.hid (show Blk X1 gt 23 #[.int .i64 l1, .int .i64 u1] by rw [← hX]; exact Blk.new hg.symm)
  have HK2 := Lib.hid (HK1.out.bel hBX); clear HK1; have HK1 := HK2; clear HK2
  clear qb0 qb1 qb2 qv0 qv1 lb lv
  clear hX hBX HBX0 hg Kb Kv
  have Kb := Nb
  have Kv := Nv
  have Kt := Nt
  clear Nb Nv Nt
  have HBX1 := HBX
  clear HBX
  have qb0 := Kb.out.cell 0
  have qb1 := Kb.out.cell 1
  have qb2 := Kb.out.cell 2
  have lb := Kb.out.lt
  have qv0 := Kv.out.cell 0
  have qv1 := Kv.out.cell 1
  have lv := Kv.out.lt
  have qt0 := Kt.out.cell 0
  have qt1 := Kt.out.cell 1
  have lt := Kt.out.lt
  simp only [List.size_toArray, List.length_cons, List.length_nil, Nat.reduceAdd, Nat.reduceLT, getElem?_pos, List.getElem_toArray, List.getElem_cons_zero, List.getElem_cons_succ] at qb0 qb1 qb2 qv0 qv1 qt0 qt1
  go_upto_region 9 with (go_at_call 20; refine (Held_is b p c 60 l2 u2 _ HK1.out HV.out hr (by decide) hl2 hu2).mono ?_; rintro e wu ⟨rfl, y, rfl⟩)
  generalize hX : (ext X1 y).alloc _ = X2
  generalize hg : (ext X1 y).heap.size = ge at *
  have hBX : Below X1.heap.size X1 X2 := by rw [← hX]; (repeat (first | (with_reducible exact Below.refl _ _) | (with_reducible assumption) | ((with_reducible refine below_ext_trans ?_ ?_ _); rotate_left; focus (((try dsimp only); repeat (first | omega | simp only [World.size_alloc, World.size_setCell, World.size_drew] | (with_reducible refine le_ext_of ?_) | (with_reducible refine le_ext_add ?_))); done)) | ((with_reducible refine Below.alloc ?_ ?_ _); rotate_left; focus (((try dsimp only); repeat (first | omega | simp only [World.size_alloc, World.size_setCell, World.size_drew] | (with_reducible refine le_ext_of ?_) | (with_reducible refine le_ext_add ?_))); done)) | ((with_reducible refine Below.setCell ?_ ?_ _); rotate_left; focus (((try dsimp only); repeat (first | omega | simp only [World.size_alloc, World.size_setCell, World.size_drew] | (with_reducible refine le_ext_of ?_) | (with_reducible refine le_ext_add ?_))); done)) | (with_reducible refine Below.drew ?_)))
  have HBX := Lib.hid (HBX1.out.trans (hBX.mono HBX1.out.size))
  have Nb := Lib.hid (show Blk X2 w.heap.size 26 #[.int .i64 b.lo, .int .i64 b.hi, .slice p b.ns.length c] from Kb.out.bel hBX)
  have Nv := Lib.hid (show Blk X2 gv 23 #[.int .i64 s1, .int .i64 s2] from Kv.out.bel hBX)
  have Nt := Lib.hid (show Blk X2 gt 23 #[.int .i64 l1, .int .i64 u1] from Kt.out.bel hBX)
  have Ne := Lib.hid (show Blk X2 ge 23 #[.int .i64 l2, .int .i64 u2] by rw [← hX]; exact Blk.new hg.symm)
  have HK2 := Lib.hid (HK1.out.bel hBX); clear HK1; have HK1 := HK2; clear HK2
  clear qb0 qb1 qb2 qv0 qv1 qt0 qt1 lb lv lt
  clear hX hBX HBX1 hg Kb Kv Kt
  have Kb := Nb
  have Kv := Nv
  have Kt := Nt
  have Ke := Ne
  clear Nb Nv Nt Ne
  have HBX2 := HBX
  clear HBX
  have qb0 := Kb.out.cell 0
  have qb1 := Kb.out.cell 1
  have qb2 := Kb.out.cell 2
  have lb := Kb.out.lt
  have qv0 := Kv.out.cell 0
  have qv1 := Kv.out.cell 1
  have lv := Kv.out.lt
  have qt0 := Kt.out.cell 0
  have qt1 := Kt.out.cell 1
  have lt := Kt.out.lt
  have qe0 := Ke.out.cell 0
  have qe1 := Ke.out.cell 1
  have le := Ke.out.lt
  simp only [List.size_toArray, List.length_cons, List.length_nil, Nat.reduceAdd, Nat.reduceLT, getElem?_pos, List.getElem_toArray, List.getElem_cons_zero, List.getElem_cons_succ] at qb0 qb1 qb2 qv0 qv1 qt0 qt1 qe0 qe1
  go_upto_region 10 with (go_at_call 22; refine (Rate_is b p c la r1 r2 _ HK1.out HV.out hr b0 hr1 hr2).mono ?_; rintro e wu ⟨rfl, y, rfl⟩)
  generalize hX : (ext X2 y).alloc _ = X3
  generalize hg : (ext X2 y).heap.size = gr at *
  have hBX : Below X2.heap.size X2 X3 := by rw [← hX]; (repeat (first | (with_reducible exact Below.refl _ _) | (with_reducible assumption) | ((with_reducible refine below_ext_trans ?_ ?_ _); rotate_left; focus (((try dsimp only); repeat (first | omega | simp only [World.size_alloc, World.size_setCell, World.size_drew] | (with_reducible refine le_ext_of ?_) | (with_reducible refine le_ext_add ?_))); done)) | ((with_reducible refine Below.alloc ?_ ?_ _); rotate_left; focus (((try dsimp only); repeat (first | omega | simp only [World.size_alloc, World.size_setCell, World.size_drew] | (with_reducible refine le_ext_of ?_) | (with_reducible refine le_ext_add ?_))); done)) | ((with_reducible refine Below.setCell ?_ ?_ _); rotate_left; focus (((try dsimp only); repeat (first | omega | simp only [World.size_alloc, World.size_setCell, World.size_drew] | (with_reducible refine le_ext_of ?_) | (with_reducible refine le_ext_add ?_))); done)) | (with_reducible refine Below.drew ?_)))
  have HBX := Lib.hid (HBX2.out.trans (hBX.mono HBX2.out.size))
  have Nb := Lib.hid (show Blk X3 w.heap.size 26 #[.int .i64 b.lo, .int .i64 b.hi, .slice p b.ns.length c] from Kb.out.bel hBX)
  have Nv := Lib.hid (show Blk X3 gv 23 #[.int .i64 s1, .int .i64 s2] from Kv.out.bel hBX)
  have Nt := Lib.hid (show Blk X3 gt 23 #[.int .i64 l1, .int .i64 u1] from Kt.out.bel hBX)
  have Ne := Lib.hid (show Blk X3 ge 23 #[.int .i64 l2, .int .i64 u2] from Ke.out.bel hBX)
  have Nr := Lib.hid (show Blk X3 gr 23 #[.int .i64 r1, .int .i64 r2] by rw [← hX]; exact Blk.new hg.symm)
  have HK2 := Lib.hid (HK1.out.bel hBX); clear HK1; have HK1 := HK2; clear HK2
  clear qb0 qb1 qb2 qv0 qv1 qt0 qt1 qe0 qe1 lb lv lt le
  clear hX hBX HBX2 hg Kb Kv Kt Ke
  have Kb := Nb
  have Kv := Nv
  have Kt := Nt
  have Ke := Ne
  have Kr := Nr
  clear Nb Nv Nt Ne Nr
  have HBX3 := HBX
  clear HBX
  have qb0 := Kb.out.cell 0
  have qb1 := Kb.out.cell 1
  have qb2 := Kb.out.cell 2
  have lb := Kb.out.lt
  have qv0 := Kv.out.cell 0
  have qv1 := Kv.out.cell 1
  have lv := Kv.out.lt
  have qt0 := Kt.out.cell 0
  have qt1 := Kt.out.cell 1
  have lt := Kt.out.lt
  have qe0 := Ke.out.cell 0
  have qe1 := Ke.out.cell 1
  have le := Ke.out.lt
  have qr0 := Kr.out.cell 0
  have qr1 := Kr.out.cell 1
  have lr := Kr.out.lt
  simp only [List.size_toArray, List.length_cons, List.length_nil, Nat.reduceAdd, Nat.reduceLT, getElem?_pos, List.getElem_toArray, List.getElem_cons_zero, List.getElem_cons_succ] at qb0 qb1 qb2 qv0 qv1 qt0 qt1 qe0 qe1 qr0 qr1
  clear hs1 hs2 hl1 hu1 hl2 hu2 hr1 hr2
  refine wp_region_flow_backS 11 160 10 (fun _ => True) (svR w.heap.size X3.heap.size b p c la l1 u1 0) (by kernel_rfl) (by kernel_rfl) rfl (by omega) (svR_kept _ _ _ _ _ _ _ _ _) (fun _ _ h _ => h) ?_ ?_ ?_
  · intro i hin hik f a X g1 g2 g3 g4 g5 hfw KK hKK
    have hzX := g5.size
    have hwz := HBX3.out.size
    match i, hin with
    | 0, _ => exact st_val rfl (wanted_none rfl) (run_lBookS _ rfl (g3 1 (by kernel_rfl)) (Kb.out.bel g5)) (hKK _ _ rfl (Below.refl _ _))
    | 1, _ => exact st_move rfl rfl (wanted_none rfl) (g3 3 (by kernel_rfl)) (hKK _ _ rfl (Below.refl _ _))
    | 2, _ =>
      refine st_call rfl rfl (wanted_none rfl) (vs := #[.int .i64 0]) (const1c _) (run_enter Tryd.func39 (by kernel_rfl) (by kernel_rfl) _) ?_
      refine (Just_any _ _).mono ?_
      rintro e w1 ⟨rfl, y, rfl⟩
      exact ⟨_, rfl, hKK _ _ rfl (below_ext _ _)⟩
    | 3, _ =>
      refine st_call rfl rfl (wanted_none rfl) (vs := #[.int .i64 2, .int .i64 la, .agg #[.int .i64 0, .int .i64 0]]) (args3c (g4 1 (by decide) (by kernel_rfl)) (g4 2 (by decide) (by kernel_rfl))) (run_enter Tryd.func40 (by kernel_rfl) (by kernel_rfl) _) ?_
      refine (note_any _ _ _ _ _).mono ?_
      rintro e w1 ⟨rfl, y, rfl⟩
      exact ⟨_, rfl, hKK _ _ rfl (below_ext _ _)⟩
    | 4, _ =>
      refine st_call rfl rfl (wanted_none rfl) (vs := #[bV b p c, .agg (ntC (mendN la))]) (args2 (g4 0 (by decide) (by kernel_rfl)) (g4 3 (by decide) (by kernel_rfl))) (run_enter Tryd.func42 (by kernel_rfl) (by kernel_rfl) _) ?_
      refine (lwith_any b p c (mendN la) _ (HK1.out.bel g5) HC.out (by omega)).mono ?_
      rintro e w1 ⟨g, c', rfl, hO, y, rfl⟩
      exact ⟨_, rfl, hKK _ _ ⟨g, c', rfl, hO.mono (by omega)⟩ (below_ext _ _)⟩
    | 5, _ =>
      obtain ⟨g, c', e4, hO⟩ := g4 4 (by decide) (by kernel_rfl)
      refine st_call rfl rfl (wanted_none rfl) (vs := #[bkV (withS b (mendN la)) g c', .int .i64 60]) (args1k e4) (run_enter Tryd.func20 (by kernel_rfl) (by kernel_rfl) _) ?_
      refine (Held_is (withS b (mendN la)) (some ⟨g, 0, none⟩) c' 60 l1 u1 _ (sbk_of hO (HK1.out.bel g5).mm) HVM.out HRM.out (by decide) HM1.out HM2.out).mono ?_
      rintro e w1 ⟨rfl, y, rfl⟩
      exact ⟨_, rfl, hKK _ _ rfl (below_ext _ _)⟩
    | 6, _ => exact st_move rfl rfl (wanted_none rfl) (g4 5 (by decide) (by kernel_rfl)) (hKK _ _ rfl (Below.refl _ _))
    | 7, _ => exact st_val rfl (wanted_none rfl) (run_extractS _ rfl (g4 6 (by decide) (by kernel_rfl)) rfl) (hKK _ _ rfl (Below.refl _ _))
    | 8, _ => exact st_val rfl (wanted_none rfl) (run_extractS _ rfl (g4 6 (by decide) (by kernel_rfl)) rfl) (hKK _ _ rfl (Below.refl _ _))
    | 9, _ =>
      cases f with
      | true =>
        have e := hfw rfl
        have e2 : true = false := Eq.trans (by kernel_rfl) e
        cases e2
      | false => exact st_valw rfl (wanted_none rfl) (run_aSpan _ rfl) (hKK _ _ ⟨_, rfl, by omega, fun _ => Blk.new rfl, fun e => by cases e⟩ ((Below.refl _ _).alloc (Nat.le_refl _) _))
    | 10, _ => exact absurd rfl hik
    | k + 11, hk => omega
  · intro a X g1 g2 g3 g4 g5 KK hKK
    obtain ⟨ba, e1, e2, e3, -⟩ := g4 9 (by decide) (by kernel_rfl)
    refine st_store_span rfl (wanted_none rfl) rfl rfl e1 (g4 7 (by decide) (by kernel_rfl)) (e3 rfl) (fun w' hw' hfar hblk => hKK w' trivial (fun j hj hjk hr => ?_) (hw' _ e2))
    match j, hj with
    | 0, _ => exact hr
    | 1, _ => exact hr
    | 2, _ => exact hr
    | 3, _ => exact hr
    | 4, _ =>
      obtain ⟨g, c', d1, d2⟩ := hr
      refine ⟨g, c', d1, d2.kept (fun q hq => hfar q ?_)⟩
      have hq' : g = q := by simpa [Value.ownBlock] using hq
      rw [← hq']
      exact d2.far (e3 rfl)
    | 5, _ => exact hr
    | 6, _ => exact hr
    | 7, _ => exact hr
    | 8, _ => exact hr
    | 9, _ =>
      obtain ⟨ba', d1, d2, -, -⟩ := hr
      have hbb : ba' = ba := by
        have := e1.symm.trans d1
        simpa using this.symm
      subst hbb
      exact ⟨_, d1, d2, (fun e => by cases e), fun _ => hblk⟩
    | 10, _ => exact absurd rfl hjk
    | k + 11, hk => omega
  intro vs Z hvs _ hgz
  have v0 : vs 0 = _ := hvs 0 (by omega) (by decide)
  have v1 : vs 1 = _ := hvs 1 (by omega) (by decide)
  have v2 : vs 2 = _ := hvs 2 (by omega) (by decide)
  have v3 : vs 3 = _ := hvs 3 (by omega) (by decide)
  have v5 : vs 5 = _ := hvs 5 (by omega) (by decide)
  have v6 : vs 6 = _ := hvs 6 (by omega) (by decide)
  have v7 : vs 7 = _ := hvs 7 (by omega) (by decide)
  have v8 : vs 8 = _ := hvs 8 (by omega) (by decide)
  obtain ⟨gm, cm, v4, -⟩ := hvs 4 (by omega) (by decide)
  obtain ⟨gk, v9, hgk, -, hKk⟩ := hvs 9 (by omega) (by decide)
  simp only [putSkip, Nat.reduceEqDiff, reduceIte, v0, v1, v2, v3, v4, v5, v6, v7, v8, v9]
  clear v0 v1 v2 v3 v4 v5 v6 v7 v8 v9 hvs
  simp only [dstOf, Act.put, List.getElem?_toArray, List.getElem?_cons_zero, List.getElem?_cons_succ, Option.bind_some, Option.getD_some, List.setIfInBounds_toArray, List.set_cons_succ, List.set_cons_zero, List.drop_succ_cons, List.drop_zero]
  have hBX := hgz
  have HBZ := Lib.hid (HBX3.out.trans (hBX.mono HBX3.out.size))
  have HK2 := Lib.hid (HK1.out.bel hBX); clear HK1; have HK1 := HK2; clear HK2
  have Nb := Lib.hid (show Blk Z w.heap.size 26 #[.int .i64 b.lo, .int .i64 b.hi, .slice p b.ns.length c] from Kb.out.bel hBX)
  have Nv := Lib.hid (show Blk Z gv 23 #[.int .i64 s1, .int .i64 s2] from Kv.out.bel hBX)
  have Nt := Lib.hid (show Blk Z gt 23 #[.int .i64 l1, .int .i64 u1] from Kt.out.bel hBX)
  have Ne := Lib.hid (show Blk Z ge 23 #[.int .i64 l2, .int .i64 u2] from Ke.out.bel hBX)
  have Nr := Lib.hid (show Blk Z gr 23 #[.int .i64 r1, .int .i64 r2] from Kr.out.bel hBX)
  have Nk := Lib.hid (show Blk Z gk 23 #[.int .i64 l1, .int .i64 u1] from hKk rfl)
  clear qb0 qb1 qb2 qv0 qv1 qt0 qt1 qe0 qe1 qr0 qr1 lb lv lt le lr
  clear hBX hgz hgk hKk HBX3 Kb Kv Kt Ke Kr
  have Kb := Nb
  have Kv := Nv
  have Kt := Nt
  have Ke := Ne
  have Kr := Nr
  have Kk := Nk
  clear Nb Nv Nt Ne Nr Nk
  have qb0 := Kb.out.cell 0
  have qb1 := Kb.out.cell 1
  have qb2 := Kb.out.cell 2
  have lb := Kb.out.lt
  have qv0 := Kv.out.cell 0
  have qv1 := Kv.out.cell 1
  have lv := Kv.out.lt
  have qt0 := Kt.out.cell 0
  have qt1 := Kt.out.cell 1
  have lt := Kt.out.lt
  have qe0 := Ke.out.cell 0
  have qe1 := Ke.out.cell 1
  have le := Ke.out.lt
  have qr0 := Kr.out.cell 0
  have qr1 := Kr.out.cell 1
  have lr := Kr.out.lt
  have qk0 := Kk.out.cell 0
  have qk1 := Kk.out.cell 1
  have lk := Kk.out.lt
  simp only [List.size_toArray, List.length_cons, List.length_nil, Nat.reduceAdd, Nat.reduceLT, getElem?_pos, List.getElem_toArray, List.getElem_cons_zero, List.getElem_cons_succ] at qb0 qb1 qb2 qv0 qv1 qt0 qt1 qe0 qe1 qr0 qr1 qk0 qk1
  clear HC
  go_upto_region 11 with fail
  refine wp_region_ext (by kernel_rfl) (by kernel_rfl) ?_
  repeat (go_big_quiet_step (first | (go_at_call 39; exact quiet_ext (Just_any _ _))))
  (refine wpQuiet_nil ?_; rintro _ ⟨x, rfl⟩)
  generalize hX : ext Z _ = Y4
  have hBX : Below Z.heap.size Z Y4 := by rw [← hX]; exact below_ext _ _
  have HBY4 := Lib.hid (HBZ.out.trans (hBX.mono HBZ.out.size))
  have HK2 := Lib.hid (HK1.out.bel hBX); clear HK1; have HK1 := HK2; clear HK2
  have Nb := Lib.hid (show Blk Y4 w.heap.size 26 #[.int .i64 b.lo, .int .i64 b.hi, .slice p b.ns.length c] from Kb.out.bel hBX)
  have Nv := Lib.hid (show Blk Y4 gv 23 #[.int .i64 s1, .int .i64 s2] from Kv.out.bel hBX)
  have Nt := Lib.hid (show Blk Y4 gt 23 #[.int .i64 l1, .int .i64 u1] from Kt.out.bel hBX)
  have Ne := Lib.hid (show Blk Y4 ge 23 #[.int .i64 l2, .int .i64 u2] from Ke.out.bel hBX)
  have Nr := Lib.hid (show Blk Y4 gr 23 #[.int .i64 r1, .int .i64 r2] from Kr.out.bel hBX)
  have Nk := Lib.hid (show Blk Y4 gk 23 #[.int .i64 l1, .int .i64 u1] from Kk.out.bel hBX)
  clear qb0 qb1 qb2 qv0 qv1 qt0 qt1 qe0 qe1 qr0 qr1 qk0 qk1 lb lv lt le lr lk
  clear hX hBX HBZ Kb Kv Kt Ke Kr Kk
  have Kb := Nb
  have Kv := Nv
  have Kt := Nt
  have Ke := Ne
  have Kr := Nr
  have Kk := Nk
  clear Nb Nv Nt Ne Nr Nk
  have qb0 := Kb.out.cell 0
  have qb1 := Kb.out.cell 1
  have qb2 := Kb.out.cell 2
  have lb := Kb.out.lt
  have qv0 := Kv.out.cell 0
  have qv1 := Kv.out.cell 1
  have lv := Kv.out.lt
  have qt0 := Kt.out.cell 0
  have qt1 := Kt.out.cell 1
  have lt := Kt.out.lt
  have qe0 := Ke.out.cell 0
  have qe1 := Ke.out.cell 1
  have le := Ke.out.lt
  have qr0 := Kr.out.cell 0
  have qr1 := Kr.out.cell 1
  have lr := Kr.out.lt
  have qk0 := Kk.out.cell 0
  have qk1 := Kk.out.cell 1
  have lk := Kk.out.lt
  simp only [List.size_toArray, List.length_cons, List.length_nil, Nat.reduceAdd, Nat.reduceLT, getElem?_pos, List.getElem_toArray, List.getElem_cons_zero, List.getElem_cons_succ] at qb0 qb1 qb2 qv0 qv1 qt0 qt1 qe0 qe1 qr0 qr1 qk0 qk1
  have e1 : IntKind.i64.wrap (l1 - u2) = l1 - u2 := IntWalk.i64_in _ (by omega)
  have e2 : IntKind.i64.wrap (u1 - u2) = u1 - u2 := IntWalk.i64_in _ (by omega)
  have g1 : decide (s1 < max 0 (l1 - u2)) = false := by simpa using (show max 0 (l1 - u2) ≤ s1 by omega)
  have g2 : decide (u1 < s2) = false := by simpa using f2
  have g3 : decide (s2 < s1) = false := by simpa using f3
  have g4 : decide (s2 < u1 - u2) = false := by simpa using f4
  go_upto_region 17 with fail
  clear e1 e2 g1 g2 g3 g4
  all_goals
    clear f0 f1 f2 f3 f4 z1 z2 z3
    rcases f5 with f5 | ⟨t1, t2⟩
    · have k5 : decide (0 < r2) = true := by simpa using f5
      rcases f6 with f6 | ⟨t1, t2⟩
      · have k6 : decide (la < 60) = true := by simpa using f6
        refine wp_region_ext (by kernel_rfl) (by kernel_rfl) ?_
        repeat (go_big_quiet_step (first | (go_at_call 39; exact quiet_ext (Just_any _ _)) | (go_at_call 24; exact quiet_ext (sounded_any _ (HK1.out.mm.below (by (repeat (first | (with_reducible exact Below.refl _ _) | (with_reducible assumption) | ((with_reducible refine below_ext_trans ?_ ?_ _); rotate_left; focus (((try dsimp only); repeat (first | omega | simp only [World.size_alloc, World.size_setCell, World.size_drew] | (with_reducible refine le_ext_of ?_) | (with_reducible refine le_ext_add ?_))); done)) | ((with_reducible refine Below.alloc ?_ ?_ _); rotate_left; focus (((try dsimp only); repeat (first | omega | simp only [World.size_alloc, World.size_setCell, World.size_drew] | (with_reducible refine le_ext_of ?_) | (with_reducible refine le_ext_add ?_))); done)) | ((with_reducible refine Below.setCell ?_ ?_ _); rotate_left; focus (((try dsimp only); repeat (first | omega | simp only [World.size_alloc, World.size_setCell, World.size_drew] | (with_reducible refine le_ext_of ?_) | (with_reducible refine le_ext_add ?_))); done)) | (with_reducible refine Below.drew ?_)))))))))
        (refine wpQuiet_nil ?_; rintro _ ⟨x, rfl⟩)
        go_wp2_with fail
        go_ret
        exact ⟨rfl, ext_of (HBY4.out.trans ((below_ext _ _).mono HBY4.out.size))⟩
      · have t3 : (s1 == 0) = true := by simpa using t1
        have t4 : (s2 == 0) = true := by simpa using t2
        clear t1 t2
        rcases Bool.eq_false_or_eq_true (decide (la < 60)) with k6 | k6
        all_goals
          refine wp_region_ext (by kernel_rfl) (by kernel_rfl) ?_
          repeat (go_big_quiet_step (first | (go_at_call 39; exact quiet_ext (Just_any _ _)) | (go_at_call 24; exact quiet_ext (sounded_any _ (HK1.out.mm.below (by (repeat (first | (with_reducible exact Below.refl _ _) | (with_reducible assumption) | ((with_reducible refine below_ext_trans ?_ ?_ _); rotate_left; focus (((try dsimp only); repeat (first | omega | simp only [World.size_alloc, World.size_setCell, World.size_drew] | (with_reducible refine le_ext_of ?_) | (with_reducible refine le_ext_add ?_))); done)) | ((with_reducible refine Below.alloc ?_ ?_ _); rotate_left; focus (((try dsimp only); repeat (first | omega | simp only [World.size_alloc, World.size_setCell, World.size_drew] | (with_reducible refine le_ext_of ?_) | (with_reducible refine le_ext_add ?_))); done)) | ((with_reducible refine Below.setCell ?_ ?_ _); rotate_left; focus (((try dsimp only); repeat (first | omega | simp only [World.size_alloc, World.size_setCell, World.size_drew] | (with_reducible refine le_ext_of ?_) | (with_reducible refine le_ext_add ?_))); done)) | (with_reducible refine Below.drew ?_)))))))))
          (refine wpQuiet_nil ?_; rintro _ ⟨x, rfl⟩)
          go_wp2_with fail
          go_ret
          exact ⟨rfl, ext_of (HBY4.out.trans ((below_ext _ _).mono HBY4.out.size))⟩
    · have t3 : (s1 == 0) = true := by simpa using t1
      have t4 : (s2 == 0) = true := by simpa using t2
      clear t1 t2
      rcases Bool.eq_false_or_eq_true (decide (0 < r2)) with k5 | k5
      all_goals
        rcases Bool.eq_false_or_eq_true (decide (la < 60)) with k6 | k6
        all_goals
          refine wp_region_ext (by kernel_rfl) (by kernel_rfl) ?_
          repeat (go_big_quiet_step (first | (go_at_call 39; exact quiet_ext (Just_any _ _)) | (go_at_call 24; exact quiet_ext (sounded_any _ (HK1.out.mm.below (by (repeat (first | (with_reducible exact Below.refl _ _) | (with_reducible assumption) | ((with_reducible refine below_ext_trans ?_ ?_ _); rotate_left; focus (((try dsimp only); repeat (first | omega | simp only [World.size_alloc, World.size_setCell, World.size_drew] | (with_reducible refine le_ext_of ?_) | (with_reducible refine le_ext_add ?_))); done)) | ((with_reducible refine Below.alloc ?_ ?_ _); rotate_left; focus (((try dsimp only); repeat (first | omega | simp only [World.size_alloc, World.size_setCell, World.size_drew] | (with_reducible refine le_ext_of ?_) | (with_reducible refine le_ext_add ?_))); done)) | ((with_reducible refine Below.setCell ?_ ?_ _); rotate_left; focus (((try dsimp only); repeat (first | omega | simp only [World.size_alloc, World.size_setCell, World.size_drew] | (with_reducible refine le_ext_of ?_) | (with_reducible refine le_ext_add ?_))); done)) | (with_reducible refine Below.drew ?_)))))))))
          (refine wpQuiet_nil ?_; rintro _ ⟨x, rfl⟩)
          go_wp2_with fail
          go_ret
          exact ⟨rfl, ext_of (HBY4.out.trans ((below_ext _ _).mono HBY4.out.size))⟩
end Go.Proofs.YtamknmgplhaciaaDoor

