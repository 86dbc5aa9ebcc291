/- The walk of SeineEnds, a case. Written by gen_ends.py. -/
/- The walk of SeineEnds, a case. Written by gen_ends.py. -/
import Derived.Test.YtnckampdbbcehaaDoorQKc
import Derived.Test.YtnckampdbbcehaaDoorQPd
import Derived.RegionTactic
set_option linter.unusedSimpArgs false
set_option linter.unusedVariables false
namespace Go.Proofs.YtnckampdbbcehaaDoor
open Go Go.RowKit Go.Shelf
attribute [local go_sem] Oper.semAt_some frozen_alloc_lt
set_option maxRecDepth 100000 in
set_option maxHeartbeats 8000000 in
theorem SeineEnds_At (b : Sn) (p : Option Addr) (c : Nat) (n0 n1 r0 : Int) (w : World) (hk : SBk w b p) (hc : SBc b p c) (hv : snB b = true) (hr0 : n0 % 61 = r0) (l u rl ru d m : Int) (hr : rightS b = true) (hl : minF Prod.fst 400 (atL b r0) = l) (hu : maxF Prod.fst 0 (atL b r0) = u) (hrl : minF Prod.snd 400 (atL b r0) = rl) (hru : maxF Prod.snd 0 (atL b r0) = ru) (s1 : 0 ≤ l) (s2 : l ≤ u) (s3 : u ≤ 400) (s4 : 0 ≤ rl) (s5 : rl ≤ ru) (hq : ¬ n1.tmod 3 = 0) (hd : n1 % (u - l + 3) = d) (hm1 : (l + d - 1) % 401 = m) (hF : rightS (withS b ⟨4, r0, m, m⟩) = true) (hcm : canB b r0 m = true) (hcl : canB b r0 l = true) (hcu : canB b r0 u = true) (m1 : l ≤ m) (m2 : m ≤ u) :
    Calls Tryd.prog 7 #[bV b p c, .agg #[.int .i64 n0, .int .i64 n1]] w fun e w' => e = .returned (.bool true) ∧ ∃ x, w' = ext w x := by
  have HK := Lib.hid hk
  have HC := Lib.hid hc
  clear hk hc
  have b0 : 0 ≤ r0 ∧ r0 ≤ 60 := by omega
  go_enter Tryd.func7, Tryd.ntmps7
  go_upto_region 4 with (first
    | (go_at_call 34; refine (sound_yes b p c _ (HK.out.bel (by (repeat (first | (with_reducible exact Below.refl _ _) | (with_reducible assumption) | ((with_reducible refine below_ext_trans ?_ ?_ _); rotate_left; focus (((try dsimp only); repeat (first | omega | simp only [World.size_alloc, World.size_setCell, World.size_drew] | (with_reducible refine le_ext_of ?_) | (with_reducible refine le_ext_add ?_))); done)) | ((with_reducible refine Below.alloc ?_ ?_ _); rotate_left; focus (((try dsimp only); repeat (first | omega | simp only [World.size_alloc, World.size_setCell, World.size_drew] | (with_reducible refine le_ext_of ?_) | (with_reducible refine le_ext_add ?_))); done)) | ((with_reducible refine Below.setCell ?_ ?_ _); rotate_left; focus (((try dsimp only); repeat (first | omega | simp only [World.size_alloc, World.size_setCell, World.size_drew] | (with_reducible refine le_ext_of ?_) | (with_reducible refine le_ext_add ?_))); done)) | (with_reducible refine Below.drew ?_))))) hv).mono ?_; rintro e w1 ⟨rfl, y, rfl⟩)
    | (go_at_call 37; refine (Wheel_eq n0 61 r0 _ (by decide) hr0).mono ?_; rintro e w1 ⟨rfl, y, rfl⟩))
  generalize hX : ext ((w.alloc _).alloc _) _ = W
  have hB : Below w.heap.size w W := by rw [← hX]; (repeat (first | (with_reducible exact Below.refl _ _) | (with_reducible assumption) | ((with_reducible refine below_ext_trans ?_ ?_ _); rotate_left; focus (((try dsimp only); repeat (first | omega | simp only [World.size_alloc, World.size_setCell, World.size_drew] | (with_reducible refine le_ext_of ?_) | (with_reducible refine le_ext_add ?_))); done)) | ((with_reducible refine Below.alloc ?_ ?_ _); rotate_left; focus (((try dsimp only); repeat (first | omega | simp only [World.size_alloc, World.size_setCell, World.size_drew] | (with_reducible refine le_ext_of ?_) | (with_reducible refine le_ext_add ?_))); done)) | ((with_reducible refine Below.setCell ?_ ?_ _); rotate_left; focus (((try dsimp only); repeat (first | omega | simp only [World.size_alloc, World.size_setCell, World.size_drew] | (with_reducible refine le_ext_of ?_) | (with_reducible refine le_ext_add ?_))); done)) | (with_reducible refine Below.drew ?_)))
  have Kb := Lib.hid (show Blk W w.heap.size 26 #[.int .i64 b.lo, .int .i64 b.hi, .slice p b.ns.length c] by rw [← hX]; exact ((Blk.new rfl).alloc _).ext _)
  have Kn := Lib.hid (show Blk W (w.heap.size + 1) 27 #[.int .i64 n0, .int .i64 n1] by rw [← hX]; exact (Blk.new (by simp)).ext _)
  have HBW := Lib.hid hB
  have HK1 := Lib.hid (HK.out.bel hB)
  clear hX hB HK hr0
  have qb0 := Kb.out.cell 0
  have qb1 := Kb.out.cell 1
  have qb2 := Kb.out.cell 2
  have lb := Kb.out.lt
  have qn0 := Kn.out.cell 0
  have qn1 := Kn.out.cell 1
  have ln := Kn.out.lt
  simp only [List.size_toArray, List.length_cons, List.length_nil, Nat.reduceAdd, Nat.reduceLT, getElem?_pos, List.getElem_toArray, List.getElem_cons_zero, List.getElem_cons_succ] at qb0 qb1 qb2 qn0 qn1
  have hm : 0 ≤ m ∧ m ≤ 400 := by omega
  have hlb : 0 ≤ l ∧ l ≤ 400 := by omega
  have hub : 0 ≤ u ∧ u ≤ 400 := by omega
  have hdb : 0 ≤ d ∧ d ≤ 402 := by rw [← hd]; exact ⟨Int.emod_nonneg _ (by omega), by have := Int.emod_lt_of_pos n1 (show 0 < u - l + 3 by omega); omega⟩
  have e1 : IntKind.i64.wrap (u - l) = u - l := IntWalk.i64_in _ (by omega)
  have e2 : IntKind.i64.wrap (u - l + 3) = u - l + 3 := IntWalk.i64_in _ (by omega)
  have e3 : IntKind.i64.wrap (l + d) = l + d := IntWalk.i64_in _ (by omega)
  have e4 : IntKind.i64.wrap (l + d - 1) = l + d - 1 := IntWalk.i64_in _ (by omega)
  have h1u : 1 ≤ u - l + 3 := by omega
  have h2u : u - l + 3 ≤ 1000000 := by omega
  have HD := Lib.hid hd
  have HM1 := Lib.hid hm1
  clear hd hm1
  have HQ := Lib.hid hq
  clear hq
  go_upto_region 5 with (go_at_call 20; refine (Held_is b p c r0 l u _ HK1.out hv hr b0 hl hu).mono ?_; rintro e wu ⟨rfl, y, rfl⟩)
  generalize hX : (ext W y).alloc _ = X0
  generalize hg : (ext W y).heap.size = gs at *
  have hBX : Below W.heap.size W X0 := by rw [← hX]; (repeat (first | (with_reducible exact Below.refl _ _) | (with_reducible assumption) | ((with_reducible refine below_ext_trans ?_ ?_ _); rotate_left; focus (((try dsimp only); repeat (first | omega | simp only [World.size_alloc, World.size_setCell, World.size_drew] | (with_reducible refine le_ext_of ?_) | (with_reducible refine le_ext_add ?_))); done)) | ((with_reducible refine Below.alloc ?_ ?_ _); rotate_left; focus (((try dsimp only); repeat (first | omega | simp only [World.size_alloc, World.size_setCell, World.size_drew] | (with_reducible refine le_ext_of ?_) | (with_reducible refine le_ext_add ?_))); done)) | ((with_reducible refine Below.setCell ?_ ?_ _); rotate_left; focus (((try dsimp only); repeat (first | omega | simp only [World.size_alloc, World.size_setCell, World.size_drew] | (with_reducible refine le_ext_of ?_) | (with_reducible refine le_ext_add ?_))); done)) | (with_reducible refine Below.drew ?_)))
  have HBX := Lib.hid (HBW.out.trans (hBX.mono HBW.out.size))
  have Nb := Lib.hid (show Blk X0 w.heap.size 26 #[.int .i64 b.lo, .int .i64 b.hi, .slice p b.ns.length c] from Kb.out.bel hBX)
  have Nn := Lib.hid (show Blk X0 (w.heap.size + 1) 27 #[.int .i64 n0, .int .i64 n1] from Kn.out.bel hBX)
  have Ns := Lib.hid (show Blk X0 gs 23 #[.int .i64 l, .int .i64 u] by rw [← hX]; exact Blk.new hg.symm)
  have HK2 := Lib.hid (HK1.out.bel hBX); clear HK1; have HK1 := HK2; clear HK2
  clear qb0 qb1 qb2 qn0 qn1 lb ln
  clear hX hBX HBW hg Kb Kn
  have Kb := Nb
  have Kn := Nn
  have Ks := Ns
  clear Nb Nn Ns
  have HBX0 := HBX
  clear HBX
  have qb0 := Kb.out.cell 0
  have qb1 := Kb.out.cell 1
  have qb2 := Kb.out.cell 2
  have lb := Kb.out.lt
  have qn0 := Kn.out.cell 0
  have qn1 := Kn.out.cell 1
  have ln := Kn.out.lt
  have qs0 := Ks.out.cell 0
  have qs1 := Ks.out.cell 1
  have ls := Ks.out.lt
  simp only [List.size_toArray, List.length_cons, List.length_nil, Nat.reduceAdd, Nat.reduceLT, getElem?_pos, List.getElem_toArray, List.getElem_cons_zero, List.getElem_cons_succ] at qb0 qb1 qb2 qn0 qn1 qs0 qs1
  go_upto_region 6 with (go_at_call 22; refine (Rate_is b p c r0 rl ru _ HK1.out hv hr b0 hrl hru).mono ?_; rintro e wu ⟨rfl, y, rfl⟩)
  generalize hX : (ext X0 y).alloc _ = X1
  generalize hg : (ext X0 y).heap.size = gr at *
  have hBX : Below X0.heap.size X0 X1 := by rw [← hX]; (repeat (first | (with_reducible exact Below.refl _ _) | (with_reducible assumption) | ((with_reducible refine below_ext_trans ?_ ?_ _); rotate_left; focus (((try dsimp only); repeat (first | omega | simp only [World.size_alloc, World.size_setCell, World.size_drew] | (with_reducible refine le_ext_of ?_) | (with_reducible refine le_ext_add ?_))); done)) | ((with_reducible refine Below.alloc ?_ ?_ _); rotate_left; focus (((try dsimp only); repeat (first | omega | simp only [World.size_alloc, World.size_setCell, World.size_drew] | (with_reducible refine le_ext_of ?_) | (with_reducible refine le_ext_add ?_))); done)) | ((with_reducible refine Below.setCell ?_ ?_ _); rotate_left; focus (((try dsimp only); repeat (first | omega | simp only [World.size_alloc, World.size_setCell, World.size_drew] | (with_reducible refine le_ext_of ?_) | (with_reducible refine le_ext_add ?_))); done)) | (with_reducible refine Below.drew ?_)))
  have HBX := Lib.hid (HBX0.out.trans (hBX.mono HBX0.out.size))
  have Nb := Lib.hid (show Blk X1 w.heap.size 26 #[.int .i64 b.lo, .int .i64 b.hi, .slice p b.ns.length c] from Kb.out.bel hBX)
  have Nn := Lib.hid (show Blk X1 (w.heap.size + 1) 27 #[.int .i64 n0, .int .i64 n1] from Kn.out.bel hBX)
  have Ns := Lib.hid (show Blk X1 gs 23 #[.int .i64 l, .int .i64 u] from Ks.out.bel hBX)
  have Nr := Lib.hid (show Blk X1 gr 23 #[.int .i64 rl, .int .i64 ru] by rw [← hX]; exact Blk.new hg.symm)
  have HK2 := Lib.hid (HK1.out.bel hBX); clear HK1; have HK1 := HK2; clear HK2
  clear qb0 qb1 qb2 qn0 qn1 qs0 qs1 lb ln ls
  clear hX hBX HBX0 hg Kb Kn Ks
  have Kb := Nb
  have Kn := Nn
  have Ks := Ns
  have Kr := Nr
  clear Nb Nn Ns Nr
  have HBX1 := HBX
  clear HBX
  have qb0 := Kb.out.cell 0
  have qb1 := Kb.out.cell 1
  have qb2 := Kb.out.cell 2
  have lb := Kb.out.lt
  have qn0 := Kn.out.cell 0
  have qn1 := Kn.out.cell 1
  have ln := Kn.out.lt
  have qs0 := Ks.out.cell 0
  have qs1 := Ks.out.cell 1
  have ls := Ks.out.lt
  have qr0 := Kr.out.cell 0
  have qr1 := Kr.out.cell 1
  have lr := Kr.out.lt
  simp only [List.size_toArray, List.length_cons, List.length_nil, Nat.reduceAdd, Nat.reduceLT, getElem?_pos, List.getElem_toArray, List.getElem_cons_zero, List.getElem_cons_succ] at qb0 qb1 qb2 qn0 qn1 qs0 qs1 qr0 qr1
  clear hl hu hrl hru
  go_upto_region 7 with (go_at_call 14; refine (Right_is b p c true _ HK1.out hv hr).mono ?_; rintro e wu ⟨rfl, y, rfl⟩)
  generalize hX : ext X1 y = X2 at *
  have hBX : Below X1.heap.size X1 X2 := by rw [← hX]; (repeat (first | (with_reducible exact Below.refl _ _) | (with_reducible assumption) | ((with_reducible refine below_ext_trans ?_ ?_ _); rotate_left; focus (((try dsimp only); repeat (first | omega | simp only [World.size_alloc, World.size_setCell, World.size_drew] | (with_reducible refine le_ext_of ?_) | (with_reducible refine le_ext_add ?_))); done)) | ((with_reducible refine Below.alloc ?_ ?_ _); rotate_left; focus (((try dsimp only); repeat (first | omega | simp only [World.size_alloc, World.size_setCell, World.size_drew] | (with_reducible refine le_ext_of ?_) | (with_reducible refine le_ext_add ?_))); done)) | ((with_reducible refine Below.setCell ?_ ?_ _); rotate_left; focus (((try dsimp only); repeat (first | omega | simp only [World.size_alloc, World.size_setCell, World.size_drew] | (with_reducible refine le_ext_of ?_) | (with_reducible refine le_ext_add ?_))); done)) | (with_reducible refine Below.drew ?_)))
  have HBX := Lib.hid (HBX1.out.trans (hBX.mono HBX1.out.size))
  have Nb := Lib.hid (show Blk X2 w.heap.size 26 #[.int .i64 b.lo, .int .i64 b.hi, .slice p b.ns.length c] from Kb.out.bel hBX)
  have Nn := Lib.hid (show Blk X2 (w.heap.size + 1) 27 #[.int .i64 n0, .int .i64 n1] from Kn.out.bel hBX)
  have Ns := Lib.hid (show Blk X2 gs 23 #[.int .i64 l, .int .i64 u] from Ks.out.bel hBX)
  have Nr := Lib.hid (show Blk X2 gr 23 #[.int .i64 rl, .int .i64 ru] from Kr.out.bel hBX)
  have HK2 := Lib.hid (HK1.out.bel hBX); clear HK1; have HK1 := HK2; clear HK2
  clear qb0 qb1 qb2 qn0 qn1 qs0 qs1 qr0 qr1 lb ln ls lr
  clear hX hBX HBX1 Kb Kn Ks Kr
  have Kb := Nb
  have Kn := Nn
  have Ks := Ns
  have Kr := Nr
  clear Nb Nn Ns Nr
  have HBX2 := HBX
  clear HBX
  have qb0 := Kb.out.cell 0
  have qb1 := Kb.out.cell 1
  have qb2 := Kb.out.cell 2
  have lb := Kb.out.lt
  have qn0 := Kn.out.cell 0
  have qn1 := Kn.out.cell 1
  have ln := Kn.out.lt
  have qs0 := Ks.out.cell 0
  have qs1 := Ks.out.cell 1
  have ls := Ks.out.lt
  have qr0 := Kr.out.cell 0
  have qr1 := Kr.out.cell 1
  have lr := Kr.out.lt
  simp only [List.size_toArray, List.length_cons, List.length_nil, Nat.reduceAdd, Nat.reduceLT, getElem?_pos, List.getElem_toArray, List.getElem_cons_zero, List.getElem_cons_succ] at qb0 qb1 qb2 qn0 qn1 qs0 qs1 qr0 qr1
  refine wp_region_ext (by kernel_rfl) (by kernel_rfl) ?_
  repeat (go_big_quiet_step (first | (go_at_call 39; exact quiet_ext (Just_any _ _))))
  (refine wpQuiet_nil ?_; rintro _ ⟨x, rfl⟩)
  generalize hX : ext X2 _ = Y3
  have hBX : Below X2.heap.size X2 Y3 := by rw [← hX]; exact below_ext _ _
  have HBY3 := Lib.hid (HBX2.out.trans (hBX.mono HBX2.out.size))
  have HK2 := Lib.hid (HK1.out.bel hBX); clear HK1; have HK1 := HK2; clear HK2
  have Nb := Lib.hid (show Blk Y3 w.heap.size 26 #[.int .i64 b.lo, .int .i64 b.hi, .slice p b.ns.length c] from Kb.out.bel hBX)
  have Nn := Lib.hid (show Blk Y3 (w.heap.size + 1) 27 #[.int .i64 n0, .int .i64 n1] from Kn.out.bel hBX)
  have Ns := Lib.hid (show Blk Y3 gs 23 #[.int .i64 l, .int .i64 u] from Ks.out.bel hBX)
  have Nr := Lib.hid (show Blk Y3 gr 23 #[.int .i64 rl, .int .i64 ru] from Kr.out.bel hBX)
  clear qb0 qb1 qb2 qn0 qn1 qs0 qs1 qr0 qr1 lb ln ls lr
  clear hX hBX HBX2 Kb Kn Ks Kr
  have Kb := Nb
  have Kn := Nn
  have Ks := Ns
  have Kr := Nr
  clear Nb Nn Ns Nr
  have qb0 := Kb.out.cell 0
  have qb1 := Kb.out.cell 1
  have qb2 := Kb.out.cell 2
  have lb := Kb.out.lt
  have qn0 := Kn.out.cell 0
  have qn1 := Kn.out.cell 1
  have ln := Kn.out.lt
  have qs0 := Ks.out.cell 0
  have qs1 := Ks.out.cell 1
  have ls := Ks.out.lt
  have qr0 := Kr.out.cell 0
  have qr1 := Kr.out.cell 1
  have lr := Kr.out.lt
  simp only [List.size_toArray, List.length_cons, List.length_nil, Nat.reduceAdd, Nat.reduceLT, getElem?_pos, List.getElem_toArray, List.getElem_cons_zero, List.getElem_cons_succ] at qb0 qb1 qb2 qn0 qn1 qs0 qs1 qr0 qr1
  go_upto_region 10 with (go_at_call 37; refine (Wheel_any n1 401 _ (by decide) (by decide)).mono ?_; rintro e wu ⟨rfl, y, rfl⟩)
  generalize hX : ext Y3 y = X4 at *
  have hBX : Below Y3.heap.size Y3 X4 := by rw [← hX]; (repeat (first | (with_reducible exact Below.refl _ _) | (with_reducible assumption) | ((with_reducible refine below_ext_trans ?_ ?_ _); rotate_left; focus (((try dsimp only); repeat (first | omega | simp only [World.size_alloc, World.size_setCell, World.size_drew] | (with_reducible refine le_ext_of ?_) | (with_reducible refine le_ext_add ?_))); done)) | ((with_reducible refine Below.alloc ?_ ?_ _); rotate_left; focus (((try dsimp only); repeat (first | omega | simp only [World.size_alloc, World.size_setCell, World.size_drew] | (with_reducible refine le_ext_of ?_) | (with_reducible refine le_ext_add ?_))); done)) | ((with_reducible refine Below.setCell ?_ ?_ _); rotate_left; focus (((try dsimp only); repeat (first | omega | simp only [World.size_alloc, World.size_setCell, World.size_drew] | (with_reducible refine le_ext_of ?_) | (with_reducible refine le_ext_add ?_))); done)) | (with_reducible refine Below.drew ?_)))
  have HBX := Lib.hid (HBY3.out.trans (hBX.mono HBY3.out.size))
  have Nb := Lib.hid (show Blk X4 w.heap.size 26 #[.int .i64 b.lo, .int .i64 b.hi, .slice p b.ns.length c] from Kb.out.bel hBX)
  have Nn := Lib.hid (show Blk X4 (w.heap.size + 1) 27 #[.int .i64 n0, .int .i64 n1] from Kn.out.bel hBX)
  have Ns := Lib.hid (show Blk X4 gs 23 #[.int .i64 l, .int .i64 u] from Ks.out.bel hBX)
  have Nr := Lib.hid (show Blk X4 gr 23 #[.int .i64 rl, .int .i64 ru] from Kr.out.bel hBX)
  have HK2 := Lib.hid (HK1.out.bel hBX); clear HK1; have HK1 := HK2; clear HK2
  clear qb0 qb1 qb2 qn0 qn1 qs0 qs1 qr0 qr1 lb ln ls lr
  clear hX hBX HBY3 Kb Kn Ks Kr
  have Kb := Nb
  have Kn := Nn
  have Ks := Ns
  have Kr := Nr
  clear Nb Nn Ns Nr
  have HBX4 := HBX
  clear HBX
  have qb0 := Kb.out.cell 0
  have qb1 := Kb.out.cell 1
  have qb2 := Kb.out.cell 2
  have lb := Kb.out.lt
  have qn0 := Kn.out.cell 0
  have qn1 := Kn.out.cell 1
  have ln := Kn.out.lt
  have qs0 := Ks.out.cell 0
  have qs1 := Ks.out.cell 1
  have ls := Ks.out.lt
  have qr0 := Kr.out.cell 0
  have qr1 := Kr.out.cell 1
  have lr := Kr.out.lt
  simp only [List.size_toArray, List.length_cons, List.length_nil, Nat.reduceAdd, Nat.reduceLT, getElem?_pos, List.getElem_toArray, List.getElem_cons_zero, List.getElem_cons_succ] at qb0 qb1 qb2 qn0 qn1 qs0 qs1 qr0 qr1
  have hq := HQ.out
  have q1 : (n1.tmod 3 == 0) = false := by simpa using hq
  have q2 : (n1.tmod 3 != 0) = true := by simpa using hq
  have q3 : decide (n1.tmod 3 = 0) = false := by simpa using hq
  go_upto_region 11 with fail
  have hd := HD.out
  have hm1 := HM1.out
  refine wp_region_ext (by kernel_rfl) (by kernel_rfl) ?_
  repeat (go_big_quiet_step (first | (go_at_call 37; first | exact quiet_ext (Wheel_any _ _ _ h1u h2u) | exact quiet_ext (Wheel_any _ 401 _ (by decide) (by decide)))))
  (refine wpQuiet_nil ?_; rintro _ ⟨x, rfl⟩)
  generalize hX : ext X4 _ = Y5
  have hBX : Below X4.heap.size X4 Y5 := by rw [← hX]; exact below_ext _ _
  have HBY5 := Lib.hid (HBX4.out.trans (hBX.mono HBX4.out.size))
  have HK2 := Lib.hid (HK1.out.bel hBX); clear HK1; have HK1 := HK2; clear HK2
  have Nb := Lib.hid (show Blk Y5 w.heap.size 26 #[.int .i64 b.lo, .int .i64 b.hi, .slice p b.ns.length c] from Kb.out.bel hBX)
  have Nn := Lib.hid (show Blk Y5 (w.heap.size + 1) 27 #[.int .i64 n0, .int .i64 n1] from Kn.out.bel hBX)
  have Ns := Lib.hid (show Blk Y5 gs 23 #[.int .i64 l, .int .i64 u] from Ks.out.bel hBX)
  have Nr := Lib.hid (show Blk Y5 gr 23 #[.int .i64 rl, .int .i64 ru] from Kr.out.bel hBX)
  clear qb0 qb1 qb2 qn0 qn1 qs0 qs1 qr0 qr1 lb ln ls lr
  clear hX hBX HBX4 Kb Kn Ks Kr
  have Kb := Nb
  have Kn := Nn
  have Ks := Ns
  have Kr := Nr
  clear Nb Nn Ns Nr
  have qb0 := Kb.out.cell 0
  have qb1 := Kb.out.cell 1
  have qb2 := Kb.out.cell 2
  have lb := Kb.out.lt
  have qn0 := Kn.out.cell 0
  have qn1 := Kn.out.cell 1
  have ln := Kn.out.lt
  have qs0 := Ks.out.cell 0
  have qs1 := Ks.out.cell 1
  have ls := Ks.out.lt
  have qr0 := Kr.out.cell 0
  have qr1 := Kr.out.cell 1
  have lr := Kr.out.lt
  simp only [List.size_toArray, List.length_cons, List.length_nil, Nat.reduceAdd, Nat.reduceLT, getElem?_pos, List.getElem_toArray, List.getElem_cons_zero, List.getElem_cons_succ] at qb0 qb1 qb2 qn0 qn1 qs0 qs1 qr0 qr1
  try simp only [hd, hm1]
  clear hd
  clear hm1
  go_upto_region 12 with fail
  refine wp_region_ext (by kernel_rfl) (by kernel_rfl) ?_
  repeat (go_big_quiet_step (first | (go_at_call 39; exact quiet_ext (Just_any _ _)) | (go_at_call 40; exact quiet_ext (note_any _ _ _ _ _)) | (go_at_call 29; exact quiet_ext (Fits_is b p c ⟨4, r0, m, m⟩ _ _ (HK1.out.bel (by (repeat (first | (with_reducible exact Below.refl _ _) | (with_reducible assumption) | ((with_reducible refine below_ext_trans ?_ ?_ _); rotate_left; focus (((try dsimp only); repeat (first | omega | simp only [World.size_alloc, World.size_setCell, World.size_drew] | (with_reducible refine le_ext_of ?_) | (with_reducible refine le_ext_add ?_))); done)) | ((with_reducible refine Below.alloc ?_ ?_ _); rotate_left; focus (((try dsimp only); repeat (first | omega | simp only [World.size_alloc, World.size_setCell, World.size_drew] | (with_reducible refine le_ext_of ?_) | (with_reducible refine le_ext_add ?_))); done)) | ((with_reducible refine Below.setCell ?_ ?_ _); rotate_left; focus (((try dsimp only); repeat (first | omega | simp only [World.size_alloc, World.size_setCell, World.size_drew] | (with_reducible refine le_ext_of ?_) | (with_reducible refine le_ext_add ?_))); done)) | (with_reducible refine Below.drew ?_))))) HC.out hv (sound_note b0 hm) hF))))
  (refine wpQuiet_nil ?_; rintro _ ⟨x, rfl⟩)
  generalize hX : ext Y5 _ = Y6
  have hBX : Below Y5.heap.size Y5 Y6 := by rw [← hX]; exact below_ext _ _
  have HBY6 := Lib.hid (HBY5.out.trans (hBX.mono HBY5.out.size))
  have HK2 := Lib.hid (HK1.out.bel hBX); clear HK1; have HK1 := HK2; clear HK2
  have Nb := Lib.hid (show Blk Y6 w.heap.size 26 #[.int .i64 b.lo, .int .i64 b.hi, .slice p b.ns.length c] from Kb.out.bel hBX)
  have Nn := Lib.hid (show Blk Y6 (w.heap.size + 1) 27 #[.int .i64 n0, .int .i64 n1] from Kn.out.bel hBX)
  have Ns := Lib.hid (show Blk Y6 gs 23 #[.int .i64 l, .int .i64 u] from Ks.out.bel hBX)
  have Nr := Lib.hid (show Blk Y6 gr 23 #[.int .i64 rl, .int .i64 ru] from Kr.out.bel hBX)
  clear qb0 qb1 qb2 qn0 qn1 qs0 qs1 qr0 qr1 lb ln ls lr
  clear hX hBX HBY5 Kb Kn Ks Kr
  have Kb := Nb
  have Kn := Nn
  have Ks := Ns
  have Kr := Nr
  clear Nb Nn Ns Nr
  have qb0 := Kb.out.cell 0
  have qb1 := Kb.out.cell 1
  have qb2 := Kb.out.cell 2
  have lb := Kb.out.lt
  have qn0 := Kn.out.cell 0
  have qn1 := Kn.out.cell 1
  have ln := Kn.out.lt
  have qs0 := Ks.out.cell 0
  have qs1 := Ks.out.cell 1
  have ls := Ks.out.lt
  have qr0 := Kr.out.cell 0
  have qr1 := Kr.out.cell 1
  have lr := Kr.out.lt
  simp only [List.size_toArray, List.length_cons, List.length_nil, Nat.reduceAdd, Nat.reduceLT, getElem?_pos, List.getElem_toArray, List.getElem_cons_zero, List.getElem_cons_succ] at qb0 qb1 qb2 qn0 qn1 qs0 qs1 qr0 qr1
  go_upto_region 14 with (go_at_call 18; refine (Can_is b p c r0 m true _ HK1.out hv hr b0 hm hcm).mono ?_; rintro e wu ⟨rfl, y, rfl⟩)
  generalize hX : ext Y6 y = X7 at *
  have hBX : Below Y6.heap.size Y6 X7 := by rw [← hX]; (repeat (first | (with_reducible exact Below.refl _ _) | (with_reducible assumption) | ((with_reducible refine below_ext_trans ?_ ?_ _); rotate_left; focus (((try dsimp only); repeat (first | omega | simp only [World.size_alloc, World.size_setCell, World.size_drew] | (with_reducible refine le_ext_of ?_) | (with_reducible refine le_ext_add ?_))); done)) | ((with_reducible refine Below.alloc ?_ ?_ _); rotate_left; focus (((try dsimp only); repeat (first | omega | simp only [World.size_alloc, World.size_setCell, World.size_drew] | (with_reducible refine le_ext_of ?_) | (with_reducible refine le_ext_add ?_))); done)) | ((with_reducible refine Below.setCell ?_ ?_ _); rotate_left; focus (((try dsimp only); repeat (first | omega | simp only [World.size_alloc, World.size_setCell, World.size_drew] | (with_reducible refine le_ext_of ?_) | (with_reducible refine le_ext_add ?_))); done)) | (with_reducible refine Below.drew ?_)))
  have HBX := Lib.hid (HBY6.out.trans (hBX.mono HBY6.out.size))
  have Nb := Lib.hid (show Blk X7 w.heap.size 26 #[.int .i64 b.lo, .int .i64 b.hi, .slice p b.ns.length c] from Kb.out.bel hBX)
  have Nn := Lib.hid (show Blk X7 (w.heap.size + 1) 27 #[.int .i64 n0, .int .i64 n1] from Kn.out.bel hBX)
  have Ns := Lib.hid (show Blk X7 gs 23 #[.int .i64 l, .int .i64 u] from Ks.out.bel hBX)
  have Nr := Lib.hid (show Blk X7 gr 23 #[.int .i64 rl, .int .i64 ru] from Kr.out.bel hBX)
  have HK2 := Lib.hid (HK1.out.bel hBX); clear HK1; have HK1 := HK2; clear HK2
  clear qb0 qb1 qb2 qn0 qn1 qs0 qs1 qr0 qr1 lb ln ls lr
  clear hX hBX HBY6 Kb Kn Ks Kr
  have Kb := Nb
  have Kn := Nn
  have Ks := Ns
  have Kr := Nr
  clear Nb Nn Ns Nr
  have HBX7 := HBX
  clear HBX
  have qb0 := Kb.out.cell 0
  have qb1 := Kb.out.cell 1
  have qb2 := Kb.out.cell 2
  have lb := Kb.out.lt
  have qn0 := Kn.out.cell 0
  have qn1 := Kn.out.cell 1
  have ln := Kn.out.lt
  have qs0 := Ks.out.cell 0
  have qs1 := Ks.out.cell 1
  have ls := Ks.out.lt
  have qr0 := Kr.out.cell 0
  have qr1 := Kr.out.cell 1
  have lr := Kr.out.lt
  simp only [List.size_toArray, List.length_cons, List.length_nil, Nat.reduceAdd, Nat.reduceLT, getElem?_pos, List.getElem_toArray, List.getElem_cons_zero, List.getElem_cons_succ] at qb0 qb1 qb2 qn0 qn1 qs0 qs1 qr0 qr1
  go_upto_region 16 with (go_at_call 36; refine (Holds_yes l u m _ m1 m2).mono ?_; rintro e wu ⟨rfl, y, rfl⟩)
  generalize hX : ext X7 y = X8 at *
  have hBX : Below X7.heap.size X7 X8 := by rw [← hX]; (repeat (first | (with_reducible exact Below.refl _ _) | (with_reducible assumption) | ((with_reducible refine below_ext_trans ?_ ?_ _); rotate_left; focus (((try dsimp only); repeat (first | omega | simp only [World.size_alloc, World.size_setCell, World.size_drew] | (with_reducible refine le_ext_of ?_) | (with_reducible refine le_ext_add ?_))); done)) | ((with_reducible refine Below.alloc ?_ ?_ _); rotate_left; focus (((try dsimp only); repeat (first | omega | simp only [World.size_alloc, World.size_setCell, World.size_drew] | (with_reducible refine le_ext_of ?_) | (with_reducible refine le_ext_add ?_))); done)) | ((with_reducible refine Below.setCell ?_ ?_ _); rotate_left; focus (((try dsimp only); repeat (first | omega | simp only [World.size_alloc, World.size_setCell, World.size_drew] | (with_reducible refine le_ext_of ?_) | (with_reducible refine le_ext_add ?_))); done)) | (with_reducible refine Below.drew ?_)))
  have HBX := Lib.hid (HBX7.out.trans (hBX.mono HBX7.out.size))
  have Nb := Lib.hid (show Blk X8 w.heap.size 26 #[.int .i64 b.lo, .int .i64 b.hi, .slice p b.ns.length c] from Kb.out.bel hBX)
  have Nn := Lib.hid (show Blk X8 (w.heap.size + 1) 27 #[.int .i64 n0, .int .i64 n1] from Kn.out.bel hBX)
  have Ns := Lib.hid (show Blk X8 gs 23 #[.int .i64 l, .int .i64 u] from Ks.out.bel hBX)
  have Nr := Lib.hid (show Blk X8 gr 23 #[.int .i64 rl, .int .i64 ru] from Kr.out.bel hBX)
  have HK2 := Lib.hid (HK1.out.bel hBX); clear HK1; have HK1 := HK2; clear HK2
  clear qb0 qb1 qb2 qn0 qn1 qs0 qs1 qr0 qr1 lb ln ls lr
  clear hX hBX HBX7 Kb Kn Ks Kr
  have Kb := Nb
  have Kn := Nn
  have Ks := Ns
  have Kr := Nr
  clear Nb Nn Ns Nr
  have HBX8 := HBX
  clear HBX
  have qb0 := Kb.out.cell 0
  have qb1 := Kb.out.cell 1
  have qb2 := Kb.out.cell 2
  have lb := Kb.out.lt
  have qn0 := Kn.out.cell 0
  have qn1 := Kn.out.cell 1
  have ln := Kn.out.lt
  have qs0 := Ks.out.cell 0
  have qs1 := Ks.out.cell 1
  have ls := Ks.out.lt
  have qr0 := Kr.out.cell 0
  have qr1 := Kr.out.cell 1
  have lr := Kr.out.lt
  simp only [List.size_toArray, List.length_cons, List.length_nil, Nat.reduceAdd, Nat.reduceLT, getElem?_pos, List.getElem_toArray, List.getElem_cons_zero, List.getElem_cons_succ] at qb0 qb1 qb2 qn0 qn1 qs0 qs1 qr0 qr1
  go_upto_region 19 with (go_at_call 18; refine (Can_is b p c r0 l true _ HK1.out hv hr b0 hlb hcl).mono ?_; rintro e wu ⟨rfl, y, rfl⟩)
  generalize hX : ext X8 y = X9 at *
  have hBX : Below X8.heap.size X8 X9 := by rw [← hX]; (repeat (first | (with_reducible exact Below.refl _ _) | (with_reducible assumption) | ((with_reducible refine below_ext_trans ?_ ?_ _); rotate_left; focus (((try dsimp only); repeat (first | omega | simp only [World.size_alloc, World.size_setCell, World.size_drew] | (with_reducible refine le_ext_of ?_) | (with_reducible refine le_ext_add ?_))); done)) | ((with_reducible refine Below.alloc ?_ ?_ _); rotate_left; focus (((try dsimp only); repeat (first | omega | simp only [World.size_alloc, World.size_setCell, World.size_drew] | (with_reducible refine le_ext_of ?_) | (with_reducible refine le_ext_add ?_))); done)) | ((with_reducible refine Below.setCell ?_ ?_ _); rotate_left; focus (((try dsimp only); repeat (first | omega | simp only [World.size_alloc, World.size_setCell, World.size_drew] | (with_reducible refine le_ext_of ?_) | (with_reducible refine le_ext_add ?_))); done)) | (with_reducible refine Below.drew ?_)))
  have HBX := Lib.hid (HBX8.out.trans (hBX.mono HBX8.out.size))
  have Nb := Lib.hid (show Blk X9 w.heap.size 26 #[.int .i64 b.lo, .int .i64 b.hi, .slice p b.ns.length c] from Kb.out.bel hBX)
  have Nn := Lib.hid (show Blk X9 (w.heap.size + 1) 27 #[.int .i64 n0, .int .i64 n1] from Kn.out.bel hBX)
  have Ns := Lib.hid (show Blk X9 gs 23 #[.int .i64 l, .int .i64 u] from Ks.out.bel hBX)
  have Nr := Lib.hid (show Blk X9 gr 23 #[.int .i64 rl, .int .i64 ru] from Kr.out.bel hBX)
  have HK2 := Lib.hid (HK1.out.bel hBX); clear HK1; have HK1 := HK2; clear HK2
  clear qb0 qb1 qb2 qn0 qn1 qs0 qs1 qr0 qr1 lb ln ls lr
  clear hX hBX HBX8 Kb Kn Ks Kr
  have Kb := Nb
  have Kn := Nn
  have Ks := Ns
  have Kr := Nr
  clear Nb Nn Ns Nr
  have HBX9 := HBX
  clear HBX
  have qb0 := Kb.out.cell 0
  have qb1 := Kb.out.cell 1
  have qb2 := Kb.out.cell 2
  have lb := Kb.out.lt
  have qn0 := Kn.out.cell 0
  have qn1 := Kn.out.cell 1
  have ln := Kn.out.lt
  have qs0 := Ks.out.cell 0
  have qs1 := Ks.out.cell 1
  have ls := Ks.out.lt
  have qr0 := Kr.out.cell 0
  have qr1 := Kr.out.cell 1
  have lr := Kr.out.lt
  simp only [List.size_toArray, List.length_cons, List.length_nil, Nat.reduceAdd, Nat.reduceLT, getElem?_pos, List.getElem_toArray, List.getElem_cons_zero, List.getElem_cons_succ] at qb0 qb1 qb2 qn0 qn1 qs0 qs1 qr0 qr1
  go_upto_region 20 with (go_at_call 18; refine (Can_is b p c r0 u true _ HK1.out hv hr b0 hub hcu).mono ?_; rintro e wu ⟨rfl, y, rfl⟩)
  generalize hX : ext X9 y = X10 at *
  have hBX : Below X9.heap.size X9 X10 := by rw [← hX]; (repeat (first | (with_reducible exact Below.refl _ _) | (with_reducible assumption) | ((with_reducible refine below_ext_trans ?_ ?_ _); rotate_left; focus (((try dsimp only); repeat (first | omega | simp only [World.size_alloc, World.size_setCell, World.size_drew] | (with_reducible refine le_ext_of ?_) | (with_reducible refine le_ext_add ?_))); done)) | ((with_reducible refine Below.alloc ?_ ?_ _); rotate_left; focus (((try dsimp only); repeat (first | omega | simp only [World.size_alloc, World.size_setCell, World.size_drew] | (with_reducible refine le_ext_of ?_) | (with_reducible refine le_ext_add ?_))); done)) | ((with_reducible refine Below.setCell ?_ ?_ _); rotate_left; focus (((try dsimp only); repeat (first | omega | simp only [World.size_alloc, World.size_setCell, World.size_drew] | (with_reducible refine le_ext_of ?_) | (with_reducible refine le_ext_add ?_))); done)) | (with_reducible refine Below.drew ?_)))
  have HBX := Lib.hid (HBX9.out.trans (hBX.mono HBX9.out.size))
  have Nb := Lib.hid (show Blk X10 w.heap.size 26 #[.int .i64 b.lo, .int .i64 b.hi, .slice p b.ns.length c] from Kb.out.bel hBX)
  have Nn := Lib.hid (show Blk X10 (w.heap.size + 1) 27 #[.int .i64 n0, .int .i64 n1] from Kn.out.bel hBX)
  have Ns := Lib.hid (show Blk X10 gs 23 #[.int .i64 l, .int .i64 u] from Ks.out.bel hBX)
  have Nr := Lib.hid (show Blk X10 gr 23 #[.int .i64 rl, .int .i64 ru] from Kr.out.bel hBX)
  have HK2 := Lib.hid (HK1.out.bel hBX); clear HK1; have HK1 := HK2; clear HK2
  clear qb0 qb1 qb2 qn0 qn1 qs0 qs1 qr0 qr1 lb ln ls lr
  clear hX hBX HBX9 Kb Kn Ks Kr
  have Kb := Nb
  have Kn := Nn
  have Ks := Ns
  have Kr := Nr
  clear Nb Nn Ns Nr
  have HBX10 := HBX
  clear HBX
  have qb0 := Kb.out.cell 0
  have qb1 := Kb.out.cell 1
  have qb2 := Kb.out.cell 2
  have lb := Kb.out.lt
  have qn0 := Kn.out.cell 0
  have qn1 := Kn.out.cell 1
  have ln := Kn.out.lt
  have qs0 := Ks.out.cell 0
  have qs1 := Ks.out.cell 1
  have ls := Ks.out.lt
  have qr0 := Kr.out.cell 0
  have qr1 := Kr.out.cell 1
  have lr := Kr.out.lt
  simp only [List.size_toArray, List.length_cons, List.length_nil, Nat.reduceAdd, Nat.reduceLT, getElem?_pos, List.getElem_toArray, List.getElem_cons_zero, List.getElem_cons_succ] at qb0 qb1 qb2 qn0 qn1 qs0 qs1 qr0 qr1
  go_wp2_with (first | (go_at_call 41; refine (Sane_yes _ _ _ _ _ (by assumption) (by assumption) (by assumption)).mono ?_; rintro e w1 ⟨rfl, y, rfl⟩) | (go_at_call 24; refine (sounded_any _ (HK1.out.mm.below (by (repeat (first | (with_reducible exact Below.refl _ _) | (with_reducible assumption) | ((with_reducible refine below_ext_trans ?_ ?_ _); rotate_left; focus (((try dsimp only); repeat (first | omega | simp only [World.size_alloc, World.size_setCell, World.size_drew] | (with_reducible refine le_ext_of ?_) | (with_reducible refine le_ext_add ?_))); done)) | ((with_reducible refine Below.alloc ?_ ?_ _); rotate_left; focus (((try dsimp only); repeat (first | omega | simp only [World.size_alloc, World.size_setCell, World.size_drew] | (with_reducible refine le_ext_of ?_) | (with_reducible refine le_ext_add ?_))); done)) | ((with_reducible refine Below.setCell ?_ ?_ _); rotate_left; focus (((try dsimp only); repeat (first | omega | simp only [World.size_alloc, World.size_setCell, World.size_drew] | (with_reducible refine le_ext_of ?_) | (with_reducible refine le_ext_add ?_))); done)) | (with_reducible refine Below.drew ?_)))))).mono ?_; rintro e w1 ⟨rfl, y, rfl⟩))
  go_ret
  exact ⟨rfl, ext_of (HBX10.out.trans ((below_ext _ _).mono HBX10.out.size))⟩
end Go.Proofs.YtnckampdbbcehaaDoor

namespace Go.Proofs.YtnckampdbbcehaaDoor
open Go Go.RowKit Go.Shelf
attribute [local go_sem] Oper.semAt_some frozen_alloc_lt
set_option maxRecDepth 100000 in
set_option maxHeartbeats 8000000 in
theorem SeineEnds_Af (b : Sn) (p : Option Addr) (c : Nat) (n0 n1 r0 : Int) (w : World) (hk : SBk w b p) (hc : SBc b p c) (hv : snB b = true) (hr0 : n0 % 61 = r0) (l u rl ru d m : Int) (hr : rightS b = true) (hl : minF Prod.fst 400 (atL b r0) = l) (hu : maxF Prod.fst 0 (atL b r0) = u) (hrl : minF Prod.snd 400 (atL b r0) = rl) (hru : maxF Prod.snd 0 (atL b r0) = ru) (s1 : 0 ≤ l) (s2 : l ≤ u) (s3 : u ≤ 400) (s4 : 0 ≤ rl) (s5 : rl ≤ ru) (hq : ¬ n1.tmod 3 = 0) (hd : n1 % (u - l + 3) = d) (hm1 : (l + d - 1) % 401 = m) (hF : rightS (withS b ⟨4, r0, m, m⟩) = false) (hcm : canB b r0 m = false) (hcl : canB b r0 l = true) (hcu : canB b r0 u = true) :
    Calls Tryd.prog 7 #[bV b p c, .agg #[.int .i64 n0, .int .i64 n1]] w fun e w' => e = .returned (.bool true) ∧ ∃ x, w' = ext w x := by
  have HK := Lib.hid hk
  have HC := Lib.hid hc
  clear hk hc
  have b0 : 0 ≤ r0 ∧ r0 ≤ 60 := by omega
  go_enter Tryd.func7, Tryd.ntmps7
  go_upto_region 4 with (first
    | (go_at_call 34; refine (sound_yes b p c _ (HK.out.bel (by (repeat (first | (with_reducible exact Below.refl _ _) | (with_reducible assumption) | ((with_reducible refine below_ext_trans ?_ ?_ _); rotate_left; focus (((try dsimp only); repeat (first | omega | simp only [World.size_alloc, World.size_setCell, World.size_drew] | (with_reducible refine le_ext_of ?_) | (with_reducible refine le_ext_add ?_))); done)) | ((with_reducible refine Below.alloc ?_ ?_ _); rotate_left; focus (((try dsimp only); repeat (first | omega | simp only [World.size_alloc, World.size_setCell, World.size_drew] | (with_reducible refine le_ext_of ?_) | (with_reducible refine le_ext_add ?_))); done)) | ((with_reducible refine Below.setCell ?_ ?_ _); rotate_left; focus (((try dsimp only); repeat (first | omega | simp only [World.size_alloc, World.size_setCell, World.size_drew] | (with_reducible refine le_ext_of ?_) | (with_reducible refine le_ext_add ?_))); done)) | (with_reducible refine Below.drew ?_))))) hv).mono ?_; rintro e w1 ⟨rfl, y, rfl⟩)
    | (go_at_call 37; refine (Wheel_eq n0 61 r0 _ (by decide) hr0).mono ?_; rintro e w1 ⟨rfl, y, rfl⟩))
  generalize hX : ext ((w.alloc _).alloc _) _ = W
  have hB : Below w.heap.size w W := by rw [← hX]; (repeat (first | (with_reducible exact Below.refl _ _) | (with_reducible assumption) | ((with_reducible refine below_ext_trans ?_ ?_ _); rotate_left; focus (((try dsimp only); repeat (first | omega | simp only [World.size_alloc, World.size_setCell, World.size_drew] | (with_reducible refine le_ext_of ?_) | (with_reducible refine le_ext_add ?_))); done)) | ((with_reducible refine Below.alloc ?_ ?_ _); rotate_left; focus (((try dsimp only); repeat (first | omega | simp only [World.size_alloc, World.size_setCell, World.size_drew] | (with_reducible refine le_ext_of ?_) | (with_reducible refine le_ext_add ?_))); done)) | ((with_reducible refine Below.setCell ?_ ?_ _); rotate_left; focus (((try dsimp only); repeat (first | omega | simp only [World.size_alloc, World.size_setCell, World.size_drew] | (with_reducible refine le_ext_of ?_) | (with_reducible refine le_ext_add ?_))); done)) | (with_reducible refine Below.drew ?_)))
  have Kb := Lib.hid (show Blk W w.heap.size 26 #[.int .i64 b.lo, .int .i64 b.hi, .slice p b.ns.length c] by rw [← hX]; exact ((Blk.new rfl).alloc _).ext _)
  have Kn := Lib.hid (show Blk W (w.heap.size + 1) 27 #[.int .i64 n0, .int .i64 n1] by rw [← hX]; exact (Blk.new (by simp)).ext _)
  have HBW := Lib.hid hB
  have HK1 := Lib.hid (HK.out.bel hB)
  clear hX hB HK hr0
  have qb0 := Kb.out.cell 0
  have qb1 := Kb.out.cell 1
  have qb2 := Kb.out.cell 2
  have lb := Kb.out.lt
  have qn0 := Kn.out.cell 0
  have qn1 := Kn.out.cell 1
  have ln := Kn.out.lt
  simp only [List.size_toArray, List.length_cons, List.length_nil, Nat.reduceAdd, Nat.reduceLT, getElem?_pos, List.getElem_toArray, List.getElem_cons_zero, List.getElem_cons_succ] at qb0 qb1 qb2 qn0 qn1
  have hm : 0 ≤ m ∧ m ≤ 400 := by omega
  have hlb : 0 ≤ l ∧ l ≤ 400 := by omega
  have hub : 0 ≤ u ∧ u ≤ 400 := by omega
  have hdb : 0 ≤ d ∧ d ≤ 402 := by rw [← hd]; exact ⟨Int.emod_nonneg _ (by omega), by have := Int.emod_lt_of_pos n1 (show 0 < u - l + 3 by omega); omega⟩
  have e1 : IntKind.i64.wrap (u - l) = u - l := IntWalk.i64_in _ (by omega)
  have e2 : IntKind.i64.wrap (u - l + 3) = u - l + 3 := IntWalk.i64_in _ (by omega)
  have e3 : IntKind.i64.wrap (l + d) = l + d := IntWalk.i64_in _ (by omega)
  have e4 : IntKind.i64.wrap (l + d - 1) = l + d - 1 := IntWalk.i64_in _ (by omega)
  have h1u : 1 ≤ u - l + 3 := by omega
  have h2u : u - l + 3 ≤ 1000000 := by omega
  have HD := Lib.hid hd
  have HM1 := Lib.hid hm1
  clear hd hm1
  have HQ := Lib.hid hq
  clear hq
  go_upto_region 5 with (go_at_call 20; refine (Held_is b p c r0 l u _ HK1.out hv hr b0 hl hu).mono ?_; rintro e wu ⟨rfl, y, rfl⟩)
  generalize hX : (ext W y).alloc _ = X0
  generalize hg : (ext W y).heap.size = gs at *
  have hBX : Below W.heap.size W X0 := by rw [← hX]; (repeat (first | (with_reducible exact Below.refl _ _) | (with_reducible assumption) | ((with_reducible refine below_ext_trans ?_ ?_ _); rotate_left; focus (((try dsimp only); repeat (first | omega | simp only [World.size_alloc, World.size_setCell, World.size_drew] | (with_reducible refine le_ext_of ?_) | (with_reducible refine le_ext_add ?_))); done)) | ((with_reducible refine Below.alloc ?_ ?_ _); rotate_left; focus (((try dsimp only); repeat (first | omega | simp only [World.size_alloc, World.size_setCell, World.size_drew] | (with_reducible refine le_ext_of ?_) | (with_reducible refine le_ext_add ?_))); done)) | ((with_reducible refine Below.setCell ?_ ?_ _); rotate_left; focus (((try dsimp only); repeat (first | omega | simp only [World.size_alloc, World.size_setCell, World.size_drew] | (with_reducible refine le_ext_of ?_) | (with_reducible refine le_ext_add ?_))); done)) | (with_reducible refine Below.drew ?_)))
  have HBX := Lib.hid (HBW.out.trans (hBX.mono HBW.out.size))
  have Nb := Lib.hid (show Blk X0 w.heap.size 26 #[.int .i64 b.lo, .int .i64 b.hi, .slice p b.ns.length c] from Kb.out.bel hBX)
  have Nn := Lib.hid (show Blk X0 (w.heap.size + 1) 27 #[.int .i64 n0, .int .i64 n1] from Kn.out.bel hBX)
  have Ns := Lib.hid (show Blk X0 gs 23 #[.int .i64 l, .int .i64 u] by rw [← hX]; exact Blk.new hg.symm)
  have HK2 := Lib.hid (HK1.out.bel hBX); clear HK1; have HK1 := HK2; clear HK2
  clear qb0 qb1 qb2 qn0 qn1 lb ln
  clear hX hBX HBW hg Kb Kn
  have Kb := Nb
  have Kn := Nn
  have Ks := Ns
  clear Nb Nn Ns
  have HBX0 := HBX
  clear HBX
  have qb0 := Kb.out.cell 0
  have qb1 := Kb.out.cell 1
  have qb2 := Kb.out.cell 2
  have lb := Kb.out.lt
  have qn0 := Kn.out.cell 0
  have qn1 := Kn.out.cell 1
  have ln := Kn.out.lt
  have qs0 := Ks.out.cell 0
  have qs1 := Ks.out.cell 1
  have ls := Ks.out.lt
  simp only [List.size_toArray, List.length_cons, List.length_nil, Nat.reduceAdd, Nat.reduceLT, getElem?_pos, List.getElem_toArray, List.getElem_cons_zero, List.getElem_cons_succ] at qb0 qb1 qb2 qn0 qn1 qs0 qs1
  go_upto_region 6 with (go_at_call 22; refine (Rate_is b p c r0 rl ru _ HK1.out hv hr b0 hrl hru).mono ?_; rintro e wu ⟨rfl, y, rfl⟩)
  generalize hX : (ext X0 y).alloc _ = X1
  generalize hg : (ext X0 y).heap.size = gr at *
  have hBX : Below X0.heap.size X0 X1 := by rw [← hX]; (repeat (first | (with_reducible exact Below.refl _ _) | (with_reducible assumption) | ((with_reducible refine below_ext_trans ?_ ?_ _); rotate_left; focus (((try dsimp only); repeat (first | omega | simp only [World.size_alloc, World.size_setCell, World.size_drew] | (with_reducible refine le_ext_of ?_) | (with_reducible refine le_ext_add ?_))); done)) | ((with_reducible refine Below.alloc ?_ ?_ _); rotate_left; focus (((try dsimp only); repeat (first | omega | simp only [World.size_alloc, World.size_setCell, World.size_drew] | (with_reducible refine le_ext_of ?_) | (with_reducible refine le_ext_add ?_))); done)) | ((with_reducible refine Below.setCell ?_ ?_ _); rotate_left; focus (((try dsimp only); repeat (first | omega | simp only [World.size_alloc, World.size_setCell, World.size_drew] | (with_reducible refine le_ext_of ?_) | (with_reducible refine le_ext_add ?_))); done)) | (with_reducible refine Below.drew ?_)))
  have HBX := Lib.hid (HBX0.out.trans (hBX.mono HBX0.out.size))
  have Nb := Lib.hid (show Blk X1 w.heap.size 26 #[.int .i64 b.lo, .int .i64 b.hi, .slice p b.ns.length c] from Kb.out.bel hBX)
  have Nn := Lib.hid (show Blk X1 (w.heap.size + 1) 27 #[.int .i64 n0, .int .i64 n1] from Kn.out.bel hBX)
  have Ns := Lib.hid (show Blk X1 gs 23 #[.int .i64 l, .int .i64 u] from Ks.out.bel hBX)
  have Nr := Lib.hid (show Blk X1 gr 23 #[.int .i64 rl, .int .i64 ru] by rw [← hX]; exact Blk.new hg.symm)
  have HK2 := Lib.hid (HK1.out.bel hBX); clear HK1; have HK1 := HK2; clear HK2
  clear qb0 qb1 qb2 qn0 qn1 qs0 qs1 lb ln ls
  clear hX hBX HBX0 hg Kb Kn Ks
  have Kb := Nb
  have Kn := Nn
  have Ks := Ns
  have Kr := Nr
  clear Nb Nn Ns Nr
  have HBX1 := HBX
  clear HBX
  have qb0 := Kb.out.cell 0
  have qb1 := Kb.out.cell 1
  have qb2 := Kb.out.cell 2
  have lb := Kb.out.lt
  have qn0 := Kn.out.cell 0
  have qn1 := Kn.out.cell 1
  have ln := Kn.out.lt
  have qs0 := Ks.out.cell 0
  have qs1 := Ks.out.cell 1
  have ls := Ks.out.lt
  have qr0 := Kr.out.cell 0
  have qr1 := Kr.out.cell 1
  have lr := Kr.out.lt
  simp only [List.size_toArray, List.length_cons, List.length_nil, Nat.reduceAdd, Nat.reduceLT, getElem?_pos, List.getElem_toArray, List.getElem_cons_zero, List.getElem_cons_succ] at qb0 qb1 qb2 qn0 qn1 qs0 qs1 qr0 qr1
  clear hl hu hrl hru
  go_upto_region 7 with (go_at_call 14; refine (Right_is b p c true _ HK1.out hv hr).mono ?_; rintro e wu ⟨rfl, y, rfl⟩)
  generalize hX : ext X1 y = X2 at *
  have hBX : Below X1.heap.size X1 X2 := by rw [← hX]; (repeat (first | (with_reducible exact Below.refl _ _) | (with_reducible assumption) | ((with_reducible refine below_ext_trans ?_ ?_ _); rotate_left; focus (((try dsimp only); repeat (first | omega | simp only [World.size_alloc, World.size_setCell, World.size_drew] | (with_reducible refine le_ext_of ?_) | (with_reducible refine le_ext_add ?_))); done)) | ((with_reducible refine Below.alloc ?_ ?_ _); rotate_left; focus (((try dsimp only); repeat (first | omega | simp only [World.size_alloc, World.size_setCell, World.size_drew] | (with_reducible refine le_ext_of ?_) | (with_reducible refine le_ext_add ?_))); done)) | ((with_reducible refine Below.setCell ?_ ?_ _); rotate_left; focus (((try dsimp only); repeat (first | omega | simp only [World.size_alloc, World.size_setCell, World.size_drew] | (with_reducible refine le_ext_of ?_) | (with_reducible refine le_ext_add ?_))); done)) | (with_reducible refine Below.drew ?_)))
  have HBX := Lib.hid (HBX1.out.trans (hBX.mono HBX1.out.size))
  have Nb := Lib.hid (show Blk X2 w.heap.size 26 #[.int .i64 b.lo, .int .i64 b.hi, .slice p b.ns.length c] from Kb.out.bel hBX)
  have Nn := Lib.hid (show Blk X2 (w.heap.size + 1) 27 #[.int .i64 n0, .int .i64 n1] from Kn.out.bel hBX)
  have Ns := Lib.hid (show Blk X2 gs 23 #[.int .i64 l, .int .i64 u] from Ks.out.bel hBX)
  have Nr := Lib.hid (show Blk X2 gr 23 #[.int .i64 rl, .int .i64 ru] from Kr.out.bel hBX)
  have HK2 := Lib.hid (HK1.out.bel hBX); clear HK1; have HK1 := HK2; clear HK2
  clear qb0 qb1 qb2 qn0 qn1 qs0 qs1 qr0 qr1 lb ln ls lr
  clear hX hBX HBX1 Kb Kn Ks Kr
  have Kb := Nb
  have Kn := Nn
  have Ks := Ns
  have Kr := Nr
  clear Nb Nn Ns Nr
  have HBX2 := HBX
  clear HBX
  have qb0 := Kb.out.cell 0
  have qb1 := Kb.out.cell 1
  have qb2 := Kb.out.cell 2
  have lb := Kb.out.lt
  have qn0 := Kn.out.cell 0
  have qn1 := Kn.out.cell 1
  have ln := Kn.out.lt
  have qs0 := Ks.out.cell 0
  have qs1 := Ks.out.cell 1
  have ls := Ks.out.lt
  have qr0 := Kr.out.cell 0
  have qr1 := Kr.out.cell 1
  have lr := Kr.out.lt
  simp only [List.size_toArray, List.length_cons, List.length_nil, Nat.reduceAdd, Nat.reduceLT, getElem?_pos, List.getElem_toArray, List.getElem_cons_zero, List.getElem_cons_succ] at qb0 qb1 qb2 qn0 qn1 qs0 qs1 qr0 qr1
  refine wp_region_ext (by kernel_rfl) (by kernel_rfl) ?_
  repeat (go_big_quiet_step (first | (go_at_call 39; exact quiet_ext (Just_any _ _))))
  (refine wpQuiet_nil ?_; rintro _ ⟨x, rfl⟩)
  generalize hX : ext X2 _ = Y3
  have hBX : Below X2.heap.size X2 Y3 := by rw [← hX]; exact below_ext _ _
  have HBY3 := Lib.hid (HBX2.out.trans (hBX.mono HBX2.out.size))
  have HK2 := Lib.hid (HK1.out.bel hBX); clear HK1; have HK1 := HK2; clear HK2
  have Nb := Lib.hid (show Blk Y3 w.heap.size 26 #[.int .i64 b.lo, .int .i64 b.hi, .slice p b.ns.length c] from Kb.out.bel hBX)
  have Nn := Lib.hid (show Blk Y3 (w.heap.size + 1) 27 #[.int .i64 n0, .int .i64 n1] from Kn.out.bel hBX)
  have Ns := Lib.hid (show Blk Y3 gs 23 #[.int .i64 l, .int .i64 u] from Ks.out.bel hBX)
  have Nr := Lib.hid (show Blk Y3 gr 23 #[.int .i64 rl, .int .i64 ru] from Kr.out.bel hBX)
  clear qb0 qb1 qb2 qn0 qn1 qs0 qs1 qr0 qr1 lb ln ls lr
  clear hX hBX HBX2 Kb Kn Ks Kr
  have Kb := Nb
  have Kn := Nn
  have Ks := Ns
  have Kr := Nr
  clear Nb Nn Ns Nr
  have qb0 := Kb.out.cell 0
  have qb1 := Kb.out.cell 1
  have qb2 := Kb.out.cell 2
  have lb := Kb.out.lt
  have qn0 := Kn.out.cell 0
  have qn1 := Kn.out.cell 1
  have ln := Kn.out.lt
  have qs0 := Ks.out.cell 0
  have qs1 := Ks.out.cell 1
  have ls := Ks.out.lt
  have qr0 := Kr.out.cell 0
  have qr1 := Kr.out.cell 1
  have lr := Kr.out.lt
  simp only [List.size_toArray, List.length_cons, List.length_nil, Nat.reduceAdd, Nat.reduceLT, getElem?_pos, List.getElem_toArray, List.getElem_cons_zero, List.getElem_cons_succ] at qb0 qb1 qb2 qn0 qn1 qs0 qs1 qr0 qr1
  go_upto_region 10 with (go_at_call 37; refine (Wheel_any n1 401 _ (by decide) (by decide)).mono ?_; rintro e wu ⟨rfl, y, rfl⟩)
  generalize hX : ext Y3 y = X4 at *
  have hBX : Below Y3.heap.size Y3 X4 := by rw [← hX]; (repeat (first | (with_reducible exact Below.refl _ _) | (with_reducible assumption) | ((with_reducible refine below_ext_trans ?_ ?_ _); rotate_left; focus (((try dsimp only); repeat (first | omega | simp only [World.size_alloc, World.size_setCell, World.size_drew] | (with_reducible refine le_ext_of ?_) | (with_reducible refine le_ext_add ?_))); done)) | ((with_reducible refine Below.alloc ?_ ?_ _); rotate_left; focus (((try dsimp only); repeat (first | omega | simp only [World.size_alloc, World.size_setCell, World.size_drew] | (with_reducible refine le_ext_of ?_) | (with_reducible refine le_ext_add ?_))); done)) | ((with_reducible refine Below.setCell ?_ ?_ _); rotate_left; focus (((try dsimp only); repeat (first | omega | simp only [World.size_alloc, World.size_setCell, World.size_drew] | (with_reducible refine le_ext_of ?_) | (with_reducible refine le_ext_add ?_))); done)) | (with_reducible refine Below.drew ?_)))
  have HBX := Lib.hid (HBY3.out.trans (hBX.mono HBY3.out.size))
  have Nb := Lib.hid (show Blk X4 w.heap.size 26 #[.int .i64 b.lo, .int .i64 b.hi, .slice p b.ns.length c] from Kb.out.bel hBX)
  have Nn := Lib.hid (show Blk X4 (w.heap.size + 1) 27 #[.int .i64 n0, .int .i64 n1] from Kn.out.bel hBX)
  have Ns := Lib.hid (show Blk X4 gs 23 #[.int .i64 l, .int .i64 u] from Ks.out.bel hBX)
  have Nr := Lib.hid (show Blk X4 gr 23 #[.int .i64 rl, .int .i64 ru] from Kr.out.bel hBX)
  have HK2 := Lib.hid (HK1.out.bel hBX); clear HK1; have HK1 := HK2; clear HK2
  clear qb0 qb1 qb2 qn0 qn1 qs0 qs1 qr0 qr1 lb ln ls lr
  clear hX hBX HBY3 Kb Kn Ks Kr
  have Kb := Nb
  have Kn := Nn
  have Ks := Ns
  have Kr := Nr
  clear Nb Nn Ns Nr
  have HBX4 := HBX
  clear HBX
  have qb0 := Kb.out.cell 0
  have qb1 := Kb.out.cell 1
  have qb2 := Kb.out.cell 2
  have lb := Kb.out.lt
  have qn0 := Kn.out.cell 0
  have qn1 := Kn.out.cell 1
  have ln := Kn.out.lt
  have qs0 := Ks.out.cell 0
  have qs1 := Ks.out.cell 1
  have ls := Ks.out.lt
  have qr0 := Kr.out.cell 0
  have qr1 := Kr.out.cell 1
  have lr := Kr.out.lt
  simp only [List.size_toArray, List.length_cons, List.length_nil, Nat.reduceAdd, Nat.reduceLT, getElem?_pos, List.getElem_toArray, List.getElem_cons_zero, List.getElem_cons_succ] at qb0 qb1 qb2 qn0 qn1 qs0 qs1 qr0 qr1
  have hq := HQ.out
  have q1 : (n1.tmod 3 == 0) = false := by simpa using hq
  have q2 : (n1.tmod 3 != 0) = true := by simpa using hq
  have q3 : decide (n1.tmod 3 = 0) = false := by simpa using hq
  go_upto_region 11 with fail
  have hd := HD.out
  have hm1 := HM1.out
  refine wp_region_ext (by kernel_rfl) (by kernel_rfl) ?_
  repeat (go_big_quiet_step (first | (go_at_call 37; first | exact quiet_ext (Wheel_any _ _ _ h1u h2u) | exact quiet_ext (Wheel_any _ 401 _ (by decide) (by decide)))))
  (refine wpQuiet_nil ?_; rintro _ ⟨x, rfl⟩)
  generalize hX : ext X4 _ = Y5
  have hBX : Below X4.heap.size X4 Y5 := by rw [← hX]; exact below_ext _ _
  have HBY5 := Lib.hid (HBX4.out.trans (hBX.mono HBX4.out.size))
  have HK2 := Lib.hid (HK1.out.bel hBX); clear HK1; have HK1 := HK2; clear HK2
  have Nb := Lib.hid (show Blk Y5 w.heap.size 26 #[.int .i64 b.lo, .int .i64 b.hi, .slice p b.ns.length c] from Kb.out.bel hBX)
  have Nn := Lib.hid (show Blk Y5 (w.heap.size + 1) 27 #[.int .i64 n0, .int .i64 n1] from Kn.out.bel hBX)
  have Ns := Lib.hid (show Blk Y5 gs 23 #[.int .i64 l, .int .i64 u] from Ks.out.bel hBX)
  have Nr := Lib.hid (show Blk Y5 gr 23 #[.int .i64 rl, .int .i64 ru] from Kr.out.bel hBX)
  clear qb0 qb1 qb2 qn0 qn1 qs0 qs1 qr0 qr1 lb ln ls lr
  clear hX hBX HBX4 Kb Kn Ks Kr
  have Kb := Nb
  have Kn := Nn
  have Ks := Ns
  have Kr := Nr
  clear Nb Nn Ns Nr
  have qb0 := Kb.out.cell 0
  have qb1 := Kb.out.cell 1
  have qb2 := Kb.out.cell 2
  have lb := Kb.out.lt
  have qn0 := Kn.out.cell 0
  have qn1 := Kn.out.cell 1
  have ln := Kn.out.lt
  have qs0 := Ks.out.cell 0
  have qs1 := Ks.out.cell 1
  have ls := Ks.out.lt
  have qr0 := Kr.out.cell 0
  have qr1 := Kr.out.cell 1
  have lr := Kr.out.lt
  simp only [List.size_toArray, List.length_cons, List.length_nil, Nat.reduceAdd, Nat.reduceLT, getElem?_pos, List.getElem_toArray, List.getElem_cons_zero, List.getElem_cons_succ] at qb0 qb1 qb2 qn0 qn1 qs0 qs1 qr0 qr1
  try simp only [hd, hm1]
  clear hd
  clear hm1
  go_upto_region 12 with fail
  refine wp_region_ext (by kernel_rfl) (by kernel_rfl) ?_
  repeat (go_big_quiet_step (first | (go_at_call 39; exact quiet_ext (Just_any _ _)) | (go_at_call 40; exact quiet_ext (note_any _ _ _ _ _)) | (go_at_call 29; exact quiet_ext (Fits_is b p c ⟨4, r0, m, m⟩ _ _ (HK1.out.bel (by (repeat (first | (with_reducible exact Below.refl _ _) | (with_reducible assumption) | ((with_reducible refine below_ext_trans ?_ ?_ _); rotate_left; focus (((try dsimp only); repeat (first | omega | simp only [World.size_alloc, World.size_setCell, World.size_drew] | (with_reducible refine le_ext_of ?_) | (with_reducible refine le_ext_add ?_))); done)) | ((with_reducible refine Below.alloc ?_ ?_ _); rotate_left; focus (((try dsimp only); repeat (first | omega | simp only [World.size_alloc, World.size_setCell, World.size_drew] | (with_reducible refine le_ext_of ?_) | (with_reducible refine le_ext_add ?_))); done)) | ((with_reducible refine Below.setCell ?_ ?_ _); rotate_left; focus (((try dsimp only); repeat (first | omega | simp only [World.size_alloc, World.size_setCell, World.size_drew] | (with_reducible refine le_ext_of ?_) | (with_reducible refine le_ext_add ?_))); done)) | (with_reducible refine Below.drew ?_))))) HC.out hv (sound_note b0 hm) hF))))
  (refine wpQuiet_nil ?_; rintro _ ⟨x, rfl⟩)
  generalize hX : ext Y5 _ = Y6
  have hBX : Below Y5.heap.size Y5 Y6 := by rw [← hX]; exact below_ext _ _
  have HBY6 := Lib.hid (HBY5.out.trans (hBX.mono HBY5.out.size))
  have HK2 := Lib.hid (HK1.out.bel hBX); clear HK1; have HK1 := HK2; clear HK2
  have Nb := Lib.hid (show Blk Y6 w.heap.size 26 #[.int .i64 b.lo, .int .i64 b.hi, .slice p b.ns.length c] from Kb.out.bel hBX)
  have Nn := Lib.hid (show Blk Y6 (w.heap.size + 1) 27 #[.int .i64 n0, .int .i64 n1] from Kn.out.bel hBX)
  have Ns := Lib.hid (show Blk Y6 gs 23 #[.int .i64 l, .int .i64 u] from Ks.out.bel hBX)
  have Nr := Lib.hid (show Blk Y6 gr 23 #[.int .i64 rl, .int .i64 ru] from Kr.out.bel hBX)
  clear qb0 qb1 qb2 qn0 qn1 qs0 qs1 qr0 qr1 lb ln ls lr
  clear hX hBX HBY5 Kb Kn Ks Kr
  have Kb := Nb
  have Kn := Nn
  have Ks := Ns
  have Kr := Nr
  clear Nb Nn Ns Nr
  have qb0 := Kb.out.cell 0
  have qb1 := Kb.out.cell 1
  have qb2 := Kb.out.cell 2
  have lb := Kb.out.lt
  have qn0 := Kn.out.cell 0
  have qn1 := Kn.out.cell 1
  have ln := Kn.out.lt
  have qs0 := Ks.out.cell 0
  have qs1 := Ks.out.cell 1
  have ls := Ks.out.lt
  have qr0 := Kr.out.cell 0
  have qr1 := Kr.out.cell 1
  have lr := Kr.out.lt
  simp only [List.size_toArray, List.length_cons, List.length_nil, Nat.reduceAdd, Nat.reduceLT, getElem?_pos, List.getElem_toArray, List.getElem_cons_zero, List.getElem_cons_succ] at qb0 qb1 qb2 qn0 qn1 qs0 qs1 qr0 qr1
  go_upto_region 14 with (go_at_call 18; refine (Can_is b p c r0 m false _ HK1.out hv hr b0 hm hcm).mono ?_; rintro e wu ⟨rfl, y, rfl⟩)
  generalize hX : ext Y6 y = X7 at *
  have hBX : Below Y6.heap.size Y6 X7 := by rw [← hX]; (repeat (first | (with_reducible exact Below.refl _ _) | (with_reducible assumption) | ((with_reducible refine below_ext_trans ?_ ?_ _); rotate_left; focus (((try dsimp only); repeat (first | omega | simp only [World.size_alloc, World.size_setCell, World.size_drew] | (with_reducible refine le_ext_of ?_) | (with_reducible refine le_ext_add ?_))); done)) | ((with_reducible refine Below.alloc ?_ ?_ _); rotate_left; focus (((try dsimp only); repeat (first | omega | simp only [World.size_alloc, World.size_setCell, World.size_drew] | (with_reducible refine le_ext_of ?_) | (with_reducible refine le_ext_add ?_))); done)) | ((with_reducible refine Below.setCell ?_ ?_ _); rotate_left; focus (((try dsimp only); repeat (first | omega | simp only [World.size_alloc, World.size_setCell, World.size_drew] | (with_reducible refine le_ext_of ?_) | (with_reducible refine le_ext_add ?_))); done)) | (with_reducible refine Below.drew ?_)))
  have HBX := Lib.hid (HBY6.out.trans (hBX.mono HBY6.out.size))
  have Nb := Lib.hid (show Blk X7 w.heap.size 26 #[.int .i64 b.lo, .int .i64 b.hi, .slice p b.ns.length c] from Kb.out.bel hBX)
  have Nn := Lib.hid (show Blk X7 (w.heap.size + 1) 27 #[.int .i64 n0, .int .i64 n1] from Kn.out.bel hBX)
  have Ns := Lib.hid (show Blk X7 gs 23 #[.int .i64 l, .int .i64 u] from Ks.out.bel hBX)
  have Nr := Lib.hid (show Blk X7 gr 23 #[.int .i64 rl, .int .i64 ru] from Kr.out.bel hBX)
  have HK2 := Lib.hid (HK1.out.bel hBX); clear HK1; have HK1 := HK2; clear HK2
  clear qb0 qb1 qb2 qn0 qn1 qs0 qs1 qr0 qr1 lb ln ls lr
  clear hX hBX HBY6 Kb Kn Ks Kr
  have Kb := Nb
  have Kn := Nn
  have Ks := Ns
  have Kr := Nr
  clear Nb Nn Ns Nr
  have HBX7 := HBX
  clear HBX
  have qb0 := Kb.out.cell 0
  have qb1 := Kb.out.cell 1
  have qb2 := Kb.out.cell 2
  have lb := Kb.out.lt
  have qn0 := Kn.out.cell 0
  have qn1 := Kn.out.cell 1
  have ln := Kn.out.lt
  have qs0 := Ks.out.cell 0
  have qs1 := Ks.out.cell 1
  have ls := Ks.out.lt
  have qr0 := Kr.out.cell 0
  have qr1 := Kr.out.cell 1
  have lr := Kr.out.lt
  simp only [List.size_toArray, List.length_cons, List.length_nil, Nat.reduceAdd, Nat.reduceLT, getElem?_pos, List.getElem_toArray, List.getElem_cons_zero, List.getElem_cons_succ] at qb0 qb1 qb2 qn0 qn1 qs0 qs1 qr0 qr1
  go_upto_region 16 with fail
  go_upto_region 19 with (go_at_call 18; refine (Can_is b p c r0 l true _ HK1.out hv hr b0 hlb hcl).mono ?_; rintro e wu ⟨rfl, y, rfl⟩)
  generalize hX : ext X7 y = X8 at *
  have hBX : Below X7.heap.size X7 X8 := by rw [← hX]; (repeat (first | (with_reducible exact Below.refl _ _) | (with_reducible assumption) | ((with_reducible refine below_ext_trans ?_ ?_ _); rotate_left; focus (((try dsimp only); repeat (first | omega | simp only [World.size_alloc, World.size_setCell, World.size_drew] | (with_reducible refine le_ext_of ?_) | (with_reducible refine le_ext_add ?_))); done)) | ((with_reducible refine Below.alloc ?_ ?_ _); rotate_left; focus (((try dsimp only); repeat (first | omega | simp only [World.size_alloc, World.size_setCell, World.size_drew] | (with_reducible refine le_ext_of ?_) | (with_reducible refine le_ext_add ?_))); done)) | ((with_reducible refine Below.setCell ?_ ?_ _); rotate_left; focus (((try dsimp only); repeat (first | omega | simp only [World.size_alloc, World.size_setCell, World.size_drew] | (with_reducible refine le_ext_of ?_) | (with_reducible refine le_ext_add ?_))); done)) | (with_reducible refine Below.drew ?_)))
  have HBX := Lib.hid (HBX7.out.trans (hBX.mono HBX7.out.size))
  have Nb := Lib.hid (show Blk X8 w.heap.size 26 #[.int .i64 b.lo, .int .i64 b.hi, .slice p b.ns.length c] from Kb.out.bel hBX)
  have Nn := Lib.hid (show Blk X8 (w.heap.size + 1) 27 #[.int .i64 n0, .int .i64 n1] from Kn.out.bel hBX)
  have Ns := Lib.hid (show Blk X8 gs 23 #[.int .i64 l, .int .i64 u] from Ks.out.bel hBX)
  have Nr := Lib.hid (show Blk X8 gr 23 #[.int .i64 rl, .int .i64 ru] from Kr.out.bel hBX)
  have HK2 := Lib.hid (HK1.out.bel hBX); clear HK1; have HK1 := HK2; clear HK2
  clear qb0 qb1 qb2 qn0 qn1 qs0 qs1 qr0 qr1 lb ln ls lr
  clear hX hBX HBX7 Kb Kn Ks Kr
  have Kb := Nb
  have Kn := Nn
  have Ks := Ns
  have Kr := Nr
  clear Nb Nn Ns Nr
  have HBX8 := HBX
  clear HBX
  have qb0 := Kb.out.cell 0
  have qb1 := Kb.out.cell 1
  have qb2 := Kb.out.cell 2
  have lb := Kb.out.lt
  have qn0 := Kn.out.cell 0
  have qn1 := Kn.out.cell 1
  have ln := Kn.out.lt
  have qs0 := Ks.out.cell 0
  have qs1 := Ks.out.cell 1
  have ls := Ks.out.lt
  have qr0 := Kr.out.cell 0
  have qr1 := Kr.out.cell 1
  have lr := Kr.out.lt
  simp only [List.size_toArray, List.length_cons, List.length_nil, Nat.reduceAdd, Nat.reduceLT, getElem?_pos, List.getElem_toArray, List.getElem_cons_zero, List.getElem_cons_succ] at qb0 qb1 qb2 qn0 qn1 qs0 qs1 qr0 qr1
  go_upto_region 20 with (go_at_call 18; refine (Can_is b p c r0 u true _ HK1.out hv hr b0 hub hcu).mono ?_; rintro e wu ⟨rfl, y, rfl⟩)
  generalize hX : ext X8 y = X9 at *
  have hBX : Below X8.heap.size X8 X9 := by rw [← hX]; (repeat (first | (with_reducible exact Below.refl _ _) | (with_reducible assumption) | ((with_reducible refine below_ext_trans ?_ ?_ _); rotate_left; focus (((try dsimp only); repeat (first | omega | simp only [World.size_alloc, World.size_setCell, World.size_drew] | (with_reducible refine le_ext_of ?_) | (with_reducible refine le_ext_add ?_))); done)) | ((with_reducible refine Below.alloc ?_ ?_ _); rotate_left; focus (((try dsimp only); repeat (first | omega | simp only [World.size_alloc, World.size_setCell, World.size_drew] | (with_reducible refine le_ext_of ?_) | (with_reducible refine le_ext_add ?_))); done)) | ((with_reducible refine Below.setCell ?_ ?_ _); rotate_left; focus (((try dsimp only); repeat (first | omega | simp only [World.size_alloc, World.size_setCell, World.size_drew] | (with_reducible refine le_ext_of ?_) | (with_reducible refine le_ext_add ?_))); done)) | (with_reducible refine Below.drew ?_)))
  have HBX := Lib.hid (HBX8.out.trans (hBX.mono HBX8.out.size))
  have Nb := Lib.hid (show Blk X9 w.heap.size 26 #[.int .i64 b.lo, .int .i64 b.hi, .slice p b.ns.length c] from Kb.out.bel hBX)
  have Nn := Lib.hid (show Blk X9 (w.heap.size + 1) 27 #[.int .i64 n0, .int .i64 n1] from Kn.out.bel hBX)
  have Ns := Lib.hid (show Blk X9 gs 23 #[.int .i64 l, .int .i64 u] from Ks.out.bel hBX)
  have Nr := Lib.hid (show Blk X9 gr 23 #[.int .i64 rl, .int .i64 ru] from Kr.out.bel hBX)
  have HK2 := Lib.hid (HK1.out.bel hBX); clear HK1; have HK1 := HK2; clear HK2
  clear qb0 qb1 qb2 qn0 qn1 qs0 qs1 qr0 qr1 lb ln ls lr
  clear hX hBX HBX8 Kb Kn Ks Kr
  have Kb := Nb
  have Kn := Nn
  have Ks := Ns
  have Kr := Nr
  clear Nb Nn Ns Nr
  have HBX9 := HBX
  clear HBX
  have qb0 := Kb.out.cell 0
  have qb1 := Kb.out.cell 1
  have qb2 := Kb.out.cell 2
  have lb := Kb.out.lt
  have qn0 := Kn.out.cell 0
  have qn1 := Kn.out.cell 1
  have ln := Kn.out.lt
  have qs0 := Ks.out.cell 0
  have qs1 := Ks.out.cell 1
  have ls := Ks.out.lt
  have qr0 := Kr.out.cell 0
  have qr1 := Kr.out.cell 1
  have lr := Kr.out.lt
  simp only [List.size_toArray, List.length_cons, List.length_nil, Nat.reduceAdd, Nat.reduceLT, getElem?_pos, List.getElem_toArray, List.getElem_cons_zero, List.getElem_cons_succ] at qb0 qb1 qb2 qn0 qn1 qs0 qs1 qr0 qr1
  go_wp2_with (first | (go_at_call 41; refine (Sane_yes _ _ _ _ _ (by assumption) (by assumption) (by assumption)).mono ?_; rintro e w1 ⟨rfl, y, rfl⟩) | (go_at_call 24; refine (sounded_any _ (HK1.out.mm.below (by (repeat (first | (with_reducible exact Below.refl _ _) | (with_reducible assumption) | ((with_reducible refine below_ext_trans ?_ ?_ _); rotate_left; focus (((try dsimp only); repeat (first | omega | simp only [World.size_alloc, World.size_setCell, World.size_drew] | (with_reducible refine le_ext_of ?_) | (with_reducible refine le_ext_add ?_))); done)) | ((with_reducible refine Below.alloc ?_ ?_ _); rotate_left; focus (((try dsimp only); repeat (first | omega | simp only [World.size_alloc, World.size_setCell, World.size_drew] | (with_reducible refine le_ext_of ?_) | (with_reducible refine le_ext_add ?_))); done)) | ((with_reducible refine Below.setCell ?_ ?_ _); rotate_left; focus (((try dsimp only); repeat (first | omega | simp only [World.size_alloc, World.size_setCell, World.size_drew] | (with_reducible refine le_ext_of ?_) | (with_reducible refine le_ext_add ?_))); done)) | (with_reducible refine Below.drew ?_)))))).mono ?_; rintro e w1 ⟨rfl, y, rfl⟩))
  go_ret
  exact ⟨rfl, ext_of (HBX9.out.trans ((below_ext _ _).mono HBX9.out.size))⟩
end Go.Proofs.YtnckampdbbcehaaDoor

