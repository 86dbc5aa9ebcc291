/- The walk of SeineMore. Written by gen_more.py. -/
/- The walk of SeineMore, a note that is none. Written by gen_more.py. -/
/- The walk of SeineMore, it cannot be true. Written by gen_more.py. -/
/- The walk of SeineMore, it cannot be true. Written by gen_more.py. -/
import Derived.Test.YtamknmgplhaciaaDoorQKc
import Derived.Test.YtamknmgplhaciaaDoorQPg
import Derived.Test.YtamknmgplhaciaaDoorQPe
import Derived.RegionTactic
import Derived.BigQuiet
set_option linter.unusedSimpArgs false
set_option linter.unusedVariables false
namespace Go.Proofs.YtamknmgplhaciaaDoor
open Go Go.RowKit Go.Shelf
attribute [local go_sem] Oper.semAt_some frozen_alloc_lt
theorem Spans_yes (a b x y : Int) (w : World) (h1 : a ≤ x) (h2 : y ≤ b) : Calls Tryd.prog 43 #[.agg #[.int .i64 a, .int .i64 b], .agg #[.int .i64 x, .int .i64 y]] w fun e w' => e = .returned (.bool true) ∧ ∃ x, w' = ext w x := by
  go_enter Tryd.func43, Tryd.ntmps43
  go_wp2
  go_ret
  exact ⟨rfl, by (exact ext_of (by (repeat (first | (with_reducible exact Below.refl _ _) | (with_reducible assumption) | ((with_reducible refine below_ext_trans ?_ ?_ _); rotate_left; focus (((try dsimp only); repeat (first | omega | simp only [World.size_alloc, World.size_setCell, World.size_drew] | (with_reducible refine le_ext_of ?_) | (with_reducible refine le_ext_add ?_))); done)) | ((with_reducible refine Below.alloc ?_ ?_ _); rotate_left; focus (((try dsimp only); repeat (first | omega | simp only [World.size_alloc, World.size_setCell, World.size_drew] | (with_reducible refine le_ext_of ?_) | (with_reducible refine le_ext_add ?_))); done)) | ((with_reducible refine Below.setCell ?_ ?_ _); rotate_left; focus (((try dsimp only); repeat (first | omega | simp only [World.size_alloc, World.size_setCell, World.size_drew] | (with_reducible refine le_ext_of ?_) | (with_reducible refine le_ext_add ?_))); done)) | (with_reducible refine Below.drew ?_)))))⟩
theorem Fits_not (b : Sn) (p : Option Addr) (c : Nat) (s : Nt) (w : World) (hk : SBk w b p) (hv : snB b = true) (hs : ntB s = false) :
    Calls Tryd.prog 29 #[bV b p c, .agg (ntC s)] w fun e w' => e = .returned (.tuple #[.bool false, .int .i64 31]) ∧ ∃ x, w' = ext w x :=
  (Fits_ask b p c s w hk hv hs).mono fun e w' ⟨h1, h2⟩ => ⟨h1, ext_of h2⟩
set_option maxRecDepth 100000 in
set_option maxHeartbeats 4000000 in
theorem SeineMore_bad (b : Sn) (p : Option Addr) (c : Nat) (s : Nt) (n : Int) (w : World) (hk : SBk w b p) (hv : snB b = false) :
    Calls Tryd.prog 8 #[bV b p c, .agg (ntC s), .int .i64 n] w fun e w' => e = .returned (.bool true) ∧ ∃ x, w' = ext w x := by
  have HK := Lib.hid hk
  clear hk
  go_enter Tryd.func8, Tryd.ntmps8
  go_wp2_with (first
    | (go_at_call 34; refine (sound_no b p c _ (HK.out.bel (by (repeat (first | (with_reducible exact Below.refl _ _) | (with_reducible assumption) | ((with_reducible refine below_ext_trans ?_ ?_ _); rotate_left; focus (((try dsimp only); repeat (first | omega | simp only [World.size_alloc, World.size_setCell, World.size_drew] | (with_reducible refine le_ext_of ?_) | (with_reducible refine le_ext_add ?_))); done)) | ((with_reducible refine Below.alloc ?_ ?_ _); rotate_left; focus (((try dsimp only); repeat (first | omega | simp only [World.size_alloc, World.size_setCell, World.size_drew] | (with_reducible refine le_ext_of ?_) | (with_reducible refine le_ext_add ?_))); done)) | ((with_reducible refine Below.setCell ?_ ?_ _); rotate_left; focus (((try dsimp only); repeat (first | omega | simp only [World.size_alloc, World.size_setCell, World.size_drew] | (with_reducible refine le_ext_of ?_) | (with_reducible refine le_ext_add ?_))); done)) | (with_reducible refine Below.drew ?_))))) hv).mono ?_; rintro e w1 ⟨rfl, y, rfl⟩)
    | (go_at_call 24; refine (sounded_any _ (HK.out.mm.below (by (repeat (first | (with_reducible exact Below.refl _ _) | (with_reducible assumption) | ((with_reducible refine below_ext_trans ?_ ?_ _); rotate_left; focus (((try dsimp only); repeat (first | omega | simp only [World.size_alloc, World.size_setCell, World.size_drew] | (with_reducible refine le_ext_of ?_) | (with_reducible refine le_ext_add ?_))); done)) | ((with_reducible refine Below.alloc ?_ ?_ _); rotate_left; focus (((try dsimp only); repeat (first | omega | simp only [World.size_alloc, World.size_setCell, World.size_drew] | (with_reducible refine le_ext_of ?_) | (with_reducible refine le_ext_add ?_))); done)) | ((with_reducible refine Below.setCell ?_ ?_ _); rotate_left; focus (((try dsimp only); repeat (first | omega | simp only [World.size_alloc, World.size_setCell, World.size_drew] | (with_reducible refine le_ext_of ?_) | (with_reducible refine le_ext_add ?_))); done)) | (with_reducible refine Below.drew ?_)))))).mono ?_; rintro e w1 ⟨rfl, y, rfl⟩))
  go_ret
  exact ⟨rfl, by (exact ext_of (by (repeat (first | (with_reducible exact Below.refl _ _) | (with_reducible assumption) | ((with_reducible refine below_ext_trans ?_ ?_ _); rotate_left; focus (((try dsimp only); repeat (first | omega | simp only [World.size_alloc, World.size_setCell, World.size_drew] | (with_reducible refine le_ext_of ?_) | (with_reducible refine le_ext_add ?_))); done)) | ((with_reducible refine Below.alloc ?_ ?_ _); rotate_left; focus (((try dsimp only); repeat (first | omega | simp only [World.size_alloc, World.size_setCell, World.size_drew] | (with_reducible refine le_ext_of ?_) | (with_reducible refine le_ext_add ?_))); done)) | ((with_reducible refine Below.setCell ?_ ?_ _); rotate_left; focus (((try dsimp only); repeat (first | omega | simp only [World.size_alloc, World.size_setCell, World.size_drew] | (with_reducible refine le_ext_of ?_) | (with_reducible refine le_ext_add ?_))); done)) | (with_reducible refine Below.drew ?_)))))⟩
set_option maxRecDepth 100000 in
set_option maxHeartbeats 4000000 in
theorem SeineMore_full (b : Sn) (p : Option Addr) (c : Nat) (s : Nt) (n : Int) (w : World) (hk : SBk w b p) (hv : snB b = true) (hn : b.ns.length = 8) :
    Calls Tryd.prog 8 #[bV b p c, .agg (ntC s), .int .i64 n] w fun e w' => e = .returned (.bool true) ∧ ∃ x, w' = ext w x := by
  have HK := Lib.hid hk
  clear hk
  have hd8 : ((b.ns.length : Int) == 8) = true := by simpa using (show (b.ns.length : Int) = 8 by omega)
  clear hn
  go_enter Tryd.func8, Tryd.ntmps8
  go_wp2_with (first
    | (go_at_call 34; refine (sound_yes b p c _ (HK.out.bel (by (repeat (first | (with_reducible exact Below.refl _ _) | (with_reducible assumption) | ((with_reducible refine below_ext_trans ?_ ?_ _); rotate_left; focus (((try dsimp only); repeat (first | omega | simp only [World.size_alloc, World.size_setCell, World.size_drew] | (with_reducible refine le_ext_of ?_) | (with_reducible refine le_ext_add ?_))); done)) | ((with_reducible refine Below.alloc ?_ ?_ _); rotate_left; focus (((try dsimp only); repeat (first | omega | simp only [World.size_alloc, World.size_setCell, World.size_drew] | (with_reducible refine le_ext_of ?_) | (with_reducible refine le_ext_add ?_))); done)) | ((with_reducible refine Below.setCell ?_ ?_ _); rotate_left; focus (((try dsimp only); repeat (first | omega | simp only [World.size_alloc, World.size_setCell, World.size_drew] | (with_reducible refine le_ext_of ?_) | (with_reducible refine le_ext_add ?_))); done)) | (with_reducible refine Below.drew ?_))))) hv).mono ?_; rintro e w1 ⟨rfl, y, rfl⟩)
    | (go_at_call 24; refine (sounded_any _ (HK.out.mm.below (by (repeat (first | (with_reducible exact Below.refl _ _) | (with_reducible assumption) | ((with_reducible refine below_ext_trans ?_ ?_ _); rotate_left; focus (((try dsimp only); repeat (first | omega | simp only [World.size_alloc, World.size_setCell, World.size_drew] | (with_reducible refine le_ext_of ?_) | (with_reducible refine le_ext_add ?_))); done)) | ((with_reducible refine Below.alloc ?_ ?_ _); rotate_left; focus (((try dsimp only); repeat (first | omega | simp only [World.size_alloc, World.size_setCell, World.size_drew] | (with_reducible refine le_ext_of ?_) | (with_reducible refine le_ext_add ?_))); done)) | ((with_reducible refine Below.setCell ?_ ?_ _); rotate_left; focus (((try dsimp only); repeat (first | omega | simp only [World.size_alloc, World.size_setCell, World.size_drew] | (with_reducible refine le_ext_of ?_) | (with_reducible refine le_ext_add ?_))); done)) | (with_reducible refine Below.drew ?_)))))).mono ?_; rintro e w1 ⟨rfl, y, rfl⟩))
  go_ret
  exact ⟨rfl, by (exact ext_of (by (repeat (first | (with_reducible exact Below.refl _ _) | (with_reducible assumption) | ((with_reducible refine below_ext_trans ?_ ?_ _); rotate_left; focus (((try dsimp only); repeat (first | omega | simp only [World.size_alloc, World.size_setCell, World.size_drew] | (with_reducible refine le_ext_of ?_) | (with_reducible refine le_ext_add ?_))); done)) | ((with_reducible refine Below.alloc ?_ ?_ _); rotate_left; focus (((try dsimp only); repeat (first | omega | simp only [World.size_alloc, World.size_setCell, World.size_drew] | (with_reducible refine le_ext_of ?_) | (with_reducible refine le_ext_add ?_))); done)) | ((with_reducible refine Below.setCell ?_ ?_ _); rotate_left; focus (((try dsimp only); repeat (first | omega | simp only [World.size_alloc, World.size_setCell, World.size_drew] | (with_reducible refine le_ext_of ?_) | (with_reducible refine le_ext_add ?_))); done)) | (with_reducible refine Below.drew ?_)))))⟩
end Go.Proofs.YtamknmgplhaciaaDoor

namespace Go.Proofs.YtamknmgplhaciaaDoor
open Go Go.RowKit Go.Shelf
attribute [local go_sem] Oper.semAt_some frozen_alloc_lt
set_option maxRecDepth 100000 in
set_option maxHeartbeats 8000000 in
theorem SeineMore_ask (b : Sn) (p : Option Addr) (c : Nat) (s : Nt) (n : Int) (w : World) (hk : SBk w b p) (hc : SBc b p c) (hv : snB b = true) (hn8 : b.ns.length ≠ 8) (r : Bool) (hs : ntB s = false) (hr : rightS b = r) :
    Calls Tryd.prog 8 #[bV b p c, .agg (ntC s), .int .i64 n] w fun e w' => e = .returned (.bool true) ∧ ∃ x, w' = ext w x := by
  have HK := Lib.hid hk
  have HC := Lib.hid hc
  have hok := Ok9.of hv
  have hlen : b.ns.length ≤ 9 := hok.len
  have hd8 : ((b.ns.length : Int) == 8) = false := by simpa using (show ¬ (b.ns.length : Int) = 8 by omega)
  have HV := Lib.hid hv
  have HR := Lib.hid hr
  have hvx := snB_not (b := b) hs
  clear hr
  clear hk hc hok hn8
  go_enter Tryd.func8, Tryd.ntmps8
  go_upto_region 3 with (go_at_call 34; refine (sound_yes b p c _ (HK.out.bel (by (repeat (first | (with_reducible exact Below.refl _ _) | (with_reducible assumption) | ((with_reducible refine below_ext_trans ?_ ?_ _); rotate_left; focus (((try dsimp only); repeat (first | omega | simp only [World.size_alloc, World.size_setCell, World.size_drew] | (with_reducible refine le_ext_of ?_) | (with_reducible refine le_ext_add ?_))); done)) | ((with_reducible refine Below.alloc ?_ ?_ _); rotate_left; focus (((try dsimp only); repeat (first | omega | simp only [World.size_alloc, World.size_setCell, World.size_drew] | (with_reducible refine le_ext_of ?_) | (with_reducible refine le_ext_add ?_))); done)) | ((with_reducible refine Below.setCell ?_ ?_ _); rotate_left; focus (((try dsimp only); repeat (first | omega | simp only [World.size_alloc, World.size_setCell, World.size_drew] | (with_reducible refine le_ext_of ?_) | (with_reducible refine le_ext_add ?_))); done)) | (with_reducible refine Below.drew ?_))))) hv).mono ?_; rintro e w1 ⟨rfl, y, rfl⟩)
  generalize hX : ext ((w.alloc _).alloc _) _ = W
  have hB : Below w.heap.size w W := by rw [← hX]; (repeat (first | (with_reducible exact Below.refl _ _) | (with_reducible assumption) | ((with_reducible refine below_ext_trans ?_ ?_ _); rotate_left; focus (((try dsimp only); repeat (first | omega | simp only [World.size_alloc, World.size_setCell, World.size_drew] | (with_reducible refine le_ext_of ?_) | (with_reducible refine le_ext_add ?_))); done)) | ((with_reducible refine Below.alloc ?_ ?_ _); rotate_left; focus (((try dsimp only); repeat (first | omega | simp only [World.size_alloc, World.size_setCell, World.size_drew] | (with_reducible refine le_ext_of ?_) | (with_reducible refine le_ext_add ?_))); done)) | ((with_reducible refine Below.setCell ?_ ?_ _); rotate_left; focus (((try dsimp only); repeat (first | omega | simp only [World.size_alloc, World.size_setCell, World.size_drew] | (with_reducible refine le_ext_of ?_) | (with_reducible refine le_ext_add ?_))); done)) | (with_reducible refine Below.drew ?_)))
  have Kb := Lib.hid (show Blk W w.heap.size 26 #[.int .i64 b.lo, .int .i64 b.hi, .slice p b.ns.length c] by rw [← hX]; exact ((Blk.new rfl).alloc _).ext _)
  have Kn := Lib.hid (show Blk W (w.heap.size + 1) 38 #[.int .i64 s.kind, .int .i64 s.hour, .int .i64 s.lo, .int .i64 s.hi] by rw [← hX]; exact (Blk.new (by simp)).ext _)
  have HBW := Lib.hid hB
  have HK1 := Lib.hid (HK.out.bel hB)
  clear hX hB HK hd8 hv
  have qb0 := Kb.out.cell 0
  have qb1 := Kb.out.cell 1
  have qb2 := Kb.out.cell 2
  have lb := Kb.out.lt
  have qn0 := Kn.out.cell 0
  have qn1 := Kn.out.cell 1
  have qn2 := Kn.out.cell 2
  have qn3 := Kn.out.cell 3
  have ln := Kn.out.lt
  simp only [List.size_toArray, List.length_cons, List.length_nil, Nat.reduceAdd, Nat.reduceLT, getElem?_pos, List.getElem_toArray, List.getElem_cons_zero, List.getElem_cons_succ] at qb0 qb1 qb2 qn0 qn1 qn2 qn3
  go_upto_region 4 with (go_at_call 29; refine (Fits_not b p c s _ HK1.out HV.out hs).mono ?_; rintro e wu ⟨rfl, y, rfl⟩)
  generalize hX : ext W y = X0 at *
  have hBX : Below W.heap.size W X0 := by rw [← hX]; (repeat (first | (with_reducible exact Below.refl _ _) | (with_reducible assumption) | ((with_reducible refine below_ext_trans ?_ ?_ _); rotate_left; focus (((try dsimp only); repeat (first | omega | simp only [World.size_alloc, World.size_setCell, World.size_drew] | (with_reducible refine le_ext_of ?_) | (with_reducible refine le_ext_add ?_))); done)) | ((with_reducible refine Below.alloc ?_ ?_ _); rotate_left; focus (((try dsimp only); repeat (first | omega | simp only [World.size_alloc, World.size_setCell, World.size_drew] | (with_reducible refine le_ext_of ?_) | (with_reducible refine le_ext_add ?_))); done)) | ((with_reducible refine Below.setCell ?_ ?_ _); rotate_left; focus (((try dsimp only); repeat (first | omega | simp only [World.size_alloc, World.size_setCell, World.size_drew] | (with_reducible refine le_ext_of ?_) | (with_reducible refine le_ext_add ?_))); done)) | (with_reducible refine Below.drew ?_)))
  have HBX := Lib.hid (HBW.out.trans (hBX.mono HBW.out.size))
  have Nb := Lib.hid (show Blk X0 w.heap.size 26 #[.int .i64 b.lo, .int .i64 b.hi, .slice p b.ns.length c] from Kb.out.bel hBX)
  have Nn := Lib.hid (show Blk X0 (w.heap.size + 1) 38 #[.int .i64 s.kind, .int .i64 s.hour, .int .i64 s.lo, .int .i64 s.hi] from Kn.out.bel hBX)
  have HK2 := Lib.hid (HK1.out.bel hBX); clear HK1; have HK1 := HK2; clear HK2
  clear qb0 qb1 qb2 qn0 qn1 qn2 qn3 lb ln
  clear hX hBX HBW Kb Kn
  have Kb := Nb
  have Kn := Nn
  clear Nb Nn
  have HBX0 := HBX
  clear HBX
  have qb0 := Kb.out.cell 0
  have qb1 := Kb.out.cell 1
  have qb2 := Kb.out.cell 2
  have lb := Kb.out.lt
  have qn0 := Kn.out.cell 0
  have qn1 := Kn.out.cell 1
  have qn2 := Kn.out.cell 2
  have qn3 := Kn.out.cell 3
  have ln := Kn.out.lt
  simp only [List.size_toArray, List.length_cons, List.length_nil, Nat.reduceAdd, Nat.reduceLT, getElem?_pos, List.getElem_toArray, List.getElem_cons_zero, List.getElem_cons_succ] at qb0 qb1 qb2 qn0 qn1 qn2 qn3
  go_upto_region 5 with (go_at_call 14; refine (Right_is b p c r _ HK1.out HV.out HR.out).mono ?_; rintro e wu ⟨rfl, y, rfl⟩)
  generalize hX : ext X0 y = X1 at *
  have hBX : Below X0.heap.size X0 X1 := by rw [← hX]; (repeat (first | (with_reducible exact Below.refl _ _) | (with_reducible assumption) | ((with_reducible refine below_ext_trans ?_ ?_ _); rotate_left; focus (((try dsimp only); repeat (first | omega | simp only [World.size_alloc, World.size_setCell, World.size_drew] | (with_reducible refine le_ext_of ?_) | (with_reducible refine le_ext_add ?_))); done)) | ((with_reducible refine Below.alloc ?_ ?_ _); rotate_left; focus (((try dsimp only); repeat (first | omega | simp only [World.size_alloc, World.size_setCell, World.size_drew] | (with_reducible refine le_ext_of ?_) | (with_reducible refine le_ext_add ?_))); done)) | ((with_reducible refine Below.setCell ?_ ?_ _); rotate_left; focus (((try dsimp only); repeat (first | omega | simp only [World.size_alloc, World.size_setCell, World.size_drew] | (with_reducible refine le_ext_of ?_) | (with_reducible refine le_ext_add ?_))); done)) | (with_reducible refine Below.drew ?_)))
  have HBX := Lib.hid (HBX0.out.trans (hBX.mono HBX0.out.size))
  have Nb := Lib.hid (show Blk X1 w.heap.size 26 #[.int .i64 b.lo, .int .i64 b.hi, .slice p b.ns.length c] from Kb.out.bel hBX)
  have Nn := Lib.hid (show Blk X1 (w.heap.size + 1) 38 #[.int .i64 s.kind, .int .i64 s.hour, .int .i64 s.lo, .int .i64 s.hi] from Kn.out.bel hBX)
  have HK2 := Lib.hid (HK1.out.bel hBX); clear HK1; have HK1 := HK2; clear HK2
  clear qb0 qb1 qb2 qn0 qn1 qn2 qn3 lb ln
  clear hX hBX HBX0 Kb Kn
  have Kb := Nb
  have Kn := Nn
  clear Nb Nn
  have HBX1 := HBX
  clear HBX
  have qb0 := Kb.out.cell 0
  have qb1 := Kb.out.cell 1
  have qb2 := Kb.out.cell 2
  have lb := Kb.out.lt
  have qn0 := Kn.out.cell 0
  have qn1 := Kn.out.cell 1
  have qn2 := Kn.out.cell 2
  have qn3 := Kn.out.cell 3
  have ln := Kn.out.lt
  simp only [List.size_toArray, List.length_cons, List.length_nil, Nat.reduceAdd, Nat.reduceLT, getElem?_pos, List.getElem_toArray, List.getElem_cons_zero, List.getElem_cons_succ] at qb0 qb1 qb2 qn0 qn1 qn2 qn3
  go_upto_region 6 with (go_at_call 42; refine (lwith_any b p c s _ HK1.out HC.out (by omega)).mono ?_; rintro e wu ⟨gm, cm, rfl, hOm, y, rfl⟩)
  generalize hX : (ext X1 y).alloc _ = X2
  generalize hg : (ext X1 y).heap.size = gx at *
  have hBX : Below X1.heap.size X1 X2 := by rw [← hX]; (repeat (first | (with_reducible exact Below.refl _ _) | (with_reducible assumption) | ((with_reducible refine below_ext_trans ?_ ?_ _); rotate_left; focus (((try dsimp only); repeat (first | omega | simp only [World.size_alloc, World.size_setCell, World.size_drew] | (with_reducible refine le_ext_of ?_) | (with_reducible refine le_ext_add ?_))); done)) | ((with_reducible refine Below.alloc ?_ ?_ _); rotate_left; focus (((try dsimp only); repeat (first | omega | simp only [World.size_alloc, World.size_setCell, World.size_drew] | (with_reducible refine le_ext_of ?_) | (with_reducible refine le_ext_add ?_))); done)) | ((with_reducible refine Below.setCell ?_ ?_ _); rotate_left; focus (((try dsimp only); repeat (first | omega | simp only [World.size_alloc, World.size_setCell, World.size_drew] | (with_reducible refine le_ext_of ?_) | (with_reducible refine le_ext_add ?_))); done)) | (with_reducible refine Below.drew ?_)))
  have HBX := Lib.hid (HBX1.out.trans (hBX.mono HBX1.out.size))
  have Nb := Lib.hid (show Blk X2 w.heap.size 26 #[.int .i64 b.lo, .int .i64 b.hi, .slice p b.ns.length c] from Kb.out.bel hBX)
  have Nn := Lib.hid (show Blk X2 (w.heap.size + 1) 38 #[.int .i64 s.kind, .int .i64 s.hour, .int .i64 s.lo, .int .i64 s.hi] from Kn.out.bel hBX)
  have Nx := Lib.hid (show Blk X2 gx 26 #[.int .i64 b.lo, .int .i64 b.hi, .slice (some ⟨gm, 0, none⟩) (withS b s).ns.length cm] by rw [← hX]; exact Blk.new hg.symm)
  have HM := Lib.hid ((sbk_of hOm (HK1.out.bel (below_ext _ _)).mm).bel (show Below (ext X1 y).heap.size (ext X1 y) X2 by rw [← hX]; (repeat (first | (with_reducible exact Below.refl _ _) | (with_reducible assumption) | ((with_reducible refine below_ext_trans ?_ ?_ _); rotate_left; focus (((try dsimp only); repeat (first | omega | simp only [World.size_alloc, World.size_setCell, World.size_drew] | (with_reducible refine le_ext_of ?_) | (with_reducible refine le_ext_add ?_))); done)) | ((with_reducible refine Below.alloc ?_ ?_ _); rotate_left; focus (((try dsimp only); repeat (first | omega | simp only [World.size_alloc, World.size_setCell, World.size_drew] | (with_reducible refine le_ext_of ?_) | (with_reducible refine le_ext_add ?_))); done)) | ((with_reducible refine Below.setCell ?_ ?_ _); rotate_left; focus (((try dsimp only); repeat (first | omega | simp only [World.size_alloc, World.size_setCell, World.size_drew] | (with_reducible refine le_ext_of ?_) | (with_reducible refine le_ext_add ?_))); done)) | (with_reducible refine Below.drew ?_))))); clear hOm; have HK2 := Lib.hid (HK1.out.bel hBX); clear HK1; have HK1 := HK2; clear HK2
  clear qb0 qb1 qb2 qn0 qn1 qn2 qn3 lb ln
  clear hX hBX HBX1 hg Kb Kn
  have Kb := Nb
  have Kn := Nn
  have Kx := Nx
  clear Nb Nn Nx
  have HBX2 := HBX
  clear HBX
  have qb0 := Kb.out.cell 0
  have qb1 := Kb.out.cell 1
  have qb2 := Kb.out.cell 2
  have lb := Kb.out.lt
  have qn0 := Kn.out.cell 0
  have qn1 := Kn.out.cell 1
  have qn2 := Kn.out.cell 2
  have qn3 := Kn.out.cell 3
  have ln := Kn.out.lt
  have qx0 := Kx.out.cell 0
  have qx1 := Kx.out.cell 1
  have qx2 := Kx.out.cell 2
  have lx := Kx.out.lt
  simp only [List.size_toArray, List.length_cons, List.length_nil, Nat.reduceAdd, Nat.reduceLT, getElem?_pos, List.getElem_toArray, List.getElem_cons_zero, List.getElem_cons_succ] at qb0 qb1 qb2 qn0 qn1 qn2 qn3 qx0 qx1 qx2
  go_wp2_with (first | (go_at_call 16; refine (Check_eq (withS b s) (some ⟨gm, 0, none⟩) cm false _ HM.out hvx).mono ?_; rintro e wu ⟨rfl, y, rfl⟩) | (go_at_call 24; refine (sounded_any _ (HK1.out.mm.below (by (repeat (first | (with_reducible exact Below.refl _ _) | (with_reducible assumption) | ((with_reducible refine below_ext_trans ?_ ?_ _); rotate_left; focus (((try dsimp only); repeat (first | omega | simp only [World.size_alloc, World.size_setCell, World.size_drew] | (with_reducible refine le_ext_of ?_) | (with_reducible refine le_ext_add ?_))); done)) | ((with_reducible refine Below.alloc ?_ ?_ _); rotate_left; focus (((try dsimp only); repeat (first | omega | simp only [World.size_alloc, World.size_setCell, World.size_drew] | (with_reducible refine le_ext_of ?_) | (with_reducible refine le_ext_add ?_))); done)) | ((with_reducible refine Below.setCell ?_ ?_ _); rotate_left; focus (((try dsimp only); repeat (first | omega | simp only [World.size_alloc, World.size_setCell, World.size_drew] | (with_reducible refine le_ext_of ?_) | (with_reducible refine le_ext_add ?_))); done)) | (with_reducible refine Below.drew ?_)))))).mono ?_; rintro e w1 ⟨rfl, y, rfl⟩))
  go_ret
  exact ⟨rfl, ext_of (HBX2.out.trans (Below.mono (show Below X2.heap.size X2 _ by (repeat (first | (with_reducible exact Below.refl _ _) | (with_reducible assumption) | ((with_reducible refine below_ext_trans ?_ ?_ _); rotate_left; focus (((try dsimp only); repeat (first | omega | simp only [World.size_alloc, World.size_setCell, World.size_drew] | (with_reducible refine le_ext_of ?_) | (with_reducible refine le_ext_add ?_))); done)) | ((with_reducible refine Below.alloc ?_ ?_ _); rotate_left; focus (((try dsimp only); repeat (first | omega | simp only [World.size_alloc, World.size_setCell, World.size_drew] | (with_reducible refine le_ext_of ?_) | (with_reducible refine le_ext_add ?_))); done)) | ((with_reducible refine Below.setCell ?_ ?_ _); rotate_left; focus (((try dsimp only); repeat (first | omega | simp only [World.size_alloc, World.size_setCell, World.size_drew] | (with_reducible refine le_ext_of ?_) | (with_reducible refine le_ext_add ?_))); done)) | (with_reducible refine Below.drew ?_)))) HBX2.out.size))⟩
end Go.Proofs.YtamknmgplhaciaaDoor

namespace Go.Proofs.YtamknmgplhaciaaDoor
open Go Go.RowKit Go.Shelf
attribute [local go_sem] Oper.semAt_some frozen_alloc_lt
set_option maxRecDepth 100000 in
set_option maxHeartbeats 8000000 in
theorem SeineMore_no1 (b : Sn) (p : Option Addr) (c : Nat) (s : Nt) (n : Int) (w : World) (hk : SBk w b p) (hc : SBc b p c) (hv : snB b = true) (hn8 : b.ns.length ≠ 8) (r : Bool) (hs : ntB s = true) (hq : rightS (withS b s) = false) (hr : rightS b = r) (hn0 : b.ns = [])  :
    Calls Tryd.prog 8 #[bV b p c, .agg (ntC s), .int .i64 n] w fun e w' => e = .returned (.bool true) ∧ ∃ x, w' = ext w x := by
  have HK := Lib.hid hk
  have HC := Lib.hid hc
  have hok := Ok9.of hv
  have hlen : b.ns.length ≤ 9 := hok.len
  have hd8 : ((b.ns.length : Int) == 8) = false := by simpa using (show ¬ (b.ns.length : Int) = 8 by omega)
  have HV := Lib.hid hv
  have HS := Lib.hid hs
  have HQ := Lib.hid hq
  have HR := Lib.hid hr
  have HVX := Lib.hid (snB_with hv hs (by have := snB_len hv; omega))
  clear hs hq hr
  have HN0 := Lib.hid hn0
  clear hn0
  clear hk hc hok hn8
  go_enter Tryd.func8, Tryd.ntmps8
  go_upto_region 3 with (go_at_call 34; refine (sound_yes b p c _ (HK.out.bel (by (repeat (first | (with_reducible exact Below.refl _ _) | (with_reducible assumption) | ((with_reducible refine below_ext_trans ?_ ?_ _); rotate_left; focus (((try dsimp only); repeat (first | omega | simp only [World.size_alloc, World.size_setCell, World.size_drew] | (with_reducible refine le_ext_of ?_) | (with_reducible refine le_ext_add ?_))); done)) | ((with_reducible refine Below.alloc ?_ ?_ _); rotate_left; focus (((try dsimp only); repeat (first | omega | simp only [World.size_alloc, World.size_setCell, World.size_drew] | (with_reducible refine le_ext_of ?_) | (with_reducible refine le_ext_add ?_))); done)) | ((with_reducible refine Below.setCell ?_ ?_ _); rotate_left; focus (((try dsimp only); repeat (first | omega | simp only [World.size_alloc, World.size_setCell, World.size_drew] | (with_reducible refine le_ext_of ?_) | (with_reducible refine le_ext_add ?_))); done)) | (with_reducible refine Below.drew ?_))))) hv).mono ?_; rintro e w1 ⟨rfl, y, rfl⟩)
  generalize hX : ext ((w.alloc _).alloc _) _ = W
  have hB : Below w.heap.size w W := by rw [← hX]; (repeat (first | (with_reducible exact Below.refl _ _) | (with_reducible assumption) | ((with_reducible refine below_ext_trans ?_ ?_ _); rotate_left; focus (((try dsimp only); repeat (first | omega | simp only [World.size_alloc, World.size_setCell, World.size_drew] | (with_reducible refine le_ext_of ?_) | (with_reducible refine le_ext_add ?_))); done)) | ((with_reducible refine Below.alloc ?_ ?_ _); rotate_left; focus (((try dsimp only); repeat (first | omega | simp only [World.size_alloc, World.size_setCell, World.size_drew] | (with_reducible refine le_ext_of ?_) | (with_reducible refine le_ext_add ?_))); done)) | ((with_reducible refine Below.setCell ?_ ?_ _); rotate_left; focus (((try dsimp only); repeat (first | omega | simp only [World.size_alloc, World.size_setCell, World.size_drew] | (with_reducible refine le_ext_of ?_) | (with_reducible refine le_ext_add ?_))); done)) | (with_reducible refine Below.drew ?_)))
  have Kb := Lib.hid (show Blk W w.heap.size 26 #[.int .i64 b.lo, .int .i64 b.hi, .slice p b.ns.length c] by rw [← hX]; exact ((Blk.new rfl).alloc _).ext _)
  have Kn := Lib.hid (show Blk W (w.heap.size + 1) 38 #[.int .i64 s.kind, .int .i64 s.hour, .int .i64 s.lo, .int .i64 s.hi] by rw [← hX]; exact (Blk.new (by simp)).ext _)
  have HBW := Lib.hid hB
  have HK1 := Lib.hid (HK.out.bel hB)
  clear hX hB HK hd8 hv
  have qb0 := Kb.out.cell 0
  have qb1 := Kb.out.cell 1
  have qb2 := Kb.out.cell 2
  have lb := Kb.out.lt
  have qn0 := Kn.out.cell 0
  have qn1 := Kn.out.cell 1
  have qn2 := Kn.out.cell 2
  have qn3 := Kn.out.cell 3
  have ln := Kn.out.lt
  simp only [List.size_toArray, List.length_cons, List.length_nil, Nat.reduceAdd, Nat.reduceLT, getElem?_pos, List.getElem_toArray, List.getElem_cons_zero, List.getElem_cons_succ] at qb0 qb1 qb2 qn0 qn1 qn2 qn3
  go_upto_region 4 with (go_at_call 29; refine (Fits_is b p c s false _ HK1.out HC.out HV.out HS.out HQ.out).mono ?_; rintro e wu ⟨rfl, y, rfl⟩)
  generalize hX : ext W y = X0 at *
  have hBX : Below W.heap.size W X0 := by rw [← hX]; (repeat (first | (with_reducible exact Below.refl _ _) | (with_reducible assumption) | ((with_reducible refine below_ext_trans ?_ ?_ _); rotate_left; focus (((try dsimp only); repeat (first | omega | simp only [World.size_alloc, World.size_setCell, World.size_drew] | (with_reducible refine le_ext_of ?_) | (with_reducible refine le_ext_add ?_))); done)) | ((with_reducible refine Below.alloc ?_ ?_ _); rotate_left; focus (((try dsimp only); repeat (first | omega | simp only [World.size_alloc, World.size_setCell, World.size_drew] | (with_reducible refine le_ext_of ?_) | (with_reducible refine le_ext_add ?_))); done)) | ((with_reducible refine Below.setCell ?_ ?_ _); rotate_left; focus (((try dsimp only); repeat (first | omega | simp only [World.size_alloc, World.size_setCell, World.size_drew] | (with_reducible refine le_ext_of ?_) | (with_reducible refine le_ext_add ?_))); done)) | (with_reducible refine Below.drew ?_)))
  have HBX := Lib.hid (HBW.out.trans (hBX.mono HBW.out.size))
  have Nb := Lib.hid (show Blk X0 w.heap.size 26 #[.int .i64 b.lo, .int .i64 b.hi, .slice p b.ns.length c] from Kb.out.bel hBX)
  have Nn := Lib.hid (show Blk X0 (w.heap.size + 1) 38 #[.int .i64 s.kind, .int .i64 s.hour, .int .i64 s.lo, .int .i64 s.hi] from Kn.out.bel hBX)
  have HK2 := Lib.hid (HK1.out.bel hBX); clear HK1; have HK1 := HK2; clear HK2
  clear qb0 qb1 qb2 qn0 qn1 qn2 qn3 lb ln
  clear hX hBX HBW Kb Kn
  have Kb := Nb
  have Kn := Nn
  clear Nb Nn
  have HBX0 := HBX
  clear HBX
  have qb0 := Kb.out.cell 0
  have qb1 := Kb.out.cell 1
  have qb2 := Kb.out.cell 2
  have lb := Kb.out.lt
  have qn0 := Kn.out.cell 0
  have qn1 := Kn.out.cell 1
  have qn2 := Kn.out.cell 2
  have qn3 := Kn.out.cell 3
  have ln := Kn.out.lt
  simp only [List.size_toArray, List.length_cons, List.length_nil, Nat.reduceAdd, Nat.reduceLT, getElem?_pos, List.getElem_toArray, List.getElem_cons_zero, List.getElem_cons_succ] at qb0 qb1 qb2 qn0 qn1 qn2 qn3
  go_upto_region 5 with (go_at_call 14; refine (Right_is b p c r _ HK1.out HV.out HR.out).mono ?_; rintro e wu ⟨rfl, y, rfl⟩)
  generalize hX : ext X0 y = X1 at *
  have hBX : Below X0.heap.size X0 X1 := by rw [← hX]; (repeat (first | (with_reducible exact Below.refl _ _) | (with_reducible assumption) | ((with_reducible refine below_ext_trans ?_ ?_ _); rotate_left; focus (((try dsimp only); repeat (first | omega | simp only [World.size_alloc, World.size_setCell, World.size_drew] | (with_reducible refine le_ext_of ?_) | (with_reducible refine le_ext_add ?_))); done)) | ((with_reducible refine Below.alloc ?_ ?_ _); rotate_left; focus (((try dsimp only); repeat (first | omega | simp only [World.size_alloc, World.size_setCell, World.size_drew] | (with_reducible refine le_ext_of ?_) | (with_reducible refine le_ext_add ?_))); done)) | ((with_reducible refine Below.setCell ?_ ?_ _); rotate_left; focus (((try dsimp only); repeat (first | omega | simp only [World.size_alloc, World.size_setCell, World.size_drew] | (with_reducible refine le_ext_of ?_) | (with_reducible refine le_ext_add ?_))); done)) | (with_reducible refine Below.drew ?_)))
  have HBX := Lib.hid (HBX0.out.trans (hBX.mono HBX0.out.size))
  have Nb := Lib.hid (show Blk X1 w.heap.size 26 #[.int .i64 b.lo, .int .i64 b.hi, .slice p b.ns.length c] from Kb.out.bel hBX)
  have Nn := Lib.hid (show Blk X1 (w.heap.size + 1) 38 #[.int .i64 s.kind, .int .i64 s.hour, .int .i64 s.lo, .int .i64 s.hi] from Kn.out.bel hBX)
  have HK2 := Lib.hid (HK1.out.bel hBX); clear HK1; have HK1 := HK2; clear HK2
  clear qb0 qb1 qb2 qn0 qn1 qn2 qn3 lb ln
  clear hX hBX HBX0 Kb Kn
  have Kb := Nb
  have Kn := Nn
  clear Nb Nn
  have HBX1 := HBX
  clear HBX
  have qb0 := Kb.out.cell 0
  have qb1 := Kb.out.cell 1
  have qb2 := Kb.out.cell 2
  have lb := Kb.out.lt
  have qn0 := Kn.out.cell 0
  have qn1 := Kn.out.cell 1
  have qn2 := Kn.out.cell 2
  have qn3 := Kn.out.cell 3
  have ln := Kn.out.lt
  simp only [List.size_toArray, List.length_cons, List.length_nil, Nat.reduceAdd, Nat.reduceLT, getElem?_pos, List.getElem_toArray, List.getElem_cons_zero, List.getElem_cons_succ] at qb0 qb1 qb2 qn0 qn1 qn2 qn3
  go_upto_region 6 with (go_at_call 42; refine (lwith_any b p c s _ HK1.out HC.out (by omega)).mono ?_; rintro e wu ⟨gm, cm, rfl, hOm, y, rfl⟩)
  generalize hX : (ext X1 y).alloc _ = X2
  generalize hg : (ext X1 y).heap.size = gx at *
  have hBX : Below X1.heap.size X1 X2 := by rw [← hX]; (repeat (first | (with_reducible exact Below.refl _ _) | (with_reducible assumption) | ((with_reducible refine below_ext_trans ?_ ?_ _); rotate_left; focus (((try dsimp only); repeat (first | omega | simp only [World.size_alloc, World.size_setCell, World.size_drew] | (with_reducible refine le_ext_of ?_) | (with_reducible refine le_ext_add ?_))); done)) | ((with_reducible refine Below.alloc ?_ ?_ _); rotate_left; focus (((try dsimp only); repeat (first | omega | simp only [World.size_alloc, World.size_setCell, World.size_drew] | (with_reducible refine le_ext_of ?_) | (with_reducible refine le_ext_add ?_))); done)) | ((with_reducible refine Below.setCell ?_ ?_ _); rotate_left; focus (((try dsimp only); repeat (first | omega | simp only [World.size_alloc, World.size_setCell, World.size_drew] | (with_reducible refine le_ext_of ?_) | (with_reducible refine le_ext_add ?_))); done)) | (with_reducible refine Below.drew ?_)))
  have HBX := Lib.hid (HBX1.out.trans (hBX.mono HBX1.out.size))
  have Nb := Lib.hid (show Blk X2 w.heap.size 26 #[.int .i64 b.lo, .int .i64 b.hi, .slice p b.ns.length c] from Kb.out.bel hBX)
  have Nn := Lib.hid (show Blk X2 (w.heap.size + 1) 38 #[.int .i64 s.kind, .int .i64 s.hour, .int .i64 s.lo, .int .i64 s.hi] from Kn.out.bel hBX)
  have Nx := Lib.hid (show Blk X2 gx 26 #[.int .i64 b.lo, .int .i64 b.hi, .slice (some ⟨gm, 0, none⟩) (withS b s).ns.length cm] by rw [← hX]; exact Blk.new hg.symm)
  have HM := Lib.hid ((sbk_of hOm (HK1.out.bel (below_ext _ _)).mm).bel (show Below (ext X1 y).heap.size (ext X1 y) X2 by rw [← hX]; (repeat (first | (with_reducible exact Below.refl _ _) | (with_reducible assumption) | ((with_reducible refine below_ext_trans ?_ ?_ _); rotate_left; focus (((try dsimp only); repeat (first | omega | simp only [World.size_alloc, World.size_setCell, World.size_drew] | (with_reducible refine le_ext_of ?_) | (with_reducible refine le_ext_add ?_))); done)) | ((with_reducible refine Below.alloc ?_ ?_ _); rotate_left; focus (((try dsimp only); repeat (first | omega | simp only [World.size_alloc, World.size_setCell, World.size_drew] | (with_reducible refine le_ext_of ?_) | (with_reducible refine le_ext_add ?_))); done)) | ((with_reducible refine Below.setCell ?_ ?_ _); rotate_left; focus (((try dsimp only); repeat (first | omega | simp only [World.size_alloc, World.size_setCell, World.size_drew] | (with_reducible refine le_ext_of ?_) | (with_reducible refine le_ext_add ?_))); done)) | (with_reducible refine Below.drew ?_))))); clear hOm; have HK2 := Lib.hid (HK1.out.bel hBX); clear HK1; have HK1 := HK2; clear HK2
  clear qb0 qb1 qb2 qn0 qn1 qn2 qn3 lb ln
  clear hX hBX HBX1 hg Kb Kn
  have Kb := Nb
  have Kn := Nn
  have Kx := Nx
  clear Nb Nn Nx
  have HBX2 := HBX
  clear HBX
  have qb0 := Kb.out.cell 0
  have qb1 := Kb.out.cell 1
  have qb2 := Kb.out.cell 2
  have lb := Kb.out.lt
  have qn0 := Kn.out.cell 0
  have qn1 := Kn.out.cell 1
  have qn2 := Kn.out.cell 2
  have qn3 := Kn.out.cell 3
  have ln := Kn.out.lt
  have qx0 := Kx.out.cell 0
  have qx1 := Kx.out.cell 1
  have qx2 := Kx.out.cell 2
  have lx := Kx.out.lt
  simp only [List.size_toArray, List.length_cons, List.length_nil, Nat.reduceAdd, Nat.reduceLT, getElem?_pos, List.getElem_toArray, List.getElem_cons_zero, List.getElem_cons_succ] at qb0 qb1 qb2 qn0 qn1 qn2 qn3 qx0 qx1 qx2
  go_upto_region 9 with (go_at_call 14; refine (Right_is (withS b s) (some ⟨gm, 0, none⟩) cm false _ HM.out HVX.out HQ.out).mono ?_; rintro e wu ⟨rfl, y, rfl⟩)
  generalize hX : ext X2 y = X3 at *
  have hBX : Below X2.heap.size X2 X3 := by rw [← hX]; (repeat (first | (with_reducible exact Below.refl _ _) | (with_reducible assumption) | ((with_reducible refine below_ext_trans ?_ ?_ _); rotate_left; focus (((try dsimp only); repeat (first | omega | simp only [World.size_alloc, World.size_setCell, World.size_drew] | (with_reducible refine le_ext_of ?_) | (with_reducible refine le_ext_add ?_))); done)) | ((with_reducible refine Below.alloc ?_ ?_ _); rotate_left; focus (((try dsimp only); repeat (first | omega | simp only [World.size_alloc, World.size_setCell, World.size_drew] | (with_reducible refine le_ext_of ?_) | (with_reducible refine le_ext_add ?_))); done)) | ((with_reducible refine Below.setCell ?_ ?_ _); rotate_left; focus (((try dsimp only); repeat (first | omega | simp only [World.size_alloc, World.size_setCell, World.size_drew] | (with_reducible refine le_ext_of ?_) | (with_reducible refine le_ext_add ?_))); done)) | (with_reducible refine Below.drew ?_)))
  have HBX := Lib.hid (HBX2.out.trans (hBX.mono HBX2.out.size))
  have Nb := Lib.hid (show Blk X3 w.heap.size 26 #[.int .i64 b.lo, .int .i64 b.hi, .slice p b.ns.length c] from Kb.out.bel hBX)
  have Nn := Lib.hid (show Blk X3 (w.heap.size + 1) 38 #[.int .i64 s.kind, .int .i64 s.hour, .int .i64 s.lo, .int .i64 s.hi] from Kn.out.bel hBX)
  have Nx := Lib.hid (show Blk X3 gx 26 #[.int .i64 b.lo, .int .i64 b.hi, .slice (some ⟨gm, 0, none⟩) (withS b s).ns.length cm] from Kx.out.bel hBX)
  have HK2 := Lib.hid (HK1.out.bel hBX); clear HK1; have HK1 := HK2; clear HK2; have HM2 := Lib.hid (HM.out.bel hBX); clear HM; have HM := HM2; clear HM2
  clear qb0 qb1 qb2 qn0 qn1 qn2 qn3 qx0 qx1 qx2 lb ln lx
  clear hX hBX HBX2 Kb Kn Kx
  have Kb := Nb
  have Kn := Nn
  have Kx := Nx
  clear Nb Nn Nx
  have HBX3 := HBX
  clear HBX
  have qb0 := Kb.out.cell 0
  have qb1 := Kb.out.cell 1
  have qb2 := Kb.out.cell 2
  have lb := Kb.out.lt
  have qn0 := Kn.out.cell 0
  have qn1 := Kn.out.cell 1
  have qn2 := Kn.out.cell 2
  have qn3 := Kn.out.cell 3
  have ln := Kn.out.lt
  have qx0 := Kx.out.cell 0
  have qx1 := Kx.out.cell 1
  have qx2 := Kx.out.cell 2
  have lx := Kx.out.lt
  simp only [List.size_toArray, List.length_cons, List.length_nil, Nat.reduceAdd, Nat.reduceLT, getElem?_pos, List.getElem_toArray, List.getElem_cons_zero, List.getElem_cons_succ] at qb0 qb1 qb2 qn0 qn1 qn2 qn3 qx0 qx1 qx2
  go_upto_region 11 with fail
  have hg0 : ((b.ns.length : Int) == 0) = true := by rw [HN0.out]; rfl
  clear HN0
  refine wp_region_ext (by kernel_rfl) (by kernel_rfl) ?_
  repeat (go_big_quiet_step (first | fail))
  (refine wpQuiet_nil ?_; rintro _ ⟨x, rfl⟩)
  generalize hX : ext X3 _ = Y4
  have hBX : Below X3.heap.size X3 Y4 := by rw [← hX]; exact below_ext _ _
  have HBY4 := Lib.hid (HBX3.out.trans (hBX.mono HBX3.out.size))
  have HK2 := Lib.hid (HK1.out.bel hBX); clear HK1; have HK1 := HK2; clear HK2; have HM2 := Lib.hid (HM.out.bel hBX); clear HM; have HM := HM2; clear HM2
  have Nb := Lib.hid (show Blk Y4 w.heap.size 26 #[.int .i64 b.lo, .int .i64 b.hi, .slice p b.ns.length c] from Kb.out.bel hBX)
  have Nn := Lib.hid (show Blk Y4 (w.heap.size + 1) 38 #[.int .i64 s.kind, .int .i64 s.hour, .int .i64 s.lo, .int .i64 s.hi] from Kn.out.bel hBX)
  have Nx := Lib.hid (show Blk Y4 gx 26 #[.int .i64 b.lo, .int .i64 b.hi, .slice (some ⟨gm, 0, none⟩) (withS b s).ns.length cm] from Kx.out.bel hBX)
  clear qb0 qb1 qb2 qn0 qn1 qn2 qn3 qx0 qx1 qx2 lb ln lx
  clear hX hBX HBX3 Kb Kn Kx
  have Kb := Nb
  have Kn := Nn
  have Kx := Nx
  clear Nb Nn Nx
  have qb0 := Kb.out.cell 0
  have qb1 := Kb.out.cell 1
  have qb2 := Kb.out.cell 2
  have lb := Kb.out.lt
  have qn0 := Kn.out.cell 0
  have qn1 := Kn.out.cell 1
  have qn2 := Kn.out.cell 2
  have qn3 := Kn.out.cell 3
  have ln := Kn.out.lt
  have qx0 := Kx.out.cell 0
  have qx1 := Kx.out.cell 1
  have qx2 := Kx.out.cell 2
  have lx := Kx.out.lt
  simp only [List.size_toArray, List.length_cons, List.length_nil, Nat.reduceAdd, Nat.reduceLT, getElem?_pos, List.getElem_toArray, List.getElem_cons_zero, List.getElem_cons_succ] at qb0 qb1 qb2 qn0 qn1 qn2 qn3 qx0 qx1 qx2
  clear hg0
  go_wp2_with (go_at_call 24; refine (sounded_any _ (HK1.out.mm.below (by (repeat (first | (with_reducible exact Below.refl _ _) | (with_reducible assumption) | ((with_reducible refine below_ext_trans ?_ ?_ _); rotate_left; focus (((try dsimp only); repeat (first | omega | simp only [World.size_alloc, World.size_setCell, World.size_drew] | (with_reducible refine le_ext_of ?_) | (with_reducible refine le_ext_add ?_))); done)) | ((with_reducible refine Below.alloc ?_ ?_ _); rotate_left; focus (((try dsimp only); repeat (first | omega | simp only [World.size_alloc, World.size_setCell, World.size_drew] | (with_reducible refine le_ext_of ?_) | (with_reducible refine le_ext_add ?_))); done)) | ((with_reducible refine Below.setCell ?_ ?_ _); rotate_left; focus (((try dsimp only); repeat (first | omega | simp only [World.size_alloc, World.size_setCell, World.size_drew] | (with_reducible refine le_ext_of ?_) | (with_reducible refine le_ext_add ?_))); done)) | (with_reducible refine Below.drew ?_)))))).mono ?_; rintro e w1 ⟨rfl, y, rfl⟩)
  go_ret
  exact ⟨rfl, ext_of (HBY4.out.trans (Below.mono (show Below Y4.heap.size Y4 _ by (repeat (first | (with_reducible exact Below.refl _ _) | (with_reducible assumption) | ((with_reducible refine below_ext_trans ?_ ?_ _); rotate_left; focus (((try dsimp only); repeat (first | omega | simp only [World.size_alloc, World.size_setCell, World.size_drew] | (with_reducible refine le_ext_of ?_) | (with_reducible refine le_ext_add ?_))); done)) | ((with_reducible refine Below.alloc ?_ ?_ _); rotate_left; focus (((try dsimp only); repeat (first | omega | simp only [World.size_alloc, World.size_setCell, World.size_drew] | (with_reducible refine le_ext_of ?_) | (with_reducible refine le_ext_add ?_))); done)) | ((with_reducible refine Below.setCell ?_ ?_ _); rotate_left; focus (((try dsimp only); repeat (first | omega | simp only [World.size_alloc, World.size_setCell, World.size_drew] | (with_reducible refine le_ext_of ?_) | (with_reducible refine le_ext_add ?_))); done)) | (with_reducible refine Below.drew ?_)))) HBY4.out.size))⟩
end Go.Proofs.YtamknmgplhaciaaDoor

namespace Go.Proofs.YtamknmgplhaciaaDoor
open Go Go.RowKit Go.Shelf
attribute [local go_sem] Oper.semAt_some frozen_alloc_lt
set_option maxRecDepth 100000 in
set_option maxHeartbeats 8000000 in
theorem SeineMore_no0 (b : Sn) (p : Option Addr) (c : Nat) (s : Nt) (n : Int) (w : World) (hk : SBk w b p) (hc : SBc b p c) (hv : snB b = true) (hn8 : b.ns.length ≠ 8) (r : Bool) (hs : ntB s = true) (hq : rightS (withS b s) = false) (hr : rightS b = r) (k : Nat) (t : Nt) (la : Int) (hnk : b.ns.length = k + 1) (ht : b.ns[k]? = some t) (hla : t.hour = la)  :
    Calls Tryd.prog 8 #[bV b p c, .agg (ntC s), .int .i64 n] w fun e w' => e = .returned (.bool true) ∧ ∃ x, w' = ext w x := by
  have HK := Lib.hid hk
  have HC := Lib.hid hc
  have hok := Ok9.of hv
  have hlen : b.ns.length ≤ 9 := hok.len
  have hd8 : ((b.ns.length : Int) == 8) = false := by simpa using (show ¬ (b.ns.length : Int) = 8 by omega)
  have HV := Lib.hid hv
  have HS := Lib.hid hs
  have HQ := Lib.hid hq
  have HR := Lib.hid hr
  have HVX := Lib.hid (snB_with hv hs (by have := snB_len hv; omega))
  clear hs hq hr
  have HNK := Lib.hid hnk
  have HT := Lib.hid ht
  have HLA := Lib.hid hla
  clear hnk ht hla
  clear hk hc hok hn8
  go_enter Tryd.func8, Tryd.ntmps8
  go_upto_region 3 with (go_at_call 34; refine (sound_yes b p c _ (HK.out.bel (by (repeat (first | (with_reducible exact Below.refl _ _) | (with_reducible assumption) | ((with_reducible refine below_ext_trans ?_ ?_ _); rotate_left; focus (((try dsimp only); repeat (first | omega | simp only [World.size_alloc, World.size_setCell, World.size_drew] | (with_reducible refine le_ext_of ?_) | (with_reducible refine le_ext_add ?_))); done)) | ((with_reducible refine Below.alloc ?_ ?_ _); rotate_left; focus (((try dsimp only); repeat (first | omega | simp only [World.size_alloc, World.size_setCell, World.size_drew] | (with_reducible refine le_ext_of ?_) | (with_reducible refine le_ext_add ?_))); done)) | ((with_reducible refine Below.setCell ?_ ?_ _); rotate_left; focus (((try dsimp only); repeat (first | omega | simp only [World.size_alloc, World.size_setCell, World.size_drew] | (with_reducible refine le_ext_of ?_) | (with_reducible refine le_ext_add ?_))); done)) | (with_reducible refine Below.drew ?_))))) hv).mono ?_; rintro e w1 ⟨rfl, y, rfl⟩)
  generalize hX : ext ((w.alloc _).alloc _) _ = W
  have hB : Below w.heap.size w W := by rw [← hX]; (repeat (first | (with_reducible exact Below.refl _ _) | (with_reducible assumption) | ((with_reducible refine below_ext_trans ?_ ?_ _); rotate_left; focus (((try dsimp only); repeat (first | omega | simp only [World.size_alloc, World.size_setCell, World.size_drew] | (with_reducible refine le_ext_of ?_) | (with_reducible refine le_ext_add ?_))); done)) | ((with_reducible refine Below.alloc ?_ ?_ _); rotate_left; focus (((try dsimp only); repeat (first | omega | simp only [World.size_alloc, World.size_setCell, World.size_drew] | (with_reducible refine le_ext_of ?_) | (with_reducible refine le_ext_add ?_))); done)) | ((with_reducible refine Below.setCell ?_ ?_ _); rotate_left; focus (((try dsimp only); repeat (first | omega | simp only [World.size_alloc, World.size_setCell, World.size_drew] | (with_reducible refine le_ext_of ?_) | (with_reducible refine le_ext_add ?_))); done)) | (with_reducible refine Below.drew ?_)))
  have Kb := Lib.hid (show Blk W w.heap.size 26 #[.int .i64 b.lo, .int .i64 b.hi, .slice p b.ns.length c] by rw [← hX]; exact ((Blk.new rfl).alloc _).ext _)
  have Kn := Lib.hid (show Blk W (w.heap.size + 1) 38 #[.int .i64 s.kind, .int .i64 s.hour, .int .i64 s.lo, .int .i64 s.hi] by rw [← hX]; exact (Blk.new (by simp)).ext _)
  have HBW := Lib.hid hB
  have HK1 := Lib.hid (HK.out.bel hB)
  clear hX hB HK hd8 hv
  have qb0 := Kb.out.cell 0
  have qb1 := Kb.out.cell 1
  have qb2 := Kb.out.cell 2
  have lb := Kb.out.lt
  have qn0 := Kn.out.cell 0
  have qn1 := Kn.out.cell 1
  have qn2 := Kn.out.cell 2
  have qn3 := Kn.out.cell 3
  have ln := Kn.out.lt
  simp only [List.size_toArray, List.length_cons, List.length_nil, Nat.reduceAdd, Nat.reduceLT, getElem?_pos, List.getElem_toArray, List.getElem_cons_zero, List.getElem_cons_succ] at qb0 qb1 qb2 qn0 qn1 qn2 qn3
  go_upto_region 4 with (go_at_call 29; refine (Fits_is b p c s false _ HK1.out HC.out HV.out HS.out HQ.out).mono ?_; rintro e wu ⟨rfl, y, rfl⟩)
  generalize hX : ext W y = X0 at *
  have hBX : Below W.heap.size W X0 := by rw [← hX]; (repeat (first | (with_reducible exact Below.refl _ _) | (with_reducible assumption) | ((with_reducible refine below_ext_trans ?_ ?_ _); rotate_left; focus (((try dsimp only); repeat (first | omega | simp only [World.size_alloc, World.size_setCell, World.size_drew] | (with_reducible refine le_ext_of ?_) | (with_reducible refine le_ext_add ?_))); done)) | ((with_reducible refine Below.alloc ?_ ?_ _); rotate_left; focus (((try dsimp only); repeat (first | omega | simp only [World.size_alloc, World.size_setCell, World.size_drew] | (with_reducible refine le_ext_of ?_) | (with_reducible refine le_ext_add ?_))); done)) | ((with_reducible refine Below.setCell ?_ ?_ _); rotate_left; focus (((try dsimp only); repeat (first | omega | simp only [World.size_alloc, World.size_setCell, World.size_drew] | (with_reducible refine le_ext_of ?_) | (with_reducible refine le_ext_add ?_))); done)) | (with_reducible refine Below.drew ?_)))
  have HBX := Lib.hid (HBW.out.trans (hBX.mono HBW.out.size))
  have Nb := Lib.hid (show Blk X0 w.heap.size 26 #[.int .i64 b.lo, .int .i64 b.hi, .slice p b.ns.length c] from Kb.out.bel hBX)
  have Nn := Lib.hid (show Blk X0 (w.heap.size + 1) 38 #[.int .i64 s.kind, .int .i64 s.hour, .int .i64 s.lo, .int .i64 s.hi] from Kn.out.bel hBX)
  have HK2 := Lib.hid (HK1.out.bel hBX); clear HK1; have HK1 := HK2; clear HK2
  clear qb0 qb1 qb2 qn0 qn1 qn2 qn3 lb ln
  clear hX hBX HBW Kb Kn
  have Kb := Nb
  have Kn := Nn
  clear Nb Nn
  have HBX0 := HBX
  clear HBX
  have qb0 := Kb.out.cell 0
  have qb1 := Kb.out.cell 1
  have qb2 := Kb.out.cell 2
  have lb := Kb.out.lt
  have qn0 := Kn.out.cell 0
  have qn1 := Kn.out.cell 1
  have qn2 := Kn.out.cell 2
  have qn3 := Kn.out.cell 3
  have ln := Kn.out.lt
  simp only [List.size_toArray, List.length_cons, List.length_nil, Nat.reduceAdd, Nat.reduceLT, getElem?_pos, List.getElem_toArray, List.getElem_cons_zero, List.getElem_cons_succ] at qb0 qb1 qb2 qn0 qn1 qn2 qn3
  go_upto_region 5 with (go_at_call 14; refine (Right_is b p c r _ HK1.out HV.out HR.out).mono ?_; rintro e wu ⟨rfl, y, rfl⟩)
  generalize hX : ext X0 y = X1 at *
  have hBX : Below X0.heap.size X0 X1 := by rw [← hX]; (repeat (first | (with_reducible exact Below.refl _ _) | (with_reducible assumption) | ((with_reducible refine below_ext_trans ?_ ?_ _); rotate_left; focus (((try dsimp only); repeat (first | omega | simp only [World.size_alloc, World.size_setCell, World.size_drew] | (with_reducible refine le_ext_of ?_) | (with_reducible refine le_ext_add ?_))); done)) | ((with_reducible refine Below.alloc ?_ ?_ _); rotate_left; focus (((try dsimp only); repeat (first | omega | simp only [World.size_alloc, World.size_setCell, World.size_drew] | (with_reducible refine le_ext_of ?_) | (with_reducible refine le_ext_add ?_))); done)) | ((with_reducible refine Below.setCell ?_ ?_ _); rotate_left; focus (((try dsimp only); repeat (first | omega | simp only [World.size_alloc, World.size_setCell, World.size_drew] | (with_reducible refine le_ext_of ?_) | (with_reducible refine le_ext_add ?_))); done)) | (with_reducible refine Below.drew ?_)))
  have HBX := Lib.hid (HBX0.out.trans (hBX.mono HBX0.out.size))
  have Nb := Lib.hid (show Blk X1 w.heap.size 26 #[.int .i64 b.lo, .int .i64 b.hi, .slice p b.ns.length c] from Kb.out.bel hBX)
  have Nn := Lib.hid (show Blk X1 (w.heap.size + 1) 38 #[.int .i64 s.kind, .int .i64 s.hour, .int .i64 s.lo, .int .i64 s.hi] from Kn.out.bel hBX)
  have HK2 := Lib.hid (HK1.out.bel hBX); clear HK1; have HK1 := HK2; clear HK2
  clear qb0 qb1 qb2 qn0 qn1 qn2 qn3 lb ln
  clear hX hBX HBX0 Kb Kn
  have Kb := Nb
  have Kn := Nn
  clear Nb Nn
  have HBX1 := HBX
  clear HBX
  have qb0 := Kb.out.cell 0
  have qb1 := Kb.out.cell 1
  have qb2 := Kb.out.cell 2
  have lb := Kb.out.lt
  have qn0 := Kn.out.cell 0
  have qn1 := Kn.out.cell 1
  have qn2 := Kn.out.cell 2
  have qn3 := Kn.out.cell 3
  have ln := Kn.out.lt
  simp only [List.size_toArray, List.length_cons, List.length_nil, Nat.reduceAdd, Nat.reduceLT, getElem?_pos, List.getElem_toArray, List.getElem_cons_zero, List.getElem_cons_succ] at qb0 qb1 qb2 qn0 qn1 qn2 qn3
  go_upto_region 6 with (go_at_call 42; refine (lwith_any b p c s _ HK1.out HC.out (by omega)).mono ?_; rintro e wu ⟨gm, cm, rfl, hOm, y, rfl⟩)
  generalize hX : (ext X1 y).alloc _ = X2
  generalize hg : (ext X1 y).heap.size = gx at *
  have hBX : Below X1.heap.size X1 X2 := by rw [← hX]; (repeat (first | (with_reducible exact Below.refl _ _) | (with_reducible assumption) | ((with_reducible refine below_ext_trans ?_ ?_ _); rotate_left; focus (((try dsimp only); repeat (first | omega | simp only [World.size_alloc, World.size_setCell, World.size_drew] | (with_reducible refine le_ext_of ?_) | (with_reducible refine le_ext_add ?_))); done)) | ((with_reducible refine Below.alloc ?_ ?_ _); rotate_left; focus (((try dsimp only); repeat (first | omega | simp only [World.size_alloc, World.size_setCell, World.size_drew] | (with_reducible refine le_ext_of ?_) | (with_reducible refine le_ext_add ?_))); done)) | ((with_reducible refine Below.setCell ?_ ?_ _); rotate_left; focus (((try dsimp only); repeat (first | omega | simp only [World.size_alloc, World.size_setCell, World.size_drew] | (with_reducible refine le_ext_of ?_) | (with_reducible refine le_ext_add ?_))); done)) | (with_reducible refine Below.drew ?_)))
  have HBX := Lib.hid (HBX1.out.trans (hBX.mono HBX1.out.size))
  have Nb := Lib.hid (show Blk X2 w.heap.size 26 #[.int .i64 b.lo, .int .i64 b.hi, .slice p b.ns.length c] from Kb.out.bel hBX)
  have Nn := Lib.hid (show Blk X2 (w.heap.size + 1) 38 #[.int .i64 s.kind, .int .i64 s.hour, .int .i64 s.lo, .int .i64 s.hi] from Kn.out.bel hBX)
  have Nx := Lib.hid (show Blk X2 gx 26 #[.int .i64 b.lo, .int .i64 b.hi, .slice (some ⟨gm, 0, none⟩) (withS b s).ns.length cm] by rw [← hX]; exact Blk.new hg.symm)
  have HM := Lib.hid ((sbk_of hOm (HK1.out.bel (below_ext _ _)).mm).bel (show Below (ext X1 y).heap.size (ext X1 y) X2 by rw [← hX]; (repeat (first | (with_reducible exact Below.refl _ _) | (with_reducible assumption) | ((with_reducible refine below_ext_trans ?_ ?_ _); rotate_left; focus (((try dsimp only); repeat (first | omega | simp only [World.size_alloc, World.size_setCell, World.size_drew] | (with_reducible refine le_ext_of ?_) | (with_reducible refine le_ext_add ?_))); done)) | ((with_reducible refine Below.alloc ?_ ?_ _); rotate_left; focus (((try dsimp only); repeat (first | omega | simp only [World.size_alloc, World.size_setCell, World.size_drew] | (with_reducible refine le_ext_of ?_) | (with_reducible refine le_ext_add ?_))); done)) | ((with_reducible refine Below.setCell ?_ ?_ _); rotate_left; focus (((try dsimp only); repeat (first | omega | simp only [World.size_alloc, World.size_setCell, World.size_drew] | (with_reducible refine le_ext_of ?_) | (with_reducible refine le_ext_add ?_))); done)) | (with_reducible refine Below.drew ?_))))); clear hOm; have HK2 := Lib.hid (HK1.out.bel hBX); clear HK1; have HK1 := HK2; clear HK2
  clear qb0 qb1 qb2 qn0 qn1 qn2 qn3 lb ln
  clear hX hBX HBX1 hg Kb Kn
  have Kb := Nb
  have Kn := Nn
  have Kx := Nx
  clear Nb Nn Nx
  have HBX2 := HBX
  clear HBX
  have qb0 := Kb.out.cell 0
  have qb1 := Kb.out.cell 1
  have qb2 := Kb.out.cell 2
  have lb := Kb.out.lt
  have qn0 := Kn.out.cell 0
  have qn1 := Kn.out.cell 1
  have qn2 := Kn.out.cell 2
  have qn3 := Kn.out.cell 3
  have ln := Kn.out.lt
  have qx0 := Kx.out.cell 0
  have qx1 := Kx.out.cell 1
  have qx2 := Kx.out.cell 2
  have lx := Kx.out.lt
  simp only [List.size_toArray, List.length_cons, List.length_nil, Nat.reduceAdd, Nat.reduceLT, getElem?_pos, List.getElem_toArray, List.getElem_cons_zero, List.getElem_cons_succ] at qb0 qb1 qb2 qn0 qn1 qn2 qn3 qx0 qx1 qx2
  go_upto_region 9 with (go_at_call 14; refine (Right_is (withS b s) (some ⟨gm, 0, none⟩) cm false _ HM.out HVX.out HQ.out).mono ?_; rintro e wu ⟨rfl, y, rfl⟩)
  generalize hX : ext X2 y = X3 at *
  have hBX : Below X2.heap.size X2 X3 := by rw [← hX]; (repeat (first | (with_reducible exact Below.refl _ _) | (with_reducible assumption) | ((with_reducible refine below_ext_trans ?_ ?_ _); rotate_left; focus (((try dsimp only); repeat (first | omega | simp only [World.size_alloc, World.size_setCell, World.size_drew] | (with_reducible refine le_ext_of ?_) | (with_reducible refine le_ext_add ?_))); done)) | ((with_reducible refine Below.alloc ?_ ?_ _); rotate_left; focus (((try dsimp only); repeat (first | omega | simp only [World.size_alloc, World.size_setCell, World.size_drew] | (with_reducible refine le_ext_of ?_) | (with_reducible refine le_ext_add ?_))); done)) | ((with_reducible refine Below.setCell ?_ ?_ _); rotate_left; focus (((try dsimp only); repeat (first | omega | simp only [World.size_alloc, World.size_setCell, World.size_drew] | (with_reducible refine le_ext_of ?_) | (with_reducible refine le_ext_add ?_))); done)) | (with_reducible refine Below.drew ?_)))
  have HBX := Lib.hid (HBX2.out.trans (hBX.mono HBX2.out.size))
  have Nb := Lib.hid (show Blk X3 w.heap.size 26 #[.int .i64 b.lo, .int .i64 b.hi, .slice p b.ns.length c] from Kb.out.bel hBX)
  have Nn := Lib.hid (show Blk X3 (w.heap.size + 1) 38 #[.int .i64 s.kind, .int .i64 s.hour, .int .i64 s.lo, .int .i64 s.hi] from Kn.out.bel hBX)
  have Nx := Lib.hid (show Blk X3 gx 26 #[.int .i64 b.lo, .int .i64 b.hi, .slice (some ⟨gm, 0, none⟩) (withS b s).ns.length cm] from Kx.out.bel hBX)
  have HK2 := Lib.hid (HK1.out.bel hBX); clear HK1; have HK1 := HK2; clear HK2; have HM2 := Lib.hid (HM.out.bel hBX); clear HM; have HM := HM2; clear HM2
  clear qb0 qb1 qb2 qn0 qn1 qn2 qn3 qx0 qx1 qx2 lb ln lx
  clear hX hBX HBX2 Kb Kn Kx
  have Kb := Nb
  have Kn := Nn
  have Kx := Nx
  clear Nb Nn Nx
  have HBX3 := HBX
  clear HBX
  have qb0 := Kb.out.cell 0
  have qb1 := Kb.out.cell 1
  have qb2 := Kb.out.cell 2
  have lb := Kb.out.lt
  have qn0 := Kn.out.cell 0
  have qn1 := Kn.out.cell 1
  have qn2 := Kn.out.cell 2
  have qn3 := Kn.out.cell 3
  have ln := Kn.out.lt
  have qx0 := Kx.out.cell 0
  have qx1 := Kx.out.cell 1
  have qx2 := Kx.out.cell 2
  have lx := Kx.out.lt
  simp only [List.size_toArray, List.length_cons, List.length_nil, Nat.reduceAdd, Nat.reduceLT, getElem?_pos, List.getElem_toArray, List.getElem_cons_zero, List.getElem_cons_succ] at qb0 qb1 qb2 qn0 qn1 qn2 qn3 qx0 qx1 qx2
  go_upto_region 11 with fail
  have hnk := HNK.out
  have ht := HT.out
  have hg0 : ((b.ns.length : Int) == 0) = false := by simpa using (show ¬ (b.ns.length : Int) = 0 by omega)
  have e1 : IntKind.i64.wrap ((b.ns.length : Int) - 1) = (k : Int) := by rw [IntWalk.i64_in _ (by omega)]; omega
  have hk0 : (0 : Int) ≤ (k : Int) := by omega
  have hkl : (k : Int) < (b.ns.length : Int) := by omega
  have HKC := Lib.hid HK1.out.nt
  obtain ⟨bb, o, hp, hbb, c0, c1, c2, c3⟩ := HKC.out k t ht
  rw [HLA.out] at c1
  clear HKC ht hnk HT HNK HLA
  rw [hp] at qb2
  clear hp
  refine wp_region_ext (by kernel_rfl) (by kernel_rfl) ?_
  repeat (go_big_quiet_step (first | fail))
  (refine wpQuiet_nil ?_; rintro _ ⟨x, rfl⟩)
  generalize hX : ext X3 _ = Y4
  have hBX : Below X3.heap.size X3 Y4 := by rw [← hX]; exact below_ext _ _
  have HBY4 := Lib.hid (HBX3.out.trans (hBX.mono HBX3.out.size))
  have HK2 := Lib.hid (HK1.out.bel hBX); clear HK1; have HK1 := HK2; clear HK2; have HM2 := Lib.hid (HM.out.bel hBX); clear HM; have HM := HM2; clear HM2
  have Nb := Lib.hid (show Blk Y4 w.heap.size 26 #[.int .i64 b.lo, .int .i64 b.hi, .slice p b.ns.length c] from Kb.out.bel hBX)
  have Nn := Lib.hid (show Blk Y4 (w.heap.size + 1) 38 #[.int .i64 s.kind, .int .i64 s.hour, .int .i64 s.lo, .int .i64 s.hi] from Kn.out.bel hBX)
  have Nx := Lib.hid (show Blk Y4 gx 26 #[.int .i64 b.lo, .int .i64 b.hi, .slice (some ⟨gm, 0, none⟩) (withS b s).ns.length cm] from Kx.out.bel hBX)
  clear qb0 qb1 qb2 qn0 qn1 qn2 qn3 qx0 qx1 qx2 lb ln lx
  clear hX hBX HBX3 Kb Kn Kx
  have Kb := Nb
  have Kn := Nn
  have Kx := Nx
  clear Nb Nn Nx
  have qb0 := Kb.out.cell 0
  have qb1 := Kb.out.cell 1
  have qb2 := Kb.out.cell 2
  have lb := Kb.out.lt
  have qn0 := Kn.out.cell 0
  have qn1 := Kn.out.cell 1
  have qn2 := Kn.out.cell 2
  have qn3 := Kn.out.cell 3
  have ln := Kn.out.lt
  have qx0 := Kx.out.cell 0
  have qx1 := Kx.out.cell 1
  have qx2 := Kx.out.cell 2
  have lx := Kx.out.lt
  simp only [List.size_toArray, List.length_cons, List.length_nil, Nat.reduceAdd, Nat.reduceLT, getElem?_pos, List.getElem_toArray, List.getElem_cons_zero, List.getElem_cons_succ] at qb0 qb1 qb2 qn0 qn1 qn2 qn3 qx0 qx1 qx2
  clear c0 c1 c2 c3 hkl hk0 e1 hg0
  go_wp2_with (go_at_call 24; refine (sounded_any _ (HK1.out.mm.below (by (repeat (first | (with_reducible exact Below.refl _ _) | (with_reducible assumption) | ((with_reducible refine below_ext_trans ?_ ?_ _); rotate_left; focus (((try dsimp only); repeat (first | omega | simp only [World.size_alloc, World.size_setCell, World.size_drew] | (with_reducible refine le_ext_of ?_) | (with_reducible refine le_ext_add ?_))); done)) | ((with_reducible refine Below.alloc ?_ ?_ _); rotate_left; focus (((try dsimp only); repeat (first | omega | simp only [World.size_alloc, World.size_setCell, World.size_drew] | (with_reducible refine le_ext_of ?_) | (with_reducible refine le_ext_add ?_))); done)) | ((with_reducible refine Below.setCell ?_ ?_ _); rotate_left; focus (((try dsimp only); repeat (first | omega | simp only [World.size_alloc, World.size_setCell, World.size_drew] | (with_reducible refine le_ext_of ?_) | (with_reducible refine le_ext_add ?_))); done)) | (with_reducible refine Below.drew ?_)))))).mono ?_; rintro e w1 ⟨rfl, y, rfl⟩)
  go_ret
  exact ⟨rfl, ext_of (HBY4.out.trans (Below.mono (show Below Y4.heap.size Y4 _ by (repeat (first | (with_reducible exact Below.refl _ _) | (with_reducible assumption) | ((with_reducible refine below_ext_trans ?_ ?_ _); rotate_left; focus (((try dsimp only); repeat (first | omega | simp only [World.size_alloc, World.size_setCell, World.size_drew] | (with_reducible refine le_ext_of ?_) | (with_reducible refine le_ext_add ?_))); done)) | ((with_reducible refine Below.alloc ?_ ?_ _); rotate_left; focus (((try dsimp only); repeat (first | omega | simp only [World.size_alloc, World.size_setCell, World.size_drew] | (with_reducible refine le_ext_of ?_) | (with_reducible refine le_ext_add ?_))); done)) | ((with_reducible refine Below.setCell ?_ ?_ _); rotate_left; focus (((try dsimp only); repeat (first | omega | simp only [World.size_alloc, World.size_setCell, World.size_drew] | (with_reducible refine le_ext_of ?_) | (with_reducible refine le_ext_add ?_))); done)) | (with_reducible refine Below.drew ?_)))) HBY4.out.size))⟩
end Go.Proofs.YtamknmgplhaciaaDoor

