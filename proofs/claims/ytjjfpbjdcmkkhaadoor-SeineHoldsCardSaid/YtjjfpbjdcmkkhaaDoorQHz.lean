/- Program and reference alike: what is held. -/
/- The walk of SeineHolds. Written by gen_holds.py. -/
import Derived.Test.YtjjfpbjdcmkkhaaDoorQHp
import Derived.Test.YtjjfpbjdcmkkhaaDoorQJe
set_option linter.unusedSimpArgs false
set_option linter.unusedVariables false
namespace Go.Proofs.YtjjfpbjdcmkkhaaDoor
open Go Go.RowKit Go.Shelf
theorem right_both (b : Sn) (p : Option Addr) (c : Nat) (w : World) (hk : SBk w b p) : ∃ (q : Bool) (n : Int), ∀ w', Below w.heap.size w w' →
    (Calls Tryd.prog 14 #[bV b p c] w' fun e w2 => e = .returned (.tuple #[.bool q, .int .i64 n]) ∧ ∃ x, w2 = ext w' x) ∧
    (Calls Tryd.prog 15 #[bV b p c] w' fun e w2 => e = .returned (.tuple #[.bool q, .int .i64 n]) ∧ ∃ x, w2 = ext w' x) := by
  cases hv : snB b
  · exact ⟨false, 30, fun w' hw => ⟨(Right_bad b p c w' (hk.bel hw) hv).mono fun e w2 h => ⟨h.1, ext_of h.2⟩, RRight_bad b p c w' (hk.bel hw).nt hv⟩⟩
  · exact ⟨rightS b, 0, fun w' hw => ⟨(Right_ok b p c w' (hk.bel hw) hv).mono fun e w2 h => ⟨h.1, ext_of h.2⟩, RRight_ok b p c _ w' (hk.bel hw).nt hv rfl⟩⟩
theorem check_both (b : Sn) (p : Option Addr) (c : Nat) (w : World) (hk : SBk w b p) : ∃ n : Int, ∀ w', Below w.heap.size w w' →
    (Calls Tryd.prog 16 #[bV b p c] w' fun e w2 => e = .returned (.int .i64 n) ∧ ∃ x, w2 = ext w' x) ∧
    (Calls Tryd.prog 17 #[bV b p c] w' fun e w2 => e = .returned (.int .i64 n) ∧ ∃ x, w2 = ext w' x) :=
  ⟨_, fun w' hw => ⟨Check_eq b p c _ w' (hk.bel hw) rfl, Check_code b p c _ w' (hk.bel hw).nt rfl⟩⟩
theorem can_both (b : Sn) (p : Option Addr) (c : Nat) (h m : Int) (w : World) (hk : SBk w b p) (hc : SBc b p c) : ∃ (q : Bool) (n : Int), ∀ w', Below w.heap.size w w' →
    (Calls Tryd.prog 18 #[bV b p c, .int .i64 h, .int .i64 m] w' fun e w2 => e = .returned (.tuple #[.bool q, .int .i64 n]) ∧ ∃ x, w2 = ext w' x) ∧
    (Calls Tryd.prog 19 #[bV b p c, .int .i64 h, .int .i64 m] w' fun e w2 => e = .returned (.tuple #[.bool q, .int .i64 n]) ∧ ∃ x, w2 = ext w' x) := by
  obtain ⟨code, ha⟩ := asks_some b (inB h 60 && inB m 400)
  refine ⟨if code = 0 then canB b h m else false, code, fun w' hw => ⟨(Can_all b p c h m code w' (hk.bel hw) ha).mono fun e w2 h1 => ⟨?_, ext_of h1.2⟩, (Can_r b p c h m code _ w' (hk.bel hw).nt hc ha rfl).mono fun e w2 h1 => ⟨h1.1, ext_of h1.2⟩⟩⟩
  rcases h1.1 with ⟨h2, h3⟩ | ⟨h2, h3⟩
  · rw [h3, if_neg h2]
  · rw [h3, if_pos h2, h2]
theorem held_both (b : Sn) (p : Option Addr) (c : Nat) (h : Int) (w : World) (hk : SBk w b p) (hc : SBc b p c) : ∃ (s1 s2 n : Int), ∀ w', Below w.heap.size w w' →
    (Calls Tryd.prog 20 #[bV b p c, .int .i64 h] w' fun e w2 => e = .returned (.tuple #[.agg #[.int .i64 s1, .int .i64 s2], .int .i64 n]) ∧ ∃ x, w2 = ext w' x) ∧
    (Calls Tryd.prog 21 #[bV b p c, .int .i64 h] w' fun e w2 => e = .returned (.tuple #[.agg #[.int .i64 s1, .int .i64 s2], .int .i64 n]) ∧ ∃ x, w2 = ext w' x) := by
  obtain ⟨code, ha⟩ := asks_some b (inB h 60)
  refine ⟨if code = 0 then minF Prod.fst 400 (atL b h) else 0, if code = 0 then maxF Prod.fst 0 (atL b h) else 0, code, fun w' hw => ⟨(Held_all b p c h code w' (hk.bel hw) ha).mono fun e w2 h1 => ⟨?_, ext_of h1.2⟩, (Held_r b p c h code _ _ w' (hk.bel hw).nt hc ha rfl rfl).mono fun e w2 h1 => ⟨h1.1, ext_of h1.2⟩⟩⟩
  rcases h1.1 with ⟨h2, h3⟩ | ⟨h2, h3⟩
  · rw [h3, if_neg h2, if_neg h2]
  · rw [h3, if_pos h2, if_pos h2, h2]
theorem rate_both (b : Sn) (p : Option Addr) (c : Nat) (h : Int) (w : World) (hk : SBk w b p) (hc : SBc b p c) : ∃ (s1 s2 n : Int), ∀ w', Below w.heap.size w w' →
    (Calls Tryd.prog 22 #[bV b p c, .int .i64 h] w' fun e w2 => e = .returned (.tuple #[.agg #[.int .i64 s1, .int .i64 s2], .int .i64 n]) ∧ ∃ x, w2 = ext w' x) ∧
    (Calls Tryd.prog 23 #[bV b p c, .int .i64 h] w' fun e w2 => e = .returned (.tuple #[.agg #[.int .i64 s1, .int .i64 s2], .int .i64 n]) ∧ ∃ x, w2 = ext w' x) := by
  obtain ⟨code, ha⟩ := asks_some b (inB h 60)
  refine ⟨if code = 0 then minF Prod.snd 400 (atL b h) else 0, if code = 0 then maxF Prod.snd 0 (atL b h) else 0, code, fun w' hw => ⟨(Rate_all b p c h code w' (hk.bel hw) ha).mono fun e w2 h1 => ⟨?_, ext_of h1.2⟩, (Rate_r b p c h code _ _ w' (hk.bel hw).nt hc ha rfl rfl).mono fun e w2 h1 => ⟨h1.1, ext_of h1.2⟩⟩⟩
  rcases h1.1 with ⟨h2, h3⟩ | ⟨h2, h3⟩
  · rw [h3, if_neg h2, if_neg h2]
  · rw [h3, if_pos h2, if_pos h2, h2]
end Go.Proofs.YtjjfpbjdcmkkhaaDoor

namespace Go.Proofs.YtjjfpbjdcmkkhaaDoor
open Go Go.RowKit Go.Shelf
attribute [local go_sem] Oper.semAt_some frozen_alloc_lt
set_option maxRecDepth 100000 in
set_option maxHeartbeats 8000000 in
theorem SeineHolds_any (b : Sn) (p : Option Addr) (c : Nat) (n0 n1 : Int) (w : World) (hk : SBk w b p) (hc : SBc b p c) :
    Calls Tryd.prog 3 #[bV b p c, .agg #[.int .i64 n0, .int .i64 n1]] w fun e w' => e = .returned (.bool true) ∧ ∃ x, w' = ext w x := by
  obtain ⟨r1, e1, h1⟩ := right_both b p c w hk
  obtain ⟨e2, h2⟩ := check_both b p c w hk
  obtain ⟨r3, e3, h3⟩ := can_both b p c n0 n1 w hk hc
  obtain ⟨s1, s2, e4, h4⟩ := held_both b p c n0 w hk hc
  obtain ⟨t1, t2, e5, h5⟩ := rate_both b p c n0 w hk hc
  have H1 := Lib.hid h1
  have H2 := Lib.hid h2
  have H3 := Lib.hid h3
  have H4 := Lib.hid h4
  have H5 := Lib.hid h5
  have HM := Lib.hid hk.mm
  clear h1 h2 h3 h4 h5 hk hc
  go_enter Tryd.func3, Tryd.ntmps3
  go_upto_region 1 with fail
  generalize hX : (w.alloc _).alloc _ = W0
  have hB : Below w.heap.size w W0 := by rw [← hX]; (repeat (first | (with_reducible exact Below.refl _ _) | (with_reducible assumption) | ((with_reducible refine below_ext_trans ?_ ?_ _); rotate_left; focus (((try dsimp only); repeat (first | omega | simp only [World.size_alloc, World.size_setCell, World.size_drew] | (with_reducible refine le_ext_of ?_) | (with_reducible refine le_ext_add ?_))); done)) | ((with_reducible refine Below.alloc ?_ ?_ _); rotate_left; focus (((try dsimp only); repeat (first | omega | simp only [World.size_alloc, World.size_setCell, World.size_drew] | (with_reducible refine le_ext_of ?_) | (with_reducible refine le_ext_add ?_))); done)) | ((with_reducible refine Below.setCell ?_ ?_ _); rotate_left; focus (((try dsimp only); repeat (first | omega | simp only [World.size_alloc, World.size_setCell, World.size_drew] | (with_reducible refine le_ext_of ?_) | (with_reducible refine le_ext_add ?_))); done)) | (with_reducible refine Below.drew ?_)))
  have Nb := Lib.hid (show Blk W0 w.heap.size 26 #[.int .i64 b.lo, .int .i64 b.hi, .slice p b.ns.length c] by rw [← hX]; exact (Blk.new rfl).alloc _)
  have Nn := Lib.hid (show Blk W0 (w.heap.size + 1) 27 #[.int .i64 n0, .int .i64 n1] by rw [← hX]; exact Blk.new (by simp))
  have HB0 := Lib.hid hB
  clear hX hB
  have qb0 := Nb.out.cell 0
  have qb1 := Nb.out.cell 1
  have qb2 := Nb.out.cell 2
  have lb := Nb.out.lt
  have qn0 := Nn.out.cell 0
  have qn1 := Nn.out.cell 1
  have ln := Nn.out.lt
  simp only [List.size_toArray, List.length_cons, List.length_nil, Nat.reduceAdd, Nat.reduceLT, getElem?_pos, List.getElem_toArray, List.getElem_cons_zero, List.getElem_cons_succ] at qb0 qb1 qb2 qn0 qn1
  go_upto_region 2 with (go_at_call 14; refine ((H1.out _ HB0.out).1).mono ?_; rintro e w1 ⟨rfl, y1, rfl⟩)
  go_upto_region 3 with (go_at_call 15; refine ((H1.out _ (HB0.out.trans ((below_ext _ y1).mono HB0.out.size))).2).mono ?_; rintro e w1 ⟨rfl, y2, rfl⟩)
  clear qb0 qb1 qb2 lb qn0 qn1 ln
  generalize hX : ext W0 (y1.comp y2) = X1 at *
  have hBX : Below w.heap.size W0 X1 := by rw [← hX]; exact (below_ext _ _).mono HB0.out.size
  have HB1 := Lib.hid (HB0.out.trans hBX)
  have Mb := Lib.hid (show Blk X1 w.heap.size 26 #[.int .i64 b.lo, .int .i64 b.hi, .slice p b.ns.length c] by rw [← hX]; exact Nb.out.ext _)
  have Mn := Lib.hid (show Blk X1 (w.heap.size + 1) 27 #[.int .i64 n0, .int .i64 n1] by rw [← hX]; exact Nn.out.ext _)
  clear hX hBX HB0 Nb Nn
  have Nb := Mb
  have Nn := Mn
  clear Mb Mn
  have qb0 := Nb.out.cell 0
  have qb1 := Nb.out.cell 1
  have qb2 := Nb.out.cell 2
  have lb := Nb.out.lt
  have qn0 := Nn.out.cell 0
  have qn1 := Nn.out.cell 1
  have ln := Nn.out.lt
  simp only [List.size_toArray, List.length_cons, List.length_nil, Nat.reduceAdd, Nat.reduceLT, getElem?_pos, List.getElem_toArray, List.getElem_cons_zero, List.getElem_cons_succ] at qb0 qb1 qb2 qn0 qn1
  refine wp_region_ext (by kernel_rfl) (by kernel_rfl) ?_
  repeat (go_big_quiet_step (first | (go_at_call 16; exact quiet_ext ((H2.out _ (HB1.out.trans (Below.mono (by (repeat (first | (with_reducible exact Below.refl _ _) | (with_reducible assumption) | ((with_reducible refine below_ext_trans ?_ ?_ _); rotate_left; focus (((try dsimp only); repeat (first | omega | simp only [World.size_alloc, World.size_setCell, World.size_drew] | (with_reducible refine le_ext_of ?_) | (with_reducible refine le_ext_add ?_))); done)) | ((with_reducible refine Below.alloc ?_ ?_ _); rotate_left; focus (((try dsimp only); repeat (first | omega | simp only [World.size_alloc, World.size_setCell, World.size_drew] | (with_reducible refine le_ext_of ?_) | (with_reducible refine le_ext_add ?_))); done)) | ((with_reducible refine Below.setCell ?_ ?_ _); rotate_left; focus (((try dsimp only); repeat (first | omega | simp only [World.size_alloc, World.size_setCell, World.size_drew] | (with_reducible refine le_ext_of ?_) | (with_reducible refine le_ext_add ?_))); done)) | (with_reducible refine Below.drew ?_)))) HB1.out.size))).1)) | (go_at_call 17; exact quiet_ext ((H2.out _ (HB1.out.trans (Below.mono (by (repeat (first | (with_reducible exact Below.refl _ _) | (with_reducible assumption) | ((with_reducible refine below_ext_trans ?_ ?_ _); rotate_left; focus (((try dsimp only); repeat (first | omega | simp only [World.size_alloc, World.size_setCell, World.size_drew] | (with_reducible refine le_ext_of ?_) | (with_reducible refine le_ext_add ?_))); done)) | ((with_reducible refine Below.alloc ?_ ?_ _); rotate_left; focus (((try dsimp only); repeat (first | omega | simp only [World.size_alloc, World.size_setCell, World.size_drew] | (with_reducible refine le_ext_of ?_) | (with_reducible refine le_ext_add ?_))); done)) | ((with_reducible refine Below.setCell ?_ ?_ _); rotate_left; focus (((try dsimp only); repeat (first | omega | simp only [World.size_alloc, World.size_setCell, World.size_drew] | (with_reducible refine le_ext_of ?_) | (with_reducible refine le_ext_add ?_))); done)) | (with_reducible refine Below.drew ?_)))) HB1.out.size))).2))))
  (refine wpQuiet_nil ?_; rintro _ ⟨x, rfl⟩)
  clear qb0 qb1 qb2 lb qn0 qn1 ln
  generalize hX : ext X1 x = X2 at *
  have hBX : Below w.heap.size X1 X2 := by rw [← hX]; exact (below_ext _ _).mono HB1.out.size
  have HB2 := Lib.hid (HB1.out.trans hBX)
  have Mb := Lib.hid (show Blk X2 w.heap.size 26 #[.int .i64 b.lo, .int .i64 b.hi, .slice p b.ns.length c] by rw [← hX]; exact Nb.out.ext _)
  have Mn := Lib.hid (show Blk X2 (w.heap.size + 1) 27 #[.int .i64 n0, .int .i64 n1] by rw [← hX]; exact Nn.out.ext _)
  clear hX hBX HB1 Nb Nn
  have Nb := Mb
  have Nn := Mn
  clear Mb Mn
  have qb0 := Nb.out.cell 0
  have qb1 := Nb.out.cell 1
  have qb2 := Nb.out.cell 2
  have lb := Nb.out.lt
  have qn0 := Nn.out.cell 0
  have qn1 := Nn.out.cell 1
  have ln := Nn.out.lt
  simp only [List.size_toArray, List.length_cons, List.length_nil, Nat.reduceAdd, Nat.reduceLT, getElem?_pos, List.getElem_toArray, List.getElem_cons_zero, List.getElem_cons_succ] at qb0 qb1 qb2 qn0 qn1
  go_upto_region 6 with (go_at_call 18; refine ((H3.out _ HB2.out).1).mono ?_; rintro e w1 ⟨rfl, y1, rfl⟩)
  go_upto_region 7 with (go_at_call 19; refine ((H3.out _ (HB2.out.trans ((below_ext _ y1).mono HB2.out.size))).2).mono ?_; rintro e w1 ⟨rfl, y2, rfl⟩)
  clear qb0 qb1 qb2 lb qn0 qn1 ln
  generalize hX : ext X2 (y1.comp y2) = X3 at *
  have hBX : Below w.heap.size X2 X3 := by rw [← hX]; exact (below_ext _ _).mono HB2.out.size
  have HB3 := Lib.hid (HB2.out.trans hBX)
  have Mb := Lib.hid (show Blk X3 w.heap.size 26 #[.int .i64 b.lo, .int .i64 b.hi, .slice p b.ns.length c] by rw [← hX]; exact Nb.out.ext _)
  have Mn := Lib.hid (show Blk X3 (w.heap.size + 1) 27 #[.int .i64 n0, .int .i64 n1] by rw [← hX]; exact Nn.out.ext _)
  clear hX hBX HB2 Nb Nn
  have Nb := Mb
  have Nn := Mn
  clear Mb Mn
  have qb0 := Nb.out.cell 0
  have qb1 := Nb.out.cell 1
  have qb2 := Nb.out.cell 2
  have lb := Nb.out.lt
  have qn0 := Nn.out.cell 0
  have qn1 := Nn.out.cell 1
  have ln := Nn.out.lt
  simp only [List.size_toArray, List.length_cons, List.length_nil, Nat.reduceAdd, Nat.reduceLT, getElem?_pos, List.getElem_toArray, List.getElem_cons_zero, List.getElem_cons_succ] at qb0 qb1 qb2 qn0 qn1
  go_upto_region 10 with (go_at_call 20; refine ((H4.out _ HB3.out).1).mono ?_; rintro e w1 ⟨rfl, y1, rfl⟩)
  clear qb0 qb1 qb2 lb qn0 qn1 ln
  obtain ⟨gs, hg⟩ : ∃ g, g = (ext X3 y1).heap.size := ⟨_, rfl⟩
  rw [← hg]
  have HGs := Lib.hid (show (w.heap.size + 1) < gs by have h1 := (below_ext X3 y1).size; have h2 := Nn.out.lt; omega)
  generalize hX : (ext X3 y1).alloc _ = X4 at *
  have hBX : Below w.heap.size X3 X4 := by rw [← hX]; exact ((below_ext _ _).mono HB3.out.size).alloc (Nat.le_trans HB3.out.size (below_ext _ _).size) _
  have HB4 := Lib.hid (HB3.out.trans hBX)
  have Mb := Lib.hid (show Blk X4 w.heap.size 26 #[.int .i64 b.lo, .int .i64 b.hi, .slice p b.ns.length c] by rw [← hX]; exact (Nb.out.ext _).alloc _)
  have Mn := Lib.hid (show Blk X4 (w.heap.size + 1) 27 #[.int .i64 n0, .int .i64 n1] by rw [← hX]; exact (Nn.out.ext _).alloc _)
  have Ns := Lib.hid (show Blk X4 gs 23 #[.int .i64 s1, .int .i64 s2] by rw [← hX]; exact Blk.new hg)
  clear hX hBX HB3 Nb Nn hg
  have Nb := Mb
  have Nn := Mn
  clear Mb Mn
  have qb0 := Nb.out.cell 0
  have qb1 := Nb.out.cell 1
  have qb2 := Nb.out.cell 2
  have lb := Nb.out.lt
  have qn0 := Nn.out.cell 0
  have qn1 := Nn.out.cell 1
  have ln := Nn.out.lt
  have qs0 := Ns.out.cell 0
  have qs1 := Ns.out.cell 1
  have fs0 := Ns.out.frozen 0
  have fs1 := Ns.out.frozen 1
  have ls := Ns.out.lt
  simp only [List.size_toArray, List.length_cons, List.length_nil, Nat.reduceAdd, Nat.reduceLT, getElem?_pos, List.getElem_toArray, List.getElem_cons_zero, List.getElem_cons_succ] at qb0 qb1 qb2 qn0 qn1 qs0 qs1
  go_upto_region 11 with (go_at_call 21; refine ((H4.out _ HB4.out).2).mono ?_; rintro e w1 ⟨rfl, y1, rfl⟩)
  clear qb0 qb1 qb2 lb qn0 qn1 ln qs0 fs0 qs1 fs1 ls
  obtain ⟨gt, hg⟩ : ∃ g, g = (ext X4 y1).heap.size := ⟨_, rfl⟩
  rw [← hg]
  have HGt := Lib.hid (show gs < gt by have h1 := (below_ext X4 y1).size; have h2 := Ns.out.lt; omega)
  generalize hX : (ext X4 y1).alloc _ = X5 at *
  have hBX : Below w.heap.size X4 X5 := by rw [← hX]; exact ((below_ext _ _).mono HB4.out.size).alloc (Nat.le_trans HB4.out.size (below_ext _ _).size) _
  have HB5 := Lib.hid (HB4.out.trans hBX)
  have Mb := Lib.hid (show Blk X5 w.heap.size 26 #[.int .i64 b.lo, .int .i64 b.hi, .slice p b.ns.length c] by rw [← hX]; exact (Nb.out.ext _).alloc _)
  have Mn := Lib.hid (show Blk X5 (w.heap.size + 1) 27 #[.int .i64 n0, .int .i64 n1] by rw [← hX]; exact (Nn.out.ext _).alloc _)
  have Ms := Lib.hid (show Blk X5 gs 23 #[.int .i64 s1, .int .i64 s2] by rw [← hX]; exact (Ns.out.ext _).alloc _)
  have Nt := Lib.hid (show Blk X5 gt 23 #[.int .i64 s1, .int .i64 s2] by rw [← hX]; exact Blk.new hg)
  clear hX hBX HB4 Nb Nn Ns hg
  have Nb := Mb
  have Nn := Mn
  have Ns := Ms
  clear Mb Mn Ms
  have qb0 := Nb.out.cell 0
  have qb1 := Nb.out.cell 1
  have qb2 := Nb.out.cell 2
  have lb := Nb.out.lt
  have qn0 := Nn.out.cell 0
  have qn1 := Nn.out.cell 1
  have ln := Nn.out.lt
  have qs0 := Ns.out.cell 0
  have qs1 := Ns.out.cell 1
  have fs0 := Ns.out.frozen 0
  have fs1 := Ns.out.frozen 1
  have ls := Ns.out.lt
  have qt0 := Nt.out.cell 0
  have qt1 := Nt.out.cell 1
  have ft0 := Nt.out.frozen 0
  have ft1 := Nt.out.frozen 1
  have lt := Nt.out.lt
  simp only [List.size_toArray, List.length_cons, List.length_nil, Nat.reduceAdd, Nat.reduceLT, getElem?_pos, List.getElem_toArray, List.getElem_cons_zero, List.getElem_cons_succ] at qb0 qb1 qb2 qn0 qn1 qs0 qs1 qt0 qt1
  go_upto_region 14 with (go_at_call 22; refine ((H5.out _ HB5.out).1).mono ?_; rintro e w1 ⟨rfl, y1, rfl⟩)
  clear qb0 qb1 qb2 lb qn0 qn1 ln qs0 fs0 qs1 fs1 ls qt0 ft0 qt1 ft1 lt
  generalize hX : ((ext X5 y1).setCell ⟨gs, 0, none⟩ _).setCell ⟨gs, 1, none⟩ _ = X6 at *
  have hBX : Below w.heap.size X5 X6 := by rw [← hX]; exact (((below_ext _ _).mono HB5.out.size).setCell (by have h1 := HGs.out; have h2 := HGt.out; dsimp only; omega) _).setCell (by have h1 := HGs.out; have h2 := HGt.out; dsimp only; omega) _
  have HB6 := Lib.hid (HB5.out.trans hBX)
  have Mb := Lib.hid (show Blk X6 w.heap.size 26 #[.int .i64 b.lo, .int .i64 b.hi, .slice p b.ns.length c] by rw [← hX]; exact ((Nb.out.ext _).setOther (by intro e; have h1 := HGs.out; have h2 := HGt.out; omega) _ _).setOther (by intro e; have h1 := HGs.out; have h2 := HGt.out; omega) _ _)
  have Mn := Lib.hid (show Blk X6 (w.heap.size + 1) 27 #[.int .i64 n0, .int .i64 n1] by rw [← hX]; exact ((Nn.out.ext _).setOther (by intro e; have h1 := HGs.out; have h2 := HGt.out; omega) _ _).setOther (by intro e; have h1 := HGs.out; have h2 := HGt.out; omega) _ _)
  have Ms := Lib.hid (show Blk X6 gs 23 #[.int .i64 t1, .int .i64 t2] by rw [← hX]; simpa using ((Ns.out.ext _).set 0 (.int .i64 t1)).set 1 (.int .i64 t2))
  have Mt := Lib.hid (show Blk X6 gt 23 #[.int .i64 s1, .int .i64 s2] by rw [← hX]; exact ((Nt.out.ext _).setOther (by intro e; have h1 := HGs.out; have h2 := HGt.out; omega) _ _).setOther (by intro e; have h1 := HGs.out; have h2 := HGt.out; omega) _ _)
  clear hX hBX HB5 Nb Nn Ns Nt
  have Nb := Mb
  have Nn := Mn
  have Ns := Ms
  have Nt := Mt
  clear Mb Mn Ms Mt
  have qb0 := Nb.out.cell 0
  have qb1 := Nb.out.cell 1
  have qb2 := Nb.out.cell 2
  have lb := Nb.out.lt
  have qn0 := Nn.out.cell 0
  have qn1 := Nn.out.cell 1
  have ln := Nn.out.lt
  have qs0 := Ns.out.cell 0
  have qs1 := Ns.out.cell 1
  have fs0 := Ns.out.frozen 0
  have fs1 := Ns.out.frozen 1
  have ls := Ns.out.lt
  have qt0 := Nt.out.cell 0
  have qt1 := Nt.out.cell 1
  have ft0 := Nt.out.frozen 0
  have ft1 := Nt.out.frozen 1
  have lt := Nt.out.lt
  simp only [List.size_toArray, List.length_cons, List.length_nil, Nat.reduceAdd, Nat.reduceLT, getElem?_pos, List.getElem_toArray, List.getElem_cons_zero, List.getElem_cons_succ] at qb0 qb1 qb2 qn0 qn1 qs0 qs1 qt0 qt1
  go_upto_region 15 with (go_at_call 23; refine ((H5.out _ HB6.out).2).mono ?_; rintro e w1 ⟨rfl, y1, rfl⟩)
  clear qb0 qb1 qb2 lb qn0 qn1 ln qs0 fs0 qs1 fs1 ls qt0 ft0 qt1 ft1 lt
  generalize hX : ((ext X6 y1).setCell ⟨gt, 0, none⟩ _).setCell ⟨gt, 1, none⟩ _ = X7 at *
  have hBX : Below w.heap.size X6 X7 := by rw [← hX]; exact (((below_ext _ _).mono HB6.out.size).setCell (by have h1 := HGs.out; have h2 := HGt.out; dsimp only; omega) _).setCell (by have h1 := HGs.out; have h2 := HGt.out; dsimp only; omega) _
  have HB7 := Lib.hid (HB6.out.trans hBX)
  have Mb := Lib.hid (show Blk X7 w.heap.size 26 #[.int .i64 b.lo, .int .i64 b.hi, .slice p b.ns.length c] by rw [← hX]; exact ((Nb.out.ext _).setOther (by intro e; have h1 := HGs.out; have h2 := HGt.out; omega) _ _).setOther (by intro e; have h1 := HGs.out; have h2 := HGt.out; omega) _ _)
  have Mn := Lib.hid (show Blk X7 (w.heap.size + 1) 27 #[.int .i64 n0, .int .i64 n1] by rw [← hX]; exact ((Nn.out.ext _).setOther (by intro e; have h1 := HGs.out; have h2 := HGt.out; omega) _ _).setOther (by intro e; have h1 := HGs.out; have h2 := HGt.out; omega) _ _)
  have Ms := Lib.hid (show Blk X7 gs 23 #[.int .i64 t1, .int .i64 t2] by rw [← hX]; exact ((Ns.out.ext _).setOther (by intro e; have h1 := HGs.out; have h2 := HGt.out; omega) _ _).setOther (by intro e; have h1 := HGs.out; have h2 := HGt.out; omega) _ _)
  have Mt := Lib.hid (show Blk X7 gt 23 #[.int .i64 t1, .int .i64 t2] by rw [← hX]; simpa using ((Nt.out.ext _).set 0 (.int .i64 t1)).set 1 (.int .i64 t2))
  clear hX hBX HB6 Nb Nn Ns Nt
  have Nb := Mb
  have Nn := Mn
  have Ns := Ms
  have Nt := Mt
  clear Mb Mn Ms Mt
  have qb0 := Nb.out.cell 0
  have qb1 := Nb.out.cell 1
  have qb2 := Nb.out.cell 2
  have lb := Nb.out.lt
  have qn0 := Nn.out.cell 0
  have qn1 := Nn.out.cell 1
  have ln := Nn.out.lt
  have qs0 := Ns.out.cell 0
  have qs1 := Ns.out.cell 1
  have fs0 := Ns.out.frozen 0
  have fs1 := Ns.out.frozen 1
  have ls := Ns.out.lt
  have qt0 := Nt.out.cell 0
  have qt1 := Nt.out.cell 1
  have ft0 := Nt.out.frozen 0
  have ft1 := Nt.out.frozen 1
  have lt := Nt.out.lt
  simp only [List.size_toArray, List.length_cons, List.length_nil, Nat.reduceAdd, Nat.reduceLT, getElem?_pos, List.getElem_toArray, List.getElem_cons_zero, List.getElem_cons_succ] at qb0 qb1 qb2 qn0 qn1 qs0 qs1 qt0 qt1
  go_wp2_with (go_at_call 24; refine (sounded_any _ (HM.out.below (HB7.out.trans (Below.mono (by (repeat (first | (with_reducible exact Below.refl _ _) | (with_reducible assumption) | ((with_reducible refine below_ext_trans ?_ ?_ _); rotate_left; focus (((try dsimp only); repeat (first | omega | simp only [World.size_alloc, World.size_setCell, World.size_drew] | (with_reducible refine le_ext_of ?_) | (with_reducible refine le_ext_add ?_))); done)) | ((with_reducible refine Below.alloc ?_ ?_ _); rotate_left; focus (((try dsimp only); repeat (first | omega | simp only [World.size_alloc, World.size_setCell, World.size_drew] | (with_reducible refine le_ext_of ?_) | (with_reducible refine le_ext_add ?_))); done)) | ((with_reducible refine Below.setCell ?_ ?_ _); rotate_left; focus (((try dsimp only); repeat (first | omega | simp only [World.size_alloc, World.size_setCell, World.size_drew] | (with_reducible refine le_ext_of ?_) | (with_reducible refine le_ext_add ?_))); done)) | (with_reducible refine Below.drew ?_)))) HB7.out.size)))).mono ?_; rintro e w1 ⟨rfl, y, rfl⟩)
  go_ret
  exact ⟨rfl, ext_of (HB7.out.trans (Below.mono (by (repeat (first | (with_reducible exact Below.refl _ _) | (with_reducible assumption) | ((with_reducible refine below_ext_trans ?_ ?_ _); rotate_left; focus (((try dsimp only); repeat (first | omega | simp only [World.size_alloc, World.size_setCell, World.size_drew] | (with_reducible refine le_ext_of ?_) | (with_reducible refine le_ext_add ?_))); done)) | ((with_reducible refine Below.alloc ?_ ?_ _); rotate_left; focus (((try dsimp only); repeat (first | omega | simp only [World.size_alloc, World.size_setCell, World.size_drew] | (with_reducible refine le_ext_of ?_) | (with_reducible refine le_ext_add ?_))); done)) | ((with_reducible refine Below.setCell ?_ ?_ _); rotate_left; focus (((try dsimp only); repeat (first | omega | simp only [World.size_alloc, World.size_setCell, World.size_drew] | (with_reducible refine le_ext_of ?_) | (with_reducible refine le_ext_add ?_))); done)) | (with_reducible refine Below.drew ?_)))) HB7.out.size))⟩
end Go.Proofs.YtjjfpbjdcmkkhaaDoor

