/- The walk of TurnFirst, where there are two shots: a case. -/
/- The walk of TurnFirst, where there are two shots: a case. -/
/- The walk of TurnFirst, where there are two shots: a case. -/
/- TurnFirst's walk, for any book and any numbers. -/
import Derived.Test.YtmnbfjphndgmnaaDoorQVk
import Derived.Test.YtmnbfjphndgmnaaDoorQXa
import Derived.RegionTactic
import Derived.ChangeAlike
set_option linter.unusedSimpArgs false
set_option linter.unusedVariables false
namespace Go.Proofs.YtmnbfjphndgmnaaDoor
open Go Go.RowKit

theorem Wheel_eq (n m r : Int) (w : World) (hm : 1 ≤ m ∧ m ≤ 1000000) (hr : n % m = r) : Calls Tryd.prog 14 #[.int .i64 n, .int .i64 m] w fun e w' => e = .returned (.int .i64 r) ∧ ∃ x, w' = ext w x := by
  subst hr; exact Wheel_any n m w hm.1 hm.2
theorem Some_eq (lo hi n x : Int) (w : World) (h : 0 ≤ lo ∧ lo ≤ hi ∧ hi ≤ 100000) (hx : lo + n % (hi - lo + 1) = x) : Calls Tryd.prog 23 #[.agg #[.int .i64 lo, .int .i64 hi], .int .i64 n] w fun e w' => e = .returned (.int .i64 x) ∧ ∃ x, w' = ext w x := by
  subst hx; exact Some_any lo hi n w h.1 h.2.1 h.2.2
theorem First_eq (h : Hd) (b : Bk) (i j : Nat) (s t : Shot) (k : Int) (w : World) (hb : BkAt w h b) (hv : bookB b = true) (hn : NB w) (hi : b.ss[i]? = some s) (hj : b.ss[j]? = some t) (hij : i ≠ j) (hk : befores (s.lo, s.hi) (t.lo, t.hi) = k) :
    Calls Tryd.prog 37 #[.agg #[.int .i64 b.n, .slice h.pb b.bs.length h.cb, .slice h.po b.os.length h.co, .slice h.ps b.ss.length h.cs], .int .i64 i, .int .i64 j] w fun e w' => e = .returned (.tuple #[.int .i64 k, .int .i64 0]) ∧ ∃ x, w' = ext w x := by
  subst hk; exact First_yes h b i j s t w hb hv hn hi hj hij
set_option maxRecDepth 100000 in
set_option maxHeartbeats 8000000 in
theorem TurnFirst_Xc1 (h : Hd) (b : Bk) (n0 n1 n2 n3 : Int) (w : World) (hb : BkAt w h b) (hv : bookB b = true) (hn : NB w) (i j : Nat) (s t : Shot) (hi : b.ss[i]? = some s) (hj : b.ss[j]? = some t) (hij : i ≠ j) (r vx vy M : Int)
    (hL : 2 ≤ b.ss.length) (ei : n0 % (b.ss.length : Int) = (i : Int)) (er : n1 % ((b.ss.length : Int) - 1) = r) (ej : ((i : Int) + 1 + r) % (b.ss.length : Int) = (j : Int)) (hr : 0 ≤ r ∧ r ≤ 5) (ex : s.lo + n2 % (s.hi - s.lo + 1) = vx) (ey : t.lo + n3 % (t.hi - t.lo + 1) = vy)
    (hx : s.lo ≤ vx ∧ vx ≤ s.hi) (hy : t.lo ≤ vy ∧ vy ≤ t.hi) (hM : befores (t.lo, t.hi) (s.lo, s.hi) = M) (hM2 : 0 ≤ M ∧ M ≤ 2) (hc : s.hi < t.lo) :
    Calls Tryd.prog 9 #[.agg #[.int .i64 b.n, .slice h.pb b.bs.length h.cb, .slice h.po b.os.length h.co, .slice h.ps b.ss.length h.cs], .agg #[.int .i64 n0, .int .i64 n1, .int .i64 n2, .int .i64 n3]] w fun e w' => e = .returned (.bool true) ∧ ∃ x, w' = ext w x := by
  have hM0 : befores (t.lo, t.hi) (s.lo, s.hi) = 0 := by simp only [befores]; rw [if_neg (by omega), if_neg (by omega)]
  obtain rfl : M = 0 := hM.symm.trans hM0
  have hK : befores (s.lo, s.hi) (t.lo, t.hi) = 2 := by simp only [befores]; rw [if_pos (by omega)]
  have d1 : decide (s.hi < t.lo) = true := by simp; omega
  have d2 : decide (t.hi ≤ s.lo) = false := by simp; omega
  have d3 : decide (vy ≤ vx) = false := by simp; omega
  obtain ⟨pb, cb, po, co, ps, cs⟩ := h
  dsimp only
  have hs5 := bookB_ss hv
  obtain ⟨⟨-, -⟩, -, ms⟩ := bookB_shot hv hi
  obtain ⟨⟨-, -⟩, -, mt⟩ := bookB_shot hv hj
  unfold Mom at ms mt
  have SB := Lib.hid (show 0 ≤ s.lo ∧ s.lo ≤ s.hi ∧ s.hi ≤ 100000 by omega)
  have TB := Lib.hid (show 0 ≤ t.lo ∧ t.lo ≤ t.hi ∧ t.hi ≤ 100000 by omega)
  have HL1 := Lib.hid (show 1 ≤ (b.ss.length : Int) ∧ (b.ss.length : Int) ≤ 1000000 by omega)
  have HL2 := Lib.hid (show 1 ≤ (b.ss.length : Int) - 1 ∧ (b.ss.length : Int) - 1 ≤ 1000000 by omega)
  obtain ⟨bb, o, hps, hbb, q0, q1, q2, q3⟩ := hb.ss i s hi
  obtain ⟨bb2, o2, hps2, -, p0, p1, p2, p3⟩ := hb.ss j t hj
  dsimp only at hps hps2
  subst hps
  simp only [Option.some.injEq, Addr.mk.injEq, and_true] at hps2
  obtain ⟨rfl, rfl⟩ := hps2
  clear q0 q1 p0 p1
  have hil := (List.getElem?_eq_some_iff.1 hi).1
  have hjl := (List.getElem?_eq_some_iff.1 hj).1
  have i0 : (0 : Int) ≤ (i : Int) := by omega
  have i1 : (i : Int) < (b.ss.length : Int) := by omega
  have j0 : (0 : Int) ≤ (j : Int) := by omega
  have j1 : (j : Int) < (b.ss.length : Int) := by omega
  have l2 : ¬ (b.ss.length : Int) < 2 := by omega
  have l3 : decide ((b.ss.length : Int) < 2) = false := by simpa using l2
  have bb1 : bb < w.heap.size + 1 := by omega
  have bb2 : bb < w.heap.size + 1 + 1 := by omega
  have w1 : IntKind.i64.wrap ((i : Int) + 1) = (i : Int) + 1 := IntWalk.i64_in _ (by omega)
  have w2 : IntKind.i64.wrap ((b.ss.length : Int) - 1) = (b.ss.length : Int) - 1 := IntWalk.i64_in _ (by omega)
  have w3 : IntKind.i64.wrap ((i : Int) + 1 + r) = (i : Int) + 1 + r := IntWalk.i64_in _ (by omega)
  have HB := Lib.hid hb
  have HN := Lib.hid hn
  have HV := Lib.hid hv
  have HI := Lib.hid hi
  have HJ := Lib.hid hj
  have EI := Lib.hid ei
  have ER := Lib.hid er
  have EJ := Lib.hid ej
  have EX := Lib.hid ex
  have EY := Lib.hid ey
  have HM := Lib.hid hM
  have HK := Lib.hid hK
  have HM2 := Lib.hid hM2
  clear hb hn hv hi hj ei er ej ex ey hM hK ms mt hL hs5 hil hjl hr hx hy l2 hM2
  go_enter Tryd.func9, Tryd.ntmps9
  go_upto_region 4 with (first
    | (go_at_call 12; refine (sound_yes ⟨pb, cb, po, co, some ⟨bb, o, none⟩, cs⟩ b _ (HB.out.below (by (repeat (first | (with_reducible exact Below.refl _ _) | (with_reducible assumption) | ((with_reducible refine below_ext_trans ?_ ?_ _); rotate_left; focus (((try dsimp only); repeat (first | omega | simp only [World.size_alloc, World.size_setCell, World.size_drew] | (with_reducible refine le_ext_of ?_) | (with_reducible refine le_ext_add ?_))); done)) | ((with_reducible refine Below.alloc ?_ ?_ _); rotate_left; focus (((try dsimp only); repeat (first | omega | simp only [World.size_alloc, World.size_setCell, World.size_drew] | (with_reducible refine le_ext_of ?_) | (with_reducible refine le_ext_add ?_))); done)) | ((with_reducible refine Below.setCell ?_ ?_ _); rotate_left; focus (((try dsimp only); repeat (first | omega | simp only [World.size_alloc, World.size_setCell, World.size_drew] | (with_reducible refine le_ext_of ?_) | (with_reducible refine le_ext_add ?_))); done)) | (with_reducible refine Below.drew ?_))))) HV.out).mono ?_; rintro e w1 ⟨rfl, y1, rfl⟩)
    | (go_at_call 14; refine (Wheel_eq n0 _ i _ HL1.out EI.out).mono ?_; rintro e w1 ⟨rfl, y1, rfl⟩))
  refine wp_region_ext (by kernel_rfl) (by kernel_rfl) ?_
  repeat (go_big_quiet_step (fail))
  go_big_quiet_step ((go_at_call 14; exact quiet_ext (Wheel_eq n1 _ r _ HL2.out ER.out)))
  repeat (go_big_quiet_step (fail))
  go_big_quiet_step ((go_at_call 14; exact quiet_ext (Wheel_eq _ _ j _ HL1.out EJ.out)))
  repeat (go_big_quiet_step (fail))
  (refine wpQuiet_nil ?_; rintro _ ⟨x, rfl⟩)
  go_upto_region 6 with (go_at_call 37; refine (First_eq ⟨pb, cb, po, co, some ⟨bb, o, none⟩, cs⟩ b i j s t 2 _ (HB.out.below (by (repeat (first | (with_reducible exact Below.refl _ _) | (with_reducible assumption) | ((with_reducible refine below_ext_trans ?_ ?_ _); rotate_left; focus (((try dsimp only); repeat (first | omega | simp only [World.size_alloc, World.size_setCell, World.size_drew] | (with_reducible refine le_ext_of ?_) | (with_reducible refine le_ext_add ?_))); done)) | ((with_reducible refine Below.alloc ?_ ?_ _); rotate_left; focus (((try dsimp only); repeat (first | omega | simp only [World.size_alloc, World.size_setCell, World.size_drew] | (with_reducible refine le_ext_of ?_) | (with_reducible refine le_ext_add ?_))); done)) | ((with_reducible refine Below.setCell ?_ ?_ _); rotate_left; focus (((try dsimp only); repeat (first | omega | simp only [World.size_alloc, World.size_setCell, World.size_drew] | (with_reducible refine le_ext_of ?_) | (with_reducible refine le_ext_add ?_))); done)) | (with_reducible refine Below.drew ?_))))) HV.out (HN.out.below (by (repeat (first | (with_reducible exact Below.refl _ _) | (with_reducible assumption) | ((with_reducible refine below_ext_trans ?_ ?_ _); rotate_left; focus (((try dsimp only); repeat (first | omega | simp only [World.size_alloc, World.size_setCell, World.size_drew] | (with_reducible refine le_ext_of ?_) | (with_reducible refine le_ext_add ?_))); done)) | ((with_reducible refine Below.alloc ?_ ?_ _); rotate_left; focus (((try dsimp only); repeat (first | omega | simp only [World.size_alloc, World.size_setCell, World.size_drew] | (with_reducible refine le_ext_of ?_) | (with_reducible refine le_ext_add ?_))); done)) | ((with_reducible refine Below.setCell ?_ ?_ _); rotate_left; focus (((try dsimp only); repeat (first | omega | simp only [World.size_alloc, World.size_setCell, World.size_drew] | (with_reducible refine le_ext_of ?_) | (with_reducible refine le_ext_add ?_))); done)) | (with_reducible refine Below.drew ?_))))) HI.out HJ.out hij HK.out).mono ?_; rintro e w1 ⟨rfl, y2, rfl⟩)
  go_upto_region 7 with (go_at_call 37; refine (First_eq ⟨pb, cb, po, co, some ⟨bb, o, none⟩, cs⟩ b j i t s 0 _ (HB.out.below (by (repeat (first | (with_reducible exact Below.refl _ _) | (with_reducible assumption) | ((with_reducible refine below_ext_trans ?_ ?_ _); rotate_left; focus (((try dsimp only); repeat (first | omega | simp only [World.size_alloc, World.size_setCell, World.size_drew] | (with_reducible refine le_ext_of ?_) | (with_reducible refine le_ext_add ?_))); done)) | ((with_reducible refine Below.alloc ?_ ?_ _); rotate_left; focus (((try dsimp only); repeat (first | omega | simp only [World.size_alloc, World.size_setCell, World.size_drew] | (with_reducible refine le_ext_of ?_) | (with_reducible refine le_ext_add ?_))); done)) | ((with_reducible refine Below.setCell ?_ ?_ _); rotate_left; focus (((try dsimp only); repeat (first | omega | simp only [World.size_alloc, World.size_setCell, World.size_drew] | (with_reducible refine le_ext_of ?_) | (with_reducible refine le_ext_add ?_))); done)) | (with_reducible refine Below.drew ?_))))) HV.out (HN.out.below (by (repeat (first | (with_reducible exact Below.refl _ _) | (with_reducible assumption) | ((with_reducible refine below_ext_trans ?_ ?_ _); rotate_left; focus (((try dsimp only); repeat (first | omega | simp only [World.size_alloc, World.size_setCell, World.size_drew] | (with_reducible refine le_ext_of ?_) | (with_reducible refine le_ext_add ?_))); done)) | ((with_reducible refine Below.alloc ?_ ?_ _); rotate_left; focus (((try dsimp only); repeat (first | omega | simp only [World.size_alloc, World.size_setCell, World.size_drew] | (with_reducible refine le_ext_of ?_) | (with_reducible refine le_ext_add ?_))); done)) | ((with_reducible refine Below.setCell ?_ ?_ _); rotate_left; focus (((try dsimp only); repeat (first | omega | simp only [World.size_alloc, World.size_setCell, World.size_drew] | (with_reducible refine le_ext_of ?_) | (with_reducible refine le_ext_add ?_))); done)) | (with_reducible refine Below.drew ?_))))) HJ.out HI.out (Ne.symm hij) HM.out).mono ?_; rintro e w1 ⟨rfl, y3, rfl⟩)
  refine wp_region_ext (by kernel_rfl) (by kernel_rfl) ?_
  repeat (go_big_quiet_step (fail))
  go_big_quiet_step ((go_at_call 23; exact quiet_ext (Some_eq s.lo s.hi n2 vx _ SB.out EX.out)))
  repeat (go_big_quiet_step (fail))
  go_big_quiet_step ((go_at_call 23; exact quiet_ext (Some_eq t.lo t.hi n3 vy _ TB.out EY.out)))
  repeat (go_big_quiet_step (fail))
  (refine wpQuiet_nil ?_; rintro _ ⟨x, rfl⟩)
  go_upto_region 10 with (go_at_call 25; refine (Between_yes _ _ _ _ (by first | omega | exact HM2.out.1) (by first | omega | exact HM2.out.2)).mono ?_; rintro e w1 ⟨rfl, rfl⟩)
  generalize hW : ext ((w.alloc _).alloc _) _ = W
  have hWB : Below w.heap.size w W := by rw [← hW]; (repeat (first | (with_reducible exact Below.refl _ _) | (with_reducible assumption) | ((with_reducible refine below_ext_trans ?_ ?_ _); rotate_left; focus (((try dsimp only); repeat (first | omega | simp only [World.size_alloc, World.size_setCell, World.size_drew] | (with_reducible refine le_ext_of ?_) | (with_reducible refine le_ext_add ?_))); done)) | ((with_reducible refine Below.alloc ?_ ?_ _); rotate_left; focus (((try dsimp only); repeat (first | omega | simp only [World.size_alloc, World.size_setCell, World.size_drew] | (with_reducible refine le_ext_of ?_) | (with_reducible refine le_ext_add ?_))); done)) | ((with_reducible refine Below.setCell ?_ ?_ _); rotate_left; focus (((try dsimp only); repeat (first | omega | simp only [World.size_alloc, World.size_setCell, World.size_drew] | (with_reducible refine le_ext_of ?_) | (with_reducible refine le_ext_add ?_))); done)) | (with_reducible refine Below.drew ?_)))
  have kb : Blk W w.heap.size 26 #[.int .i64 b.n, .slice pb b.bs.length cb, .slice po b.os.length co, .slice (some ⟨bb, o, none⟩) b.ss.length cs] := by rw [← hW]; exact ((Blk.new rfl).alloc _).ext _
  have k3 := kb.cell 3
  simp only [List.size_toArray, List.length_cons, List.length_nil, Nat.reduceAdd, Nat.reduceLT, getElem?_pos, List.getElem_toArray, List.getElem_cons_zero, List.getElem_cons_succ] at k3
  have kl := kb.lt
  have hbW : bb < W.heap.size := Nat.lt_of_lt_of_le hbb hWB.size
  have c2 := (hWB.cell (p := ⟨bb, o + i * 4 + 2, none⟩) hbb).trans q2
  have c3 := (hWB.cell (p := ⟨bb, o + i * 4 + 3, none⟩) hbb).trans q3
  have c4 := (hWB.cell (p := ⟨bb, o + j * 4 + 2, none⟩) hbb).trans p2
  have c5 := (hWB.cell (p := ⟨bb, o + j * 4 + 3, none⟩) hbb).trans p3
  have HWB := Lib.hid hWB
  clear hW hWB kb q2 q3 p2 p3 hbb bb1 bb2
  go_cut [13, 14] (fun u13 u14 wx => ∃ g1 g2 : Nat, u13 = .pointer (some ⟨g1, 0, none⟩) ∧ u14 = .pointer (some ⟨g2, 0, none⟩) ∧ Blk wx g1 33 #[.int .i64 s.lo, .int .i64 s.hi] ∧ Blk wx g2 33 #[.int .i64 t.lo, .int .i64 t.hi] ∧ Below W.heap.size W wx)
  case first =>
    go_region
    all_goals (go_wp2_with fail; go_meet)
    · exact ⟨W.heap.size, W.heap.size + 1, rfl, rfl, ((Blk.new rfl).alloc _).drew, (Blk.new (by simp)).drew, by (repeat (first | (with_reducible exact Below.refl _ _) | (with_reducible assumption) | ((with_reducible refine below_ext_trans ?_ ?_ _); rotate_left; focus (((try dsimp only); repeat (first | omega | simp only [World.size_alloc, World.size_setCell, World.size_drew] | (with_reducible refine le_ext_of ?_) | (with_reducible refine le_ext_add ?_))); done)) | ((with_reducible refine Below.alloc ?_ ?_ _); rotate_left; focus (((try dsimp only); repeat (first | omega | simp only [World.size_alloc, World.size_setCell, World.size_drew] | (with_reducible refine le_ext_of ?_) | (with_reducible refine le_ext_add ?_))); done)) | ((with_reducible refine Below.setCell ?_ ?_ _); rotate_left; focus (((try dsimp only); repeat (first | omega | simp only [World.size_alloc, World.size_setCell, World.size_drew] | (with_reducible refine le_ext_of ?_) | (with_reducible refine le_ext_add ?_))); done)) | (with_reducible refine Below.drew ?_)))⟩
    · exact ⟨W.heap.size + 1, W.heap.size, rfl, rfl, (Blk.new (by simp)).drew, ((Blk.new rfl).alloc _).drew, by (repeat (first | (with_reducible exact Below.refl _ _) | (with_reducible assumption) | ((with_reducible refine below_ext_trans ?_ ?_ _); rotate_left; focus (((try dsimp only); repeat (first | omega | simp only [World.size_alloc, World.size_setCell, World.size_drew] | (with_reducible refine le_ext_of ?_) | (with_reducible refine le_ext_add ?_))); done)) | ((with_reducible refine Below.alloc ?_ ?_ _); rotate_left; focus (((try dsimp only); repeat (first | omega | simp only [World.size_alloc, World.size_setCell, World.size_drew] | (with_reducible refine le_ext_of ?_) | (with_reducible refine le_ext_add ?_))); done)) | ((with_reducible refine Below.setCell ?_ ?_ _); rotate_left; focus (((try dsimp only); repeat (first | omega | simp only [World.size_alloc, World.size_setCell, World.size_drew] | (with_reducible refine le_ext_of ?_) | (with_reducible refine le_ext_add ?_))); done)) | (with_reducible refine Below.drew ?_)))⟩
  case rest =>
    obtain ⟨g1, g2, rfl, rfl, h1, h2, hbel⟩ := hcut
    have r0 := h1.cell 0
    have r1 := h1.cell 1
    have r2 := h2.cell 0
    have r3 := h2.cell 1
    simp only [List.size_toArray, List.length_cons, List.length_nil, Nat.reduceAdd, Nat.reduceLT, getElem?_pos, List.getElem_toArray, List.getElem_cons_zero, List.getElem_cons_succ] at r0 r1 r2 r3
    have l1 := h1.lt
    have l2 := h2.lt
    have HBEL := Lib.hid (HWB.out.trans (hbel.mono HWB.out.size))
    clear hbel h1 h2 c2 c3 c4 c5 k3 kl hbW
    go_wp2_with (go_at_call 13; refine (shot_any _ (HN.out.below HBEL.out)).mono ?_; rintro e w1 ⟨rfl, y, rfl⟩)
    go_ret
    exact ⟨rfl, ext_of (below_ext_trans HBEL.out HBEL.out.size y)⟩
end Go.Proofs.YtmnbfjphndgmnaaDoor

namespace Go.Proofs.YtmnbfjphndgmnaaDoor
open Go Go.RowKit

set_option maxRecDepth 100000 in
set_option maxHeartbeats 8000000 in
theorem TurnFirst_Xc2 (h : Hd) (b : Bk) (n0 n1 n2 n3 : Int) (w : World) (hb : BkAt w h b) (hv : bookB b = true) (hn : NB w) (i j : Nat) (s t : Shot) (hi : b.ss[i]? = some s) (hj : b.ss[j]? = some t) (hij : i ≠ j) (r vx vy M : Int)
    (hL : 2 ≤ b.ss.length) (ei : n0 % (b.ss.length : Int) = (i : Int)) (er : n1 % ((b.ss.length : Int) - 1) = r) (ej : ((i : Int) + 1 + r) % (b.ss.length : Int) = (j : Int)) (hr : 0 ≤ r ∧ r ≤ 5) (ex : s.lo + n2 % (s.hi - s.lo + 1) = vx) (ey : t.lo + n3 % (t.hi - t.lo + 1) = vy)
    (hx : s.lo ≤ vx ∧ vx ≤ s.hi) (hy : t.lo ≤ vy ∧ vy ≤ t.hi) (hM : befores (t.lo, t.hi) (s.lo, s.hi) = M) (hM2 : 0 ≤ M ∧ M ≤ 2) (hc : ¬ s.hi < t.lo) (hc2 : s.lo < t.hi) :
    Calls Tryd.prog 9 #[.agg #[.int .i64 b.n, .slice h.pb b.bs.length h.cb, .slice h.po b.os.length h.co, .slice h.ps b.ss.length h.cs], .agg #[.int .i64 n0, .int .i64 n1, .int .i64 n2, .int .i64 n3]] w fun e w' => e = .returned (.bool true) ∧ ∃ x, w' = ext w x := by
  have hK : befores (s.lo, s.hi) (t.lo, t.hi) = 1 := by simp only [befores]; rw [if_neg (by omega), if_pos (by omega)]
  have d1 : decide (s.hi < t.lo) = false := by simp; omega
  have d2 : decide (t.hi ≤ s.lo) = false := by simp; omega
  obtain ⟨pb, cb, po, co, ps, cs⟩ := h
  dsimp only
  have hs5 := bookB_ss hv
  obtain ⟨⟨-, -⟩, -, ms⟩ := bookB_shot hv hi
  obtain ⟨⟨-, -⟩, -, mt⟩ := bookB_shot hv hj
  unfold Mom at ms mt
  have SB := Lib.hid (show 0 ≤ s.lo ∧ s.lo ≤ s.hi ∧ s.hi ≤ 100000 by omega)
  have TB := Lib.hid (show 0 ≤ t.lo ∧ t.lo ≤ t.hi ∧ t.hi ≤ 100000 by omega)
  have HL1 := Lib.hid (show 1 ≤ (b.ss.length : Int) ∧ (b.ss.length : Int) ≤ 1000000 by omega)
  have HL2 := Lib.hid (show 1 ≤ (b.ss.length : Int) - 1 ∧ (b.ss.length : Int) - 1 ≤ 1000000 by omega)
  obtain ⟨bb, o, hps, hbb, q0, q1, q2, q3⟩ := hb.ss i s hi
  obtain ⟨bb2, o2, hps2, -, p0, p1, p2, p3⟩ := hb.ss j t hj
  dsimp only at hps hps2
  subst hps
  simp only [Option.some.injEq, Addr.mk.injEq, and_true] at hps2
  obtain ⟨rfl, rfl⟩ := hps2
  clear q0 q1 p0 p1
  have hil := (List.getElem?_eq_some_iff.1 hi).1
  have hjl := (List.getElem?_eq_some_iff.1 hj).1
  have i0 : (0 : Int) ≤ (i : Int) := by omega
  have i1 : (i : Int) < (b.ss.length : Int) := by omega
  have j0 : (0 : Int) ≤ (j : Int) := by omega
  have j1 : (j : Int) < (b.ss.length : Int) := by omega
  have l2 : ¬ (b.ss.length : Int) < 2 := by omega
  have l3 : decide ((b.ss.length : Int) < 2) = false := by simpa using l2
  have bb1 : bb < w.heap.size + 1 := by omega
  have bb2 : bb < w.heap.size + 1 + 1 := by omega
  have w1 : IntKind.i64.wrap ((i : Int) + 1) = (i : Int) + 1 := IntWalk.i64_in _ (by omega)
  have w2 : IntKind.i64.wrap ((b.ss.length : Int) - 1) = (b.ss.length : Int) - 1 := IntWalk.i64_in _ (by omega)
  have w3 : IntKind.i64.wrap ((i : Int) + 1 + r) = (i : Int) + 1 + r := IntWalk.i64_in _ (by omega)
  have HB := Lib.hid hb
  have HN := Lib.hid hn
  have HV := Lib.hid hv
  have HI := Lib.hid hi
  have HJ := Lib.hid hj
  have EI := Lib.hid ei
  have ER := Lib.hid er
  have EJ := Lib.hid ej
  have EX := Lib.hid ex
  have EY := Lib.hid ey
  have HM := Lib.hid hM
  have HK := Lib.hid hK
  have HM2 := Lib.hid hM2
  clear hb hn hv hi hj ei er ej ex ey hM hK ms mt hL hs5 hil hjl hr hx hy l2 hM2
  go_enter Tryd.func9, Tryd.ntmps9
  go_upto_region 4 with (first
    | (go_at_call 12; refine (sound_yes ⟨pb, cb, po, co, some ⟨bb, o, none⟩, cs⟩ b _ (HB.out.below (by (repeat (first | (with_reducible exact Below.refl _ _) | (with_reducible assumption) | ((with_reducible refine below_ext_trans ?_ ?_ _); rotate_left; focus (((try dsimp only); repeat (first | omega | simp only [World.size_alloc, World.size_setCell, World.size_drew] | (with_reducible refine le_ext_of ?_) | (with_reducible refine le_ext_add ?_))); done)) | ((with_reducible refine Below.alloc ?_ ?_ _); rotate_left; focus (((try dsimp only); repeat (first | omega | simp only [World.size_alloc, World.size_setCell, World.size_drew] | (with_reducible refine le_ext_of ?_) | (with_reducible refine le_ext_add ?_))); done)) | ((with_reducible refine Below.setCell ?_ ?_ _); rotate_left; focus (((try dsimp only); repeat (first | omega | simp only [World.size_alloc, World.size_setCell, World.size_drew] | (with_reducible refine le_ext_of ?_) | (with_reducible refine le_ext_add ?_))); done)) | (with_reducible refine Below.drew ?_))))) HV.out).mono ?_; rintro e w1 ⟨rfl, y1, rfl⟩)
    | (go_at_call 14; refine (Wheel_eq n0 _ i _ HL1.out EI.out).mono ?_; rintro e w1 ⟨rfl, y1, rfl⟩))
  refine wp_region_ext (by kernel_rfl) (by kernel_rfl) ?_
  repeat (go_big_quiet_step (fail))
  go_big_quiet_step ((go_at_call 14; exact quiet_ext (Wheel_eq n1 _ r _ HL2.out ER.out)))
  repeat (go_big_quiet_step (fail))
  go_big_quiet_step ((go_at_call 14; exact quiet_ext (Wheel_eq _ _ j _ HL1.out EJ.out)))
  repeat (go_big_quiet_step (fail))
  (refine wpQuiet_nil ?_; rintro _ ⟨x, rfl⟩)
  go_upto_region 6 with (go_at_call 37; refine (First_eq ⟨pb, cb, po, co, some ⟨bb, o, none⟩, cs⟩ b i j s t 1 _ (HB.out.below (by (repeat (first | (with_reducible exact Below.refl _ _) | (with_reducible assumption) | ((with_reducible refine below_ext_trans ?_ ?_ _); rotate_left; focus (((try dsimp only); repeat (first | omega | simp only [World.size_alloc, World.size_setCell, World.size_drew] | (with_reducible refine le_ext_of ?_) | (with_reducible refine le_ext_add ?_))); done)) | ((with_reducible refine Below.alloc ?_ ?_ _); rotate_left; focus (((try dsimp only); repeat (first | omega | simp only [World.size_alloc, World.size_setCell, World.size_drew] | (with_reducible refine le_ext_of ?_) | (with_reducible refine le_ext_add ?_))); done)) | ((with_reducible refine Below.setCell ?_ ?_ _); rotate_left; focus (((try dsimp only); repeat (first | omega | simp only [World.size_alloc, World.size_setCell, World.size_drew] | (with_reducible refine le_ext_of ?_) | (with_reducible refine le_ext_add ?_))); done)) | (with_reducible refine Below.drew ?_))))) HV.out (HN.out.below (by (repeat (first | (with_reducible exact Below.refl _ _) | (with_reducible assumption) | ((with_reducible refine below_ext_trans ?_ ?_ _); rotate_left; focus (((try dsimp only); repeat (first | omega | simp only [World.size_alloc, World.size_setCell, World.size_drew] | (with_reducible refine le_ext_of ?_) | (with_reducible refine le_ext_add ?_))); done)) | ((with_reducible refine Below.alloc ?_ ?_ _); rotate_left; focus (((try dsimp only); repeat (first | omega | simp only [World.size_alloc, World.size_setCell, World.size_drew] | (with_reducible refine le_ext_of ?_) | (with_reducible refine le_ext_add ?_))); done)) | ((with_reducible refine Below.setCell ?_ ?_ _); rotate_left; focus (((try dsimp only); repeat (first | omega | simp only [World.size_alloc, World.size_setCell, World.size_drew] | (with_reducible refine le_ext_of ?_) | (with_reducible refine le_ext_add ?_))); done)) | (with_reducible refine Below.drew ?_))))) HI.out HJ.out hij HK.out).mono ?_; rintro e w1 ⟨rfl, y2, rfl⟩)
  go_upto_region 7 with (go_at_call 37; refine (First_eq ⟨pb, cb, po, co, some ⟨bb, o, none⟩, cs⟩ b j i t s M _ (HB.out.below (by (repeat (first | (with_reducible exact Below.refl _ _) | (with_reducible assumption) | ((with_reducible refine below_ext_trans ?_ ?_ _); rotate_left; focus (((try dsimp only); repeat (first | omega | simp only [World.size_alloc, World.size_setCell, World.size_drew] | (with_reducible refine le_ext_of ?_) | (with_reducible refine le_ext_add ?_))); done)) | ((with_reducible refine Below.alloc ?_ ?_ _); rotate_left; focus (((try dsimp only); repeat (first | omega | simp only [World.size_alloc, World.size_setCell, World.size_drew] | (with_reducible refine le_ext_of ?_) | (with_reducible refine le_ext_add ?_))); done)) | ((with_reducible refine Below.setCell ?_ ?_ _); rotate_left; focus (((try dsimp only); repeat (first | omega | simp only [World.size_alloc, World.size_setCell, World.size_drew] | (with_reducible refine le_ext_of ?_) | (with_reducible refine le_ext_add ?_))); done)) | (with_reducible refine Below.drew ?_))))) HV.out (HN.out.below (by (repeat (first | (with_reducible exact Below.refl _ _) | (with_reducible assumption) | ((with_reducible refine below_ext_trans ?_ ?_ _); rotate_left; focus (((try dsimp only); repeat (first | omega | simp only [World.size_alloc, World.size_setCell, World.size_drew] | (with_reducible refine le_ext_of ?_) | (with_reducible refine le_ext_add ?_))); done)) | ((with_reducible refine Below.alloc ?_ ?_ _); rotate_left; focus (((try dsimp only); repeat (first | omega | simp only [World.size_alloc, World.size_setCell, World.size_drew] | (with_reducible refine le_ext_of ?_) | (with_reducible refine le_ext_add ?_))); done)) | ((with_reducible refine Below.setCell ?_ ?_ _); rotate_left; focus (((try dsimp only); repeat (first | omega | simp only [World.size_alloc, World.size_setCell, World.size_drew] | (with_reducible refine le_ext_of ?_) | (with_reducible refine le_ext_add ?_))); done)) | (with_reducible refine Below.drew ?_))))) HJ.out HI.out (Ne.symm hij) HM.out).mono ?_; rintro e w1 ⟨rfl, y3, rfl⟩)
  refine wp_region_ext (by kernel_rfl) (by kernel_rfl) ?_
  repeat (go_big_quiet_step (fail))
  go_big_quiet_step ((go_at_call 23; exact quiet_ext (Some_eq s.lo s.hi n2 vx _ SB.out EX.out)))
  repeat (go_big_quiet_step (fail))
  go_big_quiet_step ((go_at_call 23; exact quiet_ext (Some_eq t.lo t.hi n3 vy _ TB.out EY.out)))
  repeat (go_big_quiet_step (fail))
  (refine wpQuiet_nil ?_; rintro _ ⟨x, rfl⟩)
  go_upto_region 10 with (go_at_call 25; refine (Between_yes _ _ _ _ (by first | omega | exact HM2.out.1) (by first | omega | exact HM2.out.2)).mono ?_; rintro e w1 ⟨rfl, rfl⟩)
  generalize hW : ext ((w.alloc _).alloc _) _ = W
  have hWB : Below w.heap.size w W := by rw [← hW]; (repeat (first | (with_reducible exact Below.refl _ _) | (with_reducible assumption) | ((with_reducible refine below_ext_trans ?_ ?_ _); rotate_left; focus (((try dsimp only); repeat (first | omega | simp only [World.size_alloc, World.size_setCell, World.size_drew] | (with_reducible refine le_ext_of ?_) | (with_reducible refine le_ext_add ?_))); done)) | ((with_reducible refine Below.alloc ?_ ?_ _); rotate_left; focus (((try dsimp only); repeat (first | omega | simp only [World.size_alloc, World.size_setCell, World.size_drew] | (with_reducible refine le_ext_of ?_) | (with_reducible refine le_ext_add ?_))); done)) | ((with_reducible refine Below.setCell ?_ ?_ _); rotate_left; focus (((try dsimp only); repeat (first | omega | simp only [World.size_alloc, World.size_setCell, World.size_drew] | (with_reducible refine le_ext_of ?_) | (with_reducible refine le_ext_add ?_))); done)) | (with_reducible refine Below.drew ?_)))
  have kb : Blk W w.heap.size 26 #[.int .i64 b.n, .slice pb b.bs.length cb, .slice po b.os.length co, .slice (some ⟨bb, o, none⟩) b.ss.length cs] := by rw [← hW]; exact ((Blk.new rfl).alloc _).ext _
  have k3 := kb.cell 3
  simp only [List.size_toArray, List.length_cons, List.length_nil, Nat.reduceAdd, Nat.reduceLT, getElem?_pos, List.getElem_toArray, List.getElem_cons_zero, List.getElem_cons_succ] at k3
  have kl := kb.lt
  have hbW : bb < W.heap.size := Nat.lt_of_lt_of_le hbb hWB.size
  have c2 := (hWB.cell (p := ⟨bb, o + i * 4 + 2, none⟩) hbb).trans q2
  have c3 := (hWB.cell (p := ⟨bb, o + i * 4 + 3, none⟩) hbb).trans q3
  have c4 := (hWB.cell (p := ⟨bb, o + j * 4 + 2, none⟩) hbb).trans p2
  have c5 := (hWB.cell (p := ⟨bb, o + j * 4 + 3, none⟩) hbb).trans p3
  have HWB := Lib.hid hWB
  clear hW hWB kb q2 q3 p2 p3 hbb bb1 bb2
  go_cut [13, 14] (fun u13 u14 wx => ∃ g1 g2 : Nat, u13 = .pointer (some ⟨g1, 0, none⟩) ∧ u14 = .pointer (some ⟨g2, 0, none⟩) ∧ Blk wx g1 33 #[.int .i64 s.lo, .int .i64 s.hi] ∧ Blk wx g2 33 #[.int .i64 t.lo, .int .i64 t.hi] ∧ Below W.heap.size W wx)
  case first =>
    go_region
    all_goals (go_wp2_with fail; go_meet)
    · exact ⟨W.heap.size, W.heap.size + 1, rfl, rfl, ((Blk.new rfl).alloc _).drew, (Blk.new (by simp)).drew, by (repeat (first | (with_reducible exact Below.refl _ _) | (with_reducible assumption) | ((with_reducible refine below_ext_trans ?_ ?_ _); rotate_left; focus (((try dsimp only); repeat (first | omega | simp only [World.size_alloc, World.size_setCell, World.size_drew] | (with_reducible refine le_ext_of ?_) | (with_reducible refine le_ext_add ?_))); done)) | ((with_reducible refine Below.alloc ?_ ?_ _); rotate_left; focus (((try dsimp only); repeat (first | omega | simp only [World.size_alloc, World.size_setCell, World.size_drew] | (with_reducible refine le_ext_of ?_) | (with_reducible refine le_ext_add ?_))); done)) | ((with_reducible refine Below.setCell ?_ ?_ _); rotate_left; focus (((try dsimp only); repeat (first | omega | simp only [World.size_alloc, World.size_setCell, World.size_drew] | (with_reducible refine le_ext_of ?_) | (with_reducible refine le_ext_add ?_))); done)) | (with_reducible refine Below.drew ?_)))⟩
    · exact ⟨W.heap.size + 1, W.heap.size, rfl, rfl, (Blk.new (by simp)).drew, ((Blk.new rfl).alloc _).drew, by (repeat (first | (with_reducible exact Below.refl _ _) | (with_reducible assumption) | ((with_reducible refine below_ext_trans ?_ ?_ _); rotate_left; focus (((try dsimp only); repeat (first | omega | simp only [World.size_alloc, World.size_setCell, World.size_drew] | (with_reducible refine le_ext_of ?_) | (with_reducible refine le_ext_add ?_))); done)) | ((with_reducible refine Below.alloc ?_ ?_ _); rotate_left; focus (((try dsimp only); repeat (first | omega | simp only [World.size_alloc, World.size_setCell, World.size_drew] | (with_reducible refine le_ext_of ?_) | (with_reducible refine le_ext_add ?_))); done)) | ((with_reducible refine Below.setCell ?_ ?_ _); rotate_left; focus (((try dsimp only); repeat (first | omega | simp only [World.size_alloc, World.size_setCell, World.size_drew] | (with_reducible refine le_ext_of ?_) | (with_reducible refine le_ext_add ?_))); done)) | (with_reducible refine Below.drew ?_)))⟩
  case rest =>
    obtain ⟨g1, g2, rfl, rfl, h1, h2, hbel⟩ := hcut
    have r0 := h1.cell 0
    have r1 := h1.cell 1
    have r2 := h2.cell 0
    have r3 := h2.cell 1
    simp only [List.size_toArray, List.length_cons, List.length_nil, Nat.reduceAdd, Nat.reduceLT, getElem?_pos, List.getElem_toArray, List.getElem_cons_zero, List.getElem_cons_succ] at r0 r1 r2 r3
    have l1 := h1.lt
    have l2 := h2.lt
    have HBEL := Lib.hid (HWB.out.trans (hbel.mono HWB.out.size))
    clear hbel h1 h2 c2 c3 c4 c5 k3 kl hbW
    go_wp2_with (go_at_call 13; refine (shot_any _ (HN.out.below HBEL.out)).mono ?_; rintro e w1 ⟨rfl, y, rfl⟩)
    go_ret
    exact ⟨rfl, ext_of (below_ext_trans HBEL.out HBEL.out.size y)⟩
end Go.Proofs.YtmnbfjphndgmnaaDoor

namespace Go.Proofs.YtmnbfjphndgmnaaDoor
open Go Go.RowKit

set_option maxRecDepth 100000 in
set_option maxHeartbeats 8000000 in
theorem TurnFirst_Xc3 (h : Hd) (b : Bk) (n0 n1 n2 n3 : Int) (w : World) (hb : BkAt w h b) (hv : bookB b = true) (hn : NB w) (i j : Nat) (s t : Shot) (hi : b.ss[i]? = some s) (hj : b.ss[j]? = some t) (hij : i ≠ j) (r vx vy M : Int)
    (hL : 2 ≤ b.ss.length) (ei : n0 % (b.ss.length : Int) = (i : Int)) (er : n1 % ((b.ss.length : Int) - 1) = r) (ej : ((i : Int) + 1 + r) % (b.ss.length : Int) = (j : Int)) (hr : 0 ≤ r ∧ r ≤ 5) (ex : s.lo + n2 % (s.hi - s.lo + 1) = vx) (ey : t.lo + n3 % (t.hi - t.lo + 1) = vy)
    (hx : s.lo ≤ vx ∧ vx ≤ s.hi) (hy : t.lo ≤ vy ∧ vy ≤ t.hi) (hM : befores (t.lo, t.hi) (s.lo, s.hi) = M) (hM2 : 0 ≤ M ∧ M ≤ 2) (hc : ¬ s.hi < t.lo) (hc2 : ¬ s.lo < t.hi) :
    Calls Tryd.prog 9 #[.agg #[.int .i64 b.n, .slice h.pb b.bs.length h.cb, .slice h.po b.os.length h.co, .slice h.ps b.ss.length h.cs], .agg #[.int .i64 n0, .int .i64 n1, .int .i64 n2, .int .i64 n3]] w fun e w' => e = .returned (.bool true) ∧ ∃ x, w' = ext w x := by
  have hK : befores (s.lo, s.hi) (t.lo, t.hi) = 0 := by simp only [befores]; rw [if_neg (by omega), if_neg (by omega)]
  have d1 : decide (s.hi < t.lo) = false := by simp; omega
  have d2 : decide (t.hi ≤ s.lo) = true := by simp; omega
  have d3 : decide (vx < vy) = false := by simp; omega
  obtain ⟨pb, cb, po, co, ps, cs⟩ := h
  dsimp only
  have hs5 := bookB_ss hv
  obtain ⟨⟨-, -⟩, -, ms⟩ := bookB_shot hv hi
  obtain ⟨⟨-, -⟩, -, mt⟩ := bookB_shot hv hj
  unfold Mom at ms mt
  have SB := Lib.hid (show 0 ≤ s.lo ∧ s.lo ≤ s.hi ∧ s.hi ≤ 100000 by omega)
  have TB := Lib.hid (show 0 ≤ t.lo ∧ t.lo ≤ t.hi ∧ t.hi ≤ 100000 by omega)
  have HL1 := Lib.hid (show 1 ≤ (b.ss.length : Int) ∧ (b.ss.length : Int) ≤ 1000000 by omega)
  have HL2 := Lib.hid (show 1 ≤ (b.ss.length : Int) - 1 ∧ (b.ss.length : Int) - 1 ≤ 1000000 by omega)
  obtain ⟨bb, o, hps, hbb, q0, q1, q2, q3⟩ := hb.ss i s hi
  obtain ⟨bb2, o2, hps2, -, p0, p1, p2, p3⟩ := hb.ss j t hj
  dsimp only at hps hps2
  subst hps
  simp only [Option.some.injEq, Addr.mk.injEq, and_true] at hps2
  obtain ⟨rfl, rfl⟩ := hps2
  clear q0 q1 p0 p1
  have hil := (List.getElem?_eq_some_iff.1 hi).1
  have hjl := (List.getElem?_eq_some_iff.1 hj).1
  have i0 : (0 : Int) ≤ (i : Int) := by omega
  have i1 : (i : Int) < (b.ss.length : Int) := by omega
  have j0 : (0 : Int) ≤ (j : Int) := by omega
  have j1 : (j : Int) < (b.ss.length : Int) := by omega
  have l2 : ¬ (b.ss.length : Int) < 2 := by omega
  have l3 : decide ((b.ss.length : Int) < 2) = false := by simpa using l2
  have bb1 : bb < w.heap.size + 1 := by omega
  have bb2 : bb < w.heap.size + 1 + 1 := by omega
  have w1 : IntKind.i64.wrap ((i : Int) + 1) = (i : Int) + 1 := IntWalk.i64_in _ (by omega)
  have w2 : IntKind.i64.wrap ((b.ss.length : Int) - 1) = (b.ss.length : Int) - 1 := IntWalk.i64_in _ (by omega)
  have w3 : IntKind.i64.wrap ((i : Int) + 1 + r) = (i : Int) + 1 + r := IntWalk.i64_in _ (by omega)
  have HB := Lib.hid hb
  have HN := Lib.hid hn
  have HV := Lib.hid hv
  have HI := Lib.hid hi
  have HJ := Lib.hid hj
  have EI := Lib.hid ei
  have ER := Lib.hid er
  have EJ := Lib.hid ej
  have EX := Lib.hid ex
  have EY := Lib.hid ey
  have HM := Lib.hid hM
  have HK := Lib.hid hK
  have HM2 := Lib.hid hM2
  clear hb hn hv hi hj ei er ej ex ey hM hK ms mt hL hs5 hil hjl hr hx hy l2 hM2
  go_enter Tryd.func9, Tryd.ntmps9
  go_upto_region 4 with (first
    | (go_at_call 12; refine (sound_yes ⟨pb, cb, po, co, some ⟨bb, o, none⟩, cs⟩ b _ (HB.out.below (by (repeat (first | (with_reducible exact Below.refl _ _) | (with_reducible assumption) | ((with_reducible refine below_ext_trans ?_ ?_ _); rotate_left; focus (((try dsimp only); repeat (first | omega | simp only [World.size_alloc, World.size_setCell, World.size_drew] | (with_reducible refine le_ext_of ?_) | (with_reducible refine le_ext_add ?_))); done)) | ((with_reducible refine Below.alloc ?_ ?_ _); rotate_left; focus (((try dsimp only); repeat (first | omega | simp only [World.size_alloc, World.size_setCell, World.size_drew] | (with_reducible refine le_ext_of ?_) | (with_reducible refine le_ext_add ?_))); done)) | ((with_reducible refine Below.setCell ?_ ?_ _); rotate_left; focus (((try dsimp only); repeat (first | omega | simp only [World.size_alloc, World.size_setCell, World.size_drew] | (with_reducible refine le_ext_of ?_) | (with_reducible refine le_ext_add ?_))); done)) | (with_reducible refine Below.drew ?_))))) HV.out).mono ?_; rintro e w1 ⟨rfl, y1, rfl⟩)
    | (go_at_call 14; refine (Wheel_eq n0 _ i _ HL1.out EI.out).mono ?_; rintro e w1 ⟨rfl, y1, rfl⟩))
  refine wp_region_ext (by kernel_rfl) (by kernel_rfl) ?_
  repeat (go_big_quiet_step (fail))
  go_big_quiet_step ((go_at_call 14; exact quiet_ext (Wheel_eq n1 _ r _ HL2.out ER.out)))
  repeat (go_big_quiet_step (fail))
  go_big_quiet_step ((go_at_call 14; exact quiet_ext (Wheel_eq _ _ j _ HL1.out EJ.out)))
  repeat (go_big_quiet_step (fail))
  (refine wpQuiet_nil ?_; rintro _ ⟨x, rfl⟩)
  go_upto_region 6 with (go_at_call 37; refine (First_eq ⟨pb, cb, po, co, some ⟨bb, o, none⟩, cs⟩ b i j s t 0 _ (HB.out.below (by (repeat (first | (with_reducible exact Below.refl _ _) | (with_reducible assumption) | ((with_reducible refine below_ext_trans ?_ ?_ _); rotate_left; focus (((try dsimp only); repeat (first | omega | simp only [World.size_alloc, World.size_setCell, World.size_drew] | (with_reducible refine le_ext_of ?_) | (with_reducible refine le_ext_add ?_))); done)) | ((with_reducible refine Below.alloc ?_ ?_ _); rotate_left; focus (((try dsimp only); repeat (first | omega | simp only [World.size_alloc, World.size_setCell, World.size_drew] | (with_reducible refine le_ext_of ?_) | (with_reducible refine le_ext_add ?_))); done)) | ((with_reducible refine Below.setCell ?_ ?_ _); rotate_left; focus (((try dsimp only); repeat (first | omega | simp only [World.size_alloc, World.size_setCell, World.size_drew] | (with_reducible refine le_ext_of ?_) | (with_reducible refine le_ext_add ?_))); done)) | (with_reducible refine Below.drew ?_))))) HV.out (HN.out.below (by (repeat (first | (with_reducible exact Below.refl _ _) | (with_reducible assumption) | ((with_reducible refine below_ext_trans ?_ ?_ _); rotate_left; focus (((try dsimp only); repeat (first | omega | simp only [World.size_alloc, World.size_setCell, World.size_drew] | (with_reducible refine le_ext_of ?_) | (with_reducible refine le_ext_add ?_))); done)) | ((with_reducible refine Below.alloc ?_ ?_ _); rotate_left; focus (((try dsimp only); repeat (first | omega | simp only [World.size_alloc, World.size_setCell, World.size_drew] | (with_reducible refine le_ext_of ?_) | (with_reducible refine le_ext_add ?_))); done)) | ((with_reducible refine Below.setCell ?_ ?_ _); rotate_left; focus (((try dsimp only); repeat (first | omega | simp only [World.size_alloc, World.size_setCell, World.size_drew] | (with_reducible refine le_ext_of ?_) | (with_reducible refine le_ext_add ?_))); done)) | (with_reducible refine Below.drew ?_))))) HI.out HJ.out hij HK.out).mono ?_; rintro e w1 ⟨rfl, y2, rfl⟩)
  go_upto_region 7 with (go_at_call 37; refine (First_eq ⟨pb, cb, po, co, some ⟨bb, o, none⟩, cs⟩ b j i t s M _ (HB.out.below (by (repeat (first | (with_reducible exact Below.refl _ _) | (with_reducible assumption) | ((with_reducible refine below_ext_trans ?_ ?_ _); rotate_left; focus (((try dsimp only); repeat (first | omega | simp only [World.size_alloc, World.size_setCell, World.size_drew] | (with_reducible refine le_ext_of ?_) | (with_reducible refine le_ext_add ?_))); done)) | ((with_reducible refine Below.alloc ?_ ?_ _); rotate_left; focus (((try dsimp only); repeat (first | omega | simp only [World.size_alloc, World.size_setCell, World.size_drew] | (with_reducible refine le_ext_of ?_) | (with_reducible refine le_ext_add ?_))); done)) | ((with_reducible refine Below.setCell ?_ ?_ _); rotate_left; focus (((try dsimp only); repeat (first | omega | simp only [World.size_alloc, World.size_setCell, World.size_drew] | (with_reducible refine le_ext_of ?_) | (with_reducible refine le_ext_add ?_))); done)) | (with_reducible refine Below.drew ?_))))) HV.out (HN.out.below (by (repeat (first | (with_reducible exact Below.refl _ _) | (with_reducible assumption) | ((with_reducible refine below_ext_trans ?_ ?_ _); rotate_left; focus (((try dsimp only); repeat (first | omega | simp only [World.size_alloc, World.size_setCell, World.size_drew] | (with_reducible refine le_ext_of ?_) | (with_reducible refine le_ext_add ?_))); done)) | ((with_reducible refine Below.alloc ?_ ?_ _); rotate_left; focus (((try dsimp only); repeat (first | omega | simp only [World.size_alloc, World.size_setCell, World.size_drew] | (with_reducible refine le_ext_of ?_) | (with_reducible refine le_ext_add ?_))); done)) | ((with_reducible refine Below.setCell ?_ ?_ _); rotate_left; focus (((try dsimp only); repeat (first | omega | simp only [World.size_alloc, World.size_setCell, World.size_drew] | (with_reducible refine le_ext_of ?_) | (with_reducible refine le_ext_add ?_))); done)) | (with_reducible refine Below.drew ?_))))) HJ.out HI.out (Ne.symm hij) HM.out).mono ?_; rintro e w1 ⟨rfl, y3, rfl⟩)
  refine wp_region_ext (by kernel_rfl) (by kernel_rfl) ?_
  repeat (go_big_quiet_step (fail))
  go_big_quiet_step ((go_at_call 23; exact quiet_ext (Some_eq s.lo s.hi n2 vx _ SB.out EX.out)))
  repeat (go_big_quiet_step (fail))
  go_big_quiet_step ((go_at_call 23; exact quiet_ext (Some_eq t.lo t.hi n3 vy _ TB.out EY.out)))
  repeat (go_big_quiet_step (fail))
  (refine wpQuiet_nil ?_; rintro _ ⟨x, rfl⟩)
  go_upto_region 10 with (go_at_call 25; refine (Between_yes _ _ _ _ (by first | omega | exact HM2.out.1) (by first | omega | exact HM2.out.2)).mono ?_; rintro e w1 ⟨rfl, rfl⟩)
  generalize hW : ext ((w.alloc _).alloc _) _ = W
  have hWB : Below w.heap.size w W := by rw [← hW]; (repeat (first | (with_reducible exact Below.refl _ _) | (with_reducible assumption) | ((with_reducible refine below_ext_trans ?_ ?_ _); rotate_left; focus (((try dsimp only); repeat (first | omega | simp only [World.size_alloc, World.size_setCell, World.size_drew] | (with_reducible refine le_ext_of ?_) | (with_reducible refine le_ext_add ?_))); done)) | ((with_reducible refine Below.alloc ?_ ?_ _); rotate_left; focus (((try dsimp only); repeat (first | omega | simp only [World.size_alloc, World.size_setCell, World.size_drew] | (with_reducible refine le_ext_of ?_) | (with_reducible refine le_ext_add ?_))); done)) | ((with_reducible refine Below.setCell ?_ ?_ _); rotate_left; focus (((try dsimp only); repeat (first | omega | simp only [World.size_alloc, World.size_setCell, World.size_drew] | (with_reducible refine le_ext_of ?_) | (with_reducible refine le_ext_add ?_))); done)) | (with_reducible refine Below.drew ?_)))
  have kb : Blk W w.heap.size 26 #[.int .i64 b.n, .slice pb b.bs.length cb, .slice po b.os.length co, .slice (some ⟨bb, o, none⟩) b.ss.length cs] := by rw [← hW]; exact ((Blk.new rfl).alloc _).ext _
  have k3 := kb.cell 3
  simp only [List.size_toArray, List.length_cons, List.length_nil, Nat.reduceAdd, Nat.reduceLT, getElem?_pos, List.getElem_toArray, List.getElem_cons_zero, List.getElem_cons_succ] at k3
  have kl := kb.lt
  have hbW : bb < W.heap.size := Nat.lt_of_lt_of_le hbb hWB.size
  have c2 := (hWB.cell (p := ⟨bb, o + i * 4 + 2, none⟩) hbb).trans q2
  have c3 := (hWB.cell (p := ⟨bb, o + i * 4 + 3, none⟩) hbb).trans q3
  have c4 := (hWB.cell (p := ⟨bb, o + j * 4 + 2, none⟩) hbb).trans p2
  have c5 := (hWB.cell (p := ⟨bb, o + j * 4 + 3, none⟩) hbb).trans p3
  have HWB := Lib.hid hWB
  clear hW hWB kb q2 q3 p2 p3 hbb bb1 bb2
  go_cut [13, 14] (fun u13 u14 wx => ∃ g1 g2 : Nat, u13 = .pointer (some ⟨g1, 0, none⟩) ∧ u14 = .pointer (some ⟨g2, 0, none⟩) ∧ Blk wx g1 33 #[.int .i64 s.lo, .int .i64 s.hi] ∧ Blk wx g2 33 #[.int .i64 t.lo, .int .i64 t.hi] ∧ Below W.heap.size W wx)
  case first =>
    go_region
    all_goals (go_wp2_with fail; go_meet)
    · exact ⟨W.heap.size, W.heap.size + 1, rfl, rfl, ((Blk.new rfl).alloc _).drew, (Blk.new (by simp)).drew, by (repeat (first | (with_reducible exact Below.refl _ _) | (with_reducible assumption) | ((with_reducible refine below_ext_trans ?_ ?_ _); rotate_left; focus (((try dsimp only); repeat (first | omega | simp only [World.size_alloc, World.size_setCell, World.size_drew] | (with_reducible refine le_ext_of ?_) | (with_reducible refine le_ext_add ?_))); done)) | ((with_reducible refine Below.alloc ?_ ?_ _); rotate_left; focus (((try dsimp only); repeat (first | omega | simp only [World.size_alloc, World.size_setCell, World.size_drew] | (with_reducible refine le_ext_of ?_) | (with_reducible refine le_ext_add ?_))); done)) | ((with_reducible refine Below.setCell ?_ ?_ _); rotate_left; focus (((try dsimp only); repeat (first | omega | simp only [World.size_alloc, World.size_setCell, World.size_drew] | (with_reducible refine le_ext_of ?_) | (with_reducible refine le_ext_add ?_))); done)) | (with_reducible refine Below.drew ?_)))⟩
    · exact ⟨W.heap.size + 1, W.heap.size, rfl, rfl, (Blk.new (by simp)).drew, ((Blk.new rfl).alloc _).drew, by (repeat (first | (with_reducible exact Below.refl _ _) | (with_reducible assumption) | ((with_reducible refine below_ext_trans ?_ ?_ _); rotate_left; focus (((try dsimp only); repeat (first | omega | simp only [World.size_alloc, World.size_setCell, World.size_drew] | (with_reducible refine le_ext_of ?_) | (with_reducible refine le_ext_add ?_))); done)) | ((with_reducible refine Below.alloc ?_ ?_ _); rotate_left; focus (((try dsimp only); repeat (first | omega | simp only [World.size_alloc, World.size_setCell, World.size_drew] | (with_reducible refine le_ext_of ?_) | (with_reducible refine le_ext_add ?_))); done)) | ((with_reducible refine Below.setCell ?_ ?_ _); rotate_left; focus (((try dsimp only); repeat (first | omega | simp only [World.size_alloc, World.size_setCell, World.size_drew] | (with_reducible refine le_ext_of ?_) | (with_reducible refine le_ext_add ?_))); done)) | (with_reducible refine Below.drew ?_)))⟩
  case rest =>
    obtain ⟨g1, g2, rfl, rfl, h1, h2, hbel⟩ := hcut
    have r0 := h1.cell 0
    have r1 := h1.cell 1
    have r2 := h2.cell 0
    have r3 := h2.cell 1
    simp only [List.size_toArray, List.length_cons, List.length_nil, Nat.reduceAdd, Nat.reduceLT, getElem?_pos, List.getElem_toArray, List.getElem_cons_zero, List.getElem_cons_succ] at r0 r1 r2 r3
    have l1 := h1.lt
    have l2 := h2.lt
    have HBEL := Lib.hid (HWB.out.trans (hbel.mono HWB.out.size))
    clear hbel h1 h2 c2 c3 c4 c5 k3 kl hbW
    go_wp2_with (go_at_call 13; refine (shot_any _ (HN.out.below HBEL.out)).mono ?_; rintro e w1 ⟨rfl, y, rfl⟩)
    go_ret
    exact ⟨rfl, ext_of (below_ext_trans HBEL.out HBEL.out.size y)⟩
end Go.Proofs.YtmnbfjphndgmnaaDoor

namespace Go.Proofs.YtmnbfjphndgmnaaDoor
open Go Go.RowKit

set_option maxRecDepth 100000 in
set_option maxHeartbeats 4000000 in
theorem TurnFirst_bad (h : Hd) (b : Bk) (n0 n1 n2 n3 : Int) (w : World) (hb : BkAt w h b) (hv : bookB b = false) (hn : NB w) :
    Calls Tryd.prog 9 #[.agg #[.int .i64 b.n, .slice h.pb b.bs.length h.cb, .slice h.po b.os.length h.co, .slice h.ps b.ss.length h.cs], .agg #[.int .i64 n0, .int .i64 n1, .int .i64 n2, .int .i64 n3]] w fun e w' => e = .returned (.bool true) ∧ ∃ x, w' = ext w x := by
  have HB := Lib.hid hb
  have HN := Lib.hid hn
  clear hb hn
  go_enter Tryd.func9, Tryd.ntmps9
  go_wp2_with (first
    | (go_at_call 12; refine (sound_no h b _ (HB.out.below (by (repeat (first | (with_reducible exact Below.refl _ _) | (with_reducible assumption) | ((with_reducible refine below_ext_trans ?_ ?_ _); rotate_left; focus (((try dsimp only); repeat (first | omega | simp only [World.size_alloc, World.size_setCell, World.size_drew] | (with_reducible refine le_ext_of ?_) | (with_reducible refine le_ext_add ?_))); done)) | ((with_reducible refine Below.alloc ?_ ?_ _); rotate_left; focus (((try dsimp only); repeat (first | omega | simp only [World.size_alloc, World.size_setCell, World.size_drew] | (with_reducible refine le_ext_of ?_) | (with_reducible refine le_ext_add ?_))); done)) | ((with_reducible refine Below.setCell ?_ ?_ _); rotate_left; focus (((try dsimp only); repeat (first | omega | simp only [World.size_alloc, World.size_setCell, World.size_drew] | (with_reducible refine le_ext_of ?_) | (with_reducible refine le_ext_add ?_))); done)) | (with_reducible refine Below.drew ?_))))) hv).mono ?_; rintro e w1 ⟨rfl, y1, rfl⟩)
    | (go_at_call 13; refine (shot_any _ (HN.out.below (by (repeat (first | (with_reducible exact Below.refl _ _) | (with_reducible assumption) | ((with_reducible refine below_ext_trans ?_ ?_ _); rotate_left; focus (((try dsimp only); repeat (first | omega | simp only [World.size_alloc, World.size_setCell, World.size_drew] | (with_reducible refine le_ext_of ?_) | (with_reducible refine le_ext_add ?_))); done)) | ((with_reducible refine Below.alloc ?_ ?_ _); rotate_left; focus (((try dsimp only); repeat (first | omega | simp only [World.size_alloc, World.size_setCell, World.size_drew] | (with_reducible refine le_ext_of ?_) | (with_reducible refine le_ext_add ?_))); done)) | ((with_reducible refine Below.setCell ?_ ?_ _); rotate_left; focus (((try dsimp only); repeat (first | omega | simp only [World.size_alloc, World.size_setCell, World.size_drew] | (with_reducible refine le_ext_of ?_) | (with_reducible refine le_ext_add ?_))); done)) | (with_reducible refine Below.drew ?_)))))).mono ?_; rintro e w1 ⟨rfl, y, rfl⟩))
  go_ret
  exact ⟨rfl, by (exact ext_of (by (repeat (first | (with_reducible exact Below.refl _ _) | (with_reducible assumption) | ((with_reducible refine below_ext_trans ?_ ?_ _); rotate_left; focus (((try dsimp only); repeat (first | omega | simp only [World.size_alloc, World.size_setCell, World.size_drew] | (with_reducible refine le_ext_of ?_) | (with_reducible refine le_ext_add ?_))); done)) | ((with_reducible refine Below.alloc ?_ ?_ _); rotate_left; focus (((try dsimp only); repeat (first | omega | simp only [World.size_alloc, World.size_setCell, World.size_drew] | (with_reducible refine le_ext_of ?_) | (with_reducible refine le_ext_add ?_))); done)) | ((with_reducible refine Below.setCell ?_ ?_ _); rotate_left; focus (((try dsimp only); repeat (first | omega | simp only [World.size_alloc, World.size_setCell, World.size_drew] | (with_reducible refine le_ext_of ?_) | (with_reducible refine le_ext_add ?_))); done)) | (with_reducible refine Below.drew ?_)))))⟩
set_option maxRecDepth 100000 in
set_option maxHeartbeats 4000000 in
theorem TurnFirst_few (h : Hd) (b : Bk) (n0 n1 n2 n3 : Int) (w : World) (hb : BkAt w h b) (hv : bookB b = true) (hn : NB w) (hs : (b.ss.length : Int) < 2) :
    Calls Tryd.prog 9 #[.agg #[.int .i64 b.n, .slice h.pb b.bs.length h.cb, .slice h.po b.os.length h.co, .slice h.ps b.ss.length h.cs], .agg #[.int .i64 n0, .int .i64 n1, .int .i64 n2, .int .i64 n3]] w fun e w' => e = .returned (.bool true) ∧ ∃ x, w' = ext w x := by
  have HB := Lib.hid hb
  have HN := Lib.hid hn
  clear hb hn
  go_enter Tryd.func9, Tryd.ntmps9
  go_wp2_with (first
    | (go_at_call 12; refine (sound_yes h b _ (HB.out.below (by (repeat (first | (with_reducible exact Below.refl _ _) | (with_reducible assumption) | ((with_reducible refine below_ext_trans ?_ ?_ _); rotate_left; focus (((try dsimp only); repeat (first | omega | simp only [World.size_alloc, World.size_setCell, World.size_drew] | (with_reducible refine le_ext_of ?_) | (with_reducible refine le_ext_add ?_))); done)) | ((with_reducible refine Below.alloc ?_ ?_ _); rotate_left; focus (((try dsimp only); repeat (first | omega | simp only [World.size_alloc, World.size_setCell, World.size_drew] | (with_reducible refine le_ext_of ?_) | (with_reducible refine le_ext_add ?_))); done)) | ((with_reducible refine Below.setCell ?_ ?_ _); rotate_left; focus (((try dsimp only); repeat (first | omega | simp only [World.size_alloc, World.size_setCell, World.size_drew] | (with_reducible refine le_ext_of ?_) | (with_reducible refine le_ext_add ?_))); done)) | (with_reducible refine Below.drew ?_))))) hv).mono ?_; rintro e w1 ⟨rfl, y1, rfl⟩)
    | (go_at_call 13; refine (shot_any _ (HN.out.below (by (repeat (first | (with_reducible exact Below.refl _ _) | (with_reducible assumption) | ((with_reducible refine below_ext_trans ?_ ?_ _); rotate_left; focus (((try dsimp only); repeat (first | omega | simp only [World.size_alloc, World.size_setCell, World.size_drew] | (with_reducible refine le_ext_of ?_) | (with_reducible refine le_ext_add ?_))); done)) | ((with_reducible refine Below.alloc ?_ ?_ _); rotate_left; focus (((try dsimp only); repeat (first | omega | simp only [World.size_alloc, World.size_setCell, World.size_drew] | (with_reducible refine le_ext_of ?_) | (with_reducible refine le_ext_add ?_))); done)) | ((with_reducible refine Below.setCell ?_ ?_ _); rotate_left; focus (((try dsimp only); repeat (first | omega | simp only [World.size_alloc, World.size_setCell, World.size_drew] | (with_reducible refine le_ext_of ?_) | (with_reducible refine le_ext_add ?_))); done)) | (with_reducible refine Below.drew ?_)))))).mono ?_; rintro e w1 ⟨rfl, y, rfl⟩))
  go_ret
  exact ⟨rfl, by (exact ext_of (by (repeat (first | (with_reducible exact Below.refl _ _) | (with_reducible assumption) | ((with_reducible refine below_ext_trans ?_ ?_ _); rotate_left; focus (((try dsimp only); repeat (first | omega | simp only [World.size_alloc, World.size_setCell, World.size_drew] | (with_reducible refine le_ext_of ?_) | (with_reducible refine le_ext_add ?_))); done)) | ((with_reducible refine Below.alloc ?_ ?_ _); rotate_left; focus (((try dsimp only); repeat (first | omega | simp only [World.size_alloc, World.size_setCell, World.size_drew] | (with_reducible refine le_ext_of ?_) | (with_reducible refine le_ext_add ?_))); done)) | ((with_reducible refine Below.setCell ?_ ?_ _); rotate_left; focus (((try dsimp only); repeat (first | omega | simp only [World.size_alloc, World.size_setCell, World.size_drew] | (with_reducible refine le_ext_of ?_) | (with_reducible refine le_ext_add ?_))); done)) | (with_reducible refine Below.drew ?_)))))⟩

theorem other_ne (L i r : Int) (hL : 2 ≤ L) (hL5 : L ≤ 5) (hi : 0 ≤ i ∧ i < L) (hr : 0 ≤ r ∧ r < L - 1) : (i + 1 + r) % L ≠ i ∧ 0 ≤ (i + 1 + r) % L ∧ (i + 1 + r) % L < L := by
  have hc : L = 2 ∨ L = 3 ∨ L = 4 ∨ L = 5 := by omega
  rcases hc with rfl | rfl | rfl | rfl <;> omega
theorem befores_bd (m n : Int × Int) : 0 ≤ befores m n ∧ befores m n ≤ 2 := by
  unfold befores
  split
  · omega
  · split <;> omega
theorem some_bd (lo hi n : Int) (h : lo ≤ hi) : lo ≤ lo + n % (hi - lo + 1) ∧ lo + n % (hi - lo + 1) ≤ hi := by
  have h1 := Int.emod_nonneg n (show hi - lo + 1 ≠ 0 by omega)
  have h2 := Int.emod_lt_of_pos n (show 0 < hi - lo + 1 by omega)
  omega

theorem TurnFirst_any (h : Hd) (b : Bk) (n0 n1 n2 n3 : Int) (w : World) (hb : BkAt w h b) (hn : NB w) :
    Calls Tryd.prog 9 #[.agg #[.int .i64 b.n, .slice h.pb b.bs.length h.cb, .slice h.po b.os.length h.co, .slice h.ps b.ss.length h.cs], .agg #[.int .i64 n0, .int .i64 n1, .int .i64 n2, .int .i64 n3]] w fun e w' => e = .returned (.bool true) ∧ ∃ x, w' = ext w x := by
  cases hv : bookB b with
  | false => exact TurnFirst_bad h b n0 n1 n2 n3 w hb hv hn
  | true =>
    by_cases hs : (b.ss.length : Int) < 2
    · exact TurnFirst_few h b n0 n1 n2 n3 w hb hv hn hs
    · have hs5 := bookB_ss hv
      have hi0 := Int.emod_nonneg n0 (show (b.ss.length : Int) ≠ 0 by omega)
      have hi1 := Int.emod_lt_of_pos n0 (show 0 < (b.ss.length : Int) by omega)
      have hr0 := Int.emod_nonneg n1 (show (b.ss.length : Int) - 1 ≠ 0 by omega)
      have hr1 := Int.emod_lt_of_pos n1 (show 0 < (b.ss.length : Int) - 1 by omega)
      obtain ⟨i, ei⟩ := Int.eq_ofNat_of_zero_le hi0
      have hij := other_ne (b.ss.length : Int) (i : Int) (n1 % ((b.ss.length : Int) - 1)) (by omega) (by omega) (by omega) (by omega)
      obtain ⟨j, ej⟩ := Int.eq_ofNat_of_zero_le hij.2.1
      obtain ⟨s, hs1⟩ := get_some b.ss i (by omega)
      obtain ⟨t, ht1⟩ := get_some b.ss j (by omega)
      obtain ⟨-, -, ms⟩ := bookB_shot hv hs1
      obtain ⟨-, -, mt⟩ := bookB_shot hv ht1
      unfold Mom at ms mt
      have bx := some_bd s.lo s.hi n2 (by omega)
      have bY := some_bd t.lo t.hi n3 (by omega)
      have hne : i ≠ j := by omega
      have hM := befores_bd (t.lo, t.hi) (s.lo, s.hi)
      by_cases hc : s.hi < t.lo
      · exact TurnFirst_Xc1 h b n0 n1 n2 n3 w hb hv hn i j s t hs1 ht1 hne _ _ _ _ (by omega) ei rfl ej (by omega) rfl rfl bx bY rfl hM hc
      · by_cases hc2 : s.lo < t.hi
        · exact TurnFirst_Xc2 h b n0 n1 n2 n3 w hb hv hn i j s t hs1 ht1 hne _ _ _ _ (by omega) ei rfl ej (by omega) rfl rfl bx bY rfl hM hc hc2
        · exact TurnFirst_Xc3 h b n0 n1 n2 n3 w hb hv hn i j s t hs1 ht1 hne _ _ _ _ (by omega) ei rfl ej (by omega) rfl rfl bx bY rfl hM hc hc2
end Go.Proofs.YtmnbfjphndgmnaaDoor

