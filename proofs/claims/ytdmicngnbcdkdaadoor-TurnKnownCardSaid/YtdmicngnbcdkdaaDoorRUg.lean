/- Contract of left: how many shots are undecided, at the worst, once the minute of a bound is known. -/
import Derived.Test.YtdmicngnbcdkdaaDoorRUf
import Derived.Test.YtdmicngnbcdkdaaDoorRUa
import Derived.Test.YtdmicngnbcdkdaaDoorRTq
import Derived.Test.YtdmicngnbcdkdaaDoorRIt
set_option linter.unusedSimpArgs false
set_option linter.unusedVariables false
namespace Go.Proofs.YtdmicngnbcdkdaaDoor
open Go Go.RowKit Go.Maps Go.Shelf

/-- How many shots are undecided once a minute is known, as a number. -/
def undM (b : Bk) (k : Nat) (m : Int) : Int := (undN (setB b k m) b.ss.length : Int)
def worst (b : Bk) (k : Nat) (ms : List Int) : Int := ms.foldl (fun x m => max x (undM b k m)) 0
theorem worst_snoc (b : Bk) (k : Nat) (ms : List Int) (m : Int) : worst b k (ms ++ [m]) = max (worst b k ms) (undM b k m) := by simp [worst]

theorem chain_mom {p : Int} {l : List (Int × Int)} (h : chainB p l = true) : ∀ s ∈ l, Mom s.1 s.2 := by
  induction l generalizing p with
  | nil => simp
  | cons s l ih =>
    simp only [chainB, Bool.and_eq_true, decide_eq_true_eq] at h
    intro x hx
    rcases List.mem_cons.1 hx with rfl | hx
    · exact momB_iff.1 h.1.1
    · exact ih h.2 x hx

attribute [local go_sem] Oper.semAt_some frozen_alloc_lt
set_option maxRecDepth 100000 in
set_option maxHeartbeats 4000000 in
theorem left_any (h : Hd) (b : Bk) (B : Nat) (k : Nat) (lo hi : Int) (w : World) (hk : CoveOK w h b B) (hn : NB w) (hcap : b.bs.length ≤ h.cb) (hs : b.bs[k]? = some (lo, hi)) :
    Calls Tryd.prog 80 #[.agg #[.int .i64 b.n, .slice h.pb b.bs.length h.cb, .slice h.po b.os.length h.co, .slice h.ps b.ss.length h.cs, .int .i64 (kspec b.bs 2 0 0), .int .i64 (kspec b.bs 2 0 1), .int .i64 (kspec b.bs 2 0 2), .int .i64 (kspec b.bs 2 0 3), .int .i64 (kspec b.bs 2 0 4), .int .i64 (kspec b.bs 2 0 5), .int .i64 (kspec b.bs 2 0 6), .int .i64 (kspec b.bs 2 0 7), .map (some B)], .int .i64 k] w fun e w' => e = .returned (.int .i64 (worst b k (mins lo hi))) ∧ ∃ x, w' = ext w x := by
  refine (callsIn_wide (n := 9)).1 ?_
  have hkb : k < b.bs.length := (List.getElem?_eq_some_iff.1 hs).1
  obtain ⟨bb, o, hp, hlt, c1, c2⟩ := hk.bk.bs k _ hs
  have hkl : (k : Int) < (b.bs.length : Int) := by omega
  have hk0 : (0 : Int) ≤ (k : Int) := by omega
  have HS := Lib.hid hs
  obtain ⟨h_pb, h_cb, h_po, h_co, h_ps, h_cs⟩ := h
  dsimp only at hp hcap
  subst hp
  have hlt2 : bb ≤ w.heap.size := by omega
  have hlt3 : bb < w.heap.size + 1 := by omega
  have hlt4 : bb < w.heap.size + 1 + 1 := by omega
  have HK := Lib.hid hk
  have HN := Lib.hid hn
  dsimp only at c1 c2
  clear hk hn hs
  refine callsIn_of_wp_marks Tryd.func80 rfl trivial ?_ rfl
  simp only [Tryd.ntmps80, List.size_toArray, List.length_cons, List.length_nil, Nat.reduceAdd, Nat.reduceSub, Array.replicate_succ, Array.replicate_zero, List.push_toArray, List.append_toArray, List.nil_append, List.cons_append]
  gi_wp2_with (gi_at_call 79; refine (callsIn_wide.2 (minutes_any _ _ _)).mono ?_; rintro e w' ⟨gm, rfl, hgm, hbm, y5, rfl⟩)
  have hMom : Mom lo hi := by
    have h1 := chain_mom (bookB_bounds HK.out.ok).2.2 (lo, hi) (List.mem_of_getElem? HS.out)
    exact h1
  generalize hW0 : ((w.alloc _).alloc _).alloc _ = W0 at *
  have hb0 : Below w.heap.size w W0 := by rw [← hW0]; (repeat (first | (with_reducible exact Below.refl _ _) | (with_reducible assumption) | ((with_reducible refine below_ext_trans ?_ ?_ _); rotate_left; focus (((try dsimp only); repeat (first | omega | simp only [World.size_alloc, World.size_setCell, World.size_drew] | (with_reducible refine le_ext_of ?_) | (with_reducible refine le_ext_add ?_))); done)) | ((with_reducible refine Below.alloc ?_ ?_ _); rotate_left; focus (((try dsimp only); repeat (first | omega | simp only [World.size_alloc, World.size_setCell, World.size_drew] | (with_reducible refine le_ext_of ?_) | (with_reducible refine le_ext_add ?_))); done)) | ((with_reducible refine Below.setCell ?_ ?_ _); rotate_left; focus (((try dsimp only); repeat (first | omega | simp only [World.size_alloc, World.size_setCell, World.size_drew] | (with_reducible refine le_ext_of ?_) | (with_reducible refine le_ext_add ?_))); done)) | (with_reducible refine Below.drew ?_)))
  have hz0 : W0.heap.size = w.heap.size + 3 := by rw [← hW0]; simp
  have kb1 : Blk W0 w.heap.size 83 #[.int .i64 b.n, .slice (some ⟨bb, o, none⟩) b.bs.length h_cb, .slice h_po b.os.length h_co, .slice h_ps b.ss.length h_cs, .int .i64 (kspec b.bs 2 0 0), .int .i64 (kspec b.bs 2 0 1), .int .i64 (kspec b.bs 2 0 2), .int .i64 (kspec b.bs 2 0 3), .int .i64 (kspec b.bs 2 0 4), .int .i64 (kspec b.bs 2 0 5), .int .i64 (kspec b.bs 2 0 6), .int .i64 (kspec b.bs 2 0 7), .map (some B)] := by rw [← hW0]; exact ((Blk.new rfl).alloc _).alloc _
  have kb2 : Blk W0 (w.heap.size + 1) 3 #[.int .i64 k] := by rw [← hW0]; exact (Blk.new (by simp)).alloc _
  have kb3 : Blk W0 (w.heap.size + 1 + 1) 3 #[.int .i64 0] := by rw [← hW0]; exact Blk.new (by simp)
  have hW : Below W0.heap.size W0 (ext W0 y5) := below_ext W0 y5
  have hwW : Below w.heap.size w (ext W0 y5) := hb0.trans (hW.mono (by omega))
  have hzW : W0.heap.size ≤ (ext W0 y5).heap.size := hW.size
  clear hW0
  generalize ext W0 y5 = W at *
  have hq1 : Blk W w.heap.size 83 #[.int .i64 b.n, .slice (some ⟨bb, o, none⟩) b.bs.length h_cb, .slice h_po b.os.length h_co, .slice h_ps b.ss.length h_cs, .int .i64 (kspec b.bs 2 0 0), .int .i64 (kspec b.bs 2 0 1), .int .i64 (kspec b.bs 2 0 2), .int .i64 (kspec b.bs 2 0 3), .int .i64 (kspec b.bs 2 0 4), .int .i64 (kspec b.bs 2 0 5), .int .i64 (kspec b.bs 2 0 6), .int .i64 (kspec b.bs 2 0 7), .map (some B)] := (hW.block _ (by omega)).trans kb1
  have hq2 : Blk W (w.heap.size + 1) 3 #[.int .i64 k] := (hW.block _ (by omega)).trans kb2
  have hq3 : Blk W (w.heap.size + 1 + 1) 3 #[.int .i64 0] := (hW.block _ (by omega)).trans kb3
  have hseq := minutes1_in (9 - 1) gm lo hi (fun k' => k' = w.heap.size + 1 + 1 ∨ k' = W.heap.size + 1) W hbm hMom (fun k' hk' => by have := hbm.lt; omega)
  clear kb1 kb2 kb3 hb0
  refine wpIn_rangeFunc_w (gf := 95) (lb := #[.pointer (some ⟨gm, 0, none⟩)]) rfl (enters_of Tryd.func95 (by kernel_rfl) rfl)
    (fun k' => k' = w.heap.size + 1 + 1) (fun k' hk' => by omega) hseq (Below.refl _ _) (fun _ => rfl)
    (fun n1 pre W' => Blk W' w.heap.size 83 #[.int .i64 b.n, .slice (some ⟨bb, o, none⟩) b.bs.length h_cb, .slice h_po b.os.length h_co, .slice h_ps b.ss.length h_cs, .int .i64 (kspec b.bs 2 0 0), .int .i64 (kspec b.bs 2 0 1), .int .i64 (kspec b.bs 2 0 2), .int .i64 (kspec b.bs 2 0 3), .int .i64 (kspec b.bs 2 0 4), .int .i64 (kspec b.bs 2 0 5), .int .i64 (kspec b.bs 2 0 6), .int .i64 (kspec b.bs 2 0 7), .map (some B)] ∧ Blk W' (w.heap.size + 1) 3 #[.int .i64 k] ∧ Blk W' (w.heap.size + 1 + 1) 3 #[.int .i64 (worst b k pre)] ∧ Below w.heap.size w W')
    (fun _ _ _ _ => False)
    (fun n1 pre x a' W' => a' = { tmps := #[.agg #[.int .i64 b.n, .slice (some ⟨bb, o, none⟩) b.bs.length h_cb, .slice h_po b.os.length h_co, .slice h_ps b.ss.length h_cs, .int .i64 (kspec b.bs 2 0 0), .int .i64 (kspec b.bs 2 0 1), .int .i64 (kspec b.bs 2 0 2), .int .i64 (kspec b.bs 2 0 3), .int .i64 (kspec b.bs 2 0 4), .int .i64 (kspec b.bs 2 0 5), .int .i64 (kspec b.bs 2 0 6), .int .i64 (kspec b.bs 2 0 7), .map (some B)], .int .i64 k, .pointer (some ⟨w.heap.size, 0, none⟩), .pointer (some ⟨w.heap.size + 1, 0, none⟩), .int .i64 0, .pointer (some ⟨w.heap.size + 1 + 1, 0, none⟩), .int .i64 x, .pointer (some ⟨w.heap.size, 0, none⟩), .pointer (some ⟨w.heap.size, 1, none⟩), .slice (some ⟨bb, o, none⟩) b.bs.length h_cb, .int .i64 k, .pointer (some ⟨bb, o + k * 2, none⟩), .agg #[.int .i64 lo, .int .i64 hi], .func (.func 95) #[] #[.pointer (some ⟨gm, 0, none⟩)], .int .i64 x, undef, undef, undef, undef, undef, undef, undef, undef, undef], defers := [] })
    ?hI ?hIx ?hAx ?h0 ?hassign ?hbody ?hdone ?hstop
  case hI =>
    rintro n1 pre A B hn hA ⟨c1, c2, c3, c4⟩ hp
    exact ⟨(hp.block _ c1.lt (.inl (by omega))).trans c1, (hp.block _ c2.lt (.inl (by omega))).trans c2, (hp.block _ c3.lt (.inl (by omega))).trans c3, c4.trans (hp.below (by omega) c4.size)⟩
  case hIx => exact fun _ _ _ _ _ _ _ h _ => h
  case hAx => rintro n1 pre x a' A B hn hA rfl hp; rfl
  case h0 =>
    intro n1 W1 hb _ _
    exact ⟨(hb.block _ (by omega)).trans hq1, (hb.block _ (by omega)).trans hq2, (hb.block _ (by omega)).trans hq3, hwW.trans (hb.mono (by omega))⟩
  case hassign =>
    intro l n1 pre x W' hn hz hsp hi'
    exact wpIn_assign ⟨hi', by simp [go_sem, Act.put, Act.eval], Below.refl _ _⟩
  case hbody =>
    rintro l n1 pre x a' W' hl hn hz hsp ⟨c1, c2, c3, c4⟩ rfl
    have hxm : lo ≤ x ∧ x ≤ hi := by
      have h1 : x ∈ mins lo hi := hsp.subset (by simp)
      unfold Mom at hMom
      simp only [mins, mupto, List.mem_map, List.mem_range] at h1
      omega
    obtain ⟨d0, d1, d2, d3, d4, d5, d6, d7, d8, d9, d10, d11, d12⟩ := cvBlk (h := { pb := some ⟨bb, o, none⟩, cb := h_cb, po := h_po, co := h_co, ps := h_ps, cs := h_cs }) c1
    have q2 := c2.cell 0
    have q3 := c3.cell 0
    have f3 := c3.frozen 0
    simp only [List.size_toArray, List.length_cons, List.length_nil, Nat.reduceAdd, Nat.reduceLT, getElem?_pos, List.getElem_toArray, List.getElem_cons_zero, List.getElem_cons_succ] at q2 q3
    dsimp only at d1 d2 d3
    have hl1 : w.heap.size < W'.heap.size := c1.lt
    have hl2 : w.heap.size + 1 < W'.heap.size := c2.lt
    have hl3 : w.heap.size + 1 + 1 < W'.heap.size := c3.lt
    have hl3b : w.heap.size + 1 + 1 ≤ W'.heap.size := by omega
    have hl3c : w.heap.size + 1 + 1 < W'.heap.size + 1 := by omega
    have C1 := Lib.hid c1
    have C2 := Lib.hid c2
    have C3 := Lib.hid c3
    have C4 := Lib.hid c4
    have HXM := Lib.hid hxm
    have hw4 : w.heap.size ≤ W'.heap.size := c4.size
    clear c1 c2 c3 c4 hq1 hq2 hq3 hseq hxm hsp
    gi_wp2_with fail
    gi_region_with (first
      | (gi_at_call 97; refine (CallsIn.inRound _ (callsIn_wide.2 (learned_any { pb := some ⟨bb, o, none⟩, cb := h_cb, po := h_po, co := h_co, ps := h_ps, cs := h_cs } b B k x _ (HK.out.below (C4.out.trans (by (repeat (first | (with_reducible exact Below.refl _ _) | (with_reducible assumption) | ((with_reducible refine below_ext_trans ?_ ?_ _); rotate_left; focus (((try dsimp only); repeat (first | omega | simp only [World.size_alloc, World.size_setCell, World.size_drew] | (with_reducible refine le_ext_of ?_) | (with_reducible refine le_ext_add ?_))); done)) | ((with_reducible refine Below.alloc ?_ ?_ _); rotate_left; focus (((try dsimp only); repeat (first | omega | simp only [World.size_alloc, World.size_setCell, World.size_drew] | (with_reducible refine le_ext_of ?_) | (with_reducible refine le_ext_add ?_))); done)) | ((with_reducible refine Below.setCell ?_ ?_ _); rotate_left; focus (((try dsimp only); repeat (first | omega | simp only [World.size_alloc, World.size_setCell, World.size_drew] | (with_reducible refine le_ext_of ?_) | (with_reducible refine le_ext_add ?_))); done)) | (with_reducible refine Below.drew ?_)))))) (HN.out.below (C4.out.trans (by (repeat (first | (with_reducible exact Below.refl _ _) | (with_reducible assumption) | ((with_reducible refine below_ext_trans ?_ ?_ _); rotate_left; focus (((try dsimp only); repeat (first | omega | simp only [World.size_alloc, World.size_setCell, World.size_drew] | (with_reducible refine le_ext_of ?_) | (with_reducible refine le_ext_add ?_))); done)) | ((with_reducible refine Below.alloc ?_ ?_ _); rotate_left; focus (((try dsimp only); repeat (first | omega | simp only [World.size_alloc, World.size_setCell, World.size_drew] | (with_reducible refine le_ext_of ?_) | (with_reducible refine le_ext_add ?_))); done)) | ((with_reducible refine Below.setCell ?_ ?_ _); rotate_left; focus (((try dsimp only); repeat (first | omega | simp only [World.size_alloc, World.size_setCell, World.size_drew] | (with_reducible refine le_ext_of ?_) | (with_reducible refine le_ext_add ?_))); done)) | (with_reducible refine Below.drew ?_)))))) hkb hcap lo hi HS.out HXM.out.1 HXM.out.2))).mono ?_; rintro e wl ⟨p, c, B', rfl, hok, y, hw⟩; have hB0 : Below W'.heap.size W' wl := (by rw [hw]; (repeat (first | (with_reducible exact Below.refl _ _) | (with_reducible assumption) | ((with_reducible refine below_ext_trans ?_ ?_ _); rotate_left; focus (((try dsimp only); repeat (first | omega | simp only [World.size_alloc, World.size_setCell, World.size_drew] | (with_reducible refine le_ext_of ?_) | (with_reducible refine le_ext_add ?_))); done)) | ((with_reducible refine Below.alloc ?_ ?_ _); rotate_left; focus (((try dsimp only); repeat (first | omega | simp only [World.size_alloc, World.size_setCell, World.size_drew] | (with_reducible refine le_ext_of ?_) | (with_reducible refine le_ext_add ?_))); done)) | ((with_reducible refine Below.setCell ?_ ?_ _); rotate_left; focus (((try dsimp only); repeat (first | omega | simp only [World.size_alloc, World.size_setCell, World.size_drew] | (with_reducible refine le_ext_of ?_) | (with_reducible refine le_ext_add ?_))); done)) | (with_reducible refine Below.drew ?_)))); have l1 := (hB0.cell (p := ⟨w.heap.size + 1 + 1, 0, none⟩) hl3).trans q3; have l3 := Nat.lt_of_lt_of_le hl3 hB0.size; have l4 := Nat.le_of_lt l3; have l5 := hB0.size; clear hw)
      | (gi_at_call 98; refine (CallsIn.inRound _ (callsIn_wide.2 (undecided_any _ _ _ _ hok))).mono ?_; rintro e wu ⟨rfl, z, hw⟩; have hB1 : Below W'.heap.size W' wu := (by rw [hw]; (repeat (first | (with_reducible exact Below.refl _ _) | (with_reducible assumption) | ((with_reducible refine below_ext_trans ?_ ?_ _); rotate_left; focus (((try dsimp only); repeat (first | omega | simp only [World.size_alloc, World.size_setCell, World.size_drew] | (with_reducible refine le_ext_of ?_) | (with_reducible refine le_ext_add ?_))); done)) | ((with_reducible refine Below.alloc ?_ ?_ _); rotate_left; focus (((try dsimp only); repeat (first | omega | simp only [World.size_alloc, World.size_setCell, World.size_drew] | (with_reducible refine le_ext_of ?_) | (with_reducible refine le_ext_add ?_))); done)) | ((with_reducible refine Below.setCell ?_ ?_ _); rotate_left; focus (((try dsimp only); repeat (first | omega | simp only [World.size_alloc, World.size_setCell, World.size_drew] | (with_reducible refine le_ext_of ?_) | (with_reducible refine le_ext_add ?_))); done)) | (with_reducible refine Below.drew ?_)))); have u1 := (hB1.cell (p := ⟨w.heap.size + 1 + 1, 0, none⟩) hl3).trans q3; have u3 := Nat.lt_of_lt_of_le hl3 hB1.size; have u4 := Nat.le_of_lt u3; have u5 := hB1.size; clear hw)
      | (gi_at_call 96; refine (CallsIn.inRound _ (callsIn_wide.2 (greatest_any _ ((undN (setB b k x) (setB b k x).ss.length : Nat) : Int) _ _ _ (by simp [go_sem])))).mono ?_; rintro e wg ⟨rfl, hw⟩; have hB2 : Below W'.heap.size W' wg := (by rw [← hw]; (repeat (first | (with_reducible exact Below.refl _ _) | (with_reducible assumption) | ((with_reducible refine below_ext_trans ?_ ?_ _); rotate_left; focus (((try dsimp only); repeat (first | omega | simp only [World.size_alloc, World.size_setCell, World.size_drew] | (with_reducible refine le_ext_of ?_) | (with_reducible refine le_ext_add ?_))); done)) | ((with_reducible refine Below.alloc ?_ ?_ _); rotate_left; focus (((try dsimp only); repeat (first | omega | simp only [World.size_alloc, World.size_setCell, World.size_drew] | (with_reducible refine le_ext_of ?_) | (with_reducible refine le_ext_add ?_))); done)) | ((with_reducible refine Below.setCell ?_ ?_ _); rotate_left; focus (((try dsimp only); repeat (first | omega | simp only [World.size_alloc, World.size_setCell, World.size_drew] | (with_reducible refine le_ext_of ?_) | (with_reducible refine le_ext_add ?_))); done)) | (with_reducible refine Below.drew ?_)))); have HB2 := Lib.hid hB2; have g1 := (hB2.cell (p := ⟨w.heap.size + 1 + 1, 0, none⟩) hl3).trans q3; have g2 := (hB2.frozen (p := ⟨w.heap.size + 1 + 1, 0, none⟩) hl3).trans f3; have g3 := Nat.lt_of_lt_of_le hl3 hB2.size; clear hw hB2))
    all_goals
      refine (show Spare _ _ _ _ ∧ _ from ⟨?_, ?_, ?_, ?_, ?_⟩)
      · refine Spare.setCell (O := fun k' => k' = w.heap.size + 1 + 1) ?_ (.inl rfl) 0 _
        exact Spare.of_below (HB2.out.mono hz)
      · refine Blk.setOther ?_ (by omega) 0 _
        exact (HB2.out.block _ hl1).trans C1.out
      · refine Blk.setOther ?_ (by omega) 0 _
        exact (HB2.out.block _ hl2).trans C2.out
      · have h1 : Blk wg (w.heap.size + 1 + 1) 3 #[.int .i64 (worst b k pre)] := (HB2.out.block _ hl3).trans C3.out
        rw [worst_snoc]
        exact Blk.set1 h1
      · exact (C4.out.trans (HB2.out.mono hw4)).setCell (by dsimp only; omega) _
  case hdone =>
    rintro D n1 xs W' rfl hn hz rfl ⟨c1, c2, c3, c4⟩ hD
    have q3 := c3.cell 0
    simp only [List.size_toArray, List.length_cons, List.length_nil, Nat.reduceAdd, Nat.reduceLT, getElem?_pos, List.getElem_toArray, List.getElem_cons_zero, List.getElem_cons_succ] at q3
    have C4 := Lib.hid c4
    have hd : Hid (∃ x, W'.putObj W.heap.size (.deferred none) = ext w x) := Lib.hid (ext_of (C4.out.trans ((Priv.putObj (n0 := w.heap.size) (n1 := W.heap.size + 1) W' (by omega) (by omega) _).below (Nat.le_refl _) C4.out.size)))
    clear c1 c2 c3 c4 hq1 hq2 hq3 hseq
    gi_wp2_with fail
    refine ⟨by simp, .inl ⟨_, _, rfl, run_takeDeferred hD, ?_⟩⟩
    exact ⟨_, results_tmp rfl _ _ _, rfl, hd.out⟩
  case hstop =>
    intro D n1 c pre W' _ _ _ _ h _
    exact h.elim
end Go.Proofs.YtdmicngnbcdkdaaDoor

