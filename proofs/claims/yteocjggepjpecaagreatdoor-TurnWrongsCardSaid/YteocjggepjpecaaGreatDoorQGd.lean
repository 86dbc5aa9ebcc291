/- Contracts of the reference's right and fair. -/
import Derived.Test.YteocjggepjpecaaGreatDoorQGc
import Derived.Test.YteocjggepjpecaaGreatDoorQCa
set_option linter.unusedSimpArgs false
set_option linter.unusedVariables false
namespace Go.Proofs.YteocjggepjpecaaGreatDoor
open Go Go.RowKit

theorem rturn_len (p : Option Addr) (c n k : Nat) (v : List Int) (m : Int) (w : World) (hk : cnt v m = k) (hn : v.length = n) (hs : IntsAt w p v) (h4 : (n : Int) ≤ 1000) :
    Calls Tryz.prog 35 #[.slice p n c, .int .i64 m] w fun e w' => e = .returned (.int .i64 k) ∧ ∃ x, w' = ext w x := by
  subst hn hk; exact rturn_any p c v m w hs h4
theorem row_own {b : Bk} (hv : bookB b = true) {st : Nat} (hso : st < b.os.length) {j : Nat} (hj : j ≤ b.bs.length) : (b.os.getD st [])[j]? = some (ownf b.os st j) ∧ (j : Int) < ((b.os.getD st []).length : Int) := by
  obtain ⟨r, hr⟩ := get_some b.os st hso
  have e : b.os.getD st [] = r := by rw [List.getD_eq_getElem?_getD, hr]; rfl
  have hrl := ((bookB_rows hv).2.2.2.2 _ _ hr).1
  obtain ⟨x, hx⟩ := get_some r j (by omega)
  rw [e, ownf_get hr hx]
  exact ⟨hx, by omega⟩
attribute [local go_sem] Oper.semAt_some frozen_alloc_lt
set_option maxRecDepth 100000 in
set_option maxHeartbeats 1000000 in
theorem right_any (h : Hd) (b : Bk) (hv : bookB b = true) (co lo hi : Int) (st : Nat) (q c n : Nat) (v : List Int) (m : Int) (w : World) (hb : BkAt w h b) (hso : st < b.os.length) (hI : IntsAt w (some ⟨q, 0, none⟩) v) (hn : v.length = n) (hvl : n = b.bs.length) :
    Calls Tryz.prog 82 #[.agg #[.int .i64 b.n, .slice h.pb b.bs.length h.cb, .slice h.po b.os.length h.co, .slice h.ps b.ss.length h.cs], .agg #[.int .i64 st, .int .i64 co, .int .i64 lo, .int .i64 hi], .slice (some ⟨q, 0, none⟩) n c, .int .i64 m] w
      fun e w' => e = .returned (.bool (ownf b.os st (cnt v m) == co)) ∧ ∃ x, w' = ext w x := by
  obtain ⟨pb, cb, po, co', ps, cs⟩ := h
  dsimp only
  obtain ⟨bb, o, q1, c1, hpo, hbb, hcell, hrow⟩ := row_at hb.os hso
  dsimp only at hpo
  subst hpo
  have hcl : cnt v m ≤ b.bs.length := by have := cnt_le v m; omega
  obtain ⟨r1, r2⟩ := row_own hv hso hcl
  obtain ⟨b2, o2, rfl, hb2, hc2⟩ := hrow _ _ r1
  have h4 := (bookB_bounds hv).1
  have s0 : (0 : Int) ≤ (st : Int) := by omega
  have s1 : (st : Int) < (b.os.length : Int) := by omega
  have t0 : (0 : Int) ≤ ((cnt v m : Nat) : Int) := by omega
  have HI := Lib.hid hI
  have HN := Lib.hid hn
  have H4 := Lib.hid (show (n : Int) ≤ 1000 by omega)
  generalize (b.os.getD st []).length = R at *
  generalize ownf b.os st (cnt v m) = own at *
  generalize hk : cnt v m = k at *
  have HK := Lib.hid hk
  have HVL := Lib.hid hvl
  clear hI hn hb hrow r1 hk hvl
  go_enter Tryz.func82, Tryz.ntmps82
  go_wp2_with fail
  generalize hW : (w.alloc _).alloc _ = W
  have hB : Below w.heap.size w W := by rw [← hW]; (repeat (first | (with_reducible exact Below.refl _ _) | (with_reducible assumption) | ((with_reducible refine below_ext_trans ?_ ?_ _); rotate_left; focus (((try dsimp only); repeat (first | omega | simp only [World.size_alloc, World.size_setCell, World.size_drew] | (with_reducible refine le_ext_of ?_) | (with_reducible refine le_ext_add ?_))); done)) | ((with_reducible refine Below.alloc ?_ ?_ _); rotate_left; focus (((try dsimp only); repeat (first | omega | simp only [World.size_alloc, World.size_setCell, World.size_drew] | (with_reducible refine le_ext_of ?_) | (with_reducible refine le_ext_add ?_))); done)) | ((with_reducible refine Below.setCell ?_ ?_ _); rotate_left; focus (((try dsimp only); repeat (first | omega | simp only [World.size_alloc, World.size_setCell, World.size_drew] | (with_reducible refine le_ext_of ?_) | (with_reducible refine le_ext_add ?_))); done)) | (with_reducible refine Below.drew ?_)))
  have kb : Blk W w.heap.size 26 #[.int .i64 b.n, .slice pb b.bs.length cb, .slice (some ⟨bb, o, none⟩) b.os.length co', .slice ps b.ss.length cs] := by rw [← hW]; exact (Blk.new rfl).alloc _
  have ks : Blk W (w.heap.size + 1) 73 #[.int .i64 st, .int .i64 co, .int .i64 lo, .int .i64 hi] := by rw [← hW]; exact Blk.new (by simp)
  have d2 := kb.cell 2
  have e0 := ks.cell 0
  have e1 := ks.cell 1
  simp only [List.size_toArray, List.length_cons, List.length_nil, Nat.reduceAdd, Nat.reduceLT, getElem?_pos, List.getElem_toArray, List.getElem_cons_zero, List.getElem_cons_succ] at d2 e0 e1
  have hl1 := kb.lt
  have hl2 := ks.lt
  have hcell := (hB.cell (p := ⟨bb, o + st, none⟩) hbb).trans hcell
  have hc2 := (hB.cell (p := ⟨b2, o2 + k, none⟩) hb2).trans hc2
  have hbb := Nat.lt_of_lt_of_le hbb hB.size
  have hb2 := Nat.lt_of_lt_of_le hb2 hB.size
  have HB := Lib.hid hB
  clear hW hB kb ks
  refine wp_region_ext (by kernel_rfl) (by kernel_rfl) ?_
  repeat (go_big_quiet_step (fail))
  go_big_quiet_step ((go_at_call 35; exact quiet_ext ((rturn_len _ c n k v m _ HK.out HN.out (HI.out.below (HB.out.trans (Below.mono (by (repeat (first | (with_reducible exact Below.refl _ _) | (with_reducible assumption) | ((with_reducible refine below_ext_trans ?_ ?_ _); rotate_left; focus (((try dsimp only); repeat (first | omega | simp only [World.size_alloc, World.size_setCell, World.size_drew] | (with_reducible refine le_ext_of ?_) | (with_reducible refine le_ext_add ?_))); done)) | ((with_reducible refine Below.alloc ?_ ?_ _); rotate_left; focus (((try dsimp only); repeat (first | omega | simp only [World.size_alloc, World.size_setCell, World.size_drew] | (with_reducible refine le_ext_of ?_) | (with_reducible refine le_ext_add ?_))); done)) | ((with_reducible refine Below.setCell ?_ ?_ _); rotate_left; focus (((try dsimp only); repeat (first | omega | simp only [World.size_alloc, World.size_setCell, World.size_drew] | (with_reducible refine le_ext_of ?_) | (with_reducible refine le_ext_add ?_))); done)) | (with_reducible refine Below.drew ?_)))) HB.out.size))) H4.out))))
  repeat (go_big_quiet_step (fail))
  (refine wpQuiet_nil ?_; rintro _ ⟨x, rfl⟩)
  go_wp2_with fail
  go_ret
  exact ⟨rfl, ext_of (HB.out.trans (Below.mono (by (repeat (first | (with_reducible exact Below.refl _ _) | (with_reducible assumption) | ((with_reducible refine below_ext_trans ?_ ?_ _); rotate_left; focus (((try dsimp only); repeat (first | omega | simp only [World.size_alloc, World.size_setCell, World.size_drew] | (with_reducible refine le_ext_of ?_) | (with_reducible refine le_ext_add ?_))); done)) | ((with_reducible refine Below.alloc ?_ ?_ _); rotate_left; focus (((try dsimp only); repeat (first | omega | simp only [World.size_alloc, World.size_setCell, World.size_drew] | (with_reducible refine le_ext_of ?_) | (with_reducible refine le_ext_add ?_))); done)) | ((with_reducible refine Below.setCell ?_ ?_ _); rotate_left; focus (((try dsimp only); repeat (first | omega | simp only [World.size_alloc, World.size_setCell, World.size_drew] | (with_reducible refine le_ext_of ?_) | (with_reducible refine le_ext_add ?_))); done)) | (with_reducible refine Below.drew ?_)))) HB.out.size))⟩
theorem right_eq (h : Hd) (b : Bk) (hv : bookB b = true) (co lo hi : Int) (st : Nat) (q c n : Nat) (v : List Int) (m : Int) (res : Bool) (w : World) (hres : (ownf b.os st (cnt v m) == co) = res) (hb : BkAt w h b) (hso : st < b.os.length) (hI : IntsAt w (some ⟨q, 0, none⟩) v) (hn : v.length = n) (hvl : n = b.bs.length) :
    Calls Tryz.prog 82 #[.agg #[.int .i64 b.n, .slice h.pb b.bs.length h.cb, .slice h.po b.os.length h.co, .slice h.ps b.ss.length h.cs], .agg #[.int .i64 st, .int .i64 co, .int .i64 lo, .int .i64 hi], .slice (some ⟨q, 0, none⟩) n c, .int .i64 m] w
      fun e w' => e = .returned (.bool res) ∧ ∃ x, w' = ext w x := by
  subst hres
  exact right_any h b hv co lo hi st q c n v m w hb hso hI hn hvl
theorem RowsIn.get {w : World} {g : Nat} {L : List (List Int)} (h : RowsIn w (some ⟨g, 0, none⟩) L) {i : Nat} {r : List Int} (hr : L[i]? = some r) : g < w.heap.size ∧ ∃ q c : Nat, w.cell? ⟨g, i, none⟩ = some (.slice (some ⟨q, 0, none⟩) r.length c) ∧ Typed w q ∧ IntsAt w (some ⟨q, 0, none⟩) r := by
  obtain ⟨b, o, e, hb, q, c, h1, h2, h3⟩ := h i r hr
  cases e
  rw [Nat.zero_add] at h1
  exact ⟨hb, q, c, h1, h2, h3⟩
theorem mem_goOn_len {b : Bk} {v : List Int} (h : v ∈ allT b) : v.length = b.bs.length := allT_len h
theorem wrap_num (k : Nat) (h : k ≤ 1000000) : wrap64 ((k : Int) + 1) = ((k + 1 : Nat) : Int) := by unfold wrap64; omega
theorem less_num (N k : Nat) (h : k + 1 ≤ N) : N - (intOf (Value.int .i64 ((k + 1 : Nat) : Int))).toNat < N - (intOf (Value.int .i64 (k : Int))).toNat := by
  simp only [intOf, Int.toNat_natCast]; omega
theorem any_snoc (l : List Bool) (x : Bool) : (l ++ [x]).any id = (l.any id || x) := by simp
theorem all_snoc (l : List Bool) (x : Bool) : (l ++ [x]).all id = (l.all id && x) := by simp
/-- What the reference tells of a shot. -/
def fairR (b : Bk) (st : Nat) (s : Shot) : Int := fairK (fairAll b st s (allT b))
set_option maxRecDepth 100000 in
set_option maxHeartbeats 2000000 in
theorem rfair_any (h : Hd) (b : Bk) (hv : bookB b = true) (st : Nat) (co lo hi : Int) (w : World) (hb : BkAt w h b) (hso : st < b.os.length) (hm : Mom lo hi) :
    Calls Tryz.prog 54 #[.agg #[.int .i64 b.n, .slice h.pb b.bs.length h.cb, .slice h.po b.os.length h.co, .slice h.ps b.ss.length h.cs], .agg #[.int .i64 st, .int .i64 co, .int .i64 lo, .int .i64 hi]] w
      fun e w' => e = .returned (.int .i64 (fairR b st ⟨st, co, lo, hi⟩)) ∧ ∃ x, w' = ext w x := by
  obtain ⟨m0, m1, m2, m3, m4, m5⟩ := hm
  have hlen := goOn_len hv 0 []
  rw [goOn_all] at hlen
  have HLEN := Lib.hid hlen
  have HBK := Lib.hid hb
  clear hb hlen
  go_enter Tryz.func54, Tryz.ntmps54
  go_upto_region 2 with (go_at_call 33; refine (truths_r h b hv b.bs.length 0 [] (w.heap.size + 1 + 1) 0 _ rfl (by omega) (HBK.out.bs.below (by (repeat (first | (with_reducible exact Below.refl _ _) | (with_reducible assumption) | ((with_reducible refine below_ext_trans ?_ ?_ _); rotate_left; focus (((try dsimp only); repeat (first | omega | simp only [World.size_alloc, World.size_setCell, World.size_drew] | (with_reducible refine le_ext_of ?_) | (with_reducible refine le_ext_add ?_))); done)) | ((with_reducible refine Below.alloc ?_ ?_ _); rotate_left; focus (((try dsimp only); repeat (first | omega | simp only [World.size_alloc, World.size_setCell, World.size_drew] | (with_reducible refine le_ext_of ?_) | (with_reducible refine le_ext_add ?_))); done)) | ((with_reducible refine Below.setCell ?_ ?_ _); rotate_left; focus (((try dsimp only); repeat (first | omega | simp only [World.size_alloc, World.size_setCell, World.size_drew] | (with_reducible refine le_ext_of ?_) | (with_reducible refine le_ext_add ?_))); done)) | (with_reducible refine Below.drew ?_))))) (fun i x hx => by simp at hx) ⟨#[], Blk.new (by simp)⟩).mono ?_; rintro e w1 ⟨gL, cL, rfl, hL, y, rfl⟩)
  generalize hW : ext _ y = W at *
  have hB : Below w.heap.size w W := by rw [← hW]; (repeat (first | (with_reducible exact Below.refl _ _) | (with_reducible assumption) | ((with_reducible refine below_ext_trans ?_ ?_ _); rotate_left; focus (((try dsimp only); repeat (first | omega | simp only [World.size_alloc, World.size_setCell, World.size_drew] | (with_reducible refine le_ext_of ?_) | (with_reducible refine le_ext_add ?_))); done)) | ((with_reducible refine Below.alloc ?_ ?_ _); rotate_left; focus (((try dsimp only); repeat (first | omega | simp only [World.size_alloc, World.size_setCell, World.size_drew] | (with_reducible refine le_ext_of ?_) | (with_reducible refine le_ext_add ?_))); done)) | ((with_reducible refine Below.setCell ?_ ?_ _); rotate_left; focus (((try dsimp only); repeat (first | omega | simp only [World.size_alloc, World.size_setCell, World.size_drew] | (with_reducible refine le_ext_of ?_) | (with_reducible refine le_ext_add ?_))); done)) | (with_reducible refine Below.drew ?_)))
  have kb : Blk W w.heap.size 26 #[.int .i64 b.n, .slice h.pb b.bs.length h.cb, .slice h.po b.os.length h.co, .slice h.ps b.ss.length h.cs] := by rw [← hW]; exact (((Blk.new rfl).alloc _).alloc _).ext y
  have ks : Blk W (w.heap.size + 1) 73 #[.int .i64 st, .int .i64 co, .int .i64 lo, .int .i64 hi] := by rw [← hW]; exact ((Blk.new (by simp)).alloc _).ext y
  rw [goOn_all] at hL ⊢
  have HB := Lib.hid hB
  have HKB := Lib.hid kb
  have HKS := Lib.hid ks
  have HL := Lib.hid hL
  have HBW := Lib.hid (HBK.out.below hB)
  clear hW hB kb ks hL
  generalize hN : (allT b).length = N at *
  have HN := Lib.hid hN
  clear hN
  go_upto_region 4 with fail
  go_loopw [6, 7, 8] (fun sm al i wr => ∃ (k : Nat) (x y : Bool), k ≤ N ∧ i = .int .i64 k ∧ sm = .bool x ∧ al = .bool y ∧ Hid (x = (fairAll b st ⟨st, co, lo, hi⟩ ((allT b).take k)).any id ∧ y = (fairAll b st ⟨st, co, lo, hi⟩ ((allT b).take k)).all id) ∧ Hid (Below W.heap.size W wr)) (fun _ _ i _ => N - (intOf i).toNat)
  case atStart => exact ⟨0, false, true, by omega, rfl, rfl, rfl, Lib.hid ⟨rfl, rfl⟩, Lib.hid (Below.refl _ _)⟩
  case round =>
    obtain ⟨k, x, y, hk, rfl, rfl, rfl, HX, HBr⟩ := hrel
    by_cases hlt : k < N
    · obtain ⟨v, hv'⟩ := get_some (allT b) k (by have := HN.out; omega)
      have hvl := allT_len (List.mem_of_getElem? hv')
      have hL := HL.out.below HBr.out
      obtain ⟨hgl, q, c, hq, htq, hIq⟩ := hL.get hv'
      have kb2 := HKB.out.bel HBr.out
      have ks2 := HKS.out.bel HBr.out
      have HT := Lib.hid (show fairAll b st ⟨st, co, lo, hi⟩ ((allT b).take (k + 1)) = fairAll b st ⟨st, co, lo, hi⟩ ((allT b).take k) ++ (mins lo hi).map (fun m => ownf b.os st (cnt v m) == co) by
        unfold fairAll
        rw [List.take_add_one, hv']
        simp [fairRow, okB])
      have HQ := Lib.hid hIq
      have HVL := Lib.hid hvl
      clear hvl
      have HK2 := Lib.hid kb2
      have HS2 := Lib.hid ks2
      have e2 := ks2.cell 2
      have e3 := ks2.cell 3
      simp only [List.size_toArray, List.length_cons, List.length_nil, Nat.reduceAdd, Nat.reduceLT, getElem?_pos, List.getElem_toArray, List.getElem_cons_zero, List.getElem_cons_succ] at e2 e3
      have hl2 : w.heap.size + 1 < wr.heap.size := ks2.lt
      have k0 : (0 : Int) ≤ (k : Int) := by omega
      have k1 : (k : Int) < (N : Int) := by omega
      clear hv' hIq htq hL kb2 ks2 hk hlt
      generalize fairAll b st ⟨st, co, lo, hi⟩ ((allT b).take k) = pre at *
      generalize hvn : v.length = n at *
      have HVN := Lib.hid hvn
      clear hvn
      go_upto_region 7 with fail
      clear e2 e3
      have HQ2 := Lib.hid (show wr.cell? ⟨gL, k, none⟩ = some (.slice (some ⟨q, 0, none⟩) n c) from hq)
      clear hq
      generalize wr = w5 at *
      go_loopw [6, 7, 9] (fun sm al i wt => ∃ (j : Nat) (x y : Bool), (j : Int) ≤ hi - lo + 1 ∧ i = .int .i64 (lo + j) ∧ sm = .bool x ∧ al = .bool y ∧ Hid (x = (pre ++ (mupto lo j).map (fun m => ownf b.os st (cnt v m) == co)).any id ∧ y = (pre ++ (mupto lo j).map (fun m => ownf b.os st (cnt v m) == co)).all id) ∧ Hid (Below w5.heap.size w5 wt)) (fun _ _ i _ => (hi + 1 - intOf i).toNat)
      case atStart => exact ⟨0, x, y, by omega, by simp, rfl, rfl, Lib.hid (by simpa [mupto] using HX.out), Lib.hid (Below.refl _ _)⟩
      case round =>
        obtain ⟨j, x', y', hj, rfl, rfl, rfl, HX', HBt⟩ := hrel
        have d0 := (HK2.out.bel HBt.out).cell 0
        have d1 := (HK2.out.bel HBt.out).cell 1
        have d2 := (HK2.out.bel HBt.out).cell 2
        have d3 := (HK2.out.bel HBt.out).cell 3
        have e0 := (HS2.out.bel HBt.out).cell 0
        have e1 := (HS2.out.bel HBt.out).cell 1
        have e2 := (HS2.out.bel HBt.out).cell 2
        have e3 := (HS2.out.bel HBt.out).cell 3
        simp only [List.size_toArray, List.length_cons, List.length_nil, Nat.reduceAdd, Nat.reduceLT, getElem?_pos, List.getElem_toArray, List.getElem_cons_zero, List.getElem_cons_succ] at d0 d1 d2 d3 e0 e1 e2 e3
        have hl1' : w.heap.size < wr.heap.size := (HK2.out.bel HBt.out).lt
        have hl2' : w.heap.size + 1 < wr.heap.size := (HS2.out.bel HBt.out).lt
        have hgl' : gL < wr.heap.size := Nat.lt_of_lt_of_le hgl HBt.out.size
        have hq' := (HBt.out.cell (p := ⟨gL, k, none⟩) hgl).trans HQ2.out
        by_cases hle : lo + (j : Int) ≤ hi
        · have HXS := Lib.hid (show (pre ++ (mupto lo (j + 1)).map (fun m => ownf b.os st (cnt v m) == co)) = (pre ++ (mupto lo j).map (fun m => ownf b.os st (cnt v m) == co)) ++ [ownf b.os st (cnt v (lo + (j : Int))) == co] by rw [← mupto_snoc]; simp)
          have HBB := Lib.hid (HBW.out.below (HBr.out.trans (HBt.out.mono HBr.out.size)))
          have HQ3 := Lib.hid (HQ.out.below HBt.out)
          generalize hres : (ownf b.os st (cnt v (lo + (j : Int))) == co) = res at *
          have HRES := Lib.hid hres
          have j0 : (0 : Int) ≤ (j : Int) := by omega
          clear hres
          go_upto_region 9 with fail
          refine wp_region_ext (by kernel_rfl) (by kernel_rfl) ?_
          repeat (go_big_quiet_step (fail))
          go_big_quiet_step ((go_at_call 82; exact quiet_ext (right_eq h b hv co lo hi st q c n v (lo + (j : Int)) res _ HRES.out (HBB.out.below (below_ext _ _)) hso (HQ3.out.below (below_ext _ _)) HVN.out HVL.out)))
          repeat (go_big_quiet_step (fail))
          refine wpQuiet_nil ?_
          rintro wz ⟨z, hz⟩
          have hBz : Below wr.heap.size wr wz := by rw [hz]; (repeat (first | (with_reducible exact Below.refl _ _) | (with_reducible assumption) | ((with_reducible refine below_ext_trans ?_ ?_ _); rotate_left; focus (((try dsimp only); repeat (first | omega | simp only [World.size_alloc, World.size_setCell, World.size_drew] | (with_reducible refine le_ext_of ?_) | (with_reducible refine le_ext_add ?_))); done)) | ((with_reducible refine Below.alloc ?_ ?_ _); rotate_left; focus (((try dsimp only); repeat (first | omega | simp only [World.size_alloc, World.size_setCell, World.size_drew] | (with_reducible refine le_ext_of ?_) | (with_reducible refine le_ext_add ?_))); done)) | ((with_reducible refine Below.setCell ?_ ?_ _); rotate_left; focus (((try dsimp only); repeat (first | omega | simp only [World.size_alloc, World.size_setCell, World.size_drew] | (with_reducible refine le_ext_of ?_) | (with_reducible refine le_ext_add ?_))); done)) | (with_reducible refine Below.drew ?_)))
          have HBZ := Lib.hid (HBt.out.trans (hBz.mono HBt.out.size))
          clear hz hBz d0 d1 d2 d3 e0 e1 e2 e3 hq'
          cases x' <;> cases y' <;> (
            go_wp2_with fail
            go_roundw
            case rel => exact ⟨j + 1, _, _, by omega, by go_num, rfl, rfl, Lib.hid (by rw [HXS.out, any_snoc, all_snoc, ← HX'.out.1, ← HX'.out.2]; exact ⟨rfl, rfl⟩), HBZ⟩
            case measure => simp [intOf]; omega)
        · have hjm : (hi - lo + 1).toNat = j := by omega
          have HFIN := Lib.hid (show x' = (fairAll b st ⟨st, co, lo, hi⟩ ((allT b).take (k + 1))).any id ∧ y' = (fairAll b st ⟨st, co, lo, hi⟩ ((allT b).take (k + 1))).all id by
            rw [HT.out]; unfold mins; rw [hjm]; exact HX'.out)
          have HBF := Lib.hid (HBr.out.trans (HBt.out.mono HBr.out.size))
          have hk1 : k + 1 ≤ N := by omega
          clear d0 d1 d2 d3 e0 e1 hq'
          have HWN := Lib.hid (wrap_num k (by have := HLEN.out; omega))
          go_wp2_with fail
          rw [HWN.out]
          exact ⟨⟨k + 1, x', y', hk1, rfl, rfl, rfl, HFIN, HBF⟩, less_num N k hk1⟩
    · obtain rfl : k = N := by omega
      have HF := Lib.hid (show fairR b st ⟨st, co, lo, hi⟩ = if y then 2 else if x then 1 else 0 by
        unfold fairR fairK
        have h1 := HX.out
        rw [List.take_of_length_le (by rw [HN.out]; exact Nat.le_refl _)] at h1
        rw [← h1.1, ← h1.2])
      cases x <;> cases y <;> (
        go_wp2_with fail
        go_ret
        exact ⟨ret_int (by rw [HF.out]; rfl), ext_of (HB.out.trans (HBr.out.mono HB.out.size))⟩)
end Go.Proofs.YteocjggepjpecaaGreatDoor

