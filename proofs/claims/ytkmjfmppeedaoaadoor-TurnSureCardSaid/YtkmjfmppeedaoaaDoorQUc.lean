/- Contracts of unfair and undecided: loops over all shots. -/
import Derived.Test.YtkmjfmppeedaoaaDoorQUb
import Derived.Deep.DeepCutAuto
set_option linter.unusedSimpArgs false
set_option linter.unusedVariables false
namespace Go.Proofs.YtkmjfmppeedaoaaDoor
open Go Go.RowKit Go.Maps

def unfairB (b : Bk) (v : List Int) (i : Nat) : Bool := match b.ss[i]? with | some s => jk b (tl v) (tl v) s == 0 | none => false
def unfairL (b : Bk) (v : List Int) (k : Nat) : List Int := ((List.range k).filter (unfairB b v)).map (fun (i : Nat) => (i : Int))
theorem unfairL_yes {b : Bk} {v : List Int} {k : Nat} (h : unfairB b v k = true) : unfairL b v (k + 1) = unfairL b v k ++ [(k : Int)] := by simp [unfairL, List.range_succ, List.filter_append, h]
theorem unfairL_no {b : Bk} {v : List Int} {k : Nat} (h : unfairB b v k = false) : unfairL b v (k + 1) = unfairL b v k := by simp [unfairL, List.range_succ, List.filter_append, h]
theorem unfairL_le (b : Bk) (v : List Int) (k : Nat) : (unfairL b v k).length ≤ k := by
  unfold unfairL; rw [List.length_map]
  exact Nat.le_trans (List.length_filter_le _ _) (by simp)
theorem bookB_ss {b : Bk} (hv : bookB b = true) : b.ss.length ≤ 5 := by
  simp only [bookB, shotsB, Bool.and_eq_true, decide_eq_true_eq] at hv; exact hv.2.1

abbrev cvcells (h : Hd) (b : Bk) (B : Nat) : Array Value := #[.int .i64 b.n, .slice h.pb b.bs.length h.cb, .slice h.po b.os.length h.co, .slice h.ps b.ss.length h.cs, .int .i64 (kspec b.bs 2 0 0), .int .i64 (kspec b.bs 2 0 1), .int .i64 (kspec b.bs 2 0 2), .int .i64 (kspec b.bs 2 0 3), .int .i64 (kspec b.bs 2 0 4), .int .i64 (kspec b.bs 2 0 5), .int .i64 (kspec b.bs 2 0 6), .int .i64 (kspec b.bs 2 0 7), .map (some B)]
/-- The cells of a cove in a block of its own, each by itself. -/
theorem cvBlk {w : World} {g : Nat} {h : Hd} {b : Bk} {B : Nat} (k : Blk w g 83 (cvcells h b B)) :
    w.cell? ⟨g, 0, none⟩ = some (.int .i64 b.n) ∧ w.cell? ⟨g, 1, none⟩ = some (.slice h.pb b.bs.length h.cb) ∧ w.cell? ⟨g, 2, none⟩ = some (.slice h.po b.os.length h.co) ∧ w.cell? ⟨g, 3, none⟩ = some (.slice h.ps b.ss.length h.cs) ∧
    w.cell? ⟨g, 4, none⟩ = some (.int .i64 (kspec b.bs 2 0 0)) ∧ w.cell? ⟨g, 5, none⟩ = some (.int .i64 (kspec b.bs 2 0 1)) ∧ w.cell? ⟨g, 6, none⟩ = some (.int .i64 (kspec b.bs 2 0 2)) ∧ w.cell? ⟨g, 7, none⟩ = some (.int .i64 (kspec b.bs 2 0 3)) ∧
    w.cell? ⟨g, 8, none⟩ = some (.int .i64 (kspec b.bs 2 0 4)) ∧ w.cell? ⟨g, 9, none⟩ = some (.int .i64 (kspec b.bs 2 0 5)) ∧ w.cell? ⟨g, 10, none⟩ = some (.int .i64 (kspec b.bs 2 0 6)) ∧ w.cell? ⟨g, 11, none⟩ = some (.int .i64 (kspec b.bs 2 0 7)) ∧ w.cell? ⟨g, 12, none⟩ = some (.map (some B)) := by
  refine ⟨?_, ?_, ?_, ?_, ?_, ?_, ?_, ?_, ?_, ?_, ?_, ?_, ?_⟩ <;> (rw [k.cell]; rfl)

/-- A list in new memory is handed back. -/
def ListPost (w : World) (l : List Int) (e : Ending) (w' : World) : Prop := ∃ v, e = .returned v ∧ OwnInts w' w.heap.size v l ∧ ∃ x, w' = ext w x

set_option maxHeartbeats 4000000 in
theorem unfair_any (h : Hd) (b : Bk) (B : Nat) (v : List Int) (v0 v1 v2 v3 : Int) (w : World) (hk : CoveOK w h b B) (hv : v.length = b.bs.length) (ht : tl v = [v0, v1, v2, v3]) :
    Calls Tryd.prog 73 #[.agg #[.int .i64 b.n, .slice h.pb b.bs.length h.cb, .slice h.po b.os.length h.co, .slice h.ps b.ss.length h.cs, .int .i64 (kspec b.bs 2 0 0), .int .i64 (kspec b.bs 2 0 1), .int .i64 (kspec b.bs 2 0 2), .int .i64 (kspec b.bs 2 0 3), .int .i64 (kspec b.bs 2 0 4), .int .i64 (kspec b.bs 2 0 5), .int .i64 (kspec b.bs 2 0 6), .int .i64 (kspec b.bs 2 0 7), .map (some B)], .agg #[.int .i64 v0, .int .i64 v1, .int .i64 v2, .int .i64 v3]] w (ListPost w (unfairL b v b.ss.length)) := by
  have h5 := bookB_ss hk.ok
  go_enter Tryd.func73, Tryd.ntmps73
  go_wp2_with fail
  generalize hW : (w.alloc _).alloc _ = W
  have hWB : Below w.heap.size w W := by rw [← hW]; (repeat (first | (with_reducible exact Below.refl _ _) | (with_reducible assumption) | ((with_reducible refine below_ext_trans ?_ ?_ _); rotate_left; focus (((try dsimp only); repeat (first | omega | simp only [World.size_alloc, World.size_setCell, World.size_drew] | (with_reducible refine le_ext_of ?_) | (with_reducible refine le_ext_add ?_))); done)) | ((with_reducible refine Below.alloc ?_ ?_ _); rotate_left; focus (((try dsimp only); repeat (first | omega | simp only [World.size_alloc, World.size_setCell, World.size_drew] | (with_reducible refine le_ext_of ?_) | (with_reducible refine le_ext_add ?_))); done)) | ((with_reducible refine Below.setCell ?_ ?_ _); rotate_left; focus (((try dsimp only); repeat (first | omega | simp only [World.size_alloc, World.size_setCell, World.size_drew] | (with_reducible refine le_ext_of ?_) | (with_reducible refine le_ext_add ?_))); done)) | (with_reducible refine Below.drew ?_)))
  have hWs : W.heap.size = w.heap.size + 2 := by rw [← hW]; simp
  have kb1 : Blk W w.heap.size 83 (cvcells h b B) := by rw [← hW]; exact (Blk.new rfl).alloc _
  have kb2 : Blk W (w.heap.size + 1) 78 #[.int .i64 v0, .int .i64 v1, .int .i64 v2, .int .i64 v3] := by rw [← hW]; exact Blk.new (by simp)
  have c3 := (cvBlk kb1).2.2.2.1
  have HK := Lib.hid (hk.below hWB)
  have HW := Lib.hid hWB
  have HWs := Lib.hid hWs
  have KB1 := Lib.hid kb1
  have KB2 := Lib.hid kb2
  have HV := Lib.hid hv
  have HT := Lib.hid ht
  have hlt1 : w.heap.size < W.heap.size := by omega
  clear hW hk hWB kb1 kb2 hWs hv ht
  go_wp2_with fail
  clear c3
  go_loopw [5, 6, 11] (fun q _ i wr => ∃ k : Nat, k ≤ b.ss.length ∧ i = .int .i64 k ∧ Hid (OwnInts wr W.heap.size q (unfairL b v k)) ∧ Hid (Below W.heap.size W wr)) (fun _ _ i _ => b.ss.length - (intOf i).toNat)
  case atStart => exact ⟨0, by omega, rfl, Lib.hid (OwnInts.nil _ _), Lib.hid (Below.refl _ _)⟩
  case round =>
    obtain ⟨k, hkl, rfl, HO, HB⟩ := hrel
    by_cases hlt : k < b.ss.length
    · obtain ⟨s, hs⟩ := get_some b.ss k hlt
      have HS := Lib.hid hs
      have kb1 := (HB.out.block _ KB1.out.lt).trans KB1.out
      have kb2 := (HB.out.block _ KB2.out.lt).trans KB2.out
      have kb1 : Blk wr w.heap.size 83 (cvcells h b B) := kb1
      have kb2 : Blk wr (w.heap.size + 1) 78 #[.int .i64 v0, .int .i64 v1, .int .i64 v2, .int .i64 v3] := kb2
      obtain ⟨d0, d1, d2, d3, d4, d5, d6, d7, d8, d9, d10, d11, d12⟩ := cvBlk kb1
      have e0 := kb2.cell 0
      have e1 := kb2.cell 1
      have e2 := kb2.cell 2
      have e3 := kb2.cell 3
      simp only [List.size_toArray, List.length_cons, List.length_nil, Nat.reduceAdd, Nat.reduceLT, getElem?_pos, List.getElem_toArray, List.getElem_cons_zero, List.getElem_cons_succ] at e0 e1 e2 e3
      have hzr : W.heap.size ≤ wr.heap.size := HB.out.size
      have hl1 : w.heap.size < wr.heap.size := kb1.lt
      have hl2 : w.heap.size + 1 < wr.heap.size := kb2.lt
      have HKr := Lib.hid (HK.out.below HB.out)
      clear hs kb1 kb2
      by_cases hj : jk b (tl v) (tl v) s = 0
      · have HU := Lib.hid (unfairL_yes (b := b) (v := v) (k := k) (by unfold unfairB; rw [HS.out]; simp [hj]))
        have hjj : (jk b (tl v) (tl v) s == 0) = true := by simp [hj]
        have HJ := Lib.hid hj
        clear hj
        go_wp2_with (first
          | (go_at_call 55; refine (judge_truth h b B k s v _ _ _ _ _ HKr.out HS.out HV.out HT.out).mono ?_; rintro e w' ⟨rfl, y, rfl⟩)
          | (at_builtin; refine wpList_append_int rfl _ _ rfl W.heap.size _ _ rfl ((HO.out.below (below_ext wr y)).below ((Below.refl _ _).alloc (Nat.le_refl _) _)) (ext wr y).heap.size (k : Int) rfl (by simp [go_sem]) (by have := unfairL_le b v k; omega) (by ((try dsimp only); repeat (first | omega | simp only [World.size_alloc, World.size_setCell, World.size_drew] | (with_reducible refine le_ext_of ?_) | (with_reducible refine le_ext_add ?_)))) ?_; intro v' w1 ho hg))
        have HO' := Lib.hid ho
        have hB2 : Below W.heap.size W w1 := by
          have hB := HB.out
          refine Below.grown (w := (ext wr y).alloc (.cells #[.int .i64 (k : Int)] 3)) (by (repeat (first | (with_reducible exact Below.refl _ _) | (with_reducible assumption) | ((with_reducible refine below_ext_trans ?_ ?_ _); rotate_left; focus (((try dsimp only); repeat (first | omega | simp only [World.size_alloc, World.size_setCell, World.size_drew] | (with_reducible refine le_ext_of ?_) | (with_reducible refine le_ext_add ?_))); done)) | ((with_reducible refine Below.alloc ?_ ?_ _); rotate_left; focus (((try dsimp only); repeat (first | omega | simp only [World.size_alloc, World.size_setCell, World.size_drew] | (with_reducible refine le_ext_of ?_) | (with_reducible refine le_ext_add ?_))); done)) | ((with_reducible refine Below.setCell ?_ ?_ _); rotate_left; focus (((try dsimp only); repeat (first | omega | simp only [World.size_alloc, World.size_setCell, World.size_drew] | (with_reducible refine le_ext_of ?_) | (with_reducible refine le_ext_add ?_))); done)) | (with_reducible refine Below.drew ?_)))) hg (by ((try dsimp only); repeat (first | omega | simp only [World.size_alloc, World.size_setCell, World.size_drew] | (with_reducible refine le_ext_of ?_) | (with_reducible refine le_ext_add ?_)))) ?_
          intro j hj
          exact (HO.out.lt j hj).1
        have HB2 := Lib.hid hB2
        clear ho hg hB2 HJ hjj
        go_wp2_with fail
        go_roundw
        case rel => exact ⟨k + 1, by omega, by go_num, by rw [HU.out]; exact HO', HB2⟩
        case measure => simp [intOf]; omega
      · have HU := Lib.hid (unfairL_no (b := b) (v := v) (k := k) (by unfold unfairB; rw [HS.out]; simp [hj]))
        have hjj : (jk b (tl v) (tl v) s == 0) = false := by simp [hj]
        clear hj
        go_wp2_with (first
          | (go_at_call 55; refine (judge_truth h b B k s v _ _ _ _ _ HKr.out HS.out HV.out HT.out).mono ?_; rintro e w' ⟨rfl, y, rfl⟩))
        go_roundw
        case rel => exact ⟨k + 1, by omega, by go_num, by rw [HU.out]; exact Lib.hid (HO.out.below (below_ext wr y)), Lib.hid (by have hB := HB.out; (repeat (first | (with_reducible exact Below.refl _ _) | (with_reducible assumption) | ((with_reducible refine below_ext_trans ?_ ?_ _); rotate_left; focus (((try dsimp only); repeat (first | omega | simp only [World.size_alloc, World.size_setCell, World.size_drew] | (with_reducible refine le_ext_of ?_) | (with_reducible refine le_ext_add ?_))); done)) | ((with_reducible refine Below.alloc ?_ ?_ _); rotate_left; focus (((try dsimp only); repeat (first | omega | simp only [World.size_alloc, World.size_setCell, World.size_drew] | (with_reducible refine le_ext_of ?_) | (with_reducible refine le_ext_add ?_))); done)) | ((with_reducible refine Below.setCell ?_ ?_ _); rotate_left; focus (((try dsimp only); repeat (first | omega | simp only [World.size_alloc, World.size_setCell, World.size_drew] | (with_reducible refine le_ext_of ?_) | (with_reducible refine le_ext_add ?_))); done)) | (with_reducible refine Below.drew ?_))))⟩
        case measure => simp [intOf]; omega
    · obtain rfl : k = b.ss.length := by omega
      go_wp2_with fail
      go_ret
      exact ⟨_, rfl, HO.out.mono (by have := HWs.out; omega), ext_of (HW.out.trans (HB.out.mono (by have := HWs.out; omega)))⟩

def undB (b : Bk) (i : Nat) : Bool := match b.ss[i]? with | some s => jk b (soonL b.bs) (lateL b.bs) s == 1 | none => false
def undN (b : Bk) (k : Nat) : Nat := ((List.range k).filter (undB b)).length
theorem undN_yes {b : Bk} {k : Nat} (h : undB b k = true) : undN b (k + 1) = undN b k + 1 := by simp [undN, List.range_succ, List.filter_append, h]
theorem undN_no {b : Bk} {k : Nat} (h : undB b k = false) : undN b (k + 1) = undN b k := by simp [undN, List.range_succ, List.filter_append, h]
theorem undN_le (b : Bk) (k : Nat) : undN b k ≤ k := Nat.le_trans (List.length_filter_le _ _) (by simp)

set_option maxHeartbeats 4000000 in
theorem undecided_any (h : Hd) (b : Bk) (B : Nat) (w : World) (hk : CoveOK w h b B) :
    Calls Tryd.prog 98 #[.agg #[.int .i64 b.n, .slice h.pb b.bs.length h.cb, .slice h.po b.os.length h.co, .slice h.ps b.ss.length h.cs, .int .i64 (kspec b.bs 2 0 0), .int .i64 (kspec b.bs 2 0 1), .int .i64 (kspec b.bs 2 0 2), .int .i64 (kspec b.bs 2 0 3), .int .i64 (kspec b.bs 2 0 4), .int .i64 (kspec b.bs 2 0 5), .int .i64 (kspec b.bs 2 0 6), .int .i64 (kspec b.bs 2 0 7), .map (some B)]] w fun e w' => e = .returned (.int .i64 (undN b b.ss.length)) ∧ ∃ x, w' = ext w x := by
  have h5 := bookB_ss hk.ok
  go_enter Tryd.func98, Tryd.ntmps98
  go_wp2_with fail
  generalize hW : w.alloc _ = W
  have hWB : Below w.heap.size w W := by rw [← hW]; (repeat (first | (with_reducible exact Below.refl _ _) | (with_reducible assumption) | ((with_reducible refine below_ext_trans ?_ ?_ _); rotate_left; focus (((try dsimp only); repeat (first | omega | simp only [World.size_alloc, World.size_setCell, World.size_drew] | (with_reducible refine le_ext_of ?_) | (with_reducible refine le_ext_add ?_))); done)) | ((with_reducible refine Below.alloc ?_ ?_ _); rotate_left; focus (((try dsimp only); repeat (first | omega | simp only [World.size_alloc, World.size_setCell, World.size_drew] | (with_reducible refine le_ext_of ?_) | (with_reducible refine le_ext_add ?_))); done)) | ((with_reducible refine Below.setCell ?_ ?_ _); rotate_left; focus (((try dsimp only); repeat (first | omega | simp only [World.size_alloc, World.size_setCell, World.size_drew] | (with_reducible refine le_ext_of ?_) | (with_reducible refine le_ext_add ?_))); done)) | (with_reducible refine Below.drew ?_)))
  have hWs : W.heap.size = w.heap.size + 1 := by rw [← hW]; simp
  have kb1 : Blk W w.heap.size 83 (cvcells h b B) := by rw [← hW]; exact Blk.new rfl
  have c3 := (cvBlk kb1).2.2.2.1
  have HK := Lib.hid (hk.below hWB)
  have HW := Lib.hid hWB
  have HWs := Lib.hid hWs
  have KB1 := Lib.hid kb1
  have hlt1 : w.heap.size < W.heap.size := by omega
  clear hW hk hWB kb1 hWs
  go_wp2_with fail
  clear c3
  go_loopw [3, 4, 9] (fun q _ i wr => ∃ k : Nat, k ≤ b.ss.length ∧ i = .int .i64 k ∧ q = .int .i64 (undN b k) ∧ Hid (Below W.heap.size W wr)) (fun _ _ i _ => b.ss.length - (intOf i).toNat)
  case atStart => exact ⟨0, by omega, rfl, rfl, Lib.hid (Below.refl _ _)⟩
  case round =>
    obtain ⟨k, hkl, rfl, rfl, HB⟩ := hrel
    by_cases hlt : k < b.ss.length
    · obtain ⟨s, hs⟩ := get_some b.ss k hlt
      have HS := Lib.hid hs
      have kb1 : Blk wr w.heap.size 83 (cvcells h b B) := (HB.out.block _ KB1.out.lt).trans KB1.out
      obtain ⟨d0, d1, d2, d3, d4, d5, d6, d7, d8, d9, d10, d11, d12⟩ := cvBlk kb1
      have hl1 : w.heap.size < wr.heap.size := kb1.lt
      have HKr := Lib.hid (HK.out.below HB.out)
      have hun := undN_le b k
      have hzr : W.heap.size ≤ wr.heap.size := HB.out.size
      clear hs kb1
      by_cases hj : jk b (soonL b.bs) (lateL b.bs) s = 1
      · have HU := Lib.hid (undN_yes (b := b) (k := k) (by unfold undB; rw [HS.out]; simp [hj]))
        have hjj : (jk b (soonL b.bs) (lateL b.bs) s == 1) = true := by simp [hj]
        clear hj
        go_wp2_with (first
          | (go_at_call 55; refine (judge_known h b B k s _ HKr.out HS.out).mono ?_; rintro e w' ⟨rfl, y, rfl⟩))
        go_roundw
        case rel => exact ⟨k + 1, by omega, by go_num, by rw [HU.out]; go_num, Lib.hid (by have hB := HB.out; (repeat (first | (with_reducible exact Below.refl _ _) | (with_reducible assumption) | ((with_reducible refine below_ext_trans ?_ ?_ _); rotate_left; focus (((try dsimp only); repeat (first | omega | simp only [World.size_alloc, World.size_setCell, World.size_drew] | (with_reducible refine le_ext_of ?_) | (with_reducible refine le_ext_add ?_))); done)) | ((with_reducible refine Below.alloc ?_ ?_ _); rotate_left; focus (((try dsimp only); repeat (first | omega | simp only [World.size_alloc, World.size_setCell, World.size_drew] | (with_reducible refine le_ext_of ?_) | (with_reducible refine le_ext_add ?_))); done)) | ((with_reducible refine Below.setCell ?_ ?_ _); rotate_left; focus (((try dsimp only); repeat (first | omega | simp only [World.size_alloc, World.size_setCell, World.size_drew] | (with_reducible refine le_ext_of ?_) | (with_reducible refine le_ext_add ?_))); done)) | (with_reducible refine Below.drew ?_))))⟩
        case measure => simp [intOf]; omega
      · have HU := Lib.hid (undN_no (b := b) (k := k) (by unfold undB; rw [HS.out]; simp [hj]))
        have hjj : (jk b (soonL b.bs) (lateL b.bs) s == 1) = false := by simp [hj]
        clear hj
        go_wp2_with (first
          | (go_at_call 55; refine (judge_known h b B k s _ HKr.out HS.out).mono ?_; rintro e w' ⟨rfl, y, rfl⟩))
        go_roundw
        case rel => exact ⟨k + 1, by omega, by go_num, by rw [HU.out], Lib.hid (by have hB := HB.out; (repeat (first | (with_reducible exact Below.refl _ _) | (with_reducible assumption) | ((with_reducible refine below_ext_trans ?_ ?_ _); rotate_left; focus (((try dsimp only); repeat (first | omega | simp only [World.size_alloc, World.size_setCell, World.size_drew] | (with_reducible refine le_ext_of ?_) | (with_reducible refine le_ext_add ?_))); done)) | ((with_reducible refine Below.alloc ?_ ?_ _); rotate_left; focus (((try dsimp only); repeat (first | omega | simp only [World.size_alloc, World.size_setCell, World.size_drew] | (with_reducible refine le_ext_of ?_) | (with_reducible refine le_ext_add ?_))); done)) | ((with_reducible refine Below.setCell ?_ ?_ _); rotate_left; focus (((try dsimp only); repeat (first | omega | simp only [World.size_alloc, World.size_setCell, World.size_drew] | (with_reducible refine le_ext_of ?_) | (with_reducible refine le_ext_add ?_))); done)) | (with_reducible refine Below.drew ?_))))⟩
        case measure => simp [intOf]; omega
    · obtain rfl : k = b.ss.length := by omega
      go_wp2_with fail
      go_ret
      exact ⟨rfl, ext_of (HW.out.trans (HB.out.mono (by have := HWs.out; omega)))⟩
end Go.Proofs.YtkmjfmppeedaoaaDoor

