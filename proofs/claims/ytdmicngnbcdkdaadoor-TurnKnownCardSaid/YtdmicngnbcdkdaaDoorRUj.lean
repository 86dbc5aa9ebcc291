/- Contract of learn: the bound that it is best to learn. -/
import Derived.Test.YtdmicngnbcdkdaaDoorRUg
import Derived.Test.YtdmicngnbcdkdaaDoorRUa
set_option linter.unusedSimpArgs false
set_option linter.unusedVariables false
namespace Go.Proofs.YtdmicngnbcdkdaaDoor
open Go Go.RowKit Go.Maps Go.Shelf

/-- How many shots are undecided, at the worst, once a bound is known. -/
def wk (b : Bk) (k : Nat) : Int := match b.bs[k]? with | some s => worst b k (mins s.1 s.2) | none => 0
def lk (b : Bk) (k j : Nat) : Int := if j < k then wk b j else 0
def lkL (b : Bk) : List Int := [lk b b.bs.length 0, lk b b.bs.length 1, lk b b.bs.length 2, lk b b.bs.length 3]
def learnN (b : Bk) : Nat := winN (fun i j => decide ((lkL b).getD i 0 < (lkL b).getD j 0)) b.bs.length

theorem lk_set (b : Bk) (k : Nat) (hk : k < 4) : (#[.int .i64 (lk b k 0), .int .i64 (lk b k 1), .int .i64 (lk b k 2), .int .i64 (lk b k 3)] : Array Value).setIfInBounds k (.int .i64 (wk b k)) = #[.int .i64 (lk b (k + 1) 0), .int .i64 (lk b (k + 1) 1), .int .i64 (lk b (k + 1) 2), .int .i64 (lk b (k + 1) 3)] := by
  rcases four_cases hk with rfl | rfl | rfl | rfl <;> simp [lk]

set_option maxRecDepth 100000 in
set_option maxHeartbeats 4000000 in
theorem learn_any (h : Hd) (b : Bk) (B : Nat) (w : World) (hk : CoveOK w h b B) (hn : NB w) (hcap : b.bs.length ≤ h.cb) :
    Calls Tryd.prog 63 #[.agg #[.int .i64 b.n, .slice h.pb b.bs.length h.cb, .slice h.po b.os.length h.co, .slice h.ps b.ss.length h.cs, .int .i64 (kspec b.bs 2 0 0), .int .i64 (kspec b.bs 2 0 1), .int .i64 (kspec b.bs 2 0 2), .int .i64 (kspec b.bs 2 0 3), .int .i64 (kspec b.bs 2 0 4), .int .i64 (kspec b.bs 2 0 5), .int .i64 (kspec b.bs 2 0 6), .int .i64 (kspec b.bs 2 0 7), .map (some B)]] w fun e w' => e = .returned (.int .i64 (learnN b)) ∧ ∃ x, w' = ext w x := by
  have hn4 := (bookB_bounds hk.ok).1
  have HK := Lib.hid hk
  have HN := Lib.hid hn
  have HCAP := Lib.hid hcap
  clear hk hn hcap
  go_enter Tryd.func63, Tryd.ntmps63
  go_upto_region 2 with fail
  generalize hW : (w.alloc _).alloc _ = W
  have hWB : Below w.heap.size w W := by rw [← hW]; (repeat (first | (with_reducible exact Below.refl _ _) | (with_reducible assumption) | ((with_reducible refine below_ext_trans ?_ ?_ _); rotate_left; focus (((try dsimp only); repeat (first | omega | simp only [World.size_alloc, World.size_setCell, World.size_drew] | (with_reducible refine le_ext_of ?_) | (with_reducible refine le_ext_add ?_))); done)) | ((with_reducible refine Below.alloc ?_ ?_ _); rotate_left; focus (((try dsimp only); repeat (first | omega | simp only [World.size_alloc, World.size_setCell, World.size_drew] | (with_reducible refine le_ext_of ?_) | (with_reducible refine le_ext_add ?_))); done)) | ((with_reducible refine Below.setCell ?_ ?_ _); rotate_left; focus (((try dsimp only); repeat (first | omega | simp only [World.size_alloc, World.size_setCell, World.size_drew] | (with_reducible refine le_ext_of ?_) | (with_reducible refine le_ext_add ?_))); done)) | (with_reducible refine Below.drew ?_)))
  have hWs : W.heap.size = w.heap.size + 2 := by rw [← hW]; simp
  have kb1 : Blk W w.heap.size 83 (cvcells h b B) := by rw [← hW]; exact (Blk.new rfl).alloc _
  have kb3 : Blk W (w.heap.size + 1) 61 #[.int .i64 (lk b 0 0), .int .i64 (lk b 0 1), .int .i64 (lk b 0 2), .int .i64 (lk b 0 3)] := by rw [← hW]; exact Blk.new (by simp)
  have d1 := (cvBlk kb1).2.1
  have HW := Lib.hid hWB
  have HWs := Lib.hid hWs
  have KB1 := Lib.hid kb1
  have KB3 := Lib.hid kb3
  have hlt1 : w.heap.size < W.heap.size := by omega
  clear hW hWB kb1 kb3 hWs
  go_wp2_with fail
  clear d1
  go_loopw [4, 9] (fun _ i wr => ∃ k : Nat, k ≤ b.bs.length ∧ i = .int .i64 k ∧ Hid (Blk wr (w.heap.size + 1) 61 #[.int .i64 (lk b k 0), .int .i64 (lk b k 1), .int .i64 (lk b k 2), .int .i64 (lk b k 3)]) ∧ Hid (Below (w.heap.size + 1) W wr)) (fun _ i _ => b.bs.length - (intOf i).toNat)
  case atStart => exact ⟨0, by omega, rfl, KB3, Lib.hid (Below.refl _ _)⟩
  case round =>
    obtain ⟨k, hkl, rfl, HL, HB⟩ := hrel
    have kb1 : Blk wr w.heap.size 83 (cvcells h b B) := (HB.out.block _ (by omega)).trans KB1.out
    have hwr : Below w.heap.size w wr := HW.out.trans (HB.out.mono (by omega))
    have hzr := hwr.size
    have HWR := Lib.hid hwr
    have l3 := HL.out.lt
    by_cases hlt : k < b.bs.length
    · obtain ⟨⟨lo, hi⟩, hs⟩ := get_some b.bs k hlt
      have HS := Lib.hid hs
      have HE := Lib.hid (show wk b k = worst b k (mins lo hi) by unfold wk; rw [hs])
      obtain ⟨d0, d1, d2, d3, d4, d5, d6, d7, d8, d9, d10, d11, d12⟩ := cvBlk kb1
      have c0 := HL.out.cell 0
      have c1 := HL.out.cell 1
      have c2 := HL.out.cell 2
      have c3 := HL.out.cell 3
      have f0 := HL.out.frozen 0
      have f1 := HL.out.frozen 1
      have f2 := HL.out.frozen 2
      have f3 := HL.out.frozen 3
      simp only [List.size_toArray, List.length_cons, List.length_nil, Nat.reduceAdd, Nat.reduceLT, getElem?_pos, List.getElem_toArray, List.getElem_cons_zero, List.getElem_cons_succ] at c0 c1 c2 c3
      have hl1 : w.heap.size < wr.heap.size := kb1.lt
      have HSET : Hid (∀ X : World, Blk X (w.heap.size + 1) 61 #[.int .i64 (lk b k 0), .int .i64 (lk b k 1), .int .i64 (lk b k 2), .int .i64 (lk b k 3)] → Blk (X.setCell ⟨w.heap.size + 1, k, none⟩ (.int .i64 (worst b k (mins lo hi)))) (w.heap.size + 1) 61 #[.int .i64 (lk b (k + 1) 0), .int .i64 (lk b (k + 1) 1), .int .i64 (lk b (k + 1) 2), .int .i64 (lk b (k + 1) 3)]) := Lib.hid (fun X hX => by
        have h1 := hX.set k (.int .i64 (worst b k (mins lo hi)))
        rw [← HE.out, lk_set b k (by omega)] at h1
        rw [← HE.out]
        exact h1)
      clear kb1 hwr hs
      rcases four_cases (show k < 4 by omega) with rfl | rfl | rfl | rfl
      all_goals
        go_wp2_with (go_at_call 80; refine (left_any h b B _ lo hi _ (HK.out.below HWR.out) (HN.out.below HWR.out) HCAP.out HS.out).mono ?_; rintro e w' ⟨rfl, y, rfl⟩)
        go_roundw
        case rel =>
          refine ⟨_, hlt, by go_num, Lib.hid ?_, Lib.hid ?_⟩
          · exact HSET.out _ (HL.out.ext y)
          · exact (HB.out.trans ((below_ext wr y).mono (by omega))).setCell (by dsimp only; omega) _
        case measure => simp [intOf]; omega
    · obtain rfl : k = b.bs.length := by omega
      have d1 := (cvBlk kb1).2.1
      have hl1 : w.heap.size < wr.heap.size := kb1.lt
      have HKB := Lib.hid kb1
      clear kb1 hwr
      have hfn := enters_of Tryd.func81 (by kernel_rfl) rfl
      go_wp2_with fail
      refine (winner_any _ #[.pointer (some ⟨w.heap.size + 1, 0, none⟩)] (fun i j => decide ((lkL b).getD i 0 < (lkL b).getD j 0)) b.bs.length _ (by omega) hfn ?his).mono ?_
      · intro i j hi hj W' hW'
        have hb : Blk W' (w.heap.size + 1) 61 #[.int .i64 (lk b b.bs.length 0), .int .i64 (lk b b.bs.length 1), .int .i64 (lk b b.bs.length 2), .int .i64 (lk b b.bs.length 3)] := (hW'.block _ l3).trans HL.out
        have c0 := hb.cell 0
        have c1 := hb.cell 1
        have c2 := hb.cell 2
        have c3 := hb.cell 3
        simp only [List.size_toArray, List.length_cons, List.length_nil, Nat.reduceAdd, Nat.reduceLT, getElem?_pos, List.getElem_toArray, List.getElem_cons_zero, List.getElem_cons_succ] at c0 c1 c2 c3
        exact learn1_any (w.heap.size + 1) i j _ _ _ _ W' (by omega) (by omega) hb.lt c0 c1 c2 c3
      · rintro e w' ⟨rfl, y, rfl⟩
        go_wp2_with fail
        go_ret
        exact ⟨rfl, ext_of (below_ext_trans HWR.out hzr y)⟩
end Go.Proofs.YtdmicngnbcdkdaaDoor

