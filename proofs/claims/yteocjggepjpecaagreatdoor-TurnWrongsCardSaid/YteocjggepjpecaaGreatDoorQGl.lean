/- Contracts of the reference's Turn. -/
/- Contracts of the reference's owners and Owners. -/
/- Contracts of the reference's Owners; what isStation and isCompany tell of any book. -/
import Derived.Test.YteocjggepjpecaaGreatDoorQGg
import Derived.Test.YteocjggepjpecaaGreatDoorQCa
import Derived.Test.YteocjggepjpecaaGreatDoorQUk
import Derived.Test.YteocjggepjpecaaGreatDoorQZe0
set_option linter.unusedSimpArgs false
set_option linter.unusedVariables false
namespace Go.Proofs.YteocjggepjpecaaGreatDoor
open Go Go.RowKit

attribute [local go_sem] Oper.semAt_some frozen_alloc_lt
theorem between_min (m : Int) : decide (0 ≤ m ∧ m ≤ 1439) = isN m 1440 := by
  unfold isN
  congr 1
  exact propext ⟨fun h => by omega, fun h => by omega⟩
theorem Between_min (m : Int) (q : Bool) (w : World) (hq : isN m 1440 = q) : Calls Tryz.prog 32 #[.int .i64 m, .int .i64 0, .int .i64 1439] w fun e w' => e = .returned (.bool q) ∧ w = w' := by
  subst hq; rw [← between_min]; exact Between_any m 0 1439 w
theorem quiet_same {f : FuncId} {args : Array Value} {w : World} {x} {v : Value}
    (h : Calls Tryz.prog f args (ext w x) fun e w' => e = .returned v ∧ ext w x = w') : Calls Tryz.prog f args (ext w x) fun e w'' => e = .returned v ∧ ∃ z, w'' = ext w z :=
  h.mono fun _ _ ⟨he, hy⟩ => ⟨he, x, hy.symm⟩
set_option maxRecDepth 100000 in
set_option maxHeartbeats 1000000 in
theorem rTurn_err (h : Hd) (b : Bk) (m c : Int) (w : World) (hb : BkAt w h b) (hc : askC b (isN m 1440) = c) (h2 : c = 20 ∨ c = 21) :
    Calls Tryz.prog 7 #[.agg #[.int .i64 b.n, .slice h.pb b.bs.length h.cb, .slice h.po b.os.length h.co, .slice h.ps b.ss.length h.cs], .int .i64 m] w fun e w' => e = .returned (.tuple #[.agg #[.int .i64 0, .int .i64 0], .int .i64 c]) ∧ ∃ x, w' = ext w x := by
  have HB := Lib.hid hb
  obtain ⟨q, hq⟩ : ∃ q, isN m 1440 = q := ⟨_, rfl⟩
  rw [hq] at hc
  have HQ := Lib.hid hq
  have HC := Lib.hid hc
  clear hb hq hc
  rcases h2 with rfl | rfl
  all_goals
    go_enter Tryz.func7, Tryz.ntmps7
    go_upto_region 1 with fail
    refine wp_region_ext (by kernel_rfl) (by kernel_rfl) ?_
    repeat (go_big_quiet_step (fail))
    go_big_quiet_step ((go_at_call 32; exact quiet_same (Between_min m q _ HQ.out)))
    repeat (go_big_quiet_step (fail))
    go_big_quiet_step ((go_at_call 31; exact quiet_ext (asked_eq h b q _ _ (HB.out.below (by (repeat (first | (with_reducible exact Below.refl _ _) | (with_reducible assumption) | ((with_reducible refine below_ext_trans ?_ ?_ _); rotate_left; focus (((try dsimp only); repeat (first | omega | simp only [World.size_alloc, World.size_setCell, World.size_drew] | (with_reducible refine le_ext_of ?_) | (with_reducible refine le_ext_add ?_))); done)) | ((with_reducible refine Below.alloc ?_ ?_ _); rotate_left; focus (((try dsimp only); repeat (first | omega | simp only [World.size_alloc, World.size_setCell, World.size_drew] | (with_reducible refine le_ext_of ?_) | (with_reducible refine le_ext_add ?_))); done)) | ((with_reducible refine Below.setCell ?_ ?_ _); rotate_left; focus (((try dsimp only); repeat (first | omega | simp only [World.size_alloc, World.size_setCell, World.size_drew] | (with_reducible refine le_ext_of ?_) | (with_reducible refine le_ext_add ?_))); done)) | (with_reducible refine Below.drew ?_))))) HC.out)))
    repeat (go_big_quiet_step (fail))
    (refine wpQuiet_nil ?_; rintro _ ⟨x, rfl⟩)
    go_wp2_with fail
    refine bodyPost_ret (v := .tuple #[.agg #[.int .i64 0, .int .i64 0], .int .i64 _]) (by simp [results, Tryz.results7, go_sem]) rfl ⟨rfl, ?_⟩
    (exact ext_of (by (repeat (first | (with_reducible exact Below.refl _ _) | (with_reducible assumption) | ((with_reducible refine below_ext_trans ?_ ?_ _); rotate_left; focus (((try dsimp only); repeat (first | omega | simp only [World.size_alloc, World.size_setCell, World.size_drew] | (with_reducible refine le_ext_of ?_) | (with_reducible refine le_ext_add ?_))); done)) | ((with_reducible refine Below.alloc ?_ ?_ _); rotate_left; focus (((try dsimp only); repeat (first | omega | simp only [World.size_alloc, World.size_setCell, World.size_drew] | (with_reducible refine le_ext_of ?_) | (with_reducible refine le_ext_add ?_))); done)) | ((with_reducible refine Below.setCell ?_ ?_ _); rotate_left; focus (((try dsimp only); repeat (first | omega | simp only [World.size_alloc, World.size_setCell, World.size_drew] | (with_reducible refine le_ext_of ?_) | (with_reducible refine le_ext_add ?_))); done)) | (with_reducible refine Below.drew ?_)))))
theorem least_of {b : Bk} (hv : bookB b = true) {at' : Int} {x : Nat} (h1 : ∀ v ∈ allT b, x ≤ cnt v at') (h2 : ∃ v ∈ allT b, cnt v at' = x) : x = cnt (b.bs.map Prod.snd) at' := by
  obtain ⟨v, hv', e⟩ := h2
  have := h1 _ (allT_snd hv)
  have := (allT_ends hv' at').1
  omega
theorem most_of {b : Bk} (hv : bookB b = true) {at' : Int} {x : Nat} (h1 : ∀ v ∈ allT b, cnt v at' ≤ x) (h2 : ∃ v ∈ allT b, cnt v at' = x) : x = cnt (b.bs.map Prod.fst) at' := by
  obtain ⟨v, hv', e⟩ := h2
  have := h1 _ (allT_fst hv)
  have := (allT_ends hv' at').2
  omega
set_option maxRecDepth 100000 in
set_option maxHeartbeats 2000000 in
theorem rTurn_yes (h : Hd) (b : Bk) (m : Int) (w : World) (hb : BkAt w h b) (hv : bookB b = true) (hm : isN m 1440 = true) :
    Calls Tryz.prog 7 #[.agg #[.int .i64 b.n, .slice h.pb b.bs.length h.cb, .slice h.po b.os.length h.co, .slice h.ps b.ss.length h.cs], .int .i64 m] w fun e w' => e = .returned (.tuple #[.agg #[.int .i64 (cnt (b.bs.map Prod.snd) m), .int .i64 (cnt (b.bs.map Prod.fst) m)], .int .i64 0]) ∧ ∃ x, w' = ext w x := by
  have HQ := Lib.hid hm
  have HC := Lib.hid (show askC b true = 0 by unfold askC; rw [hv]; rfl)
  have hlen := goOn_len hv 0 []
  rw [goOn_all] at hlen
  have HLEN := Lib.hid hlen
  have HB := Lib.hid hb
  clear hb hm hlen
  go_enter Tryz.func7, Tryz.ntmps7
  go_upto_region 1 with fail
  refine wp_region_ext (by kernel_rfl) (by kernel_rfl) ?_
  repeat (go_big_quiet_step (fail))
  go_big_quiet_step ((go_at_call 32; exact quiet_same (Between_min m true _ HQ.out)))
  repeat (go_big_quiet_step (fail))
  go_big_quiet_step ((go_at_call 31; exact quiet_ext (asked_eq h b true _ _ (HB.out.below (by (repeat (first | (with_reducible exact Below.refl _ _) | (with_reducible assumption) | ((with_reducible refine below_ext_trans ?_ ?_ _); rotate_left; focus (((try dsimp only); repeat (first | omega | simp only [World.size_alloc, World.size_setCell, World.size_drew] | (with_reducible refine le_ext_of ?_) | (with_reducible refine le_ext_add ?_))); done)) | ((with_reducible refine Below.alloc ?_ ?_ _); rotate_left; focus (((try dsimp only); repeat (first | omega | simp only [World.size_alloc, World.size_setCell, World.size_drew] | (with_reducible refine le_ext_of ?_) | (with_reducible refine le_ext_add ?_))); done)) | ((with_reducible refine Below.setCell ?_ ?_ _); rotate_left; focus (((try dsimp only); repeat (first | omega | simp only [World.size_alloc, World.size_setCell, World.size_drew] | (with_reducible refine le_ext_of ?_) | (with_reducible refine le_ext_add ?_))); done)) | (with_reducible refine Below.drew ?_))))) HC.out)))
  repeat (go_big_quiet_step (fail))
  refine wpQuiet_nil ?_
  rintro W0 ⟨x0, hW0⟩
  have hB0 : Below w.heap.size w W0 := by rw [hW0]; (repeat (first | (with_reducible exact Below.refl _ _) | (with_reducible assumption) | ((with_reducible refine below_ext_trans ?_ ?_ _); rotate_left; focus (((try dsimp only); repeat (first | omega | simp only [World.size_alloc, World.size_setCell, World.size_drew] | (with_reducible refine le_ext_of ?_) | (with_reducible refine le_ext_add ?_))); done)) | ((with_reducible refine Below.alloc ?_ ?_ _); rotate_left; focus (((try dsimp only); repeat (first | omega | simp only [World.size_alloc, World.size_setCell, World.size_drew] | (with_reducible refine le_ext_of ?_) | (with_reducible refine le_ext_add ?_))); done)) | ((with_reducible refine Below.setCell ?_ ?_ _); rotate_left; focus (((try dsimp only); repeat (first | omega | simp only [World.size_alloc, World.size_setCell, World.size_drew] | (with_reducible refine le_ext_of ?_) | (with_reducible refine le_ext_add ?_))); done)) | (with_reducible refine Below.drew ?_)))
  have kb0 : Blk W0 w.heap.size 26 #[.int .i64 b.n, .slice h.pb b.bs.length h.cb, .slice h.po b.os.length h.co, .slice h.ps b.ss.length h.cs] := by rw [hW0]; exact ((Blk.new rfl).alloc _).ext x0
  have kr0 : Blk W0 (w.heap.size + 1) 29 #[.int .i64 0, .int .i64 0] := by rw [hW0]; exact (Blk.new (by simp)).ext x0
  have d0 := kb0.cell 0
  have d1 := kb0.cell 1
  have d2 := kb0.cell 2
  have d3 := kb0.cell 3
  simp only [List.size_toArray, List.length_cons, List.length_nil, Nat.reduceAdd, Nat.reduceLT, getElem?_pos, List.getElem_toArray, List.getElem_cons_zero, List.getElem_cons_succ] at d0 d1 d2 d3
  have hl0 := kb0.lt
  have HB0 := Lib.hid hB0
  have HKR := Lib.hid kr0
  clear hW0 hB0 kb0 kr0
  go_upto_region 5 with (go_at_call 33; refine (truths_r h b hv b.bs.length 0 [] W0.heap.size 0 _ rfl (by omega) (HB.out.bs.below (HB0.out.trans (Below.mono (by (repeat (first | (with_reducible exact Below.refl _ _) | (with_reducible assumption) | ((with_reducible refine below_ext_trans ?_ ?_ _); rotate_left; focus (((try dsimp only); repeat (first | omega | simp only [World.size_alloc, World.size_setCell, World.size_drew] | (with_reducible refine le_ext_of ?_) | (with_reducible refine le_ext_add ?_))); done)) | ((with_reducible refine Below.alloc ?_ ?_ _); rotate_left; focus (((try dsimp only); repeat (first | omega | simp only [World.size_alloc, World.size_setCell, World.size_drew] | (with_reducible refine le_ext_of ?_) | (with_reducible refine le_ext_add ?_))); done)) | ((with_reducible refine Below.setCell ?_ ?_ _); rotate_left; focus (((try dsimp only); repeat (first | omega | simp only [World.size_alloc, World.size_setCell, World.size_drew] | (with_reducible refine le_ext_of ?_) | (with_reducible refine le_ext_add ?_))); done)) | (with_reducible refine Below.drew ?_)))) HB0.out.size))) (fun i x hx => by simp at hx) ⟨#[], Blk.new rfl⟩).mono ?_; rintro e w1 ⟨gL, cL, rfl, hL, y, rfl⟩)
  clear d0 d1 d2 d3
  rw [goOn_all] at hL ⊢
  generalize hW : ext _ y = W at *
  have hB : Below W0.heap.size W0 W := by rw [← hW]; (repeat (first | (with_reducible exact Below.refl _ _) | (with_reducible assumption) | ((with_reducible refine below_ext_trans ?_ ?_ _); rotate_left; focus (((try dsimp only); repeat (first | omega | simp only [World.size_alloc, World.size_setCell, World.size_drew] | (with_reducible refine le_ext_of ?_) | (with_reducible refine le_ext_add ?_))); done)) | ((with_reducible refine Below.alloc ?_ ?_ _); rotate_left; focus (((try dsimp only); repeat (first | omega | simp only [World.size_alloc, World.size_setCell, World.size_drew] | (with_reducible refine le_ext_of ?_) | (with_reducible refine le_ext_add ?_))); done)) | ((with_reducible refine Below.setCell ?_ ?_ _); rotate_left; focus (((try dsimp only); repeat (first | omega | simp only [World.size_alloc, World.size_setCell, World.size_drew] | (with_reducible refine le_ext_of ?_) | (with_reducible refine le_ext_add ?_))); done)) | (with_reducible refine Below.drew ?_)))
  have HB1 := Lib.hid (HB0.out.trans (hB.mono HB0.out.size))
  have HKR1 := Lib.hid (HKR.out.bel hB)
  have HL := Lib.hid hL
  clear hW hB hL
  generalize hN : (allT b).length = N at *
  have hN0 : 0 < N := by rw [← hN]; exact List.length_pos_of_mem (allT_fst hv)
  have HN := Lib.hid hN
  clear hN
  obtain ⟨v0, hv0⟩ := get_some (allT b) 0 (by rw [HN.out]; exact hN0)
  obtain ⟨hgl, q0, c0, hq0, htq0, hIq0⟩ := HL.out.get hv0
  have hvl0 := allT_len (List.mem_of_getElem? hv0)
  have h4 := (bookB_bounds hv).1
  obtain ⟨k0, hk0⟩ : ∃ k, cnt v0 m = k := ⟨_, rfl⟩
  generalize hn0 : v0.length = n0 at *
  have HN0 := Lib.hid hn0
  have HK0 := Lib.hid hk0
  have HI0 := Lib.hid hIq0
  have H41 := Lib.hid (show (n0 : Int) ≤ 1000 by omega)
  have i1 : (0 : Int) < (N : Int) := by omega
  have HM0 := Lib.hid (List.mem_of_getElem? hv0)
  clear hn0 hIq0 hk0 hvl0 hv0 hN0
  go_upto_region 6 with (first
    | (go_at_call 35; refine (rturn_len (some ⟨q0, 0, none⟩) c0 n0 k0 v0 m _ HK0.out HN0.out (HI0.out.below (by (repeat (first | (with_reducible exact Below.refl _ _) | (with_reducible assumption) | ((with_reducible refine below_ext_trans ?_ ?_ _); rotate_left; focus (((try dsimp only); repeat (first | omega | simp only [World.size_alloc, World.size_setCell, World.size_drew] | (with_reducible refine le_ext_of ?_) | (with_reducible refine le_ext_add ?_))); done)) | ((with_reducible refine Below.alloc ?_ ?_ _); rotate_left; focus (((try dsimp only); repeat (first | omega | simp only [World.size_alloc, World.size_setCell, World.size_drew] | (with_reducible refine le_ext_of ?_) | (with_reducible refine le_ext_add ?_))); done)) | ((with_reducible refine Below.setCell ?_ ?_ _); rotate_left; focus (((try dsimp only); repeat (first | omega | simp only [World.size_alloc, World.size_setCell, World.size_drew] | (with_reducible refine le_ext_of ?_) | (with_reducible refine le_ext_add ?_))); done)) | (with_reducible refine Below.drew ?_))))) H41.out).mono ?_; rintro e w1 ⟨rfl, y1, rfl⟩)
    | (go_at_call 34; refine (Just_any _ _).mono ?_; rintro e w1 ⟨rfl, y2, rfl⟩))
  generalize hX0 : ext W (y1.comp y2) = X0
  have hBX0 : Below W.heap.size W X0 := by rw [← hX0]; (repeat (first | (with_reducible exact Below.refl _ _) | (with_reducible assumption) | ((with_reducible refine below_ext_trans ?_ ?_ _); rotate_left; focus (((try dsimp only); repeat (first | omega | simp only [World.size_alloc, World.size_setCell, World.size_drew] | (with_reducible refine le_ext_of ?_) | (with_reducible refine le_ext_add ?_))); done)) | ((with_reducible refine Below.alloc ?_ ?_ _); rotate_left; focus (((try dsimp only); repeat (first | omega | simp only [World.size_alloc, World.size_setCell, World.size_drew] | (with_reducible refine le_ext_of ?_) | (with_reducible refine le_ext_add ?_))); done)) | ((with_reducible refine Below.setCell ?_ ?_ _); rotate_left; focus (((try dsimp only); repeat (first | omega | simp only [World.size_alloc, World.size_setCell, World.size_drew] | (with_reducible refine le_ext_of ?_) | (with_reducible refine le_ext_add ?_))); done)) | (with_reducible refine Below.drew ?_)))
  generalize hgo : X0.heap.size = go
  have hgoW : W.heap.size ≤ go := by rw [← hgo]; exact hBX0.size
  generalize hX : X0.alloc _ = X
  have hBX : Below W.heap.size W X := by rw [← hX]; exact hBX0.alloc hBX0.size _
  have kX : Blk X go 29 #[.int .i64 k0, .int .i64 k0] := by rw [← hX]; exact Blk.new hgo.symm
  have HBX := Lib.hid hBX
  have HKX := Lib.hid kX
  clear hX hX0 hgo hBX0 hBX kX
  go_upto_region 7 with fail
  go_loopw [9] (fun i wr => ∃ k x y : Nat, k ≤ N ∧ i = .int .i64 k ∧ Hid (Blk wr go 29 #[.int .i64 x, .int .i64 y]) ∧ Hid (∀ (j : Nat) (v : List Int), j < k → (allT b)[j]? = some v → x ≤ cnt v m ∧ cnt v m ≤ y) ∧ Hid ((∃ v ∈ allT b, cnt v m = x) ∧ ∃ v ∈ allT b, cnt v m = y) ∧ Hid (Below W.heap.size W wr)) (fun i _ => N - (intOf i).toNat)
  case atStart => exact ⟨0, k0, k0, by omega, rfl, HKX, Lib.hid (fun j v hj => by omega), Lib.hid ⟨⟨v0, HM0.out, HK0.out⟩, ⟨v0, HM0.out, HK0.out⟩⟩, HBX⟩
  case round =>
    obtain ⟨k, x, y, hk, rfl, HG, HA, HE, HBr⟩ := hrel
    have e0 := HG.out.cell 0
    have e1 := HG.out.cell 1
    have f0 := HG.out.frozen 0
    have f1 := HG.out.frozen 1
    simp only [List.size_toArray, List.length_cons, List.length_nil, Nat.reduceAdd, Nat.reduceLT, getElem?_pos, List.getElem_toArray, List.getElem_cons_zero, List.getElem_cons_succ] at e0 e1
    have hgl2 := HG.out.lt
    by_cases hlt : k < N
    · obtain ⟨v, hv'⟩ := get_some (allT b) k (by have := HN.out; omega)
      obtain ⟨hgl', q, c, hq, htq, hIq⟩ := (HL.out.below HBr.out).get hv'
      have hvl := allT_len (List.mem_of_getElem? hv')
      have HM := Lib.hid (List.mem_of_getElem? hv')
      have HV := Lib.hid hv'
      obtain ⟨kv, hkv⟩ : ∃ k, cnt v m = k := ⟨_, rfl⟩
      generalize hn : v.length = n at *
      have HNv := Lib.hid hn
      have HKv := Lib.hid hkv
      have HIq := Lib.hid hIq
      have H42 := Lib.hid (show (n : Int) ≤ 1000 by omega)
      have k2 : (0 : Int) ≤ (k : Int) := by omega
      have k3 : (k : Int) < (N : Int) := by omega
      have HK1 := Lib.hid (show k + 1 ≤ N from hlt)
      clear hn hIq hkv hvl hv' htq hlt hk
      go_wp2_with (first
        | (go_at_call 35; refine (rturn_len (some ⟨q, 0, none⟩) c n kv v m _ HKv.out HNv.out (HIq.out.below (by (repeat (first | (with_reducible exact Below.refl _ _) | (with_reducible assumption) | ((with_reducible refine below_ext_trans ?_ ?_ _); rotate_left; focus (((try dsimp only); repeat (first | omega | simp only [World.size_alloc, World.size_setCell, World.size_drew] | (with_reducible refine le_ext_of ?_) | (with_reducible refine le_ext_add ?_))); done)) | ((with_reducible refine Below.alloc ?_ ?_ _); rotate_left; focus (((try dsimp only); repeat (first | omega | simp only [World.size_alloc, World.size_setCell, World.size_drew] | (with_reducible refine le_ext_of ?_) | (with_reducible refine le_ext_add ?_))); done)) | ((with_reducible refine Below.setCell ?_ ?_ _); rotate_left; focus (((try dsimp only); repeat (first | omega | simp only [World.size_alloc, World.size_setCell, World.size_drew] | (with_reducible refine le_ext_of ?_) | (with_reducible refine le_ext_add ?_))); done)) | (with_reducible refine Below.drew ?_))))) H42.out).mono ?_; rintro e w1 ⟨rfl, y1, rfl⟩)
        | (go_at_call 36; refine (To_any _ _ _).mono ?_; rintro e w1 ⟨rfl, y2, rfl⟩))
      have e5 : min (x : Int) (kv : Int) = ((min x kv : Nat) : Int) := by omega
      have e6 : max (y : Int) (kv : Int) = ((max y kv : Nat) : Int) := by omega
      have hb9 : Below W.heap.size W (ext wr (y1.comp y2)) := HBr.out.trans (Below.mono (by (repeat (first | (with_reducible exact Below.refl _ _) | (with_reducible assumption) | ((with_reducible refine below_ext_trans ?_ ?_ _); rotate_left; focus (((try dsimp only); repeat (first | omega | simp only [World.size_alloc, World.size_setCell, World.size_drew] | (with_reducible refine le_ext_of ?_) | (with_reducible refine le_ext_add ?_))); done)) | ((with_reducible refine Below.alloc ?_ ?_ _); rotate_left; focus (((try dsimp only); repeat (first | omega | simp only [World.size_alloc, World.size_setCell, World.size_drew] | (with_reducible refine le_ext_of ?_) | (with_reducible refine le_ext_add ?_))); done)) | ((with_reducible refine Below.setCell ?_ ?_ _); rotate_left; focus (((try dsimp only); repeat (first | omega | simp only [World.size_alloc, World.size_setCell, World.size_drew] | (with_reducible refine le_ext_of ?_) | (with_reducible refine le_ext_add ?_))); done)) | (with_reducible refine Below.drew ?_)))) HBr.out.size)
      rw [wrap_num k (by have := HLEN.out; have := HK1.out; omega), e5, e6]
      refine ⟨⟨k + 1, min x kv, max y kv, HK1.out, rfl, Lib.hid ?_, Lib.hid (fun j u hj hu => ?_), Lib.hid ⟨?_, ?_⟩, Lib.hid ((hb9.setCell (by simpa using hgoW) _).setCell (by simpa using hgoW) _)⟩, less_num N k HK1.out⟩
      · simpa using ((HG.out.ext (y1.comp y2)).set 0 _).set 1 _
      · by_cases hjk : j = k
        · subst hjk
          rw [HV.out] at hu
          cases hu
          rw [HKv.out]
          omega
        · have := HA.out j u (by omega) hu
          omega
      · by_cases hle : x ≤ kv
        · rw [Nat.min_eq_left hle]; exact HE.out.1
        · rw [Nat.min_eq_right (by omega)]; exact ⟨v, HM.out, HKv.out⟩
      · by_cases hle : kv ≤ y
        · rw [Nat.max_eq_left hle]; exact HE.out.2
        · rw [Nat.max_eq_right (by omega)]; exact ⟨v, HM.out, HKv.out⟩
    · obtain rfl : k = N := by omega
      have hall : ∀ v ∈ allT b, x ≤ cnt v m ∧ cnt v m ≤ y := fun v hv' => by
        obtain ⟨j, hj, e⟩ := List.getElem_of_mem hv'
        exact HA.out j v (by have := HN.out; omega) (by rw [List.getElem?_eq_getElem hj, e])
      have hx := least_of hv (fun v hv' => (hall v hv').1) HE.out.1
      have hy := most_of hv (fun v hv' => (hall v hv').2) HE.out.2
      have HX := Lib.hid hx
      have HY := Lib.hid hy
      have hr := (HKR1.out.bel HBr.out)
      have r0 := hr.cell 0
      have r1 := hr.cell 1
      have rf0 := hr.frozen 0
      have rf1 := hr.frozen 1
      simp only [List.size_toArray, List.length_cons, List.length_nil, Nat.reduceAdd, Nat.reduceLT, getElem?_pos, List.getElem_toArray, List.getElem_cons_zero, List.getElem_cons_succ] at r0 r1
      have hrl := hr.lt
      have HEND := Lib.hid (HB1.out.trans (HBr.out.mono HB1.out.size))
      clear hr hx hy hall f0 f1
      go_wp2_with fail
      refine bodyPost_ret (v := .tuple #[.agg #[.int .i64 x, .int .i64 y], .int .i64 0]) (by simp [results, Tryz.results7, go_sem, r0, r1, hrl]) rfl ⟨by rw [HX.out, HY.out], ext_of ?_⟩
      exact (HEND.out.setCell (by simp) _).setCell (by simp) _
end Go.Proofs.YteocjggepjpecaaGreatDoor

namespace Go.Proofs.YteocjggepjpecaaGreatDoor
open Go Go.RowKit

/-- The companies of the turns of some truths. -/
def cosL (b : Bk) (st : Nat) (m : Int) (l : List (List Int)) : List Int := l.map fun v => ownf b.os st (cnt v m)
theorem cos_bd {b : Bk} (hv : bookB b = true) {st : Nat} (hst : st < b.os.length) (m : Int) {v : List Int} (h : v ∈ allT b) : 0 ≤ ownf b.os st (cnt v m) ∧ ownf b.os st (cnt v m) < b.n := by
  have h1 := allT_len h
  have h2 := cnt_le v m
  exact ownf_co hv hst (by omega)
theorem sorted_same {l m : List Int} (hl : l.Pairwise (· < ·)) (hm : m.Pairwise (· < ·)) (h : ∀ x, x ∈ l ↔ x ∈ m) : l = m := by
  have h1 := sub_sorted hl hm (fun x hx => (h x).1 hx)
  have h2 := sub_sorted hm hl (fun x hx => (h x).2 hx)
  exact h1.eq_of_length (Nat.le_antisymm h1.length_le h2.length_le)
theorem owners_same {b : Bk} (hv : bookB b = true) {st : Nat} (hst : st < b.os.length) {m : Int} {n : Nat} (hn : b.n = (n : Int)) : bitsL (setN (cosL b st m (allT b))) n = ownersL b st (cnt (b.bs.map Prod.snd) m) (cnt (b.bs.map Prod.fst) m) := by
  refine sorted_same (bitsL_rises _ _) (owners_facts _).2 (fun x => ?_)
  rw [mem_bitsL, mem_ownersL]
  constructor
  · rintro ⟨k, hk, ht, rfl⟩
    unfold setN at ht
    rw [setB_bit] at ht
    simp only [Nat.zero_testBit, Bool.false_or] at ht
    obtain ⟨y, hy, hyk⟩ := List.any_eq_true.1 ht
    unfold cosL at hy
    obtain ⟨v, hv', rfl⟩ := List.mem_map.1 hy
    have hb := turn_between hv' (Int.le_refl m) (Int.le_refl m)
    have h0 := (cos_bd hv hst m hv').1
    have := eq_of_beq hyk
    exact ⟨_, hb.1, hb.2, by omega⟩
  · rintro ⟨t, h1, h2, rfl⟩
    obtain ⟨v, hv', m', g1, g2, e⟩ := turn_found hv (Int.le_refl m) h1 h2
    obtain rfl : m' = m := by omega
    have hc := cos_bd hv hst m' hv'
    rw [e] at hc
    refine ⟨(ownf b.os st t).toNat, by omega, ?_, by omega⟩
    unfold setN
    rw [setB_bit]
    simp only [Nat.zero_testBit, Bool.false_or]
    refine List.any_eq_true.2 ⟨ownf b.os st t, ?_, by simp⟩
    unfold cosL
    exact List.mem_map.2 ⟨v, hv', by rw [e]⟩
attribute [local go_sem] Oper.semAt_some frozen_alloc_lt
set_option maxRecDepth 100000 in
set_option maxHeartbeats 2000000 in
theorem rowners_any (h : Hd) (b : Bk) (hv : bookB b = true) (st : Nat) (m : Int) (w : World) (hb : BkAt w h b) (hso : st < b.os.length) :
    Calls Tryz.prog 44 #[.agg #[.int .i64 b.n, .slice h.pb b.bs.length h.cb, .slice h.po b.os.length h.co, .slice h.ps b.ss.length h.cs], .int .i64 st, .int .i64 m] w
      fun e w' => e = .returned (.int .i64 (setN (cosL b st m (allT b)))) ∧ ∃ x, w' = ext w x := by
  have hlen := goOn_len hv 0 []
  rw [goOn_all] at hlen
  have h4 := (bookB_bounds hv).1
  obtain ⟨hn3, -, -, hn4, -⟩ := bookB_rows hv
  have HN4 := Lib.hid hn4
  obtain ⟨pb, cb, po, co', ps, cs⟩ := h
  dsimp only
  obtain ⟨bb, o, q1, c1, hpo, hbb, hcell, hrow⟩ := row_at hb.os hso
  dsimp only at hpo
  subst hpo
  have HROW := Lib.hid hrow
  have HOWN := Lib.hid (show ∀ j : Nat, j ≤ b.bs.length → (b.os.getD st [])[j]? = some (ownf b.os st j) ∧ (j : Int) < ((b.os.getD st []).length : Int) from fun j hj => row_own hv hso hj)
  have HLEN := Lib.hid hlen
  have HBK := Lib.hid hb
  have s0 : (0 : Int) ≤ (st : Int) := by omega
  have s1 : (st : Int) < (b.os.length : Int) := by omega
  clear hb hlen hrow
  generalize b.os.getD st [] = R at *
  go_enter Tryz.func44, Tryz.ntmps44
  go_upto_region 2 with (go_at_call 33; refine (truths_r ⟨pb, cb, some ⟨bb, o, none⟩, co', ps, cs⟩ b hv b.bs.length 0 [] (w.heap.size + 1) 0 _ rfl (by omega) (HBK.out.bs.below (by (repeat (first | (with_reducible exact Below.refl _ _) | (with_reducible assumption) | ((with_reducible refine below_ext_trans ?_ ?_ _); rotate_left; focus (((try dsimp only); repeat (first | omega | simp only [World.size_alloc, World.size_setCell, World.size_drew] | (with_reducible refine le_ext_of ?_) | (with_reducible refine le_ext_add ?_))); done)) | ((with_reducible refine Below.alloc ?_ ?_ _); rotate_left; focus (((try dsimp only); repeat (first | omega | simp only [World.size_alloc, World.size_setCell, World.size_drew] | (with_reducible refine le_ext_of ?_) | (with_reducible refine le_ext_add ?_))); done)) | ((with_reducible refine Below.setCell ?_ ?_ _); rotate_left; focus (((try dsimp only); repeat (first | omega | simp only [World.size_alloc, World.size_setCell, World.size_drew] | (with_reducible refine le_ext_of ?_) | (with_reducible refine le_ext_add ?_))); done)) | (with_reducible refine Below.drew ?_))))) (fun i x hx => by simp at hx) ⟨#[], Blk.new (by simp)⟩).mono ?_; rintro e w1 ⟨gL, cL, rfl, hL, y, rfl⟩)
  generalize hW : ext _ y = W at *
  have hB : Below w.heap.size w W := by rw [← hW]; (repeat (first | (with_reducible exact Below.refl _ _) | (with_reducible assumption) | ((with_reducible refine below_ext_trans ?_ ?_ _); rotate_left; focus (((try dsimp only); repeat (first | omega | simp only [World.size_alloc, World.size_setCell, World.size_drew] | (with_reducible refine le_ext_of ?_) | (with_reducible refine le_ext_add ?_))); done)) | ((with_reducible refine Below.alloc ?_ ?_ _); rotate_left; focus (((try dsimp only); repeat (first | omega | simp only [World.size_alloc, World.size_setCell, World.size_drew] | (with_reducible refine le_ext_of ?_) | (with_reducible refine le_ext_add ?_))); done)) | ((with_reducible refine Below.setCell ?_ ?_ _); rotate_left; focus (((try dsimp only); repeat (first | omega | simp only [World.size_alloc, World.size_setCell, World.size_drew] | (with_reducible refine le_ext_of ?_) | (with_reducible refine le_ext_add ?_))); done)) | (with_reducible refine Below.drew ?_)))
  have kb : Blk W w.heap.size 26 #[.int .i64 b.n, .slice pb b.bs.length cb, .slice (some ⟨bb, o, none⟩) b.os.length co', .slice ps b.ss.length cs] := by rw [← hW]; exact ((Blk.new rfl).alloc _).ext y
  rw [goOn_all] at hL ⊢
  have HB := Lib.hid hB
  have HKB := Lib.hid kb
  have HL := Lib.hid hL
  have HCELL := Lib.hid ((hB.cell (p := ⟨bb, o + st, none⟩) hbb).trans hcell)
  have HBB := Lib.hid (Nat.lt_of_lt_of_le hbb hB.size)
  have HROW2 := Lib.hid (HROW.out.below hB)
  clear hW hB kb hL hcell hbb
  generalize hN : (allT b).length = N at *
  have HN := Lib.hid hN
  clear hN
  go_upto_region 4 with fail
  go_loopw [8, 9] (fun q i wr => ∃ k z : Nat, k ≤ N ∧ z < 16 ∧ i = .int .i64 k ∧ q = .int .i64 z ∧ Hid (z = setN (cosL b st m ((allT b).take k))) ∧ Hid (Below W.heap.size W wr)) (fun _ i _ => N - (intOf i).toNat)
  case atStart => exact ⟨0, 0, by omega, by omega, rfl, rfl, Lib.hid rfl, Lib.hid (Below.refl _ _)⟩
  case round =>
    obtain ⟨k, z, hk, hz, rfl, rfl, HX, HBr⟩ := hrel
    by_cases hlt : k < N
    · obtain ⟨v, hv'⟩ := get_some (allT b) k (by have := HN.out; omega)
      have hvl := allT_len (List.mem_of_getElem? hv')
      obtain ⟨hgl, q, c, hq, htq, hIq⟩ := (HL.out.below HBr.out).get hv'
      have hcb := cos_bd hv hso m (List.mem_of_getElem? hv')
      have hcl : cnt v m ≤ b.bs.length := by have := cnt_le v m; omega
      obtain ⟨r1, r2⟩ := HOWN.out _ hcl
      obtain ⟨b2, o2, eq1, hb2, hc2⟩ := (HROW2.out.below HBr.out) _ _ r1
      subst eq1
      have hcell := (HBr.out.cell (p := ⟨bb, o + st, none⟩) HBB.out).trans HCELL.out
      have hbb := Nat.lt_of_lt_of_le HBB.out HBr.out.size
      have HT := Lib.hid (show setN (cosL b st m ((allT b).take (k + 1))) = orB (setN (cosL b st m ((allT b).take k))) (ownf b.os st (cnt v m)) by
        rw [← setN_snoc]
        unfold cosL
        rw [List.take_add_one, hv']
        simp)
      obtain ⟨e1, e2⟩ := bits_or' z (ownf b.os st (cnt v m)) hz hcb.1 (by have := HN4.out; omega)
      generalize ownf b.os st (cnt v m) = own at *
      generalize hkv : cnt v m = kv at *
      generalize hvn : v.length = n at *
      generalize R.length = RL at *
      have HKV := Lib.hid hkv
      have HVN := Lib.hid hvn
      have HIq := Lib.hid hIq
      have H41 := Lib.hid (show (n : Int) ≤ 1000 by omega)
      have hk2 := HKB.out.bel HBr.out
      have d2 := hk2.cell 2
      simp only [List.size_toArray, List.length_cons, List.length_nil, Nat.reduceAdd, Nat.reduceLT, getElem?_pos, List.getElem_toArray, List.getElem_cons_zero, List.getElem_cons_succ] at d2
      have hl1 := hk2.lt
      have k0 : (0 : Int) ≤ (k : Int) := by omega
      have k1 : (k : Int) < (N : Int) := by omega
      have kv0 : (0 : Int) ≤ (kv : Int) := by omega
      have HK1 := Lib.hid (show k + 1 ≤ N from hlt)
      obtain ⟨hcb1, hcb2⟩ := hcb
      clear hkv hvn hIq hvl hv' htq r1 hk2 hk hlt
      go_upto_region 6 with fail
      refine wp_region_ext (by kernel_rfl) (by kernel_rfl) ?_
      repeat (go_big_quiet_step (fail))
      go_big_quiet_step ((go_at_call 35; exact quiet_ext ((rturn_len (some ⟨q, 0, none⟩) c n kv v m _ HKV.out HVN.out (HIq.out.below (by (repeat (first | (with_reducible exact Below.refl _ _) | (with_reducible assumption) | ((with_reducible refine below_ext_trans ?_ ?_ _); rotate_left; focus (((try dsimp only); repeat (first | omega | simp only [World.size_alloc, World.size_setCell, World.size_drew] | (with_reducible refine le_ext_of ?_) | (with_reducible refine le_ext_add ?_))); done)) | ((with_reducible refine Below.alloc ?_ ?_ _); rotate_left; focus (((try dsimp only); repeat (first | omega | simp only [World.size_alloc, World.size_setCell, World.size_drew] | (with_reducible refine le_ext_of ?_) | (with_reducible refine le_ext_add ?_))); done)) | ((with_reducible refine Below.setCell ?_ ?_ _); rotate_left; focus (((try dsimp only); repeat (first | omega | simp only [World.size_alloc, World.size_setCell, World.size_drew] | (with_reducible refine le_ext_of ?_) | (with_reducible refine le_ext_add ?_))); done)) | (with_reducible refine Below.drew ?_))))) H41.out))))
      repeat (go_big_quiet_step (fail))
      refine wpQuiet_nil ?_
      rintro wz ⟨zz, hzz⟩
      have HBZ := Lib.hid (show Below W.heap.size W wz from HBr.out.trans (Below.mono (by rw [hzz]; (repeat (first | (with_reducible exact Below.refl _ _) | (with_reducible assumption) | ((with_reducible refine below_ext_trans ?_ ?_ _); rotate_left; focus (((try dsimp only); repeat (first | omega | simp only [World.size_alloc, World.size_setCell, World.size_drew] | (with_reducible refine le_ext_of ?_) | (with_reducible refine le_ext_add ?_))); done)) | ((with_reducible refine Below.alloc ?_ ?_ _); rotate_left; focus (((try dsimp only); repeat (first | omega | simp only [World.size_alloc, World.size_setCell, World.size_drew] | (with_reducible refine le_ext_of ?_) | (with_reducible refine le_ext_add ?_))); done)) | ((with_reducible refine Below.setCell ?_ ?_ _); rotate_left; focus (((try dsimp only); repeat (first | omega | simp only [World.size_alloc, World.size_setCell, World.size_drew] | (with_reducible refine le_ext_of ?_) | (with_reducible refine le_ext_add ?_))); done)) | (with_reducible refine Below.drew ?_)))) HBr.out.size))
      have HWN := Lib.hid (wrap_num k (by have := HLEN.out; have := HK1.out; omega))
      have HZ2 := Lib.hid (show orB z own = setN (cosL b st m ((allT b).take (k + 1))) by rw [HT.out, HX.out])
      clear hzz d2 hcell hc2 hq
      go_wp2_with fail
      try rw [HWN.out]
      exact ⟨⟨k + 1, orB z own, HK1.out, e2, rfl, by first | rfl | rw [e1], HZ2, HBZ⟩, less_num N k HK1.out⟩
    · obtain rfl : k = N := by omega
      have HE := Lib.hid (show z = setN (cosL b st m (allT b)) by rw [HX.out, List.take_of_length_le (by rw [HN.out]; exact Nat.le_refl _)])
      go_wp2_with fail
      go_ret
      exact ⟨ret_int (by rw [HE.out]), ext_of (HB.out.trans (HBr.out.mono HB.out.size))⟩
end Go.Proofs.YteocjggepjpecaaGreatDoor

namespace Go.Proofs.YteocjggepjpecaaGreatDoor
open Go Go.RowKit

attribute [local go_sem] Oper.semAt_some frozen_alloc_lt
theorem risStation_eq (h : Hd) (b : Bk) (a : Int) (q : Bool) (w : World) (hq : shotQ a b.os.length = q) : Calls Tryz.prog 40 #[.agg #[.int .i64 b.n, .slice h.pb b.bs.length h.cb, .slice h.po b.os.length h.co, .slice h.ps b.ss.length h.cs], .int .i64 a] w fun e w' => e = .returned (.bool q) ∧ ∃ x, w' = ext w x := by
  have HX := Lib.hid hq
  clear hq
  go_enter Tryz.func40, Tryz.ntmps40
  go_wp2_with (go_at_call 32; refine (Between_any _ _ _ _).mono ?_; rintro e w' ⟨rfl, rfl⟩)
  go_ret
  exact ⟨by rw [← HX.out]; unfold shotQ; rw [Bool.decide_and]; rfl, by (exact ext_of (by (repeat (first | (with_reducible exact Below.refl _ _) | (with_reducible assumption) | ((with_reducible refine below_ext_trans ?_ ?_ _); rotate_left; focus (((try dsimp only); repeat (first | omega | simp only [World.size_alloc, World.size_setCell, World.size_drew] | (with_reducible refine le_ext_of ?_) | (with_reducible refine le_ext_add ?_))); done)) | ((with_reducible refine Below.alloc ?_ ?_ _); rotate_left; focus (((try dsimp only); repeat (first | omega | simp only [World.size_alloc, World.size_setCell, World.size_drew] | (with_reducible refine le_ext_of ?_) | (with_reducible refine le_ext_add ?_))); done)) | ((with_reducible refine Below.setCell ?_ ?_ _); rotate_left; focus (((try dsimp only); repeat (first | omega | simp only [World.size_alloc, World.size_setCell, World.size_drew] | (with_reducible refine le_ext_of ?_) | (with_reducible refine le_ext_add ?_))); done)) | (with_reducible refine Below.drew ?_)))))⟩
/-- What isCompany tells of any number of companies. -/
def coQ (a n : Int) : Bool := decide (0 ≤ a ∧ a ≤ wrap64 (n - 1))
theorem coQ_eq {a n : Int} (h1 : 1 ≤ n) (h2 : n ≤ 4) : coQ a n = isN a n := by
  unfold coQ
  rw [show wrap64 (n - 1) = n - 1 by unfold wrap64; omega, le_isN']
theorem risCompany_eq (h : Hd) (b : Bk) (a : Int) (q : Bool) (w : World) (hq : coQ a b.n = q) : Calls Tryz.prog 39 #[.agg #[.int .i64 b.n, .slice h.pb b.bs.length h.cb, .slice h.po b.os.length h.co, .slice h.ps b.ss.length h.cs], .int .i64 a] w fun e w' => e = .returned (.bool q) ∧ ∃ x, w' = ext w x := by
  have HX := Lib.hid hq
  clear hq
  go_enter Tryz.func39, Tryz.ntmps39
  go_wp2_with (go_at_call 32; refine (Between_any _ _ _ _).mono ?_; rintro e w' ⟨rfl, rfl⟩)
  go_ret
  exact ⟨by rw [← HX.out]; unfold coQ; rw [Bool.decide_and]; rfl, by (exact ext_of (by (repeat (first | (with_reducible exact Below.refl _ _) | (with_reducible assumption) | ((with_reducible refine below_ext_trans ?_ ?_ _); rotate_left; focus (((try dsimp only); repeat (first | omega | simp only [World.size_alloc, World.size_setCell, World.size_drew] | (with_reducible refine le_ext_of ?_) | (with_reducible refine le_ext_add ?_))); done)) | ((with_reducible refine Below.alloc ?_ ?_ _); rotate_left; focus (((try dsimp only); repeat (first | omega | simp only [World.size_alloc, World.size_setCell, World.size_drew] | (with_reducible refine le_ext_of ?_) | (with_reducible refine le_ext_add ?_))); done)) | ((with_reducible refine Below.setCell ?_ ?_ _); rotate_left; focus (((try dsimp only); repeat (first | omega | simp only [World.size_alloc, World.size_setCell, World.size_drew] | (with_reducible refine le_ext_of ?_) | (with_reducible refine le_ext_add ?_))); done)) | (with_reducible refine Below.drew ?_)))))⟩
theorem Bits_len (s m : Nat) (M : Int) (L : List Int) (w : World) (hM : M = (m : Int)) (hs : s < 32) (hm : m ≤ 5) (hL : bitsL s m = L) : Calls Tryz.prog 43 #[.int .i64 s, .int .i64 M] w (BitsPost w L) := by
  subst hM hL; exact Bits_eq s m w hs hm
theorem run_comp {o : Oper} {w : World} {g s : Nat} (ρ : Operand → Value) (hop : o.op = .fieldAddr 26 (.tmp s) 0) (hs : ρ (.tmp s) = .pointer (some ⟨g, 0, none⟩)) (hl : g < w.heap.size) :
    (execOp ρ o).run Tryz.prog w = .ok (.value (.pointer (some ⟨g, 0, none⟩))) w := by
  unfold execOp
  simp [hop, hs, go_sem, hl]
/-- What the operations of Owners' last region leave. -/
def ownR (bk : Value) (st : Nat) (m : Int) (S : Nat) (g : Nat) (n : Int) (L : List Int) (i : Nat) (v : Value) (w : World) : Prop :=
  match i with
  | 0 => v = bk
  | 1 => v = .int .i64 st
  | 2 => v = .int .i64 m
  | 3 => v = .int .i64 S
  | 4 => v = .pointer (some ⟨g, 0, none⟩)
  | 5 => v = .int .i64 n
  | 6 => ∃ p c, v = .slice p L.length c ∧ IntsAt w p L
  | _ => True
theorem ownR_kept (bk : Value) (st : Nat) (m : Int) (S : Nat) (g : Nat) (n : Int) (L : List Int) : ∀ (i : Nat), i < 7 → ∀ (v : Value) (w w' : World), ownR bk st m S g n L i v w → Below w.heap.size w w' → ownR bk st m S g n L i v w' := by
  intro i hi v w w' h hb
  match i, hi with
  | 0, _ => exact h
  | 1, _ => exact h
  | 2, _ => exact h
  | 3, _ => exact h
  | 4, _ => exact h
  | 5, _ => exact h
  | 6, _ => obtain ⟨p, c, h1, h2⟩ := h; exact ⟨p, c, h1, h2.below hb⟩
  | k + 7, hk => omega
theorem rowners_eq (h : Hd) (b : Bk) (hv : bookB b = true) (st : Nat) (m : Int) (S : Nat) (w : World) (hS : setN (cosL b st m (allT b)) = S) (hb : BkAt w h b) (hso : st < b.os.length) :
    Calls Tryz.prog 44 #[.agg #[.int .i64 b.n, .slice h.pb b.bs.length h.cb, .slice h.po b.os.length h.co, .slice h.ps b.ss.length h.cs], .int .i64 st, .int .i64 m] w fun e w' => e = .returned (.int .i64 S) ∧ ∃ x, w' = ext w x := by
  subst hS; exact rowners_any h b hv st m w hb hso
set_option maxRecDepth 100000 in
set_option maxHeartbeats 1000000 in
theorem rOwners_err (h : Hd) (b : Bk) (st m c : Int) (w : World) (hb : BkAt w h b) (hc : askC b (shotQ st b.os.length && isN m 1440) = c) (h2 : c = 20 ∨ c = 21) :
    Calls Tryz.prog 11 #[.agg #[.int .i64 b.n, .slice h.pb b.bs.length h.cb, .slice h.po b.os.length h.co, .slice h.ps b.ss.length h.cs], .int .i64 st, .int .i64 m] w fun e w' => e = .returned (.tuple #[.slice none 0 0, .int .i64 c]) ∧ ∃ x, w' = ext w x := by
  have HB := Lib.hid hb
  obtain ⟨q, hq⟩ : ∃ q, shotQ st b.os.length = q := ⟨_, rfl⟩
  obtain ⟨r, hr⟩ : ∃ r, isN m 1440 = r := ⟨_, rfl⟩
  rw [hq, hr] at hc
  have HQ := Lib.hid hq
  have HR := Lib.hid hr
  have HC := Lib.hid hc
  clear hb hq hr hc
  cases q
  · rcases h2 with rfl | rfl
    all_goals
      go_enter Tryz.func11, Tryz.ntmps11
      go_upto_region 1 with fail
      refine wp_region_ext (by kernel_rfl) (by kernel_rfl) ?_
      repeat (go_big_quiet_step (fail))
      go_big_quiet_step ((go_at_call 40; exact quiet_ext (risStation_eq h b st _ _ HQ.out)))
      repeat (go_big_quiet_step (fail))
      go_big_quiet_step ((go_at_call 31; exact quiet_ext (asked_eq h b false _ _ (HB.out.below (by (repeat (first | (with_reducible exact Below.refl _ _) | (with_reducible assumption) | ((with_reducible refine below_ext_trans ?_ ?_ _); rotate_left; focus (((try dsimp only); repeat (first | omega | simp only [World.size_alloc, World.size_setCell, World.size_drew] | (with_reducible refine le_ext_of ?_) | (with_reducible refine le_ext_add ?_))); done)) | ((with_reducible refine Below.alloc ?_ ?_ _); rotate_left; focus (((try dsimp only); repeat (first | omega | simp only [World.size_alloc, World.size_setCell, World.size_drew] | (with_reducible refine le_ext_of ?_) | (with_reducible refine le_ext_add ?_))); done)) | ((with_reducible refine Below.setCell ?_ ?_ _); rotate_left; focus (((try dsimp only); repeat (first | omega | simp only [World.size_alloc, World.size_setCell, World.size_drew] | (with_reducible refine le_ext_of ?_) | (with_reducible refine le_ext_add ?_))); done)) | (with_reducible refine Below.drew ?_))))) HC.out)))
      repeat (go_big_quiet_step (fail))
      (refine wpQuiet_nil ?_; rintro _ ⟨x, rfl⟩)
      go_wp2_with fail
      go_ret2
      exact ⟨rfl, by (exact ext_of (by (repeat (first | (with_reducible exact Below.refl _ _) | (with_reducible assumption) | ((with_reducible refine below_ext_trans ?_ ?_ _); rotate_left; focus (((try dsimp only); repeat (first | omega | simp only [World.size_alloc, World.size_setCell, World.size_drew] | (with_reducible refine le_ext_of ?_) | (with_reducible refine le_ext_add ?_))); done)) | ((with_reducible refine Below.alloc ?_ ?_ _); rotate_left; focus (((try dsimp only); repeat (first | omega | simp only [World.size_alloc, World.size_setCell, World.size_drew] | (with_reducible refine le_ext_of ?_) | (with_reducible refine le_ext_add ?_))); done)) | ((with_reducible refine Below.setCell ?_ ?_ _); rotate_left; focus (((try dsimp only); repeat (first | omega | simp only [World.size_alloc, World.size_setCell, World.size_drew] | (with_reducible refine le_ext_of ?_) | (with_reducible refine le_ext_add ?_))); done)) | (with_reducible refine Below.drew ?_)))))⟩
  · rcases h2 with rfl | rfl
    all_goals
      go_enter Tryz.func11, Tryz.ntmps11
      go_upto_region 1 with fail
      refine wp_region_ext (by kernel_rfl) (by kernel_rfl) ?_
      repeat (go_big_quiet_step (fail))
      go_big_quiet_step ((go_at_call 40; exact quiet_ext (risStation_eq h b st _ _ HQ.out)))
      repeat (go_big_quiet_step (fail))
      go_big_quiet_step ((go_at_call 32; exact quiet_same (Between_min m _ _ HR.out)))
      repeat (go_big_quiet_step (fail))
      go_big_quiet_step ((go_at_call 31; exact quiet_ext (asked_eq h b r _ _ (HB.out.below (by (repeat (first | (with_reducible exact Below.refl _ _) | (with_reducible assumption) | ((with_reducible refine below_ext_trans ?_ ?_ _); rotate_left; focus (((try dsimp only); repeat (first | omega | simp only [World.size_alloc, World.size_setCell, World.size_drew] | (with_reducible refine le_ext_of ?_) | (with_reducible refine le_ext_add ?_))); done)) | ((with_reducible refine Below.alloc ?_ ?_ _); rotate_left; focus (((try dsimp only); repeat (first | omega | simp only [World.size_alloc, World.size_setCell, World.size_drew] | (with_reducible refine le_ext_of ?_) | (with_reducible refine le_ext_add ?_))); done)) | ((with_reducible refine Below.setCell ?_ ?_ _); rotate_left; focus (((try dsimp only); repeat (first | omega | simp only [World.size_alloc, World.size_setCell, World.size_drew] | (with_reducible refine le_ext_of ?_) | (with_reducible refine le_ext_add ?_))); done)) | (with_reducible refine Below.drew ?_))))) HC.out)))
      repeat (go_big_quiet_step (fail))
      (refine wpQuiet_nil ?_; rintro _ ⟨x, rfl⟩)
      go_wp2_with fail
      go_ret2
      exact ⟨rfl, by (exact ext_of (by (repeat (first | (with_reducible exact Below.refl _ _) | (with_reducible assumption) | ((with_reducible refine below_ext_trans ?_ ?_ _); rotate_left; focus (((try dsimp only); repeat (first | omega | simp only [World.size_alloc, World.size_setCell, World.size_drew] | (with_reducible refine le_ext_of ?_) | (with_reducible refine le_ext_add ?_))); done)) | ((with_reducible refine Below.alloc ?_ ?_ _); rotate_left; focus (((try dsimp only); repeat (first | omega | simp only [World.size_alloc, World.size_setCell, World.size_drew] | (with_reducible refine le_ext_of ?_) | (with_reducible refine le_ext_add ?_))); done)) | ((with_reducible refine Below.setCell ?_ ?_ _); rotate_left; focus (((try dsimp only); repeat (first | omega | simp only [World.size_alloc, World.size_setCell, World.size_drew] | (with_reducible refine le_ext_of ?_) | (with_reducible refine le_ext_add ?_))); done)) | (with_reducible refine Below.drew ?_)))))⟩
set_option maxRecDepth 100000 in
set_option maxHeartbeats 1000000 in
theorem rSure_err (h : Hd) (b : Bk) (st co c : Int) (w : World) (hb : BkAt w h b) (hc : askC b (shotQ st b.os.length && coQ co b.n) = c) (h2 : c = 20 ∨ c = 21) :
    Calls Tryz.prog 14 #[.agg #[.int .i64 b.n, .slice h.pb b.bs.length h.cb, .slice h.po b.os.length h.co, .slice h.ps b.ss.length h.cs], .int .i64 st, .int .i64 co] w fun e w' => e = .returned (.tuple #[.slice none 0 0, .int .i64 c]) ∧ ∃ x, w' = ext w x := by
  have HB := Lib.hid hb
  obtain ⟨q, hq⟩ : ∃ q, shotQ st b.os.length = q := ⟨_, rfl⟩
  obtain ⟨r, hr⟩ : ∃ r, coQ co b.n = r := ⟨_, rfl⟩
  rw [hq, hr] at hc
  have HQ := Lib.hid hq
  have HR := Lib.hid hr
  have HC := Lib.hid hc
  clear hb hq hr hc
  cases q
  · rcases h2 with rfl | rfl
    all_goals
      go_enter Tryz.func14, Tryz.ntmps14
      go_upto_region 1 with fail
      refine wp_region_ext (by kernel_rfl) (by kernel_rfl) ?_
      repeat (go_big_quiet_step (fail))
      go_big_quiet_step ((go_at_call 40; exact quiet_ext (risStation_eq h b st _ _ HQ.out)))
      repeat (go_big_quiet_step (fail))
      go_big_quiet_step ((go_at_call 31; exact quiet_ext (asked_eq h b false _ _ (HB.out.below (by (repeat (first | (with_reducible exact Below.refl _ _) | (with_reducible assumption) | ((with_reducible refine below_ext_trans ?_ ?_ _); rotate_left; focus (((try dsimp only); repeat (first | omega | simp only [World.size_alloc, World.size_setCell, World.size_drew] | (with_reducible refine le_ext_of ?_) | (with_reducible refine le_ext_add ?_))); done)) | ((with_reducible refine Below.alloc ?_ ?_ _); rotate_left; focus (((try dsimp only); repeat (first | omega | simp only [World.size_alloc, World.size_setCell, World.size_drew] | (with_reducible refine le_ext_of ?_) | (with_reducible refine le_ext_add ?_))); done)) | ((with_reducible refine Below.setCell ?_ ?_ _); rotate_left; focus (((try dsimp only); repeat (first | omega | simp only [World.size_alloc, World.size_setCell, World.size_drew] | (with_reducible refine le_ext_of ?_) | (with_reducible refine le_ext_add ?_))); done)) | (with_reducible refine Below.drew ?_))))) HC.out)))
      repeat (go_big_quiet_step (fail))
      (refine wpQuiet_nil ?_; rintro _ ⟨x, rfl⟩)
      go_wp2_with fail
      go_ret2
      exact ⟨rfl, by (exact ext_of (by (repeat (first | (with_reducible exact Below.refl _ _) | (with_reducible assumption) | ((with_reducible refine below_ext_trans ?_ ?_ _); rotate_left; focus (((try dsimp only); repeat (first | omega | simp only [World.size_alloc, World.size_setCell, World.size_drew] | (with_reducible refine le_ext_of ?_) | (with_reducible refine le_ext_add ?_))); done)) | ((with_reducible refine Below.alloc ?_ ?_ _); rotate_left; focus (((try dsimp only); repeat (first | omega | simp only [World.size_alloc, World.size_setCell, World.size_drew] | (with_reducible refine le_ext_of ?_) | (with_reducible refine le_ext_add ?_))); done)) | ((with_reducible refine Below.setCell ?_ ?_ _); rotate_left; focus (((try dsimp only); repeat (first | omega | simp only [World.size_alloc, World.size_setCell, World.size_drew] | (with_reducible refine le_ext_of ?_) | (with_reducible refine le_ext_add ?_))); done)) | (with_reducible refine Below.drew ?_)))))⟩
  · rcases h2 with rfl | rfl
    all_goals
      go_enter Tryz.func14, Tryz.ntmps14
      go_upto_region 1 with fail
      refine wp_region_ext (by kernel_rfl) (by kernel_rfl) ?_
      repeat (go_big_quiet_step (fail))
      go_big_quiet_step ((go_at_call 40; exact quiet_ext (risStation_eq h b st _ _ HQ.out)))
      repeat (go_big_quiet_step (fail))
      go_big_quiet_step ((go_at_call 39; exact quiet_ext (risCompany_eq h b co _ _ HR.out)))
      repeat (go_big_quiet_step (fail))
      go_big_quiet_step ((go_at_call 31; exact quiet_ext (asked_eq h b r _ _ (HB.out.below (by (repeat (first | (with_reducible exact Below.refl _ _) | (with_reducible assumption) | ((with_reducible refine below_ext_trans ?_ ?_ _); rotate_left; focus (((try dsimp only); repeat (first | omega | simp only [World.size_alloc, World.size_setCell, World.size_drew] | (with_reducible refine le_ext_of ?_) | (with_reducible refine le_ext_add ?_))); done)) | ((with_reducible refine Below.alloc ?_ ?_ _); rotate_left; focus (((try dsimp only); repeat (first | omega | simp only [World.size_alloc, World.size_setCell, World.size_drew] | (with_reducible refine le_ext_of ?_) | (with_reducible refine le_ext_add ?_))); done)) | ((with_reducible refine Below.setCell ?_ ?_ _); rotate_left; focus (((try dsimp only); repeat (first | omega | simp only [World.size_alloc, World.size_setCell, World.size_drew] | (with_reducible refine le_ext_of ?_) | (with_reducible refine le_ext_add ?_))); done)) | (with_reducible refine Below.drew ?_))))) HC.out)))
      repeat (go_big_quiet_step (fail))
      (refine wpQuiet_nil ?_; rintro _ ⟨x, rfl⟩)
      go_wp2_with fail
      go_ret2
      exact ⟨rfl, by (exact ext_of (by (repeat (first | (with_reducible exact Below.refl _ _) | (with_reducible assumption) | ((with_reducible refine below_ext_trans ?_ ?_ _); rotate_left; focus (((try dsimp only); repeat (first | omega | simp only [World.size_alloc, World.size_setCell, World.size_drew] | (with_reducible refine le_ext_of ?_) | (with_reducible refine le_ext_add ?_))); done)) | ((with_reducible refine Below.alloc ?_ ?_ _); rotate_left; focus (((try dsimp only); repeat (first | omega | simp only [World.size_alloc, World.size_setCell, World.size_drew] | (with_reducible refine le_ext_of ?_) | (with_reducible refine le_ext_add ?_))); done)) | ((with_reducible refine Below.setCell ?_ ?_ _); rotate_left; focus (((try dsimp only); repeat (first | omega | simp only [World.size_alloc, World.size_setCell, World.size_drew] | (with_reducible refine le_ext_of ?_) | (with_reducible refine le_ext_add ?_))); done)) | (with_reducible refine Below.drew ?_)))))⟩
set_option maxRecDepth 100000 in
set_option maxHeartbeats 1000000 in
theorem rOwners_yes (h : Hd) (b : Bk) (st : Nat) (m : Int) (w : World) (hb : BkAt w h b) (hv : bookB b = true) (hst : st < b.os.length) (hm : isN m 1440 = true) :
    Calls Tryz.prog 11 #[.agg #[.int .i64 b.n, .slice h.pb b.bs.length h.cb, .slice h.po b.os.length h.co, .slice h.ps b.ss.length h.cs], .int .i64 st, .int .i64 m] w fun e w' => ∃ p c, e = .returned (.tuple #[.slice p (ownersL b st (cnt (b.bs.map Prod.snd) m) (cnt (b.bs.map Prod.fst) m)).length c, .int .i64 0]) ∧ IntsAt w' p (ownersL b st (cnt (b.bs.map Prod.snd) m) (cnt (b.bs.map Prod.fst) m)) ∧ ∃ x, w' = ext w x := by
  obtain ⟨h3, h1, h4, hn4, -⟩ := bookB_rows hv
  have hn1 : 1 ≤ b.n := by simp only [bookB, Bool.and_eq_true, decide_eq_true_eq] at hv; omega
  obtain ⟨n, hn⟩ := Int.eq_ofNat_of_zero_le (show 0 ≤ b.n by omega)
  have HQ := Lib.hid (show shotQ (st : Int) b.os.length = true by rw [shotQ_eq (by omega)]; exact isN_yes (by omega))
  have HR := Lib.hid hm
  have HC := Lib.hid (show askC b true = 0 by unfold askC; rw [hv]; rfl)
  have HS := Lib.hid (owners_same hv hst (m := m) hn)
  obtain ⟨S, hS⟩ : ∃ S, setN (cosL b st m (allT b)) = S := ⟨_, rfl⟩
  have hS16 : S < 16 := by
    rw [← hS]
    refine setN_lt _ (fun x hx => ?_)
    unfold cosL at hx
    obtain ⟨v, hv', rfl⟩ := List.mem_map.1 hx
    have := cos_bd hv hst m hv'
    omega
  have HBL := Lib.hid (show bitsL S n = ownersL b st (cnt (b.bs.map Prod.snd) m) (cnt (b.bs.map Prod.fst) m) by rw [← hS]; exact HS.out)
  have HSS := Lib.hid hS
  have HB := Lib.hid hb
  have HN := Lib.hid hn
  have hn5 : n ≤ 5 := by omega
  clear hb hm hS hn
  go_enter Tryz.func11, Tryz.ntmps11
  go_upto_region 1 with fail
  refine wp_region_ext (by kernel_rfl) (by kernel_rfl) ?_
  repeat (go_big_quiet_step (fail))
  go_big_quiet_step ((go_at_call 40; exact quiet_ext (risStation_eq h b st _ _ HQ.out)))
  repeat (go_big_quiet_step (fail))
  go_big_quiet_step ((go_at_call 32; exact quiet_same (Between_min m _ _ HR.out)))
  repeat (go_big_quiet_step (fail))
  go_big_quiet_step ((go_at_call 31; exact quiet_ext (asked_eq h b true _ _ (HB.out.below (by (repeat (first | (with_reducible exact Below.refl _ _) | (with_reducible assumption) | ((with_reducible refine below_ext_trans ?_ ?_ _); rotate_left; focus (((try dsimp only); repeat (first | omega | simp only [World.size_alloc, World.size_setCell, World.size_drew] | (with_reducible refine le_ext_of ?_) | (with_reducible refine le_ext_add ?_))); done)) | ((with_reducible refine Below.alloc ?_ ?_ _); rotate_left; focus (((try dsimp only); repeat (first | omega | simp only [World.size_alloc, World.size_setCell, World.size_drew] | (with_reducible refine le_ext_of ?_) | (with_reducible refine le_ext_add ?_))); done)) | ((with_reducible refine Below.setCell ?_ ?_ _); rotate_left; focus (((try dsimp only); repeat (first | omega | simp only [World.size_alloc, World.size_setCell, World.size_drew] | (with_reducible refine le_ext_of ?_) | (with_reducible refine le_ext_add ?_))); done)) | (with_reducible refine Below.drew ?_))))) HC.out)))
  repeat (go_big_quiet_step (fail))
  refine wpQuiet_nil ?_
  rintro W ⟨x, hW⟩
  have hB : Below w.heap.size w W := by rw [hW]; (repeat (first | (with_reducible exact Below.refl _ _) | (with_reducible assumption) | ((with_reducible refine below_ext_trans ?_ ?_ _); rotate_left; focus (((try dsimp only); repeat (first | omega | simp only [World.size_alloc, World.size_setCell, World.size_drew] | (with_reducible refine le_ext_of ?_) | (with_reducible refine le_ext_add ?_))); done)) | ((with_reducible refine Below.alloc ?_ ?_ _); rotate_left; focus (((try dsimp only); repeat (first | omega | simp only [World.size_alloc, World.size_setCell, World.size_drew] | (with_reducible refine le_ext_of ?_) | (with_reducible refine le_ext_add ?_))); done)) | ((with_reducible refine Below.setCell ?_ ?_ _); rotate_left; focus (((try dsimp only); repeat (first | omega | simp only [World.size_alloc, World.size_setCell, World.size_drew] | (with_reducible refine le_ext_of ?_) | (with_reducible refine le_ext_add ?_))); done)) | (with_reducible refine Below.drew ?_)))
  have kb : Blk W w.heap.size 26 #[.int .i64 b.n, .slice h.pb b.bs.length h.cb, .slice h.po b.os.length h.co, .slice h.ps b.ss.length h.cs] := by rw [hW]; exact (Blk.new rfl).ext x
  have HB2 := Lib.hid (HB.out.below hB)
  have HBB := Lib.hid hB
  have d0 := kb.cell 0
  have d1 := kb.cell 1
  have d2 := kb.cell 2
  have d3 := kb.cell 3
  simp only [List.size_toArray, List.length_cons, List.length_nil, Nat.reduceAdd, Nat.reduceLT, getElem?_pos, List.getElem_toArray, List.getElem_cons_zero, List.getElem_cons_succ] at d0 d1 d2 d3
  have hl1 := kb.lt
  have KB := Lib.hid kb
  clear hW hB kb
  go_upto_region 4 with fail
  clear d0 d1 d2 d3
  refine wp_region_flow_back 7 28 (ownR (.agg #[.int .i64 b.n, .slice h.pb b.bs.length h.cb, .slice h.po b.os.length h.co, .slice h.ps b.ss.length h.cs]) st m S w.heap.size b.n (ownersL b st (cnt (b.bs.map Prod.snd) m) (cnt (b.bs.map Prod.fst) m))) (by kernel_rfl) (by kernel_rfl) rfl (ownR_kept _ _ _ _ _ _ _) ?_ ?_
  · intro i hin a X g1 g2 g3 g4 g5 KK hKK
    match i, hin with
    | 0, _ => exact st_val rfl (wanted_none rfl) (run_book _ rfl (g3 3 (by kernel_rfl)) (KB.out.bel g5)) (hKK _ _ rfl (Below.refl _ _))
    | 1, _ => exact st_move rfl rfl (wanted_none rfl) (g3 1 (by kernel_rfl)) (hKK _ _ rfl (Below.refl _ _))
    | 2, _ => exact st_move rfl rfl (wanted_none rfl) (g3 2 (by kernel_rfl)) (hKK _ _ rfl (Below.refl _ _))
    | 3, _ =>
      refine st_call rfl rfl (wanted_none rfl) (args3' (g4 0 (by kernel_rfl)) (g4 1 (by kernel_rfl)) (g4 2 (by kernel_rfl))) (run_enter Tryz.func44 (by kernel_rfl) (by kernel_rfl) _) ?_
      refine (rowners_eq h b hv st m S _ HSS.out (HB2.out.below g5) hst).mono ?_
      rintro e w1 ⟨rfl, y, rfl⟩
      exact ⟨_, rfl, hKK _ _ rfl (below_ext _ _)⟩
    | 4, _ => exact st_val rfl (wanted_none rfl) (run_comp _ rfl (g3 3 (by kernel_rfl)) (Nat.lt_of_lt_of_le hl1 g5.size)) (hKK _ _ rfl (Below.refl _ _))
    | 5, _ => exact st_val rfl (wanted_none rfl) (run_num _ rfl (g4 4 (by kernel_rfl)) (((KB.out.bel g5).cell 0).trans rfl)) (hKK _ _ rfl (Below.refl _ _))
    | 6, _ =>
      refine st_call rfl rfl (wanted_none rfl) (args2 (g4 3 (by kernel_rfl)) (g4 5 (by kernel_rfl))) (run_enter Tryz.func43 (by kernel_rfl) (by kernel_rfl) _) ?_
      refine (Bits_len S n b.n _ _ HN.out (by omega) hn5 HBL.out).mono ?_
      rintro e w1 ⟨p, c, rfl, hp, y, rfl⟩
      exact ⟨_, rfl, hKK _ _ ⟨p, c, rfl, hp⟩ (below_ext _ _)⟩
    | k + 7, hk => omega
  intro vs W2 hvs hBW
  have v0 : vs 0 = _ := hvs 0 (by omega)
  have v1 : vs 1 = _ := hvs 1 (by omega)
  have v2 : vs 2 = _ := hvs 2 (by omega)
  have v3 : vs 3 = _ := hvs 3 (by omega)
  have v4 : vs 4 = _ := hvs 4 (by omega)
  have v5 : vs 5 = _ := hvs 5 (by omega)
  obtain ⟨p, c, v6, hp⟩ := hvs 6 (by omega)
  simp only [putAll, v0, v1, v2, v3, v4, v5, v6]
  clear v0 v1 v2 v3 v4 v5 v6 hvs
  simp only [dstOf, Act.put, List.getElem?_toArray, List.getElem?_cons_zero, List.getElem?_cons_succ, Option.bind_some, Option.getD_some, List.setIfInBounds_toArray, List.set_cons_succ, List.set_cons_zero, List.drop_succ_cons, List.drop_zero]
  have HP := Lib.hid hp
  have HEND := Lib.hid (HBB.out.trans (hBW.mono HBB.out.size))
  clear hp hBW
  go_wp2_with fail
  go_ret2
  exact ⟨p, c, rfl, HP.out, ext_of HEND.out⟩
end Go.Proofs.YteocjggepjpecaaGreatDoor

