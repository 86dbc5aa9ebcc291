/- Package tide: its functions, on a good book and plan, and in each bad way. -/
import Derived.Test.YtcaeohgbgeadaaaGreatDoorQEi
import Derived.Test.YtcaeohgbgeadaaaGreatDoorQEb
set_option linter.unusedSimpArgs false
set_option linter.unusedVariables false
namespace Go.Proofs.YtcaeohgbgeadaaaGreatDoor
open Go Go.RowKit Go.Shelf
theorem of_validB {b : Tk} (h : validB b = true) : (0 ≤ b.now ∧ b.now ≤ 60) ∧ chainT b.now b.ts = true ∧ b.ts.length ≤ 6 ∧ (b.now ≤ b.glo ∧ b.glo ≤ b.ghi ∧ b.ghi ≤ 60) ∧ (0 ≤ b.most ∧ b.most ≤ 6) ∧ (0 ≤ b.rest ∧ b.rest ≤ 60) := by
  unfold validB nowB tidesB at h
  simp only [Bool.and_eq_true, decide_eq_true_eq] at h
  have h1 := of_inT h.1.1.1.1.1.1
  have h2 := of_spanT h.1.1.1.2
  exact ⟨h1, h.1.1.1.1.2.2, h.1.1.1.1.2.1, ⟨h2.1, h2.2.1, h2.2.2.1⟩, of_inT h.1.1.2, of_inT h.1.2⟩
/-- What is known of the haul of a valid book. -/
theorem haul_ok {b : Tk} (h : validB b = true) : (haulOf b).OK := by
  obtain ⟨h1, h2, h3, h4, h5, h6⟩ := of_validB h
  obtain ⟨v1, v2, -⟩ := validB_of h
  have hok := Ok9.of v1
  obtain ⟨f1, e1, e2⟩ := (ends_held hok v2 b.now).low
  obtain ⟨f2, e3, e4⟩ := (ends_held hok v2 b.now).high
  obtain ⟨f3, e5, e6⟩ := (ends_rate hok v2 b.now).low
  obtain ⟨f4, e7, e8⟩ := (ends_rate hok v2 b.now).high
  have a1 := (ends_held hok v2 b.now).all f1 e1
  have a2 := (ends_rate hok v2 b.now).all f3 e5
  have b1 := At_bd hok e1 b.now
  have b2 := At_bd hok e3 b.now
  have b3 := At_bd hok e5 b.now
  have b4 := At_bd hok e7 b.now
  refine ⟨?_, ?_, h1, h4, h2, h3, h5, h6⟩
  · show 0 ≤ minF Prod.fst 400 (atL b.q b.now) ∧ minF Prod.fst 400 (atL b.q b.now) ≤ maxF Prod.fst 0 (atL b.q b.now) ∧ maxF Prod.fst 0 (atL b.q b.now) ≤ 400
    omega
  · show 0 ≤ minF Prod.snd 400 (atL b.q b.now) ∧ minF Prod.snd 400 (atL b.q b.now) ≤ maxF Prod.snd 0 (atL b.q b.now) ∧ maxF Prod.snd 0 (atL b.q b.now) ≤ 400
    omega
/-- Why a book cannot be opened with a plan. -/
def OpenT (b : Tk) (pl : List Int) (e : Int) : Prop := (validB b = false ∧ e = 40) ∨ (validB b = true ∧ planB b.ts b.most b.rest pl = false ∧ e = 41)
theorem OpenT.pos {b : Tk} {pl : List Int} {e : Int} (h : OpenT b pl e) : e = 40 ∨ e = 41 := by
  rcases h with ⟨-, h⟩ | ⟨-, -, h⟩
  · exact .inl h
  · exact .inr h
theorem topen_err (b : Tk) (p : Tp) (v : Value) (pl : List Int) (e : Int) (w : World) (hk : TB w b p) (hn : Hid (b.q.ns.length ≤ 9223372036854775807)) (hp : PlanAt w v pl) (hlen : pl.length ≤ 1000) (he : OpenT b pl e) :
    Calls Tryz.prog 66 #[tv b p, v] w fun e' w' => e' = .returned (.tuple #[zeroHl, .int .i64 e]) ∧ ∃ x, w' = ext w x := by
  obtain ⟨pp, pc, rfl, hi, -, -, -⟩ := hp
  rcases he with ⟨h1, rfl⟩ | ⟨h1, h2, rfl⟩
  · exact topen_bad b p pp pc pl.length w hk hn h1
  · exact topen_ask b p pp pc pl w hk hn h1 hi hlen h2
theorem topen_good (b : Tk) (p : Tp) (v : Value) (pl : List Int) (H : Hl) (w : World) (hk : TB w b p) (hn : Hid (b.q.ns.length ≤ 9223372036854775807)) (hp : PlanAt w v pl) (hlen : pl.length ≤ 1000) (hv : validB b = true) (hq : planB b.ts b.most b.rest pl = true) (hH : haulOf b = H) :
    Calls Tryz.prog 66 #[tv b p, v] w fun e' w' => e' = .returned (.tuple #[hlv H p, .int .i64 0]) ∧ ∃ x, w' = ext w x := by
  subst hH
  obtain ⟨pp, pc, rfl, hi, -, -, -⟩ := hp
  exact topen_yes b p pp pc pl w hk hn hv hi hlen hq
attribute [local go_sem] Oper.semAt_some frozen_alloc_lt
set_option maxRecDepth 100000 in
set_option maxHeartbeats 4000000 in
theorem IsPlan_bad (b : Tk) (p : Tp) (v : Value) (w : World) (hk : TB w b p) (hn : Hid (b.q.ns.length ≤ 9223372036854775807)) (hv : validB b = false) :
    Calls Tryz.prog 15 #[tv b p, v] w fun e w' => e = .returned (.tuple #[.bool false, .int .i64 40]) ∧ ∃ x, w' = ext w x := by
  have HK := Lib.hid hk
  have HV := Lib.hid hv
  clear hk hv
  unfold tv
  go_enter Tryz.func15, Tryz.ntmps15
  go_wp2_with (go_at_call 17; refine (tCheck_eq b p _ _ (HK.out.bel (by (repeat (first | (with_reducible exact Below.refl _ _) | (with_reducible assumption) | ((with_reducible refine below_ext_trans ?_ ?_ _); rotate_left; focus (((try dsimp only); repeat (first | omega | simp only [World.size_alloc, World.size_setCell, World.size_drew] | (with_reducible refine le_ext_of ?_) | (with_reducible refine le_ext_add ?_))); done)) | ((with_reducible refine Below.alloc ?_ ?_ _); rotate_left; focus (((try dsimp only); repeat (first | omega | simp only [World.size_alloc, World.size_setCell, World.size_drew] | (with_reducible refine le_ext_of ?_) | (with_reducible refine le_ext_add ?_))); done)) | ((with_reducible refine Below.setCell ?_ ?_ _); rotate_left; focus (((try dsimp only); repeat (first | omega | simp only [World.size_alloc, World.size_setCell, World.size_drew] | (with_reducible refine le_ext_of ?_) | (with_reducible refine le_ext_add ?_))); done)) | (with_reducible refine Below.drew ?_))))) hn HV.out).mono ?_; rintro e w1 ⟨rfl, y, rfl⟩)
  refine bodyPost_ret (v := .tuple #[.bool false, .int .i64 40]) (by simp [results, Tryz.results15, go_sem]) rfl ⟨rfl, by (exact ext_of (by (repeat (first | (with_reducible exact Below.refl _ _) | (with_reducible assumption) | ((with_reducible refine below_ext_trans ?_ ?_ _); rotate_left; focus (((try dsimp only); repeat (first | omega | simp only [World.size_alloc, World.size_setCell, World.size_drew] | (with_reducible refine le_ext_of ?_) | (with_reducible refine le_ext_add ?_))); done)) | ((with_reducible refine Below.alloc ?_ ?_ _); rotate_left; focus (((try dsimp only); repeat (first | omega | simp only [World.size_alloc, World.size_setCell, World.size_drew] | (with_reducible refine le_ext_of ?_) | (with_reducible refine le_ext_add ?_))); done)) | ((with_reducible refine Below.setCell ?_ ?_ _); rotate_left; focus (((try dsimp only); repeat (first | omega | simp only [World.size_alloc, World.size_setCell, World.size_drew] | (with_reducible refine le_ext_of ?_) | (with_reducible refine le_ext_add ?_))); done)) | (with_reducible refine Below.drew ?_)))))⟩
set_option maxRecDepth 100000 in
set_option maxHeartbeats 4000000 in
theorem IsPlan_is (b : Tk) (p : Tp) (v : Value) (pl : List Int) (q : Bool) (w : World) (hk : TB w b p) (hn : Hid (b.q.ns.length ≤ 9223372036854775807)) (hp : PlanAt w v pl) (hlen : pl.length ≤ 1000) (hv : validB b = true) (hq : planB b.ts b.most b.rest pl = q) :
    Calls Tryz.prog 15 #[tv b p, v] w fun e w' => e = .returned (.tuple #[.bool q, .int .i64 0]) ∧ ∃ x, w' = ext w x := by
  obtain ⟨pp, pc, rfl, hi, -, -, -⟩ := hp
  have HK := Lib.hid hk
  have HV := Lib.hid hv
  have HP := Lib.hid hi
  have HQ := Lib.hid hq
  clear hk hv hi hq
  unfold tv
  go_enter Tryz.func15, Tryz.ntmps15
  go_upto_region 2 with (go_at_call 17; refine (tCheck_eq b p _ _ (HK.out.bel (by (repeat (first | (with_reducible exact Below.refl _ _) | (with_reducible assumption) | ((with_reducible refine below_ext_trans ?_ ?_ _); rotate_left; focus (((try dsimp only); repeat (first | omega | simp only [World.size_alloc, World.size_setCell, World.size_drew] | (with_reducible refine le_ext_of ?_) | (with_reducible refine le_ext_add ?_))); done)) | ((with_reducible refine Below.alloc ?_ ?_ _); rotate_left; focus (((try dsimp only); repeat (first | omega | simp only [World.size_alloc, World.size_setCell, World.size_drew] | (with_reducible refine le_ext_of ?_) | (with_reducible refine le_ext_add ?_))); done)) | ((with_reducible refine Below.setCell ?_ ?_ _); rotate_left; focus (((try dsimp only); repeat (first | omega | simp only [World.size_alloc, World.size_setCell, World.size_drew] | (with_reducible refine le_ext_of ?_) | (with_reducible refine le_ext_add ?_))); done)) | (with_reducible refine Below.drew ?_))))) hn HV.out).mono ?_; rintro e w1 ⟨rfl, y, rfl⟩)
  generalize hW : ext _ y = W
  have hB : Below w.heap.size w W := by rw [← hW]; (repeat (first | (with_reducible exact Below.refl _ _) | (with_reducible assumption) | ((with_reducible refine below_ext_trans ?_ ?_ _); rotate_left; focus (((try dsimp only); repeat (first | omega | simp only [World.size_alloc, World.size_setCell, World.size_drew] | (with_reducible refine le_ext_of ?_) | (with_reducible refine le_ext_add ?_))); done)) | ((with_reducible refine Below.alloc ?_ ?_ _); rotate_left; focus (((try dsimp only); repeat (first | omega | simp only [World.size_alloc, World.size_setCell, World.size_drew] | (with_reducible refine le_ext_of ?_) | (with_reducible refine le_ext_add ?_))); done)) | ((with_reducible refine Below.setCell ?_ ?_ _); rotate_left; focus (((try dsimp only); repeat (first | omega | simp only [World.size_alloc, World.size_setCell, World.size_drew] | (with_reducible refine le_ext_of ?_) | (with_reducible refine le_ext_add ?_))); done)) | (with_reducible refine Below.drew ?_)))
  have kB : Blk W w.heap.size 29 (tcs b p) := by rw [← hW]; exact (Blk.new rfl).ext y
  have HB := Lib.hid hB
  unfold tcs at kB
  (have c0 := Blk.cell kB 0; have c1 := Blk.cell kB 1; have c2 := Blk.cell kB 2; have c3 := Blk.cell kB 3; have c4 := Blk.cell kB 4; have c5 := Blk.cell kB 5; have c6 := Blk.cell kB 6; have c7 := Blk.cell kB 7; have c8 := Blk.cell kB 8; simp only [List.size_toArray, List.length_cons, List.length_nil, Nat.reduceAdd, Nat.reduceLT, getElem?_pos, List.getElem_toArray, List.getElem_cons_zero, List.getElem_cons_succ] at c0 c1 c2 c3 c4 c5 c6 c7 c8)
  have lB := kB.lt
  clear hW hB kB
  go_wp2_with (go_at_call 60; refine (isPlan_eq b p pp pc pl _ _ (HK.out.ts' HB.out) HV.out (HP.out.below HB.out) hlen HQ.out).mono ?_; rintro e w1 ⟨rfl, y2, rfl⟩)
  refine bodyPost_ret (v := .tuple #[.bool q, .int .i64 0]) (by simp [results, Tryz.results15, go_sem]) rfl ⟨rfl, ext_of (HB.out.trans ((below_ext W y2).mono HB.out.size))⟩
end Go.Proofs.YtcaeohgbgeadaaaGreatDoor

