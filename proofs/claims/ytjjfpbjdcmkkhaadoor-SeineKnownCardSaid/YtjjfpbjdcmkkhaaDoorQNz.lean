/- Package seine: Wrong. -/
import Derived.Test.YtjjfpbjdcmkkhaaDoorQNr
import Derived.Test.YtjjfpbjdcmkkhaaDoorQNh
set_option linter.unusedSimpArgs false
set_option linter.unusedVariables false
namespace Go.Proofs.YtjjfpbjdcmkkhaaDoor
open Go Go.RowKit Go.Shelf
attribute [local go_sem] Oper.semAt_some frozen_alloc_lt
set_option maxHeartbeats 1000000 in
theorem Wrong_bad (b : Sn) (p : Option Addr) (c : Nat) (w : World) (hk : SBk w b p) (hv : snB b = false) :
    Calls Tryd.prog 31 #[.agg #[.int .i64 b.lo, .int .i64 b.hi, .slice p b.ns.length c]] w fun e w' => e = .returned (.tuple #[.slice none 0 0, .int .i64 30]) ∧ Below w.heap.size w w' := by
  have HK := Lib.hid hk
  clear hk
  go_enter Tryd.func31, Tryd.ntmps31
  go_wp2_with (go_at_call 16; refine (Check_eq b p c false _ (HK.out.bel (by (repeat (first | (with_reducible exact Below.refl _ _) | (with_reducible assumption) | ((with_reducible refine below_ext_trans ?_ ?_ _); rotate_left; focus (((try dsimp only); repeat (first | omega | simp only [World.size_alloc, World.size_setCell, World.size_drew] | (with_reducible refine le_ext_of ?_) | (with_reducible refine le_ext_add ?_))); done)) | ((with_reducible refine Below.alloc ?_ ?_ _); rotate_left; focus (((try dsimp only); repeat (first | omega | simp only [World.size_alloc, World.size_setCell, World.size_drew] | (with_reducible refine le_ext_of ?_) | (with_reducible refine le_ext_add ?_))); done)) | ((with_reducible refine Below.setCell ?_ ?_ _); rotate_left; focus (((try dsimp only); repeat (first | omega | simp only [World.size_alloc, World.size_setCell, World.size_drew] | (with_reducible refine le_ext_of ?_) | (with_reducible refine le_ext_add ?_))); done)) | (with_reducible refine Below.drew ?_))))) hv).mono ?_; rintro e w1 ⟨rfl, y, rfl⟩)
  refine bodyPost_ret (v := .tuple #[.slice none 0 0, .int .i64 30]) ?_ ?_ ?_
  · simp [results, Tryd.results31, go_sem]
  · rfl
  · exact ⟨rfl, by (repeat (first | (with_reducible exact Below.refl _ _) | (with_reducible assumption) | ((with_reducible refine below_ext_trans ?_ ?_ _); rotate_left; focus (((try dsimp only); repeat (first | omega | simp only [World.size_alloc, World.size_setCell, World.size_drew] | (with_reducible refine le_ext_of ?_) | (with_reducible refine le_ext_add ?_))); done)) | ((with_reducible refine Below.alloc ?_ ?_ _); rotate_left; focus (((try dsimp only); repeat (first | omega | simp only [World.size_alloc, World.size_setCell, World.size_drew] | (with_reducible refine le_ext_of ?_) | (with_reducible refine le_ext_add ?_))); done)) | ((with_reducible refine Below.setCell ?_ ?_ _); rotate_left; focus (((try dsimp only); repeat (first | omega | simp only [World.size_alloc, World.size_setCell, World.size_drew] | (with_reducible refine le_ext_of ?_) | (with_reducible refine le_ext_add ?_))); done)) | (with_reducible refine Below.drew ?_)))⟩
set_option maxHeartbeats 1000000 in
theorem Wrong_ok (b : Sn) (p : Option Addr) (c : Nat) (w : World) (hk : SBk w b p) (hv : snB b = true) :
    Calls Tryd.prog 31 #[.agg #[.int .i64 b.lo, .int .i64 b.hi, .slice p b.ns.length c]] w fun e w' => ∃ (v : Value) (l : List Int), e = .returned (.tuple #[v, .int .i64 0]) ∧ ListAt w'.heap.size w' v l ∧ (∃ st, Rch b b.ns.length (st, l)) ∧ (∀ st l', Rch b b.ns.length (st, l') → fewerB l' l = false) ∧ Below w.heap.size w w' := by
  have hok := Ok9.of hv
  have HK := Lib.hid hk
  clear hk
  go_enter Tryd.func31, Tryd.ntmps31
  go_upto_region 4 with (go_at_call 16; refine (Check_eq b p c true _ (HK.out.bel (by (repeat (first | (with_reducible exact Below.refl _ _) | (with_reducible assumption) | ((with_reducible refine below_ext_trans ?_ ?_ _); rotate_left; focus (((try dsimp only); repeat (first | omega | simp only [World.size_alloc, World.size_setCell, World.size_drew] | (with_reducible refine le_ext_of ?_) | (with_reducible refine le_ext_add ?_))); done)) | ((with_reducible refine Below.alloc ?_ ?_ _); rotate_left; focus (((try dsimp only); repeat (first | omega | simp only [World.size_alloc, World.size_setCell, World.size_drew] | (with_reducible refine le_ext_of ?_) | (with_reducible refine le_ext_add ?_))); done)) | ((with_reducible refine Below.setCell ?_ ?_ _); rotate_left; focus (((try dsimp only); repeat (first | omega | simp only [World.size_alloc, World.size_setCell, World.size_drew] | (with_reducible refine le_ext_of ?_) | (with_reducible refine le_ext_add ?_))); done)) | (with_reducible refine Below.drew ?_))))) hv).mono ?_; rintro e w1 ⟨rfl, y, rfl⟩)
  generalize hW0 : ext _ y = W0
  have hB0 : Below w.heap.size w W0 := by rw [← hW0]; (repeat (first | (with_reducible exact Below.refl _ _) | (with_reducible assumption) | ((with_reducible refine below_ext_trans ?_ ?_ _); rotate_left; focus (((try dsimp only); repeat (first | omega | simp only [World.size_alloc, World.size_setCell, World.size_drew] | (with_reducible refine le_ext_of ?_) | (with_reducible refine le_ext_add ?_))); done)) | ((with_reducible refine Below.alloc ?_ ?_ _); rotate_left; focus (((try dsimp only); repeat (first | omega | simp only [World.size_alloc, World.size_setCell, World.size_drew] | (with_reducible refine le_ext_of ?_) | (with_reducible refine le_ext_add ?_))); done)) | ((with_reducible refine Below.setCell ?_ ?_ _); rotate_left; focus (((try dsimp only); repeat (first | omega | simp only [World.size_alloc, World.size_setCell, World.size_drew] | (with_reducible refine le_ext_of ?_) | (with_reducible refine le_ext_add ?_))); done)) | (with_reducible refine Below.drew ?_)))
  have hq0 : Blk W0 w.heap.size 26 #[.int .i64 b.lo, .int .i64 b.hi, .slice p b.ns.length c] := by rw [← hW0]; exact (Blk.new rfl).ext y
  clear hW0
  have q0 := hq0.cell 0
  have q1 := hq0.cell 1
  have q2 := hq0.cell 2
  simp only [List.size_toArray, List.length_cons, List.length_nil, Nat.reduceAdd, Nat.reduceLT, getElem?_pos, List.getElem_toArray, List.getElem_cons_zero, List.getElem_cons_succ] at q0 q1 q2
  have HB0 := Lib.hid hB0
  clear hB0 hq0
  go_wp2_with (first
    | (go_at_call 52; refine (newCatch_b b p c _ (HK.out.bel HB0.out) hok).mono ?_; rintro e w1 ⟨kd, hkd, rfl, y1, rfl⟩)
    | (go_at_call 76; refine (wrong_any b p c kd _ (HK.out.bel (HB0.out.trans ((below_ext _ _).mono HB0.out.size))).nt hok).mono ?_; rintro e w3 ⟨v, l, rfl, h1, h2, h3, h4⟩; obtain ⟨pv, cv, rfl, -⟩ := id h1; have H1 := Lib.hid h1; have H2 := Lib.hid h2; have H3 := Lib.hid h3; have H4 := Lib.hid h4; clear h1 h2 h3 h4))
  refine bodyPost_ret (v := .tuple #[.slice pv l.length cv, .int .i64 0]) ?_ ?_ ?_
  · simp [results, Tryd.results31, go_sem]
  · rfl
  · exact ⟨_, l, rfl, H1.out, H2.out, H3.out, HB0.out.trans (((below_ext _ _).mono HB0.out.size).trans (H4.out.mono (by have := HB0.out.size; have := (below_ext W0 y1).size; omega)))⟩
end Go.Proofs.YtjjfpbjdcmkkhaaDoor

