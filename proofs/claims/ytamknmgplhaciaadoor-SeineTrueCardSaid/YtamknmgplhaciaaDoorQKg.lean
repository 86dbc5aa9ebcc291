/- The walk of SeineTrue. Written by gen_true.py. -/
/- The walk of SeineTrue. Written by gen_true.py. -/
/- The walk of SeineTrue. Written by gen_true.py. -/
/- The walk of SeineTrue, whole. Written by gen_true.py. -/
import Derived.Test.YtamknmgplhaciaaDoorQPo
import Derived.Test.YtamknmgplhaciaaDoorQKf
import Derived.Test.YtamknmgplhaciaaDoorQKc
import Derived.RegionTactic
import Derived.BigQuiet
set_option linter.unusedSimpArgs false
set_option linter.unusedVariables false
namespace Go.Proofs.YtamknmgplhaciaaDoor
open Go Go.RowKit Go.Shelf
section
variable (y : Sn) (p : Option Addr) (c m : Nat) (w : World) (hk : SBk w y p) (hv : snB y = true) (hr : rightS y = true) (hm : y.ns.length = m)
include hk hv hr hm
theorem Held_m (h lo hi : Int) (hh : 0 ≤ h ∧ h ≤ 60) (h1 : minF Prod.fst 400 (atL y h) = lo) (h2 : maxF Prod.fst 0 (atL y h) = hi) : Calls Tryd.prog 20 #[.agg #[.int .i64 y.lo, .int .i64 y.hi, .slice p m c], .int .i64 h] w fun e w' => e = .returned (.tuple #[.agg #[.int .i64 lo, .int .i64 hi], .int .i64 0]) ∧ ∃ x, w' = ext w x := by
  subst hm; exact Held_is y p c h lo hi w hk hv hr hh h1 h2
theorem Rate_m (h lo hi : Int) (hh : 0 ≤ h ∧ h ≤ 60) (h1 : minF Prod.snd 400 (atL y h) = lo) (h2 : maxF Prod.snd 0 (atL y h) = hi) : Calls Tryd.prog 22 #[.agg #[.int .i64 y.lo, .int .i64 y.hi, .slice p m c], .int .i64 h] w fun e w' => e = .returned (.tuple #[.agg #[.int .i64 lo, .int .i64 hi], .int .i64 0]) ∧ ∃ x, w' = ext w x := by
  subst hm; exact Rate_is y p c h lo hi w hk hv hr hh h1 h2
theorem Can_m (h x : Int) (hh : 0 ≤ h ∧ h ≤ 60) (hx : 0 ≤ x ∧ x ≤ 400) (h1 : canB y h x = true) : Calls Tryd.prog 18 #[.agg #[.int .i64 y.lo, .int .i64 y.hi, .slice p m c], .int .i64 h, .int .i64 x] w fun e w' => e = .returned (.tuple #[.bool true, .int .i64 0]) ∧ ∃ x, w' = ext w x := by
  subst hm; exact Can_is y p c h x true w hk hv hr hh hx h1
theorem Saved_m (lo hi : Int) (h1 : minF (savS (60 - lastN y.ns)) 400 (atL y (lastN y.ns)) = lo) (h2 : maxF (savS (60 - lastN y.ns)) 0 (atL y (lastN y.ns)) = hi) : Calls Tryd.prog 27 #[.agg #[.int .i64 y.lo, .int .i64 y.hi, .slice p m c]] w fun e w' => e = .returned (.tuple #[.agg #[.int .i64 lo, .int .i64 hi], .int .i64 0]) ∧ ∃ x, w' = ext w x := by
  subst hm; exact Saved_is y p c lo hi w hk hv hr h1 h2
theorem Empty_mat (k : Nat) (h0 : k ≤ 60) (h1 : topH y k = 0) (h2 : ∀ j : Nat, j < k → topH y j ≠ 0) : Calls Tryd.prog 25 #[.agg #[.int .i64 y.lo, .int .i64 y.hi, .slice p m c]] w fun e w' => e = .returned (.tuple #[.int .i64 k, .int .i64 0]) ∧ ∃ x, w' = ext w x := by
  subst hm; exact Empty_at y p c k w hk hv hr h0 h1 h2
theorem Empty_mnon (h0 : ∀ j : Nat, j ≤ 60 → topH y j ≠ 0) : Calls Tryd.prog 25 #[.agg #[.int .i64 y.lo, .int .i64 y.hi, .slice p m c]] w fun e w' => e = .returned (.tuple #[.int .i64 0, .int .i64 4]) ∧ ∃ x, w' = ext w x := by
  subst hm; exact Empty_non y p c w hk hv hr h0
theorem Wrong_m : Calls Tryd.prog 31 #[.agg #[.int .i64 y.lo, .int .i64 y.hi, .slice p m c]] w fun e w' => ∃ (pw : Option Addr) (cw : Nat), e = .returned (.tuple #[.slice pw 0 cw, .int .i64 0]) ∧ ∃ x, w' = ext w x := by
  subst hm
  refine (Wrong_is y p c w hk hv).mono ?_
  rintro e w' ⟨pw, l, nl, cw, rfl, hl, -, hW, hx⟩
  have h0 := (wrong_none (Ok9.of hv) hW).2 hr
  have : nl = 0 := by omega
  subst this
  exact ⟨pw, cw, rfl, hx⟩
end
/-- What truly is held, and lost, at an hour. -/
def hvF (b : Sn) (v : Nat → Int) (j : Nat) : Int := (At b (stF b v) (j : Nat)).1
def rvF (b : Sn) (v : Nat → Int) (j : Nat) : Int := (At b (stF b v) (j : Nat)).2
theorem held_cell {b : Sn} {v : Nat → Int} {w : World} {b1 o1 : Nat} (h : IntsAt w (some ⟨b1, o1, none⟩) (heldL b v 61)) (j : Nat) (hj : j ≤ 60) : w.cell? ⟨b1, o1 + j, none⟩ = some (.int .i64 (hvF b v j)) ∧ b1 < w.heap.size := by
  obtain ⟨b2, o2, e, h1, h2⟩ := h j (hvF b v j) (by simp [heldL, hvF, List.getElem?_map, List.getElem?_range (show j < 61 by omega)])
  cases e
  exact ⟨h2, h1⟩
theorem rate_cell {b : Sn} {v : Nat → Int} {w : World} {b1 o1 : Nat} (h : IntsAt w (some ⟨b1, o1, none⟩) (rateL b v 61)) (j : Nat) (hj : j ≤ 60) : w.cell? ⟨b1, o1 + j, none⟩ = some (.int .i64 (rvF b v j)) ∧ b1 < w.heap.size := by
  obtain ⟨b2, o2, e, h1, h2⟩ := h j (rvF b v j) (by simp [rateL, rvF, List.getElem?_map, List.getElem?_range (show j < 61 by omega)])
  cases e
  exact ⟨h2, h1⟩
theorem ints_some {w : World} {p : Option Addr} {f : Nat → Int} (h : IntsAt w p ((List.range 61).map f)) : ∃ b1 o1, p = some ⟨b1, o1, none⟩ := by
  obtain ⟨b2, o2, e, -, -⟩ := h 0 (f 0) (by simp)
  exact ⟨b2, o2, e⟩
/-- What numbers choose to be true. -/
def vS (b : Sn) (bits : List Int) : Nat → Int
  | 0 => someI b.lo b.hi (pickI bits 0)
  | k + 1 => match b.ns[k]? with | some s => someI s.lo s.hi (pickI bits ((k : Int) + 1)) | none => 0
theorem vS_at {b : Sn} {bits : List Int} {k : Nat} {s : Nt} (hs : b.ns[k]? = some s) : someI s.lo s.hi (pickI bits ((k : Int) + 1)) = vS b bits (k + 1) := by
  show _ = (match b.ns[k]? with | some s => _ | none => _)
  rw [hs]
theorem vS_ok {b : Sn} (hok : Ok9 b) (bits : List Int) : Chosen b (vS b bits) :=
  ⟨someI_bd hok.span.2.2.2.2.1 _, fun k s hs => by
    rw [← vS_at hs]
    exact someI_bd (hok.nt hs).2.2.2.2.2.2.1 _⟩
/-- All that SeineTrue asks of what is told. -/
structure Told (b : Sn) (v : Nat → Int) : Prop where
  valid : snB (xS b v) = true
  right : rightS (xS b v) = true
  len : (xS b v).ns.length = b.ns.length
  last : lastN (xS b v).ns = lastN b.ns
  held : ∀ j : Nat, minF Prod.fst 400 (atL (xS b v) (j : Nat)) ≤ hvF b v j ∧ hvF b v j ≤ maxF Prod.fst 0 (atL (xS b v) (j : Nat))
  rate : ∀ j : Nat, minF Prod.snd 400 (atL (xS b v) (j : Nat)) ≤ rvF b v j ∧ rvF b v j ≤ maxF Prod.snd 0 (atL (xS b v) (j : Nat))
  can : ∀ j : Nat, canB (xS b v) (j : Nat) (hvF b v j) = true
  bd : ∀ j : Nat, 0 ≤ hvF b v j ∧ hvF b v j ≤ 400
  saved : ∀ j : Nat, lastN b.ns = (j : Nat) → minF (savS (60 - (j : Nat))) 400 (atL (xS b v) (j : Nat)) ≤ hvF b v j - hvF b v 60 ∧ hvF b v j - hvF b v 60 ≤ maxF (savS (60 - (j : Nat))) 0 (atL (xS b v) (j : Nat))
  top : ∀ j : Nat, hvF b v j ≤ topH (xS b v) j
theorem told_of {b : Sn} (hv : snB b = true) {v : Nat → Int} (hc : Chosen b v) : Told b v := by
  have hok := Ok9.of hv
  have hp := x_path hok hc
  have hv2 := x_valid hv hc
  have hok2 := Ok9.of hv2
  have hr := rightS_iff.2 ⟨_, hp⟩
  have hat : ∀ h, At (xS b v) (stF b v) h = At b (stF b v) h := fun h => x_at _ h
  have hl : lastN (xS b v).ns = lastN b.ns := (x_ok hok hc _ (Nat.le_refl _)).2
  have hh : ∀ j : Nat, minF Prod.fst 400 (atL (xS b v) (j : Nat)) ≤ hvF b v j ∧ hvF b v j ≤ maxF Prod.fst 0 (atL (xS b v) (j : Nat)) := fun j => by
    have := (ends_held hok2 hr (j : Nat)).all _ hp
    try dsimp only at this
    rw [hat] at this
    exact this
  refine ⟨hv2, hr, xN_len _ (Nat.le_refl _), hl, hh, fun j => ?_, fun j => ?_, fun j => ?_, fun j hj => ?_, fun j => ?_⟩
  · have := (ends_rate hok2 hr (j : Nat)).all _ hp
    try dsimp only at this
    rw [hat] at this
    exact this
  · refine can_iff.2 ⟨_, hp, ?_⟩
    rw [hat]
    rfl
  · have := (At_bd hok2 hp (j : Nat)).1
    rw [hat] at this
    exact this
  · have h1 := (ends_saved hok2 hr (j : Nat) (60 - (j : Nat))).all _ hp
    have h2 := saved_path hok2 hp (t := 60) (lastN_bd hok2).2
    rw [hl, hj] at h2
    try dsimp only at h1
    rw [h2, hat, hat] at h1
    exact h1
  · exact (hh j).2
attribute [local go_sem] Oper.semAt_some frozen_alloc_lt
set_option maxRecDepth 100000 in
set_option maxHeartbeats 4000000 in
theorem SeineTrue_bad (b : Sn) (p : Option Addr) (c : Nat) (pi : Option Addr) (ci nb : Nat) (n : Int) (w : World) (hk : SBk w b p) (hv : snB b = false) :
    Calls Tryd.prog 6 #[bV b p c, .slice pi nb ci, .int .i64 n] w fun e w' => e = .returned (.bool true) ∧ ∃ x, w' = ext w x := by
  have HK := Lib.hid hk
  clear hk
  go_enter Tryd.func6, Tryd.ntmps6
  go_wp2_with (first
    | (go_at_call 34; refine (sound_no b p c _ (HK.out.bel (by (repeat (first | (with_reducible exact Below.refl _ _) | (with_reducible assumption) | ((with_reducible refine below_ext_trans ?_ ?_ _); rotate_left; focus (((try dsimp only); repeat (first | omega | simp only [World.size_alloc, World.size_setCell, World.size_drew] | (with_reducible refine le_ext_of ?_) | (with_reducible refine le_ext_add ?_))); done)) | ((with_reducible refine Below.alloc ?_ ?_ _); rotate_left; focus (((try dsimp only); repeat (first | omega | simp only [World.size_alloc, World.size_setCell, World.size_drew] | (with_reducible refine le_ext_of ?_) | (with_reducible refine le_ext_add ?_))); done)) | ((with_reducible refine Below.setCell ?_ ?_ _); rotate_left; focus (((try dsimp only); repeat (first | omega | simp only [World.size_alloc, World.size_setCell, World.size_drew] | (with_reducible refine le_ext_of ?_) | (with_reducible refine le_ext_add ?_))); done)) | (with_reducible refine Below.drew ?_))))) hv).mono ?_; rintro e w1 ⟨rfl, y, rfl⟩)
    | (go_at_call 24; refine (sounded_any _ (HK.out.mm.below (by (repeat (first | (with_reducible exact Below.refl _ _) | (with_reducible assumption) | ((with_reducible refine below_ext_trans ?_ ?_ _); rotate_left; focus (((try dsimp only); repeat (first | omega | simp only [World.size_alloc, World.size_setCell, World.size_drew] | (with_reducible refine le_ext_of ?_) | (with_reducible refine le_ext_add ?_))); done)) | ((with_reducible refine Below.alloc ?_ ?_ _); rotate_left; focus (((try dsimp only); repeat (first | omega | simp only [World.size_alloc, World.size_setCell, World.size_drew] | (with_reducible refine le_ext_of ?_) | (with_reducible refine le_ext_add ?_))); done)) | ((with_reducible refine Below.setCell ?_ ?_ _); rotate_left; focus (((try dsimp only); repeat (first | omega | simp only [World.size_alloc, World.size_setCell, World.size_drew] | (with_reducible refine le_ext_of ?_) | (with_reducible refine le_ext_add ?_))); done)) | (with_reducible refine Below.drew ?_)))))).mono ?_; rintro e w1 ⟨rfl, y, rfl⟩))
  go_ret
  exact ⟨rfl, by (exact ext_of (by (repeat (first | (with_reducible exact Below.refl _ _) | (with_reducible assumption) | ((with_reducible refine below_ext_trans ?_ ?_ _); rotate_left; focus (((try dsimp only); repeat (first | omega | simp only [World.size_alloc, World.size_setCell, World.size_drew] | (with_reducible refine le_ext_of ?_) | (with_reducible refine le_ext_add ?_))); done)) | ((with_reducible refine Below.alloc ?_ ?_ _); rotate_left; focus (((try dsimp only); repeat (first | omega | simp only [World.size_alloc, World.size_setCell, World.size_drew] | (with_reducible refine le_ext_of ?_) | (with_reducible refine le_ext_add ?_))); done)) | ((with_reducible refine Below.setCell ?_ ?_ _); rotate_left; focus (((try dsimp only); repeat (first | omega | simp only [World.size_alloc, World.size_setCell, World.size_drew] | (with_reducible refine le_ext_of ?_) | (with_reducible refine le_ext_add ?_))); done)) | (with_reducible refine Below.drew ?_)))))⟩
end Go.Proofs.YtamknmgplhaciaaDoor

namespace Go.Proofs.YtamknmgplhaciaaDoor
open Go Go.RowKit Go.Shelf
attribute [local go_sem] Oper.semAt_some frozen_alloc_lt
set_option maxRecDepth 100000 in
set_option maxHeartbeats 16000000 in
theorem SeineTrue_more (b : Sn) (p : Option Addr) (c : Nat) (pi : Option Addr) (ci nb : Nat) (bits : List Int) (n : Int) (v : Nat → Int) (pk0 v0 : Int) (r ln : Nat) (w : World) (hk : SBk w b p) (hv : snB b = true) (hc : Chosen b v) (hi : IntsAt w pi bits) (hbl : (bits.length : Int) ≤ 9223372036854775807) (hn : bits.length = nb) (hpk0 : pickI bits 0 = pk0) (hv0 : someI b.lo b.hi pk0 = v0) (hvz : v 0 = v0)
    (hvn : ∀ (k : Nat) (s : Nt), b.ns[k]? = some s → someI s.lo s.hi (pickI bits ((k : Int) + 1)) = v (k + 1)) (hln : lastN b.ns = (ln : Nat)) (hrr : n % 61 = (r : Nat)) (k : Nat) (s : Nt) (hmk : b.ns.length = k + 1) (hsx : (xS b v).ns[k]? = some s) (hsh : s.hour = (ln : Nat)) :
    Calls Tryd.prog 6 #[bV b p c, .slice pi nb ci, .int .i64 n] w fun e w' => e = .returned (.bool true) ∧ ∃ x, w' = ext w x := by
  have hT := told_of hv hc
  obtain ⟨s1, hs1⟩ : ∃ x, minF (savS (60 - (ln : Nat))) 400 (atL (xS b v) (ln : Nat)) = x := ⟨_, rfl⟩
  obtain ⟨s2, hs2⟩ : ∃ x, maxF (savS (60 - (ln : Nat))) 0 (atL (xS b v) (ln : Nat)) = x := ⟨_, rfl⟩
  have hsv := hT.saved ln hln
  rw [hs1, hs2] at hsv
  have b0 := lastN_bd (Ok9.of hv)
  rw [hln] at b0
  have hl60 : ln ≤ 60 := by omega
  have hr60 : r ≤ 60 := by omega
  have hlen := snB_len hv
  have HL60 := Lib.hid hl60
  have HR60 := Lib.hid hr60
  have HT := Lib.hid hT
  have HSV := Lib.hid hsv
  have HS1 := Lib.hid (show minF (savS (60 - lastN (xS b v).ns)) 400 (atL (xS b v) (lastN (xS b v).ns)) = s1 by rw [hT.last, hln]; exact hs1)
  have HS2 := Lib.hid (show maxF (savS (60 - lastN (xS b v).ns)) 0 (atL (xS b v) (lastN (xS b v).ns)) = s2 by rw [hT.last, hln]; exact hs2)
  have HM := Lib.hid hT.len
  have HRR := Lib.hid hrr
  have HK := Lib.hid hk
  have HV := Lib.hid hv
  have HLV := Lib.hid (fun w hw hwi => lived_any b p c pi ci nb bits v pk0 v0 w hw (Ok9.of hv) hc hwi hbl hn hpk0 hv0 hvz hvn)
  have HI := Lib.hid hi
  have HMK := Lib.hid hmk
  have HSX := Lib.hid hsx
  have HSH := Lib.hid hsh
  clear hmk hsx hsh
  clear hk hv hc hi hbl hn hpk0 hv0 hvz hvn hT hs1 hs2 hsv b0 hl60 hr60 hln hrr
  go_enter Tryd.func6, Tryd.ntmps6
  go_upto_region 3 with (go_at_call 34; refine (sound_yes b p c _ (HK.out.bel (by (repeat (first | (with_reducible exact Below.refl _ _) | (with_reducible assumption) | ((with_reducible refine below_ext_trans ?_ ?_ _); rotate_left; focus (((try dsimp only); repeat (first | omega | simp only [World.size_alloc, World.size_setCell, World.size_drew] | (with_reducible refine le_ext_of ?_) | (with_reducible refine le_ext_add ?_))); done)) | ((with_reducible refine Below.alloc ?_ ?_ _); rotate_left; focus (((try dsimp only); repeat (first | omega | simp only [World.size_alloc, World.size_setCell, World.size_drew] | (with_reducible refine le_ext_of ?_) | (with_reducible refine le_ext_add ?_))); done)) | ((with_reducible refine Below.setCell ?_ ?_ _); rotate_left; focus (((try dsimp only); repeat (first | omega | simp only [World.size_alloc, World.size_setCell, World.size_drew] | (with_reducible refine le_ext_of ?_) | (with_reducible refine le_ext_add ?_))); done)) | (with_reducible refine Below.drew ?_))))) HV.out).mono ?_; rintro e w1 ⟨rfl, y, rfl⟩)
  generalize hX : ext (w.alloc _) _ = W
  have hB : Below w.heap.size w W := by rw [← hX]; (repeat (first | (with_reducible exact Below.refl _ _) | (with_reducible assumption) | ((with_reducible refine below_ext_trans ?_ ?_ _); rotate_left; focus (((try dsimp only); repeat (first | omega | simp only [World.size_alloc, World.size_setCell, World.size_drew] | (with_reducible refine le_ext_of ?_) | (with_reducible refine le_ext_add ?_))); done)) | ((with_reducible refine Below.alloc ?_ ?_ _); rotate_left; focus (((try dsimp only); repeat (first | omega | simp only [World.size_alloc, World.size_setCell, World.size_drew] | (with_reducible refine le_ext_of ?_) | (with_reducible refine le_ext_add ?_))); done)) | ((with_reducible refine Below.setCell ?_ ?_ _); rotate_left; focus (((try dsimp only); repeat (first | omega | simp only [World.size_alloc, World.size_setCell, World.size_drew] | (with_reducible refine le_ext_of ?_) | (with_reducible refine le_ext_add ?_))); done)) | (with_reducible refine Below.drew ?_)))
  have Kb := Lib.hid (show Blk W w.heap.size 26 #[.int .i64 b.lo, .int .i64 b.hi, .slice p b.ns.length c] by rw [← hX]; exact (Blk.new rfl).ext _)
  have HBW := Lib.hid hB
  have HK1 := Lib.hid (HK.out.bel hB)
  clear hX hB
  have qb0 := Kb.out.cell 0
  have qb1 := Kb.out.cell 1
  have qb2 := Kb.out.cell 2
  have lb := Kb.out.lt
  simp only [List.size_toArray, List.length_cons, List.length_nil, Nat.reduceAdd, Nat.reduceLT, getElem?_pos, List.getElem_toArray, List.getElem_cons_zero, List.getElem_cons_succ] at qb0 qb1 qb2
  go_upto_region 4 with (go_at_call 35; refine (HLV.out _ HK1.out (HI.out.below HBW.out)).mono ?_; rintro e wu ⟨q, p1, p2, d, c1, c2, rfl, hO, hi1, hi2, y, rfl⟩)
  generalize hX : ((ext W y).alloc _).alloc _ = X0
  obtain ⟨gx, hg⟩ : ∃ gx, (ext W y).heap.size = gx := ⟨_, rfl⟩
  have hEX : Below (ext W y).heap.size (ext W y) X0 := by rw [← hX]; (repeat (first | (with_reducible exact Below.refl _ _) | (with_reducible assumption) | ((with_reducible refine below_ext_trans ?_ ?_ _); rotate_left; focus (((try dsimp only); repeat (first | omega | simp only [World.size_alloc, World.size_setCell, World.size_drew] | (with_reducible refine le_ext_of ?_) | (with_reducible refine le_ext_add ?_))); done)) | ((with_reducible refine Below.alloc ?_ ?_ _); rotate_left; focus (((try dsimp only); repeat (first | omega | simp only [World.size_alloc, World.size_setCell, World.size_drew] | (with_reducible refine le_ext_of ?_) | (with_reducible refine le_ext_add ?_))); done)) | ((with_reducible refine Below.setCell ?_ ?_ _); rotate_left; focus (((try dsimp only); repeat (first | omega | simp only [World.size_alloc, World.size_setCell, World.size_drew] | (with_reducible refine le_ext_of ?_) | (with_reducible refine le_ext_add ?_))); done)) | (with_reducible refine Below.drew ?_)))
  have hBX : Below W.heap.size W X0 := by rw [← hX]; (repeat (first | (with_reducible exact Below.refl _ _) | (with_reducible assumption) | ((with_reducible refine below_ext_trans ?_ ?_ _); rotate_left; focus (((try dsimp only); repeat (first | omega | simp only [World.size_alloc, World.size_setCell, World.size_drew] | (with_reducible refine le_ext_of ?_) | (with_reducible refine le_ext_add ?_))); done)) | ((with_reducible refine Below.alloc ?_ ?_ _); rotate_left; focus (((try dsimp only); repeat (first | omega | simp only [World.size_alloc, World.size_setCell, World.size_drew] | (with_reducible refine le_ext_of ?_) | (with_reducible refine le_ext_add ?_))); done)) | ((with_reducible refine Below.setCell ?_ ?_ _); rotate_left; focus (((try dsimp only); repeat (first | omega | simp only [World.size_alloc, World.size_setCell, World.size_drew] | (with_reducible refine le_ext_of ?_) | (with_reducible refine le_ext_add ?_))); done)) | (with_reducible refine Below.drew ?_)))
  have HBX0 := Lib.hid (HBW.out.trans (hBX.mono HBW.out.size))
  obtain ⟨b1, o1, hp1⟩ := ints_some (f := hvF b v) (by unfold hvF; exact hi1)
  obtain ⟨b2, o2, hp2⟩ := ints_some (f := rvF b v) (by unfold rvF; exact hi2)
  subst hp1 hp2
  have HI1 := Lib.hid (hi1.below hEX)
  have HJ1 := Lib.hid (hi2.below hEX)
  have HXK := Lib.hid ((SBk.own (b := xS b v) (B := W.heap.size) (c := d) (by rw [HM.out]; exact hO) (HK1.out.bel (below_ext _ _)).mm).bel hEX)
  have Nb := Lib.hid (show Blk X0 w.heap.size 26 #[.int .i64 b.lo, .int .i64 b.hi, .slice p b.ns.length c] from Kb.out.bel hBX)
  have Kx := Lib.hid (show Blk X0 gx 26 #[.int .i64 b.lo, .int .i64 b.hi, .slice q b.ns.length d] by rw [← hX]; exact (Blk.new hg.symm).alloc _)
  have Kd := Lib.hid (show Blk X0 (gx + 1) 50 #[.slice (some ⟨b1, o1, none⟩) 61 c1, .slice (some ⟨b2, o2, none⟩) 61 c2] by rw [← hX]; exact Blk.new (by simp; omega))
  have HK2 := Lib.hid (HK1.out.bel hBX)
  rw [hg]
  clear qb0 qb1 qb2 lb
  clear hX hg hEX hBX hO hi1 hi2 HK1 Kb HBW
  have HK1 := HK2
  have Kb := Nb
  clear HK2 Nb
  have qb0 := Kb.out.cell 0
  have qb1 := Kb.out.cell 1
  have qb2 := Kb.out.cell 2
  have lb := Kb.out.lt
  have qx0 := Kx.out.cell 0
  have qx1 := Kx.out.cell 1
  have qx2 := Kx.out.cell 2
  have lx := Kx.out.lt
  have qd0 := Kd.out.cell 0
  have qd1 := Kd.out.cell 1
  have ld := Kd.out.lt
  simp only [List.size_toArray, List.length_cons, List.length_nil, Nat.reduceAdd, Nat.reduceLT, getElem?_pos, List.getElem_toArray, List.getElem_cons_zero, List.getElem_cons_succ] at qb0 qb1 qb2 qx0 qx1 qx2 qd0 qd1
  go_upto_region 5 with (go_at_call 14; refine (Right_m (xS b v) q d b.ns.length true _ HXK.out HT.out.valid HT.out.right HM.out).mono ?_; rintro e wu ⟨rfl, y, rfl⟩)
  generalize hX : ext X0 y = X1 at *
  have hBX : Below X0.heap.size X0 X1 := by rw [← hX]; (repeat (first | (with_reducible exact Below.refl _ _) | (with_reducible assumption) | ((with_reducible refine below_ext_trans ?_ ?_ _); rotate_left; focus (((try dsimp only); repeat (first | omega | simp only [World.size_alloc, World.size_setCell, World.size_drew] | (with_reducible refine le_ext_of ?_) | (with_reducible refine le_ext_add ?_))); done)) | ((with_reducible refine Below.alloc ?_ ?_ _); rotate_left; focus (((try dsimp only); repeat (first | omega | simp only [World.size_alloc, World.size_setCell, World.size_drew] | (with_reducible refine le_ext_of ?_) | (with_reducible refine le_ext_add ?_))); done)) | ((with_reducible refine Below.setCell ?_ ?_ _); rotate_left; focus (((try dsimp only); repeat (first | omega | simp only [World.size_alloc, World.size_setCell, World.size_drew] | (with_reducible refine le_ext_of ?_) | (with_reducible refine le_ext_add ?_))); done)) | (with_reducible refine Below.drew ?_)))
  have HBX := Lib.hid (HBX0.out.trans (hBX.mono HBX0.out.size))
  have Nb := Lib.hid (show Blk X1 w.heap.size 26 #[.int .i64 b.lo, .int .i64 b.hi, .slice p b.ns.length c] from Kb.out.bel hBX)
  have Nx := Lib.hid (show Blk X1 gx 26 #[.int .i64 b.lo, .int .i64 b.hi, .slice q b.ns.length d] from Kx.out.bel hBX)
  have Nd := Lib.hid (show Blk X1 (gx + 1) 50 #[.slice (some ⟨b1, o1, none⟩) 61 c1, .slice (some ⟨b2, o2, none⟩) 61 c2] from Kd.out.bel hBX)
  have HK2 := Lib.hid (HK1.out.bel hBX); clear HK1; have HK1 := HK2; clear HK2; have HX2 := Lib.hid (HXK.out.bel hBX); clear HXK; have HXK := HX2; clear HX2; have HI2 := Lib.hid (HI1.out.below hBX); clear HI1; have HI1 := HI2; clear HI2; have HJ2 := Lib.hid (HJ1.out.below hBX); clear HJ1; have HJ1 := HJ2; clear HJ2
  clear qb0 qb1 qb2 qx0 qx1 qx2 qd0 qd1 lb lx ld
  clear hX hBX HBX0 Kb Kx Kd
  have Kb := Nb
  have Kx := Nx
  have Kd := Nd
  clear Nb Nx Nd
  have HBX1 := HBX
  clear HBX
  have qb0 := Kb.out.cell 0
  have qb1 := Kb.out.cell 1
  have qb2 := Kb.out.cell 2
  have lb := Kb.out.lt
  have qx0 := Kx.out.cell 0
  have qx1 := Kx.out.cell 1
  have qx2 := Kx.out.cell 2
  have lx := Kx.out.lt
  have qd0 := Kd.out.cell 0
  have qd1 := Kd.out.cell 1
  have ld := Kd.out.lt
  simp only [List.size_toArray, List.length_cons, List.length_nil, Nat.reduceAdd, Nat.reduceLT, getElem?_pos, List.getElem_toArray, List.getElem_cons_zero, List.getElem_cons_succ] at qb0 qb1 qb2 qx0 qx1 qx2 qd0 qd1
  go_upto_region 6 with (go_at_call 31; refine (Wrong_m (xS b v) q d b.ns.length _ HXK.out HT.out.valid HT.out.right HM.out).mono ?_; rintro e wu ⟨pw, cw, rfl, y, rfl⟩)
  generalize hX : ext X1 y = X2 at *
  have hBX : Below X1.heap.size X1 X2 := by rw [← hX]; (repeat (first | (with_reducible exact Below.refl _ _) | (with_reducible assumption) | ((with_reducible refine below_ext_trans ?_ ?_ _); rotate_left; focus (((try dsimp only); repeat (first | omega | simp only [World.size_alloc, World.size_setCell, World.size_drew] | (with_reducible refine le_ext_of ?_) | (with_reducible refine le_ext_add ?_))); done)) | ((with_reducible refine Below.alloc ?_ ?_ _); rotate_left; focus (((try dsimp only); repeat (first | omega | simp only [World.size_alloc, World.size_setCell, World.size_drew] | (with_reducible refine le_ext_of ?_) | (with_reducible refine le_ext_add ?_))); done)) | ((with_reducible refine Below.setCell ?_ ?_ _); rotate_left; focus (((try dsimp only); repeat (first | omega | simp only [World.size_alloc, World.size_setCell, World.size_drew] | (with_reducible refine le_ext_of ?_) | (with_reducible refine le_ext_add ?_))); done)) | (with_reducible refine Below.drew ?_)))
  have HBX := Lib.hid (HBX1.out.trans (hBX.mono HBX1.out.size))
  have Nb := Lib.hid (show Blk X2 w.heap.size 26 #[.int .i64 b.lo, .int .i64 b.hi, .slice p b.ns.length c] from Kb.out.bel hBX)
  have Nx := Lib.hid (show Blk X2 gx 26 #[.int .i64 b.lo, .int .i64 b.hi, .slice q b.ns.length d] from Kx.out.bel hBX)
  have Nd := Lib.hid (show Blk X2 (gx + 1) 50 #[.slice (some ⟨b1, o1, none⟩) 61 c1, .slice (some ⟨b2, o2, none⟩) 61 c2] from Kd.out.bel hBX)
  have HK2 := Lib.hid (HK1.out.bel hBX); clear HK1; have HK1 := HK2; clear HK2; have HX2 := Lib.hid (HXK.out.bel hBX); clear HXK; have HXK := HX2; clear HX2; have HI2 := Lib.hid (HI1.out.below hBX); clear HI1; have HI1 := HI2; clear HI2; have HJ2 := Lib.hid (HJ1.out.below hBX); clear HJ1; have HJ1 := HJ2; clear HJ2
  clear qb0 qb1 qb2 qx0 qx1 qx2 qd0 qd1 lb lx ld
  clear hX hBX HBX1 Kb Kx Kd
  have Kb := Nb
  have Kx := Nx
  have Kd := Nd
  clear Nb Nx Nd
  have HBX2 := HBX
  clear HBX
  have qb0 := Kb.out.cell 0
  have qb1 := Kb.out.cell 1
  have qb2 := Kb.out.cell 2
  have lb := Kb.out.lt
  have qx0 := Kx.out.cell 0
  have qx1 := Kx.out.cell 1
  have qx2 := Kx.out.cell 2
  have lx := Kx.out.lt
  have qd0 := Kd.out.cell 0
  have qd1 := Kd.out.cell 1
  have ld := Kd.out.lt
  simp only [List.size_toArray, List.length_cons, List.length_nil, Nat.reduceAdd, Nat.reduceLT, getElem?_pos, List.getElem_toArray, List.getElem_cons_zero, List.getElem_cons_succ] at qb0 qb1 qb2 qx0 qx1 qx2 qd0 qd1
  have hmk := HMK.out
  have hg0 : decide (0 < b.ns.length) = true := by simpa using (show 0 < b.ns.length by omega)
  have e1 : IntKind.i64.wrap ((b.ns.length : Int) - 1) = (k : Int) := by rw [IntWalk.i64_in _ (by omega)]; omega
  have hk0 : (0 : Int) ≤ (k : Int) := by omega
  have hkl : (k : Int) < (b.ns.length : Int) := by omega
  obtain ⟨bb, o, hp, hbb, c0, f1, f2, c3⟩ := HXK.out.nt k s HSX.out
  rw [HSH.out] at f1
  rw [hp] at qx2
  have HPQ := Lib.hid hp
  clear hmk hp
  go_upto_region 9 with fail
  clear c0 f1 f2 c3 hkl hk0 e1 hg0 hbb
  rw [← HPQ.out] at qx2
  clear HPQ
  go_upto_region 10 with (go_at_call 27; refine (Saved_m (xS b v) q d b.ns.length _ HXK.out HT.out.valid HT.out.right HM.out s1 s2 HS1.out HS2.out).mono ?_; rintro e wu ⟨rfl, y, rfl⟩)
  generalize hX : (ext X2 y).alloc _ = X3
  generalize hg : (ext X2 y).heap.size = gs at *
  have hBX : Below X2.heap.size X2 X3 := by rw [← hX]; (repeat (first | (with_reducible exact Below.refl _ _) | (with_reducible assumption) | ((with_reducible refine below_ext_trans ?_ ?_ _); rotate_left; focus (((try dsimp only); repeat (first | omega | simp only [World.size_alloc, World.size_setCell, World.size_drew] | (with_reducible refine le_ext_of ?_) | (with_reducible refine le_ext_add ?_))); done)) | ((with_reducible refine Below.alloc ?_ ?_ _); rotate_left; focus (((try dsimp only); repeat (first | omega | simp only [World.size_alloc, World.size_setCell, World.size_drew] | (with_reducible refine le_ext_of ?_) | (with_reducible refine le_ext_add ?_))); done)) | ((with_reducible refine Below.setCell ?_ ?_ _); rotate_left; focus (((try dsimp only); repeat (first | omega | simp only [World.size_alloc, World.size_setCell, World.size_drew] | (with_reducible refine le_ext_of ?_) | (with_reducible refine le_ext_add ?_))); done)) | (with_reducible refine Below.drew ?_)))
  have HBX := Lib.hid (HBX2.out.trans (hBX.mono HBX2.out.size))
  have Nb := Lib.hid (show Blk X3 w.heap.size 26 #[.int .i64 b.lo, .int .i64 b.hi, .slice p b.ns.length c] from Kb.out.bel hBX)
  have Nx := Lib.hid (show Blk X3 gx 26 #[.int .i64 b.lo, .int .i64 b.hi, .slice q b.ns.length d] from Kx.out.bel hBX)
  have Nd := Lib.hid (show Blk X3 (gx + 1) 50 #[.slice (some ⟨b1, o1, none⟩) 61 c1, .slice (some ⟨b2, o2, none⟩) 61 c2] from Kd.out.bel hBX)
  have Ns := Lib.hid (show Blk X3 gs 23 #[.int .i64 s1, .int .i64 s2] by rw [← hX]; exact Blk.new hg.symm)
  have HK2 := Lib.hid (HK1.out.bel hBX); clear HK1; have HK1 := HK2; clear HK2; have HX2 := Lib.hid (HXK.out.bel hBX); clear HXK; have HXK := HX2; clear HX2; have HI2 := Lib.hid (HI1.out.below hBX); clear HI1; have HI1 := HI2; clear HI2; have HJ2 := Lib.hid (HJ1.out.below hBX); clear HJ1; have HJ1 := HJ2; clear HJ2
  clear qb0 qb1 qb2 qx0 qx1 qx2 qd0 qd1 lb lx ld
  clear hX hBX HBX2 hg Kb Kx Kd
  have Kb := Nb
  have Kx := Nx
  have Kd := Nd
  have Ks := Ns
  clear Nb Nx Nd Ns
  have HBX3 := HBX
  clear HBX
  have qb0 := Kb.out.cell 0
  have qb1 := Kb.out.cell 1
  have qb2 := Kb.out.cell 2
  have lb := Kb.out.lt
  have qx0 := Kx.out.cell 0
  have qx1 := Kx.out.cell 1
  have qx2 := Kx.out.cell 2
  have lx := Kx.out.lt
  have qd0 := Kd.out.cell 0
  have qd1 := Kd.out.cell 1
  have ld := Kd.out.lt
  have qs0 := Ks.out.cell 0
  have qs1 := Ks.out.cell 1
  have ls := Ks.out.lt
  simp only [List.size_toArray, List.length_cons, List.length_nil, Nat.reduceAdd, Nat.reduceLT, getElem?_pos, List.getElem_toArray, List.getElem_cons_zero, List.getElem_cons_succ] at qb0 qb1 qb2 qx0 qx1 qx2 qd0 qd1 qs0 qs1
  obtain ⟨a1, la1⟩ := held_cell HI1.out ln HL60.out
  obtain ⟨a2, -⟩ := held_cell HI1.out 60 (by omega)
  have i0 : (0 : Int) ≤ (ln : Int) := by omega
  have i1 : (ln : Int) < 61 := by have := HL60.out; omega
  have hb1 := HT.out.bd ln
  have hb2 := HT.out.bd 60
  have ew : IntKind.i64.wrap (hvF b v ln - hvF b v 60) = hvF b v ln - hvF b v 60 := IntWalk.i64_in _ (by omega)
  obtain ⟨sv1, sv2⟩ := HSV.out
  clear hb1 hb2
  refine wp_region_ext (by kernel_rfl) (by kernel_rfl) ?_
  repeat (go_big_quiet_step (first | (go_at_call 36; exact quiet_ext (Holds_yes s1 s2 (hvF b v ln - hvF b v 60) _ sv1 sv2))))
  (refine wpQuiet_nil ?_; rintro _ ⟨x, rfl⟩)
  generalize hX : ext X3 _ = Y4
  have hBX : Below X3.heap.size X3 Y4 := by rw [← hX]; exact below_ext _ _
  have HBY4 := Lib.hid (HBX3.out.trans (hBX.mono HBX3.out.size))
  have HK2 := Lib.hid (HK1.out.bel hBX); clear HK1; have HK1 := HK2; clear HK2; have HX2 := Lib.hid (HXK.out.bel hBX); clear HXK; have HXK := HX2; clear HX2; have HI2 := Lib.hid (HI1.out.below hBX); clear HI1; have HI1 := HI2; clear HI2; have HJ2 := Lib.hid (HJ1.out.below hBX); clear HJ1; have HJ1 := HJ2; clear HJ2
  have Nb := Lib.hid (show Blk Y4 w.heap.size 26 #[.int .i64 b.lo, .int .i64 b.hi, .slice p b.ns.length c] from Kb.out.bel hBX)
  have Nx := Lib.hid (show Blk Y4 gx 26 #[.int .i64 b.lo, .int .i64 b.hi, .slice q b.ns.length d] from Kx.out.bel hBX)
  have Nd := Lib.hid (show Blk Y4 (gx + 1) 50 #[.slice (some ⟨b1, o1, none⟩) 61 c1, .slice (some ⟨b2, o2, none⟩) 61 c2] from Kd.out.bel hBX)
  have Ns := Lib.hid (show Blk Y4 gs 23 #[.int .i64 s1, .int .i64 s2] from Ks.out.bel hBX)
  clear qb0 qb1 qb2 qx0 qx1 qx2 qd0 qd1 qs0 qs1 lb lx ld ls
  clear hX hBX HBX3 Kb Kx Kd Ks
  have Kb := Nb
  have Kx := Nx
  have Kd := Nd
  have Ks := Ns
  clear Nb Nx Nd Ns
  have qb0 := Kb.out.cell 0
  have qb1 := Kb.out.cell 1
  have qb2 := Kb.out.cell 2
  have lb := Kb.out.lt
  have qx0 := Kx.out.cell 0
  have qx1 := Kx.out.cell 1
  have qx2 := Kx.out.cell 2
  have lx := Kx.out.lt
  have qd0 := Kd.out.cell 0
  have qd1 := Kd.out.cell 1
  have ld := Kd.out.lt
  have qs0 := Ks.out.cell 0
  have qs1 := Ks.out.cell 1
  have ls := Ks.out.lt
  simp only [List.size_toArray, List.length_cons, List.length_nil, Nat.reduceAdd, Nat.reduceLT, getElem?_pos, List.getElem_toArray, List.getElem_cons_zero, List.getElem_cons_succ] at qb0 qb1 qb2 qx0 qx1 qx2 qd0 qd1 qs0 qs1
  clear a1 la1 a2 i0 i1 ew sv1 sv2
  go_upto_region 12 with fail
  have i2 : IntKind.i64.wrap (0 : Int) = 0 := by rfl
  clear i2
  go_upto_region 13 with (go_at_call 37; refine (Wheel_eq n 61 r _ (by decide) HRR.out).mono ?_; rintro e wu ⟨rfl, y, rfl⟩)
  generalize hX : (ext Y4 y).alloc _ = X5
  generalize hg : (ext Y4 y).heap.size = gl at *
  have hBX : Below Y4.heap.size Y4 X5 := by rw [← hX]; (repeat (first | (with_reducible exact Below.refl _ _) | (with_reducible assumption) | ((with_reducible refine below_ext_trans ?_ ?_ _); rotate_left; focus (((try dsimp only); repeat (first | omega | simp only [World.size_alloc, World.size_setCell, World.size_drew] | (with_reducible refine le_ext_of ?_) | (with_reducible refine le_ext_add ?_))); done)) | ((with_reducible refine Below.alloc ?_ ?_ _); rotate_left; focus (((try dsimp only); repeat (first | omega | simp only [World.size_alloc, World.size_setCell, World.size_drew] | (with_reducible refine le_ext_of ?_) | (with_reducible refine le_ext_add ?_))); done)) | ((with_reducible refine Below.setCell ?_ ?_ _); rotate_left; focus (((try dsimp only); repeat (first | omega | simp only [World.size_alloc, World.size_setCell, World.size_drew] | (with_reducible refine le_ext_of ?_) | (with_reducible refine le_ext_add ?_))); done)) | (with_reducible refine Below.drew ?_)))
  have HBX := Lib.hid (HBY4.out.trans (hBX.mono HBY4.out.size))
  have Nb := Lib.hid (show Blk X5 w.heap.size 26 #[.int .i64 b.lo, .int .i64 b.hi, .slice p b.ns.length c] from Kb.out.bel hBX)
  have Nx := Lib.hid (show Blk X5 gx 26 #[.int .i64 b.lo, .int .i64 b.hi, .slice q b.ns.length d] from Kx.out.bel hBX)
  have Nd := Lib.hid (show Blk X5 (gx + 1) 50 #[.slice (some ⟨b1, o1, none⟩) 61 c1, .slice (some ⟨b2, o2, none⟩) 61 c2] from Kd.out.bel hBX)
  have Ns := Lib.hid (show Blk X5 gs 23 #[.int .i64 s1, .int .i64 s2] from Ks.out.bel hBX)
  have Nl := Lib.hid (show Blk X5 gl 3 #[.int .i64 0, .int .i64 (ln : Nat), .int .i64 (r : Nat), .int .i64 60] by rw [← hX]; exact Blk.new hg.symm)
  have HK2 := Lib.hid (HK1.out.bel hBX); clear HK1; have HK1 := HK2; clear HK2; have HX2 := Lib.hid (HXK.out.bel hBX); clear HXK; have HXK := HX2; clear HX2; have HI2 := Lib.hid (HI1.out.below hBX); clear HI1; have HI1 := HI2; clear HI2; have HJ2 := Lib.hid (HJ1.out.below hBX); clear HJ1; have HJ1 := HJ2; clear HJ2
  clear qb0 qb1 qb2 qx0 qx1 qx2 qd0 qd1 qs0 qs1 lb lx ld ls
  clear hX hBX HBY4 hg Kb Kx Kd Ks
  have Kb := Nb
  have Kx := Nx
  have Kd := Nd
  have Ks := Ns
  have Kl := Nl
  clear Nb Nx Nd Ns Nl
  have HBX5 := HBX
  clear HBX
  have qb0 := Kb.out.cell 0
  have qb1 := Kb.out.cell 1
  have qb2 := Kb.out.cell 2
  have lb := Kb.out.lt
  have qx0 := Kx.out.cell 0
  have qx1 := Kx.out.cell 1
  have qx2 := Kx.out.cell 2
  have lx := Kx.out.lt
  have qd0 := Kd.out.cell 0
  have qd1 := Kd.out.cell 1
  have ld := Kd.out.lt
  have qs0 := Ks.out.cell 0
  have qs1 := Ks.out.cell 1
  have ls := Ks.out.lt
  have ql0 := Kl.out.cell 0
  have ql1 := Kl.out.cell 1
  have ql2 := Kl.out.cell 2
  have ql3 := Kl.out.cell 3
  have ll := Kl.out.lt
  simp only [List.size_toArray, List.length_cons, List.length_nil, Nat.reduceAdd, Nat.reduceLT, getElem?_pos, List.getElem_toArray, List.getElem_cons_zero, List.getElem_cons_succ] at qb0 qb1 qb2 qx0 qx1 qx2 qd0 qd1 qs0 qs1 ql0 ql1 ql2 ql3
  go_wp2_with fail
  clear qb0 qb1 qb2 qx0 qx1 qx2 qd0 qd1 qs0 qs1 ql0 ql1 ql2 ql3 lb lx ld ls ll
  go_loopw [17] (fun i wr => ∃ j : Nat, j ≤ 4 ∧ i = .int .i64 j ∧ ∃ x, wr = ext X5 x) (fun i _ => 4 - (intOf i).toNat)
  case atStart => exact ⟨0, by omega, rfl, ext_of (Below.refl _ _)⟩
  case round =>
    obtain ⟨j, hj, rfl, z, rfl⟩ := hrel
    generalize hX : ext X5 z = V at *
    have hBX : Below X5.heap.size X5 V := by rw [← hX]; exact below_ext _ _
    have HBV := Lib.hid hBX
    have Nb := Lib.hid (show Blk V w.heap.size 26 #[.int .i64 b.lo, .int .i64 b.hi, .slice p b.ns.length c] from Kb.out.bel hBX)
    have Nx := Lib.hid (show Blk V gx 26 #[.int .i64 b.lo, .int .i64 b.hi, .slice q b.ns.length d] from Kx.out.bel hBX)
    have Nd := Lib.hid (show Blk V (gx + 1) 50 #[.slice (some ⟨b1, o1, none⟩) 61 c1, .slice (some ⟨b2, o2, none⟩) 61 c2] from Kd.out.bel hBX)
    have Ns := Lib.hid (show Blk V gs 23 #[.int .i64 s1, .int .i64 s2] from Ks.out.bel hBX)
    have Nl := Lib.hid (show Blk V gl 3 #[.int .i64 0, .int .i64 (ln : Nat), .int .i64 (r : Nat), .int .i64 60] from Kl.out.bel hBX)
    have HK19 := Lib.hid (HK1.out.bel hBX); clear HK1; have HK1 := HK19; clear HK19
    have HXK9 := Lib.hid (HXK.out.bel hBX); clear HXK; have HXK := HXK9; clear HXK9
    have HI19 := Lib.hid (HI1.out.below hBX); clear HI1; have HI1 := HI19; clear HI19
    have HJ19 := Lib.hid (HJ1.out.below hBX); clear HJ1; have HJ1 := HJ19; clear HJ19
    clear hX hBX Kb Kx Kd Ks Kl
    have Kb := Nb
    have Kx := Nx
    have Kd := Nd
    have Ks := Ns
    have Kl := Nl
    clear Nb Nx Nd Ns Nl
    have qb0 := Kb.out.cell 0
    have qb1 := Kb.out.cell 1
    have qb2 := Kb.out.cell 2
    have lb := Kb.out.lt
    have qx0 := Kx.out.cell 0
    have qx1 := Kx.out.cell 1
    have qx2 := Kx.out.cell 2
    have lx := Kx.out.lt
    have qd0 := Kd.out.cell 0
    have qd1 := Kd.out.cell 1
    have ld := Kd.out.lt
    have qs0 := Ks.out.cell 0
    have qs1 := Ks.out.cell 1
    have ls := Ks.out.lt
    have ql0 := Kl.out.cell 0
    have ql1 := Kl.out.cell 1
    have ql2 := Kl.out.cell 2
    have ql3 := Kl.out.cell 3
    have ll := Kl.out.lt
    simp only [List.size_toArray, List.length_cons, List.length_nil, Nat.reduceAdd, Nat.reduceLT, getElem?_pos, List.getElem_toArray, List.getElem_cons_zero, List.getElem_cons_succ] at qb0 qb1 qb2 qx0 qx1 qx2 qd0 qd1 qs0 qs1 ql0 ql1 ql2 ql3
    by_cases hlt : j < 4
    · obtain ⟨h, h60, hce⟩ : ∃ h : Nat, h ≤ 60 ∧ V.cell? ⟨gl, j, none⟩ = some (.int .i64 (h : Nat)) := by
        rcases (show j = 0 ∨ j = 1 ∨ j = 2 ∨ j = 3 by omega) with rfl | rfl | rfl | rfl
        · exact ⟨0, by omega, ql0⟩
        · exact ⟨ln, HL60.out, ql1⟩
        · exact ⟨r, HR60.out, ql2⟩
        · exact ⟨60, by omega, ql3⟩
      have j0 : (0 : Int) ≤ (j : Int) := by omega
      have j1 : (j : Int) < 4 := by omega
      obtain ⟨l1, hl1⟩ : ∃ x, minF Prod.fst 400 (atL (xS b v) (h : Nat)) = x := ⟨_, rfl⟩
      obtain ⟨u1, hu1⟩ : ∃ x, maxF Prod.fst 0 (atL (xS b v) (h : Nat)) = x := ⟨_, rfl⟩
      obtain ⟨r1, hr1⟩ : ∃ x, minF Prod.snd 400 (atL (xS b v) (h : Nat)) = x := ⟨_, rfl⟩
      obtain ⟨r2, hr2⟩ : ∃ x, maxF Prod.snd 0 (atL (xS b v) (h : Nat)) = x := ⟨_, rfl⟩
      have hh := HT.out.held h
      have hr := HT.out.rate h
      rw [hl1, hu1] at hh
      rw [hr1, hr2] at hr
      have E1 := Lib.hid hl1
      have E2 := Lib.hid hu1
      have E3 := Lib.hid hr1
      have E4 := Lib.hid hr2
      have HH := Lib.hid hh
      have HR := Lib.hid hr
      have HB60 := Lib.hid (show (0 : Int) ≤ (h : Int) ∧ (h : Int) ≤ 60 by omega)
      have H60 := Lib.hid h60
      clear hl1 hu1 hr1 hr2 hh hr h60
      go_upto_region 17 with fail
      clear hce j0 j1
      go_upto_region 18 with (go_at_call 20; refine (Held_m (xS b v) q d b.ns.length _ HXK.out HT.out.valid HT.out.right HM.out (h : Nat) l1 u1 HB60.out E1.out E2.out).mono ?_; rintro e wu ⟨rfl, y, rfl⟩)
      generalize hX : (ext V y).alloc _ = X60
      generalize hg : (ext V y).heap.size = ge at *
      have hBX : Below V.heap.size V X60 := by rw [← hX]; (repeat (first | (with_reducible exact Below.refl _ _) | (with_reducible assumption) | ((with_reducible refine below_ext_trans ?_ ?_ _); rotate_left; focus (((try dsimp only); repeat (first | omega | simp only [World.size_alloc, World.size_setCell, World.size_drew] | (with_reducible refine le_ext_of ?_) | (with_reducible refine le_ext_add ?_))); done)) | ((with_reducible refine Below.alloc ?_ ?_ _); rotate_left; focus (((try dsimp only); repeat (first | omega | simp only [World.size_alloc, World.size_setCell, World.size_drew] | (with_reducible refine le_ext_of ?_) | (with_reducible refine le_ext_add ?_))); done)) | ((with_reducible refine Below.setCell ?_ ?_ _); rotate_left; focus (((try dsimp only); repeat (first | omega | simp only [World.size_alloc, World.size_setCell, World.size_drew] | (with_reducible refine le_ext_of ?_) | (with_reducible refine le_ext_add ?_))); done)) | (with_reducible refine Below.drew ?_)))
      have HBX := Lib.hid (HBV.out.trans (hBX.mono HBV.out.size))
      have Nb := Lib.hid (show Blk X60 w.heap.size 26 #[.int .i64 b.lo, .int .i64 b.hi, .slice p b.ns.length c] from Kb.out.bel hBX)
      have Nx := Lib.hid (show Blk X60 gx 26 #[.int .i64 b.lo, .int .i64 b.hi, .slice q b.ns.length d] from Kx.out.bel hBX)
      have Nd := Lib.hid (show Blk X60 (gx + 1) 50 #[.slice (some ⟨b1, o1, none⟩) 61 c1, .slice (some ⟨b2, o2, none⟩) 61 c2] from Kd.out.bel hBX)
      have Ns := Lib.hid (show Blk X60 gs 23 #[.int .i64 s1, .int .i64 s2] from Ks.out.bel hBX)
      have Nl := Lib.hid (show Blk X60 gl 3 #[.int .i64 0, .int .i64 (ln : Nat), .int .i64 (r : Nat), .int .i64 60] from Kl.out.bel hBX)
      have Ne := Lib.hid (show Blk X60 ge 23 #[.int .i64 l1, .int .i64 u1] by rw [← hX]; exact Blk.new hg.symm)
      have HK2 := Lib.hid (HK1.out.bel hBX); clear HK1; have HK1 := HK2; clear HK2; have HX2 := Lib.hid (HXK.out.bel hBX); clear HXK; have HXK := HX2; clear HX2; have HI2 := Lib.hid (HI1.out.below hBX); clear HI1; have HI1 := HI2; clear HI2; have HJ2 := Lib.hid (HJ1.out.below hBX); clear HJ1; have HJ1 := HJ2; clear HJ2
      clear qb0 qb1 qb2 qx0 qx1 qx2 qd0 qd1 qs0 qs1 ql0 ql1 ql2 ql3 lb lx ld ls ll
      clear hX hBX HBV hg Kb Kx Kd Ks Kl
      have Kb := Nb
      have Kx := Nx
      have Kd := Nd
      have Ks := Ns
      have Kl := Nl
      have Ke := Ne
      clear Nb Nx Nd Ns Nl Ne
      have HBX60 := HBX
      clear HBX
      have qb0 := Kb.out.cell 0
      have qb1 := Kb.out.cell 1
      have qb2 := Kb.out.cell 2
      have lb := Kb.out.lt
      have qx0 := Kx.out.cell 0
      have qx1 := Kx.out.cell 1
      have qx2 := Kx.out.cell 2
      have lx := Kx.out.lt
      have qd0 := Kd.out.cell 0
      have qd1 := Kd.out.cell 1
      have ld := Kd.out.lt
      have qs0 := Ks.out.cell 0
      have qs1 := Ks.out.cell 1
      have ls := Ks.out.lt
      have ql0 := Kl.out.cell 0
      have ql1 := Kl.out.cell 1
      have ql2 := Kl.out.cell 2
      have ql3 := Kl.out.cell 3
      have ll := Kl.out.lt
      have qe0 := Ke.out.cell 0
      have qe1 := Ke.out.cell 1
      have le := Ke.out.lt
      simp only [List.size_toArray, List.length_cons, List.length_nil, Nat.reduceAdd, Nat.reduceLT, getElem?_pos, List.getElem_toArray, List.getElem_cons_zero, List.getElem_cons_succ] at qb0 qb1 qb2 qx0 qx1 qx2 qd0 qd1 qs0 qs1 ql0 ql1 ql2 ql3 qe0 qe1
      go_upto_region 19 with (go_at_call 22; refine (Rate_m (xS b v) q d b.ns.length _ HXK.out HT.out.valid HT.out.right HM.out (h : Nat) r1 r2 HB60.out E3.out E4.out).mono ?_; rintro e wu ⟨rfl, y, rfl⟩)
      generalize hX : (ext X60 y).alloc _ = X61
      generalize hg : (ext X60 y).heap.size = gf at *
      have hBX : Below X60.heap.size X60 X61 := by rw [← hX]; (repeat (first | (with_reducible exact Below.refl _ _) | (with_reducible assumption) | ((with_reducible refine below_ext_trans ?_ ?_ _); rotate_left; focus (((try dsimp only); repeat (first | omega | simp only [World.size_alloc, World.size_setCell, World.size_drew] | (with_reducible refine le_ext_of ?_) | (with_reducible refine le_ext_add ?_))); done)) | ((with_reducible refine Below.alloc ?_ ?_ _); rotate_left; focus (((try dsimp only); repeat (first | omega | simp only [World.size_alloc, World.size_setCell, World.size_drew] | (with_reducible refine le_ext_of ?_) | (with_reducible refine le_ext_add ?_))); done)) | ((with_reducible refine Below.setCell ?_ ?_ _); rotate_left; focus (((try dsimp only); repeat (first | omega | simp only [World.size_alloc, World.size_setCell, World.size_drew] | (with_reducible refine le_ext_of ?_) | (with_reducible refine le_ext_add ?_))); done)) | (with_reducible refine Below.drew ?_)))
      have HBX := Lib.hid (HBX60.out.trans (hBX.mono HBX60.out.size))
      have Nb := Lib.hid (show Blk X61 w.heap.size 26 #[.int .i64 b.lo, .int .i64 b.hi, .slice p b.ns.length c] from Kb.out.bel hBX)
      have Nx := Lib.hid (show Blk X61 gx 26 #[.int .i64 b.lo, .int .i64 b.hi, .slice q b.ns.length d] from Kx.out.bel hBX)
      have Nd := Lib.hid (show Blk X61 (gx + 1) 50 #[.slice (some ⟨b1, o1, none⟩) 61 c1, .slice (some ⟨b2, o2, none⟩) 61 c2] from Kd.out.bel hBX)
      have Ns := Lib.hid (show Blk X61 gs 23 #[.int .i64 s1, .int .i64 s2] from Ks.out.bel hBX)
      have Nl := Lib.hid (show Blk X61 gl 3 #[.int .i64 0, .int .i64 (ln : Nat), .int .i64 (r : Nat), .int .i64 60] from Kl.out.bel hBX)
      have Ne := Lib.hid (show Blk X61 ge 23 #[.int .i64 l1, .int .i64 u1] from Ke.out.bel hBX)
      have Nf := Lib.hid (show Blk X61 gf 23 #[.int .i64 r1, .int .i64 r2] by rw [← hX]; exact Blk.new hg.symm)
      have HK2 := Lib.hid (HK1.out.bel hBX); clear HK1; have HK1 := HK2; clear HK2; have HX2 := Lib.hid (HXK.out.bel hBX); clear HXK; have HXK := HX2; clear HX2; have HI2 := Lib.hid (HI1.out.below hBX); clear HI1; have HI1 := HI2; clear HI2; have HJ2 := Lib.hid (HJ1.out.below hBX); clear HJ1; have HJ1 := HJ2; clear HJ2
      clear qb0 qb1 qb2 qx0 qx1 qx2 qd0 qd1 qs0 qs1 ql0 ql1 ql2 ql3 qe0 qe1 lb lx ld ls ll le
      clear hX hBX HBX60 hg Kb Kx Kd Ks Kl Ke
      have Kb := Nb
      have Kx := Nx
      have Kd := Nd
      have Ks := Ns
      have Kl := Nl
      have Ke := Ne
      have Kf := Nf
      clear Nb Nx Nd Ns Nl Ne Nf
      have HBX61 := HBX
      clear HBX
      have qb0 := Kb.out.cell 0
      have qb1 := Kb.out.cell 1
      have qb2 := Kb.out.cell 2
      have lb := Kb.out.lt
      have qx0 := Kx.out.cell 0
      have qx1 := Kx.out.cell 1
      have qx2 := Kx.out.cell 2
      have lx := Kx.out.lt
      have qd0 := Kd.out.cell 0
      have qd1 := Kd.out.cell 1
      have ld := Kd.out.lt
      have qs0 := Ks.out.cell 0
      have qs1 := Ks.out.cell 1
      have ls := Ks.out.lt
      have ql0 := Kl.out.cell 0
      have ql1 := Kl.out.cell 1
      have ql2 := Kl.out.cell 2
      have ql3 := Kl.out.cell 3
      have ll := Kl.out.lt
      have qe0 := Ke.out.cell 0
      have qe1 := Ke.out.cell 1
      have le := Ke.out.lt
      have qf0 := Kf.out.cell 0
      have qf1 := Kf.out.cell 1
      have lf := Kf.out.lt
      simp only [List.size_toArray, List.length_cons, List.length_nil, Nat.reduceAdd, Nat.reduceLT, getElem?_pos, List.getElem_toArray, List.getElem_cons_zero, List.getElem_cons_succ] at qb0 qb1 qb2 qx0 qx1 qx2 qd0 qd1 qs0 qs1 ql0 ql1 ql2 ql3 qe0 qe1 qf0 qf1
      obtain ⟨a1, la1⟩ := held_cell HI1.out h H60.out
      obtain ⟨a2, la2⟩ := rate_cell HJ1.out h H60.out
      have i0 : (0 : Int) ≤ (h : Int) := by omega
      have i1 : (h : Int) < 61 := by have := H60.out; omega
      refine wp_region_ext (by kernel_rfl) (by kernel_rfl) ?_
      repeat (go_big_quiet_step (first | (go_at_call 18; exact quiet_ext (Can_m (xS b v) q d b.ns.length _ (HXK.out.bel (by (repeat (first | (with_reducible exact Below.refl _ _) | (with_reducible assumption) | ((with_reducible refine below_ext_trans ?_ ?_ _); rotate_left; focus (((try dsimp only); repeat (first | omega | simp only [World.size_alloc, World.size_setCell, World.size_drew] | (with_reducible refine le_ext_of ?_) | (with_reducible refine le_ext_add ?_))); done)) | ((with_reducible refine Below.alloc ?_ ?_ _); rotate_left; focus (((try dsimp only); repeat (first | omega | simp only [World.size_alloc, World.size_setCell, World.size_drew] | (with_reducible refine le_ext_of ?_) | (with_reducible refine le_ext_add ?_))); done)) | ((with_reducible refine Below.setCell ?_ ?_ _); rotate_left; focus (((try dsimp only); repeat (first | omega | simp only [World.size_alloc, World.size_setCell, World.size_drew] | (with_reducible refine le_ext_of ?_) | (with_reducible refine le_ext_add ?_))); done)) | (with_reducible refine Below.drew ?_))))) HT.out.valid HT.out.right HM.out (h : Nat) (hvF b v h) HB60.out (HT.out.bd h) (HT.out.can h)))))
      (refine wpQuiet_nil ?_; rintro _ ⟨x, rfl⟩)
      generalize hX : ext X61 _ = Y62
      have hBX : Below X61.heap.size X61 Y62 := by rw [← hX]; exact below_ext _ _
      have HBY62 := Lib.hid (HBX61.out.trans (hBX.mono HBX61.out.size))
      have HK2 := Lib.hid (HK1.out.bel hBX); clear HK1; have HK1 := HK2; clear HK2; have HX2 := Lib.hid (HXK.out.bel hBX); clear HXK; have HXK := HX2; clear HX2; have HI2 := Lib.hid (HI1.out.below hBX); clear HI1; have HI1 := HI2; clear HI2; have HJ2 := Lib.hid (HJ1.out.below hBX); clear HJ1; have HJ1 := HJ2; clear HJ2
      have Nb := Lib.hid (show Blk Y62 w.heap.size 26 #[.int .i64 b.lo, .int .i64 b.hi, .slice p b.ns.length c] from Kb.out.bel hBX)
      have Nx := Lib.hid (show Blk Y62 gx 26 #[.int .i64 b.lo, .int .i64 b.hi, .slice q b.ns.length d] from Kx.out.bel hBX)
      have Nd := Lib.hid (show Blk Y62 (gx + 1) 50 #[.slice (some ⟨b1, o1, none⟩) 61 c1, .slice (some ⟨b2, o2, none⟩) 61 c2] from Kd.out.bel hBX)
      have Ns := Lib.hid (show Blk Y62 gs 23 #[.int .i64 s1, .int .i64 s2] from Ks.out.bel hBX)
      have Nl := Lib.hid (show Blk Y62 gl 3 #[.int .i64 0, .int .i64 (ln : Nat), .int .i64 (r : Nat), .int .i64 60] from Kl.out.bel hBX)
      have Ne := Lib.hid (show Blk Y62 ge 23 #[.int .i64 l1, .int .i64 u1] from Ke.out.bel hBX)
      have Nf := Lib.hid (show Blk Y62 gf 23 #[.int .i64 r1, .int .i64 r2] from Kf.out.bel hBX)
      clear qb0 qb1 qb2 qx0 qx1 qx2 qd0 qd1 qs0 qs1 ql0 ql1 ql2 ql3 qe0 qe1 qf0 qf1 lb lx ld ls ll le lf
      clear hX hBX HBX61 Kb Kx Kd Ks Kl Ke Kf
      have Kb := Nb
      have Kx := Nx
      have Kd := Nd
      have Ks := Ns
      have Kl := Nl
      have Ke := Ne
      have Kf := Nf
      clear Nb Nx Nd Ns Nl Ne Nf
      have qb0 := Kb.out.cell 0
      have qb1 := Kb.out.cell 1
      have qb2 := Kb.out.cell 2
      have lb := Kb.out.lt
      have qx0 := Kx.out.cell 0
      have qx1 := Kx.out.cell 1
      have qx2 := Kx.out.cell 2
      have lx := Kx.out.lt
      have qd0 := Kd.out.cell 0
      have qd1 := Kd.out.cell 1
      have ld := Kd.out.lt
      have qs0 := Ks.out.cell 0
      have qs1 := Ks.out.cell 1
      have ls := Ks.out.lt
      have ql0 := Kl.out.cell 0
      have ql1 := Kl.out.cell 1
      have ql2 := Kl.out.cell 2
      have ql3 := Kl.out.cell 3
      have ll := Kl.out.lt
      have qe0 := Ke.out.cell 0
      have qe1 := Ke.out.cell 1
      have le := Ke.out.lt
      have qf0 := Kf.out.cell 0
      have qf1 := Kf.out.cell 1
      have lf := Kf.out.lt
      simp only [List.size_toArray, List.length_cons, List.length_nil, Nat.reduceAdd, Nat.reduceLT, getElem?_pos, List.getElem_toArray, List.getElem_cons_zero, List.getElem_cons_succ] at qb0 qb1 qb2 qx0 qx1 qx2 qd0 qd1 qs0 qs1 ql0 ql1 ql2 ql3 qe0 qe1 qf0 qf1
      clear a1 la1 a2 la2 i0 i1
      go_upto_region 20 with fail
      obtain ⟨a1, la1⟩ := held_cell HI1.out h H60.out
      obtain ⟨a2, la2⟩ := rate_cell HJ1.out h H60.out
      have i0 : (0 : Int) ≤ (h : Int) := by omega
      have i1 : (h : Int) < 61 := by have := H60.out; omega
      obtain ⟨sv1, sv2⟩ := HH.out
      obtain ⟨sv3, sv4⟩ := HR.out
      refine wp_region_ext (by kernel_rfl) (by kernel_rfl) ?_
      repeat (go_big_quiet_step (first | (go_at_call 36; exact quiet_ext (Holds_yes _ _ _ _ (by assumption) (by assumption)))))
      (refine wpQuiet_nil ?_; rintro _ ⟨x, rfl⟩)
      generalize hX : ext Y62 _ = Y63
      have hBX : Below Y62.heap.size Y62 Y63 := by rw [← hX]; exact below_ext _ _
      have HBY63 := Lib.hid (HBY62.out.trans (hBX.mono HBY62.out.size))
      have HK2 := Lib.hid (HK1.out.bel hBX); clear HK1; have HK1 := HK2; clear HK2; have HX2 := Lib.hid (HXK.out.bel hBX); clear HXK; have HXK := HX2; clear HX2; have HI2 := Lib.hid (HI1.out.below hBX); clear HI1; have HI1 := HI2; clear HI2; have HJ2 := Lib.hid (HJ1.out.below hBX); clear HJ1; have HJ1 := HJ2; clear HJ2
      have Nb := Lib.hid (show Blk Y63 w.heap.size 26 #[.int .i64 b.lo, .int .i64 b.hi, .slice p b.ns.length c] from Kb.out.bel hBX)
      have Nx := Lib.hid (show Blk Y63 gx 26 #[.int .i64 b.lo, .int .i64 b.hi, .slice q b.ns.length d] from Kx.out.bel hBX)
      have Nd := Lib.hid (show Blk Y63 (gx + 1) 50 #[.slice (some ⟨b1, o1, none⟩) 61 c1, .slice (some ⟨b2, o2, none⟩) 61 c2] from Kd.out.bel hBX)
      have Ns := Lib.hid (show Blk Y63 gs 23 #[.int .i64 s1, .int .i64 s2] from Ks.out.bel hBX)
      have Nl := Lib.hid (show Blk Y63 gl 3 #[.int .i64 0, .int .i64 (ln : Nat), .int .i64 (r : Nat), .int .i64 60] from Kl.out.bel hBX)
      have Ne := Lib.hid (show Blk Y63 ge 23 #[.int .i64 l1, .int .i64 u1] from Ke.out.bel hBX)
      have Nf := Lib.hid (show Blk Y63 gf 23 #[.int .i64 r1, .int .i64 r2] from Kf.out.bel hBX)
      clear qb0 qb1 qb2 qx0 qx1 qx2 qd0 qd1 qs0 qs1 ql0 ql1 ql2 ql3 qe0 qe1 qf0 qf1 lb lx ld ls ll le lf
      clear hX hBX HBY62 Kb Kx Kd Ks Kl Ke Kf
      have Kb := Nb
      have Kx := Nx
      have Kd := Nd
      have Ks := Ns
      have Kl := Nl
      have Ke := Ne
      have Kf := Nf
      clear Nb Nx Nd Ns Nl Ne Nf
      have qb0 := Kb.out.cell 0
      have qb1 := Kb.out.cell 1
      have qb2 := Kb.out.cell 2
      have lb := Kb.out.lt
      have qx0 := Kx.out.cell 0
      have qx1 := Kx.out.cell 1
      have qx2 := Kx.out.cell 2
      have lx := Kx.out.lt
      have qd0 := Kd.out.cell 0
      have qd1 := Kd.out.cell 1
      have ld := Kd.out.lt
      have qs0 := Ks.out.cell 0
      have qs1 := Ks.out.cell 1
      have ls := Ks.out.lt
      have ql0 := Kl.out.cell 0
      have ql1 := Kl.out.cell 1
      have ql2 := Kl.out.cell 2
      have ql3 := Kl.out.cell 3
      have ll := Kl.out.lt
      have qe0 := Ke.out.cell 0
      have qe1 := Ke.out.cell 1
      have le := Ke.out.lt
      have qf0 := Kf.out.cell 0
      have qf1 := Kf.out.cell 1
      have lf := Kf.out.lt
      simp only [List.size_toArray, List.length_cons, List.length_nil, Nat.reduceAdd, Nat.reduceLT, getElem?_pos, List.getElem_toArray, List.getElem_cons_zero, List.getElem_cons_succ] at qb0 qb1 qb2 qx0 qx1 qx2 qd0 qd1 qs0 qs1 ql0 ql1 ql2 ql3 qe0 qe1 qf0 qf1
      clear a1 la1 a2 la2 i0 i1 sv1 sv2 sv3 sv4
      go_wp2_with fail
      go_roundw
      case rel => exact ⟨j + 1, by omega, by go_num, ext_of HBY63.out⟩
      case measure => simp [intOf]; omega
    · obtain rfl : j = 4 := by omega
      clear hlt hj
      rcases emptyN (xS b v) with ⟨k9, hk9, ht9, hm9⟩ | hnon
      · have HT9 := Lib.hid ht9
        have HM9 := Lib.hid hm9
        have HK9 := Lib.hid hk9
        clear ht9 hm9 hk9
        go_upto_region 23 with (go_at_call 25; refine (Empty_mat (xS b v) q d b.ns.length _ HXK.out HT.out.valid HT.out.right HM.out k9 HK9.out HT9.out HM9.out).mono ?_; rintro e wu ⟨rfl, y, rfl⟩)
        generalize hX : ext V y = X100 at *
        have hBX : Below V.heap.size V X100 := by rw [← hX]; (repeat (first | (with_reducible exact Below.refl _ _) | (with_reducible assumption) | ((with_reducible refine below_ext_trans ?_ ?_ _); rotate_left; focus (((try dsimp only); repeat (first | omega | simp only [World.size_alloc, World.size_setCell, World.size_drew] | (with_reducible refine le_ext_of ?_) | (with_reducible refine le_ext_add ?_))); done)) | ((with_reducible refine Below.alloc ?_ ?_ _); rotate_left; focus (((try dsimp only); repeat (first | omega | simp only [World.size_alloc, World.size_setCell, World.size_drew] | (with_reducible refine le_ext_of ?_) | (with_reducible refine le_ext_add ?_))); done)) | ((with_reducible refine Below.setCell ?_ ?_ _); rotate_left; focus (((try dsimp only); repeat (first | omega | simp only [World.size_alloc, World.size_setCell, World.size_drew] | (with_reducible refine le_ext_of ?_) | (with_reducible refine le_ext_add ?_))); done)) | (with_reducible refine Below.drew ?_)))
        have HBX := Lib.hid (HBV.out.trans (hBX.mono HBV.out.size))
        have Nb := Lib.hid (show Blk X100 w.heap.size 26 #[.int .i64 b.lo, .int .i64 b.hi, .slice p b.ns.length c] from Kb.out.bel hBX)
        have Nx := Lib.hid (show Blk X100 gx 26 #[.int .i64 b.lo, .int .i64 b.hi, .slice q b.ns.length d] from Kx.out.bel hBX)
        have Nd := Lib.hid (show Blk X100 (gx + 1) 50 #[.slice (some ⟨b1, o1, none⟩) 61 c1, .slice (some ⟨b2, o2, none⟩) 61 c2] from Kd.out.bel hBX)
        have Ns := Lib.hid (show Blk X100 gs 23 #[.int .i64 s1, .int .i64 s2] from Ks.out.bel hBX)
        have Nl := Lib.hid (show Blk X100 gl 3 #[.int .i64 0, .int .i64 (ln : Nat), .int .i64 (r : Nat), .int .i64 60] from Kl.out.bel hBX)
        have HK2 := Lib.hid (HK1.out.bel hBX); clear HK1; have HK1 := HK2; clear HK2; have HX2 := Lib.hid (HXK.out.bel hBX); clear HXK; have HXK := HX2; clear HX2; have HI2 := Lib.hid (HI1.out.below hBX); clear HI1; have HI1 := HI2; clear HI2; have HJ2 := Lib.hid (HJ1.out.below hBX); clear HJ1; have HJ1 := HJ2; clear HJ2
        clear qb0 qb1 qb2 qx0 qx1 qx2 qd0 qd1 qs0 qs1 ql0 ql1 ql2 ql3 lb lx ld ls ll
        clear hX hBX HBV Kb Kx Kd Ks Kl
        have Kb := Nb
        have Kx := Nx
        have Kd := Nd
        have Ks := Ns
        have Kl := Nl
        clear Nb Nx Nd Ns Nl
        have HBX100 := HBX
        clear HBX
        have qb0 := Kb.out.cell 0
        have qb1 := Kb.out.cell 1
        have qb2 := Kb.out.cell 2
        have lb := Kb.out.lt
        have qx0 := Kx.out.cell 0
        have qx1 := Kx.out.cell 1
        have qx2 := Kx.out.cell 2
        have lx := Kx.out.lt
        have qd0 := Kd.out.cell 0
        have qd1 := Kd.out.cell 1
        have ld := Kd.out.lt
        have qs0 := Ks.out.cell 0
        have qs1 := Ks.out.cell 1
        have ls := Ks.out.lt
        have ql0 := Kl.out.cell 0
        have ql1 := Kl.out.cell 1
        have ql2 := Kl.out.cell 2
        have ql3 := Kl.out.cell 3
        have ll := Kl.out.lt
        simp only [List.size_toArray, List.length_cons, List.length_nil, Nat.reduceAdd, Nat.reduceLT, getElem?_pos, List.getElem_toArray, List.getElem_cons_zero, List.getElem_cons_succ] at qb0 qb1 qb2 qx0 qx1 qx2 qd0 qd1 qs0 qs1 ql0 ql1 ql2 ql3
        obtain ⟨a1, la1⟩ := held_cell HI1.out k9 HK9.out
        have i0 : (0 : Int) ≤ (k9 : Int) := by omega
        have i1 : (k9 : Int) < 61 := by have := HK9.out; omega
        have i2 : (k9 : Int) ≤ 60 := by omega
        have hz : (hvF b v k9 == 0) = true := by
          have h1 := HT.out.top k9
          rw [HT9.out] at h1
          have h2 := (HT.out.bd k9).1
          simpa using (show hvF b v k9 = 0 by omega)
        go_wp2_with (first | (go_at_call 38; refine (Between_yes _ _ _ _ (by assumption) (by assumption)).mono ?_; rintro e w1 ⟨rfl, rfl⟩) | (go_at_call 24; refine (sounded_any _ (HK1.out.mm.below (by (repeat (first | (with_reducible exact Below.refl _ _) | (with_reducible assumption) | ((with_reducible refine below_ext_trans ?_ ?_ _); rotate_left; focus (((try dsimp only); repeat (first | omega | simp only [World.size_alloc, World.size_setCell, World.size_drew] | (with_reducible refine le_ext_of ?_) | (with_reducible refine le_ext_add ?_))); done)) | ((with_reducible refine Below.alloc ?_ ?_ _); rotate_left; focus (((try dsimp only); repeat (first | omega | simp only [World.size_alloc, World.size_setCell, World.size_drew] | (with_reducible refine le_ext_of ?_) | (with_reducible refine le_ext_add ?_))); done)) | ((with_reducible refine Below.setCell ?_ ?_ _); rotate_left; focus (((try dsimp only); repeat (first | omega | simp only [World.size_alloc, World.size_setCell, World.size_drew] | (with_reducible refine le_ext_of ?_) | (with_reducible refine le_ext_add ?_))); done)) | (with_reducible refine Below.drew ?_)))))).mono ?_; rintro e w1 ⟨rfl, y, rfl⟩))
        go_ret
        exact ⟨rfl, ext_of (HBX5.out.trans (Below.mono (HBX100.out.trans (Below.mono (show Below X100.heap.size X100 _ by (repeat (first | (with_reducible exact Below.refl _ _) | (with_reducible assumption) | ((with_reducible refine below_ext_trans ?_ ?_ _); rotate_left; focus (((try dsimp only); repeat (first | omega | simp only [World.size_alloc, World.size_setCell, World.size_drew] | (with_reducible refine le_ext_of ?_) | (with_reducible refine le_ext_add ?_))); done)) | ((with_reducible refine Below.alloc ?_ ?_ _); rotate_left; focus (((try dsimp only); repeat (first | omega | simp only [World.size_alloc, World.size_setCell, World.size_drew] | (with_reducible refine le_ext_of ?_) | (with_reducible refine le_ext_add ?_))); done)) | ((with_reducible refine Below.setCell ?_ ?_ _); rotate_left; focus (((try dsimp only); repeat (first | omega | simp only [World.size_alloc, World.size_setCell, World.size_drew] | (with_reducible refine le_ext_of ?_) | (with_reducible refine le_ext_add ?_))); done)) | (with_reducible refine Below.drew ?_)))) HBX100.out.size)) HBX5.out.size))⟩
      · have HNO := Lib.hid hnon
        clear hnon
        go_upto_region 23 with (go_at_call 25; refine (Empty_mnon (xS b v) q d b.ns.length _ HXK.out HT.out.valid HT.out.right HM.out HNO.out).mono ?_; rintro e wu ⟨rfl, y, rfl⟩)
        generalize hX : ext V y = X110 at *
        have hBX : Below V.heap.size V X110 := by rw [← hX]; (repeat (first | (with_reducible exact Below.refl _ _) | (with_reducible assumption) | ((with_reducible refine below_ext_trans ?_ ?_ _); rotate_left; focus (((try dsimp only); repeat (first | omega | simp only [World.size_alloc, World.size_setCell, World.size_drew] | (with_reducible refine le_ext_of ?_) | (with_reducible refine le_ext_add ?_))); done)) | ((with_reducible refine Below.alloc ?_ ?_ _); rotate_left; focus (((try dsimp only); repeat (first | omega | simp only [World.size_alloc, World.size_setCell, World.size_drew] | (with_reducible refine le_ext_of ?_) | (with_reducible refine le_ext_add ?_))); done)) | ((with_reducible refine Below.setCell ?_ ?_ _); rotate_left; focus (((try dsimp only); repeat (first | omega | simp only [World.size_alloc, World.size_setCell, World.size_drew] | (with_reducible refine le_ext_of ?_) | (with_reducible refine le_ext_add ?_))); done)) | (with_reducible refine Below.drew ?_)))
        have HBX := Lib.hid (HBV.out.trans (hBX.mono HBV.out.size))
        have Nb := Lib.hid (show Blk X110 w.heap.size 26 #[.int .i64 b.lo, .int .i64 b.hi, .slice p b.ns.length c] from Kb.out.bel hBX)
        have Nx := Lib.hid (show Blk X110 gx 26 #[.int .i64 b.lo, .int .i64 b.hi, .slice q b.ns.length d] from Kx.out.bel hBX)
        have Nd := Lib.hid (show Blk X110 (gx + 1) 50 #[.slice (some ⟨b1, o1, none⟩) 61 c1, .slice (some ⟨b2, o2, none⟩) 61 c2] from Kd.out.bel hBX)
        have Ns := Lib.hid (show Blk X110 gs 23 #[.int .i64 s1, .int .i64 s2] from Ks.out.bel hBX)
        have Nl := Lib.hid (show Blk X110 gl 3 #[.int .i64 0, .int .i64 (ln : Nat), .int .i64 (r : Nat), .int .i64 60] from Kl.out.bel hBX)
        have HK2 := Lib.hid (HK1.out.bel hBX); clear HK1; have HK1 := HK2; clear HK2; have HX2 := Lib.hid (HXK.out.bel hBX); clear HXK; have HXK := HX2; clear HX2; have HI2 := Lib.hid (HI1.out.below hBX); clear HI1; have HI1 := HI2; clear HI2; have HJ2 := Lib.hid (HJ1.out.below hBX); clear HJ1; have HJ1 := HJ2; clear HJ2
        clear qb0 qb1 qb2 qx0 qx1 qx2 qd0 qd1 qs0 qs1 ql0 ql1 ql2 ql3 lb lx ld ls ll
        clear hX hBX HBV Kb Kx Kd Ks Kl
        have Kb := Nb
        have Kx := Nx
        have Kd := Nd
        have Ks := Ns
        have Kl := Nl
        clear Nb Nx Nd Ns Nl
        have HBX110 := HBX
        clear HBX
        have qb0 := Kb.out.cell 0
        have qb1 := Kb.out.cell 1
        have qb2 := Kb.out.cell 2
        have lb := Kb.out.lt
        have qx0 := Kx.out.cell 0
        have qx1 := Kx.out.cell 1
        have qx2 := Kx.out.cell 2
        have lx := Kx.out.lt
        have qd0 := Kd.out.cell 0
        have qd1 := Kd.out.cell 1
        have ld := Kd.out.lt
        have qs0 := Ks.out.cell 0
        have qs1 := Ks.out.cell 1
        have ls := Ks.out.lt
        have ql0 := Kl.out.cell 0
        have ql1 := Kl.out.cell 1
        have ql2 := Kl.out.cell 2
        have ql3 := Kl.out.cell 3
        have ll := Kl.out.lt
        simp only [List.size_toArray, List.length_cons, List.length_nil, Nat.reduceAdd, Nat.reduceLT, getElem?_pos, List.getElem_toArray, List.getElem_cons_zero, List.getElem_cons_succ] at qb0 qb1 qb2 qx0 qx1 qx2 qd0 qd1 qs0 qs1 ql0 ql1 ql2 ql3
        go_wp2_with (go_at_call 24; refine (sounded_any _ (HK1.out.mm.below (by (repeat (first | (with_reducible exact Below.refl _ _) | (with_reducible assumption) | ((with_reducible refine below_ext_trans ?_ ?_ _); rotate_left; focus (((try dsimp only); repeat (first | omega | simp only [World.size_alloc, World.size_setCell, World.size_drew] | (with_reducible refine le_ext_of ?_) | (with_reducible refine le_ext_add ?_))); done)) | ((with_reducible refine Below.alloc ?_ ?_ _); rotate_left; focus (((try dsimp only); repeat (first | omega | simp only [World.size_alloc, World.size_setCell, World.size_drew] | (with_reducible refine le_ext_of ?_) | (with_reducible refine le_ext_add ?_))); done)) | ((with_reducible refine Below.setCell ?_ ?_ _); rotate_left; focus (((try dsimp only); repeat (first | omega | simp only [World.size_alloc, World.size_setCell, World.size_drew] | (with_reducible refine le_ext_of ?_) | (with_reducible refine le_ext_add ?_))); done)) | (with_reducible refine Below.drew ?_)))))).mono ?_; rintro e w1 ⟨rfl, y, rfl⟩)
        go_ret
        exact ⟨rfl, ext_of (HBX5.out.trans (Below.mono (HBX110.out.trans (Below.mono (show Below X110.heap.size X110 _ by (repeat (first | (with_reducible exact Below.refl _ _) | (with_reducible assumption) | ((with_reducible refine below_ext_trans ?_ ?_ _); rotate_left; focus (((try dsimp only); repeat (first | omega | simp only [World.size_alloc, World.size_setCell, World.size_drew] | (with_reducible refine le_ext_of ?_) | (with_reducible refine le_ext_add ?_))); done)) | ((with_reducible refine Below.alloc ?_ ?_ _); rotate_left; focus (((try dsimp only); repeat (first | omega | simp only [World.size_alloc, World.size_setCell, World.size_drew] | (with_reducible refine le_ext_of ?_) | (with_reducible refine le_ext_add ?_))); done)) | ((with_reducible refine Below.setCell ?_ ?_ _); rotate_left; focus (((try dsimp only); repeat (first | omega | simp only [World.size_alloc, World.size_setCell, World.size_drew] | (with_reducible refine le_ext_of ?_) | (with_reducible refine le_ext_add ?_))); done)) | (with_reducible refine Below.drew ?_)))) HBX110.out.size)) HBX5.out.size))⟩
end Go.Proofs.YtamknmgplhaciaaDoor

namespace Go.Proofs.YtamknmgplhaciaaDoor
open Go Go.RowKit Go.Shelf
attribute [local go_sem] Oper.semAt_some frozen_alloc_lt
set_option maxRecDepth 100000 in
set_option maxHeartbeats 16000000 in
theorem SeineTrue_one (b : Sn) (p : Option Addr) (c : Nat) (pi : Option Addr) (ci nb : Nat) (bits : List Int) (n : Int) (v : Nat → Int) (pk0 v0 : Int) (r ln : Nat) (w : World) (hk : SBk w b p) (hv : snB b = true) (hc : Chosen b v) (hi : IntsAt w pi bits) (hbl : (bits.length : Int) ≤ 9223372036854775807) (hn : bits.length = nb) (hpk0 : pickI bits 0 = pk0) (hv0 : someI b.lo b.hi pk0 = v0) (hvz : v 0 = v0)
    (hvn : ∀ (k : Nat) (s : Nt), b.ns[k]? = some s → someI s.lo s.hi (pickI bits ((k : Int) + 1)) = v (k + 1)) (hln : lastN b.ns = (ln : Nat)) (hrr : n % 61 = (r : Nat)) (hm0 : b.ns.length = 0) :
    Calls Tryd.prog 6 #[bV b p c, .slice pi nb ci, .int .i64 n] w fun e w' => e = .returned (.bool true) ∧ ∃ x, w' = ext w x := by
  obtain rfl : ln = 0 := by
    unfold lastN at hln
    rw [hm0] at hln
    simp only [pastN] at hln
    omega
  have hT := told_of hv hc
  obtain ⟨s1, hs1⟩ : ∃ x, minF (savS (60 - (0 : Nat))) 400 (atL (xS b v) (0 : Nat)) = x := ⟨_, rfl⟩
  obtain ⟨s2, hs2⟩ : ∃ x, maxF (savS (60 - (0 : Nat))) 0 (atL (xS b v) (0 : Nat)) = x := ⟨_, rfl⟩
  have hsv := hT.saved 0 hln
  rw [hs1, hs2] at hsv
  have b0 := lastN_bd (Ok9.of hv)
  rw [hln] at b0
  have hl60 : 0 ≤ 60 := by omega
  have hr60 : r ≤ 60 := by omega
  have hlen := snB_len hv
  have HL60 := Lib.hid hl60
  have HR60 := Lib.hid hr60
  have HT := Lib.hid hT
  have HSV := Lib.hid hsv
  have HS1 := Lib.hid (show minF (savS (60 - lastN (xS b v).ns)) 400 (atL (xS b v) (lastN (xS b v).ns)) = s1 by rw [hT.last, hln]; exact hs1)
  have HS2 := Lib.hid (show maxF (savS (60 - lastN (xS b v).ns)) 0 (atL (xS b v) (lastN (xS b v).ns)) = s2 by rw [hT.last, hln]; exact hs2)
  have HM := Lib.hid hT.len
  have HRR := Lib.hid hrr
  have HK := Lib.hid hk
  have HV := Lib.hid hv
  have HLV := Lib.hid (fun w hw hwi => lived_any b p c pi ci nb bits v pk0 v0 w hw (Ok9.of hv) hc hwi hbl hn hpk0 hv0 hvz hvn)
  have HI := Lib.hid hi
  have HM0 := Lib.hid hm0
  clear hm0
  clear hk hv hc hi hbl hn hpk0 hv0 hvz hvn hT hs1 hs2 hsv b0 hl60 hr60 hln hrr
  go_enter Tryd.func6, Tryd.ntmps6
  go_upto_region 3 with (go_at_call 34; refine (sound_yes b p c _ (HK.out.bel (by (repeat (first | (with_reducible exact Below.refl _ _) | (with_reducible assumption) | ((with_reducible refine below_ext_trans ?_ ?_ _); rotate_left; focus (((try dsimp only); repeat (first | omega | simp only [World.size_alloc, World.size_setCell, World.size_drew] | (with_reducible refine le_ext_of ?_) | (with_reducible refine le_ext_add ?_))); done)) | ((with_reducible refine Below.alloc ?_ ?_ _); rotate_left; focus (((try dsimp only); repeat (first | omega | simp only [World.size_alloc, World.size_setCell, World.size_drew] | (with_reducible refine le_ext_of ?_) | (with_reducible refine le_ext_add ?_))); done)) | ((with_reducible refine Below.setCell ?_ ?_ _); rotate_left; focus (((try dsimp only); repeat (first | omega | simp only [World.size_alloc, World.size_setCell, World.size_drew] | (with_reducible refine le_ext_of ?_) | (with_reducible refine le_ext_add ?_))); done)) | (with_reducible refine Below.drew ?_))))) HV.out).mono ?_; rintro e w1 ⟨rfl, y, rfl⟩)
  generalize hX : ext (w.alloc _) _ = W
  have hB : Below w.heap.size w W := by rw [← hX]; (repeat (first | (with_reducible exact Below.refl _ _) | (with_reducible assumption) | ((with_reducible refine below_ext_trans ?_ ?_ _); rotate_left; focus (((try dsimp only); repeat (first | omega | simp only [World.size_alloc, World.size_setCell, World.size_drew] | (with_reducible refine le_ext_of ?_) | (with_reducible refine le_ext_add ?_))); done)) | ((with_reducible refine Below.alloc ?_ ?_ _); rotate_left; focus (((try dsimp only); repeat (first | omega | simp only [World.size_alloc, World.size_setCell, World.size_drew] | (with_reducible refine le_ext_of ?_) | (with_reducible refine le_ext_add ?_))); done)) | ((with_reducible refine Below.setCell ?_ ?_ _); rotate_left; focus (((try dsimp only); repeat (first | omega | simp only [World.size_alloc, World.size_setCell, World.size_drew] | (with_reducible refine le_ext_of ?_) | (with_reducible refine le_ext_add ?_))); done)) | (with_reducible refine Below.drew ?_)))
  have Kb := Lib.hid (show Blk W w.heap.size 26 #[.int .i64 b.lo, .int .i64 b.hi, .slice p b.ns.length c] by rw [← hX]; exact (Blk.new rfl).ext _)
  have HBW := Lib.hid hB
  have HK1 := Lib.hid (HK.out.bel hB)
  clear hX hB
  have qb0 := Kb.out.cell 0
  have qb1 := Kb.out.cell 1
  have qb2 := Kb.out.cell 2
  have lb := Kb.out.lt
  simp only [List.size_toArray, List.length_cons, List.length_nil, Nat.reduceAdd, Nat.reduceLT, getElem?_pos, List.getElem_toArray, List.getElem_cons_zero, List.getElem_cons_succ] at qb0 qb1 qb2
  go_upto_region 4 with (go_at_call 35; refine (HLV.out _ HK1.out (HI.out.below HBW.out)).mono ?_; rintro e wu ⟨q, p1, p2, d, c1, c2, rfl, hO, hi1, hi2, y, rfl⟩)
  generalize hX : ((ext W y).alloc _).alloc _ = X0
  obtain ⟨gx, hg⟩ : ∃ gx, (ext W y).heap.size = gx := ⟨_, rfl⟩
  have hEX : Below (ext W y).heap.size (ext W y) X0 := by rw [← hX]; (repeat (first | (with_reducible exact Below.refl _ _) | (with_reducible assumption) | ((with_reducible refine below_ext_trans ?_ ?_ _); rotate_left; focus (((try dsimp only); repeat (first | omega | simp only [World.size_alloc, World.size_setCell, World.size_drew] | (with_reducible refine le_ext_of ?_) | (with_reducible refine le_ext_add ?_))); done)) | ((with_reducible refine Below.alloc ?_ ?_ _); rotate_left; focus (((try dsimp only); repeat (first | omega | simp only [World.size_alloc, World.size_setCell, World.size_drew] | (with_reducible refine le_ext_of ?_) | (with_reducible refine le_ext_add ?_))); done)) | ((with_reducible refine Below.setCell ?_ ?_ _); rotate_left; focus (((try dsimp only); repeat (first | omega | simp only [World.size_alloc, World.size_setCell, World.size_drew] | (with_reducible refine le_ext_of ?_) | (with_reducible refine le_ext_add ?_))); done)) | (with_reducible refine Below.drew ?_)))
  have hBX : Below W.heap.size W X0 := by rw [← hX]; (repeat (first | (with_reducible exact Below.refl _ _) | (with_reducible assumption) | ((with_reducible refine below_ext_trans ?_ ?_ _); rotate_left; focus (((try dsimp only); repeat (first | omega | simp only [World.size_alloc, World.size_setCell, World.size_drew] | (with_reducible refine le_ext_of ?_) | (with_reducible refine le_ext_add ?_))); done)) | ((with_reducible refine Below.alloc ?_ ?_ _); rotate_left; focus (((try dsimp only); repeat (first | omega | simp only [World.size_alloc, World.size_setCell, World.size_drew] | (with_reducible refine le_ext_of ?_) | (with_reducible refine le_ext_add ?_))); done)) | ((with_reducible refine Below.setCell ?_ ?_ _); rotate_left; focus (((try dsimp only); repeat (first | omega | simp only [World.size_alloc, World.size_setCell, World.size_drew] | (with_reducible refine le_ext_of ?_) | (with_reducible refine le_ext_add ?_))); done)) | (with_reducible refine Below.drew ?_)))
  have HBX0 := Lib.hid (HBW.out.trans (hBX.mono HBW.out.size))
  obtain ⟨b1, o1, hp1⟩ := ints_some (f := hvF b v) (by unfold hvF; exact hi1)
  obtain ⟨b2, o2, hp2⟩ := ints_some (f := rvF b v) (by unfold rvF; exact hi2)
  subst hp1 hp2
  have HI1 := Lib.hid (hi1.below hEX)
  have HJ1 := Lib.hid (hi2.below hEX)
  have HXK := Lib.hid ((SBk.own (b := xS b v) (B := W.heap.size) (c := d) (by rw [HM.out]; exact hO) (HK1.out.bel (below_ext _ _)).mm).bel hEX)
  have Nb := Lib.hid (show Blk X0 w.heap.size 26 #[.int .i64 b.lo, .int .i64 b.hi, .slice p b.ns.length c] from Kb.out.bel hBX)
  have Kx := Lib.hid (show Blk X0 gx 26 #[.int .i64 b.lo, .int .i64 b.hi, .slice q b.ns.length d] by rw [← hX]; exact (Blk.new hg.symm).alloc _)
  have Kd := Lib.hid (show Blk X0 (gx + 1) 50 #[.slice (some ⟨b1, o1, none⟩) 61 c1, .slice (some ⟨b2, o2, none⟩) 61 c2] by rw [← hX]; exact Blk.new (by simp; omega))
  have HK2 := Lib.hid (HK1.out.bel hBX)
  rw [hg]
  clear qb0 qb1 qb2 lb
  clear hX hg hEX hBX hO hi1 hi2 HK1 Kb HBW
  have HK1 := HK2
  have Kb := Nb
  clear HK2 Nb
  have qb0 := Kb.out.cell 0
  have qb1 := Kb.out.cell 1
  have qb2 := Kb.out.cell 2
  have lb := Kb.out.lt
  have qx0 := Kx.out.cell 0
  have qx1 := Kx.out.cell 1
  have qx2 := Kx.out.cell 2
  have lx := Kx.out.lt
  have qd0 := Kd.out.cell 0
  have qd1 := Kd.out.cell 1
  have ld := Kd.out.lt
  simp only [List.size_toArray, List.length_cons, List.length_nil, Nat.reduceAdd, Nat.reduceLT, getElem?_pos, List.getElem_toArray, List.getElem_cons_zero, List.getElem_cons_succ] at qb0 qb1 qb2 qx0 qx1 qx2 qd0 qd1
  go_upto_region 5 with (go_at_call 14; refine (Right_m (xS b v) q d b.ns.length true _ HXK.out HT.out.valid HT.out.right HM.out).mono ?_; rintro e wu ⟨rfl, y, rfl⟩)
  generalize hX : ext X0 y = X1 at *
  have hBX : Below X0.heap.size X0 X1 := by rw [← hX]; (repeat (first | (with_reducible exact Below.refl _ _) | (with_reducible assumption) | ((with_reducible refine below_ext_trans ?_ ?_ _); rotate_left; focus (((try dsimp only); repeat (first | omega | simp only [World.size_alloc, World.size_setCell, World.size_drew] | (with_reducible refine le_ext_of ?_) | (with_reducible refine le_ext_add ?_))); done)) | ((with_reducible refine Below.alloc ?_ ?_ _); rotate_left; focus (((try dsimp only); repeat (first | omega | simp only [World.size_alloc, World.size_setCell, World.size_drew] | (with_reducible refine le_ext_of ?_) | (with_reducible refine le_ext_add ?_))); done)) | ((with_reducible refine Below.setCell ?_ ?_ _); rotate_left; focus (((try dsimp only); repeat (first | omega | simp only [World.size_alloc, World.size_setCell, World.size_drew] | (with_reducible refine le_ext_of ?_) | (with_reducible refine le_ext_add ?_))); done)) | (with_reducible refine Below.drew ?_)))
  have HBX := Lib.hid (HBX0.out.trans (hBX.mono HBX0.out.size))
  have Nb := Lib.hid (show Blk X1 w.heap.size 26 #[.int .i64 b.lo, .int .i64 b.hi, .slice p b.ns.length c] from Kb.out.bel hBX)
  have Nx := Lib.hid (show Blk X1 gx 26 #[.int .i64 b.lo, .int .i64 b.hi, .slice q b.ns.length d] from Kx.out.bel hBX)
  have Nd := Lib.hid (show Blk X1 (gx + 1) 50 #[.slice (some ⟨b1, o1, none⟩) 61 c1, .slice (some ⟨b2, o2, none⟩) 61 c2] from Kd.out.bel hBX)
  have HK2 := Lib.hid (HK1.out.bel hBX); clear HK1; have HK1 := HK2; clear HK2; have HX2 := Lib.hid (HXK.out.bel hBX); clear HXK; have HXK := HX2; clear HX2; have HI2 := Lib.hid (HI1.out.below hBX); clear HI1; have HI1 := HI2; clear HI2; have HJ2 := Lib.hid (HJ1.out.below hBX); clear HJ1; have HJ1 := HJ2; clear HJ2
  clear qb0 qb1 qb2 qx0 qx1 qx2 qd0 qd1 lb lx ld
  clear hX hBX HBX0 Kb Kx Kd
  have Kb := Nb
  have Kx := Nx
  have Kd := Nd
  clear Nb Nx Nd
  have HBX1 := HBX
  clear HBX
  have qb0 := Kb.out.cell 0
  have qb1 := Kb.out.cell 1
  have qb2 := Kb.out.cell 2
  have lb := Kb.out.lt
  have qx0 := Kx.out.cell 0
  have qx1 := Kx.out.cell 1
  have qx2 := Kx.out.cell 2
  have lx := Kx.out.lt
  have qd0 := Kd.out.cell 0
  have qd1 := Kd.out.cell 1
  have ld := Kd.out.lt
  simp only [List.size_toArray, List.length_cons, List.length_nil, Nat.reduceAdd, Nat.reduceLT, getElem?_pos, List.getElem_toArray, List.getElem_cons_zero, List.getElem_cons_succ] at qb0 qb1 qb2 qx0 qx1 qx2 qd0 qd1
  go_upto_region 6 with (go_at_call 31; refine (Wrong_m (xS b v) q d b.ns.length _ HXK.out HT.out.valid HT.out.right HM.out).mono ?_; rintro e wu ⟨pw, cw, rfl, y, rfl⟩)
  generalize hX : ext X1 y = X2 at *
  have hBX : Below X1.heap.size X1 X2 := by rw [← hX]; (repeat (first | (with_reducible exact Below.refl _ _) | (with_reducible assumption) | ((with_reducible refine below_ext_trans ?_ ?_ _); rotate_left; focus (((try dsimp only); repeat (first | omega | simp only [World.size_alloc, World.size_setCell, World.size_drew] | (with_reducible refine le_ext_of ?_) | (with_reducible refine le_ext_add ?_))); done)) | ((with_reducible refine Below.alloc ?_ ?_ _); rotate_left; focus (((try dsimp only); repeat (first | omega | simp only [World.size_alloc, World.size_setCell, World.size_drew] | (with_reducible refine le_ext_of ?_) | (with_reducible refine le_ext_add ?_))); done)) | ((with_reducible refine Below.setCell ?_ ?_ _); rotate_left; focus (((try dsimp only); repeat (first | omega | simp only [World.size_alloc, World.size_setCell, World.size_drew] | (with_reducible refine le_ext_of ?_) | (with_reducible refine le_ext_add ?_))); done)) | (with_reducible refine Below.drew ?_)))
  have HBX := Lib.hid (HBX1.out.trans (hBX.mono HBX1.out.size))
  have Nb := Lib.hid (show Blk X2 w.heap.size 26 #[.int .i64 b.lo, .int .i64 b.hi, .slice p b.ns.length c] from Kb.out.bel hBX)
  have Nx := Lib.hid (show Blk X2 gx 26 #[.int .i64 b.lo, .int .i64 b.hi, .slice q b.ns.length d] from Kx.out.bel hBX)
  have Nd := Lib.hid (show Blk X2 (gx + 1) 50 #[.slice (some ⟨b1, o1, none⟩) 61 c1, .slice (some ⟨b2, o2, none⟩) 61 c2] from Kd.out.bel hBX)
  have HK2 := Lib.hid (HK1.out.bel hBX); clear HK1; have HK1 := HK2; clear HK2; have HX2 := Lib.hid (HXK.out.bel hBX); clear HXK; have HXK := HX2; clear HX2; have HI2 := Lib.hid (HI1.out.below hBX); clear HI1; have HI1 := HI2; clear HI2; have HJ2 := Lib.hid (HJ1.out.below hBX); clear HJ1; have HJ1 := HJ2; clear HJ2
  clear qb0 qb1 qb2 qx0 qx1 qx2 qd0 qd1 lb lx ld
  clear hX hBX HBX1 Kb Kx Kd
  have Kb := Nb
  have Kx := Nx
  have Kd := Nd
  clear Nb Nx Nd
  have HBX2 := HBX
  clear HBX
  have qb0 := Kb.out.cell 0
  have qb1 := Kb.out.cell 1
  have qb2 := Kb.out.cell 2
  have lb := Kb.out.lt
  have qx0 := Kx.out.cell 0
  have qx1 := Kx.out.cell 1
  have qx2 := Kx.out.cell 2
  have lx := Kx.out.lt
  have qd0 := Kd.out.cell 0
  have qd1 := Kd.out.cell 1
  have ld := Kd.out.lt
  simp only [List.size_toArray, List.length_cons, List.length_nil, Nat.reduceAdd, Nat.reduceLT, getElem?_pos, List.getElem_toArray, List.getElem_cons_zero, List.getElem_cons_succ] at qb0 qb1 qb2 qx0 qx1 qx2 qd0 qd1
  have hg0 : decide (0 < b.ns.length) = false := by rw [HM0.out]; rfl
  go_upto_region 9 with fail
  clear hg0
  go_upto_region 10 with (go_at_call 27; refine (Saved_m (xS b v) q d b.ns.length _ HXK.out HT.out.valid HT.out.right HM.out s1 s2 HS1.out HS2.out).mono ?_; rintro e wu ⟨rfl, y, rfl⟩)
  generalize hX : (ext X2 y).alloc _ = X3
  generalize hg : (ext X2 y).heap.size = gs at *
  have hBX : Below X2.heap.size X2 X3 := by rw [← hX]; (repeat (first | (with_reducible exact Below.refl _ _) | (with_reducible assumption) | ((with_reducible refine below_ext_trans ?_ ?_ _); rotate_left; focus (((try dsimp only); repeat (first | omega | simp only [World.size_alloc, World.size_setCell, World.size_drew] | (with_reducible refine le_ext_of ?_) | (with_reducible refine le_ext_add ?_))); done)) | ((with_reducible refine Below.alloc ?_ ?_ _); rotate_left; focus (((try dsimp only); repeat (first | omega | simp only [World.size_alloc, World.size_setCell, World.size_drew] | (with_reducible refine le_ext_of ?_) | (with_reducible refine le_ext_add ?_))); done)) | ((with_reducible refine Below.setCell ?_ ?_ _); rotate_left; focus (((try dsimp only); repeat (first | omega | simp only [World.size_alloc, World.size_setCell, World.size_drew] | (with_reducible refine le_ext_of ?_) | (with_reducible refine le_ext_add ?_))); done)) | (with_reducible refine Below.drew ?_)))
  have HBX := Lib.hid (HBX2.out.trans (hBX.mono HBX2.out.size))
  have Nb := Lib.hid (show Blk X3 w.heap.size 26 #[.int .i64 b.lo, .int .i64 b.hi, .slice p b.ns.length c] from Kb.out.bel hBX)
  have Nx := Lib.hid (show Blk X3 gx 26 #[.int .i64 b.lo, .int .i64 b.hi, .slice q b.ns.length d] from Kx.out.bel hBX)
  have Nd := Lib.hid (show Blk X3 (gx + 1) 50 #[.slice (some ⟨b1, o1, none⟩) 61 c1, .slice (some ⟨b2, o2, none⟩) 61 c2] from Kd.out.bel hBX)
  have Ns := Lib.hid (show Blk X3 gs 23 #[.int .i64 s1, .int .i64 s2] by rw [← hX]; exact Blk.new hg.symm)
  have HK2 := Lib.hid (HK1.out.bel hBX); clear HK1; have HK1 := HK2; clear HK2; have HX2 := Lib.hid (HXK.out.bel hBX); clear HXK; have HXK := HX2; clear HX2; have HI2 := Lib.hid (HI1.out.below hBX); clear HI1; have HI1 := HI2; clear HI2; have HJ2 := Lib.hid (HJ1.out.below hBX); clear HJ1; have HJ1 := HJ2; clear HJ2
  clear qb0 qb1 qb2 qx0 qx1 qx2 qd0 qd1 lb lx ld
  clear hX hBX HBX2 hg Kb Kx Kd
  have Kb := Nb
  have Kx := Nx
  have Kd := Nd
  have Ks := Ns
  clear Nb Nx Nd Ns
  have HBX3 := HBX
  clear HBX
  have qb0 := Kb.out.cell 0
  have qb1 := Kb.out.cell 1
  have qb2 := Kb.out.cell 2
  have lb := Kb.out.lt
  have qx0 := Kx.out.cell 0
  have qx1 := Kx.out.cell 1
  have qx2 := Kx.out.cell 2
  have lx := Kx.out.lt
  have qd0 := Kd.out.cell 0
  have qd1 := Kd.out.cell 1
  have ld := Kd.out.lt
  have qs0 := Ks.out.cell 0
  have qs1 := Ks.out.cell 1
  have ls := Ks.out.lt
  simp only [List.size_toArray, List.length_cons, List.length_nil, Nat.reduceAdd, Nat.reduceLT, getElem?_pos, List.getElem_toArray, List.getElem_cons_zero, List.getElem_cons_succ] at qb0 qb1 qb2 qx0 qx1 qx2 qd0 qd1 qs0 qs1
  obtain ⟨a1, la1⟩ := held_cell HI1.out 0 (by omega)
  rw [Nat.add_zero] at a1
  obtain ⟨a2, -⟩ := held_cell HI1.out 60 (by omega)
  have i0 : True := trivial
  have i1 : True := trivial
  have hb1 := HT.out.bd 0
  have hb2 := HT.out.bd 60
  have ew : IntKind.i64.wrap (hvF b v 0 - hvF b v 60) = hvF b v 0 - hvF b v 60 := IntWalk.i64_in _ (by omega)
  obtain ⟨sv1, sv2⟩ := HSV.out
  clear hb1 hb2
  refine wp_region_ext (by kernel_rfl) (by kernel_rfl) ?_
  repeat (go_big_quiet_step (first | (go_at_call 36; exact quiet_ext (Holds_yes s1 s2 (hvF b v 0 - hvF b v 60) _ sv1 sv2))))
  (refine wpQuiet_nil ?_; rintro _ ⟨x, rfl⟩)
  generalize hX : ext X3 _ = Y4
  have hBX : Below X3.heap.size X3 Y4 := by rw [← hX]; exact below_ext _ _
  have HBY4 := Lib.hid (HBX3.out.trans (hBX.mono HBX3.out.size))
  have HK2 := Lib.hid (HK1.out.bel hBX); clear HK1; have HK1 := HK2; clear HK2; have HX2 := Lib.hid (HXK.out.bel hBX); clear HXK; have HXK := HX2; clear HX2; have HI2 := Lib.hid (HI1.out.below hBX); clear HI1; have HI1 := HI2; clear HI2; have HJ2 := Lib.hid (HJ1.out.below hBX); clear HJ1; have HJ1 := HJ2; clear HJ2
  have Nb := Lib.hid (show Blk Y4 w.heap.size 26 #[.int .i64 b.lo, .int .i64 b.hi, .slice p b.ns.length c] from Kb.out.bel hBX)
  have Nx := Lib.hid (show Blk Y4 gx 26 #[.int .i64 b.lo, .int .i64 b.hi, .slice q b.ns.length d] from Kx.out.bel hBX)
  have Nd := Lib.hid (show Blk Y4 (gx + 1) 50 #[.slice (some ⟨b1, o1, none⟩) 61 c1, .slice (some ⟨b2, o2, none⟩) 61 c2] from Kd.out.bel hBX)
  have Ns := Lib.hid (show Blk Y4 gs 23 #[.int .i64 s1, .int .i64 s2] from Ks.out.bel hBX)
  clear qb0 qb1 qb2 qx0 qx1 qx2 qd0 qd1 qs0 qs1 lb lx ld ls
  clear hX hBX HBX3 Kb Kx Kd Ks
  have Kb := Nb
  have Kx := Nx
  have Kd := Nd
  have Ks := Ns
  clear Nb Nx Nd Ns
  have qb0 := Kb.out.cell 0
  have qb1 := Kb.out.cell 1
  have qb2 := Kb.out.cell 2
  have lb := Kb.out.lt
  have qx0 := Kx.out.cell 0
  have qx1 := Kx.out.cell 1
  have qx2 := Kx.out.cell 2
  have lx := Kx.out.lt
  have qd0 := Kd.out.cell 0
  have qd1 := Kd.out.cell 1
  have ld := Kd.out.lt
  have qs0 := Ks.out.cell 0
  have qs1 := Ks.out.cell 1
  have ls := Ks.out.lt
  simp only [List.size_toArray, List.length_cons, List.length_nil, Nat.reduceAdd, Nat.reduceLT, getElem?_pos, List.getElem_toArray, List.getElem_cons_zero, List.getElem_cons_succ] at qb0 qb1 qb2 qx0 qx1 qx2 qd0 qd1 qs0 qs1
  clear a1 la1 a2 i0 i1 ew sv1 sv2
  go_upto_region 12 with fail
  have i2 : IntKind.i64.wrap (0 : Int) = 0 := by rfl
  clear i2
  go_upto_region 13 with (go_at_call 37; refine (Wheel_eq n 61 r _ (by decide) HRR.out).mono ?_; rintro e wu ⟨rfl, y, rfl⟩)
  generalize hX : (ext Y4 y).alloc _ = X5
  generalize hg : (ext Y4 y).heap.size = gl at *
  have hBX : Below Y4.heap.size Y4 X5 := by rw [← hX]; (repeat (first | (with_reducible exact Below.refl _ _) | (with_reducible assumption) | ((with_reducible refine below_ext_trans ?_ ?_ _); rotate_left; focus (((try dsimp only); repeat (first | omega | simp only [World.size_alloc, World.size_setCell, World.size_drew] | (with_reducible refine le_ext_of ?_) | (with_reducible refine le_ext_add ?_))); done)) | ((with_reducible refine Below.alloc ?_ ?_ _); rotate_left; focus (((try dsimp only); repeat (first | omega | simp only [World.size_alloc, World.size_setCell, World.size_drew] | (with_reducible refine le_ext_of ?_) | (with_reducible refine le_ext_add ?_))); done)) | ((with_reducible refine Below.setCell ?_ ?_ _); rotate_left; focus (((try dsimp only); repeat (first | omega | simp only [World.size_alloc, World.size_setCell, World.size_drew] | (with_reducible refine le_ext_of ?_) | (with_reducible refine le_ext_add ?_))); done)) | (with_reducible refine Below.drew ?_)))
  have HBX := Lib.hid (HBY4.out.trans (hBX.mono HBY4.out.size))
  have Nb := Lib.hid (show Blk X5 w.heap.size 26 #[.int .i64 b.lo, .int .i64 b.hi, .slice p b.ns.length c] from Kb.out.bel hBX)
  have Nx := Lib.hid (show Blk X5 gx 26 #[.int .i64 b.lo, .int .i64 b.hi, .slice q b.ns.length d] from Kx.out.bel hBX)
  have Nd := Lib.hid (show Blk X5 (gx + 1) 50 #[.slice (some ⟨b1, o1, none⟩) 61 c1, .slice (some ⟨b2, o2, none⟩) 61 c2] from Kd.out.bel hBX)
  have Ns := Lib.hid (show Blk X5 gs 23 #[.int .i64 s1, .int .i64 s2] from Ks.out.bel hBX)
  have Nl := Lib.hid (show Blk X5 gl 3 #[.int .i64 0, .int .i64 0, .int .i64 (r : Nat), .int .i64 60] by rw [← hX]; exact Blk.new hg.symm)
  have HK2 := Lib.hid (HK1.out.bel hBX); clear HK1; have HK1 := HK2; clear HK2; have HX2 := Lib.hid (HXK.out.bel hBX); clear HXK; have HXK := HX2; clear HX2; have HI2 := Lib.hid (HI1.out.below hBX); clear HI1; have HI1 := HI2; clear HI2; have HJ2 := Lib.hid (HJ1.out.below hBX); clear HJ1; have HJ1 := HJ2; clear HJ2
  clear qb0 qb1 qb2 qx0 qx1 qx2 qd0 qd1 qs0 qs1 lb lx ld ls
  clear hX hBX HBY4 hg Kb Kx Kd Ks
  have Kb := Nb
  have Kx := Nx
  have Kd := Nd
  have Ks := Ns
  have Kl := Nl
  clear Nb Nx Nd Ns Nl
  have HBX5 := HBX
  clear HBX
  have qb0 := Kb.out.cell 0
  have qb1 := Kb.out.cell 1
  have qb2 := Kb.out.cell 2
  have lb := Kb.out.lt
  have qx0 := Kx.out.cell 0
  have qx1 := Kx.out.cell 1
  have qx2 := Kx.out.cell 2
  have lx := Kx.out.lt
  have qd0 := Kd.out.cell 0
  have qd1 := Kd.out.cell 1
  have ld := Kd.out.lt
  have qs0 := Ks.out.cell 0
  have qs1 := Ks.out.cell 1
  have ls := Ks.out.lt
  have ql0 := Kl.out.cell 0
  have ql1 := Kl.out.cell 1
  have ql2 := Kl.out.cell 2
  have ql3 := Kl.out.cell 3
  have ll := Kl.out.lt
  simp only [List.size_toArray, List.length_cons, List.length_nil, Nat.reduceAdd, Nat.reduceLT, getElem?_pos, List.getElem_toArray, List.getElem_cons_zero, List.getElem_cons_succ] at qb0 qb1 qb2 qx0 qx1 qx2 qd0 qd1 qs0 qs1 ql0 ql1 ql2 ql3
  go_wp2_with fail
  clear qb0 qb1 qb2 qx0 qx1 qx2 qd0 qd1 qs0 qs1 ql0 ql1 ql2 ql3 lb lx ld ls ll
  go_loopw [17] (fun i wr => ∃ j : Nat, j ≤ 4 ∧ i = .int .i64 j ∧ ∃ x, wr = ext X5 x) (fun i _ => 4 - (intOf i).toNat)
  case atStart => exact ⟨0, by omega, rfl, ext_of (Below.refl _ _)⟩
  case round =>
    obtain ⟨j, hj, rfl, z, rfl⟩ := hrel
    generalize hX : ext X5 z = V at *
    have hBX : Below X5.heap.size X5 V := by rw [← hX]; exact below_ext _ _
    have HBV := Lib.hid hBX
    have Nb := Lib.hid (show Blk V w.heap.size 26 #[.int .i64 b.lo, .int .i64 b.hi, .slice p b.ns.length c] from Kb.out.bel hBX)
    have Nx := Lib.hid (show Blk V gx 26 #[.int .i64 b.lo, .int .i64 b.hi, .slice q b.ns.length d] from Kx.out.bel hBX)
    have Nd := Lib.hid (show Blk V (gx + 1) 50 #[.slice (some ⟨b1, o1, none⟩) 61 c1, .slice (some ⟨b2, o2, none⟩) 61 c2] from Kd.out.bel hBX)
    have Ns := Lib.hid (show Blk V gs 23 #[.int .i64 s1, .int .i64 s2] from Ks.out.bel hBX)
    have Nl := Lib.hid (show Blk V gl 3 #[.int .i64 0, .int .i64 0, .int .i64 (r : Nat), .int .i64 60] from Kl.out.bel hBX)
    have HK19 := Lib.hid (HK1.out.bel hBX); clear HK1; have HK1 := HK19; clear HK19
    have HXK9 := Lib.hid (HXK.out.bel hBX); clear HXK; have HXK := HXK9; clear HXK9
    have HI19 := Lib.hid (HI1.out.below hBX); clear HI1; have HI1 := HI19; clear HI19
    have HJ19 := Lib.hid (HJ1.out.below hBX); clear HJ1; have HJ1 := HJ19; clear HJ19
    clear hX hBX Kb Kx Kd Ks Kl
    have Kb := Nb
    have Kx := Nx
    have Kd := Nd
    have Ks := Ns
    have Kl := Nl
    clear Nb Nx Nd Ns Nl
    have qb0 := Kb.out.cell 0
    have qb1 := Kb.out.cell 1
    have qb2 := Kb.out.cell 2
    have lb := Kb.out.lt
    have qx0 := Kx.out.cell 0
    have qx1 := Kx.out.cell 1
    have qx2 := Kx.out.cell 2
    have lx := Kx.out.lt
    have qd0 := Kd.out.cell 0
    have qd1 := Kd.out.cell 1
    have ld := Kd.out.lt
    have qs0 := Ks.out.cell 0
    have qs1 := Ks.out.cell 1
    have ls := Ks.out.lt
    have ql0 := Kl.out.cell 0
    have ql1 := Kl.out.cell 1
    have ql2 := Kl.out.cell 2
    have ql3 := Kl.out.cell 3
    have ll := Kl.out.lt
    simp only [List.size_toArray, List.length_cons, List.length_nil, Nat.reduceAdd, Nat.reduceLT, getElem?_pos, List.getElem_toArray, List.getElem_cons_zero, List.getElem_cons_succ] at qb0 qb1 qb2 qx0 qx1 qx2 qd0 qd1 qs0 qs1 ql0 ql1 ql2 ql3
    by_cases hlt : j < 4
    · obtain ⟨h, h60, hce⟩ : ∃ h : Nat, h ≤ 60 ∧ V.cell? ⟨gl, j, none⟩ = some (.int .i64 (h : Nat)) := by
        rcases (show j = 0 ∨ j = 1 ∨ j = 2 ∨ j = 3 by omega) with rfl | rfl | rfl | rfl
        · exact ⟨0, by omega, ql0⟩
        · exact ⟨0, HL60.out, ql1⟩
        · exact ⟨r, HR60.out, ql2⟩
        · exact ⟨60, by omega, ql3⟩
      have j0 : (0 : Int) ≤ (j : Int) := by omega
      have j1 : (j : Int) < 4 := by omega
      obtain ⟨l1, hl1⟩ : ∃ x, minF Prod.fst 400 (atL (xS b v) (h : Nat)) = x := ⟨_, rfl⟩
      obtain ⟨u1, hu1⟩ : ∃ x, maxF Prod.fst 0 (atL (xS b v) (h : Nat)) = x := ⟨_, rfl⟩
      obtain ⟨r1, hr1⟩ : ∃ x, minF Prod.snd 400 (atL (xS b v) (h : Nat)) = x := ⟨_, rfl⟩
      obtain ⟨r2, hr2⟩ : ∃ x, maxF Prod.snd 0 (atL (xS b v) (h : Nat)) = x := ⟨_, rfl⟩
      have hh := HT.out.held h
      have hr := HT.out.rate h
      rw [hl1, hu1] at hh
      rw [hr1, hr2] at hr
      have E1 := Lib.hid hl1
      have E2 := Lib.hid hu1
      have E3 := Lib.hid hr1
      have E4 := Lib.hid hr2
      have HH := Lib.hid hh
      have HR := Lib.hid hr
      have HB60 := Lib.hid (show (0 : Int) ≤ (h : Int) ∧ (h : Int) ≤ 60 by omega)
      have H60 := Lib.hid h60
      clear hl1 hu1 hr1 hr2 hh hr h60
      go_upto_region 17 with fail
      clear hce j0 j1
      go_upto_region 18 with (go_at_call 20; refine (Held_m (xS b v) q d b.ns.length _ HXK.out HT.out.valid HT.out.right HM.out (h : Nat) l1 u1 HB60.out E1.out E2.out).mono ?_; rintro e wu ⟨rfl, y, rfl⟩)
      generalize hX : (ext V y).alloc _ = X60
      generalize hg : (ext V y).heap.size = ge at *
      have hBX : Below V.heap.size V X60 := by rw [← hX]; (repeat (first | (with_reducible exact Below.refl _ _) | (with_reducible assumption) | ((with_reducible refine below_ext_trans ?_ ?_ _); rotate_left; focus (((try dsimp only); repeat (first | omega | simp only [World.size_alloc, World.size_setCell, World.size_drew] | (with_reducible refine le_ext_of ?_) | (with_reducible refine le_ext_add ?_))); done)) | ((with_reducible refine Below.alloc ?_ ?_ _); rotate_left; focus (((try dsimp only); repeat (first | omega | simp only [World.size_alloc, World.size_setCell, World.size_drew] | (with_reducible refine le_ext_of ?_) | (with_reducible refine le_ext_add ?_))); done)) | ((with_reducible refine Below.setCell ?_ ?_ _); rotate_left; focus (((try dsimp only); repeat (first | omega | simp only [World.size_alloc, World.size_setCell, World.size_drew] | (with_reducible refine le_ext_of ?_) | (with_reducible refine le_ext_add ?_))); done)) | (with_reducible refine Below.drew ?_)))
      have HBX := Lib.hid (HBV.out.trans (hBX.mono HBV.out.size))
      have Nb := Lib.hid (show Blk X60 w.heap.size 26 #[.int .i64 b.lo, .int .i64 b.hi, .slice p b.ns.length c] from Kb.out.bel hBX)
      have Nx := Lib.hid (show Blk X60 gx 26 #[.int .i64 b.lo, .int .i64 b.hi, .slice q b.ns.length d] from Kx.out.bel hBX)
      have Nd := Lib.hid (show Blk X60 (gx + 1) 50 #[.slice (some ⟨b1, o1, none⟩) 61 c1, .slice (some ⟨b2, o2, none⟩) 61 c2] from Kd.out.bel hBX)
      have Ns := Lib.hid (show Blk X60 gs 23 #[.int .i64 s1, .int .i64 s2] from Ks.out.bel hBX)
      have Nl := Lib.hid (show Blk X60 gl 3 #[.int .i64 0, .int .i64 0, .int .i64 (r : Nat), .int .i64 60] from Kl.out.bel hBX)
      have Ne := Lib.hid (show Blk X60 ge 23 #[.int .i64 l1, .int .i64 u1] by rw [← hX]; exact Blk.new hg.symm)
      have HK2 := Lib.hid (HK1.out.bel hBX); clear HK1; have HK1 := HK2; clear HK2; have HX2 := Lib.hid (HXK.out.bel hBX); clear HXK; have HXK := HX2; clear HX2; have HI2 := Lib.hid (HI1.out.below hBX); clear HI1; have HI1 := HI2; clear HI2; have HJ2 := Lib.hid (HJ1.out.below hBX); clear HJ1; have HJ1 := HJ2; clear HJ2
      clear qb0 qb1 qb2 qx0 qx1 qx2 qd0 qd1 qs0 qs1 ql0 ql1 ql2 ql3 lb lx ld ls ll
      clear hX hBX HBV hg Kb Kx Kd Ks Kl
      have Kb := Nb
      have Kx := Nx
      have Kd := Nd
      have Ks := Ns
      have Kl := Nl
      have Ke := Ne
      clear Nb Nx Nd Ns Nl Ne
      have HBX60 := HBX
      clear HBX
      have qb0 := Kb.out.cell 0
      have qb1 := Kb.out.cell 1
      have qb2 := Kb.out.cell 2
      have lb := Kb.out.lt
      have qx0 := Kx.out.cell 0
      have qx1 := Kx.out.cell 1
      have qx2 := Kx.out.cell 2
      have lx := Kx.out.lt
      have qd0 := Kd.out.cell 0
      have qd1 := Kd.out.cell 1
      have ld := Kd.out.lt
      have qs0 := Ks.out.cell 0
      have qs1 := Ks.out.cell 1
      have ls := Ks.out.lt
      have ql0 := Kl.out.cell 0
      have ql1 := Kl.out.cell 1
      have ql2 := Kl.out.cell 2
      have ql3 := Kl.out.cell 3
      have ll := Kl.out.lt
      have qe0 := Ke.out.cell 0
      have qe1 := Ke.out.cell 1
      have le := Ke.out.lt
      simp only [List.size_toArray, List.length_cons, List.length_nil, Nat.reduceAdd, Nat.reduceLT, getElem?_pos, List.getElem_toArray, List.getElem_cons_zero, List.getElem_cons_succ] at qb0 qb1 qb2 qx0 qx1 qx2 qd0 qd1 qs0 qs1 ql0 ql1 ql2 ql3 qe0 qe1
      go_upto_region 19 with (go_at_call 22; refine (Rate_m (xS b v) q d b.ns.length _ HXK.out HT.out.valid HT.out.right HM.out (h : Nat) r1 r2 HB60.out E3.out E4.out).mono ?_; rintro e wu ⟨rfl, y, rfl⟩)
      generalize hX : (ext X60 y).alloc _ = X61
      generalize hg : (ext X60 y).heap.size = gf at *
      have hBX : Below X60.heap.size X60 X61 := by rw [← hX]; (repeat (first | (with_reducible exact Below.refl _ _) | (with_reducible assumption) | ((with_reducible refine below_ext_trans ?_ ?_ _); rotate_left; focus (((try dsimp only); repeat (first | omega | simp only [World.size_alloc, World.size_setCell, World.size_drew] | (with_reducible refine le_ext_of ?_) | (with_reducible refine le_ext_add ?_))); done)) | ((with_reducible refine Below.alloc ?_ ?_ _); rotate_left; focus (((try dsimp only); repeat (first | omega | simp only [World.size_alloc, World.size_setCell, World.size_drew] | (with_reducible refine le_ext_of ?_) | (with_reducible refine le_ext_add ?_))); done)) | ((with_reducible refine Below.setCell ?_ ?_ _); rotate_left; focus (((try dsimp only); repeat (first | omega | simp only [World.size_alloc, World.size_setCell, World.size_drew] | (with_reducible refine le_ext_of ?_) | (with_reducible refine le_ext_add ?_))); done)) | (with_reducible refine Below.drew ?_)))
      have HBX := Lib.hid (HBX60.out.trans (hBX.mono HBX60.out.size))
      have Nb := Lib.hid (show Blk X61 w.heap.size 26 #[.int .i64 b.lo, .int .i64 b.hi, .slice p b.ns.length c] from Kb.out.bel hBX)
      have Nx := Lib.hid (show Blk X61 gx 26 #[.int .i64 b.lo, .int .i64 b.hi, .slice q b.ns.length d] from Kx.out.bel hBX)
      have Nd := Lib.hid (show Blk X61 (gx + 1) 50 #[.slice (some ⟨b1, o1, none⟩) 61 c1, .slice (some ⟨b2, o2, none⟩) 61 c2] from Kd.out.bel hBX)
      have Ns := Lib.hid (show Blk X61 gs 23 #[.int .i64 s1, .int .i64 s2] from Ks.out.bel hBX)
      have Nl := Lib.hid (show Blk X61 gl 3 #[.int .i64 0, .int .i64 0, .int .i64 (r : Nat), .int .i64 60] from Kl.out.bel hBX)
      have Ne := Lib.hid (show Blk X61 ge 23 #[.int .i64 l1, .int .i64 u1] from Ke.out.bel hBX)
      have Nf := Lib.hid (show Blk X61 gf 23 #[.int .i64 r1, .int .i64 r2] by rw [← hX]; exact Blk.new hg.symm)
      have HK2 := Lib.hid (HK1.out.bel hBX); clear HK1; have HK1 := HK2; clear HK2; have HX2 := Lib.hid (HXK.out.bel hBX); clear HXK; have HXK := HX2; clear HX2; have HI2 := Lib.hid (HI1.out.below hBX); clear HI1; have HI1 := HI2; clear HI2; have HJ2 := Lib.hid (HJ1.out.below hBX); clear HJ1; have HJ1 := HJ2; clear HJ2
      clear qb0 qb1 qb2 qx0 qx1 qx2 qd0 qd1 qs0 qs1 ql0 ql1 ql2 ql3 qe0 qe1 lb lx ld ls ll le
      clear hX hBX HBX60 hg Kb Kx Kd Ks Kl Ke
      have Kb := Nb
      have Kx := Nx
      have Kd := Nd
      have Ks := Ns
      have Kl := Nl
      have Ke := Ne
      have Kf := Nf
      clear Nb Nx Nd Ns Nl Ne Nf
      have HBX61 := HBX
      clear HBX
      have qb0 := Kb.out.cell 0
      have qb1 := Kb.out.cell 1
      have qb2 := Kb.out.cell 2
      have lb := Kb.out.lt
      have qx0 := Kx.out.cell 0
      have qx1 := Kx.out.cell 1
      have qx2 := Kx.out.cell 2
      have lx := Kx.out.lt
      have qd0 := Kd.out.cell 0
      have qd1 := Kd.out.cell 1
      have ld := Kd.out.lt
      have qs0 := Ks.out.cell 0
      have qs1 := Ks.out.cell 1
      have ls := Ks.out.lt
      have ql0 := Kl.out.cell 0
      have ql1 := Kl.out.cell 1
      have ql2 := Kl.out.cell 2
      have ql3 := Kl.out.cell 3
      have ll := Kl.out.lt
      have qe0 := Ke.out.cell 0
      have qe1 := Ke.out.cell 1
      have le := Ke.out.lt
      have qf0 := Kf.out.cell 0
      have qf1 := Kf.out.cell 1
      have lf := Kf.out.lt
      simp only [List.size_toArray, List.length_cons, List.length_nil, Nat.reduceAdd, Nat.reduceLT, getElem?_pos, List.getElem_toArray, List.getElem_cons_zero, List.getElem_cons_succ] at qb0 qb1 qb2 qx0 qx1 qx2 qd0 qd1 qs0 qs1 ql0 ql1 ql2 ql3 qe0 qe1 qf0 qf1
      obtain ⟨a1, la1⟩ := held_cell HI1.out h H60.out
      obtain ⟨a2, la2⟩ := rate_cell HJ1.out h H60.out
      have i0 : (0 : Int) ≤ (h : Int) := by omega
      have i1 : (h : Int) < 61 := by have := H60.out; omega
      refine wp_region_ext (by kernel_rfl) (by kernel_rfl) ?_
      repeat (go_big_quiet_step (first | (go_at_call 18; exact quiet_ext (Can_m (xS b v) q d b.ns.length _ (HXK.out.bel (by (repeat (first | (with_reducible exact Below.refl _ _) | (with_reducible assumption) | ((with_reducible refine below_ext_trans ?_ ?_ _); rotate_left; focus (((try dsimp only); repeat (first | omega | simp only [World.size_alloc, World.size_setCell, World.size_drew] | (with_reducible refine le_ext_of ?_) | (with_reducible refine le_ext_add ?_))); done)) | ((with_reducible refine Below.alloc ?_ ?_ _); rotate_left; focus (((try dsimp only); repeat (first | omega | simp only [World.size_alloc, World.size_setCell, World.size_drew] | (with_reducible refine le_ext_of ?_) | (with_reducible refine le_ext_add ?_))); done)) | ((with_reducible refine Below.setCell ?_ ?_ _); rotate_left; focus (((try dsimp only); repeat (first | omega | simp only [World.size_alloc, World.size_setCell, World.size_drew] | (with_reducible refine le_ext_of ?_) | (with_reducible refine le_ext_add ?_))); done)) | (with_reducible refine Below.drew ?_))))) HT.out.valid HT.out.right HM.out (h : Nat) (hvF b v h) HB60.out (HT.out.bd h) (HT.out.can h)))))
      (refine wpQuiet_nil ?_; rintro _ ⟨x, rfl⟩)
      generalize hX : ext X61 _ = Y62
      have hBX : Below X61.heap.size X61 Y62 := by rw [← hX]; exact below_ext _ _
      have HBY62 := Lib.hid (HBX61.out.trans (hBX.mono HBX61.out.size))
      have HK2 := Lib.hid (HK1.out.bel hBX); clear HK1; have HK1 := HK2; clear HK2; have HX2 := Lib.hid (HXK.out.bel hBX); clear HXK; have HXK := HX2; clear HX2; have HI2 := Lib.hid (HI1.out.below hBX); clear HI1; have HI1 := HI2; clear HI2; have HJ2 := Lib.hid (HJ1.out.below hBX); clear HJ1; have HJ1 := HJ2; clear HJ2
      have Nb := Lib.hid (show Blk Y62 w.heap.size 26 #[.int .i64 b.lo, .int .i64 b.hi, .slice p b.ns.length c] from Kb.out.bel hBX)
      have Nx := Lib.hid (show Blk Y62 gx 26 #[.int .i64 b.lo, .int .i64 b.hi, .slice q b.ns.length d] from Kx.out.bel hBX)
      have Nd := Lib.hid (show Blk Y62 (gx + 1) 50 #[.slice (some ⟨b1, o1, none⟩) 61 c1, .slice (some ⟨b2, o2, none⟩) 61 c2] from Kd.out.bel hBX)
      have Ns := Lib.hid (show Blk Y62 gs 23 #[.int .i64 s1, .int .i64 s2] from Ks.out.bel hBX)
      have Nl := Lib.hid (show Blk Y62 gl 3 #[.int .i64 0, .int .i64 0, .int .i64 (r : Nat), .int .i64 60] from Kl.out.bel hBX)
      have Ne := Lib.hid (show Blk Y62 ge 23 #[.int .i64 l1, .int .i64 u1] from Ke.out.bel hBX)
      have Nf := Lib.hid (show Blk Y62 gf 23 #[.int .i64 r1, .int .i64 r2] from Kf.out.bel hBX)
      clear qb0 qb1 qb2 qx0 qx1 qx2 qd0 qd1 qs0 qs1 ql0 ql1 ql2 ql3 qe0 qe1 qf0 qf1 lb lx ld ls ll le lf
      clear hX hBX HBX61 Kb Kx Kd Ks Kl Ke Kf
      have Kb := Nb
      have Kx := Nx
      have Kd := Nd
      have Ks := Ns
      have Kl := Nl
      have Ke := Ne
      have Kf := Nf
      clear Nb Nx Nd Ns Nl Ne Nf
      have qb0 := Kb.out.cell 0
      have qb1 := Kb.out.cell 1
      have qb2 := Kb.out.cell 2
      have lb := Kb.out.lt
      have qx0 := Kx.out.cell 0
      have qx1 := Kx.out.cell 1
      have qx2 := Kx.out.cell 2
      have lx := Kx.out.lt
      have qd0 := Kd.out.cell 0
      have qd1 := Kd.out.cell 1
      have ld := Kd.out.lt
      have qs0 := Ks.out.cell 0
      have qs1 := Ks.out.cell 1
      have ls := Ks.out.lt
      have ql0 := Kl.out.cell 0
      have ql1 := Kl.out.cell 1
      have ql2 := Kl.out.cell 2
      have ql3 := Kl.out.cell 3
      have ll := Kl.out.lt
      have qe0 := Ke.out.cell 0
      have qe1 := Ke.out.cell 1
      have le := Ke.out.lt
      have qf0 := Kf.out.cell 0
      have qf1 := Kf.out.cell 1
      have lf := Kf.out.lt
      simp only [List.size_toArray, List.length_cons, List.length_nil, Nat.reduceAdd, Nat.reduceLT, getElem?_pos, List.getElem_toArray, List.getElem_cons_zero, List.getElem_cons_succ] at qb0 qb1 qb2 qx0 qx1 qx2 qd0 qd1 qs0 qs1 ql0 ql1 ql2 ql3 qe0 qe1 qf0 qf1
      clear a1 la1 a2 la2 i0 i1
      go_upto_region 20 with fail
      obtain ⟨a1, la1⟩ := held_cell HI1.out h H60.out
      obtain ⟨a2, la2⟩ := rate_cell HJ1.out h H60.out
      have i0 : (0 : Int) ≤ (h : Int) := by omega
      have i1 : (h : Int) < 61 := by have := H60.out; omega
      obtain ⟨sv1, sv2⟩ := HH.out
      obtain ⟨sv3, sv4⟩ := HR.out
      refine wp_region_ext (by kernel_rfl) (by kernel_rfl) ?_
      repeat (go_big_quiet_step (first | (go_at_call 36; exact quiet_ext (Holds_yes _ _ _ _ (by assumption) (by assumption)))))
      (refine wpQuiet_nil ?_; rintro _ ⟨x, rfl⟩)
      generalize hX : ext Y62 _ = Y63
      have hBX : Below Y62.heap.size Y62 Y63 := by rw [← hX]; exact below_ext _ _
      have HBY63 := Lib.hid (HBY62.out.trans (hBX.mono HBY62.out.size))
      have HK2 := Lib.hid (HK1.out.bel hBX); clear HK1; have HK1 := HK2; clear HK2; have HX2 := Lib.hid (HXK.out.bel hBX); clear HXK; have HXK := HX2; clear HX2; have HI2 := Lib.hid (HI1.out.below hBX); clear HI1; have HI1 := HI2; clear HI2; have HJ2 := Lib.hid (HJ1.out.below hBX); clear HJ1; have HJ1 := HJ2; clear HJ2
      have Nb := Lib.hid (show Blk Y63 w.heap.size 26 #[.int .i64 b.lo, .int .i64 b.hi, .slice p b.ns.length c] from Kb.out.bel hBX)
      have Nx := Lib.hid (show Blk Y63 gx 26 #[.int .i64 b.lo, .int .i64 b.hi, .slice q b.ns.length d] from Kx.out.bel hBX)
      have Nd := Lib.hid (show Blk Y63 (gx + 1) 50 #[.slice (some ⟨b1, o1, none⟩) 61 c1, .slice (some ⟨b2, o2, none⟩) 61 c2] from Kd.out.bel hBX)
      have Ns := Lib.hid (show Blk Y63 gs 23 #[.int .i64 s1, .int .i64 s2] from Ks.out.bel hBX)
      have Nl := Lib.hid (show Blk Y63 gl 3 #[.int .i64 0, .int .i64 0, .int .i64 (r : Nat), .int .i64 60] from Kl.out.bel hBX)
      have Ne := Lib.hid (show Blk Y63 ge 23 #[.int .i64 l1, .int .i64 u1] from Ke.out.bel hBX)
      have Nf := Lib.hid (show Blk Y63 gf 23 #[.int .i64 r1, .int .i64 r2] from Kf.out.bel hBX)
      clear qb0 qb1 qb2 qx0 qx1 qx2 qd0 qd1 qs0 qs1 ql0 ql1 ql2 ql3 qe0 qe1 qf0 qf1 lb lx ld ls ll le lf
      clear hX hBX HBY62 Kb Kx Kd Ks Kl Ke Kf
      have Kb := Nb
      have Kx := Nx
      have Kd := Nd
      have Ks := Ns
      have Kl := Nl
      have Ke := Ne
      have Kf := Nf
      clear Nb Nx Nd Ns Nl Ne Nf
      have qb0 := Kb.out.cell 0
      have qb1 := Kb.out.cell 1
      have qb2 := Kb.out.cell 2
      have lb := Kb.out.lt
      have qx0 := Kx.out.cell 0
      have qx1 := Kx.out.cell 1
      have qx2 := Kx.out.cell 2
      have lx := Kx.out.lt
      have qd0 := Kd.out.cell 0
      have qd1 := Kd.out.cell 1
      have ld := Kd.out.lt
      have qs0 := Ks.out.cell 0
      have qs1 := Ks.out.cell 1
      have ls := Ks.out.lt
      have ql0 := Kl.out.cell 0
      have ql1 := Kl.out.cell 1
      have ql2 := Kl.out.cell 2
      have ql3 := Kl.out.cell 3
      have ll := Kl.out.lt
      have qe0 := Ke.out.cell 0
      have qe1 := Ke.out.cell 1
      have le := Ke.out.lt
      have qf0 := Kf.out.cell 0
      have qf1 := Kf.out.cell 1
      have lf := Kf.out.lt
      simp only [List.size_toArray, List.length_cons, List.length_nil, Nat.reduceAdd, Nat.reduceLT, getElem?_pos, List.getElem_toArray, List.getElem_cons_zero, List.getElem_cons_succ] at qb0 qb1 qb2 qx0 qx1 qx2 qd0 qd1 qs0 qs1 ql0 ql1 ql2 ql3 qe0 qe1 qf0 qf1
      clear a1 la1 a2 la2 i0 i1 sv1 sv2 sv3 sv4
      go_wp2_with fail
      go_roundw
      case rel => exact ⟨j + 1, by omega, by go_num, ext_of HBY63.out⟩
      case measure => simp [intOf]; omega
    · obtain rfl : j = 4 := by omega
      clear hlt hj
      rcases emptyN (xS b v) with ⟨k9, hk9, ht9, hm9⟩ | hnon
      · have HT9 := Lib.hid ht9
        have HM9 := Lib.hid hm9
        have HK9 := Lib.hid hk9
        clear ht9 hm9 hk9
        go_upto_region 23 with (go_at_call 25; refine (Empty_mat (xS b v) q d b.ns.length _ HXK.out HT.out.valid HT.out.right HM.out k9 HK9.out HT9.out HM9.out).mono ?_; rintro e wu ⟨rfl, y, rfl⟩)
        generalize hX : ext V y = X100 at *
        have hBX : Below V.heap.size V X100 := by rw [← hX]; (repeat (first | (with_reducible exact Below.refl _ _) | (with_reducible assumption) | ((with_reducible refine below_ext_trans ?_ ?_ _); rotate_left; focus (((try dsimp only); repeat (first | omega | simp only [World.size_alloc, World.size_setCell, World.size_drew] | (with_reducible refine le_ext_of ?_) | (with_reducible refine le_ext_add ?_))); done)) | ((with_reducible refine Below.alloc ?_ ?_ _); rotate_left; focus (((try dsimp only); repeat (first | omega | simp only [World.size_alloc, World.size_setCell, World.size_drew] | (with_reducible refine le_ext_of ?_) | (with_reducible refine le_ext_add ?_))); done)) | ((with_reducible refine Below.setCell ?_ ?_ _); rotate_left; focus (((try dsimp only); repeat (first | omega | simp only [World.size_alloc, World.size_setCell, World.size_drew] | (with_reducible refine le_ext_of ?_) | (with_reducible refine le_ext_add ?_))); done)) | (with_reducible refine Below.drew ?_)))
        have HBX := Lib.hid (HBV.out.trans (hBX.mono HBV.out.size))
        have Nb := Lib.hid (show Blk X100 w.heap.size 26 #[.int .i64 b.lo, .int .i64 b.hi, .slice p b.ns.length c] from Kb.out.bel hBX)
        have Nx := Lib.hid (show Blk X100 gx 26 #[.int .i64 b.lo, .int .i64 b.hi, .slice q b.ns.length d] from Kx.out.bel hBX)
        have Nd := Lib.hid (show Blk X100 (gx + 1) 50 #[.slice (some ⟨b1, o1, none⟩) 61 c1, .slice (some ⟨b2, o2, none⟩) 61 c2] from Kd.out.bel hBX)
        have Ns := Lib.hid (show Blk X100 gs 23 #[.int .i64 s1, .int .i64 s2] from Ks.out.bel hBX)
        have Nl := Lib.hid (show Blk X100 gl 3 #[.int .i64 0, .int .i64 0, .int .i64 (r : Nat), .int .i64 60] from Kl.out.bel hBX)
        have HK2 := Lib.hid (HK1.out.bel hBX); clear HK1; have HK1 := HK2; clear HK2; have HX2 := Lib.hid (HXK.out.bel hBX); clear HXK; have HXK := HX2; clear HX2; have HI2 := Lib.hid (HI1.out.below hBX); clear HI1; have HI1 := HI2; clear HI2; have HJ2 := Lib.hid (HJ1.out.below hBX); clear HJ1; have HJ1 := HJ2; clear HJ2
        clear qb0 qb1 qb2 qx0 qx1 qx2 qd0 qd1 qs0 qs1 ql0 ql1 ql2 ql3 lb lx ld ls ll
        clear hX hBX HBV Kb Kx Kd Ks Kl
        have Kb := Nb
        have Kx := Nx
        have Kd := Nd
        have Ks := Ns
        have Kl := Nl
        clear Nb Nx Nd Ns Nl
        have HBX100 := HBX
        clear HBX
        have qb0 := Kb.out.cell 0
        have qb1 := Kb.out.cell 1
        have qb2 := Kb.out.cell 2
        have lb := Kb.out.lt
        have qx0 := Kx.out.cell 0
        have qx1 := Kx.out.cell 1
        have qx2 := Kx.out.cell 2
        have lx := Kx.out.lt
        have qd0 := Kd.out.cell 0
        have qd1 := Kd.out.cell 1
        have ld := Kd.out.lt
        have qs0 := Ks.out.cell 0
        have qs1 := Ks.out.cell 1
        have ls := Ks.out.lt
        have ql0 := Kl.out.cell 0
        have ql1 := Kl.out.cell 1
        have ql2 := Kl.out.cell 2
        have ql3 := Kl.out.cell 3
        have ll := Kl.out.lt
        simp only [List.size_toArray, List.length_cons, List.length_nil, Nat.reduceAdd, Nat.reduceLT, getElem?_pos, List.getElem_toArray, List.getElem_cons_zero, List.getElem_cons_succ] at qb0 qb1 qb2 qx0 qx1 qx2 qd0 qd1 qs0 qs1 ql0 ql1 ql2 ql3
        obtain ⟨a1, la1⟩ := held_cell HI1.out k9 HK9.out
        have i0 : (0 : Int) ≤ (k9 : Int) := by omega
        have i1 : (k9 : Int) < 61 := by have := HK9.out; omega
        have i2 : (k9 : Int) ≤ 60 := by omega
        have hz : (hvF b v k9 == 0) = true := by
          have h1 := HT.out.top k9
          rw [HT9.out] at h1
          have h2 := (HT.out.bd k9).1
          simpa using (show hvF b v k9 = 0 by omega)
        go_wp2_with (first | (go_at_call 38; refine (Between_yes _ _ _ _ (by assumption) (by assumption)).mono ?_; rintro e w1 ⟨rfl, rfl⟩) | (go_at_call 24; refine (sounded_any _ (HK1.out.mm.below (by (repeat (first | (with_reducible exact Below.refl _ _) | (with_reducible assumption) | ((with_reducible refine below_ext_trans ?_ ?_ _); rotate_left; focus (((try dsimp only); repeat (first | omega | simp only [World.size_alloc, World.size_setCell, World.size_drew] | (with_reducible refine le_ext_of ?_) | (with_reducible refine le_ext_add ?_))); done)) | ((with_reducible refine Below.alloc ?_ ?_ _); rotate_left; focus (((try dsimp only); repeat (first | omega | simp only [World.size_alloc, World.size_setCell, World.size_drew] | (with_reducible refine le_ext_of ?_) | (with_reducible refine le_ext_add ?_))); done)) | ((with_reducible refine Below.setCell ?_ ?_ _); rotate_left; focus (((try dsimp only); repeat (first | omega | simp only [World.size_alloc, World.size_setCell, World.size_drew] | (with_reducible refine le_ext_of ?_) | (with_reducible refine le_ext_add ?_))); done)) | (with_reducible refine Below.drew ?_)))))).mono ?_; rintro e w1 ⟨rfl, y, rfl⟩))
        go_ret
        exact ⟨rfl, ext_of (HBX5.out.trans (Below.mono (HBX100.out.trans (Below.mono (show Below X100.heap.size X100 _ by (repeat (first | (with_reducible exact Below.refl _ _) | (with_reducible assumption) | ((with_reducible refine below_ext_trans ?_ ?_ _); rotate_left; focus (((try dsimp only); repeat (first | omega | simp only [World.size_alloc, World.size_setCell, World.size_drew] | (with_reducible refine le_ext_of ?_) | (with_reducible refine le_ext_add ?_))); done)) | ((with_reducible refine Below.alloc ?_ ?_ _); rotate_left; focus (((try dsimp only); repeat (first | omega | simp only [World.size_alloc, World.size_setCell, World.size_drew] | (with_reducible refine le_ext_of ?_) | (with_reducible refine le_ext_add ?_))); done)) | ((with_reducible refine Below.setCell ?_ ?_ _); rotate_left; focus (((try dsimp only); repeat (first | omega | simp only [World.size_alloc, World.size_setCell, World.size_drew] | (with_reducible refine le_ext_of ?_) | (with_reducible refine le_ext_add ?_))); done)) | (with_reducible refine Below.drew ?_)))) HBX100.out.size)) HBX5.out.size))⟩
      · have HNO := Lib.hid hnon
        clear hnon
        go_upto_region 23 with (go_at_call 25; refine (Empty_mnon (xS b v) q d b.ns.length _ HXK.out HT.out.valid HT.out.right HM.out HNO.out).mono ?_; rintro e wu ⟨rfl, y, rfl⟩)
        generalize hX : ext V y = X110 at *
        have hBX : Below V.heap.size V X110 := by rw [← hX]; (repeat (first | (with_reducible exact Below.refl _ _) | (with_reducible assumption) | ((with_reducible refine below_ext_trans ?_ ?_ _); rotate_left; focus (((try dsimp only); repeat (first | omega | simp only [World.size_alloc, World.size_setCell, World.size_drew] | (with_reducible refine le_ext_of ?_) | (with_reducible refine le_ext_add ?_))); done)) | ((with_reducible refine Below.alloc ?_ ?_ _); rotate_left; focus (((try dsimp only); repeat (first | omega | simp only [World.size_alloc, World.size_setCell, World.size_drew] | (with_reducible refine le_ext_of ?_) | (with_reducible refine le_ext_add ?_))); done)) | ((with_reducible refine Below.setCell ?_ ?_ _); rotate_left; focus (((try dsimp only); repeat (first | omega | simp only [World.size_alloc, World.size_setCell, World.size_drew] | (with_reducible refine le_ext_of ?_) | (with_reducible refine le_ext_add ?_))); done)) | (with_reducible refine Below.drew ?_)))
        have HBX := Lib.hid (HBV.out.trans (hBX.mono HBV.out.size))
        have Nb := Lib.hid (show Blk X110 w.heap.size 26 #[.int .i64 b.lo, .int .i64 b.hi, .slice p b.ns.length c] from Kb.out.bel hBX)
        have Nx := Lib.hid (show Blk X110 gx 26 #[.int .i64 b.lo, .int .i64 b.hi, .slice q b.ns.length d] from Kx.out.bel hBX)
        have Nd := Lib.hid (show Blk X110 (gx + 1) 50 #[.slice (some ⟨b1, o1, none⟩) 61 c1, .slice (some ⟨b2, o2, none⟩) 61 c2] from Kd.out.bel hBX)
        have Ns := Lib.hid (show Blk X110 gs 23 #[.int .i64 s1, .int .i64 s2] from Ks.out.bel hBX)
        have Nl := Lib.hid (show Blk X110 gl 3 #[.int .i64 0, .int .i64 0, .int .i64 (r : Nat), .int .i64 60] from Kl.out.bel hBX)
        have HK2 := Lib.hid (HK1.out.bel hBX); clear HK1; have HK1 := HK2; clear HK2; have HX2 := Lib.hid (HXK.out.bel hBX); clear HXK; have HXK := HX2; clear HX2; have HI2 := Lib.hid (HI1.out.below hBX); clear HI1; have HI1 := HI2; clear HI2; have HJ2 := Lib.hid (HJ1.out.below hBX); clear HJ1; have HJ1 := HJ2; clear HJ2
        clear qb0 qb1 qb2 qx0 qx1 qx2 qd0 qd1 qs0 qs1 ql0 ql1 ql2 ql3 lb lx ld ls ll
        clear hX hBX HBV Kb Kx Kd Ks Kl
        have Kb := Nb
        have Kx := Nx
        have Kd := Nd
        have Ks := Ns
        have Kl := Nl
        clear Nb Nx Nd Ns Nl
        have HBX110 := HBX
        clear HBX
        have qb0 := Kb.out.cell 0
        have qb1 := Kb.out.cell 1
        have qb2 := Kb.out.cell 2
        have lb := Kb.out.lt
        have qx0 := Kx.out.cell 0
        have qx1 := Kx.out.cell 1
        have qx2 := Kx.out.cell 2
        have lx := Kx.out.lt
        have qd0 := Kd.out.cell 0
        have qd1 := Kd.out.cell 1
        have ld := Kd.out.lt
        have qs0 := Ks.out.cell 0
        have qs1 := Ks.out.cell 1
        have ls := Ks.out.lt
        have ql0 := Kl.out.cell 0
        have ql1 := Kl.out.cell 1
        have ql2 := Kl.out.cell 2
        have ql3 := Kl.out.cell 3
        have ll := Kl.out.lt
        simp only [List.size_toArray, List.length_cons, List.length_nil, Nat.reduceAdd, Nat.reduceLT, getElem?_pos, List.getElem_toArray, List.getElem_cons_zero, List.getElem_cons_succ] at qb0 qb1 qb2 qx0 qx1 qx2 qd0 qd1 qs0 qs1 ql0 ql1 ql2 ql3
        go_wp2_with (go_at_call 24; refine (sounded_any _ (HK1.out.mm.below (by (repeat (first | (with_reducible exact Below.refl _ _) | (with_reducible assumption) | ((with_reducible refine below_ext_trans ?_ ?_ _); rotate_left; focus (((try dsimp only); repeat (first | omega | simp only [World.size_alloc, World.size_setCell, World.size_drew] | (with_reducible refine le_ext_of ?_) | (with_reducible refine le_ext_add ?_))); done)) | ((with_reducible refine Below.alloc ?_ ?_ _); rotate_left; focus (((try dsimp only); repeat (first | omega | simp only [World.size_alloc, World.size_setCell, World.size_drew] | (with_reducible refine le_ext_of ?_) | (with_reducible refine le_ext_add ?_))); done)) | ((with_reducible refine Below.setCell ?_ ?_ _); rotate_left; focus (((try dsimp only); repeat (first | omega | simp only [World.size_alloc, World.size_setCell, World.size_drew] | (with_reducible refine le_ext_of ?_) | (with_reducible refine le_ext_add ?_))); done)) | (with_reducible refine Below.drew ?_)))))).mono ?_; rintro e w1 ⟨rfl, y, rfl⟩)
        go_ret
        exact ⟨rfl, ext_of (HBX5.out.trans (Below.mono (HBX110.out.trans (Below.mono (show Below X110.heap.size X110 _ by (repeat (first | (with_reducible exact Below.refl _ _) | (with_reducible assumption) | ((with_reducible refine below_ext_trans ?_ ?_ _); rotate_left; focus (((try dsimp only); repeat (first | omega | simp only [World.size_alloc, World.size_setCell, World.size_drew] | (with_reducible refine le_ext_of ?_) | (with_reducible refine le_ext_add ?_))); done)) | ((with_reducible refine Below.alloc ?_ ?_ _); rotate_left; focus (((try dsimp only); repeat (first | omega | simp only [World.size_alloc, World.size_setCell, World.size_drew] | (with_reducible refine le_ext_of ?_) | (with_reducible refine le_ext_add ?_))); done)) | ((with_reducible refine Below.setCell ?_ ?_ _); rotate_left; focus (((try dsimp only); repeat (first | omega | simp only [World.size_alloc, World.size_setCell, World.size_drew] | (with_reducible refine le_ext_of ?_) | (with_reducible refine le_ext_add ?_))); done)) | (with_reducible refine Below.drew ?_)))) HBX110.out.size)) HBX5.out.size))⟩
end Go.Proofs.YtamknmgplhaciaaDoor

namespace Go.Proofs.YtamknmgplhaciaaDoor
open Go Go.RowKit Go.Shelf
theorem SeineTrue_any (b : Sn) (p : Option Addr) (c : Nat) (pi : Option Addr) (bits : List Int) (ci : Nat) (n : Int) (w : World) (hk : SBk w b p) (_hc : SBc b p c) (hi : IntsAt w pi bits) (hbl : (bits.length : Int) ≤ 9223372036854775807) :
    Calls Tryd.prog 6 #[bV b p c, .slice pi bits.length ci, .int .i64 n] w fun e w' => e = .returned (.bool true) ∧ ∃ x, w' = ext w x := by
  cases hv : snB b with
  | false => exact SeineTrue_bad b p c pi ci _ n w hk hv
  | true =>
    have hok := Ok9.of hv
    have hc := vS_ok hok bits
    have hT := told_of hv hc
    obtain ⟨ln, hln⟩ := Int.eq_ofNat_of_zero_le (lastN_bd hok).1
    obtain ⟨r, hr⟩ := Int.eq_ofNat_of_zero_le (show 0 ≤ n % 61 by omega)
    cases hl : b.ns.length with
    | zero => exact SeineTrue_one b p c pi ci _ bits n (vS b bits) _ _ r ln w hk hv hc hi hbl rfl rfl rfl rfl (fun k s hs => vS_at hs) hln hr hl
    | succ k =>
      obtain ⟨t, ht⟩ := get_some b.ns k (by omega)
      obtain ⟨s, hs⟩ := get_some (xS b (vS b bits)).ns k (by rw [hT.len]; omega)
      have h1 := x_hour (b := b) (v := vS b bits) k
      have hs' : (xN b (vS b bits) b.ns.length)[k]? = some s := hs
      rw [hs', ht] at h1
      have h2 := last_at hl ht
      exact SeineTrue_more b p c pi ci _ bits n (vS b bits) _ _ r ln w hk hv hc hi hbl rfl rfl rfl rfl (fun k s hs => vS_at hs) hln hr k s hl hs (by simp at h1; omega)
end Go.Proofs.YtamknmgplhaciaaDoor

