/- Package seine: Right and Saved. -/
/- Package tide: what makes a book valid. -/
/- Package tide: what makes a book valid, all told. -/
import Derived.Test.YtcaeohgbgeadaaaGreatDoorQMc
import Derived.Test.YtcaeohgbgeadaaaGreatDoorQDe
set_option linter.unusedSimpArgs false
set_option linter.unusedVariables false
namespace Go.Proofs.YtcaeohgbgeadaaaGreatDoor
open Go Go.RowKit Go.Shelf

/-- Why a question is not answered. -/
def AErr (b : Sn) (asked : Bool) (code : Int) : Prop :=
  (snB b = false ∧ code = 30) ∨ (snB b = true ∧ asked = false ∧ code = 31) ∨ (snB b = true ∧ asked = true ∧ rightS b = false ∧ code = 32)
theorem AErr.ne {b : Sn} {asked : Bool} {code : Int} (h : AErr b asked code) : ¬ code = 0 := by
  rcases h with ⟨-, rfl⟩ | ⟨-, -, rfl⟩ | ⟨-, -, -, rfl⟩ <;> decide
theorem AErr.bd {b : Sn} {asked : Bool} {code : Int} (h : AErr b asked code) : 0 ≤ code ∧ code ≤ 100 := by
  rcases h with ⟨-, rfl⟩ | ⟨-, -, rfl⟩ | ⟨-, -, -, rfl⟩ <;> decide
theorem answer_err (b : Sn) (p : Option Addr) (c : Nat) (asked : Bool) (code : Int) (w : World) (hk : SBk w b p) (h : AErr b asked code) :
    Calls Tryz.prog 93 #[.agg #[.int .i64 b.lo, .int .i64 b.hi, .slice p b.ns.length c], .bool asked] w fun e w' => e = .returned (.tuple #[.agg zeroT, .int .i64 code]) ∧ Below w.heap.size w w' := by
  rcases h with ⟨h1, rfl⟩ | ⟨h1, rfl, rfl⟩ | ⟨h1, rfl, h2, rfl⟩
  · exact answer_bad b p c asked w hk h1
  · exact answer_ask b p c w hk h1
  · exact answer_false b p c w hk h1 h2
attribute [local go_sem] Oper.semAt_some frozen_alloc_lt
set_option maxHeartbeats 1000000 in
theorem Right_bad (b : Sn) (p : Option Addr) (c : Nat) (w : World) (hk : SBk w b p) (hv : snB b = false) :
    Calls Tryz.prog 146 #[.agg #[.int .i64 b.lo, .int .i64 b.hi, .slice p b.ns.length c]] w fun e w' => e = .returned (.tuple #[.bool false, .int .i64 30]) ∧ Below w.heap.size w w' := by
  have HK := Lib.hid hk
  clear hk
  go_enter Tryz.func146, Tryz.ntmps146
  go_wp2_with (go_at_call 84; refine (Check_eq b p c false _ (HK.out.bel belA) hv).mono ?_; rintro e w1 ⟨rfl, y, rfl⟩)
  refine bodyPost_ret (v := .tuple #[.bool false, .int .i64 30]) ?_ ?_ ?_
  · simp [results, Tryz.results146, go_sem]
  · rfl
  · exact ⟨rfl, by (exact belA)⟩
set_option maxHeartbeats 1000000 in
theorem Right_ok (b : Sn) (p : Option Addr) (c : Nat) (w : World) (hk : SBk w b p) (hv : snB b = true) :
    Calls Tryz.prog 146 #[.agg #[.int .i64 b.lo, .int .i64 b.hi, .slice p b.ns.length c]] w fun e w' => e = .returned (.tuple #[.bool (rightS b), .int .i64 0]) ∧ Below w.heap.size w w' := by
  have hok := Ok9.of hv
  have HK := Lib.hid hk
  clear hk
  go_enter Tryz.func146, Tryz.ntmps146
  go_upto_region 4 with (go_at_call 84; refine (Check_eq b p c true _ (HK.out.bel belA) hv).mono ?_; rintro e w1 ⟨rfl, y, rfl⟩)
  generalize hW0 : ext _ y = W0
  have hB0 : Below w.heap.size w W0 := by rw [← hW0]; (exact belA)
  have hq0 : Blk W0 w.heap.size 26 #[.int .i64 b.lo, .int .i64 b.hi, .slice p b.ns.length c] := by rw [← hW0]; exact (Blk.new rfl).ext y
  clear hW0
  have q0 := hq0.cell 0
  have q1 := hq0.cell 1
  have q2 := hq0.cell 2
  simp only [List.size_toArray, List.length_cons, List.length_nil, Nat.reduceAdd, Nat.reduceLT, getElem?_pos, List.getElem_toArray, List.getElem_cons_zero, List.getElem_cons_succ] at q0 q1 q2
  have HB0 := Lib.hid hB0
  clear hB0 hq0
  go_wp2_with (first
    | (go_at_call 97; refine (newCatch_b b p c _ (HK.out.bel HB0.out) hok).mono ?_; rintro e w1 ⟨kd, hkd, rfl, y1, rfl⟩)
    | (go_at_call 99; refine (tale_cat b p c kd _ (HK.out.bel (HB0.out.trans ((below_ext _ _).mono HB0.out.size))) hok).mono ?_; rintro e w2 ⟨Bb, rfl, k1, k2, k3⟩; have K1 := Lib.hid k1; have K2 := Lib.hid k2; clear k1 k2 k3)
    | (go_at_call 100; refine (tright_eq b p c kd Bb _ _ K1.out rfl).mono ?_; rintro e w4 ⟨rfl, y2, rfl⟩))
  refine bodyPost_ret (v := .tuple #[.bool (rightS b), .int .i64 0]) ?_ ?_ ?_
  · simp [results, Tryz.results146, go_sem]
  · rfl
  · exact ⟨rfl, HB0.out.trans (((below_ext _ _).mono HB0.out.size).trans ((K2.out.mono (by have := HB0.out.size; have := (below_ext W0 y1).size; omega)).trans ((below_ext _ _).mono (by have := HB0.out.size; have := (below_ext W0 y1).size; have := K2.out.size; omega))))⟩
set_option maxHeartbeats 1000000 in
theorem Saved_err (b : Sn) (p : Option Addr) (c : Nat) (code : Int) (w : World) (hk : SBk w b p) (h : AErr b true code) :
    Calls Tryz.prog 59 #[.agg #[.int .i64 b.lo, .int .i64 b.hi, .slice p b.ns.length c]] w fun e w' => e = .returned (.tuple #[.agg #[.int .i64 0, .int .i64 0], .int .i64 code]) ∧ Below w.heap.size w w' := by
  have hne := h.ne
  have HH := Lib.hid h
  have HK := Lib.hid hk
  clear hk h
  go_enter Tryz.func59, Tryz.ntmps59
  go_upto_region 1 with fail
  generalize hW0 : (w.alloc _).alloc _ = W0
  have hB0 : Below w.heap.size w W0 := by rw [← hW0]; (exact belA)
  have hz0 : W0.heap.size = w.heap.size + 2 := by rw [← hW0]; simp
  have hq0 : Blk W0 w.heap.size 26 #[.int .i64 b.lo, .int .i64 b.hi, .slice p b.ns.length c] := by rw [← hW0]; exact (Blk.new rfl).alloc _
  have hr0 : Blk W0 (w.heap.size + 1) 23 #[.int .i64 0, .int .i64 0] := by rw [← hW0]; exact Blk.new (by simp)
  clear hW0
  have q0 := hq0.cell 0
  have q1 := hq0.cell 1
  have q2 := hq0.cell 2
  simp only [List.size_toArray, List.length_cons, List.length_nil, Nat.reduceAdd, Nat.reduceLT, getElem?_pos, List.getElem_toArray, List.getElem_cons_zero, List.getElem_cons_succ] at q0 q1 q2
  have HB0 := Lib.hid hB0
  have HR0 := Lib.hid hr0
  have HZ0 := Lib.hid hz0
  clear hB0 hq0 hr0 hz0
  go_upto_region 2 with (go_at_call 93; refine (answer_err b p c true code _ (HK.out.bel HB0.out) HH.out).mono ?_; rintro e w1 ⟨rfl, k1⟩; have K1 := Lib.hid k1; clear k1)
  generalize hW2 : w1.alloc _ = W2
  have hB2 : Below W0.heap.size W0 W2 := by rw [← hW2]; exact K1.out.alloc K1.out.size _
  have hR2 := HR0.out.bel hB2
  have r0 := hR2.frozen 0
  have r1 := hR2.frozen 1
  have c0 := hR2.cell 0
  have c1 := hR2.cell 1
  have lr := hR2.lt
  simp only [List.size_toArray, List.length_cons, List.length_nil, Nat.reduceAdd, Nat.reduceLT, getElem?_pos, List.getElem_toArray, List.getElem_cons_zero, List.getElem_cons_succ] at c0 c1
  have HR2 := Lib.hid hR2
  have HB2 := Lib.hid (HB0.out.trans (hB2.mono HB0.out.size))
  clear hW2 hB2 hR2 HR0 HB0 K1 HK HZ0
  go_wp2_with fail
  have hF := (HR2.out.set 0 (.int .i64 0)).set 1 (.int .i64 0)
  have t0 := Blk.cell hF 0
  have t1 := Blk.cell hF 1
  refine bodyPost_ret (v := .tuple #[.agg #[.int .i64 0, .int .i64 0], .int .i64 code]) ?_ ?_ ?_
  · simp [results, Tryz.results59, go_sem, c0, c1, lr]
  · rfl
  · exact ⟨rfl, (HB2.out.setCell (by simp) _).setCell (by simp) _⟩
set_option maxRecDepth 100000 in
set_option maxHeartbeats 2000000 in
theorem Saved_yes (b : Sn) (p : Option Addr) (c : Nat) (w : World) (hk : SBk w b p) (hv : snB b = true) (hr : rightS b = true) :
    Calls Tryz.prog 59 #[.agg #[.int .i64 b.lo, .int .i64 b.hi, .slice p b.ns.length c]] w fun e w' => e = .returned (.tuple #[.agg #[.int .i64 (minF (savS (60 - lastN b.ns)) 400 (atL b (lastN b.ns))), .int .i64 (maxF (savS (60 - lastN b.ns)) 0 (atL b (lastN b.ns)))], .int .i64 0]) ∧ Below w.heap.size w w' := by
  have HK := Lib.hid hk
  clear hk
  go_enter Tryz.func59, Tryz.ntmps59
  go_upto_region 1 with fail
  generalize hW0 : (w.alloc _).alloc _ = W0
  have hB0 : Below w.heap.size w W0 := by rw [← hW0]; (exact belA)
  have hz0 : W0.heap.size = w.heap.size + 2 := by rw [← hW0]; simp
  have hq0 : Blk W0 w.heap.size 26 #[.int .i64 b.lo, .int .i64 b.hi, .slice p b.ns.length c] := by rw [← hW0]; exact (Blk.new rfl).alloc _
  have hr0 : Blk W0 (w.heap.size + 1) 23 #[.int .i64 0, .int .i64 0] := by rw [← hW0]; exact Blk.new (by simp)
  clear hW0
  have q0 := hq0.cell 0
  have q1 := hq0.cell 1
  have q2 := hq0.cell 2
  simp only [List.size_toArray, List.length_cons, List.length_nil, Nat.reduceAdd, Nat.reduceLT, getElem?_pos, List.getElem_toArray, List.getElem_cons_zero, List.getElem_cons_succ] at q0 q1 q2
  have HB0 := Lib.hid hB0
  have HR0 := Lib.hid hr0
  have HZ0 := Lib.hid hz0
  clear hB0 hq0 hr0 hz0
  go_upto_region 2 with (go_at_call 93; refine (answer_yes b p c _ (HK.out.bel HB0.out) hv hr).mono ?_; rintro e w1 ⟨kd, Bb, rfl, hkd, k0, k1⟩; have K0 := Lib.hid k0; have K1 := Lib.hid k1; clear k0 k1)
  unfold talC
  generalize hW2 : w1.alloc _ = W2
  have hB2 : Below w1.heap.size w1 W2 := by rw [← hW2]; exact (Below.refl _ _).alloc (Nat.le_refl _) _
  have hz2 : w1.heap.size ≤ W2.heap.size := hB2.size
  have ht2 : Blk W2 w1.heap.size 122 (talC b.lo b.hi p b.ns.length c kd Bb) := by rw [← hW2]; exact Blk.new rfl
  have p0 := ht2.cell 0
  have p1 := ht2.cell 1
  have p2 := ht2.cell 2
  have p3 := ht2.cell 3
  have p4 := ht2.cell 4
  have p5 := ht2.cell 5
  have p6 := ht2.cell 6
  have p7 := ht2.cell 7
  have p8 := ht2.cell 8
  simp only [List.size_toArray, List.length_cons, List.length_nil, Nat.reduceAdd, Nat.reduceLT, getElem?_pos, List.getElem_toArray, List.getElem_cons_zero, List.getElem_cons_succ] at p0 p1 p2 p3 p4 p5 p6 p7 p8
  have hB2' := K1.out.trans (hB2.mono K1.out.size)
  have HR2 := Lib.hid (HR0.out.bel hB2')
  have HT2 := Lib.hid (K0.out.bel hB2)
  have HB2 := Lib.hid (HB0.out.trans (hB2'.mono HB0.out.size))
  clear hW2 hB2 hz2 ht2 hB2' HR0 HB0 K0 K1 HK HZ0
  go_wp2_with (go_at_call 101; refine (tsaved_any b p c kd Bb _ HT2.out hkd).mono ?_; rintro e w3 ⟨rfl, k3⟩; have HR3 := Lib.hid (HR2.out.bel k3); have HB3 := Lib.hid (HB2.out.trans (k3.mono HB2.out.size)); clear k3; have r0 := HR3.out.frozen 0; have r1 := HR3.out.frozen 1; have c0 := HR3.out.cell 0; have c1 := HR3.out.cell 1; have lr := HR3.out.lt; simp only [List.size_toArray, List.length_cons, List.length_nil, Nat.reduceAdd, Nat.reduceLT, getElem?_pos, List.getElem_toArray, List.getElem_cons_zero, List.getElem_cons_succ] at c0 c1)
  have hF := (HR3.out.set 0 (.int .i64 (minF (savS (60 - lastN b.ns)) 400 (atL b (lastN b.ns))))).set 1 (.int .i64 (maxF (savS (60 - lastN b.ns)) 0 (atL b (lastN b.ns))))
  have t0 := Blk.cell hF 0
  have t1 := Blk.cell hF 1
  refine bodyPost_ret (v := .tuple #[.agg #[.int .i64 (minF (savS (60 - lastN b.ns)) 400 (atL b (lastN b.ns))), .int .i64 (maxF (savS (60 - lastN b.ns)) 0 (atL b (lastN b.ns)))], .int .i64 0]) ?_ ?_ ?_
  · simp [results, Tryz.results59, go_sem, c0, c1, lr]
  · rfl
  · exact ⟨rfl, (HB3.out.setCell (by simp) _).setCell (by simp) _⟩
end Go.Proofs.YtcaeohgbgeadaaaGreatDoor

namespace Go.Proofs.YtcaeohgbgeadaaaGreatDoor
open Go Go.RowKit Go.Shelf
def trueB (q : Sn) : Bool := snB q && rightS q
attribute [local go_sem] Oper.semAt_some frozen_alloc_lt
set_option maxHeartbeats 1000000 in
theorem isTrue_any (b : Sn) (p : Option Addr) (c : Nat) (w : World) (hk : SBk w b p) :
    Calls Tryz.prog 108 #[.agg #[.int .i64 b.lo, .int .i64 b.hi, .slice p b.ns.length c]] w fun e w' => e = .returned (.bool (trueB b)) ∧ ∃ x, w' = ext w x := by
  unfold trueB
  have HK := Lib.hid hk
  clear hk
  cases hv : snB b
  · go_enter Tryz.func108, Tryz.ntmps108
    go_wp2_with (go_at_call 146; refine (Right_bad b p c _ (HK.out.bel belA) hv).mono ?_; rintro e w1 ⟨rfl, k1⟩; obtain ⟨y, rfl⟩ := ext_of k1)
    go_ret
    exact ⟨rfl, by (exact ext_of (by (exact belA)))⟩
  · obtain ⟨q, hq⟩ : ∃ q, rightS b = q := ⟨_, rfl⟩
    rw [hq]
    cases q
    · go_enter Tryz.func108, Tryz.ntmps108
      go_wp2_with (go_at_call 146; refine (Right_ok b p c _ (HK.out.bel belA) hv).mono ?_; rw [hq]; rintro e w1 ⟨rfl, k1⟩; obtain ⟨y, rfl⟩ := ext_of k1)
      go_ret
      exact ⟨rfl, by (exact ext_of (by (exact belA)))⟩
    · go_enter Tryz.func108, Tryz.ntmps108
      go_wp2_with (go_at_call 146; refine (Right_ok b p c _ (HK.out.bel belA) hv).mono ?_; rw [hq]; rintro e w1 ⟨rfl, k1⟩; obtain ⟨y, rfl⟩ := ext_of k1)
      go_ret
      exact ⟨rfl, by (exact ext_of (by (exact belA)))⟩
end Go.Proofs.YtcaeohgbgeadaaaGreatDoor

namespace Go.Proofs.YtcaeohgbgeadaaaGreatDoor
open Go Go.RowKit Go.Shelf
def validB (b : Tk) : Bool := nowB b && tidesB b && spanT b.glo b.ghi b.now 60 && inT b.most 0 6 && inT b.rest 0 60 && trueB b.q
/-- A book lies in memory. -/
structure TB (w : World) (b : Tk) (p : Tp) : Prop where
  q : SBk w b.q p.np
  ts : LowsAt w p.tp b.ts
  lt : ∀ a, p.tp = some a → a.block < w.heap.size
theorem TB.bel {w w' : World} {b : Tk} {p : Tp} (h : TB w b p) (hb : Below w.heap.size w w') : TB w' b p := ⟨h.q.bel hb, h.ts.below hb, fun a ha => Nat.lt_of_lt_of_le (h.lt a ha) hb.size⟩
theorem TB.nt' {w w' : World} {b : Tk} {p : Tp} (h : TB w b p) (hb : Below w.heap.size w w') : NotesAt w' p.np b.q.ns := (h.bel hb).q.nt
theorem TB.ts' {w w' : World} {b : Tk} {p : Tp} (h : TB w b p) (hb : Below w.heap.size w w') : LowsAt w' p.tp b.ts := (h.bel hb).ts
theorem TB.q' {w w' : World} {b : Tk} {p : Tp} (h : TB w b p) (hb : Below w.heap.size w w') : SBk w' b.q p.np := (h.bel hb).q
theorem validNow_eq (b : Tk) (p : Tp) (q : Bool) (w : World) (hl : NotesAt w p.np b.q.ns) (hn : Hid (b.q.ns.length ≤ 9223372036854775807)) (hq : nowB b = q) : Calls Tryz.prog 105 #[tv b p] w fun e w' => e = .returned (.bool q) ∧ ∃ x, w' = ext w x := by
  subst hq; exact validNow_any b p w hl hn
theorem validTides_eq (b : Tk) (p : Tp) (q : Bool) (w : World) (hl : LowsAt w p.tp b.ts) (hn : 0 ≤ b.now ∧ b.now ≤ 60) (hq : tidesB b = q) : Calls Tryz.prog 106 #[tv b p] w fun e w' => e = .returned (.bool q) ∧ ∃ x, w' = ext w x := by
  subst hq; exact validTides_any b p w hl hn
theorem isTrue_eq (b : Sn) (p : Option Addr) (c : Nat) (q : Bool) (w : World) (hk : SBk w b p) (hq : trueB b = q) :
    Calls Tryz.prog 108 #[.agg #[.int .i64 b.lo, .int .i64 b.hi, .slice p b.ns.length c]] w fun e w' => e = .returned (.bool q) ∧ ∃ x, w' = ext w x := by
  subst hq; exact isTrue_any b p c w hk
attribute [local go_sem] Oper.semAt_some frozen_alloc_lt
set_option maxRecDepth 100000 in
set_option maxHeartbeats 4000000 in
theorem tvalidBook_any (b : Tk) (p : Tp) (w : World) (hk : TB w b p) (hn : Hid (b.q.ns.length ≤ 9223372036854775807)) :
    Calls Tryz.prog 62 #[tv b p] w fun e w' => e = .returned (.bool (validB b)) ∧ ∃ x, w' = ext w x := by
  unfold validB
  obtain ⟨q1, h1⟩ : ∃ q, nowB b = q := ⟨_, rfl⟩
  obtain ⟨q2, h2⟩ : ∃ q, tidesB b = q := ⟨_, rfl⟩
  obtain ⟨q3, h3⟩ : ∃ q, spanT b.glo b.ghi b.now 60 = q := ⟨_, rfl⟩
  obtain ⟨q4, h4⟩ : ∃ q, inT b.most 0 6 = q := ⟨_, rfl⟩
  obtain ⟨q5, h5⟩ : ∃ q, inT b.rest 0 60 = q := ⟨_, rfl⟩
  obtain ⟨q6, h6⟩ : ∃ q, trueB b.q = q := ⟨_, rfl⟩
  have HN := Lib.hid (show q1 = true → 0 ≤ b.now ∧ b.now ≤ 60 by
    intro e; rw [← h1] at e; unfold nowB at e; exact of_inT (Bool.and_eq_true_iff.1 e).1)
  rw [h1, h2, h3, h4, h5, h6]
  have H1 := Lib.hid h1
  have H2 := Lib.hid h2
  have H3 := Lib.hid h3
  have H4 := Lib.hid h4
  have H5 := Lib.hid h5
  have H6 := Lib.hid h6
  have HK := Lib.hid hk
  clear h1 h2 h3 h4 h5 h6 hk
  unfold tv
  cases q1
  · go_enter Tryz.func62, Tryz.ntmps62
    go_wp2_with (go_at_call 105; refine (validNow_eq b p _ _ (HK.out.nt' belA) hn H1.out).mono ?_; rintro e w1 ⟨rfl, y1, rfl⟩)
    go_ret
    exact ⟨rfl, by (exact ext_of (by (exact belA)))⟩
  · have HNO := Lib.hid (HN.out rfl)
    have HNP := Lib.hid (show -1000000 ≤ b.now ∧ b.now ≤ 1000000 by have := HN.out rfl; omega)
    cases q2
    · go_enter Tryz.func62, Tryz.ntmps62
      go_wp2_with (first
        | (go_at_call 105; refine (validNow_eq b p _ _ (HK.out.nt' belA) hn H1.out).mono ?_; rintro e w1 ⟨rfl, y1, rfl⟩)
        | (go_at_call 106; refine (validTides_eq b p _ _ (HK.out.ts' belA) HNO.out H2.out).mono ?_; rintro e w1 ⟨rfl, y2, rfl⟩)
        | (go_at_call 107; refine (tSpan_eq _ _ _ _ _ _ HNP.out (by decide) H3.out).mono ?_; rintro e w1 ⟨rfl, y3, rfl⟩)
        | (go_at_call 102; refine (tWithin_eq _ _ _ _ _ (by first | exact H4.out | exact H5.out)).mono ?_; rintro e w1 ⟨rfl, rfl⟩)
        | (go_at_call 108; refine (isTrue_eq b.q p.np p.nc _ _ (HK.out.q' belA) H6.out).mono ?_; rintro e w1 ⟨rfl, y4, rfl⟩))
      go_ret
      exact ⟨rfl, by (exact ext_of (by (exact belA)))⟩
    · cases q3
      · go_enter Tryz.func62, Tryz.ntmps62
        go_wp2_with (first
          | (go_at_call 105; refine (validNow_eq b p _ _ (HK.out.nt' belA) hn H1.out).mono ?_; rintro e w1 ⟨rfl, y1, rfl⟩)
          | (go_at_call 106; refine (validTides_eq b p _ _ (HK.out.ts' belA) HNO.out H2.out).mono ?_; rintro e w1 ⟨rfl, y2, rfl⟩)
          | (go_at_call 107; refine (tSpan_eq _ _ _ _ _ _ HNP.out (by decide) H3.out).mono ?_; rintro e w1 ⟨rfl, y3, rfl⟩)
          | (go_at_call 102; refine (tWithin_eq _ _ _ _ _ (by first | exact H4.out | exact H5.out)).mono ?_; rintro e w1 ⟨rfl, rfl⟩)
          | (go_at_call 108; refine (isTrue_eq b.q p.np p.nc _ _ (HK.out.q' belA) H6.out).mono ?_; rintro e w1 ⟨rfl, y4, rfl⟩))
        go_ret
        exact ⟨rfl, by (exact ext_of (by (exact belA)))⟩
      · cases q4
        · go_enter Tryz.func62, Tryz.ntmps62
          go_wp2_with (first
            | (go_at_call 105; refine (validNow_eq b p _ _ (HK.out.nt' belA) hn H1.out).mono ?_; rintro e w1 ⟨rfl, y1, rfl⟩)
            | (go_at_call 106; refine (validTides_eq b p _ _ (HK.out.ts' belA) HNO.out H2.out).mono ?_; rintro e w1 ⟨rfl, y2, rfl⟩)
            | (go_at_call 107; refine (tSpan_eq _ _ _ _ _ _ HNP.out (by decide) H3.out).mono ?_; rintro e w1 ⟨rfl, y3, rfl⟩)
            | (go_at_call 102; refine (tWithin_eq _ _ _ _ _ (by first | exact H4.out | exact H5.out)).mono ?_; rintro e w1 ⟨rfl, rfl⟩)
            | (go_at_call 108; refine (isTrue_eq b.q p.np p.nc _ _ (HK.out.q' belA) H6.out).mono ?_; rintro e w1 ⟨rfl, y4, rfl⟩))
          go_ret
          exact ⟨rfl, by (exact ext_of (by (exact belA)))⟩
        · cases q5
          · go_enter Tryz.func62, Tryz.ntmps62
            go_wp2_with (first
              | (go_at_call 105; refine (validNow_eq b p _ _ (HK.out.nt' belA) hn H1.out).mono ?_; rintro e w1 ⟨rfl, y1, rfl⟩)
              | (go_at_call 106; refine (validTides_eq b p _ _ (HK.out.ts' belA) HNO.out H2.out).mono ?_; rintro e w1 ⟨rfl, y2, rfl⟩)
              | (go_at_call 107; refine (tSpan_eq _ _ _ _ _ _ HNP.out (by decide) H3.out).mono ?_; rintro e w1 ⟨rfl, y3, rfl⟩)
              | (go_at_call 102; refine (tWithin_eq _ _ _ _ _ (by first | exact H4.out | exact H5.out)).mono ?_; rintro e w1 ⟨rfl, rfl⟩)
              | (go_at_call 108; refine (isTrue_eq b.q p.np p.nc _ _ (HK.out.q' belA) H6.out).mono ?_; rintro e w1 ⟨rfl, y4, rfl⟩))
            go_ret
            exact ⟨rfl, by (exact ext_of (by (exact belA)))⟩
          · cases q6
            · go_enter Tryz.func62, Tryz.ntmps62
              go_wp2_with (first
                | (go_at_call 105; refine (validNow_eq b p _ _ (HK.out.nt' belA) hn H1.out).mono ?_; rintro e w1 ⟨rfl, y1, rfl⟩)
                | (go_at_call 106; refine (validTides_eq b p _ _ (HK.out.ts' belA) HNO.out H2.out).mono ?_; rintro e w1 ⟨rfl, y2, rfl⟩)
                | (go_at_call 107; refine (tSpan_eq _ _ _ _ _ _ HNP.out (by decide) H3.out).mono ?_; rintro e w1 ⟨rfl, y3, rfl⟩)
                | (go_at_call 102; refine (tWithin_eq _ _ _ _ _ (by first | exact H4.out | exact H5.out)).mono ?_; rintro e w1 ⟨rfl, rfl⟩)
                | (go_at_call 108; refine (isTrue_eq b.q p.np p.nc _ _ (HK.out.q' belA) H6.out).mono ?_; rintro e w1 ⟨rfl, y4, rfl⟩))
              go_ret
              exact ⟨rfl, by (exact ext_of (by (exact belA)))⟩
            · go_enter Tryz.func62, Tryz.ntmps62
              go_wp2_with (first
                | (go_at_call 105; refine (validNow_eq b p _ _ (HK.out.nt' belA) hn H1.out).mono ?_; rintro e w1 ⟨rfl, y1, rfl⟩)
                | (go_at_call 106; refine (validTides_eq b p _ _ (HK.out.ts' belA) HNO.out H2.out).mono ?_; rintro e w1 ⟨rfl, y2, rfl⟩)
                | (go_at_call 107; refine (tSpan_eq _ _ _ _ _ _ HNP.out (by decide) H3.out).mono ?_; rintro e w1 ⟨rfl, y3, rfl⟩)
                | (go_at_call 102; refine (tWithin_eq _ _ _ _ _ (by first | exact H4.out | exact H5.out)).mono ?_; rintro e w1 ⟨rfl, rfl⟩)
                | (go_at_call 108; refine (isTrue_eq b.q p.np p.nc _ _ (HK.out.q' belA) H6.out).mono ?_; rintro e w1 ⟨rfl, y4, rfl⟩))
              go_ret
              exact ⟨rfl, by (exact ext_of (by (exact belA)))⟩
end Go.Proofs.YtcaeohgbgeadaaaGreatDoor

