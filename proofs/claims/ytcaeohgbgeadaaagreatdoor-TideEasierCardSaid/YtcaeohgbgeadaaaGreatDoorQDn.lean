/- Package tide: a valid book with what is known of its seine. -/
/- Package tide: how a book and a plan are opened. -/
/- Package tide: how a good book is opened, with a plan and with what is none. -/
import Derived.Test.YtcaeohgbgeadaaaGreatDoorQDl
import Derived.Test.YtcaeohgbgeadaaaGreatDoorQNd
set_option linter.unusedSimpArgs false
set_option linter.unusedVariables false
namespace Go.Proofs.YtcaeohgbgeadaaaGreatDoor
open Go Go.RowKit Go.Shelf
/-- A valid book, and what is known of its seine: what it holds, what it loses in an hour. -/
structure Hl where
  b : Tk
  hl : Int
  hh : Int
  rl : Int
  rh : Int
def hlv (h : Hl) (p : Tp) : Value := .agg #[.int .i64 h.b.q.lo, .int .i64 h.b.q.hi, .slice p.np h.b.q.ns.length p.nc, .int .i64 h.b.now, .slice p.tp h.b.ts.length p.tc, .int .i64 h.b.glo, .int .i64 h.b.ghi, .int .i64 h.b.most, .int .i64 h.b.rest, .int .i64 h.hl, .int .i64 h.hh, .int .i64 h.rl, .int .i64 h.rh]
/-- That of a book. -/
def haulOf (b : Tk) : Hl := ⟨b, minF Prod.fst 400 (atL b.q b.now), maxF Prod.fst 0 (atL b.q b.now), minF Prod.snd 400 (atL b.q b.now), maxF Prod.snd 0 (atL b.q b.now)⟩
theorem validB_of {b : Tk} (h : validB b = true) : snB b.q = true ∧ rightS b.q = true ∧ inB b.now 60 = true := by
  unfold validB trueB nowB at h
  simp only [Bool.and_eq_true] at h
  exact ⟨h.2.1, h.2.2, inB_yes (of_inT h.1.1.1.1.1.1)⟩
theorem Held_now {b : Tk} (p : Option Addr) (c : Nat) (w : World) (hk : SBk w b.q p) (hv : validB b = true) :
    Calls Tryz.prog 54 #[.agg #[.int .i64 b.q.lo, .int .i64 b.q.hi, .slice p b.q.ns.length c], .int .i64 b.now] w fun e w' => e = .returned (.tuple #[.agg #[.int .i64 (haulOf b).hl, .int .i64 (haulOf b).hh], .int .i64 0]) ∧ Below w.heap.size w w' := by
  obtain ⟨h1, h2, h3⟩ := validB_of hv
  refine (Held_all b.q p c b.now 0 w hk (.inr ⟨h1, h3, h2, rfl⟩)).mono ?_
  rintro e w1 ⟨h | h, hb⟩
  · exact absurd rfl h.1
  · exact ⟨h.2, hb⟩
theorem Rate_now {b : Tk} (p : Option Addr) (c : Nat) (w : World) (hk : SBk w b.q p) (hv : validB b = true) :
    Calls Tryz.prog 85 #[.agg #[.int .i64 b.q.lo, .int .i64 b.q.hi, .slice p b.q.ns.length c], .int .i64 b.now] w fun e w' => e = .returned (.tuple #[.agg #[.int .i64 (haulOf b).rl, .int .i64 (haulOf b).rh], .int .i64 0]) ∧ Below w.heap.size w w' := by
  obtain ⟨h1, h2, h3⟩ := validB_of hv
  refine (Rate_all b.q p c b.now 0 w hk (.inr ⟨h1, h3, h2, rfl⟩)).mono ?_
  rintro e w1 ⟨h | h, hb⟩
  · exact absurd rfl h.1
  · exact ⟨h.2, hb⟩
attribute [local go_sem] Oper.semAt_some frozen_alloc_lt
set_option maxRecDepth 100000 in
set_option maxHeartbeats 4000000 in
theorem newHaul_any (b : Tk) (p : Tp) (w : World) (hk : TB w b p) (hv : validB b = true) :
    Calls Tryz.prog 111 #[tv b p] w fun e w' => e = .returned (hlv (haulOf b) p) ∧ ∃ x, w' = ext w x := by
  have HK := Lib.hid hk
  have HV := Lib.hid hv
  clear hk hv
  unfold tv
  go_enter Tryz.func111, Tryz.ntmps111
  go_upto_region 1 with fail
  generalize hW : (w.alloc _).alloc _ = W
  have hB : Below w.heap.size w W := by rw [← hW]; (exact belA)
  have kB : Blk W w.heap.size 29 (tcs b p) := by rw [← hW]; exact (Blk.new rfl).alloc _
  have kR : Blk W (w.heap.size + 1) 87 #[.int .i64 0, .int .i64 0, .slice none 0 0, .int .i64 0, .slice none 0 0, .int .i64 0, .int .i64 0, .int .i64 0, .int .i64 0, .int .i64 0, .int .i64 0, .int .i64 0, .int .i64 0] := by rw [← hW]; exact Blk.new (by simp)
  have HB := Lib.hid hB
  have KB := Lib.hid kB
  have KR := Lib.hid kR
  have c0 := kB.cell 0
  have c1 := kB.cell 1
  have c2 := kB.cell 2
  have c3 := kB.cell 3
  have lB := kB.lt
  unfold tcs at c0 c1 c2 c3
  simp only [List.size_toArray, List.length_cons, List.length_nil, Nat.reduceAdd, Nat.reduceLT, getElem?_pos, List.getElem_toArray, List.getElem_cons_zero, List.getElem_cons_succ] at c0 c1 c2 c3
  clear hW hB kB kR
  go_upto_region 2 with (go_at_call 54; refine (Held_now p.np p.nc _ (HK.out.q' HB.out) HV.out).mono ?_; rintro e w1 ⟨rfl, k1⟩; obtain ⟨y, rfl⟩ := ext_of k1)
  have kB := (KB.out.ext y).alloc (.cells #[.int .i64 (haulOf b).hl, .int .i64 (haulOf b).hh] 23)
  have kR := (KR.out.ext y).alloc (.cells #[.int .i64 (haulOf b).hl, .int .i64 (haulOf b).hh] 23)
  have kH : Blk ((ext W y).alloc (.cells #[.int .i64 (haulOf b).hl, .int .i64 (haulOf b).hh] 23)) (ext W y).heap.size 23 #[.int .i64 (haulOf b).hl, .int .i64 (haulOf b).hh] := Blk.new rfl
  have hB : Below w.heap.size w ((ext W y).alloc (.cells #[.int .i64 (haulOf b).hl, .int .i64 (haulOf b).hh] 23)) := HB.out.trans (((below_ext W y).alloc (below_ext W y).size _).mono HB.out.size)
  generalize hW2 : (ext W y).alloc _ = W2 at *
  generalize hg3 : (ext W y).heap.size = g3 at *
  clear hW2 hg3 c0 c1 c2 c3 lB HB KB KR
  have HB := Lib.hid hB
  have KB := Lib.hid kB
  have KR := Lib.hid kR
  have KH := Lib.hid kH
  have c0 := kB.cell 0
  have c1 := kB.cell 1
  have c2 := kB.cell 2
  have c3 := kB.cell 3
  have lB := kB.lt
  unfold tcs at c0 c1 c2 c3
  simp only [List.size_toArray, List.length_cons, List.length_nil, Nat.reduceAdd, Nat.reduceLT, getElem?_pos, List.getElem_toArray, List.getElem_cons_zero, List.getElem_cons_succ] at c0 c1 c2 c3
  clear hB kB kR kH
  go_upto_region 3 with (go_at_call 85; refine (Rate_now p.np p.nc _ (HK.out.q' HB.out) HV.out).mono ?_; rintro e w1 ⟨rfl, k1⟩; obtain ⟨y2, rfl⟩ := ext_of k1)
  have kB := (KB.out.ext y2).alloc (.cells #[.int .i64 (haulOf b).rl, .int .i64 (haulOf b).rh] 23)
  have kR := (KR.out.ext y2).alloc (.cells #[.int .i64 (haulOf b).rl, .int .i64 (haulOf b).rh] 23)
  have kH := (KH.out.ext y2).alloc (.cells #[.int .i64 (haulOf b).rl, .int .i64 (haulOf b).rh] 23)
  have kT : Blk ((ext W2 y2).alloc (.cells #[.int .i64 (haulOf b).rl, .int .i64 (haulOf b).rh] 23)) (ext W2 y2).heap.size 23 #[.int .i64 (haulOf b).rl, .int .i64 (haulOf b).rh] := Blk.new rfl
  have hB : Below w.heap.size w ((ext W2 y2).alloc (.cells #[.int .i64 (haulOf b).rl, .int .i64 (haulOf b).rh] 23)) := HB.out.trans (((below_ext W2 y2).alloc (below_ext W2 y2).size _).mono HB.out.size)
  generalize hW3 : (ext W2 y2).alloc _ = W3 at *
  generalize hg5 : (ext W2 y2).heap.size = g5 at *
  clear hW3 hg5 c0 c1 c2 c3 lB HB KB KR KH
  have HB := Lib.hid hB
  have c0 := kB.cell 0
  have c1 := kB.cell 1
  have c2 := kB.cell 2
  have c3 := kB.cell 3
  have c4 := kB.cell 4
  have c5 := kB.cell 5
  have c6 := kB.cell 6
  have c7 := kB.cell 7
  have c8 := kB.cell 8
  have lB := kB.lt
  unfold tcs at c0 c1 c2 c3 c4 c5 c6 c7 c8
  have h0 := kH.cell 0
  have h1 := kH.cell 1
  have t0 := kT.cell 0
  have t1 := kT.cell 1
  simp only [List.size_toArray, List.length_cons, List.length_nil, Nat.reduceAdd, Nat.reduceLT, getElem?_pos, List.getElem_toArray, List.getElem_cons_zero, List.getElem_cons_succ] at c0 c1 c2 c3 c4 c5 c6 c7 c8 h0 h1 t0 t1
  have r0 := kR.cell 0
  have f0 := kR.frozen 0
  have r1 := kR.cell 1
  have f1 := kR.frozen 1
  have r2 := kR.cell 2
  have f2 := kR.frozen 2
  have r3 := kR.cell 3
  have f3 := kR.frozen 3
  have r4 := kR.cell 4
  have f4 := kR.frozen 4
  have r5 := kR.cell 5
  have f5 := kR.frozen 5
  have r6 := kR.cell 6
  have f6 := kR.frozen 6
  have r7 := kR.cell 7
  have f7 := kR.frozen 7
  have r8 := kR.cell 8
  have f8 := kR.frozen 8
  have r9 := kR.cell 9
  have f9 := kR.frozen 9
  have r10 := kR.cell 10
  have f10 := kR.frozen 10
  have r11 := kR.cell 11
  have f11 := kR.frozen 11
  have r12 := kR.cell 12
  have f12 := kR.frozen 12
  have lR := kR.lt
  simp only [List.size_toArray, List.length_cons, List.length_nil, Nat.reduceAdd, Nat.reduceLT, getElem?_pos, List.getElem_toArray, List.getElem_cons_zero, List.getElem_cons_succ] at r0 r1 r2 r3 r4 r5 r6 r7 r8 r9 r10 r11 r12
  clear hB kB kH kT kR
  go_wp2_with fail
  refine bodyPost_ret (v := hlv (haulOf b) p) (by simp [hlv, haulOf, results, Tryz.results111, go_sem, r0, r1, r2, r3, r4, r5, r6, r7, r8, r9, r10, r11, r12, f0, f1, f2, f3, f4, f5, f6, f7, f8, f9, f10, f11, f12, lR]) rfl ⟨rfl, ext_of ?_⟩
  exact (((((((((((((HB.out.setCell (by dsimp only; omega) _).setCell (by dsimp only; omega) _).setCell (by dsimp only; omega) _).setCell (by dsimp only; omega) _).setCell (by dsimp only; omega) _).setCell (by dsimp only; omega) _).setCell (by dsimp only; omega) _).setCell (by dsimp only; omega) _).setCell (by dsimp only; omega) _).setCell (by dsimp only; omega) _).setCell (by dsimp only; omega) _).setCell (by dsimp only; omega) _).setCell (by dsimp only; omega) _)
end Go.Proofs.YtcaeohgbgeadaaaGreatDoor

namespace Go.Proofs.YtcaeohgbgeadaaaGreatDoor
open Go Go.RowKit Go.Shelf
/-- The haul of nothing. -/
abbrev zeroHl : Value := .agg #[.int .i64 0, .int .i64 0, .slice none 0 0, .int .i64 0, .slice none 0 0, .int .i64 0, .int .i64 0, .int .i64 0, .int .i64 0, .int .i64 0, .int .i64 0, .int .i64 0, .int .i64 0]
theorem chainT_hours : ∀ {ts : List Lw} {a : Int}, 0 ≤ a → chainT a ts = true → ∀ s ∈ ts, 0 ≤ s.hour ∧ s.hour ≤ 60
  | [], _, _, _, _, h => by cases h
  | s :: l, a, ha, hc, x, hx => by
    unfold chainT at hc
    simp only [Bool.and_eq_true] at hc
    have h1 := of_inT hc.1.1
    rcases List.mem_cons.1 hx with rfl | hx
    · omega
    · exact chainT_hours (by omega) hc.2 x hx
theorem validB_hours {b : Tk} (h : validB b = true) : (∀ s ∈ b.ts, 0 ≤ s.hour ∧ s.hour ≤ 60) ∧ b.ts.length ≤ 6 ∧ (0 ≤ b.now ∧ b.now ≤ 60) := by
  unfold validB nowB tidesB at h
  simp only [Bool.and_eq_true, decide_eq_true_eq] at h
  have h1 := of_inT h.1.1.1.1.1.1
  exact ⟨chainT_hours h1.1 h.1.1.1.1.2.2, h.1.1.1.1.2.1, h1⟩
theorem isPlan_eq (b : Tk) (p : Tp) (pp : Option Addr) (pc : Nat) (pl : List Int) (q : Bool) (w : World) (hl : LowsAt w p.tp b.ts) (hv : validB b = true) (hp : IntsAt w pp pl) (hlen : pl.length ≤ 1000) (hq : planB b.ts b.most b.rest pl = q) :
    Calls Tryz.prog 60 #[tv b p, .slice pp pl.length pc] w fun e w' => e = .returned (.bool q) ∧ ∃ x, w' = ext w x := by
  subst hq; exact isPlan_any b p pp pc pl w hl (validB_hours hv).1 hp hlen (validB_hours hv).2.1
theorem Blk.set13 {w : World} {g : Nat} {t : TypeId} {a0 a1 a2 a3 a4 a5 a6 a7 a8 a9 a10 a11 a12 : Value} (k : Blk w g t #[a0, a1, a2, a3, a4, a5, a6, a7, a8, a9, a10, a11, a12]) (v0 v1 v2 v3 v4 v5 v6 v7 v8 v9 v10 v11 v12 : Value) : Blk (((((((((((((w.setCell ⟨g, 0, none⟩ v0).setCell ⟨g, 1, none⟩ v1).setCell ⟨g, 2, none⟩ v2).setCell ⟨g, 3, none⟩ v3).setCell ⟨g, 4, none⟩ v4).setCell ⟨g, 5, none⟩ v5).setCell ⟨g, 6, none⟩ v6).setCell ⟨g, 7, none⟩ v7).setCell ⟨g, 8, none⟩ v8).setCell ⟨g, 9, none⟩ v9).setCell ⟨g, 10, none⟩ v10).setCell ⟨g, 11, none⟩ v11).setCell ⟨g, 12, none⟩ v12) g t #[v0, v1, v2, v3, v4, v5, v6, v7, v8, v9, v10, v11, v12] := by
  simpa using (((((((((((((k.set 0 v0).set 1 v1).set 2 v2).set 3 v3).set 4 v4).set 5 v5).set 6 v6).set 7 v7).set 8 v8).set 9 v9).set 10 v10).set 11 v11).set 12 v12)
attribute [local go_sem] Oper.semAt_some frozen_alloc_lt
set_option maxRecDepth 100000 in
set_option maxHeartbeats 4000000 in
theorem topen_bad (b : Tk) (p : Tp) (pp : Option Addr) (pc N : Nat) (w : World) (hk : TB w b p) (hn : Hid (b.q.ns.length ≤ 9223372036854775807)) (hv : validB b = false) :
    Calls Tryz.prog 66 #[tv b p, .slice pp N pc] w fun e w' => e = .returned (.tuple #[zeroHl, .int .i64 40]) ∧ ∃ x, w' = ext w x := by
  have HK := Lib.hid hk
  have HV := Lib.hid hv
  clear hk hv
  unfold tv
  go_enter Tryz.func66, Tryz.ntmps66
  go_upto_region 2 with (go_at_call 17; refine (tCheck_eq b p _ _ (HK.out.bel belA) hn HV.out).mono ?_; rintro e w1 ⟨rfl, y, rfl⟩)
  generalize hW : ext _ y = W
  have hB : Below w.heap.size w W := by rw [← hW]; (exact belA)
  have kR : Blk W (w.heap.size + 1) 87 #[.int .i64 0, .int .i64 0, .slice none 0 0, .int .i64 0, .slice none 0 0, .int .i64 0, .int .i64 0, .int .i64 0, .int .i64 0, .int .i64 0, .int .i64 0, .int .i64 0, .int .i64 0] := by rw [← hW]; exact (Blk.new (by simp)).ext y
  have HB := Lib.hid hB
  have KR := Lib.hid kR
  have r0 := kR.cell 0
  have f0 := kR.frozen 0
  have r1 := kR.cell 1
  have f1 := kR.frozen 1
  have r2 := kR.cell 2
  have f2 := kR.frozen 2
  have r3 := kR.cell 3
  have f3 := kR.frozen 3
  have r4 := kR.cell 4
  have f4 := kR.frozen 4
  have r5 := kR.cell 5
  have f5 := kR.frozen 5
  have r6 := kR.cell 6
  have f6 := kR.frozen 6
  have r7 := kR.cell 7
  have f7 := kR.frozen 7
  have r8 := kR.cell 8
  have f8 := kR.frozen 8
  have r9 := kR.cell 9
  have f9 := kR.frozen 9
  have r10 := kR.cell 10
  have f10 := kR.frozen 10
  have r11 := kR.cell 11
  have f11 := kR.frozen 11
  have r12 := kR.cell 12
  have f12 := kR.frozen 12
  have lR := kR.lt
  simp only [List.size_toArray, List.length_cons, List.length_nil, Nat.reduceAdd, Nat.reduceLT, getElem?_pos, List.getElem_toArray, List.getElem_cons_zero, List.getElem_cons_succ] at r0 r1 r2 r3 r4 r5 r6 r7 r8 r9 r10 r11 r12
  clear hB kR hW
  go_wp2_with fail
  have kE := KR.out.set13 (.int .i64 0) (.int .i64 0) (.slice none 0 0) (.int .i64 0) (.slice none 0 0) (.int .i64 0) (.int .i64 0) (.int .i64 0) (.int .i64 0) (.int .i64 0) (.int .i64 0) (.int .i64 0) (.int .i64 0)
  have hE := (((((((((((((HB.out.setCell (p := ⟨w.heap.size + 1, 0, none⟩) (by dsimp only; omega) (.int .i64 0)).setCell (p := ⟨w.heap.size + 1, 1, none⟩) (by dsimp only; omega) (.int .i64 0)).setCell (p := ⟨w.heap.size + 1, 2, none⟩) (by dsimp only; omega) (.slice none 0 0)).setCell (p := ⟨w.heap.size + 1, 3, none⟩) (by dsimp only; omega) (.int .i64 0)).setCell (p := ⟨w.heap.size + 1, 4, none⟩) (by dsimp only; omega) (.slice none 0 0)).setCell (p := ⟨w.heap.size + 1, 5, none⟩) (by dsimp only; omega) (.int .i64 0)).setCell (p := ⟨w.heap.size + 1, 6, none⟩) (by dsimp only; omega) (.int .i64 0)).setCell (p := ⟨w.heap.size + 1, 7, none⟩) (by dsimp only; omega) (.int .i64 0)).setCell (p := ⟨w.heap.size + 1, 8, none⟩) (by dsimp only; omega) (.int .i64 0)).setCell (p := ⟨w.heap.size + 1, 9, none⟩) (by dsimp only; omega) (.int .i64 0)).setCell (p := ⟨w.heap.size + 1, 10, none⟩) (by dsimp only; omega) (.int .i64 0)).setCell (p := ⟨w.heap.size + 1, 11, none⟩) (by dsimp only; omega) (.int .i64 0)).setCell (p := ⟨w.heap.size + 1, 12, none⟩) (by dsimp only; omega) (.int .i64 0))
  generalize hWW : World.setCell _ _ _ = WW at kE hE ⊢
  clear hWW
  have HE := Lib.hid hE
  have e0 := kE.cell 0
  have e1 := kE.cell 1
  have e2 := kE.cell 2
  have e3 := kE.cell 3
  have e4 := kE.cell 4
  have e5 := kE.cell 5
  have e6 := kE.cell 6
  have e7 := kE.cell 7
  have e8 := kE.cell 8
  have e9 := kE.cell 9
  have e10 := kE.cell 10
  have e11 := kE.cell 11
  have e12 := kE.cell 12
  have lE := kE.lt
  simp only [List.size_toArray, List.length_cons, List.length_nil, Nat.reduceAdd, Nat.reduceLT, getElem?_pos, List.getElem_toArray, List.getElem_cons_zero, List.getElem_cons_succ] at e0 e1 e2 e3 e4 e5 e6 e7 e8 e9 e10 e11 e12
  clear hE kE
  refine bodyPost_ret (v := .tuple #[zeroHl, .int .i64 40]) (by simp [results, Tryz.results66, go_sem, e0, e1, e2, e3, e4, e5, e6, e7, e8, e9, e10, e11, e12, lE]) rfl ⟨rfl, ext_of HE.out⟩
end Go.Proofs.YtcaeohgbgeadaaaGreatDoor

namespace Go.Proofs.YtcaeohgbgeadaaaGreatDoor
open Go Go.RowKit Go.Shelf
/-- Cells that a haul starts with. -/
abbrev zeroCs : Array Value := #[.int .i64 0, .int .i64 0, .slice none 0 0, .int .i64 0, .slice none 0 0, .int .i64 0, .int .i64 0, .int .i64 0, .int .i64 0, .int .i64 0, .int .i64 0, .int .i64 0, .int .i64 0]
/-- The thirteen cells of a haul. -/
def hlcs (h : Hl) (p : Tp) : Array Value := #[.int .i64 h.b.q.lo, .int .i64 h.b.q.hi, .slice p.np h.b.q.ns.length p.nc, .int .i64 h.b.now, .slice p.tp h.b.ts.length p.tc, .int .i64 h.b.glo, .int .i64 h.b.ghi, .int .i64 h.b.most, .int .i64 h.b.rest, .int .i64 h.hl, .int .i64 h.hh, .int .i64 h.rl, .int .i64 h.rh]
theorem bel_set13 {n : Nat} {a w : World} {g : Nat} (h : Below n a w) (hg : n ≤ g) (v0 v1 v2 v3 v4 v5 v6 v7 v8 v9 v10 v11 v12 : Value) : Below n a (((((((((((((w.setCell ⟨g, 0, none⟩ v0).setCell ⟨g, 1, none⟩ v1).setCell ⟨g, 2, none⟩ v2).setCell ⟨g, 3, none⟩ v3).setCell ⟨g, 4, none⟩ v4).setCell ⟨g, 5, none⟩ v5).setCell ⟨g, 6, none⟩ v6).setCell ⟨g, 7, none⟩ v7).setCell ⟨g, 8, none⟩ v8).setCell ⟨g, 9, none⟩ v9).setCell ⟨g, 10, none⟩ v10).setCell ⟨g, 11, none⟩ v11).setCell ⟨g, 12, none⟩ v12) :=
  (((((((((((((h.setCell (by dsimp only; omega) _).setCell (by dsimp only; omega) _).setCell (by dsimp only; omega) _).setCell (by dsimp only; omega) _).setCell (by dsimp only; omega) _).setCell (by dsimp only; omega) _).setCell (by dsimp only; omega) _).setCell (by dsimp only; omega) _).setCell (by dsimp only; omega) _).setCell (by dsimp only; omega) _).setCell (by dsimp only; omega) _).setCell (by dsimp only; omega) _).setCell (by dsimp only; omega) _)
attribute [local go_sem] Oper.semAt_some frozen_alloc_lt
set_option maxRecDepth 100000 in
set_option maxHeartbeats 4000000 in
theorem topen_ask (b : Tk) (p : Tp) (pp : Option Addr) (pc : Nat) (pl : List Int) (w : World) (hk : TB w b p) (hn : Hid (b.q.ns.length ≤ 9223372036854775807)) (hv : validB b = true) (hp : IntsAt w pp pl) (hlen : pl.length ≤ 1000) (hq : planB b.ts b.most b.rest pl = false) :
    Calls Tryz.prog 66 #[tv b p, .slice pp pl.length pc] w fun e w' => e = .returned (.tuple #[zeroHl, .int .i64 41]) ∧ ∃ x, w' = ext w x := by
  have HK := Lib.hid hk
  have HV := Lib.hid hv
  have HP := Lib.hid hp
  have HQ := Lib.hid hq
  clear hk hv hp hq
  unfold tv
  go_enter Tryz.func66, Tryz.ntmps66
  go_upto_region 2 with (go_at_call 17; refine (tCheck_eq b p _ _ (HK.out.bel belA) hn HV.out).mono ?_; rintro e w1 ⟨rfl, y, rfl⟩)
  generalize hW : ext _ y = W
  have hB : Below w.heap.size w W := by rw [← hW]; (exact belA)
  have kR : Blk W (w.heap.size + 1) 87 zeroCs := by rw [← hW]; exact (Blk.new (by simp)).ext y
  have kB : Blk W w.heap.size 29 (tcs b p) := by rw [← hW]; exact ((Blk.new rfl).alloc _).ext y
  have HB := Lib.hid hB
  have KR := Lib.hid kR
  have KB := Lib.hid kB
  unfold tcs at kB
  obtain ⟨c0, c1, c2, c3, c4, c5, c6, c7, c8⟩ := Blk.c9 kB
  have lB := kB.lt
  clear hW hB kR kB
  go_upto_region 5 with (go_at_call 60; refine (isPlan_eq b p pp pc pl _ _ (HK.out.ts' HB.out) HV.out (HP.out.below HB.out) hlen HQ.out).mono ?_; rintro e w1 ⟨rfl, y2, rfl⟩)
  have HB2 := Lib.hid (HB.out.trans ((below_ext W y2).mono HB.out.size))
  have KR2 := Lib.hid (KR.out.ext y2)
  generalize ext W y2 = W2 at *
  have kR := KR2.out
  unfold zeroCs at kR
  obtain ⟨r0, r1, r2, r3, r4, r5, r6, r7, r8, r9, r10, r11, r12⟩ := Blk.c13 kR
  obtain ⟨f0, f1, f2, f3, f4, f5, f6, f7, f8, f9, f10, f11, f12⟩ := Blk.f13 kR
  have lR := kR.lt
  clear kR c0 c1 c2 c3 c4 c5 c6 c7 c8 lB
  go_wp2_with fail
  have kE := KR2.out.set13 (.int .i64 0) (.int .i64 0) (.slice none 0 0) (.int .i64 0) (.slice none 0 0) (.int .i64 0) (.int .i64 0) (.int .i64 0) (.int .i64 0) (.int .i64 0) (.int .i64 0) (.int .i64 0) (.int .i64 0)
  have hE := bel_set13 (g := w.heap.size + 1) HB2.out (by omega) (.int .i64 0) (.int .i64 0) (.slice none 0 0) (.int .i64 0) (.slice none 0 0) (.int .i64 0) (.int .i64 0) (.int .i64 0) (.int .i64 0) (.int .i64 0) (.int .i64 0) (.int .i64 0) (.int .i64 0)
  generalize hWW : World.setCell _ _ _ = WW at kE hE ⊢
  clear hWW
  have HE := Lib.hid hE
  obtain ⟨e0, e1, e2, e3, e4, e5, e6, e7, e8, e9, e10, e11, e12⟩ := Blk.c13 kE
  have lE := kE.lt
  clear hE kE
  refine bodyPost_ret (v := .tuple #[zeroHl, .int .i64 41]) (by simp [results, Tryz.results66, go_sem, e0, e1, e2, e3, e4, e5, e6, e7, e8, e9, e10, e11, e12, lE]) rfl ⟨rfl, ext_of HE.out⟩
set_option maxRecDepth 100000 in
set_option maxHeartbeats 4000000 in
theorem topen_yes (b : Tk) (p : Tp) (pp : Option Addr) (pc : Nat) (pl : List Int) (w : World) (hk : TB w b p) (hn : Hid (b.q.ns.length ≤ 9223372036854775807)) (hv : validB b = true) (hp : IntsAt w pp pl) (hlen : pl.length ≤ 1000) (hq : planB b.ts b.most b.rest pl = true) :
    Calls Tryz.prog 66 #[tv b p, .slice pp pl.length pc] w fun e w' => e = .returned (.tuple #[hlv (haulOf b) p, .int .i64 0]) ∧ ∃ x, w' = ext w x := by
  have HK := Lib.hid hk
  have HV := Lib.hid hv
  have HP := Lib.hid hp
  have HQ := Lib.hid hq
  obtain ⟨H, hH⟩ : ∃ H, haulOf b = H := ⟨_, rfl⟩
  rw [hH]
  have HH := Lib.hid hH
  clear hk hv hp hq hH
  unfold tv
  go_enter Tryz.func66, Tryz.ntmps66
  go_upto_region 2 with (go_at_call 17; refine (tCheck_eq b p _ _ (HK.out.bel belA) hn HV.out).mono ?_; rintro e w1 ⟨rfl, y, rfl⟩)
  generalize hW : ext _ y = W
  have hB : Below w.heap.size w W := by rw [← hW]; (exact belA)
  have kR : Blk W (w.heap.size + 1) 87 zeroCs := by rw [← hW]; exact (Blk.new (by simp)).ext y
  have kB : Blk W w.heap.size 29 (tcs b p) := by rw [← hW]; exact ((Blk.new rfl).alloc _).ext y
  have HB := Lib.hid hB
  have KR := Lib.hid kR
  have KB := Lib.hid kB
  unfold tcs at kB
  obtain ⟨c0, c1, c2, c3, c4, c5, c6, c7, c8⟩ := Blk.c9 kB
  have lB := kB.lt
  clear hW hB kR kB
  go_upto_region 6 with (go_at_call 60; refine (isPlan_eq b p pp pc pl _ _ (HK.out.ts' HB.out) HV.out (HP.out.below HB.out) hlen HQ.out).mono ?_; rintro e w1 ⟨rfl, y2, rfl⟩)
  have HB2 := Lib.hid (HB.out.trans ((below_ext W y2).mono HB.out.size))
  have KR2 := Lib.hid (KR.out.ext y2)
  have kB := KB.out.ext y2
  generalize ext W y2 = W2 at *
  clear c0 c1 c2 c3 c4 c5 c6 c7 c8 lB
  unfold tcs at kB
  obtain ⟨c0, c1, c2, c3, c4, c5, c6, c7, c8⟩ := Blk.c9 kB
  have lB := kB.lt
  clear kB
  go_wp2_with (go_at_call 111; refine (newHaul_any b p _ (HK.out.bel HB2.out) HV.out).mono ?_; rintro e w1 ⟨he, y3, rfl⟩; rw [HH.out] at he; unfold hlv at he; subst he; have HB3 := Lib.hid (HB2.out.trans ((below_ext W2 y3).mono HB2.out.size)); have KR3 := Lib.hid (KR2.out.ext y3); clear c0 c1 c2 c3 c4 c5 c6 c7 c8 lB; have kR := KR3.out; generalize ext W2 y3 = W3 at *; unfold zeroCs at kR; obtain ⟨r0, r1, r2, r3, r4, r5, r6, r7, r8, r9, r10, r11, r12⟩ := Blk.c13 kR; obtain ⟨f0, f1, f2, f3, f4, f5, f6, f7, f8, f9, f10, f11, f12⟩ := Blk.f13 kR; have lR := kR.lt; clear kR)
  have kE := KR3.out.set13 (.int .i64 H.b.q.lo) (.int .i64 H.b.q.hi) (.slice p.np H.b.q.ns.length p.nc) (.int .i64 H.b.now) (.slice p.tp H.b.ts.length p.tc) (.int .i64 H.b.glo) (.int .i64 H.b.ghi) (.int .i64 H.b.most) (.int .i64 H.b.rest) (.int .i64 H.hl) (.int .i64 H.hh) (.int .i64 H.rl) (.int .i64 H.rh)
  have hE := bel_set13 (g := w.heap.size + 1) HB3.out (by omega) (.int .i64 H.b.q.lo) (.int .i64 H.b.q.hi) (.slice p.np H.b.q.ns.length p.nc) (.int .i64 H.b.now) (.slice p.tp H.b.ts.length p.tc) (.int .i64 H.b.glo) (.int .i64 H.b.ghi) (.int .i64 H.b.most) (.int .i64 H.b.rest) (.int .i64 H.hl) (.int .i64 H.hh) (.int .i64 H.rl) (.int .i64 H.rh)
  generalize hWW : World.setCell _ _ _ = WW at kE hE ⊢
  clear hWW
  have HE := Lib.hid hE
  obtain ⟨e0, e1, e2, e3, e4, e5, e6, e7, e8, e9, e10, e11, e12⟩ := Blk.c13 kE
  have lE := kE.lt
  clear hE kE
  refine bodyPost_ret (v := .tuple #[hlv H p, .int .i64 0]) (by simp [hlv, results, Tryz.results66, go_sem, e0, e1, e2, e3, e4, e5, e6, e7, e8, e9, e10, e11, e12, lE]) rfl ⟨rfl, ext_of HE.out⟩
end Go.Proofs.YtcaeohgbgeadaaaGreatDoor

