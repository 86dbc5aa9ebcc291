/- The lists that ranges over functions leave behind, of calls that were put off: all of them empty. -/
/- Package seine: all states behind a note to which it leads from some before it. -/
import Derived.Test.YtjjfpbjdcmkkhaaDoorQIs
import Derived.Test.YtjjfpbjdcmkkhaaDoorQSo
import Derived.Carry
set_option linter.unusedSimpArgs false
set_option linter.unusedVariables false
namespace Go.Proofs.YtjjfpbjdcmkkhaaDoor
open Go Go.RowKit

/-- A list that a range left behind, and that is empty. -/
def coll (D : Nat) : Deferred := { target := .collected D, args := #[] }
/-- The return of a call in which ranges over functions ran, if none of them put off a call: their lists are shut, one after another. -/
theorem leaves_coll {F : Fence} {n : Nat} {P : Program} {fn : Func} {tmps : Array Value} {R : Ending → World → Prop} : ∀ (Ds : List Nat) (w : World), Ds.Nodup → (∀ D ∈ Ds, w.heap[D]? = some (.deferred (some []))) →
    (∀ w' : World, w'.os = w.os → w'.tape = w.tape → w'.output = w.output → w'.heap.size = w.heap.size → (∀ k, k ∉ Ds → w'.heap[k]? = w.heap[k]?) → LeavesInM F n P fn tmps R [] .returning w') →
    LeavesInM F n P fn tmps R (Ds.map coll) .returning w
  | [], w, _, _, h => h w rfl rfl rfl rfl (fun _ _ => rfl)
  | D :: Ds, w, hnd, hD, h => by
    rw [List.nodup_cons] at hnd
    refine ⟨by simp, .inl ⟨D, w.putObj D (.deferred none), rfl, run_takeDeferred (hD D (by simp)), ?_⟩⟩
    refine leaves_coll Ds _ hnd.2 (fun k hk => (World.putObj_heap_other (by rintro rfl; exact hnd.1 hk)).trans (hD k (by simp [hk]))) ?_
    intro w' e1 e2 e3 e4 e5
    refine h w' e1 e2 e3 (e4.trans (World.putObj_size ..)) (fun k hk => ?_)
    simp only [List.mem_cons, not_or] at hk
    exact (e5 k hk.2).trans (World.putObj_heap_other hk.1)
/-- Empty lists that ranges left behind, from a block on. -/
structure Defs (n0 : Nat) (Ds : List Nat) (w : World) : Prop where
  nd : Ds.Nodup
  is : ∀ D ∈ Ds, w.heap[D]? = some (.deferred (some []))
  ge : ∀ D ∈ Ds, n0 ≤ D
theorem Defs.nil (n0 : Nat) (w : World) : Defs n0 [] w := ⟨List.nodup_nil, by simp, by simp⟩
theorem Defs.lt {n0 : Nat} {Ds : List Nat} {w : World} (h : Defs n0 Ds w) {D : Nat} (hD : D ∈ Ds) : D < w.heap.size := (Array.getElem?_eq_some_iff.1 (h.is D hD)).1
theorem Defs.privM {n0 : Nat} {Ds : List Nat} {w w' : World} {O : Nat → Prop} (h : Defs n0 Ds w) (hp : PrivM O w w') (hO : ∀ D ∈ Ds, ¬ O D) : Defs n0 Ds w' := ⟨h.nd, fun D hD => (hp.block D (h.lt hD) (hO D hD)).trans (h.is D hD), h.ge⟩
theorem Defs.below {n0 : Nat} {Ds : List Nat} {w w' : World} (h : Defs n0 Ds w) (hp : Below w.heap.size w w') : Defs n0 Ds w' := ⟨h.nd, fun D hD => (hp.block D (h.lt hD)).trans (h.is D hD), h.ge⟩
theorem Defs.cons {n0 D : Nat} {Ds : List Nat} {w : World} (h : Defs n0 Ds w) (hD : w.heap[D]? = some (.deferred (some []))) (hn : n0 ≤ D) (hne : D ∉ Ds) : Defs n0 (D :: Ds) w :=
  ⟨List.nodup_cons.2 ⟨hne, h.nd⟩, fun E hE => by rcases List.mem_cons.1 hE with rfl | hE; exact hD; exact h.is E hE, fun E hE => by rcases List.mem_cons.1 hE with rfl | hE; exact hn; exact h.ge E hE⟩
/-- The return. -/
theorem Defs.leave {F : Fence} {n : Nat} {P : Program} {fn : Func} {tmps : Array Value} {R : Ending → World → Prop} {n0 : Nat} {Ds : List Nat} {w : World} (h : Defs n0 Ds w) (hr : ∀ w' : World, Below n0 w w' → w'.heap.size = w.heap.size → (∀ k, k ∉ Ds → w'.heap[k]? = w.heap[k]?) → LeavesInM F n P fn tmps R [] .returning w') :
    LeavesInM F n P fn tmps R (Ds.map coll) .returning w :=
  leaves_coll Ds w h.nd h.is fun w' e1 e2 e3 e4 e5 => hr w' ⟨e1, e2, e3, Nat.le_of_eq e4.symm, fun k hk => e5 k (fun hD => by have := h.ge k hD; omega)⟩ e4 e5
end Go.Proofs.YtjjfpbjdcmkkhaaDoor

namespace Go.Proofs.YtjjfpbjdcmkkhaaDoor
open Go Go.RowKit Go.Shelf

theorem key_state : Key2 Tryd.prog 91 :=
  Key2.of (I := 3) (Maps.Keyed.of_law (deep_law_gate (by kernel_rfl) (Nat.le_of_ble_eq_true (by kernel_rfl)) (Nat.le_of_ble_eq_true (by kernel_rfl)) (by kernel_rfl) (by kernel_rfl)))
    (Tryd.underlying91) rfl rfl rfl rfl (by kernel_rfl) (by kernel_rfl) (Tryd.underlying3) (by kernel_rfl) (by kernel_rfl) (by kernel_rfl) (m := Tryd.prog.types.size - 1) (by kernel_rfl)
/-- What all states keep to. -/
def StB (s : Int × Int) : Prop := (0 ≤ s.1 ∧ s.1 ≤ 400) ∧ 0 ≤ s.2 ∧ s.2 ≤ 1000
theorem StB.i1 {s : Int × Int} (h : StB s) : InI s.1 := inI (by have := h.1; omega) (by have := h.1; omega)
theorem StB.i2 {s : Int × Int} (h : StB s) : InI s.2 := inI (by have := h.2; omega) (by have := h.2; omega)
/-- All states behind a note, from those behind the one before it. -/
def rchL (ns : List Nt) (k : Nat) (s : Nt) (l : List (Int × Int)) : List (Int × Int) := l.flatMap fun st => behL s (befS ns k st)
abbrev StAt (w : World) (M n : Nat) (l : List (Int × Int)) : Prop := MapAt Tryd.prog 91 w M n (setF l)
/-- What holds before a round. -/
def RchI (b : Sn) (p : Option Addr) (c : Nat) (kd : Kd) (k : Nat) (s : Nt) (M n : Nat) (l : List (Int × Int)) (w : World) : Act → World → Prop := fun a wr =>
  ∃ (Ds : List Nat) (left : Int → Int → Bool) (cnt : Nat) (dn : List (Int × Int)) (n' : Nat) (u8 u9 u13 u14 u15 u16 u17 u18 u19 u20 u21 u22 u23 u24 u25 : Value),
    a = { tmps := #[.agg (catC b.lo b.hi p b.ns.length c kd), .int .i64 k, .map (some M), .pointer (some ⟨w.heap.size, 0, none⟩), undef, undef, .map none, .pointer (some ⟨w.heap.size + 1 + 1, 0, none⟩), u8, u9, .map (some (w.heap.size + 1)), .map (some M), .pointer (some ⟨w.heap.size + 3, 0, none⟩), u13, u14, u15, u16, u17, u18, u19, u20, u21, u22, u23, u24, u25], defers := Ds.map coll } ∧
    IterAt Tryd.prog 91 wr M (w.heap.size + 3) n (setF l) left cnt ∧ StAt wr (w.heap.size + 1) n' (rchL b.ns k s dn) ∧ Blk wr w.heap.size 77 (catC b.lo b.hi p b.ns.length c kd) ∧
    Blk wr (w.heap.size + 2) 111 #[.map (some (w.heap.size + 1))] ∧ Below w.heap.size w wr ∧ Defs (w.heap.size + 3) Ds wr ∧ (∀ st ∈ l, left st.1 st.2 = true ∨ st ∈ dn) ∧ (∀ st ∈ dn, st ∈ l) ∧ n' + 13 * cnt ≤ 13 * n
def rngM (M r : Nat) : Act → World → Nat := fun _ wr => wr.rangeLeft M r
theorem PrivM.of_grown {b : Nat} {A B : World} (h : A.grownBy B (some b)) : PrivM (fun k => k = b) A B := ⟨h.os, h.tape, h.output, h.size, fun k hk hn => h.block k hk (fun e => hn (by simpa using e))⟩
theorem Below.of_grown0 {A B : World} {n : Nat} (h : A.grownBy B none) (hn : n ≤ A.heap.size) : Below n A B := ⟨h.os, h.tape, h.output, h.size, fun k hk => h.block k (by omega) (by simp)⟩
theorem Below.of_grown1 {A B : World} {n b : Nat} (h : A.grownBy B (some b)) (hn : n ≤ A.heap.size) (hb : n ≤ b) : Below n A B := ⟨h.os, h.tape, h.output, h.size, fun k hk => h.block k (by omega) (fun e => by simp at e; omega)⟩
theorem behL_bd {s : Nt} {st z : Int × Int} (hk : 0 ≤ s.kind ∧ s.kind ≤ 4) (hs : SpanOK s.lo s.hi (mostOf s.kind)) (h1 : 0 ≤ st.1) (h2 : 0 ≤ st.2) (hz : z ∈ behL s st) : 0 ≤ z.1 ∧ z.1 ≤ st.1 ∧ 0 ≤ z.2 ∧ z.2 ≤ st.2 + 9 := by
  obtain ⟨sp1, sp2, sp3, sp4, sp5, sp6⟩ := hs
  unfold behL at hz
  obtain ⟨m, hm, rfl⟩ := List.mem_map.1 hz
  obtain ⟨hm1, hm2⟩ := List.mem_filter.1 hm
  have hm3 := mem_numsL.1 hm1
  unfold doesS
  by_cases k0 : s.kind = 0
  · simp [rightB, k0] at hm2
    simp only [if_pos k0]; omega
  by_cases k1 : s.kind = 1
  · have : mostOf s.kind = 9 := by simp [mostOf, k1]
    simp only [if_neg k0, if_pos k1]; omega
  by_cases k2 : s.kind = 2
  · simp only [if_neg k0, if_neg k1, if_pos k2]; omega
  by_cases k3 : s.kind = 3
  · simp only [if_neg k0, if_neg k1, if_neg k2, if_pos k3]; omega
  · simp only [if_neg k0, if_neg k1, if_neg k2, if_neg k3]; omega
theorem behL_len (s : Nt) (st : Int × Int) (h : s.hi - s.lo ≤ 12) : (behL s st).length ≤ 13 := by
  unfold behL
  rw [List.length_map]
  refine Nat.le_trans (List.length_filter_le _ _) ?_
  simp [numsL, nupto]; omega
attribute [local go_sem] Oper.semAt_some frozen_alloc_lt
set_option maxHeartbeats 4000000 in
theorem reached_any (b : Sn) (p : Option Addr) (c : Nat) (kd : Kd) (k : Nat) (s : Nt) (M n : Nat) (l : List (Int × Int)) (w : World) (hl : NotesAt w p b.ns) (hok : Ok9 b) (hs : b.ns[k]? = some s) (hm : StAt w M n l) (hst : ∀ st ∈ l, StB st) (hn : n ≤ 1000000000000) :
    Calls Tryd.prog 85 #[.agg (catC b.lo b.hi p b.ns.length c kd), .int .i64 k, .map (some M)] w fun e w' => ∃ M' n' : Nat, e = .returned (.map (some M')) ∧ w.heap.size ≤ M' ∧ n' ≤ 13 * n ∧ StAt w' M' n' (rchL b.ns k s l) ∧ Below w.heap.size w w' := by
  refine (callsIn_wide (n := 9)).1 ?_
  have HL := Lib.hid hl
  have HM := Lib.hid hm
  clear hl hm
  refine callsIn_of_wp_marks Tryd.func85 rfl trivial ?_ rfl
  simp only [Tryd.ntmps85, List.size_toArray, List.length_cons, List.length_nil, Nat.reduceAdd, Nat.reduceSub, Array.replicate_succ, Array.replicate_zero, List.push_toArray, List.append_toArray, List.nil_append, List.cons_append]
  refine wpIn_wide.2 ?_
  unfold catC
  have hmm := @run_makeMap Tryd.prog
  go_upto_region 2 with fail
  clear hmm
  generalize hW0 : ((w.alloc _).alloc _).alloc _ = W0
  have hB0 : Below w.heap.size w W0 := by rw [← hW0]; (repeat (first | (with_reducible exact Below.refl _ _) | (with_reducible assumption) | ((with_reducible refine below_ext_trans ?_ ?_ _); rotate_left; focus (((try dsimp only); repeat (first | omega | simp only [World.size_alloc, World.size_setCell, World.size_drew] | (with_reducible refine le_ext_of ?_) | (with_reducible refine le_ext_add ?_))); done)) | ((with_reducible refine Below.alloc ?_ ?_ _); rotate_left; focus (((try dsimp only); repeat (first | omega | simp only [World.size_alloc, World.size_setCell, World.size_drew] | (with_reducible refine le_ext_of ?_) | (with_reducible refine le_ext_add ?_))); done)) | ((with_reducible refine Below.setCell ?_ ?_ _); rotate_left; focus (((try dsimp only); repeat (first | omega | simp only [World.size_alloc, World.size_setCell, World.size_drew] | (with_reducible refine le_ext_of ?_) | (with_reducible refine le_ext_add ?_))); done)) | (with_reducible refine Below.drew ?_)))
  have hz0 : W0.heap.size = w.heap.size + 3 := by rw [← hW0]; simp
  have hc0 : Blk W0 w.heap.size 77 (catC b.lo b.hi p b.ns.length c kd) := by rw [← hW0]; exact ((Blk.new rfl).alloc _).alloc _
  have hr0 : StAt W0 (w.heap.size + 1) 0 [] := by
    rw [← hW0]
    refine MapAt.of_heap (w := (w.alloc _).alloc _) ?_ (Below.heap_alloc _ _ _ (by simp))
    have := MapAt.new Tryd.prog 91 (w.alloc (.cells #[.int .i64 b.lo, .int .i64 b.hi, .slice p b.ns.length c, .int .i64 kd.a, .int .i64 kd.b, .int .i64 kd.c, .int .i64 kd.d, .int .i64 kd.e] 77))
    rw [World.size_alloc] at this
    show MapAt _ _ _ _ _ (setF [])
    rw [setF_nil]; exact this
  have hb0 : Blk W0 (w.heap.size + 2) 111 #[.map (some (w.heap.size + 1))] := by rw [← hW0]; exact Blk.new (by simp)
  have hm0 : StAt W0 M n l := HM.out.below hB0
  clear hW0
  obtain ⟨W1, left, cnt, hrun, hit, hleft, hg, hz, hcn⟩ := MapAt.range hm0 key_state Tryd.underlying111
  have HB := Lib.hid hB0
  have HR0 := Lib.hid hr0
  rw [hz0] at hrun
  go_wp2_with fail
  refine wp_loop (RchI b p c kd k s M n l w) (rngM M (w.heap.size + 3)) ?start ?round
  case start =>
    have hM := HM.out.lt
    refine ⟨[], left, cnt, [], 0, _, _, _, _, _, _, _, _, _, _, _, _, _, _, _, rfl, by rw [hz0] at hit; exact hit, HR0.out.grown hg (by simp), (hg.block _ (by omega) (by simp)).trans hc0, (hg.block _ (by omega) (by simp)).trans hb0, HB.out.trans (Below.of_grown0 hg HB.out.size), Defs.nil _ _, fun st h => .inl ?_, by simp, by omega⟩
    rw [hleft _ _ (hst st h).i1 (hst st h).i2, setF_isSome]
    simpa using h
  case round =>
    clear hrun hit hleft hg hz hcn HR0 hr0 hc0 hb0 hm0 HB hB0
    rintro a wr ⟨Ds, left, cnt, dn, n', u8, u9, u13, u14, u15, u16, u17, u18, u19, u20, u21, u22, u23, u24, u25, rfl, hit, hR, hC, hb2, hB, hD, hl1, hl2, hcn⟩
    rcases hit.next key_state 0 with ⟨e0, e1, hnx⟩ | ⟨x, y, v, w1, cnt', hx, hy, hlxy, hfv, hnx, hit1, hlt, hg1, hz1, hen⟩
    · have hal : ∀ st ∈ l, st ∈ dn := fun st h => by
        rcases hl1 st h with h1 | h1
        · rw [e1 _ _ (hst st h).i1 (hst st h).i2] at h1; cases h1
        · exact h1
      have hR2 : StAt wr (w.heap.size + 1) n' (rchL b.ns k s l) := by
        have e : setF (rchL b.ns k s l) = setF (rchL b.ns k s dn) := setF_congr (fun q => by
          simp only [rchL, List.mem_flatMap]
          exact ⟨fun ⟨a, h1, h2⟩ => ⟨a, hal a h1, h2⟩, fun ⟨a, h1, h2⟩ => ⟨a, hl2 a h1, h2⟩⟩)
        show MapAt _ _ _ _ _ (setF _)
        rw [e]; exact hR
      have q0 := hb2.cell 0
      simp only [List.size_toArray, List.length_cons, List.length_nil, Nat.reduceAdd, Nat.reduceLT, getElem?_pos, List.getElem_toArray, List.getElem_cons_zero, List.getElem_cons_succ] at q0
      have HD := Lib.hid hD
      have HR2 := Lib.hid hR2
      have HB := Lib.hid hB
      have HIT := Lib.hid hit.ne
      have hbl := hb2.lt
      clear hD hR2 hB hit hR hC hb2 hl1 hl2 e1 hal
      go_wp2_with fail
      refine (show LeavesInM _ _ _ _ _ _ _ _ _ from HD.out.leave (fun w' h1 h2 h3 => ?_))
      exact ⟨_, results_tmp rfl _ _ _, w.heap.size + 1, n', rfl, by omega, by omega, HR2.out.bel (by omega) h1, HB.out.trans (h1.mono (by omega))⟩
    · obtain ⟨hmem, rfl⟩ := setF_some hfv
      obtain ⟨hx4, hy4⟩ := hst _ hmem
      dsimp only at hx4 hy4
      have hlw : w.heap.size + 3 < wr.heap.size := hit.lt
      have hP1 : PrivM (fun k => k = w.heap.size + 3) wr w1 := PrivM.of_grown hg1
      have hB1 : Below w.heap.size w w1 := hB.trans (Below.of_grown1 hg1 (by omega) (by omega))
      have hR1 : StAt w1 (w.heap.size + 1) n' (rchL b.ns k s dn) := hR.grown hg1 (by simp)
      have hC1 : Blk w1 w.heap.size 77 (catC b.lo b.hi p b.ns.length c kd) := (hP1.block _ hC.lt (by omega)).trans hC
      have hb1 : Blk w1 (w.heap.size + 2) 111 #[.map (some (w.heap.size + 1))] := (hP1.block _ hb2.lt (by omega)).trans hb2
      have hD1 : Defs (w.heap.size + 3) Ds w1 := hD.privM hP1 (fun D hD' e => by
        obtain ⟨_, _, _, _, hri⟩ := hit.isIter
        rw [← e, hD.is D hD'] at hri
        cases hri)
      have HL1 := Lib.hid (HL.out.below hB1)
      have q0 := hC1.cell 0
      have q1 := hC1.cell 1
      have q2 := hC1.cell 2
      have q3 := hC1.cell 3
      have q4 := hC1.cell 4
      have q5 := hC1.cell 5
      have q6 := hC1.cell 6
      have q7 := hC1.cell 7
      unfold catC at q0 q1 q2 q3 q4 q5 q6 q7
      simp only [List.size_toArray, List.length_cons, List.length_nil, Nat.reduceAdd, Nat.reduceLT, getElem?_pos, List.getElem_toArray, List.getElem_cons_zero, List.getElem_cons_succ] at q0 q1 q2 q3 q4 q5 q6 q7
      have hwl : w.heap.size < w1.heap.size := hC1.lt
      have hlw1 : w.heap.size + 3 < w1.heap.size := by omega
      have hwl2 : w.heap.size ≤ w1.heap.size := by omega
      have HD1 := Lib.hid hD1
      have HIT1 := Lib.hid hit1
      have HIT := Lib.hid hit
      have HB1 := Lib.hid hB1
      have HR1 := Lib.hid hR1
      have HC1 := Lib.hid hC1
      have Hb1 := Lib.hid hb1
      have HL1' := Lib.hid hl1
      have HL2' := Lib.hid hl2
      clear hit hR hC hb2 hB hD hl1 hl2 hg1 hP1 hB1 hR1 hC1 hb1 hD1 hit1 hfv hz1 hlw
      have hbz : 0 ≤ (befS b.ns k (x, y)).1 ∧ (befS b.ns k (x, y)).1 ≤ 400 := by
        have := afterH_bd hy4.1 (gapN b.ns k).toNat x hx4.1
        rw [befS_eq]; dsimp only; omega
      have hby : (befS b.ns k (x, y)).2 = y := rfl
      unfold key2 at hnx hen
      go_wp2_with (go_at_call 100; refine (claim_any b p c kd k s x y _ (HL1.out.below (by (repeat (first | (with_reducible exact Below.refl _ _) | (with_reducible assumption) | ((with_reducible refine below_ext_trans ?_ ?_ _); rotate_left; focus (((try dsimp only); repeat (first | omega | simp only [World.size_alloc, World.size_setCell, World.size_drew] | (with_reducible refine le_ext_of ?_) | (with_reducible refine le_ext_add ?_))); done)) | ((with_reducible refine Below.alloc ?_ ?_ _); rotate_left; focus (((try dsimp only); repeat (first | omega | simp only [World.size_alloc, World.size_setCell, World.size_drew] | (with_reducible refine le_ext_of ?_) | (with_reducible refine le_ext_add ?_))); done)) | ((with_reducible refine Below.setCell ?_ ?_ _); rotate_left; focus (((try dsimp only); repeat (first | omega | simp only [World.size_alloc, World.size_setCell, World.size_drew] | (with_reducible refine le_ext_of ?_) | (with_reducible refine le_ext_add ?_))); done)) | (with_reducible refine Below.drew ?_))))) hok hs hx4 hy4).mono ?_; rintro e w2 ⟨rfl, y0, rfl⟩)
      generalize hW2 : ext _ y0 = W2
      have hB2 : Below w1.heap.size w1 W2 := by rw [← hW2]; (repeat (first | (with_reducible exact Below.refl _ _) | (with_reducible assumption) | ((with_reducible refine below_ext_trans ?_ ?_ _); rotate_left; focus (((try dsimp only); repeat (first | omega | simp only [World.size_alloc, World.size_setCell, World.size_drew] | (with_reducible refine le_ext_of ?_) | (with_reducible refine le_ext_add ?_))); done)) | ((with_reducible refine Below.alloc ?_ ?_ _); rotate_left; focus (((try dsimp only); repeat (first | omega | simp only [World.size_alloc, World.size_setCell, World.size_drew] | (with_reducible refine le_ext_of ?_) | (with_reducible refine le_ext_add ?_))); done)) | ((with_reducible refine Below.setCell ?_ ?_ _); rotate_left; focus (((try dsimp only); repeat (first | omega | simp only [World.size_alloc, World.size_setCell, World.size_drew] | (with_reducible refine le_ext_of ?_) | (with_reducible refine le_ext_add ?_))); done)) | (with_reducible refine Below.drew ?_)))
      clear hW2 hnx hen q0 q1 q2 q3 q4 q5 q6 q7
      have HB2 := Lib.hid hB2
      have hz2 := hB2.size
      obtain ⟨hkn, -, hspn⟩ := hok.nt hs
      obtain ⟨sp1, sp2, sp3, sp4, sp5, sp6⟩ := hspn
      have hm4 : mostOf s.kind ≤ 400 := by unfold mostOf; split <;> (try split) <;> omega
      have hseq := behind_in s (befS b.ns k (x, y)).1 y (fun j => j = w.heap.size + 1 ∨ j = W2.heap.size + 1) W2 hkn ⟨sp1, sp5, by omega⟩ hbz hy4
      have hbl : behL s ((befS b.ns k (x, y)).1, y) = behL s (befS b.ns k (x, y)) := rfl
      rw [hbl] at hseq
      have hR2 := HR1.out.below hB2
      have hb2' := Hb1.out.bel hB2
      have hlM := hR2.lt
      have hlb := hb2'.lt
      have HR2 := Lib.hid hR2
      have Hb2 := Lib.hid hb2'
      have hlen13 := behL_len s (befS b.ns k (x, y)) sp6
      clear hB2 hR2 hb2'
      refine (wpIn_wide (n := 9)).1 ?_
      refine wpIn_rangeFunc_0 (gf := 101) (fb := #[.agg (clmC s (befS b.ns k (x, y)).1 y)]) (lb := #[]) rfl (enters_of Tryd.func101 (by kernel_rfl) rfl)
        (fun j => j = w.heap.size + 1) (fun j hj => by omega) hseq (Below.refl _ _) (fun _ => rfl)
        (fun pre A => (∃ n2 : Nat, n2 ≤ n' + pre.length ∧ StAt A (w.heap.size + 1) n2 (pre.reverse ++ rchL b.ns k s dn)) ∧ Blk A (w.heap.size + 2) 111 #[.map (some (w.heap.size + 1))])
        (fun c pre A => False)
        (fun pre z a' A => ∃ g : Nat, W2.heap.size + 2 ≤ g ∧ Blk A g 91 #[.int .i64 z.1, .int .i64 z.2] ∧ a' = { tmps := #[.agg (catC b.lo b.hi p b.ns.length c kd), .int .i64 k, .map (some M), .pointer (some ⟨w.heap.size, 0, none⟩), undef, undef, .map none, .pointer (some ⟨w.heap.size + 1 + 1, 0, none⟩), .pointer (some ⟨w1.heap.size, 0, none⟩), .pointer (some ⟨g, 0, none⟩), .map (some (w.heap.size + 1)), .map (some M), .pointer (some ⟨w.heap.size + 3, 0, none⟩), .tuple #[.bool true, .agg #[.int .i64 x, .int .i64 y], .bool true], .bool true, .tuple #[.agg #[.int .i64 x, .int .i64 y], .bool true], .agg #[.int .i64 x, .int .i64 y], .agg #[.int .i64 b.lo, .int .i64 b.hi, .slice p b.ns.length c, .int .i64 kd.a, .int .i64 kd.b, .int .i64 kd.c, .int .i64 kd.d, .int .i64 kd.e], .int .i64 k, .agg #[.int .i64 x, .int .i64 y], .agg (clmC s (befS b.ns k (x, y)).1 y), .func (.func 101) #[.agg (clmC s (befS b.ns k (x, y)).1 y)] #[], .agg #[.int .i64 z.1, .int .i64 z.2], u23, u24, u25], defers := [] })
        ?hI ?hIx ?hAx ?h0 ?hassign ?hbody ?hdone ?hstop
      case hI =>
        rintro pre A C ⟨⟨n2, j0, j1⟩, j2⟩ hz hp
        exact ⟨⟨n2, j0, j1.bel (by omega) hp⟩, (hp.block _ (by omega)).trans j2⟩
      case hIx => rintro c pre A C h; exact h.elim
      case hAx =>
        rintro pre z a' A C ⟨g, h1, h2, rfl⟩ hp
        exact ⟨g, h1, (hp.block _ h2.lt (by omega)).trans h2, rfl⟩
      case h0 =>
        intro W3 hb3
        exact ⟨⟨n', by simp, by simpa using HR2.out.bel (by omega) hb3⟩, (hb3.block _ (by omega)).trans Hb2.out⟩
      case hassign =>
        intro m l' pre z W' hz hsp hi'
        clear hseq
        dsimp only [encS, key2]
        gi_wp2_with fail
        exact ⟨⟨W'.heap.size, hz, Blk.new rfl, rfl⟩, by (repeat (first | (with_reducible exact Below.refl _ _) | (with_reducible assumption) | ((with_reducible refine below_ext_trans ?_ ?_ _); rotate_left; focus (((try dsimp only); repeat (first | omega | simp only [World.size_alloc, World.size_setCell, World.size_drew] | (with_reducible refine le_ext_of ?_) | (with_reducible refine le_ext_add ?_))); done)) | ((with_reducible refine Below.alloc ?_ ?_ _); rotate_left; focus (((try dsimp only); repeat (first | omega | simp only [World.size_alloc, World.size_setCell, World.size_drew] | (with_reducible refine le_ext_of ?_) | (with_reducible refine le_ext_add ?_))); done)) | ((with_reducible refine Below.setCell ?_ ?_ _); rotate_left; focus (((try dsimp only); repeat (first | omega | simp only [World.size_alloc, World.size_setCell, World.size_drew] | (with_reducible refine le_ext_of ?_) | (with_reducible refine le_ext_add ?_))); done)) | (with_reducible refine Below.drew ?_)))⟩
      case hbody =>
        rintro m l' pre z a' W' hz hpx ⟨⟨n2, j0, j1⟩, j2⟩ ⟨g, hgz, hbg, rfl⟩
        have hzm : z ∈ behL s (befS b.ns k (x, y)) := hpx.subset (by simp)
        have hpl : pre.length ≤ 13 := by
          have := hpx.length_le
          simp at this; omega
        have hzI : InI z.1 ∧ InI z.2 := by
          have h1 := behL_bd hkn ⟨sp1, sp2, sp3, sp4, sp5, sp6⟩ hbz.1 (by rw [hby]; exact hy4.1) hzm
          rw [hby] at h1
          exact ⟨inI (by omega) (by omega), inI (by omega) (by omega)⟩
        obtain ⟨w3, hst3, hm3, hg3⟩ := j1.store key_state Tryd.underlying111 (by unfold maxLen; omega) hzI.1 hzI.2 (.bool true)
        rw [setF_upd] at hm3
        have c0 := j2.cell 0
        have d0 := hbg.cell 0
        have d1 := hbg.cell 1
        have l0 := j2.lt
        have l1 := hbg.lt
        simp only [List.size_toArray, List.length_cons, List.length_nil, Nat.reduceAdd, Nat.reduceLT, getElem?_pos, List.getElem_toArray, List.getElem_cons_zero, List.getElem_cons_succ] at c0 d0 d1
        have J2 := Lib.hid j2
        have HM3 := Lib.hid hm3
        have HG3 := Lib.hid hg3
        unfold key2 at hst3
        clear hseq j1 j2 hbg hm3 hg3 hpx hzm
        gi_wp2_with fail
        refine ⟨PrivM.of_grown HG3.out, ⟨n2 + 1, by simp; omega, ?_⟩, (HG3.out.block _ (by omega) (by simp)).trans J2.out⟩
        rw [List.reverse_append]; exact HM3.out
      case hdone =>
        rintro D xs W' rfl hz rfl ⟨⟨n2, j0, j1⟩, j2⟩ hp hD'
        have hMw := HM.out.lt
        have hpB : Below (w.heap.size + 1) W2 W' := hp.below (by omega) (fun j hj => by omega)
        have hD2 : Defs (w.heap.size + 3) (W2.heap.size :: Ds) W' :=
          ((HD1.out.below HB2.out).privM hp (fun E hE e => by have := HD1.out.ge E hE; omega)).cons hD' (by omega) (fun hE => by have := HD1.out.lt hE; omega)
        have hitW : IterAt Tryd.prog 91 W' M (w.heap.size + 3) n (setF l) (fun x_1 y_1 => left x_1 y_1 && !(decide (x_1 = x) && decide (y_1 = y))) cnt' :=
          (HIT1.out.below (m := w1.heap.size) (by omega) (by omega) HB2.out).of_heap (hp.block _ (by omega) (by omega)) (hp.block _ (by omega) (by omega))
        have hRW : StAt W' (w.heap.size + 1) n2 (rchL b.ns k s ((x, y) :: dn)) := by
          have e : setF (rchL b.ns k s ((x, y) :: dn)) = setF ((behL s (befS b.ns k (x, y))).reverse ++ rchL b.ns k s dn) := setF_congr (fun q => by simp [rchL])
          show MapAt _ _ _ _ _ (setF _)
          rw [e]; exact j1
        have hCW : Blk W' w.heap.size 77 (catC b.lo b.hi p b.ns.length c kd) := (hpB.block _ (by omega)).trans (HC1.out.bel HB2.out)
        have hBW : Below w.heap.size w W' := HB1.out.trans ((HB2.out.mono (by omega)).trans (hpB.mono (by omega)))
        have HITW := Lib.hid hitW
        have HRW := Lib.hid hRW
        have HCW := Lib.hid hCW
        have HBW := Lib.hid hBW
        have HDW := Lib.hid hD2
        have HbW := Lib.hid j2
        have hlt2 : W'.rangeLeft M (w.heap.size + 3) < wr.rangeLeft M (w.heap.size + 3) := by

          rw [hitW.left_eq, HIT.out.left_eq]; exact hlt
        clear hseq hitW hRW hCW hBW hD2 j1 j2 hp hpB
        gi_wp2_with fail
        refine (show RchI b p c kd k s M n l w _ _ ∧ rngM M (w.heap.size + 3) _ _ < rngM M (w.heap.size + 3) _ _ from
          ⟨⟨W2.heap.size :: Ds, _, cnt', (x, y) :: dn, n2, _, _, _, _, _, _, _, _, _, _, _, _, _, _, _, rfl, HITW.out, HRW.out, HCW.out, HbW.out, HBW.out, HDW.out, ?_, ?_, ?_⟩, hlt2⟩)
        · intro st hs2
          rcases HL1'.out st hs2 with h1 | h1
          · by_cases he : st = (x, y)
            · subst he; exact .inr (by simp)
            · refine .inl ?_
              rw [h1]
              simp only [Bool.true_and, Bool.not_eq_true', Bool.and_eq_false_iff, decide_eq_false_iff_not]
              by_cases h2 : st.1 = x
              · exact .inr (fun h3 => he (Prod.ext h2 h3))
              · exact .inl h2
          · exact .inr (List.mem_cons_of_mem _ h1)
        · intro st hs2
          rcases List.mem_cons.1 hs2 with rfl | h1
          · exact hmem
          · exact HL2'.out st h1
        · omega
      case hstop =>
        rintro D c pre W' rfl hz hSp h hp hD'
        exact h.elim
end Go.Proofs.YtjjfpbjdcmkkhaaDoor

