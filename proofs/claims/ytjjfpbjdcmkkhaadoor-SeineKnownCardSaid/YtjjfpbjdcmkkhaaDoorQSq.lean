/- Package seine: those of some states from which a note can be right, so that it leads to one of others. -/
/- Package seine: the closure of tale, which calls itself: in which states the seine is in its truths behind each number of notes. -/
/- Package seine: all states at the hour 0. -/
import Derived.Test.YtjjfpbjdcmkkhaaDoorQLc
import Derived.Test.YtjjfpbjdcmkkhaaDoorQFh
import Derived.Test.YtjjfpbjdcmkkhaaDoorQSo
set_option linter.unusedSimpArgs false
set_option linter.unusedVariables false
namespace Go.Proofs.YtjjfpbjdcmkkhaaDoor
open Go Go.RowKit Go.Shelf

/-- Those of some states from which a note can be right, so that it leads to one of others. -/
def leadB (ns : List Nt) (k : Nat) (s : Nt) (ot : List (Int × Int)) (st : Int × Int) : Bool := (behL s (befS ns k st)).any fun z => decide (z ∈ ot)
def leadL (ns : List Nt) (k : Nat) (s : Nt) (l ot : List (Int × Int)) : List (Int × Int) := l.filter (leadB ns k s ot)
/-- What holds before a round. -/
def LdgI (b : Sn) (p : Option Addr) (c : Nat) (kd : Kd) (k : Nat) (s : Nt) (M Mo n no : Nat) (l ot : List (Int × Int)) (w : World) : Act → World → Prop := fun a wr =>
  ∃ (Ds : List Nat) (left : Int → Int → Bool) (cnt : Nat) (dn : List (Int × Int)) (n' : Nat) (u10 u11 u15 u16 u17 u18 u19 u20 u21 u22 u23 u24 u25 u26 u27 u28 u29 u30 : Value),
    a = { tmps := #[.agg (catC b.lo b.hi p b.ns.length c kd), .int .i64 k, .map (some M), .map (some Mo), .pointer (some ⟨w.heap.size, 0, none⟩), undef, undef, .pointer (some ⟨w.heap.size + 1, 0, none⟩), .map none, .pointer (some ⟨w.heap.size + 1 + 1 + 1, 0, none⟩), u10, u11, .map (some (w.heap.size + 1 + 1)), .map (some M), .pointer (some ⟨w.heap.size + 4, 0, none⟩), u15, u16, u17, u18, u19, u20, u21, u22, u23, u24, u25, u26, u27, u28, u29, u30], defers := Ds.map coll } ∧
    IterAt Tryd.prog 91 wr M (w.heap.size + 4) n (setF l) left cnt ∧ StAt wr (w.heap.size + 2) n' (leadL b.ns k s dn ot) ∧ Blk wr w.heap.size 77 (catC b.lo b.hi p b.ns.length c kd) ∧ Blk wr (w.heap.size + 1) 111 #[.map (some Mo)] ∧
    Blk wr (w.heap.size + 3) 111 #[.map (some (w.heap.size + 2))] ∧ Below w.heap.size w wr ∧ Defs (w.heap.size + 4) Ds wr ∧ (∀ st ∈ l, left st.1 st.2 = true ∨ st ∈ dn) ∧ (∀ st ∈ dn, st ∈ l) ∧ n' + cnt ≤ n
theorem zero_bool (w : World) : (zeroValue 4).run Tryd.prog w = .ok (.bool false) w := by kernel_rfl
attribute [local go_sem] Oper.semAt_some frozen_alloc_lt
set_option maxHeartbeats 4000000 in
theorem leading_any (b : Sn) (p : Option Addr) (c : Nat) (kd : Kd) (k : Nat) (s : Nt) (M Mo n no : Nat) (l ot : List (Int × Int)) (w : World) (hl : NotesAt w p b.ns) (hok : Ok9 b) (hs : b.ns[k]? = some s) (hm : StAt w M n l) (hmo : StAt w Mo no ot) (hst : ∀ st ∈ l, StB st) (hn : n ≤ 100000000000000) :
    Calls Tryd.prog 84 #[.agg (catC b.lo b.hi p b.ns.length c kd), .int .i64 k, .map (some M), .map (some Mo)] w fun e w' => ∃ M' n' : Nat, e = .returned (.map (some M')) ∧ w.heap.size ≤ M' ∧ n' ≤ n ∧ StAt w' M' n' (leadL b.ns k s l ot) ∧ Below w.heap.size w w' := by
  refine (callsIn_wide (n := 9)).1 ?_
  have HL := Lib.hid hl
  have HM := Lib.hid hm
  have HMo := Lib.hid hmo
  clear hl hm hmo
  refine callsIn_of_wp_marks Tryd.func84 rfl trivial ?_ rfl
  simp only [Tryd.ntmps84, List.size_toArray, List.length_cons, List.length_nil, Nat.reduceAdd, Nat.reduceSub, Array.replicate_succ, Array.replicate_zero, List.push_toArray, List.append_toArray, List.nil_append, List.cons_append]
  refine wpIn_wide.2 ?_
  unfold catC
  have hmm := @run_makeMap Tryd.prog
  go_wp2_with fail
  apply wp_scope_straight
  go_upto_region 2 with fail
  clear hmm
  generalize hW0 : (((w.alloc _).alloc _).alloc _).alloc _ = W0
  have hB0 : Below w.heap.size w W0 := by rw [← hW0]; (repeat (first | (with_reducible exact Below.refl _ _) | (with_reducible assumption) | ((with_reducible refine below_ext_trans ?_ ?_ _); rotate_left; focus (((try dsimp only); repeat (first | omega | simp only [World.size_alloc, World.size_setCell, World.size_drew] | (with_reducible refine le_ext_of ?_) | (with_reducible refine le_ext_add ?_))); done)) | ((with_reducible refine Below.alloc ?_ ?_ _); rotate_left; focus (((try dsimp only); repeat (first | omega | simp only [World.size_alloc, World.size_setCell, World.size_drew] | (with_reducible refine le_ext_of ?_) | (with_reducible refine le_ext_add ?_))); done)) | ((with_reducible refine Below.setCell ?_ ?_ _); rotate_left; focus (((try dsimp only); repeat (first | omega | simp only [World.size_alloc, World.size_setCell, World.size_drew] | (with_reducible refine le_ext_of ?_) | (with_reducible refine le_ext_add ?_))); done)) | (with_reducible refine Below.drew ?_)))
  have hz0 : W0.heap.size = w.heap.size + 4 := by rw [← hW0]; simp
  have hc0 : Blk W0 w.heap.size 77 (catC b.lo b.hi p b.ns.length c kd) := by rw [← hW0]; exact (((Blk.new rfl).alloc _).alloc _).alloc _
  have ho0 : Blk W0 (w.heap.size + 1) 111 #[.map (some Mo)] := by rw [← hW0]; exact ((Blk.new (by simp)).alloc _).alloc _
  have hr0 : StAt W0 (w.heap.size + 2) 0 [] := by
    rw [← hW0]
    refine MapAt.of_heap (w := ((w.alloc _).alloc _).alloc _) ?_ (Below.heap_alloc _ _ _ (by simp))
    have := MapAt.new Tryd.prog 91 ((w.alloc (.cells #[.int .i64 b.lo, .int .i64 b.hi, .slice p b.ns.length c, .int .i64 kd.a, .int .i64 kd.b, .int .i64 kd.c, .int .i64 kd.d, .int .i64 kd.e] 77)).alloc (.cells #[.map (some Mo)] 111))
    rw [World.size_alloc, World.size_alloc] at this
    show MapAt _ _ _ _ _ (setF [])
    rw [setF_nil]; exact this
  have hb0 : Blk W0 (w.heap.size + 3) 111 #[.map (some (w.heap.size + 2))] := by rw [← hW0]; exact Blk.new (by simp)
  have hm0 : StAt W0 M n l := HM.out.below hB0
  clear hW0
  obtain ⟨W1, left, cnt, hrun, hit, hleft, hg, hz, hcn⟩ := MapAt.range hm0 key_state Tryd.underlying111
  have HB := Lib.hid hB0
  have HR0 := Lib.hid hr0
  rw [hz0] at hrun
  go_wp2_with fail
  apply wp_label
  go_wp2_with fail
  refine wp_loop (LdgI b p c kd k s M Mo n no l ot w) (rngM M (w.heap.size + 4)) ?start ?round
  case start =>
    have hM := HM.out.lt
    refine ⟨[], left, cnt, [], 0, _, _, _, _, _, _, _, _, _, _, _, _, _, _, _, _, _, _, rfl, by rw [hz0] at hit; exact hit, HR0.out.grown hg (by simp), (hg.block _ (by omega) (by simp)).trans hc0, (hg.block _ (by omega) (by simp)).trans ho0, (hg.block _ (by omega) (by simp)).trans hb0, HB.out.trans (Below.of_grown0 hg HB.out.size), Defs.nil _ _, fun st h => .inl ?_, by simp, by omega⟩
    rw [hleft _ _ (hst st h).i1 (hst st h).i2, setF_isSome]
    simpa using h
  case round =>
    clear hrun hit hleft hg hz hcn HR0 hr0 hc0 hb0 hm0 HB hB0 ho0
    rintro a wr ⟨Ds, left, cnt, dn, n', u10, u11, u15, u16, u17, u18, u19, u20, u21, u22, u23, u24, u25, u26, u27, u28, u29, u30, rfl, hit, hR, hC, ho2, hb2, hB, hD, hl1, hl2, hcn⟩
    rcases hit.next key_state 0 with ⟨e0, e1, hnx⟩ | ⟨x, y, v, w1, cnt', hx, hy, hlxy, hfv, hnx, hit1, hlt, hg1, hz1, hen⟩
    · have hal : ∀ st ∈ l, st ∈ dn := fun st h => by
        rcases hl1 st h with h1 | h1
        · rw [e1 _ _ (hst st h).i1 (hst st h).i2] at h1; cases h1
        · exact h1
      have hR2 : StAt wr (w.heap.size + 2) n' (leadL b.ns k s l ot) := by
        have e : setF (leadL b.ns k s l ot) = setF (leadL b.ns k s dn ot) := setF_congr (fun q => by
          simp only [leadL, List.mem_filter]
          exact ⟨fun ⟨h1, h2⟩ => ⟨hal q h1, h2⟩, fun ⟨h1, h2⟩ => ⟨hl2 q h1, h2⟩⟩)
        show MapAt _ _ _ _ _ (setF _)
        rw [e]; exact hR
      have q0 := hb2.cell 0
      simp only [List.size_toArray, List.length_cons, List.length_nil, Nat.reduceAdd, Nat.reduceLT, getElem?_pos, List.getElem_toArray, List.getElem_cons_zero, List.getElem_cons_succ] at q0
      have HD := Lib.hid hD
      have HR2 := Lib.hid hR2
      have HB := Lib.hid hB
      have hbl := hb2.lt
      clear hD hR2 hB hit hR hC hb2 hl1 hl2 e1 hal ho2
      go_wp2_with fail
      refine (show LeavesInM _ _ _ _ _ _ _ _ _ from HD.out.leave (fun w' h1 h2 h3 => ?_))
      exact ⟨_, results_tmp rfl _ _ _, w.heap.size + 2, n', rfl, by omega, by omega, HR2.out.bel (by omega) h1, HB.out.trans (h1.mono (by omega))⟩
    · obtain ⟨hmem, rfl⟩ := setF_some hfv
      obtain ⟨hx4, hy4⟩ := hst _ hmem
      dsimp only at hx4 hy4
      have hlw : w.heap.size + 4 < wr.heap.size := hit.lt
      have hP1 : PrivM (fun k => k = w.heap.size + 4) wr w1 := PrivM.of_grown hg1
      have hB1 : Below w.heap.size w w1 := hB.trans (Below.of_grown1 hg1 (by omega) (by omega))
      have hR1 : StAt w1 (w.heap.size + 2) n' (leadL b.ns k s dn ot) := hR.grown hg1 (by simp)
      have hC1 : Blk w1 w.heap.size 77 (catC b.lo b.hi p b.ns.length c kd) := (hP1.block _ hC.lt (by omega)).trans hC
      have ho1 : Blk w1 (w.heap.size + 1) 111 #[.map (some Mo)] := (hP1.block _ ho2.lt (by omega)).trans ho2
      have hb1 : Blk w1 (w.heap.size + 3) 111 #[.map (some (w.heap.size + 2))] := (hP1.block _ hb2.lt (by omega)).trans hb2
      have hD1 : Defs (w.heap.size + 4) Ds w1 := hD.privM hP1 (fun D hD' e => by
        obtain ⟨_, _, _, _, hri⟩ := hit.isIter
        rw [← e, hD.is D hD'] at hri
        cases hri)
      have HL1 := Lib.hid (HL.out.below hB1)
      have q0 := hC1.cell 0
      have q1 := hC1.cell 1
      have q2 := hC1.cell 2
      have q3 := hC1.cell 3
      have q4 := hC1.cell 4
      have q5 := hC1.cell 5
      have q6 := hC1.cell 6
      have q7 := hC1.cell 7
      unfold catC at q0 q1 q2 q3 q4 q5 q6 q7
      simp only [List.size_toArray, List.length_cons, List.length_nil, Nat.reduceAdd, Nat.reduceLT, getElem?_pos, List.getElem_toArray, List.getElem_cons_zero, List.getElem_cons_succ] at q0 q1 q2 q3 q4 q5 q6 q7
      have hwl : w.heap.size < w1.heap.size := hC1.lt
      have hlw1 : w.heap.size + 4 < w1.heap.size := by omega
      have hwl2 : w.heap.size ≤ w1.heap.size := by omega
      have HD1 := Lib.hid hD1
      have HIT1 := Lib.hid hit1
      have HIT := Lib.hid hit
      have HB1 := Lib.hid hB1
      have HR1 := Lib.hid hR1
      have HC1 := Lib.hid hC1
      have Hb1 := Lib.hid hb1
      have Ho1 := Lib.hid ho1
      have HL1' := Lib.hid hl1
      have HL2' := Lib.hid hl2
      clear hit hR hC hb2 hB hD hl1 hl2 hg1 hP1 hB1 hR1 hC1 hb1 hD1 hit1 hfv hz1 hlw ho1 ho2
      have hbz : 0 ≤ (befS b.ns k (x, y)).1 ∧ (befS b.ns k (x, y)).1 ≤ 400 := by
        have := afterH_bd hy4.1 (gapN b.ns k).toNat x hx4.1
        rw [befS_eq]; dsimp only; omega
      have hby : (befS b.ns k (x, y)).2 = y := rfl
      unfold key2 at hnx hen
      go_wp2_with (go_at_call 100; refine (claim_any b p c kd k s x y _ (HL1.out.below (by (repeat (first | (with_reducible exact Below.refl _ _) | (with_reducible assumption) | ((with_reducible refine below_ext_trans ?_ ?_ _); rotate_left; focus (((try dsimp only); repeat (first | omega | simp only [World.size_alloc, World.size_setCell, World.size_drew] | (with_reducible refine le_ext_of ?_) | (with_reducible refine le_ext_add ?_))); done)) | ((with_reducible refine Below.alloc ?_ ?_ _); rotate_left; focus (((try dsimp only); repeat (first | omega | simp only [World.size_alloc, World.size_setCell, World.size_drew] | (with_reducible refine le_ext_of ?_) | (with_reducible refine le_ext_add ?_))); done)) | ((with_reducible refine Below.setCell ?_ ?_ _); rotate_left; focus (((try dsimp only); repeat (first | omega | simp only [World.size_alloc, World.size_setCell, World.size_drew] | (with_reducible refine le_ext_of ?_) | (with_reducible refine le_ext_add ?_))); done)) | (with_reducible refine Below.drew ?_))))) hok hs hx4 hy4).mono ?_; rintro e w2 ⟨rfl, y0, rfl⟩)
      generalize hW2 : ext _ y0 = W2
      have hB2 : Below w1.heap.size w1 W2 := by rw [← hW2]; (repeat (first | (with_reducible exact Below.refl _ _) | (with_reducible assumption) | ((with_reducible refine below_ext_trans ?_ ?_ _); rotate_left; focus (((try dsimp only); repeat (first | omega | simp only [World.size_alloc, World.size_setCell, World.size_drew] | (with_reducible refine le_ext_of ?_) | (with_reducible refine le_ext_add ?_))); done)) | ((with_reducible refine Below.alloc ?_ ?_ _); rotate_left; focus (((try dsimp only); repeat (first | omega | simp only [World.size_alloc, World.size_setCell, World.size_drew] | (with_reducible refine le_ext_of ?_) | (with_reducible refine le_ext_add ?_))); done)) | ((with_reducible refine Below.setCell ?_ ?_ _); rotate_left; focus (((try dsimp only); repeat (first | omega | simp only [World.size_alloc, World.size_setCell, World.size_drew] | (with_reducible refine le_ext_of ?_) | (with_reducible refine le_ext_add ?_))); done)) | (with_reducible refine Below.drew ?_)))
      have hfr0 : W2.cell? ⟨w1.heap.size, 0, none⟩ = some (.int .i64 x) := by rw [← hW2, ext_cell _ _ _ _ (by simp), new_cell _ _ _ _ _ rfl]; rfl
      have hfr1 : W2.cell? ⟨w1.heap.size, 1, none⟩ = some (.int .i64 y) := by rw [← hW2, ext_cell _ _ _ _ (by simp), new_cell _ _ _ _ _ rfl]; rfl
      have hfrl : w1.heap.size < W2.heap.size := by rw [← hW2]; have := (below_ext (w1.alloc (.cells #[.int .i64 x, .int .i64 y] 91)) y0).size; simp at this; omega
      clear hW2 hnx hen q0 q1 q2 q3 q4 q5 q6 q7
      have HB2 := Lib.hid hB2
      have hz2 := hB2.size
      obtain ⟨hkn, -, hspn⟩ := hok.nt hs
      obtain ⟨sp1, sp2, sp3, sp4, sp5, sp6⟩ := hspn
      have hm4 : mostOf s.kind ≤ 400 := by unfold mostOf; split <;> (try split) <;> omega
      have hseq := behind_in s (befS b.ns k (x, y)).1 y (fun j => j = w.heap.size + 2 ∨ j = W2.heap.size + 1) W2 hkn ⟨sp1, sp5, by omega⟩ hbz hy4
      have hbl : behL s ((befS b.ns k (x, y)).1, y) = behL s (befS b.ns k (x, y)) := rfl
      rw [hbl] at hseq
      have hR2 := HR1.out.below hB2
      have hb2' := Hb1.out.bel hB2
      have ho2' := Ho1.out.bel hB2
      have hMo2 := (HMo.out.below HB1.out).below hB2
      have hlMo := HMo.out.lt
      have hlM := hR2.lt
      have hlb := hb2'.lt
      have HR2 := Lib.hid hR2
      have Hb2 := Lib.hid hb2'
      have Ho2 := Lib.hid ho2'
      have HMo2 := Lib.hid hMo2
      clear hB2 hR2 hb2' ho2' hMo2
      refine (wpIn_wide (n := 9)).1 ?_
      refine wpIn_rangeFunc_0 (gf := 101) (fb := #[.agg (clmC s (befS b.ns k (x, y)).1 y)]) (lb := #[]) rfl (enters_of Tryd.func101 (by kernel_rfl) rfl)
        (fun j => j = w.heap.size + 2) (fun j hj => by omega) hseq (Below.refl _ _) (fun _ => rfl)
        (fun pre A => (∀ z ∈ pre, z ∉ ot) ∧ A.heap[w.heap.size + 2]? = W2.heap[w.heap.size + 2]? ∧ StAt A Mo no ot ∧ Blk A (w.heap.size + 1) 111 #[.map (some Mo)] ∧ Blk A (w.heap.size + 3) 111 #[.map (some (w.heap.size + 2))] ∧ A.cell? ⟨w1.heap.size, 0, none⟩ = some (.int .i64 x) ∧ A.cell? ⟨w1.heap.size, 1, none⟩ = some (.int .i64 y))
        (fun c pre A => c = .exit 1 ∧ (∃ z ∈ pre, z ∈ ot) ∧ StAt A (w.heap.size + 2) (n' + 1) ((x, y) :: leadL b.ns k s dn ot))
        (fun pre z a' A => ∃ g : Nat, W2.heap.size + 2 ≤ g ∧ Blk A g 91 #[.int .i64 z.1, .int .i64 z.2] ∧ a' = { tmps := #[.agg (catC b.lo b.hi p b.ns.length c kd), .int .i64 k, .map (some M), .map (some Mo), .pointer (some ⟨w.heap.size, 0, none⟩), undef, undef, .pointer (some ⟨w.heap.size + 1, 0, none⟩), .map none, .pointer (some ⟨w.heap.size + 1 + 1 + 1, 0, none⟩), .pointer (some ⟨w1.heap.size, 0, none⟩), .pointer (some ⟨g, 0, none⟩), .map (some (w.heap.size + 1 + 1)), .map (some M), .pointer (some ⟨w.heap.size + 4, 0, none⟩), .tuple #[.bool true, .agg #[.int .i64 x, .int .i64 y], .bool true], .bool true, .tuple #[.agg #[.int .i64 x, .int .i64 y], .bool true], .agg #[.int .i64 x, .int .i64 y], .agg #[.int .i64 b.lo, .int .i64 b.hi, .slice p b.ns.length c, .int .i64 kd.a, .int .i64 kd.b, .int .i64 kd.c, .int .i64 kd.d, .int .i64 kd.e], .int .i64 k, .agg #[.int .i64 x, .int .i64 y], .agg (clmC s (befS b.ns k (x, y)).1 y), .func (.func 101) #[.agg (clmC s (befS b.ns k (x, y)).1 y)] #[], .agg #[.int .i64 z.1, .int .i64 z.2], u25, u26, u27, u28, u29, u30], defers := [] })
        ?hI ?hIx ?hAx ?h0 ?hassign ?hbody ?hdone ?hstop
      case hI =>
        rintro pre A C ⟨j0, j1, j2, j3, j4, j5, j6⟩ hz hp
        exact ⟨j0, (hp.block _ (by omega)).trans j1, j2.bel (by omega) hp, (hp.block _ (by omega)).trans j3, (hp.block _ (by omega)).trans j4, (hp.cell (p := ⟨w1.heap.size, 0, none⟩) hfrl).trans j5, (hp.cell (p := ⟨w1.heap.size, 1, none⟩) hfrl).trans j6⟩
      case hIx =>
        rintro c pre A C ⟨rfl, j0, j1⟩ hz hp
        exact ⟨rfl, j0, j1.bel (by omega) hp⟩
      case hAx =>
        rintro pre z a' A C ⟨g, h1, h2, rfl⟩ hp
        exact ⟨g, h1, (hp.block _ h2.lt (by omega)).trans h2, rfl⟩
      case h0 =>
        intro W3 hb3
        exact ⟨by simp, hb3.block _ (by omega), HMo2.out.bel (by omega) hb3, (hb3.block _ (by omega)).trans Ho2.out, (hb3.block _ (by omega)).trans Hb2.out, (hb3.cell (p := ⟨w1.heap.size, 0, none⟩) hfrl).trans hfr0, (hb3.cell (p := ⟨w1.heap.size, 1, none⟩) hfrl).trans hfr1⟩
      case hassign =>
        intro m l' pre z W' hz hsp hi'
        clear hseq
        dsimp only [encS, key2]
        gi_wp2_with fail
        exact ⟨⟨W'.heap.size, hz, Blk.new rfl, rfl⟩, by (repeat (first | (with_reducible exact Below.refl _ _) | (with_reducible assumption) | ((with_reducible refine below_ext_trans ?_ ?_ _); rotate_left; focus (((try dsimp only); repeat (first | omega | simp only [World.size_alloc, World.size_setCell, World.size_drew] | (with_reducible refine le_ext_of ?_) | (with_reducible refine le_ext_add ?_))); done)) | ((with_reducible refine Below.alloc ?_ ?_ _); rotate_left; focus (((try dsimp only); repeat (first | omega | simp only [World.size_alloc, World.size_setCell, World.size_drew] | (with_reducible refine le_ext_of ?_) | (with_reducible refine le_ext_add ?_))); done)) | ((with_reducible refine Below.setCell ?_ ?_ _); rotate_left; focus (((try dsimp only); repeat (first | omega | simp only [World.size_alloc, World.size_setCell, World.size_drew] | (with_reducible refine le_ext_of ?_) | (with_reducible refine le_ext_add ?_))); done)) | (with_reducible refine Below.drew ?_)))⟩
      case hbody =>
        rintro m l' pre z a' W' hz hpx ⟨j0, j1, j2, j3, j4, j5, j6⟩ ⟨g, hgz, hbg, rfl⟩
        have hzm : z ∈ behL s (befS b.ns k (x, y)) := hpx.subset (by simp)
        have hzI : InI z.1 ∧ InI z.2 := by
          have h1 := behL_bd hkn ⟨sp1, sp2, sp3, sp4, sp5, sp6⟩ hbz.1 (by rw [hby]; exact hy4.1) hzm
          rw [hby] at h1
          exact ⟨inI (by omega) (by omega), inI (by omega) (by omega)⟩
        have hlk := j2.look key_state Tryd.underlying111 (z := .bool false) zero_bool hzI.1 hzI.2
        rw [setF_getD] at hlk
        have c0 := j3.cell 0
        have c1 := j4.cell 0
        have d0 := hbg.cell 0
        have d1 := hbg.cell 1
        have l0 := j3.lt
        have l1 := hbg.lt
        have l2 := j4.lt
        simp only [List.size_toArray, List.length_cons, List.length_nil, Nat.reduceAdd, Nat.reduceLT, getElem?_pos, List.getElem_toArray, List.getElem_cons_zero, List.getElem_cons_succ] at c0 c1 d0 d1
        have hR3 : StAt W' (w.heap.size + 2) n' (leadL b.ns k s dn ot) := HR2.out.of_heap j1
        have hxI : InI x ∧ InI y := ⟨hx, hy⟩
        obtain ⟨w3, hst3, hm3, hg3⟩ := hR3.store key_state Tryd.underlying111 (by unfold maxLen; omega) hx hy (.bool true)
        rw [setF_upd] at hm3
        have hfl : w1.heap.size < W'.heap.size := by omega
        unfold key2 at hst3 hlk
        have J0 := Lib.hid j0
        have J1 := Lib.hid j1
        have J2 := Lib.hid j2
        have J3 := Lib.hid j3
        have J4 := Lib.hid j4
        have HM3 := Lib.hid hm3
        have HG3 := Lib.hid hg3
        by_cases hin : z ∈ ot
        · have hz2 : decide ((z.1, z.2) ∈ ot) = true := by simpa using hin
          rw [hz2] at hlk
          clear hseq j0 j1 j2 j3 j4 hbg hm3 hg3 hpx hzm hR3 hz2
          gi_wp2_with fail
          exact ⟨PrivM.of_grown HG3.out, rfl, ⟨z, by simp, hin⟩, HM3.out⟩
        · have hz2 : decide ((z.1, z.2) ∈ ot) = false := by simpa using hin
          rw [hz2] at hlk
          clear hseq j0 j1 j2 j3 j4 hbg hm3 hg3 hpx hzm hR3 hz2 hst3
          gi_wp2_with fail
          refine ⟨PrivM.refl _ _, fun z' hz' => ?_, J1.out, J2.out, J3.out, J4.out, j5, j6⟩
          rcases List.mem_append.1 hz' with h | h
          · exact J0.out z' h
          · rw [List.mem_singleton.1 h]; exact hin
      case hdone =>
        rintro D xs W' rfl hz rfl ⟨j0, j1, j2, j3, j4, j5, j6⟩ hp hD'
        have hRW : StAt W' (w.heap.size + 2) n' (leadL b.ns k s ((x, y) :: dn) ot) := by
          have e : leadL b.ns k s ((x, y) :: dn) ot = leadL b.ns k s dn ot := by
            unfold leadL
            rw [List.filter_cons_of_neg]
            simp only [leadB, List.any_eq_true, decide_eq_true_eq, not_exists, not_and]
            exact j0
          rw [e]; exact HR2.out.of_heap j1
        clear j0 j1 j2 j3 j4 j5 j6
        have hMw := HM.out.lt
        have hpB : Below (w.heap.size + 2) W2 W' := hp.below (by omega) (fun j hj => by omega)
        have hD2 : Defs (w.heap.size + 4) (W2.heap.size :: Ds) W' :=
          ((HD1.out.below HB2.out).privM hp (fun E hE e => by have := HD1.out.ge E hE; omega)).cons hD' (by omega) (fun hE => by have := HD1.out.lt hE; omega)
        have hitW : IterAt Tryd.prog 91 W' M (w.heap.size + 4) n (setF l) (fun x_1 y_1 => left x_1 y_1 && !(decide (x_1 = x) && decide (y_1 = y))) cnt' :=
          (HIT1.out.below (m := w1.heap.size) (by omega) (by omega) HB2.out).of_heap (hp.block _ (by omega) (by omega)) (hp.block _ (by omega) (by omega))
        have hCW : Blk W' w.heap.size 77 (catC b.lo b.hi p b.ns.length c kd) := (hpB.block _ (by omega)).trans (HC1.out.bel HB2.out)
        have hoW : Blk W' (w.heap.size + 1) 111 #[.map (some Mo)] := (hpB.block _ (by omega)).trans Ho2.out
        have hbW : Blk W' (w.heap.size + 3) 111 #[.map (some (w.heap.size + 2))] := (hp.block _ (by omega) (by omega)).trans Hb2.out
        have hBW : Below w.heap.size w W' := HB1.out.trans ((HB2.out.mono (by omega)).trans (hpB.mono (by omega)))
        have HITW := Lib.hid hitW
        have HRW := Lib.hid hRW
        have HCW := Lib.hid hCW
        have HOW := Lib.hid hoW
        have HBW := Lib.hid hBW
        have HDW := Lib.hid hD2
        have HbW := Lib.hid hbW
        have hlt2 : W'.rangeLeft M (w.heap.size + 4) < wr.rangeLeft M (w.heap.size + 4) := by
          rw [hitW.left_eq, HIT.out.left_eq]; exact hlt
        clear hseq hitW hRW hCW hBW hD2 hp hpB hoW hbW
        gi_wp2_with fail
        refine (show LdgI b p c kd k s M Mo n no l ot w _ _ ∧ rngM M (w.heap.size + 4) _ _ < rngM M (w.heap.size + 4) _ _ from
          ⟨⟨W2.heap.size :: Ds, _, cnt', (x, y) :: dn, n', _, _, _, _, _, _, _, _, _, _, _, _, _, _, _, _, _, _, rfl, HITW.out, HRW.out, HCW.out, HOW.out, HbW.out, HBW.out, HDW.out, ?_, ?_, ?_⟩, hlt2⟩)
        · intro st hs2
          rcases HL1'.out st hs2 with h1 | h1
          · by_cases he : st = (x, y)
            · subst he; exact .inr (by simp)
            · refine .inl ?_
              rw [h1]
              simp only [Bool.true_and, Bool.not_eq_true', Bool.and_eq_false_iff, decide_eq_false_iff_not]
              by_cases h2 : st.1 = x
              · exact .inr (fun h3 => he (Prod.ext h2 h3))
              · exact .inl h2
          · exact .inr (List.mem_cons_of_mem _ h1)
        · intro st hs2
          rcases List.mem_cons.1 hs2 with rfl | h1
          · exact hmem
          · exact HL2'.out st h1
        · omega
      case hstop =>
        rintro D c pre W' rfl hz hSp ⟨rfl, ⟨z0, hz0, hz1⟩, j1⟩ hp hD'
        have hRW : StAt W' (w.heap.size + 2) (n' + 1) (leadL b.ns k s ((x, y) :: dn) ot) := by
          have e : leadL b.ns k s ((x, y) :: dn) ot = (x, y) :: leadL b.ns k s dn ot := by
            unfold leadL
            rw [List.filter_cons_of_pos]
            simp only [leadB, List.any_eq_true, decide_eq_true_eq]
            exact ⟨z0, hSp.subset hz0, hz1⟩
          rw [e]; exact j1
        clear j1 hz0 hz1
        have hMw := HM.out.lt
        have hpB : Below (w.heap.size + 2) W2 W' := hp.below (by omega) (fun j hj => by omega)
        have hD2 : Defs (w.heap.size + 4) (W2.heap.size :: Ds) W' :=
          ((HD1.out.below HB2.out).privM hp (fun E hE e => by have := HD1.out.ge E hE; omega)).cons hD' (by omega) (fun hE => by have := HD1.out.lt hE; omega)
        have hitW : IterAt Tryd.prog 91 W' M (w.heap.size + 4) n (setF l) (fun x_1 y_1 => left x_1 y_1 && !(decide (x_1 = x) && decide (y_1 = y))) cnt' :=
          (HIT1.out.below (m := w1.heap.size) (by omega) (by omega) HB2.out).of_heap (hp.block _ (by omega) (by omega)) (hp.block _ (by omega) (by omega))
        have hCW : Blk W' w.heap.size 77 (catC b.lo b.hi p b.ns.length c kd) := (hpB.block _ (by omega)).trans (HC1.out.bel HB2.out)
        have hoW : Blk W' (w.heap.size + 1) 111 #[.map (some Mo)] := (hpB.block _ (by omega)).trans Ho2.out
        have hbW : Blk W' (w.heap.size + 3) 111 #[.map (some (w.heap.size + 2))] := (hp.block _ (by omega) (by omega)).trans Hb2.out
        have hBW : Below w.heap.size w W' := HB1.out.trans ((HB2.out.mono (by omega)).trans (hpB.mono (by omega)))
        have HITW := Lib.hid hitW
        have HRW := Lib.hid hRW
        have HCW := Lib.hid hCW
        have HOW := Lib.hid hoW
        have HBW := Lib.hid hBW
        have HDW := Lib.hid hD2
        have HbW := Lib.hid hbW
        have hlt2 : W'.rangeLeft M (w.heap.size + 4) < wr.rangeLeft M (w.heap.size + 4) := by
          rw [hitW.left_eq, HIT.out.left_eq]; exact hlt
        clear hseq hitW hRW hCW hBW hD2 hp hpB hoW hbW
        gi_wp2_with fail
        refine (show LdgI b p c kd k s M Mo n no l ot w _ _ ∧ rngM M (w.heap.size + 4) _ _ < rngM M (w.heap.size + 4) _ _ from
          ⟨⟨W2.heap.size :: Ds, _, cnt', (x, y) :: dn, n' + 1, _, _, _, _, _, _, _, _, _, _, _, _, _, _, _, _, _, _, rfl, HITW.out, HRW.out, HCW.out, HOW.out, HbW.out, HBW.out, HDW.out, ?_, ?_, ?_⟩, hlt2⟩)
        · intro st hs2
          rcases HL1'.out st hs2 with h1 | h1
          · by_cases he : st = (x, y)
            · subst he; exact .inr (by simp)
            · refine .inl ?_
              rw [h1]
              simp only [Bool.true_and, Bool.not_eq_true', Bool.and_eq_false_iff, decide_eq_false_iff_not]
              by_cases h2 : st.1 = x
              · exact .inr (fun h3 => he (Prod.ext h2 h3))
              · exact .inl h2
          · exact .inr (List.mem_cons_of_mem _ h1)
        · intro st hs2
          rcases List.mem_cons.1 hs2 with rfl | h1
          · exact hmem
          · exact HL2'.out st h1
        · omega
end Go.Proofs.YtjjfpbjdcmkkhaaDoor

namespace Go.Proofs.YtjjfpbjdcmkkhaaDoor
open Go Go.RowKit Go.Shelf

/-- What the closure tells of the notes from one on, if j are left. -/
def tlL (ns : List Nt) : Nat → Nat → List (Int × Int) → List (List (Int × Int))
  | 0, _, l => [l]
  | j + 1, k, l => match ns[k]? with
    | some s => leadL ns k s l ((tlL ns j (k + 1) (rchL ns k s l)).headD []) :: tlL ns j (k + 1) (rchL ns k s l)
    | none => [l]
theorem tlL_step {ns : List Nt} {k : Nat} {s : Nt} (h : ns[k]? = some s) (j : Nat) (l : List (Int × Int)) : tlL ns (j + 1) k l = leadL ns k s l ((tlL ns j (k + 1) (rchL ns k s l)).headD []) :: tlL ns j (k + 1) (rchL ns k s l) := by
  simp only [tlL, h]
/-- What states keep to behind some notes. -/
def StK (k : Nat) (st : Int × Int) : Prop := (0 ≤ st.1 ∧ st.1 ≤ 400) ∧ 0 ≤ st.2 ∧ st.2 ≤ 9 * k
theorem StK.b {k : Nat} {st : Int × Int} (h : StK k st) (hk : k ≤ 100) : StB st := ⟨h.1, h.2.1, by have := h.2.2; omega⟩
theorem rchL_K {b : Sn} (hok : Ok9 b) {k : Nat} {s : Nt} (hs : b.ns[k]? = some s) {l : List (Int × Int)} (hl : ∀ st ∈ l, StK k st) : ∀ st ∈ rchL b.ns k s l, StK (k + 1) st := by
  intro z hz
  simp only [rchL, List.mem_flatMap] at hz
  obtain ⟨⟨h, r⟩, h1, h2⟩ := hz
  obtain ⟨hkn, -, hsp⟩ := hok.nt hs
  obtain ⟨g1, g2, g3⟩ := hl _ h1
  dsimp only at g1 g2 g3
  have h3 := afterH_bd g2 (gapN b.ns k).toNat h g1.1
  have h4 := behL_bd hkn hsp (st := befS b.ns k (h, r)) (by rw [befS_eq]; exact h3.1) (by rw [befS_eq]; exact g2) h2
  rw [befS_eq] at h4
  dsimp only at h4
  exact ⟨by omega, by omega, by push_cast; omega⟩
/-- What lies in the list that the closure fills: the states of all numbers of notes from one on. -/
def TlAt (w : World) (Bb N k : Nat) (cs : Array Value) (tl : List (List (Int × Int))) : Prop :=
  ∃ cs' : Array Value, Blk w Bb 111 cs' ∧ cs'.size = N + 1 ∧ (∀ i, i < k → cs'[i]? = cs[i]?) ∧ ∀ (i : Nat) (L : List (Int × Int)), tl[i]? = some L → ∃ M n : Nat, cs'[k + i]? = some (.map (some M)) ∧ StAt w M n L
theorem StAt.ne_blk {w : World} {M n Bb : Nat} {l : List (Int × Int)} {t : TypeId} {cs : Array Value} (h : StAt w M n l) (k : Blk w Bb t cs) : M ≠ Bb := by
  rintro rfl
  obtain ⟨D, ⟨es, clock, h1, _⟩, _⟩ := h
  unfold Blk at k
  rw [k] at h1; cases h1
theorem TlAt.bel {w w' : World} {Bb N k : Nat} {cs : Array Value} {tl : List (List (Int × Int))} (h : TlAt w Bb N k cs tl) (hb : Below w.heap.size w w') : TlAt w' Bb N k cs tl := by
  obtain ⟨cs', h1, h2, h3, h4⟩ := h
  refine ⟨cs', h1.bel hb, h2, h3, fun i L hi => ?_⟩
  obtain ⟨M, n, g1, g2⟩ := h4 i L hi
  exact ⟨M, n, g1, g2.below hb⟩
/-- What the closure has captured. -/
structure GoBox (w : World) (b : Sn) (p : Option Addr) (c : Nat) (kd : Kd) (bc bg bt Bb : Nat) : Prop where
  cC : Blk w bc 77 (catC b.lo b.hi p b.ns.length c kd)
  gG : Blk w bg 109 #[.func (.func 83) #[] #[.pointer (some ⟨bc, 0, none⟩), .pointer (some ⟨bg, 0, none⟩), .pointer (some ⟨bt, 0, none⟩)]]
  tT : Blk w bt 80 (catC b.lo b.hi p b.ns.length c kd ++ #[.slice (some ⟨Bb, 0, none⟩) (b.ns.length + 1) (b.ns.length + 1)])
theorem GoBox.grown {w w' : World} {b : Sn} {p : Option Addr} {c : Nat} {kd : Kd} {bc bg bt Bb : Nat} (h : GoBox w b p c kd bc bg bt Bb) (hg : w.grownBy w' (some Bb)) (h1 : bc ≠ Bb) (h2 : bg ≠ Bb) (h3 : bt ≠ Bb) : GoBox w' b p c kd bc bg bt Bb :=
  ⟨(hg.block _ h.cC.lt (by simpa using h1)).trans h.cC, (hg.block _ h.gG.lt (by simpa using h2)).trans h.gG, (hg.block _ h.tT.lt (by simpa using h3)).trans h.tT⟩
/-- What the closure leaves. -/
def GoPost (w : World) (Bb N k : Nat) (cs : Array Value) (tl : List (List (Int × Int))) (e : Ending) (w' : World) : Prop :=
  ∃ M' n' : Nat, e = .returned (.map (some M')) ∧ StAt w' M' n' (tl.headD []) ∧ TlAt w' Bb N k cs tl ∧ w.grownBy w' (some Bb)
/-- What the operations of the closure's drawn region leave. -/
def goR (b : Sn) (p : Option Addr) (c : Nat) (kd : Kd) (bc bg bt Bb M n k : Nat) (s : Nt) (l : List (Int × Int)) (cs : Array Value) (tl : List (List (Int × Int))) (f : Bool) (i : Nat) (v : Value) (w : World) : Prop :=
  match i with
  | 0 => v = .agg (catC b.lo b.hi p b.ns.length c kd)
  | 1 => v = .int .i64 k
  | 2 => v = .map (some M)
  | 3 => v = .func (.func 83) #[] #[.pointer (some ⟨bc, 0, none⟩), .pointer (some ⟨bg, 0, none⟩), .pointer (some ⟨bt, 0, none⟩)]
  | 4 => v = .int .i64 k
  | 5 => v = .int .i64 ((k + 1 : Nat) : Int)
  | 6 => v = .agg (catC b.lo b.hi p b.ns.length c kd)
  | 7 => v = .int .i64 k
  | 8 => v = .map (some M)
  | 9 => ∃ M' n' : Nat, v = .map (some M') ∧ n' ≤ 13 * n ∧ M' ≠ Bb ∧ StAt w M' n' (rchL b.ns k s l)
  | 10 => f = true ∧ ∃ M' n' : Nat, v = .map (some M') ∧ StAt w M' n' (tl.headD []) ∧ TlAt w Bb b.ns.length (k + 1) cs tl
  | 11 => f = true ∧ ∃ M' n' : Nat, v = .map (some M') ∧ StAt w M' n' (leadL b.ns k s l (tl.headD []))
  | _ => True
theorem goR_kept (b : Sn) (p : Option Addr) (c : Nat) (kd : Kd) (bc bg bt Bb M n k : Nat) (s : Nt) (l : List (Int × Int)) (cs : Array Value) (tl : List (List (Int × Int))) : ∀ (f : Bool) (i : Nat), i < 12 → ∀ (v : Value) (w w' : World), goR b p c kd bc bg bt Bb M n k s l cs tl f i v w → Below w.heap.size w w' → goR b p c kd bc bg bt Bb M n k s l cs tl f i v w' := by
  intro f i hi v w w' h hb
  match i, hi with
  | 0, _ => exact h
  | 1, _ => exact h
  | 2, _ => exact h
  | 3, _ => exact h
  | 4, _ => exact h
  | 5, _ => exact h
  | 6, _ => exact h
  | 7, _ => exact h
  | 8, _ => exact h
  | 9, _ => obtain ⟨M', n', h1, h2, h3, h4⟩ := h; exact ⟨M', n', h1, h2, h3, h4.below hb⟩
  | 10, _ => obtain ⟨h0, M', n', h1, h2, h3⟩ := h; exact ⟨h0, M', n', h1, h2.below hb, h3.bel hb⟩
  | 11, _ => obtain ⟨h0, M', n', h1, h2⟩ := h; exact ⟨h0, M', n', h1, h2.below hb⟩
  | k + 12, hk => omega
section
variable {o : Oper} {w : World} {g j t : Nat} (ρ : Operand → Value)
theorem run_lCatch {lo hi : Int} {p : Option Addr} {N c : Nat} {kd : Kd} (hop : o.op = .load 77 (.tmp t)) (hs : ρ (.tmp t) = .pointer (some ⟨g, 0, none⟩)) (k : Blk w g 77 (catC lo hi p N c kd)) : (execOp ρ o).run Tryd.prog w = .ok (.value (.agg (catC lo hi p N c kd))) w := by
  have c0 := k.cell 0
  have c1 := k.cell 1
  have c2 := k.cell 2
  have c3 := k.cell 3
  have c4 := k.cell 4
  have c5 := k.cell 5
  have c6 := k.cell 6
  have c7 := k.cell 7
  unfold catC at *
  simp only [List.size_toArray, List.length_cons, List.length_nil, Nat.reduceAdd, Nat.reduceLT, getElem?_pos, List.getElem_toArray, List.getElem_cons_zero, List.getElem_cons_succ] at c0 c1 c2 c3 c4 c5 c6 c7
  unfold execOp; simp [hop, hs, go_sem, c0, c1, c2, c3, c4, c5, c6, c7]
theorem run_lGo {x : Value} (hop : o.op = .load 109 (.tmp t)) (hs : ρ (.tmp t) = .pointer (some ⟨g, 0, none⟩)) (c0 : w.cell? ⟨g, 0, none⟩ = some x) : (execOp ρ o).run Tryd.prog w = .ok (.value x) w := by
  unfold execOp; simp [hop, hs, go_sem, c0]
theorem run_inc {k : Nat} (hk : k ≤ 1000000) (hop : o.op = .binOp .add 3 (.tmp t) (.const (.int .i64 1)) 3) (hs : ρ (.tmp t) = .int .i64 k) (h1 : ρ (.const (.int .i64 1)) = .int .i64 1) : (execOp ρ o).run Tryd.prog w = .ok (.value (.int .i64 ((k + 1 : Nat) : Int))) w := by
  have : IntKind.i64.wrap ((k : Int) + 1) = (k : Int) + 1 := IntWalk.i64_in _ (by omega)
  unfold execOp; simp [hop, hs, h1, go_sem, this]
end
theorem sargs3 {a : Act} {s t u : Nat} {x y z : Value} (h1 : a.tmps.getD s undef = x) (h2 : a.tmps.getD t undef = y) (h3 : a.tmps.getD u undef = z) : (#[Operand.tmp s, Operand.tmp t, Operand.tmp u]).map a.eval = #[x, y, z] := by
  simp only [List.map_toArray, List.map_cons, List.map_nil, Act.eval, h1, h2, h3]
theorem sargs4 {a : Act} {s t u r : Nat} {x y z q : Value} (h1 : a.tmps.getD s undef = x) (h2 : a.tmps.getD t undef = y) (h3 : a.tmps.getD u undef = z) (h4 : a.tmps.getD r undef = q) : (#[Operand.tmp s, Operand.tmp t, Operand.tmp u, Operand.tmp r]).map a.eval = #[x, y, z, q] := by
  simp only [List.map_toArray, List.map_cons, List.map_nil, Act.eval, h1, h2, h3, h4]
theorem sargsv23 {a : Act} {s t : Nat} {x y u v r : Value} (h1 : a.tmps.getD s undef = x) (h2 : a.tmps.getD t undef = y) : #[] ++ (#[Operand.tmp s, Operand.tmp t]).map a.eval ++ #[u, v, r] = #[x, y, u, v, r] := by
  simp only [List.map_toArray, List.map_cons, List.map_nil, Act.eval, h1, h2, List.append_toArray, List.nil_append, List.cons_append]
/-- One more list of states is laid into the closure's list. -/
theorem TlAt.put {w : World} {Bb N k M n : Nat} {cs cs' : Array Value} {L : List (Int × Int)} {tl : List (List (Int × Int))} (hB : Blk w Bb 111 cs') (hcs : cs'.size = N + 1) (hk : k < N + 1) (hlo : ∀ i, i < k → cs'[i]? = cs[i]?)
    (htl : ∀ (i : Nat) (L : List (Int × Int)), tl[i]? = some L → ∃ M n : Nat, cs'[k + 1 + i]? = some (.map (some M)) ∧ StAt w M n L) (hm : StAt w M n L) :
    TlAt (w.setCell ⟨Bb, k, none⟩ (.map (some M))) Bb N k cs (L :: tl) := by
  have keep : ∀ {M n : Nat} {L : List (Int × Int)}, StAt w M n L → StAt (w.setCell ⟨Bb, k, none⟩ (.map (some M))) M n L := fun h => h.of_heap (Below.heap_setCell _ _ _ _ (h.ne_blk hB))
  refine ⟨_, hB.set k _, by simp [hcs], fun i hi => ?_, fun i L' hi => ?_⟩
  · rw [Array.getElem?_setIfInBounds_ne (by omega)]; exact hlo i hi
  · cases i with
    | zero =>
      simp only [List.getElem?_cons_zero, Option.some.injEq] at hi
      subst hi
      refine ⟨M, n, by simp [hcs, hk], hm.of_heap (Below.heap_setCell _ _ _ _ (hm.ne_blk hB))⟩
    | succ i =>
      rw [List.getElem?_cons_succ] at hi
      obtain ⟨M', n', h1, h2⟩ := htl i L' hi
      refine ⟨M', n', ?_, h2.of_heap (Below.heap_setCell _ _ _ _ (h2.ne_blk hB))⟩
      rw [Array.getElem?_setIfInBounds_ne (by omega), show k + (i + 1) = k + 1 + i by omega]; exact h1
theorem grownBy_setCell (w : World) (g i : Nat) (v : Value) : w.grownBy (w.setCell ⟨g, i, none⟩ v) (some g) := ⟨rfl, rfl, rfl, by simp, fun k _ hn => Below.heap_setCell w ⟨g, i, none⟩ v k (fun e => hn (by rw [e]))⟩
theorem GoBox.bel {w w' : World} {b : Sn} {p : Option Addr} {c : Nat} {kd : Kd} {bc bg bt Bb : Nat} (h : GoBox w b p c kd bc bg bt Bb) (hb : Below w.heap.size w w') : GoBox w' b p c kd bc bg bt Bb := ⟨h.cC.bel hb, h.gG.bel hb, h.tT.bel hb⟩
theorem NotesAt.grown {w w' : World} {p : Option Addr} {l : List Nt} {Bb : Nat} (h : NotesAt w p l) (hg : w.grownBy w' (some Bb)) (hp : ∀ a, p = some a → a.block ≠ Bb) : NotesAt w' p l := fun i s hi => by
  obtain ⟨b, o, h1, h2, h3, h4, h5, h6⟩ := h i s hi
  have hb := hg.block b h2 (by simpa using hp _ h1)
  refine ⟨b, o, h1, Nat.lt_of_lt_of_le h2 hg.size, ?_, ?_, ?_, ?_⟩
  · rw [World.cell?_of_block (w := w) (a := ⟨b, _, none⟩) hb]; exact h3
  · rw [World.cell?_of_block (w := w) (a := ⟨b, _, none⟩) hb]; exact h4
  · rw [World.cell?_of_block (w := w) (a := ⟨b, _, none⟩) hb]; exact h5
  · rw [World.cell?_of_block (w := w) (a := ⟨b, _, none⟩) hb]; exact h6
theorem cell_some {w : World} {Bb k N : Nat} {t : TypeId} {cs : Array Value} (hB : Blk w Bb t cs) (hcs : cs.size = N + 1) (hk : k < N + 1) : ∃ v, w.cell? ⟨Bb, k, none⟩ = some v := by
  rw [hB.cell]; exact ⟨cs[k], Array.getElem?_eq_getElem (by omega)⟩
theorem fEnter (vs : Array Value) (w : World) : (callFunc 83 vs).run Tryd.prog w = .ok (.enter 83 vs) w := run_enter Tryd.func83 (by kernel_rfl) (by kernel_rfl) _ _
attribute [local go_sem] Oper.semAt_some frozen_alloc_lt
set_option maxRecDepth 100000 in
set_option maxHeartbeats 4000000 in
theorem goOn_any (b : Sn) (p : Option Addr) (c : Nat) (kd : Kd) (bc bg bt Bb : Nat) (hok : Ok9 b) : ∀ (j k M n : Nat) (l : List (Int × Int)) (cs : Array Value) (w : World), k + j = b.ns.length → NotesAt w p b.ns → GoBox w b p c kd bc bg bt Bb → bc ≠ Bb → bg ≠ Bb → bt ≠ Bb → (∀ a, p = some a → a.block ≠ Bb) →
    Blk w Bb 111 cs → cs.size = b.ns.length + 1 → StAt w M n l → (∀ st ∈ l, StK k st) → n ≤ 13 ^ (k + 1) →
    Calls Tryd.prog 83 #[.int .i64 k, .map (some M), .pointer (some ⟨bc, 0, none⟩), .pointer (some ⟨bg, 0, none⟩), .pointer (some ⟨bt, 0, none⟩)] w (GoPost w Bb b.ns.length k cs (tlL b.ns j k l)) := by
  intro j
  induction j with
  | zero =>
    intro k M n l cs w hkj hl hgb hn1 hn2 hn3 hp hB hcs hm hst hn
    have hkN : k = b.ns.length := by omega
    have hge : ¬ (k : Int) < (b.ns.length : Int) := by omega
    have hge2 : ¬ k < b.ns.length := by omega
    obtain ⟨v0, hv0⟩ := cell_some hB hcs (show k < b.ns.length + 1 by omega)
    have q2 := hgb.cC.cell 2
    have q8 := hgb.tT.cell 8
    have lc := hgb.cC.lt
    have lt := hgb.tT.lt
    have lB := hB.lt
    have fk := hB.frozen k
    unfold catC at q2 q8
    simp only [List.size_toArray, List.length_cons, List.length_nil, Nat.reduceAdd, Nat.reduceLT, getElem?_pos, List.getElem_toArray, List.getElem_cons_zero, List.getElem_cons_succ, List.append_toArray, List.cons_append, List.nil_append] at q2 q8
    have hk0 : (0 : Int) ≤ (k : Int) := by omega
    have hk1 : (k : Int) < ((b.ns.length + 1 : Nat) : Int) := by omega
    have hk2 : (k : Int) < (b.ns.length : Int) + 1 := by omega
    have HF := Lib.hid (TlAt.put (k := k) (cs := cs) (L := l) (tl := []) hB hcs (by omega) (fun _ _ => rfl) (fun i L h => by simp at h) hm)
    have HM := Lib.hid (hm.of_heap (Below.heap_setCell w ⟨Bb, k, none⟩ (.map (some M)) M (hm.ne_blk hB)))
    clear hl hgb hok hB hm hst hn hkj hkN
    go_enter Tryd.func83, Tryd.ntmps83
    go_wp2_with fail
    go_ret
    exact ⟨M, n, rfl, HM.out, HF.out, grownBy_setCell _ _ _ _⟩
  | succ j ih =>
    intro k M n l cs w hkj hl hgb hn1 hn2 hn3 hp hB hcs hm hst hn
    have hd : decide ((k : Int) < (b.ns.length : Int)) = true := by simp; omega
    obtain ⟨s, hs⟩ := get_some b.ns k (by omega)
    have hlen := hok.len
    have q2 := hgb.cC.cell 2
    have lc := hgb.cC.lt
    unfold catC at q2
    simp only [List.size_toArray, List.length_cons, List.length_nil, Nat.reduceAdd, Nat.reduceLT, getElem?_pos, List.getElem_toArray, List.getElem_cons_zero, List.getElem_cons_succ, List.append_toArray, List.cons_append, List.nil_append] at q2
    rw [tlL_step hs]
    have hrK := rchL_K hok hs hst
    have hn12 : n ≤ 1000000000000 := by
      have h1 : (13 : Nat) ^ (k + 1) ≤ 13 ^ 10 := Nat.pow_le_pow_right (by omega) (by omega)
      have h2 : (13 : Nat) ^ 10 = 137858491849 := by decide
      omega
    have hn13 : ∀ n', n' ≤ 13 * n → n' ≤ 13 ^ (k + 1 + 1) := fun n' h => by rw [Nat.pow_succ]; omega
    have hstB : ∀ st ∈ l, StB st := fun st h => (hst st h).b (by omega)
    have HIH := Lib.hid ih
    have lBw := hB.lt
    clear ih hn
    go_enter Tryd.func83, Tryd.ntmps83
    go_upto_region 2 with fail
    clear q2 lc
    generalize htl : tlL b.ns j (k + 1) (rchL b.ns k s l) = tl at *
    refine wp_region_flow_backH 12 32 10 (some Bb) (goR b p c kd bc bg bt Bb M n k s l cs tl) (by kernel_rfl) (by kernel_rfl) rfl (by omega) (goR_kept b p c kd bc bg bt Bb M n k s l cs tl) ?_ ?_ ?_
    · intro i hin hi10 f a X g1 g2 g3 g4 g5 g6 KK hKK
      have hgX := hgb.grown g5 hn1 hn2 hn3
      have hlX := hl.grown g5 hp
      have hmX : StAt X M n l := MapAt.grown hm g5 (by simpa using hm.ne_blk hB)
      have hgc := hgX.gG.cell 0
      match i, hin with
      | 0, _ => exact st_val rfl (wanted_none rfl) (run_lCatch _ rfl (g3 2 (by kernel_rfl)) hgX.cC) (hKK _ _ rfl (Below.refl _ _))
      | 1, _ => exact st_move rfl rfl (wanted_none rfl) (g3 0 (by kernel_rfl)) (hKK _ _ rfl (Below.refl _ _))
      | 2, _ => exact st_move rfl rfl (wanted_none rfl) (g3 1 (by kernel_rfl)) (hKK _ _ rfl (Below.refl _ _))
      | 3, _ => exact st_val rfl (wanted_none rfl) (run_lGo _ rfl (g3 3 (by kernel_rfl)) hgc) (hKK _ _ rfl (Below.refl _ _))
      | 4, _ => exact st_move rfl rfl (wanted_none rfl) (g3 0 (by kernel_rfl)) (hKK _ _ rfl (Below.refl _ _))
      | 5, _ => exact st_val rfl (wanted_none rfl) (run_inc _ (by omega) rfl (g4 4 (by kernel_rfl)) rfl) (hKK _ _ rfl (Below.refl _ _))
      | 6, _ => exact st_val rfl (wanted_none rfl) (run_lCatch _ rfl (g3 2 (by kernel_rfl)) hgX.cC) (hKK _ _ rfl (Below.refl _ _))
      | 7, _ => exact st_move rfl rfl (wanted_none rfl) (g3 0 (by kernel_rfl)) (hKK _ _ rfl (Below.refl _ _))
      | 8, _ => exact st_move rfl rfl (wanted_none rfl) (g3 1 (by kernel_rfl)) (hKK _ _ rfl (Below.refl _ _))
      | 9, _ =>
        refine st_call rfl rfl (wanted_none rfl) (sargs3 (g4 6 (by kernel_rfl)) (g4 7 (by kernel_rfl)) (g4 8 (by kernel_rfl))) (run_enter Tryd.func85 (by kernel_rfl) (by kernel_rfl) _) ?_
        refine (reached_any b p c kd k s M n l _ hlX hok hs hmX hstB hn12).mono ?_
        rintro e w1 ⟨M', n', rfl, k1, k2, k3, k4⟩
        exact ⟨_, rfl, hKK _ _ ⟨M', n', rfl, k2, by have := g5.size; omega, k3⟩ k4⟩
      | 11, _ =>
        obtain ⟨hf, M2, n2, e2, hm2, ht2⟩ := g4 10 (by kernel_rfl)
        refine st_call rfl rfl (wanted_none rfl) (sargs4 (g4 0 (by kernel_rfl)) (g4 1 (by kernel_rfl)) (g4 2 (by kernel_rfl)) e2) (run_enter Tryd.func84 (by kernel_rfl) (by kernel_rfl) _) ?_
        refine (leading_any b p c kd k s M M2 n n2 l (tl.headD []) _ hlX hok hs hmX hm2 hstB (by omega)).mono ?_
        rintro e w1 ⟨M', n', rfl, k1, k2, k3, k4⟩
        exact ⟨_, rfl, hKK _ _ ⟨hf, M', n', rfl, k3⟩ k4⟩
      | 10, _ => exact absurd rfl hi10
      | k + 12, hk => omega
    · intro a X g1 g2 g3 g4 g5 KK hKK
      obtain ⟨M1, n1, e1, k1, k2, k3⟩ := g4 9 (by kernel_rfl)
      have e3 : a.tmps.getD 17 undef = _ := g4 3 (by kernel_rfl)
      refine st_callv rfl rfl (wanted_none rfl) e3 (sargsv23 (g4 5 (by kernel_rfl)) e1) (fEnter _) ?_
      refine (HIH.out (k + 1) M1 n1 (rchL b.ns k s l) cs X (by omega) (hl.below g5) (hgb.bel g5) hn1 hn2 hn3 hp (hB.bel g5) hcs k3 hrK (hn13 _ k1)).mono ?_
      rw [htl]
      rintro e w1 ⟨M', n', rfl, h1, h2, h3⟩
      refine ⟨_, rfl, hKK _ _ ⟨rfl, M', n', rfl, h1, h2⟩ (fun i u hi hu => ?_) h3⟩
      match i, hi with
      | 0, _ => exact hu
      | 1, _ => exact hu
      | 2, _ => exact hu
      | 3, _ => exact hu
      | 4, _ => exact hu
      | 5, _ => exact hu
      | 6, _ => exact hu
      | 7, _ => exact hu
      | 8, _ => exact hu
      | 9, _ => obtain ⟨M', n', h4, h5, h6, h7⟩ := hu; exact ⟨M', n', h4, h5, h6, MapAt.grown h7 h3 (by simpa using h6)⟩
      | 10, _ => exact absurd hu.1 (by simp)
      | 11, _ => exact absurd hu.1 (by simp)
      | k + 12, hk => omega
    intro vs W2 hvs hBW
    have v0 : vs 0 = _ := hvs 0 (by omega)
    have v1 : vs 1 = _ := hvs 1 (by omega)
    have v2 : vs 2 = _ := hvs 2 (by omega)
    have v3 : vs 3 = _ := hvs 3 (by omega)
    have v4 : vs 4 = _ := hvs 4 (by omega)
    have v5 : vs 5 = _ := hvs 5 (by omega)
    have v6 : vs 6 = _ := hvs 6 (by omega)
    have v7 : vs 7 = _ := hvs 7 (by omega)
    have v8 : vs 8 = _ := hvs 8 (by omega)
    obtain ⟨M9, n9, v9, -⟩ := hvs 9 (by omega)
    obtain ⟨-, M10, n10, v10, -, ht10⟩ := hvs 10 (by omega)
    obtain ⟨-, M11, n11, v11, hm11⟩ := hvs 11 (by omega)
    simp only [putAll, v0, v1, v2, v3, v4, v5, v6, v7, v8, v9, v10, v11]
    clear v0 v1 v2 v3 v4 v5 v6 v7 v8 v9 v10 v11 hvs
    simp only [dstOf, Act.put, List.getElem?_toArray, List.getElem?_cons_zero, List.getElem?_cons_succ, Option.bind_some, Option.getD_some, List.setIfInBounds_toArray, List.set_cons_succ, List.set_cons_zero, List.drop_succ_cons, List.drop_zero]
    obtain ⟨cs', hB2, hcs2, hlo2, htl2⟩ := ht10
    have hg2 := hgb.grown hBW hn1 hn2 hn3
    obtain ⟨v0, hv0⟩ := cell_some hB2 hcs2 (show k < b.ns.length + 1 by omega)
    have q8 := hg2.tT.cell 8
    have lt := hg2.tT.lt
    have lB := hB2.lt
    have fk := hB2.frozen k
    unfold catC at q8
    simp only [List.size_toArray, List.length_cons, List.length_nil, Nat.reduceAdd, Nat.reduceLT, getElem?_pos, List.getElem_toArray, List.getElem_cons_zero, List.getElem_cons_succ, List.append_toArray, List.cons_append, List.nil_append] at q8
    have hk0 : (0 : Int) ≤ (k : Int) := by omega
    have hk2 : (k : Int) < (b.ns.length : Int) + 1 := by omega
    have HF := Lib.hid (TlAt.put (k := k) (cs := cs) (L := leadL b.ns k s l (tl.headD [])) (tl := tl) hB2 hcs2 (by omega) (fun i hi => hlo2 i (by omega)) htl2 hm11)
    have HM := Lib.hid (hm11.of_heap (Below.heap_setCell W2 ⟨Bb, k, none⟩ (.map (some M11)) M11 (hm11.ne_blk hB2)))
    have HBW := Lib.hid hBW
    clear hl hgb hok hB hm hst hBW hg2 htl2 hlo2 hB2 hm11 hn13 hstB hrK HIH htl
    go_wp2_with fail
    go_ret
    exact ⟨M11, n11, rfl, HM.out, HF.out, gb_trans HBW.out (grownBy_setCell _ _ _ _)⟩
end Go.Proofs.YtjjfpbjdcmkkhaaDoor

namespace Go.Proofs.YtjjfpbjdcmkkhaaDoor
open Go Go.RowKit Go.Shelf

/-- All states at the hour 0, before all notes. -/
def startL (lo hi : Int) : List (Int × Int) := (numsL lo hi).map fun m => (m, 0)
attribute [local go_sem] Oper.semAt_some frozen_alloc_lt
set_option maxHeartbeats 4000000 in
theorem start_in (lo hi : Int) (p : Option Addr) (N c : Nat) (kd : Kd) (O : Nat → Prop) (w : World) (hsp : 0 ≤ lo ∧ lo ≤ hi ∧ hi ≤ 400) :
    Seq0 Tryd.prog 86 #[.agg (catC lo hi p N c kd)] #[] encS O (fun xs => xs = startL lo hi) (fun pre => pre <+: startL lo hi) w := by
  intro n l J Jx W hW hOW hJ hJx hY h0'
  have HJ := Lib.hid hJ
  have HJx := Lib.hid hJx
  have HY := Lib.hid hY
  have H0 := Lib.hid h0'
  have HOW := Lib.hid hOW
  clear hJ hJx hY h0' hOW hW
  refine callsIn_of_wp_marks Tryd.func86 rfl trivial ?_ rfl
  simp only [Tryd.ntmps86, List.size_toArray, List.length_cons, List.length_nil, Nat.reduceAdd, Nat.reduceSub, Array.replicate_succ, Array.replicate_zero, List.push_toArray, List.append_toArray, List.nil_append, List.cons_append]
  unfold catC
  gi_wp2_with (gi_at_call 105; refine (callsIn_wide.2 (numbers_any lo hi _)).mono ?_; rintro e w1 ⟨g, rfl, k1, k2, y, rfl⟩)
  generalize hW1 : ext _ y = W1 at *
  have hB1 : Below W.heap.size W W1 := by rw [← hW1]; (repeat (first | (with_reducible exact Below.refl _ _) | (with_reducible assumption) | ((with_reducible refine below_ext_trans ?_ ?_ _); rotate_left; focus (((try dsimp only); repeat (first | omega | simp only [World.size_alloc, World.size_setCell, World.size_drew] | (with_reducible refine le_ext_of ?_) | (with_reducible refine le_ext_add ?_))); done)) | ((with_reducible refine Below.alloc ?_ ?_ _); rotate_left; focus (((try dsimp only); repeat (first | omega | simp only [World.size_alloc, World.size_setCell, World.size_drew] | (with_reducible refine le_ext_of ?_) | (with_reducible refine le_ext_add ?_))); done)) | ((with_reducible refine Below.setCell ?_ ?_ _); rotate_left; focus (((try dsimp only); repeat (first | omega | simp only [World.size_alloc, World.size_setCell, World.size_drew] | (with_reducible refine le_ext_of ?_) | (with_reducible refine le_ext_add ?_))); done)) | (with_reducible refine Below.drew ?_)))
  have hyb : Blk W1 (W.heap.size + 1) 114 #[.func (.yield l) #[] #[]] := by rw [← hW1]; exact (Blk.new (by simp)).ext y
  have hgl := k2.lt
  have HB1 := Lib.hid hB1
  have HYB := Lib.hid hyb
  have hgz : W.heap.size ≤ g := by simp at k1; omega
  have hyl := hyb.lt
  have hseq := numbers1_in g lo hi (fun k => O k ∨ k = W1.heap.size + 1) W1 k2 hsp.1 hsp.2.1 (by omega) (fun k hk => by
    rcases hk with hk | hk
    · have := HOW.out k hk; omega
    · omega)
  clear hW1 hB1 hyb k1 k2
  refine wpIn_rangeFunc_0 (gf := 122) (fb := #[]) (lb := #[.pointer (some ⟨g, 0, none⟩)]) rfl (enters_of Tryd.func122 (by kernel_rfl) rfl)
    O (fun k hk => by have := HOW.out k hk; have := HB1.out.size; omega) hseq (Below.refl _ _) (fun _ => rfl)
    (fun pre A => J (pre.map fun m => (m, 0)) A ∧ Blk A (W.heap.size + 1) 114 #[.func (.yield l) #[] #[]])
    (fun c pre A => c = .ret ∧ Jx (pre.map fun m => (m, 0)) A)
    (fun pre x a' A => ∃ u5 u6 u7, a' = { tmps := #[.agg #[.int .i64 lo, .int .i64 hi, .slice p N c, .int .i64 kd.a, .int .i64 kd.b, .int .i64 kd.c, .int .i64 kd.d, .int .i64 kd.e], .func (.yield l) #[] #[], .pointer (some ⟨W.heap.size, 0, none⟩), .pointer (some ⟨W.heap.size + 1, 0, none⟩), .int .i64 x, u5, u6, u7, .func (.func 122) #[] #[.pointer (some ⟨g, 0, none⟩)], .int .i64 x, undef, undef, undef, undef, undef], defers := [] })
    ?hI ?hIx ?hAx ?h0 ?hassign ?hbody ?hdone ?hstop
  case hI =>
    rintro pre A C ⟨j1, j2⟩ hz hp
    exact ⟨HJ.out _ _ _ j1 (by omega) (hp.mono (by omega)), (hp.block _ (by omega)).trans j2⟩
  case hIx =>
    rintro c pre A C ⟨rfl, j1⟩ hz hp
    exact ⟨rfl, HJx.out _ _ _ j1 (by omega) (hp.mono (by omega))⟩
  case hAx => rintro pre x a' A C ⟨u5, u6, u7, rfl⟩ hp; exact ⟨u5, u6, u7, rfl⟩
  case h0 =>
    intro W3 hb3
    exact ⟨HJ.out _ _ _ H0.out (Nat.le_refl _) (HB1.out.trans (hb3.mono (by omega))), (hb3.block _ (by omega)).trans HYB.out⟩
  case hassign =>
    intro m l' pre x W' hz hsp hi'
    exact wpIn_assign ⟨⟨_, _, _, by simp [go_sem, Act.put, Act.eval]; exact ⟨rfl, rfl, rfl⟩⟩, Below.refl _ _⟩
  case hbody =>
    rintro m l' pre x a' W' hz hpx ⟨j1, j2⟩ ⟨u5, u6, u7, rfl⟩
    have HP := Lib.hid (show (pre.map fun m => ((m, 0) : Int × Int)) ++ [(x, 0)] <+: startL lo hi by have := hpx.map (fun m => ((m, 0) : Int × Int)); rwa [List.map_append] at this)
    have c0 := j2.cell 0
    have l0 := j2.lt
    simp only [List.size_toArray, List.length_cons, List.length_nil, Nat.reduceAdd, Nat.reduceLT, getElem?_pos, List.getElem_toArray, List.getElem_cons_zero, List.getElem_cons_succ] at c0
    have J1 := Lib.hid j1
    have J2 := Lib.hid j2
    clear hseq j1 j2
    obtain ⟨fn, tmps, assign, body, hy, hR⟩ := YieldAt.inR l' (HY.out _ (pre.map fun m => (m, 0)) (x, 0) W' (by have := HB1.out.size; omega) HP.out J1.out)
    dsimp only [encS, key2] at hy
    gi_wp2_with fail
    refine hR.mono ?_
    rintro e B (⟨rfl, hJB, hS⟩ | ⟨rfl, hJB, hS⟩)
    · have HS := Lib.hid hS
      have HJB := Lib.hid hJB
      clear hS hJB hy hR
      gi_wp2_with fail
      exact ⟨HS.out, by rw [List.map_append]; exact HJB.out, (HS.out.block _ (by omega) (fun e => by have := HOW.out _ e; omega)).trans J2.out⟩
    · have HS := Lib.hid hS
      have HJB := Lib.hid hJB
      clear hS hJB hy hR
      gi_wp2_with fail
      exact ⟨HS.out, rfl, by rw [List.map_append]; exact HJB.out⟩
  case hdone =>
    rintro D xs W' rfl hz rfl ⟨j1, j2⟩ hp hD'
    have J1 := Lib.hid j1
    have HPV := Lib.hid hp
    clear j1 j2 hp hseq
    gi_wp2_with fail
    refine ⟨by simp, .inl ⟨_, _, rfl, run_takeDeferred hD', ?_⟩⟩
    exact ⟨_, results_none rfl _ _ _, ⟨_, rfl⟩, HPV.out.shut HB1.out (by have := HB1.out.size; omega) _, .inl ⟨_, rfl, HJ.out _ _ _ J1.out (by have := HB1.out.size; omega) (below_putObj _ (by have := HB1.out.size; omega) _)⟩⟩
  case hstop =>
    rintro D c pre W' rfl hz hSp ⟨rfl, j1⟩ hp hD'
    have J1 := Lib.hid j1
    have HPV := Lib.hid hp
    clear j1 hp hseq
    gi_wp2_with fail
    refine ⟨by simp, .inl ⟨_, _, rfl, run_takeDeferred hD', ?_⟩⟩
    exact ⟨_, results_none rfl _ _ _, ⟨_, rfl⟩, HPV.out.shut HB1.out (by have := HB1.out.size; omega) _, .inr ⟨_, hSp.map _, HJx.out _ _ _ J1.out (by have := HB1.out.size; omega) (below_putObj _ (by have := HB1.out.size; omega) _)⟩⟩
end Go.Proofs.YtjjfpbjdcmkkhaaDoor

