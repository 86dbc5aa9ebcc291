/- The laws' own lived: a book whose notes are right, by numbers that choose what is true. -/
import Derived.Test.YtamknmgplhaciaaDoorQPl
import Derived.Deep.DeepCutAuto
import Derived.RegionTactic
import Derived.BigQuiet
set_option linter.unusedSimpArgs false
set_option linter.unusedVariables false
namespace Go.Proofs.YtamknmgplhaciaaDoor
open Go Go.RowKit Go.Shelf
def heldL (b : Sn) (v : Nat → Int) (n : Nat) : List Int := (List.range n).map fun j => (At b (stF b v) (j : Nat)).1
def rateL (b : Sn) (v : Nat → Int) (n : Nat) : List Int := (List.range n).map fun j => (At b (stF b v) (j : Nat)).2
/-- What is so before an hour passes. -/
def preS (b : Sn) (v : Nat → Int) (k h : Nat) : Int × Int := if h = 0 then (v 0, 0) else curS b v k ((h : Int) - 1)
/-- What lived leaves: a book whose notes are right, and what truly is so at each hour. -/
def LivedPost (b : Sn) (v : Nat → Int) (w : World) (e : Ending) (w' : World) : Prop := ∃ (q p1 p2 : Option Addr) (d c1 c2 : Nat), e = .returned (.tuple #[.agg #[.int .i64 b.lo, .int .i64 b.hi, .slice q b.ns.length d], .agg #[.slice p1 61 c1, .slice p2 61 c2]]) ∧ OwnNs w' w.heap.size (.slice q b.ns.length d) (xN b v b.ns.length) ∧ IntsAt w' p1 (heldL b v 61) ∧ IntsAt w' p2 (rateL b v 61) ∧ ∃ x, w' = ext w x
theorem heldL_succ (b : Sn) (v : Nat → Int) (n : Nat) : heldL b v (n + 1) = heldL b v n ++ [(At b (stF b v) (n : Nat)).1] := by simp [heldL, List.range_succ]
theorem rateL_succ (b : Sn) (v : Nat → Int) (n : Nat) : rateL b v (n + 1) = rateL b v n ++ [(At b (stF b v) (n : Nat)).2] := by simp [rateL, List.range_succ]
attribute [local go_sem] Oper.semAt_some frozen_alloc_lt
set_option maxRecDepth 100000 in
set_option maxHeartbeats 8000000 in
theorem lived_any (b : Sn) (p : Option Addr) (c : Nat) (pi : Option Addr) (ci nb : Nat) (bits : List Int) (v : Nat → Int) (pk0 v0 : Int) (w : World) (hk : SBk w b p) (hok : Ok9 b) (hc : Chosen b v) (hi : IntsAt w pi bits) (hbl : (bits.length : Int) ≤ 9223372036854775807) (hn : bits.length = nb) (hpk0 : pickI bits 0 = pk0) (hv0 : someI b.lo b.hi pk0 = v0) (hvz : v 0 = v0)
    (hvn : ∀ (k : Nat) (s : Nt), b.ns[k]? = some s → someI s.lo s.hi (pickI bits ((k : Int) + 1)) = v (k + 1)) :
    Calls Tryd.prog 35 #[bV b p c, .slice pi nb ci] w (LivedPost b v w) := by
  have HK := Lib.hid hk
  have HOK := Lib.hid hok
  have HC := Lib.hid hc
  have HI := Lib.hid hi
  have HBL := Lib.hid hbl
  have HN := Lib.hid hn
  have HP0 := Lib.hid hpk0
  have HV0 := Lib.hid hv0
  have HVZ := Lib.hid hvz
  have HVN := Lib.hid hvn
  have hsp := hok.span
  have hspl : 0 ≤ b.lo ∧ b.lo ≤ b.hi ∧ b.hi ≤ 100000 := by unfold SpanOK at hsp; omega
  have hlen : b.ns.length ≤ 9 := hok.len
  clear hk hok hc hi hbl hn hpk0 hv0 hvz hvn hsp
  go_enter Tryd.func35, Tryd.ntmps35
  go_upto_region 3 with fail
  generalize hX : ((((w.alloc _).alloc _).alloc _).alloc _).alloc _ = W
  obtain ⟨gb, egb⟩ : ∃ gb, w.heap.size = gb := ⟨_, rfl⟩
  have hB : Below w.heap.size w W := by rw [← hX]; (repeat (first | (with_reducible exact Below.refl _ _) | (with_reducible assumption) | ((with_reducible refine below_ext_trans ?_ ?_ _); rotate_left; focus (((try dsimp only); repeat (first | omega | simp only [World.size_alloc, World.size_setCell, World.size_drew] | (with_reducible refine le_ext_of ?_) | (with_reducible refine le_ext_add ?_))); done)) | ((with_reducible refine Below.alloc ?_ ?_ _); rotate_left; focus (((try dsimp only); repeat (first | omega | simp only [World.size_alloc, World.size_setCell, World.size_drew] | (with_reducible refine le_ext_of ?_) | (with_reducible refine le_ext_add ?_))); done)) | ((with_reducible refine Below.setCell ?_ ?_ _); rotate_left; focus (((try dsimp only); repeat (first | omega | simp only [World.size_alloc, World.size_setCell, World.size_drew] | (with_reducible refine le_ext_of ?_) | (with_reducible refine le_ext_add ?_))); done)) | (with_reducible refine Below.drew ?_)))
  have Kb := Lib.hid (show Blk W gb 26 #[.int .i64 b.lo, .int .i64 b.hi, .slice p b.ns.length c] by rw [← hX]; exact ((((Blk.new egb.symm).alloc _).alloc _).alloc _).alloc _)
  have Kr := Lib.hid (show Blk W (gb + 1) 26 #[.int .i64 0, .int .i64 0, .slice none 0 0] by rw [← hX]; exact (((Blk.new (by simp; omega)).alloc _).alloc _).alloc _)
  have Ks := Lib.hid (show Blk W (gb + 2) 50 #[.slice none 0 0, .slice none 0 0] by rw [← hX]; exact ((Blk.new (by simp; omega)).alloc _).alloc _)
  have Kx := Lib.hid (show Blk W (gb + 3) 26 #[.int .i64 b.lo, .int .i64 b.hi, .slice none 0 0] by rw [← hX]; exact (Blk.new (by simp; omega)).alloc _)
  have Kd := Lib.hid (show Blk W (gb + 4) 50 #[.slice none 0 0, .slice none 0 0] by rw [← hX]; exact Blk.new (by simp; omega))
  have HWS := Lib.hid (show W.heap.size = gb + 5 by rw [← hX]; simp; omega)
  have HBW := Lib.hid hB
  have HE := Lib.hid egb
  have HI1 := Lib.hid (HI.out.below hB)
  rw [egb]
  clear hX hB egb
  have qb0 := Kb.out.cell 0
  have qb1 := Kb.out.cell 1
  have qb2 := Kb.out.cell 2
  have lb := Kb.out.lt
  simp only [List.size_toArray, List.length_cons, List.length_nil, Nat.reduceAdd, Nat.reduceLT, getElem?_pos, List.getElem_toArray, List.getElem_cons_zero, List.getElem_cons_succ] at qb0 qb1 qb2
  refine wp_region_ext (by kernel_rfl) (by kernel_rfl) ?_
  repeat (go_big_quiet_step (first | (go_at_call 79; exact quiet_ext (Pick_is pi ci bits nb 0 pk0 _ (HI1.out.below (by (repeat (first | (with_reducible exact Below.refl _ _) | (with_reducible assumption) | ((with_reducible refine below_ext_trans ?_ ?_ _); rotate_left; focus (((try dsimp only); repeat (first | omega | simp only [World.size_alloc, World.size_setCell, World.size_drew] | (with_reducible refine le_ext_of ?_) | (with_reducible refine le_ext_add ?_))); done)) | ((with_reducible refine Below.alloc ?_ ?_ _); rotate_left; focus (((try dsimp only); repeat (first | omega | simp only [World.size_alloc, World.size_setCell, World.size_drew] | (with_reducible refine le_ext_of ?_) | (with_reducible refine le_ext_add ?_))); done)) | ((with_reducible refine Below.setCell ?_ ?_ _); rotate_left; focus (((try dsimp only); repeat (first | omega | simp only [World.size_alloc, World.size_setCell, World.size_drew] | (with_reducible refine le_ext_of ?_) | (with_reducible refine le_ext_add ?_))); done)) | (with_reducible refine Below.drew ?_))))) HBL.out HN.out HP0.out)) | (go_at_call 78; exact quiet_ext (Some_is b.lo b.hi pk0 v0 _ hspl HV0.out))))
  (refine wpQuiet_nil ?_; rintro _ ⟨x, rfl⟩)
  generalize hX : ext W _ = V
  have hBX : Below W.heap.size W V := by rw [← hX]; exact below_ext _ _
  have Kb2 := Lib.hid (Kb.out.bel hBX)
  have Kr2 := Lib.hid (Kr.out.bel hBX)
  have Ks2 := Lib.hid (Ks.out.bel hBX)
  have Kx2 := Lib.hid (Kx.out.bel hBX)
  have Kd2 := Lib.hid (Kd.out.bel hBX)
  have HVS := Lib.hid (show gb + 5 ≤ V.heap.size by have := HWS.out; have := hBX.size; omega)
  have HBV := Lib.hid (HBW.out.trans (hBX.mono HBW.out.size))
  clear hX hBX HBW Kb Kr Ks Kx Kd HI1 qb0 qb1 qb2 lb HWS
  go_wp2_with fail
  go_loopw [8, 9, 10, 11] (fun H R nx i wr => ∃ (h k : Nat) (q p1 p2 : Option Addr) (d c1 c2 : Nat) (hd rt : Int), h ≤ 61 ∧ k ≤ b.ns.length ∧ i = .int .i64 h ∧ nx = .int .i64 k ∧ H = .int .i64 hd ∧ R = .int .i64 rt ∧ Hid (preS b v k h = (hd, rt)) ∧ Hid (∀ (i : Nat) (s : Nt), i < k → b.ns[i]? = some s → s.hour < h) ∧ Hid (∀ s, b.ns[k]? = some s → (h : Int) ≤ s.hour) ∧ Hid (Blk wr (gb + 3) 26 #[.int .i64 b.lo, .int .i64 b.hi, .slice q k d]) ∧ Hid (OwnNs wr (gb + 5) (.slice q k d) (xN b v k)) ∧ Hid (Blk wr (gb + 4) 50 #[.slice p1 h c1, .slice p2 h c2]) ∧ Hid (OwnInts wr (gb + 5) (.slice p1 h c1) (heldL b v h)) ∧ Hid (OwnInts wr (gb + 5) (.slice p2 h c2) (rateL b v h)) ∧ Hid (∀ g, (Value.slice p1 h c1).ownBlock = some g → (Value.slice p2 h c2).ownBlock = some g → False) ∧ Hid (Below (gb + 3) V wr)) (fun _ _ _ i _ => 61 - (intOf i).toNat)
  case atStart => exact ⟨0, 0, none, none, none, 0, 0, 0, v0, 0, by omega, by omega, rfl, rfl, rfl, rfl, Lib.hid (by unfold preS; rw [if_pos rfl, HVZ.out]), Lib.hid (fun i s hi _ => by omega), Lib.hid (fun s hs => (HOK.out.nt hs).2.1.1), Kx2, Lib.hid (OwnNs.nil _ _), Kd2, Lib.hid (OwnInts.nil _ _), Lib.hid (OwnInts.nil _ _), Lib.hid (fun g e _ => by cases e), Lib.hid (Below.refl _ _)⟩
  case round =>
    obtain ⟨h, k, q, p1, p2, d, c1, c2, hd, rt, h61, hkl, rfl, rfl, rfl, rfl, HS, HLE, HGE, HX, HON, HD, HO1, HO2, HDI, HBL2⟩ := hrel
    have kb : Blk wr gb 26 #[.int .i64 b.lo, .int .i64 b.hi, .slice p b.ns.length c] := (HBL2.out.block gb (by omega)).trans Kb2.out
    have qb0 := kb.cell 0
    have qb1 := kb.cell 1
    have qb2 := kb.cell 2
    have lb := kb.lt
    simp only [List.size_toArray, List.length_cons, List.length_nil, Nat.reduceAdd, Nat.reduceLT, getElem?_pos, List.getElem_toArray, List.getElem_cons_zero, List.getElem_cons_succ] at qb0 qb1 qb2
    clear kb
    by_cases hlt : h ≤ 60
    · have c60 : decide ((h : Int) ≤ 60) = true := by simpa using (show (h : Int) ≤ 60 by omega)
      have hk0 : h = 0 → k = 0 := fun e => by
        rcases Nat.eq_zero_or_pos k with e1 | e1
        · exact e1
        · obtain ⟨s, hs⟩ := get_some b.ns 0 (by omega)
          have h1 := HLE.out 0 s e1 hs
          have h2 := (HOK.out.nt hs).2.1.1
          omega
      have hpast : pastN b.ns k ≤ (h : Int) ∧ (h ≠ 0 → pastN b.ns k ≤ (h : Int) - 1) := by
        cases k with
        | zero => simp only [pastN]; omega
        | succ k =>
          obtain ⟨s, hs⟩ := get_some b.ns k (by omega)
          have := HLE.out k s (by omega) hs
          simp only [pastN, hs]
          omega
      have HPAST := Lib.hid hpast
      have HRT := Lib.hid (show curS b v k (h : Int) = ((curS b v k (h : Int)).1, rt) by
        have h1 := HS.out
        unfold preS at h1
        by_cases h0 : h = 0
        · rw [if_pos h0] at h1
          rw [hk0 h0, h0, show ((0 : Nat) : Int) = 0 from rfl, cur_zero (by have := HC.out.first; have := hspl; omega)]
          simp only [Prod.mk.injEq] at h1 ⊢
          exact ⟨trivial, h1.2⟩
        · rw [if_neg h0] at h1
          have hnx := cur_next HOK.out HC.out hkl (hpast.2 h0)
          rw [h1, show (h : Int) - 1 + 1 = (h : Int) by omega] at hnx
          rw [hnx])
      clear hk0 hpast
      go_upto_if 28 with fail
      go_cut [8] (fun s8 wx => s8 = .int .i64 (curS b v k h).1 ∧ wx = wr)
      case first =>
        by_cases h0 : h = 0
        · subst h0
          have hk0 : k = 0 := by
            rcases Nat.eq_zero_or_pos k with e | e
            · exact e
            · obtain ⟨s, hs⟩ := get_some b.ns 0 (by omega)
              have h1 := HLE.out 0 s e hs
              have h2 := (HOK.out.nt hs).2.1.1
              omega
          have HQ := Lib.hid (show (Value.int .i64 hd) = .int .i64 (curS b v k ((0 : Nat) : Int)).1 by
            have h1 := HS.out
            unfold preS at h1
            rw [if_pos rfl] at h1
            rw [hk0, show ((0 : Nat) : Int) = 0 from rfl, cur_zero (by have := HC.out.first; omega), h1])
          clear hk0
          go_wp2_with fail
          all_goals first
            | (exfalso; omega)
            | (go_meet; exact ⟨HQ.out, rfl⟩)
        · have hpre : curS b v k ((h : Int) - 1) = (hd, rt) := by
            have h1 := HS.out
            unfold preS at h1
            rw [if_neg h0] at h1
            exact h1
          have hpast : pastN b.ns k ≤ (h : Int) - 1 := by
            cases k with
            | zero => simp only [pastN]; omega
            | succ k =>
              obtain ⟨s, hs⟩ := get_some b.ns k (by omega)
              have := HLE.out k s (by omega) hs
              simp only [pastN, hs]
              omega
          have hbd := cur_bd HOK.out HC.out hkl ((h : Int) - 1)
          rw [hpre] at hbd
          dsimp only at hbd
          have hnx := cur_next HOK.out HC.out hkl hpast
          rw [hpre, show (h : Int) - 1 + 1 = (h : Int) by omega] at hnx
          have HNX := Lib.hid hnx
          have e1 : IntKind.i64.wrap (hd - rt) = hd - rt := IntWalk.i64_in _ (by omega)
          clear hpre hpast hbd hnx
          go_wp2_with fail
          all_goals first
            | (exfalso; omega)
            | (go_meet; refine ⟨?_, rfl⟩; rw [HNX.out]; dsimp only; congr 1; omega)
      case rest =>
        obtain ⟨e8, rfl⟩ := hcut
        subst e8
        generalize wc = Wo at *
        clear HS
        go_upto_region 9 with fail
        go_loopw [8, 9, 10] (fun H R nx wr => ∃ (k2 : Nat) (q2 : Option Addr) (d2 : Nat) (hd2 rt2 : Int), k2 ≤ b.ns.length ∧ nx = .int .i64 k2 ∧ H = .int .i64 hd2 ∧ R = .int .i64 rt2 ∧ Hid (curS b v k2 (h : Int) = (hd2, rt2)) ∧ Hid (∀ (i : Nat) (s : Nt), i < k2 → b.ns[i]? = some s → s.hour ≤ (h : Int)) ∧ Hid (∀ s, b.ns[k2]? = some s → (h : Int) ≤ s.hour) ∧ Hid (Blk wr (gb + 3) 26 #[.int .i64 b.lo, .int .i64 b.hi, .slice q2 k2 d2]) ∧ Hid (OwnNs wr (gb + 5) (.slice q2 k2 d2) (xN b v k2)) ∧ Hid (Blk wr (gb + 4) 50 #[.slice p1 h c1, .slice p2 h c2]) ∧ Hid (OwnInts wr (gb + 5) (.slice p1 h c1) (heldL b v h)) ∧ Hid (OwnInts wr (gb + 5) (.slice p2 h c2) (rateL b v h)) ∧ Hid (Below (gb + 3) V wr)) (fun _ _ nx _ => b.ns.length - (intOf nx).toNat)
        case atStart => exact ⟨k, q, d, _, rt, hkl, rfl, rfl, rfl, HRT, Lib.hid (fun i s hi hs => by have := HLE.out i s hi hs; omega), HGE, HX, HON, HD, HO1, HO2, HBL2⟩
        case round =>
          clear HLE HGE HX HON HD HO1 HO2 HBL2 HRT qb0 qb1 qb2 lb HPAST
          obtain ⟨k2, q2, d2, hd2, rt2, hk2, rfl, rfl, rfl, HCU, HLE, HGE, HX, HON, HD, HO1, HO2, HBL2⟩ := hrel
          have kb : Blk wr gb 26 #[.int .i64 b.lo, .int .i64 b.hi, .slice p b.ns.length c] := (HBL2.out.block gb (by omega)).trans Kb2.out
          have KB3 := Lib.hid kb
          have qb0 := kb.cell 0
          have qb1 := kb.cell 1
          have qb2 := kb.cell 2
          have lb := kb.lt
          simp only [List.size_toArray, List.length_cons, List.length_nil, Nat.reduceAdd, Nat.reduceLT, getElem?_pos, List.getElem_toArray, List.getElem_cons_zero, List.getElem_cons_succ] at qb0 qb1 qb2
          have HBW2 := Lib.hid (HBV.out.trans (HBL2.out.mono (by have := HE.out; omega)))
          have hnt : NotesAt wr p b.ns := (HK.out.bel HBW2.out).nt
          have HNT := Lib.hid hnt
          clear kb hnt
          go_upto_region 9 with fail
          go_cut [47] (fun s47 wx => s47 = .bool (decide (∃ s, b.ns[k2]? = some s ∧ s.hour = (h : Int))) ∧ wx = wr)
          case first =>
            by_cases hlt2 : k2 < b.ns.length
            · obtain ⟨s, hs⟩ := get_some b.ns k2 hlt2
              have hk1 : (k2 : Int) < (b.ns.length : Int) := by omega
              have hk0 : (0 : Int) ≤ (k2 : Int) := by omega
              obtain ⟨bb1, o1, hps, hb1, q0, q1, q3, q4⟩ := HNT.out k2 s hs
              rw [hps] at qb2
              have HQ := Lib.hid (show (s.hour == (h : Int)) = decide (∃ s, b.ns[k2]? = some s ∧ s.hour = (h : Int)) by
                rw [Bool.eq_iff_iff, beq_iff_eq, decide_eq_true_eq]
                constructor
                · intro e; exact ⟨s, hs, e⟩
                · rintro ⟨t, ht, e⟩; rw [hs] at ht; cases ht; exact e)
              have hcl : decide (k2 < b.ns.length) = true := by simpa using hlt2
              clear hs hps q0 q3 q4
              go_wp2_with fail
              go_meet
              exact ⟨by rw [← HQ.out], rfl⟩
            · have HQ := Lib.hid (show decide (∃ s, b.ns[k2]? = some s ∧ s.hour = (h : Int)) = false by
                rw [decide_eq_false_iff_not]
                rintro ⟨t, ht, -⟩
                exact hlt2 (List.getElem?_eq_some_iff.1 ht).1)
              have hcl : decide (k2 < b.ns.length) = false := by simpa using hlt2
              clear hlt2
              go_wp2_with fail
              go_meet
              exact ⟨by rw [HQ.out], rfl⟩
          case rest =>
            obtain ⟨e47, rfl⟩ := hcut
            subst e47
            generalize wc = Wi at *
            by_cases hgo : ∃ s, b.ns[k2]? = some s ∧ s.hour = (h : Int)
            · rw [decide_eq_true hgo]
              obtain ⟨s, hs, hh⟩ := hgo
              have hk1 : (k2 : Int) < (b.ns.length : Int) := by have := (List.getElem?_eq_some_iff.1 hs).1; omega
              have hk0 : (0 : Int) ≤ (k2 : Int) := by omega
              obtain ⟨bb1, o1, hps, hb1, q0, q1, q3, q4⟩ := HNT.out k2 s hs
              rw [hps] at qb2
              obtain ⟨hkd, -, hsb⟩ := HOK.out.nt hs
              have hsb2 : 0 ≤ s.lo ∧ s.lo ≤ s.hi ∧ s.hi ≤ 100000 := by
                have hm : mostOf s.kind ≤ 400 := by unfold mostOf; split <;> (try split) <;> omega
                unfold SpanOK at hsb
                omega
              have HSB := Lib.hid hsb2
              obtain ⟨pk, hpk⟩ : ∃ pk, pickI bits ((k2 : Int) + 1) = pk := ⟨_, rfl⟩
              obtain ⟨nn, hnn⟩ : ∃ nn, v (k2 + 1) = nn := ⟨_, rfl⟩
              have HPK := Lib.hid hpk
              have HNN := Lib.hid (show someI s.lo s.hi pk = nn by rw [← hpk, ← hnn]; exact HVN.out k2 s hs)
              have HNB := Lib.hid (HC.out.next k2 s hs)
              have HV1 := Lib.hid hnn
              have HS1 := Lib.hid hs
              have HH := Lib.hid hh
              have ew : IntKind.i64.wrap ((k2 : Int) + 1) = (k2 : Int) + 1 := IntWalk.i64_in _ (by omega)
              clear hps hsb hsb2 hpk hnn hs hh
              go_upto_region 11 with fail
              generalize hY : Wi.alloc _ = Y
              obtain ⟨gy, egy⟩ : ∃ gy, Wi.heap.size = gy := ⟨_, rfl⟩
              have Ky := Lib.hid (show Blk Y gy 38 #[.int .i64 s.kind, .int .i64 s.hour, .int .i64 s.lo, .int .i64 s.hi] by rw [← hY]; exact Blk.new egy.symm)
              have hBY : Below Wi.heap.size Wi Y := by rw [← hY]; (repeat (first | (with_reducible exact Below.refl _ _) | (with_reducible assumption) | ((with_reducible refine below_ext_trans ?_ ?_ _); rotate_left; focus (((try dsimp only); repeat (first | omega | simp only [World.size_alloc, World.size_setCell, World.size_drew] | (with_reducible refine le_ext_of ?_) | (with_reducible refine le_ext_add ?_))); done)) | ((with_reducible refine Below.alloc ?_ ?_ _); rotate_left; focus (((try dsimp only); repeat (first | omega | simp only [World.size_alloc, World.size_setCell, World.size_drew] | (with_reducible refine le_ext_of ?_) | (with_reducible refine le_ext_add ?_))); done)) | ((with_reducible refine Below.setCell ?_ ?_ _); rotate_left; focus (((try dsimp only); repeat (first | omega | simp only [World.size_alloc, World.size_setCell, World.size_drew] | (with_reducible refine le_ext_of ?_) | (with_reducible refine le_ext_add ?_))); done)) | (with_reducible refine Below.drew ?_)))
              have HBY := Lib.hid hBY
              have HIY := Lib.hid (HI.out.below (HBW2.out.trans (hBY.mono HBW2.out.size)))
              have HEY := Lib.hid egy
              rw [egy]
              clear hY hBY egy q0 q1 q3 q4
              have y0 := Ky.out.cell 0
              have y1 := Ky.out.cell 1
              have y2 := Ky.out.cell 2
              have y3 := Ky.out.cell 3
              have ly := Ky.out.lt
              simp only [List.size_toArray, List.length_cons, List.length_nil, Nat.reduceAdd, Nat.reduceLT, getElem?_pos, List.getElem_toArray, List.getElem_cons_zero, List.getElem_cons_succ] at y0 y1 y2 y3
              refine wp_region_ext (by kernel_rfl) (by kernel_rfl) ?_
              repeat (go_big_quiet_step (first | (go_at_call 79; exact quiet_ext (Pick_is pi ci bits nb _ pk _ (HIY.out.below (by (repeat (first | (with_reducible exact Below.refl _ _) | (with_reducible assumption) | ((with_reducible refine below_ext_trans ?_ ?_ _); rotate_left; focus (((try dsimp only); repeat (first | omega | simp only [World.size_alloc, World.size_setCell, World.size_drew] | (with_reducible refine le_ext_of ?_) | (with_reducible refine le_ext_add ?_))); done)) | ((with_reducible refine Below.alloc ?_ ?_ _); rotate_left; focus (((try dsimp only); repeat (first | omega | simp only [World.size_alloc, World.size_setCell, World.size_drew] | (with_reducible refine le_ext_of ?_) | (with_reducible refine le_ext_add ?_))); done)) | ((with_reducible refine Below.setCell ?_ ?_ _); rotate_left; focus (((try dsimp only); repeat (first | omega | simp only [World.size_alloc, World.size_setCell, World.size_drew] | (with_reducible refine le_ext_of ?_) | (with_reducible refine le_ext_add ?_))); done)) | (with_reducible refine Below.drew ?_))))) HBL.out HN.out HPK.out)) | (go_at_call 78; exact quiet_ext (Some_is s.lo s.hi pk nn _ HSB.out HNN.out))))
              (refine wpQuiet_nil ?_; rintro _ ⟨x, rfl⟩)
              generalize hZ : ext Y _ = Z
              have hBZ : Below Y.heap.size Y Z := by rw [← hZ]; exact below_ext _ _
              have Kz := Lib.hid (Ky.out.bel hBZ)
              have HBZ := Lib.hid (HBY.out.trans (hBZ.mono HBY.out.size))
              have hgl : gb + 5 ≤ gy := by have h1 := HBL2.out.size; have h2 := HVS.out; have h3 := HEY.out; omega
              have HGL := Lib.hid hgl
              clear hZ hBZ Ky HIY HBY y0 y1 y2 y3 ly hgl ew qb0 qb1 qb2 lb
              have y0 := Kz.out.cell 0
              have y1 := Kz.out.cell 1
              have y2 := Kz.out.cell 2
              have y3 := Kz.out.cell 3
              have ly := Kz.out.lt
              simp only [List.size_toArray, List.length_cons, List.length_nil, Nat.reduceAdd, Nat.reduceLT, getElem?_pos, List.getElem_toArray, List.getElem_cons_zero, List.getElem_cons_succ] at y0 y1 y2 y3
              have hcb := cur_bd HOK.out HC.out hk2 (h : Int)
              rw [HCU.out] at hcb
              dsimp only at hcb
              have hnb := HNB.out
              rw [HV1.out] at hnb
              obtain ⟨-, -, hsp3⟩ := HOK.out.nt HS1.out
              have HSP3 := Lib.hid hsp3
              have hn0 : 0 ≤ nn ∧ nn ≤ 400 ∧ 0 ≤ s.hi - s.lo ∧ s.hi - s.lo ≤ 12 := by
                have hm : mostOf s.kind ≤ 400 := by unfold mostOf; split <;> (try split) <;> omega
                unfold SpanOK at hsp3
                omega
              have HCB := Lib.hid hcb
              have HN0 := Lib.hid hn0
              have ea : IntKind.i64.wrap (hd2 - nn) = hd2 - nn := IntWalk.i64_in _ (by omega)
              have ec : IntKind.i64.wrap (rt2 + nn) = rt2 + nn := IntWalk.i64_in _ (by omega)
              have ed : IntKind.i64.wrap (s.hi - s.lo) = s.hi - s.lo := IntWalk.i64_in _ (by omega)
              obtain ⟨wd, hwd⟩ : ∃ wd, (s.hi - s.lo).tdiv 2 = wd := ⟨_, rfl⟩
              have hwd2 : wd = (s.hi - s.lo) / 2 := by rw [← hwd]; exact Int.tdiv_eq_ediv_of_nonneg (by omega)
              have HWD := Lib.hid hwd2
              have ef : IntKind.i64.wrap wd = wd := IntWalk.i64_in _ (by omega)
              have eg : IntKind.i64.wrap (hd2 - wd) = hd2 - wd := IntWalk.i64_in _ (by omega)
              have eh : IntKind.i64.wrap (hd2 + wd) = hd2 + wd := IntWalk.i64_in _ (by omega)
              clear hnb hsp3 hn0 hcb hwd2
              have z2 := Kz.out.frozen 2
              have z3 := Kz.out.frozen 3
              go_upto_block 4 with fail
              go_cut [8, 9] (fun s8 s9 wx => s8 = .int .i64 (doesS s.kind (hd2, rt2) (valT s (hd2, rt2) nn)).1 ∧ s9 = .int .i64 (doesS s.kind (hd2, rt2) (valT s (hd2, rt2) nn)).2 ∧ Blk wx gy 38 (ntC (noteT s (hd2, rt2) nn)) ∧ Below gy Z wx)
              case first =>
                rcases (show s.kind = 0 ∨ s.kind = 1 ∨ s.kind = 2 ∨ s.kind = 3 ∨ s.kind = 4 by omega) with hk | hk | hk | hk | hk
                · have k0 : (s.kind == 0) = true := by simpa using hk
                  have HKK := Lib.hid hk
                  clear hk
                  by_cases hgt : hd2 < nn
                  · have kg : decide (hd2 < nn) = true := by simpa using hgt
                    have HGT := Lib.hid hgt
                    clear hgt
                    go_wp2_with (go_at_call 39; refine (Just_any _ _).mono ?_; rintro e w1 ⟨rfl, yj, rfl⟩)
                    all_goals first
                      | (exfalso; have h1 := HCB.out; have h2 := HN0.out; have h3 := HWD.out; omega)
                      | (go_meet; have h1 := HCB.out; have h2 := HN0.out; have h3 := HWD.out; have h4 := HKK.out; have h5 := HGT.out; refine ⟨by congr 1; simp [doesS, valT, h4, h5]; try omega, by congr 1; simp [doesS, valT, h4, h5]; try omega, by rw [show noteT s (hd2, rt2) nn = ⟨s.kind, s.hour, hd2, hd2⟩ by unfold noteT; rw [if_pos h4, if_pos h5]]; show Blk _ gy 38 #[.int .i64 s.kind, .int .i64 s.hour, .int .i64 hd2, .int .i64 hd2]; simpa using ((Kz.out.ext yj).set 2 (.int .i64 hd2)).set 3 (.int .i64 hd2), by (repeat (first | (with_reducible exact Below.refl _ _) | (with_reducible assumption) | ((with_reducible refine below_ext_trans ?_ ?_ _); rotate_left; focus (((try dsimp only); repeat (first | omega | simp only [World.size_alloc, World.size_setCell, World.size_drew] | (with_reducible refine le_ext_of ?_) | (with_reducible refine le_ext_add ?_))); done)) | ((with_reducible refine Below.alloc ?_ ?_ _); rotate_left; focus (((try dsimp only); repeat (first | omega | simp only [World.size_alloc, World.size_setCell, World.size_drew] | (with_reducible refine le_ext_of ?_) | (with_reducible refine le_ext_add ?_))); done)) | ((with_reducible refine Below.setCell ?_ ?_ _); rotate_left; focus (((try dsimp only); repeat (first | omega | simp only [World.size_alloc, World.size_setCell, World.size_drew] | (with_reducible refine le_ext_of ?_) | (with_reducible refine le_ext_add ?_))); done)) | (with_reducible refine Below.drew ?_)))⟩)
                  · have kg : decide (hd2 < nn) = false := by simpa using hgt
                    have HGT := Lib.hid hgt
                    clear hgt
                    go_wp2_with fail
                    all_goals first
                      | (exfalso; have h1 := HCB.out; have h2 := HN0.out; have h3 := HWD.out; omega)
                      | (go_meet; have h1 := HCB.out; have h2 := HN0.out; have h3 := HWD.out; have h4 := HKK.out; have h5 := HGT.out; refine ⟨by congr 1; simp [doesS, valT, h4, h5]; try omega, by congr 1; simp [doesS, valT, h4, h5]; try omega, by rw [show noteT s (hd2, rt2) nn = s by unfold noteT; rw [if_pos h4, if_neg (show ¬ (hd2, rt2).1 < nn by dsimp only; omega)]]; exact Kz.out, by (repeat (first | (with_reducible exact Below.refl _ _) | (with_reducible assumption) | ((with_reducible refine below_ext_trans ?_ ?_ _); rotate_left; focus (((try dsimp only); repeat (first | omega | simp only [World.size_alloc, World.size_setCell, World.size_drew] | (with_reducible refine le_ext_of ?_) | (with_reducible refine le_ext_add ?_))); done)) | ((with_reducible refine Below.alloc ?_ ?_ _); rotate_left; focus (((try dsimp only); repeat (first | omega | simp only [World.size_alloc, World.size_setCell, World.size_drew] | (with_reducible refine le_ext_of ?_) | (with_reducible refine le_ext_add ?_))); done)) | ((with_reducible refine Below.setCell ?_ ?_ _); rotate_left; focus (((try dsimp only); repeat (first | omega | simp only [World.size_alloc, World.size_setCell, World.size_drew] | (with_reducible refine le_ext_of ?_) | (with_reducible refine le_ext_add ?_))); done)) | (with_reducible refine Below.drew ?_)))⟩)
                · have k0 : (s.kind == 0) = false := by rw [hk]; rfl
                  have k1 : (s.kind == 1) = true := by simpa using hk
                  have HKK := Lib.hid hk
                  clear hk
                  go_wp2_with fail
                  all_goals first
                    | (exfalso; have h1 := HCB.out; have h2 := HN0.out; have h3 := HWD.out; omega)
                    | (go_meet; have h1 := HCB.out; have h2 := HN0.out; have h3 := HWD.out; have h4 := HKK.out; refine ⟨by congr 1; simp [doesS, valT, h4]; try omega, by congr 1; simp [doesS, valT, h4]; try omega, by rw [show noteT s (hd2, rt2) nn = s by simp [noteT, h4]]; exact Kz.out, by (repeat (first | (with_reducible exact Below.refl _ _) | (with_reducible assumption) | ((with_reducible refine below_ext_trans ?_ ?_ _); rotate_left; focus (((try dsimp only); repeat (first | omega | simp only [World.size_alloc, World.size_setCell, World.size_drew] | (with_reducible refine le_ext_of ?_) | (with_reducible refine le_ext_add ?_))); done)) | ((with_reducible refine Below.alloc ?_ ?_ _); rotate_left; focus (((try dsimp only); repeat (first | omega | simp only [World.size_alloc, World.size_setCell, World.size_drew] | (with_reducible refine le_ext_of ?_) | (with_reducible refine le_ext_add ?_))); done)) | ((with_reducible refine Below.setCell ?_ ?_ _); rotate_left; focus (((try dsimp only); repeat (first | omega | simp only [World.size_alloc, World.size_setCell, World.size_drew] | (with_reducible refine le_ext_of ?_) | (with_reducible refine le_ext_add ?_))); done)) | (with_reducible refine Below.drew ?_)))⟩)
                · have k0 : (s.kind == 0) = false := by rw [hk]; rfl
                  have k1 : (s.kind == 1) = false := by rw [hk]; rfl
                  have k2' : (s.kind == 2) = true := by simpa using hk
                  have HKK := Lib.hid hk
                  clear hk
                  go_wp2_with fail
                  all_goals first
                    | (exfalso; have h1 := HCB.out; have h2 := HN0.out; have h3 := HWD.out; omega)
                    | (go_meet; have h1 := HCB.out; have h2 := HN0.out; have h3 := HWD.out; have h4 := HKK.out; refine ⟨by congr 1; simp [doesS, valT, h4]; try omega, by congr 1; simp [doesS, valT, h4]; try omega, by rw [show noteT s (hd2, rt2) nn = s by simp [noteT, h4]]; exact Kz.out, by (repeat (first | (with_reducible exact Below.refl _ _) | (with_reducible assumption) | ((with_reducible refine below_ext_trans ?_ ?_ _); rotate_left; focus (((try dsimp only); repeat (first | omega | simp only [World.size_alloc, World.size_setCell, World.size_drew] | (with_reducible refine le_ext_of ?_) | (with_reducible refine le_ext_add ?_))); done)) | ((with_reducible refine Below.alloc ?_ ?_ _); rotate_left; focus (((try dsimp only); repeat (first | omega | simp only [World.size_alloc, World.size_setCell, World.size_drew] | (with_reducible refine le_ext_of ?_) | (with_reducible refine le_ext_add ?_))); done)) | ((with_reducible refine Below.setCell ?_ ?_ _); rotate_left; focus (((try dsimp only); repeat (first | omega | simp only [World.size_alloc, World.size_setCell, World.size_drew] | (with_reducible refine le_ext_of ?_) | (with_reducible refine le_ext_add ?_))); done)) | (with_reducible refine Below.drew ?_)))⟩)
                · have k0 : (s.kind == 0) = false := by rw [hk]; rfl
                  have k1 : (s.kind == 1) = false := by rw [hk]; rfl
                  have k2' : (s.kind == 2) = false := by rw [hk]; rfl
                  have k3 : (s.kind == 3) = true := by simpa using hk
                  have HKK := Lib.hid hk
                  clear hk
                  go_wp2_with fail
                  all_goals first
                    | (exfalso; have h1 := HCB.out; have h2 := HN0.out; have h3 := HWD.out; omega)
                    | (go_meet; have h1 := HCB.out; have h2 := HN0.out; have h3 := HWD.out; have h4 := HKK.out; refine ⟨by congr 1; simp [doesS, valT, h4]; try omega, by congr 1; simp [doesS, valT, h4]; try omega, by rw [show noteT s (hd2, rt2) nn = s by simp [noteT, h4]]; exact Kz.out, by (repeat (first | (with_reducible exact Below.refl _ _) | (with_reducible assumption) | ((with_reducible refine below_ext_trans ?_ ?_ _); rotate_left; focus (((try dsimp only); repeat (first | omega | simp only [World.size_alloc, World.size_setCell, World.size_drew] | (with_reducible refine le_ext_of ?_) | (with_reducible refine le_ext_add ?_))); done)) | ((with_reducible refine Below.alloc ?_ ?_ _); rotate_left; focus (((try dsimp only); repeat (first | omega | simp only [World.size_alloc, World.size_setCell, World.size_drew] | (with_reducible refine le_ext_of ?_) | (with_reducible refine le_ext_add ?_))); done)) | ((with_reducible refine Below.setCell ?_ ?_ _); rotate_left; focus (((try dsimp only); repeat (first | omega | simp only [World.size_alloc, World.size_setCell, World.size_drew] | (with_reducible refine le_ext_of ?_) | (with_reducible refine le_ext_add ?_))); done)) | (with_reducible refine Below.drew ?_)))⟩)
                · have k0 : (s.kind == 0) = false := by rw [hk]; rfl
                  have k1 : (s.kind == 1) = false := by rw [hk]; rfl
                  have k2' : (s.kind == 2) = false := by rw [hk]; rfl
                  have k3 : (s.kind == 3) = false := by rw [hk]; rfl
                  have HKK := Lib.hid hk
                  clear hk
                  go_wp2_with (go_at_call 48; refine (To_any _ _ _).mono ?_; rintro e w1 ⟨rfl, yj, rfl⟩)
                  all_goals first
                    | (exfalso; have h1 := HCB.out; have h2 := HN0.out; have h3 := HWD.out; omega)
                    | (go_meet; have h1 := HCB.out; have h2 := HN0.out; have h3 := HWD.out; have h4 := HKK.out; refine ⟨by congr 1; simp [doesS, valT, h4]; try omega, by congr 1; simp [doesS, valT, h4]; try omega, ?_, by (repeat (first | (with_reducible exact Below.refl _ _) | (with_reducible assumption) | ((with_reducible refine below_ext_trans ?_ ?_ _); rotate_left; focus (((try dsimp only); repeat (first | omega | simp only [World.size_alloc, World.size_setCell, World.size_drew] | (with_reducible refine le_ext_of ?_) | (with_reducible refine le_ext_add ?_))); done)) | ((with_reducible refine Below.alloc ?_ ?_ _); rotate_left; focus (((try dsimp only); repeat (first | omega | simp only [World.size_alloc, World.size_setCell, World.size_drew] | (with_reducible refine le_ext_of ?_) | (with_reducible refine le_ext_add ?_))); done)) | ((with_reducible refine Below.setCell ?_ ?_ _); rotate_left; focus (((try dsimp only); repeat (first | omega | simp only [World.size_alloc, World.size_setCell, World.size_drew] | (with_reducible refine le_ext_of ?_) | (with_reducible refine le_ext_add ?_))); done)) | (with_reducible refine Below.drew ?_)))⟩; rw [show noteT s (hd2, rt2) nn = ⟨s.kind, s.hour, max 0 (hd2 - wd), min 400 (hd2 + wd)⟩ by simp [noteT, h4, ← h3]]; show Blk _ gy 38 #[.int .i64 s.kind, .int .i64 s.hour, .int .i64 (max 0 (hd2 - wd)), .int .i64 (min 400 (hd2 + wd))]; first | (rw [show max 0 (hd2 - wd) = hd2 - wd by omega, show min 400 (hd2 + wd) = hd2 + wd by omega]; simpa using ((Kz.out.ext yj).set 2 (.int .i64 (hd2 - wd))).set 3 (.int .i64 (hd2 + wd))) | (rw [show max 0 (hd2 - wd) = hd2 - wd by omega, show min 400 (hd2 + wd) = 400 by omega]; simpa using ((Kz.out.ext yj).set 2 (.int .i64 (hd2 - wd))).set 3 (.int .i64 (400))) | (rw [show max 0 (hd2 - wd) = 0 by omega, show min 400 (hd2 + wd) = hd2 + wd by omega]; simpa using ((Kz.out.ext yj).set 2 (.int .i64 (0))).set 3 (.int .i64 (hd2 + wd))) | (rw [show max 0 (hd2 - wd) = 0 by omega, show min 400 (hd2 + wd) = 400 by omega]; simpa using ((Kz.out.ext yj).set 2 (.int .i64 (0))).set 3 (.int .i64 (400))))
              case rest =>
                obtain ⟨e8, e9, hkw, hbw⟩ := hcut
                subst e8 e9
                have hnew : curS b v (k2 + 1) (h : Int) = doesS s.kind (hd2, rt2) (valT s (hd2, rt2) nn) := by
                  have h1 := cur_behind (b := b) (v := v) HS1.out
                  have h2 := stF_at (b := b) (v := v) HS1.out
                  have h3 := cur_bef (b := b) (v := v) HS1.out
                  rw [HH.out] at h1 h3
                  rw [h1, h2, h3, HCU.out, HV1.out]
                have hxn : xN b v (k2 + 1) = xN b v k2 ++ [noteT s (hd2, rt2) nn] := by
                  have h2 := xN_at (b := b) (v := v) HS1.out
                  have h3 := cur_bef (b := b) (v := v) HS1.out
                  rw [HH.out] at h3
                  rw [h2, h3, HCU.out, HV1.out]
                obtain ⟨hd3, rt3, h33⟩ : ∃ hd3 rt3, doesS s.kind (hd2, rt2) (valT s (hd2, rt2) nn) = (hd3, rt3) := ⟨_, _, rfl⟩
                rw [h33] at hnew ⊢
                have HNEW := Lib.hid hnew
                have HXN := Lib.hid hxn
                obtain ⟨yn, hyn⟩ : ∃ yn, noteT s (hd2, rt2) nn = yn := ⟨_, rfl⟩
                rw [hyn] at hkw HXN
                generalize wc = Wn at *
                have hall : Below gy Wi Wn := by
                  have h1 := HBZ.out
                  rw [HEY.out] at h1
                  exact h1.trans hbw
                have hall2 : Below Wi.heap.size Wi Wn := by rw [HEY.out]; exact hall
                have hX2 := Lib.hid (show Blk Wn (gb + 3) 26 #[.int .i64 b.lo, .int .i64 b.hi, .slice q2 k2 d2] from HX.out.bel hall2)
                have hON2 := Lib.hid (HON.out.below hall2)
                have hD2 := Lib.hid (show Blk Wn (gb + 4) 50 #[.slice p1 h c1, .slice p2 h c2] from HD.out.bel hall2)
                have hO12 := Lib.hid (HO1.out.below hall2)
                have hO22 := Lib.hid (HO2.out.below hall2)
                have hBL3 := Lib.hid (show Below (gb + 3) V Wn from HBL2.out.trans (hall.mono (by have := HGL.out; omega)))
                have KY := Lib.hid hkw
                have HWN := Lib.hid (show gb + 5 ≤ Wn.heap.size by have h1 := HVS.out; have h2 := hBL3.out.size; omega)
                clear hkw hbw hall hall2 HX HON HD HO1 HO2 HBL2 h33 hyn hnew hxn y0 y1 y2 y3 ly z2 z3 ea ec ed ef eg eh hwd
                have y0 := KY.out.cell 0
                have y1 := KY.out.cell 1
                have y2 := KY.out.cell 2
                have y3 := KY.out.cell 3
                have ly := KY.out.lt
                have x2 := hX2.out.cell 2
                have lx := hX2.out.lt
                simp only [ntC, List.size_toArray, List.length_cons, List.length_nil, Nat.reduceAdd, Nat.reduceLT, getElem?_pos, List.getElem_toArray, List.getElem_cons_zero, List.getElem_cons_succ] at y0 y1 y2 y3 x2
                have hlx : (xN b v k2).length ≤ 1000 := by rw [xN_len k2 hk2]; omega
                have HL1 := Lib.hid (show k2 + 1 = (xN b v k2).length + 1 by rw [xN_len k2 hk2])
                have hnr : ∀ g, g < gb + 5 → (Value.slice q2 k2 d2).ownBlock ≠ some g := fun g hg e => by have := (hON2.out.lt g e).1; omega
                have HNR := Lib.hid hnr
                clear hnr
                go_upto_region 26 with (at_builtin; refine wpList_append_note rfl _ _ rfl (gb + 5) _ _ rfl (hON2.out.below ((Below.refl _ _).alloc (Nat.le_refl _) _)) Wn.heap.size yn rfl (Blk.new rfl) hlx (by have := HWN.out; simp; omega) (k2 + 1) HL1.out ?_; intro q3 d3 w1 ho3 hg3; have HO3 := Lib.hid ho3; have HG3 := Lib.hid hg3; have kx1 : Blk w1 (gb + 3) 26 #[.int .i64 b.lo, .int .i64 b.hi, .slice q2 k2 d2] := grown_blk hg3 (hX2.out.alloc _) (HNR.out _ (by omega)); have KX1 := Lib.hid kx1; have x12 := kx1.cell 2; have f12 := kx1.frozen 2; have lx1 := kx1.lt; clear ho3 hg3 kx1; simp only [List.size_toArray, List.length_cons, List.length_nil, Nat.reduceAdd, Nat.reduceLT, getElem?_pos, List.getElem_toArray, List.getElem_cons_zero, List.getElem_cons_succ] at x12)
                have hD3 := Lib.hid (show Blk w1 (gb + 4) 50 #[.slice p1 h c1, .slice p2 h c2] from grown_blk HG3.out (hD2.out.alloc _) (HNR.out _ (by omega)))
                have hO13 := Lib.hid ((hO12.out.below ((Below.refl _ _).alloc (Nat.le_refl _) _)).grown HG3.out (fun g e1 e2 => ints_notes hO12.out hON2.out e1 e2))
                have hO23 := Lib.hid ((hO22.out.below ((Below.refl _ _).alloc (Nat.le_refl _) _)).grown HG3.out (fun g e1 e2 => ints_notes hO22.out hON2.out e1 e2))
                have hBL4 := Lib.hid (show Below (gb + 3) V w1 from Below.grown (w := Wn.alloc _) (hBL3.out.alloc (by have := HWN.out; omega) _) HG3.out (by have := HWN.out; simp; omega) (fun j hj => by have := (hON2.out.lt j hj).1; omega))
                go_wp2_with fail
                go_roundw
                case rel =>
                  exact ⟨k2 + 1, q3, d3, hd3, rt3, (by have := (List.getElem?_eq_some_iff.1 HS1.out).1; omega), by go_num, rfl, rfl, HNEW, Lib.hid (fun i t hi ht => by
                      by_cases e : i = k2
                      · subst e
                        have h1 := HS1.out
                        rw [ht] at h1
                        cases h1
                        have := HH.out
                        omega
                      · exact HLE.out i t (by omega) ht), Lib.hid (fun t ht => by
                      have h1 := (chainN_sorted HOK.out.chain HS1.out).2 t ht
                      have := HH.out
                      omega), Lib.hid (by simpa using KX1.out.set 2 (.slice q3 (k2 + 1) d3)), by rw [HXN.out]; exact Lib.hid (HO3.out.kept (fun g hg => by have := (HO3.out.lt g hg).1; exact Below.heap_setCell _ _ _ _ (by dsimp only; omega))), Lib.hid ((Below.heap_setCell _ _ _ _ (by dsimp only; omega)).trans hD3.out), Lib.hid (hO13.out.kept (fun g hg => by have := (hO13.out.lt g hg).1; exact Below.heap_setCell _ _ _ _ (by dsimp only; omega))), Lib.hid (hO23.out.kept (fun g hg => by have := (hO23.out.lt g hg).1; exact Below.heap_setCell _ _ _ _ (by dsimp only; omega))), Lib.hid (hBL4.out.setCell (by dsimp only; omega) _)⟩
                case measure => simp [intOf]; omega
            · rw [decide_eq_false hgo]
              have HNO := Lib.hid hgo
              clear hgo
              go_upto_region 27 with fail
              have hp1 : ∀ g, (Value.slice p1 h c1).ownBlock = some g → gb + 5 ≤ g ∧ g < Wi.heap.size := fun g e => HO1.out.lt g e
              have hp2 : ∀ g, (Value.slice p2 h c2).ownBlock = some g → gb + 5 ≤ g ∧ g < Wi.heap.size := fun g e => HO2.out.lt g e
              have hzi : gb + 5 ≤ Wi.heap.size := by have h1 := HVS.out; have h2 := HBL2.out.size; omega
              have hl1 : (heldL b v h).length = h := by simp [heldL]
              have hl2 : (rateL b v h).length = h := by simp [rateL]
              have HP1 := Lib.hid hp1
              have HP2 := Lib.hid hp2
              have HZI := Lib.hid hzi
              have HL1 := Lib.hid hl1
              have HL2 := Lib.hid hl2
              clear hp1 hp2 hzi hl1 hl2 qb0 qb1 qb2 lb
              refine wp_region_flow_backA 11 127 (tellR (gb + 4) (gb + 5) Wi.heap.size p1 p2 h c1 c2 (heldL b v h) (rateL b v h) hd2 rt2) (TellS Wi (gb + 4) (gb + 5) p1 p2 h c1 c2 (heldL b v h) (rateL b v h)) (by kernel_rfl) (by kernel_rfl) rfl ?_ ?_ ?_
              · exact ⟨⟨rfl, rfl, rfl, Nat.le_refl _, fun _ _ _ _ => rfl⟩, HD.out, fun _ => HO1.out.below (Below.drew (Below.refl _ _)), fun _ => HO2.out.below (Below.drew (Below.refl _ _)), fun e => by cases e⟩
              · intro i hin f a X s1 s2 s3 rows wf wb fi st KK hKK
                have hz := st.old.size
                match i, hin with
                | 0, _ => exact st_val rfl (wanted_none rfl) (run_fDay0 _ rfl (s3 7 (by kernel_rfl)) st.day.lt) (hKK _ _ rfl (fun j hj hji fj hr => tellR_f (updF_ne (by decide)) (updF_ne (by decide)) hr) (st.bel (d := 113) (Below.refl _ _) (updF_ne (by decide)) (updF_ne (by decide)) (by decide) (by decide)))
                | 1, _ => exact st_val rfl (wanted_none rfl) (run_lInts _ rfl (rows 0 (by omega) (wf 0 (by kernel_rfl))) (Blk.cell st.day 0)) (hKK _ _ rfl (fun j hj hji fj hr => tellR_f (updF_ne (by decide)) (updF_ne (by decide)) hr) (st.bel (d := 114) (Below.refl _ _) (updF_ne (by decide)) (updF_ne (by decide)) (by decide) (by decide)))
                | 2, _ => exact st_move rfl rfl (wanted_none rfl) (s3 8 (by kernel_rfl)) (hKK _ _ rfl (fun j hj hji fj hr => tellR_f (updF_ne (by decide)) (updF_ne (by decide)) hr) (st.bel (d := 115) (Below.refl _ _) (updF_ne (by decide)) (updF_ne (by decide)) (by decide) (by decide)))
                | 3, _ =>
                  have hb : Below X.heap.size X (X.alloc (.cells #[.int .i64 hd2] 3)) := (Below.refl _ _).alloc (Nat.le_refl _) _
                  exact st_valw rfl (wanted_none rfl) (run_bsInt _ rfl (rows 2 (by omega) (wf 2 (by kernel_rfl)))) (hKK _ _ ⟨_, rfl, hz, fun _ => Blk.new rfl⟩ (fun j hj hji fj hr => tellR_bel (tellR_f (updF_ne (by decide)) (updF_ne (by decide)) hr) hb) (st.bel (d := 116) hb (updF_ne (by decide)) (updF_ne (by decide)) (by decide) (by decide)))
                | 4, _ =>
                  obtain ⟨g, e3, g3, k3⟩ := rows 3 (by omega) (wf 3 (by kernel_rfl))
                  refine st_app_int rfl rfl _ _ rfl (gb + 5) _ _ (rows 1 (by omega) (wf 1 (by kernel_rfl))) (st.one fi) g hd2 e3 (k3 fi) (by rw [HL1.out]; omega) (by have := HZI.out; omega) ?_
                  intro v' w' o1 gr fr
                  have f9 : f 9 = false := wb 9 (by kernel_rfl)
                  refine hKK _ _ ⟨o1, fun q hq => (fr q hq).imp id (fun e => by omega)⟩ (fun j hj hji fj hr => ?_) ⟨st.old.by gr (.inl rfl), grown_blk gr st.day (fun e => by have := (HP1.out _ e).1; omega), (fun e => by rw [updF_self] at e; cases e), fun e => (st.two f9).grown gr (fun g e1 e2 => HDI.out g e2 e1), (fun e1 e2 => by rw [updF_ne (by decide)] at e2; rw [f9] at e2; cases e2)⟩
                  match j, hj, hr with
                  | 0, _, hr => exact hr
                  | 1, _, hr => exact hr
                  | 2, _, hr => exact hr
                  | 3, _, hr => obtain ⟨g', x1, x2, -⟩ := hr; exact ⟨g', x1, x2, fun e => by rw [updF_self] at e; cases e⟩
                  | 4, _, hr => exact absurd rfl hji
                  | 5, _, hr => exact hr
                  | 6, _, hr => exact hr
                  | 7, _, hr => exact hr
                  | 8, _, hr => obtain ⟨g', x1, x2, x3⟩ := hr; exact ⟨g', x1, x2, fun e => grown_blk gr (x3 f9) (fun e => by have := (HP1.out _ e).2; omega)⟩
                  | 9, _, hr => rw [f9] at fj; cases fj
                  | 10, _, hr => exact hr
                  | k + 11, hk, hr => omega
                | 5, _ => exact st_val rfl (wanted_none rfl) (run_fDay1 _ rfl (s3 7 (by kernel_rfl)) st.day.lt) (hKK _ _ rfl (fun j hj hji fj hr => tellR_f (updF_ne (by decide)) (updF_ne (by decide)) hr) (st.bel (d := 118) (Below.refl _ _) (updF_ne (by decide)) (updF_ne (by decide)) (by decide) (by decide)))
                | 6, _ => exact st_val rfl (wanted_none rfl) (run_lInts _ rfl (rows 5 (by omega) (wf 5 (by kernel_rfl))) (Blk.cell st.day 1)) (hKK _ _ rfl (fun j hj hji fj hr => tellR_f (updF_ne (by decide)) (updF_ne (by decide)) hr) (st.bel (d := 119) (Below.refl _ _) (updF_ne (by decide)) (updF_ne (by decide)) (by decide) (by decide)))
                | 7, _ => exact st_move rfl rfl (wanted_none rfl) (s3 9 (by kernel_rfl)) (hKK _ _ rfl (fun j hj hji fj hr => tellR_f (updF_ne (by decide)) (updF_ne (by decide)) hr) (st.bel (d := 120) (Below.refl _ _) (updF_ne (by decide)) (updF_ne (by decide)) (by decide) (by decide)))
                | 8, _ =>
                  have hb : Below X.heap.size X (X.alloc (.cells #[.int .i64 rt2] 3)) := (Below.refl _ _).alloc (Nat.le_refl _) _
                  exact st_valw rfl (wanted_none rfl) (run_bsInt _ rfl (rows 7 (by omega) (wf 7 (by kernel_rfl)))) (hKK _ _ ⟨_, rfl, hz, fun _ => Blk.new rfl⟩ (fun j hj hji fj hr => tellR_bel (tellR_f (updF_ne (by decide)) (updF_ne (by decide)) hr) hb) (st.bel (d := 121) hb (updF_ne (by decide)) (updF_ne (by decide)) (by decide) (by decide)))
                | 9, _ =>
                  obtain ⟨g, e8, g8, k8⟩ := rows 8 (by omega) (wf 8 (by kernel_rfl))
                  have f4 : f 4 = true := wf 4 (by kernel_rfl)
                  obtain ⟨o4, r4⟩ := rows 4 (by omega) f4
                  refine st_app_int rfl rfl _ _ rfl (gb + 5) _ _ (rows 6 (by omega) (wf 6 (by kernel_rfl))) (st.two fi) g rt2 e8 (k8 fi) (by rw [HL2.out]; omega) (by have := HZI.out; omega) ?_
                  intro v' w' o1 gr fr
                  have far : ∀ q, (a.tmps.getD 117 undef).ownBlock = some q → (Value.slice p2 h c2).ownBlock = some q → False := fun q e1 e2 => by
                    rcases r4 q e1 with e | e
                    · exact HDI.out q e e2
                    · have := (HP2.out q e2).2; omega
                  refine hKK _ _ ⟨o1, fun q hq => (fr q hq).imp id (fun e => by omega)⟩ (fun j hj hji fj hr => ?_) ⟨st.old.by gr (.inr rfl), grown_blk gr st.day (fun e => by have := (HP2.out _ e).1; omega), (fun e => by rw [updF_ne (by decide)] at e; rw [f4] at e; cases e), (fun e => by rw [updF_self] at e; cases e), fun e1 e2 q => ?_⟩
                  · match j, hj, hr with
                    | 0, _, hr => exact hr
                    | 1, _, hr => exact hr
                    | 2, _, hr => exact hr
                    | 3, _, hr => obtain ⟨g', x1, x2, -⟩ := hr; exact ⟨g', x1, x2, fun e => by rw [updF_ne (by decide)] at e; rw [f4] at e; cases e⟩
                    | 4, _, hr => exact ⟨hr.1.grown gr (fun g e1 e2 => far g e1 e2), hr.2⟩
                    | 5, _, hr => exact hr
                    | 6, _, hr => exact hr
                    | 7, _, hr => exact hr
                    | 8, _, hr => obtain ⟨g', x1, x2, -⟩ := hr; exact ⟨g', x1, x2, fun e => by rw [updF_self] at e; cases e⟩
                    | 9, _, hr => exact absurd rfl hji
                    | 10, _, hr => exact hr
                    | k + 11, hk, hr => omega
                  · show ((a.put (some 122) v').tmps.getD 117 undef).ownBlock = some q → ((a.put (some 122) v').tmps.getD 122 undef).ownBlock = some q → False
                    rw [put_ne (by decide), show (a.put (some 122) v').tmps.getD 122 undef = v' by simp [Act.put, s1]]
                    intro e1 e2
                    rcases fr q e2 with e | e
                    · exact far q e1 e
                    · have := (o4.lt q e1).2; omega
                | 10, _ => exact st_val rfl (wanted_none rfl) (run_fDay0 _ rfl (s3 7 (by kernel_rfl)) st.day.lt) (hKK _ _ rfl (fun j hj hji fj hr => tellR_f (updF_ne (by decide)) (updF_ne (by decide)) hr) (st.bel (d := 123) (Below.refl _ _) (updF_ne (by decide)) (updF_ne (by decide)) (by decide) (by decide)))
                | k + 11, hk => omega
              · intro vs T f hget hf hrows hst
                have v0' : vs 0 = _ := hrows 0 (by omega)
                have v1 : vs 1 = _ := hrows 1 (by omega)
                have v2 : vs 2 = _ := hrows 2 (by omega)
                obtain ⟨g3, v3, -, -⟩ := hrows 3 (by omega)
                obtain ⟨o4, -⟩ := hrows 4 (by omega)
                have v5 : vs 5 = _ := hrows 5 (by omega)
                have v6 : vs 6 = _ := hrows 6 (by omega)
                have v7 : vs 7 = _ := hrows 7 (by omega)
                obtain ⟨g8, v8, -, -⟩ := hrows 8 (by omega)
                obtain ⟨o9, -⟩ := hrows 9 (by omega)
                have v10 : vs 10 = _ := hrows 10 (by omega)
                have hdis : ∀ q, (vs 4).ownBlock = some q → (vs 9).ownBlock = some q → False := fun q e1 e2 => hst.dis (hf 4 (by omega)) (hf 9 (by omega)) q ((congrArg Value.ownBlock (hget 4 (by omega))).trans e1) ((congrArg Value.ownBlock (hget 9 (by omega))).trans e2)
                obtain ⟨q4, c4, v4, -⟩ := o4.at
                obtain ⟨q9, c9, v9, -⟩ := o9.at
                rw [List.length_append, List.length_singleton, HL1.out] at v4
                rw [List.length_append, List.length_singleton, HL2.out] at v9
                rw [v4] at o4
                rw [v9] at o9
                rw [v4, v9] at hdis
                simp only [putAll, v0', v1, v2, v3, v4, v5, v6, v7, v8, v9, v10]
                clear v0' v1 v2 v3 v4 v5 v6 v7 v8 v9 v10 hf hrows hget
                simp only [dstOf, Act.put, List.getElem?_toArray, List.getElem?_cons_zero, List.getElem?_cons_succ, Option.bind_some, Option.getD_some, List.setIfInBounds_toArray, List.set_cons_succ, List.set_cons_zero, List.drop_succ_cons, List.drop_zero]
                have hold := hst.old
                have hday := hst.day
                have hatt : At b (stF b v) (h : Int) = (hd2, rt2) := by
                  rw [cur_at (k := k2) (upN_at HLE.out hk2 (fun s hs hle => by
                    have h1 := HGE.out s hs
                    exact HNO.out ⟨s, hs, by omega⟩)), HCU.out]
                have HO4 := Lib.hid (show OwnInts T (gb + 5) (.slice q4 (h + 1) c4) (heldL b v (h + 1)) by rw [heldL_succ, hatt]; exact o4)
                have HO9 := Lib.hid (show OwnInts T (gb + 5) (.slice q9 (h + 1) c9) (rateL b v (h + 1)) by rw [rateL_succ, hatt]; exact o9)
                have HDIS := Lib.hid hdis
                have HX4 := Lib.hid (show Blk T (gb + 3) 26 #[.int .i64 b.lo, .int .i64 b.hi, .slice q2 k2 d2] from hold.blk HX.out (fun e => by have := (HP1.out _ e).1; omega) (fun e => by have := (HP2.out _ e).1; omega))
                have HON4 := Lib.hid (show OwnNs T (gb + 5) (.slice q2 k2 d2) (xN b v k2) from HON.out.kept (fun g e => hold.block g (HON.out.lt g e).2 (fun e2 => ints_notes HO1.out HON.out e2 e) (fun e2 => ints_notes HO2.out HON.out e2 e)))
                have HBL5 := Lib.hid (show Below (gb + 3) V T from Grown2.below HBL2.out hold (by have := HZI.out; omega) (fun g e => by have := (HP1.out g e).1; omega) (fun g e => by have := (HP2.out g e).1; omega))
                have KD := Lib.hid hday
                have HTS := Lib.hid (show gb + 5 ≤ T.heap.size by have h1 := HZI.out; have h2 := hold.size; omega)
                clear hdis o4 o9 hold hday hatt hst
                have g0 := KD.out.cell 0
                have g1 := KD.out.cell 1
                have y0 := KD.out.frozen 0
                have y1 := KD.out.frozen 1
                have ly := KD.out.lt
                simp only [List.size_toArray, List.length_cons, List.length_nil, Nat.reduceAdd, Nat.reduceLT, getElem?_pos, List.getElem_toArray, List.getElem_cons_zero, List.getElem_cons_succ] at g0 g1
                go_wp2_with fail
                go_roundw
                case rel => exact ⟨h + 1, k2, q2, q4, q9, d2, c4, c9, hd2, rt2, by omega, hk2, by go_num, rfl, rfl, rfl, Lib.hid (by
                    unfold preS
                    rw [if_neg (by omega), show ((h + 1 : Nat) : Int) - 1 = (h : Int) by omega]
                    exact HCU.out), Lib.hid (fun i s hi hs => by have := HLE.out i s hi hs; omega), Lib.hid (fun s hs => by
                    have h1 := HGE.out s hs
                    rcases Int.lt_or_eq_of_le h1 with h2 | h2
                    · omega
                    · exact absurd ⟨s, hs, h2.symm⟩ HNO.out), Lib.hid (((Below.heap_setCell _ _ _ _ (by dsimp only; omega)).trans (Below.heap_setCell _ _ _ _ (by dsimp only; omega))).trans HX4.out), Lib.hid (HON4.out.kept (fun g hg => by
                    have := (HON4.out.lt g hg).1
                    exact (Below.heap_setCell _ _ _ _ (by dsimp only; omega)).trans (Below.heap_setCell _ _ _ _ (by dsimp only; omega)))), Lib.hid (by simpa using (KD.out.set 0 (.slice q4 (h + 1) c4)).set 1 (.slice q9 (h + 1) c9)), Lib.hid (HO4.out.kept (fun g hg => by
                    have := (HO4.out.lt g hg).1
                    exact (Below.heap_setCell _ _ _ _ (by dsimp only; omega)).trans (Below.heap_setCell _ _ _ _ (by dsimp only; omega)))), Lib.hid (HO9.out.kept (fun g hg => by
                    have := (HO9.out.lt g hg).1
                    exact (Below.heap_setCell _ _ _ _ (by dsimp only; omega)).trans (Below.heap_setCell _ _ _ _ (by dsimp only; omega)))), HDIS, Lib.hid ((HBL5.out.setCell (by dsimp only; omega) _).setCell (by dsimp only; omega) _)⟩
                case measure => simp [intOf]; omega
    · have hh : h = 61 := by omega
      have c60 : decide ((h : Int) ≤ 60) = false := by simpa using (show ¬ (h : Int) ≤ 60 by omega)
      have hkk : k = b.ns.length := by
        rcases Nat.lt_or_ge k b.ns.length with h1 | h1
        · obtain ⟨s, hs⟩ := get_some b.ns k h1
          have h2 := HGE.out s hs
          have h3 := (HOK.out.nt hs).2.1.2
          omega
        · omega
      subst hkk
      subst hh
      have kr : Blk wr (gb + 1) 26 #[.int .i64 0, .int .i64 0, .slice none 0 0] := (HBL2.out.block (gb + 1) (by omega)).trans Kr2.out
      have ks : Blk wr (gb + 2) 50 #[.slice none 0 0, .slice none 0 0] := (HBL2.out.block (gb + 2) (by omega)).trans Ks2.out
      have x0 := HX.out.cell 0
      have x1 := HX.out.cell 1
      have x2 := HX.out.cell 2
      have d0 := HD.out.cell 0
      have d1 := HD.out.cell 1
      have r0 := kr.cell 0
      have r1 := kr.cell 1
      have r2 := kr.cell 2
      have s0 := kr.frozen 0
      have s1 := kr.frozen 1
      have s2 := kr.frozen 2
      have t0 := ks.cell 0
      have t1 := ks.cell 1
      have u0 := ks.frozen 0
      have u1 := ks.frozen 1
      have lx := HX.out.lt
      have ld := HD.out.lt
      have lr := kr.lt
      have ls := ks.lt
      simp only [List.size_toArray, List.length_cons, List.length_nil, Nat.reduceAdd, Nat.reduceLT, getElem?_pos, List.getElem_toArray, List.getElem_cons_zero, List.getElem_cons_succ] at x0 x1 x2 d0 d1 r0 r1 r2 t0 t1
      have KR3 := Lib.hid kr
      have KS3 := Lib.hid ks
      clear kr ks qb0 qb1 qb2 lb
      go_upto_region 28 with fail
      go_region
      all_goals go_wp2_with fail
      refine bodyPost_ret (v := .tuple #[.agg #[.int .i64 b.lo, .int .i64 b.hi, .slice q b.ns.length d], .agg #[.slice p1 61 c1, .slice p2 61 c2]]) (by simp [results, Tryd.results35, go_sem, r0, r1, r2, s0, s1, s2, t0, t1, u0, u1, lr, ls]) rfl ?_
      have same : ∀ g, gb + 5 ≤ g → (((((((wr.setCell ⟨gb + 1, 0, none⟩ (.int .i64 b.lo)).setCell ⟨gb + 1, 1, none⟩ (.int .i64 b.hi)).setCell ⟨gb + 1, 2, none⟩ (.slice q b.ns.length d)).setCell ⟨gb + 2, 0, none⟩ (.slice p1 61 c1)).setCell ⟨gb + 2, 1, none⟩ (.slice p2 61 c2)).drew).heap)[g]? = wr.heap[g]? := fun g hg => by
        have e : ∀ (w : World) (j i : Nat) (u : Value), j ≠ g → (w.setCell ⟨j, i, none⟩ u).heap[g]? = w.heap[g]? := fun w j i u hj => Below.heap_setCell _ _ _ _ (by dsimp only; omega)
        show (((((wr.setCell ⟨gb + 1, 0, none⟩ (.int .i64 b.lo)).setCell ⟨gb + 1, 1, none⟩ (.int .i64 b.hi)).setCell ⟨gb + 1, 2, none⟩ (.slice q b.ns.length d)).setCell ⟨gb + 2, 0, none⟩ (.slice p1 61 c1)).setCell ⟨gb + 2, 1, none⟩ (.slice p2 61 c2)).heap[g]? = wr.heap[g]?
        rw [e _ _ _ _ (by omega), e _ _ _ _ (by omega), e _ _ _ _ (by omega), e _ _ _ _ (by omega), e _ _ _ _ (by omega)]
      refine ⟨q, p1, p2, d, c1, c2, rfl, (HON.out.kept (fun g hg => same g (HON.out.lt g hg).1)).mono (by have := HE.out; omega), (HO1.out.kept (fun g hg => same g (HO1.out.lt g hg).1)).ints, (HO2.out.kept (fun g hg => same g (HO2.out.lt g hg).1)).ints, ext_of ?_⟩
      have hB := HBV.out.trans (HBL2.out.mono (show w.heap.size ≤ gb + 3 by have := HE.out; omega))
      have hE := HE.out
      refine Below.drew ?_
      (repeat (first | (with_reducible exact Below.refl _ _) | (with_reducible assumption) | ((with_reducible refine below_ext_trans ?_ ?_ _); rotate_left; focus (((try dsimp only); repeat (first | omega | simp only [World.size_alloc, World.size_setCell, World.size_drew] | (with_reducible refine le_ext_of ?_) | (with_reducible refine le_ext_add ?_))); done)) | ((with_reducible refine Below.alloc ?_ ?_ _); rotate_left; focus (((try dsimp only); repeat (first | omega | simp only [World.size_alloc, World.size_setCell, World.size_drew] | (with_reducible refine le_ext_of ?_) | (with_reducible refine le_ext_add ?_))); done)) | ((with_reducible refine Below.setCell ?_ ?_ _); rotate_left; focus (((try dsimp only); repeat (first | omega | simp only [World.size_alloc, World.size_setCell, World.size_drew] | (with_reducible refine le_ext_of ?_) | (with_reducible refine le_ext_add ?_))); done)) | (with_reducible refine Below.drew ?_)))
end Go.Proofs.YtamknmgplhaciaaDoor

