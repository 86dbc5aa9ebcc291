/- Package tide: Check; is something so of each two that follow each other in a plan? -/
/- Package tide: what makes a plan. -/
import Derived.Test.YtcaeohgbgeadaaaGreatDoorQNa
set_option linter.unusedSimpArgs false
set_option linter.unusedVariables false
namespace Go.Proofs.YtcaeohgbgeadaaaGreatDoor
open Go Go.RowKit Go.Shelf
theorem tvalidBook_eq (b : Tk) (p : Tp) (q : Bool) (w : World) (hk : TB w b p) (hn : Hid (b.q.ns.length ≤ 9223372036854775807)) (hq : validB b = q) :
    Calls Tryz.prog 62 #[tv b p] w fun e w' => e = .returned (.bool q) ∧ ∃ x, w' = ext w x := by
  subst hq; exact tvalidBook_any b p w hk hn
attribute [local go_sem] Oper.semAt_some frozen_alloc_lt
set_option maxHeartbeats 1000000 in
theorem tCheck_any (b : Tk) (p : Tp) (w : World) (hk : TB w b p) (hn : Hid (b.q.ns.length ≤ 9223372036854775807)) :
    Calls Tryz.prog 17 #[tv b p] w fun e w' => e = .returned (.int .i64 (if validB b then 0 else 40)) ∧ ∃ x, w' = ext w x := by
  have HK := Lib.hid hk
  clear hk
  cases hv : validB b
  · have HV := Lib.hid hv
    clear hv
    unfold tv
    go_enter Tryz.func17, Tryz.ntmps17
    go_wp2_with (go_at_call 62; refine (tvalidBook_eq b p _ _ (HK.out.bel belA) hn HV.out).mono ?_; rintro e w1 ⟨rfl, y, rfl⟩)
    go_ret
    exact ⟨rfl, by (exact ext_of (by (exact belA)))⟩
  · have HV := Lib.hid hv
    clear hv
    unfold tv
    go_enter Tryz.func17, Tryz.ntmps17
    go_wp2_with (go_at_call 62; refine (tvalidBook_eq b p _ _ (HK.out.bel belA) hn HV.out).mono ?_; rintro e w1 ⟨rfl, y, rfl⟩)
    go_ret
    exact ⟨rfl, by (exact ext_of (by (exact belA)))⟩
theorem tCheck_eq (b : Tk) (p : Tp) (q : Bool) (w : World) (hk : TB w b p) (hn : Hid (b.q.ns.length ≤ 9223372036854775807)) (hq : validB b = q) :
    Calls Tryz.prog 17 #[tv b p] w fun e w' => e = .returned (.int .i64 (if q then 0 else 40)) ∧ ∃ x, w' = ext w x := by
  subst hq; exact tCheck_any b p w hk hn
/-- As eachB, from somewhere on. -/
def eachP (f : Int → Int → Bool) : Option Int → List Int → Bool
  | _, [] => true
  | none, x :: l => eachP f (some x) l
  | some a, x :: l => f a x && eachP f (some x) l
theorem eachP_some (f : Int → Int → Bool) : ∀ (l : List Int) (a : Int), eachP f (some a) l = eachB f (a :: l)
  | [], _ => rfl
  | x :: l, a => by unfold eachP eachB; rw [eachP_some f l x]
theorem eachP_none (f : Int → Int → Bool) : ∀ (l : List Int), eachP f none l = eachB f l
  | [] => rfl
  | x :: l => by rw [← eachP_some]; rfl
def prevN (l : List Int) : Nat → Option Int
  | 0 => none
  | k + 1 => l[k]?
theorem follows_eq (b : Tk) (p : Tp) (i j : Int) (q : Bool) (w : World) (hl : LowsAt w p.tp b.ts) (hh : ∀ s ∈ b.ts, 0 ≤ s.hour ∧ s.hour ≤ 60) (hi : inT i 0 ((b.ts.length : Int) - 1) = true) (hj : inT j 0 ((b.ts.length : Int) - 1) = true) (hq : followsB b.ts b.rest i j = q) :
    Calls Tryz.prog 104 #[tv b p, .int .i64 i, .int .i64 j] w fun e w' => e = .returned (.bool q) ∧ ∃ x, w' = ext w x := by
  subst hq
  have h1 := of_inT hi
  have h2 := of_inT hj
  obtain ⟨m, rfl⟩ := Int.eq_ofNat_of_zero_le h1.1
  obtain ⟨n, rfl⟩ := Int.eq_ofNat_of_zero_le h2.1
  obtain ⟨s, hs⟩ := get_some b.ts m (by omega)
  obtain ⟨t, ht⟩ := get_some b.ts n (by omega)
  exact follows_any b p m n s t w hl hs ht (hh s (List.mem_of_getElem? hs)) (hh t (List.mem_of_getElem? ht))
set_option maxRecDepth 100000 in
set_option maxHeartbeats 2000000 in
theorem eachNext_any (b : Tk) (p : Tp) (pp : Option Addr) (pc : Nat) (pl : List Int) (w : World) (hl : LowsAt w p.tp b.ts) (hh : ∀ s ∈ b.ts, 0 ≤ s.hour ∧ s.hour ≤ 60) (hp : IntsAt w pp pl) (hlen : pl.length ≤ 1000) (hin : ∀ x ∈ pl, inT x 0 ((b.ts.length : Int) - 1) = true) :
    Calls Tryz.prog 103 #[.slice pp pl.length pc, .func (.func 104) #[tv b p] #[]] w fun e w' => e = .returned (.bool (eachB (followsB b.ts b.rest) pl)) ∧ ∃ x, w' = ext w x := by
  rw [← eachP_none]
  have HL := Lib.hid hl
  have HP := Lib.hid hp
  have HH := Lib.hid hh
  have HI := Lib.hid hin
  clear hl hp hh hin
  go_enter Tryz.func103, Tryz.ntmps103
  go_upto_region 2 with fail
  go_loopw [9] (fun i wr => ∃ (k : Nat), k ≤ pl.length ∧ i = .int .i64 k ∧ Hid (eachP (followsB b.ts b.rest) none pl = eachP (followsB b.ts b.rest) (prevN pl k) (pl.drop k)) ∧ ∃ x, wr = ext w x) (fun i _ => pl.length - (intOf i).toNat)
  case atStart => exact ⟨0, by omega, rfl, Lib.hid rfl, by (exact ext_of (by (exact belA)))⟩
  case round =>
    obtain ⟨k, hk, rfl, HC, x, rfl⟩ := hrel
    by_cases hlt : k < pl.length
    · obtain ⟨tn, ht⟩ := get_some pl k hlt
      obtain ⟨b0, o0, hpp, hb0, c0⟩ := (HP.out.ext x) k _ ht
      have hD := drop_of_get ht
      have hX : inT tn 0 ((b.ts.length : Int) - 1) = true := HI.out tn (List.mem_of_getElem? ht)
      have HX := Lib.hid hX
      have hN : prevN pl (k + 1) = some tn := ht
      have k0 : (0 : Int) ≤ (k : Int) := by omega
      have k1 : (k : Int) < (pl.length : Int) := by omega
      have HW := Lib.hid (wrap_num k (by omega))
      rw [hpp]
      by_cases hz : k = 0
      · subst hz
        have HC2 := Lib.hid (show eachP (followsB b.ts b.rest) none pl = eachP (followsB b.ts b.rest) (prevN pl 1) (pl.drop 1) by have h1 := HC.out; rw [show pl.drop 0 = tn :: pl.drop 1 from hD] at h1; rw [h1, show prevN pl 1 = some tn from hN]; rfl)
        clear hD hN ht hX
        simp only [Nat.add_zero] at c0
        go_wp2_with fail
        exact ⟨⟨1, hlt, rfl, HC2, by (exact ext_of (by (exact belA)))⟩, less_num _ 0 hlt⟩
      · obtain ⟨m, rfl⟩ : ∃ m, k = m + 1 := ⟨k - 1, by omega⟩
        obtain ⟨am, hm⟩ := get_some pl m (by omega)
        obtain ⟨b9, o9, hp9, hb9, c9⟩ := (HP.out.ext x) m _ hm
        obtain ⟨rfl, rfl⟩ : b0 = b9 ∧ o0 = o9 := by rw [hpp] at hp9; injection hp9 with h; injection h with h h'; exact ⟨h, h'⟩
        have HM := Lib.hid (HI.out am (List.mem_of_getElem? hm))
        obtain ⟨q, hq⟩ : ∃ q, followsB b.ts b.rest am tn = q := ⟨_, rfl⟩
        have HQ := Lib.hid hq
        have HS := Lib.hid (show eachP (followsB b.ts b.rest) none pl = (q && eachP (followsB b.ts b.rest) (prevN pl (m + 1 + 1)) (pl.drop (m + 1 + 1))) by
          rw [HC.out, hD, hN, show prevN pl (m + 1) = some am from hm, ← hq]; rfl)
        have hz0 : decide ((0 : Int) < ((m + 1 : Nat) : Int)) = true := decide_eq_true (by omega)
        have ew : IntKind.i64.wrap (((m + 1 : Nat) : Int) - 1) = (m : Int) := by rw [show ((m + 1 : Nat) : Int) - 1 = (m : Int) by omega]; exact IntWalk.i64_in _ (by omega)
        have ew' : wrap64 (((m + 1 : Nat) : Int) - 1) = (m : Int) := by unfold wrap64; omega
        have em : ((m + 1 : Nat) : Int) - 1 = (m : Int) := by omega
        have m0 : (0 : Int) ≤ (m : Int) := by omega
        have m1 : (m : Int) < (pl.length : Int) := by omega
        clear hD hN ht hX hm hq hp9
        cases q
        · have HF := Lib.hid (show eachP (followsB b.ts b.rest) none pl = false by rw [HS.out]; rfl)
          go_wp2_with (go_at_call 104; refine (follows_eq b p am tn _ _ (HL.out.below belA) HH.out HM.out HX.out HQ.out).mono ?_; rintro e w1 ⟨rfl, y, rfl⟩)
          go_ret
          exact ⟨by rw [HF.out]; rfl, by (exact ext_of (by (exact belA)))⟩
        · have HF := Lib.hid (show eachP (followsB b.ts b.rest) none pl = eachP (followsB b.ts b.rest) (prevN pl (m + 1 + 1)) (pl.drop (m + 1 + 1)) by rw [HS.out]; rfl)
          go_wp2_with (go_at_call 104; refine (follows_eq b p am tn _ _ (HL.out.below belA) HH.out HM.out HX.out HQ.out).mono ?_; rintro e w1 ⟨rfl, y, rfl⟩)
          try rw [HW.out]
          exact ⟨⟨m + 1 + 1, hlt, rfl, HF, by (exact ext_of (by (exact belA)))⟩, less_num _ (m + 1) hlt⟩
    · obtain rfl : k = pl.length := by omega
      have HZ := Lib.hid (show eachP (followsB b.ts b.rest) none pl = true by rw [HC.out, List.drop_length]; cases prevN pl pl.length <;> rfl)
      go_wp2_with fail
      go_ret
      exact ⟨by rw [HZ.out]; rfl, by (exact ext_of (by (exact belA)))⟩
end Go.Proofs.YtcaeohgbgeadaaaGreatDoor

namespace Go.Proofs.YtcaeohgbgeadaaaGreatDoor
open Go Go.RowKit Go.Shelf
attribute [local go_sem] Oper.semAt_some frozen_alloc_lt
theorem eachNext_eq (b : Tk) (p : Tp) (pp : Option Addr) (pc : Nat) (pl : List Int) (q : Bool) (w : World) (hl : LowsAt w p.tp b.ts) (hh : ∀ s ∈ b.ts, 0 ≤ s.hour ∧ s.hour ≤ 60) (hp : IntsAt w pp pl) (hlen : pl.length ≤ 1000) (hin : ∀ x ∈ pl, inT x 0 ((b.ts.length : Int) - 1) = true) (hq : eachB (followsB b.ts b.rest) pl = q) :
    Calls Tryz.prog 103 #[.slice pp pl.length pc, .func (.func 104) #[tv b p] #[]] w fun e w' => e = .returned (.bool q) ∧ ∃ x, w' = ext w x := by
  subst hq; exact eachNext_any b p pp pc pl w hl hh hp hlen hin
set_option maxRecDepth 100000 in
set_option maxHeartbeats 2000000 in
theorem isPlan_any (b : Tk) (p : Tp) (pp : Option Addr) (pc : Nat) (pl : List Int) (w : World) (hl : LowsAt w p.tp b.ts) (hh : ∀ s ∈ b.ts, 0 ≤ s.hour ∧ s.hour ≤ 60) (hp : IntsAt w pp pl) (hlen : pl.length ≤ 1000) (h6 : b.ts.length ≤ 6) :
    Calls Tryz.prog 60 #[tv b p, .slice pp pl.length pc] w fun e w' => e = .returned (.bool (planB b.ts b.most b.rest pl)) ∧ ∃ x, w' = ext w x := by
  have HL := Lib.hid hl
  have HP := Lib.hid hp
  have HH := Lib.hid hh
  clear hl hp hh
  unfold planB
  by_cases hm : (pl.length : Int) ≤ b.most
  · rw [decide_eq_true hm, Bool.true_and]
    have hd : decide (b.most < (pl.length : Int)) = false := decide_eq_false (by omega)
    unfold tv
    go_enter Tryz.func60, Tryz.ntmps60
    go_upto_region 4 with fail
    clear hd
    generalize hW : w.alloc _ = W
    have hB : Below w.heap.size w W := by rw [← hW]; (exact belA)
    have kS : Blk W w.heap.size 81 (tcs b p) := by rw [← hW]; exact Blk.new rfl
    have HB := Lib.hid hB
    have KS := Lib.hid kS
    clear hW hB kS
    go_loopw [15] (fun i wr => ∃ (k : Nat), k ≤ pl.length ∧ i = .int .i64 k ∧ Hid (pl.all (fun t => inT t 0 ((b.ts.length : Int) - 1)) = (pl.drop k).all (fun t => inT t 0 ((b.ts.length : Int) - 1))) ∧ Hid (∀ x ∈ pl.take k, inT x 0 ((b.ts.length : Int) - 1) = true) ∧ Hid (Blk wr w.heap.size 81 (tcs b p)) ∧ Hid (Below w.heap.size w wr)) (fun i _ => pl.length - (intOf i).toNat)
    case atStart => exact ⟨0, by omega, rfl, Lib.hid rfl, Lib.hid (by simp), KS, HB⟩
    case round =>
      obtain ⟨k, hk, rfl, HC, HT, KS, HB⟩ := hrel
      have c0 := KS.out.cell 0
      have c1 := KS.out.cell 1
      have c2 := KS.out.cell 2
      have c3 := KS.out.cell 3
      have c4 := KS.out.cell 4
      have c5 := KS.out.cell 5
      have c6 := KS.out.cell 6
      have c7 := KS.out.cell 7
      have c8 := KS.out.cell 8
      have lS := KS.out.lt
      unfold tcs at c0 c1 c2 c3 c4 c5 c6 c7 c8
      simp only [List.size_toArray, List.length_cons, List.length_nil, Nat.reduceAdd, Nat.reduceLT, getElem?_pos, List.getElem_toArray, List.getElem_cons_zero, List.getElem_cons_succ] at c0 c1 c2 c3 c4 c5 c6 c7 c8
      have ew : IntKind.i64.wrap ((b.ts.length : Int) - 1) = (b.ts.length : Int) - 1 := IntWalk.i64_in _ (by omega)
      have ew' : wrap64 ((b.ts.length : Int) - 1) = (b.ts.length : Int) - 1 := by unfold wrap64; omega
      by_cases hlt : k < pl.length
      · obtain ⟨tn, ht⟩ := get_some pl k hlt
        obtain ⟨b0, o0, hpp, hb0, d0⟩ := (HP.out.below HB.out) k _ ht
        have hD := drop_of_get ht
        have k0 : (0 : Int) ≤ (k : Int) := by omega
        have k1 : (k : Int) < (pl.length : Int) := by omega
        have HW := Lib.hid (wrap_num k (by omega))
        obtain ⟨q, hq⟩ : ∃ q, inT tn 0 ((b.ts.length : Int) - 1) = q := ⟨_, rfl⟩
        have HQ := Lib.hid hq
        have HC2 := Lib.hid (show pl.all (fun t => inT t 0 ((b.ts.length : Int) - 1)) = (q && (pl.drop (k + 1)).all (fun t => inT t 0 ((b.ts.length : Int) - 1))) by rw [HC.out, hD, List.all_cons, hq])
        have HT2 := Lib.hid (show q = true → ∀ x ∈ pl.take (k + 1), inT x 0 ((b.ts.length : Int) - 1) = true by
          intro e x hx
          rw [List.take_add_one, ht, Option.toList_some, List.mem_append, List.mem_singleton] at hx
          rcases hx with hx | rfl
          · exact HT.out x hx
          · rw [hq, e])
        rw [hpp]
        clear hD ht hq
        cases q
        · have HF := Lib.hid (show pl.all (fun t => inT t 0 ((b.ts.length : Int) - 1)) = false by rw [HC2.out]; rfl)
          go_wp2_with (go_at_call 102; refine (tWithin_eq _ _ _ _ _ HQ.out).mono ?_; rintro e w1 ⟨rfl, rfl⟩)
          go_ret
          exact ⟨by rw [HF.out]; rfl, ext_of HB.out⟩
        · have HF := Lib.hid (show pl.all (fun t => inT t 0 ((b.ts.length : Int) - 1)) = (pl.drop (k + 1)).all (fun t => inT t 0 ((b.ts.length : Int) - 1)) by rw [HC2.out]; rfl)
          have HT3 := Lib.hid (HT2.out rfl)
          go_wp2_with (go_at_call 102; refine (tWithin_eq _ _ _ _ _ HQ.out).mono ?_; rintro e w1 ⟨rfl, rfl⟩)
          try rw [HW.out]
          exact ⟨⟨k + 1, hlt, rfl, HF, HT3, KS, HB⟩, less_num _ k hlt⟩
      · obtain rfl : k = pl.length := by omega
        have HF := Lib.hid (show pl.all (fun t => inT t 0 ((b.ts.length : Int) - 1)) = true by rw [HC.out, List.drop_length]; rfl)
        have HI := Lib.hid (show ∀ x ∈ pl, inT x 0 ((b.ts.length : Int) - 1) = true by have := HT.out; rwa [List.take_length] at this)
        obtain ⟨q, hq⟩ : ∃ q, eachB (followsB b.ts b.rest) pl = q := ⟨_, rfl⟩
        have HQ := Lib.hid hq
        have HZ := Lib.hid (show (pl.all (fun t => inT t 0 ((b.ts.length : Int) - 1)) && eachB (followsB b.ts b.rest) pl) = q by rw [HF.out, hq]; rfl)
        clear hq
        go_wp2_with (go_at_call 103; refine (eachNext_eq b p pp pc pl q _ (HL.out.below HB.out) HH.out (HP.out.below HB.out) hlen HI.out HQ.out).mono ?_; rintro e w1 ⟨rfl, y, rfl⟩)
        go_ret
        exact ⟨by rw [HZ.out]; rfl, ext_of (HB.out.trans ((below_ext _ _).mono HB.out.size))⟩
  · rw [decide_eq_false hm, Bool.false_and, Bool.false_and]
    have hd : decide (b.most < (pl.length : Int)) = true := decide_eq_true (by omega)
    unfold tv
    go_enter Tryz.func60, Tryz.ntmps60
    go_wp2_with fail
    go_ret
    exact ⟨rfl, by (exact ext_of (by (exact belA)))⟩
end Go.Proofs.YtcaeohgbgeadaaaGreatDoor

