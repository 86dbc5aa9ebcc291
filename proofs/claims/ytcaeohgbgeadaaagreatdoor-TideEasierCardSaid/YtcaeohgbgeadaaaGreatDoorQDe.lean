/- Package tide: can a tide come next in a plan behind another one. -/
/- Package tide: is the hour of the plan one, and are all notes known then? -/
/- Package tide: are all tides valid, each later than the one before it? -/
import Derived.Test.YtcaeohgbgeadaaaGreatDoorQDa
import Derived.BigQuiet
set_option linter.unusedSimpArgs false
set_option linter.unusedVariables false
namespace Go.Proofs.YtcaeohgbgeadaaaGreatDoor
open Go Go.RowKit
/-- A book of tides. -/
structure Tk where
  q : Sn
  now : Int
  ts : List Lw
  glo : Int
  ghi : Int
  most : Int
  rest : Int
/-- Where the lists of a book lie. -/
structure Tp where
  np : Option Addr
  nc : Nat
  tp : Option Addr
  tc : Nat
/-- A book as a value. -/
def tv (b : Tk) (p : Tp) : Value := .agg #[.int .i64 b.q.lo, .int .i64 b.q.hi, .slice p.np b.q.ns.length p.nc, .int .i64 b.now, .slice p.tp b.ts.length p.tc, .int .i64 b.glo, .int .i64 b.ghi, .int .i64 b.most, .int .i64 b.rest]
theorem followsB_at {ts : List Lw} {i j : Nat} {s t : Lw} (rest : Int) (hs : ts[i]? = some s) (ht : ts[j]? = some t) : followsB ts rest i j = (decide ((i : Int) < j) && decide (rest ≤ t.hour - s.hour)) := by
  unfold followsB
  simp [hs, ht]
theorem bel_drewN {B : Nat} {a w : World} (h : Below B a w) (n : Nat) : Below B a (w.drewN n) := h.trans ⟨rfl, rfl, rfl, Nat.le_refl _, fun _ _ => rfl⟩
attribute [local go_sem] Oper.semAt_some frozen_alloc_lt
set_option maxHeartbeats 1000000 in
theorem follows_any (b : Tk) (p : Tp) (i j : Nat) (s t : Lw) (w : World) (hl : LowsAt w p.tp b.ts) (hs : b.ts[i]? = some s) (ht : b.ts[j]? = some t) (h1 : 0 ≤ s.hour ∧ s.hour ≤ 60) (h2 : 0 ≤ t.hour ∧ t.hour ≤ 60) :
    Calls Tryz.prog 104 #[tv b p, .int .i64 i, .int .i64 j] w fun e w' => e = .returned (.bool (followsB b.ts b.rest i j)) ∧ ∃ x, w' = ext w x := by
  rw [followsB_at b.rest hs ht]
  obtain ⟨b1, o1, hp, hb1, cs, -⟩ := hl i s hs
  obtain ⟨b2, o2, hp2, hb2, ct, -⟩ := hl j t ht
  obtain ⟨rfl, rfl⟩ : b1 = b2 ∧ o1 = o2 := by rw [hp] at hp2; injection hp2 with h; injection h with h h'; exact ⟨h, h'⟩
  have li : i < b.ts.length := (List.getElem?_eq_some_iff.1 hs).1
  have lj : j < b.ts.length := (List.getElem?_eq_some_iff.1 ht).1
  have i0 : (0 : Int) ≤ (i : Int) := by omega
  have i1 : (i : Int) < (b.ts.length : Int) := by omega
  have j0 : (0 : Int) ≤ (j : Int) := by omega
  have j1 : (j : Int) < (b.ts.length : Int) := by omega
  have ew : IntKind.i64.wrap (t.hour - s.hour) = t.hour - s.hour := IntWalk.i64_in _ (by omega)
  have ew' : wrap64 (t.hour - s.hour) = t.hour - s.hour := by unfold wrap64; omega
  unfold tv
  rw [hp]
  clear hp hp2 hb2 hl hs ht
  by_cases h : (i : Int) < (j : Int)
  · have h' : decide ((i : Int) < (j : Int)) = true := by simpa using h
    rw [h']
    go_enter Tryz.func104, Tryz.ntmps104
    go_upto_region 1 with fail
    generalize hW : w.alloc _ = W
    have hB : Below w.heap.size w W := by rw [← hW]; (exact belA)
    have kS : Blk W w.heap.size 81 #[.int .i64 b.q.lo, .int .i64 b.q.hi, .slice p.np b.q.ns.length p.nc, .int .i64 b.now, .slice (some ⟨b1, o1, none⟩) b.ts.length p.tc, .int .i64 b.glo, .int .i64 b.ghi, .int .i64 b.most, .int .i64 b.rest] := by rw [← hW]; exact Blk.new rfl
    have c4 := kS.cell 4
    have c8 := kS.cell 8
    have lS := kS.lt
    have cs' := (hB.cell (p := ⟨b1, _, none⟩) hb1).trans cs
    have ct' := (hB.cell (p := ⟨b1, _, none⟩) hb1).trans ct
    have lB := Nat.lt_of_lt_of_le hb1 hB.size
    simp only [List.size_toArray, List.length_cons, List.length_nil, Nat.reduceAdd, Nat.reduceLT, getElem?_pos, List.getElem_toArray, List.getElem_cons_zero, List.getElem_cons_succ] at c4 c8
    have HB := Lib.hid hB
    clear hW hB kS cs ct
    go_quiet (fail)
    go_wp2_with fail
    go_ret
    exact ⟨by simp, ext_of (bel_drewN HB.out _)⟩
  · have h' : decide ((i : Int) < (j : Int)) = false := by simpa using h
    rw [h']
    go_enter Tryz.func104, Tryz.ntmps104
    go_upto_region 1 with fail
    go_quiet (fail)
    go_wp2_with fail
    go_ret
    exact ⟨by simp, ext_of (bel_drewN belA _)⟩
end Go.Proofs.YtcaeohgbgeadaaaGreatDoor

namespace Go.Proofs.YtcaeohgbgeadaaaGreatDoor
open Go Go.RowKit
/-- The hour of the last note is not behind the plan's. -/
def lastB (l : List Nt) (now : Int) : Bool := match l[l.length - 1]? with
  | some s => decide (s.hour ≤ now)
  | none => true
def nowB (b : Tk) : Bool := inT b.now 0 60 && lastB b.q.ns b.now
theorem lastB_at {l : List Nt} {now : Int} {s : Nt} (h : l[l.length - 1]? = some s) : lastB l now = decide (s.hour ≤ now) := by unfold lastB; rw [h]
theorem lastB_nil (now : Int) : lastB [] now = true := rfl
/-- A book of tides lies in memory. -/
structure TAtT (w : World) (b : Tk) (p : Tp) : Prop where
  ns : NotesAt w p.np b.q.ns
  ts : LowsAt w p.tp b.ts
theorem TAtT.below {w w' : World} {b : Tk} {p : Tp} (h : TAtT w b p) (hb : Below w.heap.size w w') : TAtT w' b p := ⟨h.ns.below hb, h.ts.below hb⟩
attribute [local go_sem] Oper.semAt_some frozen_alloc_lt
/-- The nine cells of a book. -/
def tcs (b : Tk) (p : Tp) : Array Value := #[.int .i64 b.q.lo, .int .i64 b.q.hi, .slice p.np b.q.ns.length p.nc, .int .i64 b.now, .slice p.tp b.ts.length p.tc, .int .i64 b.glo, .int .i64 b.ghi, .int .i64 b.most, .int .i64 b.rest]
theorem quiet_sameT {f : FuncId} {args : Array Value} {w : World} {x} {v : Value}
    (h : Calls Tryz.prog f args (ext w x) fun e w' => e = .returned v ∧ ext w x = w') : Calls Tryz.prog f args (ext w x) fun e w'' => e = .returned v ∧ ∃ z, w'' = ext w z :=
  h.mono fun _ _ ⟨he, hy⟩ => ⟨he, x, hy.symm⟩
set_option maxHeartbeats 1000000 in
theorem validNow_any (b : Tk) (p : Tp) (w : World) (hl : NotesAt w p.np b.q.ns) (hn : Hid (b.q.ns.length ≤ 9223372036854775807)) :
    Calls Tryz.prog 105 #[tv b p] w fun e w' => e = .returned (.bool (nowB b)) ∧ ∃ x, w' = ext w x := by
  unfold nowB tv
  cases h1 : inT b.now 0 60
  · have H := Lib.hid h1
    clear h1
    rw [Bool.false_and]
    go_enter Tryz.func105, Tryz.ntmps105
    go_upto_region 2 with fail
    refine wp_region_ext (by kernel_rfl) (by kernel_rfl) ?_
    repeat (go_big_quiet_step (first | (go_at_call 102; exact quiet_sameT (tWithin_eq _ _ _ _ _ H.out)) | fail))
    (refine wpQuiet_nil ?_; rintro _ ⟨x, rfl⟩)
    go_wp2_with fail
    go_ret
    exact ⟨by simp, by (exact ext_of (by (exact belA)))⟩
  · have H := Lib.hid h1
    have hb := of_inT h1
    clear h1
    rw [Bool.true_and]
    by_cases he : b.q.ns.length = 0
    · have HR := Lib.hid (show lastB b.q.ns b.now = true by rw [List.length_eq_zero_iff.1 he]; rfl)
      have he' : ((b.q.ns.length : Int) == 0) = true := by simp [he]
      go_enter Tryz.func105, Tryz.ntmps105
      go_upto_region 2 with fail
      refine wp_region_ext (by kernel_rfl) (by kernel_rfl) ?_
      repeat (go_big_quiet_step (first | (go_at_call 102; exact quiet_sameT (tWithin_eq _ _ _ _ _ H.out)) | fail))
      (refine wpQuiet_nil ?_; rintro _ ⟨x, rfl⟩)
      go_wp2_with fail
      go_ret
      exact ⟨by rw [HR.out]; simp [he], by (exact ext_of (by (exact belA)))⟩
    · obtain ⟨s, hs⟩ := get_some b.q.ns (b.q.ns.length - 1) (by omega)
      have HR := Lib.hid (lastB_at (now := b.now) hs)
      obtain ⟨b1, o1, hp, hb1, -, cs, -⟩ := hl _ s hs
      have he' : ((b.q.ns.length : Int) == 0) = false := by rw [beq_eq_false_iff_ne]; omega
      have l0 : (0 : Int) ≤ (b.q.ns.length : Int) - 1 := by omega
      have l1 : (b.q.ns.length : Int) - 1 < (b.q.ns.length : Int) := by omega
      have ew : IntKind.i64.wrap ((b.q.ns.length : Int) - 1) = (b.q.ns.length : Int) - 1 := IntWalk.i64_in _ (by have := hn.out; omega)
      have et : ((b.q.ns.length : Int) - 1).toNat = b.q.ns.length - 1 := by omega
      rw [hp]
      go_enter Tryz.func105, Tryz.ntmps105
      go_upto_region 2 with fail
      generalize hW : w.alloc _ = W
      have hB : Below w.heap.size w W := by rw [← hW]; (exact belA)
      have kS : Blk W w.heap.size 29 #[.int .i64 b.q.lo, .int .i64 b.q.hi, .slice (some ⟨b1, o1, none⟩) b.q.ns.length p.nc, .int .i64 b.now, .slice p.tp b.ts.length p.tc, .int .i64 b.glo, .int .i64 b.ghi, .int .i64 b.most, .int .i64 b.rest] := by rw [← hW]; exact Blk.new rfl
      have c3 := kS.cell 3
      have lS := kS.lt
      have cs' := (hB.cell (p := ⟨b1, _, none⟩) hb1).trans cs
      have lB := Nat.lt_of_lt_of_le hb1 hB.size
      simp only [List.size_toArray, List.length_cons, List.length_nil, Nat.reduceAdd, Nat.reduceLT, getElem?_pos, List.getElem_toArray, List.getElem_cons_zero, List.getElem_cons_succ] at c3
      have HB := Lib.hid hB
      clear hW hB kS cs hl hs
      refine wp_region_ext (by kernel_rfl) (by kernel_rfl) ?_
      repeat (go_big_quiet_step (first | (go_at_call 102; exact quiet_sameT (tWithin_eq _ _ _ _ _ H.out)) | fail))
      (refine wpQuiet_nil ?_; rintro _ ⟨x, rfl⟩)
      go_wp2_with fail
      go_ret
      exact ⟨by rw [HR.out]; simp, ext_of (HB.out.trans ((below_ext W x).mono HB.out.size))⟩
end Go.Proofs.YtcaeohgbgeadaaaGreatDoor

namespace Go.Proofs.YtcaeohgbgeadaaaGreatDoor
open Go Go.RowKit
def tidesB (b : Tk) : Bool := decide (b.ts.length ≤ 6) && chainT b.now b.ts
theorem chainT_get {ts : List Lw} {now : Int} {k : Nat} {s : Lw} (h : ts[k]? = some s) (h1 : chainT now ts = chainT (fromT now ts k) (ts.drop k)) :
    chainT now ts = (inT s.hour (fromT now ts k) 60 && spanT s.lo s.hi 0 99 && chainT (s.hour + 1) (ts.drop (k + 1))) := by
  rw [h1, drop_of_get h]; rfl
theorem fromT_get {ts : List Lw} {now : Int} {k : Nat} {s : Lw} (h : ts[k]? = some s) : fromT now ts (k + 1) = s.hour + 1 := by simp [fromT, h]
attribute [local go_sem] Oper.semAt_some frozen_alloc_lt
set_option maxRecDepth 100000 in
set_option maxHeartbeats 2000000 in
theorem validTides_any (b : Tk) (p : Tp) (w : World) (hl : LowsAt w p.tp b.ts) (hn : 0 ≤ b.now ∧ b.now ≤ 60) :
    Calls Tryz.prog 106 #[tv b p] w fun e w' => e = .returned (.bool (tidesB b)) ∧ ∃ x, w' = ext w x := by
  unfold tidesB tv
  by_cases h6 : b.ts.length ≤ 6
  · rw [decide_eq_true h6, Bool.true_and]
    have hd : decide ((6 : Int) < (b.ts.length : Int)) = false := by simp; omega
    have HL := Lib.hid hl
    clear hl
    go_enter Tryz.func106, Tryz.ntmps106
    go_upto_region 5 with fail
    clear hd
    go_loopw [3, 15] (fun x i wr => ∃ (k : Nat) (v : Int), k ≤ b.ts.length ∧ i = .int .i64 k ∧ x = .int .i64 v ∧ Hid (0 ≤ v ∧ v ≤ 100) ∧ Hid (fromT b.now b.ts k = v) ∧ Hid (chainT b.now b.ts = chainT (fromT b.now b.ts k) (b.ts.drop k)) ∧ ∃ x, wr = ext w x) (fun _ i _ => b.ts.length - (intOf i).toNat)
    case atStart => exact ⟨0, b.now, by omega, rfl, rfl, Lib.hid ⟨hn.1, by omega⟩, Lib.hid rfl, Lib.hid rfl, by (exact ext_of (by (exact belA)))⟩
    case round =>
      obtain ⟨k, v, hk, rfl, rfl, HD, HV, HC, x, rfl⟩ := hrel
      by_cases hlt : k < b.ts.length
      · obtain ⟨⟨hr, lo, hi⟩, ht⟩ := get_some b.ts k hlt
        obtain ⟨b1, o1, hp, hb, c1, c2, c3⟩ := (HL.out.ext x) k _ ht
        dsimp only at c1 c2 c3
        rw [hp] at *
        have HA := Lib.hid (chainT_get ht HC.out)
        have HP := Lib.hid (show fromT b.now b.ts (k + 1) = hr + 1 from fromT_get ht)
        have k0 : (0 : Int) ≤ (k : Int) := by omega
        have k1 : (k : Int) < (b.ts.length : Int) := by omega
        have HW := Lib.hid (wrap_num k (by omega))
        have hBx := below_ext w x
        generalize ext w x = V at *
        have HBx := Lib.hid hBx
        clear ht hBx
        obtain ⟨q1, hq1⟩ : ∃ q, inT hr v 60 = q := ⟨_, rfl⟩
        have HQ1 := Lib.hid hq1
        obtain ⟨q2, hq2⟩ : ∃ q, spanT lo hi 0 99 = q := ⟨_, rfl⟩
        have HQ2 := Lib.hid hq2
        have HA2 := Lib.hid (show chainT b.now b.ts = (q1 && q2 && chainT (hr + 1) (b.ts.drop (k + 1))) by
          rw [HA.out, HV.out, hq1, hq2])
        clear hq1 hq2 HA
        cases q1
        · have HF := Lib.hid (show chainT b.now b.ts = false by rw [HA2.out]; simp)
          go_wp2_with (go_at_call 102; refine (tWithin_eq _ _ _ _ _ HQ1.out).mono ?_; rintro e w' ⟨rfl, rfl⟩)
          go_ret
          exact ⟨by rw [HF.out]; rfl, by refine ext_of (HBx.out.trans (Below.mono ?_ HBx.out.size)); (exact belA)⟩
        · cases q2
          · have HF := Lib.hid (show chainT b.now b.ts = false by rw [HA2.out]; simp)
            go_wp2_with (first
              | (go_at_call 102; refine (tWithin_eq _ _ _ _ _ HQ1.out).mono ?_; rintro e w' ⟨rfl, rfl⟩)
              | (go_at_call 107; refine (tSpan_eq _ _ _ _ _ _ (by decide) (by decide) HQ2.out).mono ?_; rintro e w' ⟨rfl, y, rfl⟩))
            go_ret
            exact ⟨by rw [HF.out]; rfl, by refine ext_of (HBx.out.trans (Below.mono ?_ HBx.out.size)); (exact belA)⟩
          · have HC2 := Lib.hid (show chainT b.now b.ts = chainT (fromT b.now b.ts (k + 1)) (b.ts.drop (k + 1)) by rw [HA2.out, HP.out]; simp)
            have hq := of_inT HQ1.out
            have hv := HD.out
            have HX := Lib.hid (show wrap64 (hr + 1) = hr + 1 by unfold wrap64; omega)
            have HE := Lib.hid (show 0 ≤ hr + 1 ∧ hr + 1 ≤ 100 by omega)
            clear hq hv
            go_wp2_with (first
              | (go_at_call 102; refine (tWithin_eq _ _ _ _ _ HQ1.out).mono ?_; rintro e w' ⟨rfl, rfl⟩)
              | (go_at_call 107; refine (tSpan_eq _ _ _ _ _ _ (by decide) (by decide) HQ2.out).mono ?_; rintro e w' ⟨rfl, y, rfl⟩))
            try rw [HW.out]
            rw [HX.out]
            exact ⟨⟨k + 1, hr + 1, hlt, rfl, rfl, HE, HP, HC2, by refine ext_of (HBx.out.trans (Below.mono ?_ HBx.out.size)); (exact belA)⟩, less_num _ k hlt⟩
      · obtain rfl : k = b.ts.length := by omega
        have HT := Lib.hid (show chainT b.now b.ts = true by rw [HC.out, List.drop_length]; rfl)
        go_wp2_with fail
        go_ret
        exact ⟨by rw [HT.out]; rfl, by (exact ext_of (by (exact belA)))⟩
  · rw [decide_eq_false h6, Bool.false_and]
    have hd : decide ((6 : Int) < (b.ts.length : Int)) = true := by simp; omega
    clear hl
    go_enter Tryz.func106, Tryz.ntmps106
    go_wp2_with fail
    go_ret
    exact ⟨rfl, by (exact ext_of (by (exact belA)))⟩
end Go.Proofs.YtcaeohgbgeadaaaGreatDoor

