/- Package tide: the ends of what is known. -/
/- Package tide: how many baskets each tide lets out, all at the same end. -/
import Derived.Test.YtcaeohgbgeadaaaGreatDoorQDn
import Derived.Test.YtcaeohgbgeadaaaGreatDoorQDr
set_option linter.unusedSimpArgs false
set_option linter.unusedVariables false
namespace Go.Proofs.YtcaeohgbgeadaaaGreatDoor
open Go Go.RowKit Go.Shelf
theorem Blk.set2 {w : World} {g : Nat} {t : TypeId} {a0 a1 : Value} (k : Blk w g t #[a0, a1]) (v0 v1 : Value) : Blk ((w.setCell ⟨g, 0, none⟩ v0).setCell ⟨g, 1, none⟩ v1) g t #[v0, v1] := by
  simpa using (k.set 0 v0).set 1 v1
/-- What an end is: which number of a span it tells. -/
def eFn (c : Bool) : Nat := if c then 196 else 160
def eF (c : Bool) : Value := .func (.func (eFn c)) #[] #[]
def eLo : Value := .func (.func 160) #[] #[]
def eHi : Value := .func (.func 196) #[] #[]
theorem lowEnd1_any (lo hi : Int) (w : World) : Calls Tryz.prog 160 #[.agg #[.int .i64 lo, .int .i64 hi]] w fun e w' => e = .returned (.int .i64 lo) ∧ ∃ x, w' = ext w x := by
  go_enter Tryz.func160, Tryz.ntmps160
  go_wp2
  go_ret
  exact ⟨rfl, by (exact ext_of (by (exact belA)))⟩
theorem highEnd1_any (lo hi : Int) (w : World) : Calls Tryz.prog 196 #[.agg #[.int .i64 lo, .int .i64 hi]] w fun e w' => e = .returned (.int .i64 hi) ∧ ∃ x, w' = ext w x := by
  go_enter Tryz.func196, Tryz.ntmps196
  go_wp2
  go_ret
  exact ⟨rfl, by (exact ext_of (by (exact belA)))⟩
theorem eFn_any (c : Bool) (lo hi : Int) (w : World) : Calls Tryz.prog (eFn c) #[.agg #[.int .i64 lo, .int .i64 hi]] w fun e w' => e = .returned (.int .i64 (endN c lo hi)) ∧ ∃ x, w' = ext w x := by
  cases c
  · exact lowEnd1_any lo hi w
  · exact highEnd1_any lo hi w
theorem eFn_enter (c : Bool) (vs : Array Value) (w : World) : (callFunc (eFn c) vs).run Tryz.prog w = .ok (.enter (eFn c) vs) w := by
  cases c
  · exact run_enter Tryz.func160 (by kernel_rfl) (by kernel_rfl) _ _
  · exact run_enter Tryz.func196 (by kernel_rfl) (by kernel_rfl) _ _
theorem lowEnd_any (w : World) : Calls Tryz.prog 124 #[] w fun e w' => e = .returned (.agg #[.func (.func 160) #[] #[]]) ∧ ∃ x, w' = ext w x := by
  go_enter Tryz.func124, Tryz.ntmps124
  go_wp2
  refine bodyPost_ret (v := .agg #[.func (.func 160) #[] #[]]) (by simp [results, Tryz.results124, go_sem]) rfl ⟨rfl, by (exact ext_of (by (exact belA)))⟩
theorem highEnd_any (w : World) : Calls Tryz.prog 181 #[] w fun e w' => e = .returned (.agg #[.func (.func 196) #[] #[]]) ∧ ∃ x, w' = ext w x := by
  go_enter Tryz.func181, Tryz.ntmps181
  go_wp2
  refine bodyPost_ret (v := .agg #[.func (.func 196) #[] #[]]) (by simp [results, Tryz.results181, go_sem]) rfl ⟨rfl, by (exact ext_of (by (exact belA)))⟩
attribute [local go_sem] Oper.semAt_some frozen_alloc_lt
set_option maxRecDepth 100000 in
set_option maxHeartbeats 2000000 in
theorem bothEnds_any (w : World) : Calls Tryz.prog 151 #[] w fun e w' => e = .returned (.agg #[.func (.func 160) #[] #[], .func (.func 196) #[] #[]]) ∧ ∃ x, w' = ext w x := by
  go_enter Tryz.func151, Tryz.ntmps151
  go_upto_region 1 with fail
  generalize hW : w.alloc _ = W
  have hB : Below w.heap.size w W := by rw [← hW]; (exact belA)
  have kR : Blk W w.heap.size 189 #[.nilFunc, .nilFunc] := by rw [← hW]; exact Blk.new rfl
  have HB := Lib.hid hB
  have KR := Lib.hid kR
  clear hW hB kR
  go_wp2_with (first
    | (go_at_call 124; refine (lowEnd_any _).mono ?_; rintro e w1 ⟨rfl, y, rfl⟩)
    | (go_at_call 181; refine (highEnd_any _).mono ?_; rintro e w1 ⟨rfl, y2, rfl⟩; have HB3 := Lib.hid ((HB.out.trans ((below_ext W y).mono HB.out.size)).trans ((below_ext (ext W y) y2).mono (Nat.le_trans HB.out.size (below_ext W y).size))); have KR3 := Lib.hid ((KR.out.ext y).ext y2); generalize ext (ext W y) y2 = W3 at *; have kR := KR3.out; obtain ⟨r0, r1⟩ := Blk.c2 kR; obtain ⟨f0, f1⟩ := Blk.f2 kR; have lR := kR.lt; clear kR))
  have kE := KR3.out.set2 (.func (.func 160) #[] #[]) (.func (.func 196) #[] #[])
  have hE := (HB3.out.setCell (p := ⟨w.heap.size, 0, none⟩) (by dsimp only; omega) (.func (.func 160) #[] #[])).setCell (p := ⟨w.heap.size, 1, none⟩) (by dsimp only; omega) (.func (.func 196) #[] #[])
  generalize hWW : World.setCell _ _ _ = WW at kE hE ⊢
  clear hWW
  have HE := Lib.hid hE
  obtain ⟨e0, e1⟩ := Blk.c2 kE
  have lE := kE.lt
  clear hE kE
  refine bodyPost_ret (v := .agg #[.func (.func 160) #[] #[], .func (.func 196) #[] #[]]) (by simp [results, Tryz.results151, go_sem, e0, e1, lE]) rfl ⟨rfl, ext_of HE.out⟩
end Go.Proofs.YtcaeohgbgeadaaaGreatDoor

namespace Go.Proofs.YtcaeohgbgeadaaaGreatDoor
open Go Go.RowKit Go.Shelf
/-- The first rooms of so many tides, and nothing behind them. -/
def rm1 (ts : List Lw) (c : Bool) (k i : Nat) : Int := if i < k then roomT ts c i else 0
def rmA (ts : List Lw) (c : Bool) (k : Nat) : Array Value := #[.int .i64 (rm1 ts c k 0), .int .i64 (rm1 ts c k 1), .int .i64 (rm1 ts c k 2), .int .i64 (rm1 ts c k 3), .int .i64 (rm1 ts c k 4), .int .i64 (rm1 ts c k 5)]
theorem rmA_set (ts : List Lw) (c : Bool) {k : Nat} (hk : k < 6) : (rmA ts c k).setIfInBounds k (.int .i64 (roomT ts c k)) = rmA ts c (k + 1) := by
  match k, hk with
  | 0, _ => simp [rmA, rm1]
  | 1, _ => simp [rmA, rm1]
  | 2, _ => simp [rmA, rm1]
  | 3, _ => simp [rmA, rm1]
  | 4, _ => simp [rmA, rm1]
  | 5, _ => simp [rmA, rm1]
  | k + 6, h => omega
theorem rmA_at (ts : List Lw) (c : Bool) (n : Nat) {k : Nat} (hk : k < 6) : (rmA ts c n)[k]? = some (.int .i64 (rm1 ts c n k)) := by
  match k, hk with
  | 0, _ => rfl
  | 1, _ => rfl
  | 2, _ => rfl
  | 3, _ => rfl
  | 4, _ => rfl
  | 5, _ => rfl
  | k + 6, h => omega
theorem rm1_end (ts : List Lw) (c : Bool) (i : Nat) : rm1 ts c ts.length i = roomT ts c i := by
  unfold rm1
  split
  · rfl
  · rename_i h
    unfold roomT
    rw [List.getElem?_eq_none (by omega)]
theorem endN_room {ts : List Lw} {c : Bool} {k : Nat} {s : Lw} (h : ts[k]? = some s) : endN c s.lo s.hi = roomT ts c k := by
  unfold roomT endN
  rw [h]
theorem Blk.set6 {w : World} {g : Nat} {t : TypeId} {a0 a1 a2 a3 a4 a5 : Value} (k : Blk w g t #[a0, a1, a2, a3, a4, a5]) (v0 v1 v2 v3 v4 v5 : Value) : Blk ((((((w.setCell ⟨g, 0, none⟩ v0).setCell ⟨g, 1, none⟩ v1).setCell ⟨g, 2, none⟩ v2).setCell ⟨g, 3, none⟩ v3).setCell ⟨g, 4, none⟩ v4).setCell ⟨g, 5, none⟩ v5) g t #[v0, v1, v2, v3, v4, v5] := by
  simpa using (((((k.set 0 v0).set 1 v1).set 2 v2).set 3 v3).set 4 v4).set 5 v5
theorem bel_set6 {n : Nat} {a w : World} {g : Nat} (h : Below n a w) (hg : n ≤ g) (v0 v1 v2 v3 v4 v5 : Value) : Below n a ((((((w.setCell ⟨g, 0, none⟩ v0).setCell ⟨g, 1, none⟩ v1).setCell ⟨g, 2, none⟩ v2).setCell ⟨g, 3, none⟩ v3).setCell ⟨g, 4, none⟩ v4).setCell ⟨g, 5, none⟩ v5) :=
  ((((((h.setCell (by dsimp only; omega) _).setCell (by dsimp only; omega) _).setCell (by dsimp only; omega) _).setCell (by dsimp only; omega) _).setCell (by dsimp only; omega) _).setCell (by dsimp only; omega) _)
/-- The rooms, as a value. -/
def rmV (ts : List Lw) (c : Bool) : Value := .agg #[.int .i64 (roomT ts c 0), .int .i64 (roomT ts c 1), .int .i64 (roomT ts c 2), .int .i64 (roomT ts c 3), .int .i64 (roomT ts c 4), .int .i64 (roomT ts c 5)]
attribute [local go_sem] Oper.semAt_some frozen_alloc_lt
set_option maxRecDepth 100000 in
set_option maxHeartbeats 4000000 in
theorem lets_false (h : Hl) (p : Tp) (w : World) (hl : LowsAt w p.tp h.b.ts) (h6 : h.b.ts.length ≤ 6) :
    Calls Tryz.prog 123 #[hlv h p, .agg #[.func (.func 160) #[] #[]]] w fun e w' => e = .returned (rmV h.b.ts false) ∧ ∃ x, w' = ext w x := by
  have HL := Lib.hid hl
  clear hl
  unfold hlv
  go_enter Tryz.func123, Tryz.ntmps123
  go_upto_region 2 with fail
  generalize hW : (((w.alloc _).alloc _).alloc _).alloc _ = W
  have hB : Below w.heap.size w W := by rw [← hW]; (exact belA)
  have hz : W.heap.size = w.heap.size + 4 := by rw [← hW]; simp
  have kB : Blk W w.heap.size 87 (hlcs h p) := by rw [← hW]; exact (((Blk.new rfl).alloc _).alloc _).alloc _
  have kE : Blk W (w.heap.size + 1) 152 #[.func (.func 160) #[] #[]] := by rw [← hW]; exact ((Blk.new (by simp)).alloc _).alloc _
  have kR : Blk W (w.heap.size + 1 + 1) 143 #[.int .i64 0, .int .i64 0, .int .i64 0, .int .i64 0, .int .i64 0, .int .i64 0] := by rw [← hW]; exact (Blk.new (by simp)).alloc _
  have kS : Blk W (w.heap.size + 1 + 1 + 1) 143 (rmA h.b.ts false 0) := by rw [← hW]; exact Blk.new (by simp)
  have HB := Lib.hid hB
  have KB := Lib.hid kB
  have KE := Lib.hid kE
  have KR := Lib.hid kR
  have KS := Lib.hid kS
  unfold hlcs at kB
  obtain ⟨c0, c1, c2, c3, c4, c5, c6, c7, c8⟩ := Blk.c9 kB
  have lB := kB.lt
  clear hW hB kB kE kR kS hz
  go_upto_region 3 with fail
  have hgE : w.heap.size ≤ w.heap.size + 1 ∧ w.heap.size + 1 ≠ w.heap.size + 1 + 1 + 1 := by omega
  have hgR : w.heap.size ≤ w.heap.size + 1 + 1 ∧ w.heap.size + 1 + 1 ≠ w.heap.size + 1 + 1 + 1 := by omega
  have hgS : w.heap.size ≤ w.heap.size + 1 + 1 + 1 := by omega
  generalize w.heap.size + 1 + 1 + 1 = gS at *
  generalize w.heap.size + 1 + 1 = gR at *
  generalize w.heap.size + 1 = gE at *
  clear c0 c1 c2 c3 c4 c5 c6 c7 c8 lB
  go_loopw [13] (fun i wr => ∃ (k : Nat), k ≤ h.b.ts.length ∧ i = .int .i64 k ∧ Hid (Below w.heap.size w wr) ∧ Hid (Blk wr gE 152 #[.func (.func 160) #[] #[]]) ∧ Hid (Blk wr gR 143 #[.int .i64 0, .int .i64 0, .int .i64 0, .int .i64 0, .int .i64 0, .int .i64 0]) ∧ Hid (Blk wr gS 143 (rmA h.b.ts false k))) (fun i _ => h.b.ts.length - (intOf i).toNat)
  case atStart => exact ⟨0, by omega, rfl, HB, KE, KR, KS⟩
  case round =>
    obtain ⟨k, hk, rfl, HB, KE, KR, KS⟩ := hrel
    by_cases hlt : k < h.b.ts.length
    · obtain ⟨⟨hr, lo, hi⟩, ht⟩ := get_some h.b.ts k hlt
      obtain ⟨b1, o1, hp, hb, c1, c2, c3⟩ := (HL.out.below HB.out) k _ ht
      dsimp only at c1 c2 c3
      rw [hp] at *
      have k0 : (0 : Int) ≤ (k : Int) := by omega
      have k1 : (k : Int) < (h.b.ts.length : Int) := by omega
      have k6 : (k : Int) < 6 := by omega
      have HW := Lib.hid (wrap_num k (by omega))
      have HT := Lib.hid (endN_room (c := false) ht)
      have kE := KE.out
      have e0 := Blk.c1 kE
      have lE := kE.lt
      clear ht kE
      go_upto_region 5 with fail
      have HB2 := Lib.hid (HB.out.alloc HB.out.size (.cells #[.int .i64 hr, .int .i64 lo, .int .i64 hi] 69))
      have KE2 := Lib.hid (KE.out.alloc (.cells #[.int .i64 hr, .int .i64 lo, .int .i64 hi] 69))
      have KR2 := Lib.hid (KR.out.alloc (.cells #[.int .i64 hr, .int .i64 lo, .int .i64 hi] 69))
      have KS2 := Lib.hid (KS.out.alloc (.cells #[.int .i64 hr, .int .i64 lo, .int .i64 hi] 69))
      clear c1 c2 c3 e0 lE hb
      have kL : Blk (wr.alloc (.cells #[.int .i64 hr, .int .i64 lo, .int .i64 hi] 69)) wr.heap.size 69 #[.int .i64 hr, .int .i64 lo, .int .i64 hi] := Blk.new rfl
      generalize hV : wr.alloc _ = V at *
      generalize hg : wr.heap.size = gL at *
      clear hV hg
      have kE := KE2.out
      have e0 := Blk.c1 kE
      obtain ⟨l0, l1, l2⟩ := Blk.c3 kL
      have lE := kE.lt
      have lL := kL.lt
      clear kE kL
      go_wp2_with (go_at_call 160; refine (lowEnd1_any _ _ _).mono ?_; rintro e w1 ⟨rfl, y, rfl⟩; have HB3 := Lib.hid (HB2.out.trans ((below_ext V y).mono HB2.out.size)); have KE3 := Lib.hid (KE2.out.ext y); have KR3 := Lib.hid (KR2.out.ext y); have KS3 := Lib.hid (KS2.out.ext y); generalize ext V y = V3 at *; have fS := KS3.out.frozen k; have lS := KS3.out.lt; have cS := (KS3.out.cell k).trans (rmA_at _ _ _ (by omega)))
      try rw [HW.out]
      have e9 : lo = roomT h.b.ts false k := HT.out
      refine ⟨⟨k + 1, hlt, rfl, Lib.hid (HB3.out.setCell (by dsimp only; omega) _), Lib.hid (KE3.out.setOther hgE.2 _ _), Lib.hid (KR3.out.setOther hgR.2 _ _), Lib.hid ?_⟩, less_num _ k hlt⟩
      rw [e9, ← rmA_set _ _ (by omega)]
      exact KS3.out.set k _
    · obtain rfl : k = h.b.ts.length := by omega
      have kS := KS.out
      have kR := KR.out
      unfold rmA at kS
      simp only [rm1_end] at kS
      obtain ⟨s0, s1, s2, s3, s4, s5⟩ := Blk.c6 kS
      obtain ⟨r0, r1, r2, r3, r4, r5⟩ := Blk.c6 kR
      obtain ⟨f0, f1, f2, f3, f4, f5⟩ := Blk.f6 kR
      have lS := kS.lt
      have lR := kR.lt
      clear kS kR
      go_wp2_with fail
      have kF := KR.out.set6 (.int .i64 (roomT h.b.ts false 0)) (.int .i64 (roomT h.b.ts false 1)) (.int .i64 (roomT h.b.ts false 2)) (.int .i64 (roomT h.b.ts false 3)) (.int .i64 (roomT h.b.ts false 4)) (.int .i64 (roomT h.b.ts false 5))
      have hE := bel_set6 (g := gR) HB.out hgR.1 (.int .i64 (roomT h.b.ts false 0)) (.int .i64 (roomT h.b.ts false 1)) (.int .i64 (roomT h.b.ts false 2)) (.int .i64 (roomT h.b.ts false 3)) (.int .i64 (roomT h.b.ts false 4)) (.int .i64 (roomT h.b.ts false 5))
      generalize hWW : World.setCell _ _ _ = WW at kF hE ⊢
      clear hWW
      have HE := Lib.hid hE
      obtain ⟨e0, e1, e2, e3, e4, e5⟩ := Blk.c6 kF
      have lE := kF.lt
      clear hE kF
      refine bodyPost_ret (v := rmV h.b.ts false) (by simp [rmV, results, Tryz.results123, go_sem, e0, e1, e2, e3, e4, e5, lE]) rfl ⟨rfl, ext_of HE.out⟩
set_option maxRecDepth 100000 in
set_option maxHeartbeats 4000000 in
theorem lets_true (h : Hl) (p : Tp) (w : World) (hl : LowsAt w p.tp h.b.ts) (h6 : h.b.ts.length ≤ 6) :
    Calls Tryz.prog 123 #[hlv h p, .agg #[.func (.func 196) #[] #[]]] w fun e w' => e = .returned (rmV h.b.ts true) ∧ ∃ x, w' = ext w x := by
  have HL := Lib.hid hl
  clear hl
  unfold hlv
  go_enter Tryz.func123, Tryz.ntmps123
  go_upto_region 2 with fail
  generalize hW : (((w.alloc _).alloc _).alloc _).alloc _ = W
  have hB : Below w.heap.size w W := by rw [← hW]; (exact belA)
  have hz : W.heap.size = w.heap.size + 4 := by rw [← hW]; simp
  have kB : Blk W w.heap.size 87 (hlcs h p) := by rw [← hW]; exact (((Blk.new rfl).alloc _).alloc _).alloc _
  have kE : Blk W (w.heap.size + 1) 152 #[.func (.func 196) #[] #[]] := by rw [← hW]; exact ((Blk.new (by simp)).alloc _).alloc _
  have kR : Blk W (w.heap.size + 1 + 1) 143 #[.int .i64 0, .int .i64 0, .int .i64 0, .int .i64 0, .int .i64 0, .int .i64 0] := by rw [← hW]; exact (Blk.new (by simp)).alloc _
  have kS : Blk W (w.heap.size + 1 + 1 + 1) 143 (rmA h.b.ts true 0) := by rw [← hW]; exact Blk.new (by simp)
  have HB := Lib.hid hB
  have KB := Lib.hid kB
  have KE := Lib.hid kE
  have KR := Lib.hid kR
  have KS := Lib.hid kS
  unfold hlcs at kB
  obtain ⟨c0, c1, c2, c3, c4, c5, c6, c7, c8⟩ := Blk.c9 kB
  have lB := kB.lt
  clear hW hB kB kE kR kS hz
  go_upto_region 3 with fail
  have hgE : w.heap.size ≤ w.heap.size + 1 ∧ w.heap.size + 1 ≠ w.heap.size + 1 + 1 + 1 := by omega
  have hgR : w.heap.size ≤ w.heap.size + 1 + 1 ∧ w.heap.size + 1 + 1 ≠ w.heap.size + 1 + 1 + 1 := by omega
  have hgS : w.heap.size ≤ w.heap.size + 1 + 1 + 1 := by omega
  generalize w.heap.size + 1 + 1 + 1 = gS at *
  generalize w.heap.size + 1 + 1 = gR at *
  generalize w.heap.size + 1 = gE at *
  clear c0 c1 c2 c3 c4 c5 c6 c7 c8 lB
  go_loopw [13] (fun i wr => ∃ (k : Nat), k ≤ h.b.ts.length ∧ i = .int .i64 k ∧ Hid (Below w.heap.size w wr) ∧ Hid (Blk wr gE 152 #[.func (.func 196) #[] #[]]) ∧ Hid (Blk wr gR 143 #[.int .i64 0, .int .i64 0, .int .i64 0, .int .i64 0, .int .i64 0, .int .i64 0]) ∧ Hid (Blk wr gS 143 (rmA h.b.ts true k))) (fun i _ => h.b.ts.length - (intOf i).toNat)
  case atStart => exact ⟨0, by omega, rfl, HB, KE, KR, KS⟩
  case round =>
    obtain ⟨k, hk, rfl, HB, KE, KR, KS⟩ := hrel
    by_cases hlt : k < h.b.ts.length
    · obtain ⟨⟨hr, lo, hi⟩, ht⟩ := get_some h.b.ts k hlt
      obtain ⟨b1, o1, hp, hb, c1, c2, c3⟩ := (HL.out.below HB.out) k _ ht
      dsimp only at c1 c2 c3
      rw [hp] at *
      have k0 : (0 : Int) ≤ (k : Int) := by omega
      have k1 : (k : Int) < (h.b.ts.length : Int) := by omega
      have k6 : (k : Int) < 6 := by omega
      have HW := Lib.hid (wrap_num k (by omega))
      have HT := Lib.hid (endN_room (c := true) ht)
      have kE := KE.out
      have e0 := Blk.c1 kE
      have lE := kE.lt
      clear ht kE
      go_upto_region 5 with fail
      have HB2 := Lib.hid (HB.out.alloc HB.out.size (.cells #[.int .i64 hr, .int .i64 lo, .int .i64 hi] 69))
      have KE2 := Lib.hid (KE.out.alloc (.cells #[.int .i64 hr, .int .i64 lo, .int .i64 hi] 69))
      have KR2 := Lib.hid (KR.out.alloc (.cells #[.int .i64 hr, .int .i64 lo, .int .i64 hi] 69))
      have KS2 := Lib.hid (KS.out.alloc (.cells #[.int .i64 hr, .int .i64 lo, .int .i64 hi] 69))
      clear c1 c2 c3 e0 lE hb
      have kL : Blk (wr.alloc (.cells #[.int .i64 hr, .int .i64 lo, .int .i64 hi] 69)) wr.heap.size 69 #[.int .i64 hr, .int .i64 lo, .int .i64 hi] := Blk.new rfl
      generalize hV : wr.alloc _ = V at *
      generalize hg : wr.heap.size = gL at *
      clear hV hg
      have kE := KE2.out
      have e0 := Blk.c1 kE
      obtain ⟨l0, l1, l2⟩ := Blk.c3 kL
      have lE := kE.lt
      have lL := kL.lt
      clear kE kL
      go_wp2_with (go_at_call 196; refine (highEnd1_any _ _ _).mono ?_; rintro e w1 ⟨rfl, y, rfl⟩; have HB3 := Lib.hid (HB2.out.trans ((below_ext V y).mono HB2.out.size)); have KE3 := Lib.hid (KE2.out.ext y); have KR3 := Lib.hid (KR2.out.ext y); have KS3 := Lib.hid (KS2.out.ext y); generalize ext V y = V3 at *; have fS := KS3.out.frozen k; have lS := KS3.out.lt; have cS := (KS3.out.cell k).trans (rmA_at _ _ _ (by omega)))
      try rw [HW.out]
      have e9 : hi = roomT h.b.ts true k := HT.out
      refine ⟨⟨k + 1, hlt, rfl, Lib.hid (HB3.out.setCell (by dsimp only; omega) _), Lib.hid (KE3.out.setOther hgE.2 _ _), Lib.hid (KR3.out.setOther hgR.2 _ _), Lib.hid ?_⟩, less_num _ k hlt⟩
      rw [e9, ← rmA_set _ _ (by omega)]
      exact KS3.out.set k _
    · obtain rfl : k = h.b.ts.length := by omega
      have kS := KS.out
      have kR := KR.out
      unfold rmA at kS
      simp only [rm1_end] at kS
      obtain ⟨s0, s1, s2, s3, s4, s5⟩ := Blk.c6 kS
      obtain ⟨r0, r1, r2, r3, r4, r5⟩ := Blk.c6 kR
      obtain ⟨f0, f1, f2, f3, f4, f5⟩ := Blk.f6 kR
      have lS := kS.lt
      have lR := kR.lt
      clear kS kR
      go_wp2_with fail
      have kF := KR.out.set6 (.int .i64 (roomT h.b.ts true 0)) (.int .i64 (roomT h.b.ts true 1)) (.int .i64 (roomT h.b.ts true 2)) (.int .i64 (roomT h.b.ts true 3)) (.int .i64 (roomT h.b.ts true 4)) (.int .i64 (roomT h.b.ts true 5))
      have hE := bel_set6 (g := gR) HB.out hgR.1 (.int .i64 (roomT h.b.ts true 0)) (.int .i64 (roomT h.b.ts true 1)) (.int .i64 (roomT h.b.ts true 2)) (.int .i64 (roomT h.b.ts true 3)) (.int .i64 (roomT h.b.ts true 4)) (.int .i64 (roomT h.b.ts true 5))
      generalize hWW : World.setCell _ _ _ = WW at kF hE ⊢
      clear hWW
      have HE := Lib.hid hE
      obtain ⟨e0, e1, e2, e3, e4, e5⟩ := Blk.c6 kF
      have lE := kF.lt
      clear hE kF
      refine bodyPost_ret (v := rmV h.b.ts true) (by simp [rmV, results, Tryz.results123, go_sem, e0, e1, e2, e3, e4, e5, lE]) rfl ⟨rfl, ext_of HE.out⟩
theorem lets_any (h : Hl) (p : Tp) (c : Bool) (w : World) (hl : LowsAt w p.tp h.b.ts) (h6 : h.b.ts.length ≤ 6) :
    Calls Tryz.prog 123 #[hlv h p, .agg #[.func (.func (eFn c)) #[] #[]]] w fun e w' => e = .returned (rmV h.b.ts c) ∧ ∃ x, w' = ext w x := by
  cases c
  · exact lets_false h p w hl h6
  · exact lets_true h p w hl h6
end Go.Proofs.YtcaeohgbgeadaaaGreatDoor

