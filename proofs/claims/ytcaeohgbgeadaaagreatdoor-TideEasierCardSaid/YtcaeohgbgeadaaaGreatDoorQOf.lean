/- For the laws of package tide: what a law's walk keeps. -/
/- For the laws of package tide: gale, one; huerref00.Holds. -/
/- For the laws of package tide: played. -/
import Derived.Test.YtcaeohgbgeadaaaGreatDoorQEs
import Derived.RegionTactic
set_option linter.unusedSimpArgs false
set_option linter.unusedVariables false
namespace Go.Proofs.YtcaeohgbgeadaaaGreatDoor
open Go Go.RowKit Go.Shelf
/-- What a law's walk keeps: the world has grown, the book lies where it was laid, so do the spans in cells of their own and the lists. -/
structure TF (w W : World) (b : Tk) (p : Tp) (bx : List (Nat × Int × Int)) (ls : List (Value × List Int)) : Prop where
  below : Below w.heap.size w W
  tb : TB W b p
  kb : Blk W w.heap.size 29 (tcs b p)
  bx : ∀ x ∈ bx, Blk W x.1 23 #[.int .i64 x.2.1, .int .i64 x.2.2]
  ls : ∀ x ∈ ls, PlanAt W x.1 x.2
theorem TF.step {w W W' : World} {b : Tk} {p : Tp} {bx : List (Nat × Int × Int)} {ls : List (Value × List Int)} (h : TF w W b p bx ls) (hb : Below W.heap.size W W') : TF w W' b p bx ls :=
  ⟨h.below.trans (hb.mono h.below.size), h.tb.bel hb, h.kb.bel hb, fun x hx => (h.bx x hx).bel hb, fun x hx => (h.ls x hx).bel hb⟩
theorem TF.box {w W : World} {b : Tk} {p : Tp} {bx : List (Nat × Int × Int)} {ls : List (Value × List Int)} (h : TF w W b p bx ls) {g : Nat} {x y : Int} (k : Blk W g 23 #[.int .i64 x, .int .i64 y]) : TF w W b p ((g, x, y) :: bx) ls :=
  ⟨h.below, h.tb, h.kb, fun z hz => by rcases List.mem_cons.1 hz with rfl | hz; exact k; exact h.bx z hz, h.ls⟩
theorem TF.list {w W : World} {b : Tk} {p : Tp} {bx : List (Nat × Int × Int)} {ls : List (Value × List Int)} (h : TF w W b p bx ls) {v : Value} {l : List Int} (k : PlanAt W v l) : TF w W b p bx ((v, l) :: ls) :=
  ⟨h.below, h.tb, h.kb, h.bx, fun z hz => by rcases List.mem_cons.1 hz with rfl | hz; exact k; exact h.ls z hz⟩
theorem TF.start {w : World} {b : Tk} {p : Tp} (hk : TB w b p) : TF w (w.alloc (.cells (tcs b p) 29)) b p [] [] :=
  ⟨(Below.refl _ _).alloc (Nat.le_refl _) _, hk.bel ((Below.refl _ _).alloc (Nat.le_refl _) _), Blk.new rfl, fun x hx => by simp at hx, fun x hx => by simp at hx⟩
end Go.Proofs.YtcaeohgbgeadaaaGreatDoor

namespace Go.Proofs.YtcaeohgbgeadaaaGreatDoor
open Go Go.RowKit Go.Shelf
attribute [local go_sem] Oper.semAt_some frozen_alloc_lt
set_option maxHeartbeats 1000000 in
theorem Holds_any (lo hi n : Int) (w : World) : Calls Tryz.prog 40 #[.agg #[.int .i64 lo, .int .i64 hi], .int .i64 n] w fun e w' => e = .returned (.bool (decide (lo ≤ n ∧ n ≤ hi))) ∧ ∃ x, w' = ext w x := by
  by_cases h1 : lo ≤ n
  · have d1 : decide (lo ≤ n) = true := by simpa using h1
    by_cases h2 : n ≤ hi
    · have d2 : decide (n ≤ hi) = true := by simpa using h2
      go_enter Tryz.func40, Tryz.ntmps40
      go_wp2_with fail
      go_ret
      exact ⟨by simp [h1, h2], by (exact ext_of (by (exact belA)))⟩
    · have d2 : decide (n ≤ hi) = false := by simpa using h2
      go_enter Tryz.func40, Tryz.ntmps40
      go_wp2_with fail
      go_ret
      exact ⟨by simp [h1, h2], by (exact ext_of (by (exact belA)))⟩
  · have d1 : decide (lo ≤ n) = false := by simpa using h1
    go_enter Tryz.func40, Tryz.ntmps40
    go_wp2_with fail
    go_ret
    exact ⟨by simp [h1], by (exact ext_of (by (exact belA)))⟩
set_option maxHeartbeats 1000000 in
theorem one_any (lo hi : Int) (q : Bool) (w : World) : Calls Tryz.prog 88 #[.agg #[.int .i64 lo, .int .i64 hi], .bool q] w fun e w' => e = .returned (.int .i64 (endN q lo hi)) ∧ ∃ x, w' = ext w x := by
  cases q
  · go_enter Tryz.func88, Tryz.ntmps88
    go_wp2_with fail
    go_ret
    exact ⟨rfl, by (exact ext_of (by (exact belA)))⟩
  · go_enter Tryz.func88, Tryz.ntmps88
    go_wp2_with fail
    go_ret
    exact ⟨rfl, by (exact ext_of (by (exact belA)))⟩
/-- A book whose gale comes at an hour. -/
def Tk.at (b : Tk) (g : Int) : Tk := ⟨b.q, b.now, b.ts, g, g, b.most, b.rest⟩
set_option maxRecDepth 100000 in
set_option maxHeartbeats 4000000 in
theorem gale_any (b : Tk) (p : Tp) (g : Int) (w : World) : Calls Tryz.prog 51 #[tv b p, .int .i64 g] w fun e w' => e = .returned (tv (b.at g) p) ∧ ∃ x, w' = ext w x := by
  unfold tv
  go_enter Tryz.func51, Tryz.ntmps51
  go_upto_region 2 with fail
  generalize hW : World.alloc _ _ = W
  have HB := Lib.hid (show Below w.heap.size w W by rw [← hW]; (exact belA))
  have K4 := Lib.hid (show Blk W (w.heap.size + 1) 29 #[.int .i64 0, .int .i64 0, .slice none 0 0, .int .i64 0, .slice none 0 0, .int .i64 0, .int .i64 0, .int .i64 0, .int .i64 0] by rw [← hW]; exact (Blk.new (by simp)).alloc _)
  have K5 := Lib.hid (show Blk W (w.heap.size + 1 + 1) 29 (tcs b p) by rw [← hW]; exact Blk.new (by simp))
  clear hW
  go_upto_region 3 with (go_at_call 44; refine (Just_any _ _).mono ?_; rintro e w1 ⟨rfl, y, hw1⟩; have K4 := Lib.hid (show Blk w1 (w.heap.size + 1) _ _ by rw [hw1]; exact K4.out.ext y); have K5 := Lib.hid (show Blk w1 (w.heap.size + 1 + 1) _ _ by rw [hw1]; exact K5.out.ext y); have HB := Lib.hid (show Below w.heap.size w w1 by rw [hw1]; exact HB.out.trans ((below_ext _ y).mono HB.out.size)); clear hw1; have k5 := K5.out; unfold tcs at k5; obtain ⟨c0, c1, c2, c3, c4, c5, c6, c7, c8⟩ := Blk.c9 k5; obtain ⟨f0, f1, f2, f3, f4, f5, f6, f7, f8⟩ := Blk.f9 k5; have l5 := k5.lt; clear k5)
  clear c0 c1 c2 c3 c4 c5 c6 c7 c8 f0 f1 f2 f3 f4 f5 f6 f7 f8 l5
  have kE := (K5.out.set 5 (.int .i64 g)).set 6 (.int .i64 g)
  have hE := (HB.out.setCell (p := ⟨w.heap.size + 1 + 1, 5, none⟩) (by dsimp only; omega) (.int .i64 g)).setCell (p := ⟨w.heap.size + 1 + 1, 6, none⟩) (by dsimp only; omega) (.int .i64 g)
  have k4E := (K4.out.setOther (show w.heap.size + 1 ≠ w.heap.size + 1 + 1 by omega) 5 (.int .i64 g)).setOther (show w.heap.size + 1 ≠ w.heap.size + 1 + 1 by omega) 6 (.int .i64 g)
  generalize hWW : World.setCell (World.setCell w1 _ _) _ _ = W2 at kE hE k4E ⊢
  clear hWW K4 K5 HB
  have kE' : Blk W2 (w.heap.size + 1 + 1) 29 #[.int .i64 b.q.lo, .int .i64 b.q.hi, .slice p.np b.q.ns.length p.nc, .int .i64 b.now, .slice p.tp b.ts.length p.tc, .int .i64 g, .int .i64 g, .int .i64 b.most, .int .i64 b.rest] := by simpa [tcs] using kE
  have K4 := Lib.hid k4E
  have HB := Lib.hid hE
  obtain ⟨c0, c1, c2, c3, c4, c5, c6, c7, c8⟩ := Blk.c9 kE'
  have l5 := kE'.lt
  have kR := K4.out
  obtain ⟨r0, r1, r2, r3, r4, r5, r6, r7, r8⟩ := Blk.c9 kR
  obtain ⟨f0, f1, f2, f3, f4, f5, f6, f7, f8⟩ := Blk.f9 kR
  have lR := kR.lt
  clear kE kE' k4E hE kR
  go_wp2_with fail
  have kF := K4.out.set9T (.int .i64 b.q.lo) (.int .i64 b.q.hi) (.slice p.np b.q.ns.length p.nc) (.int .i64 b.now) (.slice p.tp b.ts.length p.tc) (.int .i64 g) (.int .i64 g) (.int .i64 b.most) (.int .i64 b.rest)
  have hF := bel_set9T (g := w.heap.size + 1) HB.out (by omega) (.int .i64 b.q.lo) (.int .i64 b.q.hi) (.slice p.np b.q.ns.length p.nc) (.int .i64 b.now) (.slice p.tp b.ts.length p.tc) (.int .i64 g) (.int .i64 g) (.int .i64 b.most) (.int .i64 b.rest)
  generalize hWW : World.setCell _ _ _ = W3 at kF hF ⊢
  clear hWW
  have HF := Lib.hid hF
  clear c0 c1 c2 c3 c4 c5 c6 c7 c8 f0 f1 f2 f3 f4 f5 f6 f7 f8 l5 r0 r1 r2 r3 r4 r5 r6 r7 r8 lR hF
  obtain ⟨e0, e1, e2, e3, e4, e5, e6, e7, e8⟩ := Blk.c9 kF
  have lF := kF.lt
  clear kF
  refine bodyPost_ret (v := .agg #[.int .i64 b.q.lo, .int .i64 b.q.hi, .slice p.np b.q.ns.length p.nc, .int .i64 b.now, .slice p.tp b.ts.length p.tc, .int .i64 g, .int .i64 g, .int .i64 b.most, .int .i64 b.rest]) (by simp [results, Tryz.results51, go_sem, e0, e1, e2, e3, e4, e5, e6, e7, e8, lF]) rfl ⟨rfl, ext_of HF.out⟩
end Go.Proofs.YtcaeohgbgeadaaaGreatDoor

namespace Go.Proofs.YtcaeohgbgeadaaaGreatDoor
open Go Go.RowKit Go.Shelf
/-- The rooms that a list tells. -/
def roomL (rl : List Int) (i : Nat) : Int := rl.getD i 0
attribute [local go_sem] Oper.semAt_some frozen_alloc_lt
set_option maxRecDepth 100000 in
set_option maxHeartbeats 8000000 in
theorem played_any (b : Tk) (p : Tp) (v : Value) (pl : List Int) (h r g : Int) (rp : Option Addr) (rc m : Nat) (rl : List Int) (w : World) (hn : 0 ≤ b.now) (hlo : LowsAt w p.tp b.ts) (hch : chainT b.now b.ts = true) (hts : b.ts.length ≤ 6) (hp : PlanAt w v pl) (ho : ordT b.ts b.now pl) (hlen : pl.length ≤ 1000)
    (hm : rl.length = m) (hr0 : b.ts.length ≤ m) (hrl : IntsAt w rp rl) (hh : 0 ≤ h ∧ h ≤ 400) (hr : 0 ≤ r ∧ r ≤ 400) (hg : b.now ≤ g ∧ g ≤ 60) (hrm : ∀ i, 0 ≤ roomL rl i ∧ roomL rl i ≤ 99) :
    Calls Tryz.prog 39 #[tv b p, v, .agg #[.int .i64 h, .int .i64 r, .slice rp m rc, .int .i64 g]] w fun e w' => e = .returned (.tuple #[.int .i64 (runS b.ts (roomL rl) r g pl h b.now 0).1, .int .i64 (runS b.ts (roomL rl) r g pl h b.now 0).2]) ∧ ∃ x, w' = ext w x := by
  obtain ⟨pp, pc, rfl, hI, -⟩ := hp
  obtain ⟨n, hpn⟩ : ∃ n, pl.length = n := ⟨_, rfl⟩
  rw [hpn] at hlen ⊢
  unfold tv
  go_enter Tryz.func39, Tryz.ntmps39
  go_upto_region 1 with fail
  refine wp_region_ext (by kernel_rfl) (by kernel_rfl) ?_
  repeat (go_big_quiet_step (fail))
  (refine wpQuiet_nil ?_; rintro _ ⟨x, rfl⟩)
  generalize hW : ext _ _ = W
  have HB := Lib.hid (show Below w.heap.size w W by rw [← hW]; (exact belA))
  have KB := Lib.hid (show Blk W w.heap.size 29 (tcs b p) by rw [← hW]; exact ((Blk.new rfl).alloc _).ext _)
  have KX := Lib.hid (show Blk W (w.heap.size + 1) 47 #[.int .i64 h, .int .i64 r, .slice rp m rc, .int .i64 g] by rw [← hW]; exact (Blk.new (by simp)).ext _)
  have HI := Lib.hid hI
  have HL := Lib.hid hlo
  have HRL := Lib.hid hrl
  have HC := Lib.hid hch
  have HRM := Lib.hid hrm
  have HPN := Lib.hid hpn
  have HM := Lib.hid hm
  clear hW hI hlo hrl hch hrm hpn hm
  go_upto_region 3 with fail
  go_loopw [8, 9, 10, 11, 12, 13] (fun hv ov av i _ _ wr => ∃ (k : Nat) (x o a : Int), k ≤ n ∧ i = .int .i64 k ∧ hv = .int .i64 x ∧ ov = .int .i64 o ∧ av = .int .i64 a ∧ (0 ≤ x ∧ x ≤ 400) ∧ (0 ≤ o ∧ o ≤ 400 * k) ∧ (b.now ≤ a ∧ a ≤ g) ∧ Hid (ordT b.ts a (pl.drop k)) ∧ Hid (runS b.ts (roomL rl) r g (pl.drop k) x a o = runS b.ts (roomL rl) r g pl h b.now 0) ∧ Hid (Below w.heap.size w wr) ∧ Hid (Blk wr w.heap.size 29 (tcs b p)) ∧ Hid (Blk wr (w.heap.size + 1) 47 #[.int .i64 h, .int .i64 r, .slice rp m rc, .int .i64 g])) (fun _ _ _ i _ _ _ => n - (intOf i).toNat)
  case atStart => exact ⟨0, h, 0, b.now, by omega, rfl, rfl, rfl, rfl, hh, by omega, by omega, Lib.hid ho, Lib.hid rfl, HB, KB, KX⟩
  case round =>
    clear HB KB KX
    obtain ⟨k, x, o, a, hk, rfl, rfl, rfl, rfl, hx, hoo, ha, HOR, HRUN, HB, KB, KX⟩ := hrel
    have kb := KB.out
    have kx := KX.out
    unfold tcs at kb
    obtain ⟨d0, d1, d2, d3, d4, d5, d6, d7, d8⟩ := Blk.c9 kb
    have lb := kb.lt
    obtain ⟨c0, c1, c2, c3⟩ := Blk.c4 kx
    have lx := kx.lt
    clear kb kx
    by_cases hlt : k < n
    · obtain ⟨t, ht⟩ := get_some pl k (by rw [HPN.out]; exact hlt)
      have hdr : pl.drop k = t :: pl.drop (k + 1) := by
        obtain ⟨h1, h2⟩ := List.getElem?_eq_some_iff.1 ht
        rw [List.drop_eq_getElem_cons h1, h2]
      have ho2 := HOR.out
      rw [hdr] at ho2
      obtain ⟨t0, s, hs, ha1, ha2, ho3⟩ := ho2
      obtain ⟨tn, rfl⟩ := Int.eq_ofNat_of_zero_le t0
      have hs : b.ts[tn]? = some s := by simpa using hs
      obtain ⟨gp, op, rfl, hgp, q1⟩ := (HI.out.below HB.out) k _ ht
      obtain ⟨b1, o1, hp1, hb1, e1, e2, e3⟩ := (HL.out.below HB.out) tn s hs
      have htn := (List.getElem?_eq_some_iff.1 hs).1
      have k0 : (0 : Int) ≤ (k : Int) := by omega
      have k1 : (k : Int) < (n : Int) := by omega
      have n0 : (0 : Int) ≤ (tn : Int) := by omega
      have n1 : (tn : Int) < (b.ts.length : Int) := by omega
      have n2 : (tn : Int) < (m : Int) := by omega
      rw [hp1] at d4
      go_upto_region 5 with fail
      go_region
      generalize hW5 : World.drew _ = W5
      have hb5 : Below wr.heap.size wr W5 := by rw [← hW5]; exact Below.drew ((Below.refl _ _).alloc (Nat.le_refl _) _)
      have ky : Blk W5 wr.heap.size 69 #[.int .i64 s.hour, .int .i64 s.lo, .int .i64 s.hi] := by rw [← hW5]; exact (Blk.new rfl).bel (Below.drew (Below.refl _ _))
      have HB5 := Lib.hid (HB.out.trans (hb5.mono HB.out.size))
      have KB5 := Lib.hid (KB.out.bel hb5)
      have KX5 := Lib.hid (KX.out.bel hb5)
      clear hW5 hb5 d0 d1 d2 d3 d4 d5 d6 d7 d8 lb c0 c1 c2 c3 lx q1 e1 e2 e3
      have KY5 := Lib.hid ky
      obtain ⟨y0, y1, y2⟩ := Blk.c3 ky
      have ly := ky.lt
      have kx := KX5.out
      obtain ⟨c0, c1, c2, c3⟩ := Blk.c4 kx
      have lx := kx.lt
      clear ky kx HB KB KX
      have p1 : 0 ≤ r * (s.hour - a) ∧ r * (s.hour - a) ≤ 400 * 60 := ⟨Int.mul_nonneg hr.1 (by omega), Int.mul_le_mul hr.2 (by omega) (by omega) (by omega)⟩
      have p2 : 0 ≤ r * (g - a) ∧ r * (g - a) ≤ 400 * 60 := ⟨Int.mul_nonneg hr.1 (by omega), Int.mul_le_mul hr.2 (by omega) (by omega) (by omega)⟩
      by_cases hgl : g ≤ s.hour
      · have f1 : decide (g ≤ s.hour) = true := by simpa using hgl
        have f2 : decide (s.hour ≥ g) = true := f1
        have w1 : wrap64 (g - a) = g - a := by unfold wrap64; omega
        have w2 : wrap64 (r * (g - a)) = r * (g - a) := by unfold wrap64; omega
        have w3 : wrap64 (x - r * (g - a)) = x - r * (g - a) := by unfold wrap64; omega
        have w4 : IntKind.i64.wrap (g - a) = g - a := IntWalk.i64_in _ (by omega)
        have w5 : IntKind.i64.wrap (r * (g - a)) = r * (g - a) := IntWalk.i64_in _ (by omega)
        have w6 : IntKind.i64.wrap (x - r * (g - a)) = x - r * (g - a) := IntWalk.i64_in _ (by omega)
        go_upto_region 10 with fail
        go_region
        generalize hq : (if r * (g - a) < x then x - r * (g - a) else 0) = q
        have hqa : q = afterH r (g - a).toNat x := by
          rw [afterH_eq hr.1 _ _ hx.1, show ((g - a).toNat : Int) = g - a by omega, Int.mul_comm (g - a) r, ← hq]
          split <;> omega
        go_wp2_with fail
        refine bodyPost_ret (v := .tuple #[.int .i64 o, .int .i64 q]) (by simp [results, Tryz.results39, go_sem]) rfl ⟨?_, ext_of (Below.drew HB5.out)⟩
        rw [← HRUN.out, hdr, runS_stop (by simpa using hs) hgl, hqa]
      · have f1 : decide (g ≤ s.hour) = false := by simpa using hgl
        have f2 : decide (s.hour ≥ g) = false := f1
        have w1 : wrap64 (s.hour - a) = s.hour - a := by unfold wrap64; omega
        have w2 : wrap64 (r * (s.hour - a)) = r * (s.hour - a) := by unfold wrap64; omega
        have w3 : wrap64 (x - r * (s.hour - a)) = x - r * (s.hour - a) := by unfold wrap64; omega
        have w4 : IntKind.i64.wrap (s.hour - a) = s.hour - a := IntWalk.i64_in _ (by omega)
        have w5 : IntKind.i64.wrap (r * (s.hour - a)) = r * (s.hour - a) := IntWalk.i64_in _ (by omega)
        have w6 : IntKind.i64.wrap (x - r * (s.hour - a)) = x - r * (s.hour - a) := IntWalk.i64_in _ (by omega)
        obtain ⟨rv, hrv⟩ := get_some rl tn (by rw [HM.out]; omega)
        have hrl : roomL rl tn = rv := by unfold roomL; rw [List.getD_eq_getElem?_getD, hrv]; rfl
        have hrb := HRM.out tn
        rw [hrl] at hrb
        obtain ⟨gr, orr, hrp, hgr, q2⟩ := (HRL.out.below HB5.out) tn _ hrv
        obtain ⟨gp2, op2, eqp, hgp2, q1⟩ := (HI.out.below HB5.out) k _ ht
        cases eqp
        rw [hrp] at c2
        go_upto_region 8 with fail
        generalize hq : (if r * (s.hour - a) < x then x - r * (s.hour - a) else 0) = q
        have hqa : q = afterH r (s.hour - a).toNat x := by
          rw [afterH_eq hr.1 _ _ hx.1, show ((s.hour - a).toNat : Int) = s.hour - a by omega, Int.mul_comm (s.hour - a) r, ← hq]
          split <;> omega
        have hqb : 0 ≤ q ∧ q ≤ x := by rw [← hq]; split <;> omega
        clear w1 w2 w3 w4 w5 w6 hq
        go_region
        rw [← hqa]
        generalize hz : (if rv < q then rv else q) = z
        have hza : z = min q rv := by rw [← hz]; omega
        have hzb : 0 ≤ z ∧ z ≤ q := by rw [← hz]; split <;> omega
        clear hz
        have hb8 : Below W5.heap.size W5 W5.drew := Below.drew (Below.refl _ _)
        have HB8 := Lib.hid (HB5.out.trans (hb8.mono HB5.out.size))
        have KB8 := Lib.hid (KB5.out.bel hb8)
        have KX8 := Lib.hid (KX5.out.bel hb8)
        have KY8 := Lib.hid (KY5.out.bel hb8)
        have HRN := Lib.hid (show runS b.ts (roomL rl) r g (pl.drop (k + 1)) (q - z) s.hour (o + z) = runS b.ts (roomL rl) r g pl h b.now 0 by
          rw [← HRUN.out, hdr, runS_go (by simpa using hs) hgl, ← hqa, show roomL rl (((tn : Nat) : Int)).toNat = rv by rw [Int.toNat_natCast]; exact hrl, ← hza])
        have HON := Lib.hid ho3
        clear hqa hza
        generalize W5.drew = W8 at *
        have v1 : wrap64 (q - z) = q - z := by unfold wrap64; omega
        have v2 : wrap64 (o + z) = o + z := by unfold wrap64; omega
        have v3 : IntKind.i64.wrap (q - z) = q - z := IntWalk.i64_in _ (by omega)
        have v4 : IntKind.i64.wrap (o + z) = o + z := IntWalk.i64_in _ (by omega)
        clear y0 y1 y2 ly
        have ky := KY8.out
        obtain ⟨y0, y1, y2⟩ := Blk.c3 ky
        have ly := ky.lt
        clear ky
        go_upto_region 9 with fail
        go_region
        have hb9 : Below W8.heap.size W8 W8.drew := Below.drew (Below.refl _ _)
        have HB9 := Lib.hid (HB8.out.trans (hb9.mono HB8.out.size))
        have KB9 := Lib.hid (KB8.out.bel hb9)
        have KX9 := Lib.hid (KX8.out.bel hb9)
        generalize W8.drew = W9 at *
        have HW := Lib.hid (wrap_num k (by omega))
        clear v1 v2 v3 v4 y0 y1 y2 ly
        go_wp2_with fail
        go_roundw
        case rel => exact ⟨k + 1, q - z, o + z, s.hour, by omega, by go_num, rfl, rfl, rfl, by omega, by omega, by omega, HON, HRN, HB9, KB9, KX9⟩
        case measure => simp [intOf]; omega
    · have hkn : k = n := by omega
      have hdr : pl.drop k = [] := List.drop_of_length_le (by rw [HPN.out]; omega)
      have p2 : 0 ≤ r * (g - a) ∧ r * (g - a) ≤ 400 * 60 := ⟨Int.mul_nonneg hr.1 (by omega), Int.mul_le_mul hr.2 (by omega) (by omega) (by omega)⟩
      have w1 : wrap64 (g - a) = g - a := by unfold wrap64; omega
      have w2 : wrap64 (r * (g - a)) = r * (g - a) := by unfold wrap64; omega
      have w3 : wrap64 (x - r * (g - a)) = x - r * (g - a) := by unfold wrap64; omega
      have w4 : IntKind.i64.wrap (g - a) = g - a := IntWalk.i64_in _ (by omega)
      have w5 : IntKind.i64.wrap (r * (g - a)) = r * (g - a) := IntWalk.i64_in _ (by omega)
      have w6 : IntKind.i64.wrap (x - r * (g - a)) = x - r * (g - a) := IntWalk.i64_in _ (by omega)
      go_upto_region 10 with fail
      go_region
      generalize hq : (if r * (g - a) < x then x - r * (g - a) else 0) = q
      have hqa : q = afterH r (g - a).toNat x := by
        rw [afterH_eq hr.1 _ _ hx.1, show ((g - a).toNat : Int) = g - a by omega, Int.mul_comm (g - a) r, ← hq]
        split <;> omega
      go_wp2_with fail
      refine bodyPost_ret (v := .tuple #[.int .i64 o, .int .i64 q]) (by simp [results, Tryz.results39, go_sem]) rfl ⟨?_, ext_of (Below.drew HB.out)⟩
      rw [← HRUN.out, hdr, runS_nil, hqa]
end Go.Proofs.YtcaeohgbgeadaaaGreatDoor

