/- Contracts of package bulk: a cellar of which it is known what a measure holds. Written by gen_b5n.py. -/
/- Contracts of package bulk: a lot as if some counts were not made. Written by gen_b5o.py. -/
import Derived.Test.YtpiadbdkiibdbaaQB5m
set_option linter.unusedSimpArgs false
set_option linter.unusedVariables false
namespace Go.Proofs.Ytpiadbdkiibdbaa
open Go Go.RowKit Go.Shelf
attribute [local go_sem] Oper.semAt_some frozen_alloc_lt
/-- A book, if a measure of a kind holds just so many. -/
def knownC (b : Ck) (k : Nat) (v : Int) : Ck :=
  match k with
  | 0 => { b with l0 := v, u0 := v }
  | 1 => { b with l1 := v, u1 := v }
  | _ => { b with l2 := v, u2 := v }
set_option maxRecDepth 100000 in
set_option maxHeartbeats 4000000 in
theorem known_0 (b : Ck) (p : Option Addr) (c : Nat) (v : Int) (w : World) : Calls Try.prog 118 #[ckV b p c, .int .i64 0, .int .i64 v] w fun e w' => e = .returned (ckV (knownC b 0 v) p c) ∧ ∃ x, w' = ext w x := by
  unfold ckV
  go_enter Try.func118, Try.ntmps118
  go_wp2
  refine bodyPost_ret (v := ckV (knownC b 0 v) p c) (by simp [ckV, knownC, results, Try.results118, go_sem]) rfl ⟨rfl, by (exact ext_of (by (exact belA)))⟩
set_option maxRecDepth 100000 in
set_option maxHeartbeats 4000000 in
theorem known_1 (b : Ck) (p : Option Addr) (c : Nat) (v : Int) (w : World) : Calls Try.prog 118 #[ckV b p c, .int .i64 1, .int .i64 v] w fun e w' => e = .returned (ckV (knownC b 1 v) p c) ∧ ∃ x, w' = ext w x := by
  unfold ckV
  go_enter Try.func118, Try.ntmps118
  go_wp2
  refine bodyPost_ret (v := ckV (knownC b 1 v) p c) (by simp [ckV, knownC, results, Try.results118, go_sem]) rfl ⟨rfl, by (exact ext_of (by (exact belA)))⟩
set_option maxRecDepth 100000 in
set_option maxHeartbeats 4000000 in
theorem known_2 (b : Ck) (p : Option Addr) (c : Nat) (v : Int) (w : World) : Calls Try.prog 118 #[ckV b p c, .int .i64 2, .int .i64 v] w fun e w' => e = .returned (ckV (knownC b 2 v) p c) ∧ ∃ x, w' = ext w x := by
  unfold ckV
  go_enter Try.func118, Try.ntmps118
  go_wp2
  refine bodyPost_ret (v := ckV (knownC b 2 v) p c) (by simp [ckV, knownC, results, Try.results118, go_sem]) rfl ⟨rfl, by (exact ext_of (by (exact belA)))⟩
theorem known_any (b : Ck) (p : Option Addr) (c : Nat) (k : Nat) (v : Int) (w : World) (hk : k < 3) : Calls Try.prog 118 #[ckV b p c, .int .i64 k, .int .i64 v] w fun e w' => e = .returned (ckV (knownC b k v) p c) ∧ ∃ x, w' = ext w x := by
  rcases (show k = 0 ∨ k = 1 ∨ k = 2 by omega) with rfl | rfl | rfl
  · exact known_0 b p c v w
  · exact known_1 b p c v w
  · exact known_2 b p c v w
end Go.Proofs.Ytpiadbdkiibdbaa

namespace Go.Proofs.Ytpiadbdkiibdbaa
open Go Go.RowKit Go.Shelf
attribute [local go_sem] Oper.semAt_some frozen_alloc_lt
/-- A lot without its count of a kind. -/
def Lt.no (t : Lt) (k : Nat) : Lt :=
  match k with
  | 0 => { t with t0 := -1 }
  | 1 => { t with t1 := -1 }
  | _ => { t with t2 := -1 }
theorem Blk.setB5 {w : World} {g : Nat} {t : TypeId} {a0 a1 a2 a3 a4 : Value} (k : Blk w g t #[a0, a1, a2, a3, a4]) (v0 v1 v2 v3 v4 : Value) : Blk (((((w.setCell ⟨g, 0, none⟩ v0).setCell ⟨g, 1, none⟩ v1).setCell ⟨g, 2, none⟩ v2).setCell ⟨g, 3, none⟩ v3).setCell ⟨g, 4, none⟩ v4) g t #[v0, v1, v2, v3, v4] := by
  simpa using ((((k.set 0 v0).set 1 v1).set 2 v2).set 3 v3).set 4 v4
theorem below_setB5 {n : Nat} {w0 w : World} (h : Below n w0 w) {g : Nat} (hg : n ≤ g) (v0 v1 v2 v3 v4 : Value) : Below n w0 (((((w.setCell ⟨g, 0, none⟩ v0).setCell ⟨g, 1, none⟩ v1).setCell ⟨g, 2, none⟩ v2).setCell ⟨g, 3, none⟩ v3).setCell ⟨g, 4, none⟩ v4) :=
  ((((h.setCell (by dsimp only; omega) _).setCell (by dsimp only; omega) _).setCell (by dsimp only; omega) _).setCell (by dsimp only; omega) _).setCell (by dsimp only; omega) _
set_option maxRecDepth 100000 in
set_option maxHeartbeats 4000000 in
theorem without_nil (t : Lt) (p : Option Addr) (c : Nat) (w : World) : Calls Try.prog 130 #[ltV t, .slice p 0 c] w fun e w' => e = .returned (ltV t) ∧ ∃ x, w' = ext w x := by
  unfold ltV
  go_enter Try.func130, Try.ntmps130
  go_upto_region 2 with fail
  generalize hW : World.alloc _ _ = W
  have hB : Below w.heap.size w W := by rw [← hW]; (exact belA)
  have k1 : Blk W w.heap.size 62 (ltcs t) := by rw [← hW]; exact (Blk.new rfl).alloc _
  have k2 : Blk W (w.heap.size + 1) 62 #[.int .i64 0, .int .i64 0, .int .i64 0, .int .i64 0, .int .i64 0] := by rw [← hW]; exact Blk.new (by simp)
  have HB := Lib.hid hB
  have K1 := Lib.hid k1
  have K2 := Lib.hid k2
  clear hW hB k1 k2
  go_loopw [6, 9] (fun _ i wr => i = .int .i64 0 ∧ wr = W) (fun _ _ _ => 0)
  case atStart => exact ⟨rfl, rfl⟩
  case round =>
    obtain ⟨rfl, rfl⟩ := hrel
    have k1 := K1.out
    have k2 := K2.out
    unfold ltcs at k1
    obtain ⟨t0, t1, t2, t3, t4⟩ := Blk.c5 k1
    obtain ⟨u0, u1, u2, u3, u4⟩ := Blk.c5 k2
    obtain ⟨f0, f1, f2, f3, f4⟩ := Blk.f5 k2
    have l1 := k1.lt
    have l2 := k2.lt
    clear k1 k2
    go_wp2_with fail
    have hG := K2.out.setB5 (.int .i64 t.t0) (.int .i64 t.t1) (.int .i64 t.t2) (.int .i64 t.wl) (.int .i64 t.wh)
    obtain ⟨v0, v1, v2, v3, v4⟩ := Blk.c5 hG
    refine bodyPost_ret (v := .agg #[.int .i64 t.t0, .int .i64 t.t1, .int .i64 t.t2, .int .i64 t.wl, .int .i64 t.wh]) (by simp [results, Try.results130, go_sem, v0, v1, v2, v3, v4]) rfl ⟨rfl, ext_of ?_⟩
    exact below_setB5 HB.out (by omega) _ _ _ _ _
set_option maxRecDepth 100000 in
set_option maxHeartbeats 4000000 in
theorem without_0 (t : Lt) (b o c : Nat) (w : World) (hb : b < w.heap.size) (hc : w.cell? ⟨b, o, none⟩ = some (.int .i64 0)) : Calls Try.prog 130 #[ltV t, .slice (some ⟨b, o, none⟩) 1 c] w fun e w' => e = .returned (ltV (t.no 0)) ∧ ∃ x, w' = ext w x := by
  unfold ltV Lt.no
  go_enter Try.func130, Try.ntmps130
  go_upto_region 2 with fail
  generalize hW : World.alloc _ _ = W
  have hB : Below w.heap.size w W := by rw [← hW]; (exact belA)
  have k1 : Blk W w.heap.size 62 (ltcs t) := by rw [← hW]; exact (Blk.new rfl).alloc _
  have k2 : Blk W (w.heap.size + 1) 62 #[.int .i64 0, .int .i64 0, .int .i64 0, .int .i64 0, .int .i64 0] := by rw [← hW]; exact Blk.new (by simp)
  have hc' : W.cell? ⟨b, o, none⟩ = some (.int .i64 0) := by rw [hB.cell (p := ⟨b, o, none⟩) hb]; exact hc
  have hb' : b < W.heap.size := Nat.lt_of_lt_of_le hb hB.size
  have HB := Lib.hid hB
  have K1 := Lib.hid k1
  have K2 := Lib.hid k2
  clear hW hB k1 k2 hc
  go_loopw [6, 9] (fun _ i wr => (i = .int .i64 0 ∧ wr = W) ∨ (i = .int .i64 1 ∧ wr = W.setCell ⟨w.heap.size, 0, none⟩ (.int .i64 (-1)))) (fun _ i _ => 1 - (intOf i).toNat)
  case atStart => exact .inl ⟨rfl, rfl⟩
  case round =>
    rcases hrel with ⟨rfl, rfl⟩ | ⟨rfl, rfl⟩
    · have k1 := K1.out
      unfold ltcs at k1
      obtain ⟨t0, t1, t2, t3, t4⟩ := Blk.c5 k1
      obtain ⟨f0, f1, f2, f3, f4⟩ := Blk.f5 k1
      have l1 := k1.lt
      clear k1
      go_wp2_with fail
      go_round
      case rel => exact .inr ⟨by go_num, trivial⟩
      case measure => simp [intOf]
    · have k1 := K1.out
      have k2 := K2.out
      unfold ltcs at k1
      have k3 : Blk (W.setCell ⟨w.heap.size, 0, none⟩ (.int .i64 (-1))) w.heap.size 62 #[.int .i64 (-1), .int .i64 t.t1, .int .i64 t.t2, .int .i64 t.wl, .int .i64 t.wh] := by simpa using k1.set 0 (.int .i64 (-1))
      have k4 := k2.setOther (b := w.heap.size) (by omega) 0 (.int .i64 (-1))
      have HB2 := Lib.hid (HB.out.setCell (p := ⟨w.heap.size, 0, none⟩) (by dsimp only; omega) (.int .i64 (-1)))
      clear K1 K2 k1 k2 HB hc' hb'
      generalize W.setCell ⟨w.heap.size, 0, none⟩ (.int .i64 (-1)) = X at *
      have K4 := Lib.hid k4
      obtain ⟨t0, t1, t2, t3, t4⟩ := Blk.c5 k3
      obtain ⟨u0, u1, u2, u3, u4⟩ := Blk.c5 k4
      obtain ⟨f0, f1, f2, f3, f4⟩ := Blk.f5 k4
      have l1 := k3.lt
      have l2 := k4.lt
      clear k3 k4
      go_wp2_with fail
      have hG := K4.out.setB5 (.int .i64 (-1)) (.int .i64 t.t1) (.int .i64 t.t2) (.int .i64 t.wl) (.int .i64 t.wh)
      obtain ⟨v0, v1, v2, v3, v4⟩ := Blk.c5 hG
      refine bodyPost_ret (v := .agg #[.int .i64 (-1), .int .i64 t.t1, .int .i64 t.t2, .int .i64 t.wl, .int .i64 t.wh]) (by simp [results, Try.results130, go_sem, v0, v1, v2, v3, v4]) rfl ⟨rfl, ext_of ?_⟩
      exact below_setB5 HB2.out (by omega) _ _ _ _ _
set_option maxRecDepth 100000 in
set_option maxHeartbeats 4000000 in
theorem without_1 (t : Lt) (b o c : Nat) (w : World) (hb : b < w.heap.size) (hc : w.cell? ⟨b, o, none⟩ = some (.int .i64 1)) : Calls Try.prog 130 #[ltV t, .slice (some ⟨b, o, none⟩) 1 c] w fun e w' => e = .returned (ltV (t.no 1)) ∧ ∃ x, w' = ext w x := by
  unfold ltV Lt.no
  go_enter Try.func130, Try.ntmps130
  go_upto_region 2 with fail
  generalize hW : World.alloc _ _ = W
  have hB : Below w.heap.size w W := by rw [← hW]; (exact belA)
  have k1 : Blk W w.heap.size 62 (ltcs t) := by rw [← hW]; exact (Blk.new rfl).alloc _
  have k2 : Blk W (w.heap.size + 1) 62 #[.int .i64 0, .int .i64 0, .int .i64 0, .int .i64 0, .int .i64 0] := by rw [← hW]; exact Blk.new (by simp)
  have hc' : W.cell? ⟨b, o, none⟩ = some (.int .i64 1) := by rw [hB.cell (p := ⟨b, o, none⟩) hb]; exact hc
  have hb' : b < W.heap.size := Nat.lt_of_lt_of_le hb hB.size
  have HB := Lib.hid hB
  have K1 := Lib.hid k1
  have K2 := Lib.hid k2
  clear hW hB k1 k2 hc
  go_loopw [6, 9] (fun _ i wr => (i = .int .i64 0 ∧ wr = W) ∨ (i = .int .i64 1 ∧ wr = W.setCell ⟨w.heap.size, 1, none⟩ (.int .i64 (-1)))) (fun _ i _ => 1 - (intOf i).toNat)
  case atStart => exact .inl ⟨rfl, rfl⟩
  case round =>
    rcases hrel with ⟨rfl, rfl⟩ | ⟨rfl, rfl⟩
    · have k1 := K1.out
      unfold ltcs at k1
      obtain ⟨t0, t1, t2, t3, t4⟩ := Blk.c5 k1
      obtain ⟨f0, f1, f2, f3, f4⟩ := Blk.f5 k1
      have l1 := k1.lt
      clear k1
      go_wp2_with fail
      go_round
      case rel => exact .inr ⟨by go_num, trivial⟩
      case measure => simp [intOf]
    · have k1 := K1.out
      have k2 := K2.out
      unfold ltcs at k1
      have k3 : Blk (W.setCell ⟨w.heap.size, 1, none⟩ (.int .i64 (-1))) w.heap.size 62 #[.int .i64 t.t0, .int .i64 (-1), .int .i64 t.t2, .int .i64 t.wl, .int .i64 t.wh] := by simpa using k1.set 1 (.int .i64 (-1))
      have k4 := k2.setOther (b := w.heap.size) (by omega) 1 (.int .i64 (-1))
      have HB2 := Lib.hid (HB.out.setCell (p := ⟨w.heap.size, 1, none⟩) (by dsimp only; omega) (.int .i64 (-1)))
      clear K1 K2 k1 k2 HB hc' hb'
      generalize W.setCell ⟨w.heap.size, 1, none⟩ (.int .i64 (-1)) = X at *
      have K4 := Lib.hid k4
      obtain ⟨t0, t1, t2, t3, t4⟩ := Blk.c5 k3
      obtain ⟨u0, u1, u2, u3, u4⟩ := Blk.c5 k4
      obtain ⟨f0, f1, f2, f3, f4⟩ := Blk.f5 k4
      have l1 := k3.lt
      have l2 := k4.lt
      clear k3 k4
      go_wp2_with fail
      have hG := K4.out.setB5 (.int .i64 t.t0) (.int .i64 (-1)) (.int .i64 t.t2) (.int .i64 t.wl) (.int .i64 t.wh)
      obtain ⟨v0, v1, v2, v3, v4⟩ := Blk.c5 hG
      refine bodyPost_ret (v := .agg #[.int .i64 t.t0, .int .i64 (-1), .int .i64 t.t2, .int .i64 t.wl, .int .i64 t.wh]) (by simp [results, Try.results130, go_sem, v0, v1, v2, v3, v4]) rfl ⟨rfl, ext_of ?_⟩
      exact below_setB5 HB2.out (by omega) _ _ _ _ _
set_option maxRecDepth 100000 in
set_option maxHeartbeats 4000000 in
theorem without_2 (t : Lt) (b o c : Nat) (w : World) (hb : b < w.heap.size) (hc : w.cell? ⟨b, o, none⟩ = some (.int .i64 2)) : Calls Try.prog 130 #[ltV t, .slice (some ⟨b, o, none⟩) 1 c] w fun e w' => e = .returned (ltV (t.no 2)) ∧ ∃ x, w' = ext w x := by
  unfold ltV Lt.no
  go_enter Try.func130, Try.ntmps130
  go_upto_region 2 with fail
  generalize hW : World.alloc _ _ = W
  have hB : Below w.heap.size w W := by rw [← hW]; (exact belA)
  have k1 : Blk W w.heap.size 62 (ltcs t) := by rw [← hW]; exact (Blk.new rfl).alloc _
  have k2 : Blk W (w.heap.size + 1) 62 #[.int .i64 0, .int .i64 0, .int .i64 0, .int .i64 0, .int .i64 0] := by rw [← hW]; exact Blk.new (by simp)
  have hc' : W.cell? ⟨b, o, none⟩ = some (.int .i64 2) := by rw [hB.cell (p := ⟨b, o, none⟩) hb]; exact hc
  have hb' : b < W.heap.size := Nat.lt_of_lt_of_le hb hB.size
  have HB := Lib.hid hB
  have K1 := Lib.hid k1
  have K2 := Lib.hid k2
  clear hW hB k1 k2 hc
  go_loopw [6, 9] (fun _ i wr => (i = .int .i64 0 ∧ wr = W) ∨ (i = .int .i64 1 ∧ wr = W.setCell ⟨w.heap.size, 2, none⟩ (.int .i64 (-1)))) (fun _ i _ => 1 - (intOf i).toNat)
  case atStart => exact .inl ⟨rfl, rfl⟩
  case round =>
    rcases hrel with ⟨rfl, rfl⟩ | ⟨rfl, rfl⟩
    · have k1 := K1.out
      unfold ltcs at k1
      obtain ⟨t0, t1, t2, t3, t4⟩ := Blk.c5 k1
      obtain ⟨f0, f1, f2, f3, f4⟩ := Blk.f5 k1
      have l1 := k1.lt
      clear k1
      go_wp2_with fail
      go_round
      case rel => exact .inr ⟨by go_num, trivial⟩
      case measure => simp [intOf]
    · have k1 := K1.out
      have k2 := K2.out
      unfold ltcs at k1
      have k3 : Blk (W.setCell ⟨w.heap.size, 2, none⟩ (.int .i64 (-1))) w.heap.size 62 #[.int .i64 t.t0, .int .i64 t.t1, .int .i64 (-1), .int .i64 t.wl, .int .i64 t.wh] := by simpa using k1.set 2 (.int .i64 (-1))
      have k4 := k2.setOther (b := w.heap.size) (by omega) 2 (.int .i64 (-1))
      have HB2 := Lib.hid (HB.out.setCell (p := ⟨w.heap.size, 2, none⟩) (by dsimp only; omega) (.int .i64 (-1)))
      clear K1 K2 k1 k2 HB hc' hb'
      generalize W.setCell ⟨w.heap.size, 2, none⟩ (.int .i64 (-1)) = X at *
      have K4 := Lib.hid k4
      obtain ⟨t0, t1, t2, t3, t4⟩ := Blk.c5 k3
      obtain ⟨u0, u1, u2, u3, u4⟩ := Blk.c5 k4
      obtain ⟨f0, f1, f2, f3, f4⟩ := Blk.f5 k4
      have l1 := k3.lt
      have l2 := k4.lt
      clear k3 k4
      go_wp2_with fail
      have hG := K4.out.setB5 (.int .i64 t.t0) (.int .i64 t.t1) (.int .i64 (-1)) (.int .i64 t.wl) (.int .i64 t.wh)
      obtain ⟨v0, v1, v2, v3, v4⟩ := Blk.c5 hG
      refine bodyPost_ret (v := .agg #[.int .i64 t.t0, .int .i64 t.t1, .int .i64 (-1), .int .i64 t.wl, .int .i64 t.wh]) (by simp [results, Try.results130, go_sem, v0, v1, v2, v3, v4]) rfl ⟨rfl, ext_of ?_⟩
      exact below_setB5 HB2.out (by omega) _ _ _ _ _
/-- The lists of kinds that can be left out. -/
def noL (t : Lt) : Option Nat → Lt
  | none => t
  | some k => t.no k
end Go.Proofs.Ytpiadbdkiibdbaa

