/- Package seine: what is told by a catch: in which states the seine is in its truths behind each number of notes. -/
import Derived.Test.YtcaeohgbgeadaaaGreatDoorQFh
import Derived.Laws.MakeOwn
set_option linter.unusedSimpArgs false
set_option linter.unusedVariables false
namespace Go.Proofs.YtcaeohgbgeadaaaGreatDoor
open Go Go.RowKit Go.Shelf

/-- The cells of a tale. -/
abbrev talC (lo hi : Int) (p : Option Addr) (N c : Nat) (k : Kd) (Bb : Nat) : Array Value := #[.int .i64 lo, .int .i64 hi, .slice p N c, .int .i64 k.a, .int .i64 k.b, .int .i64 k.c, .int .i64 k.d, .int .i64 k.e, .slice (some ⟨Bb, 0, none⟩) (N + 1) (N + 1)]
/-- What lies in the list of a tale. -/
def TAt (w : World) (Bb N : Nat) (tl : List (List (Int × Int))) : Prop :=
  ∃ cs' : Array Value, Blk w Bb 179 cs' ∧ cs'.size = N + 1 ∧ ∀ (i : Nat) (L : List (Int × Int)), tl[i]? = some L → ∃ M n : Nat, cs'[i]? = some (.map (some M)) ∧ StAt w M n L
theorem TAt.bel {w w' : World} {Bb N : Nat} {tl : List (List (Int × Int))} (h : TAt w Bb N tl) (hb : Below w.heap.size w w') : TAt w' Bb N tl := by
  obtain ⟨cs', h1, h2, h3⟩ := h
  refine ⟨cs', h1.bel hb, h2, fun i L hi => ?_⟩
  obtain ⟨M, n, g1, g2⟩ := h3 i L hi
  exact ⟨M, n, g1, g2.below hb⟩
theorem TlAt.t {w : World} {Bb N : Nat} {cs : Array Value} {tl : List (List (Int × Int))} (h : TlAt w Bb N 0 cs tl) : TAt w Bb N tl := by
  obtain ⟨cs', h1, h2, -, h4⟩ := h
  refine ⟨cs', h1, h2, fun i L hi => ?_⟩
  obtain ⟨M, n, g1, g2⟩ := h4 i L hi
  exact ⟨M, n, by simpa using g1, g2⟩
/-- All that a book tells: the states behind each number of notes. -/
def talL (b : Sn) : List (List (Int × Int)) := tlL b.ns b.ns.length 0 (startL b.lo b.hi)
/-- What the operations of the first region of tale leave. -/
def talR (B : Nat) (lo hi : Int) (p : Option Addr) (N c : Nat) (kd : Kd) (i : Nat) (v : Value) (w : World) : Prop :=
  match i with
  | 0 => v = .agg (catC lo hi p N c kd)
  | 1 => v = .pointer (some ⟨B, 0, none⟩)
  | 2 => v = .pointer (some ⟨B, 2, none⟩)
  | 3 => v = .slice p N c
  | 4 => v = .int .i64 N
  | 5 => v = .int .i64 ((N + 1 : Nat) : Int)
  | 6 => ∃ (Bb : Nat) (cs : Array Value), v = .slice (some ⟨Bb, 0, none⟩) (N + 1) (N + 1) ∧ Blk w Bb 179 cs ∧ cs.size = N + 1 ∧ B + 2 ≤ Bb
  | 7 => ∃ (Bb : Nat) (cs : Array Value), v = .agg (talC lo hi p N c kd Bb) ∧ Blk w Bb 179 cs ∧ cs.size = N + 1 ∧ B + 2 ≤ Bb
  | 8 => ∃ bt : Nat, v = .pointer (some ⟨bt, 0, none⟩) ∧ B + 2 ≤ bt ∧ Blk w bt 122 #[.int .i64 0, .int .i64 0, .slice none 0 0, .int .i64 0, .int .i64 0, .int .i64 0, .int .i64 0, .int .i64 0, .slice none 0 0]
  | _ => True
theorem talR_kept (B : Nat) (lo hi : Int) (p : Option Addr) (N c : Nat) (kd : Kd) : ∀ (i : Nat), i < 9 → ∀ (v : Value) (w w' : World), talR B lo hi p N c kd i v w → Below w.heap.size w w' → talR B lo hi p N c kd i v w' := by
  intro i h9 v w w' h hb
  match i, h9 with
  | 0, _ => exact h
  | 1, _ => exact h
  | 2, _ => exact h
  | 3, _ => exact h
  | 4, _ => exact h
  | 5, _ => exact h
  | 6, _ => obtain ⟨Bb, cs, h1, h2, h3⟩ := h; exact ⟨Bb, cs, h1, h2.bel hb, h3⟩
  | 7, _ => obtain ⟨Bb, cs, h1, h2, h3⟩ := h; exact ⟨Bb, cs, h1, h2.bel hb, h3⟩
  | 8, _ => obtain ⟨bt, h1, h2, h3⟩ := h; exact ⟨bt, h1, h2, h3.bel hb⟩
  | k + 9, hk => omega
section
variable {o : Oper} {w : World} {g j t : Nat} (ρ : Operand → Value)
theorem run_fCatch0 (hop : o.op = .fieldAddr 119 (.tmp t) 0) (hs : ρ (.tmp t) = .pointer (some ⟨g, 0, none⟩)) (hl : g < w.heap.size) : (execOp ρ o).run Tryz.prog w = .ok (.value (.pointer (some ⟨g, 0, none⟩))) w := by
  unfold execOp; simp [hop, hs, go_sem, hl]
theorem run_fBook1 (hop : o.op = .fieldAddr 26 (.tmp t) 1) (hs : ρ (.tmp t) = .pointer (some ⟨g, 0, none⟩)) (hl : g < w.heap.size) : (execOp ρ o).run Tryz.prog w = .ok (.value (.pointer (some ⟨g, 2, none⟩))) w := by
  unfold execOp; simp [hop, hs, go_sem, hl]
theorem run_lNotes {x : Value} (hop : o.op = .load 24 (.tmp t)) (hs : ρ (.tmp t) = .pointer (some ⟨g, j, none⟩)) (c0 : w.cell? ⟨g, j, none⟩ = some x) : (execOp ρ o).run Tryz.prog w = .ok (.value x) w := by
  unfold execOp; simp [hop, hs, go_sem, c0]
theorem run_lenNotes {p : Option Addr} {n c : Nat} (hop : o.op = .call { callee := .builtin .len, args := #[.tmp t], argTypes := #[24] }) (hs : ρ (.tmp t) = .slice p n c) : (execOp ρ o).run Tryz.prog w = .ok (.value (.int .i64 n)) w := by
  unfold execOp; simp [hop, hs, go_sem, resolve, invoke]
theorem info_states : (Tryz.prog.info? 179).map (fun i => (i.zero, i.size, i.bytes)) = some (some (.map none), 1, 8) := by kernel_rfl
theorem run_mkList {n : Nat} (hn : n ≤ 100) (hop : o.op = .makeSlice 120 (.tmp t) (.tmp t)) (hs : ρ (.tmp t) = .int .i64 n) : (execOp ρ o).run Tryz.prog w = .ok (.value (.slice (some ⟨w.heap.size, 0, none⟩) n n)) (w.alloc (.cells (madeCells #[.map none] n) 179)) := by
  have hI := info_states
  cases hi : Tryz.prog.info? 179 with
  | none => rw [hi] at hI; cases hI
  | some i =>
    rw [hi] at hI
    simp only [Option.map_some, Option.some.injEq, Prod.mk.injEq] at hI
    obtain ⟨hz0, hz1, hz2⟩ := hI
    have hr := run_make (P := Tryz.prog) w 120 179 i _ Tryz.underlying120 hi hz0 .i64 .i64 n n (by omega) (by omega) (by rw [hz2]; omega) (by omega)
    rw [hz1] at hr
    simp only [Int.toNat_natCast, Nat.mul_one] at hr
    have hc : (Value.map none).cells = #[.map none] := rfl
    rw [hc] at hr
    unfold execOp; simp [hop, hs, go_sem, hr]
theorem run_bTale {lo hi : Int} {p : Option Addr} {N c Bb u : Nat} {kd : Kd} (hop : o.op = .build 122 #[(0, .tmp t), (1, .tmp u)]) (hs : ρ (.tmp t) = .agg (catC lo hi p N c kd)) (hu : ρ (.tmp u) = .slice (some ⟨Bb, 0, none⟩) (N + 1) (N + 1)) :
    (execOp ρ o).run Tryz.prog w = .ok (.value (.agg (talC lo hi p N c kd Bb))) w := by
  unfold catC at hs
  unfold execOp; simp [hop, hs, hu, go_sem]
theorem run_aTale (hop : o.op = .alloc 122) : (execOp ρ o).run Tryz.prog w = .ok (.value (.pointer (some ⟨w.heap.size, 0, none⟩))) (w.alloc (.cells #[.int .i64 0, .int .i64 0, .slice none 0 0, .int .i64 0, .int .i64 0, .int .i64 0, .int .i64 0, .int .i64 0, .slice none 0 0] 122)) := by
  unfold execOp; simp [hop, go_sem]
end
abbrev put9 (w : World) (g : Nat) (v0 v1 v2 v3 v4 v5 v6 v7 v8 : Value) : World := ((((((((w.setCell ⟨g, 0, none⟩ v0).setCell ⟨g, 1, none⟩ v1).setCell ⟨g, 2, none⟩ v2).setCell ⟨g, 3, none⟩ v3).setCell ⟨g, 4, none⟩ v4).setCell ⟨g, 5, none⟩ v5).setCell ⟨g, 6, none⟩ v6).setCell ⟨g, 7, none⟩ v7).setCell ⟨g, 8, none⟩ v8
theorem set9 {w : World} {g : Nat} {t : TypeId} {a0 a1 a2 a3 a4 a5 a6 a7 a8 : Value} (h : Blk w g t #[a0, a1, a2, a3, a4, a5, a6, a7, a8]) (v0 v1 v2 v3 v4 v5 v6 v7 v8 : Value) : Blk (put9 w g v0 v1 v2 v3 v4 v5 v6 v7 v8) g t #[v0, v1, v2, v3, v4, v5, v6, v7, v8] := by
  have := ((((((((h.set 0 v0).set 1 v1).set 2 v2).set 3 v3).set 4 v4).set 5 v5).set 6 v6).set 7 v7).set 8 v8
  simpa only [List.setIfInBounds_toArray, List.set_cons_succ, List.set_cons_zero] using this
theorem set9o {w : World} {g b : Nat} {t : TypeId} {cs : Array Value} (h : Blk w b t cs) (hb : b ≠ g) (v0 v1 v2 v3 v4 v5 v6 v7 v8 : Value) : Blk (put9 w g v0 v1 v2 v3 v4 v5 v6 v7 v8) b t cs :=
  ((((((((h.setOther hb 0 v0).setOther hb 1 v1).setOther hb 2 v2).setOther hb 3 v3).setOther hb 4 v4).setOther hb 5 v5).setOther hb 6 v6).setOther hb 7 v7).setOther hb 8 v8
theorem set9b {w : World} {g n : Nat} (h : n ≤ g) (v0 v1 v2 v3 v4 v5 v6 v7 v8 : Value) : Below n w (put9 w g v0 v1 v2 v3 v4 v5 v6 v7 v8) :=
  have hw : ∀ o : Nat, n ≤ (⟨g, o, none⟩ : Addr).block := fun _ => h
  (((((((((Below.refl _ _).setCell (hw _) _).setCell (hw _) _).setCell (hw _) _).setCell (hw _) _).setCell (hw _) _).setCell (hw _) _).setCell (hw _) _).setCell (hw _) _).setCell (hw _) _
theorem set9h {w : World} {g k : Nat} (hk : k ≠ g) (v0 v1 v2 v3 v4 v5 v6 v7 v8 : Value) : (put9 w g v0 v1 v2 v3 v4 v5 v6 v7 v8).heap[k]? = w.heap[k]? := by
  have h : ∀ (X : World) (i : Nat) (v : Value), (X.setCell ⟨g, i, none⟩ v).heap[k]? = X.heap[k]? := fun X i v => Below.heap_setCell X ⟨g, i, none⟩ v k hk
  unfold put9
  rw [h, h, h, h, h, h, h, h, h]
theorem set9z {w : World} {g : Nat} (v0 v1 v2 v3 v4 v5 v6 v7 v8 : Value) : (put9 w g v0 v1 v2 v3 v4 v5 v6 v7 v8).heap.size = w.heap.size := by simp [put9]
/-- A tale stays as it is while a block of cells and a list of deferred calls turn that are none of its own. -/
theorem TAt.keep {w w' : World} {Bb N : Nat} {tl : List (List (Int × Int))} {g D : Nat} {t : TypeId} {cs : Array Value} {dl : Option (List Deferred)} (h : TAt w Bb N tl) (hg : Blk w g t cs) (hD : w.heap[D]? = some (.deferred dl)) (hgB : g ≠ Bb) (hk : ∀ k, k ≠ g → k ≠ D → w'.heap[k]? = w.heap[k]?) : TAt w' Bb N tl := by
  obtain ⟨cs', h1, h2, h3⟩ := h
  have hDB : Bb ≠ D := by
    rintro rfl
    unfold Blk at h1
    rw [hD] at h1; cases h1
  refine ⟨cs', (hk _ hgB.symm hDB).trans h1, h2, fun i L hi => ?_⟩
  obtain ⟨M, n, g1, g2⟩ := h3 i L hi
  refine ⟨M, n, g1, g2.of_heap (hk _ (g2.ne_blk hg) ?_)⟩
  rintro rfl
  obtain ⟨D', ⟨es, clock, e1, _⟩, _⟩ := g2
  rw [hD] at e1; cases e1
theorem startL_K {lo hi : Int} (h : 0 ≤ lo ∧ hi ≤ 400) : ∀ st ∈ startL lo hi, StK 0 st := by
  intro st hst
  obtain ⟨m, hm, rfl⟩ := List.mem_map.1 hst
  have := mem_numsL.1 hm
  exact ⟨⟨by dsimp only; omega, by dsimp only; omega⟩, by simp⟩
attribute [local go_sem] Oper.semAt_some frozen_alloc_lt
set_option maxRecDepth 100000 in
set_option maxHeartbeats 4000000 in
theorem tale_any (b : Sn) (p : Option Addr) (c : Nat) (kd : Kd) (w : World) (hl : NotesAt w p b.ns) (hok : Ok9 b) (hpw : ∀ a, p = some a → a.block < w.heap.size) :
    Calls Tryz.prog 99 #[.agg (catC b.lo b.hi p b.ns.length c kd)] w fun e w' => ∃ Bb : Nat, e = .returned (.agg (talC b.lo b.hi p b.ns.length c kd Bb)) ∧ w.heap.size ≤ Bb ∧ TAt w' Bb b.ns.length (talL b) ∧ Below w.heap.size w w' := by
  refine (callsIn_wide (n := 9)).1 ?_
  have HL := Lib.hid hl
  have hlen := hok.len
  clear hl
  refine callsIn_of_wp_marks Tryz.func99 rfl trivial ?_ rfl
  simp only [Tryz.ntmps99, List.size_toArray, List.length_cons, List.length_nil, Nat.reduceAdd, Nat.reduceSub, Array.replicate_succ, Array.replicate_zero, List.push_toArray, List.append_toArray, List.nil_append, List.cons_append]
  refine wpIn_wide.2 ?_
  unfold catC
  go_upto_region 1 with fail
  generalize hW0 : (w.alloc _).alloc _ = W0
  have hB0 : Below w.heap.size w W0 := by rw [← hW0]; (exact belA)
  have hz0 : W0.heap.size = w.heap.size + 2 := by rw [← hW0]; simp
  have hc0 : Blk W0 w.heap.size 119 (catC b.lo b.hi p b.ns.length c kd) := by rw [← hW0]; exact (Blk.new rfl).alloc _
  have hr0 : Blk W0 (w.heap.size + 1) 122 #[.int .i64 0, .int .i64 0, .slice none 0 0, .int .i64 0, .int .i64 0, .int .i64 0, .int .i64 0, .int .i64 0, .slice none 0 0] := by rw [← hW0]; exact Blk.new (by simp)
  clear hW0
  refine wp_region_flow_back 9 26 (talR w.heap.size b.lo b.hi p b.ns.length c kd) (by kernel_rfl) (by kernel_rfl) rfl (talR_kept _ _ _ _ _ _ _) ?_ ?_
  · intro i hin a X g1 g2 g3 g4 g5 KK hKK
    have hcX := hc0.bel g5
    have hc2 := hcX.cell 2
    have hzX := g5.size
    match i, hin with
    | 0, _ => exact st_val rfl (wanted_none rfl) (run_lCatch _ rfl (g3 1 (by kernel_rfl)) hcX) (hKK _ _ rfl (Below.refl _ _))
    | 1, _ => exact st_val rfl (wanted_none rfl) (run_fCatch0 _ rfl (g3 1 (by kernel_rfl)) hcX.lt) (hKK _ _ rfl (Below.refl _ _))
    | 2, _ => exact st_val rfl (wanted_none rfl) (run_fBook1 _ rfl (g4 1 (by kernel_rfl)) hcX.lt) (hKK _ _ rfl (Below.refl _ _))
    | 3, _ => exact st_val rfl (wanted_none rfl) (run_lNotes _ rfl (g4 2 (by kernel_rfl)) hc2) (hKK _ _ rfl (Below.refl _ _))
    | 4, _ => exact st_val rfl (wanted_none rfl) (run_lenNotes _ rfl (g4 3 (by kernel_rfl))) (hKK _ _ rfl (Below.refl _ _))
    | 5, _ => exact st_val rfl (wanted_none rfl) (run_inc _ (by omega) rfl (g4 4 (by kernel_rfl)) rfl) (hKK _ _ rfl (Below.refl _ _))
    | 6, _ =>
      exact st_valw rfl (wanted_none rfl) (run_mkList _ (show b.ns.length + 1 ≤ 100 by omega) rfl (g4 5 (by kernel_rfl))) (hKK _ _ ⟨_, _, rfl, Blk.new rfl, size_madeCells _ _, by omega⟩ ((Below.refl _ _).alloc (Nat.le_refl _) _))
    | 7, _ =>
      obtain ⟨Bb, cs, h1, h2, h3⟩ := g4 6 (by kernel_rfl)
      exact st_val rfl (wanted_none rfl) (run_bTale _ rfl (g4 0 (by kernel_rfl)) h1) (hKK _ _ ⟨Bb, cs, rfl, h2, h3⟩ (Below.refl _ _))
    | 8, _ => exact st_valw rfl (wanted_none rfl) (run_aTale _ rfl) (hKK _ _ ⟨_, rfl, by omega, Blk.new rfl⟩ ((Below.refl _ _).alloc (Nat.le_refl _) _))
    | k + 9, hk => omega
  intro vs W2 hvs hBW
  have v0 : vs 0 = _ := hvs 0 (by omega)
  have v1 : vs 1 = _ := hvs 1 (by omega)
  have v2 : vs 2 = _ := hvs 2 (by omega)
  have v3 : vs 3 = _ := hvs 3 (by omega)
  have v4 : vs 4 = _ := hvs 4 (by omega)
  have v5 : vs 5 = _ := hvs 5 (by omega)
  obtain ⟨B6, c6, v6, -⟩ := hvs 6 (by omega)
  obtain ⟨Bb, cs, v7, hBb, hcs, hwB⟩ := hvs 7 (by omega)
  obtain ⟨bt, v8, hwt, hbt⟩ := hvs 8 (by omega)
  simp only [putAll, v0, v1, v2, v3, v4, v5, v6, v7, v8]
  clear v0 v1 v2 v3 v4 v5 v6 v7 v8 hvs
  simp only [dstOf, Act.put, List.getElem?_toArray, List.getElem?_cons_zero, List.getElem?_cons_succ, Option.bind_some, Option.getD_some, List.setIfInBounds_toArray, List.set_cons_succ, List.set_cons_zero, List.drop_succ_cons, List.drop_zero]
  have hne : bt ≠ Bb := by
    rintro rfl
    unfold Blk at hbt hBb
    rw [hbt] at hBb
    simp at hBb
  have hz2 := hBW.size
  have hcW := hc0.bel hBW
  have hrW := hr0.bel hBW
  have s0 := hbt.cell 0
  have s1 := hbt.cell 1
  have s2 := hbt.cell 2
  have s3 := hbt.cell 3
  have s4 := hbt.cell 4
  have s5 := hbt.cell 5
  have s6 := hbt.cell 6
  have s7 := hbt.cell 7
  have s8 := hbt.cell 8
  have f0 := hbt.frozen 0
  have f1 := hbt.frozen 1
  have f2 := hbt.frozen 2
  have f3 := hbt.frozen 3
  have f4 := hbt.frozen 4
  have f5 := hbt.frozen 5
  have f6 := hbt.frozen 6
  have f7 := hbt.frozen 7
  have f8 := hbt.frozen 8
  have lbt := hbt.lt
  simp only [List.size_toArray, List.length_cons, List.length_nil, Nat.reduceAdd, Nat.reduceLT, getElem?_pos, List.getElem_toArray, List.getElem_cons_zero, List.getElem_cons_succ] at s0 s1 s2 s3 s4 s5 s6 s7 s8
  have HBT := Lib.hid hbt
  have HBB := Lib.hid hBb
  have HCW := Lib.hid hcW
  have HRW := Lib.hid hrW
  have HBW := Lib.hid (hB0.trans (hBW.mono (by omega)))
  clear hbt hBb hcW hrW hBW hc0 hr0 hB0
  unfold catC
  go_upto_region 2 with fail
  generalize hW3 : World.setCell _ _ _ = W3
  have hB3 : Below (w.heap.size + 2) W2 W3 := by
    rw [← hW3]
    exact set9b hwt _ _ _ _ _ _ _ _ _
  have hz3 : W3.heap.size = W2.heap.size := by rw [← hW3]; simp
  have hbt3 : Blk W3 bt 122 (talC b.lo b.hi p b.ns.length c kd Bb) := by
    rw [← hW3]
    exact set9 HBT.out _ _ _ _ _ _ _ _ _
  have hBb3 : Blk W3 Bb 179 cs := by
    rw [← hW3]
    exact set9o HBB.out hne.symm _ _ _ _ _ _ _ _ _
  have hc3 : Blk W3 w.heap.size 119 (catC b.lo b.hi p b.ns.length c kd) := (hB3.block _ (by omega)).trans HCW.out
  have hr3 : Blk W3 (w.heap.size + 1) 122 #[.int .i64 0, .int .i64 0, .slice none 0 0, .int .i64 0, .int .i64 0, .int .i64 0, .int .i64 0, .int .i64 0, .slice none 0 0] := (hB3.block _ (by omega)).trans HRW.out
  have HB3 := Lib.hid (HBW.out.trans (hB3.mono (by omega)))
  have HBT3 := Lib.hid hbt3
  have HBB3 := Lib.hid hBb3
  have HC3 := Lib.hid hc3
  have HR3 := Lib.hid hr3
  have q0 := hc3.cell 0
  have q1 := hc3.cell 1
  have q2 := hc3.cell 2
  have q3 := hc3.cell 3
  have q4 := hc3.cell 4
  have q5 := hc3.cell 5
  have q6 := hc3.cell 6
  have q7 := hc3.cell 7
  unfold catC at q0 q1 q2 q3 q4 q5 q6 q7
  simp only [List.size_toArray, List.length_cons, List.length_nil, Nat.reduceAdd, Nat.reduceLT, getElem?_pos, List.getElem_toArray, List.getElem_cons_zero, List.getElem_cons_succ] at q0 q1 q2 q3 q4 q5 q6 q7
  have lw3 : w.heap.size < W3.heap.size := hc3.lt
  have hne3 : ¬ w.heap.size = W3.heap.size := by omega
  have hmm := @run_makeMap Tryz.prog
  have lw4 : w.heap.size + 2 ≤ W3.heap.size := by omega
  have lb3 : bt < W3.heap.size := hbt3.lt
  have lB3 : Bb < W3.heap.size := hBb3.lt
  clear hz2 hz3 hz0 lbt
  clear hW3 hB3 hbt3 hBb3 hc3 hr3 s0 s1 s2 s3 s4 s5 s6 s7 s8 f0 f1 f2 f3 f4 f5 f6 f7 f8 HBT HBB HCW HRW HBW
  clear q0 q1 q2 q3 q4 q5 q6 q7
  go_upto_region 5 with fail
  clear hmm
  generalize hW5 : ((W3.alloc _).alloc _).alloc _ = W5
  have hB5 : Below W3.heap.size W3 W5 := by rw [← hW5]; (exact belA)
  have hz5 : W5.heap.size = W3.heap.size + 3 := by rw [← hW5]; simp
  have hg5 : Blk W5 W3.heap.size 177 #[.func (.func 139) #[] #[.pointer (some ⟨w.heap.size, 0, none⟩), .pointer (some ⟨W3.heap.size, 0, none⟩), .pointer (some ⟨bt, 0, none⟩)]] := by rw [← hW5]; exact ((Blk.new rfl).alloc _).alloc _
  have hm5 : StAt W5 (W3.heap.size + 1) 0 [] := by
    rw [← hW5]
    refine MapAt.of_heap (w := (W3.alloc _).alloc _) ?_ (Below.heap_alloc _ _ _ (by simp))
    have := MapAt.new Tryz.prog 169 (W3.alloc (.cells #[.func (.func 139) #[] #[.pointer (some ⟨w.heap.size, 0, none⟩), .pointer (some ⟨W3.heap.size, 0, none⟩), .pointer (some ⟨bt, 0, none⟩)]] 177))
    rw [World.size_alloc] at this
    show MapAt _ _ _ _ _ (setF [])
    rw [setF_nil]; exact this
  have hb5 : Blk W5 (W3.heap.size + 2) 179 #[.map (some (W3.heap.size + 1))] := by rw [← hW5]; exact Blk.new (by simp)
  have hc5 := HC3.out.bel hB5
  have q0 := hc5.cell 0
  have q1 := hc5.cell 1
  have q2 := hc5.cell 2
  have q3 := hc5.cell 3
  have q4 := hc5.cell 4
  have q5 := hc5.cell 5
  have q6 := hc5.cell 6
  have q7 := hc5.cell 7
  unfold catC at q0 q1 q2 q3 q4 q5 q6 q7
  simp only [List.size_toArray, List.length_cons, List.length_nil, Nat.reduceAdd, Nat.reduceLT, getElem?_pos, List.getElem_toArray, List.getElem_cons_zero, List.getElem_cons_succ] at q0 q1 q2 q3 q4 q5 q6 q7
  have HB5 := Lib.hid (HB3.out.trans (hB5.mono (by omega)))
  have HBT5 := Lib.hid (HBT3.out.bel hB5)
  have HBB5 := Lib.hid (HBB3.out.bel hB5)
  have HR5 := Lib.hid (HR3.out.bel hB5)
  have HC5 := Lib.hid hc5
  have HG5 := Lib.hid hg5
  have HM5 := Lib.hid hm5
  have Hb5 := Lib.hid hb5
  clear hW5 hB5 hg5 hm5 hb5 hc5 HB3 HBT3 HBB3 HR3 HC3
  go_wp2_with fail
  clear q0 q1 q2 q3 q4 q5 q6 q7
  obtain ⟨hs1, hs2, hs3, hs4, hs5, hs6⟩ := hok.span
  have hseq := start_in b.lo b.hi p b.ns.length c kd (fun j => j = W3.heap.size + 1 ∨ j = W5.heap.size + 1) W5 ⟨hs1, hs5, hs4⟩
  have hlb := Hb5.out.lt
  have hlm := HM5.out.lt
  have hlen13 : (startL b.lo b.hi).length ≤ 13 := by simp [startL, numsL, nupto]; omega
  refine (wpIn_wide (n := 9)).1 ?_
  refine wpIn_rangeFunc_0 (gf := 142) (fb := #[.agg #[.int .i64 b.lo, .int .i64 b.hi, .slice p b.ns.length c, .int .i64 kd.a, .int .i64 kd.b, .int .i64 kd.c, .int .i64 kd.d, .int .i64 kd.e]]) (lb := #[]) rfl (enters_of Tryz.func142 (by kernel_rfl) rfl)
    (fun j => j = W3.heap.size + 1) (fun j hj => by omega) hseq (Below.refl _ _) (fun _ => rfl)
    (fun pre A => (∃ n2 : Nat, n2 ≤ pre.length ∧ StAt A (W3.heap.size + 1) n2 pre.reverse) ∧ Blk A (W3.heap.size + 2) 179 #[.map (some (W3.heap.size + 1))])
    (fun c pre A => False)
    (fun pre z a' A => ∃ g : Nat, W5.heap.size + 2 ≤ g ∧ Blk A g 169 #[.int .i64 z.1, .int .i64 z.2] ∧ a' = { tmps := #[.agg #[.int .i64 b.lo, .int .i64 b.hi, .slice p b.ns.length c, .int .i64 kd.a, .int .i64 kd.b, .int .i64 kd.c, .int .i64 kd.d, .int .i64 kd.e], .pointer (some ⟨w.heap.size, 0, none⟩), .pointer (some ⟨w.heap.size + 1, 0, none⟩), .pointer (some ⟨bt, 0, none⟩), .pointer (some ⟨W3.heap.size, 0, none⟩), .pointer (some ⟨W3.heap.size + 1 + 1, 0, none⟩), .pointer (some ⟨g, 0, none⟩), .agg #[.int .i64 b.lo, .int .i64 b.hi, .slice p b.ns.length c, .int .i64 kd.a, .int .i64 kd.b, .int .i64 kd.c, .int .i64 kd.d, .int .i64 kd.e], .pointer (some ⟨w.heap.size, 0, none⟩), .pointer (some ⟨w.heap.size, 2, none⟩), .slice p b.ns.length c, .int .i64 b.ns.length, .int .i64 ((b.ns.length + 1 : Nat) : Int), .slice (some ⟨B6, 0, none⟩) (b.ns.length + 1) (b.ns.length + 1), .agg (talC b.lo b.hi p b.ns.length c kd Bb), .func (.func 139) #[] #[.pointer (some ⟨w.heap.size, 0, none⟩), .pointer (some ⟨W3.heap.size, 0, none⟩), .pointer (some ⟨bt, 0, none⟩)], .map (some (W3.heap.size + 1)), .agg #[.int .i64 b.lo, .int .i64 b.hi, .slice p b.ns.length c, .int .i64 kd.a, .int .i64 kd.b, .int .i64 kd.c, .int .i64 kd.d, .int .i64 kd.e], .func (.func 142) #[.agg #[.int .i64 b.lo, .int .i64 b.hi, .slice p b.ns.length c, .int .i64 kd.a, .int .i64 kd.b, .int .i64 kd.c, .int .i64 kd.d, .int .i64 kd.e]] #[], .agg #[.int .i64 z.1, .int .i64 z.2], undef, undef, undef, undef, undef, undef], defers := [] })
    ?hI ?hIx ?hAx ?h0 ?hassign ?hbody ?hdone ?hstop
  case hI =>
    rintro pre A C ⟨⟨n2, j0, j1⟩, j2⟩ hz hp
    exact ⟨⟨n2, j0, j1.bel (by omega) hp⟩, (hp.block _ (by omega)).trans j2⟩
  case hIx => rintro c pre A C h; exact h.elim
  case hAx =>
    rintro pre z a' A C ⟨g, h1, h2, rfl⟩ hp
    exact ⟨g, h1, (hp.block _ h2.lt (by omega)).trans h2, rfl⟩
  case h0 =>
    intro W6 hb6
    exact ⟨⟨0, by simp, by simpa using HM5.out.bel (by omega) hb6⟩, (hb6.block _ (by omega)).trans Hb5.out⟩
  case hassign =>
    intro m l' pre z W' hz hsp hi'
    clear hseq
    dsimp only [encS, key2]
    gi_wp2_with fail
    exact ⟨⟨W'.heap.size, hz, Blk.new rfl, rfl⟩, by (exact belA)⟩
  case hbody =>
    rintro m l' pre z a' W' hz hpx ⟨⟨n2, j0, j1⟩, j2⟩ ⟨g, hgz, hbg, rfl⟩
    have hzm : z ∈ startL b.lo b.hi := hpx.subset (by simp)
    have hpl : pre.length ≤ 13 := by
      have := hpx.length_le
      simp at this; omega
    have hzK := startL_K ⟨hs1, hs4⟩ z hzm
    have hzI : InI z.1 ∧ InI z.2 := ⟨(hzK.b (by omega)).i1, (hzK.b (by omega)).i2⟩
    obtain ⟨w3, hst3, hm3, hg3⟩ := j1.store key_state Tryz.underlying179 (by unfold maxLen; omega) hzI.1 hzI.2 (.bool true)
    rw [setF_upd] at hm3
    have c0 := j2.cell 0
    have d0 := hbg.cell 0
    have d1 := hbg.cell 1
    have l0 := j2.lt
    have l1 := hbg.lt
    simp only [List.size_toArray, List.length_cons, List.length_nil, Nat.reduceAdd, Nat.reduceLT, getElem?_pos, List.getElem_toArray, List.getElem_cons_zero, List.getElem_cons_succ] at c0 d0 d1
    have J2 := Lib.hid j2
    have HM3 := Lib.hid hm3
    have HG3 := Lib.hid hg3
    unfold key2 at hst3
    clear hseq j1 j2 hbg hm3 hg3 hpx hzm
    gi_wp2_with fail
    refine ⟨PrivM.of_grown HG3.out, ⟨n2 + 1, by simp; omega, ?_⟩, (HG3.out.block _ (by omega) (by simp)).trans J2.out⟩
    rw [List.reverse_append]; exact HM3.out
  case hdone =>
    rintro D xs W' rfl hz rfl ⟨⟨n2, j0, j1⟩, j2⟩ hp hD'
    have c0 := j2.cell 0
    have l0 := j2.lt
    have hO : ∀ j, j ≠ W3.heap.size + 1 → ¬ j = W3.heap.size + 1 := fun _ h => h
    have hg1 := (hp.block _ (HG5.out.lt) (by omega)).trans HG5.out
    have g0 := Blk.cell hg1 0
    have lg := Blk.lt hg1
    simp only [List.size_toArray, List.length_cons, List.length_nil, Nat.reduceAdd, Nat.reduceLT, getElem?_pos, List.getElem_toArray, List.getElem_cons_zero, List.getElem_cons_succ] at c0 g0
    have hgb : GoBox W' b p c kd w.heap.size W3.heap.size bt Bb := ⟨(hp.block _ HC5.out.lt (by omega)).trans HC5.out, hg1, (hp.block _ HBT5.out.lt (by omega)).trans HBT5.out⟩
    have hbW : Blk W' Bb 179 cs := (hp.block _ HBB5.out.lt (by omega)).trans HBB5.out
    have hBW : Below w.heap.size w W' := HB5.out.trans (hp.below (by omega) (fun j hj => by omega))
    have hmS : StAt W' (W3.heap.size + 1) n2 (startL b.lo b.hi) := MapAt.eq j1 (fun a d _ _ => by rw [setF_congr (l := startL b.lo b.hi) (l' := (startL b.lo b.hi).reverse) (fun q => by simp)])
    have HRW := Lib.hid (show Blk W' (w.heap.size + 1) 122 _ from (hp.block _ HR5.out.lt (by omega)).trans HR5.out)
    have HMS := Lib.hid hmS
    have HGB := Lib.hid hgb
    have HBW := Lib.hid hbW
    have HBW2 := Lib.hid hBW
    have HLW := Lib.hid (HL.out.below hBW)
    have HD := Lib.hid hD'
    clear j1 j2 hg1 hgb hbW hBW hmS hp hseq hD'
    have hgo := goOn_any b p c kd w.heap.size W3.heap.size bt Bb hok b.ns.length 0 (W3.heap.size + 1) n2 (startL b.lo b.hi) cs W' (by omega) HLW.out HGB.out (by omega) (by omega) hne (fun a ha => by have := hpw a ha; omega) HBW.out hcs HMS.out (startL_K ⟨hs1, hs4⟩) (by omega)
    rw [show ((0 : Nat) : Int) = 0 from rfl] at hgo
    have HGO := Lib.hid hgo
    clear hgo
    gi_wp2_with fail
    go_upto_region 9 with (go_at_call 139; refine HGO.out.mono ?_; rintro e W7 ⟨M', n', rfl, k1, k2, k3⟩; have K2 := Lib.hid k2; have K3 := Lib.hid k3; clear k1 k2 k3)
    have hbt7 := (K3.out.block _ HGB.out.tT.lt (by simpa using hne)).trans HGB.out.tT
    have hr7 : Blk W7 (w.heap.size + 1) 122 _ := (K3.out.block _ HRW.out.lt (by simp; omega)).trans HRW.out
    have HR7 := Lib.hid hr7
    have lt7 := Blk.lt hbt7
    have lr7 := hr7.lt
    have s0 := Blk.cell hbt7 0
    have s1 := Blk.cell hbt7 1
    have s2 := Blk.cell hbt7 2
    have s3 := Blk.cell hbt7 3
    have s4 := Blk.cell hbt7 4
    have s5 := Blk.cell hbt7 5
    have s6 := Blk.cell hbt7 6
    have s7 := Blk.cell hbt7 7
    have s8 := Blk.cell hbt7 8
    have r0 := hr7.cell 0
    have r1 := hr7.cell 1
    have r2 := hr7.cell 2
    have r3 := hr7.cell 3
    have r4 := hr7.cell 4
    have r5 := hr7.cell 5
    have r6 := hr7.cell 6
    have r7 := hr7.cell 7
    have r8 := hr7.cell 8
    have f0 := hr7.frozen 0
    have f1 := hr7.frozen 1
    have f2 := hr7.frozen 2
    have f3 := hr7.frozen 3
    have f4 := hr7.frozen 4
    have f5 := hr7.frozen 5
    have f6 := hr7.frozen 6
    have f7 := hr7.frozen 7
    have f8 := hr7.frozen 8
    unfold catC at s0 s1 s2 s3 s4 s5 s6 s7 s8
    simp only [List.size_toArray, List.length_cons, List.length_nil, Nat.reduceAdd, Nat.reduceLT, getElem?_pos, List.getElem_toArray, List.getElem_cons_zero, List.getElem_cons_succ, List.append_toArray, List.cons_append, List.nil_append] at s0 s1 s2 s3 s4 s5 s6 s7 s8 r0 r1 r2 r3 r4 r5 r6 r7 r8
    clear hbt7 hr7 hne g0 lg l0 c0
    go_wp2_with fail
    have hdW : W7.heap[W3.heap.size + 3]? = some (.deferred (some [])) := by
      have h1 := HD.out
      rw [hz5] at h1
      refine (K3.out.block _ (Array.getElem?_eq_some_iff.1 h1).1 (fun e => ?_)).trans h1
      have h2 := HBW.out
      unfold Blk at h2
      simp only [Option.some.injEq] at e
      rw [← e, h1] at h2; cases h2
    have hnD : W3.heap.size + 3 ≠ w.heap.size + 1 := by omega
    generalize hF : World.setCell _ _ _ = F
    have hF2 : F = put9 W7 (w.heap.size + 1) (.int .i64 b.lo) (.int .i64 b.hi) (.slice p b.ns.length c) (.int .i64 kd.a) (.int .i64 kd.b) (.int .i64 kd.c) (.int .i64 kd.d) (.int .i64 kd.e) (.slice (some ⟨Bb, 0, none⟩) (b.ns.length + 1) (b.ns.length + 1)) := hF.symm
    have hdF : F.heap[W3.heap.size + 3]? = some (.deferred (some [])) := by rw [hF2, set9h hnD]; exact hdW
    have hrF : Blk F (w.heap.size + 1) 122 (talC b.lo b.hi p b.ns.length c kd Bb) := by rw [hF2]; exact set9 HR7.out _ _ _ _ _ _ _ _ _
    have hBF : Below w.heap.size W7 F := by rw [hF2]; exact set9b (by omega) _ _ _ _ _ _ _ _ _
    have hkF : ∀ k, k ≠ w.heap.size + 1 → F.heap[k]? = W7.heap[k]? := fun k hk => by rw [hF2]; exact set9h hk _ _ _ _ _ _ _ _ _
    have hzF : F.heap.size = W7.heap.size := by rw [hF2]; exact set9z _ _ _ _ _ _ _ _ _
    clear hF hF2
    refine ⟨by simp, .inl ⟨_, _, rfl, run_takeDeferred hdF, ?_⟩⟩
    have hrG : Blk (F.putObj (W3.heap.size + 3) (.deferred none)) (w.heap.size + 1) 122 (talC b.lo b.hi p b.ns.length c kd Bb) := (World.putObj_heap_other (by omega)).trans hrF
    have t0 := hrG.cell 0
    have t1 := hrG.cell 1
    have t2 := hrG.cell 2
    have t3 := hrG.cell 3
    have t4 := hrG.cell 4
    have t5 := hrG.cell 5
    have t6 := hrG.cell 6
    have t7 := hrG.cell 7
    have t8 := hrG.cell 8
    simp only [List.size_toArray, List.length_cons, List.length_nil, Nat.reduceAdd, Nat.reduceLT, getElem?_pos, List.getElem_toArray, List.getElem_cons_zero, List.getElem_cons_succ] at t0 t1 t2 t3 t4 t5 t6 t7 t8
    refine ⟨.agg (talC b.lo b.hi p b.ns.length c kd Bb), ?_, Bb, rfl, by omega, (K2.out.t).keep HR7.out hdW (by omega) (fun k h1 h2 => (World.putObj_heap_other h2).trans (hkF k h1)), ?_⟩
    · simp [results, Tryz.results99, go_sem, t0, t1, t2, t3, t4, t5, t6, t7, t8]
    · refine HBW2.out.trans (Below.trans (Below.trans ?_ (hBF.mono (Nat.le_refl _))) (below_putObj _ (by omega) _))
      exact Below.of_grown1 K3.out HBW2.out.size (by omega)
  case hstop =>
    rintro D c pre W' rfl hz hSp h hp hD'
    exact h.elim
end Go.Proofs.YtcaeohgbgeadaaaGreatDoor

