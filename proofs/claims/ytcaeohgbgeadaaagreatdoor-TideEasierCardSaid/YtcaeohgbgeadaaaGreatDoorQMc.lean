/- Package seine: what is lost and saved by a tale. -/
/- Package seine: what a book tells, or the error of a question that it cannot answer. -/
import Derived.Test.YtcaeohgbgeadaaaGreatDoorQMa
set_option linter.unusedSimpArgs false
set_option linter.unusedVariables false
namespace Go.Proofs.YtcaeohgbgeadaaaGreatDoor
open Go Go.RowKit Go.Shelf
attribute [local go_sem] Oper.semAt_some frozen_alloc_lt
set_option maxRecDepth 100000 in
set_option maxHeartbeats 2000000 in
theorem trate_any (b : Sn) (p : Option Addr) (c : Nat) (kd : Kd) (Bb : Nat) (h : Int) (w : World) (ht : TOK w b p Bb) (hh : 0 ≤ h ∧ h ≤ 60) :
    Calls Tryz.prog 130 #[.agg (talC b.lo b.hi p b.ns.length c kd Bb), .int .i64 h] w fun e w' => e = .returned (.agg #[.int .i64 (minF Prod.snd 400 (atL b h)), .int .i64 (maxF Prod.snd 0 (atL b h))]) ∧ Below w.heap.size w w' := by
  have hle := upN_le b.ns h
  have hL := behN_at hle
  have hst := talL_B ht.ok hL
  have hbd := sinN_bd ht.ok hh.1
  obtain ⟨n, hn⟩ : ∃ n : Nat, sinN b.ns h = n := ⟨(sinN b.ns h).toNat, by omega⟩
  unfold atL
  rw [hn]
  have HT := Lib.hid ht
  have HN := Lib.hid hn
  have hn60 : n ≤ 60 := by omega
  clear ht hbd hn
  unfold talC
  go_enter Tryz.func130, Tryz.ntmps130
  go_upto_region 1 with fail
  generalize hW0 : (w.alloc _).alloc _ = W0
  have hB0 : Below w.heap.size w W0 := by rw [← hW0]; (exact belA)
  have hz0 : W0.heap.size = w.heap.size + 2 := by rw [← hW0]; simp
  have ht0 : Blk W0 w.heap.size 122 (talC b.lo b.hi p b.ns.length c kd Bb) := by rw [← hW0]; exact (Blk.new rfl).alloc _
  have hr0 : Blk W0 (w.heap.size + 1) 23 #[.int .i64 0, .int .i64 0] := by rw [← hW0]; exact Blk.new (by simp)
  have q0 := ht0.cell 0
  have q1 := ht0.cell 1
  have q2 := ht0.cell 2
  have q3 := ht0.cell 3
  have q4 := ht0.cell 4
  have q5 := ht0.cell 5
  have q6 := ht0.cell 6
  have q7 := ht0.cell 7
  have q8 := ht0.cell 8
  simp only [List.size_toArray, List.length_cons, List.length_nil, Nat.reduceAdd, Nat.reduceLT, getElem?_pos, List.getElem_toArray, List.getElem_cons_zero, List.getElem_cons_succ] at q0 q1 q2 q3 q4 q5 q6 q7 q8
  have HB0 := Lib.hid hB0
  have HR0 := Lib.hid hr0
  clear hW0 hB0 ht0 hr0
  go_wp2_with (first
    | (go_at_call 137; refine (at_any b p c kd Bb h _ (HT.out.nt.below HB0.out) HT.out.ok hh).mono ?_; rintro e w1 ⟨bt, bp, bs, rfl, k1, k2, k3, k4, k5, k6, k7⟩; rw [HN.out] at k6; have HW1 := Lib.hid k7; have HX := Lib.hid (show AtBox w1 b.lo b.hi p b.ns.length c kd Bb bt bp bs (upN b.ns h) n (talL b) from ⟨k4, k5, k6, (HT.out.tl.bel HB0.out).bel k7⟩); clear k4 k5 k6 k7)
    | (go_at_call 136; refine (spanRate_any b.lo b.hi p b.ns.length c kd Bb bt bp bs (upN b.ns h) n (talL b) (behN b (upN b.ns h)) w1 HX.out hL hle hst hn60).mono ?_; rintro e w2 ⟨rfl, k8⟩; have HR2 := Lib.hid ((HR0.out.bel HW1.out).bel k8); have HW2 := Lib.hid (HB0.out.trans ((HW1.out.mono HB0.out.size).trans (k8.mono (by have := HB0.out.size; have := HW1.out.size; omega)))); have r0 := HR2.out.cell 0; have r1 := HR2.out.cell 1; have f0 := HR2.out.frozen 0; have f1 := HR2.out.frozen 1; have lr := HR2.out.lt; simp only [List.size_toArray, List.length_cons, List.length_nil, Nat.reduceAdd, Nat.reduceLT, getElem?_pos, List.getElem_toArray, List.getElem_cons_zero, List.getElem_cons_succ] at r0 r1; clear k8))
  have hF := (HR2.out.set 0 (.int .i64 (minF Prod.snd 400 (latL (behN b (upN b.ns h)) n)))).set 1 (.int .i64 (maxF Prod.snd 0 (latL (behN b (upN b.ns h)) n)))
  have t0 := Blk.cell hF 0
  have t1 := Blk.cell hF 1
  refine bodyPost_ret (v := .agg #[.int .i64 (minF Prod.snd 400 (latL (behN b (upN b.ns h)) n)), .int .i64 (maxF Prod.snd 0 (latL (behN b (upN b.ns h)) n))]) ?_ rfl ⟨rfl, ?_⟩
  · simp [results, Tryz.results130, go_sem, r0, r1, lr]
  · exact (HW2.out.setCell (by simp) _).setCell (by simp) _

theorem lastN_bd {b : Sn} (hok : Ok9 b) : 0 ≤ lastN b.ns ∧ lastN b.ns ≤ 60 := by
  unfold lastN
  obtain ⟨k, hk⟩ : ∃ k, b.ns.length = k := ⟨_, rfl⟩
  rw [hk]
  cases k with
  | zero => simp [pastN]
  | succ k =>
    obtain ⟨s, hs⟩ := get_some b.ns k (by omega)
    obtain ⟨-, h2, -⟩ := hok.nt hs
    simp [pastN, hs]; omega
/-- What the operations of saved's drawn region leave. -/
def savR (B g : Nat) (b : Sn) (p : Option Addr) (c : Nat) (kd : Kd) (Bb q n : Nat) (i : Nat) (v : Value) (w : World) : Prop :=
  match i with
  | 0 => v = .func (.func 144) #[] #[.pointer (some ⟨g, 0, none⟩)]
  | 1 => v = .agg #[.func (.func 144) #[] #[.pointer (some ⟨g, 0, none⟩)]]
  | 2 => v = .agg (talC b.lo b.hi p b.ns.length c kd Bb)
  | 3 => v = .pointer (some ⟨B, 0, none⟩)
  | 4 => v = .agg (catC b.lo b.hi p b.ns.length c kd)
  | 5 => v = .int .i64 (lastN b.ns)
  | 6 => ∃ bt bp bs : Nat, v = .func (.func 174) #[] #[.pointer (some ⟨bt, 0, none⟩), .pointer (some ⟨bp, 0, none⟩), .pointer (some ⟨bs, 0, none⟩)] ∧ AtBox w b.lo b.hi p b.ns.length c kd Bb bt bp bs (upN b.ns (lastN b.ns)) n (talL b)
  | 7 => v = .agg #[.int .i64 (minF (savS q) 400 (latL (behN b (upN b.ns (lastN b.ns))) n)), .int .i64 (maxF (savS q) 0 (latL (behN b (upN b.ns (lastN b.ns))) n))]
  | _ => True
theorem savR_kept (B g : Nat) (b : Sn) (p : Option Addr) (c : Nat) (kd : Kd) (Bb q n : Nat) : ∀ (i : Nat), i < 8 → ∀ (v : Value) (w w' : World), savR B g b p c kd Bb q n i v w → Below w.heap.size w w' → savR B g b p c kd Bb q n i v w' := by
  intro i h8 v w w' h hb
  match i, h8 with
  | 0, _ => exact h
  | 1, _ => exact h
  | 2, _ => exact h
  | 3, _ => exact h
  | 4, _ => exact h
  | 5, _ => exact h
  | 6, _ => obtain ⟨bt, bp, bs, h1, h2⟩ := h; exact ⟨bt, bp, bs, h1, h2.bel hb⟩
  | 7, _ => exact h
  | k + 8, hk => omega
section
variable {o : Oper} {w : World} {g j t u : Nat} (ρ : Operand → Value) {lo hi : Int} {p : Option Addr} {N c Bb : Nat} {kd : Kd}
theorem run_mkSaved (hop : o.op = .makeFunc (Fn.func 144) #[] #[.tmp t]) {v : Value} (hs : ρ (.tmp t) = v) : (execOp ρ o).run Tryz.prog w = .ok (.value (.func (.func 144) #[] #[v])) w := by
  unfold execOp; simp [hop, hs, go_sem]
theorem run_bQuest {f : Fn} {a b : Array Value} (hop : o.op = .build 172 #[(0, .tmp t)]) (hs : ρ (.tmp t) = .func f a b) : (execOp ρ o).run Tryz.prog w = .ok (.value (.agg #[.func f a b])) w := by
  unfold execOp; simp [hop, hs, go_sem]
theorem run_fTale0 (hop : o.op = .fieldAddr 122 (.tmp t) 0) (hs : ρ (.tmp t) = .pointer (some ⟨g, 0, none⟩)) (hl : g < w.heap.size) : (execOp ρ o).run Tryz.prog w = .ok (.value (.pointer (some ⟨g, 0, none⟩))) w := by
  unfold execOp; simp [hop, hs, go_sem, hl]
theorem run_lTale (hop : o.op = .load 122 (.tmp t)) (hs : ρ (.tmp t) = .pointer (some ⟨g, 0, none⟩)) (k : Blk w g 122 (talC lo hi p N c kd Bb)) : (execOp ρ o).run Tryz.prog w = .ok (.value (.agg (talC lo hi p N c kd Bb))) w := by
  have c0 := k.cell 0
  have c1 := k.cell 1
  have c2 := k.cell 2
  have c3 := k.cell 3
  have c4 := k.cell 4
  have c5 := k.cell 5
  have c6 := k.cell 6
  have c7 := k.cell 7
  have c8 := k.cell 8
  simp only [List.size_toArray, List.length_cons, List.length_nil, Nat.reduceAdd, Nat.reduceLT, getElem?_pos, List.getElem_toArray, List.getElem_cons_zero, List.getElem_cons_succ] at c0 c1 c2 c3 c4 c5 c6 c7 c8
  unfold execOp; simp [hop, hs, go_sem, c0, c1, c2, c3, c4, c5, c6, c7, c8]
theorem run_lCatchT (hop : o.op = .load 119 (.tmp t)) (hs : ρ (.tmp t) = .pointer (some ⟨g, 0, none⟩)) (k : Blk w g 122 (talC lo hi p N c kd Bb)) : (execOp ρ o).run Tryz.prog w = .ok (.value (.agg (catC lo hi p N c kd))) w := by
  have c0 := k.cell 0
  have c1 := k.cell 1
  have c2 := k.cell 2
  have c3 := k.cell 3
  have c4 := k.cell 4
  have c5 := k.cell 5
  have c6 := k.cell 6
  have c7 := k.cell 7
  unfold catC
  simp only [List.size_toArray, List.length_cons, List.length_nil, Nat.reduceAdd, Nat.reduceLT, getElem?_pos, List.getElem_toArray, List.getElem_cons_zero, List.getElem_cons_succ] at c0 c1 c2 c3 c4 c5 c6 c7
  unfold execOp; simp [hop, hs, go_sem, c0, c1, c2, c3, c4, c5, c6, c7]
end
set_option maxRecDepth 100000 in
set_option maxHeartbeats 2000000 in
theorem tsaved_any (b : Sn) (p : Option Addr) (c : Nat) (kd : Kd) (Bb : Nat) (w : World) (ht : TOK w b p Bb) (hkd : kd.ok b.ns.length) :
    Calls Tryz.prog 101 #[.agg (talC b.lo b.hi p b.ns.length c kd Bb)] w fun e w' => e = .returned (.agg #[.int .i64 (minF (savS (60 - lastN b.ns)) 400 (atL b (lastN b.ns))), .int .i64 (maxF (savS (60 - lastN b.ns)) 0 (atL b (lastN b.ns)))]) ∧ Below w.heap.size w w' := by
  have hlb := lastN_bd ht.ok
  have hle := upN_le b.ns (lastN b.ns)
  have hL := behN_at hle
  have hst := talL_B ht.ok hL
  have hbd := sinN_bd ht.ok hlb.1
  obtain ⟨n, hn⟩ : ∃ n : Nat, sinN b.ns (lastN b.ns) = n := ⟨(sinN b.ns (lastN b.ns)).toNat, by omega⟩
  obtain ⟨q, hq⟩ : ∃ q : Nat, 60 - lastN b.ns = q := ⟨(60 - lastN b.ns).toNat, by omega⟩
  unfold atL
  rw [hn, hq]
  have HT := Lib.hid ht
  have HN := Lib.hid hn
  have hn60 : n ≤ 60 := by omega
  have hq60 : q ≤ 60 := by omega
  have hw : wrap64 (60 - lastN b.ns) = (q : Int) := by unfold wrap64; omega
  have hw2 : 60 - lastN b.ns = (q : Int) := hq
  have hw3 : wrap64 (q : Int) = (q : Int) := by unfold wrap64; omega
  clear ht hbd hn hq
  unfold talC
  go_enter Tryz.func101, Tryz.ntmps101
  go_upto_region 1 with fail
  generalize hW0 : (w.alloc _).alloc _ = W0
  have hB0 : Below w.heap.size w W0 := by rw [← hW0]; (exact belA)
  have hz0 : W0.heap.size = w.heap.size + 2 := by rw [← hW0]; simp
  have ht0 : Blk W0 w.heap.size 122 (talC b.lo b.hi p b.ns.length c kd Bb) := by rw [← hW0]; exact (Blk.new rfl).alloc _
  have hr0 : Blk W0 (w.heap.size + 1) 23 #[.int .i64 0, .int .i64 0] := by rw [← hW0]; exact Blk.new (by simp)
  have q0 := ht0.cell 0
  have q1 := ht0.cell 1
  have q2 := ht0.cell 2
  have q3 := ht0.cell 3
  have q4 := ht0.cell 4
  have q5 := ht0.cell 5
  have q6 := ht0.cell 6
  have q7 := ht0.cell 7
  have lt0 := ht0.lt
  simp only [List.size_toArray, List.length_cons, List.length_nil, Nat.reduceAdd, Nat.reduceLT, getElem?_pos, List.getElem_toArray, List.getElem_cons_zero, List.getElem_cons_succ] at q0 q1 q2 q3 q4 q5 q6 q7
  have HT0 := Lib.hid ht0
  have HB0 := Lib.hid hB0
  have HR0 := Lib.hid hr0
  clear hW0 hB0 ht0 hr0
  go_upto_region 2 with (go_at_call 143; refine (last_any b p c kd _ (HT.out.nt.below HB0.out) HT.out.ok hkd).mono ?_; rintro e w1 ⟨rfl, y, rfl⟩)
  generalize hW1 : (ext W0 y).alloc _ = W1
  generalize hg : (ext W0 y).heap.size = g
  have hB1 : Below W0.heap.size W0 W1 := by rw [← hW1]; (exact belA)
  have hg1 : Blk W1 g 3 #[.int .i64 q] := by rw [← hW1]; exact Blk.new hg.symm
  have ht1 := HT0.out.bel hB1
  have HBW := Lib.hid (HB0.out.trans (hB1.mono HB0.out.size))
  have HTW := Lib.hid (HT.out.bel HBW.out)
  have HR1 := Lib.hid (HR0.out.bel hB1)
  clear q0 q1 q2 q3 q4 q5 q6 q7 hW1 hg hB1
  refine wp_region_flow_back 8 16 (savR w.heap.size g b p c kd Bb q n) (by kernel_rfl) (by kernel_rfl) rfl (savR_kept _ _ _ _ _ _ _ _ _) ?_ ?_
  · intro i hin a X g1 g2 g3 g4 g5 KK hKK
    have htX := ht1.bel g5
    have hgX := hg1.bel g5
    have hTX := HTW.out.bel g5
    match i, hin with
    | 0, _ => exact st_val rfl (wanted_none rfl) (run_mkSaved _ rfl (g3 3 (by kernel_rfl))) (hKK _ _ rfl (Below.refl _ _))
    | 1, _ => exact st_val rfl (wanted_none rfl) (run_bQuest _ rfl (g4 0 (by kernel_rfl))) (hKK _ _ rfl (Below.refl _ _))
    | 2, _ => exact st_val rfl (wanted_none rfl) (run_lTale _ rfl (g3 1 (by kernel_rfl)) htX) (hKK _ _ rfl (Below.refl _ _))
    | 3, _ => exact st_val rfl (wanted_none rfl) (run_fTale0 _ rfl (g3 1 (by kernel_rfl)) htX.lt) (hKK _ _ rfl (Below.refl _ _))
    | 4, _ => exact st_val rfl (wanted_none rfl) (run_lCatchT _ rfl (g4 3 (by kernel_rfl)) htX) (hKK _ _ rfl (Below.refl _ _))
    | 5, _ =>
      refine st_call rfl rfl (wanted_none rfl) (sargs1 (g4 4 (by kernel_rfl))) (run_enter Tryz.func143 (by kernel_rfl) (by kernel_rfl) _) ?_
      refine (last_any b p c kd _ hTX.nt hTX.ok hkd).mono ?_
      rintro e w1 ⟨rfl, y, rfl⟩
      exact ⟨_, rfl, hKK _ _ rfl (below_ext _ _)⟩
    | 6, _ =>
      refine st_call rfl rfl (wanted_none rfl) (sargs2 (g4 2 (by kernel_rfl)) (g4 5 (by kernel_rfl))) (run_enter Tryz.func137 (by kernel_rfl) (by kernel_rfl) _) ?_
      refine (at_any b p c kd Bb (lastN b.ns) _ hTX.nt hTX.ok hlb).mono ?_
      rintro e w1 ⟨bt, bp, bs, rfl, k1, k2, k3, k4, k5, k6, k7⟩
      rw [HN.out] at k6
      exact ⟨_, rfl, hKK _ _ ⟨bt, bp, bs, rfl, k4, k5, k6, hTX.tl.bel k7⟩ k7⟩
    | 7, _ =>
      obtain ⟨bt, bp, bs, e6, hx⟩ := g4 6 (by kernel_rfl)
      refine st_call rfl rfl (wanted_none rfl) (sargs2 (g4 1 (by kernel_rfl)) e6) (run_enter Tryz.func136 (by kernel_rfl) (by kernel_rfl) _) ?_
      refine (spanSaved_any b.lo b.hi p b.ns.length c kd Bb bt bp bs (upN b.ns (lastN b.ns)) n (talL b) (behN b (upN b.ns (lastN b.ns))) q g _ hx hL hle hst hn60 hq60 hgX).mono ?_
      rintro e w1 ⟨rfl, k7⟩
      exact ⟨_, rfl, hKK _ _ rfl k7⟩
    | k + 8, hk => omega
  intro vs W2 hvs hBW2
  have v0 : vs 0 = _ := hvs 0 (by omega)
  have v1 : vs 1 = _ := hvs 1 (by omega)
  have v2 : vs 2 = _ := hvs 2 (by omega)
  have v3 : vs 3 = _ := hvs 3 (by omega)
  have v4 : vs 4 = _ := hvs 4 (by omega)
  have v5 : vs 5 = _ := hvs 5 (by omega)
  obtain ⟨bt, bp, bs, v6, -⟩ := hvs 6 (by omega)
  have v7 : vs 7 = _ := hvs 7 (by omega)
  simp only [putAll, v0, v1, v2, v3, v4, v5, v6, v7]
  clear v0 v1 v2 v3 v4 v5 v6 v7 hvs
  simp only [dstOf, Act.put, List.getElem?_toArray, List.getElem?_cons_zero, List.getElem?_cons_succ, Option.bind_some, Option.getD_some, List.setIfInBounds_toArray, List.set_cons_succ, List.set_cons_zero, List.drop_succ_cons, List.drop_zero]
  have HR2 := Lib.hid (HR1.out.bel hBW2)
  have HW2 := Lib.hid (HBW.out.trans (hBW2.mono HBW.out.size))
  have r0 := HR2.out.cell 0
  have r1 := HR2.out.cell 1
  have f0 := HR2.out.frozen 0
  have f1 := HR2.out.frozen 1
  have lr := HR2.out.lt
  simp only [List.size_toArray, List.length_cons, List.length_nil, Nat.reduceAdd, Nat.reduceLT, getElem?_pos, List.getElem_toArray, List.getElem_cons_zero, List.getElem_cons_succ] at r0 r1
  clear hBW2 ht1 hg1
  go_wp2_with fail
  refine bodyPost_ret (v := .agg #[.int .i64 (minF (savS q) 400 (latL (behN b (upN b.ns (lastN b.ns))) n)), .int .i64 (maxF (savS q) 0 (latL (behN b (upN b.ns (lastN b.ns))) n))]) ?_ rfl ⟨rfl, ?_⟩
  · simp [results, Tryz.results101, go_sem, r0, r1, lr]
  · exact (HW2.out.setCell (by simp) _).setCell (by simp) _
end Go.Proofs.YtcaeohgbgeadaaaGreatDoor

namespace Go.Proofs.YtcaeohgbgeadaaaGreatDoor
open Go Go.RowKit Go.Shelf

/-- A book lies where it was laid, and the package's table. -/
structure SBk (w : World) (b : Sn) (p : Option Addr) : Prop where
  nt : NotesAt w p b.ns
  mm : MM w
  lt : ∀ a, p = some a → a.block < w.heap.size
theorem SBk.bel {w w' : World} {b : Sn} {p : Option Addr} (h : SBk w b p) (hb : Below w.heap.size w w') : SBk w' b p := ⟨h.nt.below hb, h.mm.below hb, fun a ha => Nat.lt_of_lt_of_le (h.lt a ha) hb.size⟩
abbrev zeroT : Array Value := #[.int .i64 0, .int .i64 0, .slice none 0 0, .int .i64 0, .int .i64 0, .int .i64 0, .int .i64 0, .int .i64 0, .slice none 0 0]
theorem TAt.keep1 {w w' : World} {Bb N : Nat} {tl : List (List (Int × Int))} {g : Nat} {t : TypeId} {cs : Array Value} (h : TAt w Bb N tl) (hg : Blk w g t cs) (hgB : g ≠ Bb) (hk : ∀ k, k ≠ g → w'.heap[k]? = w.heap[k]?) : TAt w' Bb N tl := by
  obtain ⟨cs', h1, h2, h3⟩ := h
  refine ⟨cs', (hk _ hgB.symm).trans h1, h2, fun i L hi => ?_⟩
  obtain ⟨M, n, g1, g2⟩ := h3 i L hi
  exact ⟨M, n, g1, g2.of_heap (hk _ (g2.ne_blk hg))⟩
/-- Can a book be true? -/
def rightS (b : Sn) : Bool := decide (behN b 0 ≠ [])
theorem Check_eq (b : Sn) (p : Option Addr) (c : Nat) (q : Bool) (w : World) (hk : SBk w b p) (hq : snB b = q) :
    Calls Tryz.prog 84 #[.agg #[.int .i64 b.lo, .int .i64 b.hi, .slice p b.ns.length c]] w fun e w' => e = .returned (.int .i64 (if q then 0 else 30)) ∧ ∃ x, w' = ext w x := by
  subst hq; exact Check_any b p c w hk.nt hk.mm
attribute [local go_sem] Oper.semAt_some frozen_alloc_lt
set_option maxHeartbeats 1000000 in
theorem answer_bad (b : Sn) (p : Option Addr) (c : Nat) (asked : Bool) (w : World) (hk : SBk w b p) (hv : snB b = false) :
    Calls Tryz.prog 93 #[.agg #[.int .i64 b.lo, .int .i64 b.hi, .slice p b.ns.length c], .bool asked] w fun e w' => e = .returned (.tuple #[.agg zeroT, .int .i64 30]) ∧ Below w.heap.size w w' := by
  have HK := Lib.hid hk
  clear hk
  go_enter Tryz.func93, Tryz.ntmps93
  go_wp2_with (go_at_call 84; refine (Check_eq b p c false _ (HK.out.bel belA) hv).mono ?_; rintro e w1 ⟨rfl, y, rfl⟩)
  refine bodyPost_ret (v := .tuple #[.agg zeroT, .int .i64 30]) (by simp [results, Tryz.results93, go_sem]) rfl ⟨rfl, by (exact belA)⟩
set_option maxHeartbeats 1000000 in
theorem answer_ask (b : Sn) (p : Option Addr) (c : Nat) (w : World) (hk : SBk w b p) (hv : snB b = true) :
    Calls Tryz.prog 93 #[.agg #[.int .i64 b.lo, .int .i64 b.hi, .slice p b.ns.length c], .bool false] w fun e w' => e = .returned (.tuple #[.agg zeroT, .int .i64 31]) ∧ Below w.heap.size w w' := by
  have HK := Lib.hid hk
  clear hk
  go_enter Tryz.func93, Tryz.ntmps93
  go_wp2_with (go_at_call 84; refine (Check_eq b p c true _ (HK.out.bel belA) hv).mono ?_; rintro e w1 ⟨rfl, y, rfl⟩)
  refine bodyPost_ret (v := .tuple #[.agg zeroT, .int .i64 31]) (by simp [results, Tryz.results93, go_sem]) rfl ⟨rfl, by (exact belA)⟩
theorem tright_eq (b : Sn) (p : Option Addr) (c : Nat) (kd : Kd) (Bb : Nat) (q : Bool) (w : World) (h : TOK w b p Bb) (hq : rightS b = q) :
    Calls Tryz.prog 100 #[.agg (talC b.lo b.hi p b.ns.length c kd Bb)] w fun e w' => e = .returned (.bool q) ∧ ∃ x, w' = ext w x := by
  subst hq
  have hL := behN_at (b := b) (k := 0) (by omega)
  obtain ⟨L, tl, hl⟩ : ∃ L tl, talL b = L :: tl := by
    cases hc : talL b with
    | nil => rw [hc] at hL; cases hL
    | cons L tl => exact ⟨L, tl, rfl⟩
  have hLe : behN b 0 = L := by rw [hl] at hL; simpa using hL.symm
  have ht := h.tl
  rw [hl] at ht
  have := tright_any b.lo b.hi p b.ns.length c kd Bb L tl w ht (talL_B h.ok (i := 0) (by rw [hl]; rfl))
  unfold rightS
  rw [hLe]
  exact this
/-- The tale of a book's catch. -/
theorem tale_cat (b : Sn) (p : Option Addr) (c : Nat) (kd : Kd) (w : World) (hk : SBk w b p) (hok : Ok9 b) :
    Calls Tryz.prog 99 #[.agg (catC b.lo b.hi p b.ns.length c kd)] w fun e w' => ∃ Bb : Nat, e = .returned (.agg (talC b.lo b.hi p b.ns.length c kd Bb)) ∧ TOK w' b p Bb ∧ Below w.heap.size w w' ∧ w.heap.size ≤ Bb :=
  (tale_any b p c kd w hk.nt hok hk.lt).mono fun e w' ⟨Bb, h1, h2, h3, h4⟩ => ⟨Bb, h1, ⟨hk.nt.below h4, hok, h3⟩, h4, h2⟩
theorem newCatch_b (b : Sn) (p : Option Addr) (c : Nat) (w : World) (hk : SBk w b p) (hok : Ok9 b) :
    Calls Tryz.prog 97 #[.agg #[.int .i64 b.lo, .int .i64 b.hi, .slice p b.ns.length c]] w fun e w' => ∃ k : Kd, k.ok b.ns.length ∧ e = .returned (.agg (catC b.lo b.hi p b.ns.length c k)) ∧ ∃ x, w' = ext w x :=
  newCatch_any b.lo b.hi b.ns p c w hk.nt hok.kinds (by have := hok.len; omega)
set_option maxRecDepth 100000 in
set_option maxHeartbeats 2000000 in
theorem answer_false (b : Sn) (p : Option Addr) (c : Nat) (w : World) (hk : SBk w b p) (hv : snB b = true) (hr : rightS b = false) :
    Calls Tryz.prog 93 #[.agg #[.int .i64 b.lo, .int .i64 b.hi, .slice p b.ns.length c], .bool true] w fun e w' => e = .returned (.tuple #[.agg zeroT, .int .i64 32]) ∧ Below w.heap.size w w' := by
  have hok := Ok9.of hv
  have HK := Lib.hid hk
  clear hk
  go_enter Tryz.func93, Tryz.ntmps93
  go_upto_region 6 with (go_at_call 84; refine (Check_eq b p c true _ (HK.out.bel belA) hv).mono ?_; rintro e w1 ⟨rfl, y, rfl⟩)
  generalize hW0 : ext _ y = W0
  have hB0 : Below w.heap.size w W0 := by rw [← hW0]; (exact belA)
  have hq0 : Blk W0 w.heap.size 26 #[.int .i64 b.lo, .int .i64 b.hi, .slice p b.ns.length c] := by rw [← hW0]; exact ((Blk.new rfl).alloc _).ext y
  have hr0 : Blk W0 (w.heap.size + 1) 122 zeroT := by rw [← hW0]; exact (Blk.new (by simp)).ext y
  clear hW0
  have q0 := hq0.cell 0
  have q1 := hq0.cell 1
  have q2 := hq0.cell 2
  simp only [List.size_toArray, List.length_cons, List.length_nil, Nat.reduceAdd, Nat.reduceLT, getElem?_pos, List.getElem_toArray, List.getElem_cons_zero, List.getElem_cons_succ] at q0 q1 q2
  have HB0 := Lib.hid hB0
  have HR0 := Lib.hid hr0
  clear hB0 hq0 hr0
  go_upto_region 7 with (first
    | (go_at_call 97; refine (newCatch_b b p c _ (HK.out.bel HB0.out) hok).mono ?_; rintro e w1 ⟨kd, hkd, rfl, y1, rfl⟩)
    | (go_at_call 99; refine (tale_cat b p c kd _ (HK.out.bel (HB0.out.trans ((below_ext _ _).mono HB0.out.size))) hok).mono ?_; rintro e w2 ⟨Bb, rfl, k1, k2, k3⟩; have K1 := Lib.hid k1; have K2 := Lib.hid k2; have K3 := Lib.hid k3; clear k1 k2 k3))
  unfold talC
  generalize hW3 : w2.alloc _ = W3
  have hB3 : Below w2.heap.size w2 W3 := by rw [← hW3]; exact (Below.refl _ _).alloc (Nat.le_refl _) _
  have ht3 : Blk W3 w2.heap.size 122 (talC b.lo b.hi p b.ns.length c kd Bb) := by rw [← hW3]; exact Blk.new rfl
  have l3 := ht3.lt
  have p0 := ht3.cell 0
  have p1 := ht3.cell 1
  have p2 := ht3.cell 2
  have p3 := ht3.cell 3
  have p4 := ht3.cell 4
  have p5 := ht3.cell 5
  have p6 := ht3.cell 6
  have p7 := ht3.cell 7
  have p8 := ht3.cell 8
  simp only [List.size_toArray, List.length_cons, List.length_nil, Nat.reduceAdd, Nat.reduceLT, getElem?_pos, List.getElem_toArray, List.getElem_cons_zero, List.getElem_cons_succ] at p0 p1 p2 p3 p4 p5 p6 p7 p8
  have hT3 := K1.out.bel hB3
  have hR3 := ((HR0.out.ext y1).bel (K2.out.mono (by simp))).bel hB3
  have hB3' : Below w.heap.size w W3 := HB0.out.trans (((below_ext _ _).mono HB0.out.size).trans ((K2.out.mono (by have := HB0.out.size; have := (below_ext W0 y1).size; omega)).trans (hB3.mono (by have := HB0.out.size; have := K2.out.size; have := (below_ext W0 y1).size; omega))))
  have r0 := hR3.frozen 0
  have r1 := hR3.frozen 1
  have r2 := hR3.frozen 2
  have r3 := hR3.frozen 3
  have r4 := hR3.frozen 4
  have r5 := hR3.frozen 5
  have r6 := hR3.frozen 6
  have r7 := hR3.frozen 7
  have r8 := hR3.frozen 8
  have c0 := hR3.cell 0
  have c1 := hR3.cell 1
  have c2 := hR3.cell 2
  have c3 := hR3.cell 3
  have c4 := hR3.cell 4
  have c5 := hR3.cell 5
  have c6 := hR3.cell 6
  have c7 := hR3.cell 7
  have c8 := hR3.cell 8
  simp only [List.size_toArray, List.length_cons, List.length_nil, Nat.reduceAdd, Nat.reduceLT, getElem?_pos, List.getElem_toArray, List.getElem_cons_zero, List.getElem_cons_succ] at c0 c1 c2 c3 c4 c5 c6 c7 c8
  have lr := hR3.lt
  have HT3 := Lib.hid hT3
  have HR3 := Lib.hid hR3
  have HB3 := Lib.hid hB3'
  clear hW3 hB3 ht3 hT3 hR3 hB3' HR0 HB0 K1 K2 HK
  go_wp2_with (go_at_call 100; refine (tright_eq b p c kd Bb false _ HT3.out hr).mono ?_; rintro e w4 ⟨rfl, y2, rfl⟩)
  generalize hF : World.setCell _ _ _ = F
  have hF2 : F = put9 (ext W3 y2) (w.heap.size + 1) (.int .i64 0) (.int .i64 0) (.slice none 0 0) (.int .i64 0) (.int .i64 0) (.int .i64 0) (.int .i64 0) (.int .i64 0) (.slice none 0 0) := hF.symm
  have hrF : Blk F (w.heap.size + 1) 122 #[.int .i64 0, .int .i64 0, .slice none 0 0, .int .i64 0, .int .i64 0, .int .i64 0, .int .i64 0, .int .i64 0, .slice none 0 0] := by rw [hF2]; exact set9 (HR3.out.ext y2) _ _ _ _ _ _ _ _ _
  have hBF : Below w.heap.size (ext W3 y2) F := by rw [hF2]; exact set9b (by omega) _ _ _ _ _ _ _ _ _
  clear hF hF2
  have t0 := hrF.cell 0
  have t1 := hrF.cell 1
  have t2 := hrF.cell 2
  have t3 := hrF.cell 3
  have t4 := hrF.cell 4
  have t5 := hrF.cell 5
  have t6 := hrF.cell 6
  have t7 := hrF.cell 7
  have t8 := hrF.cell 8
  simp only [List.size_toArray, List.length_cons, List.length_nil, Nat.reduceAdd, Nat.reduceLT, getElem?_pos, List.getElem_toArray, List.getElem_cons_zero, List.getElem_cons_succ] at t0 t1 t2 t3 t4 t5 t6 t7 t8
  refine bodyPost_ret (v := .tuple #[.agg zeroT, .int .i64 32]) ?_ ?_ ?_
  · simp [results, Tryz.results93, go_sem, t0, t1, t2, t3, t4, t5, t6, t7, t8]
  · rfl
  · exact ⟨rfl, HB3.out.trans (((below_ext W3 y2).mono HB3.out.size).trans hBF)⟩
set_option maxRecDepth 100000 in
set_option maxHeartbeats 2000000 in
theorem answer_yes (b : Sn) (p : Option Addr) (c : Nat) (w : World) (hk : SBk w b p) (hv : snB b = true) (hr : rightS b = true) :
    Calls Tryz.prog 93 #[.agg #[.int .i64 b.lo, .int .i64 b.hi, .slice p b.ns.length c], .bool true] w fun e w' => ∃ (kd : Kd) (Bb : Nat), e = .returned (.tuple #[.agg (talC b.lo b.hi p b.ns.length c kd Bb), .int .i64 0]) ∧ kd.ok b.ns.length ∧ TOK w' b p Bb ∧ Below w.heap.size w w' := by
  have hok := Ok9.of hv
  have HK2 := Lib.hid hk
  clear hk
  go_enter Tryz.func93, Tryz.ntmps93
  go_upto_region 6 with (go_at_call 84; refine (Check_eq b p c true _ (HK2.out.bel belA) hv).mono ?_; rintro e w1 ⟨rfl, y, rfl⟩)
  generalize hW0 : ext _ y = W0
  have hB0 : Below w.heap.size w W0 := by rw [← hW0]; (exact belA)
  have hq0 : Blk W0 w.heap.size 26 #[.int .i64 b.lo, .int .i64 b.hi, .slice p b.ns.length c] := by rw [← hW0]; exact ((Blk.new rfl).alloc _).ext y
  have hr0 : Blk W0 (w.heap.size + 1) 122 zeroT := by rw [← hW0]; exact (Blk.new (by simp)).ext y
  clear hW0
  have q0 := hq0.cell 0
  have q1 := hq0.cell 1
  have q2 := hq0.cell 2
  simp only [List.size_toArray, List.length_cons, List.length_nil, Nat.reduceAdd, Nat.reduceLT, getElem?_pos, List.getElem_toArray, List.getElem_cons_zero, List.getElem_cons_succ] at q0 q1 q2
  have HB0 := Lib.hid hB0
  have HR0 := Lib.hid hr0
  clear hB0 hq0 hr0
  go_upto_region 7 with (first
    | (go_at_call 97; refine (newCatch_b b p c _ (HK2.out.bel HB0.out) hok).mono ?_; rintro e w1 ⟨kd, hkd, rfl, y1, rfl⟩)
    | (go_at_call 99; refine (tale_cat b p c kd _ (HK2.out.bel (HB0.out.trans ((below_ext _ _).mono HB0.out.size))) hok).mono ?_; rintro e w2 ⟨Bb, rfl, k1, k2, k3⟩; have K1 := Lib.hid k1; have K2 := Lib.hid k2; have K3 := Lib.hid k3; clear k1 k2 k3))
  unfold talC
  generalize hW3 : w2.alloc _ = W3
  have hB3 : Below w2.heap.size w2 W3 := by rw [← hW3]; exact (Below.refl _ _).alloc (Nat.le_refl _) _
  have ht3 : Blk W3 w2.heap.size 122 (talC b.lo b.hi p b.ns.length c kd Bb) := by rw [← hW3]; exact Blk.new rfl
  have l3 := ht3.lt
  have p0 := ht3.cell 0
  have p1 := ht3.cell 1
  have p2 := ht3.cell 2
  have p3 := ht3.cell 3
  have p4 := ht3.cell 4
  have p5 := ht3.cell 5
  have p6 := ht3.cell 6
  have p7 := ht3.cell 7
  have p8 := ht3.cell 8
  simp only [List.size_toArray, List.length_cons, List.length_nil, Nat.reduceAdd, Nat.reduceLT, getElem?_pos, List.getElem_toArray, List.getElem_cons_zero, List.getElem_cons_succ] at p0 p1 p2 p3 p4 p5 p6 p7 p8
  have hT3 := K1.out.bel hB3
  have hR3 := ((HR0.out.ext y1).bel (K2.out.mono (by simp))).bel hB3
  have hB3' : Below w.heap.size w W3 := HB0.out.trans (((below_ext _ _).mono HB0.out.size).trans ((K2.out.mono (by have := HB0.out.size; have := (below_ext W0 y1).size; omega)).trans (hB3.mono (by have := HB0.out.size; have := K2.out.size; have := (below_ext W0 y1).size; omega))))
  have r0 := hR3.frozen 0
  have r1 := hR3.frozen 1
  have r2 := hR3.frozen 2
  have r3 := hR3.frozen 3
  have r4 := hR3.frozen 4
  have r5 := hR3.frozen 5
  have r6 := hR3.frozen 6
  have r7 := hR3.frozen 7
  have r8 := hR3.frozen 8
  have c0 := hR3.cell 0
  have c1 := hR3.cell 1
  have c2 := hR3.cell 2
  have c3 := hR3.cell 3
  have c4 := hR3.cell 4
  have c5 := hR3.cell 5
  have c6 := hR3.cell 6
  have c7 := hR3.cell 7
  have c8 := hR3.cell 8
  simp only [List.size_toArray, List.length_cons, List.length_nil, Nat.reduceAdd, Nat.reduceLT, getElem?_pos, List.getElem_toArray, List.getElem_cons_zero, List.getElem_cons_succ] at c0 c1 c2 c3 c4 c5 c6 c7 c8
  have lr := hR3.lt
  have HT3 := Lib.hid hT3
  have HR3 := Lib.hid hR3
  have HB3 := Lib.hid hB3'
  have hNE := Lib.hid (show w.heap.size + 1 ≠ Bb from fun e => by have := K3.out; have := (below_ext W0 y1).size; have := HR0.out.lt; omega)
  clear hW3 hB3 ht3 hT3 hR3 hB3' HR0 HB0 K1 K2
  go_wp2_with (go_at_call 100; refine (tright_eq b p c kd Bb true _ HT3.out hr).mono ?_; rintro e w4 ⟨rfl, y2, rfl⟩)
  generalize hF : World.setCell _ _ _ = F
  have hF2 : F = put9 (ext W3 y2) (w.heap.size + 1) (.int .i64 b.lo) (.int .i64 b.hi) (.slice p b.ns.length c) (.int .i64 kd.a) (.int .i64 kd.b) (.int .i64 kd.c) (.int .i64 kd.d) (.int .i64 kd.e) (.slice (some ⟨Bb, 0, none⟩) (b.ns.length + 1) (b.ns.length + 1)) := hF.symm
  have hrF : Blk F (w.heap.size + 1) 122 #[.int .i64 b.lo, .int .i64 b.hi, .slice p b.ns.length c, .int .i64 kd.a, .int .i64 kd.b, .int .i64 kd.c, .int .i64 kd.d, .int .i64 kd.e, .slice (some ⟨Bb, 0, none⟩) (b.ns.length + 1) (b.ns.length + 1)] := by rw [hF2]; exact set9 (HR3.out.ext y2) _ _ _ _ _ _ _ _ _
  have hTF : TOK F b p Bb := by
    have h1 := HT3.out.bel (below_ext W3 y2)
    refine ⟨HK2.out.nt.below (HB3.out.trans (((below_ext W3 y2).mono HB3.out.size).trans (by rw [hF2]; exact set9b (by omega) _ _ _ _ _ _ _ _ _))), h1.ok, h1.tl.keep1 (HR3.out.ext y2) hNE.out (fun k hk => by rw [hF2]; exact set9h hk _ _ _ _ _ _ _ _ _)⟩
  have hBF : Below w.heap.size (ext W3 y2) F := by rw [hF2]; exact set9b (by omega) _ _ _ _ _ _ _ _ _
  clear hF hF2
  have t0 := hrF.cell 0
  have t1 := hrF.cell 1
  have t2 := hrF.cell 2
  have t3 := hrF.cell 3
  have t4 := hrF.cell 4
  have t5 := hrF.cell 5
  have t6 := hrF.cell 6
  have t7 := hrF.cell 7
  have t8 := hrF.cell 8
  simp only [List.size_toArray, List.length_cons, List.length_nil, Nat.reduceAdd, Nat.reduceLT, getElem?_pos, List.getElem_toArray, List.getElem_cons_zero, List.getElem_cons_succ] at t0 t1 t2 t3 t4 t5 t6 t7 t8
  refine bodyPost_ret (v := .tuple #[.agg (talC b.lo b.hi p b.ns.length c kd Bb), .int .i64 0]) ?_ ?_ ?_
  · simp [results, Tryz.results93, go_sem, t0, t1, t2, t3, t4, t5, t6, t7, t8]
  · rfl
  · exact ⟨kd, Bb, rfl, hkd, hTF, HB3.out.trans (((below_ext W3 y2).mono HB3.out.size).trans hBF)⟩
end Go.Proofs.YtcaeohgbgeadaaaGreatDoor

