/- Package bulk: the ends of what is asked exist; how far those of all fish are apart. -/
import Derived.Test.YtpiadbdkiibdbaaQB5y
set_option linter.unusedSimpArgs false
set_option linter.unusedVariables false
namespace Go.Proofs.Ytpiadbdkiibdbaa
open Go Go.RowKit Go.Shelf
attribute [local go_sem] Oper.semAt_some frozen_alloc_lt
/-- What is known of the lots, of what measures hold, of a right book. -/
theorem endsUp_ex {b : Ck} {m : Ms} (q : Qs) (hq : ∀ k, q = .count k → k < 3) (hm : MsOK m) {ls : List Lt} (hb : ∀ t ∈ ls, LtOK b t) (hc : ∀ t ∈ ls, canB b m t = true) : ∀ k, k ≤ ls.length → ∃ ll lh, EndsUp b m q ls k ll lh
  | 0, _ => ⟨[], [], EndsUp.nil _ _ _ _⟩
  | k + 1, h => by
    obtain ⟨ll, lh, h1⟩ := endsUp_ex q hq hm hb hc k (by omega)
    have e : ls[k]? = some ls[k] := List.getElem?_eq_getElem (by omega)
    have ht := List.mem_of_getElem? e
    exact ⟨_, _, h1.snoc e (ends_of b m ls[k] q (endsOf (loadsL b m ls[k])) hm hq (hc _ ht) (loads_in (hb _ ht)) (fun z => Iff.rfl))⟩
theorem acc_more {b : Ck} (hv : HoldsOK b) (hb : BkOK b) (q : Qs) (hq : ∀ k, q = .count k → k < 3) {i0 n : Nat} (hn : i0 + n ≤ b.ls.length) : ∀ (l pre : List Ms) (lo hi : Int), (∀ m ∈ l, m ∈ truthsL b) → AccOK b (gSum q i0 n) 1600 pre lo hi → ∃ lo hi, AccOK b (gSum q i0 n) 1600 (pre ++ l) lo hi
  | [], pre, lo, hi, _, ha => ⟨lo, hi, by rw [List.append_nil]; exact ha⟩
  | m :: l, pre, lo, hi, h, ha => by
    have hmt := h m (by simp)
    have hm := ms_ok hv (truths_sub hmt)
    have hsub : ∀ t ∈ cutL b.ls i0 n, LtOK b t := fun t ht => hb.ok t (cutL_sub t ht)
    obtain ⟨ll, lh, he⟩ := endsUp_ex q hq hm hsub (fun t ht => canB_iff.2 (trueM_iff.1 (List.mem_filter.1 hmt).2 t (cutL_sub t ht))) n (by rw [cutL_len hn]; exact Nat.le_refl _)
    have hbd := he.bd hm hsub hq (by rw [cutL_len hn]; exact Nat.le_refl _)
    have h4 := hb.n
    have u1 := sum_up hbd.1
    have u2 := sum_up hbd.2
    rw [he.l1] at u1
    rw [he.l2] at u2
    have := acc_more hv hb q hq hn l (pre ++ [m]) _ _ (fun x hx => h x (by simp [hx])) (ha.step (he.ends hmt hn) (by omega) u2.1)
    rw [List.append_assoc] at this
    exact this
theorem ends_ex {b : Ck} (hv : HoldsOK b) (hb : BkOK b) (q : Qs) (hq : ∀ k, q = .count k → k < 3) {i0 n : Nat} (hn : i0 + n ≤ b.ls.length) (hr : rightC b = true) : ∃ lo hi, EndsC b (gSum q i0 n) lo hi := by
  obtain ⟨lo, hi, h⟩ := acc_more hv hb q hq hn (truthsL b) [] _ _ (fun m h => h) (AccOK.start _ _ _)
  rw [List.nil_append] at h
  exact ⟨lo, hi, h.ends hr⟩
theorem ends_bd {b : Ck} (hv : HoldsOK b) (hb : BkOK b) {q : Qs} (hq : ∀ k, q = .count k → k < 3) {i0 n : Nat} (hn : i0 + n ≤ b.ls.length) {lo hi : Int} (h : EndsC b (gSum q i0 n) lo hi) : 0 ≤ lo ∧ lo ≤ hi ∧ hi ≤ 1600 := by
  have key : ∀ m L, TrueIs b m L → 0 ≤ gSum q i0 n m L ∧ gSum q i0 n m L ≤ 1600 := fun m L hL => by
    have hmt : m ∈ truthsL b := mem_truthsL.2 ⟨L, hL⟩
    have hm := ms_ok hv (truths_sub hmt)
    have hlen := hL.len
    have hu : ∀ x ∈ ((L.drop i0).take n).map (q.num m), 0 ≤ x ∧ x ≤ 400 := fun x hx => by
      obtain ⟨l, hl, rfl⟩ := List.mem_map.1 hx
      have hl2 : l ∈ L := List.mem_of_mem_drop (List.mem_of_mem_take hl)
      obtain ⟨i, hi, rfl⟩ := List.mem_iff_getElem.1 hl2
      have e1 : b.ls[i]? = some (b.ls[i]'(by omega)) := List.getElem?_eq_getElem (by omega)
      exact num_bd hm (hb.ok _ (List.mem_of_getElem? e1)) hq (hL.ok i _ _ e1 (List.getElem?_eq_getElem hi))
    have := sum_up hu
    have h4 := hb.n
    rw [List.length_map, List.length_take, List.length_drop] at this
    unfold gSum
    omega
  obtain ⟨m1, L1, a1, a2⟩ := h.low
  obtain ⟨m2, L2, a3, a4⟩ := h.high
  have h1 := key _ _ a1
  have h2 := key _ _ a3
  have h3 := h.all _ _ a1
  omega
/-- What is told, if one knows it. -/
theorem answer_at (b : Ck) (p : Option Addr) (c : Nat) (q : Qs) (f : FuncId) (lb : Array Value) (p2 : Option Addr) (c2 i0 n : Nat) (lo hi : Int) (w : World) (hv : HoldsOK b) (hb : BkOK b) (hcb : CB w b p) (hq : QAt w f lb q) (hls : LotsAt w p2 (cutL b.ls i0 n)) (hn : i0 + n ≤ b.ls.length) (he : EndsC b (gSum q i0 n) lo hi) :
    Calls Try.prog 91 #[ckV b p c, qsV f lb, .slice p2 n c2] w fun e w' => e = .returned (.agg #[.int .i64 lo, .int .i64 hi]) ∧ ∃ x, w' = ext w x := by
  have hr : rightC b = true := by
    obtain ⟨m, L, h, -⟩ := he.low
    exact rightC_iff.2 ⟨m, L, h⟩
  refine (answer_any b p c q f lb p2 c2 i0 n w hv hb hcb hr hq hls hn).mono ?_
  rintro e w' ⟨l, u, rfl, h, hx⟩
  obtain ⟨rfl, rfl⟩ := h.uniq he
  exact ⟨rfl, hx⟩
theorem asksFish_at (w : World) : Calls Try.prog 68 #[] w fun e w' => e = .returned (.agg #[.func (.func 92) #[] #[]]) ∧ ∃ x, w' = ext w x := by
  go_enter Try.func68, Try.ntmps68
  go_wp2
  refine bodyPost_ret (v := .agg #[.func (.func 92) #[] #[]]) (by simp [results, Try.results68, go_sem]) rfl ⟨rfl, by (exact ext_of (by (exact belA)))⟩
theorem cutL_all {α : Type} (l : List α) : cutL l 0 l.length = l := by simp [cutL]
section
variable {o : Oper} {w : World} (ρ : Operand → Value)
theorem run_lCellar {b : Ck} {p : Option Addr} {c g t : Nat} (hop : o.op = .load 76 (.tmp t)) (hs : ρ (.tmp t) = .pointer (some ⟨g, 0, none⟩)) (k : Blk w g 76 (ckcs b p c)) : (execOp ρ o).run Try.prog w = .ok (.value (ckV b p c)) w := by
  unfold ckcs at k
  have c0 := k.cell 0
  have c1 := k.cell 1
  have c2 := k.cell 2
  have c3 := k.cell 3
  have c4 := k.cell 4
  have c5 := k.cell 5
  have c6 := k.cell 6
  have c7 := k.cell 7
  have c8 := k.cell 8
  have c9 := k.cell 9
  simp only [List.size_toArray, List.length_cons, List.length_nil, Nat.reduceAdd, Nat.reduceLT, getElem?_pos, List.getElem_toArray, List.getElem_cons_zero, List.getElem_cons_succ] at c0 c1 c2 c3 c4 c5 c6 c7 c8 c9
  unfold execOp ckV; simp [hop, hs, go_sem, c0, c1, c2, c3, c4, c5, c6, c7, c8, c9]
theorem run_fCellar0 {g t : Nat} (hop : o.op = .fieldAddr 76 (.tmp t) 0) (hs : ρ (.tmp t) = .pointer (some ⟨g, 0, none⟩)) (hl : g < w.heap.size) : (execOp ρ o).run Try.prog w = .ok (.value (.pointer (some ⟨g, 0, none⟩))) w := by
  unfold execOp; simp [hop, hs, go_sem, hl]
theorem run_fBulk2 {g t : Nat} (hop : o.op = .fieldAddr 28 (.tmp t) 2) (hs : ρ (.tmp t) = .pointer (some ⟨g, 0, none⟩)) (hl : g < w.heap.size) : (execOp ρ o).run Try.prog w = .ok (.value (.pointer (some ⟨g, 9, none⟩))) w := by
  unfold execOp; simp [hop, hs, go_sem, hl]
theorem run_lLots {g j t : Nat} {x : Value} (hop : o.op = .load 26 (.tmp t)) (hs : ρ (.tmp t) = .pointer (some ⟨g, j, none⟩)) (c0 : w.cell? ⟨g, j, none⟩ = some x) : (execOp ρ o).run Try.prog w = .ok (.value x) w := by
  unfold execOp; simp [hop, hs, go_sem, c0]
theorem run_aSpanB (hop : o.op = .alloc 23) : (execOp ρ o).run Try.prog w = .ok (.value (.pointer (some ⟨w.heap.size, 0, none⟩))) (w.alloc (.cells #[.int .i64 0, .int .i64 0] 23)) := by
  unfold execOp; simp [hop, go_sem]
end
/-- What the operations of apart leave. -/
def apartR (b : Ck) (p : Option Addr) (c : Nat) (g : Nat) (lo hi : Int) (B : Nat) (i : Nat) (u : Value) (w : World) : Prop :=
  match i with
  | 0 => u = ckV b p c
  | 1 => u = qsV 92 #[]
  | 2 => u = .pointer (some ⟨g, 0, none⟩)
  | 3 => u = .pointer (some ⟨g, 9, none⟩)
  | 4 => u = .slice p b.ls.length c
  | 5 => u = .agg #[.int .i64 lo, .int .i64 hi]
  | 6 => ∃ k, u = .pointer (some ⟨k, 0, none⟩) ∧ B ≤ k ∧ Blk w k 23 #[.int .i64 0, .int .i64 0]
  | _ => True
theorem apartR_kept (b : Ck) (p : Option Addr) (c : Nat) (g : Nat) (lo hi : Int) (B : Nat) : ∀ i, i < 7 → ∀ (v : Value) (w w' : World), apartR b p c g lo hi B i v w → Below w.heap.size w w' → apartR b p c g lo hi B i v w' := by
  intro i hi v w w' h hb
  match i, h with
  | 0, h => exact h
  | 1, h => exact h
  | 2, h => exact h
  | 3, h => exact h
  | 4, h => exact h
  | 5, h => exact h
  | 6, h => obtain ⟨k, h1, h2, h3⟩ := h; exact ⟨k, h1, h2, h3.bel hb⟩
  | k + 7, h => trivial
set_option maxRecDepth 100000 in
set_option maxHeartbeats 8000000 in
theorem apart_any (b : Ck) (p : Option Addr) (c : Nat) (lo hi d : Int) (w : World) (hv : HoldsOK b) (hb : BkOK b) (hcb : CB w b p) (he : EndsC b (gSum .fish 0 b.ls.length) lo hi) (hd : hi - lo = d) :
    Calls Try.prog 74 #[ckV b p c] w fun e w' => e = .returned (.int .i64 d) ∧ ∃ x, w' = ext w x := by
  have hbd := ends_bd hv hb (fun k h => by cases h) (by omega) he
  have HV := Lib.hid hv
  have HBO := Lib.hid hb
  have HCW := Lib.hid hcb
  have HE := Lib.hid he
  have HD := Lib.hid hd
  have e1 : IntKind.i64.wrap (hi - lo) = hi - lo := IntWalk.i64_in _ (by omega)
  have e2 : wrap64 (hi - lo) = hi - lo := by unfold wrap64; omega
  clear hv hb hcb he hd
  unfold ckV
  go_enter Try.func74, Try.ntmps74
  go_upto_region 1 with fail
  generalize hV : World.alloc _ _ = V
  have hBV : Below w.heap.size w V := by rw [← hV]; (exact belA)
  have kc : Blk V w.heap.size 76 (ckcs b p c) := by rw [← hV]; exact Blk.new rfl
  have HBV := Lib.hid hBV
  have HCV := Lib.hid (HCW.out.bel hBV)
  have lc := kc.lt
  clear hV hBV
  have KC := Lib.hid kc
  clear kc
  refine wp_region_flow_back 7 15 (apartR b p c w.heap.size lo hi V.heap.size) (by kernel_rfl) (by kernel_rfl) rfl (apartR_kept _ _ _ _ _ _ _) ?_ ?_
  · intro i hin a X g1 g2 g3 g4 g5 KK hKK
    have kX := KC.out.bel g5
    match i, hin with
    | 0, _ => exact st_val rfl (wanted_none rfl) (run_lCellar _ rfl (g3 1 (by kernel_rfl)) kX) (hKK _ _ rfl (Below.refl _ _))
    | 1, _ =>
      refine st_call rfl rfl (wanted_none rfl) (vs := #[]) (by simp) (run_enter Try.func68 (by kernel_rfl) (by kernel_rfl) _) ?_
      refine (asksFish_at X).mono ?_
      rintro e w1 ⟨rfl, x, rfl⟩
      exact ⟨_, rfl, hKK _ _ rfl (below_ext _ x)⟩
    | 2, _ => exact st_val rfl (wanted_none rfl) (run_fCellar0 _ rfl (g3 1 (by kernel_rfl)) kX.lt) (hKK _ _ rfl (Below.refl _ _))
    | 3, _ => exact st_val rfl (wanted_none rfl) (run_fBulk2 _ rfl (g4 2 (by kernel_rfl)) kX.lt) (hKK _ _ rfl (Below.refl _ _))
    | 4, _ => exact st_val rfl (wanted_none rfl) (run_lLots _ rfl (g4 3 (by kernel_rfl)) (Blk.cell kX 9)) (hKK _ _ rfl (Below.refl _ _))
    | 5, _ =>
      refine st_call rfl rfl (wanted_none rfl) (sargs3 (g4 0 (by kernel_rfl)) (g4 1 (by kernel_rfl)) (g4 4 (by kernel_rfl))) (run_enter Try.func91 (by kernel_rfl) (by kernel_rfl) _) ?_
      refine (answer_at b p c .fish _ #[] p c 0 b.ls.length lo hi X HV.out HBO.out (HCV.out.bel g5) ⟨rfl, rfl⟩ (by rw [cutL_all]; exact (HCV.out.bel g5).ls) (by omega) HE.out).mono ?_
      rintro e w1 ⟨rfl, x, rfl⟩
      exact ⟨_, rfl, hKK _ _ rfl (below_ext _ x)⟩
    | 6, _ => exact st_valw rfl (wanted_none rfl) (run_aSpanB _ rfl) (hKK _ _ ⟨_, rfl, g5.size, Blk.new rfl⟩ ((Below.refl _ _).alloc (Nat.le_refl _) _))
    | k + 7, hk => omega
  · intro vs T hvs hBT
    have v0 : vs 0 = _ := hvs 0 (by omega)
    have v1 : vs 1 = _ := hvs 1 (by omega)
    have v2 : vs 2 = _ := hvs 2 (by omega)
    have v3 : vs 3 = _ := hvs 3 (by omega)
    have v4 : vs 4 = _ := hvs 4 (by omega)
    have v5 : vs 5 = _ := hvs 5 (by omega)
    obtain ⟨k, v6, hkB, hk⟩ := hvs 6 (by omega)
    simp only [putAll, v0, v1, v2, v3, v4, v5, v6]
    clear v0 v1 v2 v3 v4 v5 v6 hvs
    simp only [dstOf, Act.put, List.getElem?_toArray, List.getElem?_cons_zero, List.getElem?_cons_succ, Option.bind_some, Option.getD_some, List.setIfInBounds_toArray, List.set_cons_succ, List.set_cons_zero, List.drop_succ_cons, List.drop_zero]
    have HBT := Lib.hid (HBV.out.trans (hBT.mono HBV.out.size))
    have HK := Lib.hid hk
    obtain ⟨f0, f1⟩ := Blk.f2 hk
    obtain ⟨e0, e1⟩ := Blk.c2 hk
    have lk := hk.lt
    have hzV := HBV.out.size
    clear hBT hk
    go_wp2_with fail
    have hF := HK.out.setB2 (.int .i64 lo) (.int .i64 hi)
    obtain ⟨d0, d1⟩ := Blk.c2 hF
    go_wp2_with fail
    go_ret
    exact ⟨by rw [HD.out]; rfl, ext_of ((HBT.out.setCell (by dsimp only; omega) _).setCell (by dsimp only; omega) _)⟩
end Go.Proofs.Ytpiadbdkiibdbaa

