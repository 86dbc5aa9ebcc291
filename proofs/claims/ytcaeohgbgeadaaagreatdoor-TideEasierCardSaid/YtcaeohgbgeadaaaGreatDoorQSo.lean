/- Package seine: all states behind a note. -/
/- The lists that ranges over functions leave behind, of calls that were put off: all of them empty. -/
import Derived.Test.YtcaeohgbgeadaaaGreatDoorQIz
import Derived.Test.YtcaeohgbgeadaaaGreatDoorQFi
import Derived.Test.YtcaeohgbgeadaaaGreatDoorQIt
set_option linter.unusedSimpArgs false
set_option linter.unusedVariables false
namespace Go.Proofs.YtcaeohgbgeadaaaGreatDoor
open Go Go.RowKit Go.Shelf

/-- What a note of a kind makes of a state. -/
def doesS (k : Int) (s : Int × Int) (m : Int) : Int × Int := if k = 0 then (s.1 - m, s.2) else if k = 1 then (s.1, s.2 + m) else if k = 2 then (s.1, 0) else if k = 3 then (s.1 - min s.1 m, s.2) else s
/-- All states behind a note, by the state before it. -/
def behL (s : Nt) (st : Int × Int) : List (Int × Int) := ((numsL s.lo s.hi).filter (rightB s.kind st.1)).map (doesS s.kind st)
abbrev encS (s : Int × Int) : Array Value := #[key2 s.1 s.2]
def fidOf (k : Int) : Nat := if k = 0 then 188 else if k = 1 then 189 else if k = 2 then 190 else if k = 3 then 179 else 191
theorem fid_enter (k : Int) (vs : Array Value) (w : World) : (callFunc (fidOf k) vs).run Tryz.prog w = .ok (.enter (fidOf k) vs) w := by
  unfold fidOf
  split
  · exact run_enter Tryz.func188 (by kernel_rfl) (by kernel_rfl) _ _
  split
  · exact run_enter Tryz.func189 (by kernel_rfl) (by kernel_rfl) _ _
  split
  · exact run_enter Tryz.func190 (by kernel_rfl) (by kernel_rfl) _ _
  split
  · exact run_enter Tryz.func179 (by kernel_rfl) (by kernel_rfl) _ _
  · exact run_enter Tryz.func191 (by kernel_rfl) (by kernel_rfl) _ _
theorem does_any (k h r m : Int) (w : World) (h0 : 0 ≤ h ∧ h ≤ 100000) (r0 : 0 ≤ r ∧ r ≤ 100000) (m0 : 0 ≤ m ∧ m ≤ 100000) :
    Calls Tryz.prog (fidOf k) #[key2 h r, .int .i64 m] w fun e w' => e = .returned (key2 (doesS k (h, r) m).1 (doesS k (h, r) m).2) ∧ ∃ x, w' = ext w x := by
  unfold fidOf doesS key2
  by_cases h1 : k = 0
  · simp only [if_pos h1]; exact take_any h r m w h0 m0
  by_cases h2 : k = 1
  · simp only [if_neg h1, if_pos h2]; exact tear_any h r m w r0 m0
  by_cases h3 : k = 2
  · simp only [if_neg h1, if_neg h2, if_pos h3]; exact mend_any h r m w
  by_cases h4 : k = 3
  · simp only [if_neg h1, if_neg h2, if_neg h3, if_pos h4]; exact lose_any h r m w h0 m0
  · simp only [if_neg h1, if_neg h2, if_neg h3, if_neg h4]; exact keep_any h r m w
theorem run_callv {P : Program} {o : Oper} {w : World} (ρ : Operand → Value) {s : Nat} {f : FuncId} {fb lb : Array Value} {xs : Array Operand} {ts : Array TypeId} {vs : Array Value} (hop : o.op = .call { callee := .value (.tmp s), args := xs, argTypes := ts }) (hf : ρ (.tmp s) = .func (.func f) fb lb) (hv : fb ++ xs.map ρ ++ lb = vs) (he : ∀ w, (callFunc f vs).run P w = .ok (.enter f vs) w) : (execOp ρ o).run P w = .ok (.enter f vs) w := by
  unfold execOp
  simp only [hop]
  simp [resolve, hf, hv, go_sem, Deferred.ofValue, invoke, he]
theorem st_callv {P : Program} {ops : Array Oper} {Q : Exit → Act → World → Prop} {i : Nat} {o : Oper} {K : Act → World → Prop} {a : Act} {w : World} {s : Nat} {f : FuncId} {fb lb : Array Value} {xs : Array Operand} {ts : Array TypeId} {vs : Array Value} (h : ops[i]? = some o) (hop : o.op = .call { callee := .value (.tmp s), args := xs, argTypes := ts }) (hw : Region.wanted o (yielded ops a.tmps) = true) (hf : a.tmps.getD s undef = .func (.func f) fb lb) (hv : fb ++ xs.map a.eval ++ lb = vs) (he : ∀ w, (callFunc f vs).run P w = .ok (.enter f vs) w)
    (hc : Calls P f vs w fun e w' => ∃ v, e = .returned v ∧ K (a.put o.dst v) w') : wpOp P ops Q i K a w := by
  refine wpOp_want h hw ?_
  unfold Oper.wp
  rw [run_callv a.eval hop hf hv he]
  refine hc.mono ?_
  rintro e w' ⟨v, rfl, hk⟩
  exact hk
theorem sargs1 {a : Act} {s : Nat} {x : Value} (h1 : a.tmps.getD s undef = x) : (#[Operand.tmp s]).map a.eval = #[x] := by
  simp only [List.map_toArray, List.map_cons, List.map_nil, Act.eval, h1]
theorem sargsv2 {a : Act} {s t : Nat} {x y : Value} (h1 : a.tmps.getD s undef = x) (h2 : a.tmps.getD t undef = y) : #[] ++ (#[Operand.tmp s, Operand.tmp t]).map a.eval ++ #[] = #[x, y] := by
  simp only [List.map_toArray, List.map_cons, List.map_nil, Act.eval, h1, h2, List.append_toArray, List.nil_append, List.append_nil]
theorem only_any (f1 f2 : Fn) (a1 a2 b1 b2 : Array Value) (w : World) : Calls Tryz.prog 192 #[.func f1 a1 b1, .func f2 a2 b2] w fun e w' => ∃ ga gi : Nat, e = .returned (.func (.func 203) #[] #[.pointer (some ⟨ga, 0, none⟩), .pointer (some ⟨gi, 0, none⟩)]) ∧ w.heap.size ≤ ga ∧ w.heap.size ≤ gi ∧
    Blk w' ga 214 #[.func f1 a1 b1] ∧ Blk w' gi 125 #[.func f2 a2 b2] ∧ Below w.heap.size w w' := by
  go_enter Tryz.func192, Tryz.ntmps192
  go_wp2
  go_ret
  refine ⟨w.heap.size, w.heap.size + 1, rfl, by omega, by omega, (Blk.new rfl).alloc _, ?_, by (exact belA)⟩
  exact Blk.new (by simp)
section
variable {o : Oper} {w : World} {g j t : Nat} (ρ : Operand → Value)
theorem run_fClaim0 (hop : o.op = .fieldAddr 211 (.tmp t) 0) (hs : ρ (.tmp t) = .pointer (some ⟨g, 0, none⟩)) (hl : g < w.heap.size) : (execOp ρ o).run Tryz.prog w = .ok (.value (.pointer (some ⟨g, 0, none⟩))) w := by
  unfold execOp; simp [hop, hs, go_sem, hl]
theorem run_fClaim1 (hop : o.op = .fieldAddr 211 (.tmp t) 1) (hs : ρ (.tmp t) = .pointer (some ⟨g, 0, none⟩)) (hl : g < w.heap.size) : (execOp ρ o).run Tryz.prog w = .ok (.value (.pointer (some ⟨g, 4, none⟩))) w := by
  unfold execOp; simp [hop, hs, go_sem, hl]
theorem run_fNote2 (hop : o.op = .fieldAddr 75 (.tmp t) 2) (hs : ρ (.tmp t) = .pointer (some ⟨g, 0, none⟩)) (hl : g < w.heap.size) : (execOp ρ o).run Tryz.prog w = .ok (.value (.pointer (some ⟨g, 2, none⟩))) w := by
  unfold execOp; simp [hop, hs, go_sem, hl]
theorem run_fNote0 (hop : o.op = .fieldAddr 75 (.tmp t) 0) (hs : ρ (.tmp t) = .pointer (some ⟨g, 0, none⟩)) (hl : g < w.heap.size) : (execOp ρ o).run Tryz.prog w = .ok (.value (.pointer (some ⟨g, 0, none⟩))) w := by
  unfold execOp; simp [hop, hs, go_sem, hl]
theorem run_lSpan {x y : Value} (hop : o.op = .load 23 (.tmp t)) (hs : ρ (.tmp t) = .pointer (some ⟨g, j, none⟩)) (c0 : w.cell? ⟨g, j, none⟩ = some x) (c1 : w.cell? ⟨g, j + 1, none⟩ = some y) : (execOp ρ o).run Tryz.prog w = .ok (.value (.agg #[x, y])) w := by
  unfold execOp; simp [hop, hs, go_sem, c0, c1]
theorem run_lState {x y : Value} (hop : o.op = .load 169 (.tmp t)) (hs : ρ (.tmp t) = .pointer (some ⟨g, j, none⟩)) (c0 : w.cell? ⟨g, j, none⟩ = some x) (c1 : w.cell? ⟨g, j + 1, none⟩ = some y) : (execOp ρ o).run Tryz.prog w = .ok (.value (.agg #[x, y])) w := by
  unfold execOp; simp [hop, hs, go_sem, c0, c1]
theorem run_lClaim {a b c d e f : Value} (hop : o.op = .load 211 (.tmp t)) (hs : ρ (.tmp t) = .pointer (some ⟨g, 0, none⟩)) (k : Blk w g 211 #[a, b, c, d, e, f]) : (execOp ρ o).run Tryz.prog w = .ok (.value (.agg #[a, b, c, d, e, f])) w := by
  have c0 := k.cell 0
  have c1 := k.cell 1
  have c2 := k.cell 2
  have c3 := k.cell 3
  have c4 := k.cell 4
  have c5 := k.cell 5
  simp only [List.size_toArray, List.length_cons, List.length_nil, Nat.reduceAdd, Nat.reduceLT, getElem?_pos, List.getElem_toArray, List.getElem_cons_zero, List.getElem_cons_succ] at c0 c1 c2 c3 c4 c5
  unfold execOp; simp [hop, hs, go_sem, c0, c1, c2, c3, c4, c5]
theorem run_mkRight {v : Value} (hop : o.op = .makeFunc (Fn.func 193) #[.tmp t] #[]) (hs : ρ (.tmp t) = v) : (execOp ρ o).run Tryz.prog w = .ok (.value (.func (.func 193) #[v] #[])) w := by
  unfold execOp; simp [hop, hs, go_sem]
theorem run_lYield {x : Value} (hop : o.op = .load 209 (.tmp t)) (hs : ρ (.tmp t) = .pointer (some ⟨g, 0, none⟩)) (c0 : w.cell? ⟨g, 0, none⟩ = some x) : (execOp ρ o).run Tryz.prog w = .ok (.value x) w := by
  unfold execOp; simp [hop, hs, go_sem, c0]
theorem run_lDoes {x : Value} (hop : o.op = .load 216 (.tmp t)) (hs : ρ (.tmp t) = .pointer (some ⟨g, j, none⟩)) (c0 : w.cell? ⟨g, j, none⟩ = some x) : (execOp ρ o).run Tryz.prog w = .ok (.value x) w := by
  unfold execOp; simp [hop, hs, go_sem, c0]
theorem run_iDoes {u : Nat} {k : Int} (hop : o.op = .indexAddr 227 (.tmp t) (.tmp u)) (hs : ρ (.tmp t) = .pointer (some ⟨g, 0, none⟩)) (hu : ρ (.tmp u) = .int .i64 k) (hk : 0 ≤ k ∧ k ≤ 4) (hl : g < w.heap.size) : (execOp ρ o).run Tryz.prog w = .ok (.value (.pointer (some ⟨g, k.toNat, none⟩))) w := by
  have h1 : k < 5 := by omega
  unfold execOp; simp [hop, hs, hu, go_sem, hl, hk.1, h1]
end
/-- What the operations of the first region of behind leave. -/
def begR (B : Nat) (s : Nt) (h r : Int) (i : Nat) (v : Value) (w : World) : Prop :=
  match i with
  | 0 => v = .pointer (some ⟨B, 0, none⟩)
  | 1 => v = .pointer (some ⟨B, 2, none⟩)
  | 2 => v = .agg #[.int .i64 s.lo, .int .i64 s.hi]
  | 3 => ∃ g : Nat, v = .func (.func 194) #[] #[.pointer (some ⟨g, 0, none⟩)] ∧ Blk w g 23 #[.int .i64 s.lo, .int .i64 s.hi] ∧ B ≤ g
  | 4 => v = .agg (clmC s h r)
  | 5 => v = .func (.func 193) #[.agg (clmC s h r)] #[]
  | _ => True
theorem begR_kept (B : Nat) (s : Nt) (h r : Int) : ∀ (i : Nat), i < 6 → ∀ (v : Value) (w w' : World), begR B s h r i v w → Below w.heap.size w w' → begR B s h r i v w' := by
  intro i hi v w w' k hb
  match i, hi with
  | 0, _ => exact k
  | 1, _ => exact k
  | 2, _ => exact k
  | 3, _ => obtain ⟨g, h1, h2, h3⟩ := k; exact ⟨g, h1, h2.bel hb, h3⟩
  | 4, _ => exact k
  | 5, _ => exact k
  | k + 6, hk => omega
/-- .. of the region in its loop. -/
def endR (B : Nat) (l : Nat) (s : Nt) (h r x : Int) (i : Nat) (v : Value) (w : World) : Prop :=
  match i with
  | 0 => v = .func (.yield l) #[] #[]
  | 1 => v = .pointer (some ⟨B, 0, none⟩)
  | 2 => v = .pointer (some ⟨B, 0, none⟩)
  | 3 => v = .int .i64 s.kind
  | 4 => v = .pointer (some ⟨B + 2, s.kind.toNat, none⟩)
  | 5 => v = .func (.func (fidOf s.kind)) #[] #[]
  | 6 => v = .pointer (some ⟨B, 4, none⟩)
  | 7 => v = key2 h r
  | 8 => v = .int .i64 x
  | 9 => v = key2 (doesS s.kind (h, r) x).1 (doesS s.kind (h, r) x).2
  | _ => True
/-- What lies in memory in its loop. -/
structure BehBox (w : World) (B l : Nat) (s : Nt) (h r : Int) : Prop where
  cl : Blk w B 211 (clmC s h r)
  yl : Blk w (B + 1) 209 #[.func (.yield l) #[] #[]]
  tb : Blk w (B + 2) 227 #[.func (.func 188) #[] #[], .func (.func 189) #[] #[], .func (.func 190) #[] #[], .func (.func 179) #[] #[], .func (.func 191) #[] #[]]
theorem BehBox.bel {w w' : World} {B l : Nat} {s : Nt} {h r : Int} (k : BehBox w B l s h r) {n : Nat} (hn : B + 2 < n) (hb : Below n w w') : BehBox w' B l s h r := ⟨(hb.block _ (by omega)).trans k.cl, (hb.block _ (by omega)).trans k.yl, (hb.block _ (by omega)).trans k.tb⟩
theorem BehBox.does {w : World} {B l : Nat} {s : Nt} {h r : Int} (k : BehBox w B l s h r) (hk : 0 ≤ s.kind ∧ s.kind ≤ 4) : w.cell? ⟨B + 2, s.kind.toNat, none⟩ = some (.func (.func (fidOf s.kind)) #[] #[]) := by
  rw [k.tb.cell]
  obtain ⟨kd, hr, lo, hi⟩ := s
  dsimp only at hk ⊢
  rcases (show kd = 0 ∨ kd = 1 ∨ kd = 2 ∨ kd = 3 ∨ kd = 4 by omega) with rfl | rfl | rfl | rfl | rfl <;> rfl
attribute [local go_sem] Oper.semAt_some frozen_alloc_lt
set_option maxHeartbeats 4000000 in
theorem behind_in (s : Nt) (h r : Int) (O : Nat → Prop) (w : World) (hks : 0 ≤ s.kind ∧ s.kind ≤ 4) (hsp : 0 ≤ s.lo ∧ s.lo ≤ s.hi ∧ s.hi ≤ 400) (h0 : 0 ≤ h ∧ h ≤ 400) (r0 : 0 ≤ r ∧ r ≤ 1000) :
    Seq0 Tryz.prog 176 #[.agg (clmC s h r)] #[] encS O (fun xs => xs = behL s (h, r)) (fun pre => pre <+: behL s (h, r)) w := by
  intro n l J Jx W hW hOW hJ hJx hY h0'
  have HJ := Lib.hid hJ
  have HJx := Lib.hid hJx
  have HY := Lib.hid hY
  have H0 := Lib.hid h0'
  have HOW := Lib.hid hOW
  clear hJ hJx hY h0' hOW hW
  refine callsIn_of_wp_marks Tryz.func176 rfl trivial ?_ rfl
  simp only [Tryz.ntmps176, List.size_toArray, List.length_cons, List.length_nil, Nat.reduceAdd, Nat.reduceSub, Array.replicate_succ, Array.replicate_zero, List.push_toArray, List.append_toArray, List.nil_append, List.cons_append]
  refine wpIn_wide.2 ?_
  unfold clmC
  go_upto_region 2 with fail
  generalize hW1 : ((W.alloc _).alloc _).alloc _ = W1
  have hB1 : Below W.heap.size W W1 := by rw [← hW1]; (exact belA)
  have hz1 : W1.heap.size = W.heap.size + 3 := by rw [← hW1]; simp
  have hbx : BehBox W1 W.heap.size l s h r := by
    rw [← hW1]
    exact ⟨((Blk.new rfl).alloc _).alloc _, (Blk.new (by simp)).alloc _, Blk.new (by simp)⟩
  clear hW1
  refine wp_region_flow_back 6 27 (begR W.heap.size s h r) (by kernel_rfl) (by kernel_rfl) rfl (begR_kept _ _ _ _) ?_ ?_
  · intro i hin a X g1 g2 g3 g4 g5 KK hKK
    have hbX := hbx.bel (by omega) g5
    have hc2 := hbX.cl.cell 2
    have hc3 := hbX.cl.cell 3
    match i, hin with
    | 0, _ => exact st_val rfl (wanted_none rfl) (run_fClaim0 _ rfl (g3 2 (by kernel_rfl)) hbX.cl.lt) (hKK _ _ rfl (Below.refl _ _))
    | 1, _ => exact st_val rfl (wanted_none rfl) (run_fNote2 _ rfl (g4 0 (by kernel_rfl)) hbX.cl.lt) (hKK _ _ rfl (Below.refl _ _))
    | 2, _ => exact st_val rfl (wanted_none rfl) (run_lSpan _ rfl (g4 1 (by kernel_rfl)) hc2 hc3) (hKK _ _ rfl (Below.refl _ _))
    | 3, _ =>
      refine st_call rfl rfl (wanted_none rfl) (sargs1 (g4 2 (by kernel_rfl))) (run_enter Tryz.func177 (by kernel_rfl) (by kernel_rfl) _) ?_
      refine (numbers_any s.lo s.hi _).mono ?_
      rintro e w1 ⟨g, rfl, k1, k2, y, rfl⟩
      exact ⟨_, rfl, hKK _ _ ⟨g, rfl, k2, by have := g5.size; omega⟩ (below_ext _ _)⟩
    | 4, _ => exact st_val rfl (wanted_none rfl) (run_lClaim _ rfl (g3 2 (by kernel_rfl)) hbX.cl) (hKK _ _ rfl (Below.refl _ _))
    | 5, _ => exact st_val rfl (wanted_none rfl) (run_mkRight _ rfl (g4 4 (by kernel_rfl))) (hKK _ _ rfl (Below.refl _ _))
    | k + 6, hk => omega
  intro vs W2 hvs hBW
  have v0 : vs 0 = _ := hvs 0 (by omega)
  have v1 : vs 1 = _ := hvs 1 (by omega)
  have v2 : vs 2 = _ := hvs 2 (by omega)
  obtain ⟨g, v3, kg, hg⟩ := hvs 3 (by omega)
  have v4 : vs 4 = _ := hvs 4 (by omega)
  have v5 : vs 5 = _ := hvs 5 (by omega)
  simp only [putAll, v0, v1, v2, v3, v4, v5]
  clear v0 v1 v2 v3 v4 v5 hvs
  simp only [dstOf, Act.put, List.getElem?_toArray, List.getElem?_cons_zero, List.getElem?_cons_succ, Option.bind_some, Option.getD_some, List.setIfInBounds_toArray, List.set_cons_succ, List.set_cons_zero, List.drop_succ_cons, List.drop_zero]
  have HBX := Lib.hid (hbx.bel (by omega) hBW)
  have HBW := Lib.hid (hB1.trans (hBW.mono hB1.size))
  have hz2 := hBW.size
  have HKG := Lib.hid kg
  have hgl := kg.lt
  clear hbx kg hBW hB1
  go_wp2_with (go_at_call 192; refine (only_any _ _ _ _ _ _ _).mono ?_; rintro e w1 ⟨ga, gi, rfl, k1, k2, k3, k4, k5⟩; have K3 := Lib.hid k3; have K4 := Lib.hid k4; have K5 := Lib.hid k5; clear k3 k4 k5)
  have hz3 := K5.out.size
  have hox : OnlyBox w1 g ga gi s.lo s.hi s h r := ⟨HKG.out.bel K5.out, K3.out, K4.out⟩
  have HBX1 := Lib.hid (HBX.out.bel (by omega) K5.out)
  have HBW1 := Lib.hid (HBW.out.trans (K5.out.mono HBW.out.size))
  have hseq := only1_in g ga gi s.lo s.hi s h r (fun k => O k ∨ k = w1.heap.size + 1) w1 hox hsp.1 hsp.2.1 (by omega) hks (fun k hk => by
    have l1 := hox.sp.lt
    have l2 := hox.al.lt
    have l3 := hox.is.lt
    rcases hk with hk | hk
    · have := HOW.out k hk; omega
    · omega)
  clear hox K3 K4 HKG
  refine (wpIn_wide (n := n)).1 ?_
  refine wpIn_rangeFunc_0 (gf := 203) (fb := #[]) (lb := #[.pointer (some ⟨ga, 0, none⟩), .pointer (some ⟨gi, 0, none⟩)]) rfl (enters_of Tryz.func203 (by kernel_rfl) rfl)
    O (fun k hk => by have := HOW.out k hk; omega) hseq (Below.refl _ _) (fun _ => rfl)
    (fun pre A => J (pre.map (doesS s.kind (h, r))) A ∧ BehBox A W.heap.size l s h r)
    (fun c pre A => c = .ret ∧ Jx (pre.map (doesS s.kind (h, r))) A)
    (fun pre x a' A => a' = { tmps := #[.agg #[.int .i64 s.kind, .int .i64 s.hour, .int .i64 s.lo, .int .i64 s.hi, .int .i64 h, .int .i64 r], .func (.yield l) #[] #[], .pointer (some ⟨W.heap.size, 0, none⟩), .pointer (some ⟨W.heap.size + 1, 0, none⟩), .pointer (some ⟨W.heap.size + 1 + 1, 0, none⟩), .int .i64 x,
      .agg #[.func (.func 188) #[] #[], .func (.func 189) #[] #[], .func (.func 190) #[] #[], .func (.func 179) #[] #[], .func (.func 191) #[] #[]], .pointer (some ⟨W.heap.size, 0, none⟩), .pointer (some ⟨W.heap.size, 2, none⟩), .agg #[.int .i64 s.lo, .int .i64 s.hi],
      .func (.func 194) #[] #[.pointer (some ⟨g, 0, none⟩)], .agg (clmC s h r), .func (.func 193) #[.agg (clmC s h r)] #[], .func (.func 203) #[] #[.pointer (some ⟨ga, 0, none⟩), .pointer (some ⟨gi, 0, none⟩)], .int .i64 x, undef, undef, undef, undef, undef, undef, undef, undef, undef, undef, undef, undef], defers := [] })
    ?hI ?hIx ?hAx ?h0 ?hassign ?hbody ?hdone ?hstop
  case hI =>
    rintro pre A C ⟨j1, j2⟩ hz hp
    exact ⟨HJ.out _ _ _ j1 (by omega) (hp.mono (by omega)), j2.bel (by omega) hp⟩
  case hIx =>
    rintro c pre A C ⟨rfl, j1⟩ hz hp
    exact ⟨rfl, HJx.out _ _ _ j1 (by omega) (hp.mono (by omega))⟩
  case hAx => rintro pre x a' A C rfl hp; rfl
  case h0 =>
    intro W3 hb3
    exact ⟨HJ.out _ _ _ H0.out (Nat.le_refl _) (HBW1.out.trans (hb3.mono (by omega))), HBX1.out.bel (by omega) hb3⟩
  case hassign =>
    intro m l' pre x W' hz hsp hi'
    exact wpIn_assign ⟨by simp [go_sem, Act.put, Act.eval], Below.refl _ _⟩
  case hbody =>
    rintro m l' pre x a' W' hz hpx ⟨j1, hbx⟩ rfl
    have hxr : s.lo ≤ x ∧ x ≤ s.hi := mem_numsL.1 (List.mem_filter.1 (hpx.subset (show x ∈ pre ++ [x] by simp))).1
    have J1 := Lib.hid j1
    have HP := Lib.hid (show pre.map (doesS s.kind (h, r)) ++ [doesS s.kind (h, r) x] <+: behL s (h, r) by have := hpx.map (doesS s.kind (h, r)); rwa [List.map_append] at this)
    clear hseq j1
    gi_wp2_with fail
    refine wpIn_region_flow_back 10 27 (endR W.heap.size l s h r x) (free_round l') rfl (by kernel_rfl) (by kernel_rfl) rfl (fun i hi v w w' k hb => ?_) ?_ ?_
    · match i, hi with
      | 0, _ => exact k
      | 1, _ => exact k
      | 2, _ => exact k
      | 3, _ => exact k
      | 4, _ => exact k
      | 5, _ => exact k
      | 6, _ => exact k
      | 7, _ => exact k
      | 8, _ => exact k
      | 9, _ => exact k
      | k + 10, hk => omega
    · intro i hin a X g1 g2 g3 g4 g5 KK hKK
      have hbX := hbx.bel (by omega) g5
      have hc0 := hbX.cl.cell 0
      have hc4 := hbX.cl.cell 4
      have hc5 := hbX.cl.cell 5
      have hy0 := hbX.yl.cell 0
      match i, hin with
      | 0, _ => exact st_val rfl (wanted_none rfl) (run_lYield _ rfl (g3 3 (by kernel_rfl)) hy0) (hKK _ _ rfl (Below.refl _ _))
      | 1, _ => exact st_val rfl (wanted_none rfl) (run_fClaim0 _ rfl (g3 2 (by kernel_rfl)) hbX.cl.lt) (hKK _ _ rfl (Below.refl _ _))
      | 2, _ => exact st_val rfl (wanted_none rfl) (run_fNote0 _ rfl (g4 1 (by kernel_rfl)) hbX.cl.lt) (hKK _ _ rfl (Below.refl _ _))
      | 3, _ => exact st_val rfl (wanted_none rfl) (run_num _ rfl (g4 2 (by kernel_rfl)) hc0) (hKK _ _ rfl (Below.refl _ _))
      | 4, _ => exact st_val rfl (wanted_none rfl) (run_iDoes _ rfl (g3 4 (by kernel_rfl)) (g4 3 (by kernel_rfl)) hks hbX.tb.lt) (hKK _ _ rfl (Below.refl _ _))
      | 5, _ => exact st_val rfl (wanted_none rfl) (run_lDoes _ rfl (g4 4 (by kernel_rfl)) (hbX.does hks)) (hKK _ _ rfl (Below.refl _ _))
      | 6, _ => exact st_val rfl (wanted_none rfl) (run_fClaim1 _ rfl (g3 2 (by kernel_rfl)) hbX.cl.lt) (hKK _ _ rfl (Below.refl _ _))
      | 7, _ => exact st_val rfl (wanted_none rfl) (run_lState _ rfl (g4 6 (by kernel_rfl)) hc4 hc5) (hKK _ _ rfl (Below.refl _ _))
      | 8, _ => exact st_move rfl rfl (wanted_none rfl) (g3 5 (by kernel_rfl)) (hKK _ _ rfl (Below.refl _ _))
      | 9, _ =>
        refine st_callv rfl rfl (wanted_none rfl) (g4 5 (by kernel_rfl)) (sargsv2 (g4 7 (by kernel_rfl)) (g4 8 (by kernel_rfl))) (fid_enter _ _) ?_
        refine (does_any s.kind h r x _ (by omega) (by omega) (by omega)).mono ?_
        rintro e w1 ⟨rfl, y, rfl⟩
        exact ⟨_, rfl, hKK _ _ rfl (below_ext _ _)⟩
      | k + 10, hk => omega
    intro vs W3 hvs hBW3
    have v0 : vs 0 = _ := hvs 0 (by omega)
    have v1 : vs 1 = _ := hvs 1 (by omega)
    have v2 : vs 2 = _ := hvs 2 (by omega)
    have v3 : vs 3 = _ := hvs 3 (by omega)
    have v4 : vs 4 = _ := hvs 4 (by omega)
    have v5 : vs 5 = _ := hvs 5 (by omega)
    have v6 : vs 6 = _ := hvs 6 (by omega)
    have v7 : vs 7 = _ := hvs 7 (by omega)
    have v8 : vs 8 = _ := hvs 8 (by omega)
    have v9 : vs 9 = _ := hvs 9 (by omega)
    simp only [putAll, v0, v1, v2, v3, v4, v5, v6, v7, v8, v9]
    clear v0 v1 v2 v3 v4 v5 v6 v7 v8 v9 hvs
    simp only [dstOf, Act.put, List.getElem?_toArray, List.getElem?_cons_zero, List.getElem?_cons_succ, Option.bind_some, Option.getD_some, List.setIfInBounds_toArray, List.set_cons_succ, List.set_cons_zero, List.drop_succ_cons, List.drop_zero]
    have hz4 := hBW3.size
    have HB3 := Lib.hid hBW3
    have HBX3 := Lib.hid (hbx.bel (by omega) hBW3)
    clear hBW3 hbx
    obtain ⟨fn, tmps, assign, body, hy, hR⟩ := YieldAt.inR l' (HY.out _ (pre.map (doesS s.kind (h, r))) (doesS s.kind (h, r) x) W3 (by omega) HP.out (HJ.out _ _ _ J1.out (by omega) (HB3.out.mono (by omega))))
    dsimp only [encS] at hy
    gi_wp2_with fail
    refine hR.mono ?_
    rintro e B (⟨rfl, hJB, hS⟩ | ⟨rfl, hJB, hS⟩)
    · have HS := Lib.hid hS
      have HJB := Lib.hid hJB
      clear hS hJB hy hR
      gi_wp2_with fail
      refine ⟨(PrivM.of_below HB3.out).trans HS.out, by rw [List.map_append]; exact HJB.out, ?_⟩
      have hO : ∀ k, W.heap.size ≤ k → ¬ O k := fun k hk e => by have := HOW.out k e; omega
      exact ⟨(HS.out.block _ (by omega) (hO _ (by omega))).trans HBX3.out.cl, (HS.out.block _ (by omega) (hO _ (by omega))).trans HBX3.out.yl, (HS.out.block _ (by omega) (hO _ (by omega))).trans HBX3.out.tb⟩
    · have HS := Lib.hid hS
      have HJB := Lib.hid hJB
      clear hS hJB hy hR
      gi_wp2_with fail
      exact ⟨(PrivM.of_below HB3.out).trans HS.out, rfl, by rw [List.map_append]; exact HJB.out⟩
  case hdone =>
    rintro D xs W' rfl hz rfl ⟨j1, j2⟩ hp hD'
    have J1 := Lib.hid j1
    have HPV := Lib.hid hp
    clear j1 j2 hp hseq
    gi_wp2_with fail
    refine ⟨by simp, .inl ⟨_, _, rfl, run_takeDeferred hD', ?_⟩⟩
    exact ⟨_, results_none rfl _ _ _, ⟨_, rfl⟩, HPV.out.shut HBW1.out (by omega) _, .inl ⟨_, rfl, HJ.out _ _ _ J1.out (by omega) (below_putObj _ (by omega) _)⟩⟩
  case hstop =>
    rintro D c pre W' rfl hz hSp ⟨rfl, j1⟩ hp hD'
    have J1 := Lib.hid j1
    have HPV := Lib.hid hp
    clear j1 hp hseq
    gi_wp2_with fail
    refine ⟨by simp, .inl ⟨_, _, rfl, run_takeDeferred hD', ?_⟩⟩
    exact ⟨_, results_none rfl _ _ _, ⟨_, rfl⟩, HPV.out.shut HBW1.out (by omega) _, .inr ⟨_, hSp.map _, HJx.out _ _ _ J1.out (by omega) (below_putObj _ (by omega) _)⟩⟩
end Go.Proofs.YtcaeohgbgeadaaaGreatDoor

namespace Go.Proofs.YtcaeohgbgeadaaaGreatDoor
open Go Go.RowKit

/-- A list that a range left behind, and that is empty. -/
def coll (D : Nat) : Deferred := { target := .collected D, args := #[] }
/-- The return of a call in which ranges over functions ran, if none of them put off a call: their lists are shut, one after another. -/
theorem leaves_coll {F : Fence} {n : Nat} {P : Program} {fn : Func} {tmps : Array Value} {R : Ending → World → Prop} : ∀ (Ds : List Nat) (w : World), Ds.Nodup → (∀ D ∈ Ds, w.heap[D]? = some (.deferred (some []))) →
    (∀ w' : World, w'.os = w.os → w'.tape = w.tape → w'.output = w.output → w'.heap.size = w.heap.size → (∀ k, k ∉ Ds → w'.heap[k]? = w.heap[k]?) → LeavesInM F n P fn tmps R [] .returning w') →
    LeavesInM F n P fn tmps R (Ds.map coll) .returning w
  | [], w, _, _, h => h w rfl rfl rfl rfl (fun _ _ => rfl)
  | D :: Ds, w, hnd, hD, h => by
    rw [List.nodup_cons] at hnd
    refine ⟨by simp, .inl ⟨D, w.putObj D (.deferred none), rfl, run_takeDeferred (hD D (by simp)), ?_⟩⟩
    refine leaves_coll Ds _ hnd.2 (fun k hk => (World.putObj_heap_other (by rintro rfl; exact hnd.1 hk)).trans (hD k (by simp [hk]))) ?_
    intro w' e1 e2 e3 e4 e5
    refine h w' e1 e2 e3 (e4.trans (World.putObj_size ..)) (fun k hk => ?_)
    simp only [List.mem_cons, not_or] at hk
    exact (e5 k hk.2).trans (World.putObj_heap_other hk.1)
/-- Empty lists that ranges left behind, from a block on. -/
structure Defs (n0 : Nat) (Ds : List Nat) (w : World) : Prop where
  nd : Ds.Nodup
  is : ∀ D ∈ Ds, w.heap[D]? = some (.deferred (some []))
  ge : ∀ D ∈ Ds, n0 ≤ D
theorem Defs.nil (n0 : Nat) (w : World) : Defs n0 [] w := ⟨List.nodup_nil, by simp, by simp⟩
theorem Defs.lt {n0 : Nat} {Ds : List Nat} {w : World} (h : Defs n0 Ds w) {D : Nat} (hD : D ∈ Ds) : D < w.heap.size := (Array.getElem?_eq_some_iff.1 (h.is D hD)).1
theorem Defs.privM {n0 : Nat} {Ds : List Nat} {w w' : World} {O : Nat → Prop} (h : Defs n0 Ds w) (hp : PrivM O w w') (hO : ∀ D ∈ Ds, ¬ O D) : Defs n0 Ds w' := ⟨h.nd, fun D hD => (hp.block D (h.lt hD) (hO D hD)).trans (h.is D hD), h.ge⟩
theorem Defs.below {n0 : Nat} {Ds : List Nat} {w w' : World} (h : Defs n0 Ds w) (hp : Below w.heap.size w w') : Defs n0 Ds w' := ⟨h.nd, fun D hD => (hp.block D (h.lt hD)).trans (h.is D hD), h.ge⟩
theorem Defs.cons {n0 D : Nat} {Ds : List Nat} {w : World} (h : Defs n0 Ds w) (hD : w.heap[D]? = some (.deferred (some []))) (hn : n0 ≤ D) (hne : D ∉ Ds) : Defs n0 (D :: Ds) w :=
  ⟨List.nodup_cons.2 ⟨hne, h.nd⟩, fun E hE => by rcases List.mem_cons.1 hE with rfl | hE; exact hD; exact h.is E hE, fun E hE => by rcases List.mem_cons.1 hE with rfl | hE; exact hn; exact h.ge E hE⟩
/-- The return. -/
theorem Defs.leave {F : Fence} {n : Nat} {P : Program} {fn : Func} {tmps : Array Value} {R : Ending → World → Prop} {n0 : Nat} {Ds : List Nat} {w : World} (h : Defs n0 Ds w) (hr : ∀ w' : World, Below n0 w w' → w'.heap.size = w.heap.size → (∀ k, k ∉ Ds → w'.heap[k]? = w.heap[k]?) → LeavesInM F n P fn tmps R [] .returning w') :
    LeavesInM F n P fn tmps R (Ds.map coll) .returning w :=
  leaves_coll Ds w h.nd h.is fun w' e1 e2 e3 e4 e5 => hr w' ⟨e1, e2, e3, Nat.le_of_eq e4.symm, fun k hk => e5 k (fun hD => by have := h.ge k hD; omega)⟩ e4 e5
end Go.Proofs.YtcaeohgbgeadaaaGreatDoor

