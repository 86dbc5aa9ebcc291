/- Contracts of package seine: the least of several numbers, what a state loses, what it is behind some hours. -/
/- Contracts of package seine: what a state is behind some hours. -/
import Derived.Test.YtcaeohgbgeadaaaGreatDoorQSa
import Derived.Test.YtcaeohgbgeadaaaGreatDoorQFl
import Derived.DeepKeys5
import Derived.WalkMore
import Derived.Shelf.RegionOpen
import Derived.StillTailTactics
import Derived.Laws.EntriesVeiled
import Derived.Sort.CutIn
import Derived.RangeFuncOne
set_option linter.unusedSimpArgs false
set_option linter.unusedVariables false
namespace Go.Proofs.YtcaeohgbgeadaaaGreatDoor
open Go Go.RowKit

section
variable {P : Program} {ops : Array Oper} {Q : Exit → Act → World → Prop} {i : Nat} {o : Oper} {K : Act → World → Prop} {a : Act} {w : World}
theorem st_valw {v : Value} {w' : World} (h : ops[i]? = some o) (hw : Region.wanted o (yielded ops a.tmps) = true) (hr : (execOp a.eval o).run P w = .ok (.value v) w') (hK : K (a.put o.dst v) w') : wpOp P ops Q i K a w := by
  refine wpOp_want h hw ?_
  unfold Oper.wp
  rw [hr]
  exact hK
theorem run_enter {f : FuncId} {fn : Func} (hf : P.funcs[f]? = some fn) (hname : (fn.name == "runtime.NumGoroutine") = false) (hb : fn.body.isSome = true) (vs : Array Value) (w : World) : (callFunc f vs).run P w = .ok (.enter f vs) w := by
  have h1 : fn.name ≠ "runtime.NumGoroutine" := by simpa using hname
  obtain ⟨c, hc⟩ := Option.isSome_iff_exists.1 hb
  simp [callFunc, hf, h1, hc]
theorem run_call (ρ : Operand → Value) {f : FuncId} {xs : Array Operand} {ts : Array TypeId} {vs : Array Value} (hop : o.op = .call { callee := .value (.func f), args := xs, argTypes := ts }) (hf : ρ (.func f) = .func (.func f) #[] #[]) (hv : xs.map ρ = vs) (he : ∀ w, (callFunc f vs).run P w = .ok (.enter f vs) w) : (execOp ρ o).run P w = .ok (.enter f vs) w := by
  unfold execOp
  simp only [hop]
  simp [resolve, hf, hv, go_sem, Deferred.ofValue, invoke, he]
theorem st_call {f : FuncId} {xs : Array Operand} {ts : Array TypeId} {vs : Array Value} (h : ops[i]? = some o) (hop : o.op = .call { callee := .value (.func f), args := xs, argTypes := ts }) (hw : Region.wanted o (yielded ops a.tmps) = true) (hv : xs.map a.eval = vs) (he : ∀ w, (callFunc f vs).run P w = .ok (.enter f vs) w)
    (hc : Calls P f vs w fun e w' => ∃ v, e = .returned v ∧ K (a.put o.dst v) w') : wpOp P ops Q i K a w := by
  refine wpOp_want h hw ?_
  unfold Oper.wp
  rw [run_call a.eval hop rfl hv he]
  refine hc.mono ?_
  rintro e w' ⟨v, rfl, hk⟩
  exact hk
end
def leastL (a : Int) (l : List Int) : Int := l.foldl (fun x y => if y < x then y else x) a
theorem leastL_snoc (a : Int) (l : List Int) (y : Int) : leastL a (l ++ [y]) = if y < leastL a l then y else leastL a l := by unfold leastL; rw [List.foldl_append]; rfl
theorem leastL_one (a y : Int) : leastL a [y] = min a y := by
  simp only [leastL, List.foldl_cons, List.foldl_nil]
  split <;> omega
attribute [local go_sem] Oper.semAt_some frozen_alloc_lt
set_option maxHeartbeats 1000000 in
theorem least_any (a : Int) (p : Option Addr) (c : Nat) (l : List Int) (w : World) (hl : IntsAt w p l) (hb : l.length ≤ 1000) :
    Calls Tryz.prog 173 #[.int .i64 a, .slice p l.length c] w fun e w' => e = .returned (.int .i64 (leastL a l)) ∧ ∃ x, w' = ext w x := by
  go_enter Tryz.func173, Tryz.ntmps173
  go_wp2_with fail
  go_loopw [0, 9] (fun x i wr => ∃ (k : Nat) (v : Int), k ≤ l.length ∧ i = .int .i64 k ∧ x = .int .i64 v ∧ Hid (leastL a (l.take k) = v) ∧ ∃ x, wr = ext w x) (fun _ i _ => l.length - (intOf i).toNat)
  case atStart => exact ⟨0, a, by omega, rfl, rfl, Lib.hid rfl, ext_of (Below.refl _ _)⟩
  case round =>
    obtain ⟨k, v, hk, rfl, rfl, H, x, rfl⟩ := hrel
    by_cases hlt : k < l.length
    · obtain ⟨t, ht⟩ := get_some l k hlt
      obtain ⟨b, o, rfl, hb', c1⟩ := hl.ext x k _ ht
      have HS := Lib.hid (show leastL a (l.take (k + 1)) = if t < v then t else v by rw [List.take_add_one, ht, Option.toList_some, leastL_snoc, H.out])
      have k0 : (0 : Int) ≤ (k : Int) := by omega
      have k1 : (k : Int) < (l.length : Int) := by omega
      have HW := Lib.hid (wrap_num k (by omega))
      clear ht
      by_cases hm : t < v
      · have HZ := Lib.hid (show leastL a (l.take (k + 1)) = t by rw [HS.out, if_pos hm])
        have hm' : decide (t < v) = true := by simpa using hm
        clear HS
        go_wp2_with fail
        try rw [HW.out]
        exact ⟨⟨k + 1, t, hlt, rfl, rfl, HZ, by (exact ext_of (by (exact belA)))⟩, less_num _ k hlt⟩
      · have HZ := Lib.hid (show leastL a (l.take (k + 1)) = v by rw [HS.out, if_neg hm])
        have hm' : decide (t < v) = false := by simpa using hm
        clear HS
        go_wp2_with fail
        try rw [HW.out]
        exact ⟨⟨k + 1, v, hlt, rfl, rfl, HZ, by (exact ext_of (by (exact belA)))⟩, less_num _ k hlt⟩
    · obtain rfl : k = l.length := by omega
      have HZ := Lib.hid (show leastL a l = v by rw [← H.out, List.take_length])
      go_wp2_with fail
      go_ret
      exact ⟨by rw [HZ.out]; rfl, by (exact ext_of (by (exact belA)))⟩
theorem least_one (a y : Int) (g : Nat) (w : World) (k : Blk w g 3 #[.int .i64 y]) :
    Calls Tryz.prog 173 #[.int .i64 a, .slice (some ⟨g, 0, none⟩) 1 1] w fun e w' => e = .returned (.int .i64 (min a y)) ∧ ∃ x, w' = ext w x := by
  rw [← leastL_one]
  exact least_any a _ 1 [y] w (ints_one k) (by simp)
/-- What the operations of lose leave. -/
def loseR (g : Nat) (h r m : Int) (i : Nat) (v : Value) (w : World) : Prop :=
  match i with
  | 0 => v = .agg #[.int .i64 h, .int .i64 r]
  | 1 => v = .pointer (some ⟨g, 0, none⟩)
  | 2 => v = .int .i64 h
  | 3 => v = .int .i64 m
  | 4 => ∃ q : Nat, v = .slice (some ⟨q, 0, none⟩) 1 1 ∧ Blk w q 3 #[.int .i64 m]
  | 5 => v = .int .i64 (min h m)
  | 6 => v = .agg #[.int .i64 (h - min h m), .int .i64 r]
  | _ => True
theorem loseR_kept (g : Nat) (h r m : Int) : ∀ (i : Nat), i < 7 → ∀ (v : Value) (w w' : World), loseR g h r m i v w → Below w.heap.size w w' → loseR g h r m i v w' := by
  intro i hi v w w' h hb
  match i, hi with
  | 0, _ => exact h
  | 1, _ => exact h
  | 2, _ => exact h
  | 3, _ => exact h
  | 4, _ => obtain ⟨q, h1, h2⟩ := h; exact ⟨q, h1, h2.bel hb⟩
  | 5, _ => exact h
  | 6, _ => exact h
  | k + 7, hk => omega
theorem sargs2 {a : Act} {s t : Nat} {x y : Value} (h1 : a.tmps.getD s undef = x) (h2 : a.tmps.getD t undef = y) : (#[Operand.tmp s, Operand.tmp t]).map a.eval = #[x, y] := by
  simp only [List.map_toArray, List.map_cons, List.map_nil, Act.eval, h1, h2]
theorem run_state {o : Oper} {w : World} {g s : Nat} {x y : Value} (ρ : Operand → Value) (hop : o.op = .load 169 (.tmp s)) (hs : ρ (.tmp s) = .pointer (some ⟨g, 0, none⟩)) (k : Blk w g 169 #[x, y]) :
    (execOp ρ o).run Tryz.prog w = .ok (.value (.agg #[x, y])) w := by
  have c0 := k.cell 0
  have c1 := k.cell 1
  simp only [List.size_toArray, List.length_cons, List.length_nil, Nat.reduceAdd, Nat.reduceLT, getElem?_pos, List.getElem_toArray, List.getElem_cons_zero, List.getElem_cons_succ] at c0 c1
  unfold execOp
  simp [hop, hs, go_sem, c0, c1]
theorem run_held {o : Oper} {w : World} {g s : Nat} (ρ : Operand → Value) (hop : o.op = .fieldAddr 169 (.tmp s) 0) (hs : ρ (.tmp s) = .pointer (some ⟨g, 0, none⟩)) (hl : g < w.heap.size) :
    (execOp ρ o).run Tryz.prog w = .ok (.value (.pointer (some ⟨g, 0, none⟩))) w := by
  unfold execOp
  simp [hop, hs, go_sem, hl]
theorem run_num {o : Oper} {w : World} {g j s : Nat} {x : Int} (ρ : Operand → Value) (hop : o.op = .load 3 (.tmp s)) (hs : ρ (.tmp s) = .pointer (some ⟨g, j, none⟩)) (k : w.cell? ⟨g, j, none⟩ = some (.int .i64 x)) :
    (execOp ρ o).run Tryz.prog w = .ok (.value (.int .i64 x)) w := by
  unfold execOp
  simp [hop, hs, go_sem, k]
theorem run_one {o : Oper} {w : World} {s : Nat} {x : Int} (ρ : Operand → Value) (hop : o.op = .buildSlice 30 1 #[(0, .tmp s)]) (hs : ρ (.tmp s) = .int .i64 x) :
    (execOp ρ o).run Tryz.prog w = .ok (.value (.slice (some ⟨w.heap.size, 0, none⟩) 1 1)) (w.alloc (.cells #[.int .i64 x] 3)) := by
  unfold execOp
  simp [hop, hs, go_sem]
set_option maxHeartbeats 1000000 in
theorem lose_any (h r m : Int) (w : World) (h0 : 0 ≤ h ∧ h ≤ 100000) (m0 : 0 ≤ m ∧ m ≤ 100000) : Calls Tryz.prog 179 #[.agg #[.int .i64 h, .int .i64 r], .int .i64 m] w fun e w' => e = .returned (.agg #[.int .i64 (h - min h m), .int .i64 r]) ∧ ∃ x, w' = ext w x := by
  go_enter Tryz.func179, Tryz.ntmps179
  go_upto_region 1 with fail
  generalize hW : (w.alloc _).alloc _ = W
  have hB : Below w.heap.size w W := by rw [← hW]; (exact belA)
  have kS : Blk W w.heap.size 169 #[.int .i64 h, .int .i64 r] := by rw [← hW]; exact (Blk.new rfl).alloc _
  have kR : Blk W (w.heap.size + 1) 169 #[.int .i64 0, .int .i64 0] := by rw [← hW]; exact Blk.new (by simp)
  have KS := Lib.hid kS
  have KR := Lib.hid kR
  have HB := Lib.hid hB
  clear hW kS kR hB
  refine wp_region_flow_back 7 12 (loseR w.heap.size h r m) (by kernel_rfl) (by kernel_rfl) rfl (loseR_kept _ _ _ _) ?_ ?_
  · intro i hin a X g1 g2 g3 g4 g5 KK hKK
    match i, hin with
    | 0, _ => exact st_val rfl (wanted_none rfl) (run_state _ rfl (g3 2 (by kernel_rfl)) (KS.out.bel g5)) (hKK _ _ rfl (Below.refl _ _))
    | 1, _ => exact st_val rfl (wanted_none rfl) (run_held _ rfl (g3 2 (by kernel_rfl)) (KS.out.bel g5).lt) (hKK _ _ rfl (Below.refl _ _))
    | 2, _ => exact st_val rfl (wanted_none rfl) (run_num _ rfl (g4 1 (by kernel_rfl)) (((KS.out.bel g5).cell 0).trans rfl)) (hKK _ _ rfl (Below.refl _ _))
    | 3, _ => exact st_move rfl rfl (wanted_none rfl) (g3 1 (by kernel_rfl)) (hKK _ _ rfl (Below.refl _ _))
    | 4, _ => exact st_valw rfl (wanted_none rfl) (run_one _ rfl (g4 3 (by kernel_rfl))) (hKK _ _ ⟨_, rfl, Blk.new rfl⟩ ((Below.refl _ _).alloc (Nat.le_refl _) _))
    | 5, _ =>
      obtain ⟨q, e1, kq⟩ := g4 4 (by kernel_rfl)
      refine st_call rfl rfl (wanted_none rfl) (sargs2 (g4 2 (by kernel_rfl)) e1) (run_enter Tryz.func173 (by kernel_rfl) (by kernel_rfl) _) ?_
      refine (least_one h m q _ kq).mono ?_
      rintro e w1 ⟨rfl, y, rfl⟩
      exact ⟨_, rfl, hKK _ _ rfl (below_ext _ _)⟩
    | 6, _ =>
      refine st_call rfl rfl (wanted_none rfl) (sargs2 (g4 0 (by kernel_rfl)) (g4 5 (by kernel_rfl))) (run_enter Tryz.func188 (by kernel_rfl) (by kernel_rfl) _) ?_
      refine (take_any h r (min h m) _ h0 (by omega)).mono ?_
      rintro e w1 ⟨rfl, y, rfl⟩
      exact ⟨_, rfl, hKK _ _ rfl (below_ext _ _)⟩
    | k + 7, hk => omega
  intro vs W2 hvs hBW
  have v0 : vs 0 = _ := hvs 0 (by omega)
  have v1 : vs 1 = _ := hvs 1 (by omega)
  have v2 : vs 2 = _ := hvs 2 (by omega)
  have v3 : vs 3 = _ := hvs 3 (by omega)
  obtain ⟨q, v4, -⟩ := hvs 4 (by omega)
  have v5 : vs 5 = _ := hvs 5 (by omega)
  have v6 : vs 6 = _ := hvs 6 (by omega)
  simp only [putAll, v0, v1, v2, v3, v4, v5, v6]
  clear v0 v1 v2 v3 v4 v5 v6 hvs
  simp only [dstOf, Act.put, List.getElem?_toArray, List.getElem?_cons_zero, List.getElem?_cons_succ, Option.bind_some, Option.getD_some, List.setIfInBounds_toArray, List.set_cons_succ, List.set_cons_zero, List.drop_succ_cons, List.drop_zero]
  have kr := KR.out.bel hBW
  have r0 := kr.cell 0
  have r1 := kr.cell 1
  have f0 := kr.frozen 0
  have f1 := kr.frozen 1
  have hl := kr.lt
  simp only [List.size_toArray, List.length_cons, List.length_nil, Nat.reduceAdd, Nat.reduceLT, getElem?_pos, List.getElem_toArray, List.getElem_cons_zero, List.getElem_cons_succ] at r0 r1
  have HEND := Lib.hid (HB.out.trans (hBW.mono HB.out.size))
  clear kr hBW
  go_wp2_with fail
  refine bodyPost_ret (v := .agg #[.int .i64 (h - min h m), .int .i64 r]) (by simp [results, Tryz.results179, go_sem, r0, r1, hl]) rfl ⟨rfl, ext_of ?_⟩
  exact (HEND.out.setCell (by simp) _).setCell (by simp) _
end Go.Proofs.YtcaeohgbgeadaaaGreatDoor

namespace Go.Proofs.YtcaeohgbgeadaaaGreatDoor
open Go Go.RowKit

/-- What is held when some hours have passed. -/
def afterH (r : Int) : Nat → Int → Int
  | 0, h => h
  | n + 1, h => afterH r n (h - min h r)
theorem afterH_stay {r h : Int} (e : h - min h r = h) : ∀ n, afterH r n h = h
  | 0 => rfl
  | n + 1 => by unfold afterH; rw [e]; exact afterH_stay e n
theorem afterH_bd {r : Int} (hr : 0 ≤ r) : ∀ (n : Nat) (h : Int), 0 ≤ h → 0 ≤ afterH r n h ∧ afterH r n h ≤ h
  | 0, h, h0 => ⟨h0, Int.le_refl _⟩
  | n + 1, h, h0 => by
    have := afterH_bd hr n (h - min h r) (by omega)
    unfold afterH
    omega
/-- What is held behind some hours: that much less for each, as long as there is so much. -/
theorem afterH_eq {r : Int} (hr : 0 ≤ r) : ∀ (n : Nat) (h : Int), 0 ≤ h → afterH r n h = max 0 (h - n * r)
  | 0, h, h0 => by unfold afterH; simp; omega
  | n + 1, h, h0 => by
    unfold afterH
    rw [afterH_eq hr n (h - min h r) (by omega)]
    have e : ((n + 1 : Nat) : Int) * r = n * r + r := by rw [Int.natCast_succ, Int.add_mul, Int.one_mul]
    rw [e]
    by_cases hle : h ≤ r
    · have hnr : 0 ≤ (n : Int) * r := Int.mul_nonneg (by omega) hr
      rw [Int.min_eq_left hle]; omega
    · rw [Int.min_eq_right (by omega)]; omega
theorem state_eql (a b c d : Int) (w : World) : (Go.binOp .eql 169 (.agg #[.int .i64 a, .int .i64 b]) (.agg #[.int .i64 c, .int .i64 d])).run Tryz.prog w = .ok (.bool (decide ((a, b) = (c, d)))) w := by
  by_cases h1 : a = c <;> by_cases h2 : b = d <;> simp [go_sem, h1, h2]
attribute [local go_sem] Oper.semAt_some frozen_alloc_lt
set_option maxRecDepth 100000 in
set_option maxHeartbeats 2000000 in
theorem after1_any (pb : Nat) (r : Int) (hr : 0 ≤ r ∧ r ≤ 1000) : ∀ (n : Nat) (h : Int) (w : World), n ≤ 1000 → 0 ≤ h → h ≤ 1000 → pb < w.heap.size → w.cell? ⟨pb, 0, none⟩ = some (.func (.func 178) #[] #[.pointer (some ⟨pb, 0, none⟩)]) →
    Calls Tryz.prog 178 #[.agg #[.int .i64 h, .int .i64 r], .int .i64 n, .pointer (some ⟨pb, 0, none⟩)] w fun e w' => e = .returned (.agg #[.int .i64 (afterH r n h), .int .i64 r]) ∧ ∃ x, w' = ext w x := by
  intro n
  induction n with
  | zero =>
    intro h w hn h0 h1 hp hc
    go_enter Tryz.func178, Tryz.ntmps178
    go_upto_region 2 with (go_at_call 179; refine (lose_any h r r _ (by omega) (by omega)).mono ?_; rintro e w1 ⟨rfl, y, rfl⟩)
    generalize hW : (ext _ y).alloc _ = W
    generalize hg : (ext _ y).heap.size = g6
    have hB : Below w.heap.size w W := by rw [← hW]; (exact belA)
    have kS : Blk W w.heap.size 169 #[.int .i64 h, .int .i64 r] := by rw [← hW]; exact (((Blk.new rfl).alloc _).ext y).alloc _
    have kR : Blk W (w.heap.size + 1) 169 #[.int .i64 0, .int .i64 0] := by rw [← hW]; exact ((Blk.new (by simp)).ext y).alloc _
    have HB := Lib.hid hB
    have s0 := kS.cell 0
    have s1 := kS.cell 1
    have r0 := kR.cell 0
    have r1 := kR.cell 1
    have f0 := kR.frozen 0
    have f1 := kR.frozen 1
    have ls := kS.lt
    have lr := kR.lt
    simp only [List.size_toArray, List.length_cons, List.length_nil, Nat.reduceAdd, Nat.reduceLT, getElem?_pos, List.getElem_toArray, List.getElem_cons_zero, List.getElem_cons_succ] at s0 s1 r0 r1
    clear hW hg hB kS kR hc
    go_wp2_with fail
    refine bodyPost_ret (v := .agg #[.int .i64 h, .int .i64 r]) (by simp [results, Tryz.results178, go_sem, r0, r1, lr]) rfl ⟨rfl, ext_of ?_⟩
    exact (HB.out.setCell (by simp) _).setCell (by simp) _
  | succ n ih =>
    intro h w hn h0 h1 hp hc
    have HIH := Lib.hid ih
    clear ih
    have hz : (((n + 1 : Nat) : Int) == 0) = false := by simp; omega
    have hn1 : wrap64 (((n + 1 : Nat) : Int) - 1) = (n : Int) := by unfold wrap64; omega
    have hn2 : ((n + 1 : Nat) : Int) - 1 = (n : Int) := by omega
    have HN := Lib.hid hn
    have hm0 : 0 ≤ h - min h r := by omega
    have hm1 : h - min h r ≤ 1000 := by omega
    have HS := Lib.hid (show afterH r (n + 1) h = afterH r n (h - min h r) from rfl)
    have HST := Lib.hid (show h - min h r = h → afterH r (n + 1) h = h from fun e => afterH_stay e (n + 1))
    have heq := fun w => state_eql (h - min h r) r h r w
    go_enter Tryz.func178, Tryz.ntmps178
    go_upto_region 2 with (go_at_call 179; refine (lose_any h r r _ (by omega) (by omega)).mono ?_; rintro e w1 ⟨rfl, y, rfl⟩)
    generalize hW : (ext _ y).alloc _ = W
    generalize hg : (ext _ y).heap.size = g6
    have hB : Below w.heap.size w W := by rw [← hW]; (exact belA)
    have kS : Blk W w.heap.size 169 #[.int .i64 h, .int .i64 r] := by rw [← hW]; exact (((Blk.new rfl).alloc _).ext y).alloc _
    have kR : Blk W (w.heap.size + 1) 169 #[.int .i64 0, .int .i64 0] := by rw [← hW]; exact ((Blk.new (by simp)).ext y).alloc _
    have kN : Blk W g6 169 #[.int .i64 (h - min h r), .int .i64 r] := by rw [← hW]; exact Blk.new hg.symm
    have HB := Lib.hid hB
    have HKR := Lib.hid kR
    have s0 := kS.cell 0
    have s1 := kS.cell 1
    have r0 := kR.cell 0
    have r1 := kR.cell 1
    have f0 := kR.frozen 0
    have f1 := kR.frozen 1
    have q0 := kN.cell 0
    have q1 := kN.cell 1
    have ls := kS.lt
    have lr := kR.lt
    have lq := kN.lt
    have hc' := (hB.cell (p := ⟨pb, 0, none⟩) hp).trans hc
    have hp' : pb < W.heap.size := Nat.lt_of_lt_of_le hp hB.size
    simp only [List.size_toArray, List.length_cons, List.length_nil, Nat.reduceAdd, Nat.reduceLT, getElem?_pos, List.getElem_toArray, List.getElem_cons_zero, List.getElem_cons_succ] at s0 s1 r0 r1 q0 q1
    have HHC := Lib.hid hc'
    have hps : pb < w.heap.size := hp
    clear hW hg hB kS kR kN hc
    generalize hz' : h - min h r = z at *
    by_cases he : z = h
    · have hd : decide ((z, r) = (h, r)) = true := by simp [he]
      rw [hd] at heq
      have HE := Lib.hid (HST.out he)
      clear he hd
      go_wp2_with fail
      refine bodyPost_ret (v := .agg #[.int .i64 h, .int .i64 r]) (by simp [results, Tryz.results178, go_sem, r0, r1, lr]) rfl ⟨by rw [HE.out], ext_of ?_⟩
      exact (HB.out.setCell (by simp) _).setCell (by simp) _
    · have hd : decide ((z, r) = (h, r)) = false := by simp [he]
      rw [hd] at heq
      clear he hd
      go_wp2_with (go_at_call 178; refine (HIH.out z _ (by omega) hm0 hm1 hp' HHC.out).mono ?_; rintro e w1 ⟨rfl, y2, rfl⟩)
      have kr := HKR.out.ext y2
      have r0 := kr.cell 0
      have r1 := kr.cell 1
      have f0 := kr.frozen 0
      have f1 := kr.frozen 1
      have lr := kr.lt
      simp only [List.size_toArray, List.length_cons, List.length_nil, Nat.reduceAdd, Nat.reduceLT, getElem?_pos, List.getElem_toArray, List.getElem_cons_zero, List.getElem_cons_succ] at r0 r1
      refine bodyPost_ret (v := .agg #[.int .i64 (afterH r n z), .int .i64 r]) (by simp [results, Tryz.results178, go_sem, r0, r1, lr]) rfl ⟨by rw [HS.out], ext_of ?_⟩
      have hB2 := HB.out.trans ((below_ext W y2).mono HB.out.size)
      exact (hB2.setCell (by simp) _).setCell (by simp) _
set_option maxHeartbeats 1000000 in
theorem after_any (h r : Int) (n : Nat) (w : World) (hr : 0 ≤ r ∧ r ≤ 1000) (hn : n ≤ 1000) (h0 : 0 ≤ h) (h1 : h ≤ 1000) :
    Calls Tryz.prog 145 #[.agg #[.int .i64 h, .int .i64 r], .int .i64 n] w fun e w' => e = .returned (.agg #[.int .i64 (afterH r n h), .int .i64 r]) ∧ ∃ x, w' = ext w x := by
  go_enter Tryz.func145, Tryz.ntmps145
  go_upto_region 2 with fail
  generalize hV : ((w.alloc _).alloc _).alloc _ = V
  have hB : Below w.heap.size w V := by rw [← hV]; (exact belA)
  have kS : Blk V w.heap.size 169 #[.int .i64 h, .int .i64 r] := by rw [← hV]; exact ((Blk.new rfl).alloc _).alloc _
  have kR : Blk V (w.heap.size + 1) 169 #[.int .i64 0, .int .i64 0] := by rw [← hV]; exact (Blk.new (by simp)).alloc _
  have kN : Blk V (w.heap.size + 1 + 1) 216 #[.nilFunc] := by rw [← hV]; exact Blk.new (by simp)
  have n0 := kN.cell 0
  have nf := kN.frozen 0
  have nl := kN.lt
  simp only [List.size_toArray, List.length_cons, List.length_nil, Nat.reduceAdd, Nat.reduceLT, getElem?_pos, List.getElem_toArray, List.getElem_cons_zero, List.getElem_cons_succ] at n0
  have kS := kS.setOther (show w.heap.size ≠ w.heap.size + 1 + 1 by omega) 0 (.func (.func 178) #[] #[.pointer (some ⟨w.heap.size + 1 + 1, 0, none⟩)])
  have kR := kR.setOther (show w.heap.size + 1 ≠ w.heap.size + 1 + 1 by omega) 0 (.func (.func 178) #[] #[.pointer (some ⟨w.heap.size + 1 + 1, 0, none⟩)])
  have hB : Below w.heap.size w (V.setCell ⟨w.heap.size + 1 + 1, 0, none⟩ (.func (.func 178) #[] #[.pointer (some ⟨w.heap.size + 1 + 1, 0, none⟩)])) := hB.setCell (by dsimp only; omega) _
  have kF : (V.setCell ⟨w.heap.size + 1 + 1, 0, none⟩ (.func (.func 178) #[] #[.pointer (some ⟨w.heap.size + 1 + 1, 0, none⟩)])).cell? ⟨w.heap.size + 1 + 1, 0, none⟩ = some (.func (.func 178) #[] #[.pointer (some ⟨w.heap.size + 1 + 1, 0, none⟩)]) := by rw [(kN.set 0 _).cell]; rfl
  clear hV kN
  go_upto_region 3 with fail
  generalize hW : V.setCell _ _ = W at *
  have lF : w.heap.size + 1 + 1 < W.heap.size := by rw [← hW]; simpa using nl
  have HB := Lib.hid hB
  have HKR := Lib.hid kR
  have HF := Lib.hid kF
  have x0 := kR.cell 0
  have x1 := kR.cell 1
  have y0 := kR.frozen 0
  have y1 := kR.frozen 1
  have xl := kR.lt
  have s0 := kS.cell 0
  have s1 := kS.cell 1
  have ls := kS.lt
  simp only [List.size_toArray, List.length_cons, List.length_nil, Nat.reduceAdd, Nat.reduceLT, getElem?_pos, List.getElem_toArray, List.getElem_cons_zero, List.getElem_cons_succ] at s0 s1 x0 x1
  clear hW hB kS kR
  go_wp2_with (go_at_call 178; refine (after1_any _ r hr n h _ hn h0 h1 lF HF.out).mono ?_; rintro e w1 ⟨rfl, y2, rfl⟩)
  have kr := HKR.out.ext y2
  have r0 := kr.cell 0
  have r1 := kr.cell 1
  have f0 := kr.frozen 0
  have f1 := kr.frozen 1
  have lr := kr.lt
  simp only [List.size_toArray, List.length_cons, List.length_nil, Nat.reduceAdd, Nat.reduceLT, getElem?_pos, List.getElem_toArray, List.getElem_cons_zero, List.getElem_cons_succ] at r0 r1
  refine bodyPost_ret (v := .agg #[.int .i64 (afterH r n h), .int .i64 r]) (by simp [results, Tryz.results145, go_sem, r0, r1, lr]) rfl ⟨rfl, ext_of ?_⟩
  have hB2 := HB.out.trans ((below_ext W y2).mono HB.out.size)
  exact (hB2.setCell (by simp) _).setCell (by simp) _
end Go.Proofs.YtcaeohgbgeadaaaGreatDoor

