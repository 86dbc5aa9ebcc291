/- Package tide: what a seine can be at the ends of what is known of it. -/
import Derived.Test.YtcaeohgbgeadaaaGreatDoorQDu
set_option linter.unusedSimpArgs false
set_option linter.unusedVariables false
namespace Go.Proofs.YtcaeohgbgeadaaaGreatDoor
open Go Go.RowKit Go.Shelf
theorem key_net : Key2 Tryz.prog 141 :=
  Key2.of (I := 3) (Maps.Keyed.of_law (deep_law_gate (by kernel_rfl) (Nat.le_of_ble_eq_true (by kernel_rfl)) (Nat.le_of_ble_eq_true (by kernel_rfl)) (by kernel_rfl) (by kernel_rfl)))
    (Tryz.underlying141) rfl rfl rfl rfl (by kernel_rfl) (by kernel_rfl) (Tryz.underlying3) (by kernel_rfl) (by kernel_rfl) (by kernel_rfl) (m := Tryz.prog.types.size - 1) (by kernel_rfl)
abbrev NtAt (w : World) (M n : Nat) (l : List (Int × Int)) : Prop := MapAt Tryz.prog 141 w M n (setF l)
/-- What a seine can be at an end of what it holds, and at one of its rate. -/
def netL (h : Hl) (x y : Bool) : Int × Int := (endN x h.hl h.hh, endN y h.rl h.rh)
section
variable {o : Oper} {w : World} {g j t s : Nat} (ρ : Operand → Value)
theorem run_fEnd (hop : o.op = .fieldAddr 152 (.tmp t) 0) (hs : ρ (.tmp t) = .pointer (some ⟨g, 0, none⟩)) (hl : g < w.heap.size) : (execOp ρ o).run Tryz.prog w = .ok (.value (.pointer (some ⟨g, 0, none⟩))) w := by
  unfold execOp; simp [hop, hs, go_sem, hl]
theorem run_lEnd {x : Value} (hop : o.op = .load 150 (.tmp t)) (hs : ρ (.tmp t) = .pointer (some ⟨g, 0, none⟩)) (c0 : w.cell? ⟨g, 0, none⟩ = some x) : (execOp ρ o).run Tryz.prog w = .ok (.value x) w := by
  unfold execOp; simp [hop, hs, go_sem, c0]
theorem run_fHl0 (hop : o.op = .fieldAddr 87 (.tmp t) 0) (hs : ρ (.tmp t) = .pointer (some ⟨g, 0, none⟩)) (hl : g < w.heap.size) : (execOp ρ o).run Tryz.prog w = .ok (.value (.pointer (some ⟨g, 0, none⟩))) w := by
  unfold execOp; simp [hop, hs, go_sem, hl]
theorem run_fHl1 (hop : o.op = .fieldAddr 87 (.tmp t) 1) (hs : ρ (.tmp t) = .pointer (some ⟨g, 0, none⟩)) (hl : g < w.heap.size) : (execOp ρ o).run Tryz.prog w = .ok (.value (.pointer (some ⟨g, 9, none⟩))) w := by
  unfold execOp; simp [hop, hs, go_sem, hl]
theorem run_fHl2 (hop : o.op = .fieldAddr 87 (.tmp t) 2) (hs : ρ (.tmp t) = .pointer (some ⟨g, 0, none⟩)) (hl : g < w.heap.size) : (execOp ρ o).run Tryz.prog w = .ok (.value (.pointer (some ⟨g, 11, none⟩))) w := by
  unfold execOp; simp [hop, hs, go_sem, hl]
theorem run_bNet {x y : Value} (hop : o.op = .build 141 #[(0, .tmp t), (1, .tmp s)]) (h0 : ρ (.tmp t) = x) (h1 : ρ (.tmp s) = y) (hi : (∃ m, x = .int .i64 m) ∧ ∃ n, y = .int .i64 n) : (execOp ρ o).run Tryz.prog w = .ok (.value (.agg #[x, y])) w := by
  obtain ⟨⟨m, rfl⟩, ⟨n, rfl⟩⟩ := hi
  unfold execOp; simp [hop, h0, h1, go_sem]
end
theorem sargsv1 {a : Act} {s : Nat} {x : Value} (h1 : a.tmps.getD s undef = x) : #[] ++ (#[Operand.tmp s]).map a.eval ++ #[] = #[x] := by
  simp only [List.map_toArray, List.map_cons, List.map_nil, Act.eval, h1, List.append_toArray, List.nil_append, List.append_nil]
/-- What region 8's operations leave. -/
def netR (gH gA gB M : Nat) (fa fb : Nat) (h : Hl) (x y : Bool) (i : Nat) (v : Value) (_w : World) : Prop :=
  match i with
  | 0 => v = .map (some M)
  | 1 => v = .pointer (some ⟨gA, 0, none⟩)
  | 2 => v = .func (.func fa) #[] #[]
  | 3 => v = .pointer (some ⟨gH, 9, none⟩)
  | 4 => v = .agg #[.int .i64 h.hl, .int .i64 h.hh]
  | 5 => v = .int .i64 (endN x h.hl h.hh)
  | 6 => v = .pointer (some ⟨gB, 0, none⟩)
  | 7 => v = .func (.func fb) #[] #[]
  | 8 => v = .pointer (some ⟨gH, 11, none⟩)
  | 9 => v = .agg #[.int .i64 h.rl, .int .i64 h.rh]
  | 10 => v = .int .i64 (endN y h.rl h.rh)
  | 11 => v = .agg #[.int .i64 (endN x h.hl h.hh), .int .i64 (endN y h.rl h.rh)]
  | _ => True
theorem netR_kept (gH gA gB M : Nat) (fa fb : Nat) (h : Hl) (x y : Bool) : ∀ (i : Nat), i < 12 → ∀ (v : Value) (w w' : World), netR gH gA gB M fa fb h x y i v w → Below w.heap.size w w' → netR gH gA gB M fa fb h x y i v w' := by
  intro i hi v w w' h hb
  match i, hi with
  | 0, _ => exact h
  | 1, _ => exact h
  | 2, _ => exact h
  | 3, _ => exact h
  | 4, _ => exact h
  | 5, _ => exact h
  | 6, _ => exact h
  | 7, _ => exact h
  | 8, _ => exact h
  | 9, _ => exact h
  | 10, _ => exact h
  | 11, _ => exact h
  | k + 12, hk => omega
/-- Which pairs were put: of all first ends before one, and of so many second ends. -/
def NetIn (h : Hl) (l : List (Int × Int)) (a m : Nat) : Prop := ∀ z, z ∈ l ↔ ∃ i j : Nat, (i < a ∨ (i = a ∧ j < m)) ∧ j < 2 ∧ i < 2 ∧ z = netL h (i == 1) (j == 1)
theorem NetIn.nil (h : Hl) : NetIn h [] 0 0 := fun z => by
  constructor
  · intro h; cases h
  · rintro ⟨i, j, h1, -⟩; omega
theorem NetIn.put {h : Hl} {l : List (Int × Int)} {a m : Nat} (k : NetIn h l a m) (ha : a < 2) (hm : m < 2) : NetIn h (netL h (a == 1) (m == 1) :: l) a (m + 1) := fun z => by
  rw [List.mem_cons, k z]
  constructor
  · rintro (rfl | ⟨i, j, h1, h2⟩)
    · exact ⟨a, m, .inr ⟨rfl, by omega⟩, hm, ha, rfl⟩
    · exact ⟨i, j, by omega, h2⟩
  · rintro ⟨i, j, h1, h2, h3, rfl⟩
    by_cases e : i = a ∧ j = m
    · obtain ⟨rfl, rfl⟩ := e; exact .inl rfl
    · exact .inr ⟨i, j, by omega, h2, h3, rfl⟩
theorem NetIn.row {h : Hl} {l : List (Int × Int)} {a : Nat} (k : NetIn h l a 2) : NetIn h l (a + 1) 0 := fun z => by
  rw [k z]
  constructor
  · rintro ⟨i, j, h1, h2⟩; exact ⟨i, j, by omega, h2⟩
  · rintro ⟨i, j, h1, h2, h3⟩; exact ⟨i, j, by omega, h2, h3⟩
theorem NetIn.all {h : Hl} {l : List (Int × Int)} (k : NetIn h l 2 0) (z : Int × Int) : z ∈ l ↔ ∃ x y, z = netL h x y := by
  rw [k z]
  constructor
  · rintro ⟨i, j, -, -, -, rfl⟩; exact ⟨_, _, rfl⟩
  · rintro ⟨x, y, rfl⟩
    refine ⟨if x then 1 else 0, if y then 1 else 0, ?_, ?_, ?_, ?_⟩
    · cases x <;> simp
    · cases y <;> simp
    · cases x <;> simp
    · cases x <;> cases y <;> rfl
theorem idxE0 (w : World) : (Instr.index 189 (.agg #[.func (.func 160) #[] #[], .func (.func 196) #[] #[]]) (.int .i64 0)).run Tryz.prog w = .ok (.agg #[.func (.func 160) #[] #[]]) w := by
  simp [Instr.index, run_underlying (Tryz.underlying189), asIntOf, go_sem]
theorem idxE1 (w : World) : (Instr.index 189 (.agg #[.func (.func 160) #[] #[], .func (.func 196) #[] #[]]) (.int .i64 1)).run Tryz.prog w = .ok (.agg #[.func (.func 196) #[] #[]]) w := by
  simp [Instr.index, run_underlying (Tryz.underlying189), asIntOf, go_sem]
attribute [local go_sem] Oper.semAt_some frozen_alloc_lt
set_option maxRecDepth 100000 in
set_option maxHeartbeats 8000000 in
theorem nets_any (h : Hl) (p : Tp) (w : World) (hN : ∀ x y, InI (netL h x y).1 ∧ InI (netL h x y).2) :
    Calls Tryz.prog 150 #[hlv h p] w fun e w' => ∃ (M : Nat) (l : List (Int × Int)), e = .returned (.map (some M)) ∧ w.heap.size ≤ M ∧ NtAt w' M 4 l ∧ (∀ z, z ∈ l ↔ ∃ x y, z = netL h x y) ∧ Below w.heap.size w w' := by
  have HN := Lib.hid hN
  clear hN
  unfold hlv
  have hmm := @run_makeMap Tryz.prog
  go_enter Tryz.func150, Tryz.ntmps150
  go_upto_region 2 with fail
  clear hmm
  generalize hW : (w.alloc _).alloc _ = W
  have hB : Below w.heap.size w W := by rw [← hW]; (exact belA)
  have kH : Blk W w.heap.size 87 (hlcs h p) := by rw [← hW]; exact (Blk.new rfl).alloc _
  have kM : NtAt W (w.heap.size + 1) 0 [] := by
    rw [← hW]
    have := MapAt.new Tryz.prog 141 (w.alloc (.cells (hlcs h p) 87))
    rw [World.size_alloc] at this
    show MapAt _ _ _ _ _ (setF [])
    rw [setF_nil]; exact this
  have HB := Lib.hid hB
  have KH := Lib.hid kH
  have KM := Lib.hid kM
  clear hW hB kH kM
  have hgM : w.heap.size < w.heap.size + 1 := by omega
  generalize w.heap.size + 1 = gM at *
  go_upto_region 3 with (go_at_call 151; refine (bothEnds_any _).mono ?_; rintro e w1 ⟨rfl, y, rfl⟩)
  go_loopw [10] (fun i wr => ∃ (k n : Nat) (l : List (Int × Int)), k ≤ 2 ∧ n ≤ 2 * k ∧ i = .int .i64 k ∧ Hid (Below w.heap.size w wr) ∧ Hid (Blk wr w.heap.size 87 (hlcs h p)) ∧ Hid (NtAt wr gM n l) ∧ Hid (NetIn h l k 0)) (fun i _ => 2 - (intOf i).toNat)
  case atStart => exact ⟨0, 0, [], by omega, by omega, rfl, Lib.hid (HB.out.trans ((below_ext W y).mono HB.out.size)), Lib.hid (KH.out.ext y), Lib.hid (KM.out.below (below_ext W y)), Lib.hid (NetIn.nil h)⟩
  case round =>
    clear HB KH KM
    obtain ⟨k, n, l, hk, hn, rfl, HB, KH, KM, HI⟩ := hrel
    by_cases hlt : k < 2
    · have hk01 : k = 0 ∨ k = 1 := by omega
      rcases hk01 with rfl | rfl
      · have hx := idxE0
        go_upto_region 6 with (go_at_call 151; refine (bothEnds_any _).mono ?_; rintro e w1 ⟨rfl, y2, rfl⟩)
        clear hx
        have HBa := Lib.hid (HB.out.alloc HB.out.size (.cells #[.func (.func 160) #[] #[]] 152))
        have KHa := Lib.hid (KH.out.alloc (.cells #[.func (.func 160) #[] #[]] 152))
        have KMa := Lib.hid (KM.out.below ((Below.refl _ wr).alloc (Nat.le_refl _) (.cells #[.func (.func 160) #[] #[]] 152)))
        have KAa : Hid (Blk (wr.alloc (.cells #[.func (.func 160) #[] #[]] 152)) wr.heap.size 152 #[.func (.func 160) #[] #[]]) := Lib.hid (Blk.new rfl)
        have hgA : w.heap.size ≤ wr.heap.size := HB.out.size
        have hMA : gM ≠ wr.heap.size := by have := KM.out.lt; omega
        clear HB KH KM
        generalize wr.alloc _ = V at *
        generalize wr.heap.size = gA at *
        go_loopw [14] (fun i wr => ∃ (m n : Nat) (l : List (Int × Int)), m ≤ 2 ∧ n ≤ 2 * 0 + m ∧ i = .int .i64 m ∧ Hid (Below w.heap.size w wr) ∧ Hid (Blk wr w.heap.size 87 (hlcs h p)) ∧ Hid (Blk wr gA 152 #[.func (.func 160) #[] #[]]) ∧ Hid (NtAt wr gM n l) ∧ Hid (NetIn h l 0 m)) (fun i _ => 2 - (intOf i).toNat)
        case atStart => exact ⟨0, n, l, by omega, by omega, rfl, Lib.hid (HBa.out.trans ((below_ext V y2).mono HBa.out.size)), Lib.hid (KHa.out.ext y2), Lib.hid (KAa.out.ext y2), Lib.hid (KMa.out.below (below_ext V y2)), HI⟩
        case round =>
          clear HBa KHa KMa KAa HI hn hk
          obtain ⟨m, n, l, hm, hn, rfl, HB, KH, KA, KM, HI⟩ := hrel
          by_cases hlt2 : m < 2
          · have hm01 : m = 0 ∨ m = 1 := by omega
            rcases hm01 with rfl | rfl
            · have hx := idxE0
              go_upto_region 8 with fail
              clear hx
              have HBb := Lib.hid (HB.out.alloc HB.out.size (.cells #[.func (.func 160) #[] #[]] 152))
              have KHb := Lib.hid (KH.out.alloc (.cells #[.func (.func 160) #[] #[]] 152))
              have KAb := Lib.hid (KA.out.alloc (.cells #[.func (.func 160) #[] #[]] 152))
              have KMb := Lib.hid (KM.out.below ((Below.refl _ wr).alloc (Nat.le_refl _) (.cells #[.func (.func 160) #[] #[]] 152)))
              have KBb : Hid (Blk (wr.alloc (.cells #[.func (.func 160) #[] #[]] 152)) wr.heap.size 152 #[.func (.func 160) #[] #[]]) := Lib.hid (Blk.new rfl)
              have hz2 := HB.out.size
              have hMB : gM ≠ wr.heap.size := by have := KM.out.lt; omega
              have hAB : gA ≠ wr.heap.size := by have := KA.out.lt; omega
              clear HB KH KA KM
              generalize wr.alloc _ = V2 at *
              generalize wr.heap.size = gB at *
              refine wp_region_flow_back 12 32 (netR w.heap.size gA gB gM (160) (160) h false false) (by kernel_rfl) (by kernel_rfl) rfl (netR_kept _ _ _ _ _ _ _ _ _) ?_ ?_
              · intro i hin a2 X g1 g2 g3 g4 g5 KK hKK
                match i, hin with
                | 0, _ => exact st_move rfl rfl (wanted_none rfl) (g3 3 (by kernel_rfl)) (hKK _ _ rfl (Below.refl _ _))
                | 1, _ => exact st_val rfl (wanted_none rfl) (run_fEnd _ rfl (g3 5 (by kernel_rfl)) (KAb.out.bel g5).lt) (hKK _ _ rfl (Below.refl _ _))
                | 2, _ => exact st_val rfl (wanted_none rfl) (run_lEnd _ rfl (g4 1 (by kernel_rfl)) (((KAb.out.bel g5).cell 0).trans rfl)) (hKK _ _ rfl (Below.refl _ _))
                | 3, _ => exact st_val rfl (wanted_none rfl) (run_fHl1 _ rfl (g3 1 (by kernel_rfl)) (KHb.out.bel g5).lt) (hKK _ _ rfl (Below.refl _ _))
                | 4, _ => exact st_val rfl (wanted_none rfl) (run_lSpan _ rfl (g4 3 (by kernel_rfl)) (((KHb.out.bel g5).cell 9).trans rfl) (((KHb.out.bel g5).cell 10).trans rfl)) (hKK _ _ rfl (Below.refl _ _))
                | 5, _ =>
                  refine st_callv rfl rfl (wanted_none rfl) (g4 2 (by kernel_rfl)) (vs := #[.agg #[.int .i64 h.hl, .int .i64 h.hh]]) (sargsv1 (g4 4 (by kernel_rfl))) (run_enter Tryz.func160 (by kernel_rfl) (by kernel_rfl) _) ?_
                  refine (lowEnd1_any _ _ _).mono ?_
                  rintro e w1 ⟨rfl, y, rfl⟩
                  exact ⟨_, rfl, hKK _ _ rfl (below_ext _ _)⟩
                | 6, _ => exact st_val rfl (wanted_none rfl) (run_fEnd _ rfl (g3 7 (by kernel_rfl)) (KBb.out.bel g5).lt) (hKK _ _ rfl (Below.refl _ _))
                | 7, _ => exact st_val rfl (wanted_none rfl) (run_lEnd _ rfl (g4 6 (by kernel_rfl)) (((KBb.out.bel g5).cell 0).trans rfl)) (hKK _ _ rfl (Below.refl _ _))
                | 8, _ => exact st_val rfl (wanted_none rfl) (run_fHl2 _ rfl (g3 1 (by kernel_rfl)) (KHb.out.bel g5).lt) (hKK _ _ rfl (Below.refl _ _))
                | 9, _ => exact st_val rfl (wanted_none rfl) (run_lSpan _ rfl (g4 8 (by kernel_rfl)) (((KHb.out.bel g5).cell 11).trans rfl) (((KHb.out.bel g5).cell 12).trans rfl)) (hKK _ _ rfl (Below.refl _ _))
                | 10, _ =>
                  refine st_callv rfl rfl (wanted_none rfl) (g4 7 (by kernel_rfl)) (vs := #[.agg #[.int .i64 h.rl, .int .i64 h.rh]]) (sargsv1 (g4 9 (by kernel_rfl))) (run_enter Tryz.func160 (by kernel_rfl) (by kernel_rfl) _) ?_
                  refine (lowEnd1_any _ _ _).mono ?_
                  rintro e w1 ⟨rfl, y, rfl⟩
                  exact ⟨_, rfl, hKK _ _ rfl (below_ext _ _)⟩
                | 11, _ => exact st_val rfl (wanted_none rfl) (run_bNet _ rfl (g4 5 (by kernel_rfl)) (g4 10 (by kernel_rfl)) ⟨⟨_, rfl⟩, ⟨_, rfl⟩⟩) (hKK _ _ rfl (Below.refl _ _))
                | k + 12, hk => omega
              intro vs W2 hvs hBW
              have v0 : vs 0 = _ := hvs 0 (by omega)
              have v1 : vs 1 = _ := hvs 1 (by omega)
              have v2 : vs 2 = _ := hvs 2 (by omega)
              have v3 : vs 3 = _ := hvs 3 (by omega)
              have v4 : vs 4 = _ := hvs 4 (by omega)
              have v5 : vs 5 = _ := hvs 5 (by omega)
              have v6 : vs 6 = _ := hvs 6 (by omega)
              have v7 : vs 7 = _ := hvs 7 (by omega)
              have v8 : vs 8 = _ := hvs 8 (by omega)
              have v9 : vs 9 = _ := hvs 9 (by omega)
              have v10 : vs 10 = _ := hvs 10 (by omega)
              have v11 : vs 11 = _ := hvs 11 (by omega)
              simp only [putAll, v0, v1, v2, v3, v4, v5, v6, v7, v8, v9, v10, v11]
              clear v0 v1 v2 v3 v4 v5 v6 v7 v8 v9 v10 v11 hvs
              simp only [dstOf, Act.put, List.getElem?_toArray, List.getElem?_cons_zero, List.getElem?_cons_succ, Option.bind_some, Option.getD_some, List.setIfInBounds_toArray, List.set_cons_succ, List.set_cons_zero, List.drop_succ_cons, List.drop_zero]
              have hNN := HN.out false false
              obtain ⟨w3, hst3, hm3, hg3⟩ := (KMb.out.below hBW).store key_net Tryz.underlying187 (by unfold maxLen; omega) hNN.1 hNN.2 (.bool true)
              rw [setF_upd] at hm3
              have HM3 := Lib.hid hm3
              have HG3 := Lib.hid hg3
              have HBW := Lib.hid hBW
              unfold key2 netL at hst3
              simp only [endN, Bool.false_eq_true, if_false, if_true] at hst3 ⊢
              clear hm3 hg3 hNN hBW
              go_wp2_with fail
              have hP : PrivM (fun k => k = gM) V2 w3 := (PrivM.of_below HBW.out).trans (PrivM.of_grown HG3.out)
              refine ⟨⟨0 + 1, n + 1, _, by omega, by omega, rfl, Lib.hid ?_, Lib.hid ((hP.block _ KHb.out.lt (by omega)).trans KHb.out), Lib.hid ((hP.block _ KAb.out.lt (Ne.symm hMA)).trans KAb.out), Lib.hid HM3.out, Lib.hid (HI.out.put (by omega) (by omega))⟩, by simp [intOf]⟩
              have hs4 := HBb.out.size
              exact (HBb.out.trans (HBW.out.mono hs4)).trans (Below.of_grown1 HG3.out (by have := HBW.out.size; omega) (by omega))
            · have hx := idxE1
              go_upto_region 8 with fail
              clear hx
              have HBb := Lib.hid (HB.out.alloc HB.out.size (.cells #[.func (.func 196) #[] #[]] 152))
              have KHb := Lib.hid (KH.out.alloc (.cells #[.func (.func 196) #[] #[]] 152))
              have KAb := Lib.hid (KA.out.alloc (.cells #[.func (.func 196) #[] #[]] 152))
              have KMb := Lib.hid (KM.out.below ((Below.refl _ wr).alloc (Nat.le_refl _) (.cells #[.func (.func 196) #[] #[]] 152)))
              have KBb : Hid (Blk (wr.alloc (.cells #[.func (.func 196) #[] #[]] 152)) wr.heap.size 152 #[.func (.func 196) #[] #[]]) := Lib.hid (Blk.new rfl)
              have hz2 := HB.out.size
              have hMB : gM ≠ wr.heap.size := by have := KM.out.lt; omega
              have hAB : gA ≠ wr.heap.size := by have := KA.out.lt; omega
              clear HB KH KA KM
              generalize wr.alloc _ = V2 at *
              generalize wr.heap.size = gB at *
              refine wp_region_flow_back 12 32 (netR w.heap.size gA gB gM (160) (196) h false true) (by kernel_rfl) (by kernel_rfl) rfl (netR_kept _ _ _ _ _ _ _ _ _) ?_ ?_
              · intro i hin a2 X g1 g2 g3 g4 g5 KK hKK
                match i, hin with
                | 0, _ => exact st_move rfl rfl (wanted_none rfl) (g3 3 (by kernel_rfl)) (hKK _ _ rfl (Below.refl _ _))
                | 1, _ => exact st_val rfl (wanted_none rfl) (run_fEnd _ rfl (g3 5 (by kernel_rfl)) (KAb.out.bel g5).lt) (hKK _ _ rfl (Below.refl _ _))
                | 2, _ => exact st_val rfl (wanted_none rfl) (run_lEnd _ rfl (g4 1 (by kernel_rfl)) (((KAb.out.bel g5).cell 0).trans rfl)) (hKK _ _ rfl (Below.refl _ _))
                | 3, _ => exact st_val rfl (wanted_none rfl) (run_fHl1 _ rfl (g3 1 (by kernel_rfl)) (KHb.out.bel g5).lt) (hKK _ _ rfl (Below.refl _ _))
                | 4, _ => exact st_val rfl (wanted_none rfl) (run_lSpan _ rfl (g4 3 (by kernel_rfl)) (((KHb.out.bel g5).cell 9).trans rfl) (((KHb.out.bel g5).cell 10).trans rfl)) (hKK _ _ rfl (Below.refl _ _))
                | 5, _ =>
                  refine st_callv rfl rfl (wanted_none rfl) (g4 2 (by kernel_rfl)) (vs := #[.agg #[.int .i64 h.hl, .int .i64 h.hh]]) (sargsv1 (g4 4 (by kernel_rfl))) (run_enter Tryz.func160 (by kernel_rfl) (by kernel_rfl) _) ?_
                  refine (lowEnd1_any _ _ _).mono ?_
                  rintro e w1 ⟨rfl, y, rfl⟩
                  exact ⟨_, rfl, hKK _ _ rfl (below_ext _ _)⟩
                | 6, _ => exact st_val rfl (wanted_none rfl) (run_fEnd _ rfl (g3 7 (by kernel_rfl)) (KBb.out.bel g5).lt) (hKK _ _ rfl (Below.refl _ _))
                | 7, _ => exact st_val rfl (wanted_none rfl) (run_lEnd _ rfl (g4 6 (by kernel_rfl)) (((KBb.out.bel g5).cell 0).trans rfl)) (hKK _ _ rfl (Below.refl _ _))
                | 8, _ => exact st_val rfl (wanted_none rfl) (run_fHl2 _ rfl (g3 1 (by kernel_rfl)) (KHb.out.bel g5).lt) (hKK _ _ rfl (Below.refl _ _))
                | 9, _ => exact st_val rfl (wanted_none rfl) (run_lSpan _ rfl (g4 8 (by kernel_rfl)) (((KHb.out.bel g5).cell 11).trans rfl) (((KHb.out.bel g5).cell 12).trans rfl)) (hKK _ _ rfl (Below.refl _ _))
                | 10, _ =>
                  refine st_callv rfl rfl (wanted_none rfl) (g4 7 (by kernel_rfl)) (vs := #[.agg #[.int .i64 h.rl, .int .i64 h.rh]]) (sargsv1 (g4 9 (by kernel_rfl))) (run_enter Tryz.func196 (by kernel_rfl) (by kernel_rfl) _) ?_
                  refine (highEnd1_any _ _ _).mono ?_
                  rintro e w1 ⟨rfl, y, rfl⟩
                  exact ⟨_, rfl, hKK _ _ rfl (below_ext _ _)⟩
                | 11, _ => exact st_val rfl (wanted_none rfl) (run_bNet _ rfl (g4 5 (by kernel_rfl)) (g4 10 (by kernel_rfl)) ⟨⟨_, rfl⟩, ⟨_, rfl⟩⟩) (hKK _ _ rfl (Below.refl _ _))
                | k + 12, hk => omega
              intro vs W2 hvs hBW
              have v0 : vs 0 = _ := hvs 0 (by omega)
              have v1 : vs 1 = _ := hvs 1 (by omega)
              have v2 : vs 2 = _ := hvs 2 (by omega)
              have v3 : vs 3 = _ := hvs 3 (by omega)
              have v4 : vs 4 = _ := hvs 4 (by omega)
              have v5 : vs 5 = _ := hvs 5 (by omega)
              have v6 : vs 6 = _ := hvs 6 (by omega)
              have v7 : vs 7 = _ := hvs 7 (by omega)
              have v8 : vs 8 = _ := hvs 8 (by omega)
              have v9 : vs 9 = _ := hvs 9 (by omega)
              have v10 : vs 10 = _ := hvs 10 (by omega)
              have v11 : vs 11 = _ := hvs 11 (by omega)
              simp only [putAll, v0, v1, v2, v3, v4, v5, v6, v7, v8, v9, v10, v11]
              clear v0 v1 v2 v3 v4 v5 v6 v7 v8 v9 v10 v11 hvs
              simp only [dstOf, Act.put, List.getElem?_toArray, List.getElem?_cons_zero, List.getElem?_cons_succ, Option.bind_some, Option.getD_some, List.setIfInBounds_toArray, List.set_cons_succ, List.set_cons_zero, List.drop_succ_cons, List.drop_zero]
              have hNN := HN.out false true
              obtain ⟨w3, hst3, hm3, hg3⟩ := (KMb.out.below hBW).store key_net Tryz.underlying187 (by unfold maxLen; omega) hNN.1 hNN.2 (.bool true)
              rw [setF_upd] at hm3
              have HM3 := Lib.hid hm3
              have HG3 := Lib.hid hg3
              have HBW := Lib.hid hBW
              unfold key2 netL at hst3
              simp only [endN, Bool.false_eq_true, if_false, if_true] at hst3 ⊢
              clear hm3 hg3 hNN hBW
              go_wp2_with fail
              have hP : PrivM (fun k => k = gM) V2 w3 := (PrivM.of_below HBW.out).trans (PrivM.of_grown HG3.out)
              refine ⟨⟨1 + 1, n + 1, _, by omega, by omega, rfl, Lib.hid ?_, Lib.hid ((hP.block _ KHb.out.lt (by omega)).trans KHb.out), Lib.hid ((hP.block _ KAb.out.lt (Ne.symm hMA)).trans KAb.out), Lib.hid HM3.out, Lib.hid (HI.out.put (by omega) (by omega))⟩, by simp [intOf]⟩
              have hs4 := HBb.out.size
              exact (HBb.out.trans (HBW.out.mono hs4)).trans (Below.of_grown1 HG3.out (by have := HBW.out.size; omega) (by omega))
          · obtain rfl : m = 2 := by omega
            go_wp2_with fail
            exact ⟨⟨0 + 1, n, l, by omega, by omega, rfl, HB, KH, KM, Lib.hid HI.out.row⟩, by simp [intOf]⟩
      · have hx := idxE1
        go_upto_region 6 with (go_at_call 151; refine (bothEnds_any _).mono ?_; rintro e w1 ⟨rfl, y2, rfl⟩)
        clear hx
        have HBa := Lib.hid (HB.out.alloc HB.out.size (.cells #[.func (.func 196) #[] #[]] 152))
        have KHa := Lib.hid (KH.out.alloc (.cells #[.func (.func 196) #[] #[]] 152))
        have KMa := Lib.hid (KM.out.below ((Below.refl _ wr).alloc (Nat.le_refl _) (.cells #[.func (.func 196) #[] #[]] 152)))
        have KAa : Hid (Blk (wr.alloc (.cells #[.func (.func 196) #[] #[]] 152)) wr.heap.size 152 #[.func (.func 196) #[] #[]]) := Lib.hid (Blk.new rfl)
        have hgA : w.heap.size ≤ wr.heap.size := HB.out.size
        have hMA : gM ≠ wr.heap.size := by have := KM.out.lt; omega
        clear HB KH KM
        generalize wr.alloc _ = V at *
        generalize wr.heap.size = gA at *
        go_loopw [14] (fun i wr => ∃ (m n : Nat) (l : List (Int × Int)), m ≤ 2 ∧ n ≤ 2 * 1 + m ∧ i = .int .i64 m ∧ Hid (Below w.heap.size w wr) ∧ Hid (Blk wr w.heap.size 87 (hlcs h p)) ∧ Hid (Blk wr gA 152 #[.func (.func 196) #[] #[]]) ∧ Hid (NtAt wr gM n l) ∧ Hid (NetIn h l 1 m)) (fun i _ => 2 - (intOf i).toNat)
        case atStart => exact ⟨0, n, l, by omega, by omega, rfl, Lib.hid (HBa.out.trans ((below_ext V y2).mono HBa.out.size)), Lib.hid (KHa.out.ext y2), Lib.hid (KAa.out.ext y2), Lib.hid (KMa.out.below (below_ext V y2)), HI⟩
        case round =>
          clear HBa KHa KMa KAa HI hn hk
          obtain ⟨m, n, l, hm, hn, rfl, HB, KH, KA, KM, HI⟩ := hrel
          by_cases hlt2 : m < 2
          · have hm01 : m = 0 ∨ m = 1 := by omega
            rcases hm01 with rfl | rfl
            · have hx := idxE0
              go_upto_region 8 with fail
              clear hx
              have HBb := Lib.hid (HB.out.alloc HB.out.size (.cells #[.func (.func 160) #[] #[]] 152))
              have KHb := Lib.hid (KH.out.alloc (.cells #[.func (.func 160) #[] #[]] 152))
              have KAb := Lib.hid (KA.out.alloc (.cells #[.func (.func 160) #[] #[]] 152))
              have KMb := Lib.hid (KM.out.below ((Below.refl _ wr).alloc (Nat.le_refl _) (.cells #[.func (.func 160) #[] #[]] 152)))
              have KBb : Hid (Blk (wr.alloc (.cells #[.func (.func 160) #[] #[]] 152)) wr.heap.size 152 #[.func (.func 160) #[] #[]]) := Lib.hid (Blk.new rfl)
              have hz2 := HB.out.size
              have hMB : gM ≠ wr.heap.size := by have := KM.out.lt; omega
              have hAB : gA ≠ wr.heap.size := by have := KA.out.lt; omega
              clear HB KH KA KM
              generalize wr.alloc _ = V2 at *
              generalize wr.heap.size = gB at *
              refine wp_region_flow_back 12 32 (netR w.heap.size gA gB gM (196) (160) h true false) (by kernel_rfl) (by kernel_rfl) rfl (netR_kept _ _ _ _ _ _ _ _ _) ?_ ?_
              · intro i hin a2 X g1 g2 g3 g4 g5 KK hKK
                match i, hin with
                | 0, _ => exact st_move rfl rfl (wanted_none rfl) (g3 3 (by kernel_rfl)) (hKK _ _ rfl (Below.refl _ _))
                | 1, _ => exact st_val rfl (wanted_none rfl) (run_fEnd _ rfl (g3 5 (by kernel_rfl)) (KAb.out.bel g5).lt) (hKK _ _ rfl (Below.refl _ _))
                | 2, _ => exact st_val rfl (wanted_none rfl) (run_lEnd _ rfl (g4 1 (by kernel_rfl)) (((KAb.out.bel g5).cell 0).trans rfl)) (hKK _ _ rfl (Below.refl _ _))
                | 3, _ => exact st_val rfl (wanted_none rfl) (run_fHl1 _ rfl (g3 1 (by kernel_rfl)) (KHb.out.bel g5).lt) (hKK _ _ rfl (Below.refl _ _))
                | 4, _ => exact st_val rfl (wanted_none rfl) (run_lSpan _ rfl (g4 3 (by kernel_rfl)) (((KHb.out.bel g5).cell 9).trans rfl) (((KHb.out.bel g5).cell 10).trans rfl)) (hKK _ _ rfl (Below.refl _ _))
                | 5, _ =>
                  refine st_callv rfl rfl (wanted_none rfl) (g4 2 (by kernel_rfl)) (vs := #[.agg #[.int .i64 h.hl, .int .i64 h.hh]]) (sargsv1 (g4 4 (by kernel_rfl))) (run_enter Tryz.func196 (by kernel_rfl) (by kernel_rfl) _) ?_
                  refine (highEnd1_any _ _ _).mono ?_
                  rintro e w1 ⟨rfl, y, rfl⟩
                  exact ⟨_, rfl, hKK _ _ rfl (below_ext _ _)⟩
                | 6, _ => exact st_val rfl (wanted_none rfl) (run_fEnd _ rfl (g3 7 (by kernel_rfl)) (KBb.out.bel g5).lt) (hKK _ _ rfl (Below.refl _ _))
                | 7, _ => exact st_val rfl (wanted_none rfl) (run_lEnd _ rfl (g4 6 (by kernel_rfl)) (((KBb.out.bel g5).cell 0).trans rfl)) (hKK _ _ rfl (Below.refl _ _))
                | 8, _ => exact st_val rfl (wanted_none rfl) (run_fHl2 _ rfl (g3 1 (by kernel_rfl)) (KHb.out.bel g5).lt) (hKK _ _ rfl (Below.refl _ _))
                | 9, _ => exact st_val rfl (wanted_none rfl) (run_lSpan _ rfl (g4 8 (by kernel_rfl)) (((KHb.out.bel g5).cell 11).trans rfl) (((KHb.out.bel g5).cell 12).trans rfl)) (hKK _ _ rfl (Below.refl _ _))
                | 10, _ =>
                  refine st_callv rfl rfl (wanted_none rfl) (g4 7 (by kernel_rfl)) (vs := #[.agg #[.int .i64 h.rl, .int .i64 h.rh]]) (sargsv1 (g4 9 (by kernel_rfl))) (run_enter Tryz.func160 (by kernel_rfl) (by kernel_rfl) _) ?_
                  refine (lowEnd1_any _ _ _).mono ?_
                  rintro e w1 ⟨rfl, y, rfl⟩
                  exact ⟨_, rfl, hKK _ _ rfl (below_ext _ _)⟩
                | 11, _ => exact st_val rfl (wanted_none rfl) (run_bNet _ rfl (g4 5 (by kernel_rfl)) (g4 10 (by kernel_rfl)) ⟨⟨_, rfl⟩, ⟨_, rfl⟩⟩) (hKK _ _ rfl (Below.refl _ _))
                | k + 12, hk => omega
              intro vs W2 hvs hBW
              have v0 : vs 0 = _ := hvs 0 (by omega)
              have v1 : vs 1 = _ := hvs 1 (by omega)
              have v2 : vs 2 = _ := hvs 2 (by omega)
              have v3 : vs 3 = _ := hvs 3 (by omega)
              have v4 : vs 4 = _ := hvs 4 (by omega)
              have v5 : vs 5 = _ := hvs 5 (by omega)
              have v6 : vs 6 = _ := hvs 6 (by omega)
              have v7 : vs 7 = _ := hvs 7 (by omega)
              have v8 : vs 8 = _ := hvs 8 (by omega)
              have v9 : vs 9 = _ := hvs 9 (by omega)
              have v10 : vs 10 = _ := hvs 10 (by omega)
              have v11 : vs 11 = _ := hvs 11 (by omega)
              simp only [putAll, v0, v1, v2, v3, v4, v5, v6, v7, v8, v9, v10, v11]
              clear v0 v1 v2 v3 v4 v5 v6 v7 v8 v9 v10 v11 hvs
              simp only [dstOf, Act.put, List.getElem?_toArray, List.getElem?_cons_zero, List.getElem?_cons_succ, Option.bind_some, Option.getD_some, List.setIfInBounds_toArray, List.set_cons_succ, List.set_cons_zero, List.drop_succ_cons, List.drop_zero]
              have hNN := HN.out true false
              obtain ⟨w3, hst3, hm3, hg3⟩ := (KMb.out.below hBW).store key_net Tryz.underlying187 (by unfold maxLen; omega) hNN.1 hNN.2 (.bool true)
              rw [setF_upd] at hm3
              have HM3 := Lib.hid hm3
              have HG3 := Lib.hid hg3
              have HBW := Lib.hid hBW
              unfold key2 netL at hst3
              simp only [endN, Bool.false_eq_true, if_false, if_true] at hst3 ⊢
              clear hm3 hg3 hNN hBW
              go_wp2_with fail
              have hP : PrivM (fun k => k = gM) V2 w3 := (PrivM.of_below HBW.out).trans (PrivM.of_grown HG3.out)
              refine ⟨⟨0 + 1, n + 1, _, by omega, by omega, rfl, Lib.hid ?_, Lib.hid ((hP.block _ KHb.out.lt (by omega)).trans KHb.out), Lib.hid ((hP.block _ KAb.out.lt (Ne.symm hMA)).trans KAb.out), Lib.hid HM3.out, Lib.hid (HI.out.put (by omega) (by omega))⟩, by simp [intOf]⟩
              have hs4 := HBb.out.size
              exact (HBb.out.trans (HBW.out.mono hs4)).trans (Below.of_grown1 HG3.out (by have := HBW.out.size; omega) (by omega))
            · have hx := idxE1
              go_upto_region 8 with fail
              clear hx
              have HBb := Lib.hid (HB.out.alloc HB.out.size (.cells #[.func (.func 196) #[] #[]] 152))
              have KHb := Lib.hid (KH.out.alloc (.cells #[.func (.func 196) #[] #[]] 152))
              have KAb := Lib.hid (KA.out.alloc (.cells #[.func (.func 196) #[] #[]] 152))
              have KMb := Lib.hid (KM.out.below ((Below.refl _ wr).alloc (Nat.le_refl _) (.cells #[.func (.func 196) #[] #[]] 152)))
              have KBb : Hid (Blk (wr.alloc (.cells #[.func (.func 196) #[] #[]] 152)) wr.heap.size 152 #[.func (.func 196) #[] #[]]) := Lib.hid (Blk.new rfl)
              have hz2 := HB.out.size
              have hMB : gM ≠ wr.heap.size := by have := KM.out.lt; omega
              have hAB : gA ≠ wr.heap.size := by have := KA.out.lt; omega
              clear HB KH KA KM
              generalize wr.alloc _ = V2 at *
              generalize wr.heap.size = gB at *
              refine wp_region_flow_back 12 32 (netR w.heap.size gA gB gM (196) (196) h true true) (by kernel_rfl) (by kernel_rfl) rfl (netR_kept _ _ _ _ _ _ _ _ _) ?_ ?_
              · intro i hin a2 X g1 g2 g3 g4 g5 KK hKK
                match i, hin with
                | 0, _ => exact st_move rfl rfl (wanted_none rfl) (g3 3 (by kernel_rfl)) (hKK _ _ rfl (Below.refl _ _))
                | 1, _ => exact st_val rfl (wanted_none rfl) (run_fEnd _ rfl (g3 5 (by kernel_rfl)) (KAb.out.bel g5).lt) (hKK _ _ rfl (Below.refl _ _))
                | 2, _ => exact st_val rfl (wanted_none rfl) (run_lEnd _ rfl (g4 1 (by kernel_rfl)) (((KAb.out.bel g5).cell 0).trans rfl)) (hKK _ _ rfl (Below.refl _ _))
                | 3, _ => exact st_val rfl (wanted_none rfl) (run_fHl1 _ rfl (g3 1 (by kernel_rfl)) (KHb.out.bel g5).lt) (hKK _ _ rfl (Below.refl _ _))
                | 4, _ => exact st_val rfl (wanted_none rfl) (run_lSpan _ rfl (g4 3 (by kernel_rfl)) (((KHb.out.bel g5).cell 9).trans rfl) (((KHb.out.bel g5).cell 10).trans rfl)) (hKK _ _ rfl (Below.refl _ _))
                | 5, _ =>
                  refine st_callv rfl rfl (wanted_none rfl) (g4 2 (by kernel_rfl)) (vs := #[.agg #[.int .i64 h.hl, .int .i64 h.hh]]) (sargsv1 (g4 4 (by kernel_rfl))) (run_enter Tryz.func196 (by kernel_rfl) (by kernel_rfl) _) ?_
                  refine (highEnd1_any _ _ _).mono ?_
                  rintro e w1 ⟨rfl, y, rfl⟩
                  exact ⟨_, rfl, hKK _ _ rfl (below_ext _ _)⟩
                | 6, _ => exact st_val rfl (wanted_none rfl) (run_fEnd _ rfl (g3 7 (by kernel_rfl)) (KBb.out.bel g5).lt) (hKK _ _ rfl (Below.refl _ _))
                | 7, _ => exact st_val rfl (wanted_none rfl) (run_lEnd _ rfl (g4 6 (by kernel_rfl)) (((KBb.out.bel g5).cell 0).trans rfl)) (hKK _ _ rfl (Below.refl _ _))
                | 8, _ => exact st_val rfl (wanted_none rfl) (run_fHl2 _ rfl (g3 1 (by kernel_rfl)) (KHb.out.bel g5).lt) (hKK _ _ rfl (Below.refl _ _))
                | 9, _ => exact st_val rfl (wanted_none rfl) (run_lSpan _ rfl (g4 8 (by kernel_rfl)) (((KHb.out.bel g5).cell 11).trans rfl) (((KHb.out.bel g5).cell 12).trans rfl)) (hKK _ _ rfl (Below.refl _ _))
                | 10, _ =>
                  refine st_callv rfl rfl (wanted_none rfl) (g4 7 (by kernel_rfl)) (vs := #[.agg #[.int .i64 h.rl, .int .i64 h.rh]]) (sargsv1 (g4 9 (by kernel_rfl))) (run_enter Tryz.func196 (by kernel_rfl) (by kernel_rfl) _) ?_
                  refine (highEnd1_any _ _ _).mono ?_
                  rintro e w1 ⟨rfl, y, rfl⟩
                  exact ⟨_, rfl, hKK _ _ rfl (below_ext _ _)⟩
                | 11, _ => exact st_val rfl (wanted_none rfl) (run_bNet _ rfl (g4 5 (by kernel_rfl)) (g4 10 (by kernel_rfl)) ⟨⟨_, rfl⟩, ⟨_, rfl⟩⟩) (hKK _ _ rfl (Below.refl _ _))
                | k + 12, hk => omega
              intro vs W2 hvs hBW
              have v0 : vs 0 = _ := hvs 0 (by omega)
              have v1 : vs 1 = _ := hvs 1 (by omega)
              have v2 : vs 2 = _ := hvs 2 (by omega)
              have v3 : vs 3 = _ := hvs 3 (by omega)
              have v4 : vs 4 = _ := hvs 4 (by omega)
              have v5 : vs 5 = _ := hvs 5 (by omega)
              have v6 : vs 6 = _ := hvs 6 (by omega)
              have v7 : vs 7 = _ := hvs 7 (by omega)
              have v8 : vs 8 = _ := hvs 8 (by omega)
              have v9 : vs 9 = _ := hvs 9 (by omega)
              have v10 : vs 10 = _ := hvs 10 (by omega)
              have v11 : vs 11 = _ := hvs 11 (by omega)
              simp only [putAll, v0, v1, v2, v3, v4, v5, v6, v7, v8, v9, v10, v11]
              clear v0 v1 v2 v3 v4 v5 v6 v7 v8 v9 v10 v11 hvs
              simp only [dstOf, Act.put, List.getElem?_toArray, List.getElem?_cons_zero, List.getElem?_cons_succ, Option.bind_some, Option.getD_some, List.setIfInBounds_toArray, List.set_cons_succ, List.set_cons_zero, List.drop_succ_cons, List.drop_zero]
              have hNN := HN.out true true
              obtain ⟨w3, hst3, hm3, hg3⟩ := (KMb.out.below hBW).store key_net Tryz.underlying187 (by unfold maxLen; omega) hNN.1 hNN.2 (.bool true)
              rw [setF_upd] at hm3
              have HM3 := Lib.hid hm3
              have HG3 := Lib.hid hg3
              have HBW := Lib.hid hBW
              unfold key2 netL at hst3
              simp only [endN, Bool.false_eq_true, if_false, if_true] at hst3 ⊢
              clear hm3 hg3 hNN hBW
              go_wp2_with fail
              have hP : PrivM (fun k => k = gM) V2 w3 := (PrivM.of_below HBW.out).trans (PrivM.of_grown HG3.out)
              refine ⟨⟨1 + 1, n + 1, _, by omega, by omega, rfl, Lib.hid ?_, Lib.hid ((hP.block _ KHb.out.lt (by omega)).trans KHb.out), Lib.hid ((hP.block _ KAb.out.lt (Ne.symm hMA)).trans KAb.out), Lib.hid HM3.out, Lib.hid (HI.out.put (by omega) (by omega))⟩, by simp [intOf]⟩
              have hs4 := HBb.out.size
              exact (HBb.out.trans (HBW.out.mono hs4)).trans (Below.of_grown1 HG3.out (by have := HBW.out.size; omega) (by omega))
          · obtain rfl : m = 2 := by omega
            go_wp2_with fail
            exact ⟨⟨1 + 1, n, l, by omega, by omega, rfl, HB, KH, KM, Lib.hid HI.out.row⟩, by simp [intOf]⟩
    · obtain rfl : k = 2 := by omega
      go_wp2_with fail
      go_ret
      exact ⟨gM, l, rfl, by omega, KM.out.mono (by omega), HI.out.all, HB.out⟩
end Go.Proofs.YtcaeohgbgeadaaaGreatDoor

