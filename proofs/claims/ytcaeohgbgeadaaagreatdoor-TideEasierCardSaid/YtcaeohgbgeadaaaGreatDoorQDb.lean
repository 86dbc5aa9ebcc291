/- Package tide: the least of several numbers; what a net loses. Cut out of Sc by hand. -/
/- Package tide: what a net is when some hours have passed. -/
import Derived.Test.YtcaeohgbgeadaaaGreatDoorQDa
import Derived.Test.YtcaeohgbgeadaaaGreatDoorQSc
set_option linter.unusedSimpArgs false
set_option linter.unusedVariables false
namespace Go.Proofs.YtcaeohgbgeadaaaGreatDoor
open Go Go.RowKit
attribute [local go_sem] Oper.semAt_some frozen_alloc_lt
set_option maxHeartbeats 1000000 in
theorem least_anyT (a : Int) (p : Option Addr) (c : Nat) (l : List Int) (w : World) (hl : IntsAt w p l) (hb : l.length ≤ 1000) :
    Calls Tryz.prog 117 #[.int .i64 a, .slice p l.length c] w fun e w' => e = .returned (.int .i64 (leastL a l)) ∧ ∃ x, w' = ext w x := by
  go_enter Tryz.func117, Tryz.ntmps117
  go_wp2_with fail
  go_loopw [0, 9] (fun x i wr => ∃ (k : Nat) (v : Int), k ≤ l.length ∧ i = .int .i64 k ∧ x = .int .i64 v ∧ Hid (leastL a (l.take k) = v) ∧ ∃ x, wr = ext w x) (fun _ i _ => l.length - (intOf i).toNat)
  case atStart => exact ⟨0, a, by omega, rfl, rfl, Lib.hid rfl, ext_of (Below.refl _ _)⟩
  case round =>
    obtain ⟨k, v, hk, rfl, rfl, H, x, rfl⟩ := hrel
    by_cases hlt : k < l.length
    · obtain ⟨t, ht⟩ := get_some l k hlt
      obtain ⟨b, o, rfl, hb', c1⟩ := hl.ext x k _ ht
      have HS := Lib.hid (show leastL a (l.take (k + 1)) = if t < v then t else v by rw [List.take_add_one, ht, Option.toList_some, leastL_snoc, H.out])
      have k0 : (0 : Int) ≤ (k : Int) := by omega
      have k1 : (k : Int) < (l.length : Int) := by omega
      have HW := Lib.hid (wrap_num k (by omega))
      clear ht
      by_cases hm : t < v
      · have HZ := Lib.hid (show leastL a (l.take (k + 1)) = t by rw [HS.out, if_pos hm])
        have hm' : decide (t < v) = true := by simpa using hm
        clear HS
        go_wp2_with fail
        try rw [HW.out]
        exact ⟨⟨k + 1, t, hlt, rfl, rfl, HZ, by (exact ext_of (by (exact belA)))⟩, less_num _ k hlt⟩
      · have HZ := Lib.hid (show leastL a (l.take (k + 1)) = v by rw [HS.out, if_neg hm])
        have hm' : decide (t < v) = false := by simpa using hm
        clear HS
        go_wp2_with fail
        try rw [HW.out]
        exact ⟨⟨k + 1, v, hlt, rfl, rfl, HZ, by (exact ext_of (by (exact belA)))⟩, less_num _ k hlt⟩
    · obtain rfl : k = l.length := by omega
      have HZ := Lib.hid (show leastL a l = v by rw [← H.out, List.take_length])
      go_wp2_with fail
      go_ret
      exact ⟨by rw [HZ.out]; rfl, by (exact ext_of (by (exact belA)))⟩
theorem least_oneT (a y : Int) (g : Nat) (w : World) (k : Blk w g 3 #[.int .i64 y]) :
    Calls Tryz.prog 117 #[.int .i64 a, .slice (some ⟨g, 0, none⟩) 1 1] w fun e w' => e = .returned (.int .i64 (min a y)) ∧ ∃ x, w' = ext w x := by
  rw [← leastL_one]
  exact least_anyT a _ 1 [y] w (ints_one k) (by simp)
/-- What the operations of less leave. -/
def lessRT (g : Nat) (h m : Int) (i : Nat) (v : Value) (w : World) : Prop :=
  match i with
  | 0 => v = .pointer (some ⟨g, 0, none⟩)
  | 1 => v = .int .i64 h
  | 2 => v = .pointer (some ⟨g, 0, none⟩)
  | 3 => v = .int .i64 h
  | 4 => v = .int .i64 m
  | 5 => ∃ q : Nat, v = .slice (some ⟨q, 0, none⟩) 1 1 ∧ Blk w q 3 #[.int .i64 m]
  | 6 => v = .int .i64 (min h m)
  | 7 => v = .int .i64 (h - min h m)
  | 8 => v = .pointer (some ⟨g, 0, none⟩)
  | _ => True
theorem lessR_keptT (g : Nat) (h m : Int) : ∀ (i : Nat), i < 9 → ∀ (v : Value) (w w' : World), lessRT g h m i v w → Below w.heap.size w w' → lessRT g h m i v w' := by
  intro i hi v w w' h hb
  match i, hi with
  | 0, _ => exact h
  | 1, _ => exact h
  | 2, _ => exact h
  | 3, _ => exact h
  | 4, _ => exact h
  | 5, _ => obtain ⟨q, h1, h2⟩ := h; exact ⟨q, h1, h2.bel hb⟩
  | 6, _ => exact h
  | 7, _ => exact h
  | 8, _ => exact h
  | k + 9, hk => omega
theorem run_heldT {o : Oper} {w : World} {g s : Nat} (ρ : Operand → Value) (hop : o.op = .fieldAddr 141 (.tmp s) 0) (hs : ρ (.tmp s) = .pointer (some ⟨g, 0, none⟩)) (hl : g < w.heap.size) :
    (execOp ρ o).run Tryz.prog w = .ok (.value (.pointer (some ⟨g, 0, none⟩))) w := by
  unfold execOp
  simp [hop, hs, go_sem, hl]
theorem run_subT {o : Oper} {w : World} {s t : Nat} {x y : Int} (ρ : Operand → Value) (hop : o.op = .binOp .sub 3 (.tmp s) (.tmp t) 3) (hs : ρ (.tmp s) = .int .i64 x) (ht : ρ (.tmp t) = .int .i64 y) (hb : -9223372036854775808 ≤ x - y ∧ x - y < 9223372036854775808) :
    (execOp ρ o).run Tryz.prog w = .ok (.value (.int .i64 (x - y))) w := by
  have hw : IntKind.i64.wrap (x - y) = x - y := by simp only [IntKind.wrap, IntKind.bits, IntKind.signed]; simp; omega
  unfold execOp
  simp [hop, hs, ht, go_sem, hw]
set_option maxHeartbeats 1000000 in
theorem less_anyT (h r m : Int) (w : World) (h0 : 0 ≤ h ∧ h ≤ 100000) (m0 : 0 ≤ m ∧ m ≤ 100000) : Calls Tryz.prog 153 #[.agg #[.int .i64 h, .int .i64 r], .int .i64 m] w fun e w' => e = .returned (.agg #[.int .i64 (h - min h m), .int .i64 r]) ∧ ∃ x, w' = ext w x := by
  go_enter Tryz.func153, Tryz.ntmps153
  go_upto_region 1 with fail
  generalize hW : (w.alloc _).alloc _ = W
  have hB : Below w.heap.size w W := by rw [← hW]; (exact belA)
  have kS : Blk W w.heap.size 141 #[.int .i64 h, .int .i64 r] := by rw [← hW]; exact (Blk.new rfl).alloc _
  have kR : Blk W (w.heap.size + 1) 141 #[.int .i64 0, .int .i64 0] := by rw [← hW]; exact Blk.new (by simp)
  have KS := Lib.hid kS
  have KR := Lib.hid kR
  have HB := Lib.hid hB
  clear hW kS kR hB
  refine wp_region_flow_back 9 15 (lessRT w.heap.size h m) (by kernel_rfl) (by kernel_rfl) rfl (lessR_keptT _ _ _) ?_ ?_
  · intro i hin a X g1 g2 g3 g4 g5 KK hKK
    match i, hin with
    | 0, _ => exact st_val rfl (wanted_none rfl) (run_heldT _ rfl (g3 2 (by kernel_rfl)) (KS.out.bel g5).lt) (hKK _ _ rfl (Below.refl _ _))
    | 1, _ => exact st_val rfl (wanted_none rfl) (run_num _ rfl (g4 0 (by kernel_rfl)) (((KS.out.bel g5).cell 0).trans rfl)) (hKK _ _ rfl (Below.refl _ _))
    | 2, _ => exact st_val rfl (wanted_none rfl) (run_heldT _ rfl (g3 2 (by kernel_rfl)) (KS.out.bel g5).lt) (hKK _ _ rfl (Below.refl _ _))
    | 3, _ => exact st_val rfl (wanted_none rfl) (run_num _ rfl (g4 2 (by kernel_rfl)) (((KS.out.bel g5).cell 0).trans rfl)) (hKK _ _ rfl (Below.refl _ _))
    | 4, _ => exact st_move rfl rfl (wanted_none rfl) (g3 1 (by kernel_rfl)) (hKK _ _ rfl (Below.refl _ _))
    | 5, _ => exact st_valw rfl (wanted_none rfl) (run_one _ rfl (g4 4 (by kernel_rfl))) (hKK _ _ ⟨_, rfl, Blk.new rfl⟩ ((Below.refl _ _).alloc (Nat.le_refl _) _))
    | 6, _ =>
      obtain ⟨q, e1, kq⟩ := g4 5 (by kernel_rfl)
      refine st_call rfl rfl (wanted_none rfl) (sargs2 (g4 3 (by kernel_rfl)) e1) (run_enter Tryz.func117 (by kernel_rfl) (by kernel_rfl) _) ?_
      refine (least_oneT h m q _ kq).mono ?_
      rintro e w1 ⟨rfl, y, rfl⟩
      exact ⟨_, rfl, hKK _ _ rfl (below_ext _ _)⟩
    | 7, _ => exact st_val rfl (wanted_none rfl) (run_subT _ rfl (g4 1 (by kernel_rfl)) (g4 6 (by kernel_rfl)) (by omega)) (hKK _ _ rfl (Below.refl _ _))
    | 8, _ => exact st_val rfl (wanted_none rfl) (run_heldT _ rfl (g3 2 (by kernel_rfl)) (KS.out.bel g5).lt) (hKK _ _ rfl (Below.refl _ _))
    | k + 9, hk => omega
  intro vs W2 hvs hBW
  have v0 : vs 0 = _ := hvs 0 (by omega)
  have v1 : vs 1 = _ := hvs 1 (by omega)
  have v2 : vs 2 = _ := hvs 2 (by omega)
  have v3 : vs 3 = _ := hvs 3 (by omega)
  have v4 : vs 4 = _ := hvs 4 (by omega)
  obtain ⟨q, v5, -⟩ := hvs 5 (by omega)
  have v6 : vs 6 = _ := hvs 6 (by omega)
  have v7 : vs 7 = _ := hvs 7 (by omega)
  have v8 : vs 8 = _ := hvs 8 (by omega)
  simp only [putAll, v0, v1, v2, v3, v4, v5, v6, v7, v8]
  clear v0 v1 v2 v3 v4 v5 v6 v7 v8 hvs
  simp only [dstOf, Act.put, List.getElem?_toArray, List.getElem?_cons_zero, List.getElem?_cons_succ, Option.bind_some, Option.getD_some, List.setIfInBounds_toArray, List.set_cons_succ, List.set_cons_zero, List.drop_succ_cons, List.drop_zero]
  have ks := KS.out.bel hBW
  have kr := KR.out.bel hBW
  have s0 := ks.cell 0
  have s1 := ks.cell 1
  have sf0 := ks.frozen 0
  have sf1 := ks.frozen 1
  have sl := ks.lt
  have r0 := kr.cell 0
  have r1 := kr.cell 1
  have f0 := kr.frozen 0
  have f1 := kr.frozen 1
  have hl := kr.lt
  simp only [List.size_toArray, List.length_cons, List.length_nil, Nat.reduceAdd, Nat.reduceLT, getElem?_pos, List.getElem_toArray, List.getElem_cons_zero, List.getElem_cons_succ] at r0 r1 s0 s1
  have HEND := Lib.hid (HB.out.trans (hBW.mono HB.out.size))
  clear kr ks hBW
  go_wp2_with fail
  refine bodyPost_ret (v := .agg #[.int .i64 (h - min h m), .int .i64 r]) (by simp [results, Tryz.results153, go_sem, r0, r1, hl]) rfl ⟨rfl, ext_of ?_⟩
  exact ((HEND.out.setCell (by simp) _).setCell (by simp) _).setCell (by simp) _
end Go.Proofs.YtcaeohgbgeadaaaGreatDoor

namespace Go.Proofs.YtcaeohgbgeadaaaGreatDoor
open Go Go.RowKit
theorem net_eql (a b c d : Int) (w : World) : (Go.binOp .eql 141 (.agg #[.int .i64 a, .int .i64 b]) (.agg #[.int .i64 c, .int .i64 d])).run Tryz.prog w = .ok (.bool (decide ((a, b) = (c, d)))) w := by
  by_cases h1 : a = c <;> by_cases h2 : b = d <;> simp [go_sem, h1, h2]
theorem afterH_step {r v : Int} {n k : Nat} (h : k < n) : afterH r (n - k) v = afterH r (n - (k + 1)) (v - min v r) := by
  rw [show n - k = (n - (k + 1)) + 1 by omega]; rfl
theorem afterH_none (r v : Int) (n : Nat) : afterH r (n - n) v = v := by rw [Nat.sub_self]; rfl
attribute [local go_sem] Oper.semAt_some frozen_alloc_lt
set_option maxHeartbeats 1000000 in
theorem after_anyT (h r : Int) (n : Nat) (w : World) (hr : 0 ≤ r ∧ r ≤ 1000) (hn : n ≤ 1000) (h0 : 0 ≤ h) (h1 : h ≤ 1000) :
    Calls Tryz.prog 152 #[.agg #[.int .i64 h, .int .i64 r], .int .i64 n] w fun e w' => e = .returned (.agg #[.int .i64 (afterH r n h), .int .i64 r]) ∧ ∃ x, w' = ext w x := by
  go_enter Tryz.func152, Tryz.ntmps152
  go_upto_region 1 with fail
  generalize hW : (w.alloc _).alloc _ = W
  have hB : Below w.heap.size w W := by rw [← hW]; (exact belA)
  have kS : Blk W w.heap.size 141 #[.int .i64 h, .int .i64 r] := by rw [← hW]; exact (Blk.new rfl).alloc _
  have kR : Blk W (w.heap.size + 1) 141 #[.int .i64 0, .int .i64 0] := by rw [← hW]; exact Blk.new (by simp)
  have KS := Lib.hid kS
  have KR := Lib.hid kR
  have HB := Lib.hid hB
  clear hW kS kR hB
  go_wp2_with fail
  go_loopw [7] (fun i wr => ∃ (k : Nat) (v : Int), k ≤ n ∧ i = .int .i64 k ∧ Hid (0 ≤ v ∧ v ≤ 1000) ∧ Hid (afterH r (n - k) v = afterH r n h) ∧ Hid (Blk wr w.heap.size 141 #[.int .i64 v, .int .i64 r]) ∧ Hid (Blk wr (w.heap.size + 1) 141 #[.int .i64 0, .int .i64 0]) ∧ Hid (Below w.heap.size w wr)) (fun i _ => n - (intOf i).toNat)
  case atStart => exact ⟨0, h, by omega, rfl, Lib.hid ⟨h0, h1⟩, Lib.hid rfl, KS, KR, HB⟩
  case round =>
    obtain ⟨k, v, hk, rfl, H1, H2, KS, KR, HB⟩ := hrel
    have hv := H1.out
    by_cases hlt : k < n
    · have k0 : (0 : Int) ≤ (k : Int) := by omega
      have k1 : (k : Int) < (n : Int) := by omega
      have HW := Lib.hid (wrap_num k (by omega))
      have hm0 : 0 ≤ v - min v r := by omega
      have hm1 : v - min v r ≤ 1000 := by omega
      have HV := Lib.hid (And.intro hm0 hm1)
      have HS := Lib.hid (show afterH r (n - (k + 1)) (v - min v r) = afterH r n h by rw [← afterH_step hlt, H2.out])
      have HST := Lib.hid (show v - min v r = v → v = afterH r n h from fun e => by rw [← H2.out, afterH_stay e])
      have heq := fun w => net_eql (v - min v r) r v r w
      have s0 := KS.out.cell 0
      have s1 := KS.out.cell 1
      have ls := KS.out.lt
      simp only [List.size_toArray, List.length_cons, List.length_nil, Nat.reduceAdd, Nat.reduceLT, getElem?_pos, List.getElem_toArray, List.getElem_cons_zero, List.getElem_cons_succ] at s0 s1
      go_upto_region 4 with (go_at_call 153; refine (less_anyT v r r _ (by omega) (by omega)).mono ?_; rintro e w1 ⟨rfl, y, rfl⟩)
      generalize hW : (ext _ y).alloc _ = W2
      generalize hg : (ext _ y).heap.size = g6
      have kS := (KS.out.ext y).alloc (.cells #[.int .i64 (v - min v r), .int .i64 r] 141)
      have kR := (KR.out.ext y).alloc (.cells #[.int .i64 (v - min v r), .int .i64 r] 141)
      have kN : Blk ((ext wr y).alloc (.cells #[.int .i64 (v - min v r), .int .i64 r] 141)) g6 141 #[.int .i64 (v - min v r), .int .i64 r] := Blk.new hg.symm
      have hB : Below w.heap.size w ((ext wr y).alloc (.cells #[.int .i64 (v - min v r), .int .i64 r] 141)) := HB.out.trans (((below_ext wr y).alloc (below_ext wr y).size _).mono HB.out.size)
      rw [hW] at kS kR kN hB
      have HKS := Lib.hid kS
      have HKR := Lib.hid kR
      have HHB := Lib.hid hB
      have t0 := kS.cell 0
      have t1 := kS.cell 1
      have tf0 := kS.frozen 0
      have tf1 := kS.frozen 1
      have tl := kS.lt
      have r0 := kR.cell 0
      have r1 := kR.cell 1
      have f0 := kR.frozen 0
      have f1 := kR.frozen 1
      have lr := kR.lt
      have q0 := kN.cell 0
      have q1 := kN.cell 1
      have lq := kN.lt
      simp only [List.size_toArray, List.length_cons, List.length_nil, Nat.reduceAdd, Nat.reduceLT, getElem?_pos, List.getElem_toArray, List.getElem_cons_zero, List.getElem_cons_succ] at t0 t1 r0 r1 q0 q1
      clear kS kR kN hB hW hg KS KR HB s0 s1 ls
      generalize v - min v r = z at *
      by_cases he : z = v
      · have hd : decide ((z, r) = (v, r)) = true := by simp [he]
        rw [hd] at heq
        have HE := Lib.hid (HST.out he)
        clear he hd hm0 hm1
        go_wp2_with fail
        refine bodyPost_ret (v := .agg #[.int .i64 v, .int .i64 r]) (by simp [results, Tryz.results152, go_sem, r0, r1, lr]) rfl ⟨by rw [← HE.out], ext_of ?_⟩
        exact (HHB.out.setCell (by simp) _).setCell (by simp) _
      · have hd : decide ((z, r) = (v, r)) = false := by simp [he]
        rw [hd] at heq
        clear he hd hm0 hm1
        go_wp2_with fail
        try rw [HW.out]
        refine ⟨⟨k + 1, z, hlt, rfl, HV, HS, Lib.hid ?_, Lib.hid ?_, Lib.hid ?_⟩, less_num _ k hlt⟩
        · exact (HKS.out.set 0 _).set 1 _
        · exact (HKR.out.setOther (by omega) 0 _).setOther (by omega) 1 _
        · exact (HHB.out.setCell (by simp) _).setCell (by simp) _
    · obtain rfl : k = n := by omega
      have HE := Lib.hid (show v = afterH r k h by rw [← H2.out, afterH_none])
      have s0 := KS.out.cell 0
      have s1 := KS.out.cell 1
      have ls := KS.out.lt
      have r0 := KR.out.cell 0
      have r1 := KR.out.cell 1
      have f0 := KR.out.frozen 0
      have f1 := KR.out.frozen 1
      have lr := KR.out.lt
      simp only [List.size_toArray, List.length_cons, List.length_nil, Nat.reduceAdd, Nat.reduceLT, getElem?_pos, List.getElem_toArray, List.getElem_cons_zero, List.getElem_cons_succ] at s0 s1 r0 r1
      go_wp2_with fail
      refine bodyPost_ret (v := .agg #[.int .i64 v, .int .i64 r]) (by simp [results, Tryz.results152, go_sem, r0, r1, lr]) rfl ⟨by rw [← HE.out], ext_of ?_⟩
      exact (HB.out.setCell (by simp) _).setCell (by simp) _
end Go.Proofs.YtcaeohgbgeadaaaGreatDoor

