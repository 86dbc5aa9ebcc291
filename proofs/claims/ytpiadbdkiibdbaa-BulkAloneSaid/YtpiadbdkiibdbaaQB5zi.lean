/- Package bulk: Fish, Packed, Count, Total, Casks. Written by gen_b5zi.py. -/
import Derived.Test.YtpiadbdkiibdbaaQB5zh
set_option linter.unusedSimpArgs false
set_option linter.unusedVariables false
namespace Go.Proofs.Ytpiadbdkiibdbaa
open Go Go.RowKit Go.Shelf
attribute [local go_sem] Oper.semAt_some frozen_alloc_lt
theorem asksCount_int (x : Int) (w : World) : Calls Try.prog 71 #[.int .i64 x] w fun e w' => ∃ g : Nat, e = .returned (qsV 97 #[.pointer (some ⟨g, 0, none⟩)]) ∧ Blk w' g 3 #[.int .i64 x] ∧ ∃ x, w' = ext w x := by
  go_enter Try.func71, Try.ntmps71
  go_wp2
  refine bodyPost_ret (v := .agg #[.func (.func 97) #[] #[.pointer (some ⟨w.heap.size, 0, none⟩)]]) (by simp [results, Try.results71, go_sem]) rfl ⟨_, rfl, (Blk.new rfl).alloc _, by (exact ext_of (by (exact belA)))⟩
/-- What the operations leave by which something is asked. -/
def asksR (vs : Nat → Value) (nq : Nat) (Q : Int → Qs) (e : Int) (i : Nat) (u : Value) (w : World) : Prop :=
  if i = nq then ∃ (f : FuncId) (lb : Array Value), u = qsV f lb ∧ (e = 0 → QAt w f lb (Q 0)) else u = vs i
theorem asksR_kept (vs : Nat → Value) (nq : Nat) (Q : Int → Qs) (e : Int) (n : Nat) : ∀ i, i < n → ∀ (v : Value) (w w' : World), asksR vs nq Q e i v w → Below w.heap.size w w' → asksR vs nq Q e i v w' := by
  intro i _ v w w' h hb
  unfold asksR at *
  split at h
  · rename_i h1
    rw [if_pos h1]
    obtain ⟨f, lb, h2, h3⟩ := h
    exact ⟨f, lb, h2, fun h => (h3 h).bel hb⟩
  · rename_i h1
    rw [if_neg h1]
    exact h
/-- .. of all lots. -/
def asksA (vs : Nat → Value) (nq : Nat) (Q : Int → Qs) (e : Int) (i : Nat) (u : Value) (w : World) : Prop :=
  if i = nq then ∃ (f : FuncId) (lb : Array Value), u = qsV f lb ∧ QAt w f lb (Q e) else u = vs i
theorem asksA_kept (vs : Nat → Value) (nq : Nat) (Q : Int → Qs) (e : Int) (n : Nat) : ∀ i, i < n → ∀ (v : Value) (w w' : World), asksA vs nq Q e i v w → Below w.heap.size w w' → asksA vs nq Q e i v w' := by
  intro i _ v w w' h hb
  unfold asksA at *
  split at h
  · rename_i h1
    rw [if_pos h1]
    obtain ⟨f, lb, h2, h3⟩ := h
    exact ⟨f, lb, h2, h3.bel hb⟩
  · rename_i h1
    rw [if_neg h1]
    exact h
theorem args_c1 {a : Act} (c : Value) : (#[Operand.const c]).map a.eval = #[c] := by simp [Act.eval]
theorem args4c {a : Act} {s t u : Nat} {x y z c : Value} (h1 : a.tmps.getD s undef = x) (h2 : a.tmps.getD t undef = y) (h3 : a.tmps.getD u undef = z) : (#[Operand.tmp s, Operand.tmp t, Operand.const c, Operand.tmp u]).map a.eval = #[x, y, c, z] := by
  simp [Act.eval, ← h1, ← h2, ← h3]
set_option maxRecDepth 100000 in
set_option maxHeartbeats 8000000 in
theorem bFish_any (b : Ck) (p : Option Addr) (c : Nat) (x : Int) (e lo hi : Int) (w : World) (hk : CB w b p) (r : Bool) (hr : inV x 0 ((b.ls.length : Int) - 1) = r) (hlen : (b.ls.length : Int) ≤ 9223372036854775807) (hcap : b.ls.length ≤ c) (he : openE b r = e) (ha : AnsC b (gSum .fish x.toNat 1) e lo hi) :
    Calls Try.prog 21 #[ckV b p c, .int .i64 x] w fun e' w' => e' = .returned (.tuple #[.agg #[.int .i64 lo, .int .i64 hi], .int .i64 e]) ∧ ∃ x, w' = ext w x := by
  have HLOT := Lib.hid (show ∀ f lb W, CB W b p → (e = 0 → QAt W f lb .fish) → Calls Try.prog 67 #[ckV b p c, .int .i64 x, .bool true, qsV f lb] W fun e' w' => e' = .returned (.tuple #[.agg #[.int .i64 lo, .int .i64 hi], .int .i64 e]) ∧ ∃ x, w' = ext W x from fun f lb W h1 h2 => ofLot_any b p c .fish f lb x e lo hi true r W h1 h2 hr hlen hcap (by rw [Bool.true_and]; exact he) ha)
  clear hr hlen hcap he ha
  have HK := Lib.hid hk
  clear hk
  unfold ckV
  go_enter Try.func21, Try.ntmps21
  go_upto_region 1 with fail
  generalize hV : World.alloc _ _ = V
  have hBV : Below w.heap.size w V := by rw [← hV]; (exact belA)
  have kc : Blk V w.heap.size 28 (ckcs b p c) := by rw [← hV]; exact (Blk.new rfl).alloc _
  have kr : Blk V (w.heap.size + 1) 23 #[.int .i64 0, .int .i64 0] := by rw [← hV]; exact Blk.new (by simp)
  have HBV := Lib.hid hBV
  have KC := Lib.hid kc
  have KR := Lib.hid kr
  have HCV := Lib.hid (HK.out.bel hBV)
  have hzV := hBV.size
  clear hV hBV kr kc
  refine wp_region_flow_back 6 12 (asksR (fun i => match i with
    | 0 => ckV b p c
    | 1 => .int .i64 x
    | 3 => .tuple #[.agg #[.int .i64 lo, .int .i64 hi], .int .i64 e]
    | 4 => .agg #[.int .i64 lo, .int .i64 hi]
    | 5 => .int .i64 e
    | _ => undef) 2 (fun _ => .fish) e) (by kernel_rfl) (by kernel_rfl) rfl (asksR_kept _ _ _ _ _) ?_ ?_
  · intro i hin a X g1 g2 g3 g4 g5 KK hKK
    match i, hin with
    | 0, _ => exact st_val rfl (wanted_none rfl) (run_lBulk _ rfl (g3 2 (by kernel_rfl)) (KC.out.bel g5)) (hKK _ _ rfl (Below.refl _ _))
    | 1, _ => exact st_move rfl rfl (wanted_none rfl) (g3 1 (by kernel_rfl)) (hKK _ _ rfl (Below.refl _ _))
    | 2, _ =>
      refine st_call rfl rfl (wanted_none rfl) (vs := #[]) (by simp) (run_enter Try.func68 (by kernel_rfl) (by kernel_rfl) _) ?_
      refine (asksFish_any X).mono ?_
      rintro e' w1 ⟨f, lb, rfl, h1, x, rfl⟩
      exact ⟨_, rfl, hKK _ _ ⟨f, lb, rfl, fun _ => h1⟩ (below_ext _ x)⟩
    | 3, _ =>
      obtain ⟨f, lb, h1, h2⟩ := g4 2 (by kernel_rfl)
      refine st_call rfl rfl (wanted_none rfl) (args4c (g4 0 (by kernel_rfl)) (g4 1 (by kernel_rfl)) h1) (run_enter Try.func67 (by kernel_rfl) (by kernel_rfl) _) ?_
      refine (HLOT.out f lb X (HCV.out.bel g5) h2).mono ?_
      rintro e' w1 ⟨rfl, x, rfl⟩
      exact ⟨_, rfl, hKK _ _ rfl (below_ext _ x)⟩
    | 4, _ => exact st_val rfl (wanted_none rfl) (run_ext0 _ rfl (g4 3 (by kernel_rfl))) (hKK _ _ rfl (Below.refl _ _))
    | 5, _ => exact st_val rfl (wanted_none rfl) (run_ext1 _ rfl (g4 3 (by kernel_rfl))) (hKK _ _ rfl (Below.refl _ _))
    | k + 6, hk => omega
  · intro vs T hvs hBT
    have v0 : vs 0 = _ := hvs 0 (by omega)
    have v1 : vs 1 = _ := hvs 1 (by omega)
    obtain ⟨f, lb, v2, -⟩ := hvs 2 (by omega)
    have v3 : vs 3 = _ := hvs 3 (by omega)
    have v4 : vs 4 = _ := hvs 4 (by omega)
    have v5 : vs 5 = _ := hvs 5 (by omega)
    simp only [putAll, v0, v1, v2, v3, v4, v5]
    clear v0 v1 v2 v3 v4 v5 hvs
    simp only [dstOf, Act.put, List.getElem?_toArray, List.getElem?_cons_zero, List.getElem?_cons_succ, Option.bind_some, Option.getD_some, List.setIfInBounds_toArray, List.set_cons_succ, List.set_cons_zero, List.drop_succ_cons, List.drop_zero]
    have HBT := Lib.hid (HBV.out.trans (hBT.mono hzV))
    have kr := KR.out.bel hBT
    have KRX := Lib.hid kr
    obtain ⟨r0, r1⟩ := Blk.c2 kr
    obtain ⟨f0, f1⟩ := Blk.f2 kr
    have lrX := kr.lt
    clear kr hBT
    go_wp2_with fail
    have hF := KRX.out.setB2 (.int .i64 lo) (.int .i64 hi)
    have hBF := (HBT.out.setCell (p := ⟨w.heap.size + 1, 0, none⟩) (by dsimp only; omega) (.int .i64 lo)).setCell (p := ⟨w.heap.size + 1, 1, none⟩) (by dsimp only; omega) (.int .i64 hi)
    obtain ⟨d0, d1⟩ := Blk.c2 hF
    have lD := hF.lt
    refine bodyPost_ret (v := .tuple #[.agg #[.int .i64 lo, .int .i64 hi], .int .i64 e]) (by simp [results, Try.results21, go_sem, d0, d1, lD]) rfl ⟨rfl, ext_of hBF⟩
set_option maxRecDepth 100000 in
set_option maxHeartbeats 8000000 in
theorem bPacked_any (b : Ck) (p : Option Addr) (c : Nat) (x : Int) (e lo hi : Int) (w : World) (hk : CB w b p) (r : Bool) (hr : inV x 0 ((b.ls.length : Int) - 1) = r) (hlen : (b.ls.length : Int) ≤ 9223372036854775807) (hcap : b.ls.length ≤ c) (he : openE b r = e) (ha : AnsC b (gSum .packed x.toNat 1) e lo hi) :
    Calls Try.prog 23 #[ckV b p c, .int .i64 x] w fun e' w' => e' = .returned (.tuple #[.agg #[.int .i64 lo, .int .i64 hi], .int .i64 e]) ∧ ∃ x, w' = ext w x := by
  have HLOT := Lib.hid (show ∀ f lb W, CB W b p → (e = 0 → QAt W f lb .packed) → Calls Try.prog 67 #[ckV b p c, .int .i64 x, .bool true, qsV f lb] W fun e' w' => e' = .returned (.tuple #[.agg #[.int .i64 lo, .int .i64 hi], .int .i64 e]) ∧ ∃ x, w' = ext W x from fun f lb W h1 h2 => ofLot_any b p c .packed f lb x e lo hi true r W h1 h2 hr hlen hcap (by rw [Bool.true_and]; exact he) ha)
  clear hr hlen hcap he ha
  have HK := Lib.hid hk
  clear hk
  unfold ckV
  go_enter Try.func23, Try.ntmps23
  go_upto_region 1 with fail
  generalize hV : World.alloc _ _ = V
  have hBV : Below w.heap.size w V := by rw [← hV]; (exact belA)
  have kc : Blk V w.heap.size 28 (ckcs b p c) := by rw [← hV]; exact (Blk.new rfl).alloc _
  have kr : Blk V (w.heap.size + 1) 23 #[.int .i64 0, .int .i64 0] := by rw [← hV]; exact Blk.new (by simp)
  have HBV := Lib.hid hBV
  have KC := Lib.hid kc
  have KR := Lib.hid kr
  have HCV := Lib.hid (HK.out.bel hBV)
  have hzV := hBV.size
  clear hV hBV kr kc
  refine wp_region_flow_back 6 12 (asksR (fun i => match i with
    | 0 => ckV b p c
    | 1 => .int .i64 x
    | 3 => .tuple #[.agg #[.int .i64 lo, .int .i64 hi], .int .i64 e]
    | 4 => .agg #[.int .i64 lo, .int .i64 hi]
    | 5 => .int .i64 e
    | _ => undef) 2 (fun _ => .packed) e) (by kernel_rfl) (by kernel_rfl) rfl (asksR_kept _ _ _ _ _) ?_ ?_
  · intro i hin a X g1 g2 g3 g4 g5 KK hKK
    match i, hin with
    | 0, _ => exact st_val rfl (wanted_none rfl) (run_lBulk _ rfl (g3 2 (by kernel_rfl)) (KC.out.bel g5)) (hKK _ _ rfl (Below.refl _ _))
    | 1, _ => exact st_move rfl rfl (wanted_none rfl) (g3 1 (by kernel_rfl)) (hKK _ _ rfl (Below.refl _ _))
    | 2, _ =>
      refine st_call rfl rfl (wanted_none rfl) (vs := #[]) (by simp) (run_enter Try.func70 (by kernel_rfl) (by kernel_rfl) _) ?_
      refine (asksPacked_any X).mono ?_
      rintro e' w1 ⟨f, lb, rfl, h1, x, rfl⟩
      exact ⟨_, rfl, hKK _ _ ⟨f, lb, rfl, fun _ => h1⟩ (below_ext _ x)⟩
    | 3, _ =>
      obtain ⟨f, lb, h1, h2⟩ := g4 2 (by kernel_rfl)
      refine st_call rfl rfl (wanted_none rfl) (args4c (g4 0 (by kernel_rfl)) (g4 1 (by kernel_rfl)) h1) (run_enter Try.func67 (by kernel_rfl) (by kernel_rfl) _) ?_
      refine (HLOT.out f lb X (HCV.out.bel g5) h2).mono ?_
      rintro e' w1 ⟨rfl, x, rfl⟩
      exact ⟨_, rfl, hKK _ _ rfl (below_ext _ x)⟩
    | 4, _ => exact st_val rfl (wanted_none rfl) (run_ext0 _ rfl (g4 3 (by kernel_rfl))) (hKK _ _ rfl (Below.refl _ _))
    | 5, _ => exact st_val rfl (wanted_none rfl) (run_ext1 _ rfl (g4 3 (by kernel_rfl))) (hKK _ _ rfl (Below.refl _ _))
    | k + 6, hk => omega
  · intro vs T hvs hBT
    have v0 : vs 0 = _ := hvs 0 (by omega)
    have v1 : vs 1 = _ := hvs 1 (by omega)
    obtain ⟨f, lb, v2, -⟩ := hvs 2 (by omega)
    have v3 : vs 3 = _ := hvs 3 (by omega)
    have v4 : vs 4 = _ := hvs 4 (by omega)
    have v5 : vs 5 = _ := hvs 5 (by omega)
    simp only [putAll, v0, v1, v2, v3, v4, v5]
    clear v0 v1 v2 v3 v4 v5 hvs
    simp only [dstOf, Act.put, List.getElem?_toArray, List.getElem?_cons_zero, List.getElem?_cons_succ, Option.bind_some, Option.getD_some, List.setIfInBounds_toArray, List.set_cons_succ, List.set_cons_zero, List.drop_succ_cons, List.drop_zero]
    have HBT := Lib.hid (HBV.out.trans (hBT.mono hzV))
    have kr := KR.out.bel hBT
    have KRX := Lib.hid kr
    obtain ⟨r0, r1⟩ := Blk.c2 kr
    obtain ⟨f0, f1⟩ := Blk.f2 kr
    have lrX := kr.lt
    clear kr hBT
    go_wp2_with fail
    have hF := KRX.out.setB2 (.int .i64 lo) (.int .i64 hi)
    have hBF := (HBT.out.setCell (p := ⟨w.heap.size + 1, 0, none⟩) (by dsimp only; omega) (.int .i64 lo)).setCell (p := ⟨w.heap.size + 1, 1, none⟩) (by dsimp only; omega) (.int .i64 hi)
    obtain ⟨d0, d1⟩ := Blk.c2 hF
    have lD := hF.lt
    refine bodyPost_ret (v := .tuple #[.agg #[.int .i64 lo, .int .i64 hi], .int .i64 e]) (by simp [results, Try.results23, go_sem, d0, d1, lD]) rfl ⟨rfl, ext_of hBF⟩
set_option maxRecDepth 100000 in
set_option maxHeartbeats 8000000 in
theorem bCount_any (b : Ck) (p : Option Addr) (c : Nat) (x y : Int) (q r : Bool) (e lo hi : Int) (w : World) (hk : CB w b p) (hy : inV y 0 2 = q) (hr : inV x 0 ((b.ls.length : Int) - 1) = r) (hlen : (b.ls.length : Int) ≤ 9223372036854775807) (hcap : b.ls.length ≤ c) (he : openE b (q && r) = e) (ha : AnsC b (gSum (.count y.toNat) x.toNat 1) e lo hi) :
    Calls Try.prog 25 #[ckV b p c, .int .i64 x, .int .i64 y] w fun e' w' => e' = .returned (.tuple #[.agg #[.int .i64 lo, .int .i64 hi], .int .i64 e]) ∧ ∃ x, w' = ext w x := by
  have HLOT := Lib.hid (show ∀ f lb W, CB W b p → (e = 0 → QAt W f lb (.count y.toNat)) → Calls Try.prog 67 #[ckV b p c, .int .i64 x, .bool q, qsV f lb] W fun e' w' => e' = .returned (.tuple #[.agg #[.int .i64 lo, .int .i64 hi], .int .i64 e]) ∧ ∃ x, w' = ext W x from fun f lb W h1 h2 => ofLot_any b p c (.count y.toNat) f lb x e lo hi q r W h1 h2 hr hlen hcap he ha)
  have HY := Lib.hid hy
  have HQ0 := Lib.hid (show e = 0 → 0 ≤ y ∧ y ≤ 2 from fun h => by
    obtain ⟨-, h2, -⟩ := openE_yes (he.trans h)
    rw [Bool.and_eq_true] at h2
    exact of_inV (hy.trans h2.1))
  clear hr hlen hcap he ha hy
  have HK := Lib.hid hk
  clear hk
  unfold ckV
  go_enter Try.func25, Try.ntmps25
  go_upto_region 1 with fail
  generalize hV : World.alloc _ _ = V
  have hBV : Below w.heap.size w V := by rw [← hV]; (exact belA)
  have kc : Blk V w.heap.size 28 (ckcs b p c) := by rw [← hV]; exact (Blk.new rfl).alloc _
  have kr : Blk V (w.heap.size + 1) 23 #[.int .i64 0, .int .i64 0] := by rw [← hV]; exact Blk.new (by simp)
  have HBV := Lib.hid hBV
  have KC := Lib.hid kc
  have KR := Lib.hid kr
  have HCV := Lib.hid (HK.out.bel hBV)
  have hzV := hBV.size
  clear hV hBV kr kc
  refine wp_region_flow_back 9 17 (asksR (fun i => match i with
    | 0 => ckV b p c
    | 1 => .int .i64 x
    | 2 => .int .i64 y
    | 3 => .bool q
    | 4 => .int .i64 y
    | 6 => .tuple #[.agg #[.int .i64 lo, .int .i64 hi], .int .i64 e]
    | 7 => .agg #[.int .i64 lo, .int .i64 hi]
    | 8 => .int .i64 e
    | _ => undef) 5 (fun _ => .count y.toNat) e) (by kernel_rfl) (by kernel_rfl) rfl (asksR_kept _ _ _ _ _) ?_ ?_
  · intro i hin a X g1 g2 g3 g4 g5 KK hKK
    match i, hin with
    | 0, _ => exact st_val rfl (wanted_none rfl) (run_lBulk _ rfl (g3 3 (by kernel_rfl)) (KC.out.bel g5)) (hKK _ _ rfl (Below.refl _ _))
    | 1, _ => exact st_move rfl rfl (wanted_none rfl) (g3 1 (by kernel_rfl)) (hKK _ _ rfl (Below.refl _ _))
    | 2, _ => exact st_move rfl rfl (wanted_none rfl) (g3 2 (by kernel_rfl)) (hKK _ _ rfl (Below.refl _ _))
    | 3, _ =>
      refine st_call rfl rfl (wanted_none rfl) (sargs1 (g4 2 (by kernel_rfl))) (run_enter Try.func63 (by kernel_rfl) (by kernel_rfl) _) ?_
      refine (bKind_eq y q _ HY.out).mono ?_
      rintro e' w1 ⟨rfl, rfl⟩
      exact ⟨_, rfl, hKK _ _ rfl (Below.refl _ _)⟩
    | 4, _ => exact st_move rfl rfl (wanted_none rfl) (g3 2 (by kernel_rfl)) (hKK _ _ rfl (Below.refl _ _))
    | 5, _ =>
      refine st_call rfl rfl (wanted_none rfl) (sargs1 (g4 4 (by kernel_rfl))) (run_enter Try.func71 (by kernel_rfl) (by kernel_rfl) _) ?_
      refine (asksCount_int y X).mono ?_
      rintro e' w1 ⟨g, rfl, h1, x, rfl⟩
      exact ⟨_, rfl, hKK _ _ ⟨_, _, rfl, fun h => ⟨rfl, by have := HQ0.out h; omega, g, rfl, by have := HQ0.out h; rw [show ((y.toNat : Nat) : Int) = y by omega]; exact h1⟩⟩ (below_ext _ x)⟩
    | 6, _ =>
      obtain ⟨f, lb, h1, h2⟩ := g4 5 (by kernel_rfl)
      refine st_call rfl rfl (wanted_none rfl) (args4 (g4 0 (by kernel_rfl)) (g4 1 (by kernel_rfl)) (g4 3 (by kernel_rfl)) h1) (run_enter Try.func67 (by kernel_rfl) (by kernel_rfl) _) ?_
      refine (HLOT.out f lb X (HCV.out.bel g5) h2).mono ?_
      rintro e' w1 ⟨rfl, x, rfl⟩
      exact ⟨_, rfl, hKK _ _ rfl (below_ext _ x)⟩
    | 7, _ => exact st_val rfl (wanted_none rfl) (run_ext0 _ rfl (g4 6 (by kernel_rfl))) (hKK _ _ rfl (Below.refl _ _))
    | 8, _ => exact st_val rfl (wanted_none rfl) (run_ext1 _ rfl (g4 6 (by kernel_rfl))) (hKK _ _ rfl (Below.refl _ _))
    | k + 9, hk => omega
  · intro vs T hvs hBT
    have v0 : vs 0 = _ := hvs 0 (by omega)
    have v1 : vs 1 = _ := hvs 1 (by omega)
    have v2 : vs 2 = _ := hvs 2 (by omega)
    have v3 : vs 3 = _ := hvs 3 (by omega)
    have v4 : vs 4 = _ := hvs 4 (by omega)
    obtain ⟨f, lb, v5, -⟩ := hvs 5 (by omega)
    have v6 : vs 6 = _ := hvs 6 (by omega)
    have v7 : vs 7 = _ := hvs 7 (by omega)
    have v8 : vs 8 = _ := hvs 8 (by omega)
    simp only [putAll, v0, v1, v2, v3, v4, v5, v6, v7, v8]
    clear v0 v1 v2 v3 v4 v5 v6 v7 v8 hvs
    simp only [dstOf, Act.put, List.getElem?_toArray, List.getElem?_cons_zero, List.getElem?_cons_succ, Option.bind_some, Option.getD_some, List.setIfInBounds_toArray, List.set_cons_succ, List.set_cons_zero, List.drop_succ_cons, List.drop_zero]
    have HBT := Lib.hid (HBV.out.trans (hBT.mono hzV))
    have kr := KR.out.bel hBT
    have KRX := Lib.hid kr
    obtain ⟨r0, r1⟩ := Blk.c2 kr
    obtain ⟨f0, f1⟩ := Blk.f2 kr
    have lrX := kr.lt
    clear kr hBT
    go_wp2_with fail
    have hF := KRX.out.setB2 (.int .i64 lo) (.int .i64 hi)
    have hBF := (HBT.out.setCell (p := ⟨w.heap.size + 1, 0, none⟩) (by dsimp only; omega) (.int .i64 lo)).setCell (p := ⟨w.heap.size + 1, 1, none⟩) (by dsimp only; omega) (.int .i64 hi)
    obtain ⟨d0, d1⟩ := Blk.c2 hF
    have lD := hF.lt
    refine bodyPost_ret (v := .tuple #[.agg #[.int .i64 lo, .int .i64 hi], .int .i64 e]) (by simp [results, Try.results25, go_sem, d0, d1, lD]) rfl ⟨rfl, ext_of hBF⟩
set_option maxRecDepth 100000 in
set_option maxHeartbeats 8000000 in
theorem bTotal_any (b : Ck) (p : Option Addr) (c : Nat)  (e lo hi : Int) (w : World) (hk : CB w b p) (he : openE b true = e) (ha : AnsC b (gSum (.fish) 0 b.ls.length) e lo hi) :
    Calls Try.prog 27 #[ckV b p c] w fun e' w' => e' = .returned (.tuple #[.agg #[.int .i64 lo, .int .i64 hi], .int .i64 e]) ∧ ∃ x, w' = ext w x := by
  have HALL := Lib.hid (show ∀ f lb W, CB W b p → QAt W f lb (.fish) → Calls Try.prog 72 #[ckV b p c, qsV f lb] W fun e' w' => e' = .returned (.tuple #[.agg #[.int .i64 lo, .int .i64 hi], .int .i64 e]) ∧ ∃ x, w' = ext W x from fun f lb W h1 h2 => ofAll_any b p c (.fish) f lb e lo hi W h1 h2 he ha)
  clear he ha
  have HK := Lib.hid hk
  clear hk
  unfold ckV
  go_enter Try.func27, Try.ntmps27
  go_upto_region 1 with fail
  generalize hV : World.alloc _ _ = V
  have hBV : Below w.heap.size w V := by rw [← hV]; (exact belA)
  have kc : Blk V w.heap.size 28 (ckcs b p c) := by rw [← hV]; exact (Blk.new rfl).alloc _
  have kr : Blk V (w.heap.size + 1) 23 #[.int .i64 0, .int .i64 0] := by rw [← hV]; exact Blk.new (by simp)
  have HBV := Lib.hid hBV
  have KC := Lib.hid kc
  have KR := Lib.hid kr
  have HCV := Lib.hid (HK.out.bel hBV)
  have hzV := hBV.size
  clear hV hBV kr kc
  refine wp_region_flow_back 5 9 (asksA (fun i => match i with
    | 0 => ckV b p c
    | 2 => .tuple #[.agg #[.int .i64 lo, .int .i64 hi], .int .i64 e]
    | 3 => .agg #[.int .i64 lo, .int .i64 hi]
    | 4 => .int .i64 e
    | _ => undef) 1 (fun _ => .fish) e) (by kernel_rfl) (by kernel_rfl) rfl (asksA_kept _ _ _ _ _) ?_ ?_
  · intro i hin a X g1 g2 g3 g4 g5 KK hKK
    match i, hin with
    | 0, _ => exact st_val rfl (wanted_none rfl) (run_lBulk _ rfl (g3 1 (by kernel_rfl)) (KC.out.bel g5)) (hKK _ _ rfl (Below.refl _ _))
    | 1, _ =>
      refine st_call rfl rfl (wanted_none rfl) (vs := #[]) (by simp) (run_enter Try.func68 (by kernel_rfl) (by kernel_rfl) _) ?_
      refine (asksFish_any X).mono ?_
      rintro e' w1 ⟨f, lb, rfl, h1, x, rfl⟩
      exact ⟨_, rfl, hKK _ _ ⟨f, lb, rfl, h1⟩ (below_ext _ x)⟩
    | 2, _ =>
      obtain ⟨f, lb, h1, h2⟩ := g4 1 (by kernel_rfl)
      refine st_call rfl rfl (wanted_none rfl) (args2 (g4 0 (by kernel_rfl)) h1) (run_enter Try.func72 (by kernel_rfl) (by kernel_rfl) _) ?_
      refine (HALL.out f lb X (HCV.out.bel g5) h2).mono ?_
      rintro e' w1 ⟨rfl, x, rfl⟩
      exact ⟨_, rfl, hKK _ _ rfl (below_ext _ x)⟩
    | 3, _ => exact st_val rfl (wanted_none rfl) (run_ext0 _ rfl (g4 2 (by kernel_rfl))) (hKK _ _ rfl (Below.refl _ _))
    | 4, _ => exact st_val rfl (wanted_none rfl) (run_ext1 _ rfl (g4 2 (by kernel_rfl))) (hKK _ _ rfl (Below.refl _ _))
    | k + 5, hk => omega
  · intro vs T hvs hBT
    have v0 : vs 0 = _ := hvs 0 (by omega)
    obtain ⟨f, lb, v1, -⟩ := hvs 1 (by omega)
    have v2 : vs 2 = _ := hvs 2 (by omega)
    have v3 : vs 3 = _ := hvs 3 (by omega)
    have v4 : vs 4 = _ := hvs 4 (by omega)
    simp only [putAll, v0, v1, v2, v3, v4]
    clear v0 v1 v2 v3 v4 hvs
    simp only [dstOf, Act.put, List.getElem?_toArray, List.getElem?_cons_zero, List.getElem?_cons_succ, Option.bind_some, Option.getD_some, List.setIfInBounds_toArray, List.set_cons_succ, List.set_cons_zero, List.drop_succ_cons, List.drop_zero]
    have HBT := Lib.hid (HBV.out.trans (hBT.mono hzV))
    have kr := KR.out.bel hBT
    have KRX := Lib.hid kr
    obtain ⟨r0, r1⟩ := Blk.c2 kr
    obtain ⟨f0, f1⟩ := Blk.f2 kr
    have lrX := kr.lt
    clear kr hBT
    go_wp2_with fail
    have hF := KRX.out.setB2 (.int .i64 lo) (.int .i64 hi)
    have hBF := (HBT.out.setCell (p := ⟨w.heap.size + 1, 0, none⟩) (by dsimp only; omega) (.int .i64 lo)).setCell (p := ⟨w.heap.size + 1, 1, none⟩) (by dsimp only; omega) (.int .i64 hi)
    obtain ⟨d0, d1⟩ := Blk.c2 hF
    have lD := hF.lt
    refine bodyPost_ret (v := .tuple #[.agg #[.int .i64 lo, .int .i64 hi], .int .i64 e]) (by simp [results, Try.results27, go_sem, d0, d1, lD]) rfl ⟨rfl, ext_of hBF⟩
set_option maxRecDepth 100000 in
set_option maxHeartbeats 8000000 in
theorem bCasks_any (b : Ck) (p : Option Addr) (c : Nat)  (e lo hi : Int) (w : World) (hk : CB w b p) (he : openE b true = e) (ha : AnsC b (gSum (.count 2) 0 b.ls.length) e lo hi) :
    Calls Try.prog 29 #[ckV b p c] w fun e' w' => e' = .returned (.tuple #[.agg #[.int .i64 lo, .int .i64 hi], .int .i64 e]) ∧ ∃ x, w' = ext w x := by
  have HALL := Lib.hid (show ∀ f lb W, CB W b p → QAt W f lb (.count 2) → Calls Try.prog 72 #[ckV b p c, qsV f lb] W fun e' w' => e' = .returned (.tuple #[.agg #[.int .i64 lo, .int .i64 hi], .int .i64 e]) ∧ ∃ x, w' = ext W x from fun f lb W h1 h2 => ofAll_any b p c (.count 2) f lb e lo hi W h1 h2 he ha)
  clear he ha
  have HK := Lib.hid hk
  clear hk
  unfold ckV
  go_enter Try.func29, Try.ntmps29
  go_upto_region 1 with fail
  generalize hV : World.alloc _ _ = V
  have hBV : Below w.heap.size w V := by rw [← hV]; (exact belA)
  have kc : Blk V w.heap.size 28 (ckcs b p c) := by rw [← hV]; exact (Blk.new rfl).alloc _
  have kr : Blk V (w.heap.size + 1) 23 #[.int .i64 0, .int .i64 0] := by rw [← hV]; exact Blk.new (by simp)
  have HBV := Lib.hid hBV
  have KC := Lib.hid kc
  have KR := Lib.hid kr
  have HCV := Lib.hid (HK.out.bel hBV)
  have hzV := hBV.size
  clear hV hBV kr kc
  refine wp_region_flow_back 5 9 (asksA (fun i => match i with
    | 0 => ckV b p c
    | 2 => .tuple #[.agg #[.int .i64 lo, .int .i64 hi], .int .i64 e]
    | 3 => .agg #[.int .i64 lo, .int .i64 hi]
    | 4 => .int .i64 e
    | _ => undef) 1 (fun _ => .count 2) e) (by kernel_rfl) (by kernel_rfl) rfl (asksA_kept _ _ _ _ _) ?_ ?_
  · intro i hin a X g1 g2 g3 g4 g5 KK hKK
    match i, hin with
    | 0, _ => exact st_val rfl (wanted_none rfl) (run_lBulk _ rfl (g3 1 (by kernel_rfl)) (KC.out.bel g5)) (hKK _ _ rfl (Below.refl _ _))
    | 1, _ =>
      refine st_call rfl rfl (wanted_none rfl) (args_c1 _) (run_enter Try.func71 (by kernel_rfl) (by kernel_rfl) _) ?_
      refine (asksCount_int 2 X).mono ?_
      rintro e' w1 ⟨g, rfl, h1, x, rfl⟩
      exact ⟨_, rfl, hKK _ _ ⟨_, _, rfl, ⟨rfl, by omega, g, rfl, h1⟩⟩ (below_ext _ x)⟩
    | 2, _ =>
      obtain ⟨f, lb, h1, h2⟩ := g4 1 (by kernel_rfl)
      refine st_call rfl rfl (wanted_none rfl) (args2 (g4 0 (by kernel_rfl)) h1) (run_enter Try.func72 (by kernel_rfl) (by kernel_rfl) _) ?_
      refine (HALL.out f lb X (HCV.out.bel g5) h2).mono ?_
      rintro e' w1 ⟨rfl, x, rfl⟩
      exact ⟨_, rfl, hKK _ _ rfl (below_ext _ x)⟩
    | 3, _ => exact st_val rfl (wanted_none rfl) (run_ext0 _ rfl (g4 2 (by kernel_rfl))) (hKK _ _ rfl (Below.refl _ _))
    | 4, _ => exact st_val rfl (wanted_none rfl) (run_ext1 _ rfl (g4 2 (by kernel_rfl))) (hKK _ _ rfl (Below.refl _ _))
    | k + 5, hk => omega
  · intro vs T hvs hBT
    have v0 : vs 0 = _ := hvs 0 (by omega)
    obtain ⟨f, lb, v1, -⟩ := hvs 1 (by omega)
    have v2 : vs 2 = _ := hvs 2 (by omega)
    have v3 : vs 3 = _ := hvs 3 (by omega)
    have v4 : vs 4 = _ := hvs 4 (by omega)
    simp only [putAll, v0, v1, v2, v3, v4]
    clear v0 v1 v2 v3 v4 hvs
    simp only [dstOf, Act.put, List.getElem?_toArray, List.getElem?_cons_zero, List.getElem?_cons_succ, Option.bind_some, Option.getD_some, List.setIfInBounds_toArray, List.set_cons_succ, List.set_cons_zero, List.drop_succ_cons, List.drop_zero]
    have HBT := Lib.hid (HBV.out.trans (hBT.mono hzV))
    have kr := KR.out.bel hBT
    have KRX := Lib.hid kr
    obtain ⟨r0, r1⟩ := Blk.c2 kr
    obtain ⟨f0, f1⟩ := Blk.f2 kr
    have lrX := kr.lt
    clear kr hBT
    go_wp2_with fail
    have hF := KRX.out.setB2 (.int .i64 lo) (.int .i64 hi)
    have hBF := (HBT.out.setCell (p := ⟨w.heap.size + 1, 0, none⟩) (by dsimp only; omega) (.int .i64 lo)).setCell (p := ⟨w.heap.size + 1, 1, none⟩) (by dsimp only; omega) (.int .i64 hi)
    obtain ⟨d0, d1⟩ := Blk.c2 hF
    have lD := hF.lt
    refine bodyPost_ret (v := .tuple #[.agg #[.int .i64 lo, .int .i64 hi], .int .i64 e]) (by simp [results, Try.results29, go_sem, d0, d1, lD]) rfl ⟨rfl, ext_of hBF⟩
end Go.Proofs.Ytpiadbdkiibdbaa

