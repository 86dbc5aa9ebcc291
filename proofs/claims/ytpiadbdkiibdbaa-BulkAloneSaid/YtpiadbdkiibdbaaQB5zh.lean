/- Package bulk: Holds; what is asked of one lot. Written by gen_b5zh.py. -/
import Derived.Test.YtpiadbdkiibdbaaQB5zg
import Derived.Test.YtpiadbdkiibdbaaQFs
import Derived.Deep.MidRow
set_option linter.unusedSimpArgs false
set_option linter.unusedVariables false
namespace Go.Proofs.Ytpiadbdkiibdbaa
open Go Go.RowKit Go.Shelf
section
variable {P : Program} {ops : Array Oper} {Q : Exit → Act → World → Prop} {i : Nat} {o : Oper} {K : Act → World → Prop} {a : Act} {w : World}
theorem wanted_notB {g s : Nat} {b : Bool} (h : o.guard = some (g, b)) (hs : (ops[g]?).bind (·.dst) = some s) (hv : a.tmps.getD s undef = .bool (!b)) : Region.wanted o (yielded ops a.tmps) = false := by
  have h2 : a.tmps[s]? = some (.bool (!b)) := by
    cases h3 : a.tmps[s]? with
    | none => simp [Array.getD_eq_getD_getElem?, h3, undef] at hv
    | some x => simp [Array.getD_eq_getD_getElem?, h3] at hv; rw [hv]
  simp [Region.wanted, h, yielded, hs, h2]
theorem st_skipB (h : ops[i]? = some o) (hw : Region.wanted o (yielded ops a.tmps) = false) (hK : K (a.put o.dst undef) w) : wpOp P ops Q i K a w :=
  wpOp_get h (by rw [if_neg (by rw [hw]; decide)]; exact hK)
end
section
variable {o : Oper} {w : World} (ρ : Operand → Value)
theorem run_lBulk {b : Ck} {p : Option Addr} {c g t : Nat} (hop : o.op = .load 28 (.tmp t)) (hs : ρ (.tmp t) = .pointer (some ⟨g, 0, none⟩)) (k : Blk w g 28 (ckcs b p c)) : (execOp ρ o).run Try.prog w = .ok (.value (ckV b p c)) w := by
  unfold ckcs at k
  have c0 := k.cell 0
  have c1 := k.cell 1
  have c2 := k.cell 2
  have c3 := k.cell 3
  have c4 := k.cell 4
  have c5 := k.cell 5
  have c6 := k.cell 6
  have c7 := k.cell 7
  have c8 := k.cell 8
  have c9 := k.cell 9
  simp only [List.size_toArray, List.length_cons, List.length_nil, Nat.reduceAdd, Nat.reduceLT, getElem?_pos, List.getElem_toArray, List.getElem_cons_zero, List.getElem_cons_succ] at c0 c1 c2 c3 c4 c5 c6 c7 c8 c9
  unfold execOp ckV; simp [hop, hs, go_sem, c0, c1, c2, c3, c4, c5, c6, c7, c8, c9]
theorem run_lenLots {p : Option Addr} {n c t : Nat} (hop : o.op = .call { callee := .builtin .len, args := #[.tmp t], argTypes := #[26] }) (hs : ρ (.tmp t) = .slice p n c) : (execOp ρ o).run Try.prog w = .ok (.value (.int .i64 n)) w := by
  unfold execOp; simp [hop, hs, go_sem, resolve, invoke]
theorem run_dec {t : Nat} {x y : Int} (hop : o.op = .binOp .sub 3 (.tmp t) (.const (.int .i64 1)) 3) (hs : ρ (.tmp t) = .int .i64 x) (hc : ρ (.const (.int .i64 1)) = .int .i64 1) (hx : IntKind.i64.wrap (x - 1) = y) : (execOp ρ o).run Try.prog w = .ok (.value (.int .i64 y)) w := by
  unfold execOp; simp [hop, hs, hc, go_sem, hx]
theorem run_aCellar (hop : o.op = .alloc 76) : (execOp ρ o).run Try.prog w = .ok (.value (.pointer (some ⟨w.heap.size, 0, none⟩))) (w.alloc (.cells (ckcs zeroC none 0) 76)) := by
  unfold execOp; simp [hop, go_sem, ckcs, zeroC]
end
/-- The world behind a store of a cellar. -/
def put10 (w : World) (g : Nat) (b : Ck) (p : Option Addr) (c : Nat) : World := (((((((((w.setCell ⟨g, 0, none⟩ (.int .i64 b.l0)).setCell ⟨g, 1, none⟩ (.int .i64 b.u0)).setCell ⟨g, 2, none⟩ (.int .i64 b.l1)).setCell ⟨g, 3, none⟩ (.int .i64 b.u1)).setCell ⟨g, 4, none⟩ (.int .i64 b.l2)).setCell ⟨g, 5, none⟩ (.int .i64 b.u2)).setCell ⟨g, 6, none⟩ (.int .i64 b.e0)).setCell ⟨g, 7, none⟩ (.int .i64 b.e1)).setCell ⟨g, 8, none⟩ (.int .i64 b.e2)).setCell ⟨g, 9, none⟩ (.slice p b.ls.length c)
theorem put10_blk {w : World} {g : Nat} {b0 b : Ck} {p0 p : Option Addr} {c0 c : Nat} (k : Blk w g 76 (ckcs b0 p0 c0)) : Blk (put10 w g b p c) g 76 (ckcs b p c) := by
  unfold ckcs at *
  exact k.setB10 (.int .i64 b.l0) (.int .i64 b.u0) (.int .i64 b.l1) (.int .i64 b.u1) (.int .i64 b.l2) (.int .i64 b.u2) (.int .i64 b.e0) (.int .i64 b.e1) (.int .i64 b.e2) (.slice p b.ls.length c)
theorem put10_below {n : Nat} {w0 w : World} (h : Below n w0 w) {g : Nat} (hg : n ≤ g) (b : Ck) (p : Option Addr) (c : Nat) : Below n w0 (put10 w g b p c) := below_setB10 h hg (.int .i64 b.l0) (.int .i64 b.u0) (.int .i64 b.l1) (.int .i64 b.u1) (.int .i64 b.l2) (.int .i64 b.u2) (.int .i64 b.e0) (.int .i64 b.e1) (.int .i64 b.e2) (.slice p b.ls.length c)
theorem st_store_cellar {ops : Array Oper} {Q : Exit → Act → World → Prop} {i : Nat} {o : Oper} {K : Act → World → Prop} {a : Act} {w : World} {s t g : Nat} {b b0 : Ck} {p p0 : Option Addr} {c c0 : Nat} (h : ops[i]? = some o) (hw : Region.wanted o (yielded ops a.tmps) = true) (hop : o.op = .store 76 (.tmp s) (.tmp t)) (hd : o.dst = none)
    (hs : a.tmps.getD s undef = .pointer (some ⟨g, 0, none⟩)) (ht : a.tmps.getD t undef = ckV b p c) (k : Blk w g 76 (ckcs b0 p0 c0))
    (hK : K a (put10 w g b p c)) : wpOp Try.prog ops Q i K a w := by
  refine wpOp_want h hw ?_
  unfold ckcs at k
  refine wp_store_mid 76 _ _ hop g 0 _ hs ht ?_ (by kernel_rfl) (by kernel_rfl) ?_
  · intro j hj
    rw [Nat.zero_add, k.cell, k.frozen]
    have hj' : j < (#[Value.int .i64 b0.l0, .int .i64 b0.u0, .int .i64 b0.l1, .int .i64 b0.u1, .int .i64 b0.l2, .int .i64 b0.u2, .int .i64 b0.e0, .int .i64 b0.e1, .int .i64 b0.e2, .slice p0 b0.ls.length c0] : Array Value).size := hj
    exact ⟨by rw [Array.getElem?_eq_getElem hj']; rfl, rfl⟩
  · rw [hd]
    exact hK
/-- What the operations leave by which a book is opened, and kept in a variable. -/
def opR (b : Ck) (p : Option Addr) (c : Nat) (e : Int) (B : Nat) (f : Bool) (j : Nat) (u : Value) (w : World) : Prop :=
  match j with
  | 0 => u = .tuple #[ckV b p c, .int .i64 e]
  | 1 => u = .tuple #[ckV b p c, .int .i64 e]
  | 2 => u = ckV b p c
  | 3 => u = .int .i64 e
  | 4 => ∃ g, u = .pointer (some ⟨g, 0, none⟩) ∧ B ≤ g ∧ (f = false → Blk w g 76 (ckcs zeroC none 0)) ∧ (f = true → Blk w g 76 (ckcs b p c))
  | _ => True
theorem opR_kept {b : Ck} {p : Option Addr} {c : Nat} {e : Int} {B : Nat} {f : Bool} {j : Nat} {u : Value} {w w' : World} (h : opR b p c e B f j u w) (hb : Below w.heap.size w w') : opR b p c e B f j u w' := by
  match j, h with
  | 0, h => exact h
  | 1, h => exact h
  | 2, h => exact h
  | 3, h => exact h
  | 4, h => obtain ⟨g, h1, h2, h3, h4⟩ := h; exact ⟨g, h1, h2, fun e => (h3 e).bel hb, fun e => (h4 e).bel hb⟩
  | k + 5, h => trivial
/-- .. of Holds. -/
def holdR (b : Ck) (p : Option Addr) (c : Nat) (k : Int) (q : Bool) (b' : Ck) (p' : Option Addr) (c' : Nat) (e : Int) (B : Nat) (f : Bool) (i : Nat) (u : Value) (w : World) : Prop :=
  match i with
  | 0 => u = ckV b p c
  | 1 => u = .int .i64 k
  | 2 => u = .bool q
  | j + 3 => opR b' p' c' e B f j u w
theorem holdR_kept (b : Ck) (p : Option Addr) (c : Nat) (k : Int) (q : Bool) (b' : Ck) (p' : Option Addr) (c' : Nat) (e : Int) (B : Nat) (n k0 : Nat) : ∀ f i, i < n → i ≠ k0 → ∀ (v : Value) (w w' : World), holdR b p c k q b' p' c' e B f i v w → Below w.heap.size w w' → holdR b p c k q b' p' c' e B f i v w' := by
  intro f i _ _ v w w' h hb
  match i, h with
  | 0, h => exact h
  | 1, h => exact h
  | 2, h => exact h
  | j + 3, h => exact opR_kept (j := j) h hb
/-- .. of a question of one lot. -/
def lotR (b : Ck) (p : Option Addr) (c : Nat) (g : Nat) (x : Int) (q r : Bool) (b' : Ck) (p' : Option Addr) (c' : Nat) (e : Int) (B : Nat) (f : Bool) (i : Nat) (u : Value) (w : World) : Prop :=
  match i with
  | 0 => u = ckV b p c
  | 1 => u = .bool q
  | 2 => u = .bool q
  | 3 => q = true → u = .int .i64 x
  | 4 => q = true → u = .pointer (some ⟨g, 9, none⟩)
  | 5 => q = true → u = .slice p b.ls.length c
  | 6 => q = true → u = .int .i64 (b.ls.length : Int)
  | 7 => q = true → u = .int .i64 ((b.ls.length : Int) - 1)
  | 8 => q = true → u = .bool r
  | 9 => u = .bool (q && r)
  | j + 10 => opR b' p' c' e B f j u w
theorem lotR_kept (b : Ck) (p : Option Addr) (c : Nat) (g : Nat) (x : Int) (q r : Bool) (b' : Ck) (p' : Option Addr) (c' : Nat) (e : Int) (B : Nat) (n k0 : Nat) : ∀ f i, i < n → i ≠ k0 → ∀ (v : Value) (w w' : World), lotR b p c g x q r b' p' c' e B f i v w → Below w.heap.size w w' → lotR b p c g x q r b' p' c' e B f i v w' := by
  intro f i _ _ v w w' h hb
  match i, h with
  | 0, h => exact h
  | 1, h => exact h
  | 2, h => exact h
  | 3, h => exact h
  | 4, h => exact h
  | 5, h => exact h
  | 6, h => exact h
  | 7, h => exact h
  | 8, h => exact h
  | 9, h => exact h
  | j + 10, h => exact opR_kept (j := j) h hb
theorem LotsAt.cut {w : World} {b o k n : Nat} {l : List Lt} (h : LotsAt w (some ⟨b, o, none⟩) l) : LotsAt w (some ⟨b, o + k * 5, none⟩) (cutL l k n) := fun i s hi => by
  have hin : i < n := by
    have := (List.getElem?_eq_some_iff.1 hi).1
    unfold cutL at this
    rw [List.length_take] at this
    omega
  rw [cutL_get hin] at hi
  obtain ⟨b', o', e, h1, h2⟩ := h (k + i) s hi
  cases e
  rw [show o + (k + i) * 5 = o + k * 5 + i * 5 by omega] at h2
  exact ⟨_, _, rfl, h1, h2⟩
attribute [local go_sem] Oper.semAt_some frozen_alloc_lt
set_option maxRecDepth 100000 in
set_option maxHeartbeats 8000000 in
theorem bHolds_any (b : Ck) (p : Option Addr) (c : Nat) (x e lo hi : Int) (q : Bool) (w : World) (hk : CB w b p) (hq : inV x 0 2 = q) (he : openE b q = e) (ha : AnsC b (fun m _ => m.at x.toNat) e lo hi) :
    Calls Try.prog 18 #[ckV b p c, .int .i64 x] w fun e' w' => e' = .returned (.tuple #[.agg #[.int .i64 lo, .int .i64 hi], .int .i64 e]) ∧ ∃ x, w' = ext w x := by
  have HK := Lib.hid hk
  have HA := Lib.hid ha
  have HE := Lib.hid he
  have HQ := Lib.hid hq
  obtain ⟨b', p', c', hop, hbp⟩ := op_form b p c e
  have HBP := Lib.hid hbp
  have HO := Lib.hid (show ∀ W, CB W b p → Calls Try.prog 62 #[ckV b p c, .bool q] W fun e' w' => e' = .returned (.tuple #[ckV b' p' c', .int .i64 e]) ∧ ∃ x, w' = ext W x from fun W h => hop ▸ open_any b p c q e W h he)
  have HAN := Lib.hid (show e = 0 → ∀ W, CB W b p → Calls Try.prog 64 #[ckV b p c, .int .i64 x] W fun e w' => e = .returned (.agg #[.int .i64 lo, .int .i64 hi]) ∧ ∃ x, w' = ext W x from fun h0 W h1 => by
    obtain ⟨h3, h4, h5⟩ := openE_yes (he.trans h0)
    rw [h4] at hq
    have hx := of_inV hq
    have h6 := holds_any b p c x.toNat (by omega) W (cell_holds h3) (cell_bk h3) h1 h5
    rw [show ((x.toNat : Nat) : Int) = x by omega] at h6
    refine h6.mono ?_
    rintro e1 w1 ⟨l, u, rfl, h7, hx⟩
    obtain ⟨rfl, rfl⟩ := h7.uniq (ha.yes h0)
    exact ⟨rfl, hx⟩)
  clear hk ha he hop hbp hq
  unfold ckV
  go_enter Try.func18, Try.ntmps18
  go_upto_region 1 with fail
  generalize hV : World.alloc _ _ = V
  have hBV : Below w.heap.size w V := by rw [← hV]; (exact belA)
  have kc : Blk V w.heap.size 28 (ckcs b p c) := by rw [← hV]; exact (Blk.new rfl).alloc _
  have kr : Blk V (w.heap.size + 1) 23 #[.int .i64 0, .int .i64 0] := by rw [← hV]; exact Blk.new (by simp)
  have HBV := Lib.hid hBV
  have KC := Lib.hid kc
  have KR := Lib.hid kr
  have HCV := Lib.hid (HK.out.bel hBV)
  have hzV := hBV.size
  clear hV hBV kr kc
  refine wp_region_flow_backS 9 22 8 (fun _ => True) (holdR b p c x q b' p' c' e V.heap.size) (by kernel_rfl) (by kernel_rfl) rfl (by omega) (holdR_kept _ _ _ _ _ _ _ _ _ _ _ _) (fun _ _ h _ => h) ?_ ?_ ?_
  · intro i hin hik f a X g1 g2 g3 g4 g5 hfw KK hKK
    match i, hin with
    | 0, _ => exact st_val rfl (wanted_none rfl) (run_lBulk _ rfl (g3 2 (by kernel_rfl)) (KC.out.bel g5)) (hKK _ _ rfl (Below.refl _ _))
    | 1, _ => exact st_move rfl rfl (wanted_none rfl) (g3 1 (by kernel_rfl)) (hKK _ _ rfl (Below.refl _ _))
    | 2, _ =>
      refine st_call rfl rfl (wanted_none rfl) (sargs1 (g4 1 (by decide) (by kernel_rfl))) (run_enter Try.func63 (by kernel_rfl) (by kernel_rfl) _) ?_
      refine (bKind_eq x q _ HQ.out).mono ?_
      rintro e' w1 ⟨rfl, rfl⟩
      exact ⟨_, rfl, hKK _ _ rfl (Below.refl _ _)⟩
    | 3, _ =>
      refine st_call rfl rfl (wanted_none rfl) (args2 (g4 0 (by decide) (by kernel_rfl)) (g4 2 (by decide) (by kernel_rfl))) (run_enter Try.func62 (by kernel_rfl) (by kernel_rfl) _) ?_
      refine (HO.out _ (HCV.out.bel g5)).mono ?_
      rintro e' w1 ⟨rfl, x, rfl⟩
      exact ⟨_, rfl, hKK _ _ rfl (below_ext _ x)⟩
    | 4, _ => exact st_move rfl rfl (wanted_none rfl) (g4 3 (by decide) (by kernel_rfl)) (hKK _ _ rfl (Below.refl _ _))
    | 5, _ => exact st_val rfl (wanted_none rfl) (run_ext0 _ rfl (g4 4 (by decide) (by kernel_rfl))) (hKK _ _ rfl (Below.refl _ _))
    | 6, _ => exact st_val rfl (wanted_none rfl) (run_ext1 _ rfl (g4 4 (by decide) (by kernel_rfl))) (hKK _ _ rfl (Below.refl _ _))
    | 7, _ =>
      cases f with
      | true =>
        have e := hfw rfl
        have e2 : true = false := Eq.trans (by kernel_rfl) e
        cases e2
      | false => exact st_valw rfl (wanted_none rfl) (run_aCellar _ rfl) (hKK _ _ ⟨_, rfl, g5.size, fun _ => Blk.new rfl, fun e => by cases e⟩ ((Below.refl _ _).alloc (Nat.le_refl _) _))
    | 8, _ => exact absurd rfl hik
    | k + 9, hk => omega
  · intro a X g1 g2 g3 g4 g5 KK hKK
    obtain ⟨ba, e1, e2, e3, -⟩ := g4 7 (by decide) (by kernel_rfl)
    have t1 := g4 5 (by decide) (by kernel_rfl)
    refine st_store_cellar rfl (wanted_none rfl) rfl rfl e1 t1 (e3 rfl) (hKK _ trivial (fun j hj hjk hr => ?_) (put10_below (Below.refl _ _) (by omega) _ _ _))
    match j, hj with
    | 0, _ => exact hr
    | 1, _ => exact hr
    | 2, _ => exact hr
    | 3, _ => exact hr
    | 4, _ => exact hr
    | 5, _ => exact hr
    | 6, _ => exact hr
    | 7, _ =>
      obtain ⟨ba', d1, d2, -, -⟩ := hr
      have hbb : ba' = ba := by
        have := e1.symm.trans d1
        simpa using this.symm
      subst hbb
      exact ⟨_, d1, d2, (fun e => by cases e), fun _ => put10_blk (e3 rfl)⟩
    | 8, _ => exact absurd rfl hjk
    | k + 9, hk => omega
  · intro vs T hvs _ hBT
    have v0 : vs 0 = _ := hvs 0 (by omega) (by decide)
    have v1 : vs 1 = _ := hvs 1 (by omega) (by decide)
    have v2 : vs 2 = _ := hvs 2 (by omega) (by decide)
    have v3 : vs 3 = _ := hvs 3 (by omega) (by decide)
    have v4 : vs 4 = _ := hvs 4 (by omega) (by decide)
    have v5 : vs 5 = _ := hvs 5 (by omega) (by decide)
    have v6 : vs 6 = _ := hvs 6 (by omega) (by decide)
    obtain ⟨gC, v7, hgC, -, hkC⟩ := hvs 7 (by omega) (by decide)
    simp only [putSkip, Nat.reduceEqDiff, reduceIte, v0, v1, v2, v3, v4, v5, v6, v7]
    clear v0 v1 v2 v3 v4 v5 v6 v7 hvs
    simp only [dstOf, Act.put, List.getElem?_toArray, List.getElem?_cons_zero, List.getElem?_cons_succ, Option.bind_some, Option.getD_some, List.setIfInBounds_toArray, List.set_cons_succ, List.set_cons_zero, List.drop_succ_cons, List.drop_zero]
    have HBT := Lib.hid (HBV.out.trans (hBT.mono hzV))
    have kr := KR.out.bel hBT
    have KRX := Lib.hid kr
    have hK := hkC rfl
    have KX := Lib.hid hK
    obtain ⟨r0, r1⟩ := Blk.c2 kr
    obtain ⟨f0, f1⟩ := Blk.f2 kr
    have lrX := kr.lt
    have hzT := hBT.size
    have HCT := Lib.hid (HCV.out.bel hBT)
    clear kr hkC hK hBT
    by_cases h0 : e = 0
    · obtain ⟨rfl, rfl, rfl⟩ := HBP.out h0
      subst h0
      have kX := KX.out
      unfold ckcs at kX
      have m0 := kX.cell 0
      have m1 := kX.cell 1
      have m2 := kX.cell 2
      have m3 := kX.cell 3
      have m4 := kX.cell 4
      have m5 := kX.cell 5
      have m6 := kX.cell 6
      have m7 := kX.cell 7
      have m8 := kX.cell 8
      have m9 := kX.cell 9
      simp only [List.size_toArray, List.length_cons, List.length_nil, Nat.reduceAdd, Nat.reduceLT, getElem?_pos, List.getElem_toArray, List.getElem_cons_zero, List.getElem_cons_succ] at m0 m1 m2 m3 m4 m5 m6 m7 m8 m9
      have lX := kX.lt
      clear kX
      go_wp2_with (go_at_call 64; refine (HAN.out rfl _ HCT.out).mono ?_; rintro e' w2 ⟨rfl, y2, hw⟩; have HB2 := Lib.hid (show Below T.heap.size T w2 by rw [hw]; exact below_ext _ _); clear hw; have kr2 := KRX.out.bel HB2.out; have KR2 := Lib.hid kr2; obtain ⟨r0, r1⟩ := Blk.c2 kr2; have f0 := kr2.frozen 0; have f1 := kr2.frozen 1; have lr2 := kr2.lt; clear kr2)
      have hF := KR2.out.setB2 (.int .i64 lo) (.int .i64 hi)
      have hBF := ((HBT.out.trans (HB2.out.mono HBT.out.size)).setCell (p := ⟨w.heap.size + 1, 0, none⟩) (by dsimp only; omega) (.int .i64 lo)).setCell (p := ⟨w.heap.size + 1, 1, none⟩) (by dsimp only; omega) (.int .i64 hi)
      obtain ⟨d0, d1⟩ := Blk.c2 hF
      have lD := hF.lt
      refine bodyPost_ret (v := .tuple #[.agg #[.int .i64 lo, .int .i64 hi], .int .i64 0]) (by simp [results, Try.results18, go_sem, d0, d1, lD]) rfl ⟨rfl, ext_of hBF⟩
    · obtain ⟨rfl, rfl⟩ := HA.out.no h0
      have hne : (e != 0) = true := by simpa using h0
      have hne2 : (e == 0) = false := by simpa using h0
      clear h0
      go_wp2_with fail
      have hF := KRX.out.setB2 (.int .i64 0) (.int .i64 0)
      have hBF := (HBT.out.setCell (p := ⟨w.heap.size + 1, 0, none⟩) (by dsimp only; omega) (.int .i64 0)).setCell (p := ⟨w.heap.size + 1, 1, none⟩) (by dsimp only; omega) (.int .i64 0)
      obtain ⟨d0, d1⟩ := Blk.c2 hF
      have lD := hF.lt
      refine bodyPost_ret (v := .tuple #[.agg #[.int .i64 0, .int .i64 0], .int .i64 e]) (by simp [results, Try.results18, go_sem, d0, d1, lD]) rfl ⟨rfl, ext_of hBF⟩
set_option maxRecDepth 100000 in
set_option maxHeartbeats 8000000 in
theorem ofLot_any (b : Ck) (p : Option Addr) (c : Nat) (Q : Qs) (fn : FuncId) (lb : Array Value) (x e lo hi : Int) (q r : Bool) (w : World) (hk : CB w b p) (hQ : e = 0 → QAt w fn lb Q) (hr : inV x 0 ((b.ls.length : Int) - 1) = r) (hlen : (b.ls.length : Int) ≤ 9223372036854775807) (hcap : b.ls.length ≤ c) (he : openE b (q && r) = e) (ha : AnsC b (gSum Q x.toNat 1) e lo hi) :
    Calls Try.prog 67 #[ckV b p c, .int .i64 x, .bool q, qsV fn lb] w fun e' w' => e' = .returned (.tuple #[.agg #[.int .i64 lo, .int .i64 hi], .int .i64 e]) ∧ ∃ x, w' = ext w x := by
  have HK := Lib.hid hk
  have HA := Lib.hid ha
  have HE := Lib.hid he
  have HR := Lib.hid hr
  have HQ := Lib.hid hQ
  have HLN := Lib.hid hlen
  obtain ⟨b', p', c', hop, hbp⟩ := op_form b p c e
  have HBP := Lib.hid hbp
  have HO := Lib.hid (show ∀ W, CB W b p → Calls Try.prog 62 #[ckV b p c, .bool (q && r)] W fun e' w' => e' = .returned (.tuple #[ckV b' p' c', .int .i64 e]) ∧ ∃ x, w' = ext W x from fun W h => hop ▸ open_any b p c (q && r) e W h he)
  clear hk ha he hop hbp hr hQ hlen
  unfold ckV qsV
  go_enter Try.func67, Try.ntmps67
  go_upto_region 1 with fail
  generalize hV : World.alloc _ _ = V
  have hBV : Below w.heap.size w V := by rw [← hV]; (exact belA)
  have kc : Blk V w.heap.size 28 (ckcs b p c) := by rw [← hV]; exact ((Blk.new rfl).alloc _).alloc _
  have kq : Blk V (w.heap.size + 1) 91 #[.func (.func fn) #[] lb] := by rw [← hV]; exact (Blk.new (by simp)).alloc _
  have kr : Blk V (w.heap.size + 1 + 1) 23 #[.int .i64 0, .int .i64 0] := by rw [← hV]; exact Blk.new (by simp)
  have HBV := Lib.hid hBV
  have KC := Lib.hid kc
  have KQ := Lib.hid kq
  have KR := Lib.hid kr
  have HCV := Lib.hid (HK.out.bel hBV)
  have hzV := hBV.size
  clear hV hBV kr kc kq
  refine wp_region_flow_backS 16 42 15 (fun _ => True) (lotR b p c w.heap.size x q r b' p' c' e V.heap.size) (by kernel_rfl) (by kernel_rfl) rfl (by omega) (lotR_kept _ _ _ _ _ _ _ _ _ _ _ _ _ _) (fun _ _ h _ => h) ?_ ?_ ?_
  · intro i hin hik f a X g1 g2 g3 g4 g5 hfw KK hKK
    have kX := KC.out.bel g5
    match i, hin with
    | 0, _ => exact st_val rfl (wanted_none rfl) (run_lBulk _ rfl (g3 4 (by kernel_rfl)) kX) (hKK _ _ rfl (Below.refl _ _))
    | 1, _ => exact st_move rfl rfl (wanted_none rfl) (g3 2 (by kernel_rfl)) (hKK _ _ rfl (Below.refl _ _))
    | 2, _ => exact st_move rfl rfl (wanted_none rfl) (g4 1 (by decide) (by kernel_rfl)) (hKK _ _ rfl (Below.refl _ _))
    | 3, _ =>
      have hg := g4 2 (by decide) (by kernel_rfl)
      cases q with
      | false => exact st_skipB rfl (wanted_notB rfl rfl hg) (hKK _ _ (fun h => by cases h) (Below.refl _ _))
      | true => exact st_move rfl rfl (wanted_some rfl rfl hg) (g3 1 (by kernel_rfl)) (hKK _ _ (fun _ => rfl) (Below.refl _ _))
    | 4, _ =>
      have hg := g4 2 (by decide) (by kernel_rfl)
      cases q with
      | false => exact st_skipB rfl (wanted_notB rfl rfl hg) (hKK _ _ (fun h => by cases h) (Below.refl _ _))
      | true => exact st_val rfl (wanted_some rfl rfl hg) (run_fBulk2 _ rfl (g3 4 (by kernel_rfl)) kX.lt) (hKK _ _ (fun _ => rfl) (Below.refl _ _))
    | 5, _ =>
      have hg := g4 2 (by decide) (by kernel_rfl)
      have h4 := g4 4 (by decide) (by kernel_rfl)
      cases q with
      | false => exact st_skipB rfl (wanted_notB rfl rfl hg) (hKK _ _ (fun h => by cases h) (Below.refl _ _))
      | true => exact st_val rfl (wanted_some rfl rfl hg) (run_lLots _ rfl (h4 rfl) (Blk.cell kX 9)) (hKK _ _ (fun _ => rfl) (Below.refl _ _))
    | 6, _ =>
      have hg := g4 2 (by decide) (by kernel_rfl)
      have h4 := g4 5 (by decide) (by kernel_rfl)
      cases q with
      | false => exact st_skipB rfl (wanted_notB rfl rfl hg) (hKK _ _ (fun h => by cases h) (Below.refl _ _))
      | true => exact st_val rfl (wanted_some rfl rfl hg) (run_lenLots _ rfl (h4 rfl)) (hKK _ _ (fun _ => rfl) (Below.refl _ _))
    | 7, _ =>
      have hg := g4 2 (by decide) (by kernel_rfl)
      have h4 := g4 6 (by decide) (by kernel_rfl)
      cases q with
      | false => exact st_skipB rfl (wanted_notB rfl rfl hg) (hKK _ _ (fun h => by cases h) (Below.refl _ _))
      | true => exact st_val rfl (wanted_some rfl rfl hg) (run_dec _ rfl (h4 rfl) rfl (IntWalk.i64_in _ (by have := HLN.out; omega))) (hKK _ _ (fun _ => rfl) (Below.refl _ _))
    | 8, _ =>
      have hg := g4 2 (by decide) (by kernel_rfl)
      have h3 := g4 3 (by decide) (by kernel_rfl)
      have h4 := g4 7 (by decide) (by kernel_rfl)
      cases q with
      | false => exact st_skipB rfl (wanted_notB rfl rfl hg) (hKK _ _ (fun h => by cases h) (Below.refl _ _))
      | true =>
        refine st_call rfl rfl (wanted_some rfl rfl hg) (args_tct (h3 rfl) (h4 rfl)) (run_enter Try.func89 (by kernel_rfl) (by kernel_rfl) _) ?_
        refine (bWithin_eq x 0 ((b.ls.length : Int) - 1) r _ HR.out).mono ?_
        rintro e' w1 ⟨rfl, rfl⟩
        exact ⟨_, rfl, hKK _ _ (fun _ => rfl) (Below.refl _ _)⟩
    | 9, _ =>
      have hg := g4 2 (by decide) (by kernel_rfl)
      have h8 := g4 8 (by decide) (by kernel_rfl)
      cases q with
      | false => exact st_pick rfl rfl (wanted_none rfl) hg rfl (hKK _ _ rfl (Below.refl _ _))
      | true => exact st_pick (v := .bool r) rfl rfl (wanted_none rfl) hg (h8 rfl) (hKK _ _ rfl (Below.refl _ _))
    | 10, _ =>
      refine st_call rfl rfl (wanted_none rfl) (args2 (g4 0 (by decide) (by kernel_rfl)) (g4 9 (by decide) (by kernel_rfl))) (run_enter Try.func62 (by kernel_rfl) (by kernel_rfl) _) ?_
      refine (HO.out _ (HCV.out.bel g5)).mono ?_
      rintro e' w1 ⟨rfl, x, rfl⟩
      exact ⟨_, rfl, hKK _ _ rfl (below_ext _ x)⟩
    | 11, _ => exact st_move rfl rfl (wanted_none rfl) (g4 10 (by decide) (by kernel_rfl)) (hKK _ _ rfl (Below.refl _ _))
    | 12, _ => exact st_val rfl (wanted_none rfl) (run_ext0 _ rfl (g4 11 (by decide) (by kernel_rfl))) (hKK _ _ rfl (Below.refl _ _))
    | 13, _ => exact st_val rfl (wanted_none rfl) (run_ext1 _ rfl (g4 11 (by decide) (by kernel_rfl))) (hKK _ _ rfl (Below.refl _ _))
    | 14, _ =>
      cases f with
      | true =>
        have e := hfw rfl
        have e2 : true = false := Eq.trans (by kernel_rfl) e
        cases e2
      | false => exact st_valw rfl (wanted_none rfl) (run_aCellar _ rfl) (hKK _ _ ⟨_, rfl, g5.size, fun _ => Blk.new rfl, fun e => by cases e⟩ ((Below.refl _ _).alloc (Nat.le_refl _) _))
    | 15, _ => exact absurd rfl hik
    | k + 16, hk => omega
  · intro a X g1 g2 g3 g4 g5 KK hKK
    obtain ⟨ba, e1, e2, e3, -⟩ := g4 14 (by decide) (by kernel_rfl)
    have t1 := g4 12 (by decide) (by kernel_rfl)
    refine st_store_cellar rfl (wanted_none rfl) rfl rfl e1 t1 (e3 rfl) (hKK _ trivial (fun j hj hjk hr => ?_) (put10_below (Below.refl _ _) (by omega) _ _ _))
    match j, hj with
    | 0, _ => exact hr
    | 1, _ => exact hr
    | 2, _ => exact hr
    | 3, _ => exact hr
    | 4, _ => exact hr
    | 5, _ => exact hr
    | 6, _ => exact hr
    | 7, _ => exact hr
    | 8, _ => exact hr
    | 9, _ => exact hr
    | 10, _ => exact hr
    | 11, _ => exact hr
    | 12, _ => exact hr
    | 13, _ => exact hr
    | 14, _ =>
      obtain ⟨ba', d1, d2, -, -⟩ := hr
      have hbb : ba' = ba := by
        have := e1.symm.trans d1
        simpa using this.symm
      subst hbb
      exact ⟨_, d1, d2, (fun e => by cases e), fun _ => put10_blk (e3 rfl)⟩
    | 15, _ => exact absurd rfl hjk
    | k + 16, hk => omega
  · intro vs T hvs _ hBT
    have v0 : vs 0 = _ := hvs 0 (by omega) (by decide)
    have v1 : vs 1 = _ := hvs 1 (by omega) (by decide)
    have v2 : vs 2 = _ := hvs 2 (by omega) (by decide)
    obtain ⟨x3, v3⟩ : ∃ x, vs 3 = x := ⟨_, rfl⟩
    obtain ⟨x4, v4⟩ : ∃ x, vs 4 = x := ⟨_, rfl⟩
    obtain ⟨x5, v5⟩ : ∃ x, vs 5 = x := ⟨_, rfl⟩
    obtain ⟨x6, v6⟩ : ∃ x, vs 6 = x := ⟨_, rfl⟩
    obtain ⟨x7, v7⟩ : ∃ x, vs 7 = x := ⟨_, rfl⟩
    obtain ⟨x8, v8⟩ : ∃ x, vs 8 = x := ⟨_, rfl⟩
    have v9 : vs 9 = _ := hvs 9 (by omega) (by decide)
    have v10 : vs 10 = _ := hvs 10 (by omega) (by decide)
    have v11 : vs 11 = _ := hvs 11 (by omega) (by decide)
    have v12 : vs 12 = _ := hvs 12 (by omega) (by decide)
    have v13 : vs 13 = _ := hvs 13 (by omega) (by decide)
    obtain ⟨gC, v14, hgC, -, hkC⟩ := hvs 14 (by omega) (by decide)
    simp only [putSkip, Nat.reduceEqDiff, reduceIte, v0, v1, v2, v3, v4, v5, v6, v7, v8, v9, v10, v11, v12, v13, v14]
    clear v0 v1 v2 v3 v4 v5 v6 v7 v8 v9 v10 v11 v12 v13 v14 hvs
    simp only [dstOf, Act.put, List.getElem?_toArray, List.getElem?_cons_zero, List.getElem?_cons_succ, Option.bind_some, Option.getD_some, List.setIfInBounds_toArray, List.set_cons_succ, List.set_cons_zero, List.drop_succ_cons, List.drop_zero]
    have HBT := Lib.hid (HBV.out.trans (hBT.mono hzV))
    have kr := KR.out.bel hBT
    have KRX := Lib.hid kr
    have hK := hkC rfl
    have KX := Lib.hid hK
    obtain ⟨r0, r1⟩ := Blk.c2 kr
    obtain ⟨f0, f1⟩ := Blk.f2 kr
    have lrX := kr.lt
    have hzT := hBT.size
    have HCT := Lib.hid (HCV.out.bel hBT)
    have kq := KQ.out.bel hBT
    have q0 := Blk.c1 kq
    have lq := kq.lt
    have HQT := Lib.hid (show e = 0 → QAt T fn lb Q from fun h => (HQ.out h).bel HBT.out)
    clear kr hkC hK hBT kq
    by_cases h0 : e = 0
    · obtain ⟨rfl, rfl, rfl⟩ := HBP.out h0
      subst h0
      obtain ⟨h3, h4, h5⟩ := openE_yes HE.out
      rw [Bool.and_eq_true] at h4
      have hx := of_inV (HR.out.trans h4.2)
      obtain ⟨k, rfl⟩ : ∃ k : Nat, x = (k : Int) := ⟨x.toNat, by omega⟩
      have hkn : k < b'.ls.length := by omega
      have HV := Lib.hid (cell_holds h3)
      have HBK := Lib.hid (cell_bk h3)
      have hn4 := HBK.out.n
      obtain ⟨s, hs⟩ := get_some b'.ls k hkn
      obtain ⟨b1, oo, rfl, hb1, t0, t1, t2, t3, t4⟩ := lots_cells HCT.out.ls hs
      have HEN := Lib.hid (HA.out.yes rfl)
      have kX := KX.out
      unfold ckcs at kX
      have m0 := kX.cell 0
      have m1 := kX.cell 1
      have m2 := kX.cell 2
      have m3 := kX.cell 3
      have m4 := kX.cell 4
      have m5 := kX.cell 5
      have m6 := kX.cell 6
      have m7 := kX.cell 7
      have m8 := kX.cell 8
      have m9 := kX.cell 9
      simp only [List.size_toArray, List.length_cons, List.length_nil, Nat.reduceAdd, Nat.reduceLT, getElem?_pos, List.getElem_toArray, List.getElem_cons_zero, List.getElem_cons_succ] at m0 m1 m2 m3 m4 m5 m6 m7 m8 m9
      have lX := kX.lt
      clear kX h3 h4 h5 hs t0 t1 t2 t3 t4
      obtain ⟨n, hn⟩ : ∃ n, b'.ls.length = n := ⟨_, rfl⟩
      have HNL := Lib.hid hn
      rw [hn] at hkn hcap hn4 m9
      clear hx hn
      go_upto_region 4 with fail
      have HAN := Lib.hid (show ∀ y : Grow T, Calls Try.prog 91 #[.agg #[.int .i64 b'.l0, .int .i64 b'.u0, .int .i64 b'.l1, .int .i64 b'.u1, .int .i64 b'.l2, .int .i64 b'.u2, .int .i64 b'.e0, .int .i64 b'.e1, .int .i64 b'.e2, .slice (some ⟨b1, oo, none⟩) n c'], qsV fn lb, .slice (some ⟨b1, oo + k * 5, none⟩) 1 1] (ext T y) fun e w' => e = .returned (.agg #[.int .i64 lo, .int .i64 hi]) ∧ ∃ x, w' = ext (ext T y) x from fun y => by
        have h := answer_at b' (some ⟨b1, oo, none⟩) c' Q fn lb (some ⟨b1, oo + k * 5, none⟩) 1 k 1 lo hi (ext T y) HV.out HBK.out (HCT.out.bel (below_ext T y)) ((HQT.out rfl).bel (below_ext T y)) ((HCT.out.bel (below_ext T y)).ls.cut) (by have := HNL.out; omega) HEN.out
        unfold ckV at h
        rw [HNL.out] at h
        exact h)
      have w1 : wrap64 ((k : Int) + 1) = (k : Int) + 1 := by unfold wrap64; omega
      have k0 : (0 : Int) ≤ (k : Int) := by omega
      have k1 : (k : Int) ≤ (k : Int) + 1 := by omega
      have k2 : (k : Int) + 1 ≤ (n : Int) := by omega
      have k3 : (k : Int) + 1 ≤ (c' : Int) := by omega
      refine wp_region_ext_tail 12 (by kernel_rfl) (by kernel_rfl) ?_
      simp only [List.take_succ_cons, List.take_zero, List.drop_succ_cons, List.drop_zero]
      repeat (go_big_quiet_step (first | (go_at_call 91; exact quiet_ext (HAN.out _))))
      refine wpQuiet_nil ?_; rintro _ ⟨y1, rfl⟩
      have HB1 := Lib.hid (HBT.out.trans ((below_ext T y1).mono HBT.out.size))
      have hF := (KRX.out.bel (below_ext T y1)).setB2 (.int .i64 lo) (.int .i64 hi)
      have hBF := (HB1.out.setCell (p := ⟨w.heap.size + 1 + 1, 0, none⟩) (by dsimp only; omega) (.int .i64 lo)).setCell (p := ⟨w.heap.size + 1 + 1, 1, none⟩) (by dsimp only; omega) (.int .i64 hi)
      obtain ⟨d0, d1⟩ := Blk.c2 hF
      have lD := hF.lt
      have HF := Lib.hid hF
      have HBF := Lib.hid hBF
      clear hF hBF d0 d1 lD
      go_wp2_with fail
      have hF := HF.out
      obtain ⟨d0, d1⟩ := Blk.c2 hF
      have lD := hF.lt
      refine bodyPost_ret (v := .tuple #[.agg #[.int .i64 lo, .int .i64 hi], .int .i64 0]) (by simp [results, Try.results67, go_sem, d0, d1, lD]) rfl ⟨rfl, ext_of HBF.out⟩
    · obtain ⟨rfl, rfl⟩ := HA.out.no h0
      have hne : (e != 0) = true := by simpa using h0
      have hne2 : (e == 0) = false := by simpa using h0
      clear h0
      go_wp2_with fail
      have hF := KRX.out.setB2 (.int .i64 0) (.int .i64 0)
      have hBF := (HBT.out.setCell (p := ⟨w.heap.size + 1 + 1, 0, none⟩) (by dsimp only; omega) (.int .i64 0)).setCell (p := ⟨w.heap.size + 1 + 1, 1, none⟩) (by dsimp only; omega) (.int .i64 0)
      obtain ⟨d0, d1⟩ := Blk.c2 hF
      have lD := hF.lt
      refine bodyPost_ret (v := .tuple #[.agg #[.int .i64 0, .int .i64 0], .int .i64 e]) (by simp [results, Try.results67, go_sem, d0, d1, lD]) rfl ⟨rfl, ext_of hBF⟩
end Go.Proofs.Ytpiadbdkiibdbaa

