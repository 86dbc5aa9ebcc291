/- For the laws of package tide: side. Written by gen_side.py. -/
import Derived.Test.YtcaeohgbgeadaaaGreatDoorQOf
import Derived.RegionTactic
set_option linter.unusedSimpArgs false
set_option linter.unusedVariables false
namespace Go.Proofs.YtcaeohgbgeadaaaGreatDoor
open Go Go.RowKit Go.Shelf
section
variable {o : Oper} {w : World} {g j t s u : Nat} (ρ : Operand → Value)
theorem run_spanAt {x y : Int} (hop : o.op = .load 23 (.tmp t)) (hs : ρ (.tmp t) = .pointer (some ⟨g, j, none⟩)) (c0 : w.cell? ⟨g, j, none⟩ = some (.int .i64 x)) (c1 : w.cell? ⟨g, j + 1, none⟩ = some (.int .i64 y)) : (execOp ρ o).run Tryz.prog w = .ok (.value (.agg #[.int .i64 x, .int .i64 y])) w := by
  unfold execOp; simp [hop, hs, go_sem, c0, c1]
theorem run_fGaleB (hop : o.op = .fieldAddr 29 (.tmp t) 3) (hs : ρ (.tmp t) = .pointer (some ⟨g, 0, none⟩)) (hl : g < w.heap.size) : (execOp ρ o).run Tryz.prog w = .ok (.value (.pointer (some ⟨g, 5, none⟩))) w := by
  unfold execOp; simp [hop, hs, go_sem, hl]
theorem run_known {x y z : Int} (hop : o.op = .build 47 #[(0, .tmp t), (1, .tmp s), (3, .tmp u)]) (h1 : ρ (.tmp t) = .int .i64 x) (h2 : ρ (.tmp s) = .int .i64 y) (h3 : ρ (.tmp u) = .int .i64 z) : (execOp ρ o).run Tryz.prog w = .ok (.value (.agg #[.int .i64 x, .int .i64 y, .slice none 0 0, .int .i64 z])) w := by
  unfold execOp; simp [hop, h1, h2, h3, go_sem]
theorem run_allocK (hop : o.op = .alloc 47) : (execOp ρ o).run Tryz.prog w = .ok (.value (.pointer (some ⟨w.heap.size, 0, none⟩))) (w.alloc (.cells #[.int .i64 0, .int .i64 0, .slice none 0 0, .int .i64 0] 47)) := by
  unfold execOp; simp [hop, go_sem]
end
def sideR (gb n0 : Nat) (q1 q2 q3 : Bool) (hl hh rl rh glo ghi : Int) (i : Nat) (u : Value) (w : World) : Prop :=
  match i with
  | 0 => u = .agg #[.int .i64 hl, .int .i64 hh]
  | 1 => u = .bool q1
  | 2 => u = .int .i64 (endN q1 hl hh)
  | 3 => u = .agg #[.int .i64 rl, .int .i64 rh]
  | 4 => u = .bool q2
  | 5 => u = .int .i64 (endN q2 rl rh)
  | 6 => u = .pointer (some ⟨gb, 5, none⟩)
  | 7 => u = .agg #[.int .i64 glo, .int .i64 ghi]
  | 8 => u = .bool q3
  | 9 => u = .int .i64 (endN q3 glo ghi)
  | 10 => u = .agg #[.int .i64 (endN q1 hl hh), .int .i64 (endN q2 rl rh), .slice none 0 0, .int .i64 (endN q3 glo ghi)]
  | 11 => ∃ g, u = .pointer (some ⟨g, 0, none⟩) ∧ n0 ≤ g ∧ Blk w g 47 #[.int .i64 0, .int .i64 0, .slice none 0 0, .int .i64 0]
  | _ => True
theorem sideR_kept (gb n0 : Nat) (q1 q2 q3 : Bool) (hl hh rl rh glo ghi : Int) : ∀ (i : Nat), i < 12 → ∀ (u : Value) (w w' : World), sideR gb n0 q1 q2 q3 hl hh rl rh glo ghi i u w → Below w.heap.size w w' → sideR gb n0 q1 q2 q3 hl hh rl rh glo ghi i u w' := by
  intro i hi u w w' h hb
  rcases (show i = 0 ∨ i = 1 ∨ i = 2 ∨ i = 3 ∨ i = 4 ∨ i = 5 ∨ i = 6 ∨ i = 7 ∨ i = 8 ∨ i = 9 ∨ i = 10 ∨ i = 11 by omega) with hi0 | hi0 | hi0 | hi0 | hi0 | hi0 | hi0 | hi0 | hi0 | hi0 | hi0 | hi0
  all_goals subst hi0
  all_goals first
    | exact h
    | (obtain ⟨g, h1, h2, h3⟩ := h; exact ⟨g, h1, h2, h3.bel hb⟩)
/-- An append of a number to a call's own list, as a step. -/
theorem st_append_intO {ops : Array Oper} {Q : Exit → Act → World → Prop} {i : Nat} {o : Oper} {K : Act → World → Prop} {a : Act} {w : World} (h : ops[i]? = some o) (hw : Region.wanted o (yielded ops a.tmps) = true) (s x : Operand)
    (ho : o.op = .call { callee := .builtin .append, args := #[s, x], argTypes := #[30, 30] }) (B : Nat)
    (v : Value) (l : List Int) (hs : a.eval s = v) (hown : OwnInts w B v l) (g : Nat) (y : Int) (hx : a.eval x = .slice (some ⟨g, 0, none⟩) 1 1) (hc : Blk w g 3 #[.int .i64 y])
    (hl : l.length ≤ 1000) (hB : B ≤ w.heap.size)
    (hK : ∀ v' w', OwnInts w' B v' (l ++ [y]) → w.grownBy w' v.ownBlock → K (a.put o.dst v') w') : wpOp Tryz.prog ops Q i K a w := by
  refine wpOp_want h hw ?_
  obtain ⟨i0, hi, hz0, hz1, hz2⟩ := info_parts info_numT
  refine wp_append_own w s x 30 ho B 3 i0 (.int .i64 0) 1 8 under_numsT hi hz0 hz1 hz2 rfl (by decide) v l.length _ hs hown ⟨g, 0, none⟩ 1 1 [.int .i64 y] hx rfl ?_ ?_ ?_ ?_ hB ?_
  · intro j u hj
    match j, hj with
    | 0, hj => simp at hj; subst hj; simpa [Addr.add] using hc.cell 0
  · intro u hu; simp at hu; subst hu; rfl
  · unfold maxLen; omega
  · omega
  · intro v' w' h1 h2 _
    refine hK v' w' ?_ h2
    unfold OwnInts
    simpa using h1
section
variable {o : Oper} {w : World} {g j t s u : Nat} (ρ : Operand → Value)
theorem run_fRooms (hop : o.op = .fieldAddr 47 (.tmp t) 2) (hs : ρ (.tmp t) = .pointer (some ⟨g, 0, none⟩)) (hl : g < w.heap.size) : (execOp ρ o).run Tryz.prog w = .ok (.value (.pointer (some ⟨g, 2, none⟩))) w := by
  unfold execOp; simp [hop, hs, go_sem, hl]
theorem run_lInts {x : Value} (hop : o.op = .load 30 (.tmp t)) (hs : ρ (.tmp t) = .pointer (some ⟨g, j, none⟩)) (c0 : w.cell? ⟨g, j, none⟩ = some x) : (execOp ρ o).run Tryz.prog w = .ok (.value x) w := by
  unfold execOp; simp [hop, hs, go_sem, c0]
theorem run_atLow {n c k : Nat} (hop : o.op = .indexAddr 27 (.tmp s) (.tmp u)) (h1 : ρ (.tmp s) = .slice (some ⟨g, j, none⟩) n c) (h2 : ρ (.tmp u) = .int .i64 k) (hk : k < n) (hl : g < w.heap.size) :
    (execOp ρ o).run Tryz.prog w = .ok (.value (.pointer (some ⟨g, j + k * 3, none⟩))) w := by
  have k0 : (0 : Int) ≤ (k : Int) := by omega
  have k1 : (k : Int) < (n : Int) := by omega
  unfold execOp
  simp [hop, h1, h2, go_sem, hl, k0, k1]
theorem run_fRoom (hop : o.op = .fieldAddr 69 (.tmp t) 1) (hs : ρ (.tmp t) = .pointer (some ⟨g, j, none⟩)) (hl : g < w.heap.size) : (execOp ρ o).run Tryz.prog w = .ok (.value (.pointer (some ⟨g, j + 1, none⟩))) w := by
  unfold execOp; simp [hop, hs, go_sem, hl]
theorem run_bsInt {x : Int} (hop : o.op = .buildSlice 30 1 #[(0, .tmp s)]) (h1 : ρ (.tmp s) = .int .i64 x) : (execOp ρ o).run Tryz.prog w = .ok (.value (.slice (some ⟨w.heap.size, 0, none⟩) 1 1)) (w.alloc (.cells #[.int .i64 x] 3)) := by
  unfold execOp; simp [hop, h1, go_sem]
end
def roomR (gk gb b1 o1 m tc k : Nat) (q : Option Addr) (c : Nat) (L : List Int) (q3 : Bool) (lo hi : Int) (f : Bool) (i : Nat) (u : Value) (w : World) : Prop :=
  match i with
  | 0 => u = .pointer (some ⟨gk, 2, none⟩)
  | 1 => u = .slice q k c ∧ (f = false → OwnInts w (gk + 1) (.slice q k c) L)
  | 2 => u = .pointer (some ⟨gb, 4, none⟩)
  | 3 => u = .slice (some ⟨b1, o1, none⟩) m tc
  | 4 => u = .int .i64 k
  | 5 => u = .pointer (some ⟨b1, o1 + k * 3, none⟩)
  | 6 => u = .pointer (some ⟨b1, o1 + k * 3 + 1, none⟩)
  | 7 => u = .agg #[.int .i64 lo, .int .i64 hi]
  | 8 => u = .bool q3
  | 9 => u = .int .i64 (endN q3 lo hi)
  | 10 => ∃ g, u = .slice (some ⟨g, 0, none⟩) 1 1 ∧ (f = false → Blk w g 3 #[.int .i64 (endN q3 lo hi)])
  | 11 => f = true ∧ OwnInts w (gk + 1) u (L ++ [endN q3 lo hi])
  | 12 => u = .pointer (some ⟨gk, 2, none⟩)
  | _ => True
theorem roomR_kept (gk gb b1 o1 m tc k : Nat) (q : Option Addr) (c : Nat) (L : List Int) (q3 : Bool) (lo hi : Int) : ∀ (f : Bool) (i : Nat), i < 13 → ∀ (u : Value) (w w' : World), roomR gk gb b1 o1 m tc k q c L q3 lo hi f i u w → Below w.heap.size w w' → roomR gk gb b1 o1 m tc k q c L q3 lo hi f i u w' := by
  intro f i hi u w w' h hb
  match i, hi with
  | 0, _ => exact h
  | 1, _ => exact ⟨h.1, fun hf => (h.2 hf).below hb⟩
  | 2, _ => exact h
  | 3, _ => exact h
  | 4, _ => exact h
  | 5, _ => exact h
  | 6, _ => exact h
  | 7, _ => exact h
  | 8, _ => exact h
  | 9, _ => exact h
  | 10, _ => obtain ⟨g, h1, h2⟩ := h; exact ⟨g, h1, fun hf => (h2 hf).bel hb⟩
  | 11, _ => exact ⟨h.1, h.2.below hb⟩
  | 12, _ => exact h
  | k + 13, hk => omega
/-- The rooms of a truth at the ends. -/
def roomsE (q : Bool) (ts : List Lw) : List Int := ts.map fun s => endN q s.lo s.hi
attribute [local go_sem] Oper.semAt_some frozen_alloc_lt
set_option maxRecDepth 100000 in
set_option maxHeartbeats 8000000 in
theorem side_any (b : Tk) (p : Tp) (q1 q2 q3 : Bool) (H : Hl) (w : World) (hk : TB w b p) (hv : validB b = true) (hH : haulOf b = H) :
    Calls Tryz.prog 41 #[tv b p, .bool q1, .bool q2, .bool q3] w fun e w' => ∃ rp rc, e = .returned (.tuple #[.agg #[.int .i64 (endN q1 H.hl H.hh), .int .i64 (endN q2 H.rl H.rh), .slice rp b.ts.length rc, .int .i64 (endN q3 b.glo b.ghi)], .bool true]) ∧ OwnInts w' w.heap.size (.slice rp b.ts.length rc) (roomsE q3 b.ts) ∧ ∃ x, w' = ext w x := by
  have HV := Lib.hid hv
  have HHB := Lib.hid hH
  have HF := Lib.hid (TF.start hk)
  have HTS := Lib.hid (of_validB hv).2.2.1
  clear hH hv hk
  unfold tv
  go_enter Tryz.func41, Tryz.ntmps41
  go_upto_region 1 with fail
  unfold tcs at HF
  generalize hW0 : w.alloc _ = W0 at HF ⊢
  have HF : Hid (TF w W0 b p [] []) := HF
  have hz0 : W0.heap.size = w.heap.size + 1 := by rw [← hW0]; simp
  generalize hW : W0.alloc _ = W
  have KR := Lib.hid (show Blk W (w.heap.size + 1) 47 #[.int .i64 0, .int .i64 0, .slice none 0 0, .int .i64 0] by rw [← hW]; exact Blk.new hz0.symm)
  have HF := Lib.hid (HF.out.step (show Below W0.heap.size W0 W by rw [← hW]; (exact belC)))
  clear hW hW0 hz0
  have kb := HF.out.kb
  unfold tcs at kb
  obtain ⟨d0, d1, d2, d3, d4, d5, d6, d7, d8⟩ := Blk.c9 kb
  have lb := kb.lt
  clear kb
  go_upto_region 2 with (go_at_call 54; refine (Held_now (b := b) p.np p.nc _ HF.out.tb.q HV.out).mono ?_; rintro e vS ⟨rfl, hb1⟩; rw [HHB.out]; have HF := Lib.hid (HF.out.step hb1); have KR := Lib.hid (KR.out.bel hb1); clear hb1)
  clear d0 d1 d2 d3 d4 d5 d6 d7 d8 lb
  generalize hW : vS.alloc _ = wS
  have HF := Lib.hid ((HF.out.step (show Below vS.heap.size vS wS by rw [← hW]; (exact belC))).box (g := vS.heap.size) (x := H.hl) (y := H.hh) (by rw [← hW]; exact Blk.new rfl))
  have KR := Lib.hid (KR.out.bel (show Below vS.heap.size vS wS by rw [← hW]; (exact belC)))
  clear hW
  generalize vS.heap.size = gS at *
  have kb := HF.out.kb
  unfold tcs at kb
  obtain ⟨d0, d1, d2, d3, d4, d5, d6, d7, d8⟩ := Blk.c9 kb
  have lb := kb.lt
  clear kb
  go_upto_region 3 with (go_at_call 85; refine (Rate_now (b := b) p.np p.nc _ HF.out.tb.q HV.out).mono ?_; rintro e vT ⟨rfl, hb1⟩; rw [HHB.out]; have HF := Lib.hid (HF.out.step hb1); have KR := Lib.hid (KR.out.bel hb1); clear hb1)
  clear d0 d1 d2 d3 d4 d5 d6 d7 d8 lb
  generalize hW : vT.alloc _ = wT
  have HF := Lib.hid ((HF.out.step (show Below vT.heap.size vT wT by rw [← hW]; (exact belC))).box (g := vT.heap.size) (x := H.rl) (y := H.rh) (by rw [← hW]; exact Blk.new rfl))
  have KR := Lib.hid (KR.out.bel (show Below vT.heap.size vT wT by rw [← hW]; (exact belC)))
  clear hW
  generalize vT.heap.size = gT at *
  have KS := Lib.hid (HF.out.bx (gS, H.hl, H.hh) (by simp))
  have KT := Lib.hid (HF.out.bx (gT, H.rl, H.rh) (by simp))
  have KB := Lib.hid HF.out.kb
  refine wp_region_flow_back 12 70 (sideR w.heap.size wT.heap.size q1 q2 q3 H.hl H.hh H.rl H.rh b.glo b.ghi) (by kernel_rfl) (by kernel_rfl) rfl (sideR_kept _ _ _ _ _ _ _ _ _ _ _) ?_ ?_
  · intro i hin a X h1 h2 h3 h4 h5 KK hKK
    match i, hin with
    | 0, _ => exact st_val rfl (wanted_none rfl) (run_spanAt _ rfl (h3 10 (by kernel_rfl)) ((KS.out.bel h5).cell 0) ((KS.out.bel h5).cell 1)) (hKK _ _ rfl (Below.refl _ _))
    | 1, _ => exact st_move rfl rfl (wanted_none rfl) (h3 1 (by kernel_rfl)) (hKK _ _ rfl (Below.refl _ _))
    | 2, _ =>
      refine st_call rfl rfl (wanted_none rfl) (args2 (h4 0 (by kernel_rfl)) (h4 1 (by kernel_rfl))) (run_enter Tryz.func88 (by kernel_rfl) (by kernel_rfl) _) ?_
      refine (one_any _ _ _ _).mono ?_
      rintro e w1 ⟨rfl, y9, rfl⟩
      exact ⟨_, rfl, hKK _ _ rfl (below_ext _ _)⟩
    | 3, _ => exact st_val rfl (wanted_none rfl) (run_spanAt _ rfl (h3 12 (by kernel_rfl)) ((KT.out.bel h5).cell 0) ((KT.out.bel h5).cell 1)) (hKK _ _ rfl (Below.refl _ _))
    | 4, _ => exact st_move rfl rfl (wanted_none rfl) (h3 2 (by kernel_rfl)) (hKK _ _ rfl (Below.refl _ _))
    | 5, _ =>
      refine st_call rfl rfl (wanted_none rfl) (args2 (h4 3 (by kernel_rfl)) (h4 4 (by kernel_rfl))) (run_enter Tryz.func88 (by kernel_rfl) (by kernel_rfl) _) ?_
      refine (one_any _ _ _ _).mono ?_
      rintro e w1 ⟨rfl, y9, rfl⟩
      exact ⟨_, rfl, hKK _ _ rfl (below_ext _ _)⟩
    | 6, _ => exact st_val rfl (wanted_none rfl) (run_fGaleB _ rfl (h3 4 (by kernel_rfl)) (KB.out.bel h5).lt) (hKK _ _ rfl (Below.refl _ _))
    | 7, _ => exact st_val rfl (wanted_none rfl) (run_spanAt _ rfl (h4 6 (by kernel_rfl)) ((KB.out.bel h5).cell 5) ((KB.out.bel h5).cell 6)) (hKK _ _ rfl (Below.refl _ _))
    | 8, _ => exact st_move rfl rfl (wanted_none rfl) (h3 3 (by kernel_rfl)) (hKK _ _ rfl (Below.refl _ _))
    | 9, _ =>
      refine st_call rfl rfl (wanted_none rfl) (args2 (h4 7 (by kernel_rfl)) (h4 8 (by kernel_rfl))) (run_enter Tryz.func88 (by kernel_rfl) (by kernel_rfl) _) ?_
      refine (one_any _ _ _ _).mono ?_
      rintro e w1 ⟨rfl, y9, rfl⟩
      exact ⟨_, rfl, hKK _ _ rfl (below_ext _ _)⟩
    | 10, _ => exact st_val rfl (wanted_none rfl) (run_known _ rfl (h4 2 (by kernel_rfl)) (h4 5 (by kernel_rfl)) (h4 9 (by kernel_rfl))) (hKK _ _ rfl (Below.refl _ _))
    | 11, _ => exact st_valw rfl (wanted_none rfl) (run_allocK _ rfl) (hKK _ _ ⟨_, rfl, h5.size, Blk.new rfl⟩ ((Below.refl _ _).alloc (Nat.le_refl _) _))
    | k + 12, hk => omega
  intro vs Z hvs hBZ
  have v0 : vs 0 = _ := hvs 0 (by omega)
  have v1 : vs 1 = _ := hvs 1 (by omega)
  have v2 : vs 2 = _ := hvs 2 (by omega)
  have v3 : vs 3 = _ := hvs 3 (by omega)
  have v4 : vs 4 = _ := hvs 4 (by omega)
  have v5 : vs 5 = _ := hvs 5 (by omega)
  have v6 : vs 6 = _ := hvs 6 (by omega)
  have v7 : vs 7 = _ := hvs 7 (by omega)
  have v8 : vs 8 = _ := hvs 8 (by omega)
  have v9 : vs 9 = _ := hvs 9 (by omega)
  have v10 : vs 10 = _ := hvs 10 (by omega)
  obtain ⟨gk, v11, hgk, hkk⟩ := hvs 11 (by omega)
  simp only [putAll, v0, v1, v2, v3, v4, v5, v6, v7, v8, v9, v10, v11]
  clear v0 v1 v2 v3 v4 v5 v6 v7 v8 v9 v10 v11 hvs
  simp only [dstOf, Act.put, List.getElem?_toArray, List.getElem?_cons_zero, List.getElem?_cons_succ, Option.bind_some, Option.getD_some, List.setIfInBounds_toArray, List.set_cons_succ, List.set_cons_zero, List.drop_succ_cons, List.drop_zero]
  have kk := hkk
  obtain ⟨r0, r1, r2, r3⟩ := Blk.c4 kk
  obtain ⟨f0, f1, f2, f3⟩ := Blk.f4 kk
  have lr := kk.lt
  clear kk
  go_upto_region 4 with fail
  have hb1 : Below wT.heap.size wT ((((Z.setCell ⟨gk, 0, none⟩ (.int .i64 (endN q1 H.hl H.hh))).setCell ⟨gk, 1, none⟩ (.int .i64 (endN q2 H.rl H.rh))).setCell ⟨gk, 2, none⟩ (.slice none 0 0)).setCell ⟨gk, 3, none⟩ (.int .i64 (endN q3 b.glo b.ghi))) := (((hBZ.setCell (by dsimp only; omega) _).setCell (by dsimp only; omega) _).setCell (by dsimp only; omega) _).setCell (by dsimp only; omega) _
  have k1 : Blk ((((Z.setCell ⟨gk, 0, none⟩ (.int .i64 (endN q1 H.hl H.hh))).setCell ⟨gk, 1, none⟩ (.int .i64 (endN q2 H.rl H.rh))).setCell ⟨gk, 2, none⟩ (.slice none 0 0)).setCell ⟨gk, 3, none⟩ (.int .i64 (endN q3 b.glo b.ghi))) gk 47 #[.int .i64 (endN q1 H.hl H.hh), .int .i64 (endN q2 H.rl H.rh), .slice none 0 0, .int .i64 (endN q3 b.glo b.ghi)] := by
    simpa using (((hkk.set 0 (.int .i64 (endN q1 H.hl H.hh))).set 1 (.int .i64 (endN q2 H.rl H.rh))).set 2 (.slice none 0 0)).set 3 (.int .i64 (endN q3 b.glo b.ghi))
  generalize hW4 : World.setCell (World.setCell (World.setCell (World.setCell Z _ _) _ _) _ _) _ _ = W4 at hb1 k1 ⊢
  clear hW4 r0 r1 r2 r3 f0 f1 f2 f3 lr hkk hBZ
  have HB4 := Lib.hid hb1
  have KK := Lib.hid k1
  have HFT := HF
  have HGK := Lib.hid hgk
  have hsz : W4.heap.size ≥ gk + 1 := k1.lt
  clear hb1 k1 HF
  generalize hA0 : endN q1 H.hl H.hh = A0 at *
  generalize hA1 : endN q2 H.rl H.rh = A1 at *
  generalize hA3 : endN q3 b.glo b.ghi = A3 at *
  have HA := Lib.hid (show endN q1 H.hl H.hh = A0 ∧ endN q2 H.rl H.rh = A1 ∧ endN q3 b.glo b.ghi = A3 from ⟨hA0, hA1, hA3⟩)
  clear hA0 hA1 hA3
  have HTB := Lib.hid HFT.out.tb.ts
  have HLB := Lib.hid (HFT.out.kb)
  go_upto_region 5 with fail
  go_loopw [15] (fun i wr => ∃ (k : Nat) (q : Option Addr) (c : Nat), k ≤ b.ts.length ∧ i = .int .i64 k ∧ Hid (Blk wr gk 47 #[.int .i64 A0, .int .i64 A1, .slice q k c, .int .i64 A3]) ∧ Hid (OwnInts wr (gk + 1) (.slice q k c) (roomsE q3 (b.ts.take k))) ∧ Hid (Below wT.heap.size wT wr)) (fun i _ => b.ts.length - (intOf i).toNat)
  case atStart => exact ⟨0, none, 0, by omega, rfl, KK, Lib.hid (OwnInts.nil _ _), HB4⟩
  case round =>
    clear KK HB4
    obtain ⟨k, q, c, hk, rfl, KK, HO, HBR⟩ := hrel
    have hkd := HLB.out.bel HBR.out
    have KBR := Lib.hid hkd
    unfold tcs at hkd
    obtain ⟨d0, d1, d2, d3, d4, d5, d6, d7, d8⟩ := Blk.c9 hkd
    have lb := hkd.lt
    have hkk := KK.out
    have lk := hkk.lt
    clear hkd
    by_cases hlt : k < b.ts.length
    · clear hkk
      obtain ⟨s, hs⟩ := get_some b.ts k hlt
      obtain ⟨b1, o1, hp1, hb1, e1, e2, e3⟩ := (HTB.out.below HBR.out) k s hs
      have hb1g : b1 < gk := by have h1 := HFT.out.tb.lt _ hp1; have h2 := HGK.out; dsimp only at h1; omega
      have hbkg : w.heap.size < gk := by have h1 := HFT.out.kb.lt; have h2 := HGK.out; omega
      have HROW := Lib.hid (fun (j : Nat) (e : (Value.slice q k c).ownBlock = some j) => ((HO.out.lt j e).1 : gk + 1 ≤ j))
      have HP1 := Lib.hid hp1
      have E2 := Lib.hid e2
      have E3 := Lib.hid e3
      have HS := Lib.hid (show roomsE q3 (b.ts.take (k + 1)) = roomsE q3 (b.ts.take k) ++ [endN q3 s.lo s.hi] by rw [List.take_add_one, hs]; simp [roomsE])
      have hl6 : (roomsE q3 (b.ts.take k)).length ≤ 1000 := by have := HTS.out; simp [roomsE]; omega
      clear hp1 e1 e2 e3 hs
      go_upto_region 7 with fail
      clear d0 d1 d2 d3 d4 d5 d6 d7 d8 lb
      refine wp_region_flow_backH 13 70 11 (Value.slice q k c).ownBlock (roomR gk w.heap.size b1 o1 b.ts.length p.tc k q c (roomsE q3 (b.ts.take k)) q3 s.lo s.hi) (by kernel_rfl) (by kernel_rfl) rfl (by omega) (roomR_kept _ _ _ _ _ _ _ _ _ _ _ _ _) ?_ ?_ ?_
      · intro i hin hne f a W1 h1 h2 h3 h4 h5' h6' KK' hKK
        have far : ∀ g', g' < wr.heap.size → g' ≤ gk → W1.heap[g']? = wr.heap[g']? := fun g' hg hg2 => h5'.block g' hg (fun e => by have := HROW.out g' e.symm; omega)
        have hsz1 := h5'.size
        match i, hin with
        | 0, _ => exact st_val rfl (wanted_none rfl) (run_fRooms _ rfl (h3 14 (by kernel_rfl)) (Nat.lt_of_lt_of_le lk hsz1)) (hKK _ _ rfl (Below.refl _ _))
        | 1, _ =>
          have kx : Blk W1 gk _ _ := (far gk lk (Nat.le_refl _)).trans KK.out
          exact st_val rfl (wanted_none rfl) (run_lInts _ rfl (h4 0 (by kernel_rfl)) (Blk.cell kx 2)) (hKK _ _ ⟨rfl, fun hf => HO.out.below (h6' hf)⟩ (Below.refl _ _))
        | 2, _ => exact st_val rfl (wanted_none rfl) (run_fTides rfl (h3 4 (by kernel_rfl)) (Nat.lt_of_lt_of_le KBR.out.lt hsz1)) (hKK _ _ rfl (Below.refl _ _))
        | 3, _ =>
          have kx : Blk W1 w.heap.size _ _ := (far w.heap.size KBR.out.lt (by omega)).trans KBR.out
          exact st_val rfl (wanted_none rfl) (run_lTides rfl (h4 2 (by kernel_rfl)) ((Blk.cell kx 4).trans (by rw [show (tcs b p)[4]? = some (.slice p.tp b.ts.length p.tc) from rfl, HP1.out]))) (hKK _ _ rfl (Below.refl _ _))
        | 4, _ => exact st_move rfl rfl (wanted_none rfl) (h3 15 (by kernel_rfl)) (hKK _ _ rfl (Below.refl _ _))
        | 5, _ => exact st_val rfl (wanted_none rfl) (run_atLow _ rfl (h4 3 (by kernel_rfl)) (h4 4 (by kernel_rfl)) hlt (Nat.lt_of_lt_of_le hb1 hsz1)) (hKK _ _ rfl (Below.refl _ _))
        | 6, _ => exact st_val rfl (wanted_none rfl) (run_fRoom _ rfl (h4 5 (by kernel_rfl)) (Nat.lt_of_lt_of_le hb1 hsz1)) (hKK _ _ rfl (Below.refl _ _))
        | 7, _ =>
          have hc : ∀ j, W1.cell? ⟨b1, j, none⟩ = wr.cell? ⟨b1, j, none⟩ := fun j => World.cell?_of_block (a := ⟨b1, j, none⟩) (far b1 hb1 (by omega))
          exact st_val rfl (wanted_none rfl) (run_spanAt _ rfl (h4 6 (by kernel_rfl)) ((hc _).trans E2.out) ((hc _).trans E3.out)) (hKK _ _ rfl (Below.refl _ _))
        | 8, _ => exact st_move rfl rfl (wanted_none rfl) (h3 3 (by kernel_rfl)) (hKK _ _ rfl (Below.refl _ _))
        | 9, _ =>
          refine st_call rfl rfl (wanted_none rfl) (args2 (h4 7 (by kernel_rfl)) (h4 8 (by kernel_rfl))) (run_enter Tryz.func88 (by kernel_rfl) (by kernel_rfl) _) ?_
          refine (one_any _ _ _ _).mono ?_
          rintro e w1 ⟨rfl, y9, rfl⟩
          exact ⟨_, rfl, hKK _ _ rfl (below_ext _ _)⟩
        | 10, _ => exact st_valw rfl (wanted_none rfl) (run_bsInt _ rfl (h4 9 (by kernel_rfl))) (hKK _ _ ⟨_, rfl, fun _ => Blk.new rfl⟩ ((Below.refl _ _).alloc (Nat.le_refl _) _))
        | 11, _ => exact absurd rfl hne
        | 12, _ => exact st_val rfl (wanted_none rfl) (run_fRooms _ rfl (h3 14 (by kernel_rfl)) (Nat.lt_of_lt_of_le lk hsz1)) (hKK _ _ rfl (Below.refl _ _))
        | k + 13, hk => omega
      · intro a W1 h1 h2 h3 h4 h5' KK' hKK
        obtain ⟨ee1, ho⟩ := h4 1 (by kernel_rfl)
        obtain ⟨q', ee2, hq⟩ := h4 10 (by kernel_rfl)
        refine st_append_intO rfl (wanted_none rfl) _ _ rfl (gk + 1) _ _ ee1 (ho rfl) q' (endN q3 s.lo s.hi) ee2 (hq rfl) hl6 (by have := h5'.size; omega) ?_
        intro v' w' h7 h8
        refine hKK _ _ ⟨rfl, h7⟩ (fun j u hj hr => ?_) h8
        match j, hj with
        | 0, _ => exact hr
        | 1, _ => exact ⟨hr.1, fun hf => by cases hf⟩
        | 2, _ => exact hr
        | 3, _ => exact hr
        | 4, _ => exact hr
        | 5, _ => exact hr
        | 6, _ => exact hr
        | 7, _ => exact hr
        | 8, _ => exact hr
        | 9, _ => exact hr
        | 10, _ => obtain ⟨q', e, _⟩ := hr; exact ⟨q', e, fun hf => by cases hf⟩
        | 11, _ => exact absurd hr.1 (by decide)
        | 12, _ => exact hr
        | k + 13, hk => omega
      · intro vs W3 hvs hB3
        have v0 : vs 0 = _ := hvs 0 (by omega)
        have v1 : vs 1 = _ := (hvs 1 (by omega)).1
        have v2 : vs 2 = _ := hvs 2 (by omega)
        have v3 : vs 3 = _ := hvs 3 (by omega)
        have v4 : vs 4 = _ := hvs 4 (by omega)
        have v5 : vs 5 = _ := hvs 5 (by omega)
        have v6 : vs 6 = _ := hvs 6 (by omega)
        have v7 : vs 7 = _ := hvs 7 (by omega)
        have v8 : vs 8 = _ := hvs 8 (by omega)
        have v9 : vs 9 = _ := hvs 9 (by omega)
        obtain ⟨q', v10, -⟩ := hvs 10 (by omega)
        have ho8 := (hvs 11 (by omega)).2
        obtain ⟨p', c', v11, -⟩ := ho8.at
        have v12 : vs 12 = _ := hvs 12 (by omega)
        rw [v11] at ho8
        have hlen : (roomsE q3 (b.ts.take k) ++ [endN q3 s.lo s.hi]).length = k + 1 := by simp [roomsE]; omega
        rw [hlen] at ho8 v11
        simp only [putAll, v0, v1, v2, v3, v4, v5, v6, v7, v8, v9, v10, v11, v12]
        clear v0 v1 v2 v3 v4 v5 v6 v7 v8 v9 v10 v11 v12 hvs
        simp only [dstOf, Act.put, List.getElem?_toArray, List.getElem?_cons_zero, List.getElem?_cons_succ, Option.bind_some, Option.getD_some, List.setIfInBounds_toArray, List.set_cons_succ, List.set_cons_zero, List.drop_succ_cons, List.drop_zero]
        have kx3 : Blk W3 gk 47 #[.int .i64 A0, .int .i64 A1, .slice q k c, .int .i64 A3] := (hB3.block _ lk (fun e => by have := HROW.out _ e.symm; omega)).trans KK.out
        have hbl3 : Below wT.heap.size wT W3 := Below.grown HBR.out hB3 HBR.out.size (fun j hj => by have := HROW.out j hj; have := HGK.out; omega)
        have KX3 := Lib.hid kx3
        have HO8 := Lib.hid ho8
        have HBL3 := Lib.hid hbl3
        obtain ⟨r0, r1, r2, r3⟩ := Blk.c4 kx3
        obtain ⟨f0, f1, f2, f3⟩ := Blk.f4 kx3
        have lr := kx3.lt
        have HWN := Lib.hid (wrap_num k (by have := HTS.out; omega))
        have hts6 := HTS.out
        clear kx3 ho8 hbl3 hB3
        go_wp2_with fail
        go_roundw
        case rel => exact ⟨k + 1, p', c', by omega, by first | go_num | (rw [HWN.out]), Lib.hid (by simpa using KX3.out.set 2 (.slice p' (k + 1) c')), by rw [HS.out]; exact Lib.hid (HO8.out.kept (fun g hg => by have := (HO8.out.lt g hg).1; exact Below.heap_setCell _ _ _ _ (by dsimp only; omega))), Lib.hid (HBL3.out.setCell (by have := HGK.out; dsimp only; omega) _)⟩
        case measure => simp [intOf]; omega
    · obtain rfl : k = b.ts.length := by omega
      have krr := KR.out.bel HBR.out
      have KRR := Lib.hid krr
      have hz1 := KR.out.lt
      have hz2 := HGK.out
      obtain ⟨r0, r1, r2, r3⟩ := Blk.c4 hkk
      obtain ⟨z0, z1, z2, z3⟩ := Blk.c4 krr
      obtain ⟨f0, f1, f2, f3⟩ := Blk.f4 krr
      have lz := krr.lt
      clear hkk krr
      go_wp2_with fail
      have kE := (((KRR.out.set 0 (.int .i64 A0)).set 1 (.int .i64 A1)).set 2 (.slice q b.ts.length c)).set 3 (.int .i64 A3)
      have hBW : Below w.heap.size w wr := HFT.out.below.trans (HBR.out.mono HFT.out.below.size)
      have hE := (((hBW.setCell (p := ⟨w.heap.size + 1, 0, none⟩) (by dsimp only; omega) (.int .i64 A0)).setCell (p := ⟨w.heap.size + 1, 1, none⟩) (by dsimp only; omega) (.int .i64 A1)).setCell (p := ⟨w.heap.size + 1, 2, none⟩) (by dsimp only; omega) (.slice q b.ts.length c)).setCell (p := ⟨w.heap.size + 1, 3, none⟩) (by dsimp only; omega) (.int .i64 A3)
      have hne : ∀ g, (Value.slice q b.ts.length c).ownBlock = some g → g ≠ w.heap.size + 1 := fun g hg => by have := (HO.out.lt g hg).1; omega
      have hO := (((HO.out.kept (w' := wr.setCell ⟨w.heap.size + 1, 0, none⟩ (.int .i64 A0)) (fun g hg => Below.heap_setCell _ _ _ _ (hne g hg))).kept (w' := (wr.setCell ⟨w.heap.size + 1, 0, none⟩ (.int .i64 A0)).setCell ⟨w.heap.size + 1, 1, none⟩ (.int .i64 A1)) (fun g hg => Below.heap_setCell _ _ _ _ (hne g hg))).kept (w' := ((wr.setCell ⟨w.heap.size + 1, 0, none⟩ (.int .i64 A0)).setCell ⟨w.heap.size + 1, 1, none⟩ (.int .i64 A1)).setCell ⟨w.heap.size + 1, 2, none⟩ (.slice q b.ts.length c)) (fun g hg => Below.heap_setCell _ _ _ _ (hne g hg))).kept (w' := (((wr.setCell ⟨w.heap.size + 1, 0, none⟩ (.int .i64 A0)).setCell ⟨w.heap.size + 1, 1, none⟩ (.int .i64 A1)).setCell ⟨w.heap.size + 1, 2, none⟩ (.slice q b.ts.length c)).setCell ⟨w.heap.size + 1, 3, none⟩ (.int .i64 A3)) (fun g hg => Below.heap_setCell _ _ _ _ (hne g hg))
      generalize hWW : World.setCell (World.setCell (World.setCell (World.setCell wr _ _) _ _) _ _) _ _ = W9 at kE hE hO ⊢
      clear hWW
      have kE' : Blk W9 (w.heap.size + 1) 47 #[.int .i64 A0, .int .i64 A1, .slice q b.ts.length c, .int .i64 A3] := by simpa using kE
      have HE9 := Lib.hid hE
      have HO9 := Lib.hid hO
      clear hE hO kE
      obtain ⟨e0, e1, e2, e3⟩ := Blk.c4 kE'
      have lE := kE'.lt
      clear kE'
      have hO9 := HO9.out.mono (show w.heap.size ≤ gk + 1 by omega)
      rw [List.take_of_length_le (Nat.le_refl _)] at hO9
      refine bodyPost_ret (v := .tuple #[.agg #[.int .i64 A0, .int .i64 A1, .slice q b.ts.length c, .int .i64 A3], .bool true]) (by simp [results, Tryz.results41, go_sem, e0, e1, e2, e3, lE]) rfl ⟨q, c, by rw [HA.out.1, HA.out.2.1, HA.out.2.2], hO9, ext_of HE9.out⟩
end Go.Proofs.YtcaeohgbgeadaaaGreatDoor

