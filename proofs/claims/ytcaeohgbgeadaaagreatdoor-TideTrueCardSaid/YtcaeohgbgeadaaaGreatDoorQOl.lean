/- For the laws of package tide: truly. Written by gen_truly.py. -/
import Derived.Test.YtcaeohgbgeadaaaGreatDoorQOd
import Derived.Test.YtcaeohgbgeadaaaGreatDoorQEe
import Derived.Test.YtcaeohgbgeadaaaGreatDoorQOj
import Derived.RegionTactic
set_option linter.unusedSimpArgs false
set_option linter.unusedVariables false
namespace Go.Proofs.YtcaeohgbgeadaaaGreatDoor
open Go Go.RowKit Go.Shelf
/-- The rooms of a truth that numbers choose. -/
def roomsK (bits : List Int) (ts : List Lw) (k : Nat) : List Int := (List.range k).map fun i => match ts[i]? with
  | some s => someI s.lo s.hi (pickI bits ((i : Int) + 3))
  | none => 0
theorem roomsK_succ {bits : List Int} {ts : List Lw} {k : Nat} {s : Lw} {x : Int} (hs : ts[k]? = some s) (hx : someI s.lo s.hi (pickI bits ((k : Int) + 3)) = x) : roomsK bits ts (k + 1) = roomsK bits ts k ++ [x] := by
  subst hx; simp [roomsK, List.range_succ, hs]
def truQ (gb n0 nb ci : Nat) (pi : Option Addr) (hl hh rl rh glo ghi g0 g1 g2 A0 A1 A3 : Int) (i : Nat) (u : Value) (w : World) : Prop :=
  match i with
  | 0 => u = .agg #[.int .i64 hl, .int .i64 hh]
  | 1 => u = .slice pi nb ci
  | 2 => u = .int .i64 g0
  | 3 => u = .int .i64 A0
  | 4 => u = .agg #[.int .i64 rl, .int .i64 rh]
  | 5 => u = .slice pi nb ci
  | 6 => u = .int .i64 g1
  | 7 => u = .int .i64 A1
  | 8 => u = .pointer (some ⟨gb, 5, none⟩)
  | 9 => u = .agg #[.int .i64 glo, .int .i64 ghi]
  | 10 => u = .slice pi nb ci
  | 11 => u = .int .i64 g2
  | 12 => u = .int .i64 A3
  | 13 => u = .agg #[.int .i64 A0, .int .i64 A1, .slice none 0 0, .int .i64 A3]
  | 14 => ∃ g, u = .pointer (some ⟨g, 0, none⟩) ∧ n0 ≤ g ∧ Blk w g 47 #[.int .i64 0, .int .i64 0, .slice none 0 0, .int .i64 0]
  | _ => True
theorem truQ_kept (gb n0 nb ci : Nat) (pi : Option Addr) (hl hh rl rh glo ghi g0 g1 g2 A0 A1 A3 : Int) : ∀ (i : Nat), i < 15 → ∀ (u : Value) (w w' : World), truQ gb n0 nb ci pi hl hh rl rh glo ghi g0 g1 g2 A0 A1 A3 i u w → Below w.heap.size w w' → truQ gb n0 nb ci pi hl hh rl rh glo ghi g0 g1 g2 A0 A1 A3 i u w' := by
  intro i hi u w w' h hb
  match i, hi with
  | 0, _ => exact h
  | 1, _ => exact h
  | 2, _ => exact h
  | 3, _ => exact h
  | 4, _ => exact h
  | 5, _ => exact h
  | 6, _ => exact h
  | 7, _ => exact h
  | 8, _ => exact h
  | 9, _ => exact h
  | 10, _ => exact h
  | 11, _ => exact h
  | 12, _ => exact h
  | 13, _ => exact h
  | 14, _ => obtain ⟨g, h1, h2, h3⟩ := h; exact ⟨g, h1, h2, h3.bel hb⟩
  | k + 15, hk => omega
def rooQ (gk gb b1 o1 m tc k nb ci : Nat) (pi q : Option Addr) (c : Nat) (L : List Int) (lo hi k3 gv x : Int) (f : Bool) (i : Nat) (u : Value) (w : World) : Prop :=
  match i with
  | 0 => u = .pointer (some ⟨gk, 2, none⟩)
  | 1 => u = .slice q k c ∧ (f = false → OwnInts w (gk + 1) (.slice q k c) L)
  | 2 => u = .pointer (some ⟨gb, 4, none⟩)
  | 3 => u = .slice (some ⟨b1, o1, none⟩) m tc
  | 4 => u = .int .i64 k
  | 5 => u = .pointer (some ⟨b1, o1 + k * 3, none⟩)
  | 6 => u = .pointer (some ⟨b1, o1 + k * 3 + 1, none⟩)
  | 7 => u = .agg #[.int .i64 lo, .int .i64 hi]
  | 8 => u = .slice pi nb ci
  | 9 => u = .int .i64 k
  | 10 => u = .int .i64 k3
  | 11 => u = .int .i64 gv
  | 12 => u = .int .i64 x
  | 13 => ∃ g, u = .slice (some ⟨g, 0, none⟩) 1 1 ∧ (f = false → Blk w g 3 #[.int .i64 x])
  | 14 => f = true ∧ OwnInts w (gk + 1) u (L ++ [x])
  | 15 => u = .pointer (some ⟨gk, 2, none⟩)
  | _ => True
theorem rooQ_kept (gk gb b1 o1 m tc k nb ci : Nat) (pi q : Option Addr) (c : Nat) (L : List Int) (lo hi k3 gv x : Int) : ∀ (f : Bool) (i : Nat), i < 16 → ∀ (u : Value) (w w' : World), rooQ gk gb b1 o1 m tc k nb ci pi q c L lo hi k3 gv x f i u w → Below w.heap.size w w' → rooQ gk gb b1 o1 m tc k nb ci pi q c L lo hi k3 gv x f i u w' := by
  intro f i hi u w w' h hb
  match i, hi with
  | 0, _ => exact h
  | 1, _ => exact ⟨h.1, fun hf => (h.2 hf).below hb⟩
  | 2, _ => exact h
  | 3, _ => exact h
  | 4, _ => exact h
  | 5, _ => exact h
  | 6, _ => exact h
  | 7, _ => exact h
  | 8, _ => exact h
  | 9, _ => exact h
  | 10, _ => exact h
  | 11, _ => exact h
  | 12, _ => exact h
  | 13, _ => obtain ⟨g, h1, h2⟩ := h; exact ⟨g, h1, fun hf => (h2 hf).bel hb⟩
  | 14, _ => exact ⟨h.1, h.2.below hb⟩
  | 15, _ => exact h
  | k + 16, hk => omega
theorem args_t {a : Act} {s : Nat} {v1 : Value} (h1 : a.tmps.getD s undef = v1) : (#[Operand.tmp s]).map a.eval = #[v1] := by
  simp only [List.map_toArray, List.map_cons, List.map_nil, Act.eval, h1]
theorem run_add3 {o : Oper} {w : World} {t k : Nat} {k3 : Int} (ρ : Operand → Value) (hop : o.op = .binOp .add 3 (.tmp t) (.const (.int .i64 3)) 3) (hs : ρ (.tmp t) = .int .i64 k) (hk : IntKind.i64.wrap ((k : Int) + 3) = k3) (hc : ρ (.const (.int .i64 3)) = .int .i64 3 := by rfl) : (execOp ρ o).run Tryz.prog w = .ok (.value (.int .i64 k3)) w := by
  subst hk
  unfold execOp; simp [hop, hs, hc, go_sem]
attribute [local go_sem] Oper.semAt_some frozen_alloc_lt
set_option maxRecDepth 100000 in
set_option maxHeartbeats 8000000 in
theorem truly_any (b : Tk) (p : Tp) (pi : Option Addr) (ci : Nat) (bits : List Int) (nb : Nat) (H : Hl) (w : World) (hk : TB w b p) (hv : validB b = true) (hH : haulOf b = H) (hi : IntsAt w pi bits) (hbl : (bits.length : Int) ≤ 9223372036854775807) (hnb : bits.length = nb) :
    Calls Tryz.prog 36 #[tv b p, .slice pi nb ci] w fun e w' => ∃ rp rc, e = .returned (.tuple #[.agg #[.int .i64 (someI H.hl H.hh (pickI bits 0)), .int .i64 (someI H.rl H.rh (pickI bits 1)), .slice rp b.ts.length rc, .int .i64 (someI b.glo b.ghi (pickI bits 2))], .bool true]) ∧ OwnInts w' w.heap.size (.slice rp b.ts.length rc) (roomsK bits b.ts b.ts.length) ∧ ∃ x, w' = ext w x := by
  have HV := Lib.hid hv
  have HHB := Lib.hid hH
  have HF := Lib.hid (TF.start hk)
  have HTS := Lib.hid (of_validB hv).2.2.1
  have HBI := Lib.hid hi
  have HBL := Lib.hid hbl
  have HNB := Lib.hid hnb
  have HOK := Lib.hid (show H.OK from hH ▸ haul_ok hv)
  have HGL := Lib.hid (show 0 ≤ b.glo ∧ b.glo ≤ b.ghi ∧ b.ghi ≤ 100000 by have := of_validB hv; omega)
  have HRM := Lib.hid (fun (k : Nat) (s : Lw) (hs : b.ts[k]? = some s) => show 0 ≤ s.lo ∧ s.lo ≤ s.hi ∧ s.hi ≤ 100000 by have := chainT_get2 (of_validB hv).2.1 hs; omega)
  obtain ⟨g0, hg0⟩ : ∃ g, pickI bits 0 = g := ⟨_, rfl⟩
  obtain ⟨g1, hg1⟩ : ∃ g, pickI bits 1 = g := ⟨_, rfl⟩
  obtain ⟨g2, hg2⟩ : ∃ g, pickI bits 2 = g := ⟨_, rfl⟩
  rw [hg0, hg1, hg2]
  obtain ⟨A0, hA0⟩ : ∃ g, someI H.hl H.hh g0 = g := ⟨_, rfl⟩
  obtain ⟨A1, hA1⟩ : ∃ g, someI H.rl H.rh g1 = g := ⟨_, rfl⟩
  obtain ⟨A3, hA3⟩ : ∃ g, someI b.glo b.ghi g2 = g := ⟨_, rfl⟩
  rw [hA0, hA1, hA3]
  have HG := Lib.hid (show pickI bits 0 = g0 ∧ pickI bits 1 = g1 ∧ pickI bits 2 = g2 from ⟨hg0, hg1, hg2⟩)
  have HA := Lib.hid (show someI H.hl H.hh g0 = A0 ∧ someI H.rl H.rh g1 = A1 ∧ someI b.glo b.ghi g2 = A3 from ⟨hA0, hA1, hA3⟩)
  clear hH hv hk hi hbl hnb hg0 hg1 hg2 hA0 hA1 hA3
  unfold tv
  go_enter Tryz.func36, Tryz.ntmps36
  go_upto_region 1 with fail
  unfold tcs at HF
  generalize hW0 : w.alloc _ = W0 at HF ⊢
  have HF : Hid (TF w W0 b p [] []) := HF
  have hz0 : W0.heap.size = w.heap.size + 1 := by rw [← hW0]; simp
  have HBI := Lib.hid (HBI.out.below (show Below w.heap.size w W0 by rw [← hW0]; (exact belC)))
  generalize hW : W0.alloc _ = W
  have KR := Lib.hid (show Blk W (w.heap.size + 1) 47 #[.int .i64 0, .int .i64 0, .slice none 0 0, .int .i64 0] by rw [← hW]; exact Blk.new hz0.symm)
  have HF := Lib.hid (HF.out.step (show Below W0.heap.size W0 W by rw [← hW]; (exact belC)))
  have HBI := Lib.hid (HBI.out.below (show Below W0.heap.size W0 W by rw [← hW]; (exact belC)))
  clear hW hW0 hz0
  have kb := HF.out.kb
  unfold tcs at kb
  obtain ⟨d0, d1, d2, d3, d4, d5, d6, d7, d8⟩ := Blk.c9 kb
  have lb := kb.lt
  clear kb
  go_upto_region 2 with (go_at_call 54; refine (Held_now (b := b) p.np p.nc _ HF.out.tb.q HV.out).mono ?_; rintro e vS ⟨rfl, hb1⟩; rw [HHB.out]; have HF := Lib.hid (HF.out.step hb1); have KR := Lib.hid (KR.out.bel hb1); have HBI := Lib.hid (HBI.out.below hb1); clear hb1)
  clear d0 d1 d2 d3 d4 d5 d6 d7 d8 lb
  generalize hW : vS.alloc _ = wS
  have HF := Lib.hid ((HF.out.step (show Below vS.heap.size vS wS by rw [← hW]; (exact belC))).box (g := vS.heap.size) (x := H.hl) (y := H.hh) (by rw [← hW]; exact Blk.new rfl))
  have KR := Lib.hid (KR.out.bel (show Below vS.heap.size vS wS by rw [← hW]; (exact belC)))
  have HBI := Lib.hid (HBI.out.below (show Below vS.heap.size vS wS by rw [← hW]; (exact belC)))
  clear hW
  generalize vS.heap.size = gS at *
  have kb := HF.out.kb
  unfold tcs at kb
  obtain ⟨d0, d1, d2, d3, d4, d5, d6, d7, d8⟩ := Blk.c9 kb
  have lb := kb.lt
  clear kb
  go_upto_region 3 with (go_at_call 85; refine (Rate_now (b := b) p.np p.nc _ HF.out.tb.q HV.out).mono ?_; rintro e vT ⟨rfl, hb1⟩; rw [HHB.out]; have HF := Lib.hid (HF.out.step hb1); have KR := Lib.hid (KR.out.bel hb1); have HBI := Lib.hid (HBI.out.below hb1); clear hb1)
  clear d0 d1 d2 d3 d4 d5 d6 d7 d8 lb
  generalize hW : vT.alloc _ = wT
  have HF := Lib.hid ((HF.out.step (show Below vT.heap.size vT wT by rw [← hW]; (exact belC))).box (g := vT.heap.size) (x := H.rl) (y := H.rh) (by rw [← hW]; exact Blk.new rfl))
  have KR := Lib.hid (KR.out.bel (show Below vT.heap.size vT wT by rw [← hW]; (exact belC)))
  have HBI := Lib.hid (HBI.out.below (show Below vT.heap.size vT wT by rw [← hW]; (exact belC)))
  clear hW
  generalize vT.heap.size = gT at *
  have KS := Lib.hid (HF.out.bx (gS, H.hl, H.hh) (by simp))
  have KT := Lib.hid (HF.out.bx (gT, H.rl, H.rh) (by simp))
  have KB := Lib.hid HF.out.kb
  refine wp_region_flow_back 15 72 (truQ w.heap.size wT.heap.size nb ci pi H.hl H.hh H.rl H.rh b.glo b.ghi g0 g1 g2 A0 A1 A3) (by kernel_rfl) (by kernel_rfl) rfl (truQ_kept _ _ _ _ _ _ _ _ _ _ _ _ _ _ _ _ _) ?_ ?_
  · intro i hin a X h1 h2 h3 h4 h5 KK hKK
    match i, hin with
    | 0, _ => exact st_val rfl (wanted_none rfl) (run_spanAt _ rfl (h3 6 (by kernel_rfl)) ((KS.out.bel h5).cell 0) ((KS.out.bel h5).cell 1)) (hKK _ _ rfl (Below.refl _ _))
    | 1, _ => exact st_move rfl rfl (wanted_none rfl) (h3 1 (by kernel_rfl)) (hKK _ _ rfl (Below.refl _ _))
    | 2, _ =>
      refine st_call rfl rfl (wanted_none rfl) (args_tc (h4 1 (by kernel_rfl))) (run_enter Tryz.func86 (by kernel_rfl) (by kernel_rfl) _) ?_
      refine (Pick_is pi ci bits nb 0 _ _ (HBI.out.below h5) HBL.out HNB.out HG.out.1).mono ?_
      rintro e w1 ⟨rfl, y9, rfl⟩
      exact ⟨_, rfl, hKK _ _ rfl (below_ext _ _)⟩
    | 3, _ =>
      refine st_call rfl rfl (wanted_none rfl) (args2 (h4 0 (by kernel_rfl)) (h4 2 (by kernel_rfl))) (run_enter Tryz.func49 (by kernel_rfl) (by kernel_rfl) _) ?_
      refine (Some_is _ _ _ _ _ (by have := HOK.out.hd; omega) HA.out.1).mono ?_
      rintro e w1 ⟨rfl, y9, rfl⟩
      exact ⟨_, rfl, hKK _ _ rfl (below_ext _ _)⟩
    | 4, _ => exact st_val rfl (wanted_none rfl) (run_spanAt _ rfl (h3 8 (by kernel_rfl)) ((KT.out.bel h5).cell 0) ((KT.out.bel h5).cell 1)) (hKK _ _ rfl (Below.refl _ _))
    | 5, _ => exact st_move rfl rfl (wanted_none rfl) (h3 1 (by kernel_rfl)) (hKK _ _ rfl (Below.refl _ _))
    | 6, _ =>
      refine st_call rfl rfl (wanted_none rfl) (args_tc (h4 5 (by kernel_rfl))) (run_enter Tryz.func86 (by kernel_rfl) (by kernel_rfl) _) ?_
      refine (Pick_is pi ci bits nb 1 _ _ (HBI.out.below h5) HBL.out HNB.out HG.out.2.1).mono ?_
      rintro e w1 ⟨rfl, y9, rfl⟩
      exact ⟨_, rfl, hKK _ _ rfl (below_ext _ _)⟩
    | 7, _ =>
      refine st_call rfl rfl (wanted_none rfl) (args2 (h4 4 (by kernel_rfl)) (h4 6 (by kernel_rfl))) (run_enter Tryz.func49 (by kernel_rfl) (by kernel_rfl) _) ?_
      refine (Some_is _ _ _ _ _ (by have := HOK.out.rt; omega) HA.out.2.1).mono ?_
      rintro e w1 ⟨rfl, y9, rfl⟩
      exact ⟨_, rfl, hKK _ _ rfl (below_ext _ _)⟩
    | 8, _ => exact st_val rfl (wanted_none rfl) (run_fGaleB _ rfl (h3 2 (by kernel_rfl)) (KB.out.bel h5).lt) (hKK _ _ rfl (Below.refl _ _))
    | 9, _ => exact st_val rfl (wanted_none rfl) (run_spanAt _ rfl (h4 8 (by kernel_rfl)) ((KB.out.bel h5).cell 5) ((KB.out.bel h5).cell 6)) (hKK _ _ rfl (Below.refl _ _))
    | 10, _ => exact st_move rfl rfl (wanted_none rfl) (h3 1 (by kernel_rfl)) (hKK _ _ rfl (Below.refl _ _))
    | 11, _ =>
      refine st_call rfl rfl (wanted_none rfl) (args_tc (h4 10 (by kernel_rfl))) (run_enter Tryz.func86 (by kernel_rfl) (by kernel_rfl) _) ?_
      refine (Pick_is pi ci bits nb 2 _ _ (HBI.out.below h5) HBL.out HNB.out HG.out.2.2).mono ?_
      rintro e w1 ⟨rfl, y9, rfl⟩
      exact ⟨_, rfl, hKK _ _ rfl (below_ext _ _)⟩
    | 12, _ =>
      refine st_call rfl rfl (wanted_none rfl) (args2 (h4 9 (by kernel_rfl)) (h4 11 (by kernel_rfl))) (run_enter Tryz.func49 (by kernel_rfl) (by kernel_rfl) _) ?_
      refine (Some_is _ _ _ _ _ HGL.out HA.out.2.2).mono ?_
      rintro e w1 ⟨rfl, y9, rfl⟩
      exact ⟨_, rfl, hKK _ _ rfl (below_ext _ _)⟩
    | 13, _ => exact st_val rfl (wanted_none rfl) (run_known _ rfl (h4 3 (by kernel_rfl)) (h4 7 (by kernel_rfl)) (h4 12 (by kernel_rfl))) (hKK _ _ rfl (Below.refl _ _))
    | 14, _ => exact st_valw rfl (wanted_none rfl) (run_allocK _ rfl) (hKK _ _ ⟨_, rfl, h5.size, Blk.new rfl⟩ ((Below.refl _ _).alloc (Nat.le_refl _) _))
    | k + 15, hk => omega
  intro vs Z hvs hBZ
  have v0 : vs 0 = _ := hvs 0 (by omega)
  have v1 : vs 1 = _ := hvs 1 (by omega)
  have v2 : vs 2 = _ := hvs 2 (by omega)
  have v3 : vs 3 = _ := hvs 3 (by omega)
  have v4 : vs 4 = _ := hvs 4 (by omega)
  have v5 : vs 5 = _ := hvs 5 (by omega)
  have v6 : vs 6 = _ := hvs 6 (by omega)
  have v7 : vs 7 = _ := hvs 7 (by omega)
  have v8 : vs 8 = _ := hvs 8 (by omega)
  have v9 : vs 9 = _ := hvs 9 (by omega)
  have v10 : vs 10 = _ := hvs 10 (by omega)
  have v11 : vs 11 = _ := hvs 11 (by omega)
  have v12 : vs 12 = _ := hvs 12 (by omega)
  have v13 : vs 13 = _ := hvs 13 (by omega)
  obtain ⟨gk, v14, hgk, hkk⟩ := hvs 14 (by omega)
  simp only [putAll, v0, v1, v2, v3, v4, v5, v6, v7, v8, v9, v10, v11, v12, v13, v14]
  clear v0 v1 v2 v3 v4 v5 v6 v7 v8 v9 v10 v11 v12 v13 v14 hvs
  simp only [dstOf, Act.put, List.getElem?_toArray, List.getElem?_cons_zero, List.getElem?_cons_succ, Option.bind_some, Option.getD_some, List.setIfInBounds_toArray, List.set_cons_succ, List.set_cons_zero, List.drop_succ_cons, List.drop_zero]
  have kk := hkk
  obtain ⟨r0, r1, r2, r3⟩ := Blk.c4 kk
  obtain ⟨f0, f1, f2, f3⟩ := Blk.f4 kk
  have lr := kk.lt
  clear kk
  go_upto_region 4 with fail
  have hb1 : Below wT.heap.size wT ((((Z.setCell ⟨gk, 0, none⟩ (.int .i64 (A0))).setCell ⟨gk, 1, none⟩ (.int .i64 (A1))).setCell ⟨gk, 2, none⟩ (.slice none 0 0)).setCell ⟨gk, 3, none⟩ (.int .i64 (A3))) := (((hBZ.setCell (by dsimp only; omega) _).setCell (by dsimp only; omega) _).setCell (by dsimp only; omega) _).setCell (by dsimp only; omega) _
  have k1 : Blk ((((Z.setCell ⟨gk, 0, none⟩ (.int .i64 (A0))).setCell ⟨gk, 1, none⟩ (.int .i64 (A1))).setCell ⟨gk, 2, none⟩ (.slice none 0 0)).setCell ⟨gk, 3, none⟩ (.int .i64 (A3))) gk 47 #[.int .i64 (A0), .int .i64 (A1), .slice none 0 0, .int .i64 (A3)] := by
    simpa using (((hkk.set 0 (.int .i64 (A0))).set 1 (.int .i64 (A1))).set 2 (.slice none 0 0)).set 3 (.int .i64 (A3))
  generalize hW4 : World.setCell (World.setCell (World.setCell (World.setCell Z _ _) _ _) _ _) _ _ = W4 at hb1 k1 ⊢
  clear hW4 r0 r1 r2 r3 f0 f1 f2 f3 lr hkk hBZ
  have HB4 := Lib.hid hb1
  have KK := Lib.hid k1
  have HFT := HF
  have HGK := Lib.hid hgk
  have hsz : W4.heap.size ≥ gk + 1 := k1.lt
  clear hb1 k1 HF
  have HTB := Lib.hid HFT.out.tb.ts
  have hszT := HFT.out.below.size
  have HLB := Lib.hid (HFT.out.kb)
  go_upto_region 5 with fail
  go_loopw [11] (fun i wr => ∃ (k : Nat) (q : Option Addr) (c : Nat), k ≤ b.ts.length ∧ i = .int .i64 k ∧ Hid (Blk wr gk 47 #[.int .i64 A0, .int .i64 A1, .slice q k c, .int .i64 A3]) ∧ Hid (OwnInts wr (gk + 1) (.slice q k c) (roomsK bits b.ts k)) ∧ Hid (Below wT.heap.size wT wr)) (fun i _ => b.ts.length - (intOf i).toNat)
  case atStart => exact ⟨0, none, 0, by omega, rfl, KK, Lib.hid (OwnInts.nil _ _), HB4⟩
  case round =>
    clear KK HB4
    obtain ⟨k, q, c, hk, rfl, KK, HO, HBR⟩ := hrel
    have hkd := HLB.out.bel HBR.out
    have KBR := Lib.hid hkd
    unfold tcs at hkd
    obtain ⟨d0, d1, d2, d3, d4, d5, d6, d7, d8⟩ := Blk.c9 hkd
    have lb := hkd.lt
    have hkk := KK.out
    have lk := hkk.lt
    clear hkd
    by_cases hlt : k < b.ts.length
    · clear hkk
      obtain ⟨s, hs⟩ := get_some b.ts k hlt
      obtain ⟨b1, o1, hp1, hb1, e1, e2, e3⟩ := (HTB.out.below HBR.out) k s hs
      have hb1g : b1 < gk := by have h1 := HFT.out.tb.lt _ hp1; have h2 := HGK.out; dsimp only at h1; omega
      have hbkg : w.heap.size < gk := by have h1 := HFT.out.kb.lt; have h2 := HGK.out; omega
      have HROW := Lib.hid (fun (j : Nat) (e : (Value.slice q k c).ownBlock = some j) => ((HO.out.lt j e).1 : gk + 1 ≤ j))
      have HP1 := Lib.hid hp1
      have E2 := Lib.hid e2
      have E3 := Lib.hid e3
      obtain ⟨gv, hgv⟩ : ∃ g, pickI bits ((k : Int) + 3) = g := ⟨_, rfl⟩
      obtain ⟨x, hx⟩ : ∃ x, someI s.lo s.hi gv = x := ⟨_, rfl⟩
      have HGV := Lib.hid hgv
      have HX := Lib.hid hx
      have HSB := Lib.hid (HRM.out k s hs)
      have HS := Lib.hid (show roomsK bits b.ts (k + 1) = roomsK bits b.ts k ++ [x] from roomsK_succ hs (by rw [hgv]; exact hx))
      have HW3 := Lib.hid (show IntKind.i64.wrap ((k : Int) + 3) = (k : Int) + 3 from IntWalk.i64_in _ (by have := HTS.out; omega))
      clear hgv hx
      have hl6 : (roomsK bits b.ts k).length ≤ 1000 := by have := HTS.out; simp [roomsK]; omega
      clear hp1 e1 e2 e3 hs
      go_upto_region 7 with fail
      clear d0 d1 d2 d3 d4 d5 d6 d7 d8 lb
      refine wp_region_flow_backH 16 72 14 (Value.slice q k c).ownBlock (rooQ gk w.heap.size b1 o1 b.ts.length p.tc k nb ci pi q c (roomsK bits b.ts k) s.lo s.hi ((k : Int) + 3) gv x) (by kernel_rfl) (by kernel_rfl) rfl (by omega) (rooQ_kept _ _ _ _ _ _ _ _ _ _ _ _ _ _ _ _ _ _) ?_ ?_ ?_
      · intro i hin hne f a W1 h1 h2 h3 h4 h5' h6' KK' hKK
        have far : ∀ g', g' < wr.heap.size → g' ≤ gk → W1.heap[g']? = wr.heap[g']? := fun g' hg hg2 => h5'.block g' hg (fun e => by have := HROW.out g' e.symm; omega)
        have hsz1 := h5'.size
        match i, hin with
        | 0, _ => exact st_val rfl (wanted_none rfl) (run_fRooms _ rfl (h3 10 (by kernel_rfl)) (Nat.lt_of_lt_of_le lk hsz1)) (hKK _ _ rfl (Below.refl _ _))
        | 1, _ =>
          have kx : Blk W1 gk _ _ := (far gk lk (Nat.le_refl _)).trans KK.out
          exact st_val rfl (wanted_none rfl) (run_lInts _ rfl (h4 0 (by kernel_rfl)) (Blk.cell kx 2)) (hKK _ _ ⟨rfl, fun hf => HO.out.below (h6' hf)⟩ (Below.refl _ _))
        | 2, _ => exact st_val rfl (wanted_none rfl) (run_fTides rfl (h3 2 (by kernel_rfl)) (Nat.lt_of_lt_of_le KBR.out.lt hsz1)) (hKK _ _ rfl (Below.refl _ _))
        | 3, _ =>
          have kx : Blk W1 w.heap.size _ _ := (far w.heap.size KBR.out.lt (by omega)).trans KBR.out
          exact st_val rfl (wanted_none rfl) (run_lTides rfl (h4 2 (by kernel_rfl)) ((Blk.cell kx 4).trans (by rw [show (tcs b p)[4]? = some (.slice p.tp b.ts.length p.tc) from rfl, HP1.out]))) (hKK _ _ rfl (Below.refl _ _))
        | 4, _ => exact st_move rfl rfl (wanted_none rfl) (h3 11 (by kernel_rfl)) (hKK _ _ rfl (Below.refl _ _))
        | 5, _ => exact st_val rfl (wanted_none rfl) (run_atLow _ rfl (h4 3 (by kernel_rfl)) (h4 4 (by kernel_rfl)) hlt (Nat.lt_of_lt_of_le hb1 hsz1)) (hKK _ _ rfl (Below.refl _ _))
        | 6, _ => exact st_val rfl (wanted_none rfl) (run_fRoom _ rfl (h4 5 (by kernel_rfl)) (Nat.lt_of_lt_of_le hb1 hsz1)) (hKK _ _ rfl (Below.refl _ _))
        | 7, _ =>
          have hc : ∀ j, W1.cell? ⟨b1, j, none⟩ = wr.cell? ⟨b1, j, none⟩ := fun j => World.cell?_of_block (a := ⟨b1, j, none⟩) (far b1 hb1 (by omega))
          exact st_val rfl (wanted_none rfl) (run_spanAt _ rfl (h4 6 (by kernel_rfl)) ((hc _).trans E2.out) ((hc _).trans E3.out)) (hKK _ _ rfl (Below.refl _ _))
        | 8, _ => exact st_move rfl rfl (wanted_none rfl) (h3 1 (by kernel_rfl)) (hKK _ _ rfl (Below.refl _ _))
        | 9, _ => exact st_move rfl rfl (wanted_none rfl) (h3 11 (by kernel_rfl)) (hKK _ _ rfl (Below.refl _ _))
        | 10, _ => exact st_val rfl (wanted_none rfl) (run_add3 _ rfl (h4 9 (by kernel_rfl)) HW3.out) (hKK _ _ rfl (Below.refl _ _))
        | 11, _ =>
          have hbw : IntsAt W1 pi bits := fun i z hz => by
            obtain ⟨bb, oo, e1, e2, e3⟩ := HBI.out i z hz
            have hbb : bb < wr.heap.size := Nat.lt_of_lt_of_le e2 HBR.out.size
            have hbg : bb ≤ gk := by have := HGK.out; omega
            have f1 := HBR.out.block bb e2
            exact ⟨bb, oo, e1, Nat.lt_of_lt_of_le hbb hsz1, (World.cell?_of_block (a := ⟨bb, oo + i, none⟩) ((far bb hbb hbg).trans f1)).trans e3⟩
          refine st_call rfl rfl (wanted_none rfl) (args2 (h4 8 (by kernel_rfl)) (h4 10 (by kernel_rfl))) (run_enter Tryz.func86 (by kernel_rfl) (by kernel_rfl) _) ?_
          refine (Pick_is pi ci bits nb _ _ _ hbw HBL.out HNB.out HGV.out).mono ?_
          rintro e w1 ⟨rfl, y9, rfl⟩
          exact ⟨_, rfl, hKK _ _ rfl (below_ext _ _)⟩
        | 12, _ =>
          refine st_call rfl rfl (wanted_none rfl) (args2 (h4 7 (by kernel_rfl)) (h4 11 (by kernel_rfl))) (run_enter Tryz.func49 (by kernel_rfl) (by kernel_rfl) _) ?_
          refine (Some_is _ _ _ _ _ HSB.out HX.out).mono ?_
          rintro e w1 ⟨rfl, y9, rfl⟩
          exact ⟨_, rfl, hKK _ _ rfl (below_ext _ _)⟩
        | 13, _ => exact st_valw rfl (wanted_none rfl) (run_bsInt _ rfl (h4 12 (by kernel_rfl))) (hKK _ _ ⟨_, rfl, fun _ => Blk.new rfl⟩ ((Below.refl _ _).alloc (Nat.le_refl _) _))
        | 14, _ => exact absurd rfl hne
        | 15, _ => exact st_val rfl (wanted_none rfl) (run_fRooms _ rfl (h3 10 (by kernel_rfl)) (Nat.lt_of_lt_of_le lk hsz1)) (hKK _ _ rfl (Below.refl _ _))
        | k + 16, hk => omega
      · intro a W1 h1 h2 h3 h4 h5' KK' hKK
        obtain ⟨ee1, ho⟩ := h4 1 (by kernel_rfl)
        obtain ⟨q', ee2, hq⟩ := h4 13 (by kernel_rfl)
        refine st_append_intO rfl (wanted_none rfl) _ _ rfl (gk + 1) _ _ ee1 (ho rfl) q' x ee2 (hq rfl) hl6 (by have := h5'.size; omega) ?_
        intro v' w' h7 h8
        refine hKK _ _ ⟨rfl, h7⟩ (fun j u hj hr => ?_) h8
        match j, hj with
        | 0, _ => exact hr
        | 1, _ => exact ⟨hr.1, fun hf => by cases hf⟩
        | 2, _ => exact hr
        | 3, _ => exact hr
        | 4, _ => exact hr
        | 5, _ => exact hr
        | 6, _ => exact hr
        | 7, _ => exact hr
        | 8, _ => exact hr
        | 9, _ => exact hr
        | 10, _ => exact hr
        | 11, _ => exact hr
        | 12, _ => exact hr
        | 13, _ => obtain ⟨q', e, _⟩ := hr; exact ⟨q', e, fun hf => by cases hf⟩
        | 14, _ => exact absurd hr.1 (by decide)
        | 15, _ => exact hr
        | k + 16, hk => omega
      · intro vs W3 hvs hB3
        have v0 : vs 0 = _ := hvs 0 (by omega)
        have v1 : vs 1 = _ := (hvs 1 (by omega)).1
        have v2 : vs 2 = _ := hvs 2 (by omega)
        have v3 : vs 3 = _ := hvs 3 (by omega)
        have v4 : vs 4 = _ := hvs 4 (by omega)
        have v5 : vs 5 = _ := hvs 5 (by omega)
        have v6 : vs 6 = _ := hvs 6 (by omega)
        have v7 : vs 7 = _ := hvs 7 (by omega)
        have v8 : vs 8 = _ := hvs 8 (by omega)
        have v9 : vs 9 = _ := hvs 9 (by omega)
        have v10 : vs 10 = _ := hvs 10 (by omega)
        have v11 : vs 11 = _ := hvs 11 (by omega)
        have v12 : vs 12 = _ := hvs 12 (by omega)
        obtain ⟨q', v13, -⟩ := hvs 13 (by omega)
        have ho8 := (hvs 14 (by omega)).2
        obtain ⟨p', c', v14, -⟩ := ho8.at
        have v15 : vs 15 = _ := hvs 15 (by omega)
        rw [v14] at ho8
        have hlen : (roomsK bits b.ts k ++ [x]).length = k + 1 := by simp [roomsK]
        rw [hlen] at ho8 v14
        simp only [putAll, v0, v1, v2, v3, v4, v5, v6, v7, v8, v9, v10, v11, v12, v13, v14, v15]
        clear v0 v1 v2 v3 v4 v5 v6 v7 v8 v9 v10 v11 v12 v13 v14 v15 hvs
        simp only [dstOf, Act.put, List.getElem?_toArray, List.getElem?_cons_zero, List.getElem?_cons_succ, Option.bind_some, Option.getD_some, List.setIfInBounds_toArray, List.set_cons_succ, List.set_cons_zero, List.drop_succ_cons, List.drop_zero]
        have kx3 : Blk W3 gk 47 #[.int .i64 A0, .int .i64 A1, .slice q k c, .int .i64 A3] := (hB3.block _ lk (fun e => by have := HROW.out _ e.symm; omega)).trans KK.out
        have hbl3 : Below wT.heap.size wT W3 := Below.grown HBR.out hB3 HBR.out.size (fun j hj => by have := HROW.out j hj; have := HGK.out; omega)
        have KX3 := Lib.hid kx3
        have HO8 := Lib.hid ho8
        have HBL3 := Lib.hid hbl3
        obtain ⟨r0, r1, r2, r3⟩ := Blk.c4 kx3
        obtain ⟨f0, f1, f2, f3⟩ := Blk.f4 kx3
        have lr := kx3.lt
        have HWN := Lib.hid (wrap_num k (by have := HTS.out; omega))
        have hts6 := HTS.out
        clear kx3 ho8 hbl3 hB3
        go_wp2_with fail
        go_roundw
        case rel => exact ⟨k + 1, p', c', by omega, by first | go_num | (rw [HWN.out]), Lib.hid (by simpa using KX3.out.set 2 (.slice p' (k + 1) c')), by rw [HS.out]; exact Lib.hid (HO8.out.kept (fun g hg => by have := (HO8.out.lt g hg).1; exact Below.heap_setCell _ _ _ _ (by dsimp only; omega))), Lib.hid (HBL3.out.setCell (by have := HGK.out; dsimp only; omega) _)⟩
        case measure => simp [intOf]; omega
    · obtain rfl : k = b.ts.length := by omega
      have krr := KR.out.bel HBR.out
      have KRR := Lib.hid krr
      have hz1 := KR.out.lt
      have hz2 := HGK.out
      obtain ⟨r0, r1, r2, r3⟩ := Blk.c4 hkk
      obtain ⟨z0, z1, z2, z3⟩ := Blk.c4 krr
      obtain ⟨f0, f1, f2, f3⟩ := Blk.f4 krr
      have lz := krr.lt
      clear hkk krr
      go_wp2_with fail
      have kE := (((KRR.out.set 0 (.int .i64 A0)).set 1 (.int .i64 A1)).set 2 (.slice q b.ts.length c)).set 3 (.int .i64 A3)
      have hBW : Below w.heap.size w wr := HFT.out.below.trans (HBR.out.mono HFT.out.below.size)
      have hE := (((hBW.setCell (p := ⟨w.heap.size + 1, 0, none⟩) (by dsimp only; omega) (.int .i64 A0)).setCell (p := ⟨w.heap.size + 1, 1, none⟩) (by dsimp only; omega) (.int .i64 A1)).setCell (p := ⟨w.heap.size + 1, 2, none⟩) (by dsimp only; omega) (.slice q b.ts.length c)).setCell (p := ⟨w.heap.size + 1, 3, none⟩) (by dsimp only; omega) (.int .i64 A3)
      have hne : ∀ g, (Value.slice q b.ts.length c).ownBlock = some g → g ≠ w.heap.size + 1 := fun g hg => by have := (HO.out.lt g hg).1; omega
      have hO := (((HO.out.kept (w' := wr.setCell ⟨w.heap.size + 1, 0, none⟩ (.int .i64 A0)) (fun g hg => Below.heap_setCell _ _ _ _ (hne g hg))).kept (w' := (wr.setCell ⟨w.heap.size + 1, 0, none⟩ (.int .i64 A0)).setCell ⟨w.heap.size + 1, 1, none⟩ (.int .i64 A1)) (fun g hg => Below.heap_setCell _ _ _ _ (hne g hg))).kept (w' := ((wr.setCell ⟨w.heap.size + 1, 0, none⟩ (.int .i64 A0)).setCell ⟨w.heap.size + 1, 1, none⟩ (.int .i64 A1)).setCell ⟨w.heap.size + 1, 2, none⟩ (.slice q b.ts.length c)) (fun g hg => Below.heap_setCell _ _ _ _ (hne g hg))).kept (w' := (((wr.setCell ⟨w.heap.size + 1, 0, none⟩ (.int .i64 A0)).setCell ⟨w.heap.size + 1, 1, none⟩ (.int .i64 A1)).setCell ⟨w.heap.size + 1, 2, none⟩ (.slice q b.ts.length c)).setCell ⟨w.heap.size + 1, 3, none⟩ (.int .i64 A3)) (fun g hg => Below.heap_setCell _ _ _ _ (hne g hg))
      generalize hWW : World.setCell (World.setCell (World.setCell (World.setCell wr _ _) _ _) _ _) _ _ = W9 at kE hE hO ⊢
      clear hWW
      have kE' : Blk W9 (w.heap.size + 1) 47 #[.int .i64 A0, .int .i64 A1, .slice q b.ts.length c, .int .i64 A3] := by simpa using kE
      have HE9 := Lib.hid hE
      have HO9 := Lib.hid hO
      clear hE hO kE
      obtain ⟨e0, e1, e2, e3⟩ := Blk.c4 kE'
      have lE := kE'.lt
      clear kE'
      have hO9 := HO9.out.mono (show w.heap.size ≤ gk + 1 by omega)
      refine bodyPost_ret (v := .tuple #[.agg #[.int .i64 A0, .int .i64 A1, .slice q b.ts.length c, .int .i64 A3], .bool true]) (by simp [results, Tryz.results36, go_sem, e0, e1, e2, e3, lE]) rfl ⟨q, c, rfl, hO9, ext_of HE9.out⟩
end Go.Proofs.YtcaeohgbgeadaaaGreatDoor

