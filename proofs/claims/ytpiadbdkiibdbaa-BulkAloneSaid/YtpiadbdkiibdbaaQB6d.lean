/- For the laws of package bulk: the chapter's examples. Written by gen_b6d.py. -/
import Derived.Test.YtpiadbdkiibdbaaQB6c
import Derived.BigQuiet
import Derived.RegionTactic
import Derived.Test.YtpiadbdkiibdbaaQFl
set_option linter.unusedSimpArgs false
set_option linter.unusedVariables false
namespace Go.Proofs.Ytpiadbdkiibdbaa
open Go Go.RowKit Go.Shelf
theorem own_open : openE (bookC 20 (-1)) true = 0 := by unfold openE; rw [own_cell, own_right]; rfl
theorem rowed_open : openE (bookC 20 9) true = 0 := by unfold openE; rw [rowed_cell, rowed_right]; rfl
theorem own_rightE : rightE (bookC 20 (-1)) = 0 := by unfold rightE; rw [own_cell]; rfl
theorem false_rightE : rightE (bookC 30 (-1)) = 0 := by unfold rightE; rw [false_cell]; rfl
theorem qf {k : Nat} (e : Qs.fish = .count k) : k < 3 := by cases e
theorem qp {k : Nat} (e : Qs.packed = .count k) : k < 3 := by cases e
theorem ans_of {b : Ck} {g : Ms → List (Int × Int) → Int} {lo hi : Int} (h : EndsC b g lo hi) : AnsC b g 0 lo hi := ⟨fun _ => h, fun h => absurd rfl h⟩
theorem own_ans {q : Qs} {i0 n : Nat} {lo hi : Int} (hq : ∀ k, q = .count k → k < 3) (hn : i0 + n ≤ 2) (h : ansV (bookC 20 (-1)) q i0 n = (lo, hi)) : AnsC (bookC 20 (-1)) (gSum q i0 n) 0 lo hi := by
  have := ansV_ends (b := bookC 20 (-1)) (q := q) (i0 := i0) (n := n) own_cell hq hn own_right
  rw [h] at this
  exact ans_of this
theorem own_at0 : AnsC (bookC 20 (-1)) (fun m _ => m.at 0) 0 3 4 := by
  have := holdV_ends (b := bookC 20 (-1)) (k := 0) own_cell own_right
  rw [own_holds0] at this
  exact ans_of this
theorem rowed_at0 : AnsC (bookC 20 9) (fun m _ => m.at 0) 0 4 4 := by
  have := holdV_ends (b := bookC 20 9) (k := 0) rowed_cell rowed_right
  rw [rowed_holds0] at this
  exact ans_of this
theorem holdsO (g : Nat) (w : World) (k : Blk w g 62 (lotCs 20 (-1))) : Calls Try.prog 18 #[ckV (bookC 20 (-1)) (some ⟨g, 0, none⟩) 2, .int .i64 0] w fun e' w' => e' = .returned (.tuple #[.agg #[.int .i64 3, .int .i64 4], .int .i64 0]) ∧ ∃ x, w' = ext w x :=
  bHolds_any _ _ _ 0 0 3 4 true w (cb_own k) (by decide) own_open own_at0
theorem holdsR (g : Nat) (w : World) (k : Blk w g 62 (lotCs 20 9)) : Calls Try.prog 18 #[ckV (bookC 20 9) (some ⟨g, 0, none⟩) 2, .int .i64 0] w fun e' w' => e' = .returned (.tuple #[.agg #[.int .i64 4, .int .i64 4], .int .i64 0]) ∧ ∃ x, w' = ext w x :=
  bHolds_any _ _ _ 0 0 4 4 true w (cb_own k) (by decide) rowed_open rowed_at0
theorem fishO (g : Nat) (w : World) (k : Blk w g 62 (lotCs 20 (-1))) : Calls Try.prog 21 #[ckV (bookC 20 (-1)) (some ⟨g, 0, none⟩) 2, .int .i64 0] w fun e' w' => e' = .returned (.tuple #[.agg #[.int .i64 27, .int .i64 36], .int .i64 0]) ∧ ∃ x, w' = ext w x :=
  bFish_any _ _ _ 0 0 27 36 w (cb_own k) true (by decide) (by decide) (by decide) own_open (own_ans (fun _ => qf) (by decide) own_fish0)
theorem packedO (g : Nat) (w : World) (k : Blk w g 62 (lotCs 20 (-1))) : Calls Try.prog 23 #[ckV (bookC 20 (-1)) (some ⟨g, 0, none⟩) 2, .int .i64 1] w fun e' w' => e' = .returned (.tuple #[.agg #[.int .i64 56, .int .i64 72], .int .i64 0]) ∧ ∃ x, w' = ext w x :=
  bPacked_any _ _ _ 1 0 56 72 w (cb_own k) true (by decide) (by decide) (by decide) own_open (own_ans (fun _ => qp) (by decide) own_packed1)
theorem countO (g : Nat) (w : World) (k : Blk w g 62 (lotCs 20 (-1))) : Calls Try.prog 25 #[ckV (bookC 20 (-1)) (some ⟨g, 0, none⟩) 2, .int .i64 0, .int .i64 0] w fun e' w' => e' = .returned (.tuple #[.agg #[.int .i64 9, .int .i64 11], .int .i64 0]) ∧ ∃ x, w' = ext w x :=
  bCount_any _ _ _ 0 0 true true 0 9 11 w (cb_own k) (by decide) (by decide) (by decide) (by decide) own_open (own_ans (fun k e => by cases e; decide) (by decide) own_count0)
theorem totalO (g : Nat) (w : World) (k : Blk w g 62 (lotCs 20 (-1))) : Calls Try.prog 27 #[ckV (bookC 20 (-1)) (some ⟨g, 0, none⟩) 2] w fun e' w' => e' = .returned (.tuple #[.agg #[.int .i64 83, .int .i64 110], .int .i64 0]) ∧ ∃ x, w' = ext w x :=
  bTotal_any _ _ _ 0 83 110 w (cb_own k) own_open (own_ans (fun _ => qf) (by decide) own_total)
theorem casksO (g : Nat) (w : World) (k : Blk w g 62 (lotCs 20 (-1))) : Calls Try.prog 29 #[ckV (bookC 20 (-1)) (some ⟨g, 0, none⟩) 2] w fun e' w' => e' = .returned (.tuple #[.agg #[.int .i64 18, .int .i64 18], .int .i64 0]) ∧ ∃ x, w' = ext w x :=
  bCasks_any _ _ _ 0 18 18 w (cb_own k) own_open (own_ans (fun k e => by cases e; decide) (by decide) own_casks)
theorem rightO (g : Nat) (w : World) (k : Blk w g 62 (lotCs 20 (-1))) : Calls Try.prog 14 #[ckV (bookC 20 (-1)) (some ⟨g, 0, none⟩) 2] w fun e' w' => e' = .returned (.tuple #[.bool true, .int .i64 0]) ∧ ∃ x, w' = ext w x :=
  bRight_any _ _ _ true 0 w (cb_own k) (by rw [own_cell, own_right]; rfl) own_rightE
theorem wrongF (g : Nat) (w : World) (k : Blk w g 62 (lotCs 30 (-1))) : Calls Try.prog 33 #[ckV (bookC 30 (-1)) (some ⟨g, 0, none⟩) 2] w fun e' w' => ∃ (p : Option Addr) (c : Nat), e' = .returned (.tuple #[.slice p 1 c, .int .i64 0]) ∧ IntsAt w' p [3] ∧ ∃ x, w' = ext w x :=
  (bWrong_any _ _ _ 0 w (cb_own k) false_rightE).mono fun e w' ⟨v, h1, h2, h3⟩ => by
    have hl : wrongB (bookC 30 (-1)) = [3] := by unfold wrongB; rw [false_cell, false_wrong]; rfl
    rw [hl] at h2
    obtain ⟨p, c, rfl, h4, -⟩ := h2
    exact ⟨p, c, h1, h4, h3⟩
theorem weighO (g : Nat) (w : World) (k : Blk w g 62 (lotCs 20 (-1))) : Calls Try.prog 31 #[ckV (bookC 20 (-1)) (some ⟨g, 0, none⟩) 2] w fun e' w' => e' = .returned (.tuple #[.int .i64 0, .int .i64 0]) ∧ ∃ x, w' = ext w x :=
  (bWeigh_any _ _ _ w (cb_own k)).mono fun e w' ⟨a, e1, h1, h2, h3⟩ => by
    obtain ⟨lo, hi, h4, h5⟩ := h2.yes own_open
    have h6 := h4.uniq ((own_ans (fun _ => qf) (by decide) own_total).yes rfl)
    rcases h5 with ⟨h7, -, -⟩ | ⟨-, rfl, w0, w1, w2, h7⟩
    · omega
    · rw [own_weigh h7] at h1
      exact ⟨h1, h3⟩
theorem sameB (l : List Int) (p q : Option Addr) (c d : Nat) (w : World) (hl : IntsAt w p l) (hm : IntsAt w q l) (hb : (l.length : Int) ≤ 1000) {args : Array Value} (hx : args = #[.slice p l.length c, .slice q l.length d]) :
    Calls Try.prog 35 args w fun e w' => e = .returned (.bool true) ∧ ∃ x, w' = ext w x := hx ▸
  (Same_any p q c d l l w hl hm hb hb).mono fun e w' ⟨h1, h2⟩ => by rw [decide_eq_true rfl] at h1; exact ⟨h1, h2⟩
theorem int_oneB {w : World} {g : Nat} {x : Int} (k : Blk w g 3 #[.int .i64 x]) : IntsAt w (some ⟨g, 0, none⟩) [x] := fun i z hi => by
  match i, hi with
  | 0, hi => simp at hi; subst hi; exact ⟨g, 0, rfl, k.lt, by rw [k.cell]; rfl⟩
  | i + 1, hi => simp at hi
theorem run_spanEq {o : Oper} {w : World} (ρ : Operand → Value) {s t : Nat} {t2 : TypeId} {x y : Int} (hop : o.op = .binOp .eql 23 (.tmp s) (.tmp t) t2) (h1 : ρ (.tmp s) = .agg #[.int .i64 x, .int .i64 y]) (h2 : ρ (.tmp t) = .agg #[.int .i64 x, .int .i64 y]) :
    (execOp ρ o).run Try.prog w = .ok (.value (.bool true)) w := by
  unfold execOp
  simp only [hop, h1, h2]
  simp only [Sem.run_bind, span_eql]
  simp [go_sem]
theorem run_eqB {P : Program} {o : Oper} {w : World} (ρ : Operand → Value) {s : Nat} {t t2 : TypeId} {m n : Int} (hop : o.op = .binOp .eql t (.tmp s) (.const (.int .i64 n)) t2) (hs : ρ (.tmp s) = .int .i64 m) (hn : ρ (.const (.int .i64 n)) = .int .i64 n) : (execOp ρ o).run P w = .ok (.value (.bool (m == n))) w := by
  unfold execOp
  simp [hop, hs, hn, go_sem]
theorem st_eqB {P : Program} {ops : Array Oper} {Q : Exit → Act → World → Prop} {i : Nat} {o : Oper} {K : Act → World → Prop} {a : Act} {w : World} {s : Nat} {t t2 : TypeId} {m n : Int} (h : ops[i]? = some o) (hop : o.op = .binOp .eql t (.tmp s) (.const (.int .i64 n)) t2) (hw : Region.wanted o (yielded ops a.tmps) = true) (hs : a.tmps.getD s undef = .int .i64 m) (hK : K (a.put o.dst (.bool (m == n))) w) : wpOp P ops Q i K a w :=
  st_val h hw (run_eqB _ hop hs rfl) hK
theorem gen_worldB {P : Program} {c : Code} {Q : Exit → Act → World → Prop} {a : Act} {w : World} (h : ∀ W, w = W → Code.wp P c Q a W) : Code.wp P c Q a w := h w rfl
/-- What region 13's operations leave. -/
def saltR (pL : Option Addr) (cL : Nat) (i : Nat) (v : Value) (w : World) : Prop :=
  match i with
  | 0 => v = .int .i64 0
  | 1 => v = .bool true
  | 2 => v = .bool true
  | 3 => v = .int .i64 0
  | 4 => v = .bool true
  | 5 => v = .bool true
  | 6 => v = .bool true
  | 7 => v = .int .i64 0
  | 8 => v = .bool true
  | 9 => v = .bool true
  | 10 => v = .bool true
  | 11 => v = .int .i64 0
  | 12 => v = .bool true
  | 13 => v = .bool true
  | 14 => v = .bool true
  | 15 => v = .int .i64 0
  | 16 => v = .bool true
  | 17 => v = .bool true
  | 18 => v = .bool true
  | 19 => v = .agg #[.int .i64 18, .int .i64 18]
  | 20 => v = .agg #[.int .i64 18, .int .i64 18]
  | 21 => v = .bool true
  | 22 => v = .bool true
  | 23 => v = .bool true
  | 24 => v = .bool true
  | 25 => v = .bool true
  | 26 => v = .bool true
  | 27 => v = .slice pL 1 cL
  | 28 => ∃ g, v = .slice (some ⟨g, 0, none⟩) 1 1 ∧ Blk w g 3 #[.int .i64 3]
  | 29 => v = .bool true
  | 30 => v = .bool true
  | 31 => v = .bool true
  | 32 => v = .agg #[.int .i64 4, .int .i64 4]
  | 33 => v = .agg #[.int .i64 4, .int .i64 4]
  | 34 => v = .bool true
  | 35 => v = .bool true
  | 36 => v = .bool true
  | 37 => v = .int .i64 0
  | 38 => v = .bool true
  | 39 => v = .bool true
  | _ => True
theorem saltR_kept (pL : Option Addr) (cL : Nat) : ∀ i, i < 40 → ∀ (v : Value) (w w' : World), saltR pL cL i v w → Below w.heap.size w w' → saltR pL cL i v w' := by
  intro i hi v w w' h hb
  match i, hi with
  | 0, _ => exact h
  | 1, _ => exact h
  | 2, _ => exact h
  | 3, _ => exact h
  | 4, _ => exact h
  | 5, _ => exact h
  | 6, _ => exact h
  | 7, _ => exact h
  | 8, _ => exact h
  | 9, _ => exact h
  | 10, _ => exact h
  | 11, _ => exact h
  | 12, _ => exact h
  | 13, _ => exact h
  | 14, _ => exact h
  | 15, _ => exact h
  | 16, _ => exact h
  | 17, _ => exact h
  | 18, _ => exact h
  | 19, _ => exact h
  | 20, _ => exact h
  | 21, _ => exact h
  | 22, _ => exact h
  | 23, _ => exact h
  | 24, _ => exact h
  | 25, _ => exact h
  | 26, _ => exact h
  | 27, _ => exact h
  | 28, _ => obtain ⟨g, h1, h2⟩ := h; exact ⟨g, h1, h2.bel hb⟩
  | 29, _ => exact h
  | 30, _ => exact h
  | 31, _ => exact h
  | 32, _ => exact h
  | 33, _ => exact h
  | 34, _ => exact h
  | 35, _ => exact h
  | 36, _ => exact h
  | 37, _ => exact h
  | 38, _ => exact h
  | 39, _ => exact h
  | k + 40, hk => omega
set_option maxRecDepth 100000 in
set_option maxHeartbeats 8000000 in
theorem salted_any (w : World) : Calls Try.prog 20 #[] w fun e w' => e = .returned (.bool true) ∧ ∃ x, w' = ext w x := by
  go_enter Try.func20, Try.ntmps20
  go_upto_region 6 with (first
    | (go_at_call 54; refine (own_any _).mono ?_; rintro e w1 ⟨gk, rfl, -, hk, y, rfl⟩; have KK := Lib.hid hk; clear hk)
    | (go_at_call 18; refine (holdsO gk _ KK.out).mono ?_; rintro e w1 ⟨rfl, y, rfl⟩; clear KK)
    | (go_at_call 21; refine (fishO gk _ KK.out).mono ?_; rintro e w1 ⟨rfl, y, rfl⟩; clear KK)
    | (go_at_call 23; refine (packedO gk _ KK.out).mono ?_; rintro e w1 ⟨rfl, y, rfl⟩; clear KK)
    | (go_at_call 25; refine (countO gk _ KK.out).mono ?_; rintro e w1 ⟨rfl, y, rfl⟩; clear KK)
    | (go_at_call 27; refine (totalO gk _ KK.out).mono ?_; rintro e w1 ⟨rfl, y, rfl⟩; clear KK))
  generalize hW : World.alloc (ext (World.alloc (ext (World.alloc (ext (World.alloc (ext (World.alloc (ext (w) _) _) _) _) _) _) _) _) _) _ = W0
  generalize hg5 : (ext (World.alloc (ext (World.alloc (ext (World.alloc (ext (World.alloc (ext (w) _) _) _) _) _) _) _) _) _).heap.size = g5
  generalize hg4 : (ext (World.alloc (ext (World.alloc (ext (World.alloc (ext (w) _) _) _) _) _) _) _).heap.size = g4
  generalize hg3 : (ext (World.alloc (ext (World.alloc (ext (w) _) _) _) _) _).heap.size = g3
  generalize hg2 : (ext (World.alloc (ext (w) _) _) _).heap.size = g2
  generalize hg1 : (ext (w) _).heap.size = g1
  have HW := Lib.hid (show Below w.heap.size w W0 by rw [← hW]; (exact belC))
  have k1 : Blk W0 g1 23 #[.int .i64 3, .int .i64 4] := by rw [← hW]; exact (((((((((Blk.new hg1.symm)).ext _).alloc _).ext _).alloc _).ext _).alloc _).ext _).alloc _
  have k2 : Blk W0 g2 23 #[.int .i64 27, .int .i64 36] := by rw [← hW]; exact (((((((Blk.new hg2.symm)).ext _).alloc _).ext _).alloc _).ext _).alloc _
  have k3 : Blk W0 g3 23 #[.int .i64 56, .int .i64 72] := by rw [← hW]; exact (((((Blk.new hg3.symm)).ext _).alloc _).ext _).alloc _
  have k4 : Blk W0 g4 23 #[.int .i64 9, .int .i64 11] := by rw [← hW]; exact (((Blk.new hg4.symm)).ext _).alloc _
  have k5 : Blk W0 g5 23 #[.int .i64 83, .int .i64 110] := by rw [← hW]; exact (Blk.new hg5.symm)
  have a1 := k1.cell 0
  have b1 := k1.cell 1
  have l1 := k1.lt
  have a2 := k2.cell 0
  have b2 := k2.cell 1
  have l2 := k2.lt
  have a3 := k3.cell 0
  have b3 := k3.cell 1
  have l3 := k3.lt
  have a4 := k4.cell 0
  have b4 := k4.cell 1
  have l4 := k4.lt
  have a5 := k5.cell 0
  have b5 := k5.cell 1
  have l5 := k5.lt
  simp only [List.size_toArray, List.length_cons, List.length_nil, Nat.reduceAdd, Nat.reduceLT, getElem?_pos, List.getElem_toArray, List.getElem_cons_zero, List.getElem_cons_succ] at a1 a2 a3 a4 a5 b1 b2 b3 b4 b5
  clear hW hg1 hg2 hg3 hg4 hg5 k1 k2 k3 k4 k5
  refine wp_region_ext (by kernel_rfl) (by kernel_rfl) ?_
  repeat (go_big_quiet_step (first | (go_at_call 52; exact quiet_ext (To_any _ _ _))))
  (refine wpQuiet_nil ?_; rintro _ ⟨x, rfl⟩)
  clear a1 a2 a3 a4 a5 b1 b2 b3 b4 b5 l1 l2 l3 l4 l5
  generalize hW6 : ext W0 _ = W6
  have HWW := Lib.hid (show Below w.heap.size w W6 by rw [← hW6]; exact HW.out.trans ((below_ext _ _).mono HW.out.size))
  clear hW6 HW
  go_upto_region 13 with (first
    | (go_at_call 54; refine (own_any _).mono ?_; rintro e w1 ⟨gk, rfl, -, hk, y, rfl⟩; have KK := Lib.hid hk; clear hk)
    | (go_at_call 56; refine (rowed_any _).mono ?_; rintro e w1 ⟨gk, rfl, -, hk, y, rfl⟩; have KK := Lib.hid hk; clear hk)
    | (go_at_call 57; refine (false30_any _).mono ?_; rintro e w1 ⟨gk, rfl, -, hk, y, rfl⟩; have KK := Lib.hid hk; clear hk)
    | (go_at_call 29; refine (casksO gk _ KK.out).mono ?_; rintro e w1 ⟨rfl, y, rfl⟩; clear KK)
    | (go_at_call 14; refine (rightO gk _ KK.out).mono ?_; rintro e w1 ⟨rfl, y, rfl⟩; clear KK)
    | (go_at_call 18; refine (holdsR gk _ KK.out).mono ?_; rintro e w1 ⟨rfl, y, rfl⟩; clear KK)
    | (go_at_call 31; refine (weighO gk _ KK.out).mono ?_; rintro e w1 ⟨rfl, y, rfl⟩; clear KK)
    | (go_at_call 33; refine (wrongF gk _ KK.out).mono ?_; rintro e w1 ⟨pL, cL, rfl, hl, y, rfl⟩; have HL := Lib.hid hl; clear KK hl))
  refine gen_worldB ?_
  intro W7 hW
  generalize hgx : (ext W6 _).heap.size = gx
  generalize hgy : (ext _ _).heap.size = gy
  have KX := Lib.hid (show Blk W7 gx 23 #[.int .i64 18, .int .i64 18] by rw [← hW]; exact ((((((Blk.new hgx.symm).ext _).ext _).ext _).alloc _).ext _))
  have KY := Lib.hid (show Blk W7 gy 23 #[.int .i64 4, .int .i64 4] by rw [← hW]; exact (Blk.new hgy.symm).ext _)
  have HL := Lib.hid (show IntsAt W7 pL [3] from HL.out.below (by rw [← hW]; exact bel_ext (bel_alloc (bel_ext (Below.refl _ _) _) _) _))
  have HW7 := Lib.hid (show Below w.heap.size w W7 from HWW.out.trans (Below.mono (show Below W6.heap.size W6 W7 by rw [← hW]; exact bel_ext (bel_alloc (bel_ext (bel_ext (bel_ext (bel_alloc (bel_ext (Below.refl _ _) _) _) _) _) _) _) _) HWW.out.size))
  clear hW hgx hgy HWW
  refine wp_region_flow_back 40 149 (saltR pL cL) (by kernel_rfl) (by kernel_rfl) rfl (saltR_kept _ _) ?_ ?_
  · intro i hin a X g1 g2 g3 g4 g5 KK hKK
    match i, hin with
    | 0, _ => exact st_move rfl rfl (wanted_none rfl) (g3 2 (by kernel_rfl)) (hKK _ _ rfl (Below.refl _ _))
    | 1, _ => exact st_eqB rfl rfl (wanted_none rfl) (g4 0 (by kernel_rfl)) (hKK _ _ rfl (Below.refl _ _))
    | 2, _ => exact st_move rfl rfl (wanted_none rfl) (g4 1 (by kernel_rfl)) (hKK _ _ rfl (Below.refl _ _))
    | 3, _ => exact st_move rfl rfl (wanted_some (s := 111) rfl (by kernel_rfl) (g4 2 (by kernel_rfl))) (g3 4 (by kernel_rfl)) (hKK _ _ rfl (Below.refl _ _))
    | 4, _ => exact st_eqB rfl rfl (wanted_some (s := 111) rfl (by kernel_rfl) (g4 2 (by kernel_rfl))) (g4 3 (by kernel_rfl)) (hKK _ _ rfl (Below.refl _ _))
    | 5, _ => exact st_pick rfl rfl (wanted_none rfl) (g4 2 (by kernel_rfl)) (g4 4 (by kernel_rfl)) (hKK _ _ rfl (Below.refl _ _))
    | 6, _ => exact st_move rfl rfl (wanted_none rfl) (g4 5 (by kernel_rfl)) (hKK _ _ rfl (Below.refl _ _))
    | 7, _ => exact st_move rfl rfl (wanted_some (s := 115) rfl (by kernel_rfl) (g4 6 (by kernel_rfl))) (g3 6 (by kernel_rfl)) (hKK _ _ rfl (Below.refl _ _))
    | 8, _ => exact st_eqB rfl rfl (wanted_some (s := 115) rfl (by kernel_rfl) (g4 6 (by kernel_rfl))) (g4 7 (by kernel_rfl)) (hKK _ _ rfl (Below.refl _ _))
    | 9, _ => exact st_pick rfl rfl (wanted_none rfl) (g4 6 (by kernel_rfl)) (g4 8 (by kernel_rfl)) (hKK _ _ rfl (Below.refl _ _))
    | 10, _ => exact st_move rfl rfl (wanted_none rfl) (g4 9 (by kernel_rfl)) (hKK _ _ rfl (Below.refl _ _))
    | 11, _ => exact st_move rfl rfl (wanted_some (s := 119) rfl (by kernel_rfl) (g4 10 (by kernel_rfl))) (g3 8 (by kernel_rfl)) (hKK _ _ rfl (Below.refl _ _))
    | 12, _ => exact st_eqB rfl rfl (wanted_some (s := 119) rfl (by kernel_rfl) (g4 10 (by kernel_rfl))) (g4 11 (by kernel_rfl)) (hKK _ _ rfl (Below.refl _ _))
    | 13, _ => exact st_pick rfl rfl (wanted_none rfl) (g4 10 (by kernel_rfl)) (g4 12 (by kernel_rfl)) (hKK _ _ rfl (Below.refl _ _))
    | 14, _ => exact st_move rfl rfl (wanted_none rfl) (g4 13 (by kernel_rfl)) (hKK _ _ rfl (Below.refl _ _))
    | 15, _ => exact st_move rfl rfl (wanted_some (s := 123) rfl (by kernel_rfl) (g4 14 (by kernel_rfl))) (g3 10 (by kernel_rfl)) (hKK _ _ rfl (Below.refl _ _))
    | 16, _ => exact st_eqB rfl rfl (wanted_some (s := 123) rfl (by kernel_rfl) (g4 14 (by kernel_rfl))) (g4 15 (by kernel_rfl)) (hKK _ _ rfl (Below.refl _ _))
    | 17, _ => exact st_pick rfl rfl (wanted_none rfl) (g4 14 (by kernel_rfl)) (g4 16 (by kernel_rfl)) (hKK _ _ rfl (Below.refl _ _))
    | 18, _ => exact st_move rfl rfl (wanted_none rfl) (g4 17 (by kernel_rfl)) (hKK _ _ rfl (Below.refl _ _))
    | 19, _ => exact st_val rfl (wanted_some (s := 127) rfl (by kernel_rfl) (g4 18 (by kernel_rfl))) (run_load_span _ (g3 11 (by kernel_rfl)) (KX.out.bel g5)) (hKK _ _ rfl (Below.refl _ _))
    | 20, _ => 
      refine st_call rfl rfl (wanted_some (s := 127) rfl (by kernel_rfl) (g4 18 (by kernel_rfl))) (vs := #[.int .i64 18]) (by simp [Act.eval]) (run_enter Try.func43 (by kernel_rfl) (by kernel_rfl) _) ?_
      refine (Just_any _ X).mono ?_
      rintro e' w1 ⟨rfl, x, rfl⟩
      exact ⟨_, rfl, hKK _ _ rfl (below_ext _ x)⟩
    | 21, _ => exact st_val rfl (wanted_some (s := 127) rfl (by kernel_rfl) (g4 18 (by kernel_rfl))) (run_spanEq _ rfl (g4 19 (by kernel_rfl)) (g4 20 (by kernel_rfl))) (hKK _ _ rfl (Below.refl _ _))
    | 22, _ => exact st_pick rfl rfl (wanted_none rfl) (g4 18 (by kernel_rfl)) (g4 21 (by kernel_rfl)) (hKK _ _ rfl (Below.refl _ _))
    | 23, _ => exact st_move rfl rfl (wanted_none rfl) (g4 22 (by kernel_rfl)) (hKK _ _ rfl (Below.refl _ _))
    | 24, _ => exact st_move rfl rfl (wanted_some (s := 132) rfl (by kernel_rfl) (g4 23 (by kernel_rfl))) (g3 12 (by kernel_rfl)) (hKK _ _ rfl (Below.refl _ _))
    | 25, _ => exact st_pick rfl rfl (wanted_none rfl) (g4 23 (by kernel_rfl)) (g4 24 (by kernel_rfl)) (hKK _ _ rfl (Below.refl _ _))
    | 26, _ => exact st_move rfl rfl (wanted_none rfl) (g4 25 (by kernel_rfl)) (hKK _ _ rfl (Below.refl _ _))
    | 27, _ => exact st_move rfl rfl (wanted_some (s := 135) rfl (by kernel_rfl) (g4 26 (by kernel_rfl))) (g3 13 (by kernel_rfl)) (hKK _ _ rfl (Below.refl _ _))
    | 28, _ => exact st_valw rfl (wanted_some (s := 135) rfl (by kernel_rfl) (g4 26 (by kernel_rfl))) (run_bs1 _ rfl) (hKK _ _ ⟨_, rfl, Blk.new rfl⟩ ((Below.refl _ _).alloc (Nat.le_refl _) _))
    | 29, _ => 
      obtain ⟨gz, h1, h2⟩ := g4 28 (by kernel_rfl)
      refine st_call rfl rfl (wanted_some (s := 135) rfl (by kernel_rfl) (g4 26 (by kernel_rfl))) (args2 (g4 27 (by kernel_rfl)) h1) (run_enter Try.func35 (by kernel_rfl) (by kernel_rfl) _) ?_
      refine (sameB [3] pL _ cL 1 X (HL.out.below g5) (int_oneB h2) (by decide) (by rfl)).mono ?_
      rintro e' w1 ⟨rfl, x, rfl⟩
      exact ⟨_, rfl, hKK _ _ rfl (below_ext _ x)⟩
    | 30, _ => exact st_pick rfl rfl (wanted_none rfl) (g4 26 (by kernel_rfl)) (g4 29 (by kernel_rfl)) (hKK _ _ rfl (Below.refl _ _))
    | 31, _ => exact st_move rfl rfl (wanted_none rfl) (g4 30 (by kernel_rfl)) (hKK _ _ rfl (Below.refl _ _))
    | 32, _ => exact st_val rfl (wanted_some (s := 140) rfl (by kernel_rfl) (g4 31 (by kernel_rfl))) (run_load_span _ (g3 14 (by kernel_rfl)) (KY.out.bel g5)) (hKK _ _ rfl (Below.refl _ _))
    | 33, _ => 
      refine st_call rfl rfl (wanted_some (s := 140) rfl (by kernel_rfl) (g4 31 (by kernel_rfl))) (vs := #[.int .i64 4]) (by simp [Act.eval]) (run_enter Try.func43 (by kernel_rfl) (by kernel_rfl) _) ?_
      refine (Just_any _ X).mono ?_
      rintro e' w1 ⟨rfl, x, rfl⟩
      exact ⟨_, rfl, hKK _ _ rfl (below_ext _ x)⟩
    | 34, _ => exact st_val rfl (wanted_some (s := 140) rfl (by kernel_rfl) (g4 31 (by kernel_rfl))) (run_spanEq _ rfl (g4 32 (by kernel_rfl)) (g4 33 (by kernel_rfl))) (hKK _ _ rfl (Below.refl _ _))
    | 35, _ => exact st_pick rfl rfl (wanted_none rfl) (g4 31 (by kernel_rfl)) (g4 34 (by kernel_rfl)) (hKK _ _ rfl (Below.refl _ _))
    | 36, _ => exact st_move rfl rfl (wanted_none rfl) (g4 35 (by kernel_rfl)) (hKK _ _ rfl (Below.refl _ _))
    | 37, _ => exact st_move rfl rfl (wanted_some (s := 145) rfl (by kernel_rfl) (g4 36 (by kernel_rfl))) (g3 15 (by kernel_rfl)) (hKK _ _ rfl (Below.refl _ _))
    | 38, _ => exact st_eqB rfl rfl (wanted_some (s := 145) rfl (by kernel_rfl) (g4 36 (by kernel_rfl))) (g4 37 (by kernel_rfl)) (hKK _ _ rfl (Below.refl _ _))
    | 39, _ => exact st_pick rfl rfl (wanted_none rfl) (g4 36 (by kernel_rfl)) (g4 38 (by kernel_rfl)) (hKK _ _ rfl (Below.refl _ _))
    | k + 40, hk => omega
  · intro vs T hvs hBT
    have v39 : vs 39 = .bool true := hvs 39 (by omega)
    have HBT := Lib.hid (HW7.out.trans (hBT.mono HW7.out.size))
    clear hBT KX KY HL HW7
    simp only [putAll, v39]
    clear v39 hvs
    simp only [dstOf, Act.put, List.getElem?_toArray, List.getElem?_cons_zero, List.getElem?_cons_succ, Option.bind_some, Option.getD_some, List.setIfInBounds_toArray, List.set_cons_succ, List.set_cons_zero, List.drop_succ_cons, List.drop_zero]
    go_wp2_with fail
    go_ret
    exact ⟨rfl, ext_of HBT.out⟩
end Go.Proofs.Ytpiadbdkiibdbaa

