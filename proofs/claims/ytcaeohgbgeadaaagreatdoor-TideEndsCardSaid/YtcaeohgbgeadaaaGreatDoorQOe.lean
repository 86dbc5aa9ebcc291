/- The walk of TideEnds. Written by gen_tends.py. -/
import Derived.Test.YtcaeohgbgeadaaaGreatDoorQOd
import Derived.Test.YtcaeohgbgeadaaaGreatDoorQOj
import Derived.RegionTactic
set_option linter.unusedSimpArgs false
set_option linter.unusedVariables false
namespace Go.Proofs.YtcaeohgbgeadaaaGreatDoor
open Go Go.RowKit Go.Shelf
theorem roomL_E (q : Bool) (ts : List Lw) (i : Nat) : roomL (roomsE q ts) i = roomT ts q i := by
  unfold roomL roomsE roomT
  rw [List.getD_eq_getElem?_getD, List.getElem?_map]
  cases ts[i]? with
  | none => rfl
  | some s => cases q <;> rfl
theorem play_corn {H : Hl} (k : H.OK) {pl : List Int} (hp : planB H.b.ts H.b.most H.b.rest pl = true) (x y c : Bool) :
    endS H.b (trOf H x y c c) pl = (endN x H.hl H.hh, runS H.b.ts (roomL (roomsE c H.b.ts)) (endN y H.rl H.rh) (endN c H.b.glo H.b.ghi) pl (endN x H.hl H.hh) H.b.now 0) := by
  rw [end_corn k hp, runS_congr (room' := roomL (roomsE c H.b.ts)) pl _ _ _ (fun t _ => (roomL_E c H.b.ts _).symm)]
/-- The store of what is known. -/
theorem st_store_known {ops : Array Oper} {Q : Exit → Act → World → Prop} {i : Nat} {o : Oper} {K : Act → World → Prop} {a : Act} {w : World} {s t g : Nat} {x y u : Int} {q : Option Addr} {n c : Nat} {v0 v1 v2 v3 : Value} (h : ops[i]? = some o) (hw : Region.wanted o (yielded ops a.tmps) = true) (hop : o.op = .store 47 (.tmp s) (.tmp t)) (hd : o.dst = none)
    (hs : a.tmps.getD s undef = .pointer (some ⟨g, 0, none⟩)) (ht : a.tmps.getD t undef = .agg #[.int .i64 x, .int .i64 y, .slice q n c, .int .i64 u]) (k : Blk w g 47 #[v0, v1, v2, v3])
    (hK : ∀ w', (∀ B, B ≤ g → Below B w w') → (∀ j, j ≠ g → w'.heap[j]? = w.heap[j]?) → Blk w' g 47 #[.int .i64 x, .int .i64 y, .slice q n c, .int .i64 u] → K a w') : wpOp Tryz.prog ops Q i K a w := by
  refine wpOp_want h hw ?_
  refine wp_store_mid 47 _ _ hop g 0 _ hs ht ?_ (by kernel_rfl) (by kernel_rfl) ?_
  · intro j hj
    rw [Nat.zero_add, k.cell, k.frozen]
    have hj' : j < (#[v0, v1, v2, v3] : Array Value).size := hj
    exact ⟨by rw [Array.getElem?_eq_getElem hj']; rfl, rfl⟩
  · rw [hd]
    refine hK ((((w.setCell ⟨g, 0, none⟩ (.int .i64 x)).setCell ⟨g, 1, none⟩ (.int .i64 y)).setCell ⟨g, 2, none⟩ (.slice q n c)).setCell ⟨g, 3, none⟩ (.int .i64 u)) (fun B hB => ((((Below.refl _ _).setCell hB _).setCell hB _).setCell hB _).setCell hB _) (fun j hj => ?_) ?_
    · rw [Below.heap_setCell _ _ _ _ (by dsimp only; omega), Below.heap_setCell _ _ _ _ (by dsimp only; omega), Below.heap_setCell _ _ _ _ (by dsimp only; omega), Below.heap_setCell _ _ _ _ (by dsimp only; omega)]
    · simpa using (((k.set 0 (.int .i64 x)).set 1 (.int .i64 y)).set 2 (.slice q n c)).set 3 (.int .i64 u)
def edgeR (b : Tk) (p : Tp) (k m n0 : Nat) (q0 q1 q2 : Bool) (A0 A1 A3 : Int) (L : List Int) (f : Bool) (i : Nat) (u : Value) (w : World) : Prop :=
  match i with
  | 0 => u = tv b p
  | 1 => u = .int .i64 k
  | 2 => u = .bool q0
  | 3 => u = .int .i64 k
  | 4 => u = .bool q1
  | 5 => u = .int .i64 k
  | 6 => u = .bool q2
  | 7 => ∃ rp rc, u = .tuple #[.agg #[.int .i64 A0, .int .i64 A1, .slice rp m rc, .int .i64 A3], .bool true] ∧ OwnInts w n0 (.slice rp m rc) L
  | 8 => ∃ rp rc, u = .tuple #[.agg #[.int .i64 A0, .int .i64 A1, .slice rp m rc, .int .i64 A3], .bool true] ∧ OwnInts w n0 (.slice rp m rc) L
  | 9 => ∃ rp rc, u = .agg #[.int .i64 A0, .int .i64 A1, .slice rp m rc, .int .i64 A3] ∧ OwnInts w n0 (.slice rp m rc) L
  | 10 => u = .bool true
  | 11 => ∃ g, u = .pointer (some ⟨g, 0, none⟩) ∧ n0 ≤ g ∧ (f = false → Blk w g 47 #[.int .i64 0, .int .i64 0, .slice none 0 0, .int .i64 0]) ∧ (f = true → ∃ rp rc, Blk w g 47 #[.int .i64 A0, .int .i64 A1, .slice rp m rc, .int .i64 A3] ∧ OwnInts w n0 (.slice rp m rc) L)
  | _ => True
theorem edgeR_kept (b : Tk) (p : Tp) (k m n0 : Nat) (q0 q1 q2 : Bool) (A0 A1 A3 : Int) (L : List Int) : ∀ (f : Bool) (i : Nat), i < 13 → i ≠ 12 → ∀ (u : Value) (w w' : World), edgeR b p k m n0 q0 q1 q2 A0 A1 A3 L f i u w → Below w.heap.size w w' → edgeR b p k m n0 q0 q1 q2 A0 A1 A3 L f i u w' := by
  intro f i hi hne u w w' h hb
  match i, hi with
  | 0, _ => exact h
  | 1, _ => exact h
  | 2, _ => exact h
  | 3, _ => exact h
  | 4, _ => exact h
  | 5, _ => exact h
  | 6, _ => exact h
  | 7, _ => obtain ⟨rp, rc, h1, h2⟩ := h; exact ⟨rp, rc, h1, h2.below hb⟩
  | 8, _ => obtain ⟨rp, rc, h1, h2⟩ := h; exact ⟨rp, rc, h1, h2.below hb⟩
  | 9, _ => obtain ⟨rp, rc, h1, h2⟩ := h; exact ⟨rp, rc, h1, h2.below hb⟩
  | 10, _ => exact h
  | 11, _ => obtain ⟨g, h1, h2, h3, h4⟩ := h; exact ⟨g, h1, h2, fun e => (h3 e).bel hb, fun e => by obtain ⟨rp, rc, h5, h6⟩ := h4 e; exact ⟨rp, rc, h5.bel hb, h6.below hb⟩⟩
  | 12, _ => exact absurd rfl hne
  | k + 13, hk => omega
attribute [local go_sem] Oper.semAt_some frozen_alloc_lt
set_option maxRecDepth 100000 in
set_option maxHeartbeats 4000000 in
theorem TideEnds_bad (b : Tk) (p : Tp) (n : Int) (w : World) (hk : TB w b p) (hn : Hid (b.q.ns.length ≤ 9223372036854775807)) (hv : validB b = false) :
    Calls Tryz.prog 7 #[tv b p, .int .i64 n] w fun e w' => e = .returned (.bool true) ∧ ∃ x, w' = ext w x := by
  have HK := Lib.hid hk
  have HV := Lib.hid hv
  clear hk hv
  unfold tv
  go_enter Tryz.func7, Tryz.ntmps7
  go_wp2_with (first
    | (go_at_call 35; refine (tsound_no b p _ (HK.out.bel belA) hn HV.out).mono ?_; rintro e w1 ⟨rfl, y, rfl⟩)
    | (go_at_call 23; refine (tucked_any _ (HK.out.q.mm.below belA)).mono ?_; rintro e w1 ⟨rfl, y, rfl⟩))
  go_ret
  exact ⟨rfl, by (exact ext_of (by (exact belA)))⟩
set_option maxRecDepth 100000 in
set_option maxHeartbeats 16000000 in
theorem TideEnds_ok (b : Tk) (p : Tp) (n : Int) (w : World) (hk : TB w b p) (hn : Hid (b.q.ns.length ≤ 9223372036854775807)) (hv : validB b = true) :
    Calls Tryz.prog 7 #[tv b p, .int .i64 n] w fun e w' => e = .returned (.bool true) ∧ ∃ x, w' = ext w x := by
  have HV := Lib.hid hv
  have h64 : (0 : Int) < ((2 ^ b.ts.length : Nat) : Int) := by have : 1 ≤ 2 ^ b.ts.length := Nat.one_le_two_pow; omega
  obtain ⟨z, hz⟩ := Int.eq_ofNat_of_zero_le (Int.emod_nonneg n (show ((2 ^ b.ts.length : Nat) : Int) ≠ 0 by omega))
  have HZ := Lib.hid hz
  have HPM := Lib.hid (drawT_plan (b := b) (L := bitsL z b.ts.length) hv (bitsL_rises _ _) (fun x hx => by obtain ⟨k, h1, -, rfl⟩ := mem_bitsL.1 hx; omega) (bitsL z b.ts.length).length).1
  clear hz h64
  have HMO := Lib.hid (of_validB hv).2.2.2.2.1.2
  have HRS := Lib.hid (of_validB hv).2.2.2.2.2.1
  obtain ⟨H, hH⟩ : ∃ H, haulOf b = H := ⟨_, rfl⟩
  have HHB := Lib.hid hH
  have HHT := Lib.hid (show H.b = b from hH ▸ rfl)
  have HO := Lib.hid (show H.OK from hH ▸ haul_ok hv)
  have HOV := Lib.hid (of_validB hv)
  clear hH hv
  have HF := Lib.hid (TF.start hk)
  unfold tv
  go_enter Tryz.func7, Tryz.ntmps7
  go_upto_region 1 with fail
  unfold tcs at HF
  generalize w.alloc _ = W at HF ⊢
  have HF : Hid (TF w W b p [] []) := HF
  clear hk
  have kb := HF.out.kb
  unfold tcs at kb
  obtain ⟨d0, d1, d2, d3, d4, d5, d6, d7, d8⟩ := Blk.c9 kb
  have lb := kb.lt
  clear kb
  go_upto_region 3 with (go_at_call 35; refine (tsound_yes b p _ HF.out.tb hn HV.out).mono ?_; rintro e w1 ⟨rfl, y, hw⟩; have HF := Lib.hid (HF.out.step (show Below W.heap.size W w1 by rw [hw]; (exact belC))); clear hw)
  clear d0 d1 d2 d3 d4 d5 d6 d7 d8 lb
  have kb := HF.out.kb
  unfold tcs at kb
  obtain ⟨d0, d1, d2, d3, d4, d5, d6, d7, d8⟩ := Blk.c9 kb
  have lb := kb.lt
  clear kb
  go_upto_region 4 with (go_at_call 37; refine (drawn_any b p n z _ HF.out.tb HV.out HZ.out).mono ?_; rintro e w2 ⟨vm, rfl, hpm, y, hw⟩; have HOM := Lib.hid hpm; clear hpm; have HF := Lib.hid (HF.out.step (show Below w1.heap.size w1 w2 by rw [hw]; (exact belC))); clear hw)
  clear d0 d1 d2 d3 d4 d5 d6 d7 d8 lb
  obtain ⟨ml, hml⟩ : ∃ ml, drawT b (bitsL z b.ts.length) (bitsL z b.ts.length).length = ml := ⟨_, rfl⟩
  rw [hml] at HOM HPM
  clear hml HZ
  have HF := Lib.hid (HF.out.list (plan_of_own HOM.out))
  obtain ⟨p2, c2, rfl, -, -⟩ := id (show PlanAt w2 vm ml from plan_of_own HOM.out)
  clear HOM
  have hl2 : (ml.length : Int) ≤ 6 := by have := plan_len HPM.out; have := HMO.out; omega
  obtain ⟨m, hm⟩ : ∃ m, ml.length = m := ⟨_, rfl⟩
  have HM := Lib.hid hm
  rw [hm] at HF hl2
  rw [hm]
  clear hm
  have HPQ := Lib.hid (show planB H.b.ts H.b.most H.b.rest ml = true from HHT.out.symm ▸ HPM.out)
  have kb := HF.out.kb
  unfold tcs at kb
  obtain ⟨d0, d1, d2, d3, d4, d5, d6, d7, d8⟩ := Blk.c9 kb
  have lb := kb.lt
  clear kb
  go_upto_region 5 with (go_at_call 19; refine (Out_yes b p _ ml H _ HF.out.tb hn (HF.out.ls (.slice p2 m c2, ml) (by simp)) (by rw [HM.out]; omega) HV.out HPM.out HHB.out).mono ?_; rintro e w3 ⟨rfl, y, hw⟩; have HF := Lib.hid (HF.out.step (show Below w2.heap.size w2 w3 by rw [hw]; (exact belC))); clear hw)
  clear d0 d1 d2 d3 d4 d5 d6 d7 d8 lb
  generalize hW : w3.alloc _ = w4
  have HF := Lib.hid ((HF.out.step (show Below w3.heap.size w3 w4 by rw [← hW]; (exact belC))).box (g := w3.heap.size) (x := ansLo H 0 ml) (y := ansHi H 0 ml) (by rw [← hW]; exact Blk.new rfl))
  clear hW
  generalize w3.heap.size = gS at *
  have kb := HF.out.kb
  unfold tcs at kb
  obtain ⟨d0, d1, d2, d3, d4, d5, d6, d7, d8⟩ := Blk.c9 kb
  have lb := kb.lt
  clear kb
  go_upto_region 6 with (go_at_call 21; refine (Lost_yes b p _ ml H _ HF.out.tb hn (HF.out.ls (.slice p2 m c2, ml) (by simp)) (by rw [HM.out]; omega) HV.out HPM.out HHB.out).mono ?_; rintro e w5 ⟨rfl, y, hw⟩; have HF := Lib.hid (HF.out.step (show Below w4.heap.size w4 w5 by rw [hw]; (exact belC))); clear hw)
  clear d0 d1 d2 d3 d4 d5 d6 d7 d8 lb
  generalize hW : w5.alloc _ = w6
  have HF := Lib.hid ((HF.out.step (show Below w5.heap.size w5 w6 by rw [← hW]; (exact belC))).box (g := w5.heap.size) (x := ansLo H 1 ml) (y := ansHi H 1 ml) (by rw [← hW]; exact Blk.new rfl))
  clear hW
  generalize w5.heap.size = gT at *
  have kb := HF.out.kb
  unfold tcs at kb
  obtain ⟨d0, d1, d2, d3, d4, d5, d6, d7, d8⟩ := Blk.c9 kb
  have lb := kb.lt
  clear kb
  go_upto_region 7 with (go_at_call 24; refine (Left_yes b p _ ml H _ HF.out.tb hn (HF.out.ls (.slice p2 m c2, ml) (by simp)) (by rw [HM.out]; omega) HV.out HPM.out HHB.out).mono ?_; rintro e w7 ⟨rfl, y, hw⟩; have HF := Lib.hid (HF.out.step (show Below w6.heap.size w6 w7 by rw [hw]; (exact belC))); clear hw)
  clear d0 d1 d2 d3 d4 d5 d6 d7 d8 lb
  generalize hW : w7.alloc _ = w8
  have HF := Lib.hid ((HF.out.step (show Below w7.heap.size w7 w8 by rw [← hW]; (exact belC))).box (g := w7.heap.size) (x := ansLo H 2 ml) (y := ansHi H 2 ml) (by rw [← hW]; exact Blk.new rfl))
  clear hW
  generalize w7.heap.size = gU at *
  have HPO := Lib.hid (plan_ord HO.out.rs.1 HO.out.ch HPQ.out)
  go_upto_region 10 with fail
  clear hl2
  have hm7 : m ≤ 1000 := by have := plan_len HPM.out; have := HMO.out; have := HM.out; omega
  go_loopw [12, 13, 14, 15, 16] (fun i _ _ _ _ wr => ∃ k : Nat, k ≤ 8 ∧ i = .int .i64 k ∧ Hid (TF w wr b p [(gU, ansLo H 2 ml, ansHi H 2 ml), (gT, ansLo H 1 ml, ansHi H 1 ml), (gS, ansLo H 0 ml, ansHi H 0 ml)] [(.slice p2 m c2, ml)])) (fun i _ _ _ _ _ => 8 - (intOf i).toNat)
  case atStart => exact ⟨0, by omega, rfl, HF⟩
  case round =>
    clear HF
    obtain ⟨k, hk, rfl, HF⟩ := hrel
    by_cases hlt : k < 8
    · go_upto_region 12 with fail
      obtain ⟨q0, hq0⟩ : ∃ q, k.testBit 0 = q := ⟨_, rfl⟩
      obtain ⟨q1, hq1⟩ : ∃ q, k.testBit 1 = q := ⟨_, rfl⟩
      obtain ⟨q2, hq2⟩ : ∃ q, k.testBit 2 = q := ⟨_, rfl⟩
      have HQ := Lib.hid (⟨hq0, hq1, hq2⟩ : k.testBit 0 = q0 ∧ k.testBit 1 = q1 ∧ k.testBit 2 = q2)
      clear hq0 hq1 hq2
      refine wp_region_flow_backS 13 141 12 (fun _ => True) (edgeR b p k b.ts.length wr.heap.size q0 q1 q2 (endN q0 H.hl H.hh) (endN q1 H.rl H.rh) (endN q2 b.glo b.ghi) (roomsE q2 b.ts)) (by kernel_rfl) (by kernel_rfl) rfl (by omega) (edgeR_kept _ _ _ _ _ _ _ _ _ _ _ _) (fun _ _ h _ => h) ?_ ?_ ?_
      · intro i hin hik f a X h1 h2 h3 h4' h5 hfw KK hKK
        have h4 := fun j (hj : j ≠ 12) => h4' j hj
        match i, hin with
        | 0, _ => exact st_val rfl (wanted_none rfl) (run_tbook _ rfl (h3 2 (by kernel_rfl)) (HF.out.kb.bel h5)) (hKK _ _ rfl (Below.refl _ _))
        | 1, _ => exact st_move rfl rfl (wanted_none rfl) (h3 12 (by kernel_rfl)) (hKK _ _ rfl (Below.refl _ _))
        | 2, _ =>
          refine st_call rfl rfl (wanted_none rfl) (args_tc (h4 1 (by decide) (by kernel_rfl))) (run_enter Tryz.func42 (by kernel_rfl) (by kernel_rfl) _) ?_
          refine (Bit_eq k 0 q0 _ (by omega) (by omega) HQ.out.1).mono ?_
          rintro e w1 ⟨rfl, rfl⟩
          exact ⟨_, rfl, hKK _ _ rfl (Below.refl _ _)⟩
        | 3, _ => exact st_move rfl rfl (wanted_none rfl) (h3 12 (by kernel_rfl)) (hKK _ _ rfl (Below.refl _ _))
        | 4, _ =>
          refine st_call rfl rfl (wanted_none rfl) (args_tc (h4 3 (by decide) (by kernel_rfl))) (run_enter Tryz.func42 (by kernel_rfl) (by kernel_rfl) _) ?_
          refine (Bit_eq k 1 q1 _ (by omega) (by omega) HQ.out.2.1).mono ?_
          rintro e w1 ⟨rfl, rfl⟩
          exact ⟨_, rfl, hKK _ _ rfl (Below.refl _ _)⟩
        | 5, _ => exact st_move rfl rfl (wanted_none rfl) (h3 12 (by kernel_rfl)) (hKK _ _ rfl (Below.refl _ _))
        | 6, _ =>
          refine st_call rfl rfl (wanted_none rfl) (args_tc (h4 5 (by decide) (by kernel_rfl))) (run_enter Tryz.func42 (by kernel_rfl) (by kernel_rfl) _) ?_
          refine (Bit_eq k 2 q2 _ (by omega) (by omega) HQ.out.2.2).mono ?_
          rintro e w1 ⟨rfl, rfl⟩
          exact ⟨_, rfl, hKK _ _ rfl (Below.refl _ _)⟩
        | 7, _ =>
          refine st_call rfl rfl (wanted_none rfl) (args4 (h4 0 (by decide) (by kernel_rfl)) (h4 2 (by decide) (by kernel_rfl)) (h4 4 (by decide) (by kernel_rfl)) (h4 6 (by decide) (by kernel_rfl))) (run_enter Tryz.func41 (by kernel_rfl) (by kernel_rfl) _) ?_
          refine (side_any b p q0 q1 q2 H _ (HF.out.tb.bel h5) HV.out HHB.out).mono ?_
          rintro e w1 ⟨rp, rc, rfl, hI, y9, rfl⟩
          exact ⟨_, rfl, hKK _ _ ⟨rp, rc, rfl, hI.mono h5.size⟩ (below_ext _ _)⟩
        | 8, _ =>
          obtain ⟨rp, rc, e7, i7⟩ := h4 7 (by decide) (by kernel_rfl)
          exact st_move rfl rfl (wanted_none rfl) e7 (hKK _ _ ⟨rp, rc, rfl, i7⟩ (Below.refl _ _))
        | 9, _ =>
          obtain ⟨rp, rc, e7, i7⟩ := h4 8 (by decide) (by kernel_rfl)
          exact st_val rfl (wanted_none rfl) (run_ext0 _ rfl e7) (hKK _ _ ⟨rp, rc, rfl, i7⟩ (Below.refl _ _))
        | 10, _ =>
          obtain ⟨rp, rc, e7, i7⟩ := h4 8 (by decide) (by kernel_rfl)
          exact st_val rfl (wanted_none rfl) (run_ext1 _ rfl e7) (hKK _ _ rfl (Below.refl _ _))
        | 11, _ =>
          cases f with
          | true =>
            have e := hfw rfl
            have e2 : true = false := Eq.trans (by kernel_rfl) e
            cases e2
          | false => exact st_valw rfl (wanted_none rfl) (run_allocK _ rfl) (hKK _ _ ⟨_, rfl, h5.size, fun _ => Blk.new rfl, fun e => by cases e⟩ ((Below.refl _ _).alloc (Nat.le_refl _) _))
        | 12, _ => exact absurd rfl hik
        | j + 13, hj => omega
      · intro a X h1 h2 h3 h4 h5 KK hKK
        obtain ⟨gk, e1, e2, e3, -⟩ := h4 11 (by decide) (by kernel_rfl)
        obtain ⟨rp, rc, e9, hO9⟩ := h4 9 (by decide) (by kernel_rfl)
        have far : ∀ (rp : Option Addr) (m rc : Nat) (L : List Int), OwnInts X wr.heap.size (.slice rp m rc) L → ∀ q, (Value.slice rp m rc).ownBlock = some q → q ≠ gk := fun rp m rc L hO q hq hqk => by
          subst hqk
          rcases hO.2 with ⟨h, -⟩ | ⟨g', cap, cur, hv, hg, hh, -⟩
          · rw [h] at hq; simp [Value.ownBlock] at hq
          · rw [hv] at hq
            have hgq : g' = q := by simpa [Value.ownBlock] using hq
            have hz := e3 rfl
            unfold Blk at hz
            rw [← hgq, hh] at hz
            simp at hz
        refine st_store_known rfl (wanted_none rfl) rfl rfl e1 e9 (e3 rfl) (fun w' hw' hfar hblk => hKK w' trivial (fun j hj hjk hr => ?_) (hw' _ e2))
        match j, hj with
        | 0, _ => exact hr
        | 1, _ => exact hr
        | 2, _ => exact hr
        | 3, _ => exact hr
        | 4, _ => exact hr
        | 5, _ => exact hr
        | 6, _ => exact hr
        | 7, _ => obtain ⟨rp, rc, d1, d2⟩ := hr; exact ⟨rp, rc, d1, d2.kept (fun q hq => hfar q (far _ _ _ _ d2 q hq))⟩
        | 8, _ => obtain ⟨rp, rc, d1, d2⟩ := hr; exact ⟨rp, rc, d1, d2.kept (fun q hq => hfar q (far _ _ _ _ d2 q hq))⟩
        | 9, _ => obtain ⟨rp, rc, d1, d2⟩ := hr; exact ⟨rp, rc, d1, d2.kept (fun q hq => hfar q (far _ _ _ _ d2 q hq))⟩
        | 10, _ => exact hr
        | 11, _ =>
          obtain ⟨ba', d1, d2, -, -⟩ := hr
          have hbb : ba' = gk := by
            have := e1.symm.trans d1
            simpa using this.symm
          subst hbb
          exact ⟨_, d1, d2, (fun e => by cases e), fun _ => ⟨rp, rc, hblk, hO9.kept (fun q hq => hfar q (far _ _ _ _ hO9 q hq))⟩⟩
        | 12, _ => exact absurd rfl hjk
        | k + 13, hk => omega
      intro vs Z hvs _ hBZ
      have v0 : vs 0 = _ := hvs 0 (by omega) (by decide)
      have v1 : vs 1 = _ := hvs 1 (by omega) (by decide)
      have v2 : vs 2 = _ := hvs 2 (by omega) (by decide)
      have v3 : vs 3 = _ := hvs 3 (by omega) (by decide)
      have v4 : vs 4 = _ := hvs 4 (by omega) (by decide)
      have v5 : vs 5 = _ := hvs 5 (by omega) (by decide)
      have v6 : vs 6 = _ := hvs 6 (by omega) (by decide)
      have v10 : vs 10 = _ := hvs 10 (by omega) (by decide)
      obtain ⟨rp7, rc7, v7, -⟩ := hvs 7 (by omega) (by decide)
      obtain ⟨rp8, rc8, v8, -⟩ := hvs 8 (by omega) (by decide)
      obtain ⟨rp9, rc9, v9, -⟩ := hvs 9 (by omega) (by decide)
      obtain ⟨gk, v11, hgk, -, hkk'⟩ := hvs 11 (by omega) (by decide)
      obtain ⟨rp, rc, hkk, hOR⟩ := hkk' rfl
      simp only [putSkip, Nat.reduceEqDiff, reduceIte, v0, v1, v2, v3, v4, v5, v6, v7, v8, v9, v10, v11]
      clear v0 v1 v2 v3 v4 v5 v6 v7 v8 v9 v10 v11 hvs
      simp only [dstOf, Act.put, List.getElem?_toArray, List.getElem?_cons_zero, List.getElem?_cons_succ, Option.bind_some, Option.getD_some, List.setIfInBounds_toArray, List.set_cons_succ, List.set_cons_zero, List.drop_succ_cons, List.drop_zero]
      have HF := Lib.hid (HF.out.step hBZ)
      have KX := Lib.hid hkk
      obtain ⟨rp', rc', e', hIR, -⟩ := hOR.at
      rw [show (roomsE q2 b.ts).length = b.ts.length by simp [roomsE]] at e'
      simp only [Value.slice.injEq] at e'
      obtain ⟨rfl, -, rfl⟩ := e'
      have HIR := Lib.hid hIR
      clear hkk hkk' hOR hIR hBZ
      have HPB := Lib.hid (show ordT b.ts b.now ml from HHT.out ▸ HPO.out)
      have b0 : 0 ≤ endN q0 H.hl H.hh ∧ endN q0 H.hl H.hh ≤ 400 := by have := HO.out.hd; cases q0 <;> simp [endN] <;> omega
      have b1 : 0 ≤ endN q1 H.rl H.rh ∧ endN q1 H.rl H.rh ≤ 400 := by have := HO.out.rt; cases q1 <;> simp [endN] <;> omega
      have b2 : b.now ≤ endN q2 b.glo b.ghi ∧ endN q2 b.glo b.ghi ≤ 60 := by have := HOV.out.2.2.2.1; cases q2 <;> simp [endN] <;> omega
      have HRM := Lib.hid (show ∀ i, 0 ≤ roomL (roomsE q2 b.ts) i ∧ roomL (roomsE q2 b.ts) i ≤ 99 from fun i => by rw [roomL_E]; have := HO.out.room q2 i; rw [HHT.out] at this; exact this)
      have kb := HF.out.kb
      unfold tcs at kb
      obtain ⟨d0, d1, d2, d3, d4, d5, d6, d7, d8⟩ := Blk.c9 kb
      have lb := kb.lt
      have kx := KX.out
      obtain ⟨x0, x1, x2, x3⟩ := Blk.c4 kx
      have lx := kx.lt
      clear kb kx
      go_upto_region 16 with (go_at_call 39; refine (played_any b p _ ml (endN q0 H.hl H.hh) (endN q1 H.rl H.rh) (endN q2 b.glo b.ghi) rp rc b.ts.length (roomsE q2 b.ts) _ HOV.out.1.1 HF.out.tb.ts HOV.out.2.1 HOV.out.2.2.1 (HF.out.ls (.slice p2 m c2, ml) (by simp)) HPB.out (by rw [HM.out]; exact hm7) (by simp [roomsE]) (Nat.le_refl _) HIR.out b0 b1 b2 HRM.out).mono ?_; rintro e w9 ⟨rfl, y, hw⟩; have KX := Lib.hid (KX.out.bel (show Below Z.heap.size Z w9 by rw [hw]; (exact belC))); have HF := Lib.hid (HF.out.step (show Below Z.heap.size Z w9 by rw [hw]; (exact belC))); clear hw)
      clear d0 d1 d2 d3 d4 d5 d6 d7 d8 lb x0 x1 x2 x3 lx
      have hpc := play_corn HO.out HPQ.out q0 q1 q2
      rw [HHT.out] at hpc
      have hrb := runS_bd (ts := b.ts) (room := roomL (roomsE q2 b.ts)) (fun i => (HRM.out i).1) (r := endN q1 H.rl H.rh) (g := endN q2 b.glo b.ghi) b1.1 ml (endN q0 H.hl H.hh) b.now 0 b0.1 HPB.out
      generalize runS b.ts (roomL (roomsE q2 b.ts)) (endN q1 H.rl H.rh) (endN q2 b.glo b.ghi) ml (endN q0 H.hl H.hh) b.now 0 = r at *
      obtain ⟨r1, r2⟩ := r
      dsimp only at hrb ⊢
      generalize hX0 : endN q0 H.hl H.hh = X0 at *
      generalize endN q1 H.rl H.rh = X1 at *
      generalize endN q2 b.glo b.ghi = X3 at *
      have w1 : wrap64 (X0 - r1) = X0 - r1 := by unfold wrap64; omega
      have w2 : IntKind.i64.wrap (X0 - r1) = X0 - r1 := IntWalk.i64_in _ (by omega)
      have kx := KX.out
      obtain ⟨x0, x1, x2, x3⟩ := Blk.c4 kx
      have lx := kx.lt
      clear kx
      have kS := HF.out.bx (gS, ansLo H 0 ml, ansHi H 0 ml) (by simp)
      dsimp only at kS
      obtain ⟨cS0, cS1⟩ := Blk.c2 kS
      have lS := kS.lt
      clear kS
      have kT := HF.out.bx (gT, ansLo H 1 ml, ansHi H 1 ml) (by simp)
      dsimp only at kT
      obtain ⟨cT0, cT1⟩ := Blk.c2 kT
      have lT := kT.lt
      clear kT
      have kU := HF.out.bx (gU, ansLo H 2 ml, ansHi H 2 ml) (by simp)
      dsimp only at kU
      obtain ⟨cU0, cU1⟩ := Blk.c2 kU
      have lU := kU.lt
      clear kU
      have HW := Lib.hid (wrap_num k (by omega))
      obtain ⟨h0, h1, h2⟩ := HQ.out
      rcases (show k = 0 ∨ k = 1 ∨ k = 2 ∨ k = 3 ∨ k = 4 ∨ k = 5 ∨ k = 6 ∨ k = 7 by omega) with rfl | rfl | rfl | rfl | rfl | rfl | rfl | rfl
      · obtain rfl : q0 = false := by rw [← h0]; rfl
        obtain rfl : q1 = false := by rw [← h1]; rfl
        obtain rfl : q2 = false := by rw [← h2]; rfl
        go_wp2_with fail
        go_roundw
        case rel => exact ⟨1, by omega, by go_num, HF⟩
        case measure => simp [intOf]
      · obtain rfl : q0 = true := by rw [← h0]; rfl
        obtain rfl : q1 = false := by rw [← h1]; rfl
        obtain rfl : q2 = false := by rw [← h2]; rfl
        have hf : ansHi H 2 ml = r2 := by rw [ansHi_is HO.out HPQ.out 2]; show askN 2 (endS H.b (trOf H true false false false) ml) = _; rw [HHT.out, hpc]; rfl
        rw [hf] at cU1
        clear hpc
        go_wp2_with fail
        go_roundw
        case rel => exact ⟨2, by omega, by go_num, HF⟩
        case measure => simp [intOf]
      · obtain rfl : q0 = false := by rw [← h0]; rfl
        obtain rfl : q1 = true := by rw [← h1]; rfl
        obtain rfl : q2 = false := by rw [← h2]; rfl
        have hf : ansLo H 0 ml = r1 := by rw [ansLo_is HO.out HPQ.out 0]; show askN 0 (endS H.b (trOf H false true false false) ml) = _; rw [HHT.out, hpc]; rfl
        rw [hf] at cS0
        clear hpc
        go_wp2_with fail
        go_roundw
        case rel => exact ⟨3, by omega, by go_num, HF⟩
        case measure => simp [intOf]
      · obtain rfl : q0 = true := by rw [← h0]; rfl
        obtain rfl : q1 = true := by rw [← h1]; rfl
        obtain rfl : q2 = false := by rw [← h2]; rfl
        have hf : ansHi H 1 ml = X0 - r1 := by rw [ansHi_is HO.out HPQ.out 1]; show askN 1 (endS H.b (trOf H true true false false) ml) = _; rw [HHT.out, hpc]; rfl
        rw [hf] at cT1
        clear hpc
        go_wp2_with fail
        go_roundw
        case rel => exact ⟨4, by omega, by go_num, HF⟩
        case measure => simp [intOf]
      · obtain rfl : q0 = false := by rw [← h0]; rfl
        obtain rfl : q1 = false := by rw [← h1]; rfl
        obtain rfl : q2 = true := by rw [← h2]; rfl
        have hf : ansLo H 1 ml = X0 - r1 := by rw [ansLo_is HO.out HPQ.out 1]; show askN 1 (endS H.b (trOf H false false true true) ml) = _; rw [HHT.out, hpc]; rfl
        rw [hf] at cT0
        clear hpc
        go_wp2_with fail
        go_roundw
        case rel => exact ⟨5, by omega, by go_num, HF⟩
        case measure => simp [intOf]
      · obtain rfl : q0 = true := by rw [← h0]; rfl
        obtain rfl : q1 = false := by rw [← h1]; rfl
        obtain rfl : q2 = true := by rw [← h2]; rfl
        have hf : ansHi H 0 ml = r1 := by rw [ansHi_is HO.out HPQ.out 0]; show askN 0 (endS H.b (trOf H true false true true) ml) = _; rw [HHT.out, hpc]; rfl
        rw [hf] at cS1
        clear hpc
        go_wp2_with fail
        go_roundw
        case rel => exact ⟨6, by omega, by go_num, HF⟩
        case measure => simp [intOf]
      · obtain rfl : q0 = false := by rw [← h0]; rfl
        obtain rfl : q1 = true := by rw [← h1]; rfl
        obtain rfl : q2 = true := by rw [← h2]; rfl
        have hf : ansLo H 2 ml = r2 := by rw [ansLo_is HO.out HPQ.out 2]; show askN 2 (endS H.b (trOf H false true true true) ml) = _; rw [HHT.out, hpc]; rfl
        rw [hf] at cU0
        clear hpc
        go_wp2_with fail
        go_roundw
        case rel => exact ⟨7, by omega, by go_num, HF⟩
        case measure => simp [intOf]
      · obtain rfl : q0 = true := by rw [← h0]; rfl
        obtain rfl : q1 = true := by rw [← h1]; rfl
        obtain rfl : q2 = true := by rw [← h2]; rfl
        go_wp2_with fail
        go_roundw
        case rel => exact ⟨8, by omega, by go_num, HF⟩
        case measure => simp [intOf]
    · have HMM := Lib.hid HF.out.tb.q.mm
      go_wp2_with (go_at_call 23; refine (tucked_any _ HMM.out).mono ?_; rintro e w99 ⟨rfl, y, hw⟩; have HF := Lib.hid (HF.out.step (show Below wr.heap.size wr w99 by rw [hw]; (exact belC))); clear hw)
      go_ret
      exact ⟨rfl, ext_of HF.out.below⟩
theorem TideEnds_any (b : Tk) (p : Tp) (n : Int) (w : World) (hk : TB w b p) (hn : Hid (b.q.ns.length ≤ 9223372036854775807)) :
    Calls Tryz.prog 7 #[tv b p, .int .i64 n] w fun e w' => e = .returned (.bool true) ∧ ∃ x, w' = ext w x := by
  cases hv : validB b
  · exact TideEnds_bad b p n w hk hn hv
  · exact TideEnds_ok b p n w hk hn hv
end Go.Proofs.YtcaeohgbgeadaaaGreatDoor

