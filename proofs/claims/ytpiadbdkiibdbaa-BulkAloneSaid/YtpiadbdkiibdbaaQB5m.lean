/- Contracts of package bulk: what is asked of a lot, at least and at most. Written by gen_b5m.py. -/
import Derived.Test.YtpiadbdkiibdbaaQB5l
set_option linter.unusedSimpArgs false
set_option linter.unusedVariables false
namespace Go.Proofs.Ytpiadbdkiibdbaa
open Go Go.RowKit Go.Shelf
attribute [local go_sem] Oper.semAt_some frozen_alloc_lt
theorem Below.of_grownN {A B : World} {n : Nat} (h : A.grownBy B none) (hn : n ≤ A.heap.size) : Below n A B := ⟨h.os, h.tape, h.output, h.size, fun k hk => h.block k (by omega) (by simp)⟩
theorem endsOf_bd {l : List (Int × Int)} (h : ∀ x ∈ l, (0 ≤ x.1 ∧ x.1 ≤ 400) ∧ 0 ≤ x.2 ∧ x.2 ≤ 400) : ∀ z ∈ endsOf l, (0 ≤ z.1 ∧ z.1 ≤ 400) ∧ 0 ≤ z.2 ∧ z.2 ≤ 400 := by
  have b1 := lsF_bd Prod.fst l 400 (by omega) (by omega) (fun y hy => (h y hy).1.1)
  have b2 := lsF_bd Prod.snd l 400 (by omega) (by omega) (fun y hy => (h y hy).2.1)
  have b3 := gtF_bd Prod.fst l 0 (by omega) (by omega) (fun y hy => (h y hy).1.2)
  have b4 := gtF_bd Prod.snd l 0 (by omega) (by omega) (fun y hy => (h y hy).2.2)
  intro z hz
  simp only [endsOf, List.mem_cons, List.not_mem_nil, or_false] at hz
  rcases hz with rfl | rfl
  · exact ⟨b3, b4⟩
  · exact ⟨b1, b2⟩
theorem PrivM.of_grownO {M : Nat → Prop} {b : Nat} {A B : World} (h : A.grownBy B (some b)) (hb : M b) : PrivM M A B := ⟨h.os, h.tape, h.output, h.size, fun k hk hn => h.block k hk (fun e => hn (by simp at e; exact e ▸ hb))⟩
theorem PrivM.of_belowO {M : Nat → Prop} {A B : World} (h : Below A.heap.size A B) : PrivM M A B := ⟨h.os, h.tape, h.output, h.size, fun k hk _ => h.block k hk⟩
set_option maxRecDepth 100000 in
set_option maxHeartbeats 8000000 in
theorem span_fish (b : Ck) (p : Option Addr) (c : Nat) (m : Ms) (t : Lt) (w : World) (hm : MsOK m) (ht : LtOK b t) (hc : canB b m t = true) (hin : ∀ l ∈ loadsL b m t, (0 ≤ l.1 ∧ l.1 ≤ 400) ∧ 0 ≤ l.2 ∧ l.2 ≤ 400) :
    Calls Try.prog 111 #[stV b p c m, qsV 92 #[], ltV t] w fun e w' => ∃ lo hi, e = .returned (.agg #[.int .i64 lo, .int .i64 hi]) ∧ EndsL b m t (Qs.num .fish m) lo hi ∧ ∃ x, w' = ext w x := by
  have HIN := Lib.hid hin
  have HM := Lib.hid hm
  have HT := Lib.hid ht
  have HC := Lib.hid hc
  have HE := Lib.hid (fun (w : World) => ends_any b p c m t w hm ht hin)
  clear hin hm ht hc
  unfold stV ltV at *
  unfold qsV
  go_enter Try.func111, Try.ntmps111
  go_upto_region 2 with fail
  generalize hW0 : World.alloc _ _ = W0
  have hB0 : Below w.heap.size w W0 := by rw [← hW0]; (exact belA)
  have k1 : Blk W0 w.heap.size 113 (stcs b p c m) := by rw [← hW0]; exact ((((Blk.new rfl).alloc _).alloc _).alloc _).alloc _
  have k2 : Blk W0 (w.heap.size + 1) 91 #[.func (.func 92) #[] #[]] := by rw [← hW0]; exact (((Blk.new (by simp)).alloc _).alloc _).alloc _
  have k3 : Blk W0 (w.heap.size + 1 + 1) 62 (ltcs t) := by rw [← hW0]; exact ((Blk.new (by simp)).alloc _).alloc _
  have k4 : Blk W0 (w.heap.size + 1 + 1 + 1) 23 #[.int .i64 0, .int .i64 0] := by rw [← hW0]; exact (Blk.new (by simp)).alloc _
  have k5 : Blk W0 (w.heap.size + 1 + 1 + 1 + 1) 23 #[.int .i64 400, .int .i64 0] := by rw [← hW0]; exact Blk.new (by simp)
  have o4 : w.heap.size < w.heap.size + 1 := by omega
  have o5 : w.heap.size + 1 < w.heap.size + 1 + 1 := by omega
  have o6 : w.heap.size + 1 + 1 < w.heap.size + 1 + 1 + 1 := by omega
  have o7 : w.heap.size + 1 + 1 + 1 < w.heap.size + 1 + 1 + 1 + 1 := by omega
  have o8 := k5.lt
  have HB0 := Lib.hid hB0
  have K1 := Lib.hid k1
  have K2 := Lib.hid k2
  have K4 := Lib.hid k4
  have K5 := Lib.hid k5
  clear hW0 hB0 k2 k4 k5
  generalize w.heap.size + 1 + 1 + 1 + 1 = g7 at *
  generalize w.heap.size + 1 + 1 + 1 = g6 at *
  generalize w.heap.size + 1 + 1 = g5 at *
  generalize w.heap.size + 1 = g4 at *
  unfold stcs at k1
  unfold ltcs at k3
  obtain ⟨s0, s1, s2, s3, s4, s5, s6, s7, s8, s9, s10, s11, s12⟩ := Blk.c13 k1
  obtain ⟨t0, t1, t2, t3, t4⟩ := Blk.c5 k3
  have ls := k1.lt
  have lt := k3.lt
  clear k1 k3
  go_wp2_with (go_at_call 127; refine (HE.out _).mono ?_; rintro e w2 ⟨gM, rfl, hgM, hmap, y, hw⟩; have HB2 := Lib.hid (show Below W0.heap.size W0 w2 by rw [hw]; (exact belA)); clear hw; obtain ⟨w3, left, cnt, hrun, hit, hleft, hg, hz, hcn⟩ := MapAt.range hmap key_load Try.underlying144)
  have HB3 := Lib.hid (HB2.out.trans ((Below.of_grownN hg (Nat.le_refl _)).mono HB2.out.size))
  have hz0 := HB0.out.size
  have hz2 := HB2.out.size
  have hEb : ∀ z ∈ endsOf (loadsL b m t), (0 ≤ z.1 ∧ z.1 ≤ 400) ∧ 0 ≤ z.2 ∧ z.2 ≤ 400 := endsOf_bd HIN.out
  have hMlt := hmap.lt
  have hMne : w.heap.size + 4 < gM := by omega
  have HREL : Hid (IterAt Try.prog 116 w3 gM w2.heap.size 2 (setF (endsOf (loadsL b m t))) left cnt ∧ Below w.heap.size w w3 ∧ PrivM (fun j => j = g7 ∨ W0.heap.size ≤ j) W0 w3 ∧ Blk w3 g7 23 #[.int .i64 (lsF (Qs.num .fish m) []), .int .i64 (gtF (Qs.num .fish m) [])] ∧ (∀ z ∈ endsOf (loadsL b m t), left z.1 z.2 = true ∨ z ∈ ([] : List (Int × Int))) ∧ (∀ z ∈ ([] : List (Int × Int)), z ∈ endsOf (loadsL b m t))) :=
    Lib.hid ⟨hit, HB0.out.trans (HB3.out.mono hz0), PrivM.of_below HB3.out, K5.out.bel HB3.out, fun z hz => .inl (by
      obtain ⟨⟨a1, a2⟩, a3, a4⟩ := hEb z hz
      rw [hleft _ _ (inI (by omega) (by omega)) (inI (by omega) (by omega)), setF_isSome]; simpa using hz), by simp⟩
  clear hrun hit hleft hg hmap
  go_loopw [8, 9] (fun _ _ wr => ∃ (left : Int → Int → Bool) (cnt : Nat) (dn : List (Int × Int)), Hid (IterAt Try.prog 116 wr gM w2.heap.size 2 (setF (endsOf (loadsL b m t))) left cnt ∧ Below w.heap.size w wr ∧ PrivM (fun j => j = g7 ∨ W0.heap.size ≤ j) W0 wr ∧ Blk wr g7 23 #[.int .i64 (lsF (Qs.num .fish m) dn), .int .i64 (gtF (Qs.num .fish m) dn)] ∧ (∀ z ∈ endsOf (loadsL b m t), left z.1 z.2 = true ∨ z ∈ dn) ∧ (∀ z ∈ dn, z ∈ endsOf (loadsL b m t))))
    (fun _ _ wr => wr.rangeLeft gM w2.heap.size)
  case atStart => exact ⟨left, cnt, [], HREL⟩
  case round =>
    clear HREL
    obtain ⟨left, cnt, dn, HR⟩ := hrel
    have hP := HR.out.2.2.1
    have hWz := hP.size
    rcases HR.out.1.next key_load 0 with ⟨e0, e1, hnx⟩ | ⟨x, y, v, w1, cnt', hx, hy, hlxy, hfv, hnx, hit1, hlt, hg1, hz1, hen⟩
    · have HS := Lib.hid (show ∀ z, z ∈ dn ↔ z ∈ endsOf (loadsL b m t) from fun z => ⟨HR.out.2.2.2.2.2 z, fun hz => by
        rcases HR.out.2.2.2.2.1 z hz with h1 | h1
        · obtain ⟨⟨a1, a2⟩, a3, a4⟩ := hEb z hz
          rw [e1 _ _ (inI (by omega) (by omega)) (inI (by omega) (by omega))] at h1; cases h1
        · exact h1⟩)
      have q7 := HR.out.2.2.2.1
      have q6 : Blk wr g6 23 #[.int .i64 0, .int .i64 0] := (hP.block _ K4.out.lt (by rintro (h | h) <;> omega)).trans K4.out
      obtain ⟨lo, hlo⟩ : ∃ x, lsF (Qs.num .fish m) dn = x := ⟨_, rfl⟩
      obtain ⟨hi, hhi⟩ : ∃ x, gtF (Qs.num .fish m) dn = x := ⟨_, rfl⟩
      rw [hlo, hhi] at q7
      have HLO := Lib.hid hlo
      have HHI := Lib.hid hhi
      obtain ⟨c0, c1⟩ := Blk.c2 q7
      obtain ⟨d0, d1⟩ := Blk.c2 q6
      obtain ⟨f0, f1⟩ := Blk.f2 q6
      have l7 := q7.lt
      have l6 := q6.lt
      have Q6 := Lib.hid (show Blk wr g6 23 #[.int .i64 0, .int .i64 0] from q6)
      have HP := Lib.hid hP
      clear e1 hEb hlo hhi q7 q6 hP
      go_wp2_with fail
      have hG := Q6.out.setB2 (.int .i64 lo) (.int .i64 hi)
      obtain ⟨v0, v1⟩ := Blk.c2 hG
      have hsB := HR.out.2.1.size
      refine bodyPost_ret (v := .agg #[.int .i64 lo, .int .i64 hi]) (by simp [results, Try.results111, go_sem, v0, v1]) rfl ⟨lo, hi, rfl, ?_, ext_of ?_⟩
      · have := ends_of b m t .fish dn HM.out (by intro k h; cases h) HC.out HIN.out HS.out
        rw [HLO.out, HHI.out] at this
        exact this
      · exact (HR.out.2.1.setCell (by dsimp only; omega) _).setCell (by dsimp only; omega) _
    · obtain ⟨hmem, rfl⟩ := setF_some hfv
      obtain ⟨⟨hx0, hx4⟩, hy0, hy4⟩ := hEb _ hmem
      dsimp only at hx0 hx4 hy0 hy4
      have hrlt := HR.out.1.lt
      have hMlt2 := HR.out.1.map.lt
      have hP1 : PrivM (fun j => j = g7 ∨ W0.heap.size ≤ j) W0 w1 := hP.trans (PrivM.of_grownO hg1 (.inr hz2))
      have b1 : Blk w1 w.heap.size 113 (stcs b p c m) := (hP1.block _ K1.out.lt (by rintro (h | h) <;> omega)).trans K1.out
      have b2 : Blk w1 g4 91 #[.func (.func 92) #[] #[]] := (hP1.block _ K2.out.lt (by rintro (h | h) <;> omega)).trans K2.out
      have q7 : Blk w1 g7 23 #[.int .i64 (lsF (Qs.num .fish m) dn), .int .i64 (gtF (Qs.num .fish m) dn)] := (hg1.block _ HR.out.2.2.2.1.lt (by simp; omega)).trans HR.out.2.2.2.1
      have HLS := Lib.hid (lsF_snoc (Qs.num .fish m) dn (x, y))
      have HGS := Lib.hid (gtF_snoc (Qs.num .fish m) dn (x, y))
      generalize lsF (Qs.num .fish m) dn = lo at *
      generalize gtF (Qs.num .fish m) dn = hi at *
      unfold stcs at b1
      obtain ⟨s0, s1, s2, s3, s4, s5, s6, s7, s8, s9, s10, s11, s12⟩ := Blk.c13 b1
      have u0 := Blk.c1 b2
      have l1 := b1.lt
      have l2 := b2.lt
      have Q7 := Lib.hid q7
      have HP1 := Lib.hid hP1
      have HIT1 := Lib.hid hit1
      have HBW1 := Lib.hid (HR.out.2.1.trans (below_grownB hg1 HR.out.2.1.size (by omega)))
      unfold key2 at hnx hen
      have hz10 : W0.heap.size ≤ w1.heap.size := hP1.size
      have hzM1 : gM < w1.heap.size := by omega
      have hzr1 : w2.heap.size < w1.heap.size := by omega
      clear b1 b2 q7 hP1 hit1 hg1 hP hEb hz1
      go_wp2_with (go_at_call 92; refine (fishQ_any m (x, y) _).mono ?_; rintro e w4 ⟨rfl, y0, hw⟩; have HB4 := Lib.hid (show Below w1.heap.size w1 w4 by rw [hw]; (exact belA)); clear hw; have Q74 := Lib.hid (Q7.out.bel HB4.out); have q74 := Q74.out; obtain ⟨c0, c1⟩ := Blk.c2 q74; obtain ⟨f0, f1⟩ := Blk.f2 q74; have l7 := q74.lt; clear q74)
      have hitF : ∀ v0 v1 : Value, IterAt Try.prog 116 ((w4.setCell ⟨g7, 0, none⟩ v0).setCell ⟨g7, 1, none⟩ v1) gM w2.heap.size 2 (setF (endsOf (loadsL b m t))) (fun x_1 y_1 => left x_1 y_1 && !(decide (x_1 = x) && decide (y_1 = y))) cnt' := fun v0 v1 =>
        (HIT1.out.below (m := w1.heap.size) (by omega) (by omega) HB4.out).of_heap ((Below.heap_setCell _ _ _ _ (by dsimp only; omega)).trans (Below.heap_setCell _ _ _ _ (by dsimp only; omega))) ((Below.heap_setCell _ _ _ _ (by dsimp only; omega)).trans (Below.heap_setCell _ _ _ _ (by dsimp only; omega)))
      have hsB := HBW1.out.size
      go_roundw
      case rel =>
        refine ⟨_, cnt', dn ++ [(x, y)], Lib.hid ⟨hitF _ _, ((HBW1.out.trans (HB4.out.mono hsB)).setCell (by dsimp only; omega) _).setCell (by dsimp only; omega) _, ((HP1.out.trans (PrivM.of_belowO HB4.out)).trans (PrivM.setCell _ (.inl rfl) _ _)).trans (PrivM.setCell _ (.inl rfl) _ _), ?_, ?_, ?_⟩⟩
        · rw [HLS.out, HGS.out]; exact Q74.out.setB2 _ _
        · intro z hz
          rcases HR.out.2.2.2.2.1 z hz with h1 | h1
          · by_cases he : z = (x, y)
            · subst he; exact .inr (by simp)
            · refine .inl ?_
              rw [h1]
              simp only [Bool.true_and, Bool.not_eq_true', Bool.and_eq_false_iff, decide_eq_false_iff_not]
              by_cases h2 : z.1 = x
              · exact .inr (fun h3 => he (Prod.ext h2 h3))
              · exact .inl h2
          · exact .inr (by simp [h1])
        · intro z hz
          rcases List.mem_append.1 hz with h | h
          · exact HR.out.2.2.2.2.2 z h
          · rw [List.mem_singleton.1 h]; exact hmem
      case measure =>
        rw [(hitF _ _).left_eq, HR.out.1.left_eq]; exact hlt
set_option maxRecDepth 100000 in
set_option maxHeartbeats 8000000 in
theorem span_packed (b : Ck) (p : Option Addr) (c : Nat) (m : Ms) (t : Lt) (w : World) (hm : MsOK m) (ht : LtOK b t) (hc : canB b m t = true) (hin : ∀ l ∈ loadsL b m t, (0 ≤ l.1 ∧ l.1 ≤ 400) ∧ 0 ≤ l.2 ∧ l.2 ≤ 400) :
    Calls Try.prog 111 #[stV b p c m, qsV 96 #[], ltV t] w fun e w' => ∃ lo hi, e = .returned (.agg #[.int .i64 lo, .int .i64 hi]) ∧ EndsL b m t (Qs.num .packed m) lo hi ∧ ∃ x, w' = ext w x := by
  have HIN := Lib.hid hin
  have HM := Lib.hid hm
  have HT := Lib.hid ht
  have HC := Lib.hid hc
  have HE := Lib.hid (fun (w : World) => ends_any b p c m t w hm ht hin)
  clear hin hm ht hc
  unfold stV ltV at *
  unfold qsV
  go_enter Try.func111, Try.ntmps111
  go_upto_region 2 with fail
  generalize hW0 : World.alloc _ _ = W0
  have hB0 : Below w.heap.size w W0 := by rw [← hW0]; (exact belA)
  have k1 : Blk W0 w.heap.size 113 (stcs b p c m) := by rw [← hW0]; exact ((((Blk.new rfl).alloc _).alloc _).alloc _).alloc _
  have k2 : Blk W0 (w.heap.size + 1) 91 #[.func (.func 96) #[] #[]] := by rw [← hW0]; exact (((Blk.new (by simp)).alloc _).alloc _).alloc _
  have k3 : Blk W0 (w.heap.size + 1 + 1) 62 (ltcs t) := by rw [← hW0]; exact ((Blk.new (by simp)).alloc _).alloc _
  have k4 : Blk W0 (w.heap.size + 1 + 1 + 1) 23 #[.int .i64 0, .int .i64 0] := by rw [← hW0]; exact (Blk.new (by simp)).alloc _
  have k5 : Blk W0 (w.heap.size + 1 + 1 + 1 + 1) 23 #[.int .i64 400, .int .i64 0] := by rw [← hW0]; exact Blk.new (by simp)
  have o4 : w.heap.size < w.heap.size + 1 := by omega
  have o5 : w.heap.size + 1 < w.heap.size + 1 + 1 := by omega
  have o6 : w.heap.size + 1 + 1 < w.heap.size + 1 + 1 + 1 := by omega
  have o7 : w.heap.size + 1 + 1 + 1 < w.heap.size + 1 + 1 + 1 + 1 := by omega
  have o8 := k5.lt
  have HB0 := Lib.hid hB0
  have K1 := Lib.hid k1
  have K2 := Lib.hid k2
  have K4 := Lib.hid k4
  have K5 := Lib.hid k5
  clear hW0 hB0 k2 k4 k5
  generalize w.heap.size + 1 + 1 + 1 + 1 = g7 at *
  generalize w.heap.size + 1 + 1 + 1 = g6 at *
  generalize w.heap.size + 1 + 1 = g5 at *
  generalize w.heap.size + 1 = g4 at *
  unfold stcs at k1
  unfold ltcs at k3
  obtain ⟨s0, s1, s2, s3, s4, s5, s6, s7, s8, s9, s10, s11, s12⟩ := Blk.c13 k1
  obtain ⟨t0, t1, t2, t3, t4⟩ := Blk.c5 k3
  have ls := k1.lt
  have lt := k3.lt
  clear k1 k3
  go_wp2_with (go_at_call 127; refine (HE.out _).mono ?_; rintro e w2 ⟨gM, rfl, hgM, hmap, y, hw⟩; have HB2 := Lib.hid (show Below W0.heap.size W0 w2 by rw [hw]; (exact belA)); clear hw; obtain ⟨w3, left, cnt, hrun, hit, hleft, hg, hz, hcn⟩ := MapAt.range hmap key_load Try.underlying144)
  have HB3 := Lib.hid (HB2.out.trans ((Below.of_grownN hg (Nat.le_refl _)).mono HB2.out.size))
  have hz0 := HB0.out.size
  have hz2 := HB2.out.size
  have hEb : ∀ z ∈ endsOf (loadsL b m t), (0 ≤ z.1 ∧ z.1 ≤ 400) ∧ 0 ≤ z.2 ∧ z.2 ≤ 400 := endsOf_bd HIN.out
  have hMlt := hmap.lt
  have hMne : w.heap.size + 4 < gM := by omega
  have HREL : Hid (IterAt Try.prog 116 w3 gM w2.heap.size 2 (setF (endsOf (loadsL b m t))) left cnt ∧ Below w.heap.size w w3 ∧ PrivM (fun j => j = g7 ∨ W0.heap.size ≤ j) W0 w3 ∧ Blk w3 g7 23 #[.int .i64 (lsF (Qs.num .packed m) []), .int .i64 (gtF (Qs.num .packed m) [])] ∧ (∀ z ∈ endsOf (loadsL b m t), left z.1 z.2 = true ∨ z ∈ ([] : List (Int × Int))) ∧ (∀ z ∈ ([] : List (Int × Int)), z ∈ endsOf (loadsL b m t))) :=
    Lib.hid ⟨hit, HB0.out.trans (HB3.out.mono hz0), PrivM.of_below HB3.out, K5.out.bel HB3.out, fun z hz => .inl (by
      obtain ⟨⟨a1, a2⟩, a3, a4⟩ := hEb z hz
      rw [hleft _ _ (inI (by omega) (by omega)) (inI (by omega) (by omega)), setF_isSome]; simpa using hz), by simp⟩
  clear hrun hit hleft hg hmap
  go_loopw [8, 9] (fun _ _ wr => ∃ (left : Int → Int → Bool) (cnt : Nat) (dn : List (Int × Int)), Hid (IterAt Try.prog 116 wr gM w2.heap.size 2 (setF (endsOf (loadsL b m t))) left cnt ∧ Below w.heap.size w wr ∧ PrivM (fun j => j = g7 ∨ W0.heap.size ≤ j) W0 wr ∧ Blk wr g7 23 #[.int .i64 (lsF (Qs.num .packed m) dn), .int .i64 (gtF (Qs.num .packed m) dn)] ∧ (∀ z ∈ endsOf (loadsL b m t), left z.1 z.2 = true ∨ z ∈ dn) ∧ (∀ z ∈ dn, z ∈ endsOf (loadsL b m t))))
    (fun _ _ wr => wr.rangeLeft gM w2.heap.size)
  case atStart => exact ⟨left, cnt, [], HREL⟩
  case round =>
    clear HREL
    obtain ⟨left, cnt, dn, HR⟩ := hrel
    have hP := HR.out.2.2.1
    have hWz := hP.size
    rcases HR.out.1.next key_load 0 with ⟨e0, e1, hnx⟩ | ⟨x, y, v, w1, cnt', hx, hy, hlxy, hfv, hnx, hit1, hlt, hg1, hz1, hen⟩
    · have HS := Lib.hid (show ∀ z, z ∈ dn ↔ z ∈ endsOf (loadsL b m t) from fun z => ⟨HR.out.2.2.2.2.2 z, fun hz => by
        rcases HR.out.2.2.2.2.1 z hz with h1 | h1
        · obtain ⟨⟨a1, a2⟩, a3, a4⟩ := hEb z hz
          rw [e1 _ _ (inI (by omega) (by omega)) (inI (by omega) (by omega))] at h1; cases h1
        · exact h1⟩)
      have q7 := HR.out.2.2.2.1
      have q6 : Blk wr g6 23 #[.int .i64 0, .int .i64 0] := (hP.block _ K4.out.lt (by rintro (h | h) <;> omega)).trans K4.out
      obtain ⟨lo, hlo⟩ : ∃ x, lsF (Qs.num .packed m) dn = x := ⟨_, rfl⟩
      obtain ⟨hi, hhi⟩ : ∃ x, gtF (Qs.num .packed m) dn = x := ⟨_, rfl⟩
      rw [hlo, hhi] at q7
      have HLO := Lib.hid hlo
      have HHI := Lib.hid hhi
      obtain ⟨c0, c1⟩ := Blk.c2 q7
      obtain ⟨d0, d1⟩ := Blk.c2 q6
      obtain ⟨f0, f1⟩ := Blk.f2 q6
      have l7 := q7.lt
      have l6 := q6.lt
      have Q6 := Lib.hid (show Blk wr g6 23 #[.int .i64 0, .int .i64 0] from q6)
      have HP := Lib.hid hP
      clear e1 hEb hlo hhi q7 q6 hP
      go_wp2_with fail
      have hG := Q6.out.setB2 (.int .i64 lo) (.int .i64 hi)
      obtain ⟨v0, v1⟩ := Blk.c2 hG
      have hsB := HR.out.2.1.size
      refine bodyPost_ret (v := .agg #[.int .i64 lo, .int .i64 hi]) (by simp [results, Try.results111, go_sem, v0, v1]) rfl ⟨lo, hi, rfl, ?_, ext_of ?_⟩
      · have := ends_of b m t .packed dn HM.out (by intro k h; cases h) HC.out HIN.out HS.out
        rw [HLO.out, HHI.out] at this
        exact this
      · exact (HR.out.2.1.setCell (by dsimp only; omega) _).setCell (by dsimp only; omega) _
    · obtain ⟨hmem, rfl⟩ := setF_some hfv
      obtain ⟨⟨hx0, hx4⟩, hy0, hy4⟩ := hEb _ hmem
      dsimp only at hx0 hx4 hy0 hy4
      have hrlt := HR.out.1.lt
      have hMlt2 := HR.out.1.map.lt
      have hP1 : PrivM (fun j => j = g7 ∨ W0.heap.size ≤ j) W0 w1 := hP.trans (PrivM.of_grownO hg1 (.inr hz2))
      have b1 : Blk w1 w.heap.size 113 (stcs b p c m) := (hP1.block _ K1.out.lt (by rintro (h | h) <;> omega)).trans K1.out
      have b2 : Blk w1 g4 91 #[.func (.func 96) #[] #[]] := (hP1.block _ K2.out.lt (by rintro (h | h) <;> omega)).trans K2.out
      have q7 : Blk w1 g7 23 #[.int .i64 (lsF (Qs.num .packed m) dn), .int .i64 (gtF (Qs.num .packed m) dn)] := (hg1.block _ HR.out.2.2.2.1.lt (by simp; omega)).trans HR.out.2.2.2.1
      have HLS := Lib.hid (lsF_snoc (Qs.num .packed m) dn (x, y))
      have HGS := Lib.hid (gtF_snoc (Qs.num .packed m) dn (x, y))
      generalize lsF (Qs.num .packed m) dn = lo at *
      generalize gtF (Qs.num .packed m) dn = hi at *
      unfold stcs at b1
      obtain ⟨s0, s1, s2, s3, s4, s5, s6, s7, s8, s9, s10, s11, s12⟩ := Blk.c13 b1
      have u0 := Blk.c1 b2
      have l1 := b1.lt
      have l2 := b2.lt
      have Q7 := Lib.hid q7
      have HP1 := Lib.hid hP1
      have HIT1 := Lib.hid hit1
      have HBW1 := Lib.hid (HR.out.2.1.trans (below_grownB hg1 HR.out.2.1.size (by omega)))
      unfold key2 at hnx hen
      have hz10 : W0.heap.size ≤ w1.heap.size := hP1.size
      have hzM1 : gM < w1.heap.size := by omega
      have hzr1 : w2.heap.size < w1.heap.size := by omega
      clear b1 b2 q7 hP1 hit1 hg1 hP hEb hz1
      go_wp2_with (go_at_call 96; refine (packedQ_any m (x, y) _).mono ?_; rintro e w4 ⟨rfl, y0, hw⟩; have HB4 := Lib.hid (show Below w1.heap.size w1 w4 by rw [hw]; (exact belA)); clear hw; have Q74 := Lib.hid (Q7.out.bel HB4.out); have q74 := Q74.out; obtain ⟨c0, c1⟩ := Blk.c2 q74; obtain ⟨f0, f1⟩ := Blk.f2 q74; have l7 := q74.lt; clear q74)
      have hitF : ∀ v0 v1 : Value, IterAt Try.prog 116 ((w4.setCell ⟨g7, 0, none⟩ v0).setCell ⟨g7, 1, none⟩ v1) gM w2.heap.size 2 (setF (endsOf (loadsL b m t))) (fun x_1 y_1 => left x_1 y_1 && !(decide (x_1 = x) && decide (y_1 = y))) cnt' := fun v0 v1 =>
        (HIT1.out.below (m := w1.heap.size) (by omega) (by omega) HB4.out).of_heap ((Below.heap_setCell _ _ _ _ (by dsimp only; omega)).trans (Below.heap_setCell _ _ _ _ (by dsimp only; omega))) ((Below.heap_setCell _ _ _ _ (by dsimp only; omega)).trans (Below.heap_setCell _ _ _ _ (by dsimp only; omega)))
      have hsB := HBW1.out.size
      go_roundw
      case rel =>
        refine ⟨_, cnt', dn ++ [(x, y)], Lib.hid ⟨hitF _ _, ((HBW1.out.trans (HB4.out.mono hsB)).setCell (by dsimp only; omega) _).setCell (by dsimp only; omega) _, ((HP1.out.trans (PrivM.of_belowO HB4.out)).trans (PrivM.setCell _ (.inl rfl) _ _)).trans (PrivM.setCell _ (.inl rfl) _ _), ?_, ?_, ?_⟩⟩
        · rw [HLS.out, HGS.out]; exact Q74.out.setB2 _ _
        · intro z hz
          rcases HR.out.2.2.2.2.1 z hz with h1 | h1
          · by_cases he : z = (x, y)
            · subst he; exact .inr (by simp)
            · refine .inl ?_
              rw [h1]
              simp only [Bool.true_and, Bool.not_eq_true', Bool.and_eq_false_iff, decide_eq_false_iff_not]
              by_cases h2 : z.1 = x
              · exact .inr (fun h3 => he (Prod.ext h2 h3))
              · exact .inl h2
          · exact .inr (by simp [h1])
        · intro z hz
          rcases List.mem_append.1 hz with h | h
          · exact HR.out.2.2.2.2.2 z h
          · rw [List.mem_singleton.1 h]; exact hmem
      case measure =>
        rw [(hitF _ _).left_eq, HR.out.1.left_eq]; exact hlt
theorem countQ_num (m : Ms) (l : Int × Int) (k g : Nat) (n : Int) (w : World) (hk : Blk w g 3 #[.int .i64 k]) (hk3 : k < 3) (hm : MsOK m) (h1 : 0 ≤ l.1 ∧ l.1 ≤ 100000) (h2 : 0 ≤ l.2 ∧ l.2 ≤ 100000) (hn : cntI m k l = n) : Calls Try.prog 97 #[msV m, ldV l, .pointer (some ⟨g, 0, none⟩)] w fun e w' => e = .returned (.int .i64 n) ∧ ∃ x, w' = ext w x := hn ▸ countQ_any m l k g w hk hk3 hm h1 h2
set_option maxRecDepth 100000 in
set_option maxHeartbeats 8000000 in
theorem span_count (b : Ck) (p : Option Addr) (c : Nat) (m : Ms) (t : Lt) (k g : Nat) (hk3 : k < 3) (w : World) (hm : MsOK m) (ht : LtOK b t) (hc : canB b m t = true) (hin : ∀ l ∈ loadsL b m t, (0 ≤ l.1 ∧ l.1 ≤ 400) ∧ 0 ≤ l.2 ∧ l.2 ≤ 400) (hkb : Blk w g 3 #[.int .i64 k]) :
    Calls Try.prog 111 #[stV b p c m, qsV 97 #[.pointer (some ⟨g, 0, none⟩)], ltV t] w fun e w' => ∃ lo hi, e = .returned (.agg #[.int .i64 lo, .int .i64 hi]) ∧ EndsL b m t (Qs.num (.count k) m) lo hi ∧ ∃ x, w' = ext w x := by
  have HIN := Lib.hid hin
  have HM := Lib.hid hm
  have HT := Lib.hid ht
  have HC := Lib.hid hc
  have HE := Lib.hid (fun (w : World) => ends_any b p c m t w hm ht hin)
  have HKB := Lib.hid hkb
  have HK3 := Lib.hid hk3
  clear hin hm ht hc hkb hk3
  unfold stV ltV at *
  unfold qsV
  go_enter Try.func111, Try.ntmps111
  go_upto_region 2 with fail
  generalize hW0 : World.alloc _ _ = W0
  have hB0 : Below w.heap.size w W0 := by rw [← hW0]; (exact belA)
  have k1 : Blk W0 w.heap.size 113 (stcs b p c m) := by rw [← hW0]; exact ((((Blk.new rfl).alloc _).alloc _).alloc _).alloc _
  have k2 : Blk W0 (w.heap.size + 1) 91 #[.func (.func 97) #[] #[.pointer (some ⟨g, 0, none⟩)]] := by rw [← hW0]; exact (((Blk.new (by simp)).alloc _).alloc _).alloc _
  have k3 : Blk W0 (w.heap.size + 1 + 1) 62 (ltcs t) := by rw [← hW0]; exact ((Blk.new (by simp)).alloc _).alloc _
  have k4 : Blk W0 (w.heap.size + 1 + 1 + 1) 23 #[.int .i64 0, .int .i64 0] := by rw [← hW0]; exact (Blk.new (by simp)).alloc _
  have k5 : Blk W0 (w.heap.size + 1 + 1 + 1 + 1) 23 #[.int .i64 400, .int .i64 0] := by rw [← hW0]; exact Blk.new (by simp)
  have o4 : w.heap.size < w.heap.size + 1 := by omega
  have o5 : w.heap.size + 1 < w.heap.size + 1 + 1 := by omega
  have o6 : w.heap.size + 1 + 1 < w.heap.size + 1 + 1 + 1 := by omega
  have o7 : w.heap.size + 1 + 1 + 1 < w.heap.size + 1 + 1 + 1 + 1 := by omega
  have o8 := k5.lt
  have HB0 := Lib.hid hB0
  have K1 := Lib.hid k1
  have K2 := Lib.hid k2
  have K4 := Lib.hid k4
  have K5 := Lib.hid k5
  clear hW0 hB0 k2 k4 k5
  generalize w.heap.size + 1 + 1 + 1 + 1 = g7 at *
  generalize w.heap.size + 1 + 1 + 1 = g6 at *
  generalize w.heap.size + 1 + 1 = g5 at *
  generalize w.heap.size + 1 = g4 at *
  unfold stcs at k1
  unfold ltcs at k3
  obtain ⟨s0, s1, s2, s3, s4, s5, s6, s7, s8, s9, s10, s11, s12⟩ := Blk.c13 k1
  obtain ⟨t0, t1, t2, t3, t4⟩ := Blk.c5 k3
  have ls := k1.lt
  have lt := k3.lt
  clear k1 k3
  go_wp2_with (go_at_call 127; refine (HE.out _).mono ?_; rintro e w2 ⟨gM, rfl, hgM, hmap, y, hw⟩; have HB2 := Lib.hid (show Below W0.heap.size W0 w2 by rw [hw]; (exact belA)); clear hw; obtain ⟨w3, left, cnt, hrun, hit, hleft, hg, hz, hcn⟩ := MapAt.range hmap key_load Try.underlying144)
  have HB3 := Lib.hid (HB2.out.trans ((Below.of_grownN hg (Nat.le_refl _)).mono HB2.out.size))
  have hz0 := HB0.out.size
  have hz2 := HB2.out.size
  have hEb : ∀ z ∈ endsOf (loadsL b m t), (0 ≤ z.1 ∧ z.1 ≤ 400) ∧ 0 ≤ z.2 ∧ z.2 ≤ 400 := endsOf_bd HIN.out
  have hMlt := hmap.lt
  have hMne : w.heap.size + 4 < gM := by omega
  have HREL : Hid (IterAt Try.prog 116 w3 gM w2.heap.size 2 (setF (endsOf (loadsL b m t))) left cnt ∧ Below w.heap.size w w3 ∧ PrivM (fun j => j = g7 ∨ W0.heap.size ≤ j) W0 w3 ∧ Blk w3 g7 23 #[.int .i64 (lsF (Qs.num (.count k) m) []), .int .i64 (gtF (Qs.num (.count k) m) [])] ∧ (∀ z ∈ endsOf (loadsL b m t), left z.1 z.2 = true ∨ z ∈ ([] : List (Int × Int))) ∧ (∀ z ∈ ([] : List (Int × Int)), z ∈ endsOf (loadsL b m t))) :=
    Lib.hid ⟨hit, HB0.out.trans (HB3.out.mono hz0), PrivM.of_below HB3.out, K5.out.bel HB3.out, fun z hz => .inl (by
      obtain ⟨⟨a1, a2⟩, a3, a4⟩ := hEb z hz
      rw [hleft _ _ (inI (by omega) (by omega)) (inI (by omega) (by omega)), setF_isSome]; simpa using hz), by simp⟩
  clear hrun hit hleft hg hmap
  go_loopw [8, 9] (fun _ _ wr => ∃ (left : Int → Int → Bool) (cnt : Nat) (dn : List (Int × Int)), Hid (IterAt Try.prog 116 wr gM w2.heap.size 2 (setF (endsOf (loadsL b m t))) left cnt ∧ Below w.heap.size w wr ∧ PrivM (fun j => j = g7 ∨ W0.heap.size ≤ j) W0 wr ∧ Blk wr g7 23 #[.int .i64 (lsF (Qs.num (.count k) m) dn), .int .i64 (gtF (Qs.num (.count k) m) dn)] ∧ (∀ z ∈ endsOf (loadsL b m t), left z.1 z.2 = true ∨ z ∈ dn) ∧ (∀ z ∈ dn, z ∈ endsOf (loadsL b m t))))
    (fun _ _ wr => wr.rangeLeft gM w2.heap.size)
  case atStart => exact ⟨left, cnt, [], HREL⟩
  case round =>
    clear HREL
    obtain ⟨left, cnt, dn, HR⟩ := hrel
    have hP := HR.out.2.2.1
    have hWz := hP.size
    rcases HR.out.1.next key_load 0 with ⟨e0, e1, hnx⟩ | ⟨x, y, v, w1, cnt', hx, hy, hlxy, hfv, hnx, hit1, hlt, hg1, hz1, hen⟩
    · have HS := Lib.hid (show ∀ z, z ∈ dn ↔ z ∈ endsOf (loadsL b m t) from fun z => ⟨HR.out.2.2.2.2.2 z, fun hz => by
        rcases HR.out.2.2.2.2.1 z hz with h1 | h1
        · obtain ⟨⟨a1, a2⟩, a3, a4⟩ := hEb z hz
          rw [e1 _ _ (inI (by omega) (by omega)) (inI (by omega) (by omega))] at h1; cases h1
        · exact h1⟩)
      have q7 := HR.out.2.2.2.1
      have q6 : Blk wr g6 23 #[.int .i64 0, .int .i64 0] := (hP.block _ K4.out.lt (by rintro (h | h) <;> omega)).trans K4.out
      obtain ⟨lo, hlo⟩ : ∃ x, lsF (Qs.num (.count k) m) dn = x := ⟨_, rfl⟩
      obtain ⟨hi, hhi⟩ : ∃ x, gtF (Qs.num (.count k) m) dn = x := ⟨_, rfl⟩
      rw [hlo, hhi] at q7
      have HLO := Lib.hid hlo
      have HHI := Lib.hid hhi
      obtain ⟨c0, c1⟩ := Blk.c2 q7
      obtain ⟨d0, d1⟩ := Blk.c2 q6
      obtain ⟨f0, f1⟩ := Blk.f2 q6
      have l7 := q7.lt
      have l6 := q6.lt
      have Q6 := Lib.hid (show Blk wr g6 23 #[.int .i64 0, .int .i64 0] from q6)
      have HP := Lib.hid hP
      clear e1 hEb hlo hhi q7 q6 hP
      go_wp2_with fail
      have hG := Q6.out.setB2 (.int .i64 lo) (.int .i64 hi)
      obtain ⟨v0, v1⟩ := Blk.c2 hG
      have hsB := HR.out.2.1.size
      refine bodyPost_ret (v := .agg #[.int .i64 lo, .int .i64 hi]) (by simp [results, Try.results111, go_sem, v0, v1]) rfl ⟨lo, hi, rfl, ?_, ext_of ?_⟩
      · have := ends_of b m t (.count k) dn HM.out (by intro k h; cases h; exact HK3.out) HC.out HIN.out HS.out
        rw [HLO.out, HHI.out] at this
        exact this
      · exact (HR.out.2.1.setCell (by dsimp only; omega) _).setCell (by dsimp only; omega) _
    · obtain ⟨hmem, rfl⟩ := setF_some hfv
      obtain ⟨⟨hx0, hx4⟩, hy0, hy4⟩ := hEb _ hmem
      dsimp only at hx0 hx4 hy0 hy4
      have hrlt := HR.out.1.lt
      have hMlt2 := HR.out.1.map.lt
      have hP1 : PrivM (fun j => j = g7 ∨ W0.heap.size ≤ j) W0 w1 := hP.trans (PrivM.of_grownO hg1 (.inr hz2))
      have b1 : Blk w1 w.heap.size 113 (stcs b p c m) := (hP1.block _ K1.out.lt (by rintro (h | h) <;> omega)).trans K1.out
      have b2 : Blk w1 g4 91 #[.func (.func 97) #[] #[.pointer (some ⟨g, 0, none⟩)]] := (hP1.block _ K2.out.lt (by rintro (h | h) <;> omega)).trans K2.out
      have q7 : Blk w1 g7 23 #[.int .i64 (lsF (Qs.num (.count k) m) dn), .int .i64 (gtF (Qs.num (.count k) m) dn)] := (hg1.block _ HR.out.2.2.2.1.lt (by simp; omega)).trans HR.out.2.2.2.1
      have HLS := Lib.hid (lsF_snoc (Qs.num (.count k) m) dn (x, y))
      have HGS := Lib.hid (gtF_snoc (Qs.num (.count k) m) dn (x, y))
      generalize lsF (Qs.num (.count k) m) dn = lo at *
      generalize gtF (Qs.num (.count k) m) dn = hi at *
      unfold stcs at b1
      obtain ⟨s0, s1, s2, s3, s4, s5, s6, s7, s8, s9, s10, s11, s12⟩ := Blk.c13 b1
      have u0 := Blk.c1 b2
      have l1 := b1.lt
      have l2 := b2.lt
      have Q7 := Lib.hid q7
      have HP1 := Lib.hid hP1
      have HIT1 := Lib.hid hit1
      have HBW1 := Lib.hid (HR.out.2.1.trans (below_grownB hg1 HR.out.2.1.size (by omega)))
      unfold key2 at hnx hen
      have hz10 : W0.heap.size ≤ w1.heap.size := hP1.size
      have hzM1 : gM < w1.heap.size := by omega
      have hzr1 : w2.heap.size < w1.heap.size := by omega
      clear b1 b2 q7 hP1 hit1 hg1 hP hEb hz1
      obtain ⟨n, hn⟩ : ∃ n, cntI m k (x, y) = n := ⟨_, rfl⟩
      have HN := Lib.hid hn
      clear hn
      go_wp2_with (go_at_call 97; refine (countQ_num m (x, y) k g n _ ((HKB.out.bel HBW1.out).alloc _) HK3.out HM.out ⟨hx0, by dsimp only; omega⟩ ⟨hy0, by dsimp only; omega⟩ HN.out).mono ?_; rintro e w4 ⟨rfl, y0, hw⟩; have HB4 := Lib.hid (show Below w1.heap.size w1 w4 by rw [hw]; (exact belA)); clear hw; have Q74 := Lib.hid (Q7.out.bel HB4.out); have q74 := Q74.out; obtain ⟨c0, c1⟩ := Blk.c2 q74; obtain ⟨f0, f1⟩ := Blk.f2 q74; have l7 := q74.lt; clear q74)
      have hitF : ∀ v0 v1 : Value, IterAt Try.prog 116 ((w4.setCell ⟨g7, 0, none⟩ v0).setCell ⟨g7, 1, none⟩ v1) gM w2.heap.size 2 (setF (endsOf (loadsL b m t))) (fun x_1 y_1 => left x_1 y_1 && !(decide (x_1 = x) && decide (y_1 = y))) cnt' := fun v0 v1 =>
        (HIT1.out.below (m := w1.heap.size) (by omega) (by omega) HB4.out).of_heap ((Below.heap_setCell _ _ _ _ (by dsimp only; omega)).trans (Below.heap_setCell _ _ _ _ (by dsimp only; omega))) ((Below.heap_setCell _ _ _ _ (by dsimp only; omega)).trans (Below.heap_setCell _ _ _ _ (by dsimp only; omega)))
      have hsB := HBW1.out.size
      go_roundw
      case rel =>
        refine ⟨_, cnt', dn ++ [(x, y)], Lib.hid ⟨hitF _ _, ((HBW1.out.trans (HB4.out.mono hsB)).setCell (by dsimp only; omega) _).setCell (by dsimp only; omega) _, ((HP1.out.trans (PrivM.of_belowO HB4.out)).trans (PrivM.setCell _ (.inl rfl) _ _)).trans (PrivM.setCell _ (.inl rfl) _ _), ?_, ?_, ?_⟩⟩
        · rw [HLS.out, HGS.out, show Qs.num (.count k) m (x, y) = n from HN.out]; exact Q74.out.setB2 _ _
        · intro z hz
          rcases HR.out.2.2.2.2.1 z hz with h1 | h1
          · by_cases he : z = (x, y)
            · subst he; exact .inr (by simp)
            · refine .inl ?_
              rw [h1]
              simp only [Bool.true_and, Bool.not_eq_true', Bool.and_eq_false_iff, decide_eq_false_iff_not]
              by_cases h2 : z.1 = x
              · exact .inr (fun h3 => he (Prod.ext h2 h3))
              · exact .inl h2
          · exact .inr (by simp [h1])
        · intro z hz
          rcases List.mem_append.1 hz with h | h
          · exact HR.out.2.2.2.2.2 z h
          · rw [List.mem_singleton.1 h]; exact hmem
      case measure =>
        rw [(hitF _ _).left_eq, HR.out.1.left_eq]; exact hlt
/-- What is asked of a lot, at least and at most. -/
theorem span_any (b : Ck) (p : Option Addr) (c : Nat) (m : Ms) (t : Lt) (q : Qs) (f : FuncId) (lb : Array Value) (w : World) (hm : MsOK m) (ht : LtOK b t) (hc : canB b m t = true) (hin : ∀ l ∈ loadsL b m t, (0 ≤ l.1 ∧ l.1 ≤ 400) ∧ 0 ≤ l.2 ∧ l.2 ≤ 400) (hq : QAt w f lb q) :
    Calls Try.prog 111 #[stV b p c m, qsV f lb, ltV t] w fun e w' => ∃ lo hi, e = .returned (.agg #[.int .i64 lo, .int .i64 hi]) ∧ EndsL b m t (q.num m) lo hi ∧ ∃ x, w' = ext w x := by
  cases q with
  | fish => obtain ⟨rfl, rfl⟩ := hq; exact span_fish b p c m t w hm ht hc hin
  | packed => obtain ⟨rfl, rfl⟩ := hq; exact span_packed b p c m t w hm ht hc hin
  | count k => obtain ⟨rfl, hk, g, rfl, hg⟩ := hq; exact span_count b p c m t k g hk w hm ht hc hin hg
end Go.Proofs.Ytpiadbdkiibdbaa

