/- Contracts of package bulk: all that measures can hold, gone through by a body that keeps what it makes. Written by gen_b5zc.py. -/
import Derived.Test.YtpiadbdkiibdbaaQB5zb
import Derived.Test.YtpiadbdkiibdbaaQImf
set_option linter.unusedSimpArgs false
set_option linter.unusedVariables false
namespace Go.Proofs.Ytpiadbdkiibdbaa
open Go Go.RowKit Go.Shelf
attribute [local go_sem] Oper.semAt_some frozen_alloc_lt
set_option maxHeartbeats 4000000 in
theorem numbersF (g : Nat) (a b : Int) (O : Nat → Prop) (w : World) (hk : Blk w g 23 #[.int .i64 a, .int .i64 b]) (h0a : 0 ≤ a ∧ a ≤ 100000) (hb : -100000 ≤ b ∧ b ≤ 100000) (hO : ∀ k, O k → k ≠ g) :
    SeqF Try.prog 129 #[] #[.pointer (some ⟨g, 0, none⟩)] encI O (fun xs => xs = numsL a b) (fun pre => pre <+: numsL a b) w := by
  intro n l J Jx W hW hOW hJ hJx hY h0
  have hkW : Blk W g 23 #[.int .i64 a, .int .i64 b] := (hW.block g hk.lt).trans hk
  have hgl := hkW.lt
  have H0 : Hid (J (fun _ => False) (nupto a 0) W) := Lib.hid (show J (fun _ => False) [] W from h0)
  have HY := Lib.hid hY
  have HO := Lib.hid hO
  obtain ⟨d, hd⟩ : ∃ d : Nat, (b - a + 1).toNat = d := ⟨_, rfl⟩
  have hnums : numsL a b = nupto a d := by unfold numsL; rw [hd]
  rw [hnums] at HY ⊢
  have HNZ := Lib.hid hd
  have HB5 := Lib.hid (show d ≤ 200001 by omega)
  obtain ⟨q0, q1⟩ := Blk.c2 hkW
  have e1 : IntKind.i64.wrap (b - a) = b - a := IntWalk.i64_in _ (by omega)
  have e2 : IntKind.i64.wrap (b - a + 1) = b - a + 1 := IntWalk.i64_in _ (by omega)
  have HREL : Hid (J (fun _ => False) (nupto a 0) W ∧ Blk W g 23 #[.int .i64 a, .int .i64 b] ∧ W.heap.size ≤ W.heap.size) := Lib.hid ⟨H0.out, hkW, Nat.le_refl _⟩
  have HGL := Lib.hid hgl
  clear hW hOW hJ hJx hY h0 hO hkW hk H0 hd
  refine callsIn_of_wp Try.func129 rfl trivial ?_ rfl
  simp only [Try.ntmps129, List.size_toArray, List.length_cons, List.length_nil, Nat.reduceAdd, Nat.reduceSub, Array.replicate_succ, Array.replicate_zero, List.push_toArray, List.append_toArray, List.nil_append, List.cons_append]
  gi_wp2_with fail
  clear q0 q1
  gi_loopw [3, 10, 12, 13, 14, 15, 16, 17, 18, 19, 20] (fun _ i _ _ _ _ _ _ _ _ _ wr => ∃ k : Nat, k ≤ d ∧ i = .int .i64 k ∧ Hid (J (fun _ => False) (nupto a k) wr ∧ Blk wr g 23 #[.int .i64 a, .int .i64 b] ∧ W.heap.size ≤ wr.heap.size)) (fun _ i _ _ _ _ _ _ _ _ _ _ => d - (intOf i).toNat)
  case atStart => exact ⟨0, by omega, rfl, HREL⟩
  case round =>
    clear HREL
    obtain ⟨k, hk, rfl, HR⟩ := hrel
    by_cases hlt : k < d
    · have hbk := HB5.out
      have hlt' : decide ((k : Int) < b - a + 1) = true := by have := HNZ.out; exact decide_eq_true (by omega)
      have hlt2 : IntKind.i64.wrap (a + (k : Int)) = a + (k : Int) := IntWalk.i64_in _ (by omega)
      have hwk := wrap_num k (by omega)
      have HWK := Lib.hid hwk
      obtain ⟨fn, tmps, assign, body, hy, hR⟩ := HY.out _ (fun _ => False) (nupto a k) (a + (k : Int)) wr (fun _ h => h.elim) HR.out.2.2 (by rw [nupto_snoc]; exact nupto_prefix a _ _ (by omega)) HR.out.1
      dsimp only [encI] at hy
      have q0 := (Blk.c2 HR.out.2.1).1
      gi_wp2_with fail
      refine hR.mono ?_
      rintro e B (⟨rfl, hJB, hS⟩ | ⟨rfl, hJB, hS⟩)
      · have HS := Lib.hid hS
        have HJB := Lib.hid hJB
        clear hS hJB hy hR q0
        gi_wp2_with fail
        go_roundw
        case rel =>
          refine ⟨k + 1, by omega, by first | go_num | rw [HWK.out], Lib.hid ⟨by have := HJB.out; rw [nupto_snoc] at this; exact this, (HS.out.block g (.inl ⟨HGL.out, fun e => HO.out g e rfl⟩)).trans HR.out.2.1, Nat.le_trans HR.out.2.2 HS.out.size⟩⟩
        case measure => simp [intOf]; omega
      · have hz := Nat.le_trans HR.out.2.2 hS.size
        gi_wp2_with fail
        refine bodyPost_ret (results_none rfl _ _ _) rfl ?_
        exact ⟨⟨_, rfl⟩, hz, .inr ⟨_, by rw [nupto_snoc]; exact nupto_prefix a _ _ (by omega), hJB⟩⟩
    · obtain rfl : k = d := by omega
      have hge : decide ((k : Int) < b - a + 1) = false := by have := HNZ.out; exact decide_eq_false (by omega)
      gi_wp2_with fail
      go_end0
      exact ⟨⟨_, rfl⟩, HR.out.2.2, .inl ⟨_, rfl, HR.out.1⟩⟩
/-- What a call of the recursion does, for a body that keeps what it makes. -/
def FillPF (z : Nat) (O : Nat → Prop) (J Jx : (Nat → Prop) → List Ms → World → Prop) (tot pre more : List Ms) (M : Nat → Prop) (W : World) (e : Ending) (W' : World) : Prop :=
  (e = .returned (.bool true) ∧ J M (pre ++ more) W' ∧ SpareM (fun k => (k < z ∧ ¬ O k) ∨ M k) W W') ∨ (e = .returned (.bool false) ∧ (∃ pre', pre' <+: tot ∧ Jx M pre' W') ∧ SpareM (fun k => (k < z ∧ ¬ O k) ∨ M k) W W')
set_option maxRecDepth 100000 in
set_option maxHeartbeats 8000000 in
theorem fillF_3 (b : Ck) (p : Option Addr) (c yb cb fb l n z : Nat) (O M : Nat → Prop) (J Jx : (Nat → Prop) → List Ms → World → Prop) (tot pre : List Ms) (m : Ms) (W : World) (hz : z ≤ W.heap.size) (hJ : StableM (fun _ => False) J) (hJx : StableM (fun _ => False) Jx)
    (hY : ∀ mm M pre x A, (∀ k, M k → z ≤ k ∧ k < A.heap.size) → z ≤ A.heap.size → pre ++ [x] <+: tot → J M pre A → YieldAt Fence.wide mm Try.prog l (encM b p c x) A fun e B =>
      (e = .returned (.bool true) ∧ J M (pre ++ [x]) B ∧ SpareM (fun k => (k < z ∧ ¬ O k) ∨ M k) A B) ∨ (e = .returned (.bool false) ∧ Jx M (pre ++ [x]) B ∧ SpareM (fun k => (k < z ∧ ¬ O k) ∨ M k) A B))
    (hO : ∀ k, O k → k < z) (hM : ∀ k, M k → z ≤ k ∧ k < W.heap.size) (hF : FillAt W b p c yb cb fb l) (hMF : M yb ∧ M cb ∧ M fb) (hp : pre ++ [m] <+: tot) (h0 : J M pre W) :
    CallsIn Fence.wide n Try.prog 119 #[.int .i64 3, msV m, .pointer (some ⟨yb, 0, none⟩), .pointer (some ⟨cb, 0, none⟩), .pointer (some ⟨fb, 0, none⟩)] W (FillPF z O J Jx tot pre [m] M W) := by
  have HJ := Lib.hid hJ
  have HJx := Lib.hid hJx
  have HY := Lib.hid hY
  have HF := Lib.hid hF
  have HO := Lib.hid hO
  have HM := Lib.hid hM
  have HP := Lib.hid hp
  have H0 := Lib.hid h0
  clear hJ hJx hY hF hO hp h0 hM hMF
  unfold msV
  refine callsIn_of_wp Try.func119 rfl trivial ?_ rfl
  simp only [Try.ntmps119, List.size_toArray, List.length_cons, List.length_nil, Nat.reduceAdd, Nat.reduceSub, Array.replicate_succ, Array.replicate_zero, List.push_toArray, List.append_toArray, List.nil_append, List.cons_append]
  refine wpIn_wide.2 ?_
  go_upto_region 2 with fail
  generalize hV : World.alloc _ _ = V
  have hBV : Below W.heap.size W V := by rw [← hV]; (exact belC)
  have hF := HF.out.bel hBV
  have hy0 := Blk.c1 hF.y
  have ly := hF.y.lt
  have hc0 := hF.c
  have lc := hc0.lt
  unfold ckcs at hc0
  have c0 := hc0.cell 0
  have c1 := hc0.cell 1
  have c2 := hc0.cell 2
  have c3 := hc0.cell 3
  have c4 := hc0.cell 4
  have c5 := hc0.cell 5
  have c6 := hc0.cell 6
  have c7 := hc0.cell 7
  have c8 := hc0.cell 8
  have c9 := hc0.cell 9
  simp only [List.size_toArray, List.length_cons, List.length_nil, Nat.reduceAdd, Nat.reduceLT, getElem?_pos, List.getElem_toArray, List.getElem_cons_zero, List.getElem_cons_succ] at c0 c1 c2 c3 c4 c5 c6 c7 c8 c9
  have k5 : Blk V W.heap.size 3 #[.int .i64 3] := by rw [← hV]; exact ((Blk.new rfl).alloc _).alloc _
  have k6 : Blk V (W.heap.size + 1) 106 #[.int .i64 m.a, .int .i64 m.b, .int .i64 m.c] := by rw [← hV]; exact (Blk.new (by simp)).alloc _
  have k7 : Blk V (W.heap.size + 1 + 1) 4 #[.bool false] := by rw [← hV]; exact Blk.new (by simp)
  have s0 := Blk.c1 k5
  obtain ⟨t0, t1, t2⟩ := Blk.c3 k6
  have l5 := k5.lt
  have l6 := k6.lt
  have l7 := k7.lt
  have K7 := Lib.hid k7
  have HBV := Lib.hid hBV
  have HJV := Lib.hid (HJ.out M (fun k => M k ∨ (W.heap.size ≤ k ∧ k < W.heap.size + 3)) pre W V H0.out (PrivM.of_below hBV) (by rintro k (h | h); exact .inl h; exact .inr h.1))
  have HVZ := Lib.hid hBV.size
  have HMV := Lib.hid (show ∀ k, (M k ∨ (W.heap.size ≤ k ∧ k < W.heap.size + 3)) → z ≤ k ∧ k < V.heap.size from by
    have h1 := hBV.size
    rintro k (h | h)
    · have := HM.out k h; omega
    · omega)
  have HKW := Lib.hid (show ∀ k, ((k < z ∧ ¬ O k) ∨ M k) → k < W.heap.size from by
    rintro k (h | h)
    · omega
    · exact (HM.out k h).2)
  clear hV hBV hc0 hF k5 k6 k7
  refine (wpIn_wide (n := n)).1 ?_
  obtain ⟨fn, tmps, assign, body, hy, hR⟩ := HY.out _ _ pre m V HMV.out (Nat.le_trans hz HVZ.out) HP.out HJV.out
  dsimp only [encM, stV] at hy
  gi_wp2_with fail
  refine hR.mono ?_
  rintro e B (⟨rfl, hJB, hS⟩ | ⟨rfl, hJB, hS⟩)
  · have k7 : Blk B (W.heap.size + 1 + 1) 4 #[.bool false] := (hS.block _ (.inr (.inr ⟨by omega, by omega⟩))).trans K7.out
    have HS := Lib.hid hS
    have HJB := Lib.hid hJB
    have K7B := Lib.hid k7
    have d0 := Blk.c1 k7
    have f0 := k7.frozen 0
    have l7 := k7.lt
    clear hS hJB hR hy k7 c0 c1 c2 c3 c4 c5 c6 c7 c8 c9 s0 t0 t1 t2 hy0 ly lc l5 l6
    gi_wp2_with fail
    have k8 : Blk (B.setCell ⟨W.heap.size + 1 + 1, 0, none⟩ (.bool true)) (W.heap.size + 1 + 1) 4 #[.bool true] := by simpa using K7B.out.set 0 (.bool true)
    have x0 := Blk.c1 k8
    clear k8
    go_wp2_with fail
    refine bodyPost_ret (v := .bool true) (by simp [results, Try.results119, go_sem, x0]) rfl (.inl ⟨rfl, ?_, ?_⟩)
    · exact HJ.out _ _ _ _ _ HJB.out (PrivM.setCell _ (.inl (.inr ⟨by omega, by omega⟩)) _ _) (fun k h => .inl (.inl h))
    · exact ((SpareM.of_below HBV.out (fun k h => HKW.out k h)).trans (HS.out.imp (fun k h => h.imp id .inl))).trans (SpareM.setCell _ (fun h => by have := HKW.out _ h; omega) _ _)
  · have k7 : Blk B (W.heap.size + 1 + 1) 4 #[.bool false] := (hS.block _ (.inr (.inr ⟨by omega, by omega⟩))).trans K7.out
    have HS := Lib.hid hS
    have HJB := Lib.hid hJB
    have K7B := Lib.hid k7
    have d0 := Blk.c1 k7
    have f0 := k7.frozen 0
    have l7 := k7.lt
    clear hS hJB hR hy k7 c0 c1 c2 c3 c4 c5 c6 c7 c8 c9 s0 t0 t1 t2 hy0 ly lc l5 l6
    gi_wp2_with fail
    have k8 : Blk (B.setCell ⟨W.heap.size + 1 + 1, 0, none⟩ (.bool false)) (W.heap.size + 1 + 1) 4 #[.bool false] := by simpa using K7B.out.set 0 (.bool false)
    have x0 := Blk.c1 k8
    clear k8
    go_wp2_with fail
    refine bodyPost_ret (v := .bool false) (by simp [results, Try.results119, go_sem, x0]) rfl (.inr ⟨rfl, ⟨_, HP.out, ?_⟩, ?_⟩)
    · exact HJx.out _ _ _ _ _ HJB.out (PrivM.setCell _ (.inl (.inr ⟨by omega, by omega⟩)) _ _) (fun k h => .inl (.inl h))
    · exact ((SpareM.of_below HBV.out (fun k h => HKW.out k h)).trans (HS.out.imp (fun k h => h.imp id .inl))).trans (SpareM.setCell _ (fun h => by have := HKW.out _ h; omega) _ _)
set_option maxRecDepth 100000 in
set_option maxHeartbeats 8000000 in
theorem fillF_2 (b : Ck) (p : Option Addr) (c yb cb fb l n z : Nat) (O M : Nat → Prop) (J Jx : (Nat → Prop) → List Ms → World → Prop) (tot pre0 : List Ms) (m : Ms) (W : World) (hz : z ≤ W.heap.size) (hJ : StableM (fun _ => False) J) (hJx : StableM (fun _ => False) Jx)
    (hY : ∀ mm M pre x A, (∀ k, M k → z ≤ k ∧ k < A.heap.size) → z ≤ A.heap.size → pre ++ [x] <+: tot → J M pre A → YieldAt Fence.wide mm Try.prog l (encM b p c x) A fun e B =>
      (e = .returned (.bool true) ∧ J M (pre ++ [x]) B ∧ SpareM (fun k => (k < z ∧ ¬ O k) ∨ M k) A B) ∨ (e = .returned (.bool false) ∧ Jx M (pre ++ [x]) B ∧ SpareM (fun k => (k < z ∧ ¬ O k) ∨ M k) A B))
    (hO : ∀ k, O k → k < z) (hM : ∀ k, M k → z ≤ k ∧ k < W.heap.size) (hF : FillAt W b p c yb cb fb l) (hMF : M yb ∧ M cb ∧ M fb) (hv : HoldsOK b) (hp : pre0 ++ fillR b 1 m <+: tot) (h0 : J M pre0 W) :
    CallsIn Fence.wide n Try.prog 119 #[.int .i64 2, msV m, .pointer (some ⟨yb, 0, none⟩), .pointer (some ⟨cb, 0, none⟩), .pointer (some ⟨fb, 0, none⟩)] W (FillPF z O J Jx tot pre0 (fillR b 1 m) M W) := by
  have HV := Lib.hid hv
  have HJ := Lib.hid hJ
  have HJx := Lib.hid hJx
  have HY := Lib.hid hY
  have HF := Lib.hid hF
  have HO := Lib.hid hO
  have HM := Lib.hid hM
  have HP := Lib.hid hp
  have H0 := Lib.hid h0
  have hlh := hv 2
  have hfy := hF.y.lt
  have hfc := hF.c.lt
  have hff := hF.f.lt
  have HMF := Lib.hid hMF
  have hz0 := hz
  simp only [Ck.lo, Ck.hi] at hlh
  have HKW := Lib.hid (show ∀ k, ((k < z ∧ ¬ O k) ∨ M k) → k < W.heap.size from by
    rintro k (h | h)
    · omega
    · exact (hM k h).2)
  clear hJ hJx hY hF hO hp h0 hv hM hMF hz
  unfold msV
  refine callsIn_of_wp_marks Try.func119 rfl trivial ?_ rfl
  simp only [Try.ntmps119, List.size_toArray, List.length_cons, List.length_nil, Nat.reduceAdd, Nat.reduceSub, Array.replicate_succ, Array.replicate_zero, List.push_toArray, List.append_toArray, List.nil_append, List.cons_append]
  refine wpIn_wide.2 ?_
  go_upto_region 3 with fail
  generalize hV : World.alloc _ _ = V
  have hBV : Below W.heap.size W V := by rw [← hV]; (exact belC)
  have hF := HF.out.bel hBV
  have k5 : Blk V W.heap.size 3 #[.int .i64 2] := by rw [← hV]; exact ((Blk.new rfl).alloc _).alloc _
  have k6 : Blk V (W.heap.size + 1) 106 #[.int .i64 m.a, .int .i64 m.b, .int .i64 m.c] := by rw [← hV]; exact (Blk.new (by simp)).alloc _
  have k7 : Blk V (W.heap.size + 1 + 1) 4 #[.bool false] := by rw [← hV]; exact Blk.new (by simp)
  have hc0 := hF.c
  have lc := hc0.lt
  unfold ckcs at hc0
  have c0 := hc0.cell 0
  have c1 := hc0.cell 1
  have c2 := hc0.cell 2
  have c3 := hc0.cell 3
  have c4 := hc0.cell 4
  have c5 := hc0.cell 5
  have c6 := hc0.cell 6
  have c7 := hc0.cell 7
  have c8 := hc0.cell 8
  have c9 := hc0.cell 9
  simp only [List.size_toArray, List.length_cons, List.length_nil, Nat.reduceAdd, Nat.reduceLT, getElem?_pos, List.getElem_toArray, List.getElem_cons_zero, List.getElem_cons_succ] at c0 c1 c2 c3 c4 c5 c6 c7 c8 c9
  have s0 := Blk.c1 k5
  have l5 := k5.lt
  have o6 : W.heap.size < W.heap.size + 1 := by omega
  have o7 : W.heap.size + 1 < W.heap.size + 1 + 1 := by omega
  have l7 := k7.lt
  have K5 := Lib.hid k5
  have K6 := Lib.hid k6
  have K7 := Lib.hid k7
  have HBV := Lib.hid hBV
  have HFV := Lib.hid hF
  have HVZ := Lib.hid hBV.size
  clear hV hBV hc0 hF k5 k6 k7
  generalize W.heap.size + 1 + 1 = g7 at *
  generalize W.heap.size + 1 = g6 at *
  go_wp2_with (go_at_call 117; refine (numbers_any _ _ _).mono ?_; rintro e w2 ⟨g, rfl, k1, k2, y, hw⟩; have HB2 := Lib.hid (show Below V.heap.size V w2 by rw [hw]; (exact belA)); have HG := Lib.hid (show Blk w2 g 23 #[.int .i64 b.l2, .int .i64 b.u2] from k2); have hgz : V.heap.size ≤ g := (by first | exact k1 | (simp at k1; omega)); clear hw k1 k2)
  clear c0 c1 c2 c3 c4 c5 c6 c7 c8 c9 s0 lc
  have hz2 := HB2.out.size
  have hgl2 := HG.out.lt
  have hVZ := HVZ.out
  have F2 := Lib.hid (HFV.out.bel HB2.out)
  have K52 := Lib.hid (K5.out.bel HB2.out)
  have K62 := Lib.hid (K6.out.bel HB2.out)
  have K72 := Lib.hid (K7.out.bel HB2.out)
  have HBW2 := Lib.hid (HBV.out.trans (HB2.out.mono hVZ))
  obtain ⟨OO, hOO⟩ : ∃ OO : Nat → Prop, OO = fun j => j = g6 ∨ j = g7 ∨ O j ∨ (z ≤ j ∧ j < W.heap.size ∧ ¬ M j) := ⟨_, rfl⟩
  have HOO := Lib.hid (show ∀ j, OO j ↔ (j = g6 ∨ j = g7 ∨ O j ∨ (z ≤ j ∧ j < W.heap.size ∧ ¬ M j)) from fun j => by rw [hOO])
  have HOL := Lib.hid (show ∀ j, OO j → j < V.heap.size from fun j hj => by
    rcases (HOO.out j).1 hj with h | h | h | h
    · omega
    · omega
    · have := HO.out j h; omega
    · omega)
  clear hOO
  have hseq := numbersF g b.l2 b.u2 (fun j => OO j ∨ j = w2.heap.size + 1) w2 HG.out (by omega) (by omega) (fun j hj => by
    rcases hj with hj | rfl
    · have := HOL.out j hj; omega
    · omega)
  refine (wpIn_wide (n := n)).1 ?_
  refine wpIn_rangeFunc_f (gf := 129) (fb := #[]) (lb := #[.pointer (some ⟨g, 0, none⟩)]) rfl (enters_of Try.func129 (by kernel_rfl) rfl)
    OO (fun j hj => by have := HOL.out j hj; omega) hseq (Below.refl _ _) (fun _ => rfl)
    (fun Ma pre A => J (fun k => M k ∨ (W.heap.size ≤ k ∧ k < w2.heap.size + 2) ∨ Ma k) (pre0 ++ pre.flatMap fun y => fillR b 0 ⟨m.a, m.b, y⟩) A ∧ FillAt A b p c yb cb fb l ∧ Blk A W.heap.size 3 #[.int .i64 2] ∧ (∃ u, Blk A g6 106 #[.int .i64 m.a, .int .i64 m.b, .int .i64 u]) ∧ Blk A g7 4 #[.bool false] ∧ w2.heap.size + 2 ≤ A.heap.size ∧ (∀ k, Ma k → w2.heap.size + 2 ≤ k) ∧ SpareM (fun k => (k < z ∧ ¬ O k) ∨ M k) W A)
    (fun Ma cc pre A => cc = .ret ∧ (∃ pre', pre' <+: tot ∧ Jx (fun k => M k ∨ (W.heap.size ≤ k ∧ k < w2.heap.size + 2) ∨ Ma k) pre' A) ∧ Blk A g7 4 #[.bool false] ∧ w2.heap.size + 2 ≤ A.heap.size ∧ (∀ k, Ma k → w2.heap.size + 2 ≤ k) ∧ SpareM (fun k => (k < z ∧ ¬ O k) ∨ M k) W A)
    (fun Ma pre x a' A => ∃ u9 u10 u11 u12 u13 u14 u15 u16 u17 u18 u19 u20 u21 u22 u23 u24 u25 u26 u27 u28 u29 u30 u31 : Value, a' = { tmps := #[.int .i64 2, .agg #[.int .i64 m.a, .int .i64 m.b, .int .i64 m.c], .pointer (some ⟨yb, 0, none⟩), .pointer (some ⟨cb, 0, none⟩), .pointer (some ⟨fb, 0, none⟩), .pointer (some ⟨W.heap.size, 0, none⟩), .pointer (some ⟨g6, 0, none⟩), .pointer (some ⟨g7, 0, none⟩), .int .i64 x, u9, u10, u11, u12, u13, u14, u15, u16, u17, u18, u19, u20, u21, u22, u23, u24, u25, u26, u27, u28, u29, u30, u31], defers := [] })
    ?hI ?hIx ?hAx ?h0 ?hassign ?hbody ?hdone ?hstop
  case hI =>
    rintro Ma Mb pre A C ⟨j0, j1, j2, ⟨u, j3⟩, j4, j5, j6, j7⟩ hp hb
    have hno : ∀ k, k < w2.heap.size + 1 → C.heap[k]? = A.heap[k]? := fun k hk => hp.block k (by omega) (by rintro (h | h); (have := j6 k h; omega); omega)
    refine ⟨HJ.out _ _ _ _ _ j0 (hp.mono ?_) ?_, ⟨(hno _ (by omega)).trans j1.y, (hno _ (by omega)).trans j1.c, (hno _ (by omega)).trans j1.f⟩, (hno _ (by omega)).trans j2, ⟨u, (hno _ (by omega)).trans j3⟩, (hno _ (by omega)).trans j4, Nat.le_trans j5 hp.size, fun k hk => ?_, j7.trans ⟨hp.os, hp.tape, hp.output, hp.size, fun k hk => hno k (by have := HKW.out k hk; omega)⟩⟩
    · rintro k (h | h)
      · exact .inl (.inr (.inr h))
      · exact .inl (.inr (.inl ⟨by omega, by omega⟩))
    · rintro k (h | h | h)
      · exact .inl (.inl h)
      · exact .inl (.inr (.inl h))
      · exact (hb k h).imp (fun h => .inr (.inr h)) id
    · rcases hb k hk with h | h
      · exact j6 k h
      · omega
  case hIx =>
    rintro cc Ma Mb pre A C ⟨rfl, ⟨pre', j0, j1⟩, j4, j5, j6, j7⟩ hp hb
    have hno : ∀ k, k < w2.heap.size + 1 → C.heap[k]? = A.heap[k]? := fun k hk => hp.block k (by omega) (by rintro (h | h); (have := j6 k h; omega); omega)
    refine ⟨rfl, ⟨pre', j0, HJx.out _ _ _ _ _ j1 (hp.mono ?_) ?_⟩, (hno _ (by omega)).trans j4, Nat.le_trans j5 hp.size, fun k hk => ?_, j7.trans ⟨hp.os, hp.tape, hp.output, hp.size, fun k hk => hno k (by have := HKW.out k hk; omega)⟩⟩
    · rintro k (h | h)
      · exact .inl (.inr (.inr h))
      · exact .inl (.inr (.inl ⟨by omega, by omega⟩))
    · rintro k (h | h | h)
      · exact .inl (.inl h)
      · exact .inl (.inr (.inl h))
      · exact (hb k h).imp (fun h => .inr (.inr h)) id
    · rcases hb k hk with h | h
      · exact j6 k h
      · omega
  case hAx => rintro Ma pre x a' A C ⟨u9, u10, u11, u12, u13, u14, u15, u16, u17, u18, u19, u20, u21, u22, u23, u24, u25, u26, u27, u28, u29, u30, u31, rfl⟩ hp; exact ⟨u9, u10, u11, u12, u13, u14, u15, u16, u17, u18, u19, u20, u21, u22, u23, u24, u25, u26, u27, u28, u29, u30, u31, rfl⟩
  case h0 =>
    intro W6 hb6 hz6
    have hb7 := HBW2.out.trans (hb6.mono (by omega))
    refine ⟨?_, ⟨(hb6.block _ (by omega)).trans F2.out.y, (hb6.block _ (by omega)).trans F2.out.c, (hb6.block _ (by omega)).trans F2.out.f⟩, (hb6.block _ (by omega)).trans K52.out, ⟨_, (hb6.block _ (by omega)).trans K62.out⟩, (hb6.block _ (by omega)).trans K72.out, by omega, fun k h => h.elim, SpareM.of_below hb7 (fun k h => HKW.out k h)⟩
    rw [List.flatMap_nil, List.append_nil]
    exact HJ.out _ _ _ _ _ H0.out (PrivM.of_below hb7) (by rintro k (h | h | h); exact .inl h; exact .inr h.1; exact h.elim)
  case hassign =>
    intro mm l' Ma pre x W' hMa hz hsp hi'
    exact wpIn_assign ⟨hi', ⟨_, _, _, _, _, _, _, _, _, _, _, _, _, _, _, _, _, _, _, _, _, _, _, by simp [go_sem, Act.put, Act.eval]; exact ⟨rfl, rfl, rfl, rfl, rfl, rfl, rfl, rfl, rfl, rfl, rfl, rfl, rfl, rfl, rfl, rfl, rfl, rfl, rfl, rfl, rfl, rfl, rfl⟩⟩, Below.refl _ _⟩
  case hbody =>
    rintro mm l' Ma pre x a' W' hl hMa hz hpx ⟨j0, j1, j2, ⟨u, j3⟩, j4, j5, j6, j7⟩ ⟨u9, u10, u11, u12, u13, u14, u15, u16, u17, u18, u19, u20, u21, u22, u23, u24, u25, u26, u27, u28, u29, u30, u31, rfl⟩
    have HPX := Lib.hid (show (pre0 ++ pre.flatMap fun y => fillR b 0 ⟨m.a, m.b, y⟩) ++ fillR b 0 ⟨m.a, m.b, x⟩ <+: tot from by
      have h1 := flat_prefix (f := fun y => fillR b 0 ⟨m.a, m.b, y⟩) hpx
      rw [List.flatMap_append, List.flatMap_cons, List.flatMap_nil, List.append_nil] at h1
      rw [List.append_assoc]
      exact app_prefix h1 HP.out)
    have J0 := Lib.hid j0
    have J1 := Lib.hid j1
    have J2 := Lib.hid j2
    have J4 := Lib.hid j4
    have J3 := Lib.hid j3
    have J6 := Lib.hid j6
    have J7 := Lib.hid j7
    have HMa := Lib.hid hMa
    have s0 := Blk.c1 j2
    obtain ⟨t0, t1, t2⟩ := Blk.c3 j3
    obtain ⟨f0, f1, f2⟩ := Blk.f3 j3
    have y0 := Blk.c1 j1.f
    have l5' := j2.lt
    have l6' := j3.lt
    have l7' := j4.lt
    have lf := j1.f.lt
    clear j0 j1 j2 j3 j4 j6 j7 hMa hl hseq hpx
    have hF5 : ∀ v, FillAt (W'.setCell ⟨g6, 2, none⟩ v) b p c yb cb fb l := fun v => ⟨(Below.heap_setCell _ _ _ _ (by dsimp only; omega)).trans J1.out.y, (Below.heap_setCell _ _ _ _ (by dsimp only; omega)).trans J1.out.c, (Below.heap_setCell _ _ _ _ (by dsimp only; omega)).trans J1.out.f⟩
    have HF5 := Lib.hid hF5
    have HJ5 := Lib.hid (show ∀ v, J (fun k => M k ∨ (W.heap.size ≤ k ∧ k < w2.heap.size + 2) ∨ Ma k) (pre0 ++ pre.flatMap fun y => fillR b 0 ⟨m.a, m.b, y⟩) (W'.setCell ⟨g6, 2, none⟩ v) from fun v => HJ.out _ _ _ _ _ J0.out (PrivM.setCell _ (.inl (.inr (.inl ⟨by omega, by omega⟩))) _ _) (fun k h => .inl h))
    have HM5 := Lib.hid (show ∀ v k, (M k ∨ (W.heap.size ≤ k ∧ k < w2.heap.size + 2) ∨ Ma k) → z ≤ k ∧ k < (W'.setCell ⟨g6, 2, none⟩ v).heap.size from by
      intro v
      rw [World.size_setCell]
      rintro k (h | h | h)
      · have := HM.out k h; omega
      · omega
      · have := HMa.out k h; omega)
    clear hF5
    gi_wp2_with fail
    gi_at_call 119
    refine (CallsIn.inRound _ (fillF_3 b p c yb cb fb l _ z O (fun k => M k ∨ (W.heap.size ≤ k ∧ k < w2.heap.size + 2) ∨ Ma k) J Jx tot _ ⟨m.a, m.b, x⟩ _ (by simp; omega) HJ.out HJx.out HY.out HO.out (HM5.out _) (HF5.out _) ⟨.inl HMF.out.1, .inl HMF.out.2.1, .inl HMF.out.2.2⟩ HPX.out (HJ5.out _))).mono ?_
    have HKP := Lib.hid (show ∀ k, KeepM OO w2.heap.size Ma k → (k < z ∧ ¬ O k) ∨ (M k ∨ (W.heap.size ≤ k ∧ k < w2.heap.size + 2) ∨ Ma k) from by
      rintro k (⟨h1, h2⟩ | h)
      · by_cases hkz : k < z
        · exact .inl ⟨hkz, fun e => h2 ((HOO.out k).2 (.inr (.inr (.inl e))))⟩
        · by_cases hkW : k < W.heap.size
          · by_cases hkM : M k
            · exact .inr (.inl hkM)
            · exact absurd ((HOO.out k).2 (.inr (.inr (.inr ⟨by omega, hkW, hkM⟩)))) h2
          · exact .inr (.inr (.inl ⟨by omega, h1⟩))
      · exact .inr (.inr (.inr h)))
    have HK6 := Lib.hid (show ∀ j, j = g6 ∨ j = g7 → ¬ KeepM OO w2.heap.size Ma j from by
      rintro j hj (⟨-, h2⟩ | h)
      · exact h2 ((HOO.out j).2 (by rcases hj with h | h; exact .inl h; exact .inr (.inl h)))
      · have := (HMa.out j h).1; omega)
    rintro e B (⟨rfl, hJB, hS⟩ | ⟨rfl, ⟨pre', hP', hJB⟩, hS⟩)
    · have HS := Lib.hid hS
      have HJB := Lib.hid hJB
      have hin : ∀ k, (M k ∨ (W.heap.size ≤ k ∧ k < w2.heap.size + 2)) → k ≠ g6 → B.heap[k]? = W'.heap[k]? := fun k hk hne => (hS.block k (.inr (by rcases hk with h | h; exact .inl h; exact .inr (.inl h)))).trans (Below.heap_setCell _ _ _ _ (by dsimp only; exact hne))
      have HFB := Lib.hid (show FillAt B b p c yb cb fb l from ⟨(hin _ (.inl HMF.out.1) (by omega)).trans J1.out.y, (hin _ (.inl HMF.out.2.1) (by omega)).trans J1.out.c, (hin _ (.inl HMF.out.2.2) (by omega)).trans J1.out.f⟩)
      have HK5 := Lib.hid ((hin _ (.inr ⟨by omega, by omega⟩) (by omega)).trans J2.out)
      have HK6' := Lib.hid ((hS.block _ (.inr (.inr (.inl ⟨by omega, by omega⟩)))).trans (J3.out.set 2 (.int .i64 x)))
      have HK7 := Lib.hid ((hin _ (.inr ⟨by omega, by omega⟩) (by omega)).trans J4.out)
      have hzB := hS.size
      rw [World.size_setCell] at hzB
      clear hS hJB hin s0 t0 t1 t2 f0 f1 f2 y0 l5' l6' l7' lf
      gi_wp2_with fail
      refine ⟨(SpareM.setCell W' (HK6.out _ (.inl rfl)) _ _).trans (HS.out.imp HKP.out), ?_, HFB.out, HK5.out, ⟨x, HK6'.out⟩, HK7.out, by omega, J6.out, ?_⟩
      · rw [List.flatMap_append, List.flatMap_cons, List.flatMap_nil, List.append_nil, ← List.append_assoc]
        exact HJB.out
      · exact (J7.out.trans (SpareM.setCell W' (fun h => by have := HKW.out _ h; omega) _ _)).trans (HS.out.imp (fun k h => h.imp id .inl))
    · have HS := Lib.hid hS
      have HJB := Lib.hid hJB
      have HP' := Lib.hid hP'
      have HK7 := Lib.hid (show Blk B g7 4 #[.bool false] from (hS.block _ (.inr (.inr (.inl ⟨by omega, by omega⟩)))).trans ((Below.heap_setCell W' ⟨g6, 2, none⟩ (.int .i64 x) _ (by dsimp only; omega)).trans J4.out))
      have hzB := hS.size
      rw [World.size_setCell] at hzB
      clear hS hJB hP' s0 t0 t1 t2 f0 f1 f2 y0 l5' l6' l7' lf
      have d0 := Blk.c1 HK7.out
      have f0 := HK7.out.frozen 0
      have l7 := HK7.out.lt
      gi_wp2_with fail
      refine ⟨((SpareM.setCell W' (HK6.out _ (.inl rfl)) _ _).trans (HS.out.imp HKP.out)).trans (SpareM.setCell _ (HK6.out _ (.inr rfl)) _ _), rfl, ⟨_, HP'.out, ?_⟩, by simpa using HK7.out.set 0 (.bool false), by rw [World.size_setCell]; omega, J6.out, ?_⟩
      · exact HJx.out _ _ _ _ _ HJB.out (PrivM.setCell _ (.inl (.inr (.inl ⟨by omega, by omega⟩))) _ _) (fun k h => .inl h)
      · exact ((J7.out.trans (SpareM.setCell W' (fun h => by have := HKW.out _ h; omega) _ _)).trans (HS.out.imp (fun k h => h.imp id .inl))).trans (SpareM.setCell _ (fun h => by have := HKW.out _ h; omega) _ _)
  case hdone =>
    rintro D xs W' rfl hz rfl ⟨j0, j1, j2, ⟨u, j3⟩, j4, j5, j6, j7⟩ hD'
    have J0 := Lib.hid j0
    have J4 := Lib.hid j4
    have J7 := Lib.hid j7
    have HD := Lib.hid hD'
    have c0 := Blk.c1 j4
    have f0 := j4.frozen 0
    have l7' := j4.lt
    clear j0 j1 j2 j3 j4 j6 j7 hseq hD'
    gi_wp2_with fail
    go_wp2_with fail
    have hG : Blk (W'.setCell ⟨g7, 0, none⟩ (.bool true)) g7 4 #[.bool true] := by simpa using J4.out.set 0 (.bool true)
    have hDG : (W'.setCell ⟨g7, 0, none⟩ (.bool true)).heap[w2.heap.size]? = some (.deferred (some [])) := (Below.heap_setCell _ _ _ _ (by dsimp only; omega)).trans HD.out
    have hJG := HJ.out _ (fun k => M k ∨ (W.heap.size ≤ k ∧ k < w2.heap.size + 2)) _ _ _ J0.out (PrivM.setCell (M := fun k => (M k ∨ (W.heap.size ≤ k ∧ k < w2.heap.size + 2) ∨ False) ∨ False) W' (b := g7) (.inl (.inr (.inl ⟨by omega, by omega⟩))) 0 (.bool true)) (by rintro k (h | h); exact .inl (.inl h); exact .inl (.inr (.inl h)))
    have hSG := J7.out.trans (SpareM.setCell W' (b := g7) (fun h => by have := HKW.out _ h; omega) 0 (.bool true))
    generalize W'.setCell ⟨g7, 0, none⟩ (.bool true) = F at *
    refine ⟨by simp, .inl ⟨_, _, rfl, run_takeDeferred hDG, ?_⟩⟩
    have hH : Blk (F.putObj w2.heap.size (.deferred none)) g7 4 #[.bool true] := (World.putObj_heap_other (by omega)).trans hG
    have t0 := Blk.c1 hH
    refine ⟨.bool true, ?_, .inl ⟨rfl, ?_, ?_⟩⟩
    · simp [results, Try.results119, go_sem, t0]
    · exact HJ.out _ _ _ _ _ hJG (PrivM.putObj _ (.inl (.inr ⟨by omega, by omega⟩)) _) (fun k h => .inl (.inl h))
    · exact hSG.trans (SpareM.putObj _ (fun h => by have := HKW.out _ h; omega) _)
  case hstop =>
    rintro D cc pre W' rfl hz hSp ⟨rfl, ⟨pre', j0, j1⟩, j4, j5, j6, j7⟩ hD'
    have J0 := Lib.hid j0
    have J1 := Lib.hid j1
    have J4 := Lib.hid j4
    have J7 := Lib.hid j7
    have HD := Lib.hid hD'
    clear j0 j1 j4 j6 j7 hseq hD'
    gi_wp2_with fail
    refine ⟨by simp, .inl ⟨_, _, rfl, run_takeDeferred HD.out, ?_⟩⟩
    have hH : Blk (W'.putObj w2.heap.size (.deferred none)) g7 4 #[.bool false] := (World.putObj_heap_other (by omega)).trans J4.out
    have t0 := Blk.c1 hH
    refine ⟨.bool false, ?_, .inr ⟨rfl, ⟨_, J0.out, ?_⟩, ?_⟩⟩
    · simp [results, Try.results119, go_sem, t0]
    · exact HJx.out _ _ _ _ _ J1.out (PrivM.putObj _ (.inl (.inr (.inl ⟨by omega, by omega⟩))) _) (fun k h => .inl (.inl h))
    · exact J7.out.trans (SpareM.putObj _ (fun h => by have := HKW.out _ h; omega) _)
set_option maxRecDepth 100000 in
set_option maxHeartbeats 8000000 in
theorem fillF_1 (b : Ck) (p : Option Addr) (c yb cb fb l n z : Nat) (O M : Nat → Prop) (J Jx : (Nat → Prop) → List Ms → World → Prop) (tot pre0 : List Ms) (m : Ms) (W : World) (hz : z ≤ W.heap.size) (hJ : StableM (fun _ => False) J) (hJx : StableM (fun _ => False) Jx)
    (hY : ∀ mm M pre x A, (∀ k, M k → z ≤ k ∧ k < A.heap.size) → z ≤ A.heap.size → pre ++ [x] <+: tot → J M pre A → YieldAt Fence.wide mm Try.prog l (encM b p c x) A fun e B =>
      (e = .returned (.bool true) ∧ J M (pre ++ [x]) B ∧ SpareM (fun k => (k < z ∧ ¬ O k) ∨ M k) A B) ∨ (e = .returned (.bool false) ∧ Jx M (pre ++ [x]) B ∧ SpareM (fun k => (k < z ∧ ¬ O k) ∨ M k) A B))
    (hO : ∀ k, O k → k < z) (hM : ∀ k, M k → z ≤ k ∧ k < W.heap.size) (hF : FillAt W b p c yb cb fb l) (hMF : M yb ∧ M cb ∧ M fb) (hv : HoldsOK b) (hp : pre0 ++ fillR b 2 m <+: tot) (h0 : J M pre0 W) :
    CallsIn Fence.wide n Try.prog 119 #[.int .i64 1, msV m, .pointer (some ⟨yb, 0, none⟩), .pointer (some ⟨cb, 0, none⟩), .pointer (some ⟨fb, 0, none⟩)] W (FillPF z O J Jx tot pre0 (fillR b 2 m) M W) := by
  have HV := Lib.hid hv
  have HJ := Lib.hid hJ
  have HJx := Lib.hid hJx
  have HY := Lib.hid hY
  have HF := Lib.hid hF
  have HO := Lib.hid hO
  have HM := Lib.hid hM
  have HP := Lib.hid hp
  have H0 := Lib.hid h0
  have hlh := hv 1
  have hfy := hF.y.lt
  have hfc := hF.c.lt
  have hff := hF.f.lt
  have HMF := Lib.hid hMF
  have hz0 := hz
  simp only [Ck.lo, Ck.hi] at hlh
  have HKW := Lib.hid (show ∀ k, ((k < z ∧ ¬ O k) ∨ M k) → k < W.heap.size from by
    rintro k (h | h)
    · omega
    · exact (hM k h).2)
  clear hJ hJx hY hF hO hp h0 hv hM hMF hz
  unfold msV
  refine callsIn_of_wp_marks Try.func119 rfl trivial ?_ rfl
  simp only [Try.ntmps119, List.size_toArray, List.length_cons, List.length_nil, Nat.reduceAdd, Nat.reduceSub, Array.replicate_succ, Array.replicate_zero, List.push_toArray, List.append_toArray, List.nil_append, List.cons_append]
  refine wpIn_wide.2 ?_
  go_upto_region 3 with fail
  generalize hV : World.alloc _ _ = V
  have hBV : Below W.heap.size W V := by rw [← hV]; (exact belC)
  have hF := HF.out.bel hBV
  have k5 : Blk V W.heap.size 3 #[.int .i64 1] := by rw [← hV]; exact ((Blk.new rfl).alloc _).alloc _
  have k6 : Blk V (W.heap.size + 1) 106 #[.int .i64 m.a, .int .i64 m.b, .int .i64 m.c] := by rw [← hV]; exact (Blk.new (by simp)).alloc _
  have k7 : Blk V (W.heap.size + 1 + 1) 4 #[.bool false] := by rw [← hV]; exact Blk.new (by simp)
  have hc0 := hF.c
  have lc := hc0.lt
  unfold ckcs at hc0
  have c0 := hc0.cell 0
  have c1 := hc0.cell 1
  have c2 := hc0.cell 2
  have c3 := hc0.cell 3
  have c4 := hc0.cell 4
  have c5 := hc0.cell 5
  have c6 := hc0.cell 6
  have c7 := hc0.cell 7
  have c8 := hc0.cell 8
  have c9 := hc0.cell 9
  simp only [List.size_toArray, List.length_cons, List.length_nil, Nat.reduceAdd, Nat.reduceLT, getElem?_pos, List.getElem_toArray, List.getElem_cons_zero, List.getElem_cons_succ] at c0 c1 c2 c3 c4 c5 c6 c7 c8 c9
  have s0 := Blk.c1 k5
  have l5 := k5.lt
  have o6 : W.heap.size < W.heap.size + 1 := by omega
  have o7 : W.heap.size + 1 < W.heap.size + 1 + 1 := by omega
  have l7 := k7.lt
  have K5 := Lib.hid k5
  have K6 := Lib.hid k6
  have K7 := Lib.hid k7
  have HBV := Lib.hid hBV
  have HFV := Lib.hid hF
  have HVZ := Lib.hid hBV.size
  clear hV hBV hc0 hF k5 k6 k7
  generalize W.heap.size + 1 + 1 = g7 at *
  generalize W.heap.size + 1 = g6 at *
  go_wp2_with (go_at_call 117; refine (numbers_any _ _ _).mono ?_; rintro e w2 ⟨g, rfl, k1, k2, y, hw⟩; have HB2 := Lib.hid (show Below V.heap.size V w2 by rw [hw]; (exact belA)); have HG := Lib.hid (show Blk w2 g 23 #[.int .i64 b.l1, .int .i64 b.u1] from k2); have hgz : V.heap.size ≤ g := (by first | exact k1 | (simp at k1; omega)); clear hw k1 k2)
  clear c0 c1 c2 c3 c4 c5 c6 c7 c8 c9 s0 lc
  have hz2 := HB2.out.size
  have hgl2 := HG.out.lt
  have hVZ := HVZ.out
  have F2 := Lib.hid (HFV.out.bel HB2.out)
  have K52 := Lib.hid (K5.out.bel HB2.out)
  have K62 := Lib.hid (K6.out.bel HB2.out)
  have K72 := Lib.hid (K7.out.bel HB2.out)
  have HBW2 := Lib.hid (HBV.out.trans (HB2.out.mono hVZ))
  obtain ⟨OO, hOO⟩ : ∃ OO : Nat → Prop, OO = fun j => j = g6 ∨ j = g7 ∨ O j ∨ (z ≤ j ∧ j < W.heap.size ∧ ¬ M j) := ⟨_, rfl⟩
  have HOO := Lib.hid (show ∀ j, OO j ↔ (j = g6 ∨ j = g7 ∨ O j ∨ (z ≤ j ∧ j < W.heap.size ∧ ¬ M j)) from fun j => by rw [hOO])
  have HOL := Lib.hid (show ∀ j, OO j → j < V.heap.size from fun j hj => by
    rcases (HOO.out j).1 hj with h | h | h | h
    · omega
    · omega
    · have := HO.out j h; omega
    · omega)
  clear hOO
  have hseq := numbersF g b.l1 b.u1 (fun j => OO j ∨ j = w2.heap.size + 1) w2 HG.out (by omega) (by omega) (fun j hj => by
    rcases hj with hj | rfl
    · have := HOL.out j hj; omega
    · omega)
  refine (wpIn_wide (n := n)).1 ?_
  refine wpIn_rangeFunc_f (gf := 129) (fb := #[]) (lb := #[.pointer (some ⟨g, 0, none⟩)]) rfl (enters_of Try.func129 (by kernel_rfl) rfl)
    OO (fun j hj => by have := HOL.out j hj; omega) hseq (Below.refl _ _) (fun _ => rfl)
    (fun Ma pre A => J (fun k => M k ∨ (W.heap.size ≤ k ∧ k < w2.heap.size + 2) ∨ Ma k) (pre0 ++ pre.flatMap fun y => fillR b 1 ⟨m.a, y, m.c⟩) A ∧ FillAt A b p c yb cb fb l ∧ Blk A W.heap.size 3 #[.int .i64 1] ∧ (∃ u, Blk A g6 106 #[.int .i64 m.a, .int .i64 u, .int .i64 m.c]) ∧ Blk A g7 4 #[.bool false] ∧ w2.heap.size + 2 ≤ A.heap.size ∧ (∀ k, Ma k → w2.heap.size + 2 ≤ k) ∧ SpareM (fun k => (k < z ∧ ¬ O k) ∨ M k) W A)
    (fun Ma cc pre A => cc = .ret ∧ (∃ pre', pre' <+: tot ∧ Jx (fun k => M k ∨ (W.heap.size ≤ k ∧ k < w2.heap.size + 2) ∨ Ma k) pre' A) ∧ Blk A g7 4 #[.bool false] ∧ w2.heap.size + 2 ≤ A.heap.size ∧ (∀ k, Ma k → w2.heap.size + 2 ≤ k) ∧ SpareM (fun k => (k < z ∧ ¬ O k) ∨ M k) W A)
    (fun Ma pre x a' A => ∃ u9 u10 u11 u12 u13 u14 u15 u16 u17 u18 u19 u20 u21 u22 u23 u24 u25 u26 u27 u28 u29 u30 u31 : Value, a' = { tmps := #[.int .i64 1, .agg #[.int .i64 m.a, .int .i64 m.b, .int .i64 m.c], .pointer (some ⟨yb, 0, none⟩), .pointer (some ⟨cb, 0, none⟩), .pointer (some ⟨fb, 0, none⟩), .pointer (some ⟨W.heap.size, 0, none⟩), .pointer (some ⟨g6, 0, none⟩), .pointer (some ⟨g7, 0, none⟩), .int .i64 x, u9, u10, u11, u12, u13, u14, u15, u16, u17, u18, u19, u20, u21, u22, u23, u24, u25, u26, u27, u28, u29, u30, u31], defers := [] })
    ?hI ?hIx ?hAx ?h0 ?hassign ?hbody ?hdone ?hstop
  case hI =>
    rintro Ma Mb pre A C ⟨j0, j1, j2, ⟨u, j3⟩, j4, j5, j6, j7⟩ hp hb
    have hno : ∀ k, k < w2.heap.size + 1 → C.heap[k]? = A.heap[k]? := fun k hk => hp.block k (by omega) (by rintro (h | h); (have := j6 k h; omega); omega)
    refine ⟨HJ.out _ _ _ _ _ j0 (hp.mono ?_) ?_, ⟨(hno _ (by omega)).trans j1.y, (hno _ (by omega)).trans j1.c, (hno _ (by omega)).trans j1.f⟩, (hno _ (by omega)).trans j2, ⟨u, (hno _ (by omega)).trans j3⟩, (hno _ (by omega)).trans j4, Nat.le_trans j5 hp.size, fun k hk => ?_, j7.trans ⟨hp.os, hp.tape, hp.output, hp.size, fun k hk => hno k (by have := HKW.out k hk; omega)⟩⟩
    · rintro k (h | h)
      · exact .inl (.inr (.inr h))
      · exact .inl (.inr (.inl ⟨by omega, by omega⟩))
    · rintro k (h | h | h)
      · exact .inl (.inl h)
      · exact .inl (.inr (.inl h))
      · exact (hb k h).imp (fun h => .inr (.inr h)) id
    · rcases hb k hk with h | h
      · exact j6 k h
      · omega
  case hIx =>
    rintro cc Ma Mb pre A C ⟨rfl, ⟨pre', j0, j1⟩, j4, j5, j6, j7⟩ hp hb
    have hno : ∀ k, k < w2.heap.size + 1 → C.heap[k]? = A.heap[k]? := fun k hk => hp.block k (by omega) (by rintro (h | h); (have := j6 k h; omega); omega)
    refine ⟨rfl, ⟨pre', j0, HJx.out _ _ _ _ _ j1 (hp.mono ?_) ?_⟩, (hno _ (by omega)).trans j4, Nat.le_trans j5 hp.size, fun k hk => ?_, j7.trans ⟨hp.os, hp.tape, hp.output, hp.size, fun k hk => hno k (by have := HKW.out k hk; omega)⟩⟩
    · rintro k (h | h)
      · exact .inl (.inr (.inr h))
      · exact .inl (.inr (.inl ⟨by omega, by omega⟩))
    · rintro k (h | h | h)
      · exact .inl (.inl h)
      · exact .inl (.inr (.inl h))
      · exact (hb k h).imp (fun h => .inr (.inr h)) id
    · rcases hb k hk with h | h
      · exact j6 k h
      · omega
  case hAx => rintro Ma pre x a' A C ⟨u9, u10, u11, u12, u13, u14, u15, u16, u17, u18, u19, u20, u21, u22, u23, u24, u25, u26, u27, u28, u29, u30, u31, rfl⟩ hp; exact ⟨u9, u10, u11, u12, u13, u14, u15, u16, u17, u18, u19, u20, u21, u22, u23, u24, u25, u26, u27, u28, u29, u30, u31, rfl⟩
  case h0 =>
    intro W6 hb6 hz6
    have hb7 := HBW2.out.trans (hb6.mono (by omega))
    refine ⟨?_, ⟨(hb6.block _ (by omega)).trans F2.out.y, (hb6.block _ (by omega)).trans F2.out.c, (hb6.block _ (by omega)).trans F2.out.f⟩, (hb6.block _ (by omega)).trans K52.out, ⟨_, (hb6.block _ (by omega)).trans K62.out⟩, (hb6.block _ (by omega)).trans K72.out, by omega, fun k h => h.elim, SpareM.of_below hb7 (fun k h => HKW.out k h)⟩
    rw [List.flatMap_nil, List.append_nil]
    exact HJ.out _ _ _ _ _ H0.out (PrivM.of_below hb7) (by rintro k (h | h | h); exact .inl h; exact .inr h.1; exact h.elim)
  case hassign =>
    intro mm l' Ma pre x W' hMa hz hsp hi'
    exact wpIn_assign ⟨hi', ⟨_, _, _, _, _, _, _, _, _, _, _, _, _, _, _, _, _, _, _, _, _, _, _, by simp [go_sem, Act.put, Act.eval]; exact ⟨rfl, rfl, rfl, rfl, rfl, rfl, rfl, rfl, rfl, rfl, rfl, rfl, rfl, rfl, rfl, rfl, rfl, rfl, rfl, rfl, rfl, rfl, rfl⟩⟩, Below.refl _ _⟩
  case hbody =>
    rintro mm l' Ma pre x a' W' hl hMa hz hpx ⟨j0, j1, j2, ⟨u, j3⟩, j4, j5, j6, j7⟩ ⟨u9, u10, u11, u12, u13, u14, u15, u16, u17, u18, u19, u20, u21, u22, u23, u24, u25, u26, u27, u28, u29, u30, u31, rfl⟩
    have HPX := Lib.hid (show (pre0 ++ pre.flatMap fun y => fillR b 1 ⟨m.a, y, m.c⟩) ++ fillR b 1 ⟨m.a, x, m.c⟩ <+: tot from by
      have h1 := flat_prefix (f := fun y => fillR b 1 ⟨m.a, y, m.c⟩) hpx
      rw [List.flatMap_append, List.flatMap_cons, List.flatMap_nil, List.append_nil] at h1
      rw [List.append_assoc]
      exact app_prefix h1 HP.out)
    have J0 := Lib.hid j0
    have J1 := Lib.hid j1
    have J2 := Lib.hid j2
    have J4 := Lib.hid j4
    have J3 := Lib.hid j3
    have J6 := Lib.hid j6
    have J7 := Lib.hid j7
    have HMa := Lib.hid hMa
    have s0 := Blk.c1 j2
    obtain ⟨t0, t1, t2⟩ := Blk.c3 j3
    obtain ⟨f0, f1, f2⟩ := Blk.f3 j3
    have y0 := Blk.c1 j1.f
    have l5' := j2.lt
    have l6' := j3.lt
    have l7' := j4.lt
    have lf := j1.f.lt
    clear j0 j1 j2 j3 j4 j6 j7 hMa hl hseq hpx
    have hF5 : ∀ v, FillAt (W'.setCell ⟨g6, 1, none⟩ v) b p c yb cb fb l := fun v => ⟨(Below.heap_setCell _ _ _ _ (by dsimp only; omega)).trans J1.out.y, (Below.heap_setCell _ _ _ _ (by dsimp only; omega)).trans J1.out.c, (Below.heap_setCell _ _ _ _ (by dsimp only; omega)).trans J1.out.f⟩
    have HF5 := Lib.hid hF5
    have HJ5 := Lib.hid (show ∀ v, J (fun k => M k ∨ (W.heap.size ≤ k ∧ k < w2.heap.size + 2) ∨ Ma k) (pre0 ++ pre.flatMap fun y => fillR b 1 ⟨m.a, y, m.c⟩) (W'.setCell ⟨g6, 1, none⟩ v) from fun v => HJ.out _ _ _ _ _ J0.out (PrivM.setCell _ (.inl (.inr (.inl ⟨by omega, by omega⟩))) _ _) (fun k h => .inl h))
    have HM5 := Lib.hid (show ∀ v k, (M k ∨ (W.heap.size ≤ k ∧ k < w2.heap.size + 2) ∨ Ma k) → z ≤ k ∧ k < (W'.setCell ⟨g6, 1, none⟩ v).heap.size from by
      intro v
      rw [World.size_setCell]
      rintro k (h | h | h)
      · have := HM.out k h; omega
      · omega
      · have := HMa.out k h; omega)
    clear hF5
    gi_wp2_with fail
    gi_at_call 119
    refine (CallsIn.inRound _ (fillF_2 b p c yb cb fb l _ z O (fun k => M k ∨ (W.heap.size ≤ k ∧ k < w2.heap.size + 2) ∨ Ma k) J Jx tot _ ⟨m.a, x, m.c⟩ _ (by simp; omega) HJ.out HJx.out HY.out HO.out (HM5.out _) (HF5.out _) ⟨.inl HMF.out.1, .inl HMF.out.2.1, .inl HMF.out.2.2⟩ HV.out HPX.out (HJ5.out _))).mono ?_
    have HKP := Lib.hid (show ∀ k, KeepM OO w2.heap.size Ma k → (k < z ∧ ¬ O k) ∨ (M k ∨ (W.heap.size ≤ k ∧ k < w2.heap.size + 2) ∨ Ma k) from by
      rintro k (⟨h1, h2⟩ | h)
      · by_cases hkz : k < z
        · exact .inl ⟨hkz, fun e => h2 ((HOO.out k).2 (.inr (.inr (.inl e))))⟩
        · by_cases hkW : k < W.heap.size
          · by_cases hkM : M k
            · exact .inr (.inl hkM)
            · exact absurd ((HOO.out k).2 (.inr (.inr (.inr ⟨by omega, hkW, hkM⟩)))) h2
          · exact .inr (.inr (.inl ⟨by omega, h1⟩))
      · exact .inr (.inr (.inr h)))
    have HK6 := Lib.hid (show ∀ j, j = g6 ∨ j = g7 → ¬ KeepM OO w2.heap.size Ma j from by
      rintro j hj (⟨-, h2⟩ | h)
      · exact h2 ((HOO.out j).2 (by rcases hj with h | h; exact .inl h; exact .inr (.inl h)))
      · have := (HMa.out j h).1; omega)
    rintro e B (⟨rfl, hJB, hS⟩ | ⟨rfl, ⟨pre', hP', hJB⟩, hS⟩)
    · have HS := Lib.hid hS
      have HJB := Lib.hid hJB
      have hin : ∀ k, (M k ∨ (W.heap.size ≤ k ∧ k < w2.heap.size + 2)) → k ≠ g6 → B.heap[k]? = W'.heap[k]? := fun k hk hne => (hS.block k (.inr (by rcases hk with h | h; exact .inl h; exact .inr (.inl h)))).trans (Below.heap_setCell _ _ _ _ (by dsimp only; exact hne))
      have HFB := Lib.hid (show FillAt B b p c yb cb fb l from ⟨(hin _ (.inl HMF.out.1) (by omega)).trans J1.out.y, (hin _ (.inl HMF.out.2.1) (by omega)).trans J1.out.c, (hin _ (.inl HMF.out.2.2) (by omega)).trans J1.out.f⟩)
      have HK5 := Lib.hid ((hin _ (.inr ⟨by omega, by omega⟩) (by omega)).trans J2.out)
      have HK6' := Lib.hid ((hS.block _ (.inr (.inr (.inl ⟨by omega, by omega⟩)))).trans (J3.out.set 1 (.int .i64 x)))
      have HK7 := Lib.hid ((hin _ (.inr ⟨by omega, by omega⟩) (by omega)).trans J4.out)
      have hzB := hS.size
      rw [World.size_setCell] at hzB
      clear hS hJB hin s0 t0 t1 t2 f0 f1 f2 y0 l5' l6' l7' lf
      gi_wp2_with fail
      refine ⟨(SpareM.setCell W' (HK6.out _ (.inl rfl)) _ _).trans (HS.out.imp HKP.out), ?_, HFB.out, HK5.out, ⟨x, HK6'.out⟩, HK7.out, by omega, J6.out, ?_⟩
      · rw [List.flatMap_append, List.flatMap_cons, List.flatMap_nil, List.append_nil, ← List.append_assoc]
        exact HJB.out
      · exact (J7.out.trans (SpareM.setCell W' (fun h => by have := HKW.out _ h; omega) _ _)).trans (HS.out.imp (fun k h => h.imp id .inl))
    · have HS := Lib.hid hS
      have HJB := Lib.hid hJB
      have HP' := Lib.hid hP'
      have HK7 := Lib.hid (show Blk B g7 4 #[.bool false] from (hS.block _ (.inr (.inr (.inl ⟨by omega, by omega⟩)))).trans ((Below.heap_setCell W' ⟨g6, 1, none⟩ (.int .i64 x) _ (by dsimp only; omega)).trans J4.out))
      have hzB := hS.size
      rw [World.size_setCell] at hzB
      clear hS hJB hP' s0 t0 t1 t2 f0 f1 f2 y0 l5' l6' l7' lf
      have d0 := Blk.c1 HK7.out
      have f0 := HK7.out.frozen 0
      have l7 := HK7.out.lt
      gi_wp2_with fail
      refine ⟨((SpareM.setCell W' (HK6.out _ (.inl rfl)) _ _).trans (HS.out.imp HKP.out)).trans (SpareM.setCell _ (HK6.out _ (.inr rfl)) _ _), rfl, ⟨_, HP'.out, ?_⟩, by simpa using HK7.out.set 0 (.bool false), by rw [World.size_setCell]; omega, J6.out, ?_⟩
      · exact HJx.out _ _ _ _ _ HJB.out (PrivM.setCell _ (.inl (.inr (.inl ⟨by omega, by omega⟩))) _ _) (fun k h => .inl h)
      · exact ((J7.out.trans (SpareM.setCell W' (fun h => by have := HKW.out _ h; omega) _ _)).trans (HS.out.imp (fun k h => h.imp id .inl))).trans (SpareM.setCell _ (fun h => by have := HKW.out _ h; omega) _ _)
  case hdone =>
    rintro D xs W' rfl hz rfl ⟨j0, j1, j2, ⟨u, j3⟩, j4, j5, j6, j7⟩ hD'
    have J0 := Lib.hid j0
    have J4 := Lib.hid j4
    have J7 := Lib.hid j7
    have HD := Lib.hid hD'
    have c0 := Blk.c1 j4
    have f0 := j4.frozen 0
    have l7' := j4.lt
    clear j0 j1 j2 j3 j4 j6 j7 hseq hD'
    gi_wp2_with fail
    go_wp2_with fail
    have hG : Blk (W'.setCell ⟨g7, 0, none⟩ (.bool true)) g7 4 #[.bool true] := by simpa using J4.out.set 0 (.bool true)
    have hDG : (W'.setCell ⟨g7, 0, none⟩ (.bool true)).heap[w2.heap.size]? = some (.deferred (some [])) := (Below.heap_setCell _ _ _ _ (by dsimp only; omega)).trans HD.out
    have hJG := HJ.out _ (fun k => M k ∨ (W.heap.size ≤ k ∧ k < w2.heap.size + 2)) _ _ _ J0.out (PrivM.setCell (M := fun k => (M k ∨ (W.heap.size ≤ k ∧ k < w2.heap.size + 2) ∨ False) ∨ False) W' (b := g7) (.inl (.inr (.inl ⟨by omega, by omega⟩))) 0 (.bool true)) (by rintro k (h | h); exact .inl (.inl h); exact .inl (.inr (.inl h)))
    have hSG := J7.out.trans (SpareM.setCell W' (b := g7) (fun h => by have := HKW.out _ h; omega) 0 (.bool true))
    generalize W'.setCell ⟨g7, 0, none⟩ (.bool true) = F at *
    refine ⟨by simp, .inl ⟨_, _, rfl, run_takeDeferred hDG, ?_⟩⟩
    have hH : Blk (F.putObj w2.heap.size (.deferred none)) g7 4 #[.bool true] := (World.putObj_heap_other (by omega)).trans hG
    have t0 := Blk.c1 hH
    refine ⟨.bool true, ?_, .inl ⟨rfl, ?_, ?_⟩⟩
    · simp [results, Try.results119, go_sem, t0]
    · exact HJ.out _ _ _ _ _ hJG (PrivM.putObj _ (.inl (.inr ⟨by omega, by omega⟩)) _) (fun k h => .inl (.inl h))
    · exact hSG.trans (SpareM.putObj _ (fun h => by have := HKW.out _ h; omega) _)
  case hstop =>
    rintro D cc pre W' rfl hz hSp ⟨rfl, ⟨pre', j0, j1⟩, j4, j5, j6, j7⟩ hD'
    have J0 := Lib.hid j0
    have J1 := Lib.hid j1
    have J4 := Lib.hid j4
    have J7 := Lib.hid j7
    have HD := Lib.hid hD'
    clear j0 j1 j4 j6 j7 hseq hD'
    gi_wp2_with fail
    refine ⟨by simp, .inl ⟨_, _, rfl, run_takeDeferred HD.out, ?_⟩⟩
    have hH : Blk (W'.putObj w2.heap.size (.deferred none)) g7 4 #[.bool false] := (World.putObj_heap_other (by omega)).trans J4.out
    have t0 := Blk.c1 hH
    refine ⟨.bool false, ?_, .inr ⟨rfl, ⟨_, J0.out, ?_⟩, ?_⟩⟩
    · simp [results, Try.results119, go_sem, t0]
    · exact HJx.out _ _ _ _ _ J1.out (PrivM.putObj _ (.inl (.inr (.inl ⟨by omega, by omega⟩))) _) (fun k h => .inl (.inl h))
    · exact J7.out.trans (SpareM.putObj _ (fun h => by have := HKW.out _ h; omega) _)
set_option maxRecDepth 100000 in
set_option maxHeartbeats 8000000 in
theorem fillF_0 (b : Ck) (p : Option Addr) (c yb cb fb l n z : Nat) (O M : Nat → Prop) (J Jx : (Nat → Prop) → List Ms → World → Prop) (tot pre0 : List Ms) (m : Ms) (W : World) (hz : z ≤ W.heap.size) (hJ : StableM (fun _ => False) J) (hJx : StableM (fun _ => False) Jx)
    (hY : ∀ mm M pre x A, (∀ k, M k → z ≤ k ∧ k < A.heap.size) → z ≤ A.heap.size → pre ++ [x] <+: tot → J M pre A → YieldAt Fence.wide mm Try.prog l (encM b p c x) A fun e B =>
      (e = .returned (.bool true) ∧ J M (pre ++ [x]) B ∧ SpareM (fun k => (k < z ∧ ¬ O k) ∨ M k) A B) ∨ (e = .returned (.bool false) ∧ Jx M (pre ++ [x]) B ∧ SpareM (fun k => (k < z ∧ ¬ O k) ∨ M k) A B))
    (hO : ∀ k, O k → k < z) (hM : ∀ k, M k → z ≤ k ∧ k < W.heap.size) (hF : FillAt W b p c yb cb fb l) (hMF : M yb ∧ M cb ∧ M fb) (hv : HoldsOK b) (hp : pre0 ++ fillR b 3 m <+: tot) (h0 : J M pre0 W) :
    CallsIn Fence.wide n Try.prog 119 #[.int .i64 0, msV m, .pointer (some ⟨yb, 0, none⟩), .pointer (some ⟨cb, 0, none⟩), .pointer (some ⟨fb, 0, none⟩)] W (FillPF z O J Jx tot pre0 (fillR b 3 m) M W) := by
  have HV := Lib.hid hv
  have HJ := Lib.hid hJ
  have HJx := Lib.hid hJx
  have HY := Lib.hid hY
  have HF := Lib.hid hF
  have HO := Lib.hid hO
  have HM := Lib.hid hM
  have HP := Lib.hid hp
  have H0 := Lib.hid h0
  have hlh := hv 0
  have hfy := hF.y.lt
  have hfc := hF.c.lt
  have hff := hF.f.lt
  have HMF := Lib.hid hMF
  have hz0 := hz
  simp only [Ck.lo, Ck.hi] at hlh
  have HKW := Lib.hid (show ∀ k, ((k < z ∧ ¬ O k) ∨ M k) → k < W.heap.size from by
    rintro k (h | h)
    · omega
    · exact (hM k h).2)
  clear hJ hJx hY hF hO hp h0 hv hM hMF hz
  unfold msV
  refine callsIn_of_wp_marks Try.func119 rfl trivial ?_ rfl
  simp only [Try.ntmps119, List.size_toArray, List.length_cons, List.length_nil, Nat.reduceAdd, Nat.reduceSub, Array.replicate_succ, Array.replicate_zero, List.push_toArray, List.append_toArray, List.nil_append, List.cons_append]
  refine wpIn_wide.2 ?_
  go_upto_region 3 with fail
  generalize hV : World.alloc _ _ = V
  have hBV : Below W.heap.size W V := by rw [← hV]; (exact belC)
  have hF := HF.out.bel hBV
  have k5 : Blk V W.heap.size 3 #[.int .i64 0] := by rw [← hV]; exact ((Blk.new rfl).alloc _).alloc _
  have k6 : Blk V (W.heap.size + 1) 106 #[.int .i64 m.a, .int .i64 m.b, .int .i64 m.c] := by rw [← hV]; exact (Blk.new (by simp)).alloc _
  have k7 : Blk V (W.heap.size + 1 + 1) 4 #[.bool false] := by rw [← hV]; exact Blk.new (by simp)
  have hc0 := hF.c
  have lc := hc0.lt
  unfold ckcs at hc0
  have c0 := hc0.cell 0
  have c1 := hc0.cell 1
  have c2 := hc0.cell 2
  have c3 := hc0.cell 3
  have c4 := hc0.cell 4
  have c5 := hc0.cell 5
  have c6 := hc0.cell 6
  have c7 := hc0.cell 7
  have c8 := hc0.cell 8
  have c9 := hc0.cell 9
  simp only [List.size_toArray, List.length_cons, List.length_nil, Nat.reduceAdd, Nat.reduceLT, getElem?_pos, List.getElem_toArray, List.getElem_cons_zero, List.getElem_cons_succ] at c0 c1 c2 c3 c4 c5 c6 c7 c8 c9
  have s0 := Blk.c1 k5
  have l5 := k5.lt
  have o6 : W.heap.size < W.heap.size + 1 := by omega
  have o7 : W.heap.size + 1 < W.heap.size + 1 + 1 := by omega
  have l7 := k7.lt
  have K5 := Lib.hid k5
  have K6 := Lib.hid k6
  have K7 := Lib.hid k7
  have HBV := Lib.hid hBV
  have HFV := Lib.hid hF
  have HVZ := Lib.hid hBV.size
  clear hV hBV hc0 hF k5 k6 k7
  generalize W.heap.size + 1 + 1 = g7 at *
  generalize W.heap.size + 1 = g6 at *
  go_wp2_with (go_at_call 117; refine (numbers_any _ _ _).mono ?_; rintro e w2 ⟨g, rfl, k1, k2, y, hw⟩; have HB2 := Lib.hid (show Below V.heap.size V w2 by rw [hw]; (exact belA)); have HG := Lib.hid (show Blk w2 g 23 #[.int .i64 b.l0, .int .i64 b.u0] from k2); have hgz : V.heap.size ≤ g := (by first | exact k1 | (simp at k1; omega)); clear hw k1 k2)
  clear c0 c1 c2 c3 c4 c5 c6 c7 c8 c9 s0 lc
  have hz2 := HB2.out.size
  have hgl2 := HG.out.lt
  have hVZ := HVZ.out
  have F2 := Lib.hid (HFV.out.bel HB2.out)
  have K52 := Lib.hid (K5.out.bel HB2.out)
  have K62 := Lib.hid (K6.out.bel HB2.out)
  have K72 := Lib.hid (K7.out.bel HB2.out)
  have HBW2 := Lib.hid (HBV.out.trans (HB2.out.mono hVZ))
  obtain ⟨OO, hOO⟩ : ∃ OO : Nat → Prop, OO = fun j => j = g6 ∨ j = g7 ∨ O j ∨ (z ≤ j ∧ j < W.heap.size ∧ ¬ M j) := ⟨_, rfl⟩
  have HOO := Lib.hid (show ∀ j, OO j ↔ (j = g6 ∨ j = g7 ∨ O j ∨ (z ≤ j ∧ j < W.heap.size ∧ ¬ M j)) from fun j => by rw [hOO])
  have HOL := Lib.hid (show ∀ j, OO j → j < V.heap.size from fun j hj => by
    rcases (HOO.out j).1 hj with h | h | h | h
    · omega
    · omega
    · have := HO.out j h; omega
    · omega)
  clear hOO
  have hseq := numbersF g b.l0 b.u0 (fun j => OO j ∨ j = w2.heap.size + 1) w2 HG.out (by omega) (by omega) (fun j hj => by
    rcases hj with hj | rfl
    · have := HOL.out j hj; omega
    · omega)
  refine (wpIn_wide (n := n)).1 ?_
  refine wpIn_rangeFunc_f (gf := 129) (fb := #[]) (lb := #[.pointer (some ⟨g, 0, none⟩)]) rfl (enters_of Try.func129 (by kernel_rfl) rfl)
    OO (fun j hj => by have := HOL.out j hj; omega) hseq (Below.refl _ _) (fun _ => rfl)
    (fun Ma pre A => J (fun k => M k ∨ (W.heap.size ≤ k ∧ k < w2.heap.size + 2) ∨ Ma k) (pre0 ++ pre.flatMap fun y => fillR b 2 ⟨y, m.b, m.c⟩) A ∧ FillAt A b p c yb cb fb l ∧ Blk A W.heap.size 3 #[.int .i64 0] ∧ (∃ u, Blk A g6 106 #[.int .i64 u, .int .i64 m.b, .int .i64 m.c]) ∧ Blk A g7 4 #[.bool false] ∧ w2.heap.size + 2 ≤ A.heap.size ∧ (∀ k, Ma k → w2.heap.size + 2 ≤ k) ∧ SpareM (fun k => (k < z ∧ ¬ O k) ∨ M k) W A)
    (fun Ma cc pre A => cc = .ret ∧ (∃ pre', pre' <+: tot ∧ Jx (fun k => M k ∨ (W.heap.size ≤ k ∧ k < w2.heap.size + 2) ∨ Ma k) pre' A) ∧ Blk A g7 4 #[.bool false] ∧ w2.heap.size + 2 ≤ A.heap.size ∧ (∀ k, Ma k → w2.heap.size + 2 ≤ k) ∧ SpareM (fun k => (k < z ∧ ¬ O k) ∨ M k) W A)
    (fun Ma pre x a' A => ∃ u9 u10 u11 u12 u13 u14 u15 u16 u17 u18 u19 u20 u21 u22 u23 u24 u25 u26 u27 u28 u29 u30 u31 : Value, a' = { tmps := #[.int .i64 0, .agg #[.int .i64 m.a, .int .i64 m.b, .int .i64 m.c], .pointer (some ⟨yb, 0, none⟩), .pointer (some ⟨cb, 0, none⟩), .pointer (some ⟨fb, 0, none⟩), .pointer (some ⟨W.heap.size, 0, none⟩), .pointer (some ⟨g6, 0, none⟩), .pointer (some ⟨g7, 0, none⟩), .int .i64 x, u9, u10, u11, u12, u13, u14, u15, u16, u17, u18, u19, u20, u21, u22, u23, u24, u25, u26, u27, u28, u29, u30, u31], defers := [] })
    ?hI ?hIx ?hAx ?h0 ?hassign ?hbody ?hdone ?hstop
  case hI =>
    rintro Ma Mb pre A C ⟨j0, j1, j2, ⟨u, j3⟩, j4, j5, j6, j7⟩ hp hb
    have hno : ∀ k, k < w2.heap.size + 1 → C.heap[k]? = A.heap[k]? := fun k hk => hp.block k (by omega) (by rintro (h | h); (have := j6 k h; omega); omega)
    refine ⟨HJ.out _ _ _ _ _ j0 (hp.mono ?_) ?_, ⟨(hno _ (by omega)).trans j1.y, (hno _ (by omega)).trans j1.c, (hno _ (by omega)).trans j1.f⟩, (hno _ (by omega)).trans j2, ⟨u, (hno _ (by omega)).trans j3⟩, (hno _ (by omega)).trans j4, Nat.le_trans j5 hp.size, fun k hk => ?_, j7.trans ⟨hp.os, hp.tape, hp.output, hp.size, fun k hk => hno k (by have := HKW.out k hk; omega)⟩⟩
    · rintro k (h | h)
      · exact .inl (.inr (.inr h))
      · exact .inl (.inr (.inl ⟨by omega, by omega⟩))
    · rintro k (h | h | h)
      · exact .inl (.inl h)
      · exact .inl (.inr (.inl h))
      · exact (hb k h).imp (fun h => .inr (.inr h)) id
    · rcases hb k hk with h | h
      · exact j6 k h
      · omega
  case hIx =>
    rintro cc Ma Mb pre A C ⟨rfl, ⟨pre', j0, j1⟩, j4, j5, j6, j7⟩ hp hb
    have hno : ∀ k, k < w2.heap.size + 1 → C.heap[k]? = A.heap[k]? := fun k hk => hp.block k (by omega) (by rintro (h | h); (have := j6 k h; omega); omega)
    refine ⟨rfl, ⟨pre', j0, HJx.out _ _ _ _ _ j1 (hp.mono ?_) ?_⟩, (hno _ (by omega)).trans j4, Nat.le_trans j5 hp.size, fun k hk => ?_, j7.trans ⟨hp.os, hp.tape, hp.output, hp.size, fun k hk => hno k (by have := HKW.out k hk; omega)⟩⟩
    · rintro k (h | h)
      · exact .inl (.inr (.inr h))
      · exact .inl (.inr (.inl ⟨by omega, by omega⟩))
    · rintro k (h | h | h)
      · exact .inl (.inl h)
      · exact .inl (.inr (.inl h))
      · exact (hb k h).imp (fun h => .inr (.inr h)) id
    · rcases hb k hk with h | h
      · exact j6 k h
      · omega
  case hAx => rintro Ma pre x a' A C ⟨u9, u10, u11, u12, u13, u14, u15, u16, u17, u18, u19, u20, u21, u22, u23, u24, u25, u26, u27, u28, u29, u30, u31, rfl⟩ hp; exact ⟨u9, u10, u11, u12, u13, u14, u15, u16, u17, u18, u19, u20, u21, u22, u23, u24, u25, u26, u27, u28, u29, u30, u31, rfl⟩
  case h0 =>
    intro W6 hb6 hz6
    have hb7 := HBW2.out.trans (hb6.mono (by omega))
    refine ⟨?_, ⟨(hb6.block _ (by omega)).trans F2.out.y, (hb6.block _ (by omega)).trans F2.out.c, (hb6.block _ (by omega)).trans F2.out.f⟩, (hb6.block _ (by omega)).trans K52.out, ⟨_, (hb6.block _ (by omega)).trans K62.out⟩, (hb6.block _ (by omega)).trans K72.out, by omega, fun k h => h.elim, SpareM.of_below hb7 (fun k h => HKW.out k h)⟩
    rw [List.flatMap_nil, List.append_nil]
    exact HJ.out _ _ _ _ _ H0.out (PrivM.of_below hb7) (by rintro k (h | h | h); exact .inl h; exact .inr h.1; exact h.elim)
  case hassign =>
    intro mm l' Ma pre x W' hMa hz hsp hi'
    exact wpIn_assign ⟨hi', ⟨_, _, _, _, _, _, _, _, _, _, _, _, _, _, _, _, _, _, _, _, _, _, _, by simp [go_sem, Act.put, Act.eval]; exact ⟨rfl, rfl, rfl, rfl, rfl, rfl, rfl, rfl, rfl, rfl, rfl, rfl, rfl, rfl, rfl, rfl, rfl, rfl, rfl, rfl, rfl, rfl, rfl⟩⟩, Below.refl _ _⟩
  case hbody =>
    rintro mm l' Ma pre x a' W' hl hMa hz hpx ⟨j0, j1, j2, ⟨u, j3⟩, j4, j5, j6, j7⟩ ⟨u9, u10, u11, u12, u13, u14, u15, u16, u17, u18, u19, u20, u21, u22, u23, u24, u25, u26, u27, u28, u29, u30, u31, rfl⟩
    have HPX := Lib.hid (show (pre0 ++ pre.flatMap fun y => fillR b 2 ⟨y, m.b, m.c⟩) ++ fillR b 2 ⟨x, m.b, m.c⟩ <+: tot from by
      have h1 := flat_prefix (f := fun y => fillR b 2 ⟨y, m.b, m.c⟩) hpx
      rw [List.flatMap_append, List.flatMap_cons, List.flatMap_nil, List.append_nil] at h1
      rw [List.append_assoc]
      exact app_prefix h1 HP.out)
    have J0 := Lib.hid j0
    have J1 := Lib.hid j1
    have J2 := Lib.hid j2
    have J4 := Lib.hid j4
    have J3 := Lib.hid j3
    have J6 := Lib.hid j6
    have J7 := Lib.hid j7
    have HMa := Lib.hid hMa
    have s0 := Blk.c1 j2
    obtain ⟨t0, t1, t2⟩ := Blk.c3 j3
    obtain ⟨f0, f1, f2⟩ := Blk.f3 j3
    have y0 := Blk.c1 j1.f
    have l5' := j2.lt
    have l6' := j3.lt
    have l7' := j4.lt
    have lf := j1.f.lt
    clear j0 j1 j2 j3 j4 j6 j7 hMa hl hseq hpx
    have hF5 : ∀ v, FillAt (W'.setCell ⟨g6, 0, none⟩ v) b p c yb cb fb l := fun v => ⟨(Below.heap_setCell _ _ _ _ (by dsimp only; omega)).trans J1.out.y, (Below.heap_setCell _ _ _ _ (by dsimp only; omega)).trans J1.out.c, (Below.heap_setCell _ _ _ _ (by dsimp only; omega)).trans J1.out.f⟩
    have HF5 := Lib.hid hF5
    have HJ5 := Lib.hid (show ∀ v, J (fun k => M k ∨ (W.heap.size ≤ k ∧ k < w2.heap.size + 2) ∨ Ma k) (pre0 ++ pre.flatMap fun y => fillR b 2 ⟨y, m.b, m.c⟩) (W'.setCell ⟨g6, 0, none⟩ v) from fun v => HJ.out _ _ _ _ _ J0.out (PrivM.setCell _ (.inl (.inr (.inl ⟨by omega, by omega⟩))) _ _) (fun k h => .inl h))
    have HM5 := Lib.hid (show ∀ v k, (M k ∨ (W.heap.size ≤ k ∧ k < w2.heap.size + 2) ∨ Ma k) → z ≤ k ∧ k < (W'.setCell ⟨g6, 0, none⟩ v).heap.size from by
      intro v
      rw [World.size_setCell]
      rintro k (h | h | h)
      · have := HM.out k h; omega
      · omega
      · have := HMa.out k h; omega)
    clear hF5
    gi_wp2_with fail
    gi_at_call 119
    refine (CallsIn.inRound _ (fillF_1 b p c yb cb fb l _ z O (fun k => M k ∨ (W.heap.size ≤ k ∧ k < w2.heap.size + 2) ∨ Ma k) J Jx tot _ ⟨x, m.b, m.c⟩ _ (by simp; omega) HJ.out HJx.out HY.out HO.out (HM5.out _) (HF5.out _) ⟨.inl HMF.out.1, .inl HMF.out.2.1, .inl HMF.out.2.2⟩ HV.out HPX.out (HJ5.out _))).mono ?_
    have HKP := Lib.hid (show ∀ k, KeepM OO w2.heap.size Ma k → (k < z ∧ ¬ O k) ∨ (M k ∨ (W.heap.size ≤ k ∧ k < w2.heap.size + 2) ∨ Ma k) from by
      rintro k (⟨h1, h2⟩ | h)
      · by_cases hkz : k < z
        · exact .inl ⟨hkz, fun e => h2 ((HOO.out k).2 (.inr (.inr (.inl e))))⟩
        · by_cases hkW : k < W.heap.size
          · by_cases hkM : M k
            · exact .inr (.inl hkM)
            · exact absurd ((HOO.out k).2 (.inr (.inr (.inr ⟨by omega, hkW, hkM⟩)))) h2
          · exact .inr (.inr (.inl ⟨by omega, h1⟩))
      · exact .inr (.inr (.inr h)))
    have HK6 := Lib.hid (show ∀ j, j = g6 ∨ j = g7 → ¬ KeepM OO w2.heap.size Ma j from by
      rintro j hj (⟨-, h2⟩ | h)
      · exact h2 ((HOO.out j).2 (by rcases hj with h | h; exact .inl h; exact .inr (.inl h)))
      · have := (HMa.out j h).1; omega)
    rintro e B (⟨rfl, hJB, hS⟩ | ⟨rfl, ⟨pre', hP', hJB⟩, hS⟩)
    · have HS := Lib.hid hS
      have HJB := Lib.hid hJB
      have hin : ∀ k, (M k ∨ (W.heap.size ≤ k ∧ k < w2.heap.size + 2)) → k ≠ g6 → B.heap[k]? = W'.heap[k]? := fun k hk hne => (hS.block k (.inr (by rcases hk with h | h; exact .inl h; exact .inr (.inl h)))).trans (Below.heap_setCell _ _ _ _ (by dsimp only; exact hne))
      have HFB := Lib.hid (show FillAt B b p c yb cb fb l from ⟨(hin _ (.inl HMF.out.1) (by omega)).trans J1.out.y, (hin _ (.inl HMF.out.2.1) (by omega)).trans J1.out.c, (hin _ (.inl HMF.out.2.2) (by omega)).trans J1.out.f⟩)
      have HK5 := Lib.hid ((hin _ (.inr ⟨by omega, by omega⟩) (by omega)).trans J2.out)
      have HK6' := Lib.hid ((hS.block _ (.inr (.inr (.inl ⟨by omega, by omega⟩)))).trans (J3.out.set 0 (.int .i64 x)))
      have HK7 := Lib.hid ((hin _ (.inr ⟨by omega, by omega⟩) (by omega)).trans J4.out)
      have hzB := hS.size
      rw [World.size_setCell] at hzB
      clear hS hJB hin s0 t0 t1 t2 f0 f1 f2 y0 l5' l6' l7' lf
      gi_wp2_with fail
      refine ⟨(SpareM.setCell W' (HK6.out _ (.inl rfl)) _ _).trans (HS.out.imp HKP.out), ?_, HFB.out, HK5.out, ⟨x, HK6'.out⟩, HK7.out, by omega, J6.out, ?_⟩
      · rw [List.flatMap_append, List.flatMap_cons, List.flatMap_nil, List.append_nil, ← List.append_assoc]
        exact HJB.out
      · exact (J7.out.trans (SpareM.setCell W' (fun h => by have := HKW.out _ h; omega) _ _)).trans (HS.out.imp (fun k h => h.imp id .inl))
    · have HS := Lib.hid hS
      have HJB := Lib.hid hJB
      have HP' := Lib.hid hP'
      have HK7 := Lib.hid (show Blk B g7 4 #[.bool false] from (hS.block _ (.inr (.inr (.inl ⟨by omega, by omega⟩)))).trans ((Below.heap_setCell W' ⟨g6, 0, none⟩ (.int .i64 x) _ (by dsimp only; omega)).trans J4.out))
      have hzB := hS.size
      rw [World.size_setCell] at hzB
      clear hS hJB hP' s0 t0 t1 t2 f0 f1 f2 y0 l5' l6' l7' lf
      have d0 := Blk.c1 HK7.out
      have f0 := HK7.out.frozen 0
      have l7 := HK7.out.lt
      gi_wp2_with fail
      refine ⟨((SpareM.setCell W' (HK6.out _ (.inl rfl)) _ _).trans (HS.out.imp HKP.out)).trans (SpareM.setCell _ (HK6.out _ (.inr rfl)) _ _), rfl, ⟨_, HP'.out, ?_⟩, by simpa using HK7.out.set 0 (.bool false), by rw [World.size_setCell]; omega, J6.out, ?_⟩
      · exact HJx.out _ _ _ _ _ HJB.out (PrivM.setCell _ (.inl (.inr (.inl ⟨by omega, by omega⟩))) _ _) (fun k h => .inl h)
      · exact ((J7.out.trans (SpareM.setCell W' (fun h => by have := HKW.out _ h; omega) _ _)).trans (HS.out.imp (fun k h => h.imp id .inl))).trans (SpareM.setCell _ (fun h => by have := HKW.out _ h; omega) _ _)
  case hdone =>
    rintro D xs W' rfl hz rfl ⟨j0, j1, j2, ⟨u, j3⟩, j4, j5, j6, j7⟩ hD'
    have J0 := Lib.hid j0
    have J4 := Lib.hid j4
    have J7 := Lib.hid j7
    have HD := Lib.hid hD'
    have c0 := Blk.c1 j4
    have f0 := j4.frozen 0
    have l7' := j4.lt
    clear j0 j1 j2 j3 j4 j6 j7 hseq hD'
    gi_wp2_with fail
    go_wp2_with fail
    have hG : Blk (W'.setCell ⟨g7, 0, none⟩ (.bool true)) g7 4 #[.bool true] := by simpa using J4.out.set 0 (.bool true)
    have hDG : (W'.setCell ⟨g7, 0, none⟩ (.bool true)).heap[w2.heap.size]? = some (.deferred (some [])) := (Below.heap_setCell _ _ _ _ (by dsimp only; omega)).trans HD.out
    have hJG := HJ.out _ (fun k => M k ∨ (W.heap.size ≤ k ∧ k < w2.heap.size + 2)) _ _ _ J0.out (PrivM.setCell (M := fun k => (M k ∨ (W.heap.size ≤ k ∧ k < w2.heap.size + 2) ∨ False) ∨ False) W' (b := g7) (.inl (.inr (.inl ⟨by omega, by omega⟩))) 0 (.bool true)) (by rintro k (h | h); exact .inl (.inl h); exact .inl (.inr (.inl h)))
    have hSG := J7.out.trans (SpareM.setCell W' (b := g7) (fun h => by have := HKW.out _ h; omega) 0 (.bool true))
    generalize W'.setCell ⟨g7, 0, none⟩ (.bool true) = F at *
    refine ⟨by simp, .inl ⟨_, _, rfl, run_takeDeferred hDG, ?_⟩⟩
    have hH : Blk (F.putObj w2.heap.size (.deferred none)) g7 4 #[.bool true] := (World.putObj_heap_other (by omega)).trans hG
    have t0 := Blk.c1 hH
    refine ⟨.bool true, ?_, .inl ⟨rfl, ?_, ?_⟩⟩
    · simp [results, Try.results119, go_sem, t0]
    · exact HJ.out _ _ _ _ _ hJG (PrivM.putObj _ (.inl (.inr ⟨by omega, by omega⟩)) _) (fun k h => .inl (.inl h))
    · exact hSG.trans (SpareM.putObj _ (fun h => by have := HKW.out _ h; omega) _)
  case hstop =>
    rintro D cc pre W' rfl hz hSp ⟨rfl, ⟨pre', j0, j1⟩, j4, j5, j6, j7⟩ hD'
    have J0 := Lib.hid j0
    have J1 := Lib.hid j1
    have J4 := Lib.hid j4
    have J7 := Lib.hid j7
    have HD := Lib.hid hD'
    clear j0 j1 j4 j6 j7 hseq hD'
    gi_wp2_with fail
    refine ⟨by simp, .inl ⟨_, _, rfl, run_takeDeferred HD.out, ?_⟩⟩
    have hH : Blk (W'.putObj w2.heap.size (.deferred none)) g7 4 #[.bool false] := (World.putObj_heap_other (by omega)).trans J4.out
    have t0 := Blk.c1 hH
    refine ⟨.bool false, ?_, .inr ⟨rfl, ⟨_, J0.out, ?_⟩, ?_⟩⟩
    · simp [results, Try.results119, go_sem, t0]
    · exact HJx.out _ _ _ _ _ J1.out (PrivM.putObj _ (.inl (.inr (.inl ⟨by omega, by omega⟩))) _) (fun k h => .inl (.inl h))
    · exact J7.out.trans (SpareM.putObj _ (fun h => by have := HKW.out _ h; omega) _)
end Go.Proofs.Ytpiadbdkiibdbaa

