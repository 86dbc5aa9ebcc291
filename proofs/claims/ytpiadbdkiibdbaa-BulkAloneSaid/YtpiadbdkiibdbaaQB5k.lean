/- Contracts of package bulk: the ends of the loads of a lot. Written by gen_b5k.py. -/
import Derived.Test.YtpiadbdkiibdbaaQB5i
import Derived.Test.YtpiadbdkiibdbaaQMp
import Derived.Lib.MinMax
set_option linter.unusedSimpArgs false
set_option linter.unusedVariables false
namespace Go.Proofs.Ytpiadbdkiibdbaa
open Go Go.RowKit Go.Shelf
attribute [local go_sem] Oper.semAt_some frozen_alloc_lt
/-- The least, the greatest of what is told of loads. -/
def lsF (f : Int × Int → Int) (l : List (Int × Int)) : Int := l.foldl (fun a x => min a (f x)) 400
def gtF (f : Int × Int → Int) (l : List (Int × Int)) : Int := l.foldl (fun a x => max a (f x)) 0
theorem lsF_snoc (f : Int × Int → Int) (l : List (Int × Int)) (x : Int × Int) : lsF f (l ++ [x]) = min (lsF f l) (f x) := by simp [lsF]
theorem gtF_snoc (f : Int × Int → Int) (l : List (Int × Int)) (x : Int × Int) : gtF f (l ++ [x]) = max (gtF f l) (f x) := by simp [gtF]
theorem lsF_bd (f : Int × Int → Int) : ∀ (l : List (Int × Int)) (a : Int), 0 ≤ a → a ≤ 400 → (∀ x ∈ l, 0 ≤ f x) → 0 ≤ l.foldl (fun a x => min a (f x)) a ∧ l.foldl (fun a x => min a (f x)) a ≤ 400
  | [], a, h0, h1, _ => ⟨h0, h1⟩
  | x :: l, a, h0, h1, h => lsF_bd f l (min a (f x)) (by have := h x (by simp); omega) (by omega) (fun y hy => h y (by simp [hy]))
theorem gtF_bd (f : Int × Int → Int) : ∀ (l : List (Int × Int)) (a : Int), 0 ≤ a → a ≤ 400 → (∀ x ∈ l, f x ≤ 400) → 0 ≤ l.foldl (fun a x => max a (f x)) a ∧ l.foldl (fun a x => max a (f x)) a ≤ 400
  | [], a, h0, h1, _ => ⟨h0, h1⟩
  | x :: l, a, h0, h1, h => gtF_bd f l (max a (f x)) (by omega) (by have := h x (by simp); omega) (fun y hy => h y (by simp [hy]))
theorem key_load : Key2 Try.prog 116 :=
  Key2.of (I := 3) (Maps.Keyed.of_law (deep_law_gate (by kernel_rfl) (Nat.le_of_ble_eq_true (by kernel_rfl)) (Nat.le_of_ble_eq_true (by kernel_rfl)) (by kernel_rfl) (by kernel_rfl)))
    (Try.underlying116) rfl rfl rfl rfl (by kernel_rfl) (by kernel_rfl) (Try.underlying3) (by kernel_rfl) (by kernel_rfl) (by kernel_rfl) (m := Try.prog.types.size - 1) (by kernel_rfl)
theorem Blk.setB2 {w : World} {g : Nat} {t : TypeId} {a0 a1 : Value} (k : Blk w g t #[a0, a1]) (v0 v1 : Value) : Blk ((w.setCell ⟨g, 0, none⟩ v0).setCell ⟨g, 1, none⟩ v1) g t #[v0, v1] := by
  simpa using (k.set 0 v0).set 1 v1
theorem below_grownB {A B : World} {n b : Nat} (h : A.grownBy B (some b)) (hn : n ≤ A.heap.size) (hb : n ≤ b) : Below n A B := ⟨h.os, h.tape, h.output, h.size, fun k hk => h.block k (by omega) (fun e => by simp at e; omega)⟩
/-- The two ends of a lot's loads. -/
def endsOf (l : List (Int × Int)) : List (Int × Int) := [(gtF Prod.fst l, gtF Prod.snd l), (lsF Prod.fst l, lsF Prod.snd l)]
set_option maxRecDepth 100000 in
set_option maxHeartbeats 8000000 in
theorem ends_any (b : Ck) (p : Option Addr) (c : Nat) (m : Ms) (t : Lt) (w : World) (hm : MsOK m) (ht : LtOK b t) (hin : ∀ l ∈ loadsL b m t, (0 ≤ l.1 ∧ l.1 ≤ 400) ∧ 0 ≤ l.2 ∧ l.2 ≤ 400) :
    Calls Try.prog 127 #[stV b p c m, ltV t] w fun e w' => ∃ g : Nat, e = .returned (.map (some g)) ∧ w.heap.size ≤ g ∧ MapAt Try.prog 116 w' g 2 (setF (endsOf (loadsL b m t))) ∧ ∃ x, w' = ext w x := by
  refine (callsIn_wide (n := 9)).1 ?_
  have HIN := Lib.hid hin
  clear hin
  refine callsIn_of_wp_marks Try.func127 rfl trivial ?_ rfl
  simp only [Try.ntmps127, List.size_toArray, List.length_cons, List.length_nil, Nat.reduceAdd, Nat.reduceSub, Array.replicate_succ, Array.replicate_zero, List.push_toArray, List.append_toArray, List.nil_append, List.cons_append]
  refine wpIn_wide.2 ?_
  unfold stV ltV
  go_upto_region 2 with fail
  generalize hW0 : World.alloc _ _ = W0
  have hB0 : Below w.heap.size w W0 := by rw [← hW0]; (exact belA)
  have hz0 : W0.heap.size = w.heap.size + 4 := by rw [← hW0]; simp
  have k1 : Blk W0 w.heap.size 113 (stcs b p c m) := by rw [← hW0]; exact (((Blk.new rfl).alloc _).alloc _).alloc _
  have k2 : Blk W0 (w.heap.size + 1) 62 (ltcs t) := by rw [← hW0]; exact ((Blk.new (by simp)).alloc _).alloc _
  have k3 : Blk W0 (w.heap.size + 1 + 1) 116 #[.int .i64 400, .int .i64 400] := by rw [← hW0]; exact (Blk.new (by simp)).alloc _
  have k4 : Blk W0 (w.heap.size + 1 + 1 + 1) 116 #[.int .i64 0, .int .i64 0] := by rw [← hW0]; exact Blk.new (by simp)
  have o3 : w.heap.size < w.heap.size + 1 := by omega
  have o5 : w.heap.size + 1 < w.heap.size + 1 + 1 := by omega
  have o6 : w.heap.size + 1 + 1 < w.heap.size + 1 + 1 + 1 := by omega
  have o7 : w.heap.size + 1 + 1 + 1 < W0.heap.size := by omega
  have HB0 := Lib.hid hB0
  have K3 := Lib.hid k3
  have K4 := Lib.hid k4
  clear hW0 hB0 k3 k4 hz0
  generalize w.heap.size + 1 + 1 + 1 = g6 at *
  generalize w.heap.size + 1 + 1 = g5 at *
  generalize w.heap.size + 1 = g3 at *
  unfold stcs at k1
  unfold ltcs at k2
  obtain ⟨s0, s1, s2, s3, s4, s5, s6, s7, s8, s9, s10, s11, s12⟩ := Blk.c13 k1
  obtain ⟨t0, t1, t2, t3, t4⟩ := Blk.c5 k2
  have ls := k1.lt
  have lt := k2.lt
  clear k1 k2
  go_wp2_with (go_at_call 132; refine (loads_any b p c m t _).mono ?_; rintro e w2 ⟨gs, gl, rfl, hge, ks, kl, y, hw⟩; have HB2 := Lib.hid (show Below W0.heap.size W0 w2 by rw [hw]; (exact belA)); have KS := Lib.hid ks; have KL := Lib.hid kl; have HGE := Lib.hid hge; clear hw ks kl hge)
  clear s0 s1 s2 s3 s4 s5 s6 s7 s8 s9 s10 s11 s12 ls t0 t1 t2 t3 t4 lt
  have hsz : W0.heap.size ≤ w2.heap.size := HB2.out.size
  have HB3 := Lib.hid (HB0.out.trans (HB2.out.mono HB0.out.size))
  have K3' := Lib.hid (K3.out.bel HB2.out)
  have K4' := Lib.hid (K4.out.bel HB2.out)
  have hseq := loads1_in b p c m t gs gl (fun j => (j = g5 ∨ j = g6) ∨ j = w2.heap.size + 1) w2 KS.out KL.out (fun j hj => by
    have h1 := HGE.out; have h3 := KS.out.lt; have h4 := KL.out.lt
    rcases hj with (rfl | rfl) | rfl <;> exact ⟨by omega, by omega⟩) hm ht.er ht.tl ht.ws
  refine (wpIn_wide (n := 9)).1 ?_
  refine wpIn_rangeFunc_0 (gf := 133) (fb := #[]) (lb := #[.pointer (some ⟨gs, 0, none⟩), .pointer (some ⟨gl, 0, none⟩)]) rfl (enters_of Try.func133 (by kernel_rfl) rfl)
    (fun j => j = g5 ∨ j = g6) (fun j hj => by rcases hj with rfl | rfl <;> omega) hseq (Below.refl _ _) (fun _ => rfl)
    (fun pre A => Below w.heap.size w A ∧ Blk A g5 116 #[.int .i64 (lsF Prod.fst pre), .int .i64 (lsF Prod.snd pre)] ∧ Blk A g6 116 #[.int .i64 (gtF Prod.fst pre), .int .i64 (gtF Prod.snd pre)])
    (fun cc pre A => False)
    (fun pre x a' A => ∃ gT : Nat, w2.heap.size + 2 ≤ gT ∧ Blk A gT 116 #[.int .i64 x.1, .int .i64 x.2] ∧ a' = { tmps := #[.agg #[.int .i64 b.l0, .int .i64 b.u0, .int .i64 b.l1, .int .i64 b.u1, .int .i64 b.l2, .int .i64 b.u2, .int .i64 b.e0, .int .i64 b.e1, .int .i64 b.e2, .slice p b.ls.length c, .int .i64 m.a, .int .i64 m.b, .int .i64 m.c], .agg #[.int .i64 t.t0, .int .i64 t.t1, .int .i64 t.t2, .int .i64 t.wl, .int .i64 t.wh], .pointer (some ⟨w.heap.size, 0, none⟩), .pointer (some ⟨g3, 0, none⟩), .map none, .pointer (some ⟨g5, 0, none⟩), .pointer (some ⟨g6, 0, none⟩), .pointer (some ⟨gT, 0, none⟩), undef, .agg #[.int .i64 400, .int .i64 400], .agg #[.int .i64 0, .int .i64 0], .agg #[.int .i64 b.l0, .int .i64 b.u0, .int .i64 b.l1, .int .i64 b.u1, .int .i64 b.l2, .int .i64 b.u2, .int .i64 b.e0, .int .i64 b.e1, .int .i64 b.e2, .slice p b.ls.length c, .int .i64 m.a, .int .i64 m.b, .int .i64 m.c], .agg #[.int .i64 t.t0, .int .i64 t.t1, .int .i64 t.t2, .int .i64 t.wl, .int .i64 t.wh], .func (.func 133) #[] #[.pointer (some ⟨gs, 0, none⟩), .pointer (some ⟨gl, 0, none⟩)], .agg #[.int .i64 x.1, .int .i64 x.2], undef, undef, undef, undef, undef, undef, undef, undef, undef, undef, undef, undef, undef, undef, undef, undef, undef, undef, undef, undef, undef, undef, undef, undef, undef, undef, undef, undef], defers := [] })
    ?hI ?hIx ?hAx ?h0 ?hassign ?hbody ?hdone ?hstop
  case hI =>
    rintro pre A C ⟨j0, j1, j2⟩ hz hp
    exact ⟨j0.trans (hp.mono (by omega)), (hp.block _ (by omega)).trans j1, (hp.block _ (by omega)).trans j2⟩
  case hIx => rintro cc pre A C h; exact h.elim
  case hAx =>
    rintro pre x a' A C ⟨g, h1, h2, rfl⟩ hp
    exact ⟨g, h1, (hp.block _ h2.lt (by omega)).trans h2, rfl⟩
  case h0 =>
    intro W6 hb6
    exact ⟨HB3.out.trans (hb6.mono (by omega)), (hb6.block _ (by omega)).trans K3'.out, (hb6.block _ (by omega)).trans K4'.out⟩
  case hassign =>
    intro mm l' pre z W' hz hsp hi'
    clear hseq
    dsimp only [encL, ldV]
    gi_wp2_with fail
    exact ⟨⟨W'.heap.size, hz, Blk.new rfl, rfl⟩, by (exact belA)⟩
  case hbody =>
    rintro mm l' pre x a' W' hz hpx ⟨j0, j1, j2⟩ ⟨gT, hgz, hbg, rfl⟩
    have e1 := lsF_snoc Prod.fst pre x
    have e2 := lsF_snoc Prod.snd pre x
    have e3 := gtF_snoc Prod.fst pre x
    have e4 := gtF_snoc Prod.snd pre x
    generalize lsF Prod.fst pre = a1 at *
    generalize lsF Prod.snd pre = a2 at *
    generalize gtF Prod.fst pre = a3 at *
    generalize gtF Prod.snd pre = a4 at *
    have J0 := Lib.hid j0
    have J1 := Lib.hid j1
    have J2 := Lib.hid j2
    have E1 := Lib.hid e1
    have E2 := Lib.hid e2
    have E3 := Lib.hid e3
    have E4 := Lib.hid e4
    obtain ⟨c0, c1⟩ := Blk.c2 j1
    obtain ⟨f0, f1⟩ := Blk.f2 j1
    obtain ⟨d0, d1⟩ := Blk.c2 j2
    obtain ⟨h0, h1⟩ := Blk.f2 j2
    obtain ⟨k0, k1⟩ := Blk.c2 hbg
    have l1 := j1.lt
    have l2 := j2.lt
    have l3 := hbg.lt
    clear j0 j1 j2 hbg hseq hpx e1 e2 e3 e4
    gi_wp2_with fail
    refine ⟨(((PrivM.setCell (M := fun j => j = g5 ∨ j = g6) _ (.inl rfl) _ _).trans (PrivM.setCell _ (.inl rfl) _ _)).trans (PrivM.setCell _ (.inr rfl) _ _)).trans (PrivM.setCell _ (.inr rfl) _ _), (((J0.out.setCell (by dsimp only; omega) _).setCell (by dsimp only; omega) _).setCell (by dsimp only; omega) _).setCell (by dsimp only; omega) _, ?_, ?_⟩
    · rw [E1.out, E2.out]
      exact ((J1.out.setB2 _ _).setOther (by omega) _ _).setOther (by omega) _ _
    · rw [E3.out, E4.out]
      exact ((J2.out.setOther (by omega) _ _).setOther (by omega) _ _).setB2 _ _
  case hdone =>
    rintro D xs W' rfl hz rfl ⟨j0, j1, j2⟩ hp hD'
    have J0 := Lib.hid j0
    have J1 := Lib.hid j1
    have J2 := Lib.hid j2
    have HD := Lib.hid hD'
    clear j0 j1 j2 hp hseq hD'
    have hM0 := MapAt.new Try.prog 116 W'
    have hs1 := Blk.lt J1.out
    have hs2 := Blk.lt J2.out
    have hs3 : w2.heap.size < W'.heap.size := by omega
    obtain ⟨x1, hx1⟩ : ∃ x, lsF Prod.fst (loadsL b m t) = x := ⟨_, rfl⟩
    obtain ⟨x2, hx2⟩ : ∃ x, lsF Prod.snd (loadsL b m t) = x := ⟨_, rfl⟩
    obtain ⟨x3, hx3⟩ : ∃ x, gtF Prod.fst (loadsL b m t) = x := ⟨_, rfl⟩
    obtain ⟨x4, hx4⟩ : ∃ x, gtF Prod.snd (loadsL b m t) = x := ⟨_, rfl⟩
    have b1 : 0 ≤ x1 ∧ x1 ≤ 400 := hx1 ▸ lsF_bd _ _ _ (by omega) (by omega) (fun y hy => (HIN.out y hy).1.1)
    have b2 : 0 ≤ x2 ∧ x2 ≤ 400 := hx2 ▸ lsF_bd _ _ _ (by omega) (by omega) (fun y hy => (HIN.out y hy).2.1)
    have b3 : 0 ≤ x3 ∧ x3 ≤ 400 := hx3 ▸ gtF_bd _ _ _ (by omega) (by omega) (fun y hy => (HIN.out y hy).1.2)
    have b4 : 0 ≤ x4 ∧ x4 ≤ 400 := hx4 ▸ gtF_bd _ _ _ (by omega) (by omega) (fun y hy => (HIN.out y hy).2.2)
    rw [hx1, hx2] at J1
    rw [hx3, hx4] at J2
    have HEO := Lib.hid (show endsOf (loadsL b m t) = [(x3, x4), (x1, x2)] by unfold endsOf; rw [hx1, hx2, hx3, hx4])
    clear hx1 hx2 hx3 hx4
    obtain ⟨w3, hst3, hm3, hg3⟩ := hM0.store key_load Try.underlying144 (by unfold maxLen; omega) (inI (a := x1) (by omega) (by omega)) (inI (a := x2) (by omega) (by omega)) (.bool true)
    obtain ⟨w4, hst4, hm4, hg4⟩ := hm3.store key_load Try.underlying144 (by unfold maxLen; omega) (inI (a := x3) (by omega) (by omega)) (inI (a := x4) (by omega) (by omega)) (.bool true)
    unfold key2 at hst3 hst4
    have hsA : (W'.alloc (.map #[] 0)).heap.size = W'.heap.size + 1 := by simp
    have hs4 := hg3.size
    have HM := Lib.hid (show MapAt Try.prog 116 w4 W'.heap.size 2 (setF (endsOf (loadsL b m t))) by
      rw [HEO.out]
      have h := hm4
      rw [show (fun (_ _ : Int) => (none : Option Value)) = setF [] from setF_nil.symm, setF_upd, setF_upd] at h
      exact h)
    have HB4 := Lib.hid (show Below w.heap.size w w4 from
      ((J0.out.alloc J0.out.size _).trans (below_grownB hg3 (by have := J0.out.size; omega) J0.out.size)).trans (below_grownB hg4 (by have := J0.out.size; omega) J0.out.size))
    have kA1 : Blk (W'.alloc (.map #[] 0)) g5 116 #[.int .i64 x1, .int .i64 x2] := J1.out.alloc _
    have k31 : Blk w3 g6 116 #[.int .i64 x3, .int .i64 x4] := (hg3.block _ (by omega) (by simp; omega)).trans (J2.out.alloc _)
    have HD4 := Lib.hid (show w4.heap[w2.heap.size]? = some (.deferred (some [])) from
      (hg4.block _ (by omega) (by simp; omega)).trans ((hg3.block _ (by omega) (by simp; omega)).trans ((heap_alloc_old W' _ (by omega)).trans HD.out)))
    obtain ⟨c0, c1⟩ := Blk.c2 kA1
    obtain ⟨d0, d1⟩ := Blk.c2 k31
    have la := kA1.lt
    have lb := k31.lt
    have HG := Lib.hid J0.out.size
    have hmm := @run_makeMap Try.prog
    clear hm3 hm4 hg3 hg4 hM0 kA1 k31
    gi_wp2_with fail
    go_wp2_with fail
    refine ⟨by simp, .inl ⟨_, _, rfl, run_takeDeferred HD4.out, ?_⟩⟩
    refine ⟨.map (some W'.heap.size), ?_, W'.heap.size, rfl, HG.out, MapAt.of_heap HM.out (World.putObj_heap_other (by omega)), ext_of ?_⟩
    · simp [results, Try.results127, go_sem]
    · exact HB4.out.trans (below_putObj _ (by omega) _)
  case hstop =>
    rintro D cc pre W' rfl hz hSp h hp hD'
    exact h.elim
end Go.Proofs.Ytpiadbdkiibdbaa

