/- Contracts of package bulk: the fewest counts without which there is a truth. Written by gen_b5zd.py. -/
import Derived.Test.YtpiadbdkiibdbaaQB5zc
import Derived.Maps.OwnIn
set_option linter.unusedSimpArgs false
set_option linter.unusedVariables false
namespace Go.Proofs.Ytpiadbdkiibdbaa
open Go Go.RowKit Go.Shelf Go.Maps
theorem info_nums : (Try.prog.info? 43).map (fun i => (i.zero, i.size, i.bytes)) = some (some (.slice none 0 0), 1, 24) := by kernel_rfl
theorem under_rows : Try.prog.underlying 121 = some (.slice 43) := by kernel_rfl
/-- A slice of slices of a call's own. -/
def OwnVs (w : World) (B : Nat) (v : Value) (l : List Value) : Prop := w.ownsRow B 43 1 v l.length l
theorem OwnVs.kept {w w' : World} {B : Nat} {v : Value} {l : List Value} (h : OwnVs w B v l) (hb : ∀ g, v.ownBlock = some g → w'.heap[g]? = w.heap[g]?) : OwnVs w' B v l := by
  obtain ⟨h1, h2⟩ := h
  refine ⟨h1, ?_⟩
  rcases h2 with h2 | ⟨g, cap, cur, rfl, hg, hh, r⟩
  · exact .inl h2
  · exact .inr ⟨g, cap, cur, rfl, hg, (hb g rfl).trans hh, r⟩
theorem OwnVs.lt {w : World} {B : Nat} {v : Value} {l : List Value} (h : OwnVs w B v l) : ∀ g, v.ownBlock = some g → B ≤ g ∧ g < w.heap.size := World.ownsRow.lt h
theorem OwnVs.form {w : World} {B : Nat} {v : Value} {l : List Value} (h : OwnVs w B v l) : ∃ p c, v = .slice p l.length c := by
  obtain ⟨h1, h2⟩ := h
  rcases h2 with ⟨h2, h3⟩ | ⟨g, cap, cur, rfl, hg, hh, r⟩
  · exact ⟨none, 0, by rw [h2, h3]⟩
  · exact ⟨_, cap, rfl⟩
theorem OwnVs.nil (w : World) (B : Nat) : OwnVs w B (.slice none 0 0) [] := World.ownsRow_nil _ _ _ _
/-- A list stays where only a call's deferred lists turn. -/
theorem ListAt.leave {B n0 : Nat} {Ds : List Nat} {w w' : World} {v : Value} {l : List Int} (h : ListAt B w v l) (hD : Defs n0 Ds w) (hz : w'.heap.size = w.heap.size) (hk : ∀ k, k ∉ Ds → w'.heap[k]? = w.heap[k]?) : ListAt B w' v l := by
  obtain ⟨p, c, h1, h2, h3, h4, h5, h6⟩ := h
  refine ⟨p, c, h1, fun i x hi => ?_, h3, h4, h5, by omega⟩
  obtain ⟨b, o, e1, e2, e3⟩ := h2 i x hi
  refine ⟨b, o, e1, by omega, ?_⟩
  have hne : b ∉ Ds := by
    intro hb
    have e4 := hD.is b hb
    simp [World.cell?, e4] at e3
  rw [World.cell?_of_block (a := ⟨b, o + i, none⟩) (hk b hne)]
  exact e3
theorem ListAt.kept {B : Nat} {w w' : World} {v : Value} {l : List Int} (h : ListAt B w v l) (hz : w.heap.size ≤ w'.heap.size) (hk : ∀ a n k, v = .slice (some a) n k → w'.heap[a.block]? = w.heap[a.block]?) : ListAt B w' v l := by
  obtain ⟨p, c, h1, h2, h3, h4, h5, h6⟩ := h
  refine ⟨p, c, h1, fun i x hi => ?_, h3, h4, h5, by omega⟩
  obtain ⟨b, o, e1, e2, e3⟩ := h2 i x hi
  refine ⟨b, o, e1, by omega, ?_⟩
  rw [World.cell?_of_block (a := ⟨b, o + i, none⟩) (hk ⟨b, o, none⟩ _ _ (by rw [h1, e1]))]
  exact e3
attribute [local go_sem] Oper.semAt_some frozen_alloc_lt
set_option maxRecDepth 100000 in
set_option maxHeartbeats 8000000 in
theorem storesF (b : Ck) (p : Option Addr) (c : Nat) (O : Nat → Prop) (w : World) (hv : HoldsOK b) :
    SeqF Try.prog 101 #[ckV b p c] #[] (encM b p c) O (fun xs => xs = storesL b) (fun pre => pre <+: storesL b) w := by
  intro n l J Jx W hW hOW hJ hJx hY h0
  have HV := Lib.hid hv
  have HJ := Lib.hid hJ
  have HJx := Lib.hid hJx
  have HY := Lib.hid hY
  have HO := Lib.hid hOW
  have H0 := Lib.hid h0
  clear hJ hJx hY hOW h0 hv hW
  unfold ckV
  simp only [List.push_toArray, List.append_toArray, List.nil_append, List.cons_append]
  refine callsIn_of_wp Try.func101 rfl trivial ?_ rfl
  simp only [Try.ntmps101, List.size_toArray, List.length_cons, List.length_nil, Nat.reduceAdd, Nat.reduceSub, Array.replicate_succ, Array.replicate_zero, List.push_toArray, List.append_toArray, List.nil_append, List.cons_append]
  refine wpIn_wide.2 ?_
  go_upto_region 3 with fail
  generalize hV : World.alloc _ _ = V
  have hBV : Below W.heap.size W V := by rw [← hV]; (exact belA)
  have hF : FillAt V b p c (W.heap.size + 1) W.heap.size (W.heap.size + 1 + 1) l := by
    rw [← hV]
    exact ⟨(Blk.new (by simp)).alloc _, ((Blk.new rfl).alloc _).alloc _, Blk.new (by simp)⟩
  have f0 := Blk.c1 hF.f
  have lf := hF.f.lt
  have HBV := Lib.hid hBV
  have HF := Lib.hid hF
  have hz := hBV.size
  have HJV := Lib.hid (HJ.out _ (fun k => W.heap.size ≤ k ∧ k < W.heap.size + 3) _ _ _ H0.out (PrivM.of_below hBV) (fun k h => .inr h.1))
  clear hV hBV hF
  refine (wpIn_wide (n := n)).1 ?_
  gi_wp2_with fail
  gi_at_call 119
  refine (fillF_0 b p c (W.heap.size + 1) W.heap.size (W.heap.size + 1 + 1) l _ W.heap.size O (fun k => W.heap.size ≤ k ∧ k < W.heap.size + 3) J Jx (storesL b) [] ⟨0, 0, 0⟩ _ hz HJ.out HJx.out HY.out HO.out (fun k h => ⟨h.1, by omega⟩) HF.out ⟨⟨by omega, by omega⟩, ⟨by omega, by omega⟩, ⟨by omega, by omega⟩⟩ HV.out (by rw [List.nil_append, fillR_three]; exact List.prefix_refl _) HJV.out).mono ?_
  rintro e B (⟨rfl, hJB, hS⟩ | ⟨rfl, ⟨pre', hP, hJB⟩, hS⟩)
  · rw [List.nil_append, fillR_three] at hJB
    have hzB := Nat.le_trans hz hS.size
    have HJB := Lib.hid (HJ.out _ (fun _ => False) _ _ _ hJB (PrivM.refl _ _) (fun k h => h.elim))
    clear hJB hS
    gi_wp2_with fail
    go_end0
    exact ⟨⟨_, rfl⟩, hzB, .inl ⟨_, rfl, HJB.out⟩⟩
  · have hzB := Nat.le_trans hz hS.size
    have HJB := Lib.hid (HJx.out _ (fun _ => False) _ _ _ hJB (PrivM.refl _ _) (fun k h => h.elim))
    have HP := Lib.hid hP
    clear hJB hS hP
    gi_wp2_with fail
    go_end0
    exact ⟨⟨_, rfl⟩, hzB, .inr ⟨_, HP.out, HJB.out⟩⟩
/-- The first list of the fewest counts without which there is a truth. -/
def wrongL (b : Ck) : List Int :=
  match storesL b with
  | [] => []
  | m :: l => bestOf (fcL b m) (l.map (fcL b))
section
variable {o : Oper} {w : World} {g t : Nat} (ρ : Operand → Value)
theorem run_lRows {x : Value} (hop : o.op = .load 121 (.tmp t)) (hs : ρ (.tmp t) = .pointer (some ⟨g, 0, none⟩)) (c0 : w.cell? ⟨g, 0, none⟩ = some x) : (execOp ρ o).run Try.prog w = .ok (.value x) w := by
  unfold execOp; simp [hop, hs, go_sem, c0]
theorem run_lStore {b : Ck} {p : Option Addr} {c : Nat} {m : Ms} (hop : o.op = .load 113 (.tmp t)) (hs : ρ (.tmp t) = .pointer (some ⟨g, 0, none⟩)) (k : Blk w g 113 (stcs b p c m)) : (execOp ρ o).run Try.prog w = .ok (.value (stV b p c m)) w := by
  unfold stcs at k
  obtain ⟨c0, c1, c2, c3, c4, c5, c6, c7, c8, c9, c10, c11, c12⟩ := Blk.c13 k
  unfold execOp stV; simp [hop, hs, go_sem, c0, c1, c2, c3, c4, c5, c6, c7, c8, c9, c10, c11, c12]
theorem run_bsRow {q : Option Addr} {n d : Nat} (hop : o.op = .buildSlice 121 1 #[(0, .tmp t)]) (h1 : ρ (.tmp t) = .slice q n d) : (execOp ρ o).run Try.prog w = .ok (.value (.slice (some ⟨w.heap.size, 0, none⟩) 1 1)) (w.alloc (.cells #[.slice q n d] 43)) := by
  unfold execOp; simp [hop, h1, go_sem]
end
/-- What the operations leave by which a list is put to the others. -/
def wrongR (b : Ck) (p : Option Addr) (c : Nat) (x : Ms) (v : Value) (B0 : Nat) (i : Nat) (u : Value) (w : World) : Prop :=
  match i with
  | 0 => u = v
  | 1 => u = stV b p c x
  | 2 => ∃ (q : Option Addr) (n d B : Nat), u = .slice q n d ∧ ListAt B w u (fcL b x) ∧ ∀ a, q = some a → B0 ≤ a.block
  | 3 => ∃ (g : Nat) (q : Option Addr) (n d B : Nat), u = .slice (some ⟨g, 0, none⟩) 1 1 ∧ B0 ≤ g ∧ Blk w g 43 #[.slice q n d] ∧ ListAt B w (.slice q n d) (fcL b x) ∧ ∀ a, q = some a → B0 ≤ a.block
  | _ => True
theorem wrongR_kept (b : Ck) (p : Option Addr) (c : Nat) (x : Ms) (v : Value) (B0 : Nat) : ∀ i, i < 4 → ∀ (u : Value) (w w' : World), wrongR b p c x v B0 i u w → Below w.heap.size w w' → wrongR b p c x v B0 i u w' := by
  intro i hi u w w' h hb
  match i, h with
  | 0, h => exact h
  | 1, h => exact h
  | 2, h => obtain ⟨q, n, d, B, h1, h2, h3⟩ := h; exact ⟨q, n, d, B, h1, h2.bel hb, h3⟩
  | 3, h => obtain ⟨g, q, n, d, B, h1, h2, h3, h4, h5⟩ := h; exact ⟨g, q, n, d, B, h1, h2, h3.bel hb, h4.bel hb, h5⟩
  | k + 4, h => trivial
/-- What is kept of the lists between two rounds: the slice of them, each of them, none in the iterator's own memory. -/
structure WrI (w : World) (b : Ck) (g3 n0 : Nat) (Ma : Nat → Prop) (pre : List Ms) (A : World) : Prop where
  low : Below w.heap.size w A
  z : n0 ≤ A.heap.size
  ma : ∀ k, Ma k → n0 ≤ k
  own : ∃ v xs, Blk A g3 121 #[v] ∧ OwnVs A n0 v xs ∧ (∀ g, v.ownBlock = some g → ¬ Ma g) ∧ xs.length = pre.length ∧ ∀ (i : Nat) (m : Ms) (u : Value), pre[i]? = some m → xs[i]? = some u → (∃ B, ListAt B A u (fcL b m)) ∧ ∀ a n k, u = .slice (some a) n k → ¬ Ma a.block ∧ n0 ≤ a.block ∧ v.ownBlock ≠ some a.block
theorem WrI.stable {w : World} {b : Ck} {g3 n0 r : Nat} {Ma Mb : Nat → Prop} {pre : List Ms} {A C : World} (h : WrI w b g3 n0 Ma pre A) (hw : w.heap.size ≤ g3) (hg : g3 < r) (hr : r < n0) (hp : PrivM (fun k => Ma k ∨ k = r) A C) (hb : ∀ k, Mb k → Ma k ∨ A.heap.size ≤ k) : WrI w b g3 n0 Mb pre C := by
  obtain ⟨low, z, ma, v, xs, h1, h2, h3, h4, h5⟩ := h
  have hno : ∀ k, k < A.heap.size → ¬ Ma k → k ≠ r → C.heap[k]? = A.heap[k]? := fun k hk hm hne => hp.block k hk (by rintro (h | h); exact hm h; exact hne h)
  refine ⟨⟨hp.os.trans low.os, hp.tape.trans low.tape, hp.output.trans low.output, Nat.le_trans low.size hp.size, fun k hk => (hno k (by omega) (fun hm => by have := ma k hm; omega) (by omega)).trans (low.block k hk)⟩, Nat.le_trans z hp.size, fun k hk => by rcases hb k hk with h | h; exact ma k h; omega, v, xs, (hno _ h1.lt (fun hm => by have := ma _ hm; omega) (by omega)).trans h1, ?_, ?_, h4, ?_⟩
  · exact h2.kept (fun g hg => hno g (h2.lt g hg).2 (h3 g hg) (by have := (h2.lt g hg).1; omega))
  · intro g hg hm
    rcases hb g hm with h | h
    · exact h3 g hg h
    · have := (h2.lt g hg).2; omega
  · intro i m u hi hu
    obtain ⟨⟨B, hl⟩, hn⟩ := h5 i m u hi hu
    have hlt : ∀ a n k, u = .slice (some a) n k → a.block < A.heap.size := fun a n k e => by
      obtain ⟨q, d, e1, -, -, e4, -, e6⟩ := hl
      rw [e] at e1
      cases e1
      have := (e4 a rfl).2
      omega
    refine ⟨⟨B, hl.kept hp.size (fun a n k e => hno _ (hlt a n k e) (hn a n k e).1 (by have := (hn a n k e).2.1; omega))⟩, fun a n k e => ⟨fun hm => ?_, (hn a n k e).2⟩⟩
    rcases hb _ hm with h | h
    · exact (hn a n k e).1 h
    · have := hlt a n k e; omega
set_option maxRecDepth 100000 in
set_option maxHeartbeats 8000000 in
theorem wrong_any (b : Ck) (p : Option Addr) (c : Nat) (w : World) (hv : HoldsOK b) (hb : BkOK b) (hcb : CB w b p) (hne : storesL b ≠ []) (hlen : (storesL b).length ≤ 1000) :
    Calls Try.prog 77 #[ckV b p c] w fun e w' => ∃ v, e = .returned v ∧ ListAt w'.heap.size w' v (wrongL b) ∧ ∃ x, w' = ext w x := by
  refine (callsIn_wide (n := 9)).1 ?_
  have HV := Lib.hid hv
  have HBO := Lib.hid hb
  have HCW := Lib.hid hcb
  have HNE := Lib.hid hne
  have HLEN := Lib.hid hlen
  clear hv hb hcb hne hlen
  unfold ckV
  refine callsIn_of_wp_marks Try.func77 rfl trivial ?_ rfl
  simp only [Try.ntmps77, List.size_toArray, List.length_cons, List.length_nil, Nat.reduceAdd, Nat.reduceSub, Array.replicate_succ, Array.replicate_zero, List.push_toArray, List.append_toArray, List.nil_append, List.cons_append]
  refine wpIn_wide.2 ?_
  go_upto_region 2 with fail
  generalize hV : World.alloc _ _ = V
  have hBV : Below w.heap.size w V := by rw [← hV]; (exact belA)
  have kc : Blk V w.heap.size 76 (ckcs b p c) := by rw [← hV]; exact (Blk.new rfl).alloc _
  have kl : Blk V (w.heap.size + 1) 121 #[.slice none 0 0] := by rw [← hV]; exact Blk.new (by simp)
  have HBV := Lib.hid hBV
  have KL := Lib.hid kl
  have HCV := Lib.hid (HCW.out.bel hBV)
  have lc := kc.lt
  have ll := kl.lt
  clear hV hBV kl
  unfold ckcs at kc
  have c0 := kc.cell 0
  have c1 := kc.cell 1
  have c2 := kc.cell 2
  have c3 := kc.cell 3
  have c4 := kc.cell 4
  have c5 := kc.cell 5
  have c6 := kc.cell 6
  have c7 := kc.cell 7
  have c8 := kc.cell 8
  have c9 := kc.cell 9
  simp only [List.size_toArray, List.length_cons, List.length_nil, Nat.reduceAdd, Nat.reduceLT, getElem?_pos, List.getElem_toArray, List.getElem_cons_zero, List.getElem_cons_succ] at c0 c1 c2 c3 c4 c5 c6 c7 c8 c9
  clear kc
  go_wp2_with fail
  clear c0 c1 c2 c3 c4 c5 c6 c7 c8 c9
  have hlow : ∀ a, p = some a → a.block < w.heap.size := HCW.out.lt
  have hseq := storesF b p c (fun j => j = w.heap.size + 1 ∨ j = V.heap.size + 1) V HV.out
  refine (wpIn_wide (n := 9)).1 ?_
  refine wpIn_rangeFunc_f (gf := 101) (fb := #[ckV b p c]) (lb := #[]) rfl (enters_of Try.func101 (by kernel_rfl) rfl)
    (fun j => j = w.heap.size + 1) (fun j hj => by omega) hseq (Below.refl _ _) (fun _ => rfl)
    (fun Ma pre A => WrI w b (w.heap.size + 1) (V.heap.size + 2) Ma pre A)
    (fun Ma cc pre A => False)
    (fun Ma pre x a' A => ∃ (gT : Nat) (u7 u8 u9 u10 u11 u12 u13 u14 : Value), V.heap.size + 2 ≤ gT ∧ ¬ Ma gT ∧ Blk A gT 113 (stcs b p c x) ∧ a' = { tmps := #[.agg #[.int .i64 b.l0, .int .i64 b.u0, .int .i64 b.l1, .int .i64 b.u1, .int .i64 b.l2, .int .i64 b.u2, .int .i64 b.e0, .int .i64 b.e1, .int .i64 b.e2, .slice p b.ls.length c], .pointer (some ⟨w.heap.size, 0, none⟩), .slice none 0 0, .pointer (some ⟨w.heap.size + 1, 0, none⟩), .pointer (some ⟨gT, 0, none⟩), .agg #[.int .i64 b.l0, .int .i64 b.u0, .int .i64 b.l1, .int .i64 b.u1, .int .i64 b.l2, .int .i64 b.u2, .int .i64 b.e0, .int .i64 b.e1, .int .i64 b.e2, .slice p b.ls.length c], .func (.func 101) #[ckV b p c] #[], u7, u8, u9, u10, u11, u12, u13, u14], defers := [] })
    ?hI ?hIx ?hAx ?h0 ?hassign ?hbody ?hdone ?hstop
  case hI =>
    intro Ma Mb pre A C h hp hb
    exact h.stable (by omega) (by omega) (by omega) hp hb
  case hIx => intro cc Ma Mb pre A C h; exact h.elim
  case hAx =>
    rintro Ma pre x a' A C ⟨gT, u7, u8, u9, u10, u11, u12, u13, u14, h1, hm, h2, rfl⟩ hp
    exact ⟨gT, u7, u8, u9, u10, u11, u12, u13, u14, h1, hm, (hp.block _ h2.lt (by rintro (h | h); exact hm h; omega)).trans h2, rfl⟩
  case h0 =>
    intro W6 hb6 hz6
    exact ⟨HBV.out.trans (hb6.mono (by omega)), by omega, fun k h => h.elim, _, [], (hb6.block _ (by omega)).trans KL.out, OwnVs.nil _ _, (fun g h => by cases h), rfl, fun i m u hi => by simp at hi⟩
  case hassign =>
    intro mm l' Ma pre x W' hMa hz hsp hi'
    have HI := Lib.hid hi'
    have HMa := Lib.hid hMa
    clear hseq hi' hMa
    dsimp only [encM, stV]
    gi_wp2_with fail
    exact ⟨HI.out.stable (r := w.heap.size + 2) (by omega) (by omega) (by have := HBV.out.size; omega) (PrivM.of_below belA) (fun k h => .inl h), ⟨W'.heap.size, _, _, _, _, _, _, _, _, hz, (fun h => by have := (HMa.out _ h).2; omega), Blk.new rfl, rfl⟩, by (exact belA)⟩
  case hbody =>
    rintro mm l' Ma pre x a' W' hl hMa hz hpx hI ⟨gT, u7, u8, u9, u10, u11, u12, u13, u14, hgz, hgM, hbg, rfl⟩
    obtain ⟨low, z, ma, v, xs, h1, h2, h3, h4, h5⟩ := hI
    obtain ⟨q0, d0, hform⟩ := h2.form
    subst hform
    obtain ⟨N, hN⟩ : ∃ N, xs.length = N := ⟨_, rfl⟩
    have HX := Lib.hid (show x ∈ storesL b from hpx.subset (by simp))
    have HM := Lib.hid (ms_ok HV.out HX.out)
    have HN4 : N < 1000 := by
      have e1 := hpx.length_le
      have e2 := HLEN.out
      rw [List.length_append, List.length_singleton] at e1
      omega
    have HLP := Lib.hid (show N = pre.length by omega)
    have LOW := Lib.hid low
    have H1 := Lib.hid h1
    have H2 := Lib.hid h2
    have H3 := Lib.hid h3
    have H5 := Lib.hid h5
    have HG := Lib.hid hbg
    have HMa := Lib.hid hMa
    have HN := Lib.hid hN
    have hn0 : V.heap.size + 2 ≤ W'.heap.size := hz
    rw [hN] at H1 H2 H3 H5
    clear low z ma h1 h2 h3 h4 h5 hbg hMa hN hl hseq hpx hgM
    have lg3 := H1.out.lt
    obtain ⟨i0, hi, hi0, hi1, hi2⟩ := info_parts info_nums
    gi_wp2_with fail
    refine wpIn_region_flow_back 4 15 (wrongR b p c x (.slice q0 N d0) W'.heap.size) (free_round l') rfl (by kernel_rfl) (by kernel_rfl) rfl (wrongR_kept _ _ _ _ _ _) ?_ ?_
    · intro i hin a X g1 g2 g3 g4 g5 KK hKK
      match i, hin with
      | 0, _ => exact st_val rfl (wanted_none rfl) (run_lRows _ rfl (g3 3 (by kernel_rfl)) (Blk.c1 (H1.out.bel g5))) (hKK _ _ rfl (Below.refl _ _))
      | 1, _ => exact st_val rfl (wanted_none rfl) (run_lStore _ rfl (g3 4 (by kernel_rfl)) (HG.out.bel g5)) (hKK _ _ rfl (Below.refl _ _))
      | 2, _ =>
        refine st_call rfl rfl (wanted_none rfl) (sargs1 (g4 1 (by kernel_rfl))) (run_enter Try.func102 (by kernel_rfl) (by kernel_rfl) _) ?_
        refine (falseCounts_any b p c x X HM.out HBO.out (HCW.out.bel (LOW.out.trans (g5.mono LOW.out.size)))).mono ?_
        rintro e w1 ⟨v, rfl, hl, hn, y, rfl⟩
        obtain ⟨q, d, rfl, -⟩ := id hl
        exact ⟨_, rfl, hKK _ _ ⟨q, _, d, _, rfl, hl, fun a e => by have h1 := hn a _ _ (by rw [e]); have h2 := g5.size; omega⟩ (below_ext _ y)⟩
      | 3, _ =>
        obtain ⟨q, n, d, B, e2, hl2, hn2⟩ := g4 2 (by kernel_rfl)
        have hb : Below X.heap.size X (X.alloc (.cells #[.slice q n d] 43)) := (Below.refl _ _).alloc (Nat.le_refl _) _
        rw [e2] at hl2
        exact st_valw rfl (wanted_none rfl) (run_bsRow _ rfl e2) (hKK _ _ ⟨_, q, n, d, B, rfl, g5.size, Blk.new rfl, hl2.bel hb, hn2⟩ hb)
      | k + 4, hk => omega
    · intro vs T hvs hBT
      have v0 : vs 0 = _ := hvs 0 (by omega)
      have v1 : vs 1 = _ := hvs 1 (by omega)
      obtain ⟨q2, n2, d2, B2, v2, -, -⟩ := hvs 2 (by omega)
      obtain ⟨gB, q, n, d, B, v3, hgB, kB, hl3, hn3⟩ := hvs 3 (by omega)
      simp only [putAll, v0, v1, v2, v3]
      clear v0 v1 v2 v3 hvs
      simp only [dstOf, Act.put, List.getElem?_toArray, List.getElem?_cons_zero, List.getElem?_cons_succ, Option.bind_some, Option.getD_some, List.setIfInBounds_toArray, List.set_cons_succ, List.set_cons_zero, List.drop_succ_cons, List.drop_zero]
      have hBT' : Below W'.heap.size W' T := hBT
      have HBT := Lib.hid hBT'
      have HO2 := Lib.hid (show T.ownsRow (V.heap.size + 2) 43 1 (.slice q0 N d0) N xs from by
        have h := H2.out.kept (w' := T) (fun g hg => hBT'.block g (H2.out.lt g hg).2)
        unfold OwnVs at h
        rwa [HN.out] at h)
      have hcell : ∀ (j : Nat) (u : Value), [Value.slice q n d][j]? = some u → T.cell? ((⟨gB, 0, none⟩ : Addr).add j) = some u := fun j u hj => by
        match j, hj with
        | 0, hj => simp at hj; subst hj; simpa [Addr.add] using Blk.c1 kB
        | j + 1, hj => simp at hj
      have HCELL := Lib.hid hcell
      have HL3 := Lib.hid hl3
      have HN3 := Lib.hid hn3
      have hzT := hBT'.size
      have lgB := kB.lt
      have hc2 : N + 1 ≤ maxLen := by unfold maxLen; omega
      have hc3 : (N + 1) * 24 ≤ 140737488355328 := by omega
      have hc4 : V.heap.size + 2 ≤ T.heap.size := by omega
      have HBOX := Lib.hid (show ∀ w3, T.grownBy w3 (Value.slice q0 N d0).ownBlock → Blk w3 (w.heap.size + 1) 121 #[.slice q0 N d0] from fun w3 hg => (hg.block _ (by omega) (fun e => by have := (H2.out.lt _ e.symm).1; omega)).trans ((hBT'.block _ lg3).trans H1.out))
      clear hcell hl3 hn3 kB hBT hBT'
      gi_wp2_with (gi_at_builtin; refine wpListIn_append_own_at _ rfl _ _ 121 rfl (V.heap.size + 2) 43 i0 (.slice none 0 0) 1 24 under_rows hi hi0 hi1 hi2 rfl (by decide) _ _ _ rfl HO2.out ⟨gB, 0, none⟩ 1 1 [.slice q n d] rfl rfl HCELL.out (by simp [Value.oneCell']) hc2 hc3 hc4 ?_; intro v' w3 hown' hg3 hnil3 hat3; obtain ⟨gn, capn, rfl⟩ := ownsRow_succ hown'; have hb3 := HBOX.out _ hg3; have b0 := Blk.c1 hb3; have bf := hb3.frozen 0; have bl := hb3.lt; have HOWN := Lib.hid hown'; have HG3 := Lib.hid hg3; have HAT := Lib.hid hat3; have HB3 := Lib.hid hb3; clear hown' hg3 hnil3 hat3 hb3)
      have hg3 := HG3.out
      have hz3 := hg3.size
      have hat : some gn = (Value.slice q0 N d0).ownBlock ∨ gn = T.heap.size := by
        rcases HAT.out with h | h
        · exact .inl h
        · right; simpa [Value.ownBlock] using h
      have hgn : ¬ Ma gn ∧ V.heap.size + 2 ≤ gn := by
        rcases hat with h | rfl
        · exact ⟨H3.out gn h.symm, (H2.out.lt gn h.symm).1⟩
        · exact ⟨fun hm => by have := (HMa.out _ hm).2; omega, hc4⟩
      have hkeep : ∀ k, k < W'.heap.size → (Value.slice q0 N d0).ownBlock ≠ some k → k ≠ w.heap.size + 1 → (w3.setCell ⟨w.heap.size + 1, 0, none⟩ (.slice (some ⟨gn, 0, none⟩) (N + 1) capn)).heap[k]? = W'.heap[k]? := fun k hk hne hk3 => (Below.heap_setCell _ _ _ _ (by dsimp only; exact hk3)).trans ((hg3.block k (by omega) (fun e => hne e.symm)).trans (HBT.out.block k hk))
      refine (show SpareM _ W' _ ∧ WrI w b (w.heap.size + 1) (V.heap.size + 2) Ma (pre ++ [x]) _ from ⟨⟨hg3.os.trans HBT.out.os, hg3.tape.trans HBT.out.tape, hg3.output.trans HBT.out.output, by rw [World.size_setCell]; omega, fun k hk => ?_⟩, ⟨hg3.os.trans (HBT.out.os.trans LOW.out.os), hg3.tape.trans (HBT.out.tape.trans LOW.out.tape), hg3.output.trans (HBT.out.output.trans LOW.out.output), by rw [World.size_setCell]; have := LOW.out.size; omega, fun k hk => (hkeep k (by omega) (fun e => by have := (H2.out.lt _ e).1; omega) (by omega)).trans (LOW.out.block k hk)⟩, by rw [World.size_setCell]; omega, fun k hk => (HMa.out k hk).1, _, xs ++ [.slice q n d], HB3.out.set 0 _, ?_, ?_, ?_, ?_⟩)
      · have h1 : k < W'.heap.size ∧ k ≠ w.heap.size + 1 ∧ (Value.slice q0 N d0).ownBlock ≠ some k := by
          rcases hk with ⟨hk1, hk2⟩ | hk
          · exact ⟨by omega, hk2, fun e => by have := (H2.out.lt k e).1; omega⟩
          · exact ⟨(HMa.out k hk).2, fun e => by have := (HMa.out k hk).1; omega, fun e => H3.out k e hk⟩
        exact hkeep k h1.1 h1.2.2 h1.2.1
      · have h3 : OwnVs w3 (V.heap.size + 2) (.slice (some ⟨gn, 0, none⟩) (N + 1) capn) (xs ++ [.slice q n d]) := by
          unfold OwnVs
          rw [List.length_append, HN.out]
          exact HOWN.out
        exact h3.kept (fun g hg => Below.heap_setCell _ _ _ _ (by have := (h3.lt g hg).1; dsimp only; omega))
      · intro g hg
        obtain rfl : gn = g := by simpa [Value.ownBlock] using hg
        exact hgn.1
      · rw [List.length_append, List.length_append, List.length_singleton, List.length_singleton, HN.out, HLP.out]
      · intro i m u hi hu
        have hnb : ∀ k : Nat, (k < T.heap.size ∧ (Value.slice q0 N d0).ownBlock ≠ some k) → (Value.slice (some ⟨gn, 0, none⟩) (N + 1) capn).ownBlock ≠ some k := fun k hk e => by
          obtain rfl : gn = k := by simpa [Value.ownBlock] using e
          rcases hat with h | h
          · exact hk.2 h.symm
          · omega
        by_cases hip : i < pre.length
        · rw [List.getElem?_append_left hip] at hi
          rw [List.getElem?_append_left (by rw [HN.out, HLP.out]; exact hip)] at hu
          obtain ⟨⟨B', hl⟩, hn'⟩ := H5.out i m u hi hu
          have hlt : ∀ a n k, u = .slice (some a) n k → a.block < W'.heap.size := fun a n k e => by
            obtain ⟨q', d', e1, -, -, e4, -, e6⟩ := hl
            rw [e] at e1
            cases e1
            have := (e4 a rfl).2
            omega
          refine ⟨⟨B', hl.kept (by rw [World.size_setCell]; omega) (fun a n k e => hkeep _ (hlt a n k e) (hn' a n k e).2.2 (by have := (hn' a n k e).2.1; omega))⟩, fun a n k e => ⟨(hn' a n k e).1, (hn' a n k e).2.1, hnb _ ⟨by have := hlt a n k e; omega, (hn' a n k e).2.2⟩⟩⟩
        · have hi1' := (List.getElem?_eq_some_iff.1 hi).1
          rw [List.length_append, List.length_singleton] at hi1'
          obtain rfl : i = pre.length := by omega
          rw [List.getElem?_append_right (Nat.le_refl _), Nat.sub_self] at hi
          rw [List.getElem?_append_right (by rw [HN.out, HLP.out]; exact Nat.le_refl _), HN.out, HLP.out, Nat.sub_self] at hu
          cases hi; cases hu
          have hqb : ∀ a, q = some a → W'.heap.size ≤ a.block ∧ a.block < T.heap.size := fun a e => ⟨HN3.out a e, by
            obtain ⟨q', d', e1, -, -, e4, -, e6⟩ := HL3.out
            simp only [Value.slice.injEq] at e1
            have := (e4 a (by rw [← e1.1]; exact e)).2
            omega⟩
          refine ⟨⟨B, HL3.out.kept (by rw [World.size_setCell]; omega) (fun a n k e => ?_)⟩, fun a n k e => ?_⟩
          · simp only [Value.slice.injEq] at e
            have h6 := hqb a e.1
            exact (Below.heap_setCell _ _ _ _ (by dsimp only; omega)).trans (hg3.block _ (by omega) (fun e2 => by have := (H2.out.lt _ e2.symm).2; omega))
          · simp only [Value.slice.injEq] at e
            have h6 := hqb a e.1
            exact ⟨fun hm => by have := (HMa.out _ hm).2; omega, by omega, hnb _ ⟨h6.2, fun e2 => by have := (H2.out.lt _ e2).2; omega⟩⟩
  case hdone =>
    rintro D xs W' rfl hz rfl hI hD'
    obtain ⟨low, z, ma, v, vs, h1, h2, h3, h4, h5⟩ := hI
    obtain ⟨q0, d0, hform⟩ := h2.form
    subst hform
    obtain ⟨m0, ms, hms⟩ := List.exists_cons_of_ne_nil HNE.out
    have hlen : vs.length = (fcL b m0 :: ms.map (fcL b)).length := by rw [h4, hms]; simp
    have hLs : LsAt W'.heap.size W' q0 (fcL b m0 :: ms.map (fcL b)) := by
      intro i l hi
      have hi' : ((storesL b).map (fcL b))[i]? = some l := by rw [hms]; exact hi
      rw [List.getElem?_map] at hi'
      obtain ⟨m, hm, rfl⟩ := Option.map_eq_some_iff.1 hi'
      have hiv : i < vs.length := by rw [h4]; exact (List.getElem?_eq_some_iff.1 hm).1
      have hu : vs[i]? = some vs[i] := List.getElem?_eq_getElem hiv
      obtain ⟨⟨B, hl⟩, -⟩ := h5 i m _ hm hu
      have hBW : B ≤ W'.heap.size := by obtain ⟨_, _, -, -, -, -, -, h⟩ := hl; exact h
      obtain ⟨k1, k2⟩ := id h2
      rcases k2 with ⟨k2, k3⟩ | ⟨g, cap, cur, hv, hg, hh, r⟩
      · omega
      · simp only [Value.slice.injEq] at hv
        obtain ⟨rfl, -, rfl⟩ := hv
        refine ⟨g, 0, vs[i], rfl, (Array.getElem?_eq_some_iff.1 hh).1, ?_, hl.mono hBW (Nat.le_refl _)⟩
        have h6 := World.ownsRow.cellAt h2 i (by omega)
        rw [Nat.zero_add, h6, hu]
    have HMF := Lib.hid (show Calls Try.prog 103 #[.slice q0 vs.length d0, .func (.func 104) #[] #[]] W' fun e w' => ∃ v, e = .returned v ∧ ListAt W'.heap.size w' v (bestOf (fcL b m0) (ms.map (fcL b))) ∧ ∃ x, w' = ext W' x from by
      rw [hlen]
      refine minFunc_any W'.heap.size q0 d0 (fcL b m0) (ms.map (fcL b)) W' hLs ?_ ?_
      · have := HLEN.out
        rw [hms] at this
        simp at this ⊢
        omega
      · intro l hl
        have key : ∀ m, (fcL b m).length ≤ 1000 := fun m => by
          have := fcN_len b m b.ls.length
          have := HBO.out.n
          unfold fcL
          omega
        rcases List.mem_cons.1 hl with rfl | hl
        · exact key _
        · obtain ⟨m, -, rfl⟩ := List.mem_map.1 hl
          exact key _)
    have HWL := Lib.hid (show wrongL b = bestOf (fcL b m0) (ms.map (fcL b)) from by unfold wrongL; rw [hms])
    obtain ⟨N, hN⟩ : ∃ N, vs.length = N := ⟨_, rfl⟩
    rw [hN] at h1 HMF
    have LOW := Lib.hid low
    have HD := Lib.hid hD'
    have c0 := Blk.c1 h1
    have l1 := h1.lt
    clear low z ma h1 h2 h3 h4 h5 hms hlen hLs hN hD' hseq
    gi_wp2_with fail
    go_wp2_with (go_at_call 103; refine HMF.out.mono ?_; rintro e w4 ⟨v4, rfl, hv4, y4, hw4⟩; have HV4 := Lib.hid hv4; have HB4 := Lib.hid (show Below W'.heap.size W' w4 by rw [hw4]; exact below_ext _ _); clear hw4 hv4)
    have hz4 := HB4.out.size
    have hD4 : w4.heap[V.heap.size]? = some (.deferred (some [])) := (HB4.out.block _ (by omega)).trans HD.out
    refine ⟨by simp, .inl ⟨_, _, rfl, run_takeDeferred hD4, ?_⟩⟩
    have hDf : Defs V.heap.size [V.heap.size] w4 := ⟨by simp, fun D h => by rw [List.mem_singleton.1 h]; exact hD4, fun D h => by rw [List.mem_singleton.1 h]; exact Nat.le_refl _⟩
    refine ⟨v4, ?_, v4, rfl, ?_, ext_of ?_⟩
    · simp [results, Try.results77, go_sem]
    · rw [HWL.out, World.putObj_size]
      exact (HV4.out.leave hDf (World.putObj_size ..) (fun k hk => World.putObj_heap_other (by simp at hk; omega))).mono hz4 (by rw [World.putObj_size]; exact Nat.le_refl _)
    · have h1 := LOW.out.trans (HB4.out.mono LOW.out.size)
      exact h1.trans (below_putObj _ (by have := HBV.out.size; omega) _)
  case hstop =>
    rintro D cc pre W' rfl hz hSp h hD'
    exact h.elim
end Go.Proofs.Ytpiadbdkiibdbaa

