/- Package seine: the least and the greatest of the numbers of some states. -/
/- Package seine: the least and the greatest rate of some states. -/
import Derived.Test.YtcaeohgbgeadaaaGreatDoorQSv
set_option linter.unusedSimpArgs false
set_option linter.unusedVariables false
namespace Go.Proofs.YtcaeohgbgeadaaaGreatDoor
open Go Go.RowKit Go.Shelf

/-- The least number of some states, and one more. -/
def minF (f : Int × Int → Int) (a : Int) (l : List (Int × Int)) : Int := l.foldl (fun m z => min m (f z)) a
def maxF (f : Int × Int → Int) (a : Int) (l : List (Int × Int)) : Int := l.foldl (fun m z => max m (f z)) a
theorem minF_snoc (f : Int × Int → Int) (a : Int) (l : List (Int × Int)) (z : Int × Int) : minF f a (l ++ [z]) = min (minF f a l) (f z) := by simp [minF, List.foldl_append]
theorem maxF_snoc (f : Int × Int → Int) (a : Int) (l : List (Int × Int)) (z : Int × Int) : maxF f a (l ++ [z]) = max (maxF f a l) (f z) := by simp [maxF, List.foldl_append]
theorem minF_spec (f : Int × Int → Int) (l : List (Int × Int)) : ∀ a, minF f a l ≤ a ∧ (∀ z ∈ l, minF f a l ≤ f z) ∧ (minF f a l = a ∨ ∃ z ∈ l, minF f a l = f z) := by
  induction l with
  | nil => intro a; simp [minF]
  | cons z l ih =>
    intro a
    obtain ⟨h1, h2, h3⟩ := ih (min a (f z))
    have e : minF f a (z :: l) = minF f (min a (f z)) l := rfl
    rw [e]
    refine ⟨by omega, fun y hy => ?_, ?_⟩
    · rcases List.mem_cons.1 hy with rfl | hy
      · omega
      · exact h2 y hy
    · rcases h3 with h3 | ⟨y, hy, h3⟩
      · by_cases h : a ≤ f z
        · exact .inl (by omega)
        · exact .inr ⟨z, by simp, by omega⟩
      · exact .inr ⟨y, by simp [hy], h3⟩
theorem maxF_spec (f : Int × Int → Int) (l : List (Int × Int)) : ∀ a, a ≤ maxF f a l ∧ (∀ z ∈ l, f z ≤ maxF f a l) ∧ (maxF f a l = a ∨ ∃ z ∈ l, maxF f a l = f z) := by
  induction l with
  | nil => intro a; simp [maxF]
  | cons z l ih =>
    intro a
    obtain ⟨h1, h2, h3⟩ := ih (max a (f z))
    have e : maxF f a (z :: l) = maxF f (max a (f z)) l := rfl
    rw [e]
    refine ⟨by omega, fun y hy => ?_, ?_⟩
    · rcases List.mem_cons.1 hy with rfl | hy
      · omega
      · exact h2 y hy
    · rcases h3 with h3 | ⟨y, hy, h3⟩
      · by_cases h : f z ≤ a
        · exact .inl (by omega)
        · exact .inr ⟨z, by simp, by omega⟩
      · exact .inr ⟨y, by simp [hy], h3⟩
theorem minF_congr (f : Int × Int → Int) (a : Int) {l l' : List (Int × Int)} (h : ∀ z, z ∈ l ↔ z ∈ l') : minF f a l = minF f a l' := by
  obtain ⟨a1, a2, a3⟩ := minF_spec f l a
  obtain ⟨b1, b2, b3⟩ := minF_spec f l' a
  have h1 : minF f a l ≤ minF f a l' := by
    rcases b3 with b3 | ⟨z, hz, b3⟩
    · omega
    · have := a2 z ((h z).2 hz); omega
  have h2 : minF f a l' ≤ minF f a l := by
    rcases a3 with a3 | ⟨z, hz, a3⟩
    · omega
    · have := b2 z ((h z).1 hz); omega
  omega
theorem maxF_congr (f : Int × Int → Int) (a : Int) {l l' : List (Int × Int)} (h : ∀ z, z ∈ l ↔ z ∈ l') : maxF f a l = maxF f a l' := by
  obtain ⟨a1, a2, a3⟩ := maxF_spec f l a
  obtain ⟨b1, b2, b3⟩ := maxF_spec f l' a
  have h1 : maxF f a l ≤ maxF f a l' := by
    rcases a3 with a3 | ⟨z, hz, a3⟩
    · omega
    · have := b2 z ((h z).1 hz); omega
  have h2 : maxF f a l' ≤ maxF f a l := by
    rcases b3 with b3 | ⟨z, hz, b3⟩
    · omega
    · have := a2 z ((h z).2 hz); omega
  omega
theorem privM_ext {O : Nat → Prop} {A B : World} (h : PrivM O A B) (x : Grow B) : PrivM O A (ext B x) := h.ext (below_ext _ _)
theorem privM_set {O : Nat → Prop} {A B : World} (h : PrivM O A B) {b : Nat} (hb : O b) (o : Nat) (v : Value) : PrivM O A (B.setCell ⟨b, o, none⟩ v) := h.trans (PrivM.setCell _ hb _ _)
theorem latL_B {L : List (Int × Int)} (h : ∀ st ∈ L, StB st) {n : Int} : ∀ st ∈ latL L n, StB st := by
  intro z hz
  obtain ⟨⟨a, r⟩, hq, rfl⟩ := List.mem_map.1 hz
  obtain ⟨h1, h2, h3⟩ := h _ hq
  dsimp only at h1 h2 h3
  have := afterH_bd h2 n.toNat a h1.1
  exact ⟨by dsimp only [aftS]; omega, h2, h3⟩
attribute [local go_sem] Oper.semAt_some frozen_alloc_lt
set_option maxRecDepth 100000 in
set_option maxHeartbeats 4000000 in
theorem spanHeld_any (lo hi : Int) (p : Option Addr) (N c : Nat) (kd : Kd) (Bb bt bp bs k n : Nat) (tl : List (List (Int × Int))) (L : List (Int × Int))  (w : World) (hx : AtBox w lo hi p N c kd Bb bt bp bs k n tl) (hL : tl[k]? = some L) (hkN : k ≤ N) (hst : ∀ st ∈ L, StB st) (hn : n ≤ 60) :
    Calls Tryz.prog 136 #[.agg #[.func (.func 135) #[] #[]], .func (.func 174) #[] #[.pointer (some ⟨bt, 0, none⟩), .pointer (some ⟨bp, 0, none⟩), .pointer (some ⟨bs, 0, none⟩)]] w fun e w' => e = .returned (.agg #[.int .i64 (minF Prod.fst 400 (latL L n)), .int .i64 (maxF Prod.fst 0 (latL L n))]) ∧ Below w.heap.size w w' := by
  refine (callsIn_wide (n := 9)).1 ?_
  refine callsIn_of_wp_marks Tryz.func136 rfl trivial ?_ rfl
  simp only [Tryz.ntmps136, List.size_toArray, List.length_cons, List.length_nil, Nat.reduceAdd, Nat.reduceSub, Array.replicate_succ, Array.replicate_zero, List.push_toArray, List.append_toArray, List.nil_append, List.cons_append]
  refine wpIn_wide.2 ?_
  go_upto_region 2 with fail
  generalize hW0 : ((w.alloc _).alloc _).alloc _ = W0
  have hB0 : Below w.heap.size w W0 := by rw [← hW0]; (exact belA)
  have hz0 : W0.heap.size = w.heap.size + 3 := by rw [← hW0]; simp
  have hq0 : Blk W0 w.heap.size 172 #[.func (.func 135) #[] #[]] := by rw [← hW0]; exact ((Blk.new rfl).alloc _).alloc _
  have hr0 : Blk W0 (w.heap.size + 1) 23 #[.int .i64 0, .int .i64 0] := by rw [← hW0]; exact (Blk.new (by simp)).alloc _
  have hs0 : Blk W0 (w.heap.size + 2) 23 #[.int .i64 (minF Prod.fst 400 []), .int .i64 (maxF Prod.fst 0 [])] := by rw [← hW0]; exact Blk.new (by simp)
  clear hW0
  have hseq := at1_in lo hi p N c kd Bb bt bp bs k n tl L (fun j => j = w.heap.size + 2 ∨ j = W0.heap.size + 1) w hx hL hkN hst hn (fun j hj => by omega)
  have HB0 := Lib.hid hB0
  have HQ0 := Lib.hid hq0
  have HR0 := Lib.hid hr0
  have HS0 := Lib.hid hs0
  clear hB0 hq0 hr0 hs0
  go_wp2_with fail
  refine (wpIn_wide (n := 9)).1 ?_
  refine wpIn_rangeFunc_0 (gf := 174) (fb := #[]) (lb := #[.pointer (some ⟨bt, 0, none⟩), .pointer (some ⟨bp, 0, none⟩), .pointer (some ⟨bs, 0, none⟩)]) rfl (enters_of Tryz.func174 (by kernel_rfl) rfl)
    (fun j => j = w.heap.size + 2) (fun j hj => by omega) hseq HB0.out (fun _ => rfl)
    (fun pre A => Blk A w.heap.size 172 #[.func (.func 135) #[] #[]] ∧ Blk A (w.heap.size + 2) 23 #[.int .i64 (minF Prod.fst 400 pre), .int .i64 (maxF Prod.fst 0 pre)])
    (fun c pre A => False)
    (fun pre z a' A => ∃ (g6 : Nat) (u8 : Value), W0.heap.size + 2 ≤ g6 ∧ Blk A g6 169 #[.int .i64 z.1, .int .i64 z.2] ∧ a' = { tmps := #[.agg #[.func (.func 135) #[] #[]], .func (.func 174) #[] #[.pointer (some ⟨bt, 0, none⟩), .pointer (some ⟨bp, 0, none⟩), .pointer (some ⟨bs, 0, none⟩)], .pointer (some ⟨w.heap.size, 0, none⟩), undef, .pointer (some ⟨w.heap.size + 1, 0, none⟩), .pointer (some ⟨w.heap.size + 1 + 1, 0, none⟩), .pointer (some ⟨g6, 0, none⟩), undef, u8, .func (.func 174) #[] #[.pointer (some ⟨bt, 0, none⟩), .pointer (some ⟨bp, 0, none⟩), .pointer (some ⟨bs, 0, none⟩)], .agg #[.int .i64 z.1, .int .i64 z.2], undef, undef, undef, undef, undef, undef, undef, undef, undef, undef, undef, undef, undef, undef, undef, undef], defers := [] })
    ?hI ?hIx ?hAx ?h0 ?hassign ?hbody ?hdone ?hstop
  case hI =>
    rintro pre A C ⟨j1, j2⟩ hz hp
    exact ⟨(hp.block _ (by omega)).trans j1, (hp.block _ (by omega)).trans j2⟩
  case hIx => rintro c pre A C h; exact h.elim
  case hAx =>
    rintro pre z a' A C ⟨g, u8, h1, h2, rfl⟩ hp
    exact ⟨g, u8, h1, (hp.block _ h2.lt (by omega)).trans h2, rfl⟩
  case h0 =>
    intro W6 hb6
    exact ⟨(hb6.block _ (by omega)).trans HQ0.out, (hb6.block _ (by omega)).trans HS0.out⟩
  case hassign =>
    intro m l' pre z W' hz hsp hi'
    clear hseq
    dsimp only [encS, key2]
    gi_wp2_with fail
    exact ⟨⟨W'.heap.size, _, hz, Blk.new rfl, rfl⟩, by (exact belA)⟩
  case hbody =>
    rintro m l' pre z a' W' hz hpx ⟨j1, j2⟩ ⟨g6, u8, hgz, hbg, rfl⟩
    have hzB := latL_B hst z (hpx z (by simp))
    have hmn := minF_snoc Prod.fst 400 pre z
    have hmx := maxF_snoc Prod.fst 0 pre z
    generalize minF Prod.fst 400 pre = mn at *
    generalize maxF Prod.fst 0 pre = mx at *
    obtain ⟨x, y⟩ := z
    dsimp only at hbg ⊢
    have c0 := j1.cell 0
    have e0 := j2.cell 0
    have e1 := j2.cell 1
    have d0 := hbg.cell 0
    have d1 := hbg.cell 1
    have f0 := j2.frozen 0
    have f1 := j2.frozen 1
    have l0 := j1.lt
    have l1 := j2.lt
    have l2 := hbg.lt
    simp only [List.size_toArray, List.length_cons, List.length_nil, Nat.reduceAdd, Nat.reduceLT, getElem?_pos, List.getElem_toArray, List.getElem_cons_zero, List.getElem_cons_succ] at c0 d0 d1 e0 e1
    have J1 := Lib.hid j1
    have J2 := Lib.hid j2
    clear hseq j1 j2 hbg hpx
    gi_wp2_with (first
      | (gi_at_call 135; refine (CallsIn.inRound _ (callsIn_wide.2 (heldN_any _ _ _))).mono ?_; rintro e w2 ⟨rfl, y1, hw2⟩; have HW2 := Lib.hid (show Below W'.heap.size W' w2 by rw [hw2]; exact below_ext _ _); have e0 := (HW2.out.cell (p := ⟨w.heap.size + 2, 0, none⟩) l1).trans e0; have l3 : w.heap.size + 2 < w2.heap.size := (by have := HW2.out.size; omega); clear hw2)
      | (gi_at_call 173; refine (CallsIn.inRound _ (callsIn_wide.2 (least_one mn _ _ _ (Blk.new rfl)))).mono ?_; rintro e w3 ⟨rfl, y2, hw3⟩; have HW3 := Lib.hid (show Below W'.heap.size W' w3 by rw [hw3]; have hB := HW2.out; have := hB.size; (exact belA)); have e0 := (HW3.out.cell (p := ⟨w.heap.size + 2, 0, none⟩) l1).trans (J2.out.cell 0); have e1 := (HW3.out.cell (p := ⟨w.heap.size + 2, 1, none⟩) l1).trans (J2.out.cell 1); have f0 := (HW3.out.frozen (p := ⟨w.heap.size + 2, 0, none⟩) l1).trans (J2.out.frozen 0); have f1 := (HW3.out.frozen (p := ⟨w.heap.size + 2, 1, none⟩) l1).trans (J2.out.frozen 1); simp only [List.size_toArray, List.length_cons, List.length_nil, Nat.reduceAdd, Nat.reduceLT, getElem?_pos, List.getElem_toArray, List.getElem_cons_zero, List.getElem_cons_succ] at e0 e1; have l4 : w.heap.size + 2 < w3.heap.size := (by have := HW3.out.size; omega); clear hw3))
    all_goals
      refine ⟨privM_set (O := fun j => j = w.heap.size + 2) (privM_set (O := fun j => j = w.heap.size + 2) (PrivM.of_below HW3.out) rfl _ _) rfl _ _, ((J1.out.bel HW3.out).setOther (by omega) _ _).setOther (by omega) _ _, ?_⟩
      have hfin := ((J2.out.bel HW3.out).set 0 (.int .i64 (min mn (Prod.fst (x, y))))).set 1 (.int .i64 (max mx (Prod.fst (x, y))))
      rw [hmn, hmx]
      first
        | (rw [show max mx (Prod.fst (x, y)) = Prod.fst (x, y) by omega] at hfin ⊢; exact hfin)
        | (rw [show max mx (Prod.fst (x, y)) = mx by omega] at hfin ⊢; exact hfin)
  case hdone =>
    rintro D xs W' rfl hz hS ⟨j1, j2⟩ hp hD'
    rw [minF_congr _ _ hS, maxF_congr _ _ hS] at j2
    obtain ⟨mn, hmn⟩ : ∃ m, minF Prod.fst 400 (latL L n) = m := ⟨_, rfl⟩
    obtain ⟨mx, hmx⟩ : ∃ m, maxF Prod.fst 0 (latL L n) = m := ⟨_, rfl⟩
    rw [hmn, hmx] at j2
    have HMN := Lib.hid hmn
    have HMX := Lib.hid hmx
    clear hmn hmx
    have hrW := (hp.block _ HR0.out.lt (by omega)).trans HR0.out
    have HRW := Lib.hid (show Blk W' (w.heap.size + 1) 23 _ from hrW)
    have e0 := j2.cell 0
    have e1 := j2.cell 1
    have r0 := Blk.cell hrW 0
    have r1 := Blk.cell hrW 1
    have f0 := Blk.frozen hrW 0
    have f1 := Blk.frozen hrW 1
    have l1 := j2.lt
    have l2 := Blk.lt hrW
    simp only [List.size_toArray, List.length_cons, List.length_nil, Nat.reduceAdd, Nat.reduceLT, getElem?_pos, List.getElem_toArray, List.getElem_cons_zero, List.getElem_cons_succ] at e0 e1 r0 r1
    have HPV := Lib.hid hp
    have HD := Lib.hid hD'
    clear j1 j2 hrW hp hD' hseq hS
    gi_wp2_with fail
    go_wp2_with fail
    have hF : Blk ((W'.setCell ⟨w.heap.size + 1, 0, none⟩ (.int .i64 mn)).setCell ⟨w.heap.size + 1, 1, none⟩ (.int .i64 mx)) (w.heap.size + 1) 23 #[.int .i64 mn, .int .i64 mx] := (HRW.out.set 0 _).set 1 _
    have hBF : Below w.heap.size W' ((W'.setCell ⟨w.heap.size + 1, 0, none⟩ (.int .i64 mn)).setCell ⟨w.heap.size + 1, 1, none⟩ (.int .i64 mx)) := ((Below.refl _ _).setCell (by simp) _).setCell (by simp) _
    have hDF : ((W'.setCell ⟨w.heap.size + 1, 0, none⟩ (.int .i64 mn)).setCell ⟨w.heap.size + 1, 1, none⟩ (.int .i64 mx)).heap[W0.heap.size]? = some (.deferred (some [])) :=
      (Below.heap_setCell _ _ _ _ (by dsimp only; omega)).trans ((Below.heap_setCell _ _ _ _ (by dsimp only; omega)).trans HD.out)
    generalize (W'.setCell ⟨w.heap.size + 1, 0, none⟩ (.int .i64 mn)).setCell ⟨w.heap.size + 1, 1, none⟩ (.int .i64 mx) = F at *
    refine ⟨by simp, .inl ⟨_, _, rfl, run_takeDeferred hDF, ?_⟩⟩
    have hG : Blk (F.putObj W0.heap.size (.deferred none)) (w.heap.size + 1) 23 #[.int .i64 mn, .int .i64 mx] := (World.putObj_heap_other (by omega)).trans hF
    have t0 := hG.cell 0
    have t1 := hG.cell 1
    simp only [List.size_toArray, List.length_cons, List.length_nil, Nat.reduceAdd, Nat.reduceLT, getElem?_pos, List.getElem_toArray, List.getElem_cons_zero, List.getElem_cons_succ] at t0 t1
    refine ⟨.agg #[.int .i64 mn, .int .i64 mx], ?_, by rw [HMN.out, HMX.out], ?_⟩
    · simp [results, Tryz.results136, go_sem, t0, t1]
    · have hBW : Below w.heap.size W0 W' := HPV.out.below (by omega) (fun j hj => by omega)
      exact HB0.out.trans (hBW.trans (hBF.trans (below_putObj _ (by omega) _)))
  case hstop =>
    rintro D c pre W' rfl hz hSp h hp hD'
    exact h.elim
end Go.Proofs.YtcaeohgbgeadaaaGreatDoor

namespace Go.Proofs.YtcaeohgbgeadaaaGreatDoor
open Go Go.RowKit Go.Shelf
attribute [local go_sem] Oper.semAt_some frozen_alloc_lt
set_option maxRecDepth 100000 in
set_option maxHeartbeats 4000000 in
theorem spanRate_any (lo hi : Int) (p : Option Addr) (N c : Nat) (kd : Kd) (Bb bt bp bs k n : Nat) (tl : List (List (Int × Int))) (L : List (Int × Int))  (w : World) (hx : AtBox w lo hi p N c kd Bb bt bp bs k n tl) (hL : tl[k]? = some L) (hkN : k ≤ N) (hst : ∀ st ∈ L, StB st) (hn : n ≤ 60) :
    Calls Tryz.prog 136 #[.agg #[.func (.func 164) #[] #[]], .func (.func 174) #[] #[.pointer (some ⟨bt, 0, none⟩), .pointer (some ⟨bp, 0, none⟩), .pointer (some ⟨bs, 0, none⟩)]] w fun e w' => e = .returned (.agg #[.int .i64 (minF Prod.snd 400 (latL L n)), .int .i64 (maxF Prod.snd 0 (latL L n))]) ∧ Below w.heap.size w w' := by
  refine (callsIn_wide (n := 9)).1 ?_
  refine callsIn_of_wp_marks Tryz.func136 rfl trivial ?_ rfl
  simp only [Tryz.ntmps136, List.size_toArray, List.length_cons, List.length_nil, Nat.reduceAdd, Nat.reduceSub, Array.replicate_succ, Array.replicate_zero, List.push_toArray, List.append_toArray, List.nil_append, List.cons_append]
  refine wpIn_wide.2 ?_
  go_upto_region 2 with fail
  generalize hW0 : ((w.alloc _).alloc _).alloc _ = W0
  have hB0 : Below w.heap.size w W0 := by rw [← hW0]; (exact belA)
  have hz0 : W0.heap.size = w.heap.size + 3 := by rw [← hW0]; simp
  have hq0 : Blk W0 w.heap.size 172 #[.func (.func 164) #[] #[]] := by rw [← hW0]; exact ((Blk.new rfl).alloc _).alloc _
  have hr0 : Blk W0 (w.heap.size + 1) 23 #[.int .i64 0, .int .i64 0] := by rw [← hW0]; exact (Blk.new (by simp)).alloc _
  have hs0 : Blk W0 (w.heap.size + 2) 23 #[.int .i64 (minF Prod.snd 400 []), .int .i64 (maxF Prod.snd 0 [])] := by rw [← hW0]; exact Blk.new (by simp)
  clear hW0
  have hseq := at1_in lo hi p N c kd Bb bt bp bs k n tl L (fun j => j = w.heap.size + 2 ∨ j = W0.heap.size + 1) w hx hL hkN hst hn (fun j hj => by omega)
  have HB0 := Lib.hid hB0
  have HQ0 := Lib.hid hq0
  have HR0 := Lib.hid hr0
  have HS0 := Lib.hid hs0
  clear hB0 hq0 hr0 hs0
  go_wp2_with fail
  refine (wpIn_wide (n := 9)).1 ?_
  refine wpIn_rangeFunc_0 (gf := 174) (fb := #[]) (lb := #[.pointer (some ⟨bt, 0, none⟩), .pointer (some ⟨bp, 0, none⟩), .pointer (some ⟨bs, 0, none⟩)]) rfl (enters_of Tryz.func174 (by kernel_rfl) rfl)
    (fun j => j = w.heap.size + 2) (fun j hj => by omega) hseq HB0.out (fun _ => rfl)
    (fun pre A => Blk A w.heap.size 172 #[.func (.func 164) #[] #[]] ∧ Blk A (w.heap.size + 2) 23 #[.int .i64 (minF Prod.snd 400 pre), .int .i64 (maxF Prod.snd 0 pre)])
    (fun c pre A => False)
    (fun pre z a' A => ∃ (g6 : Nat) (u8 : Value), W0.heap.size + 2 ≤ g6 ∧ Blk A g6 169 #[.int .i64 z.1, .int .i64 z.2] ∧ a' = { tmps := #[.agg #[.func (.func 164) #[] #[]], .func (.func 174) #[] #[.pointer (some ⟨bt, 0, none⟩), .pointer (some ⟨bp, 0, none⟩), .pointer (some ⟨bs, 0, none⟩)], .pointer (some ⟨w.heap.size, 0, none⟩), undef, .pointer (some ⟨w.heap.size + 1, 0, none⟩), .pointer (some ⟨w.heap.size + 1 + 1, 0, none⟩), .pointer (some ⟨g6, 0, none⟩), undef, u8, .func (.func 174) #[] #[.pointer (some ⟨bt, 0, none⟩), .pointer (some ⟨bp, 0, none⟩), .pointer (some ⟨bs, 0, none⟩)], .agg #[.int .i64 z.1, .int .i64 z.2], undef, undef, undef, undef, undef, undef, undef, undef, undef, undef, undef, undef, undef, undef, undef, undef], defers := [] })
    ?hI ?hIx ?hAx ?h0 ?hassign ?hbody ?hdone ?hstop
  case hI =>
    rintro pre A C ⟨j1, j2⟩ hz hp
    exact ⟨(hp.block _ (by omega)).trans j1, (hp.block _ (by omega)).trans j2⟩
  case hIx => rintro c pre A C h; exact h.elim
  case hAx =>
    rintro pre z a' A C ⟨g, u8, h1, h2, rfl⟩ hp
    exact ⟨g, u8, h1, (hp.block _ h2.lt (by omega)).trans h2, rfl⟩
  case h0 =>
    intro W6 hb6
    exact ⟨(hb6.block _ (by omega)).trans HQ0.out, (hb6.block _ (by omega)).trans HS0.out⟩
  case hassign =>
    intro m l' pre z W' hz hsp hi'
    clear hseq
    dsimp only [encS, key2]
    gi_wp2_with fail
    exact ⟨⟨W'.heap.size, _, hz, Blk.new rfl, rfl⟩, by (exact belA)⟩
  case hbody =>
    rintro m l' pre z a' W' hz hpx ⟨j1, j2⟩ ⟨g6, u8, hgz, hbg, rfl⟩
    have hzB := latL_B hst z (hpx z (by simp))
    have hmn := minF_snoc Prod.snd 400 pre z
    have hmx := maxF_snoc Prod.snd 0 pre z
    generalize minF Prod.snd 400 pre = mn at *
    generalize maxF Prod.snd 0 pre = mx at *
    obtain ⟨x, y⟩ := z
    dsimp only at hbg ⊢
    have c0 := j1.cell 0
    have e0 := j2.cell 0
    have e1 := j2.cell 1
    have d0 := hbg.cell 0
    have d1 := hbg.cell 1
    have f0 := j2.frozen 0
    have f1 := j2.frozen 1
    have l0 := j1.lt
    have l1 := j2.lt
    have l2 := hbg.lt
    simp only [List.size_toArray, List.length_cons, List.length_nil, Nat.reduceAdd, Nat.reduceLT, getElem?_pos, List.getElem_toArray, List.getElem_cons_zero, List.getElem_cons_succ] at c0 d0 d1 e0 e1
    have J1 := Lib.hid j1
    have J2 := Lib.hid j2
    clear hseq j1 j2 hbg hpx
    gi_wp2_with (first
      | (gi_at_call 164; refine (CallsIn.inRound _ (callsIn_wide.2 (rateN_any _ _ _))).mono ?_; rintro e w2 ⟨rfl, y1, hw2⟩; have HW2 := Lib.hid (show Below W'.heap.size W' w2 by rw [hw2]; exact below_ext _ _); have e0 := (HW2.out.cell (p := ⟨w.heap.size + 2, 0, none⟩) l1).trans e0; have l3 : w.heap.size + 2 < w2.heap.size := (by have := HW2.out.size; omega); clear hw2)
      | (gi_at_call 173; refine (CallsIn.inRound _ (callsIn_wide.2 (least_one mn _ _ _ (Blk.new rfl)))).mono ?_; rintro e w3 ⟨rfl, y2, hw3⟩; have HW3 := Lib.hid (show Below W'.heap.size W' w3 by rw [hw3]; have hB := HW2.out; have := hB.size; (exact belA)); have e0 := (HW3.out.cell (p := ⟨w.heap.size + 2, 0, none⟩) l1).trans (J2.out.cell 0); have e1 := (HW3.out.cell (p := ⟨w.heap.size + 2, 1, none⟩) l1).trans (J2.out.cell 1); have f0 := (HW3.out.frozen (p := ⟨w.heap.size + 2, 0, none⟩) l1).trans (J2.out.frozen 0); have f1 := (HW3.out.frozen (p := ⟨w.heap.size + 2, 1, none⟩) l1).trans (J2.out.frozen 1); simp only [List.size_toArray, List.length_cons, List.length_nil, Nat.reduceAdd, Nat.reduceLT, getElem?_pos, List.getElem_toArray, List.getElem_cons_zero, List.getElem_cons_succ] at e0 e1; have l4 : w.heap.size + 2 < w3.heap.size := (by have := HW3.out.size; omega); clear hw3))
    all_goals
      refine ⟨privM_set (O := fun j => j = w.heap.size + 2) (privM_set (O := fun j => j = w.heap.size + 2) (PrivM.of_below HW3.out) rfl _ _) rfl _ _, ((J1.out.bel HW3.out).setOther (by omega) _ _).setOther (by omega) _ _, ?_⟩
      have hfin := ((J2.out.bel HW3.out).set 0 (.int .i64 (min mn (Prod.snd (x, y))))).set 1 (.int .i64 (max mx (Prod.snd (x, y))))
      rw [hmn, hmx]
      first
        | (rw [show max mx (Prod.snd (x, y)) = Prod.snd (x, y) by omega] at hfin ⊢; exact hfin)
        | (rw [show max mx (Prod.snd (x, y)) = mx by omega] at hfin ⊢; exact hfin)
  case hdone =>
    rintro D xs W' rfl hz hS ⟨j1, j2⟩ hp hD'
    rw [minF_congr _ _ hS, maxF_congr _ _ hS] at j2
    obtain ⟨mn, hmn⟩ : ∃ m, minF Prod.snd 400 (latL L n) = m := ⟨_, rfl⟩
    obtain ⟨mx, hmx⟩ : ∃ m, maxF Prod.snd 0 (latL L n) = m := ⟨_, rfl⟩
    rw [hmn, hmx] at j2
    have HMN := Lib.hid hmn
    have HMX := Lib.hid hmx
    clear hmn hmx
    have hrW := (hp.block _ HR0.out.lt (by omega)).trans HR0.out
    have HRW := Lib.hid (show Blk W' (w.heap.size + 1) 23 _ from hrW)
    have e0 := j2.cell 0
    have e1 := j2.cell 1
    have r0 := Blk.cell hrW 0
    have r1 := Blk.cell hrW 1
    have f0 := Blk.frozen hrW 0
    have f1 := Blk.frozen hrW 1
    have l1 := j2.lt
    have l2 := Blk.lt hrW
    simp only [List.size_toArray, List.length_cons, List.length_nil, Nat.reduceAdd, Nat.reduceLT, getElem?_pos, List.getElem_toArray, List.getElem_cons_zero, List.getElem_cons_succ] at e0 e1 r0 r1
    have HPV := Lib.hid hp
    have HD := Lib.hid hD'
    clear j1 j2 hrW hp hD' hseq hS
    gi_wp2_with fail
    go_wp2_with fail
    have hF : Blk ((W'.setCell ⟨w.heap.size + 1, 0, none⟩ (.int .i64 mn)).setCell ⟨w.heap.size + 1, 1, none⟩ (.int .i64 mx)) (w.heap.size + 1) 23 #[.int .i64 mn, .int .i64 mx] := (HRW.out.set 0 _).set 1 _
    have hBF : Below w.heap.size W' ((W'.setCell ⟨w.heap.size + 1, 0, none⟩ (.int .i64 mn)).setCell ⟨w.heap.size + 1, 1, none⟩ (.int .i64 mx)) := ((Below.refl _ _).setCell (by simp) _).setCell (by simp) _
    have hDF : ((W'.setCell ⟨w.heap.size + 1, 0, none⟩ (.int .i64 mn)).setCell ⟨w.heap.size + 1, 1, none⟩ (.int .i64 mx)).heap[W0.heap.size]? = some (.deferred (some [])) :=
      (Below.heap_setCell _ _ _ _ (by dsimp only; omega)).trans ((Below.heap_setCell _ _ _ _ (by dsimp only; omega)).trans HD.out)
    generalize (W'.setCell ⟨w.heap.size + 1, 0, none⟩ (.int .i64 mn)).setCell ⟨w.heap.size + 1, 1, none⟩ (.int .i64 mx) = F at *
    refine ⟨by simp, .inl ⟨_, _, rfl, run_takeDeferred hDF, ?_⟩⟩
    have hG : Blk (F.putObj W0.heap.size (.deferred none)) (w.heap.size + 1) 23 #[.int .i64 mn, .int .i64 mx] := (World.putObj_heap_other (by omega)).trans hF
    have t0 := hG.cell 0
    have t1 := hG.cell 1
    simp only [List.size_toArray, List.length_cons, List.length_nil, Nat.reduceAdd, Nat.reduceLT, getElem?_pos, List.getElem_toArray, List.getElem_cons_zero, List.getElem_cons_succ] at t0 t1
    refine ⟨.agg #[.int .i64 mn, .int .i64 mx], ?_, by rw [HMN.out, HMX.out], ?_⟩
    · simp [results, Tryz.results136, go_sem, t0, t1]
    · have hBW : Below w.heap.size W0 W' := HPV.out.below (by omega) (fun j hj => by omega)
      exact HB0.out.trans (hBW.trans (hBF.trans (below_putObj _ (by omega) _)))
  case hstop =>
    rintro D c pre W' rfl hz hSp h hp hD'
    exact h.elim
end Go.Proofs.YtcaeohgbgeadaaaGreatDoor

