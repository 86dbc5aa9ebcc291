/- Package bulk, plainly: all that measures can hold, kind by kind. -/
/- Contracts of package bulk: all that measures can hold, gone through (fill, the recursion). Written by gen_b5u.py. -/
import Derived.Test.YtpiadbdkiibdbaaQB5s
set_option linter.unusedSimpArgs false
set_option linter.unusedVariables false
namespace Go.Proofs.Ytpiadbdkiibdbaa
open Go Go.RowKit
/-- What measures hold, with another number for a kind. -/
def Ms.set (m : Ms) (k : Nat) (x : Int) : Ms :=
  match k with
  | 0 => { m with a := x }
  | 1 => { m with b := x }
  | _ => { m with c := x }
/-- All that measures can hold of the last r kinds. -/
def fillR (b : Ck) : Nat → Ms → List Ms
  | 0, m => [m]
  | r + 1, m => (numsL (b.lo (2 - r)) (b.hi (2 - r))).flatMap fun x => fillR b r (m.set (2 - r) x)
theorem fillR_three (b : Ck) (m : Ms) : fillR b 3 m = storesL b := by
  show ((numsL b.l0 b.u0).flatMap fun x => (numsL b.l1 b.u1).flatMap fun y => (numsL b.l2 b.u2).flatMap fun z => [(⟨x, y, z⟩ : Ms)]) = storesL b
  unfold storesL
  congr 1
  funext x
  congr 1
  funext y
  induction numsL b.l2 b.u2 with
  | nil => rfl
  | cons z l ih => rw [List.flatMap_cons, ih]; rfl
/-- What is gone through before a number, and with it. -/
theorem fillR_snoc (b : Ck) (r : Nat) (m : Ms) (pre : List Int) (x : Int) : ((pre ++ [x]).flatMap fun y => fillR b r (m.set (2 - r) y)) = (pre.flatMap fun y => fillR b r (m.set (2 - r) y)) ++ fillR b r (m.set (2 - r) x) := by
  rw [List.flatMap_append, List.flatMap_cons, List.flatMap_nil, List.append_nil]
theorem set_ok {m : Ms} {k : Nat} {x : Int} (hx : 1 ≤ x ∧ x ≤ 9) (h0 : ∀ j, j < k → 1 ≤ m.at j ∧ m.at j ≤ 9) : ∀ j, j < k + 1 → k < 3 → 1 ≤ (m.set k x).at j ∧ (m.set k x).at j ≤ 9 := by
  intro j hj hk
  rcases Nat.lt_succ_iff_lt_or_eq.1 hj with h | rfl
  · have := h0 j h
    rcases k with _ | _ | _ | k <;> rcases j with _ | _ | _ | j <;> simp [Ms.set, Ms.at] at * <;> omega
  · rcases j with _ | _ | _ | j <;> simp [Ms.set, Ms.at] <;> omega
end Go.Proofs.Ytpiadbdkiibdbaa

namespace Go.Proofs.Ytpiadbdkiibdbaa
open Go Go.RowKit Go.Shelf
attribute [local go_sem] Oper.semAt_some frozen_alloc_lt
def encM (b : Ck) (p : Option Addr) (c : Nat) (m : Ms) : Array Value := #[stV b p c m]
/-- Where the recursion finds the body of the loop, the book, and itself. -/
structure FillAt (W : World) (b : Ck) (p : Option Addr) (c yb cb fb l : Nat) : Prop where
  y : Blk W yb 131 #[.func (.yield l) #[] #[]]
  c : Blk W cb 76 (ckcs b p c)
  f : Blk W fb 141 #[.func (.func 119) #[] #[.pointer (some ⟨yb, 0, none⟩), .pointer (some ⟨cb, 0, none⟩), .pointer (some ⟨fb, 0, none⟩)]]
theorem FillAt.bel {W W' : World} {b : Ck} {p : Option Addr} {c yb cb fb l : Nat} (h : FillAt W b p c yb cb fb l) (hb : Below W.heap.size W W') : FillAt W' b p c yb cb fb l := ⟨h.y.bel hb, h.c.bel hb, h.f.bel hb⟩
/-- What a call of the recursion does. -/
def FillPost (O : Nat → Prop) (J Jx : List Ms → World → Prop) (tot pre more : List Ms) (W : World) (e : Ending) (W' : World) : Prop :=
  (e = .returned (.bool true) ∧ J (pre ++ more) W' ∧ PrivM O W W') ∨ (e = .returned (.bool false) ∧ (∃ pre', pre' <+: tot ∧ Jx pre' W') ∧ PrivM O W W')
theorem PrivM.setNew {M : Nat → Prop} {A B : World} (h : PrivM M A B) {g : Nat} (hg : A.heap.size ≤ g) (i : Nat) (v : Value) : PrivM M A (B.setCell ⟨g, i, none⟩ v) :=
  ⟨h.os, h.tape, h.output, by simpa using h.size, fun k hk hn => (Below.heap_setCell B ⟨g, i, none⟩ v k (by dsimp only; omega)).trans (h.block k hk hn)⟩
set_option maxRecDepth 100000 in
set_option maxHeartbeats 8000000 in
theorem fill_3 (b : Ck) (p : Option Addr) (c yb cb fb l n z : Nat) (O : Nat → Prop) (J Jx : List Ms → World → Prop) (tot pre : List Ms) (m : Ms) (W : World) (hz : z ≤ W.heap.size) (hJ : Low z J) (hJx : Low z Jx)
    (hY : ∀ mm pre x A, z ≤ A.heap.size → pre ++ [x] <+: tot → J pre A → YieldAt Fence.wide mm Try.prog l (encM b p c x) A fun e B =>
      (e = .returned (.bool true) ∧ J (pre ++ [x]) B ∧ PrivM O A B) ∨ (e = .returned (.bool false) ∧ Jx (pre ++ [x]) B ∧ PrivM O A B))
    (hO : ∀ k, O k → k < z) (hF : FillAt W b p c yb cb fb l) (hp : pre ++ [m] <+: tot) (h0 : J pre W) :
    CallsIn Fence.wide n Try.prog 119 #[.int .i64 3, msV m, .pointer (some ⟨yb, 0, none⟩), .pointer (some ⟨cb, 0, none⟩), .pointer (some ⟨fb, 0, none⟩)] W (FillPost O J Jx tot pre [m] W) := by
  have HJ := Lib.hid hJ
  have HJx := Lib.hid hJx
  have HY := Lib.hid hY
  have HF := Lib.hid hF
  have HO := Lib.hid hO
  have HP := Lib.hid hp
  have H0 := Lib.hid h0
  clear hJ hJx hY hF hO hp h0
  unfold msV
  refine callsIn_of_wp Try.func119 rfl trivial ?_ rfl
  simp only [Try.ntmps119, List.size_toArray, List.length_cons, List.length_nil, Nat.reduceAdd, Nat.reduceSub, Array.replicate_succ, Array.replicate_zero, List.push_toArray, List.append_toArray, List.nil_append, List.cons_append]
  refine wpIn_wide.2 ?_
  go_upto_region 2 with fail
  generalize hV : World.alloc _ _ = V
  have hBV : Below W.heap.size W V := by rw [← hV]; (exact belC)
  have hF := HF.out.bel hBV
  have hy0 := Blk.c1 hF.y
  have ly := hF.y.lt
  have hc0 := hF.c
  have lc := hc0.lt
  unfold ckcs at hc0
  have c0 := hc0.cell 0
  have c1 := hc0.cell 1
  have c2 := hc0.cell 2
  have c3 := hc0.cell 3
  have c4 := hc0.cell 4
  have c5 := hc0.cell 5
  have c6 := hc0.cell 6
  have c7 := hc0.cell 7
  have c8 := hc0.cell 8
  have c9 := hc0.cell 9
  simp only [List.size_toArray, List.length_cons, List.length_nil, Nat.reduceAdd, Nat.reduceLT, getElem?_pos, List.getElem_toArray, List.getElem_cons_zero, List.getElem_cons_succ] at c0 c1 c2 c3 c4 c5 c6 c7 c8 c9
  have k5 : Blk V W.heap.size 3 #[.int .i64 3] := by rw [← hV]; exact ((Blk.new rfl).alloc _).alloc _
  have k6 : Blk V (W.heap.size + 1) 106 #[.int .i64 m.a, .int .i64 m.b, .int .i64 m.c] := by rw [← hV]; exact (Blk.new (by simp)).alloc _
  have k7 : Blk V (W.heap.size + 1 + 1) 4 #[.bool false] := by rw [← hV]; exact Blk.new (by simp)
  have s0 := Blk.c1 k5
  obtain ⟨t0, t1, t2⟩ := Blk.c3 k6
  have l5 := k5.lt
  have l6 := k6.lt
  have K7 := Lib.hid k7
  have HBV := Lib.hid hBV
  have HFV := Lib.hid hF
  have HJV := Lib.hid (HJ.out _ _ _ H0.out hz (hBV.mono hz))
  have HVZ := Lib.hid hBV.size
  clear hV hBV hc0 hF k5 k6 k7
  refine (wpIn_wide (n := n)).1 ?_
  obtain ⟨fn, tmps, assign, body, hy, hR⟩ := HY.out _ pre m V (Nat.le_trans hz HVZ.out) HP.out HJV.out
  dsimp only [encM, stV] at hy
  gi_wp2_with fail
  refine hR.mono ?_
  rintro e B (⟨rfl, hJB, hS⟩ | ⟨rfl, hJB, hS⟩)
  · have k7 : Blk B (W.heap.size + 1 + 1) 4 #[.bool false] := (hS.block _ K7.out.lt (fun e => by have := HO.out _ e; omega)).trans K7.out
    have HS := Lib.hid hS
    have HJB := Lib.hid hJB
    have K7B := Lib.hid k7
    have hsB := hS.size
    have d0 := Blk.c1 k7
    have f0 := k7.frozen 0
    have l7 := k7.lt
    have hzB : z ≤ B.heap.size := Nat.le_trans (Nat.le_trans hz HVZ.out) hsB
    clear hS hJB hR hy k7 c0 c1 c2 c3 c4 c5 c6 c7 c8 c9 s0 t0 t1 t2 hy0 ly lc l5 l6
    gi_wp2_with fail
    have k8 : Blk (B.setCell ⟨W.heap.size + 1 + 1, 0, none⟩ (.bool true)) (W.heap.size + 1 + 1) 4 #[.bool true] := by simpa using K7B.out.set 0 (.bool true)
    have x0 := Blk.c1 k8
    clear k8
    go_wp2_with fail
    refine bodyPost_ret (v := .bool true) (by simp [results, Try.results119, go_sem, x0]) rfl (.inl ⟨rfl, HJ.out _ _ _ HJB.out hzB ((Below.refl _ _).setCell (by dsimp only; omega) _), PrivM.setNew ((PrivM.of_below HBV.out).trans HS.out) (by omega) _ _⟩)
  · have k7 : Blk B (W.heap.size + 1 + 1) 4 #[.bool false] := (hS.block _ K7.out.lt (fun e => by have := HO.out _ e; omega)).trans K7.out
    have HS := Lib.hid hS
    have HJB := Lib.hid hJB
    have K7B := Lib.hid k7
    have hsB := hS.size
    have d0 := Blk.c1 k7
    have f0 := k7.frozen 0
    have l7 := k7.lt
    have hzB : z ≤ B.heap.size := Nat.le_trans (Nat.le_trans hz HVZ.out) hsB
    clear hS hJB hR hy k7 c0 c1 c2 c3 c4 c5 c6 c7 c8 c9 s0 t0 t1 t2 hy0 ly lc l5 l6
    gi_wp2_with fail
    have k8 : Blk (B.setCell ⟨W.heap.size + 1 + 1, 0, none⟩ (.bool false)) (W.heap.size + 1 + 1) 4 #[.bool false] := by simpa using K7B.out.set 0 (.bool false)
    have x0 := Blk.c1 k8
    clear k8
    go_wp2_with fail
    refine bodyPost_ret (v := .bool false) (by simp [results, Try.results119, go_sem, x0]) rfl (.inr ⟨rfl, ⟨_, HP.out, HJx.out _ _ _ HJB.out hzB ((Below.refl _ _).setCell (by dsimp only; omega) _)⟩, PrivM.setNew ((PrivM.of_below HBV.out).trans HS.out) (by omega) _ _⟩)

end Go.Proofs.Ytpiadbdkiibdbaa

