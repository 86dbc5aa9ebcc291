/- Contracts of truths: the iterator over all truths, and its closure that calls itself. -/
/- Contract of truths' closure, where it goes on: by induction over the bounds that are left. -/
/- Contract of truths' iterator. -/
import Derived.Test.YtdmicngnbcdkdaaDoorRUa
import Derived.Test.YtdmicngnbcdkdaaDoorRTq
import Derived.Test.YtdmicngnbcdkdaaDoorRIt
import Derived.Test.YtdmicngnbcdkdaaDoorRUg
set_option linter.unusedSimpArgs false
set_option linter.unusedVariables false
namespace Go.Proofs.YtdmicngnbcdkdaaDoor
open Go Go.RowKit Go.Maps Go.Shelf

def MS (b : Bk) : List (List Int) := b.bs.map (fun s => mins s.1 s.2)
/-- All truths, as lists of minutes. -/
def allT (b : Bk) : List (List Int) := prodL (MS b)
def encT (v : List Int) : Array Value := #[.agg ((tl v).map (Value.int .i64)).toArray]
theorem encT_of {v : List Int} {c0 c1 c2 c3 : Int} (h : tl v = [c0, c1, c2, c3]) : encT v = #[.agg #[.int .i64 c0, .int .i64 c1, .int .i64 c2, .int .i64 c3]] := by unfold encT; rw [h]; rfl

/-- What lies in the cells of a truth that is filled up to a bound. -/
def TOK (n k : Nat) (v : List Int) (c : List Int) : Prop := c.length = 4 ∧ (∀ j, j < k → c.getD j 0 = v.getD j 0) ∧ ∀ j, n ≤ j → j < 4 → c.getD j 0 = 1440
theorem TOK.full {n : Nat} {v : List Int} {c0 c1 c2 c3 : Int} (h : TOK n n v [c0, c1, c2, c3]) (hv : v.length = n) (hn : n ≤ 4) : tl v = [c0, c1, c2, c3] := by
  obtain ⟨_, h1, h2⟩ := h
  subst hv
  rcases four v hn with rfl | ⟨x, rfl⟩ | ⟨x, y, rfl⟩ | ⟨x, y, z, rfl⟩ | ⟨x, y, z, u, rfl⟩
  · have a0 := h2 0 (by simp) (by omega)
    have a1 := h2 1 (by simp) (by omega)
    have a2 := h2 2 (by simp) (by omega)
    have a3 := h2 3 (by simp) (by omega)
    simp at a0 a1 a2 a3; simp [tl, a0, a1, a2, a3]
  · have a0 := h1 0 (by simp)
    have a1 := h2 1 (by simp) (by omega)
    have a2 := h2 2 (by simp) (by omega)
    have a3 := h2 3 (by simp) (by omega)
    simp at a0 a1 a2 a3; simp [tl, a0, a1, a2, a3]
  · have a0 := h1 0 (by simp)
    have a1 := h1 1 (by simp)
    have a2 := h2 2 (by simp) (by omega)
    have a3 := h2 3 (by simp) (by omega)
    simp at a0 a1 a2 a3; simp [tl, a0, a1, a2, a3]
  · have a0 := h1 0 (by simp)
    have a1 := h1 1 (by simp)
    have a2 := h1 2 (by simp)
    have a3 := h2 3 (by simp) (by omega)
    simp at a0 a1 a2 a3; simp [tl, a0, a1, a2, a3]
  · have a0 := h1 0 (by simp)
    have a1 := h1 1 (by simp)
    have a2 := h1 2 (by simp)
    have a3 := h1 3 (by simp)
    simp at a0 a1 a2 a3; simp [tl, a0, a1, a2, a3]
theorem TOK.set {n k : Nat} {v c : List Int} (h : TOK n k v c) (hv : v.length = k) (hk : k < n) (hn : n ≤ 4) (m : Int) : TOK n (k + 1) (v ++ [m]) (c.set k m) := by
  obtain ⟨h0, h1, h2⟩ := h
  refine ⟨by simp [h0], fun j hj => ?_, fun j hj hj4 => ?_⟩
  · rcases Nat.lt_or_ge j k with hjk | hjk
    · have := h1 j hjk
      simp only [List.getD_eq_getElem?_getD] at this ⊢
      rw [List.getElem?_set_ne (by omega), List.getElem?_append_left (by omega)]
      exact this
    · have e : j = k := by omega
      subst e
      simp only [List.getD_eq_getElem?_getD]
      rw [List.getElem?_set_self (by omega), List.getElem?_append_right (by omega)]
      simp [hv]
  · have := h2 j hj hj4
    simp only [List.getD_eq_getElem?_getD] at this ⊢
    rw [List.getElem?_set_ne (by omega)]
    exact this
theorem TOK.less {n k : Nat} {v c : List Int} {m : Int} (h : TOK n (k + 1) (v ++ [m]) c) (hv : v.length = k) : TOK n k v c := by
  obtain ⟨h0, h1, h2⟩ := h
  refine ⟨h0, fun j hj => ?_, h2⟩
  have := h1 j (by omega)
  simp only [List.getD_eq_getElem?_getD] at this ⊢
  rw [List.getElem?_append_left (by omega)] at this
  exact this

/-- All truths that go on from some minutes. -/
def goOn (b : Bk) (k : Nat) (v : List Int) : List (List Int) := (prodL ((MS b).drop k)).map (v ++ ·)
def goOns (b : Bk) (k : Nat) (v xs : List Int) : List (List Int) := xs.flatMap (fun m => goOn b (k + 1) (v ++ [m]))
theorem goOn_end (b : Bk) (v : List Int) : goOn b b.bs.length v = [v] := by
  unfold goOn; rw [List.drop_eq_nil_of_le (by simp [MS])]; simp [prodL]
theorem goOn_step (b : Bk) (k : Nat) (v : List Int) (lo hi : Int) (h : b.bs[k]? = some (lo, hi)) : goOn b k v = goOns b k v (mins lo hi) := by
  have hm : (MS b)[k]? = some (mins lo hi) := by simp [MS, h]
  unfold goOn goOns goOn
  rw [drop_of_get hm]
  simp only [prodL, List.map_flatMap, List.map_map]
  congr 1
  funext m
  apply List.map_congr_left
  intro u _
  simp
theorem goOns_snoc (b : Bk) (k : Nat) (v xs : List Int) (m : Int) : goOns b k v (xs ++ [m]) = goOns b k v xs ++ goOn b (k + 1) (v ++ [m]) := by simp [goOns]
theorem goOns_prefix (b : Bk) (k : Nat) (v : List Int) {xs ys : List Int} (h : xs <+: ys) : goOns b k v xs <+: goOns b k v ys := by
  obtain ⟨zs, rfl⟩ := h
  exact ⟨goOns b k v zs, by simp [goOns]⟩

theorem truths_any (h : Hd) (b : Bk) (B : Nat) (w : World) : Calls Tryd.prog 74 #[.agg #[.int .i64 b.n, .slice h.pb b.bs.length h.cb, .slice h.po b.os.length h.co, .slice h.ps b.ss.length h.cs, .int .i64 (kspec b.bs 2 0 0), .int .i64 (kspec b.bs 2 0 1), .int .i64 (kspec b.bs 2 0 2), .int .i64 (kspec b.bs 2 0 3), .int .i64 (kspec b.bs 2 0 4), .int .i64 (kspec b.bs 2 0 5), .int .i64 (kspec b.bs 2 0 6), .int .i64 (kspec b.bs 2 0 7), .map (some B)]] w fun e w' =>
    ∃ g : Nat, e = .returned (.func (.func 90) #[] #[.pointer (some ⟨g, 0, none⟩)]) ∧ w.heap.size ≤ g ∧ Blk w' g 83 (cvcells h b B) ∧ ∃ x, w' = ext w x := by
  go_enter Tryd.func74, Tryd.ntmps74
  go_wp2
  go_ret
  exact ⟨w.heap.size, rfl, Nat.le_refl _, Blk.new rfl, by (exact ext_of (by (repeat (first | (with_reducible exact Below.refl _ _) | (with_reducible assumption) | ((with_reducible refine below_ext_trans ?_ ?_ _); rotate_left; focus (((try dsimp only); repeat (first | omega | simp only [World.size_alloc, World.size_setCell, World.size_drew] | (with_reducible refine le_ext_of ?_) | (with_reducible refine le_ext_add ?_))); done)) | ((with_reducible refine Below.alloc ?_ ?_ _); rotate_left; focus (((try dsimp only); repeat (first | omega | simp only [World.size_alloc, World.size_setCell, World.size_drew] | (with_reducible refine le_ext_of ?_) | (with_reducible refine le_ext_add ?_))); done)) | ((with_reducible refine Below.setCell ?_ ?_ _); rotate_left; focus (((try dsimp only); repeat (first | omega | simp only [World.size_alloc, World.size_setCell, World.size_drew] | (with_reducible refine le_ext_of ?_) | (with_reducible refine le_ext_add ?_))); done)) | (with_reducible refine Below.drew ?_)))))⟩

section
variable {b : Bk} {h : Hd} {B : Nat} {w0 W : World} {O : Nat → Prop} {J Jx : (Nat → Prop) → List (List Int) → World → Prop} {l cb yb tb sb : Nat}

abbrev setV (cb yb tb sb : Nat) : Value := .func (.func 91) #[] #[.pointer (some ⟨cb, 0, none⟩), .pointer (some ⟨yb, 0, none⟩), .pointer (some ⟨tb, 0, none⟩), .pointer (some ⟨sb, 0, none⟩)]
/-- What all calls of the closure lean on. -/
structure TW (b : Bk) (h : Hd) (B : Nat) (w0 W : World) (l cb yb tb sb : Nat) (A : World) : Prop where
  low : Below w0.heap.size w0 A
  size : W.heap.size ≤ A.heap.size
  c : Blk A cb 83 (cvcells h b B)
  y : Blk A yb 125 #[.func (.yield l) #[] #[]]
  s : Blk A sb 86 #[setV cb yb tb sb]
def KM (W : World) (O : Nat → Prop) (tb : Nat) (M : Nat → Prop) (j : Nat) : Prop := (j < W.heap.size ∧ ¬ O j) ∨ (M j ∧ j ≠ tb)
theorem TW.kept {A C : World} {M : Nat → Prop} (k : TW b h B w0 W l cb yb tb sb A) (hs : SpareM (KM W O tb M) A C) (hO : ∀ j, O j → w0.heap.size ≤ j ∧ j ≠ cb) (h0 : w0.heap.size ≤ W.heap.size) (hcb : cb < W.heap.size)
    (hy : M yb) (hsb : M sb) (hyt : yb ≠ tb) (hst : sb ≠ tb) : TW b h B w0 W l cb yb tb sb C :=
  ⟨k.low.trans ⟨hs.os, hs.tape, hs.output, hs.size, fun j hj => hs.block j (.inl ⟨by omega, fun e => by have := (hO j e).1; omega⟩)⟩, Nat.le_trans k.size hs.size,
    (hs.block cb (.inl ⟨hcb, fun e => (hO cb e).2 rfl⟩)).trans k.c, (hs.block yb (.inr ⟨hy, hyt⟩)).trans k.y, (hs.block sb (.inr ⟨hsb, hst⟩)).trans k.s⟩
theorem TW.grow {A C : World} (k : TW b h B w0 W l cb yb tb sb A) (hb : Below A.heap.size A C) : TW b h B w0 W l cb yb tb sb C :=
  ⟨k.low.trans (hb.mono k.low.size), Nat.le_trans k.size hb.size, (hb.block _ k.c.lt).trans k.c, (hb.block _ k.y.lt).trans k.y, (hb.block _ k.s.lt).trans k.s⟩

/-- What a call of the closure hands back. -/
def SetPost (b : Bk) (W : World) (O : Nat → Prop) (J Jx : (Nat → Prop) → List (List Int) → World → Prop) (tb k : Nat) (v : List Int) (M : Nat → Prop) (pre : List (List Int)) (A : World) (e : Ending) (C : World) : Prop :=
  SpareM (KM W O tb M) A C ∧ (∃ c0 c1 c2 c3 : Int, TOK b.bs.length k v [c0, c1, c2, c3] ∧ Blk C tb 78 #[.int .i64 c0, .int .i64 c1, .int .i64 c2, .int .i64 c3]) ∧
    ((e = .returned (.bool true) ∧ J M (pre ++ goOn b k v) C) ∨ (e = .returned (.bool false) ∧ ∃ pre', pre' <+: allT b ∧ Jx M pre' C))

attribute [local go_sem] Oper.semAt_some frozen_alloc_lt
set_option maxRecDepth 100000 in
set_option maxHeartbeats 4000000 in
theorem set_end (m : Nat) (M : Nat → Prop) (pre : List (List Int)) (v : List Int) (A : World) (c0 c1 c2 c3 : Int) (h4 : b.bs.length ≤ 4)
    (hJ : StableM (fun _ => False) J) (hJx : StableM (fun _ => False) Jx) (hcb : cb < W.heap.size) (hO : ∀ j, O j → w0.heap.size ≤ j ∧ j ≠ cb) (hOW : ∀ j, O j → j < W.heap.size)
    (hY : ∀ m M pre x A, (∀ k, M k → W.heap.size ≤ k ∧ k < A.heap.size) → W.heap.size ≤ A.heap.size → pre ++ [x] <+: allT b → J M pre A → YieldAt Fence.wide m Tryd.prog l (encT x) A fun e B =>
      (e = .returned (.bool true) ∧ J M (pre ++ [x]) B ∧ SpareM (fun k => (k < W.heap.size ∧ ¬ O k) ∨ M k) A B) ∨ (e = .returned (.bool false) ∧ Jx M (pre ++ [x]) B ∧ SpareM (fun k => (k < W.heap.size ∧ ¬ O k) ∨ M k) A B))
    (hv : v.length = b.bs.length) (hM : ∀ j, M j → W.heap.size ≤ j ∧ j < A.heap.size) (htM : M tb)
    (hT : TW b h B w0 W l cb yb tb sb A) (ht : Blk A tb 78 #[.int .i64 c0, .int .i64 c1, .int .i64 c2, .int .i64 c3]) (hok : TOK b.bs.length b.bs.length v [c0, c1, c2, c3]) (hj : J M pre A) (hpre : pre ++ [v] <+: allT b) :
    CallsIn Fence.wide m Tryd.prog 91 #[.int .i64 (b.bs.length : Nat), .pointer (some ⟨cb, 0, none⟩), .pointer (some ⟨yb, 0, none⟩), .pointer (some ⟨tb, 0, none⟩), .pointer (some ⟨sb, 0, none⟩)] A (SetPost b W O J Jx tb b.bs.length v M pre A) := by
  refine callsIn_of_wp_marks Tryd.func91 rfl trivial ?_ rfl
  simp only [Tryd.ntmps91, List.size_toArray, List.length_cons, List.length_nil, Nat.reduceAdd, Nat.reduceSub, Array.replicate_succ, Array.replicate_zero, List.push_toArray, List.append_toArray, List.nil_append, List.cons_append]
  have d1 : A.cell? ⟨cb, 1, none⟩ = some (.slice h.pb b.bs.length h.cb) := (cvBlk hT.c).2.1
  have y0 := hT.y.cell 0
  have t0 := ht.cell 0
  have t1 := ht.cell 1
  have t2 := ht.cell 2
  have t3 := ht.cell 3
  simp only [List.size_toArray, List.length_cons, List.length_nil, Nat.reduceAdd, Nat.reduceLT, getElem?_pos, List.getElem_toArray, List.getElem_cons_zero, List.getElem_cons_succ] at y0 t0 t1 t2 t3
  have lc := hT.c.lt
  have ly := hT.y.lt
  have lt := ht.lt
  have lc' := Nat.le_of_lt lc
  have ly' := Nat.le_of_lt ly
  have lt' := Nat.le_of_lt lt
  have lc1 : cb < A.heap.size + 1 := by omega
  have ly1 : yb < A.heap.size + 1 := by omega
  have lt1 : tb < A.heap.size + 1 := by omega
  have HT := Lib.hid hT
  have HTB := Lib.hid ht
  have HOK := Lib.hid hok
  have HJ := Lib.hid hj
  have HM := Lib.hid hM
  have HE := Lib.hid (encT_of (TOK.full hok hv h4))
  have HYP : Hid (∀ A2, Below A.heap.size A A2 → YieldAt Fence.wide (m - 1) Tryd.prog l (encT v) A2 fun e C => (e = .returned (.bool true) ∧ J (fun k => M k ∨ (A.heap.size ≤ k ∧ k < A2.heap.size)) (pre ++ [v]) C ∧ SpareM (fun k => (k < W.heap.size ∧ ¬ O k) ∨ (M k ∨ (A.heap.size ≤ k ∧ k < A2.heap.size))) A2 C) ∨ (e = .returned (.bool false) ∧ Jx (fun k => M k ∨ (A.heap.size ≤ k ∧ k < A2.heap.size)) (pre ++ [v]) C ∧ SpareM (fun k => (k < W.heap.size ∧ ¬ O k) ∨ (M k ∨ (A.heap.size ≤ k ∧ k < A2.heap.size))) A2 C)) := Lib.hid (fun A2 hA => by
    have hs := hA.size
    have hz := hT.size
    refine hY (m - 1) _ pre v A2 (fun k hk => ?_) (by omega) hpre (hJ M _ pre A A2 hj (PrivM.of_below hA) (fun k hk => ?_))
    · rcases hk with hk | hk
      · have := hM k hk; omega
      · omega
    · rcases hk with hk | hk
      · exact .inl hk
      · exact .inr hk.1)
  clear hT ht hok hj hM hY
  have hA2 : Below A.heap.size A ((A.alloc (.cells #[.int .i64 (b.bs.length : Nat)] 3)).alloc (.cells #[.bool false] 4)) := by (repeat (first | (with_reducible exact Below.refl _ _) | (with_reducible assumption) | ((with_reducible refine below_ext_trans ?_ ?_ _); rotate_left; focus (((try dsimp only); repeat (first | omega | simp only [World.size_alloc, World.size_setCell, World.size_drew] | (with_reducible refine le_ext_of ?_) | (with_reducible refine le_ext_add ?_))); done)) | ((with_reducible refine Below.alloc ?_ ?_ _); rotate_left; focus (((try dsimp only); repeat (first | omega | simp only [World.size_alloc, World.size_setCell, World.size_drew] | (with_reducible refine le_ext_of ?_) | (with_reducible refine le_ext_add ?_))); done)) | ((with_reducible refine Below.setCell ?_ ?_ _); rotate_left; focus (((try dsimp only); repeat (first | omega | simp only [World.size_alloc, World.size_setCell, World.size_drew] | (with_reducible refine le_ext_of ?_) | (with_reducible refine le_ext_add ?_))); done)) | (with_reducible refine Below.drew ?_)))
  have hr6 : Blk ((A.alloc (.cells #[.int .i64 (b.bs.length : Nat)] 3)).alloc (.cells #[.bool false] 4)) (A.heap.size + 1) 4 #[.bool false] := Blk.new (by simp)
  have hz2 : ((A.alloc (.cells #[.int .i64 (b.bs.length : Nat)] 3)).alloc (.cells #[.bool false] 4)).heap.size = A.heap.size + 2 := by simp
  obtain ⟨fn, tmps, assign, body, hy, hR⟩ := HYP.out _ hA2
  rw [HE.out] at hy
  have HA2 := Lib.hid hA2
  have HR6 := Lib.hid hr6
  have HZ2 := Lib.hid hz2
  clear hA2 hr6 hz2
  gi_wp2_with fail
  refine hR.mono ?_
  clear hR hy
  rintro e C hC
  -- what both ways share
  have hS : SpareM (fun k => (k < W.heap.size ∧ ¬ O k) ∨ (M k ∨ (A.heap.size ≤ k ∧ k < A.heap.size + 2))) ((A.alloc (.cells #[.int .i64 (b.bs.length : Nat)] 3)).alloc (.cells #[.bool false] 4)) C := by
    rw [HZ2.out] at hC
    rcases hC with ⟨_, _, h3⟩ | ⟨_, _, h3⟩ <;> exact h3
  have h6 : Blk C (A.heap.size + 1) 4 #[.bool false] := (hS.block _ (.inr (.inr (by omega)))).trans HR6.out
  have hz : A.heap.size ≤ W.heap.size ∨ W.heap.size ≤ A.heap.size := Nat.le_total _ _
  have hWA := HT.out.size
  have hk : ∀ (x : Bool), SpareM (KM W O tb M) A (C.setCell ⟨A.heap.size + 1, 0, none⟩ (.bool x)) := fun x => by
    have a1 : SpareM (KM W O tb M) A ((A.alloc (.cells #[.int .i64 (b.bs.length : Nat)] 3)).alloc (.cells #[.bool false] 4)) := SpareM.of_below HA2.out (fun j hj => by
      rcases hj with hj | hj
      · omega
      · have := (HM.out j hj.1).2; omega)
    refine (a1.trans (hS.imp (fun j hj => ?_))).trans (SpareM.setCell _ (fun hj => ?_) 0 _)
    · rcases hj with hj | hj
      · exact .inl hj
      · exact .inr (.inl hj.1)
    · rcases hj with hj | hj
      · omega
      · have := (HM.out _ hj.1).2; omega
  have htb : ∀ (x : Bool), Blk (C.setCell ⟨A.heap.size + 1, 0, none⟩ (.bool x)) tb 78 #[.int .i64 c0, .int .i64 c1, .int .i64 c2, .int .i64 c3] := fun x =>
    Blk.setOther ((hS.block _ (.inr (.inl htM))).trans ((HA2.out.block _ HTB.out.lt).trans HTB.out)) (by have := HTB.out.lt; omega) 0 _
  have hst : ∀ (X : (Nat → Prop) → List (List Int) → World → Prop), StableM (fun _ => False) X → ∀ (x : Bool) q, X (fun k => M k ∨ (A.heap.size ≤ k ∧ k < A.heap.size + 2)) q C → X M q (C.setCell ⟨A.heap.size + 1, 0, none⟩ (.bool x)) := fun X hX x q hx =>
    hX _ M q C _ hx (PrivM.setCell C (.inl (.inr (by omega))) 0 _) (fun k hk => .inl (.inl hk))
  have e60 := h6.cell 0
  have f60 := h6.frozen 0
  have l6 := h6.lt
  simp only [List.size_toArray, List.length_cons, List.length_nil, Nat.reduceAdd, Nat.reduceLT, getElem?_pos, List.getElem_toArray, List.getElem_cons_zero, List.getElem_cons_succ] at e60
  have HK := Lib.hid hk
  have HTB2 := Lib.hid htb
  have HST := Lib.hid hst
  have H6 := Lib.hid h6
  clear hk htb hst hS h6
  rcases hC with ⟨rfl, hj2, -⟩ | ⟨rfl, hj2, -⟩
  · rw [HZ2.out] at hj2
    have HJ2 := Lib.hid hj2
    clear hj2
    gi_wp2_with fail
    have hf := Blk.set1 (v := .bool true) H6.out
    have r0 := hf.cell 0
    have rl := hf.lt
    simp only [List.size_toArray, List.length_cons, List.length_nil, Nat.reduceAdd, Nat.reduceLT, getElem?_pos, List.getElem_toArray, List.getElem_cons_zero, List.getElem_cons_succ] at r0
    refine ⟨.bool true, by simp [results, Tryd.results91, go_sem, r0, rl], HK.out true, ⟨c0, c1, c2, c3, HOK.out, HTB2.out true⟩, .inl ⟨rfl, ?_⟩⟩
    rw [goOn_end]
    exact HST.out J hJ true _ HJ2.out
  · rw [HZ2.out] at hj2
    have HJ2 := Lib.hid hj2
    clear hj2
    gi_wp2_with fail
    have hf := Blk.set1 (v := .bool false) H6.out
    have r0 := hf.cell 0
    have rl := hf.lt
    simp only [List.size_toArray, List.length_cons, List.length_nil, Nat.reduceAdd, Nat.reduceLT, getElem?_pos, List.getElem_toArray, List.getElem_cons_zero, List.getElem_cons_succ] at r0
    exact ⟨.bool false, by simp [results, Tryd.results91, go_sem, r0, rl], HK.out false, ⟨c0, c1, c2, c3, HOK.out, HTB2.out false⟩, .inr ⟨rfl, _, hpre, HST.out Jx hJx false _ HJ2.out⟩⟩
end
end Go.Proofs.YtdmicngnbcdkdaaDoor

namespace Go.Proofs.YtdmicngnbcdkdaaDoor
open Go Go.RowKit Go.Maps Go.Shelf

section
variable {b : Bk} {h : Hd} {B : Nat} {w0 W : World} {O : Nat → Prop} {J Jx : (Nat → Prop) → List (List Int) → World → Prop} {l cb yb tb sb : Nat}

theorem set_cells (c0 c1 c2 c3 x : Int) (k : Nat) (hk : k < 4) : ∃ d0 d1 d2 d3 : Int, [c0, c1, c2, c3].set k x = [d0, d1, d2, d3] ∧
    (#[.int .i64 c0, .int .i64 c1, .int .i64 c2, .int .i64 c3] : Array Value).setIfInBounds k (.int .i64 x) = #[.int .i64 d0, .int .i64 d1, .int .i64 d2, .int .i64 d3] := by
  rcases four_cases hk with rfl | rfl | rfl | rfl
  · exact ⟨x, c1, c2, c3, rfl, rfl⟩
  · exact ⟨c0, x, c2, c3, rfl, rfl⟩
  · exact ⟨c0, c1, x, c3, rfl, rfl⟩
  · exact ⟨c0, c1, c2, x, rfl, rfl⟩
theorem get_cells (c0 c1 c2 c3 : Int) (k : Nat) (hk : k < 4) : ∃ d : Int, (#[.int .i64 c0, .int .i64 c1, .int .i64 c2, .int .i64 c3] : Array Value)[k]? = some (.int .i64 d) := by
  rcases four_cases hk with rfl | rfl | rfl | rfl
  · exact ⟨c0, rfl⟩
  · exact ⟨c1, rfl⟩
  · exact ⟨c2, rfl⟩
  · exact ⟨c3, rfl⟩

attribute [local go_sem] Oper.semAt_some frozen_alloc_lt
set_option maxRecDepth 100000 in
set_option maxHeartbeats 4000000 in
theorem set_in (h4 : b.bs.length ≤ 4) (hK : CoveOK w0 h b B)
    (hJ : StableM (fun _ => False) J) (hJx : StableM (fun _ => False) Jx) (h0 : w0.heap.size ≤ W.heap.size) (hcb : cb < W.heap.size) (hO : ∀ j, O j → w0.heap.size ≤ j ∧ j ≠ cb) (hOW : ∀ j, O j → j < W.heap.size)
    (hY : ∀ m M pre x A, (∀ k, M k → W.heap.size ≤ k ∧ k < A.heap.size) → W.heap.size ≤ A.heap.size → pre ++ [x] <+: allT b → J M pre A → YieldAt Fence.wide m Tryd.prog l (encT x) A fun e B =>
      (e = .returned (.bool true) ∧ J M (pre ++ [x]) B ∧ SpareM (fun k => (k < W.heap.size ∧ ¬ O k) ∨ M k) A B) ∨ (e = .returned (.bool false) ∧ Jx M (pre ++ [x]) B ∧ SpareM (fun k => (k < W.heap.size ∧ ¬ O k) ∨ M k) A B))
    (hyt : yb ≠ tb) (hst : sb ≠ tb) :
    ∀ (d k m : Nat) (M : Nat → Prop) (pre : List (List Int)) (v : List Int) (A : World) (c0 c1 c2 c3 : Int), k + d = b.bs.length → v.length = k → (∀ j, M j → W.heap.size ≤ j ∧ j < A.heap.size) → M tb → M yb → M sb →
      TW b h B w0 W l cb yb tb sb A → Blk A tb 78 #[.int .i64 c0, .int .i64 c1, .int .i64 c2, .int .i64 c3] → TOK b.bs.length k v [c0, c1, c2, c3] → J M pre A → pre ++ goOn b k v <+: allT b →
      CallsIn Fence.wide m Tryd.prog 91 #[.int .i64 (k : Nat), .pointer (some ⟨cb, 0, none⟩), .pointer (some ⟨yb, 0, none⟩), .pointer (some ⟨tb, 0, none⟩), .pointer (some ⟨sb, 0, none⟩)] A (SetPost b W O J Jx tb k v M pre A) := by
  intro d
  induction d with
  | zero =>
    intro k m M pre v A c0 c1 c2 c3 hkd hv hM htM hyM hsM hT ht hok hj hpre
    obtain rfl : k = b.bs.length := by omega
    rw [goOn_end] at hpre
    exact set_end m M pre v A c0 c1 c2 c3 h4 hJ hJx hcb hO hOW hY hv hM htM hT ht hok hj hpre
  | succ d ih =>
    intro k m M pre v A c0 c1 c2 c3 hkd hv hM htM hyM hsM hT ht hok hj hpre
    have hkn : k < b.bs.length := by omega
    obtain ⟨⟨lo, hi⟩, hs⟩ := get_some b.bs k hkn
    have hMom : Mom lo hi := chain_mom (bookB_bounds hK.ok).2.2 (lo, hi) (List.mem_of_getElem? hs)
    obtain ⟨bb, o, hp, hbb, e1, e2⟩ := (hK.bk.below hT.low).bs k _ hs
    rw [goOn_step b k v lo hi hs] at hpre
    refine callsIn_of_wp_marks Tryd.func91 rfl trivial ?_ rfl
    simp only [Tryd.ntmps91, List.size_toArray, List.length_cons, List.length_nil, Nat.reduceAdd, Nat.reduceSub, Array.replicate_succ, Array.replicate_zero, List.push_toArray, List.append_toArray, List.nil_append, List.cons_append]
    have d1 : A.cell? ⟨cb, 1, none⟩ = some (.slice h.pb b.bs.length h.cb) := (cvBlk hT.c).2.1
    rw [hp] at d1
    dsimp only at e1 e2
    have lc := hT.c.lt
    have lc' := Nat.le_of_lt lc
    have lc1 : cb < A.heap.size + 1 := by omega
    have hbb' := Nat.le_of_lt hbb
    have hbb1 : bb < A.heap.size + 1 := by omega
    have hne : ((k : Int) == (b.bs.length : Int)) = false := by simp; omega
    have hk0 : (0 : Int) ≤ (k : Int) := by omega
    have hkl : (k : Int) < (b.bs.length : Int) := by omega
    have HT := Lib.hid hT
    have HTB := Lib.hid ht
    have HOK := Lib.hid hok
    have HJ := Lib.hid hj
    have HM := Lib.hid hM
    have HV := Lib.hid hv
    have HPRE := Lib.hid hpre
    have HSK := Lib.hid hs
    have HIH := Lib.hid ih
    have HY := Lib.hid hY
    have hWA := hT.size
    clear hT ht hok hj hM hv hpre hs ih hY
    gi_wp2_with (gi_at_call 79; refine (callsIn_wide.2 (minutes_any _ _ _)).mono ?_; rintro e w' ⟨gm, rfl, hgm, hbm, y5, rfl⟩)
    generalize hR0 : (A.alloc (.cells #[.int .i64 (k : Nat)] 3)).alloc (.cells #[.bool false] 4) = R0 at *
    have hA0 : Below A.heap.size A R0 := by rw [← hR0]; (repeat (first | (with_reducible exact Below.refl _ _) | (with_reducible assumption) | ((with_reducible refine below_ext_trans ?_ ?_ _); rotate_left; focus (((try dsimp only); repeat (first | omega | simp only [World.size_alloc, World.size_setCell, World.size_drew] | (with_reducible refine le_ext_of ?_) | (with_reducible refine le_ext_add ?_))); done)) | ((with_reducible refine Below.alloc ?_ ?_ _); rotate_left; focus (((try dsimp only); repeat (first | omega | simp only [World.size_alloc, World.size_setCell, World.size_drew] | (with_reducible refine le_ext_of ?_) | (with_reducible refine le_ext_add ?_))); done)) | ((with_reducible refine Below.setCell ?_ ?_ _); rotate_left; focus (((try dsimp only); repeat (first | omega | simp only [World.size_alloc, World.size_setCell, World.size_drew] | (with_reducible refine le_ext_of ?_) | (with_reducible refine le_ext_add ?_))); done)) | (with_reducible refine Below.drew ?_)))
    have hz0 : R0.heap.size = A.heap.size + 2 := by rw [← hR0]; simp
    have q5 : Blk R0 A.heap.size 3 #[.int .i64 (k : Nat)] := by rw [← hR0]; exact (Blk.new rfl).alloc _
    have q6 : Blk R0 (A.heap.size + 1) 4 #[.bool false] := by rw [← hR0]; exact Blk.new (by simp)
    have hAR : Below A.heap.size A (ext R0 y5) := hA0.trans ((below_ext R0 y5).mono hA0.size)
    have hzR : R0.heap.size ≤ (ext R0 y5).heap.size := (below_ext R0 y5).size
    replace q5 : Blk (ext R0 y5) A.heap.size 3 #[.int .i64 (k : Nat)] := q5.ext y5
    replace q6 : Blk (ext R0 y5) (A.heap.size + 1) 4 #[.bool false] := q6.ext y5
    clear hA0 hR0
    generalize ext R0 y5 = R at *
    have hgl := hbm.lt
    have hseq := minutes1_in (m - 1) gm lo hi (fun j => (O j ∨ j = tb ∨ j = A.heap.size + 1 ∨ (W.heap.size ≤ j ∧ j < A.heap.size ∧ ¬ M j)) ∨ j = R.heap.size + 1) R hbm hMom (fun j hj => by
      rcases hj with (hj | hj | hj | hj) | hj
      · have := hOW j hj; omega
      · have := (HM.out tb htM).2; omega
      · omega
      · omega
      · omega)
    refine wpIn_rangeFunc_w (gf := 95) (lb := #[.pointer (some ⟨gm, 0, none⟩)]) rfl (enters_of Tryd.func95 (by kernel_rfl) rfl)
      (fun j => O j ∨ j = tb ∨ j = A.heap.size + 1 ∨ (W.heap.size ≤ j ∧ j < A.heap.size ∧ ¬ M j)) (fun j hj => by
        rcases hj with hj | hj | hj | hj
        · have := hOW j hj; omega
        · have := (HM.out tb htM).2; omega
        · omega
        · omega) hseq (Below.refl _ _) (fun _ => rfl)
      (fun n1 xs W' => J (fun j => M j ∨ (A.heap.size ≤ j ∧ j < n1)) (pre ++ goOns b k v xs) W' ∧ TW b h B w0 W l cb yb tb sb W' ∧ (∃ c0 c1 c2 c3 : Int, TOK b.bs.length k v [c0, c1, c2, c3] ∧ Blk W' tb 78 #[.int .i64 c0, .int .i64 c1, .int .i64 c2, .int .i64 c3]) ∧ Blk W' A.heap.size 3 #[.int .i64 (k : Nat)] ∧ Blk W' (A.heap.size + 1) 4 #[.bool false] ∧ SpareM (KM W O tb M) A W')
      (fun n1 c xs W' => c = .ret ∧ (∃ pre', pre' <+: allT b ∧ Jx (fun j => M j ∨ (A.heap.size ≤ j ∧ j < n1)) pre' W') ∧ (∃ c0 c1 c2 c3 : Int, TOK b.bs.length k v [c0, c1, c2, c3] ∧ Blk W' tb 78 #[.int .i64 c0, .int .i64 c1, .int .i64 c2, .int .i64 c3]) ∧ Blk W' (A.heap.size + 1) 4 #[.bool false] ∧ SpareM (KM W O tb M) A W')
      (fun n1 pre x a' W' => a' = { tmps := #[.int .i64 (k : Nat), .pointer (some ⟨cb, 0, none⟩), .pointer (some ⟨yb, 0, none⟩), .pointer (some ⟨tb, 0, none⟩), .pointer (some ⟨sb, 0, none⟩), .pointer (some ⟨A.heap.size, 0, none⟩), .pointer (some ⟨A.heap.size + 1, 0, none⟩), .int .i64 x, .int .i64 k, .pointer (some ⟨cb, 0, none⟩), .pointer (some ⟨cb, 1, none⟩), .slice (some ⟨bb, o, none⟩) b.bs.length h.cb, .int .i64 (b.bs.length : Nat), .bool false, undef, undef, undef, .pointer (some ⟨cb, 0, none⟩), .pointer (some ⟨cb, 1, none⟩), .slice (some ⟨bb, o, none⟩) b.bs.length h.cb, .int .i64 k, .pointer (some ⟨bb, o + k * 2, none⟩), .agg #[.int .i64 lo, .int .i64 hi], .func (.func 95) #[] #[.pointer (some ⟨gm, 0, none⟩)], .int .i64 x, undef, undef, undef, undef, undef, undef, undef, undef], defers := [] })
      ?hI ?hIx ?hAx ?h0 ?hassign ?hbody ?hdone ?hstop
    case hI =>
      rintro n1 xs A' C hn hA' ⟨i1, i2, ⟨c0', c1', c2', c3', i3, i4⟩, i5, i6, i7⟩ hp
      have hlA := (HM.out tb htM).2
      have hp2 : PrivM (fun j => (M j ∨ (A.heap.size ≤ j ∧ j < n1)) ∨ False) A' C := ⟨hp.os, hp.tape, hp.output, hp.size, fun j hj hnj => hp.block j hj (by
        by_cases h1 : j < R.heap.size
        · exact .inl h1
        · refine .inr (Nat.le_of_not_lt (fun h2 => hnj (.inl (.inr ⟨by omega, h2⟩)))))⟩
      refine ⟨hJ _ _ _ A' C i1 hp2 (fun j hj => .inl hj), ⟨i2.low.trans (hp.below (by omega) i2.low.size), Nat.le_trans i2.size hp.size, (hp.block _ i2.c.lt (.inl (by omega))).trans i2.c, (hp.block _ i2.y.lt (.inl (by have := (HM.out yb hyM).2; omega))).trans i2.y, (hp.block _ i2.s.lt (.inl (by have := (HM.out sb hsM).2; omega))).trans i2.s⟩,
        ⟨c0', c1', c2', c3', i3, (hp.block _ i4.lt (.inl (by omega))).trans i4⟩, (hp.block _ i5.lt (.inl (by omega))).trans i5, (hp.block _ i6.lt (.inl (by omega))).trans i6, i7.trans ⟨hp.os, hp.tape, hp.output, hp.size, fun j hj => ?_⟩⟩
      have hjA : j < A.heap.size := by
        rcases hj with hj | hj
        · omega
        · exact (HM.out j hj.1).2
      exact hp.block j (by have := i7.size; omega) (.inl (by omega))
    case hIx =>
      rintro n1 c xs A' C hn hA' ⟨i0, ⟨pre', i1, i2⟩, ⟨c0', c1', c2', c3', i3, i4⟩, i6, i7⟩ hp
      have hlA := (HM.out tb htM).2
      have hp2 : PrivM (fun j => (M j ∨ (A.heap.size ≤ j ∧ j < n1)) ∨ False) A' C := ⟨hp.os, hp.tape, hp.output, hp.size, fun j hj hnj => hp.block j hj (by
        by_cases h1 : j < R.heap.size
        · exact .inl h1
        · refine .inr (Nat.le_of_not_lt (fun h2 => hnj (.inl (.inr ⟨by omega, h2⟩)))))⟩
      refine ⟨i0, ⟨pre', i1, hJx _ _ _ A' C i2 hp2 (fun j hj => .inl hj)⟩, ⟨c0', c1', c2', c3', i3, (hp.block _ i4.lt (.inl (by omega))).trans i4⟩, (hp.block _ i6.lt (.inl (by omega))).trans i6, i7.trans ⟨hp.os, hp.tape, hp.output, hp.size, fun j hj => ?_⟩⟩
      have hjA : j < A.heap.size := by
        rcases hj with hj | hj
        · omega
        · exact (HM.out j hj.1).2
      exact hp.block j (by have := i7.size; omega) (.inl (by omega))
    case hAx => rintro n1 pre x a' A C hn hA rfl hp; rfl
    case h0 =>
      intro n1 W1 hb hn1 hn2
      have hAW : Below A.heap.size A W1 := hAR.trans (hb.mono hAR.size)
      have hz1 := hb.size
      refine ⟨?_, HT.out.grow hAW, ⟨c0, c1, c2, c3, HOK.out, (hAW.block _ HTB.out.lt).trans HTB.out⟩, (hb.block _ q5.lt).trans q5, (hb.block _ q6.lt).trans q6, SpareM.of_below hAW (fun j hj => ?_)⟩
      · have h1 := hJ M (fun j => M j ∨ (A.heap.size ≤ j ∧ j < n1)) pre A W1 HJ.out (PrivM.of_below hAW) (fun j hj => by
          rcases hj with hj | hj
          · exact .inl hj
          · exact .inr hj.1)
        simpa [goOns] using h1
      · rcases hj with hj | hj
        · omega
        · exact (HM.out j hj.1).2
    case hassign =>
      intro l n1 pre x W' hn hz hsp hi'
      exact wpIn_assign ⟨hi', by simp [go_sem, Act.put, Act.eval], Below.refl _ _⟩
    case hbody =>
      rintro l' n1 xs x a' W' hl hn hz hsp ⟨i1, i2, ⟨c0', c1', c2', c3', i3, i4⟩, i5, i6, i7⟩ rfl
      have hlA := (HM.out tb htM).2
      have hWt := (HM.out tb htM).1
      obtain ⟨g0, hg0⟩ := get_cells c0' c1' c2' c3' k (by omega)
      have tk : W'.cell? ⟨tb, k, none⟩ = some (.int .i64 g0) := by rw [i4.cell]; exact hg0
      have tf : W'.frozen? ⟨tb, k, none⟩ = false := i4.frozen k
      obtain ⟨d0, d1', d2, d3, hset, harr⟩ := set_cells c0' c1' c2' c3' x k (by omega)
      have hok2 : TOK b.bs.length (k + 1) (v ++ [x]) [d0, d1', d2, d3] := by rw [← hset]; exact i3.set HV.out hkn h4 x
      have ht2 : Blk (W'.setCell ⟨tb, k, none⟩ (.int .i64 x)) tb 78 #[.int .i64 d0, .int .i64 d1', .int .i64 d2, .int .i64 d3] := by
        have h1 := i4.set k (.int .i64 x)
        rw [harr] at h1
        exact h1
      have hT2 : TW b h B w0 W l cb yb tb sb (W'.setCell ⟨tb, k, none⟩ (.int .i64 x)) :=
        ⟨i2.low.setCell (by dsimp only; omega) _, by rw [World.size_setCell]; exact i2.size, i2.c.setOther (by omega) _ _, i2.y.setOther hyt _ _, i2.s.setOther hst _ _⟩
      have hJ2 := hJ (fun j => M j ∨ (A.heap.size ≤ j ∧ j < n1)) (fun j => M j ∨ (A.heap.size ≤ j ∧ j < n1)) _ W' _ i1 (PrivM.setCell W' (.inl (.inl htM)) k (.int .i64 x)) (fun j hj => .inl hj)
      have hP2 : (pre ++ goOns b k v xs) ++ goOn b (k + 1) (v ++ [x]) <+: allT b := by
        rw [List.append_assoc, ← goOns_snoc]
        exact ((List.prefix_append_right_inj pre).2 (goOns_prefix b k v hsp)).trans HPRE.out
      have hzA := i7.size
      have HC : Hid (∀ m', CallsIn Fence.wide m' Tryd.prog 91 #[.int .i64 ((k : Int) + 1), .pointer (some ⟨cb, 0, none⟩), .pointer (some ⟨yb, 0, none⟩), .pointer (some ⟨tb, 0, none⟩), .pointer (some ⟨sb, 0, none⟩)] (W'.setCell ⟨tb, k, none⟩ (.int .i64 x)) (SetPost b W O J Jx tb (k + 1) (v ++ [x]) (fun j => M j ∨ (A.heap.size ≤ j ∧ j < n1)) (pre ++ goOns b k v xs) (W'.setCell ⟨tb, k, none⟩ (.int .i64 x)))) := Lib.hid (fun m' => by
        have h1 := HIH.out (k + 1) m' (fun j => M j ∨ (A.heap.size ≤ j ∧ j < n1)) (pre ++ goOns b k v xs) (v ++ [x]) (W'.setCell ⟨tb, k, none⟩ (.int .i64 x)) d0 d1' d2 d3 (by omega) (by simp [HV.out]) (fun j hj => by
          rw [World.size_setCell]
          rcases hj with hj | hj
          · have := HM.out j hj; omega
          · omega) (.inl htM) (.inl hyM) (.inl hsM) hT2 ht2 hok2 hJ2 hP2
        rw [show (((k + 1 : Nat)) : Int) = (k : Int) + 1 by omega] at h1
        exact h1)
      have s0 := i2.s.cell 0
      have q50 := i5.cell 0
      have q60 := i6.cell 0
      have f60 := i6.frozen 0
      simp only [List.size_toArray, List.length_cons, List.length_nil, Nat.reduceAdd, Nat.reduceLT, getElem?_pos, List.getElem_toArray, List.getElem_cons_zero, List.getElem_cons_succ] at s0 q50 q60
      have k1 := i2.s.lt
      have k2 := i4.lt
      have k5 := i5.lt
      have k6 := i6.lt
      have hk4 : (k : Int) < 4 := by omega
      have hsb : ¬ sb = tb := hst
      have hAb : ¬ A.heap.size = tb := by omega
      have hw1 : IntKind.i64.wrap ((k : Int) + 1) = (k : Int) + 1 := IntWalk.i64_in _ (by omega)
      have I2 := Lib.hid i2
      have I3 := Lib.hid i3
      have I5 := Lib.hid i5
      have I6 := Lib.hid i6
      have I7 := Lib.hid i7
      have HSP := Lib.hid hsp
      clear i1 i2 i3 i4 i5 i6 i7 hP2 hT2 ht2 hok2 hJ2 hset harr hseq hsp hg0
      gi_wp2_with fail
      refine (CallsIn.inRound _ (HC.out _)).mono ?_
      rintro e C ⟨k1', ⟨t0', t1', t2', t3', hok3, ht3⟩, hres⟩
      have hS1 : SpareM (KM W O tb M) (W'.setCell ⟨tb, k, none⟩ (.int .i64 x)) C := k1'.imp (fun j hj => by
        rcases hj with hj | hj
        · exact .inl hj
        · exact .inr ⟨.inl hj.1, hj.2⟩)
      have hS2 : SpareM (KM W O tb M) A C := (I7.out.trans (SpareM.setCell W' (fun hj => by
        rcases hj with hj | hj
        · omega
        · exact hj.2 rfl) k _)).trans hS1
      have hS3 : Spare (fun j => O j ∨ j = tb ∨ j = A.heap.size + 1 ∨ (W.heap.size ≤ j ∧ j < A.heap.size ∧ ¬ M j)) n1 W' C := by
        refine ⟨k1'.os, k1'.tape, k1'.output, by have := k1'.size; rw [World.size_setCell] at this; exact this, fun j hj hnj => ?_⟩
        have hjt : j ≠ tb := fun e => hnj (.inr (.inl e))
        refine (k1'.block j ?_).trans (Below.heap_setCell _ _ _ _ (by dsimp only; exact hjt))
        by_cases h1 : j < W.heap.size
        · exact .inl ⟨h1, fun e => hnj (.inl e)⟩
        · by_cases h2 : j < A.heap.size
          · by_cases h3 : M j
            · exact .inr ⟨.inl h3, hjt⟩
            · exact absurd (.inr (.inr (.inr ⟨by omega, h2, h3⟩))) hnj
          · exact .inr ⟨.inr ⟨by omega, hj⟩, hjt⟩
      have hT3 : TW b h B w0 W l cb yb tb sb C := TW.kept (HT.out) hS2 hO h0 hcb hyM hsM hyt hst
      have h5 : Blk C A.heap.size 3 #[.int .i64 (k : Nat)] := (k1'.block _ (.inr ⟨.inr ⟨by omega, by omega⟩, by omega⟩)).trans (I5.out.setOther (by omega) _ _)
      have h6 : Blk C (A.heap.size + 1) 4 #[.bool false] := (k1'.block _ (.inr ⟨.inr ⟨by omega, by omega⟩, by omega⟩)).trans (I6.out.setOther (by omega) _ _)
      have e60 := h6.cell 0
      have f60' := h6.frozen 0
      have l6 := h6.lt
      simp only [List.size_toArray, List.length_cons, List.length_nil, Nat.reduceAdd, Nat.reduceLT, getElem?_pos, List.getElem_toArray, List.getElem_cons_zero, List.getElem_cons_succ] at e60
      have HS2 := Lib.hid hS2
      have HS3 := Lib.hid hS3
      have HT3 := Lib.hid hT3
      have H5 := Lib.hid h5
      have H6 := Lib.hid h6
      have HOK3 := Lib.hid hok3
      have HTT3 := Lib.hid ht3
      clear k1' hS1 hS2 hS3 hT3 h5 h6 hok3 ht3 HC s0 q50 q60 f60 tk tf
      rcases hres with ⟨rfl, hj2⟩ | ⟨rfl, pre', hp', hj2⟩
      · have HJ2 := Lib.hid hj2
        clear hj2
        gi_wp2_with fail
        refine (show Spare _ _ _ _ ∧ _ from ⟨HS3.out, ?_, HT3.out, ⟨_, _, _, _, HOK3.out.less HV.out, HTT3.out⟩, H5.out, H6.out, HS2.out⟩)
        rw [goOns_snoc, ← List.append_assoc]
        exact HJ2.out
      · have HJ2 := Lib.hid hj2
        have HP' := Lib.hid hp'
        clear hj2 hp'
        gi_wp2_with fail
        refine (show Spare _ _ _ _ ∧ _ from ⟨HS3.out.setCell (.inl (.inr (.inr (.inl rfl)))) 0 _, rfl, ⟨pre', HP'.out, ?_⟩, ⟨_, _, _, _, HOK3.out.less HV.out, HTT3.out.setOther (by omega) _ _⟩, Blk.set1 H6.out, HS2.out.trans (SpareM.setCell _ (fun hj => ?_) 0 _)⟩)
        · exact hJx _ _ _ C _ HJ2.out (PrivM.setCell C (.inl (.inr ⟨by omega, by omega⟩)) 0 _) (fun j hj => .inl hj)
        · rcases hj with hj | hj
          · omega
          · have := (HM.out _ hj.1).2; omega
    case hdone =>
      rintro D n1 xs W' rfl hn hz rfl ⟨i1, i2, ⟨c0', c1', c2', c3', i3, i4⟩, i5, i6, i7⟩ hD
      have hlA := (HM.out tb htM).2
      have hWt := (HM.out tb htM).1
      have e60 := i6.cell 0
      have f60 := i6.frozen 0
      have l6 := i6.lt
      simp only [List.size_toArray, List.length_cons, List.length_nil, Nat.reduceAdd, Nat.reduceLT, getElem?_pos, List.getElem_toArray, List.getElem_cons_zero, List.getElem_cons_succ] at e60
      have I1 := Lib.hid i1
      have I3 := Lib.hid i3
      have I4 := Lib.hid i4
      have I6 := Lib.hid i6
      have I7 := Lib.hid i7
      clear i1 i2 i3 i4 i5 i6 i7 hseq
      gi_wp2_with fail
      have hD2 : (W'.setCell ⟨A.heap.size + 1, 0, none⟩ (.bool true)).heap[R.heap.size]? = some (.deferred (some [])) := (Below.heap_setCell _ _ _ _ (by dsimp only; omega)).trans hD
      refine ⟨by simp, .inl ⟨_, _, rfl, run_takeDeferred hD2, ?_⟩⟩
      have hf : Blk ((W'.setCell ⟨A.heap.size + 1, 0, none⟩ (.bool true)).putObj R.heap.size (.deferred none)) (A.heap.size + 1) 4 #[.bool true] := (World.putObj_heap_other (by omega)).trans (Blk.set1 I6.out)
      have hft : Blk ((W'.setCell ⟨A.heap.size + 1, 0, none⟩ (.bool true)).putObj R.heap.size (.deferred none)) tb 78 #[.int .i64 c0', .int .i64 c1', .int .i64 c2', .int .i64 c3'] := (World.putObj_heap_other (by omega)).trans (I4.out.setOther (by omega) 0 _)
      have hfs : SpareM (KM W O tb M) A ((W'.setCell ⟨A.heap.size + 1, 0, none⟩ (.bool true)).putObj R.heap.size (.deferred none)) := by
        have hno : ∀ q, A.heap.size ≤ q → ¬ KM W O tb M q := fun q hq hj => by
          rcases hj with hj | hj
          · omega
          · have := (HM.out _ hj.1).2; omega
        exact (I7.out.trans (SpareM.setCell _ (hno _ (by omega)) 0 _)).trans (SpareM.putObj _ (hno _ (by omega)) _)
      have hfj : J M (pre ++ goOn b k v) ((W'.setCell ⟨A.heap.size + 1, 0, none⟩ (.bool true)).putObj R.heap.size (.deferred none)) := by
        rw [goOn_step b k v lo hi HSK.out]
        refine hJ _ M _ W' _ I1.out (PrivM.trans (PrivM.setCell W' (.inl (.inr ⟨by omega, by omega⟩)) 0 _) (PrivM.putObj _ (.inl (.inr ⟨by omega, by omega⟩)) _)) (fun j hj => .inl (.inl hj))
      generalize (W'.setCell ⟨A.heap.size + 1, 0, none⟩ (.bool true)).putObj R.heap.size (.deferred none) = F at *
      have r0 := hf.cell 0
      have rl := hf.lt
      simp only [List.size_toArray, List.length_cons, List.length_nil, Nat.reduceAdd, Nat.reduceLT, getElem?_pos, List.getElem_toArray, List.getElem_cons_zero, List.getElem_cons_succ] at r0
      exact ⟨.bool true, by simp [results, Tryd.results91, go_sem, r0, rl], hfs, ⟨_, _, _, _, I3.out, hft⟩, .inl ⟨rfl, hfj⟩⟩
    case hstop =>
      rintro D n1 c xs W' rfl hn hz hsp ⟨rfl, ⟨pre', i1, i2⟩, ⟨c0', c1', c2', c3', i3, i4⟩, i6, i7⟩ hD
      have hlA := (HM.out tb htM).2
      have l6 := i6.lt
      gi_wp2_with fail
      refine ⟨by simp, .inl ⟨_, _, rfl, run_takeDeferred hD, ?_⟩⟩
      have hf : Blk (W'.putObj R.heap.size (.deferred none)) (A.heap.size + 1) 4 #[.bool false] := (World.putObj_heap_other (by omega)).trans i6
      have hft : Blk (W'.putObj R.heap.size (.deferred none)) tb 78 #[.int .i64 c0', .int .i64 c1', .int .i64 c2', .int .i64 c3'] := (World.putObj_heap_other (by omega)).trans i4
      have hfs : SpareM (KM W O tb M) A (W'.putObj R.heap.size (.deferred none)) := i7.trans (SpareM.putObj _ (fun hj => by
        rcases hj with hj | hj
        · omega
        · have := (HM.out _ hj.1).2; omega) _)
      have hfj : Jx M pre' (W'.putObj R.heap.size (.deferred none)) := hJx _ M _ W' _ i2 (PrivM.putObj _ (.inl (.inr ⟨by omega, by omega⟩)) _) (fun j hj => .inl (.inl hj))
      generalize W'.putObj R.heap.size (.deferred none) = F at *
      have r0 := hf.cell 0
      have rl := hf.lt
      simp only [List.size_toArray, List.length_cons, List.length_nil, Nat.reduceAdd, Nat.reduceLT, getElem?_pos, List.getElem_toArray, List.getElem_cons_zero, List.getElem_cons_succ] at r0
      exact ⟨.bool false, by simp [results, Tryd.results91, go_sem, r0, rl], hfs, ⟨_, _, _, _, i3, hft⟩, .inr ⟨rfl, pre', i1, hfj⟩⟩
end
end Go.Proofs.YtdmicngnbcdkdaaDoor

namespace Go.Proofs.YtdmicngnbcdkdaaDoor
open Go Go.RowKit Go.Maps Go.Shelf

theorem goOn_all (b : Bk) : goOn b 0 [] = allT b := by unfold goOn allT; simp

attribute [local go_sem] Oper.semAt_some frozen_alloc_lt
set_option maxRecDepth 100000 in
set_option maxHeartbeats 4000000 in
theorem truths1_in (h : Hd) (b : Bk) (B cb : Nat) (O : Nat → Prop) (w0 w : World) (hK : CoveOK w0 h b B) (hn : NB w0) (hw : Below w0.heap.size w0 w) (hc : Blk w cb 83 (cvcells h b B)) (hO : ∀ j, O j → w0.heap.size ≤ j ∧ j ≠ cb) :
    SeqM Tryd.prog 90 #[.pointer (some ⟨cb, 0, none⟩)] encT O (fun xs => xs = allT b) (fun pre => pre <+: allT b) w := by
  intro n l J Jx W hW hOW hJ hJx hY hJ0
  have hn4 := (bookB_bounds hK.ok).1
  have h0W : w0.heap.size ≤ W.heap.size := Nat.le_trans hw.size hW.size
  have hwW : Below w0.heap.size w0 W := hw.trans (hW.mono hw.size)
  have hcW : Blk W cb 83 (cvcells h b B) := (hW.block _ hc.lt).trans hc
  obtain ⟨sz, g0, g1, g2, g3⟩ := hn.below hwW
  have HSET := Lib.hid (set_in (W := W) (O := O) (J := J) (Jx := Jx) (l := l) (cb := cb) (yb := W.heap.size) (tb := W.heap.size + 1) (sb := W.heap.size + 1 + 1) hn4 hK hJ hJx h0W hcW.lt hO hOW hY (by omega) (by omega))
  have HCW := Lib.hid hcW
  have HWW := Lib.hid hwW
  have HJ0 := Lib.hid hJ0
  clear hW hOW hY hJ0 hcW hwW
  refine callsIn_of_wp Tryd.func90 rfl trivial ?_ rfl
  simp only [Tryd.ntmps90, List.size_toArray, List.length_cons, List.length_nil, Nat.reduceAdd, Nat.reduceSub, Array.replicate_succ, Array.replicate_zero, List.push_toArray, List.append_toArray, List.nil_append, List.cons_append]
  gi_wp2_with fail
  refine (HSET.out b.bs.length 0 _ (fun j => j = W.heap.size ∨ j = W.heap.size + 1 ∨ j = W.heap.size + 1 + 1) [] [] _ 1440 1440 1440 1440 (by omega) rfl ?hM (.inr (.inl rfl)) (.inl rfl) (.inr (.inr rfl)) ?hT ?ht ?hok ?hj ?hp).mono ?_
  case hM =>
    rintro j (rfl | rfl | rfl) <;> simp only [World.size_alloc, World.size_setCell] <;> omega
  case hT =>
    refine ⟨?_, ?_, ?_, ?_, ?_⟩
    · have hB := HWW.out
      (repeat (first | (with_reducible exact Below.refl _ _) | (with_reducible assumption) | ((with_reducible refine below_ext_trans ?_ ?_ _); rotate_left; focus (((try dsimp only); repeat (first | omega | simp only [World.size_alloc, World.size_setCell, World.size_drew] | (with_reducible refine le_ext_of ?_) | (with_reducible refine le_ext_add ?_))); done)) | ((with_reducible refine Below.alloc ?_ ?_ _); rotate_left; focus (((try dsimp only); repeat (first | omega | simp only [World.size_alloc, World.size_setCell, World.size_drew] | (with_reducible refine le_ext_of ?_) | (with_reducible refine le_ext_add ?_))); done)) | ((with_reducible refine Below.setCell ?_ ?_ _); rotate_left; focus (((try dsimp only); repeat (first | omega | simp only [World.size_alloc, World.size_setCell, World.size_drew] | (with_reducible refine le_ext_of ?_) | (with_reducible refine le_ext_add ?_))); done)) | (with_reducible refine Below.drew ?_)))
    · ((try dsimp only); repeat (first | omega | simp only [World.size_alloc, World.size_setCell, World.size_drew] | (with_reducible refine le_ext_of ?_) | (with_reducible refine le_ext_add ?_)))
    · exact ((HCW.out.alloc _).alloc _).alloc _
    · exact ((Blk.new rfl).alloc _).alloc _
    · exact Blk.new (by simp)
  case ht => exact (Blk.new (by simp)).alloc _
  case hok => exact ⟨rfl, fun j hj => by omega, fun j _ hj => by
    rcases four_cases hj with rfl | rfl | rfl | rfl <;> rfl⟩
  case hj =>
    refine hJ (fun _ => False) _ [] W _ HJ0.out (PrivM.of_below (by (repeat (first | (with_reducible exact Below.refl _ _) | (with_reducible assumption) | ((with_reducible refine below_ext_trans ?_ ?_ _); rotate_left; focus (((try dsimp only); repeat (first | omega | simp only [World.size_alloc, World.size_setCell, World.size_drew] | (with_reducible refine le_ext_of ?_) | (with_reducible refine le_ext_add ?_))); done)) | ((with_reducible refine Below.alloc ?_ ?_ _); rotate_left; focus (((try dsimp only); repeat (first | omega | simp only [World.size_alloc, World.size_setCell, World.size_drew] | (with_reducible refine le_ext_of ?_) | (with_reducible refine le_ext_add ?_))); done)) | ((with_reducible refine Below.setCell ?_ ?_ _); rotate_left; focus (((try dsimp only); repeat (first | omega | simp only [World.size_alloc, World.size_setCell, World.size_drew] | (with_reducible refine le_ext_of ?_) | (with_reducible refine le_ext_add ?_))); done)) | (with_reducible refine Below.drew ?_))))) (fun j hj => ?_)
    rcases hj with rfl | rfl | rfl <;> exact .inr (by omega)
  case hp => rw [goOn_all]; exact List.prefix_refl _
  rintro e C ⟨k1, -, hres⟩
  have hz := k1.size
  simp only [World.size_alloc, World.size_setCell] at hz
  rcases hres with ⟨rfl, hj2⟩ | ⟨rfl, pre', hp', hj2⟩
  · rw [goOn_all] at hj2
    have HJ2 := Lib.hid hj2
    clear hj2 k1
    gi_wp2_with fail
    go_end0
    exact ⟨⟨_, rfl⟩, by omega, .inl ⟨_, rfl, hJ _ _ _ C C HJ2.out (PrivM.refl _ _) (fun _ h => h.elim)⟩⟩
  · have HJ2 := Lib.hid hj2
    clear hj2 k1
    gi_wp2_with fail
    go_end0
    exact ⟨⟨_, rfl⟩, by omega, .inr ⟨_, hp', hJx _ _ _ C C HJ2.out (PrivM.refl _ _) (fun _ h => h.elim)⟩⟩
end Go.Proofs.YtdmicngnbcdkdaaDoor

