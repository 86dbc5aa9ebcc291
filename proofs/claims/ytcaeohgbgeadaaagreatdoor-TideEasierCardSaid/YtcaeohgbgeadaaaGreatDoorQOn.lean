/- For the laws of package tide: lists of tides of a call's own. -/
import Derived.Test.YtcaeohgbgeadaaaGreatDoorQOj
import Derived.Test.YtcaeohgbgeadaaaGreatDoorQOh
import Derived.OwnWalk
set_option linter.unusedSimpArgs false
set_option linter.unusedVariables false
namespace Go.Proofs.YtcaeohgbgeadaaaGreatDoor
open Go Go.RowKit Go.Shelf
theorem info_low : (Tryz.prog.info? 69).map (fun i => (i.zero, i.size, i.bytes)) = some (some (.agg #[.int .i64 0, .int .i64 0, .int .i64 0]), 3, 24) := by kernel_rfl
theorem under_lows : Tryz.prog.underlying 27 = some (.slice 69) := by kernel_rfl
def encTs (l : List Lw) : List Value := l.flatMap (fun s => [.int .i64 s.hour, .int .i64 s.lo, .int .i64 s.hi])
def OwnTs (w : World) (B : Nat) (v : Value) (l : List Lw) : Prop := w.ownsRow B 69 3 v l.length (encTs l)
theorem encTs_cons (a : Lw) (l : List Lw) : encTs (a :: l) = .int .i64 a.hour :: .int .i64 a.lo :: .int .i64 a.hi :: encTs l := rfl
theorem encTs_len (l : List Lw) : (encTs l).length = l.length * 3 := by
  induction l with
  | nil => rfl
  | cons a l ih => rw [encTs_cons]; simp [ih]; omega
theorem encTs_get : ∀ (l : List Lw) (i : Nat) (s : Lw), l[i]? = some s → (encTs l)[i * 3]? = some (.int .i64 s.hour) ∧ (encTs l)[i * 3 + 1]? = some (.int .i64 s.lo) ∧ (encTs l)[i * 3 + 2]? = some (.int .i64 s.hi)
  | [], i, s, h => by simp at h
  | a :: l, 0, s, h => by simp at h; subst h; simp [encTs]
  | a :: l, i + 1, s, h => by
    have := encTs_get l i s (by simpa using h)
    rw [encTs_cons, show (i + 1) * 3 = i * 3 + 1 + 1 + 1 by omega]
    simpa using this
theorem encTs_one (l : List Lw) : ∀ u ∈ encTs l, u.oneCell' = true := by
  induction l with
  | nil => simp [encTs]
  | cons a l ih =>
    intro u hu
    rw [encTs_cons] at hu
    simp only [List.mem_cons] at hu
    rcases hu with rfl | rfl | rfl | hu
    · rfl
    · rfl
    · rfl
    · exact ih u hu
theorem LowsAt.cells {w : World} {b o : Nat} {l : List Lw} (h : LowsAt w (some ⟨b, o, none⟩) l) : ∀ (j : Nat) (u : Value), (encTs l)[j]? = some u → w.cell? ((⟨b, o, none⟩ : Addr).add j) = some u := by
  intro j u hj
  have hjl : j < (encTs l).length := (List.getElem?_eq_some_iff.1 hj).1
  rw [encTs_len] at hjl
  obtain ⟨s, hs⟩ := get_some l (j / 3) (by omega)
  obtain ⟨b', o', e, hb, c0, c1, c2⟩ := h _ s hs
  simp only [Option.some.injEq, Addr.mk.injEq, and_true] at e
  obtain ⟨rfl, rfl⟩ := e
  obtain ⟨e0, e1, e2⟩ := encTs_get l _ s hs
  rw [show (⟨b, o, none⟩ : Addr).add j = ⟨b, o + j, none⟩ by simp [Addr.add]]
  rcases (show j % 3 = 0 ∨ j % 3 = 1 ∨ j % 3 = 2 by omega) with hm | hm | hm
  · rw [show j = j / 3 * 3 by omega] at hj ⊢
    rw [e0] at hj; cases hj
    exact c0
  · rw [show j = j / 3 * 3 + 1 by omega] at hj ⊢
    rw [e1] at hj; cases hj; exact c1
  · rw [show j = j / 3 * 3 + 2 by omega] at hj ⊢
    rw [e2] at hj; cases hj; exact c2
/-- A list of tides in a block of a call's own. -/
structure RowT (w : World) (B g c : Nat) (l : List Lw) : Prop where
  base : B ≤ g
  blk : ∃ cur, Blk w g 69 cur
  lows : LowsAt w (some ⟨g, 0, none⟩) l
  len : l.length ≤ c
theorem RowT.bel {w w' : World} {B g c : Nat} {l : List Lw} (h : RowT w B g c l) (hb : Below w.heap.size w w') : RowT w' B g c l :=
  ⟨h.base, h.blk.imp fun _ k => k.bel hb, h.lows.below hb, h.len⟩
theorem RowT.other {w : World} {B g c : Nat} {l : List Lw} (h : RowT w B g c l) {j : Nat} (hj : g ≠ j) (o : Nat) (v : Value) : RowT (w.setCell ⟨j, o, none⟩ v) B g c l := by
  obtain ⟨cur, hc⟩ := h.blk
  refine ⟨h.base, ⟨cur, hc.setOther hj o v⟩, fun i s hs => ?_, h.len⟩
  obtain ⟨b', o', e, hb, c0, c1, c2⟩ := h.lows i s hs
  simp only [Option.some.injEq, Addr.mk.injEq, and_true] at e
  obtain ⟨rfl, rfl⟩ := e
  refine ⟨g, 0, rfl, (hc.setOther hj o v).lt, ?_⟩
  rw [hc.cell] at c0 c1 c2
  rw [(hc.setOther hj o v).cell, (hc.setOther hj o v).cell, (hc.setOther hj o v).cell]
  exact ⟨c0, c1, c2⟩
theorem own_row {w : World} {B : Nat} {v : Value} {l : List Lw} (h : OwnTs w B v l) (hv : v ≠ .slice none 0 0) : ∃ g c, v = .slice (some ⟨g, 0, none⟩) l.length c ∧ RowT w B g c l := by
  obtain ⟨h1, h2⟩ := h
  rcases h2 with ⟨h2, h3⟩ | ⟨g, cap, cur, rfl, hg, hh, hn, hm, hs, ht⟩
  · exact absurd h2 hv
  · refine ⟨g, cap, rfl, hg, ⟨cur, hh⟩, fun i x hx => ⟨g, 0, rfl, (Array.getElem?_eq_some_iff.1 hh).1, ?_⟩, hn⟩
    have hi := (List.getElem?_eq_some_iff.1 hx).1
    have ho : w.ownsRow B 69 3 (.slice (some ⟨g, 0, none⟩) l.length cap) l.length (encTs l) := ⟨h1, .inr ⟨g, cap, cur, rfl, hg, hh, hn, hm, hs, ht⟩⟩
    obtain ⟨e1, e2, e3⟩ := encTs_get l i x hx
    rw [Nat.zero_add, ho.cellAt (i * 3) (by omega), ho.cellAt (i * 3 + 1) (by omega), ho.cellAt (i * 3 + 2) (by omega)]
    exact ⟨e1, e2, e3⟩
/-- A tide's room is stored. -/
theorem RowT.set {w : World} {B g c k : Nat} {l : List Lw} {s : Lw} (h : RowT w B g c l) (hs : l[k]? = some s) (x : Int) : RowT (w.setCell ⟨g, k * 3 + 1, none⟩ (.int .i64 x)) B g c (setLo l k x) := by
  obtain ⟨cur, hc⟩ := h.blk
  have hc' := hc.set (k * 3 + 1) (.int .i64 x)
  have hall : ∀ (i : Nat) (t : Lw), l[i]? = some t → cur[i * 3]? = some (.int .i64 t.hour) ∧ cur[i * 3 + 1]? = some (.int .i64 t.lo) ∧ cur[i * 3 + 2]? = some (.int .i64 t.hi) := fun i t ht => by
    obtain ⟨b', o', e, hb, c0, c1, c2⟩ := h.lows i t ht
    simp only [Option.some.injEq, Addr.mk.injEq, and_true] at e
    obtain ⟨rfl, rfl⟩ := e
    rw [hc.cell] at c0 c1 c2
    simp only [Nat.zero_add] at c0 c1 c2
    exact ⟨c0, c1, c2⟩
  refine ⟨h.base, ⟨_, hc'⟩, fun i t ht => ⟨g, 0, rfl, hc'.lt, ?_⟩, by rw [setLo_len]; exact h.len⟩
  rw [hc'.cell, hc'.cell, hc'.cell]
  simp only [Nat.zero_add]
  rw [setLo_get hs] at ht
  by_cases hi : i = k
  · subst hi
    rw [if_pos rfl, Option.some.injEq] at ht
    subst ht
    obtain ⟨e0, e1, e2⟩ := hall i s hs
    have hlt := (Array.getElem?_eq_some_iff.1 e1).1
    rw [Array.getElem?_setIfInBounds_ne (by omega), Array.getElem?_setIfInBounds_self_of_lt hlt, Array.getElem?_setIfInBounds_ne (by omega)]
    exact ⟨e0, rfl, e2⟩
  · rw [if_neg hi] at ht
    obtain ⟨e0, e1, e2⟩ := hall i t ht
    rw [Array.getElem?_setIfInBounds_ne (by omega), Array.getElem?_setIfInBounds_ne (by omega), Array.getElem?_setIfInBounds_ne (by omega)]
    exact ⟨e0, e1, e2⟩
theorem run_append_noneT {ty : TypeId} (g c : Nat) (w : World) : (Builtin.append_ #[27, 27] ty #[.slice (some ⟨g, 0, none⟩) 0 0, .slice none 0 c]).run Tryz.prog w = .ok (.slice (some ⟨g, 0, none⟩) 0 0) w := by
  obtain ⟨i0, hi, hz0, hz1, hz2⟩ := info_parts info_low
  simp [Builtin.append_, run_underlying under_lows, sizeOf, typeInfo, hi, Builtin.lenOf, Builtin.firstCells, storeCells, go_sem]
/-- A list of tides is copied behind an empty one. -/
theorem wpList_copy_lows {ops : Array Oper} {rest : List Oper} {o : Oper} {a : Act} {Q : Exit → Act → World → Prop} {w : World} (hgd : o.guard = none) (s x : Operand)
    (ho : o.op = .call { callee := .builtin .append, args := #[s, x], argTypes := #[27, 27] })
    (g : Nat) (hs : a.eval s = .slice (some ⟨g, 0, none⟩) 0 0) (hk : Blk w g 69 #[]) (q : Option Addr) (m c : Nat) (hx : a.eval x = .slice q m c) (l : List Lw) (hm : m = l.length) (hc : LowsAt w q l) (hl : l.length ≤ 1000)
    (h : ∀ (ga ca : Nat) (w' : World), RowT w' g ga ca l → Below g w w' → wpList Tryz.prog ops Q rest (a.put o.dst (.slice (some ⟨ga, 0, none⟩) l.length ca)) w') : wpList Tryz.prog ops Q (o :: rest) a w := by
  subst hm
  have hown : OwnTs w g (.slice (some ⟨g, 0, none⟩) 0 0) [] := ⟨rfl, .inr ⟨g, 0, #[], rfl, Nat.le_refl _, hk, Nat.le_refl _, by unfold maxLen; omega, rfl, rfl⟩⟩
  have hgl := hk.lt
  cases q with
  | none =>
    have hl0 : l = [] := by
      cases l with
      | nil => rfl
      | cons z l => obtain ⟨_, _, e, _⟩ := hc 0 z rfl; cases e
    subst hl0
    obtain ⟨ga, ca, e, hr⟩ := own_row hown (fun e => by cases e)
    simp only [Value.slice.injEq, Option.some.injEq, Addr.mk.injEq, and_true] at e
    obtain ⟨rfl, -, rfl⟩ := e
    refine wpList_plain hgd fun K hK => ?_
    have hr2 := run_append_noneT (ty := o.type) g c w
    unfold Oper.wp execOp
    simp only [ho, resolve, invoke, builtin, Sem.run_bind, Sem.run_pure, Result.andThen_ok, List.map_toArray, List.map_cons, List.map_nil, hs, hx, List.length_nil, hr2]
    exact hK _ _ (h g 0 w hr (Below.refl _ _))
  | some ad =>
    obtain ⟨i0, hi, hz0, hz1, hz2⟩ := info_parts info_low
    refine wpList_append_own w hgd s x 27 ho g 69 i0 (.agg #[.int .i64 0, .int .i64 0, .int .i64 0]) 3 24 under_lows hi hz0 hz1 hz2 rfl (by decide) _ 0 _ hs hown ad l.length c (encTs l) hx (encTs_len l) ?_ (encTs_one l) ?_ ?_ (by omega) ?_
    · intro j u hj
      cases l with
      | nil => simp [encTs] at hj
      | cons z l =>
        obtain ⟨b, o, e, -⟩ := hc 0 z rfl
        cases e
        exact hc.cells j u hj
    · unfold maxLen; omega
    · omega
    · intro v' w' h1 h2 h3
      have h4 : OwnTs w' g v' l := by unfold OwnTs; simpa [encTs] using h1
      obtain ⟨ga, ca, rfl, hr⟩ := own_row h4 (fun e => by have := (h3.1 e).1; cases this)
      exact h ga ca w' hr (Below.grown (Below.refl _ _) h2 (by omega) (fun j hj => by cases hj; exact Nat.le_refl _))
end Go.Proofs.YtcaeohgbgeadaaaGreatDoor

