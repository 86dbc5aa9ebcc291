/- Package seine: lists of notes of a call's own; appends. -/
/- Package seine: what the operations of with run. -/
import Derived.Test.YtjjfpbjdcmkkhaaDoorQNf
import Derived.OwnWalk
import Derived.OwnWalkIn
import Derived.Deep.RegionLawGrows
set_option linter.unusedSimpArgs false
set_option linter.unusedVariables false
namespace Go.Proofs.YtjjfpbjdcmkkhaaDoor
open Go Go.RowKit
theorem info_note : (Tryd.prog.info? 38).map (fun i => (i.zero, i.size, i.bytes)) = some (some (.agg #[.int .i64 0, .int .i64 0, .int .i64 0, .int .i64 0]), 4, 32) := by kernel_rfl
theorem under_notes : Tryd.prog.underlying 24 = some (.slice 38) := by kernel_rfl
def encNs (l : List Nt) : List Value := l.flatMap (fun s => [.int .i64 s.kind, .int .i64 s.hour, .int .i64 s.lo, .int .i64 s.hi])
def OwnNs (w : World) (B : Nat) (v : Value) (l : List Nt) : Prop := w.ownsRow B 38 4 v l.length (encNs l)
theorem encNs_cons (a : Nt) (l : List Nt) : encNs (a :: l) = .int .i64 a.kind :: .int .i64 a.hour :: .int .i64 a.lo :: .int .i64 a.hi :: encNs l := rfl
theorem encNs_append (l m : List Nt) : encNs (l ++ m) = encNs l ++ encNs m := by simp [encNs]
theorem encNs_len (l : List Nt) : (encNs l).length = l.length * 4 := by
  induction l with
  | nil => rfl
  | cons a l ih => rw [encNs_cons]; simp [ih]; omega
theorem encNs_get : ∀ (l : List Nt) (i : Nat) (s : Nt), l[i]? = some s → (encNs l)[i * 4]? = some (.int .i64 s.kind) ∧ (encNs l)[i * 4 + 1]? = some (.int .i64 s.hour) ∧ (encNs l)[i * 4 + 2]? = some (.int .i64 s.lo) ∧ (encNs l)[i * 4 + 3]? = some (.int .i64 s.hi)
  | [], i, s, h => by simp at h
  | a :: l, 0, s, h => by simp at h; subst h; simp [encNs]
  | a :: l, i + 1, s, h => by
    have := encNs_get l i s (by simpa using h)
    rw [encNs_cons, show (i + 1) * 4 = i * 4 + 1 + 1 + 1 + 1 by omega]
    simpa using this
theorem encNs_one (l : List Nt) : ∀ u ∈ encNs l, u.oneCell' = true := by
  induction l with
  | nil => simp [encNs]
  | cons a l ih =>
    intro u hu
    rw [encNs_cons] at hu
    simp only [List.mem_cons] at hu
    rcases hu with rfl | rfl | rfl | rfl | hu
    · rfl
    · rfl
    · rfl
    · rfl
    · exact ih u hu
theorem OwnNs.nil (w : World) (B : Nat) : OwnNs w B (.slice none 0 0) [] := World.ownsRow_nil _ _ _ _
theorem OwnNs.kept {w w' : World} {B : Nat} {v : Value} {l : List Nt} (h : OwnNs w B v l) (hb : ∀ g, v.ownBlock = some g → w'.heap[g]? = w.heap[g]?) : OwnNs w' B v l := by
  obtain ⟨h1, h2⟩ := h
  refine ⟨h1, ?_⟩
  rcases h2 with h2 | ⟨g, cap, cur, rfl, hg, hh, r⟩
  · exact .inl h2
  · exact .inr ⟨g, cap, cur, rfl, hg, (hb g rfl).trans hh, r⟩
theorem OwnNs.lt {w : World} {B : Nat} {v : Value} {l : List Nt} (h : OwnNs w B v l) : ∀ g, v.ownBlock = some g → B ≤ g ∧ g < w.heap.size := World.ownsRow.lt h
theorem OwnNs.below {w w' : World} {B : Nat} {v : Value} {l : List Nt} (h : OwnNs w B v l) (hb : Below w.heap.size w w') : OwnNs w' B v l := h.kept (fun g hg => hb.block g (h.lt g hg).2)
theorem OwnNs.mono {w : World} {B B' : Nat} {v : Value} {l : List Nt} (h : OwnNs w B v l) (hB : B' ≤ B) : OwnNs w B' v l := by
  obtain ⟨h1, h2⟩ := h
  refine ⟨h1, ?_⟩
  rcases h2 with h2 | ⟨g, cap, cur, rfl, hg, r⟩
  · exact .inl h2
  · exact .inr ⟨g, cap, cur, rfl, by omega, r⟩
theorem OwnNs.at {w : World} {B : Nat} {v : Value} {l : List Nt} (h : OwnNs w B v l) : ∃ p c, v = .slice p l.length c ∧ NotesAt w p l := by
  obtain ⟨h1, h2⟩ := h
  rcases h2 with ⟨h2, h3⟩ | ⟨g, cap, cur, rfl, hg, hh, hn, hm, hs, ht⟩
  · refine ⟨none, 0, by rw [h2, h3], fun i x hx => ?_⟩
    have := (List.getElem?_eq_some_iff.1 hx).1
    omega
  · refine ⟨_, cap, rfl, fun i x hx => ⟨g, 0, rfl, (Array.getElem?_eq_some_iff.1 hh).1, ?_⟩⟩
    have hi := (List.getElem?_eq_some_iff.1 hx).1
    have ho : w.ownsRow B 38 4 (.slice (some ⟨g, 0, none⟩) l.length cap) l.length (encNs l) := ⟨h1, .inr ⟨g, cap, cur, rfl, hg, hh, hn, hm, hs, ht⟩⟩
    obtain ⟨e1, e2, e3, e4⟩ := encNs_get l i x hx
    rw [Nat.zero_add, ho.cellAt (i * 4) (by omega), ho.cellAt (i * 4 + 1) (by omega), ho.cellAt (i * 4 + 2) (by omega), ho.cellAt (i * 4 + 3) (by omega)]
    exact ⟨e1, e2, e3, e4⟩
theorem OwnNs.of_blk {w : World} {g : Nat} {l : List Nt} {n : Nat} {cs : Array Value} (h : Blk w g 38 cs) (hn : n = l.length) (hc : cs = (encNs l).toArray) (hl : l.length ≤ 100000) : OwnNs w g (.slice (some ⟨g, 0, none⟩) n n) l := by
  subst hn hc
  refine ⟨encNs_len l, .inr ⟨g, l.length, _, rfl, Nat.le_refl _, h, Nat.le_refl _, by unfold maxLen; omega, by simp [encNs_len], ?_⟩⟩
  rw [List.take_of_length_le (by simp [encNs_len])]
theorem notes_of_blk {w : World} {g : Nat} {l : List Nt} {cs : Array Value} (h : Blk w g 38 cs) (hc : cs = (encNs l).toArray) (hl : l.length ≤ 100000) : NotesAt w (some ⟨g, 0, none⟩) l := by
  obtain ⟨p, c, e, h2⟩ := (OwnNs.of_blk h rfl hc hl).at
  simp only [Value.slice.injEq] at e
  obtain ⟨rfl, -, -⟩ := e
  exact h2
theorem st_append_note {ops : Array Oper} {Q : Exit → Act → World → Prop} {i : Nat} {o : Oper} {K : Act → World → Prop} {a : Act} {w : World} (h : ops[i]? = some o) (hw : Region.wanted o (yielded ops a.tmps) = true) (s x : Operand)
    (ho : o.op = .call { callee := .builtin .append, args := #[s, x], argTypes := #[24, 24] }) (B : Nat)
    (v : Value) (l : List Nt) (hs : a.eval s = v) (hown : OwnNs w B v l) (g : Nat) (y : Nt) (hx : a.eval x = .slice (some ⟨g, 0, none⟩) 1 1) (hc : Blk w g 38 #[.int .i64 y.kind, .int .i64 y.hour, .int .i64 y.lo, .int .i64 y.hi])
    (hl : l.length ≤ 1000) (hB : B ≤ w.heap.size)
    (hK : ∀ v' w', OwnNs w' B v' (l ++ [y]) → w.grownBy w' v.ownBlock → K (a.put o.dst v') w') : wpOp Tryd.prog ops Q i K a w := by
  refine wpOp_want h hw ?_
  obtain ⟨i0, hi, hz0, hz1, hz2⟩ := info_parts info_note
  refine wp_append_own w s x 24 ho B 38 i0 (.agg #[.int .i64 0, .int .i64 0, .int .i64 0, .int .i64 0]) 4 32 under_notes hi hz0 hz1 hz2 rfl (by decide) v l.length _ hs hown ⟨g, 0, none⟩ 1 1 (encNs [y]) hx rfl ?_ (encNs_one _) ?_ ?_ hB ?_
  · intro j u hj
    match j, hj with
    | 0, hj => simp [encNs] at hj; subst hj; simpa [Addr.add] using hc.cell 0
    | 1, hj => simp [encNs] at hj; subst hj; simpa [Addr.add] using hc.cell 1
    | 2, hj => simp [encNs] at hj; subst hj; simpa [Addr.add] using hc.cell 2
    | 3, hj => simp [encNs] at hj; subst hj; simpa [Addr.add] using hc.cell 3
    | n + 4, hj => simp [encNs] at hj
  · unfold maxLen; omega
  · omega
  · intro v' w' h1 h2 _
    refine hK v' w' ?_ h2
    unfold OwnNs
    rw [encNs_append, List.length_append]
    exact h1
/-- The cells of some notes that lie in memory. -/
theorem NotesAt.cells {w : World} {b o : Nat} {l : List Nt} (h : NotesAt w (some ⟨b, o, none⟩) l) : ∀ (j : Nat) (u : Value), (encNs l)[j]? = some u → w.cell? ((⟨b, o, none⟩ : Addr).add j) = some u := by
  intro j u hj
  have hjl : j < (encNs l).length := (List.getElem?_eq_some_iff.1 hj).1
  rw [encNs_len] at hjl
  obtain ⟨s, hs⟩ := get_some l (j / 4) (by omega)
  obtain ⟨b', o', e, hb, c0, c1, c2, c3⟩ := h _ s hs
  simp only [Option.some.injEq, Addr.mk.injEq, and_true] at e
  obtain ⟨rfl, rfl⟩ := e
  obtain ⟨e0, e1, e2, e3⟩ := encNs_get l _ s hs
  rw [show (⟨b, o, none⟩ : Addr).add j = ⟨b, o + j, none⟩ by simp [Addr.add]]
  rcases (show j % 4 = 0 ∨ j % 4 = 1 ∨ j % 4 = 2 ∨ j % 4 = 3 by omega) with hm | hm | hm | hm
  · rw [show j = j / 4 * 4 by omega] at hj ⊢
    rw [e0] at hj; cases hj
    exact c0
  · rw [show j = j / 4 * 4 + 1 by omega] at hj ⊢
    rw [e1] at hj; cases hj; exact c1
  · rw [show j = j / 4 * 4 + 2 by omega] at hj ⊢
    rw [e2] at hj; cases hj; exact c2
  · rw [show j = j / 4 * 4 + 3 by omega] at hj ⊢
    rw [e3] at hj; cases hj; exact c3
theorem NotesAt.take {w : World} {p : Option Addr} {l : List Nt} (h : NotesAt w p l) (k : Nat) : NotesAt w p (l.take k) := fun i s hi => by
  rw [List.getElem?_take] at hi
  split at hi
  · exact h i s hi
  · cases hi
theorem NotesAt.drop {w : World} {b o : Nat} {l : List Nt} (h : NotesAt w (some ⟨b, o, none⟩) l) (k : Nat) : NotesAt w (some ⟨b, o + k * 4, none⟩) (l.drop k) := fun i s hi => by
  rw [List.getElem?_drop] at hi
  obtain ⟨b', o', e, hb, c0, c1, c2, c3⟩ := h _ s hi
  simp only [Option.some.injEq, Addr.mk.injEq, and_true] at e
  obtain ⟨rfl, rfl⟩ := e
  have ho : o + (k + i) * 4 = o + k * 4 + i * 4 := by omega
  rw [ho] at c0 c1 c2 c3
  exact ⟨b, o + k * 4, rfl, hb, c0, c1, c2, c3⟩
/-- An append to notes behind which there is no room. -/
theorem st_grow_note {ops : Array Oper} {Q : Exit → Act → World → Prop} {i : Nat} {o : Oper} {K : Act → World → Prop} {a : Act} {w : World} (h : ops[i]? = some o) (hg : o.guard = none) (s x : Operand)
    (ho : o.op = .call { callee := .builtin .append, args := #[s, x], argTypes := #[24, 24] })
    (p : Option Addr) (l : List Nt) (hs : a.eval s = .slice p l.length l.length) (hp : p = none → l = []) (hl : NotesAt w p l) (hp2 : ∀ a, p = some a → ∃ b o, a = ⟨b, o, none⟩) (g : Nat) (y : Nt) (hx : a.eval x = .slice (some ⟨g, 0, none⟩) 1 1) (hc : Blk w g 38 #[.int .i64 y.kind, .int .i64 y.hour, .int .i64 y.lo, .int .i64 y.hi])
    (hln : l.length ≤ 1000)
    (hK : ∀ v' w', OwnNs w' w.heap.size v' (l ++ [y]) → Below w.heap.size w w' → K (a.put o.dst v') w') : wpOp Tryd.prog ops Q i K a w := by
  have hw : Region.wanted o (yielded ops a.tmps) = true := by simp [Region.wanted, hg]
  refine wpOp_want h hw ?_
  obtain ⟨i0, hi, hz0, hz1, hz2⟩ := info_parts info_note
  have := step_append_grows (P := Tryd.prog) (ops := ops) (K := K) (Q := Q) (E := True) hg s x 24 ho 38 i0 (.agg #[.int .i64 0, .int .i64 0, .int .i64 0, .int .i64 0]) 4 32 under_notes hi hz0 hz1 hz2 rfl (by decide) p l.length l.length (encNs l) hs (fun e => by rw [hp e]; exact ⟨rfl, rfl⟩) (encNs_len l)
    (fun q hq j u hj => by
      obtain ⟨b, o, rfl⟩ := hp2 q hq
      subst hq
      exact hl.cells j u hj) ⟨g, 0, none⟩ 1 1 (encNs [y]) hx rfl
    (fun j u hj => by
      match j, hj with
      | 0, hj => simp [encNs] at hj; subst hj; simpa [Addr.add] using hc.cell 0
      | 1, hj => simp [encNs] at hj; subst hj; simpa [Addr.add] using hc.cell 1
      | 2, hj => simp [encNs] at hj; subst hj; simpa [Addr.add] using hc.cell 2
      | 3, hj => simp [encNs] at hj; subst hj; simpa [Addr.add] using hc.cell 3
      | n + 4, hj => simp [encNs] at hj) (encNs_one _) (by omega) (by unfold maxLen; omega) (by omega)
    (fun v' w' h1 h2 => hK v' w' (by unfold OwnNs; rw [encNs_append, List.length_append]; exact h1) (Below.of_grown0 h2 (Nat.le_refl _)))
  rwa [if_pos hw] at this
/-- An append of notes that lie in memory to notes of the call's own. -/
theorem st_append_notes {ops : Array Oper} {Q : Exit → Act → World → Prop} {i : Nat} {o : Oper} {K : Act → World → Prop} {a : Act} {w : World} (h : ops[i]? = some o) (hw : Region.wanted o (yielded ops a.tmps) = true) (s x : Operand)
    (ho : o.op = .call { callee := .builtin .append, args := #[s, x], argTypes := #[24, 24] }) (B : Nat)
    (v : Value) (l : List Nt) (hs : a.eval s = v) (hown : OwnNs w B v l) (b o' c : Nat) (L : List Nt) (hx : a.eval x = .slice (some ⟨b, o', none⟩) L.length c) (hc : NotesAt w (some ⟨b, o', none⟩) L)
    (hl : l.length + L.length ≤ 1000) (hB : B ≤ w.heap.size)
    (hK : ∀ v' w', OwnNs w' B v' (l ++ L) → w.grownBy w' v.ownBlock → K (a.put o.dst v') w') : wpOp Tryd.prog ops Q i K a w := by
  refine wpOp_want h hw ?_
  obtain ⟨i0, hi, hz0, hz1, hz2⟩ := info_parts info_note
  refine wp_append_own w s x 24 ho B 38 i0 (.agg #[.int .i64 0, .int .i64 0, .int .i64 0, .int .i64 0]) 4 32 under_notes hi hz0 hz1 hz2 rfl (by decide) v l.length _ hs hown ⟨b, o', none⟩ L.length c (encNs L) hx (encNs_len L) hc.cells (encNs_one _) ?_ ?_ hB ?_
  · unfold maxLen; omega
  · omega
  · intro v' w' h1 h2 _
    refine hK v' w' ?_ h2
    unfold OwnNs
    rw [encNs_append, List.length_append]
    exact h1
end Go.Proofs.YtjjfpbjdcmkkhaaDoor

namespace Go.Proofs.YtjjfpbjdcmkkhaaDoor
open Go Go.RowKit
section
variable {o : Oper} {w : World} {g s t u : Nat} (ρ : Operand → Value) {x y : Int} {p : Option Addr} {N c k n1 n2 : Nat}
theorem run_lSpanS (hop : o.op = .load 23 (.tmp s)) (hs : ρ (.tmp s) = .pointer (some ⟨g, 0, none⟩)) (c0 : w.cell? ⟨g, 0, none⟩ = some (.int .i64 x)) (c1 : w.cell? ⟨g, 1, none⟩ = some (.int .i64 y)) : (execOp ρ o).run Tryd.prog w = .ok (.value (.agg #[.int .i64 x, .int .i64 y])) w := by
  unfold execOp; simp [hop, hs, go_sem, c0, c1]
theorem run_lNoteS {a b d e : Int} (hop : o.op = .load 38 (.tmp s)) (hs : ρ (.tmp s) = .pointer (some ⟨g, 0, none⟩)) (h : Blk w g 38 #[.int .i64 a, .int .i64 b, .int .i64 d, .int .i64 e]) : (execOp ρ o).run Tryd.prog w = .ok (.value (.agg #[.int .i64 a, .int .i64 b, .int .i64 d, .int .i64 e])) w := by
  have c0 := h.cell 0
  have c1 := h.cell 1
  have c2 := h.cell 2
  have c3 := h.cell 3
  simp only [List.size_toArray, List.length_cons, List.length_nil, Nat.reduceAdd, Nat.reduceLT, getElem?_pos, List.getElem_toArray, List.getElem_cons_zero, List.getElem_cons_succ] at c0 c1 c2 c3
  unfold execOp; simp [hop, hs, go_sem, c0, c1, c2, c3]
theorem run_fBook0 (hop : o.op = .fieldAddr 26 (.tmp s) 0) (hs : ρ (.tmp s) = .pointer (some ⟨g, 0, none⟩)) (hl : g < w.heap.size) : (execOp ρ o).run Tryd.prog w = .ok (.value (.pointer (some ⟨g, 0, none⟩))) w := by
  unfold execOp; simp [hop, hs, go_sem, hl]
theorem run_bsNote {a b d e : Int} (hop : o.op = .buildSlice 24 1 #[(0, .tmp s)]) (h1 : ρ (.tmp s) = .agg #[.int .i64 a, .int .i64 b, .int .i64 d, .int .i64 e]) :
    (execOp ρ o).run Tryd.prog w = .ok (.value (.slice (some ⟨w.heap.size, 0, none⟩) 1 1)) (w.alloc (.cells #[.int .i64 a, .int .i64 b, .int .i64 d, .int .i64 e] 38)) := by
  unfold execOp; simp [hop, h1, go_sem]
theorem run_bBookS {p' : Option Addr} (hop : o.op = .build 26 #[(0, .tmp s), (1, .tmp t)]) (hs : ρ (.tmp s) = .agg #[.int .i64 x, .int .i64 y]) (ht : ρ (.tmp t) = .slice p' n1 n2) : (execOp ρ o).run Tryd.prog w = .ok (.value (.agg #[.int .i64 x, .int .i64 y, .slice p' n1 n2])) w := by
  unfold execOp; simp [hop, hs, ht, go_sem]
theorem run_slTo (hop : o.op = .slice 24 (.tmp s) none (some (.tmp t)) (some (.tmp u))) (hs : ρ (.tmp s) = .slice p N c) (ht : ρ (.tmp t) = .int .i64 k) (hu : ρ (.tmp u) = .int .i64 k) (hk : k ≤ c) (hp : ∀ a, p = some a → ∃ b o, a = ⟨b, o, none⟩) (hk0 : p = none → k = 0) :
    (execOp ρ o).run Tryd.prog w = .ok (.value (.slice p k k)) w := by
  have k0 : (0 : Int) ≤ (k : Int) := by omega
  have k1 : (k : Int) ≤ (c : Int) := by omega
  cases p with
  | none =>
    obtain rfl := hk0 rfl
    unfold execOp; simp [hop, hs, ht, hu, go_sem, k0, k1]
  | some a =>
    obtain ⟨b, o', rfl⟩ := hp _ rfl
    unfold execOp; simp [hop, hs, ht, hu, go_sem, k0, k1]
theorem run_slFrom {b o' : Nat} (hop : o.op = .slice 24 (.tmp s) (some (.tmp t)) none none) (hs : ρ (.tmp s) = .slice (some ⟨b, o', none⟩) N c) (ht : ρ (.tmp t) = .int .i64 k) (hk : k ≤ N) (hN : N ≤ c) :
    ∃ o2, (execOp ρ o).run Tryd.prog w = .ok (.value (.slice (some ⟨b, o2, none⟩) (N - k) (c - k))) w ∧ (c ≠ k → o2 = o' + k * 4) := by
  have k0 : (0 : Int) ≤ (k : Int) := by omega
  have k1 : (k : Int) ≤ (N : Int) := by omega
  have k2 : (N : Int) ≤ (c : Int) := by omega
  by_cases hc : c = k
  · refine ⟨o', ?_, fun h => absurd hc h⟩
    unfold execOp; simp [hop, hs, ht, go_sem, k0, k1, k2, hc]
  · refine ⟨o' + k * 4, ?_, fun _ => rfl⟩
    unfold execOp; simp [hop, hs, ht, go_sem, k0, k1, k2, hc]
theorem run_slFrom0 (hop : o.op = .slice 24 (.tmp s) (some (.tmp t)) none none) (hs : ρ (.tmp s) = .slice none 0 c) (ht : ρ (.tmp t) = .int .i64 (0 : Nat)) (hc : c = 0) :
    (execOp ρ o).run Tryd.prog w = .ok (.value (.slice none 0 0)) w := by
  subst hc
  unfold execOp; simp [hop, hs, ht, go_sem]
theorem run_append_none {ty : TypeId} (g n cap : Nat) (w : World) (h : n ≤ cap) : (Builtin.append_ #[24, 24] ty #[.slice (some ⟨g, 0, none⟩) n cap, .slice none 0 0]).run Tryd.prog w = .ok (.slice (some ⟨g, 0, none⟩) n cap) w := by
  obtain ⟨i0, hi, hz0, hz1, hz2⟩ := info_parts info_note
  simp [Builtin.append_, run_underlying under_notes, sizeOf, typeInfo, hi, Builtin.lenOf, h, Builtin.firstCells, storeCells, go_sem]
end
theorem st_append_none {ops : Array Oper} {Q : Exit → Act → World → Prop} {i : Nat} {o : Oper} {K : Act → World → Prop} {a : Act} {w : World} (h : ops[i]? = some o) (hw : Region.wanted o (yielded ops a.tmps) = true) (s x : Operand)
    (ho : o.op = .call { callee := .builtin .append, args := #[s, x], argTypes := #[24, 24] })
    (g n cap : Nat) (hs : a.eval s = .slice (some ⟨g, 0, none⟩) n cap) (hn : n ≤ cap) (hx : a.eval x = .slice none 0 0)
    (hK : K (a.put o.dst (.slice (some ⟨g, 0, none⟩) n cap)) w) : wpOp Tryd.prog ops Q i K a w := by
  refine wpOp_want h hw ?_
  have hr := run_append_none (ty := o.type) g n cap w hn
  unfold Oper.wp execOp
  simp only [ho, resolve, invoke, builtin, Sem.run_bind, Sem.run_pure, Result.andThen_ok, List.map_toArray, List.map_cons, List.map_nil, hs, hx, hr]
  exact hK
theorem st_slFrom {ops : Array Oper} {Q : Exit → Act → World → Prop} {i : Nat} {o : Oper} {K : Act → World → Prop} {a : Act} {w : World} {s t : Nat} {b o' N c k : Nat} (h : ops[i]? = some o) (hw : Region.wanted o (yielded ops a.tmps) = true)
    (hop : o.op = .slice 24 (.tmp s) (some (.tmp t)) none none) (hs : a.tmps.getD s undef = .slice (some ⟨b, o', none⟩) N c) (ht : a.tmps.getD t undef = .int .i64 k) (hk : k ≤ N) (hN : N ≤ c)
    (hK : ∀ o2, (c ≠ k → o2 = o' + k * 4) → K (a.put o.dst (.slice (some ⟨b, o2, none⟩) (N - k) (c - k))) w) : wpOp Tryd.prog ops Q i K a w := by
  obtain ⟨o2, hr, ho2⟩ := run_slFrom (w := w) a.eval hop hs ht hk hN
  exact st_val h hw hr (hK o2 ho2)
theorem OwnNs.ends {w : World} {B : Nat} {p : Option Addr} {n c : Nat} {l : List Nt} (h : OwnNs w B (.slice p n c) l) : n = l.length ∧ l.length ≤ c ∧ ∀ a, p = some a → a.block < w.heap.size := by
  obtain ⟨h1, h2⟩ := h
  rcases h2 with ⟨h2, h3⟩ | ⟨g, cap, cur, e, hg, hh, hn, hm, hs, ht⟩
  · simp only [Value.slice.injEq] at h2
    obtain ⟨rfl, rfl, rfl⟩ := h2
    exact ⟨h3.symm, by omega, fun a ha => by cases ha⟩
  · simp only [Value.slice.injEq] at e
    obtain ⟨rfl, rfl, rfl⟩ := e
    exact ⟨rfl, hn, fun a ha => by cases ha; exact (Array.getElem?_eq_some_iff.1 hh).1⟩
theorem OwnNs.notes {w : World} {B : Nat} {p : Option Addr} {n c : Nat} {l : List Nt} (h : OwnNs w B (.slice p n c) l) : NotesAt w p l := by
  obtain ⟨p2, c2, e, h2⟩ := h.at
  simp only [Value.slice.injEq] at e
  obtain ⟨rfl, -, -⟩ := e
  exact h2
theorem OwnNs.form {w : World} {B : Nat} {v : Value} {l : List Nt} (h : OwnNs w B v l) (h0 : l ≠ []) : ∃ g cap, v = .slice (some ⟨g, 0, none⟩) l.length cap ∧ l.length ≤ cap := by
  obtain ⟨h1, h2⟩ := h
  rcases h2 with ⟨h2, h3⟩ | ⟨g, cap, cur, rfl, hg, hh, hn, hm, hs, ht⟩
  · exact absurd (List.eq_nil_of_length_eq_zero h3) h0
  · exact ⟨g, cap, rfl, hn⟩
theorem grown_refl (w : World) (r : Option Nat) : w.grownBy w r := ⟨rfl, rfl, rfl, Nat.le_refl _, fun _ _ _ => rfl⟩
end Go.Proofs.YtjjfpbjdcmkkhaaDoor

