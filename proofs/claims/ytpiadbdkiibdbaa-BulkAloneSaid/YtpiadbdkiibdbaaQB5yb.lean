/- Package bulk: lists of numbers of a call's own, and appends to them, to two of them at once. In part cut out of earlier texts by gen_b5yb.py. -/
import Derived.Test.YtpiadbdkiibdbaaQB5ya
import Derived.Test.YtpiadbdkiibdbaaQFa
import Derived.OwnWalk
import Derived.OwnWalkIn
import Derived.Laws.OwnMore
import Derived.Deep.RegionLawGrows
set_option linter.unusedSimpArgs false
set_option linter.unusedVariables false
namespace Go.Proofs.Ytpiadbdkiibdbaa
open Go Go.RowKit Go.Shelf
theorem info_num : (Try.prog.info? 3).map (fun i => (i.zero, i.size, i.bytes)) = some (some (.int .i64 0), 1, 8) := by kernel_rfl
theorem under_nums : Try.prog.underlying 43 = some (.slice 3) := by kernel_rfl
abbrev encZ (l : List Int) : List Value := l.map (fun x => Value.int .i64 x)
def OwnInts (w : World) (B : Nat) (v : Value) (l : List Int) : Prop := w.ownsRow B 3 1 v l.length (l.map (Value.int .i64))
theorem OwnInts.nil (w : World) (B : Nat) : OwnInts w B (.slice none 0 0) [] := World.ownsRow_nil _ _ _ _
theorem wpList_append_int {ops : Array Oper} {rest : List Oper} {o : Oper} {a : Act} {Q : Exit → Act → World → Prop} {w : World} (hgd : o.guard = none) (s x : Operand)
    (ho : o.op = .call { callee := .builtin .append, args := #[s, x], argTypes := #[43, 43] }) (B : Nat)
    (v : Value) (l : List Int) (hs : a.eval s = v) (hown : OwnInts w B v l) (g : Nat) (y : Int) (hx : a.eval x = .slice (some ⟨g, 0, none⟩) 1 1) (hc : w.cell? ⟨g, 0, none⟩ = some (.int .i64 y))
    (hl : l.length ≤ 100000) (hB : B ≤ w.heap.size)
    (h : ∀ v' w', OwnInts w' B v' (l ++ [y]) → w.grownBy w' v.ownBlock → wpList Try.prog ops Q rest (a.put o.dst v') w') : wpList Try.prog ops Q (o :: rest) a w := by
  obtain ⟨i0, hi, hz0, hz1, hz2⟩ := info_parts info_num
  refine wpList_append_own w hgd s x 43 ho B 3 i0 (.int .i64 0) 1 8 under_nums hi hz0 hz1 hz2 rfl (by decide) v l.length _ hs hown ⟨g, 0, none⟩ 1 1 [.int .i64 y] hx rfl ?_ ?_ ?_ ?_ hB ?_
  · intro j u hj
    match j, hj with
    | 0, hj => simp at hj; subst hj; simpa [Addr.add] using hc
  · intro u hu; simp at hu; subst hu; rfl
  · unfold maxLen; omega
  · omega
  · intro v' w' h1 h2 _
    refine h v' w' ?_ h2
    unfold OwnInts
    simpa using h1

theorem OwnInts.of_blk {w : World} {g : Nat} {l : List Int} {n : Nat} {cs : Array Value} (h : Blk w g 3 cs) (hn : n = l.length) (hc : cs = (l.map (Value.int .i64)).toArray) (hl : l.length ≤ 100000) : OwnInts w g (.slice (some ⟨g, 0, none⟩) n n) l := by
  subst hn hc
  refine ⟨by simp, .inr ⟨g, l.length, _, rfl, Nat.le_refl _, h, Nat.le_refl _, by unfold maxLen; omega, by simp, ?_⟩⟩
  rw [List.take_of_length_le (by simp)]
theorem OwnInts.kept {w w' : World} {B : Nat} {v : Value} {l : List Int} (h : OwnInts w B v l) (hb : ∀ g, v.ownBlock = some g → w'.heap[g]? = w.heap[g]?) : OwnInts w' B v l := by
  obtain ⟨h1, h2⟩ := h
  refine ⟨h1, ?_⟩
  rcases h2 with h2 | ⟨g, cap, cur, rfl, hg, hh, r⟩
  · exact .inl h2
  · exact .inr ⟨g, cap, cur, rfl, hg, (hb g rfl).trans hh, r⟩
theorem OwnInts.lt {w : World} {B : Nat} {v : Value} {l : List Int} (h : OwnInts w B v l) : ∀ g, v.ownBlock = some g → B ≤ g ∧ g < w.heap.size := World.ownsRow.lt h
theorem OwnInts.below {w w' : World} {B : Nat} {v : Value} {l : List Int} (h : OwnInts w B v l) (hb : Below w.heap.size w w') : OwnInts w' B v l := h.kept (fun g hg => hb.block g (h.lt g hg).2)
theorem OwnInts.at {w : World} {B : Nat} {v : Value} {l : List Int} (h : OwnInts w B v l) : ∃ p c, v = .slice p l.length c ∧ IntsAt w p l ∧ ∀ g o, p = some ⟨g, o, none⟩ → B ≤ g := by
  obtain ⟨h1, h2⟩ := h
  rcases h2 with ⟨h2, h3⟩ | ⟨g, cap, cur, rfl, hg, hh, hn, hm, hs, ht⟩
  · refine ⟨none, 0, by rw [h2, h3], fun i x hx => ?_, fun g o h => by cases h⟩
    have := (List.getElem?_eq_some_iff.1 hx).1
    omega
  · refine ⟨_, cap, rfl, fun i x hx => ⟨g, 0, rfl, (Array.getElem?_eq_some_iff.1 hh).1, ?_⟩, fun g' o e => by cases e; exact hg⟩
    have hi := (List.getElem?_eq_some_iff.1 hx).1
    have h4 := World.ownsRow.cellAt (w := w) (base := B) (e := 3) (size := 1) (g := g) (cap := cap) (n := l.length) (xs := l.map (Value.int .i64)) ⟨h1, .inr ⟨g, cap, cur, rfl, hg, hh, hn, hm, hs, ht⟩⟩ i (by omega)
    rw [Nat.zero_add, h4]
    simp [hx]
theorem OwnInts.mono {w : World} {B B' : Nat} {v : Value} {l : List Int} (h : OwnInts w B v l) (hB : B' ≤ B) : OwnInts w B' v l := by
  obtain ⟨h1, h2⟩ := h
  refine ⟨h1, ?_⟩
  rcases h2 with h2 | ⟨g, cap, cur, rfl, hg, r⟩
  · exact .inl h2
  · exact .inr ⟨g, cap, cur, rfl, by omega, r⟩
theorem grown_none {w w' : World} (h : w.grownBy w' none) (r : Option Nat) : w.grownBy w' r := ⟨h.os, h.tape, h.output, h.size, fun q hq _ => h.block q hq (by simp)⟩
/-- An append of one number: where the list lies behind it. -/
theorem st_app_int {ops : Array Oper} {Q : Exit → Act → World → Prop} {i : Nat} {o : Oper} {K : Act → World → Prop} {a : Act} {w : World} (h : ops[i]? = some o) (hgd : o.guard = none) (s x : Operand)
    (ho : o.op = .call { callee := .builtin .append, args := #[s, x], argTypes := #[43, 43] }) (B : Nat)
    (v : Value) (l : List Int) (hs : a.eval s = v) (hown : OwnInts w B v l) (g : Nat) (y : Int) (hx : a.eval x = .slice (some ⟨g, 0, none⟩) 1 1) (hc : Blk w g 3 #[.int .i64 y])
    (hl : l.length ≤ 1000) (hB : B ≤ w.heap.size)
    (hK : ∀ v' w', OwnInts w' B v' (l ++ [y]) → w.grownBy w' v.ownBlock → (∀ q, v'.ownBlock = some q → v.ownBlock = some q ∨ w.heap.size ≤ q) → K (a.put o.dst v') w') : wpOp Try.prog ops Q i K a w := by
  have hw : Region.wanted o (yielded ops a.tmps) = true := by simp [Region.wanted, hgd]
  have hnew : ∀ (j : Nat) (u : Value), ((encZ [y])[j]? = some u) → w.cell? ((⟨g, 0, none⟩ : Addr).add j) = some u := fun j u hj => by
    match j, hj with
    | 0, hj => simp [encZ] at hj; subst hj; simpa [Addr.add] using hc.cell 0
    | n + 1, hj => simp [encZ] at hj
  have h1 : ∀ u ∈ encZ [y], u.oneCell' = true := fun u hu => by simp [encZ] at hu; subst hu; rfl
  have grows : ∀ (p : Option Addr) (cap : Nat), v = .slice p l.length cap → (p = none → l.length = 0 ∧ cap = 0) → cap < l.length + 1 → (∀ q, p = some q → ∀ (j : Nat) (u : Value), (encZ l)[j]? = some u → w.cell? (q.add j) = some u) → wpOp Try.prog ops Q i K a w := fun p cap hv hp hcap hcells => by
    obtain ⟨i0, hi, hz0, hz1, hz2⟩ := info_parts info_num
    refine wpOp_want h hw ?_
    have := step_append_grows (P := Try.prog) (ops := ops) (K := K) (Q := Q) (E := True) hgd s x 43 ho 3 i0 (.int .i64 0) 1 8 under_nums hi hz0 hz1 hz2 rfl (by decide) p l.length cap (encZ l) (by rw [hs, hv]) hp (by simp [encZ]) hcells ⟨g, 0, none⟩ 1 1 (encZ [y]) hx rfl hnew h1 (by omega) (by unfold maxLen; omega) (by omega)
      (fun v' w' h2 h3 => by
        have h4 : OwnInts w' w.heap.size v' (l ++ [y]) := by
          unfold OwnInts
          rw [List.map_append, List.length_append]
          exact h2
        exact hK v' w' (h4.mono hB) (grown_none h3 _) (fun q hq => .inr (h4.lt q hq).1))
    rwa [if_pos hw] at this
  obtain ⟨k1, k2⟩ := id hown
  rcases k2 with ⟨k2, k3⟩ | ⟨g', cap, cur, rfl, hg, hh, hn, hm, hsz, ht⟩
  · exact grows none 0 (by rw [k2, k3]) (fun _ => ⟨k3, rfl⟩) (by omega) (fun q hq => by cases hq)
  · by_cases hroom : l.length + 1 ≤ cap
    · obtain ⟨i0, hi, hz0, hz1, hz2⟩ := info_parts info_num
      refine wpOp_want h hw ?_
      obtain ⟨w', hrun, h2, h3⟩ := run_append_fits (P := Try.prog) w B 43 o.type 3 i0 1 under_nums hi hz1 g' l.length cap (l.map (Value.int .i64)) hown ⟨g, 0, none⟩ 1 1 (encZ [y]) rfl hnew h1 hroom
      unfold Oper.wp execOp
      simp only [ho, resolve, invoke, builtin, Sem.run_bind, Sem.run_pure, Result.andThen_ok, List.map_toArray, List.map_cons, List.map_nil, hs, hx, hrun]
      refine hK _ w' ?_ h3 (fun q hq => .inl hq)
      unfold OwnInts
      rw [List.map_append, List.length_append]
      exact h2
    · refine grows (some ⟨g', 0, none⟩) cap rfl (fun e => by cases e) (by omega) (fun q hq j u hj => ?_)
      cases hq
      obtain ⟨p2, c2, e2, hI, -⟩ := hown.at
      simp only [Value.slice.injEq] at e2
      obtain ⟨rfl, -, -⟩ := e2
      have hj2 : ∃ x, l[j]? = some x ∧ u = .int .i64 x := by
        rw [encZ, List.getElem?_map] at hj
        cases hlj : l[j]? with
        | none => rw [hlj] at hj; cases hj
        | some x => rw [hlj] at hj; simp at hj; exact ⟨x, rfl, hj.symm⟩
      obtain ⟨x, hx1, rfl⟩ := hj2
      obtain ⟨b2, o2, e3, -, hc2⟩ := hI j x hx1
      cases e3
      have key : ∀ o : Nat, (⟨g', o, none⟩ : Addr).add j = ⟨g', o + j, none⟩ := fun o => by simp [Addr.add]
      rw [key 0]
      exact hc2
theorem OwnInts.grown {w w' : World} {B : Nat} {v : Value} {l : List Int} {r : Option Nat} (h : OwnInts w B v l) (hg : w.grownBy w' r) (hr : ∀ g, v.ownBlock = some g → r = some g → False) : OwnInts w' B v l := h.kept (fun g e => hg.block g (h.lt g e).2 (fun e2 => hr g e e2.symm))
theorem grown_blk {w w' : World} {r : Option Nat} {g : Nat} {t : TypeId} {cs : Array Value} (h : w.grownBy w' r) (k : Blk w g t cs) (hr : r ≠ some g) : Blk w' g t cs := (h.block g k.lt (fun e => hr e.symm)).trans k
theorem wpList_of_wpOp {P : Program} {ops : Array Oper} {Q : Exit → Act → World → Prop} {i : Nat} {o : Oper} {rest : List Oper} {a : Act} {w : World} (h : ops[i]? = some o) (hp : wpOp P ops Q i (wpList P ops Q rest) a w) : wpList P ops Q (o :: rest) a w := by
  unfold wpOp at hp
  simp only [h] at hp
  exact hp
section
variable {o : Oper} {w : World} (ρ : Operand → Value)
theorem run_bsInt {s : Nat} {x : Int} (hop : o.op = .buildSlice 43 1 #[(0, .tmp s)]) (h1 : ρ (.tmp s) = .int .i64 x) :
    (execOp ρ o).run Try.prog w = .ok (.value (.slice (some ⟨w.heap.size, 0, none⟩) 1 1)) (w.alloc (.cells #[.int .i64 x] 3)) := by
  unfold execOp; simp [hop, h1, go_sem]
theorem run_fSpan0 {g t : Nat} (hop : o.op = .fieldAddr 23 (.tmp t) 0) (hs : ρ (.tmp t) = .pointer (some ⟨g, 0, none⟩)) (hl : g < w.heap.size) : (execOp ρ o).run Try.prog w = .ok (.value (.pointer (some ⟨g, 0, none⟩))) w := by
  unfold execOp; simp [hop, hs, go_sem, hl]
theorem run_fSpan1 {g t : Nat} (hop : o.op = .fieldAddr 23 (.tmp t) 1) (hs : ρ (.tmp t) = .pointer (some ⟨g, 0, none⟩)) (hl : g < w.heap.size) : (execOp ρ o).run Try.prog w = .ok (.value (.pointer (some ⟨g, 1, none⟩))) w := by
  unfold execOp; simp [hop, hs, go_sem, hl]
theorem run_lInt {g j t : Nat} {x : Value} (hop : o.op = .load 3 (.tmp t)) (hs : ρ (.tmp t) = .pointer (some ⟨g, j, none⟩)) (c0 : w.cell? ⟨g, j, none⟩ = some x) : (execOp ρ o).run Try.prog w = .ok (.value x) w := by
  unfold execOp; simp [hop, hs, go_sem, c0]
end
section
variable {P : Program} {ops : Array Oper} {Q : Exit → Act → World → Prop} {i : Nat} {o : Oper} {K : Act → World → Prop} {a : Act} {w : World}
theorem st_assign {s : Nat} {v : Value} (h : ops[i]? = some o) (hop : o.op = .assign (.tmp s)) (hw : Region.wanted o (yielded ops a.tmps) = true) (hs : a.tmps.getD s undef = v) (hK : K (a.put o.dst v) w) : wpOp P ops Q i K a w := by
  refine st_val h hw ?_ hK
  unfold execOp
  simp only [hop, Act.eval, hs, Sem.run_pure]
end
/-- What lay in a world still does, but for two blocks. -/
structure Grown2 (w w' : World) (r1 r2 : Option Nat) : Prop where
  os : w'.os = w.os
  tape : w'.tape = w.tape
  output : w'.output = w.output
  size : w.heap.size ≤ w'.heap.size
  block : ∀ g, g < w.heap.size → r1 ≠ some g → r2 ≠ some g → w'.heap[g]? = w.heap[g]?
theorem Grown2.blk {w w' : World} {r1 r2 : Option Nat} {g : Nat} {t : TypeId} {cs : Array Value} (h : Grown2 w w' r1 r2) (k : Blk w g t cs) (h1 : r1 ≠ some g) (h2 : r2 ≠ some g) : Blk w' g t cs := (h.block g k.lt h1 h2).trans k
theorem Grown2.by {w w1 w2 : World} {r1 r2 r : Option Nat} (h : Grown2 w w1 r1 r2) (h2 : w1.grownBy w2 r) (hr : r = r1 ∨ r = r2) : Grown2 w w2 r1 r2 :=
  ⟨h2.os.trans h.os, h2.tape.trans h.tape, h2.output.trans h.output, Nat.le_trans h.size h2.size, fun g hg e1 e2 => (h2.block g (Nat.lt_of_lt_of_le hg h.size) (fun e => by
    rcases hr with hr | hr
    · exact e1 (by rw [← hr, e])
    · exact e2 (by rw [← hr, e]))).trans (h.block g hg e1 e2)⟩
theorem Grown2.bel {w w1 w2 : World} {r1 r2 : Option Nat} (h : Grown2 w w1 r1 r2) (hb : Below w1.heap.size w1 w2) : Grown2 w w2 r1 r2 :=
  ⟨hb.os.trans h.os, hb.tape.trans h.tape, hb.output.trans h.output, Nat.le_trans h.size hb.size, fun g hg e1 e2 => (hb.block g (Nat.lt_of_lt_of_le hg h.size)).trans (h.block g hg e1 e2)⟩
theorem Grown2.below {w w1 w2 : World} {r1 r2 : Option Nat} {B : Nat} (hb : Below B w w1) (h : Grown2 w1 w2 r1 r2) (hB : B ≤ w1.heap.size) (e1 : ∀ g, r1 = some g → B ≤ g) (e2 : ∀ g, r2 = some g → B ≤ g) : Below B w w2 :=
  { os := h.os.trans hb.os, tape := h.tape.trans hb.tape, output := h.output.trans hb.output, size := Nat.le_trans hb.size h.size, block := fun g hg => (h.block g (by omega) (fun e => by have := e1 g e; omega) (fun e => by have := e2 g e; omega)).trans (hb.block g hg) }
/-- What the operations leave by which two lists get a number more each. -/
def duoR (gO Z : Nat) (p1 p2 : Option Addr) (n c1 c2 B : Nat) (hl rl : List Int) (hd rt : Int) (f : Nat → Bool) (i : Nat) (u : Value) (w : World) : Prop :=
  match i with
  | 0 => u = .slice p1 n c1
  | 1 => u = .pointer (some ⟨gO, 0, none⟩)
  | 2 => u = .int .i64 hd
  | 3 => ∃ g, u = .slice (some ⟨g, 0, none⟩) 1 1 ∧ Z ≤ g ∧ (f 4 = false → Blk w g 3 #[.int .i64 hd])
  | 4 => OwnInts w B u (hl ++ [hd]) ∧ ∀ q, u.ownBlock = some q → (Value.slice p1 n c1).ownBlock = some q ∨ Z ≤ q
  | 5 => u = .slice p2 n c2
  | 6 => u = .pointer (some ⟨gO, 1, none⟩)
  | 7 => u = .int .i64 rt
  | 8 => ∃ g, u = .slice (some ⟨g, 0, none⟩) 1 1 ∧ Z ≤ g ∧ (f 9 = false → Blk w g 3 #[.int .i64 rt])
  | 9 => OwnInts w B u (rl ++ [rt]) ∧ ∀ q, u.ownBlock = some q → (Value.slice p2 n c2).ownBlock = some q ∨ Z ≤ q
  | _ => True
structure DuoS (w0 : World) (gO B : Nat) (p1 p2 : Option Addr) (n c1 c2 : Nat) (hl rl : List Int) (hd rt : Int) (s0 s4 s9 : Nat) (f : Nat → Bool) (a : Act) (w : World) : Prop where
  old : Grown2 w0 w (Value.slice p1 n c1).ownBlock (Value.slice p2 n c2).ownBlock
  day : Blk w gO 23 #[.int .i64 hd, .int .i64 rt]
  one : f 4 = false → OwnInts w B (.slice p1 n c1) hl
  two : f 9 = false → OwnInts w B (.slice p2 n c2) rl
  dis : f 4 = true → f 9 = true → ∀ q, (a.tmps.getD s4 undef).ownBlock = some q → (a.tmps.getD s9 undef).ownBlock = some q → False
  org : f 10 = false → a.tmps.getD s0 undef = .slice p1 n c1
  asg : f 10 = true → a.tmps.getD s0 undef = a.tmps.getD s4 undef
section
variable {w0 : World} {gO B Z s0 s4 s9 : Nat} {p1 p2 : Option Addr} {n c1 c2 : Nat} {hl rl : List Int} {hd rt : Int} {f f' : Nat → Bool}
theorem duoR_f (h4 : f' 4 = f 4) (h9 : f' 9 = f 9) {i : Nat} {u : Value} {w : World} (h : duoR gO Z p1 p2 n c1 c2 B hl rl hd rt f i u w) : duoR gO Z p1 p2 n c1 c2 B hl rl hd rt f' i u w := by
  match i, h with
  | 0, h => exact h
  | 1, h => exact h
  | 2, h => exact h
  | 3, h => obtain ⟨g, e1, e2, e3⟩ := h; exact ⟨g, e1, e2, fun e => e3 (by rw [← h4]; exact e)⟩
  | 4, h => exact h
  | 5, h => exact h
  | 6, h => exact h
  | 7, h => exact h
  | 8, h => obtain ⟨g, e1, e2, e3⟩ := h; exact ⟨g, e1, e2, fun e => e3 (by rw [← h9]; exact e)⟩
  | 9, h => exact h
  | k + 10, h => trivial
theorem duoR_bel {i : Nat} {u : Value} {w w' : World} (h : duoR gO Z p1 p2 n c1 c2 B hl rl hd rt f i u w) (hb : Below w.heap.size w w') : duoR gO Z p1 p2 n c1 c2 B hl rl hd rt f i u w' := by
  match i, h with
  | 0, h => exact h
  | 1, h => exact h
  | 2, h => exact h
  | 3, h => obtain ⟨g, e1, e2, e3⟩ := h; exact ⟨g, e1, e2, fun e => (e3 e).bel hb⟩
  | 4, h => exact ⟨h.1.below hb, h.2⟩
  | 5, h => exact h
  | 6, h => exact h
  | 7, h => exact h
  | 8, h => obtain ⟨g, e1, e2, e3⟩ := h; exact ⟨g, e1, e2, fun e => (e3 e).bel hb⟩
  | 9, h => exact ⟨h.1.below hb, h.2⟩
  | k + 10, h => trivial
theorem put_ne {a : Act} {d s : Nat} {v : Value} (h : d ≠ s) : (a.put (some d) v).tmps.getD s undef = a.tmps.getD s undef := by
  simp [Act.put, Array.getElem?_setIfInBounds_ne h]
theorem DuoS.bel {a : Act} {w w' : World} (h : DuoS w0 gO B p1 p2 n c1 c2 hl rl hd rt s0 s4 s9 f a w) (hb : Below w.heap.size w w') (h4 : f' 4 = f 4) (h9 : f' 9 = f 9) (h10 : f' 10 = f 10) {d : Nat} {v : Value} (d1 : d ≠ s4) (d2 : d ≠ s9) (d0 : d ≠ s0) : DuoS w0 gO B p1 p2 n c1 c2 hl rl hd rt s0 s4 s9 f' (a.put (some d) v) w' :=
  ⟨h.old.bel hb, h.day.bel hb, fun e => (h.one (by rw [← h4]; exact e)).below hb, fun e => (h.two (by rw [← h9]; exact e)).below hb, fun e1 e2 => by
    rw [put_ne d1, put_ne d2]
    exact h.dis (by rw [← h4]; exact e1) (by rw [← h9]; exact e2), fun e => by rw [put_ne d0]; exact h.org (by rw [← h10]; exact e), fun e => by rw [put_ne d0, put_ne d1]; exact h.asg (by rw [← h10]; exact e)⟩
end
end Go.Proofs.Ytpiadbdkiibdbaa

