/- An append of one number, or of one span, to a list of the call's own; what is known of bounds as padded lists. -/
import Derived.Test.YtkmjfmppeedaoaaDoorQTo
import Derived.Test.YtkmjfmppeedaoaaDoorQIt
import Derived.Test.YtkmjfmppeedaoaaDoorQTk
import Derived.OwnWalk
import Derived.OwnWalkIn
set_option linter.unusedSimpArgs false
set_option linter.unusedVariables false
namespace Go.Proofs.YtkmjfmppeedaoaaDoor
open Go Go.RowKit

theorem info_int : (Tryd.prog.info? 3).map (fun i => (i.zero, i.size, i.bytes)) = some (some (.int .i64 0), 1, 8) := by kernel_rfl
theorem under_ints : Tryd.prog.underlying 28 = some (.slice 3) := by kernel_rfl
theorem info_span : (Tryd.prog.info? 33).map (fun i => (i.zero, i.size, i.bytes)) = some (some (.agg #[.int .i64 0, .int .i64 0]), 2, 16) := by kernel_rfl
theorem under_spans : Tryd.prog.underlying 22 = some (.slice 33) := by kernel_rfl

/-- A list of numbers in an array of the call's own (or nil). -/
def OwnInts (w : World) (B : Nat) (v : Value) (l : List Int) : Prop := w.ownsRow B 3 1 v l.length (l.map (Value.int .i64))
def encSpans (l : List (Int × Int)) : List Value := l.flatMap (fun s => [.int .i64 s.1, .int .i64 s.2])
def OwnSpans (w : World) (B : Nat) (v : Value) (l : List (Int × Int)) : Prop := w.ownsRow B 33 2 v l.length (encSpans l)
theorem OwnInts.nil (w : World) (B : Nat) : OwnInts w B (.slice none 0 0) [] := World.ownsRow_nil _ _ _ _
theorem OwnSpans.nil (w : World) (B : Nat) : OwnSpans w B (.slice none 0 0) [] := World.ownsRow_nil _ _ _ _
theorem encSpans_snoc (l : List (Int × Int)) (s : Int × Int) : encSpans (l ++ [s]) = encSpans l ++ [.int .i64 s.1, .int .i64 s.2] := by simp [encSpans]

theorem wpList_append_int {ops : Array Oper} {rest : List Oper} {o : Oper} {a : Act} {Q : Exit → Act → World → Prop} {w : World} (hgd : o.guard = none) (s x : Operand)
    (ho : o.op = .call { callee := .builtin .append, args := #[s, x], argTypes := #[28, 28] }) (B : Nat)
    (v : Value) (l : List Int) (hs : a.eval s = v) (hown : OwnInts w B v l) (g : Nat) (y : Int) (hx : a.eval x = .slice (some ⟨g, 0, none⟩) 1 1) (hc : w.cell? ⟨g, 0, none⟩ = some (.int .i64 y))
    (hl : l.length ≤ 100000) (hB : B ≤ w.heap.size)
    (h : ∀ v' w', OwnInts w' B v' (l ++ [y]) → w.grownBy w' v.ownBlock → wpList Tryd.prog ops Q rest (a.put o.dst v') w') : wpList Tryd.prog ops Q (o :: rest) a w := by
  obtain ⟨i0, hi, hz0, hz1, hz2⟩ := info_parts info_int
  refine wpList_append_own w hgd s x 28 ho B 3 i0 (.int .i64 0) 1 8 under_ints hi hz0 hz1 hz2 rfl (by decide) v l.length _ hs hown ⟨g, 0, none⟩ 1 1 [.int .i64 y] hx rfl ?_ ?_ ?_ ?_ hB ?_
  · intro j u hj
    match j, hj with
    | 0, hj => simp at hj; subst hj; simpa [Addr.add] using hc
  · intro u hu; simp at hu; subst hu; rfl
  · unfold maxLen; omega
  · omega
  · intro v' w' h1 h2 _
    refine h v' w' ?_ h2
    unfold OwnInts
    simpa using h1

theorem wpListIn_append_int {F : Fence} {n : Nat} {ops : Array Oper} {rest : List Oper} {o : Oper} {a : Act} {Q : Exit → Act → World → Prop} {w : World} (hgd : o.guard = none) (s x : Operand)
    (ho : o.op = .call { callee := .builtin .append, args := #[s, x], argTypes := #[28, 28] }) (B : Nat)
    (v : Value) (l : List Int) (hs : a.eval s = v) (hown : OwnInts w B v l) (g : Nat) (y : Int) (hx : a.eval x = .slice (some ⟨g, 0, none⟩) 1 1) (hc : w.cell? ⟨g, 0, none⟩ = some (.int .i64 y))
    (hl : l.length ≤ 100000) (hB : B ≤ w.heap.size)
    (h : ∀ v' w', OwnInts w' B v' (l ++ [y]) → w.grownBy w' v.ownBlock → wpListIn F n Tryd.prog ops Q rest (a.put o.dst v') w') : wpListIn F n Tryd.prog ops Q (o :: rest) a w := by
  obtain ⟨i0, hi, hz0, hz1, hz2⟩ := info_parts info_int
  refine wpListIn_append_own w hgd s x 28 ho B 3 i0 (.int .i64 0) 1 8 under_ints hi hz0 hz1 hz2 rfl (by decide) v l.length _ hs hown ⟨g, 0, none⟩ 1 1 [.int .i64 y] hx rfl ?_ ?_ ?_ ?_ hB ?_
  · intro j u hj
    match j, hj with
    | 0, hj => simp at hj; subst hj; simpa [Addr.add] using hc
  · intro u hu; simp at hu; subst hu; rfl
  · unfold maxLen; omega
  · omega
  · intro v' w' h1 h2 _
    refine h v' w' ?_ h2
    unfold OwnInts
    simpa using h1

theorem wpList_append_span {ops : Array Oper} {rest : List Oper} {o : Oper} {a : Act} {Q : Exit → Act → World → Prop} {w : World} (hgd : o.guard = none) (s x : Operand)
    (ho : o.op = .call { callee := .builtin .append, args := #[s, x], argTypes := #[22, 22] }) (B : Nat)
    (v : Value) (l : List (Int × Int)) (hs : a.eval s = v) (hown : OwnSpans w B v l) (g : Nat) (y z : Int) (hx : a.eval x = .slice (some ⟨g, 0, none⟩) 1 1) (hc : w.cell? ⟨g, 0, none⟩ = some (.int .i64 y)) (hc2 : w.cell? ⟨g, 1, none⟩ = some (.int .i64 z))
    (hl : l.length ≤ 100000) (hB : B ≤ w.heap.size)
    (h : ∀ v' w', OwnSpans w' B v' (l ++ [(y, z)]) → w.grownBy w' v.ownBlock → wpList Tryd.prog ops Q rest (a.put o.dst v') w') : wpList Tryd.prog ops Q (o :: rest) a w := by
  obtain ⟨i0, hi, hz0, hz1, hz2⟩ := info_parts info_span
  refine wpList_append_own w hgd s x 22 ho B 33 i0 (.agg #[.int .i64 0, .int .i64 0]) 2 16 under_spans hi hz0 hz1 hz2 rfl (by decide) v l.length _ hs hown ⟨g, 0, none⟩ 1 1 [.int .i64 y, .int .i64 z] hx rfl ?_ ?_ ?_ ?_ hB ?_
  · intro j u hj
    match j, hj with
    | 0, hj => simp at hj; subst hj; simpa [Addr.add] using hc
    | 1, hj => simp at hj; subst hj; simpa [Addr.add] using hc2
  · intro u hu; simp at hu; rcases hu with rfl | rfl <;> rfl
  · unfold maxLen; omega
  · omega
  · intro v' w' h1 h2 _
    refine h v' w' ?_ h2
    unfold OwnSpans
    rw [encSpans_snoc]
    simpa using h1

theorem encSpans_append (l m : List (Int × Int)) : encSpans (l ++ m) = encSpans l ++ encSpans m := by simp [encSpans]
theorem encSpans_len (l : List (Int × Int)) : (encSpans l).length = l.length * 2 := by
  induction l with
  | nil => rfl
  | cons a l ih => rw [show encSpans (a :: l) = .int .i64 a.1 :: .int .i64 a.2 :: encSpans l from rfl]; simp [ih]; omega
theorem encSpans_one (l : List (Int × Int)) : ∀ u ∈ encSpans l, u.oneCell' = true := by
  induction l with
  | nil => simp [encSpans]
  | cons a l ih =>
    intro u hu
    rw [show encSpans (a :: l) = .int .i64 a.1 :: .int .i64 a.2 :: encSpans l from rfl] at hu
    simp only [List.mem_cons] at hu
    rcases hu with rfl | rfl | hu
    · rfl
    · rfl
    · exact ih u hu
theorem wpList_append_spans {ops : Array Oper} {rest : List Oper} {o : Oper} {a : Act} {Q : Exit → Act → World → Prop} {w : World} (hgd : o.guard = none) (s x : Operand)
    (ho : o.op = .call { callee := .builtin .append, args := #[s, x], argTypes := #[22, 22] }) (B : Nat)
    (v : Value) (n : Nat) (l L : List (Int × Int)) (hs : a.eval s = v) (hown : OwnSpans w B v l) (hln : l.length = n) (ad : Addr) (m c : Nat) (hm : L.length = m) (hx : a.eval x = .slice (some ad) m c) (hc : ∀ j u, (encSpans L)[j]? = some u → w.cell? (ad.add j) = some u)
    (hl : l.length + L.length ≤ 100000) (hB : B ≤ w.heap.size)
    (h : ∀ v' w', OwnSpans w' B v' (l ++ L) → w.grownBy w' v.ownBlock → wpList Tryd.prog ops Q rest (a.put o.dst v') w') : wpList Tryd.prog ops Q (o :: rest) a w := by
  obtain ⟨i0, hi, hz0, hz1, hz2⟩ := info_parts info_span
  subst hm hln
  refine wpList_append_own w hgd s x 22 ho B 33 i0 (.agg #[.int .i64 0, .int .i64 0]) 2 16 under_spans hi hz0 hz1 hz2 rfl (by decide) v l.length _ hs hown ad L.length c (encSpans L) hx (encSpans_len L) hc (encSpans_one L) ?_ ?_ hB ?_
  · unfold maxLen; omega
  · omega
  · intro v' w' h1 h2 _
    refine h v' w' ?_ h2
    unfold OwnSpans
    rw [encSpans_append, List.length_append]
    exact h1
theorem OwnInts.kept {w w' : World} {B : Nat} {v : Value} {l : List Int} (h : OwnInts w B v l) (hb : ∀ g, v.ownBlock = some g → w'.heap[g]? = w.heap[g]?) : OwnInts w' B v l := by
  obtain ⟨h1, h2⟩ := h
  refine ⟨h1, ?_⟩
  rcases h2 with h2 | ⟨g, cap, cur, rfl, hg, hh, r⟩
  · exact .inl h2
  · exact .inr ⟨g, cap, cur, rfl, hg, (hb g rfl).trans hh, r⟩
theorem OwnInts.lt {w : World} {B : Nat} {v : Value} {l : List Int} (h : OwnInts w B v l) : ∀ g, v.ownBlock = some g → B ≤ g ∧ g < w.heap.size := World.ownsRow.lt h
theorem OwnInts.below {w w' : World} {B : Nat} {v : Value} {l : List Int} (h : OwnInts w B v l) (hb : Below w.heap.size w w') : OwnInts w' B v l := h.kept (fun g hg => hb.block g (h.lt g hg).2)
theorem OwnInts.mono {w : World} {B B' : Nat} {v : Value} {l : List Int} (h : OwnInts w B v l) (hB : B' ≤ B) : OwnInts w B' v l := by
  obtain ⟨h1, h2⟩ := h
  refine ⟨h1, ?_⟩
  rcases h2 with h2 | ⟨g, cap, cur, rfl, hg, r⟩
  · exact .inl h2
  · exact .inr ⟨g, cap, cur, rfl, by omega, r⟩
/-- What is the call's own lies as any list does. -/
theorem OwnInts.at {w : World} {B : Nat} {v : Value} {l : List Int} (h : OwnInts w B v l) : ∃ p c, v = .slice p l.length c ∧ IntsAt w p l ∧ ∀ g o, p = some ⟨g, o, none⟩ → B ≤ g := by
  obtain ⟨h1, h2⟩ := h
  rcases h2 with ⟨h2, h3⟩ | ⟨g, cap, cur, rfl, hg, hh, hn, hm, hs, ht⟩
  · refine ⟨none, 0, by rw [h2, h3], fun i x hx => ?_, fun g o h => by cases h⟩
    have := (List.getElem?_eq_some_iff.1 hx).1
    omega
  · refine ⟨_, cap, rfl, fun i x hx => ⟨g, 0, rfl, (Array.getElem?_eq_some_iff.1 hh).1, ?_⟩, fun g' o e => by cases e; exact hg⟩
    have hi := (List.getElem?_eq_some_iff.1 hx).1
    have h4 := World.ownsRow.cellAt (w := w) (base := B) (e := 3) (size := 1) (g := g) (cap := cap) (n := l.length) (xs := l.map (Value.int .i64)) ⟨h1, .inr ⟨g, cap, cur, rfl, hg, hh, hn, hm, hs, ht⟩⟩ i (by omega)
    rw [Nat.zero_add, h4]
    simp [hx]
def SpansLen : List (Int × Int) → Nat := List.length
theorem OwnSpans.kept {w w' : World} {B : Nat} {v : Value} {l : List (Int × Int)} (h : OwnSpans w B v l) (hb : ∀ g, v.ownBlock = some g → w'.heap[g]? = w.heap[g]?) : OwnSpans w' B v l := by
  obtain ⟨h1, h2⟩ := h
  refine ⟨h1, ?_⟩
  rcases h2 with h2 | ⟨g, cap, cur, rfl, hg, hh, r⟩
  · exact .inl h2
  · exact .inr ⟨g, cap, cur, rfl, hg, (hb g rfl).trans hh, r⟩
theorem OwnSpans.lt {w : World} {B : Nat} {v : Value} {l : List (Int × Int)} (h : OwnSpans w B v l) : ∀ g, v.ownBlock = some g → B ≤ g ∧ g < w.heap.size := World.ownsRow.lt h
theorem OwnSpans.below {w w' : World} {B : Nat} {v : Value} {l : List (Int × Int)} (h : OwnSpans w B v l) (hb : Below w.heap.size w w') : OwnSpans w' B v l := h.kept (fun g hg => hb.block g (h.lt g hg).2)
theorem encSpans_get : ∀ (l : List (Int × Int)) (i : Nat) (s : Int × Int), l[i]? = some s → (encSpans l)[i * 2]? = some (.int .i64 s.1) ∧ (encSpans l)[i * 2 + 1]? = some (.int .i64 s.2)
  | [], i, s, h => by simp at h
  | a :: l, 0, s, h => by simp at h; subst h; simp [encSpans]
  | a :: l, i + 1, s, h => by
    have := encSpans_get l i s (by simpa using h)
    rw [show encSpans (a :: l) = .int .i64 a.1 :: .int .i64 a.2 :: encSpans l from rfl, show (i + 1) * 2 = i * 2 + 1 + 1 by omega]
    simpa using this
theorem OwnSpans.at {w : World} {B : Nat} {v : Value} {l : List (Int × Int)} (h : OwnSpans w B v l) : ∃ p c, v = .slice p l.length c ∧ SpansAt w p l := by
  obtain ⟨h1, h2⟩ := h
  rcases h2 with ⟨h2, h3⟩ | ⟨g, cap, cur, rfl, hg, hh, hn, hm, hs, ht⟩
  · refine ⟨none, 0, by rw [h2, h3], fun i x hx => ?_⟩
    have := (List.getElem?_eq_some_iff.1 hx).1
    omega
  · refine ⟨_, cap, rfl, fun i x hx => ⟨g, 0, rfl, (Array.getElem?_eq_some_iff.1 hh).1, ?_⟩⟩
    have hi := (List.getElem?_eq_some_iff.1 hx).1
    have ho : w.ownsRow B 33 2 (.slice (some ⟨g, 0, none⟩) l.length cap) l.length (encSpans l) := ⟨h1, .inr ⟨g, cap, cur, rfl, hg, hh, hn, hm, hs, ht⟩⟩
    obtain ⟨e1, e2⟩ := encSpans_get l i x hx
    rw [Nat.zero_add, ho.cellAt (i * 2) (by omega), ho.cellAt (i * 2 + 1) (by omega)]
    exact ⟨e1, e2⟩

theorem Blk.set1 {w : World} {g : Nat} {t : TypeId} {v0 v : Value} (h : Blk w g t #[v0]) : Blk (w.setCell ⟨g, 0, none⟩ v) g t #[v] := by simpa using h.set 0 v
/-- Minutes of bounds, padded by the minute that never comes. -/
def tl (v : List Int) : List Int := [v.getD 0 1440, v.getD 1 1440, v.getD 2 1440, v.getD 3 1440]
theorem soon_tl (l : List (Int × Int)) : soonL l = tl (l.map Prod.fst) := soon_eq l
theorem late_tl (l : List (Int × Int)) : lateL l = tl (l.map Prod.snd) := late_eq l
theorem cnt_mono (l : List Int) (a b : Int) (h : a ≤ b) : cnt l a ≤ cnt l b := by
  induction l with
  | nil => simp [cnt]
  | cons t l ih => rw [cnt_cons, cnt_cons]; split <;> split <;> omega
theorem cnt_tl_le (v : List Int) (h4 : v.length ≤ 4) (m : Int) (hm : m < 1440) : cnt (tl v) m ≤ v.length := by
  rcases four v h4 with rfl | ⟨x, rfl⟩ | ⟨x, y, rfl⟩ | ⟨x, y, z, rfl⟩ | ⟨x, y, z, u, rfl⟩ <;> simp only [tl, List.getD_cons_zero, List.getD_cons_succ, List.getD_nil, cnt_cons, cnt_nil, List.length_cons, List.length_nil] <;> (repeat' split) <;> omega

/-- In how many truths a shot is fair, by what is known of the bounds. -/
def jk (b : Bk) (S L : List Int) (s : Shot) : Int := kindOf (fun t => ownf b.os s.st.toNat t == s.co) (seg (cnt L s.lo) (cnt S s.hi))
theorem judge_known (h : Hd) (b : Bk) (B : Nat) (i : Nat) (s : Shot) (w : World) (hk : CoveOK w h b B) (hi : b.ss[i]? = some s) :
    Calls Tryd.prog 55 #[.agg #[.int .i64 b.n, .slice h.pb b.bs.length h.cb, .slice h.po b.os.length h.co, .slice h.ps b.ss.length h.cs, .int .i64 (kspec b.bs 2 0 0), .int .i64 (kspec b.bs 2 0 1), .int .i64 (kspec b.bs 2 0 2), .int .i64 (kspec b.bs 2 0 3), .int .i64 (kspec b.bs 2 0 4), .int .i64 (kspec b.bs 2 0 5), .int .i64 (kspec b.bs 2 0 6), .int .i64 (kspec b.bs 2 0 7), .map (some B)], .int .i64 i, .agg #[.int .i64 (kspec b.bs 2 0 0), .int .i64 (kspec b.bs 2 0 1), .int .i64 (kspec b.bs 2 0 2), .int .i64 (kspec b.bs 2 0 3), .int .i64 (kspec b.bs 2 0 4), .int .i64 (kspec b.bs 2 0 5), .int .i64 (kspec b.bs 2 0 6), .int .i64 (kspec b.bs 2 0 7)]] w fun e w' =>
      e = .returned (.int .i64 (jk b (soonL b.bs) (lateL b.bs) s)) ∧ ∃ x, w' = ext w x := by
  obtain ⟨⟨q1, q2⟩, _, q4⟩ := bookB_shot hk.ok hi
  obtain ⟨v1, v2, _⟩ := bookB_bounds hk.ok
  unfold Mom at q4
  exact judge_any h b B i s.st.toNat s _ _ _ _ _ _ _ _ w hk hi (by omega) (cnt_late_soon _ v1 v2 _ _ (by omega)) (cnt_soon_le _ v1 _ (by omega)) (by omega)
theorem judge_truth (h : Hd) (b : Bk) (B : Nat) (i : Nat) (s : Shot) (v : List Int) (v0 v1 v2 v3 : Int) (w : World) (hk : CoveOK w h b B) (hi : b.ss[i]? = some s) (hv : v.length = b.bs.length) (ht : tl v = [v0, v1, v2, v3]) :
    Calls Tryd.prog 55 #[.agg #[.int .i64 b.n, .slice h.pb b.bs.length h.cb, .slice h.po b.os.length h.co, .slice h.ps b.ss.length h.cs, .int .i64 (kspec b.bs 2 0 0), .int .i64 (kspec b.bs 2 0 1), .int .i64 (kspec b.bs 2 0 2), .int .i64 (kspec b.bs 2 0 3), .int .i64 (kspec b.bs 2 0 4), .int .i64 (kspec b.bs 2 0 5), .int .i64 (kspec b.bs 2 0 6), .int .i64 (kspec b.bs 2 0 7), .map (some B)], .int .i64 i, .agg #[.int .i64 v0, .int .i64 v1, .int .i64 v2, .int .i64 v3, .int .i64 v0, .int .i64 v1, .int .i64 v2, .int .i64 v3]] w fun e w' =>
      e = .returned (.int .i64 (jk b (tl v) (tl v) s)) ∧ ∃ x, w' = ext w x := by
  obtain ⟨⟨q1, q2⟩, _, q4⟩ := bookB_shot hk.ok hi
  obtain ⟨b1, b2, _⟩ := bookB_bounds hk.ok
  unfold Mom at q4
  have h1 := cnt_tl_le v (by omega) s.hi (by omega)
  rw [ht] at h1 ⊢
  exact judge_any h b B i s.st.toNat s _ _ _ _ _ _ _ _ w hk hi (by omega) (cnt_mono _ _ _ (by omega)) (by rw [hv] at h1; exact h1) (by omega)
end Go.Proofs.YtkmjfmppeedaoaaDoor

