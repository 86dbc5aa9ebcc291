/- TurnKnown's first half: rows of books, each in memory of its own; what a store into one of them leaves of the others. -/
/- TurnKnown's first half: what each store leaves. -/
/- TurnKnown's first half: its steps that append. -/
import Derived.Test.YtdmicngnbcdkdaaDoorRBb
import Derived.Test.YtdmicngnbcdkdaaDoorRBx
set_option linter.unusedSimpArgs false
set_option linter.unusedVariables false
namespace Go.Proofs.YtdmicngnbcdkdaaDoor
open Go Go.RowKit

abbrev Trio := Nat × Nat × Nat
/-- The chapter's book, all of its memory between two numbers. -/
def BookIn (w : World) (L U : Nat) (t : Trio) (lo hi : Int) : Prop := ∃ g3 g4 : Nat, (L ≤ t.1 ∧ t.1 < U) ∧ (L ≤ t.2.1 ∧ t.2.1 < U) ∧ (L ≤ g3 ∧ g3 < U) ∧ (L ≤ g4 ∧ g4 < U) ∧ (L ≤ t.2.2 ∧ t.2.2 < U) ∧
  Blk w t.1 33 #[.int .i64 360, .int .i64 364, .int .i64 540, .int .i64 545] ∧ Blk w t.2.1 28 #[.slice (some ⟨g3, 0, none⟩) 3 3, .slice (some ⟨g4, 0, none⟩) 3 3] ∧ Blk w g3 3 #[.int .i64 0, .int .i64 1, .int .i64 2] ∧ Blk w g4 3 #[.int .i64 1, .int .i64 2, .int .i64 0] ∧
  Blk w t.2.2 46 #[.int .i64 0, .int .i64 1, .int .i64 362, .int .i64 366, .int .i64 1, .int .i64 2, .int .i64 400, .int .i64 400, .int .i64 0, .int .i64 0, .int .i64 359, .int .i64 359, .int .i64 1, .int .i64 0, .int .i64 lo, .int .i64 hi]
theorem BookIn.keep {w w' : World} {L U : Nat} {t : Trio} {lo hi : Int} (h : BookIn w L U t lo hi) (hk : ∀ j, L ≤ j → j < U → w'.heap[j]? = w.heap[j]?) : BookIn w' L U t lo hi := by
  obtain ⟨g3, g4, r1, r2, r3, r4, r5, k1, k2, k3, k4, k5⟩ := h
  exact ⟨g3, g4, r1, r2, r3, r4, r5, (hk _ r1.1 r1.2).trans k1, (hk _ r2.1 r2.2).trans k2, (hk _ r3.1 r3.2).trans k3, (hk _ r4.1 r4.2).trans k4, (hk _ r5.1 r5.2).trans k5⟩
theorem BookIn.wide {w : World} {L U L' U' : Nat} {t : Trio} {lo hi : Int} (h : BookIn w L U t lo hi) (h1 : L' ≤ L) (h2 : U ≤ U') : BookIn w L' U' t lo hi := by
  obtain ⟨g3, g4, r1, r2, r3, r4, r5, k⟩ := h
  exact ⟨g3, g4, ⟨by omega, by omega⟩, ⟨by omega, by omega⟩, ⟨by omega, by omega⟩, ⟨by omega, by omega⟩, ⟨by omega, by omega⟩, k⟩
def hdT (t : Trio) : Hd := ⟨some ⟨t.1, 0, none⟩, 2, some ⟨t.2.1, 0, none⟩, 2, some ⟨t.2.2, 0, none⟩, 4⟩
theorem BookIn.at {w : World} {L U : Nat} {t : Trio} {lo hi : Int} (h : BookIn w L U t lo hi) : BkAt w (hdT t) (bookW lo hi) := by
  obtain ⟨g3, g4, -, -, -, -, -, k2, k5, k3, k4, k14⟩ := h
  exact ⟨spans_of_blk k2 rfl (by simp [bookW]), rows_of_blk k5 (ints_of_blk k3 rfl (by decide)) (ints_of_blk k4 rfl (by decide)) rfl rfl, shots_of_blk k14 rfl (by simp [bookW])⟩
theorem book_in {lo hi : Int} {w : World} {e : Ending} {w' : World} (h : BookPostN w lo hi e w') : ∃ a b c : Nat, e = .returned (.agg #[.int .i64 3, .slice (some ⟨a, 0, none⟩) 2 2, .slice (some ⟨b, 0, none⟩) 2 2, .slice (some ⟨c, 0, none⟩) 4 4]) ∧ BookIn w' w.heap.size w'.heap.size (a, b, c) lo hi ∧ Below w.heap.size w w' := by
  obtain ⟨g2, g5, g3, g4, g14, ⟨n2, n5, n3, n4, n14⟩, he, k2, k5, k3, k4, k14, x, hx⟩ := h
  exact ⟨g2, g5, g14, he, ⟨g3, g4, ⟨n2, k2.lt⟩, ⟨n5, k5.lt⟩, ⟨n3, k3.lt⟩, ⟨n4, k4.lt⟩, ⟨n14, k14.lt⟩, k2, k5, k3, k4, k14⟩, by rw [hx]; exact below_ext w x⟩
theorem own_in (w : World) : Calls Tryd.prog 40 #[] w fun e w' => ∃ a b c : Nat, e = .returned (.agg #[.int .i64 3, .slice (some ⟨a, 0, none⟩) 2 2, .slice (some ⟨b, 0, none⟩) 2 2, .slice (some ⟨c, 0, none⟩) 4 4]) ∧ BookIn w' w.heap.size w'.heap.size (a, b, c) 541 543 ∧ Below w.heap.size w w' :=
  (own_fullN w).mono fun _ _ h => book_in h
theorem book_at_in (lo hi : Int) (w : World) : Calls Tryd.prog 41 #[.agg #[.int .i64 lo, .int .i64 hi]] w fun e w' => ∃ a b c : Nat, e = .returned (.agg #[.int .i64 3, .slice (some ⟨a, 0, none⟩) 2 2, .slice (some ⟨b, 0, none⟩) 2 2, .slice (some ⟨c, 0, none⟩) 4 4]) ∧ BookIn w' w.heap.size w'.heap.size (a, b, c) lo hi ∧ Below w.heap.size w w' :=
  (book_anyN lo hi w).mono fun _ _ h => book_in h
theorem To_in (a b : Int) (w : World) : Calls Tryd.prog 26 #[.int .i64 a, .int .i64 b] w fun e w' => e = .returned (.agg #[.int .i64 a, .int .i64 b]) ∧ Below w.heap.size w w' :=
  (To_any a b w).mono fun _ _ ⟨he, x, hx⟩ => ⟨he, by rw [hx]; exact below_ext w x⟩
/-- Which span the last shot of a row has. -/
def spanOf (k : Nat) : Int × Int := if k = 12 then (535, 546) else if k = 13 then (1435, 1440) else (541, 543)
/-- Books that were made one after the other. -/
def RowsMade (w0 : World) (ts : List Trio) (w : World) : Prop := ∃ lo : Nat → Nat, w0.heap.size ≤ lo 0 ∧ (∀ k, lo k ≤ lo (k + 1)) ∧ lo (ts.length + 1) ≤ w.heap.size ∧ Below w0.heap.size w0 w ∧ ∀ (k : Nat) (t : Trio), ts[k]? = some t → BookIn w (lo (k + 1)) (lo (k + 2)) t (spanOf (k + 1)).1 (spanOf (k + 1)).2
theorem RowsMade.nil (w : World) : RowsMade w [] w := ⟨fun _ => w.heap.size, Nat.le_refl _, fun _ => Nat.le_refl _, Nat.le_refl _, Below.refl _ _, fun k t h => by simp at h⟩
theorem lo_le {lo : Nat → Nat} (h : ∀ k, lo k ≤ lo (k + 1)) {i j : Nat} (hij : i ≤ j) : lo i ≤ lo j := by
  induction j with
  | zero => obtain rfl : i = 0 := by omega
            exact Nat.le_refl _
  | succ j ih =>
    by_cases e : i = j + 1
    · subst e; exact Nat.le_refl _
    · exact Nat.le_trans (ih (by omega)) (h j)
theorem RowsMade.grow {w0 : World} {ts : List Trio} {w w' : World} (h : RowsMade w0 ts w) (hb : Below w.heap.size w w') : RowsMade w0 ts w' := by
  obtain ⟨lo, h0, h1, h2, h3, h4⟩ := h
  refine ⟨lo, h0, h1, Nat.le_trans h2 hb.size, h3.trans (hb.mono h3.size), fun k t hk => (h4 k t hk).keep (fun j _ hj => hb.block j ?_)⟩
  have hl := (List.getElem?_eq_some_iff.1 hk).1
  have := lo_le h1 (show k + 2 ≤ ts.length + 1 by omega)
  omega
theorem RowsMade.snoc {w0 : World} {ts : List Trio} {w w' : World} {t : Trio} (h : RowsMade w0 ts w) (hb : Below w.heap.size w w') (ht : BookIn w' w.heap.size w'.heap.size t (spanOf (ts.length + 1)).1 (spanOf (ts.length + 1)).2) : RowsMade w0 (ts ++ [t]) w' := by
  obtain ⟨lo, h0, h1, h2, h3, h4⟩ := h
  have hz := hb.size
  refine ⟨fun j => if j ≤ ts.length + 1 then lo j else w'.heap.size, by dsimp only; rw [if_pos (by omega)]; exact h0, fun k => ?_, ?_, h3.trans (hb.mono h3.size), fun k u hk => ?_⟩
  · dsimp only
    by_cases e1 : k + 1 ≤ ts.length + 1
    · rw [if_pos (by omega), if_pos e1]; exact h1 k
    · rw [if_neg e1]
      split
      · have := lo_le h1 (show k ≤ ts.length + 1 by omega); omega
      · exact Nat.le_refl _
  · dsimp only
    rw [if_neg (by simp)]; exact Nat.le_refl _
  · dsimp only
    have hl := (List.getElem?_eq_some_iff.1 hk).1
    rw [List.length_append, List.length_cons, List.length_nil] at hl
    by_cases e : k < ts.length
    · rw [List.getElem?_append_left e] at hk
      rw [if_pos (by omega), if_pos (by omega)]
      refine (h4 k u hk).keep (fun j _ hj => hb.block j ?_)
      have := lo_le h1 (show k + 2 ≤ ts.length + 1 by omega)
      omega
    · obtain rfl : k = ts.length := by omega
      rw [List.getElem?_append_right (Nat.le_refl _)] at hk
      simp at hk
      subst hk
      rw [if_pos (by omega), if_neg (by omega)]
      exact ht.wide h2 (Nat.le_refl _)
/-- A row of the block of books. -/
def RowAt (cs : Array Value) (k : Nat) (h : Hd) (b : Bk) : Prop := cs[4 * k]? = some (.int .i64 b.n) ∧ cs[4 * k + 1]? = some (.slice h.pb b.bs.length h.cb) ∧ cs[4 * k + 2]? = some (.slice h.po b.os.length h.co) ∧ cs[4 * k + 3]? = some (.slice h.ps b.ss.length h.cs)
theorem RowAt.keep {cs cs' : Array Value} {k : Nat} {h : Hd} {b : Bk} (hr : RowAt cs k h b) (hc : ∀ i, 4 * k ≤ i → i < 4 * k + 4 → cs'[i]? = cs[i]?) : RowAt cs' k h b :=
  ⟨(hc _ (by omega) (by omega)).trans hr.1, (hc _ (by omega) (by omega)).trans hr.2.1, (hc _ (by omega) (by omega)).trans hr.2.2.1, (hc _ (by omega) (by omega)).trans hr.2.2.2⟩
def OwnRow (w : World) (cs : Array Value) (lo : Nat → Nat) (k : Nat) : Prop := ∃ t, BookIn w (lo k) (lo (k + 1)) t 541 543 ∧ RowAt cs k (hdT t) (bookW 541 543)
def BadRow (w : World) (gB : Nat) (cs : Array Value) (lo : Nat → Nat) (k : Nat) : Prop := ∃ h b, bookB b = false ∧ RowAt cs k h b ∧
  ∀ w' : World, w.heap.size ≤ w'.heap.size → (∀ j, j < w.heap.size → ((lo k ≤ j ∧ j < lo (k + 1)) ∨ gB < j) → w'.heap[j]? = w.heap[j]?) → BkAt w' h b
structure Inv (w : World) (gB : Nat) (cs : Array Value) (lo : Nat → Nat) (m : Nat) : Prop where
  blk : Blk w gB 26 cs
  mono : ∀ k, lo k ≤ lo (k + 1)
  top : lo 14 ≤ gB
  bad : ∀ k, k < 14 → (k < m ∨ 12 ≤ k) → BadRow w gB cs lo k
  own : ∀ k, m ≤ k → k < 12 → OwnRow w cs lo k
theorem Inv.step {w w' : World} {gB : Nat} {cs cs' : Array Value} {lo : Nat → Nat} {m : Nat} (I : Inv w gB cs lo m) (hm : m < 12) (hs : w.heap.size ≤ w'.heap.size)
    (hk : ∀ j, j < w.heap.size → j ≠ gB → ¬ (lo m ≤ j ∧ j < lo (m + 1)) → w'.heap[j]? = w.heap[j]?) (hb : Blk w' gB 26 cs') (hc : ∀ i, (i < 4 * m ∨ 4 * m + 4 ≤ i) → cs'[i]? = cs[i]?)
    (hnew : BadRow w' gB cs' lo m) : Inv w' gB cs' lo (m + 1) where
  blk := hb
  mono := I.mono
  top := I.top
  bad := fun k hk14 hor => by
    by_cases e : k = m
    · subst e; exact hnew
    · obtain ⟨h, b, h1, h2, h3⟩ := I.bad k hk14 (by omega)
      refine ⟨h, b, h1, h2.keep (fun i h4 h5 => hc i (by omega)), fun w2 hz2 ha => h3 w2 (by omega) (fun j hj hor2 => (ha j (by omega) hor2).trans (hk j hj ?_ ?_))⟩
      · rcases hor2 with ⟨h6, h7⟩ | h6
        · have := lo_le I.mono (show k + 1 ≤ 14 by omega); have := I.top; omega
        · omega
      · rintro ⟨h8, h9⟩
        have t1 := lo_le I.mono (show m + 1 ≤ 14 by omega)
        have t2 := I.top
        rcases hor2 with ⟨h6, h7⟩ | h6
        · rcases Nat.lt_or_ge k m with hlt | hge
          · have := lo_le I.mono (show k + 1 ≤ m by omega); omega
          · have := lo_le I.mono (show m + 1 ≤ k by omega); omega
        · omega
  own := fun k hmk hk12 => by
    obtain ⟨t, h1, h2⟩ := I.own k (by omega) hk12
    have t1 := lo_le I.mono (show k + 1 ≤ 14 by omega)
    have t2 := I.top
    have t3 := I.blk.lt
    refine ⟨t, h1.keep (fun j h4 h5 => hk j (by omega) (by omega) ?_), h2.keep (fun i h4 h5 => hc i (by omega))⟩
    rintro ⟨h8, h9⟩
    have := lo_le I.mono (show m + 1 ≤ k by omega)
    omega
theorem Inv.grow {w w' : World} {gB : Nat} {cs : Array Value} {lo : Nat → Nat} {m : Nat} (I : Inv w gB cs lo m) (hb : Below w.heap.size w w') : Inv w' gB cs lo m where
  blk := I.blk.bel hb
  mono := I.mono
  top := I.top
  bad := fun k hk14 hor => by
    obtain ⟨h, b, h1, h2, h3⟩ := I.bad k hk14 hor
    exact ⟨h, b, h1, h2, fun w2 hz2 ha => h3 w2 (Nat.le_trans hb.size hz2) (fun j hj hor2 => (ha j (Nat.lt_of_lt_of_le hj hb.size) hor2).trans (hb.block j hj))⟩
  own := fun k hmk hk12 => by
    obtain ⟨t, h1, h2⟩ := I.own k hmk hk12
    have t1 := lo_le I.mono (show k + 1 ≤ 14 by omega)
    have t2 := I.top
    have t3 := I.blk.lt
    exact ⟨t, h1.keep (fun j h4 h5 => hb.block j (by omega)), h2⟩
/-- The cells of the rows of such books. -/
def rowCells (t : Trio) : List Value := [.int .i64 3, .slice (some ⟨t.1, 0, none⟩) 2 2, .slice (some ⟨t.2.1, 0, none⟩) 2 2, .slice (some ⟨t.2.2, 0, none⟩) 4 4]
def bare0 : List Value := [.int .i64 0, .slice none 0 0, .slice none 0 0, .slice none 0 0]
theorem flat_at {ts : List Trio} {k : Nat} {t : Trio} (h : ts[k]? = some t) (i : Nat) (hi : i < 4) : (ts.flatMap rowCells)[4 * k + i]? = (rowCells t)[i]? := by
  induction ts generalizing k with
  | nil => simp at h
  | cons a ts ih =>
    rw [List.flatMap_cons]
    cases k with
    | zero =>
      simp at h; subst h
      rw [List.getElem?_append_left (by simp [rowCells]; omega)]
      simp
    | succ k =>
      rw [List.getElem?_append_right (by simp [rowCells]; omega)]
      have := ih (k := k) (by simpa using h)
      rw [← this]
      congr 1
      simp [rowCells]; omega
theorem inv_start {w0 w : World} {ts : List Trio} (h : RowsMade w0 ts w) (hl : ts.length = 13) : ∃ lo : Nat → Nat, w0.heap.size ≤ lo 0 ∧ Below w0.heap.size w0 w ∧ Inv (w.alloc (.cells (bare0 ++ ts.flatMap rowCells).toArray 26)) w.heap.size (bare0 ++ ts.flatMap rowCells).toArray lo 1 := by
  obtain ⟨lo, h0, h1, h2, h3, h4⟩ := h
  rw [hl] at h2
  have h2 : lo 14 ≤ w.heap.size := h2
  have hr : ∀ k t, 1 ≤ k → ts[k - 1]? = some t → RowAt (bare0 ++ ts.flatMap rowCells).toArray k (hdT t) (bookW (spanOf k).1 (spanOf k).2) := by
    intro k t hk ht
    obtain ⟨k, rfl⟩ : ∃ k', k = k' + 1 := ⟨k - 1, by omega⟩
    rw [Nat.add_sub_cancel] at ht
    have g : ∀ i, i < 4 → (bare0 ++ ts.flatMap rowCells).toArray[4 * (k + 1) + i]? = (rowCells t)[i]? := fun i hi => by
      rw [List.getElem?_toArray, List.getElem?_append_right (by simp [bare0]; omega), ← flat_at ht i hi]
      congr 1
      simp [bare0]; omega
    exact ⟨g 0 (by omega), g 1 (by omega), g 2 (by omega), g 3 (by omega)⟩
  have hB : Below w.heap.size w (w.alloc (.cells (bare0 ++ ts.flatMap rowCells).toArray 26)) := (Below.refl _ _).alloc (Nat.le_refl _) _
  have hin : ∀ k t, 1 ≤ k → ts[k - 1]? = some t → BookIn (w.alloc (.cells (bare0 ++ ts.flatMap rowCells).toArray 26)) (lo k) (lo (k + 1)) t (spanOf k).1 (spanOf k).2 := by
    intro k t hk ht
    have hlt := (List.getElem?_eq_some_iff.1 ht).1
    have hx := h4 (k - 1) t ht
    rw [show k - 1 + 1 = k by omega, show k - 1 + 2 = k + 1 by omega] at hx
    refine hx.keep (fun j _ hj => hB.block j ?_)
    have := lo_le h1 (show k + 1 ≤ 14 by omega)
    omega
  refine ⟨lo, h0, h3, Blk.new rfl, h1, h2, fun k hk hor => ?_, fun k hk1 hk2 => ?_⟩
  · rcases hor with hor | hor
    · obtain rfl : k = 0 := by omega
      refine ⟨⟨none, 0, none, 0, none, 0⟩, ⟨0, [], [], []⟩, by decide, ⟨rfl, rfl, rfl, rfl⟩, fun w' _ _ => ⟨fun i s hs => by simp at hs, fun i s hs => by simp at hs, fun i s hs => by simp at hs⟩⟩
    · obtain ⟨t, ht⟩ := get_some ts (k - 1) (by omega)
      refine ⟨hdT t, _, ?_, hr k t (by omega) ht, fun w' hz ha => ((hin k t (by omega) ht).keep (fun j h5 h6 => ha j ?_ (.inl ⟨h5, h6⟩))).at⟩
      · rcases (show k = 12 ∨ k = 13 by omega) with rfl | rfl <;> decide
      · have := lo_le h1 (show k + 1 ≤ 14 by omega)
        have := hB.size
        omega
  · obtain ⟨t, ht⟩ := get_some ts (k - 1) (by omega)
    have e : spanOf k = (541, 543) := by unfold spanOf; rw [if_neg (by omega), if_neg (by omega)]
    have h5 := hin k t hk1 ht
    have h6 := hr k t hk1 ht
    rw [e] at h5 h6
    exact ⟨t, h5, h6⟩
end Go.Proofs.YtdmicngnbcdkdaaDoor

namespace Go.Proofs.YtdmicngnbcdkdaaDoor
open Go Go.RowKit

/-- What is known of a row that was not stored into. -/
structure RowF (w : World) (gB : Nat) (cs : Array Value) (lo : Nat → Nat) (m a b c g3 g4 : Nat) : Prop where
  ra : lo m ≤ a ∧ a < lo (m + 1)
  rb : lo m ≤ b ∧ b < lo (m + 1)
  rc : lo m ≤ c ∧ c < lo (m + 1)
  r3 : lo m ≤ g3 ∧ g3 < lo (m + 1)
  r4 : lo m ≤ g4 ∧ g4 < lo (m + 1)
  c0 : cs[4 * m]? = some (.int .i64 3)
  c1 : cs[4 * m + 1]? = some (.slice (some ⟨a, 0, none⟩) 2 2)
  c2 : cs[4 * m + 2]? = some (.slice (some ⟨b, 0, none⟩) 2 2)
  c3 : cs[4 * m + 3]? = some (.slice (some ⟨c, 0, none⟩) 4 4)
  ka : Blk w a 33 #[.int .i64 360, .int .i64 364, .int .i64 540, .int .i64 545]
  kb : Blk w b 28 #[.slice (some ⟨g3, 0, none⟩) 3 3, .slice (some ⟨g4, 0, none⟩) 3 3]
  k3 : Blk w g3 3 #[.int .i64 0, .int .i64 1, .int .i64 2]
  k4 : Blk w g4 3 #[.int .i64 1, .int .i64 2, .int .i64 0]
  kc : Blk w c 46 #[.int .i64 0, .int .i64 1, .int .i64 362, .int .i64 366, .int .i64 1, .int .i64 2, .int .i64 400, .int .i64 400, .int .i64 0, .int .i64 0, .int .i64 359, .int .i64 359, .int .i64 1, .int .i64 0, .int .i64 541, .int .i64 543]
  top : lo (m + 1) ≤ gB
theorem Inv.row {w : World} {gB : Nat} {cs : Array Value} {lo : Nat → Nat} {m : Nat} (I : Inv w gB cs lo m) (hm : m < 12) : ∃ a b c g3 g4, RowF w gB cs lo m a b c g3 g4 := by
  obtain ⟨⟨a, b, c⟩, ⟨g3, g4, r1, r2, r3, r4, r5, k1, k2, k3, k4, k5⟩, h1, h2, h3, h4⟩ := I.own m (Nat.le_refl _) hm
  have t1 := lo_le I.mono (show m + 1 ≤ 14 by omega)
  have t2 := I.top
  exact ⟨a, b, c, g3, g4, r1, r2, r5, r3, r4, h1, h2, h3, h4, k1, k2, k3, k4, k5, by omega⟩
theorem heap_other (w : World) (g i : Nat) (v : Value) {j : Nat} (h : j ≠ g) : (w.setCell ⟨g, i, none⟩ v).heap[j]? = w.heap[j]? := Below.heap_setCell w ⟨g, i, none⟩ v j h
theorem Inv.putRow {w : World} {gB : Nat} {cs : Array Value} {lo : Nat → Nat} {m : Nat} (I : Inv w gB cs lo m) (hm : m < 12) (i : Nat) (hi : 4 * m ≤ i ∧ i < 4 * m + 4) (v : Value) (h : Hd) (b : Bk) (hbad : bookB b = false) (hrow : RowAt (cs.setIfInBounds i v) m h b)
    (hdep : ∀ w' : World, w.heap.size ≤ w'.heap.size → (∀ j, j < w.heap.size → ((lo m ≤ j ∧ j < lo (m + 1)) ∨ gB < j) → w'.heap[j]? = w.heap[j]?) → BkAt w' h b) : Inv (w.setCell ⟨gB, i, none⟩ v) gB (cs.setIfInBounds i v) lo (m + 1) := by
  have t1 := lo_le I.mono (show m + 1 ≤ 14 by omega)
  have t2 := I.top
  refine I.step hm (by simp) (fun j hj hne _ => heap_other w gB i v hne) (I.blk.set i v) (fun j hj => ?_) ⟨h, b, hbad, hrow, fun w' hz ha => hdep w' (by simpa using hz) (fun j hj hor => ?_)⟩
  · rw [Array.getElem?_setIfInBounds, if_neg (by omega)]
  · rw [← heap_other w gB i v (show j ≠ gB by omega)]
    exact ha j (by simpa using hj) hor
theorem Inv.putIn {w w' : World} {gB : Nat} {cs : Array Value} {lo : Nat → Nat} {m : Nat} (I : Inv w gB cs lo m) (hm : m < 12) (g : Nat) (hg : lo m ≤ g ∧ g < lo (m + 1)) (hs : w'.heap.size = w.heap.size) (hk : ∀ j, j ≠ g → w'.heap[j]? = w.heap[j]?) (h : Hd) (b : Bk) (hbad : bookB b = false) (hrow : RowAt cs m h b)
    (hdep : ∀ w2 : World, w'.heap.size ≤ w2.heap.size → (∀ j, j < w'.heap.size → ((lo m ≤ j ∧ j < lo (m + 1)) ∨ gB < j) → w2.heap[j]? = w'.heap[j]?) → BkAt w2 h b) : Inv w' gB cs lo (m + 1) := by
  have t1 := lo_le I.mono (show m + 1 ≤ 14 by omega)
  have t2 := I.top
  refine I.step hm (by omega) (fun j hj hne hni => hk j (fun e => hni (by subst e; exact hg))) ((hk gB (by omega)).trans I.blk) (fun _ _ => rfl) ⟨h, b, hbad, hrow, hdep⟩
theorem span_ne {w : World} {g g' : Nat} {t t' : TypeId} {cs cs' : Array Value} (h : Blk w g t cs) (h' : Blk w g' t' cs') (hne : t ≠ t') : g ≠ g' := fun e => by subst e; exact Blk.noteq h h' hne
theorem ints_ne {w : World} {g g' : Nat} {t t' : TypeId} {cs cs' : Array Value} (h : Blk w g t cs) (h' : Blk w g' t' cs') (hne : cs ≠ cs') : g ≠ g' := fun e => by
  subst e
  have := h.symm.trans h'
  simp at this
  exact hne this.1
section
variable {w : World} {gB : Nat} {cs : Array Value} {lo : Nat → Nat}
theorem keepB {w' : World} {m g : Nat} {t : TypeId} {xs : Array Value} (hr : lo m ≤ g ∧ g < lo (m + 1)) (k : Blk w g t xs) (ha : ∀ j, j < w.heap.size → ((lo m ≤ j ∧ j < lo (m + 1)) ∨ gB < j) → w'.heap[j]? = w.heap[j]?) : Blk w' g t xs := (ha g k.lt (.inl hr)).trans k
theorem inv1 (I : Inv w gB cs lo 1) : Inv (w.setCell ⟨gB, 4, none⟩ (.int .i64 5)) gB (cs.setIfInBounds 4 (.int .i64 5)) lo 2 := by
  obtain ⟨a, b, c, g3, g4, F⟩ := I.row (by omega)
  have hz : 4 < cs.size := (Array.getElem?_eq_some_iff.1 F.c0).1
  refine I.putRow (by omega) 4 (by omega) _ (hdT (a, b, c)) { bookW 541 543 with n := 5 } (by decide) ⟨?_, ?_, ?_, ?_⟩ (fun w' _ ha => ?_)
  · simp [Array.getElem?_setIfInBounds, hz]
  · rw [Array.getElem?_setIfInBounds, if_neg (by omega)]; exact F.c1
  · rw [Array.getElem?_setIfInBounds, if_neg (by omega)]; exact F.c2
  · rw [Array.getElem?_setIfInBounds, if_neg (by omega)]; exact F.c3
  · have h := bkAt_book (keepB F.ra F.ka ha) (keepB F.rb F.kb ha) (keepB F.r3 F.k3 ha) (keepB F.r4 F.k4 ha) (keepB F.rc F.kc ha)
    exact ⟨h.bs, h.os, h.ss⟩
theorem inv2 (I : Inv w gB cs lo 2) {a b c g3 g4 : Nat} (F : RowF w gB cs lo 2 a b c g3 g4) : Inv ((w.setCell ⟨a, 2, none⟩ (.int .i64 364)).setCell ⟨a, 3, none⟩ (.int .i64 366)) gB cs lo 3 := by
  refine I.putIn (by omega) a F.ra (by simp) (fun j hj => (heap_other _ _ _ _ hj).trans (heap_other _ _ _ _ hj)) (hdT (a, b, c)) { bookW 541 543 with bs := [(360, 364), (364, 366)] } (by decide) ⟨F.c0, F.c1, F.c2, F.c3⟩ (fun w' _ ha => ?_)
  have ka := (F.ka.set 2 (.int .i64 364)).set 3 (.int .i64 366)
  have h2 := spans_of_blk (l := [(360, 364), (364, 366)]) (keepB F.ra ka ha) rfl (by decide)
  have h := rows_of_blk (keepB F.rb ((F.kb.setOther (span_ne F.kb F.ka (by decide)) _ _).setOther (span_ne F.kb F.ka (by decide)) _ _) ha) (ints_of_blk (l := [0, 1, 2]) (keepB F.r3 ((F.k3.setOther (span_ne F.k3 F.ka (by decide)) _ _).setOther (span_ne F.k3 F.ka (by decide)) _ _) ha) rfl (by decide)) (ints_of_blk (l := [1, 2, 0]) (keepB F.r4 ((F.k4.setOther (span_ne F.k4 F.ka (by decide)) _ _).setOther (span_ne F.k4 F.ka (by decide)) _ _) ha) rfl (by decide)) rfl rfl
  exact ⟨h2, h, shots_of_blk (keepB F.rc ((F.kc.setOther (span_ne F.kc F.ka (by decide)) _ _).setOther (span_ne F.kc F.ka (by decide)) _ _) ha) rfl (by simp [bookW])⟩
theorem inv3 (I : Inv w gB cs lo 3) {a b c g3 g4 : Nat} (F : RowF w gB cs lo 3 a b c g3 g4) : Inv ((w.setCell ⟨a, 0, none⟩ (.int .i64 350)).setCell ⟨a, 1, none⟩ (.int .i64 361)) gB cs lo 4 := by
  refine I.putIn (by omega) a F.ra (by simp) (fun j hj => (heap_other _ _ _ _ hj).trans (heap_other _ _ _ _ hj)) (hdT (a, b, c)) { bookW 541 543 with bs := [(350, 361), (540, 545)] } (by decide) ⟨F.c0, F.c1, F.c2, F.c3⟩ (fun w' _ ha => ?_)
  have ka := (F.ka.set 0 (.int .i64 350)).set 1 (.int .i64 361)
  have h2 := spans_of_blk (l := [(350, 361), (540, 545)]) (keepB F.ra ka ha) rfl (by decide)
  have h := rows_of_blk (keepB F.rb ((F.kb.setOther (span_ne F.kb F.ka (by decide)) _ _).setOther (span_ne F.kb F.ka (by decide)) _ _) ha) (ints_of_blk (l := [0, 1, 2]) (keepB F.r3 ((F.k3.setOther (span_ne F.k3 F.ka (by decide)) _ _).setOther (span_ne F.k3 F.ka (by decide)) _ _) ha) rfl (by decide)) (ints_of_blk (l := [1, 2, 0]) (keepB F.r4 ((F.k4.setOther (span_ne F.k4 F.ka (by decide)) _ _).setOther (span_ne F.k4 F.ka (by decide)) _ _) ha) rfl (by decide)) rfl rfl
  exact ⟨h2, h, shots_of_blk (keepB F.rc ((F.kc.setOther (span_ne F.kc F.ka (by decide)) _ _).setOther (span_ne F.kc F.ka (by decide)) _ _) ha) rfl (by simp [bookW])⟩
theorem inv4 (I : Inv w gB cs lo 4) {a b c g3 g4 q : Nat} (F : RowF w gB cs lo 4 a b c g3 g4) (kq : Blk w q 3 #[.int .i64 0, .int .i64 1]) (hq : gB < q) : Inv (w.setCell ⟨b, 0, none⟩ (.slice (some ⟨q, 0, none⟩) 2 2)) gB cs lo 5 := by
  refine I.putIn (by omega) b F.rb (by simp) (fun j hj => heap_other _ _ _ _ hj) (hdT (a, b, c)) { bookW 541 543 with os := [[0, 1], [1, 2, 0]] } (by decide) ⟨F.c0, F.c1, F.c2, F.c3⟩ (fun w' _ ha => ?_)
  have kb := F.kb.set 0 (.slice (some ⟨q, 0, none⟩) 2 2)
  have kq' := kq.setOther (span_ne kq F.kb (by decide)) 0 (.slice (some ⟨q, 0, none⟩) 2 2)
  have kq2 : Blk w' q 3 #[.int .i64 0, .int .i64 1] := (ha q kq'.lt (.inr hq)).trans kq'
  refine ⟨spans_of_blk (keepB F.ra (F.ka.setOther (span_ne F.ka F.kb (by decide)) _ _) ha) rfl (by decide), ?_, shots_of_blk (keepB F.rc (F.kc.setOther (span_ne F.kc F.kb (by decide)) _ _) ha) rfl (by simp [bookW])⟩
  exact rows_of_blk (r3 := [0, 1]) (r4 := [1, 2, 0]) (keepB F.rb kb ha) (ints_of_blk kq2 rfl (by decide)) (ints_of_blk (keepB F.r4 (F.k4.setOther (span_ne F.k4 F.kb (by decide)) _ _) ha) rfl (by decide)) rfl rfl
theorem inv5 (I : Inv w gB cs lo 5) {a b c g3 g4 : Nat} (F : RowF w gB cs lo 5 a b c g3 g4) : Inv (w.setCell ⟨g4, 2, none⟩ (.int .i64 3)) gB cs lo 6 := by
  refine I.putIn (by omega) g4 F.r4 (by simp) (fun j hj => heap_other _ _ _ _ hj) (hdT (a, b, c)) { bookW 541 543 with os := [[0, 1, 2], [1, 2, 3]] } (by decide) ⟨F.c0, F.c1, F.c2, F.c3⟩ (fun w' _ ha => ?_)
  have k4 := F.k4.set 2 (.int .i64 3)
  refine ⟨spans_of_blk (keepB F.ra (F.ka.setOther (span_ne F.ka F.k4 (by decide)) _ _) ha) rfl (by decide), ?_, shots_of_blk (keepB F.rc (F.kc.setOther (span_ne F.kc F.k4 (by decide)) _ _) ha) rfl (by simp [bookW])⟩
  exact rows_of_blk (r3 := [0, 1, 2]) (r4 := [1, 2, 3]) (keepB F.rb (F.kb.setOther (span_ne F.kb F.k4 (by decide)) _ _) ha) (ints_of_blk (keepB F.r3 (F.k3.setOther (ints_ne F.k3 F.k4 (by simp)) _ _) ha) rfl (by decide)) (ints_of_blk (keepB F.r4 k4 ha) rfl (by decide)) rfl rfl
theorem inv6 (I : Inv w gB cs lo 6) : Inv (w.setCell ⟨gB, 26, none⟩ (.slice none 0 0)) gB (cs.setIfInBounds 26 (.slice none 0 0)) lo 7 := by
  obtain ⟨a, b, c, g3, g4, F⟩ := I.row (by omega)
  have hz : 26 < cs.size := (Array.getElem?_eq_some_iff.1 F.c2).1
  refine I.putRow (by omega) 26 (by omega) _ ⟨some ⟨a, 0, none⟩, 2, none, 0, some ⟨c, 0, none⟩, 4⟩ { bookW 541 543 with os := [] } (by decide) ⟨?_, ?_, ?_, ?_⟩ (fun w' _ ha => ?_)
  · rw [Array.getElem?_setIfInBounds, if_neg (by omega)]; exact F.c0
  · rw [Array.getElem?_setIfInBounds, if_neg (by omega)]; exact F.c1
  · simp [Array.getElem?_setIfInBounds, hz]
  · rw [Array.getElem?_setIfInBounds, if_neg (by omega)]; exact F.c3
  · exact ⟨spans_of_blk (keepB F.ra F.ka ha) rfl (by decide), fun i r hr => by simp at hr, shots_of_blk (keepB F.rc F.kc ha) rfl (by simp [bookW])⟩
theorem inv7 (I : Inv w gB cs lo 7) {a b c g3 g4 : Nat} (F : RowF w gB cs lo 7 a b c g3 g4) : Inv (w.setCell ⟨c, 4, none⟩ (.int .i64 2)) gB cs lo 8 := by
  refine I.putIn (by omega) c F.rc (by simp) (fun j hj => heap_other _ _ _ _ hj) (hdT (a, b, c)) { bookW 541 543 with ss := [⟨0, 1, 362, 366⟩, ⟨2, 2, 400, 400⟩, ⟨0, 0, 359, 359⟩, ⟨1, 0, 541, 543⟩] } (by decide) ⟨F.c0, F.c1, F.c2, F.c3⟩ (fun w' _ ha => ?_)
  have kc := F.kc.set 4 (.int .i64 2)
  refine ⟨spans_of_blk (keepB F.ra (F.ka.setOther (span_ne F.ka F.kc (by decide)) _ _) ha) rfl (by decide), ?_, shots_of_blk (keepB F.rc kc ha) rfl (by decide)⟩
  exact rows_of_blk (r3 := [0, 1, 2]) (r4 := [1, 2, 0]) (keepB F.rb (F.kb.setOther (span_ne F.kb F.kc (by decide)) _ _) ha) (ints_of_blk (keepB F.r3 (F.k3.setOther (span_ne F.k3 F.kc (by decide)) _ _) ha) rfl (by decide)) (ints_of_blk (keepB F.r4 (F.k4.setOther (span_ne F.k4 F.kc (by decide)) _ _) ha) rfl (by decide)) rfl rfl
theorem inv8 (I : Inv w gB cs lo 8) {a b c g3 g4 : Nat} (F : RowF w gB cs lo 8 a b c g3 g4) : Inv (w.setCell ⟨c, 5, none⟩ (.int .i64 3)) gB cs lo 9 := by
  refine I.putIn (by omega) c F.rc (by simp) (fun j hj => heap_other _ _ _ _ hj) (hdT (a, b, c)) { bookW 541 543 with ss := [⟨0, 1, 362, 366⟩, ⟨1, 3, 400, 400⟩, ⟨0, 0, 359, 359⟩, ⟨1, 0, 541, 543⟩] } (by decide) ⟨F.c0, F.c1, F.c2, F.c3⟩ (fun w' _ ha => ?_)
  have kc := F.kc.set 5 (.int .i64 3)
  refine ⟨spans_of_blk (keepB F.ra (F.ka.setOther (span_ne F.ka F.kc (by decide)) _ _) ha) rfl (by decide), ?_, shots_of_blk (keepB F.rc kc ha) rfl (by decide)⟩
  exact rows_of_blk (r3 := [0, 1, 2]) (r4 := [1, 2, 0]) (keepB F.rb (F.kb.setOther (span_ne F.kb F.kc (by decide)) _ _) ha) (ints_of_blk (keepB F.r3 (F.k3.setOther (span_ne F.k3 F.kc (by decide)) _ _) ha) rfl (by decide)) (ints_of_blk (keepB F.r4 (F.k4.setOther (span_ne F.k4 F.kc (by decide)) _ _) ha) rfl (by decide)) rfl rfl
theorem inv9 (I : Inv w gB cs lo 9) {a b c g3 g4 B n cap : Nat} {p : Option Addr} (F : RowF w gB cs lo 9 a b c g3 g4) (ho : OwnShots w B (.slice p n cap) ((bookW 541 543).ss ++ (bookW 541 543).ss)) (hB : gB < B) : Inv (w.setCell ⟨gB, 39, none⟩ (.slice p n cap)) gB (cs.setIfInBounds 39 (.slice p n cap)) lo 10 := by
  have hz : 39 < cs.size := (Array.getElem?_eq_some_iff.1 F.c3).1
  have hn : n = 8 := by
    obtain ⟨p', c', e, -⟩ := ho.at
    simp only [Value.slice.injEq] at e
    rw [e.2.1]; rfl
  subst hn
  refine I.putRow (by omega) 39 (by omega) _ ⟨some ⟨a, 0, none⟩, 2, some ⟨b, 0, none⟩, 2, p, cap⟩ { bookW 541 543 with ss := (bookW 541 543).ss ++ (bookW 541 543).ss } (by decide) ⟨?_, ?_, ?_, ?_⟩ (fun w' _ ha => ?_)
  · rw [Array.getElem?_setIfInBounds, if_neg (by omega)]; exact F.c0
  · rw [Array.getElem?_setIfInBounds, if_neg (by omega)]; exact F.c1
  · rw [Array.getElem?_setIfInBounds, if_neg (by omega)]; exact F.c2
  · simp [Array.getElem?_setIfInBounds, hz, bookW]
  · have h := bkAt_book (keepB F.ra F.ka ha) (keepB F.rb F.kb ha) (keepB F.r3 F.k3 ha) (keepB F.r4 F.k4 ha) (keepB F.rc F.kc ha)
    refine ⟨h.bs, h.os, ?_⟩
    have h2 : OwnShots w' B (.slice p 8 cap) ((bookW 541 543).ss ++ (bookW 541 543).ss) := ho.kept (fun g hg => by
      have := ho.lt g hg
      exact ha g this.2 (.inr (by omega)))
    obtain ⟨p', c', e, h3⟩ := h2.at
    simp only [Value.slice.injEq] at e
    rw [e.1]; exact h3
theorem inv10 (I : Inv w gB cs lo 10) {a b c g3 g4 q : Nat} (F : RowF w gB cs lo 10 a b c g3 g4) (kq : Blk w q 33 #[.int .i64 1, .int .i64 1, .int .i64 2, .int .i64 2, .int .i64 3, .int .i64 3, .int .i64 4, .int .i64 4, .int .i64 5, .int .i64 5]) (hq : gB < q) : Inv (w.setCell ⟨gB, 41, none⟩ (.slice (some ⟨q, 0, none⟩) 5 5)) gB (cs.setIfInBounds 41 (.slice (some ⟨q, 0, none⟩) 5 5)) lo 11 := by
  have hz : 41 < cs.size := (Array.getElem?_eq_some_iff.1 F.c1).1
  refine I.putRow (by omega) 41 (by omega) _ ⟨some ⟨q, 0, none⟩, 5, some ⟨b, 0, none⟩, 2, some ⟨c, 0, none⟩, 4⟩ { bookW 541 543 with bs := [(1, 1), (2, 2), (3, 3), (4, 4), (5, 5)] } (by decide) ⟨?_, ?_, ?_, ?_⟩ (fun w' _ ha => ?_)
  · rw [Array.getElem?_setIfInBounds, if_neg (by omega)]; exact F.c0
  · simp [Array.getElem?_setIfInBounds, hz]
  · rw [Array.getElem?_setIfInBounds, if_neg (by omega)]; exact F.c2
  · rw [Array.getElem?_setIfInBounds, if_neg (by omega)]; exact F.c3
  · have h := bkAt_book (keepB F.ra F.ka ha) (keepB F.rb F.kb ha) (keepB F.r3 F.k3 ha) (keepB F.r4 F.k4 ha) (keepB F.rc F.kc ha)
    have kq2 : Blk w' q _ _ := (ha q kq.lt (.inr hq)).trans kq
    exact ⟨spans_of_blk kq2 rfl (by decide), h.os, h.ss⟩
theorem inv11 (I : Inv w gB cs lo 11) {a b c g3 g4 B n cap : Nat} {p : Option Addr} (F : RowF w gB cs lo 11 a b c g3 g4) (ho : w.ownsRow B 28 1 (.slice p n cap) 4 [.slice (some ⟨g3, 0, none⟩) 3 3, .slice (some ⟨g4, 0, none⟩) 3 3, .slice (some ⟨g3, 0, none⟩) 3 3, .slice (some ⟨g4, 0, none⟩) 3 3]) (hB : gB < B) : Inv (w.setCell ⟨gB, 46, none⟩ (.slice p n cap)) gB (cs.setIfInBounds 46 (.slice p n cap)) lo 12 := by
  have hz : 46 < cs.size := (Array.getElem?_eq_some_iff.1 F.c2).1
  obtain ⟨hlen, ⟨_, e⟩ | ⟨q, cap', cur, e, hq, hh, hn, hm, hs, ht⟩⟩ := ho
  · omega
  simp only [Value.slice.injEq] at e
  obtain ⟨rfl, rfl, rfl⟩ := e
  refine I.putRow (by omega) 46 (by omega) _ ⟨some ⟨a, 0, none⟩, 2, some ⟨q, 0, none⟩, cap, some ⟨c, 0, none⟩, 4⟩ { bookW 541 543 with os := [[0, 1, 2], [1, 2, 0], [0, 1, 2], [1, 2, 0]] } (by decide) ⟨?_, ?_, ?_, ?_⟩ (fun w' _ ha => ?_)
  · rw [Array.getElem?_setIfInBounds, if_neg (by omega)]; exact F.c0
  · rw [Array.getElem?_setIfInBounds, if_neg (by omega)]; exact F.c1
  · simp [Array.getElem?_setIfInBounds, hz]
  · rw [Array.getElem?_setIfInBounds, if_neg (by omega)]; exact F.c3
  · have h := bkAt_book (keepB F.ra F.ka ha) (keepB F.rb F.kb ha) (keepB F.r3 F.k3 ha) (keepB F.r4 F.k4 ha) (keepB F.rc F.kc ha)
    have hlt := (Array.getElem?_eq_some_iff.1 hh).1
    have hh2 : w'.heap[q]? = some (.cells cur 28 (0, 0)) := (ha q hlt (.inr (by omega))).trans hh
    have hlt2 := (Array.getElem?_eq_some_iff.1 hh2).1
    have i3 := ints_of_blk (l := [0, 1, 2]) (keepB F.r3 F.k3 ha) rfl (by decide)
    have i4 := ints_of_blk (l := [1, 2, 0]) (keepB F.r4 F.k4 ha) rfl (by decide)
    have hc : ∀ i v, i < 4 → [Value.slice (some ⟨g3, 0, none⟩) 3 3, .slice (some ⟨g4, 0, none⟩) 3 3, .slice (some ⟨g3, 0, none⟩) 3 3, .slice (some ⟨g4, 0, none⟩) 3 3][i]? = some v → w'.cell? ⟨q, 0 + i, none⟩ = some v := fun i v hi hv => by
      rw [← ht, List.getElem?_take_of_lt (by omega)] at hv
      simp [World.cell?, hh2]
      simpa using hv
    refine ⟨h.bs, fun i r hr => ?_, h.ss⟩
    match i, hr with
    | 0, hr => simp at hr; subst hr; exact ⟨q, 0, rfl, hlt2, _, _, hc 0 _ (by omega) rfl, i3⟩
    | 1, hr => simp at hr; subst hr; exact ⟨q, 0, rfl, hlt2, _, _, hc 1 _ (by omega) rfl, i4⟩
    | 2, hr => simp at hr; subst hr; exact ⟨q, 0, rfl, hlt2, _, _, hc 2 _ (by omega) rfl, i3⟩
    | 3, hr => simp at hr; subst hr; exact ⟨q, 0, rfl, hlt2, _, _, hc 3 _ (by omega) rfl, i4⟩
    | i + 4, hr => simp at hr
theorem RowF.grow {w' : World} {m a b c g3 g4 : Nat} (F : RowF w gB cs lo m a b c g3 g4) (hb : Below w.heap.size w w') : RowF w' gB cs lo m a b c g3 g4 :=
  ⟨F.ra, F.rb, F.rc, F.r3, F.r4, F.c0, F.c1, F.c2, F.c3, F.ka.bel hb, F.kb.bel hb, F.k3.bel hb, F.k4.bel hb, F.kc.bel hb, F.top⟩
/-- The rows behind all stores. -/
theorem Inv.done (I : Inv w gB cs lo 12) {k : Nat} (hk : k < 14) : ∃ h b, bookB b = false ∧ RowAt cs k h b ∧ ∀ w' : World, Below w.heap.size w w' → BkAt w' h b := by
  obtain ⟨h, b, h1, h2, h3⟩ := I.bad k hk (by omega)
  exact ⟨h, b, h1, h2, fun w' hb => h3 w' hb.size (fun j hj _ => hb.block j hj)⟩
end
end Go.Proofs.YtdmicngnbcdkdaaDoor

namespace Go.Proofs.YtdmicngnbcdkdaaDoor
open Go Go.RowKit

theorem info_row : (Tryd.prog.info? 28).map (fun i => (i.zero, i.size, i.bytes)) = some (some (.slice none 0 0), 1, 24) := by kernel_rfl
theorem under_rows : Tryd.prog.underlying 23 = some (.slice 28) := by kernel_rfl
theorem run_shots_at {o : Oper} {w : World} {g j s : Nat} {p : Option Addr} {n c : Nat} (ρ : Operand → Value) (hop : o.op = .load 24 (.tmp s)) (hs : ρ (.tmp s) = .pointer (some ⟨g, j, none⟩)) (k : w.cell? ⟨g, j, none⟩ = some (.slice p n c)) :
    (execOp ρ o).run Tryd.prog w = .ok (.value (.slice p n c)) w := by
  unfold execOp
  simp [hop, hs, go_sem, k]
/-- A list of shots with itself behind it, where there is no room. -/
theorem step_grow_shots {ops : Array Oper} {o : Oper} {a : Act} {w : World} {K : Act → World → Prop} {Q : Exit → Act → World → Prop} {E : Prop} (hg : o.guard = none) (s x : Operand)
    (hop : o.op = Op.call { callee := Callee.builtin Builtin.append, args := #[s, x], argTypes := #[24, 24] })
    (g : Nat) (n : Nat) (l : List Shot) (hs : a.eval s = .slice (some ⟨g, 0, none⟩) n n) (hx : a.eval x = .slice (some ⟨g, 0, none⟩) n n) (hl : l.length = n) (h0 : 0 < n) (hb : n ≤ 1000) (had : ∀ j u, (encShots l)[j]? = some u → w.cell? ((⟨g, 0, none⟩ : Addr).add j) = some u)
    (hone : ∀ u ∈ encShots l, u.oneCell' = true)
    (hK : ∀ v' w', OwnShots w' w.heap.size v' (l ++ l) → Below w.heap.size w w' → K (a.put o.dst v') w') :
    if Region.wanted o (yielded ops a.tmps) = true then Oper.wp Tryd.prog o a w K Q else E := by
  obtain ⟨i0, hi, hz0, hz1, hz2⟩ := info_parts info_shot
  refine step_append_grows hg s x 24 hop 46 i0 (.agg #[.int .i64 0, .int .i64 0, .int .i64 0, .int .i64 0]) 4 32 under_shots hi hz0 hz1 hz2 rfl (by decide) (some ⟨g, 0, none⟩) n n (encShots l) hs (fun h => by cases h) (by rw [encShots_len, hl])
    (fun b hb j u hj => by cases hb; exact had j u hj) ⟨g, 0, none⟩ n n (encShots l) hx (by rw [encShots_len, hl]) had hone (by omega) (by unfold maxLen; omega) (by omega) ?_
  intro v' w' h1 h2
  refine hK v' w' ?_ ⟨h2.os, h2.tape, h2.output, h2.size, fun k hk => h2.block k hk (by simp)⟩
  unfold OwnShots
  rw [encShots_append, List.length_append, hl]
  exact h1
/-- A list of two rows with itself behind it, where there is no room. -/
theorem step_grow_rows {ops : Array Oper} {o : Oper} {a : Act} {w : World} {K : Act → World → Prop} {Q : Exit → Act → World → Prop} {E : Prop} (hg : o.guard = none) (s x : Operand)
    (hop : o.op = Op.call { callee := Callee.builtin Builtin.append, args := #[s, x], argTypes := #[23, 23] })
    (g g3 g4 : Nat) (hs : a.eval s = .slice (some ⟨g, 0, none⟩) 2 2) (hx : a.eval x = .slice (some ⟨g, 0, none⟩) 2 2) (kb : Blk w g 28 #[.slice (some ⟨g3, 0, none⟩) 3 3, .slice (some ⟨g4, 0, none⟩) 3 3])
    (hK : ∀ v' w', w'.ownsRow w.heap.size 28 1 v' 4 [.slice (some ⟨g3, 0, none⟩) 3 3, .slice (some ⟨g4, 0, none⟩) 3 3, .slice (some ⟨g3, 0, none⟩) 3 3, .slice (some ⟨g4, 0, none⟩) 3 3] → Below w.heap.size w w' → K (a.put o.dst v') w') :
    if Region.wanted o (yielded ops a.tmps) = true then Oper.wp Tryd.prog o a w K Q else E := by
  obtain ⟨i0, hi, hz0, hz1, hz2⟩ := info_parts info_row
  have had : ∀ (j : Nat) (u : Value), [Value.slice (some ⟨g3, 0, none⟩) 3 3, .slice (some ⟨g4, 0, none⟩) 3 3][j]? = some u → w.cell? ((⟨g, 0, none⟩ : Addr).add j) = some u := fun j u hj => by
    match j, hj with
    | 0, hj => simp at hj; subst hj; simpa [Addr.add] using kb.cell 0
    | 1, hj => simp at hj; subst hj; simpa [Addr.add] using kb.cell 1
    | j + 2, hj => simp at hj
  refine step_append_grows hg s x 23 hop 28 i0 (.slice none 0 0) 1 24 under_rows hi hz0 hz1 hz2 rfl (by decide) (some ⟨g, 0, none⟩) 2 2 _ hs (fun h => by cases h) rfl
    (fun b hb j u hj => by cases hb; exact had j u hj) ⟨g, 0, none⟩ 2 2 _ hx rfl had (fun u hu => by simp at hu; rcases hu with rfl | rfl <;> rfl) (by omega) (by unfold maxLen; omega) (by omega) ?_
  intro v' w' h1 h2
  exact hK v' w' h1 ⟨h2.os, h2.tape, h2.output, h2.size, fun k hk => h2.block k hk (by simp)⟩
theorem run_rowb {o : Oper} {w : World} {g s k : Nat} (ρ : Operand → Value) (hop : o.op = .indexAddr 73 (.tmp s) (.const (.int .i64 k))) (h1 : ρ (.tmp s) = .slice (some ⟨g, 0, none⟩) 14 14) (hk : k < 14) (hl : g < w.heap.size) (hc : ρ (.const (.int .i64 k)) = .int .i64 k := by rfl) :
    (execOp ρ o).run Tryd.prog w = .ok (.value (.pointer (some ⟨g, k * 4, none⟩))) w := by
  have k0 : (0 : Int) ≤ (k : Int) := by omega
  have k1 : (k : Int) < 14 := by omega
  unfold execOp
  simp [hop, h1, hc, go_sem, hl, k0, k1]
theorem run_field {o : Oper} {w : World} {g s i : Nat} (n : Nat) (ρ : Operand → Value) (hop : o.op = .fieldAddr 26 (.tmp s) n) (hs : ρ (.tmp s) = .pointer (some ⟨g, i, none⟩)) (hn : n = 2 ∨ n = 3) (hl : g < w.heap.size) :
    (execOp ρ o).run Tryd.prog w = .ok (.value (.pointer (some ⟨g, i + n, none⟩))) w := by
  unfold execOp
  rcases hn with rfl | rfl <;> simp [hop, hs, go_sem, hl]
theorem run_load_rows {o : Oper} {w : World} {g j s : Nat} {p : Option Addr} {n c : Nat} (ρ : Operand → Value) (hop : o.op = .load 23 (.tmp s)) (hs : ρ (.tmp s) = .pointer (some ⟨g, j, none⟩)) (k : w.cell? ⟨g, j, none⟩ = some (.slice p n c)) :
    (execOp ρ o).run Tryd.prog w = .ok (.value (.slice p n c)) w := by
  unfold execOp
  simp [hop, hs, go_sem, k]
/-- What the operations leave by which a row's list gets itself behind it. -/
def grow9R (gB c B0 : Nat) (i : Nat) (v : Value) (w : World) : Prop :=
  match i with
  | 0 => v = .slice (some ⟨gB, 0, none⟩) 14 14
  | 1 => v = .slice (some ⟨gB, 0, none⟩) 14 14
  | 2 => v = .pointer (some ⟨gB, 36, none⟩)
  | 3 => v = .pointer (some ⟨gB, 39, none⟩)
  | 4 => v = .slice (some ⟨c, 0, none⟩) 4 4
  | 5 => v = .slice (some ⟨gB, 0, none⟩) 14 14
  | 6 => v = .pointer (some ⟨gB, 36, none⟩)
  | 7 => v = .pointer (some ⟨gB, 39, none⟩)
  | 8 => v = .slice (some ⟨c, 0, none⟩) 4 4
  | 9 => ∃ (p : Option Addr) (n cap B : Nat), v = .slice p n cap ∧ B0 ≤ B ∧ OwnShots w B (.slice p n cap) ((bookW 541 543).ss ++ (bookW 541 543).ss)
  | 10 => v = .pointer (some ⟨gB, 36, none⟩)
  | 11 => v = .pointer (some ⟨gB, 39, none⟩)
  | _ => True
theorem grow9R_kept (gB c B0 : Nat) : ∀ (i : Nat), i < 12 → ∀ (v : Value) (w w' : World), grow9R gB c B0 i v w → Below w.heap.size w w' → grow9R gB c B0 i v w' := by
  intro i hi v w w' h hb
  rcases (show i = 0 ∨ i = 1 ∨ i = 2 ∨ i = 3 ∨ i = 4 ∨ i = 5 ∨ i = 6 ∨ i = 7 ∨ i = 8 ∨ i = 9 ∨ i = 10 ∨ i = 11 by omega) with e | e | e | e | e | e | e | e | e | e | e | e
  all_goals subst e
  all_goals first
    | exact h
    | (obtain ⟨p, n, cap, B, h1, h2, h3⟩ := h; exact ⟨p, n, cap, B, h1, h2, h3.below hb⟩)
def grow11R (gB b g3 g4 B0 : Nat) (i : Nat) (v : Value) (w : World) : Prop :=
  match i with
  | 0 => v = .slice (some ⟨gB, 0, none⟩) 14 14
  | 1 => v = .slice (some ⟨gB, 0, none⟩) 14 14
  | 2 => v = .pointer (some ⟨gB, 44, none⟩)
  | 3 => v = .pointer (some ⟨gB, 46, none⟩)
  | 4 => v = .slice (some ⟨b, 0, none⟩) 2 2
  | 5 => v = .slice (some ⟨gB, 0, none⟩) 14 14
  | 6 => v = .pointer (some ⟨gB, 44, none⟩)
  | 7 => v = .pointer (some ⟨gB, 46, none⟩)
  | 8 => v = .slice (some ⟨b, 0, none⟩) 2 2
  | 9 => ∃ (p : Option Addr) (n cap B : Nat), v = .slice p n cap ∧ B0 ≤ B ∧ w.ownsRow B 28 1 (.slice p n cap) 4 [.slice (some ⟨g3, 0, none⟩) 3 3, .slice (some ⟨g4, 0, none⟩) 3 3, .slice (some ⟨g3, 0, none⟩) 3 3, .slice (some ⟨g4, 0, none⟩) 3 3]
  | 10 => v = .pointer (some ⟨gB, 44, none⟩)
  | 11 => v = .pointer (some ⟨gB, 46, none⟩)
  | _ => True
theorem ownsRow_bel {w w' : World} {B : Nat} {t : TypeId} {z : Nat} {v : Value} {n : Nat} {xs : List Value} (h : w.ownsRow B t z v n xs) (hb : Below w.heap.size w w') : w'.ownsRow B t z v n xs := by
  have hlt := World.ownsRow.lt h
  refine ⟨h.1, ?_⟩
  rcases h.2 with h4 | ⟨g, cap, cur, rfl, hg, hh, r⟩
  · exact .inl h4
  · exact .inr ⟨g, cap, cur, rfl, hg, (hb.block g (hlt g rfl).2).trans hh, r⟩
theorem ownsRow_slice {w : World} {B : Nat} {t : TypeId} {z : Nat} {v : Value} {n : Nat} {xs : List Value} (h : w.ownsRow B t z v n xs) : ∃ p m c, v = .slice p m c := by
  rcases h.2 with ⟨h4, _⟩ | ⟨g, cap, cur, e, _⟩
  · exact ⟨_, _, _, h4⟩
  · exact ⟨_, _, _, e⟩
theorem grow11R_kept (gB b g3 g4 B0 : Nat) : ∀ (i : Nat), i < 12 → ∀ (v : Value) (w w' : World), grow11R gB b g3 g4 B0 i v w → Below w.heap.size w w' → grow11R gB b g3 g4 B0 i v w' := by
  intro i hi v w w' h hb
  rcases (show i = 0 ∨ i = 1 ∨ i = 2 ∨ i = 3 ∨ i = 4 ∨ i = 5 ∨ i = 6 ∨ i = 7 ∨ i = 8 ∨ i = 9 ∨ i = 10 ∨ i = 11 by omega) with e | e | e | e | e | e | e | e | e | e | e | e
  all_goals subst e
  all_goals first
    | exact h
    | (obtain ⟨p, n, cap, B, h1, h2, h3⟩ := h; exact ⟨p, n, cap, B, h1, h2, ownsRow_bel h3 hb⟩)
theorem row_cells {cs : Array Value} {k : Nat} {h : Hd} {b : Bk} (r : RowAt cs k h b) : cs[k * 4]? = some (.int .i64 b.n) ∧ cs[k * 4 + 1]? = some (.slice h.pb b.bs.length h.cb) ∧ cs[k * 4 + 2]? = some (.slice h.po b.os.length h.co) ∧ cs[k * 4 + 3]? = some (.slice h.ps b.ss.length h.cs) := by
  rw [Nat.mul_comm k 4]; exact r
end Go.Proofs.YtdmicngnbcdkdaaDoor

