/- For sure: the runs of minutes, how the last one grows in its own list, and the return of a call in which many ranges over functions ran. -/
import Derived.Test.YtkmjfmppeedaoaaDoorQUk
set_option linter.unusedSimpArgs false
set_option linter.unusedVariables false
namespace Go.Proofs.YtkmjfmppeedaoaaDoor
open Go Go.RowKit Go.Maps Go.Shelf

/-- A minute behind the runs so far: the last run grows by it, or a new one begins. -/
def addMin (l : List (Int × Int)) (m : Int) : List (Int × Int) :=
  match l.getLast? with
  | some r => if r.2 = m - 1 then l.dropLast ++ [(r.1, m)] else l ++ [(m, m)]
  | none => [(m, m)]
theorem addMin_nil (m : Int) : addMin [] m = [(m, m)] := rfl
theorem addMin_grow (l : List (Int × Int)) (x y m : Int) (h : y = m - 1) : addMin (l ++ [(x, y)]) m = l ++ [(x, m)] := by simp [addMin, h]
theorem addMin_new (l : List (Int × Int)) (x y m : Int) (h : y ≠ m - 1) : addMin (l ++ [(x, y)]) m = l ++ [(x, y)] ++ [(m, m)] := by simp [addMin, h]
/-- The runs of the minutes below k of which ok holds. -/
def runsTo (ok : Nat → Bool) : Nat → List (Int × Int)
  | 0 => []
  | k + 1 => if ok k then addMin (runsTo ok k) k else runsTo ok k
theorem addMin_len (l : List (Int × Int)) (m : Int) : (addMin l m).length ≤ l.length + 1 := by
  rcases List.eq_nil_or_concat l with rfl | ⟨i, ⟨x, y⟩, rfl⟩
  · simp [addMin_nil]
  · by_cases h : y = m - 1
    · rw [List.concat_eq_append, addMin_grow _ _ _ _ h]; simp
    · rw [List.concat_eq_append, addMin_new _ _ _ _ h]; simp
theorem runsTo_len (ok : Nat → Bool) : ∀ k, (runsTo ok k).length ≤ k
  | 0 => Nat.le_refl _
  | k + 1 => by
    have h1 := runsTo_len ok k
    have h2 := addMin_len (runsTo ok k) k
    unfold runsTo
    split <;> omega

/-- The last run's end, stored in the list's own block. -/
theorem OwnSpans.setLast {w : World} {B : Nat} {g n c : Nat} {l : List (Int × Int)} {x y : Int} (h : OwnSpans w B (.slice (some ⟨g, 0, none⟩) n c) (l ++ [(x, y)])) (z : Int) :
    OwnSpans (w.setCell ⟨g, l.length * 2 + 1, none⟩ (.int .i64 z)) B (.slice (some ⟨g, 0, none⟩) n c) (l ++ [(x, z)]) := by
  obtain ⟨h1, h2⟩ := h
  refine ⟨by simpa [encSpans] using h1, ?_⟩
  rcases h2 with ⟨h2, _⟩ | ⟨g', cap, cur, e, hg, hh, hn, hm, hs, ht⟩
  · simp at h2
  · simp only [Value.slice.injEq, Option.some.injEq, Addr.mk.injEq] at e
    obtain ⟨⟨rfl, -, -⟩, e2, rfl⟩ := e
    refine .inr ⟨g, c, cur.setIfInBounds (l.length * 2 + 1) (.int .i64 z), by simp [e2], hg, heap_setCell_same w g _ cur _ _ hh, by simpa using hn, hm, by simpa using hs, ?_⟩
    rw [Array.toList_setIfInBounds, List.take_set, show (l ++ [(x, z)]).length * 2 = (l ++ [(x, y)]).length * 2 by simp, ht]
    have hl : (encSpans l).length = l.length * 2 := by rw [encSpans_len]
    simp [encSpans_append, encSpans, List.set_append, ← hl]
theorem OwnSpans.lastCell {w : World} {B : Nat} {g n c : Nat} {l : List (Int × Int)} {x y : Int} (h : OwnSpans w B (.slice (some ⟨g, 0, none⟩) n c) (l ++ [(x, y)])) :
    w.cell? ⟨g, l.length * 2 + 1, none⟩ = some (.int .i64 y) ∧ w.frozen? ⟨g, l.length * 2 + 1, none⟩ = false := by
  obtain ⟨h1, h2⟩ := h
  rcases h2 with ⟨h2, _⟩ | ⟨g', cap, cur, e, hg, hh, hn, hm, hs, ht⟩
  · simp at h2
  · simp only [Value.slice.injEq, Option.some.injEq, Addr.mk.injEq] at e
    obtain ⟨⟨rfl, -, -⟩, e2, rfl⟩ := e
    have hl : (encSpans l).length = l.length * 2 := by rw [encSpans_len]
    refine ⟨?_, frozen_of_row w g _ cur _ hh⟩
    have h3 : (cur.toList.take ((l ++ [(x, y)]).length * 2))[l.length * 2 + 1]? = some (.int .i64 y) := by
      rw [ht]
      simp [encSpans_append, encSpans, List.getElem?_append, ← hl]
    rw [List.getElem?_take_of_lt (by simp; omega)] at h3
    simp [World.cell?, hh]
    simpa using h3

/-- A list that a range left behind, and that is empty. -/
def coll (D : Nat) : Deferred := { target := .collected D, args := #[] }
/-- The return of a call in which ranges over functions ran, if none of them put off a call: their lists are shut, one after another. -/
theorem leaves_coll {F : Fence} {n : Nat} {P : Program} {fn : Func} {tmps : Array Value} {R : Ending → World → Prop} : ∀ (Ds : List Nat) (w : World), Ds.Nodup → (∀ D ∈ Ds, w.heap[D]? = some (.deferred (some []))) →
    (∀ w' : World, w'.os = w.os → w'.tape = w.tape → w'.output = w.output → w'.heap.size = w.heap.size → (∀ k, k ∉ Ds → w'.heap[k]? = w.heap[k]?) → LeavesInM F n P fn tmps R [] .returning w') →
    LeavesInM F n P fn tmps R (Ds.map coll) .returning w
  | [], w, _, _, h => h w rfl rfl rfl rfl (fun _ _ => rfl)
  | D :: Ds, w, hnd, hD, h => by
    rw [List.nodup_cons] at hnd
    refine ⟨by simp, .inl ⟨D, w.putObj D (.deferred none), rfl, run_takeDeferred (hD D (by simp)), ?_⟩⟩
    refine leaves_coll Ds _ hnd.2 (fun k hk => (World.putObj_heap_other (by rintro rfl; exact hnd.1 hk)).trans (hD k (by simp [hk]))) ?_
    intro w' e1 e2 e3 e4 e5
    refine h w' e1 e2 e3 (e4.trans (World.putObj_size ..)) (fun k hk => ?_)
    simp only [List.mem_cons, not_or] at hk
    exact (e5 k hk.2).trans (World.putObj_heap_other hk.1)
end Go.Proofs.YtkmjfmppeedaoaaDoor

