/- For sure: the runs of minutes, how the last one grows in its own list, and the return of a call in which many ranges over functions ran. -/
/- Contract of sure: the runs of minutes at which nobody else can have the turn. -/
import Derived.Test.YtdmicngnbcdkdaaDoorRUk
import Derived.WalkMore
set_option linter.unusedSimpArgs false
set_option linter.unusedVariables false
namespace Go.Proofs.YtdmicngnbcdkdaaDoor
open Go Go.RowKit Go.Maps Go.Shelf

/-- A minute behind the runs so far: the last run grows by it, or a new one begins. -/
def addMin (l : List (Int × Int)) (m : Int) : List (Int × Int) :=
  match l.getLast? with
  | some r => if r.2 = m - 1 then l.dropLast ++ [(r.1, m)] else l ++ [(m, m)]
  | none => [(m, m)]
theorem addMin_nil (m : Int) : addMin [] m = [(m, m)] := rfl
theorem addMin_grow (l : List (Int × Int)) (x y m : Int) (h : y = m - 1) : addMin (l ++ [(x, y)]) m = l ++ [(x, m)] := by simp [addMin, h]
theorem addMin_new (l : List (Int × Int)) (x y m : Int) (h : y ≠ m - 1) : addMin (l ++ [(x, y)]) m = l ++ [(x, y)] ++ [(m, m)] := by simp [addMin, h]
/-- The runs of the minutes below k of which ok holds. -/
def runsTo (ok : Nat → Bool) : Nat → List (Int × Int)
  | 0 => []
  | k + 1 => if ok k then addMin (runsTo ok k) k else runsTo ok k
theorem addMin_len (l : List (Int × Int)) (m : Int) : (addMin l m).length ≤ l.length + 1 := by
  rcases List.eq_nil_or_concat l with rfl | ⟨i, ⟨x, y⟩, rfl⟩
  · simp [addMin_nil]
  · by_cases h : y = m - 1
    · rw [List.concat_eq_append, addMin_grow _ _ _ _ h]; simp
    · rw [List.concat_eq_append, addMin_new _ _ _ _ h]; simp
theorem runsTo_len (ok : Nat → Bool) : ∀ k, (runsTo ok k).length ≤ k
  | 0 => Nat.le_refl _
  | k + 1 => by
    have h1 := runsTo_len ok k
    have h2 := addMin_len (runsTo ok k) k
    unfold runsTo
    split <;> omega

/-- The last run's end, stored in the list's own block. -/
theorem OwnSpans.setLast {w : World} {B : Nat} {g n c : Nat} {l : List (Int × Int)} {x y : Int} (h : OwnSpans w B (.slice (some ⟨g, 0, none⟩) n c) (l ++ [(x, y)])) (z : Int) :
    OwnSpans (w.setCell ⟨g, l.length * 2 + 1, none⟩ (.int .i64 z)) B (.slice (some ⟨g, 0, none⟩) n c) (l ++ [(x, z)]) := by
  obtain ⟨h1, h2⟩ := h
  refine ⟨by simpa [encSpans] using h1, ?_⟩
  rcases h2 with ⟨h2, _⟩ | ⟨g', cap, cur, e, hg, hh, hn, hm, hs, ht⟩
  · simp at h2
  · simp only [Value.slice.injEq, Option.some.injEq, Addr.mk.injEq] at e
    obtain ⟨⟨rfl, -, -⟩, e2, rfl⟩ := e
    refine .inr ⟨g, c, cur.setIfInBounds (l.length * 2 + 1) (.int .i64 z), by simp [e2], hg, heap_setCell_same w g _ cur _ _ hh, by simpa using hn, hm, by simpa using hs, ?_⟩
    rw [Array.toList_setIfInBounds, List.take_set, show (l ++ [(x, z)]).length * 2 = (l ++ [(x, y)]).length * 2 by simp, ht]
    have hl : (encSpans l).length = l.length * 2 := by rw [encSpans_len]
    simp [encSpans_append, encSpans, List.set_append, ← hl]
theorem OwnSpans.lastCell {w : World} {B : Nat} {g n c : Nat} {l : List (Int × Int)} {x y : Int} (h : OwnSpans w B (.slice (some ⟨g, 0, none⟩) n c) (l ++ [(x, y)])) :
    w.cell? ⟨g, l.length * 2 + 1, none⟩ = some (.int .i64 y) ∧ w.frozen? ⟨g, l.length * 2 + 1, none⟩ = false := by
  obtain ⟨h1, h2⟩ := h
  rcases h2 with ⟨h2, _⟩ | ⟨g', cap, cur, e, hg, hh, hn, hm, hs, ht⟩
  · simp at h2
  · simp only [Value.slice.injEq, Option.some.injEq, Addr.mk.injEq] at e
    obtain ⟨⟨rfl, -, -⟩, e2, rfl⟩ := e
    have hl : (encSpans l).length = l.length * 2 := by rw [encSpans_len]
    refine ⟨?_, frozen_of_row w g _ cur _ hh⟩
    have h3 : (cur.toList.take ((l ++ [(x, y)]).length * 2))[l.length * 2 + 1]? = some (.int .i64 y) := by
      rw [ht]
      simp [encSpans_append, encSpans, List.getElem?_append, ← hl]
    rw [List.getElem?_take_of_lt (by simp; omega)] at h3
    simp [World.cell?, hh]
    simpa using h3

/-- A list that a range left behind, and that is empty. -/
def coll (D : Nat) : Deferred := { target := .collected D, args := #[] }
/-- The return of a call in which ranges over functions ran, if none of them put off a call: their lists are shut, one after another. -/
theorem leaves_coll {F : Fence} {n : Nat} {P : Program} {fn : Func} {tmps : Array Value} {R : Ending → World → Prop} : ∀ (Ds : List Nat) (w : World), Ds.Nodup → (∀ D ∈ Ds, w.heap[D]? = some (.deferred (some []))) →
    (∀ w' : World, w'.os = w.os → w'.tape = w.tape → w'.output = w.output → w'.heap.size = w.heap.size → (∀ k, k ∉ Ds → w'.heap[k]? = w.heap[k]?) → LeavesInM F n P fn tmps R [] .returning w') →
    LeavesInM F n P fn tmps R (Ds.map coll) .returning w
  | [], w, _, _, h => h w rfl rfl rfl rfl (fun _ _ => rfl)
  | D :: Ds, w, hnd, hD, h => by
    rw [List.nodup_cons] at hnd
    refine ⟨by simp, .inl ⟨D, w.putObj D (.deferred none), rfl, run_takeDeferred (hD D (by simp)), ?_⟩⟩
    refine leaves_coll Ds _ hnd.2 (fun k hk => (World.putObj_heap_other (by rintro rfl; exact hnd.1 hk)).trans (hD k (by simp [hk]))) ?_
    intro w' e1 e2 e3 e4 e5
    refine h w' e1 e2 e3 (e4.trans (World.putObj_size ..)) (fun k hk => ?_)
    simp only [List.mem_cons, not_or] at hk
    exact (e5 k hk.2).trans (World.putObj_heap_other hk.1)
end Go.Proofs.YtdmicngnbcdkdaaDoor

namespace Go.Proofs.YtdmicngnbcdkdaaDoor
open Go Go.RowKit Go.Maps Go.Shelf

/-- Nobody but a company can have the turn at a station, at a minute. -/
def onlyAt (b : Bk) (st : Nat) (co : Int) (m : Nat) : Bool := (seg (cnt (lateL b.bs) m) (cnt (soonL b.bs) m)).all fun t => ownf b.os st t == co
/-- What holds before a round of the loop. -/
def SureI (h : Hd) (b : Bk) (B st : Nat) (co : Int) (w : World) : Act → World → Prop := fun a wr => ∃ (k : Nat) (Ds : List Nat) (v u8 u9 u10 u12 u13 u14 u15 u16 u17 u18 u19 u20 u21 u22 u23 u24 u25 u26 u27 u28 u29 u30 u31 u32 u33 u34 u35 u36 u37 u38 u39 u40 u41 u42 u43 u44 u45 u46 u47 u48 u49 u50 u51 u52 u53 : Value), k ≤ 1440 ∧
  a = { tmps := #[.agg (cvcells h b B), .int .i64 st, .int .i64 co, .pointer (some ⟨w.heap.size, 0, none⟩), undef, .pointer (some ⟨w.heap.size + 1, 0, none⟩), .slice none 0 0, v, u8, u9, u10, .int .i64 k, u12, u13, u14, u15, u16, u17, u18, u19, u20, u21, u22, u23, u24, u25, u26, u27, u28, u29, u30, u31, u32, u33, u34, u35, u36, u37, u38, u39, u40, u41, u42, u43, u44, u45, u46, u47, u48, u49, u50, u51, u52, u53], defers := Ds.map coll } ∧
  Blk wr w.heap.size 83 (cvcells h b B) ∧ Blk wr (w.heap.size + 1) 3 #[.int .i64 co] ∧ OwnSpans wr (w.heap.size + 2) v (runsTo (onlyAt b st co) k) ∧ Below w.heap.size w wr ∧ w.heap.size + 2 ≤ wr.heap.size ∧
  Ds.Nodup ∧ (∀ D ∈ Ds, wr.heap[D]? = some (.deferred (some []))) ∧ (∀ D ∈ Ds, w.heap.size + 2 ≤ D)
theorem OwnSpans.cellsAt {w : World} {B : Nat} {v : Value} {l : List (Int × Int)} (h : OwnSpans w B v l) : ∀ g, v.ownBlock = some g → ∃ cur t, w.heap[g]? = some (.cells cur t (0, 0)) := by
  intro g hg
  obtain ⟨_, h2⟩ := h
  rcases h2 with ⟨rfl, _⟩ | ⟨g', cap, cur, rfl, _, hh, _⟩
  · cases hg
  · cases hg
    exact ⟨cur, _, hh⟩
theorem OwnSpans.some_of {w : World} {B : Nat} {p : Option Addr} {n c : Nat} {l : List (Int × Int)} {z : Int × Int} (h : OwnSpans w B (.slice p n c) (l ++ [z])) : ∃ g, p = some ⟨g, 0, none⟩ := by
  obtain ⟨h1, h2⟩ := h
  rcases h2 with ⟨_, h2⟩ | ⟨g', cap, cur, e, _⟩
  · simp at h2
  · simp only [Value.slice.injEq] at e
    exact ⟨g', e.1⟩
theorem grown_after {W M w1 : World} {row : Option Nat} (hB : Below W.heap.size W M) (hg : M.grownBy w1 row) : W.grownBy w1 row :=
  ⟨hg.os.trans hB.os, hg.tape.trans hB.tape, hg.output.trans hB.output, Nat.le_trans hB.size hg.size, fun k hk hne => (hg.block k (Nat.lt_of_lt_of_le hk hB.size) hne).trans (hB.block k hk)⟩
theorem grown_setCell (W : World) (g i : Nat) (v : Value) : W.grownBy (W.setCell ⟨g, i, none⟩ v) (some g) :=
  ⟨rfl, rfl, rfl, by simp, fun k _ hne => setCell_heap W g i k v (fun e => hne (by rw [e]))⟩
/-- How many minutes are left. -/
def sureM : Act → World → Nat := fun a _ => 1440 - (intOf (a.tmps.getD 11 undef)).toNat

attribute [local go_sem] Oper.semAt_some frozen_alloc_lt
set_option maxRecDepth 100000 in
set_option maxHeartbeats 4000000 in
theorem sure_any (h : Hd) (b : Bk) (B : Nat) (st : Nat) (co : Int) (w : World) (hk : CoveOK w h b B) (hst : st < b.os.length) :
    Calls Tryd.prog 60 #[.agg #[.int .i64 b.n, .slice h.pb b.bs.length h.cb, .slice h.po b.os.length h.co, .slice h.ps b.ss.length h.cs, .int .i64 (kspec b.bs 2 0 0), .int .i64 (kspec b.bs 2 0 1), .int .i64 (kspec b.bs 2 0 2), .int .i64 (kspec b.bs 2 0 3), .int .i64 (kspec b.bs 2 0 4), .int .i64 (kspec b.bs 2 0 5), .int .i64 (kspec b.bs 2 0 6), .int .i64 (kspec b.bs 2 0 7), .map (some B)], .int .i64 st, .int .i64 co] w (fun e w' => ∃ p c, e = .returned (.slice p (runsTo (onlyAt b st co) 1440).length c) ∧ SpansAt w' p (runsTo (onlyAt b st co) 1440) ∧ ∃ x, w' = ext w x) := by
  refine (callsIn_wide (n := 9)).1 ?_
  have HK := Lib.hid hk
  clear hk
  refine callsIn_of_wp_marks Tryd.func60 rfl trivial ?_ rfl
  simp only [Tryd.ntmps60, List.size_toArray, List.length_cons, List.length_nil, Nat.reduceAdd, Nat.reduceSub, Array.replicate_succ, Array.replicate_zero, List.push_toArray, List.append_toArray, List.nil_append, List.cons_append]
  refine wpIn_wide.2 ?_
  go_wp2_with fail
  apply wp_scope_straight
  go_wp2_with fail
  apply wp_label
  go_wp2_with fail
  refine wp_loop (SureI h b B st co w) sureM ?start ?round
  case start =>
    refine ⟨0, [], _, _, _, _, _, _, _, _, _, _, _, _, _, _, _, _, _, _, _, _, _, _, _, _, _, _, _, _, _, _, _, _, _, _, _, _, _, _, _, _, _, _, _, _, _, _, Nat.zero_le _, rfl, (Blk.new rfl).alloc _, Blk.new (by simp), OwnSpans.nil _ _, by (repeat (first | (with_reducible exact Below.refl _ _) | (with_reducible assumption) | ((with_reducible refine below_ext_trans ?_ ?_ _); rotate_left; focus (((try dsimp only); repeat (first | omega | simp only [World.size_alloc, World.size_setCell, World.size_drew] | (with_reducible refine le_ext_of ?_) | (with_reducible refine le_ext_add ?_))); done)) | ((with_reducible refine Below.alloc ?_ ?_ _); rotate_left; focus (((try dsimp only); repeat (first | omega | simp only [World.size_alloc, World.size_setCell, World.size_drew] | (with_reducible refine le_ext_of ?_) | (with_reducible refine le_ext_add ?_))); done)) | ((with_reducible refine Below.setCell ?_ ?_ _); rotate_left; focus (((try dsimp only); repeat (first | omega | simp only [World.size_alloc, World.size_setCell, World.size_drew] | (with_reducible refine le_ext_of ?_) | (with_reducible refine le_ext_add ?_))); done)) | (with_reducible refine Below.drew ?_))), by simp, List.nodup_nil, by simp, by simp⟩
  case round =>
    rintro a wr ⟨k, Ds, v, u8, u9, u10, u12, u13, u14, u15, u16, u17, u18, u19, u20, u21, u22, u23, u24, u25, u26, u27, u28, u29, u30, u31, u32, u33, u34, u35, u36, u37, u38, u39, u40, u41, u42, u43, u44, u45, u46, u47, u48, u49, u50, u51, u52, u53, hk, rfl, c1, c2, c3, c4, c5, d1, d2, d3⟩
    by_cases hk2 : k < 1440
    · obtain ⟨p, q, rfl, hp⟩ := c3.at
      have D1 := Lib.hid d1
      have D2 := Lib.hid d2
      have D3 := Lib.hid d3
      have C1 := Lib.hid c1
      have C2 := Lib.hid c2
      have C3 := Lib.hid c3
      have C4 := Lib.hid c4
      have C5 := Lib.hid c5
      clear c1 c2 hp d1 d2 d3 c3 c4 c5
      have kS : Hid (∀ w', Below wr.heap.size wr w' → w'.cell? ⟨w.heap.size, 4, none⟩ = some (.int .i64 (kspec b.bs 2 0 0)) ∧ w'.cell? ⟨w.heap.size, 5, none⟩ = some (.int .i64 (kspec b.bs 2 0 1)) ∧ w'.cell? ⟨w.heap.size, 6, none⟩ = some (.int .i64 (kspec b.bs 2 0 2)) ∧ w'.cell? ⟨w.heap.size, 7, none⟩ = some (.int .i64 (kspec b.bs 2 0 3)) ∧ w'.cell? ⟨w.heap.size, 8, none⟩ = some (.int .i64 (kspec b.bs 2 0 4)) ∧ w'.cell? ⟨w.heap.size, 9, none⟩ = some (.int .i64 (kspec b.bs 2 0 5)) ∧ w'.cell? ⟨w.heap.size, 10, none⟩ = some (.int .i64 (kspec b.bs 2 0 6)) ∧ w'.cell? ⟨w.heap.size, 11, none⟩ = some (.int .i64 (kspec b.bs 2 0 7))) := Lib.hid (fun w' hw => by
        have kb1' : Blk w' w.heap.size 83 (cvcells h b B) := (hw.block _ C1.out.lt).trans C1.out
        obtain ⟨d0, d1, d2, d3, d4, d5, d6, d7, d8, d9, d10, d11, d12⟩ := cvBlk kb1'
        exact ⟨d4, d5, d6, d7, d8, d9, d10, d11⟩)
      go_upto_region 5 with fail
      rw [show decide ((k : Int) < 1440) = true by simp only [decide_eq_true_eq]; omega]
      go_cut [19] from 14 to 19 (fun s19 wx => ∃ b1 b2 b3 : Nat, s19 = .func (.func 87) #[] #[.pointer (some ⟨b1, 0, none⟩), .pointer (some ⟨b2, 0, none⟩), .pointer (some ⟨b3, 0, none⟩)] ∧ wr.heap.size ≤ b1 ∧ wr.heap.size ≤ b2 ∧ wr.heap.size ≤ b3 ∧
          SpellBox wx b1 b2 b3 (kspec b.bs 2 0 0) (kspec b.bs 2 0 1) (kspec b.bs 2 0 2) (kspec b.bs 2 0 3) (kspec b.bs 2 0 4) (kspec b.bs 2 0 5) (kspec b.bs 2 0 6) (kspec b.bs 2 0 7) st k k ∧ Below wr.heap.size wr wx)
      case first =>
        go_region_held3 (fun w' => w'.cell? ⟨w.heap.size, 4, none⟩ = some (.int .i64 (kspec b.bs 2 0 0)) ∧ w'.cell? ⟨w.heap.size, 5, none⟩ = some (.int .i64 (kspec b.bs 2 0 1)) ∧ w'.cell? ⟨w.heap.size, 6, none⟩ = some (.int .i64 (kspec b.bs 2 0 2)) ∧ w'.cell? ⟨w.heap.size, 7, none⟩ = some (.int .i64 (kspec b.bs 2 0 3)) ∧ w'.cell? ⟨w.heap.size, 8, none⟩ = some (.int .i64 (kspec b.bs 2 0 4)) ∧ w'.cell? ⟨w.heap.size, 9, none⟩ = some (.int .i64 (kspec b.bs 2 0 5)) ∧ w'.cell? ⟨w.heap.size, 10, none⟩ = some (.int .i64 (kspec b.bs 2 0 6)) ∧ w'.cell? ⟨w.heap.size, 11, none⟩ = some (.int .i64 (kspec b.bs 2 0 7)))
          ((exact kS.out _ (by (repeat (first | (with_reducible exact Below.refl _ _) | (with_reducible assumption) | ((with_reducible refine below_ext_trans ?_ ?_ _); rotate_left; focus (((try dsimp only); repeat (first | omega | simp only [World.size_alloc, World.size_setCell, World.size_drew] | (with_reducible refine le_ext_of ?_) | (with_reducible refine le_ext_add ?_))); done)) | ((with_reducible refine Below.alloc ?_ ?_ _); rotate_left; focus (((try dsimp only); repeat (first | omega | simp only [World.size_alloc, World.size_setCell, World.size_drew] | (with_reducible refine le_ext_of ?_) | (with_reducible refine le_ext_add ?_))); done)) | ((with_reducible refine Below.setCell ?_ ?_ _); rotate_left; focus (((try dsimp only); repeat (first | omega | simp only [World.size_alloc, World.size_setCell, World.size_drew] | (with_reducible refine le_ext_of ?_) | (with_reducible refine le_ext_add ?_))); done)) | (with_reducible refine Below.drew ?_))))))
          (first
            | (go_at_call 50; refine (just_any _ _).mono ?_; rintro e w' ⟨rfl, y0, rfl⟩)
            | (go_at_call 70; refine (spells_any _ _ _ _ _ _ _ _ _ _ _ _).mono ?_; rintro e w' ⟨b1, b2, b3, rfl, hb1, hb2, hb3, hbox, y1, rfl⟩))
        all_goals (go_wp2_with fail; go_meet)
        all_goals
          refine ⟨b1, b2, b3, rfl, Nat.le_trans ?_ hb1, Nat.le_trans ?_ hb2, Nat.le_trans ?_ hb3, hbox, by (repeat (first | (with_reducible exact Below.refl _ _) | (with_reducible assumption) | ((with_reducible refine below_ext_trans ?_ ?_ _); rotate_left; focus (((try dsimp only); repeat (first | omega | simp only [World.size_alloc, World.size_setCell, World.size_drew] | (with_reducible refine le_ext_of ?_) | (with_reducible refine le_ext_add ?_))); done)) | ((with_reducible refine Below.alloc ?_ ?_ _); rotate_left; focus (((try dsimp only); repeat (first | omega | simp only [World.size_alloc, World.size_setCell, World.size_drew] | (with_reducible refine le_ext_of ?_) | (with_reducible refine le_ext_add ?_))); done)) | ((with_reducible refine Below.setCell ?_ ?_ _); rotate_left; focus (((try dsimp only); repeat (first | omega | simp only [World.size_alloc, World.size_setCell, World.size_drew] | (with_reducible refine le_ext_of ?_) | (with_reducible refine le_ext_add ?_))); done)) | (with_reducible refine Below.drew ?_)))⟩
          all_goals ((try dsimp only); repeat (first | omega | simp only [World.size_alloc, World.size_setCell, World.size_drew] | (with_reducible refine le_ext_of ?_) | (with_reducible refine le_ext_add ?_)))
      case rest =>
        obtain ⟨b1, b2, b3, rfl, hb1, hb2, hb3, hbox, hbel⟩ := hcut
        go_wp2_with fail
        obtain ⟨v1, v2, _⟩ := bookB_bounds HK.out.ok
        have hle : cnt [kspec b.bs 2 0 4, kspec b.bs 2 0 5, kspec b.bs 2 0 6, kspec b.bs 2 0 7] k ≤ cnt [kspec b.bs 2 0 0, kspec b.bs 2 0 1, kspec b.bs 2 0 2, kspec b.bs 2 0 3] k := cnt_late_soon _ v1 v2 k k (by omega)
        have hnb : cnt [kspec b.bs 2 0 0, kspec b.bs 2 0 1, kspec b.bs 2 0 2, kspec b.bs 2 0 3] k ≤ b.bs.length := cnt_soon_le _ v1 k (by omega)
        have hzc := hbel.size
        have hzw := C5.out
        have HQ1 := Lib.hid (show Blk wc w.heap.size 83 (cvcells h b B) from (hbel.block _ C1.out.lt).trans C1.out)
        have HQ2 := Lib.hid (show Blk wc (w.heap.size + 1) 3 #[.int .i64 co] from (hbel.block _ C2.out.lt).trans C2.out)
        have HWC := Lib.hid (C4.out.trans (hbel.mono (by omega)))
        have hseq := spells1_in (9 - 1) b1 b2 b3 _ _ _ _ _ _ _ _ st k k (fun k => False ∨ k = wc.heap.size + 1) wc hbox hle (fun k hk => by
          rcases hk with hk | hk
          · exact hk.elim
          · have := hbox.lt1; have := hbox.lt2; have := hbox.lt3; omega)
        have HNB := Lib.hid hnb
        have HBEL := Lib.hid hbel
        have HOK := Lib.hid (show onlyAt b st co k = (seg (cnt [kspec b.bs 2 0 4, kspec b.bs 2 0 5, kspec b.bs 2 0 6, kspec b.bs 2 0 7] k) (cnt [kspec b.bs 2 0 0, kspec b.bs 2 0 1, kspec b.bs 2 0 2, kspec b.bs 2 0 3] k)).all (fun t => ownf b.os st t == co) from rfl)
        clear hbox hbel kS hle hnb v1 v2
        refine (wpIn_wide (n := 9)).1 ?_
        refine wpIn_rangeFunc_w (gf := 87) (lb := #[.pointer (some ⟨b1, 0, none⟩), .pointer (some ⟨b2, 0, none⟩), .pointer (some ⟨b3, 0, none⟩)]) rfl (enters_of Tryd.func87 (by kernel_rfl) rfl)
          (fun k => False) (fun k hk => hk.elim) hseq (Below.refl _ _) (fun _ => rfl)
          (fun n1 pre W' => Hid (pre.all (fun t => ownf b.os st t == co) = true) ∧ Below wc.heap.size wc W')
          (fun n1 c pre W' => c = .exit 1 ∧ Hid (pre.all (fun t => ownf b.os st t == co) = false) ∧ Below wc.heap.size wc W')
          (fun n1 pre x a' W' => ∃ g : Nat, n1 ≤ g ∧ Blk W' g 103 #[.int .i64 st, .int .i64 x] ∧ a' = { tmps := #[.agg (cvcells h b B), .int .i64 st, .int .i64 co, .pointer (some ⟨w.heap.size, 0, none⟩), undef, .pointer (some ⟨w.heap.size + 1, 0, none⟩), .slice none 0 0, .slice p (runsTo (onlyAt b st co) k).length q, .int .i64 k, .pointer (some ⟨g, 0, none⟩), u10, .int .i64 k, .bool true, .int .i64 k, u14, u15, u16, u17, u18, .func (.func 87) #[] #[.pointer (some ⟨b1, 0, none⟩), .pointer (some ⟨b2, 0, none⟩), .pointer (some ⟨b3, 0, none⟩)], .agg #[.int .i64 st, .int .i64 x], u21, u22, u23, u24, u25, u26, u27, u28, u29, u30, u31, u32, u33, u34, u35, u36, u37, u38, u39, u40, u41, u42, u43, u44, u45, u46, u47, u48, u49, u50, u51, u52, u53], defers := [] })
          ?hI ?hIx ?hAx ?h0 ?hassign ?hbody ?hdone ?hstop
        case hI =>
          rintro n1 pre A C hn hA ⟨c1, c2⟩ hp
          exact ⟨c1, c2.trans (hp.below (Nat.le_refl _) c2.size)⟩
        case hIx =>
          rintro n1 c pre A C hn hA ⟨rfl, c1, c2⟩ hp
          exact ⟨rfl, c1, c2.trans (hp.below (Nat.le_refl _) c2.size)⟩
        case hAx =>
          rintro n1 pre x a' A C hn hA ⟨g, hg, hk, rfl⟩ hp
          exact ⟨g, hg, (hp.block g hk.lt (.inr hg)).trans hk, rfl⟩
        case h0 =>
          intro n1 W1 hb _ _
          exact ⟨Lib.hid rfl, hb⟩
        case hassign =>
          rintro l n1 pre x W' hn hz hsp ⟨c1, c2⟩
          have CC2 := Lib.hid c2
          clear c2
          gi_wp2
          refine ⟨⟨c1, ?_⟩, ⟨W'.heap.size, hz, Blk.new rfl, rfl⟩, by (repeat (first | (with_reducible exact Below.refl _ _) | (with_reducible assumption) | ((with_reducible refine below_ext_trans ?_ ?_ _); rotate_left; focus (((try dsimp only); repeat (first | omega | simp only [World.size_alloc, World.size_setCell, World.size_drew] | (with_reducible refine le_ext_of ?_) | (with_reducible refine le_ext_add ?_))); done)) | ((with_reducible refine Below.alloc ?_ ?_ _); rotate_left; focus (((try dsimp only); repeat (first | omega | simp only [World.size_alloc, World.size_setCell, World.size_drew] | (with_reducible refine le_ext_of ?_) | (with_reducible refine le_ext_add ?_))); done)) | ((with_reducible refine Below.setCell ?_ ?_ _); rotate_left; focus (((try dsimp only); repeat (first | omega | simp only [World.size_alloc, World.size_setCell, World.size_drew] | (with_reducible refine le_ext_of ?_) | (with_reducible refine le_ext_add ?_))); done)) | (with_reducible refine Below.drew ?_)))⟩
          have hB := CC2.out
          have := hB.size
          (repeat (first | (with_reducible exact Below.refl _ _) | (with_reducible assumption) | ((with_reducible refine below_ext_trans ?_ ?_ _); rotate_left; focus (((try dsimp only); repeat (first | omega | simp only [World.size_alloc, World.size_setCell, World.size_drew] | (with_reducible refine le_ext_of ?_) | (with_reducible refine le_ext_add ?_))); done)) | ((with_reducible refine Below.alloc ?_ ?_ _); rotate_left; focus (((try dsimp only); repeat (first | omega | simp only [World.size_alloc, World.size_setCell, World.size_drew] | (with_reducible refine le_ext_of ?_) | (with_reducible refine le_ext_add ?_))); done)) | ((with_reducible refine Below.setCell ?_ ?_ _); rotate_left; focus (((try dsimp only); repeat (first | omega | simp only [World.size_alloc, World.size_setCell, World.size_drew] | (with_reducible refine le_ext_of ?_) | (with_reducible refine le_ext_add ?_))); done)) | (with_reducible refine Below.drew ?_)))
        case hbody =>
          rintro l n1 pre x a' W' hl hn hz hsp ⟨c1, c2⟩ ⟨g, hg, hk, rfl⟩
          have hin : st < 3 ∧ x < 5 ∧ inR b.os st x := by
            obtain ⟨hol, ho1, hbl, hn4, hrows⟩ := bookB_rows HK.out.ok
            obtain ⟨r, hr⟩ := get_some b.os st hst
            obtain ⟨hrl, _⟩ := hrows st r hr
            have hx : x ∈ seg (cnt [kspec b.bs 2 0 4, kspec b.bs 2 0 5, kspec b.bs 2 0 6, kspec b.bs 2 0 7] k) (cnt [kspec b.bs 2 0 0, kspec b.bs 2 0 1, kspec b.bs 2 0 2, kspec b.bs 2 0 3] k) := hsp.subset (by simp)
            have h2 := HNB.out
            simp only [seg, upto, List.mem_map, List.mem_range] at hx
            refine ⟨by omega, by omega, hst, ?_⟩
            rw [List.getD_eq_getElem?_getD, hr]
            show x < r.length
            omega
          obtain ⟨hs3, hx5, hinr⟩ := hin
          have hB0 : Below w.heap.size w W' := HWC.out.trans (c2.mono (HWC.out.size))
          have kb1 : Blk W' w.heap.size 83 (cvcells h b B) := (c2.block _ HQ1.out.lt).trans HQ1.out
          have kb2 : Blk W' (w.heap.size + 1) 3 #[.int .i64 co] := (c2.block _ HQ2.out.lt).trans HQ2.out
          have hL : ∀ y : Grow W', (Instr.lookup 81 (.map (some B)) (.agg #[.int .i64 st, .int .i64 x]) false).run Tryd.prog (Go.Proofs.YtdmicngnbcdkdaaDoor.ext W' y) = .ok (.int .i64 (ownf b.os st x)) (Go.Proofs.YtdmicngnbcdkdaaDoor.ext W' y) :=
            fun y => ((HK.out.own.below hB0).ext y).look st x hs3 hx5 hinr
          obtain ⟨d0, d1, d2, d3, d4, d5, d6, d7, d8, d9, d10, d11, d12⟩ := cvBlk kb1
          clear d0 d1 d2 d3 d4 d5 d6 d7 d8 d9 d10 d11
          have e0 := kb2.cell 0
          have qg0 := hk.cell 0
          have qg1 := hk.cell 1
          simp only [List.size_toArray, List.length_cons, List.length_nil, Nat.reduceAdd, Nat.reduceLT, getElem?_pos, List.getElem_toArray, List.getElem_cons_zero, List.getElem_cons_succ] at e0 qg0 qg1
          have hl1 : w.heap.size < W'.heap.size := kb1.lt
          have hl2 : w.heap.size + 1 < W'.heap.size := kb2.lt
          have hl3 : g < W'.heap.size := hk.lt
          have CC2 := Lib.hid c2
          clear c2 hB0 kb1 kb2 hk
          by_cases hx : ownf b.os st x = co
          · have HX := Lib.hid hx
            gi_wp2_with fail
            refine wpIn_region_ext (by kernel_rfl) (by kernel_rfl) (by kernel_rfl) ?_
            repeat (gi_big_quiet_step (fail))
            refine wpQuietIn_nil ?_
            rintro _ ⟨y, rfl⟩
            gi_wp2_with fail
            refine (show Spare _ _ _ _ ∧ _ from ⟨(Spare.refl _ n1 W').ext hz y, Lib.hid ?_, ?_⟩)
            · rw [List.all_append, c1.out]; simp [HX.out]
            · have hB := CC2.out
              have := hB.size
              (repeat (first | (with_reducible exact Below.refl _ _) | (with_reducible assumption) | ((with_reducible refine below_ext_trans ?_ ?_ _); rotate_left; focus (((try dsimp only); repeat (first | omega | simp only [World.size_alloc, World.size_setCell, World.size_drew] | (with_reducible refine le_ext_of ?_) | (with_reducible refine le_ext_add ?_))); done)) | ((with_reducible refine Below.alloc ?_ ?_ _); rotate_left; focus (((try dsimp only); repeat (first | omega | simp only [World.size_alloc, World.size_setCell, World.size_drew] | (with_reducible refine le_ext_of ?_) | (with_reducible refine le_ext_add ?_))); done)) | ((with_reducible refine Below.setCell ?_ ?_ _); rotate_left; focus (((try dsimp only); repeat (first | omega | simp only [World.size_alloc, World.size_setCell, World.size_drew] | (with_reducible refine le_ext_of ?_) | (with_reducible refine le_ext_add ?_))); done)) | (with_reducible refine Below.drew ?_)))
          · have HX := Lib.hid hx
            gi_wp2_with fail
            refine wpIn_region_ext (by kernel_rfl) (by kernel_rfl) (by kernel_rfl) ?_
            repeat (gi_big_quiet_step (fail))
            refine wpQuietIn_nil ?_
            rintro _ ⟨y, rfl⟩
            gi_wp2_with fail
            refine (show Spare _ _ _ _ ∧ _ from ⟨(Spare.refl _ n1 W').ext hz y, rfl, Lib.hid ?_, ?_⟩)
            · rw [List.all_append]; simp [HX.out]
            · have hB := CC2.out
              have := hB.size
              (repeat (first | (with_reducible exact Below.refl _ _) | (with_reducible assumption) | ((with_reducible refine below_ext_trans ?_ ?_ _); rotate_left; focus (((try dsimp only); repeat (first | omega | simp only [World.size_alloc, World.size_setCell, World.size_drew] | (with_reducible refine le_ext_of ?_) | (with_reducible refine le_ext_add ?_))); done)) | ((with_reducible refine Below.alloc ?_ ?_ _); rotate_left; focus (((try dsimp only); repeat (first | omega | simp only [World.size_alloc, World.size_setCell, World.size_drew] | (with_reducible refine le_ext_of ?_) | (with_reducible refine le_ext_add ?_))); done)) | ((with_reducible refine Below.setCell ?_ ?_ _); rotate_left; focus (((try dsimp only); repeat (first | omega | simp only [World.size_alloc, World.size_setCell, World.size_drew] | (with_reducible refine le_ext_of ?_) | (with_reducible refine le_ext_add ?_))); done)) | (with_reducible refine Below.drew ?_)))
        case hdone =>
          rintro D n1 xs W' rfl hn hz rfl ⟨c1, c2⟩ hD
          have hok : onlyAt b st co k = true := by rw [HOK.out]; exact c1.out
          have HOK2 := Lib.hid hok
          have CC2 := Lib.hid c2
          have HD := Lib.hid hD
          have HL : Hid ((runsTo (onlyAt b st co) k).length ≤ 1440) := Lib.hid (Nat.le_trans (runsTo_len _ k) (Nat.le_of_lt hk2))
          have hbw : Below wr.heap.size wr W' := HBEL.out.trans (c2.mono hzc)
          have HBW := Lib.hid hbw
          have hzW : wr.heap.size ≤ W'.heap.size := hbw.size
          have FIN : Hid (∀ (v' : Value) (n : Nat) (w1 : World), OwnSpans w1 (w.heap.size + 2) v' (addMin (runsTo (onlyAt b st co) k) k) → W'.grownBy w1 (Value.slice p n q).ownBlock →
              Blk w1 w.heap.size 83 (cvcells h b B) ∧ Blk w1 (w.heap.size + 1) 3 #[.int .i64 co] ∧ OwnSpans w1 (w.heap.size + 2) v' (runsTo (onlyAt b st co) (k + 1)) ∧ Below w.heap.size w w1 ∧ w.heap.size + 2 ≤ w1.heap.size ∧
              (wc.heap.size :: Ds).Nodup ∧ (∀ D ∈ wc.heap.size :: Ds, w1.heap[D]? = some (.deferred (some []))) ∧ (∀ D ∈ wc.heap.size :: Ds, w.heap.size + 2 ≤ D)) := Lib.hid (by
            intro v' n w1 ho hg
            have hlt := C3.out.lt
            have hne : ∀ D : Nat, (D < w.heap.size + 2 ∨ wr.heap.size ≤ D ∨ D ∈ Ds) → some D ≠ (Value.slice p n q).ownBlock := by
              intro D hD e
              have e2 : (Value.slice p (runsTo (onlyAt b st co) k).length q).ownBlock = some D := by rw [e]; cases p <;> rfl
              obtain ⟨l1, l2⟩ := hlt D e2
              rcases hD with hD | hD | hD
              · omega
              · omega
              · obtain ⟨cur, t, hc⟩ := C3.out.cellsAt D e2
                rw [D2.out D hD] at hc
                cases hc
            have hwl := HQ1.out.lt
            have hwl2 := HQ2.out.lt
            have hcz := CC2.out.size
            refine ⟨(hg.block _ (by omega) (hne _ (.inl (by omega)))).trans ((CC2.out.block _ hwl).trans HQ1.out), (hg.block _ (by omega) (hne _ (.inl (by omega)))).trans ((CC2.out.block _ hwl2).trans HQ2.out), by rw [runsTo, HOK2.out]; exact ho,
              Below.grown (HWC.out.trans (CC2.out.mono HWC.out.size)) hg (by omega) (fun D hD => Nat.le_of_not_lt (fun hlt2 => hne D (.inl (by omega)) hD.symm)), by have := hg.size; omega, ?_, ?_, ?_⟩
            · exact List.nodup_cons.2 ⟨fun hm => by have := (Array.getElem?_eq_some_iff.1 (D2.out _ hm)).1; omega, D1.out⟩
            · intro D hm
              rcases List.mem_cons.1 hm with rfl | hm
              · exact (hg.block _ (Array.getElem?_eq_some_iff.1 HD.out).1 (hne _ (.inr (.inl hzc)))).trans HD.out
              · have hDr := (Array.getElem?_eq_some_iff.1 (D2.out _ hm)).1
                exact (hg.block D (by omega) (hne _ (.inr (.inr hm)))).trans ((HBW.out.block D hDr).trans (D2.out D hm))
            · intro D hm
              rcases List.mem_cons.1 hm with rfl | hm
              · omega
              · exact D3.out D hm)
          obtain ⟨L, hLL⟩ : ∃ L, L = runsTo (onlyAt b st co) k := ⟨_, rfl⟩
          rw [← hLL] at C3 HL FIN ⊢
          clear hok c1 c2 hD hseq hLL hbw
          rcases List.eq_nil_or_concat L with rfl | ⟨i, ⟨x, y⟩, rfl⟩
          · gi_wp2_with fail
            go_wp2_with (first
              | (go_at_call 50; refine (just_any _ _).mono ?_; rintro e w' ⟨rfl, y0, rfl⟩)
              | (at_builtin; refine wpList_append_span rfl _ _ rfl (w.heap.size + 2) _ [] rfl (C3.out.below (HBW.out.trans (by (repeat (first | (with_reducible exact Below.refl _ _) | (with_reducible assumption) | ((with_reducible refine below_ext_trans ?_ ?_ _); rotate_left; focus (((try dsimp only); repeat (first | omega | simp only [World.size_alloc, World.size_setCell, World.size_drew] | (with_reducible refine le_ext_of ?_) | (with_reducible refine le_ext_add ?_))); done)) | ((with_reducible refine Below.alloc ?_ ?_ _); rotate_left; focus (((try dsimp only); repeat (first | omega | simp only [World.size_alloc, World.size_setCell, World.size_drew] | (with_reducible refine le_ext_of ?_) | (with_reducible refine le_ext_add ?_))); done)) | ((with_reducible refine Below.setCell ?_ ?_ _); rotate_left; focus (((try dsimp only); repeat (first | omega | simp only [World.size_alloc, World.size_setCell, World.size_drew] | (with_reducible refine le_ext_of ?_) | (with_reducible refine le_ext_add ?_))); done)) | (with_reducible refine Below.drew ?_)))))) (ext W' y0).heap.size (k : Int) (k : Int) rfl (by simp [go_sem]) (by simp [go_sem]) (by have := HL.out; omega) (by ((try dsimp only); repeat (first | omega | simp only [World.size_alloc, World.size_setCell, World.size_drew] | (with_reducible refine le_ext_of ?_) | (with_reducible refine le_ext_add ?_)))) ?_; intro v' w1 ho hg))
            obtain ⟨f1, f2, f3, f4, f5, f6, f7, f8⟩ := FIN.out v' 0 w1 (by rw [addMin_nil]; exact ho) (grown_after (W := W') (by (repeat (first | (with_reducible exact Below.refl _ _) | (with_reducible assumption) | ((with_reducible refine below_ext_trans ?_ ?_ _); rotate_left; focus (((try dsimp only); repeat (first | omega | simp only [World.size_alloc, World.size_setCell, World.size_drew] | (with_reducible refine le_ext_of ?_) | (with_reducible refine le_ext_add ?_))); done)) | ((with_reducible refine Below.alloc ?_ ?_ _); rotate_left; focus (((try dsimp only); repeat (first | omega | simp only [World.size_alloc, World.size_setCell, World.size_drew] | (with_reducible refine le_ext_of ?_) | (with_reducible refine le_ext_add ?_))); done)) | ((with_reducible refine Below.setCell ?_ ?_ _); rotate_left; focus (((try dsimp only); repeat (first | omega | simp only [World.size_alloc, World.size_setCell, World.size_drew] | (with_reducible refine le_ext_of ?_) | (with_reducible refine le_ext_add ?_))); done)) | (with_reducible refine Below.drew ?_)))) hg)
            exact (show SureI h b B st co w _ _ ∧ sureM _ _ < sureM _ _ from ⟨⟨k + 1, wc.heap.size :: Ds, _, _, _, _, _, _, _, _, _, _, _, _, _, _, _, _, _, _, _, _, _, _, _, _, _, _, _, _, _, _, _, _, _, _, _, _, _, _, _, _, _, _, _, _, _, _, by omega, rfl, f1, f2, f3, f4, f5, f6, f7, f8⟩, by simp [sureM, intOf]; omega⟩)
          · rw [List.concat_eq_append] at C3 HL FIN ⊢
            obtain ⟨g, rfl⟩ := C3.out.some_of
            obtain ⟨hc, hf⟩ := (C3.out.below HBW.out).lastCell
            have hOL : OwnSpans W' (w.heap.size + 2) (.slice (some ⟨g, 0, none⟩) (i ++ [(x, y)]).length q) (i ++ [(x, y)]) := C3.out.below HBW.out
            obtain ⟨n, hn⟩ : ∃ n, n = (i ++ [(x, y)]).length := ⟨_, rfl⟩
            have hset : ∀ z : Int, OwnSpans (W'.setCell ⟨g, i.length * 2 + 1, none⟩ (.int .i64 z)) (w.heap.size + 2) (.slice (some ⟨g, 0, none⟩) n q) (i ++ [(x, z)]) := fun z => by rw [hn]; exact hOL.setLast z
            obtain ⟨j, hj⟩ : ∃ j, j = i.length := ⟨_, rfl⟩
            rw [← hj] at hc hf hset
            rw [← hn] at C3 ⊢
            have hnj : (n : Int) - 1 = (j : Int) := by rw [hn, hj, List.length_append]; simp
            have hjn : (j : Int) < (n : Int) := by omega
            have hj0 : (0 : Int) ≤ (j : Int) := by omega
            have hn2 : n ≤ 1440 := by rw [hn]; exact HL.out
            have hwj : wrap64 (j : Int) = (j : Int) := by unfold wrap64; omega
            have hwk : wrap64 ((k : Int) - 1) = (k : Int) - 1 := by unfold wrap64; omega
            have HSET := Lib.hid hset
            have HOL := Lib.hid hOL
            have HN := Lib.hid hn
            have HJ := Lib.hid hj
            clear hset hOL hn hj
            by_cases hy : y = (k : Int) - 1
            · have HY := Lib.hid hy
              subst hy
              gi_wp2_with fail
              go_wp2_with fail
              obtain ⟨f1, f2, f3, f4, f5, f6, f7, f8⟩ := FIN.out (.slice (some ⟨g, 0, none⟩) n q) n (W'.setCell ⟨g, j * 2 + 1, none⟩ (.int .i64 k)) (by rw [addMin_grow _ _ _ _ rfl]; exact HSET.out k) (grown_setCell W' g _ _)
              exact (show SureI h b B st co w _ _ ∧ sureM _ _ < sureM _ _ from ⟨⟨k + 1, wc.heap.size :: Ds, _, _, _, _, _, _, _, _, _, _, _, _, _, _, _, _, _, _, _, _, _, _, _, _, _, _, _, _, _, _, _, _, _, _, _, _, _, _, _, _, _, _, _, _, _, _, by omega, rfl, f1, f2, f3, f4, f5, f6, f7, f8⟩, by simp [sureM, intOf]; omega⟩)
            · have HY := Lib.hid hy
              gi_wp2_with fail
              go_wp2_with (first
                | (go_at_call 50; refine (just_any _ _).mono ?_; rintro e w' ⟨rfl, y0, rfl⟩)
                | (at_builtin; refine wpList_append_span rfl _ _ rfl (w.heap.size + 2) _ (i ++ [(x, y)]) rfl (C3.out.below (HBW.out.trans (by (repeat (first | (with_reducible exact Below.refl _ _) | (with_reducible assumption) | ((with_reducible refine below_ext_trans ?_ ?_ _); rotate_left; focus (((try dsimp only); repeat (first | omega | simp only [World.size_alloc, World.size_setCell, World.size_drew] | (with_reducible refine le_ext_of ?_) | (with_reducible refine le_ext_add ?_))); done)) | ((with_reducible refine Below.alloc ?_ ?_ _); rotate_left; focus (((try dsimp only); repeat (first | omega | simp only [World.size_alloc, World.size_setCell, World.size_drew] | (with_reducible refine le_ext_of ?_) | (with_reducible refine le_ext_add ?_))); done)) | ((with_reducible refine Below.setCell ?_ ?_ _); rotate_left; focus (((try dsimp only); repeat (first | omega | simp only [World.size_alloc, World.size_setCell, World.size_drew] | (with_reducible refine le_ext_of ?_) | (with_reducible refine le_ext_add ?_))); done)) | (with_reducible refine Below.drew ?_)))))) (ext W' y0).heap.size (k : Int) (k : Int) rfl (by simp [go_sem]) (by simp [go_sem]) (by have := HL.out; omega) (by ((try dsimp only); repeat (first | omega | simp only [World.size_alloc, World.size_setCell, World.size_drew] | (with_reducible refine le_ext_of ?_) | (with_reducible refine le_ext_add ?_)))) ?_; intro v' w1 ho hg))
              obtain ⟨f1, f2, f3, f4, f5, f6, f7, f8⟩ := FIN.out v' n w1 (by rw [addMin_new _ _ _ _ HY.out]; exact ho) (grown_after (W := W') (by (repeat (first | (with_reducible exact Below.refl _ _) | (with_reducible assumption) | ((with_reducible refine below_ext_trans ?_ ?_ _); rotate_left; focus (((try dsimp only); repeat (first | omega | simp only [World.size_alloc, World.size_setCell, World.size_drew] | (with_reducible refine le_ext_of ?_) | (with_reducible refine le_ext_add ?_))); done)) | ((with_reducible refine Below.alloc ?_ ?_ _); rotate_left; focus (((try dsimp only); repeat (first | omega | simp only [World.size_alloc, World.size_setCell, World.size_drew] | (with_reducible refine le_ext_of ?_) | (with_reducible refine le_ext_add ?_))); done)) | ((with_reducible refine Below.setCell ?_ ?_ _); rotate_left; focus (((try dsimp only); repeat (first | omega | simp only [World.size_alloc, World.size_setCell, World.size_drew] | (with_reducible refine le_ext_of ?_) | (with_reducible refine le_ext_add ?_))); done)) | (with_reducible refine Below.drew ?_)))) hg)
              exact (show SureI h b B st co w _ _ ∧ sureM _ _ < sureM _ _ from ⟨⟨k + 1, wc.heap.size :: Ds, _, _, _, _, _, _, _, _, _, _, _, _, _, _, _, _, _, _, _, _, _, _, _, _, _, _, _, _, _, _, _, _, _, _, _, _, _, _, _, _, _, _, _, _, _, _, by omega, rfl, f1, f2, f3, f4, f5, f6, f7, f8⟩, by simp [sureM, intOf]; omega⟩)
        case hstop =>
          rintro D n1 c pre W' rfl hn hz hsp ⟨rfl, c1, c2⟩ hD
          have hok : onlyAt b st co k = false := by
            rw [HOK.out]
            have h1 := c1.out
            rw [List.all_eq_false] at h1 ⊢
            obtain ⟨x, hx1, hx2⟩ := h1
            exact ⟨x, hsp.subset hx1, hx2⟩
          have HOK2 := Lib.hid hok
          have CC2 := Lib.hid c2
          have HD := Lib.hid hD
          clear hok c1 c2 hD hsp hseq
          gi_wp2_with fail
          go_wp2_with fail
          have hz2 := CC2.out.size
          have hbw := HBEL.out.trans (CC2.out.mono hzc)
          refine (show SureI h b B st co w _ _ ∧ sureM _ _ < sureM _ _ from ⟨⟨k + 1, wc.heap.size :: Ds, _, _, _, _, _, _, _, _, _, _, _, _, _, _, _, _, _, _, _, _, _, _, _, _, _, _, _, _, _, _, _, _, _, _, _, _, _, _, _, _, _, _, _, _, _, _, by omega, rfl, (CC2.out.block _ HQ1.out.lt).trans HQ1.out, (CC2.out.block _ HQ2.out.lt).trans HQ2.out, ?_, HWC.out.trans (CC2.out.mono HWC.out.size), by omega, ?_, ?_, ?_⟩, ?_⟩)
          · rw [runsTo, HOK2.out]
            exact C3.out.below hbw
          · exact List.nodup_cons.2 ⟨fun hm => by have := (Array.getElem?_eq_some_iff.1 (D2.out _ hm)).1; omega, D1.out⟩
          · intro D hm
            rcases List.mem_cons.1 hm with rfl | hm
            · exact HD.out
            · exact (hbw.block D (Array.getElem?_eq_some_iff.1 (D2.out _ hm)).1).trans (D2.out D hm)
          · intro D hm
            rcases List.mem_cons.1 hm with rfl | hm
            · omega
            · exact D3.out D hm
          · simp [sureM, intOf]
            omega
    · obtain rfl : k = 1440 := by omega
      obtain ⟨p, q, rfl, hp⟩ := c3.at
      have HP := Lib.hid hp
      have D1 := Lib.hid d1
      have D2 := Lib.hid d2
      have D3 := Lib.hid d3
      have C3 := Lib.hid c3
      have C4 := Lib.hid c4
      clear c1 c2 hp d1 d2 d3 c3 c4
      go_wp2_with fail
      refine (show LeavesInM _ _ _ _ _ _ _ _ _ from leaves_coll Ds _ D1.out D2.out ?_)
      intro w' e1 e2 e3 e4 e5
      refine ⟨_, results_tmp rfl _ _ _, ?_⟩
      have hown : OwnSpans w' (w.heap.size + 2) (.slice p (runsTo (onlyAt b st co) 1440).length q) (runsTo (onlyAt b st co) 1440) := C3.out.kept (fun g hg => e5 g (fun hD => by
        obtain ⟨cur, t, hc⟩ := C3.out.cellsAt g hg
        rw [D2.out g hD] at hc
        cases hc))
      obtain ⟨p2, q2, h1, h2⟩ := hown.at
      simp only [Value.slice.injEq, true_and] at h1
      obtain ⟨rfl, rfl⟩ := h1
      refine ⟨p, q, rfl, h2, ext_of (C4.out.trans ⟨e1, e2, e3, Nat.le_of_eq e4.symm, fun k hk => e5 k (fun hD => by have := D3.out k hD; omega)⟩)⟩
end Go.Proofs.YtdmicngnbcdkdaaDoor

