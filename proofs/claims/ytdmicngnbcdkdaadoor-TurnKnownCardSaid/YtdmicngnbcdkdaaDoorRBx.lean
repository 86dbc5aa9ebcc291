/- The API on the chapter's books, by the answers. -/
/- The chapter's book asked: what is answered, reckoned; wrong questions. -/
/- Steps of TurnKnown: a span stored into a variable that the region makes; the tables. -/
import Derived.Test.YtdmicngnbcdkdaaDoorRVe
import Derived.Test.YtdmicngnbcdkdaaDoorRVi
import Derived.Test.YtdmicngnbcdkdaaDoorRYv
import Derived.Test.YtdmicngnbcdkdaaDoorRBb
set_option linter.unusedSimpArgs false
set_option linter.unusedVariables false
namespace Go.Proofs.YtdmicngnbcdkdaaDoor
open Go Go.RowKit

theorem Turn_e (h : Hd) (b : Bk) (m : Int) (lo hi : Nat) (w : World) (hb : BkAt w h b) (hv : bookB b = true) (hn : NB w) (hm0 : 0 ≤ m) (hm1 : m < 1440) (h1 : cnt (b.bs.map Prod.snd) m = lo) (h2 : cnt (b.bs.map Prod.fst) m = hi) :
    Calls Tryd.prog 15 #[.agg #[.int .i64 b.n, .slice h.pb b.bs.length h.cb, .slice h.po b.os.length h.co, .slice h.ps b.ss.length h.cs], .int .i64 m] w fun e w' => e = .returned (.tuple #[.agg #[.int .i64 lo, .int .i64 hi], .int .i64 0]) ∧ ∃ x, w' = ext w x :=
  (Turn_yes h b m w hb hv hn (isN_yes ⟨hm0, hm1⟩)).mono fun e w' ⟨he, hx⟩ => by
    have h4 := (bookB_bounds hv).1
    have e1 : cnt [kspec b.bs 2 0 4, kspec b.bs 2 0 5, kspec b.bs 2 0 6, kspec b.bs 2 0 7] m = lo := by
      have := cnt_tl (b.bs.map Prod.snd) (by simpa using h4) m hm1
      rw [← late_tl] at this
      exact this.trans h1
    have e2 : cnt [kspec b.bs 2 0 0, kspec b.bs 2 0 1, kspec b.bs 2 0 2, kspec b.bs 2 0 3] m = hi := by
      have := cnt_tl (b.bs.map Prod.fst) (by simpa using h4) m hm1
      rw [← soon_tl] at this
      exact this.trans h2
    rw [e1, e2] at he
    exact ⟨he, hx⟩
theorem Owners_e (h : Hd) (b : Bk) (st : Nat) (m : Int) (lo hi : Nat) (L : List Int) (n : Nat) (w : World) (hb : BkAt w h b) (hv : bookB b = true) (hn : NB w) (hst : st < b.os.length) (hm0 : 0 ≤ m) (hm1 : m < 1440) (h1 : cnt (b.bs.map Prod.snd) m = lo) (h2 : cnt (b.bs.map Prod.fst) m = hi) (hL : ownersL b st lo hi = L) (hln : L.length = n) :
    Calls Tryd.prog 16 #[.agg #[.int .i64 b.n, .slice h.pb b.bs.length h.cb, .slice h.po b.os.length h.co, .slice h.ps b.ss.length h.cs], .int .i64 st, .int .i64 m] w (OneList w L n) :=
  (Owners_yes h b st m w hb hv hn hst hm0 hm1).mono fun e w' ⟨p, c, he, hI, hx⟩ => by
    have h4 := (bookB_bounds hv).1
    have e1 : cnt (lateL b.bs) m = lo := by rw [late_tl, cnt_tl _ (by simpa using h4) m hm1, h1]
    have e2 : cnt (soonL b.bs) m = hi := by rw [soon_tl, cnt_tl _ (by simpa using h4) m hm1, h2]
    rw [e1, e2, hL] at he hI
    rw [hln] at he
    exact ⟨p, c, he, hI, hx⟩
theorem Fair_e (h : Hd) (b : Bk) (i st : Nat) (s : Shot) (K : Int) (w : World) (hb : BkAt w h b) (hv : bookB b = true) (hn : NB w) (hi : b.ss[i]? = some s) (hst : s.st = st) (hK : kindOf (fun t => ownf b.os st t == s.co) (seg (cnt (lateL b.bs) s.lo) (cnt (soonL b.bs) s.hi)) = K) :
    Calls Tryd.prog 22 #[.agg #[.int .i64 b.n, .slice h.pb b.bs.length h.cb, .slice h.po b.os.length h.co, .slice h.ps b.ss.length h.cs], .int .i64 i] w fun e w' => e = .returned (.tuple #[.int .i64 K, .int .i64 0]) ∧ ∃ x, w' = ext w x := by
  subst hK; exact Fair_yes h b i st s w hb hv hn hi hst
theorem Learn_e (h : Hd) (b : Bk) (k : Nat) (w : World) (hb : BkAt w h b) (hv : bookB b = true) (hn : NB w) (hcap : b.bs.length ≤ h.cb) (hne : b.bs ≠ []) (hk : learnN b = k) :
    Calls Tryd.prog 38 #[.agg #[.int .i64 b.n, .slice h.pb b.bs.length h.cb, .slice h.po b.os.length h.co, .slice h.ps b.ss.length h.cs]] w fun e w' => e = .returned (.tuple #[.int .i64 k, .int .i64 0]) ∧ ∃ x, w' = ext w x := by
  subst hk; exact Learn_yes h b w hb hv hn hcap hne
end Go.Proofs.YtdmicngnbcdkdaaDoor

namespace Go.Proofs.YtdmicngnbcdkdaaDoor
open Go Go.RowKit

theorem ask_turn (h : Hd) (w : World) (hb : BkAt w h ownW) : Calls Tryd.prog 15 #[bv h ownW, .int .i64 1440] w fun e w' => e = .returned (.tuple #[.agg #[.int .i64 0, .int .i64 0], .int .i64 21]) ∧ ∃ x, w' = ext w x :=
  Turn_err h ownW 1440 21 w (by decide) (OpenErr.ask hb own_ok (by decide))
theorem ask_owners1 (h : Hd) (w : World) (hb : BkAt w h ownW) : Calls Tryd.prog 16 #[bv h ownW, .int .i64 2, .int .i64 5] w fun e w' => e = .returned (.tuple #[.slice none 0 0, .int .i64 21]) ∧ ∃ x, w' = ext w x :=
  Owners_err h ownW 2 5 21 w (by decide) (OpenErr.ask hb own_ok (by decide))
theorem ask_owners2 (h : Hd) (w : World) (hb : BkAt w h ownW) : Calls Tryd.prog 16 #[bv h ownW, .int .i64 0, .int .i64 1440] w fun e w' => e = .returned (.tuple #[.slice none 0 0, .int .i64 21]) ∧ ∃ x, w' = ext w x :=
  Owners_err h ownW 0 1440 21 w (by decide) (OpenErr.ask hb own_ok (by decide))
theorem ask_fair (h : Hd) (w : World) (hb : BkAt w h ownW) (hn : NB w) : Calls Tryd.prog 22 #[bv h ownW, .int .i64 4] w fun e w' => e = .returned (.tuple #[.int .i64 0, .int .i64 21]) ∧ ∃ x, w' = ext w x :=
  Fair_ask h ownW 4 w hb own_ok (by decide) hn
theorem ask_hangs (h : Hd) (w : World) (hb : BkAt w h ownW) : Calls Tryd.prog 29 #[bv h ownW, .int .i64 (-1)] w fun e w' => e = .returned (.tuple #[.slice none 0 0, .int .i64 21]) ∧ ∃ x, w' = ext w x :=
  Hangs_err h ownW (-1) 21 w (by decide) (OpenErr.ask hb own_ok (by decide))
theorem ask_first1 (h : Hd) (w : World) (hb : BkAt w h ownW) : Calls Tryd.prog 37 #[bv h ownW, .int .i64 1, .int .i64 1] w fun e w' => e = .returned (.tuple #[.int .i64 0, .int .i64 21]) ∧ ∃ x, w' = ext w x :=
  First_err h ownW 1 1 21 w (by decide) (OpenErr.ask hb own_ok (by decide))
theorem ask_first2 (h : Hd) (w : World) (hb : BkAt w h ownW) : Calls Tryd.prog 37 #[bv h ownW, .int .i64 0, .int .i64 4] w fun e w' => e = .returned (.tuple #[.int .i64 0, .int .i64 21]) ∧ ∃ x, w' = ext w x :=
  First_err h ownW 0 4 21 w (by decide) (OpenErr.ask hb own_ok (by decide))
theorem ask_sure (h : Hd) (w : World) (hb : BkAt w h ownW) : Calls Tryd.prog 34 #[bv h ownW, .int .i64 0, .int .i64 3] w fun e w' => e = .returned (.tuple #[.slice none 0 0, .int .i64 21]) ∧ ∃ x, w' = ext w x :=
  Sure_err h ownW 0 3 21 w (by decide) (OpenErr.ask hb own_ok (by decide))

theorem own_owners1 (h : Hd) (w : World) (hb : BkAt w h ownW) (hn : NB w) : Calls Tryd.prog 16 #[bv h ownW, .int .i64 0, .int .i64 362] w (OneList w [0, 1] 2) :=
  Owners_e h ownW 0 362 0 1 [0, 1] 2 w hb own_ok hn (by decide) (by omega) (by omega) (by kernel_rfl) (by kernel_rfl) (by
    have e : (seg 0 1).map (fun t => ownf ownW.os 0 t) = [0, 1] := by kernel_rfl
    unfold ownersL
    rw [e]
    simp [List.mergeSort, List.MergeSort.Internal.splitInTwo, Lib.compact]
    decide) rfl
theorem own_owners2 (h : Hd) (w : World) (hb : BkAt w h ownW) (hn : NB w) : Calls Tryd.prog 16 #[bv h ownW, .int .i64 1, .int .i64 400] w (OneList w [2] 1) :=
  Owners_e h ownW 1 400 1 1 [2] 1 w hb own_ok hn (by decide) (by omega) (by omega) (by kernel_rfl) (by kernel_rfl) (by
    have e : (seg 1 1).map (fun t => ownf ownW.os 1 t) = [2] := by kernel_rfl
    unfold ownersL
    rw [e]
    simp [List.mergeSort, List.MergeSort.Internal.splitInTwo, Lib.compact]
    decide) rfl
theorem own_hangs0 (h : Hd) (w : World) (hb : BkAt w h ownW) (hn : NB w) : Calls Tryd.prog 29 #[bv h ownW, .int .i64 0] w (OneList w [0] 1) :=
  (Hangs_yes h ownW 0 0 ⟨0, 1, 362, 366⟩ w hb own_ok hn rfl rfl).mono fun e w' ⟨p, c, he, hI, hx⟩ => by
    have v : hangsTo ownW 0 ⟨0, 1, 362, 366⟩ ownW.bs.length = [0] := by kernel_rfl
    rw [v] at he hI
    exact ⟨p, c, he, hI, hx⟩
theorem own_hangs1 (h : Hd) (w : World) (hb : BkAt w h ownW) (hn : NB w) : Calls Tryd.prog 29 #[bv h ownW, .int .i64 1] w (OneList w [] 0) :=
  (Hangs_yes h ownW 1 1 ⟨1, 2, 400, 400⟩ w hb own_ok hn rfl rfl).mono fun e w' ⟨p, c, he, hI, hx⟩ => by
    have v : hangsTo ownW 1 ⟨1, 2, 400, 400⟩ ownW.bs.length = [] := by kernel_rfl
    rw [v] at he hI
    exact ⟨p, c, he, hI, hx⟩
theorem own_sure (h : Hd) (w : World) (hb : BkAt w h ownW) (hn : NB w) : Calls Tryd.prog 34 #[bv h ownW, .int .i64 1, .int .i64 0] w fun e w' => ∃ p c, e = .returned (.tuple #[.slice p 1 c, .int .i64 0]) ∧ SpansAt w' p [(545, 1439)] ∧ ∃ x, w' = ext w x :=
  (Sure_yes h ownW 1 0 w hb own_ok hn (by decide) (by omega) (by decide)).mono fun e w' ⟨p, c, he, hI, hx⟩ => by
    have v : runsTo (onlyAt ownW 1 0) 1440 = [(545, 1439)] := by kernel_rfl
    rw [v] at he hI
    exact ⟨p, c, he, hI, hx⟩
theorem own_wrong (h : Hd) (w : World) (hb : BkAt w h ownW) (hn : NB w) : Calls Tryd.prog 21 #[bv h ownW] w (OneList w [] 0) :=
  (Wrong_yes h ownW w hb own_ok hn).mono fun e w' ⟨p, c, he, hI, hx⟩ => by
    have v : wrongL ownW = [] := by kernel_rfl
    rw [v] at he hI
    exact ⟨p, c, he, hI, hx⟩
theorem own_learn (h : Hd) (w : World) (hb : BkAt w h ownW) (hn : NB w) (hc : ownW.bs.length ≤ h.cb) : Calls Tryd.prog 38 #[bv h ownW] w fun e w' => e = .returned (.tuple #[.int .i64 0, .int .i64 0]) ∧ ∃ x, w' = ext w x :=
  Learn_e h ownW 0 w hb own_ok hn hc (by simp [bookW]) (by kernel_rfl)
theorem own_first1 (h : Hd) (w : World) (hb : BkAt w h ownW) (hn : NB w) : Calls Tryd.prog 37 #[bv h ownW, .int .i64 0, .int .i64 2] w fun e w' => e = .returned (.tuple #[.int .i64 0, .int .i64 0]) ∧ ∃ x, w' = ext w x :=
  (First_yes h ownW 0 2 ⟨0, 1, 362, 366⟩ ⟨0, 0, 359, 359⟩ w hb own_ok hn rfl rfl (by omega)).mono fun e w' ⟨he, hx⟩ => by
    have v : befores (362, 366) (359, 359) = 0 := by kernel_rfl
    rw [v] at he
    exact ⟨he, hx⟩
theorem own_first2 (h : Hd) (w : World) (hb : BkAt w h ownW) (hn : NB w) : Calls Tryd.prog 37 #[bv h ownW, .int .i64 0, .int .i64 3] w fun e w' => e = .returned (.tuple #[.int .i64 2, .int .i64 0]) ∧ ∃ x, w' = ext w x :=
  (First_yes h ownW 0 3 ⟨0, 1, 362, 366⟩ ⟨1, 0, 541, 543⟩ w hb own_ok hn rfl rfl (by omega)).mono fun e w' ⟨he, hx⟩ => by
    have v : befores (362, 366) (541, 543) = 2 := by kernel_rfl
    rw [v] at he
    exact ⟨he, hx⟩
/-- The turns of the table, and the kinds. -/
def turnRow : Nat → Int × Nat × Nat
  | 0 => (359, 0, 0) | 1 => (364, 1, 1) | 2 => (541, 1, 2) | 3 => (0, 0, 0) | 4 => (1439, 2, 2) | 5 => (360, 0, 1) | 6 => (539, 1, 1) | 7 => (545, 2, 2) | _ => (0, 0, 0)
theorem own_turns (k : Nat) (hk : k < 8) (h : Hd) (w : World) (hb : BkAt w h ownW) (hn : NB w) : Calls Tryd.prog 15 #[bv h ownW, .int .i64 (turnRow k).1] w fun e w' => e = .returned (.tuple #[.agg #[.int .i64 (turnRow k).2.1, .int .i64 (turnRow k).2.2], .int .i64 0]) ∧ ∃ x, w' = ext w x := by
  rcases (show k = 0 ∨ k = 1 ∨ k = 2 ∨ k = 3 ∨ k = 4 ∨ k = 5 ∨ k = 6 ∨ k = 7 by omega) with rfl | rfl | rfl | rfl | rfl | rfl | rfl | rfl
  all_goals exact Turn_e h ownW _ _ _ w hb own_ok hn (by decide) (by decide) (by kernel_rfl) (by kernel_rfl)
def kindRow : Nat → Int
  | 0 => 1 | 1 => 2 | 2 => 2 | 3 => 1 | _ => 0
theorem torn_kinds (k : Nat) (hk : k < 5) (h : Hd) (w : World) (hb : BkAt w h tornW) (hn : NB w) : Calls Tryd.prog 22 #[bv h tornW, .int .i64 k] w fun e w' => e = .returned (.tuple #[.int .i64 (kindRow k), .int .i64 0]) ∧ ∃ x, w' = ext w x := by
  rcases (show k = 0 ∨ k = 1 ∨ k = 2 ∨ k = 3 ∨ k = 4 by omega) with rfl | rfl | rfl | rfl | rfl
  · exact Fair_e h tornW 0 0 ⟨0, 1, 362, 366⟩ 1 w hb torn_ok hn rfl rfl (by kernel_rfl)
  · exact Fair_e h tornW 1 1 ⟨1, 2, 400, 400⟩ 2 w hb torn_ok hn rfl rfl (by kernel_rfl)
  · exact Fair_e h tornW 2 0 ⟨0, 0, 359, 359⟩ 2 w hb torn_ok hn rfl rfl (by kernel_rfl)
  · exact Fair_e h tornW 3 1 ⟨1, 0, 541, 543⟩ 1 w hb torn_ok hn rfl rfl (by kernel_rfl)
  · exact Fair_e h tornW 4 0 ⟨0, 0, 366, 366⟩ 0 w hb torn_ok hn rfl rfl (by kernel_rfl)
def bareW : Bk := { n := 1, bs := [], os := [[0]], ss := [] }
theorem bare_ok : bookB bareW = true := by kernel_rfl
theorem bare_sure (h : Hd) (w : World) (hb : BkAt w h bareW) (hn : NB w) : Calls Tryd.prog 34 #[bv h bareW, .int .i64 0, .int .i64 0] w fun e w' => ∃ p c, e = .returned (.tuple #[.slice p 1 c, .int .i64 0]) ∧ SpansAt w' p [(0, 1439)] ∧ ∃ x, w' = ext w x :=
  (Sure_yes h bareW 0 0 w hb bare_ok hn (by decide) (by omega) (by decide)).mono fun e w' ⟨p, c, he, hI, hx⟩ => by
    have v : runsTo (onlyAt bareW 0 0) 1440 = [(0, 1439)] := by kernel_rfl
    rw [v] at he hI
    exact ⟨p, c, he, hI, hx⟩
theorem bare_learn (h : Hd) (w : World) (hb : BkAt w h bareW) (hn : NB w) : Calls Tryd.prog 38 #[bv h bareW] w fun e w' => e = .returned (.tuple #[.int .i64 0, .int .i64 4]) ∧ ∃ x, w' = ext w x :=
  Learn_none h bareW w hb bare_ok hn rfl
end Go.Proofs.YtdmicngnbcdkdaaDoor

namespace Go.Proofs.YtdmicngnbcdkdaaDoor
open Go Go.RowKit

theorem run_alloc_span {o : Oper} {w : World} (ρ : Operand → Value) (hop : o.op = .alloc 33) :
    (execOp ρ o).run Tryd.prog w = .ok (.value (.pointer (some ⟨w.heap.size, 0, none⟩))) (w.alloc (.cells #[.int .i64 0, .int .i64 0] 33)) := by
  unfold execOp
  simp [hop, go_sem]
theorem st_store_span {ops : Array Oper} {Q : Exit → Act → World → Prop} {i : Nat} {o : Oper} {K : Act → World → Prop} {a : Act} {w : World} {s t g : Nat} {x y : Int} {v0 v1 : Value} (h : ops[i]? = some o) (hw : Region.wanted o (yielded ops a.tmps) = true) (hop : o.op = .store 33 (.tmp s) (.tmp t)) (hd : o.dst = none)
    (hs : a.tmps.getD s undef = .pointer (some ⟨g, 0, none⟩)) (ht : a.tmps.getD t undef = .agg #[.int .i64 x, .int .i64 y]) (k : Blk w g 33 #[v0, v1])
    (hK : ∀ w', (∀ B, B ≤ g → Below B w w') → Blk w' g 33 #[.int .i64 x, .int .i64 y] → K a w') : wpOp Tryd.prog ops Q i K a w := by
  refine wpOp_want h hw ?_
  refine wp_store_mid 33 _ _ hop g 0 _ hs ht ?_ (by kernel_rfl) (by kernel_rfl) ?_
  · intro j hj
    rw [Nat.zero_add, k.cell, k.frozen]
    have hj' : j < (#[v0, v1] : Array Value).size := hj
    exact ⟨by rw [Array.getElem?_eq_getElem hj']; rfl, rfl⟩
  · rw [hd]
    refine hK _ (fun B hB => below_setCells hB _ _ _ _ (Below.refl _ _)) ?_
    have h2 : Blk ((w.setCell ⟨g, 0, none⟩ (.int .i64 x)).setCell ⟨g, 1, none⟩ (.int .i64 y)) g 33 #[.int .i64 x, .int .i64 y] := by simpa using (k.set 0 (.int .i64 x)).set 1 (.int .i64 y)
    exact h2
/-- The table of turns. -/
def turnCells : Array Value := #[.int .i64 359, .int .i64 0, .int .i64 0, .int .i64 364, .int .i64 1, .int .i64 1, .int .i64 541, .int .i64 1, .int .i64 2, .int .i64 0, .int .i64 0, .int .i64 0, .int .i64 1439, .int .i64 2, .int .i64 2, .int .i64 360, .int .i64 0, .int .i64 1, .int .i64 539, .int .i64 1, .int .i64 1, .int .i64 545, .int .i64 2, .int .i64 2]
theorem turnCells_at (k : Nat) (hk : k < 8) : turnCells[k * 3]? = some (.int .i64 (turnRow k).1) ∧ turnCells[k * 3 + 1]? = some (.int .i64 (turnRow k).2.1) ∧ turnCells[k * 3 + 2]? = some (.int .i64 (turnRow k).2.2) := by
  rcases (show k = 0 ∨ k = 1 ∨ k = 2 ∨ k = 3 ∨ k = 4 ∨ k = 5 ∨ k = 6 ∨ k = 7 by omega) with rfl | rfl | rfl | rfl | rfl | rfl | rfl | rfl <;> exact ⟨rfl, rfl, rfl⟩
def kindCells : Array Value := #[.int .i64 1, .int .i64 2, .int .i64 2, .int .i64 1, .int .i64 0]
theorem kindCells_at (k : Nat) (hk : k < 5) : kindCells[k]? = some (.int .i64 (kindRow k)) := by
  rcases (show k = 0 ∨ k = 1 ∨ k = 2 ∨ k = 3 ∨ k = 4 by omega) with rfl | rfl | rfl | rfl | rfl <;> rfl
theorem run_row3 {o : Oper} {w : World} {g s u k : Nat} (ρ : Operand → Value) (hop : o.op = .indexAddr 76 (.tmp s) (.tmp u)) (h1 : ρ (.tmp s) = .slice (some ⟨g, 0, none⟩) 8 8) (h2 : ρ (.tmp u) = .int .i64 k) (hk : k < 8) (hl : g < w.heap.size) :
    (execOp ρ o).run Tryd.prog w = .ok (.value (.pointer (some ⟨g, k * 3, none⟩))) w := by
  have k0 : (0 : Int) ≤ (k : Int) := by omega
  have k1 : (k : Int) < 8 := by omega
  unfold execOp
  simp [hop, h1, h2, go_sem, hl, k0, k1]
theorem run_col0 {o : Oper} {w : World} {g j s : Nat} (ρ : Operand → Value) (hop : o.op = .indexAddr 63 (.tmp s) (.const (.int .i64 0))) (hs : ρ (.tmp s) = .pointer (some ⟨g, j, none⟩)) (hl : g < w.heap.size) (hc : ρ (.const (.int .i64 0)) = .int .i64 0 := by rfl) :
    (execOp ρ o).run Tryd.prog w = .ok (.value (.pointer (some ⟨g, j, none⟩))) w := by
  unfold execOp
  simp [hop, hs, hc, go_sem, hl]
/-- What the operations leave by which a minute of the table is asked for. -/
def tabR (W0 g35 k : Nat) (m lo hi : Int) (f : Bool) (i : Nat) (u : Value) (w : World) : Prop :=
  match i with
  | 0 => ∃ h, u = bv h ownW ∧ (f = false → BkAt w h ownW)
  | 1 => u = .slice (some ⟨g35, 0, none⟩) 8 8
  | 2 => u = .int .i64 k
  | 3 => u = .pointer (some ⟨g35, k * 3, none⟩)
  | 4 => u = .pointer (some ⟨g35, k * 3, none⟩)
  | 5 => u = .int .i64 m
  | 6 => u = .tuple #[.agg #[.int .i64 lo, .int .i64 hi], .int .i64 0]
  | 7 => u = .tuple #[.agg #[.int .i64 lo, .int .i64 hi], .int .i64 0]
  | 8 => u = .agg #[.int .i64 lo, .int .i64 hi]
  | 9 => u = .int .i64 0
  | 10 => ∃ g : Nat, u = .pointer (some ⟨g, 0, none⟩) ∧ W0 ≤ g ∧ ∃ v0 v1, Blk w g 33 #[v0, v1] ∧ (f = true → v0 = .int .i64 lo ∧ v1 = .int .i64 hi)
  | _ => True
theorem tabR_kept (W0 g35 k : Nat) (m lo hi : Int) : ∀ (f : Bool) (i : Nat), i < 12 → i ≠ 11 → ∀ (u : Value) (w w' : World), tabR W0 g35 k m lo hi f i u w → Below w.heap.size w w' → tabR W0 g35 k m lo hi f i u w' := by
  intro f i hi hik u w w' h hb
  rcases (show i = 0 ∨ i = 1 ∨ i = 2 ∨ i = 3 ∨ i = 4 ∨ i = 5 ∨ i = 6 ∨ i = 7 ∨ i = 8 ∨ i = 9 ∨ i = 10 by omega) with hi0 | hi0 | hi0 | hi0 | hi0 | hi0 | hi0 | hi0 | hi0 | hi0 | hi0
  all_goals subst hi0
  all_goals first
    | exact h
    | (obtain ⟨g, h1, h2, v0, v1, h3, h4⟩ := h; exact ⟨g, h1, h2, v0, v1, h3.bel hb, h4⟩)
    | (obtain ⟨h9, h1, h2⟩ := h; exact ⟨h9, h1, fun hf => (h2 hf).below hb⟩)

theorem same_num (p q : Option Addr) (c d : Nat) (l : List Int) (n : Nat) (w : World) (hl : IntsAt w p l) (hm : IntsAt w q l) (hn : l.length = n) (hb : (l.length : Int) ≤ 1000) :
    Calls Tryd.prog 36 #[.slice p n c, .slice q n d] w fun e w' => e = .returned (.bool true) ∧ ∃ x, w' = ext w x := by
  subst hn
  exact (Same_any p q c d l l w hl hm hb hb).mono fun e w' ⟨he, hx⟩ => ⟨by rw [he]; simp, hx⟩
theorem sameSpans_num (p q : Option Addr) (c d : Nat) (l : List (Int × Int)) (n : Nat) (w : World) (hl : SpansAt w p l) (hm : SpansAt w q l) (hn : l.length = n) (hb : (l.length : Int) ≤ 1000) :
    Calls Tryd.prog 45 #[.slice p n c, .slice q n d] w fun e w' => e = .returned (.bool true) ∧ ∃ x, w' = ext w x := by
  subst hn
  exact (SameSpans_any p q c d l l w hl hm hb hb).mono fun e w' ⟨he, hx⟩ => ⟨by rw [he]; simp, hx⟩
theorem bare_at {w : World} {g1 g2 : Nat} (k1 : Blk w g1 3 #[.int .i64 0]) (k2 : Blk w g2 28 #[.slice (some ⟨g1, 0, none⟩) 1 1]) : BkAt w ⟨none, 0, some ⟨g2, 0, none⟩, 1, none, 0⟩ bareW where
  bs := fun i s hs => by simp [bareW] at hs
  os := fun i r hr => by
    match i, hr with
    | 0, hr => simp [bareW] at hr; subst hr; exact ⟨g2, 0, rfl, k2.lt, _, _, by rw [k2.cell]; rfl, ints_of_blk k1 rfl (by decide)⟩
    | i + 1, hr => simp [bareW] at hr
  ss := fun i s hs => by simp [bareW] at hs
theorem bare_sure' (c : Nat) (p : Option Addr) (w : World) (hb : BkAt w ⟨none, 0, p, c, none, 0⟩ bareW) (hn : NB w) : Calls Tryd.prog 34 #[.agg #[.int .i64 1, .slice none 0 0, .slice p 1 c, .slice none 0 0], .int .i64 0, .int .i64 0] w fun e w' => ∃ p c, e = .returned (.tuple #[.slice p 1 c, .int .i64 0]) ∧ SpansAt w' p [(0, 1439)] ∧ ∃ x, w' = ext w x := by
  have h := bare_sure _ w hb hn
  have e : bv ⟨none, 0, p, c, none, 0⟩ bareW = .agg #[.int .i64 1, .slice none 0 0, .slice p 1 c, .slice none 0 0] := rfl
  rw [e] at h
  exact h
theorem bare_learn' (c : Nat) (p : Option Addr) (w : World) (hb : BkAt w ⟨none, 0, p, c, none, 0⟩ bareW) (hn : NB w) : Calls Tryd.prog 38 #[.agg #[.int .i64 1, .slice none 0 0, .slice p 1 c, .slice none 0 0]] w fun e w' => e = .returned (.tuple #[.int .i64 0, .int .i64 4]) ∧ ∃ x, w' = ext w x := by
  have h := bare_learn _ w hb hn
  have e : bv ⟨none, 0, p, c, none, 0⟩ bareW = .agg #[.int .i64 1, .slice none 0 0, .slice p 1 c, .slice none 0 0] := rfl
  rw [e] at h
  exact h
end Go.Proofs.YtdmicngnbcdkdaaDoor

