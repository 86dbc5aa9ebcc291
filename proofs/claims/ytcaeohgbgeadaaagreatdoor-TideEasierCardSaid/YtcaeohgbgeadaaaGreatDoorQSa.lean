/- Contracts of the leaves of package seine: what makes a number, a span valid; what a state becomes. -/
/- Contracts of package seine: the least of two numbers, what is lost, a note's form. -/
/- For package seine: blocks of cells, numbers in memory (as Tf, Tb, Td, Wb have them for package turn; a law that reaches both packages needs them once). -/
import Derived.Test.YtcaeohgbgeadaaaGreatDoorQExt
import Derived.Test.YtcaeohgbgeadaaaGreatDoorProg
import Derived.Deep.CutBlock
import Derived.Deep.DeepCutAuto
import Derived.Maps.Views
import Derived.Maps.OwnIn
set_option linter.unusedSimpArgs false
set_option linter.unusedVariables false
namespace Go.Proofs.YtcaeohgbgeadaaaGreatDoor
open Go Go.RowKit

/-- Is a number from 0 to a greatest one? -/
def inB (a m : Int) : Bool := decide (0 ≤ a ∧ a ≤ m)
theorem inB_yes {a m : Int} (h : 0 ≤ a ∧ a ≤ m) : inB a m = true := by simp [inB, h]
theorem inB_no {a m : Int} (h : ¬ (0 ≤ a ∧ a ≤ m)) : inB a m = false := by simp only [inB, decide_eq_false_iff_not]; exact h
theorem of_inB {a m : Int} (h : inB a m = true) : 0 ≤ a ∧ a ≤ m := by simpa [inB] using h
theorem of_inB_false {a m : Int} (h : inB a m = false) : ¬ (0 ≤ a ∧ a ≤ m) := by simpa only [inB, decide_eq_false_iff_not] using h
theorem inB_and (a m : Int) : (decide (0 ≤ a) && decide (a ≤ m)) = inB a m := by simp [inB, Bool.decide_and]
theorem isWithin_any (a m : Int) (w : World) : Calls Tryz.prog 134 #[.int .i64 a, .int .i64 m] w fun e w' => e = .returned (.bool (inB a m)) ∧ w = w' := by
  rw [← inB_and]
  by_cases h : 0 ≤ a
  · go_enter Tryz.func134, Tryz.ntmps134
    go_wp2
    go_ret
    exact ⟨by simp; omega, rfl⟩
  · have h' : decide (0 ≤ a) = false := by simpa using h
    go_enter Tryz.func134, Tryz.ntmps134
    go_wp2
    go_ret
    exact ⟨by simp, rfl⟩
theorem isHour_any (a : Int) (w : World) : Calls Tryz.prog 94 #[.int .i64 a] w fun e w' => e = .returned (.bool (inB a 60)) ∧ w = w' := by
  go_enter Tryz.func94, Tryz.ntmps94
  go_wp2_with (go_at_call 134; refine (isWithin_any _ _ _).mono ?_; rintro e w' ⟨rfl, rfl⟩)
  go_ret
  exact ⟨rfl, rfl⟩
/-- Is a span within a limit? -/
def SpanOK (a b m : Int) : Prop := 0 ≤ a ∧ a ≤ m ∧ 0 ≤ b ∧ b ≤ m ∧ a ≤ b ∧ b - a ≤ 12
def spanB (a b m : Int) : Bool := inB a m && inB b m && decide (a ≤ b) && decide (b - a ≤ 12)
theorem spanB_iff {a b m : Int} : spanB a b m = true ↔ SpanOK a b m := by
  unfold spanB SpanOK inB
  simp only [Bool.and_eq_true, decide_eq_true_eq]
  constructor
  · rintro ⟨⟨⟨⟨h1, h2⟩, h3, h4⟩, h5⟩, h6⟩; exact ⟨h1, h2, h3, h4, h5, h6⟩
  · rintro ⟨h1, h2, h3, h4, h5, h6⟩; exact ⟨⟨⟨⟨h1, h2⟩, h3, h4⟩, h5⟩, h6⟩
theorem validSpan_any (a b m : Int) (w : World) (hm : m ≤ 1000000) : Calls Tryz.prog 138 #[.agg #[.int .i64 a, .int .i64 b], .int .i64 m] w fun e w' => e = .returned (.bool (spanB a b m)) ∧ ∃ x, w' = ext w x := by
  unfold spanB
  cases h1 : inB a m
  · have H := Lib.hid h1
    clear h1
    go_enter Tryz.func138, Tryz.ntmps138
    go_wp2_with (go_at_call 134; refine (isWithin_any _ _ _).mono ?_; rintro e w' ⟨rfl, rfl⟩; rw [H.out])
    go_ret
    exact ⟨rfl, by (exact ext_of (by (exact belA)))⟩
  · cases h2 : inB b m
    · have H := Lib.hid h1
      have H2 := Lib.hid h2
      clear h1 h2
      go_enter Tryz.func138, Tryz.ntmps138
      go_wp2_with (go_at_call 134; refine (isWithin_any _ _ _).mono ?_; rintro e w' ⟨rfl, rfl⟩; first | rw [H.out] | rw [H2.out])
      go_ret
      exact ⟨rfl, by (exact ext_of (by (exact belA)))⟩
    · have g1 := of_inB h1
      have g2 := of_inB h2
      have H := Lib.hid h1
      have H2 := Lib.hid h2
      clear h1 h2
      by_cases h3 : a ≤ b
      · have h3' : decide (a ≤ b) = true := by simpa using h3
        go_enter Tryz.func138, Tryz.ntmps138
        go_wp2_with (go_at_call 134; refine (isWithin_any _ _ _).mono ?_; rintro e w' ⟨rfl, rfl⟩; first | rw [H.out] | rw [H2.out])
        go_ret
        exact ⟨by simp; omega, by (exact ext_of (by (exact belA)))⟩
      · have h3' : decide (a ≤ b) = false := by simpa using h3
        go_enter Tryz.func138, Tryz.ntmps138
        go_wp2_with (go_at_call 134; refine (isWithin_any _ _ _).mono ?_; rintro e w' ⟨rfl, rfl⟩; first | rw [H.out] | rw [H2.out])
        go_ret
        exact ⟨by simp; omega, by (exact ext_of (by (exact belA)))⟩
theorem take_any (h r m : Int) (w : World) (h0 : 0 ≤ h ∧ h ≤ 100000) (m0 : 0 ≤ m ∧ m ≤ 100000) : Calls Tryz.prog 188 #[.agg #[.int .i64 h, .int .i64 r], .int .i64 m] w fun e w' => e = .returned (.agg #[.int .i64 (h - m), .int .i64 r]) ∧ ∃ x, w' = ext w x := by
  go_enter Tryz.func188, Tryz.ntmps188
  go_wp2
  refine bodyPost_ret (v := .agg #[.int .i64 (h - m), .int .i64 r]) (by simp [results, Tryz.results188, go_sem]) rfl ⟨rfl, by (exact ext_of (by (exact belA)))⟩
theorem tear_any (h r m : Int) (w : World) (h0 : 0 ≤ r ∧ r ≤ 100000) (m0 : 0 ≤ m ∧ m ≤ 100000) : Calls Tryz.prog 189 #[.agg #[.int .i64 h, .int .i64 r], .int .i64 m] w fun e w' => e = .returned (.agg #[.int .i64 h, .int .i64 (r + m)]) ∧ ∃ x, w' = ext w x := by
  go_enter Tryz.func189, Tryz.ntmps189
  go_wp2
  refine bodyPost_ret (v := .agg #[.int .i64 h, .int .i64 (r + m)]) (by simp [results, Tryz.results189, go_sem]) rfl ⟨rfl, by (exact ext_of (by (exact belA)))⟩
theorem mend_any (h r m : Int) (w : World) : Calls Tryz.prog 190 #[.agg #[.int .i64 h, .int .i64 r], .int .i64 m] w fun e w' => e = .returned (.agg #[.int .i64 h, .int .i64 0]) ∧ ∃ x, w' = ext w x := by
  go_enter Tryz.func190, Tryz.ntmps190
  go_wp2
  refine bodyPost_ret (v := .agg #[.int .i64 h, .int .i64 0]) (by simp [results, Tryz.results190, go_sem]) rfl ⟨rfl, by (exact ext_of (by (exact belA)))⟩
theorem keep_any (h r m : Int) (w : World) : Calls Tryz.prog 191 #[.agg #[.int .i64 h, .int .i64 r], .int .i64 m] w fun e w' => e = .returned (.agg #[.int .i64 h, .int .i64 r]) ∧ ∃ x, w' = ext w x := by
  go_enter Tryz.func191, Tryz.ntmps191
  go_wp2
  refine bodyPost_ret (v := .agg #[.int .i64 h, .int .i64 r]) (by simp [results, Tryz.results191, go_sem]) rfl ⟨rfl, by (exact ext_of (by (exact belA)))⟩
end Go.Proofs.YtcaeohgbgeadaaaGreatDoor

namespace Go.Proofs.YtcaeohgbgeadaaaGreatDoor
open Go Go.RowKit

theorem frozen_alloc_lt (w : World) (o : Obj) (a : Addr) (h : a.block < w.heap.size) : (w.alloc o).frozen? a = w.frozen? a := World.frozen?_alloc_old _ _ _ (Nat.ne_of_lt h)
attribute [local go_sem] frozen_alloc_lt

/-- The package's table lies where it was laid. -/
structure MM (w : World) : Prop where
  sz : 0 < w.heap.size
  g0 : w.cell? ⟨0, 0, none⟩ = some (.int .i64 400)
  g1 : w.cell? ⟨0, 1, none⟩ = some (.int .i64 9)
  g2 : w.cell? ⟨0, 2, none⟩ = some (.int .i64 0)
  g3 : w.cell? ⟨0, 3, none⟩ = some (.int .i64 400)
  g4 : w.cell? ⟨0, 4, none⟩ = some (.int .i64 400)
theorem MM.below {w w' : World} (h : MM w) (hb : Below w.heap.size w w') : MM w' := by
  obtain ⟨sz, g0, g1, g2, g3, g4⟩ := h
  refine ⟨Nat.lt_of_lt_of_le sz hb.size, ?_, ?_, ?_, ?_, ?_⟩
  · rw [hb.cell (p := ⟨0, 0, none⟩) sz]; exact g0
  · rw [hb.cell (p := ⟨0, 1, none⟩) sz]; exact g1
  · rw [hb.cell (p := ⟨0, 2, none⟩) sz]; exact g2
  · rw [hb.cell (p := ⟨0, 3, none⟩) sz]; exact g3
  · rw [hb.cell (p := ⟨0, 4, none⟩) sz]; exact g4
/-- The greatest number that a note of a kind can have. -/
def mostOf (k : Int) : Int := if k = 1 then 9 else if k = 2 then 0 else 400
def noteB (k h lo hi : Int) : Bool := inB k 4 && inB h 60 && spanB lo hi (mostOf k)
theorem inB_eq (a m : Int) (q : Bool) (w : World) (hq : inB a m = q) : Calls Tryz.prog 134 #[.int .i64 a, .int .i64 m] w fun e w' => e = .returned (.bool q) ∧ w = w' := by
  subst hq; exact isWithin_any a m w
theorem isHour_eq (a : Int) (q : Bool) (w : World) (hq : inB a 60 = q) : Calls Tryz.prog 94 #[.int .i64 a] w fun e w' => e = .returned (.bool q) ∧ w = w' := by
  subst hq; exact isHour_any a w
theorem validSpan_eq (a b m : Int) (q : Bool) (w : World) (hm : m ≤ 1000000) (hq : spanB a b m = q) : Calls Tryz.prog 138 #[.agg #[.int .i64 a, .int .i64 b], .int .i64 m] w fun e w' => e = .returned (.bool q) ∧ ∃ x, w' = ext w x := by
  subst hq; exact validSpan_any a b m w hm
theorem quiet_same {f : FuncId} {args : Array Value} {w : World} {x} {v : Value}
    (h : Calls Tryz.prog f args (ext w x) fun e w' => e = .returned v ∧ ext w x = w') : Calls Tryz.prog f args (ext w x) fun e w'' => e = .returned v ∧ ∃ z, w'' = ext w z :=
  h.mono fun _ _ ⟨he, hy⟩ => ⟨he, x, hy.symm⟩
set_option maxHeartbeats 1000000 in
theorem validNote_any (k h lo hi : Int) (w : World) (hm : MM w) : Calls Tryz.prog 96 #[.agg #[.int .i64 k, .int .i64 h, .int .i64 lo, .int .i64 hi]] w fun e w' => e = .returned (.bool (noteB k h lo hi)) ∧ ∃ x, w' = ext w x := by
  obtain ⟨sz, g0, g1, g2, g3, g4⟩ := hm
  unfold noteB
  cases h1 : inB k 4
  · have H := Lib.hid h1
    clear h1
    go_enter Tryz.func96, Tryz.ntmps96
    go_upto_region 1 with fail
    refine wp_region_ext (by kernel_rfl) (by kernel_rfl) ?_
    repeat (go_big_quiet_step (fail))
    go_big_quiet_step ((go_at_call 134; exact quiet_same (inB_eq _ _ _ _ H.out)))
    repeat (go_big_quiet_step (fail))
    (refine wpQuiet_nil ?_; rintro _ ⟨x, rfl⟩)
    go_wp2_with fail
    go_ret
    exact ⟨rfl, by (exact ext_of (by (exact belA)))⟩
  · have g := of_inB h1
    have H := Lib.hid h1
    clear h1
    cases h2 : inB h 60
    · have H2 := Lib.hid h2
      clear h2
      go_enter Tryz.func96, Tryz.ntmps96
      go_upto_region 1 with fail
      refine wp_region_ext (by kernel_rfl) (by kernel_rfl) ?_
      repeat (go_big_quiet_step (fail))
      go_big_quiet_step ((go_at_call 134; exact quiet_same (inB_eq _ _ _ _ H.out)))
      repeat (go_big_quiet_step (fail))
      go_big_quiet_step ((go_at_call 94; exact quiet_same (isHour_eq _ _ _ H2.out)))
      repeat (go_big_quiet_step (fail))
      (refine wpQuiet_nil ?_; rintro _ ⟨x, rfl⟩)
      go_wp2_with fail
      go_ret
      exact ⟨rfl, by (exact ext_of (by (exact belA)))⟩
    · have H2 := Lib.hid h2
      clear h2
      obtain ⟨q, hq⟩ : ∃ q, spanB lo hi (mostOf k) = q := ⟨_, rfl⟩
      rw [hq]
      rcases (show k = 0 ∨ k = 1 ∨ k = 2 ∨ k = 3 ∨ k = 4 by omega) with rfl | rfl | rfl | rfl | rfl
      all_goals
        have H3 := Lib.hid hq
        clear hq g
        go_enter Tryz.func96, Tryz.ntmps96
        go_upto_region 1 with fail
        refine wp_region_ext (by kernel_rfl) (by kernel_rfl) ?_
        repeat (go_big_quiet_step (fail))
        go_big_quiet_step ((go_at_call 134; exact quiet_same (inB_eq _ _ _ _ H.out)))
        repeat (go_big_quiet_step (fail))
        go_big_quiet_step ((go_at_call 94; exact quiet_same (isHour_eq _ _ _ H2.out)))
        repeat (go_big_quiet_step (fail))
        go_big_quiet_step ((go_at_call 138; exact quiet_ext (validSpan_eq lo hi _ q _ (by decide) H3.out)))
        repeat (go_big_quiet_step (fail))
        (refine wpQuiet_nil ?_; rintro _ ⟨x, rfl⟩)
        go_wp2_with fail
        go_ret
        exact ⟨by cases q <;> rfl, by (exact ext_of (by (exact belA)))⟩
end Go.Proofs.YtcaeohgbgeadaaaGreatDoor

namespace Go.Proofs.YtcaeohgbgeadaaaGreatDoor
open Go Go.RowKit

/-- A block of cells, known whole. -/
def Blk (w : World) (g : Nat) (t : TypeId) (cs : Array Value) : Prop := w.heap[g]? = some (.cells cs t (0, 0))
theorem Blk.new {w : World} {g : Nat} {t : TypeId} {cs : Array Value} (h : g = w.heap.size) : Blk (w.alloc (.cells cs t)) g t cs := by subst h; exact (MapKept.heap_alloc w _).1
theorem Blk.lt {w : World} {g : Nat} {t : TypeId} {cs : Array Value} (h : Blk w g t cs) : g < w.heap.size := (Array.getElem?_eq_some_iff.1 h).1
theorem Blk.alloc {w : World} {g : Nat} {t : TypeId} {cs : Array Value} (h : Blk w g t cs) (o : Obj) : Blk (w.alloc o) g t cs := (Below.heap_alloc w o g h.lt).trans h
theorem Blk.drew {w : World} {g : Nat} {t : TypeId} {cs : Array Value} (h : Blk w g t cs) : Blk w.drew g t cs := h
theorem Blk.ext {w : World} {g : Nat} {t : TypeId} {cs : Array Value} (h : Blk w g t cs) (x : Grow w) : Blk (ext w x) g t cs := (x.ok.block g h.lt).trans h
theorem Blk.set {w : World} {g : Nat} {t : TypeId} {cs : Array Value} (h : Blk w g t cs) (i : Nat) (v : Value) : Blk (w.setCell ⟨g, i, none⟩ v) g t (cs.setIfInBounds i v) := by
  unfold Blk at *
  simp only [World.setCell, Array.getElem?_modify, h]
  simp
theorem Blk.setOther {w : World} {g : Nat} {t : TypeId} {cs : Array Value} (h : Blk w g t cs) {b : Nat} (hb : g ≠ b) (i : Nat) (v : Value) : Blk (w.setCell ⟨b, i, none⟩ v) g t cs := (Below.heap_setCell w ⟨b, i, none⟩ v g hb).trans h
theorem Blk.cell {w : World} {g : Nat} {t : TypeId} {cs : Array Value} (h : Blk w g t cs) (i : Nat) : w.cell? ⟨g, i, none⟩ = cs[i]? := by
  simp [World.cell?, show w.heap[g]? = _ from h]
theorem Blk.frozen {w : World} {g : Nat} {t : TypeId} {cs : Array Value} (h : Blk w g t cs) (i : Nat) : w.frozen? ⟨g, i, none⟩ = false := by
  simp [World.frozen?, show w.heap[g]? = _ from h]
theorem Blk.c1 {w : World} {g : Nat} {t : TypeId} {a0 : Value} {l : List Value} (h : Blk w g t (List.toArray (a0 :: l))) : w.cell? ⟨g, 0, none⟩ = some a0 := by
  refine ?_ <;> (rw [h.cell]; simp)
theorem Blk.c2 {w : World} {g : Nat} {t : TypeId} {a0 a1 : Value} {l : List Value} (h : Blk w g t (List.toArray (a0 :: a1 :: l))) : w.cell? ⟨g, 0, none⟩ = some a0 ∧ w.cell? ⟨g, 1, none⟩ = some a1 := by
  refine ⟨?_, ?_⟩ <;> (rw [h.cell]; simp)
theorem Blk.c3 {w : World} {g : Nat} {t : TypeId} {a0 a1 a2 : Value} {l : List Value} (h : Blk w g t (List.toArray (a0 :: a1 :: a2 :: l))) : w.cell? ⟨g, 0, none⟩ = some a0 ∧ w.cell? ⟨g, 1, none⟩ = some a1 ∧ w.cell? ⟨g, 2, none⟩ = some a2 := by
  refine ⟨?_, ?_, ?_⟩ <;> (rw [h.cell]; simp)
theorem Blk.c4 {w : World} {g : Nat} {t : TypeId} {a0 a1 a2 a3 : Value} {l : List Value} (h : Blk w g t (List.toArray (a0 :: a1 :: a2 :: a3 :: l))) : w.cell? ⟨g, 0, none⟩ = some a0 ∧ w.cell? ⟨g, 1, none⟩ = some a1 ∧ w.cell? ⟨g, 2, none⟩ = some a2 ∧ w.cell? ⟨g, 3, none⟩ = some a3 := by
  refine ⟨?_, ?_, ?_, ?_⟩ <;> (rw [h.cell]; simp)
theorem Blk.c5 {w : World} {g : Nat} {t : TypeId} {a0 a1 a2 a3 a4 : Value} {l : List Value} (h : Blk w g t (List.toArray (a0 :: a1 :: a2 :: a3 :: a4 :: l))) : w.cell? ⟨g, 0, none⟩ = some a0 ∧ w.cell? ⟨g, 1, none⟩ = some a1 ∧ w.cell? ⟨g, 2, none⟩ = some a2 ∧ w.cell? ⟨g, 3, none⟩ = some a3 ∧ w.cell? ⟨g, 4, none⟩ = some a4 := by
  refine ⟨?_, ?_, ?_, ?_, ?_⟩ <;> (rw [h.cell]; simp)
theorem Blk.c6 {w : World} {g : Nat} {t : TypeId} {a0 a1 a2 a3 a4 a5 : Value} {l : List Value} (h : Blk w g t (List.toArray (a0 :: a1 :: a2 :: a3 :: a4 :: a5 :: l))) : w.cell? ⟨g, 0, none⟩ = some a0 ∧ w.cell? ⟨g, 1, none⟩ = some a1 ∧ w.cell? ⟨g, 2, none⟩ = some a2 ∧ w.cell? ⟨g, 3, none⟩ = some a3 ∧ w.cell? ⟨g, 4, none⟩ = some a4 ∧ w.cell? ⟨g, 5, none⟩ = some a5 := by
  refine ⟨?_, ?_, ?_, ?_, ?_, ?_⟩ <;> (rw [h.cell]; simp)
theorem Blk.c9 {w : World} {g : Nat} {t : TypeId} {a0 a1 a2 a3 a4 a5 a6 a7 a8 : Value} {l : List Value} (h : Blk w g t (List.toArray (a0 :: a1 :: a2 :: a3 :: a4 :: a5 :: a6 :: a7 :: a8 :: l))) : w.cell? ⟨g, 0, none⟩ = some a0 ∧ w.cell? ⟨g, 1, none⟩ = some a1 ∧ w.cell? ⟨g, 2, none⟩ = some a2 ∧ w.cell? ⟨g, 3, none⟩ = some a3 ∧ w.cell? ⟨g, 4, none⟩ = some a4 ∧ w.cell? ⟨g, 5, none⟩ = some a5 ∧ w.cell? ⟨g, 6, none⟩ = some a6 ∧ w.cell? ⟨g, 7, none⟩ = some a7 ∧ w.cell? ⟨g, 8, none⟩ = some a8 := by
  refine ⟨?_, ?_, ?_, ?_, ?_, ?_, ?_, ?_, ?_⟩ <;> (rw [h.cell]; simp)
theorem Blk.c13 {w : World} {g : Nat} {t : TypeId} {a0 a1 a2 a3 a4 a5 a6 a7 a8 a9 a10 a11 a12 : Value} {l : List Value} (h : Blk w g t (List.toArray (a0 :: a1 :: a2 :: a3 :: a4 :: a5 :: a6 :: a7 :: a8 :: a9 :: a10 :: a11 :: a12 :: l))) : w.cell? ⟨g, 0, none⟩ = some a0 ∧ w.cell? ⟨g, 1, none⟩ = some a1 ∧ w.cell? ⟨g, 2, none⟩ = some a2 ∧ w.cell? ⟨g, 3, none⟩ = some a3 ∧ w.cell? ⟨g, 4, none⟩ = some a4 ∧ w.cell? ⟨g, 5, none⟩ = some a5 ∧ w.cell? ⟨g, 6, none⟩ = some a6 ∧ w.cell? ⟨g, 7, none⟩ = some a7 ∧ w.cell? ⟨g, 8, none⟩ = some a8 ∧ w.cell? ⟨g, 9, none⟩ = some a9 ∧ w.cell? ⟨g, 10, none⟩ = some a10 ∧ w.cell? ⟨g, 11, none⟩ = some a11 ∧ w.cell? ⟨g, 12, none⟩ = some a12 := by
  refine ⟨?_, ?_, ?_, ?_, ?_, ?_, ?_, ?_, ?_, ?_, ?_, ?_, ?_⟩ <;> (rw [h.cell]; simp)
theorem Blk.f2 {w : World} {g : Nat} {t : TypeId} {cs : Array Value} (h : Blk w g t cs) : w.frozen? ⟨g, 0, none⟩ = false ∧ w.frozen? ⟨g, 1, none⟩ = false :=
  ⟨h.frozen 0, h.frozen 1⟩
theorem Blk.f3 {w : World} {g : Nat} {t : TypeId} {cs : Array Value} (h : Blk w g t cs) : w.frozen? ⟨g, 0, none⟩ = false ∧ w.frozen? ⟨g, 1, none⟩ = false ∧ w.frozen? ⟨g, 2, none⟩ = false :=
  ⟨h.frozen 0, h.frozen 1, h.frozen 2⟩
theorem Blk.f4 {w : World} {g : Nat} {t : TypeId} {cs : Array Value} (h : Blk w g t cs) : w.frozen? ⟨g, 0, none⟩ = false ∧ w.frozen? ⟨g, 1, none⟩ = false ∧ w.frozen? ⟨g, 2, none⟩ = false ∧ w.frozen? ⟨g, 3, none⟩ = false :=
  ⟨h.frozen 0, h.frozen 1, h.frozen 2, h.frozen 3⟩
theorem Blk.f5 {w : World} {g : Nat} {t : TypeId} {cs : Array Value} (h : Blk w g t cs) : w.frozen? ⟨g, 0, none⟩ = false ∧ w.frozen? ⟨g, 1, none⟩ = false ∧ w.frozen? ⟨g, 2, none⟩ = false ∧ w.frozen? ⟨g, 3, none⟩ = false ∧ w.frozen? ⟨g, 4, none⟩ = false :=
  ⟨h.frozen 0, h.frozen 1, h.frozen 2, h.frozen 3, h.frozen 4⟩
theorem Blk.f6 {w : World} {g : Nat} {t : TypeId} {cs : Array Value} (h : Blk w g t cs) : w.frozen? ⟨g, 0, none⟩ = false ∧ w.frozen? ⟨g, 1, none⟩ = false ∧ w.frozen? ⟨g, 2, none⟩ = false ∧ w.frozen? ⟨g, 3, none⟩ = false ∧ w.frozen? ⟨g, 4, none⟩ = false ∧ w.frozen? ⟨g, 5, none⟩ = false :=
  ⟨h.frozen 0, h.frozen 1, h.frozen 2, h.frozen 3, h.frozen 4, h.frozen 5⟩
theorem Blk.f9 {w : World} {g : Nat} {t : TypeId} {cs : Array Value} (h : Blk w g t cs) : w.frozen? ⟨g, 0, none⟩ = false ∧ w.frozen? ⟨g, 1, none⟩ = false ∧ w.frozen? ⟨g, 2, none⟩ = false ∧ w.frozen? ⟨g, 3, none⟩ = false ∧ w.frozen? ⟨g, 4, none⟩ = false ∧ w.frozen? ⟨g, 5, none⟩ = false ∧ w.frozen? ⟨g, 6, none⟩ = false ∧ w.frozen? ⟨g, 7, none⟩ = false ∧ w.frozen? ⟨g, 8, none⟩ = false :=
  ⟨h.frozen 0, h.frozen 1, h.frozen 2, h.frozen 3, h.frozen 4, h.frozen 5, h.frozen 6, h.frozen 7, h.frozen 8⟩
theorem Blk.f13 {w : World} {g : Nat} {t : TypeId} {cs : Array Value} (h : Blk w g t cs) : w.frozen? ⟨g, 0, none⟩ = false ∧ w.frozen? ⟨g, 1, none⟩ = false ∧ w.frozen? ⟨g, 2, none⟩ = false ∧ w.frozen? ⟨g, 3, none⟩ = false ∧ w.frozen? ⟨g, 4, none⟩ = false ∧ w.frozen? ⟨g, 5, none⟩ = false ∧ w.frozen? ⟨g, 6, none⟩ = false ∧ w.frozen? ⟨g, 7, none⟩ = false ∧ w.frozen? ⟨g, 8, none⟩ = false ∧ w.frozen? ⟨g, 9, none⟩ = false ∧ w.frozen? ⟨g, 10, none⟩ = false ∧ w.frozen? ⟨g, 11, none⟩ = false ∧ w.frozen? ⟨g, 12, none⟩ = false :=
  ⟨h.frozen 0, h.frozen 1, h.frozen 2, h.frozen 3, h.frozen 4, h.frozen 5, h.frozen 6, h.frozen 7, h.frozen 8, h.frozen 9, h.frozen 10, h.frozen 11, h.frozen 12⟩
theorem Blk.bel {w w' : World} {g : Nat} {t : TypeId} {cs : Array Value} (h : Blk w g t cs) (hb : Below w.heap.size w w') : Blk w' g t cs := (hb.block g h.lt).trans h
def IntsAt (w : World) (p : Option Addr) (l : List Int) : Prop :=
  ∀ (i : Nat) (x : Int), l[i]? = some x → ∃ b o : Nat, p = some ⟨b, o, none⟩ ∧ b < w.heap.size ∧ w.cell? ⟨b, o + i, none⟩ = some (.int .i64 x)
theorem IntsAt.ext {w : World} {p : Option Addr} {l : List Int} (h : IntsAt w p l) (x : Grow w) : IntsAt (ext w x) p l := fun i s hi => by
  obtain ⟨b, o, h1, h2, h3⟩ := h i s hi
  exact ⟨b, o, h1, Nat.lt_of_lt_of_le h2 x.ok.size, by rw [ext_cell _ _ _ _ h2]; exact h3⟩
theorem IntsAt.below {w w' : World} {p : Option Addr} {l : List Int} (h : IntsAt w p l) (hb : Below w.heap.size w w') : IntsAt w' p l := by
  obtain ⟨x, rfl⟩ := ext_of hb; exact h.ext x
theorem get_some {α : Type} (l : List α) (k : Nat) (h : k < l.length) : ∃ s, l[k]? = some s := ⟨l[k], List.getElem?_eq_getElem h⟩
theorem ints_one {w : World} {g : Nat} {x : Int} (k : Blk w g 3 #[.int .i64 x]) : IntsAt w (some ⟨g, 0, none⟩) [x] := fun i y hi => by
  match i, hi with
  | 0, hi => simp at hi; subst hi; exact ⟨g, 0, rfl, k.lt, by rw [k.cell]; rfl⟩
  | i + 1, hi => simp at hi
theorem wrap_num (k : Nat) (h : k ≤ 1000000) : wrap64 ((k : Int) + 1) = ((k + 1 : Nat) : Int) := by unfold wrap64; omega
theorem less_num (N k : Nat) (h : k + 1 ≤ N) : N - (intOf (Value.int .i64 ((k + 1 : Nat) : Int))).toNat < N - (intOf (Value.int .i64 (k : Int))).toNat := by
  simp only [intOf, Int.toNat_natCast]; omega
end Go.Proofs.YtcaeohgbgeadaaaGreatDoor

