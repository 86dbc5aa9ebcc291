/- For the laws of package bulk: the chapter's books in memory. -/
import Derived.Test.YtpiadbdkiibdbaaQB6a
import Derived.Test.YtpiadbdkiibdbaaQB6b
set_option linter.unusedSimpArgs false
set_option linter.unusedVariables false
namespace Go.Proofs.Ytpiadbdkiibdbaa
open Go Go.RowKit Go.Shelf
theorem Blk.c10 {w : World} {g : Nat} {t : TypeId} {a0 a1 a2 a3 a4 a5 a6 a7 a8 a9 : Value} {l : List Value} (h : Blk w g t (List.toArray (a0 :: a1 :: a2 :: a3 :: a4 :: a5 :: a6 :: a7 :: a8 :: a9 :: l))) : w.cell? ⟨g, 0, none⟩ = some a0 ∧ w.cell? ⟨g, 1, none⟩ = some a1 ∧ w.cell? ⟨g, 2, none⟩ = some a2 ∧ w.cell? ⟨g, 3, none⟩ = some a3 ∧ w.cell? ⟨g, 4, none⟩ = some a4 ∧ w.cell? ⟨g, 5, none⟩ = some a5 ∧ w.cell? ⟨g, 6, none⟩ = some a6 ∧ w.cell? ⟨g, 7, none⟩ = some a7 ∧ w.cell? ⟨g, 8, none⟩ = some a8 ∧ w.cell? ⟨g, 9, none⟩ = some a9 := by
  refine ⟨?_, ?_, ?_, ?_, ?_, ?_, ?_, ?_, ?_, ?_⟩ <;> (rw [h.cell]; simp)
theorem Blk.f10 {w : World} {g : Nat} {t : TypeId} {cs : Array Value} (h : Blk w g t cs) : w.frozen? ⟨g, 0, none⟩ = false ∧ w.frozen? ⟨g, 1, none⟩ = false ∧ w.frozen? ⟨g, 2, none⟩ = false ∧ w.frozen? ⟨g, 3, none⟩ = false ∧ w.frozen? ⟨g, 4, none⟩ = false ∧ w.frozen? ⟨g, 5, none⟩ = false ∧ w.frozen? ⟨g, 6, none⟩ = false ∧ w.frozen? ⟨g, 7, none⟩ = false ∧ w.frozen? ⟨g, 8, none⟩ = false ∧ w.frozen? ⟨g, 9, none⟩ = false :=
  ⟨h.frozen 0, h.frozen 1, h.frozen 2, h.frozen 3, h.frozen 4, h.frozen 5, h.frozen 6, h.frozen 7, h.frozen 8, h.frozen 9⟩
theorem blk_setB10 {w : World} {b g : Nat} {t : TypeId} {cs : Array Value} (h : Blk w b t cs) (hg : b ≠ g) (v0 v1 v2 v3 v4 v5 v6 v7 v8 v9 : Value) : Blk ((((((((((w.setCell ⟨g, 0, none⟩ v0).setCell ⟨g, 1, none⟩ v1).setCell ⟨g, 2, none⟩ v2).setCell ⟨g, 3, none⟩ v3).setCell ⟨g, 4, none⟩ v4).setCell ⟨g, 5, none⟩ v5).setCell ⟨g, 6, none⟩ v6).setCell ⟨g, 7, none⟩ v7).setCell ⟨g, 8, none⟩ v8).setCell ⟨g, 9, none⟩ v9) b t cs := (((((((((h.setOther hg _ _).setOther hg _ _).setOther hg _ _).setOther hg _ _).setOther hg _ _).setOther hg _ _).setOther hg _ _).setOther hg _ _).setOther hg _ _).setOther hg _ _
/-- The cells of the chapter's lots. -/
def lotCs (x y : Int) : Array Value := #[.int .i64 10, .int .i64 4, .int .i64 6, .int .i64 1, .int .i64 3, .int .i64 x, .int .i64 y, .int .i64 12, .int .i64 0, .int .i64 2]
theorem lots_own {w : World} {g : Nat} {x y : Int} (h : Blk w g 62 (lotCs x y)) : LotsAt w (some ⟨g, 0, none⟩) (bookC x y).ls := fun i s hs => by
  refine ⟨g, 0, rfl, h.lt, ?_⟩
  simp only [Nat.zero_add]
  match i, hs with
  | 0, hs => cases hs; exact ⟨h.cell 0, h.cell 1, h.cell 2, h.cell 3, h.cell 4⟩
  | 1, hs => cases hs; exact ⟨h.cell 5, h.cell 6, h.cell 7, h.cell 8, h.cell 9⟩
  | i + 2, hs => simp [bookC] at hs
theorem cb_own {w : World} {g : Nat} {x y : Int} (h : Blk w g 62 (lotCs x y)) : CB w (bookC x y) (some ⟨g, 0, none⟩) := ⟨lots_own h, fun a ha => by cases ha; exact h.lt⟩
attribute [local go_sem] Oper.semAt_some frozen_alloc_lt
set_option maxRecDepth 100000 in
set_option maxHeartbeats 4000000 in
theorem book_any (x y : Int) (w : World) : Calls Try.prog 55 #[.int .i64 x, .int .i64 y] w fun e w' => ∃ g : Nat, e = .returned (ckV (bookC x y) (some ⟨g, 0, none⟩) 2) ∧ w.heap.size < g ∧ Blk w' g 62 (lotCs x y) ∧ ∃ z, w' = ext w z := by
  go_enter Try.func55, Try.ntmps55
  go_upto_region 1 with fail
  generalize hW : w.alloc _ = W
  have hB : Below w.heap.size w W := by rw [← hW]; (exact belA)
  have kR : Blk W w.heap.size 28 #[.int .i64 0, .int .i64 0, .int .i64 0, .int .i64 0, .int .i64 0, .int .i64 0, .int .i64 0, .int .i64 0, .int .i64 0, .slice none 0 0] := by rw [← hW]; exact Blk.new rfl
  have HB := Lib.hid hB
  have KR := Lib.hid kR
  clear hW hB kR
  go_wp2_with (first
    | (go_at_call 52; refine (To_any _ _ _).mono ?_; rintro e w1 ⟨rfl, z, hw1⟩; have KR' := Lib.hid (show Blk w1 w.heap.size 28 #[.int .i64 0, .int .i64 0, .int .i64 0, .int .i64 0, .int .i64 0, .int .i64 0, .int .i64 0, .int .i64 0, .int .i64 0, .slice none 0 0] by rw [hw1]; exact KR.out.ext z); have HB' := Lib.hid (show Below w.heap.size w w1 by rw [hw1]; exact HB.out.trans ((below_ext _ z).mono HB.out.size)); clear KR HB hw1; have KR := KR'; have HB := HB'; clear KR' HB'; (try clear r0 r1 r2 r3 r4 r5 r6 r7 r8 r9 f0 f1 f2 f3 f4 f5 f6 f7 f8 f9 lR); have kr := KR.out; obtain ⟨r0, r1, r2, r3, r4, r5, r6, r7, r8, r9⟩ := Blk.c10 kr; obtain ⟨f0, f1, f2, f3, f4, f5, f6, f7, f8, f9⟩ := Blk.f10 kr; have lR := kr.lt; clear kr))
  have kE := (KR.out.setB10 (.int .i64 3) (.int .i64 4) (.int .i64 8) (.int .i64 9) (.int .i64 5) (.int .i64 6) (.int .i64 1) (.int .i64 0) (.int .i64 0) (.slice (some ⟨w1.heap.size, 0, none⟩) 2 2)).alloc (.cells #[.int .i64 10, .int .i64 4, .int .i64 6, .int .i64 1, .int .i64 3, .int .i64 x, .int .i64 y, .int .i64 12, .int .i64 0, .int .i64 2] 62)
  have hE := (below_setB10 HB.out (g := w.heap.size) (Nat.le_refl _) (.int .i64 3) (.int .i64 4) (.int .i64 8) (.int .i64 9) (.int .i64 5) (.int .i64 6) (.int .i64 1) (.int .i64 0) (.int .i64 0) (.slice (some ⟨w1.heap.size, 0, none⟩) 2 2)).alloc (by simp; omega) (.cells #[.int .i64 10, .int .i64 4, .int .i64 6, .int .i64 1, .int .i64 3, .int .i64 x, .int .i64 y, .int .i64 12, .int .i64 0, .int .i64 2] 62)
  have kn : Blk (((((((((((w1.setCell ⟨w.heap.size, 0, none⟩ (.int .i64 3)).setCell ⟨w.heap.size, 1, none⟩ (.int .i64 4)).setCell ⟨w.heap.size, 2, none⟩ (.int .i64 8)).setCell ⟨w.heap.size, 3, none⟩ (.int .i64 9)).setCell ⟨w.heap.size, 4, none⟩ (.int .i64 5)).setCell ⟨w.heap.size, 5, none⟩ (.int .i64 6)).setCell ⟨w.heap.size, 6, none⟩ (.int .i64 1)).setCell ⟨w.heap.size, 7, none⟩ (.int .i64 0)).setCell ⟨w.heap.size, 8, none⟩ (.int .i64 0)).setCell ⟨w.heap.size, 9, none⟩ (.slice (some ⟨w1.heap.size, 0, none⟩) 2 2)).alloc (.cells #[.int .i64 10, .int .i64 4, .int .i64 6, .int .i64 1, .int .i64 3, .int .i64 x, .int .i64 y, .int .i64 12, .int .i64 0, .int .i64 2] 62)) w1.heap.size 62 (lotCs x y) := Blk.new (by simp)
  generalize hWW : World.alloc _ _ = WW at kE hE kn ⊢
  generalize w1.heap.size = g1 at *
  clear hWW
  have HE2 := Lib.hid hE
  have KN := Lib.hid kn
  obtain ⟨e0, e1, e2, e3, e4, e5, e6, e7, e8, e9⟩ := Blk.c10 kE
  have lE := kE.lt
  clear hE kE kn
  refine bodyPost_ret (v := ckV (bookC x y) (some ⟨g1, 0, none⟩) 2) (by simp [results, Try.results55, go_sem, e0, e1, e2, e3, e4, e5, e6, e7, e8, e9, lE, ckV, bookC]) rfl ⟨g1, rfl, lR, KN.out, ext_of HE2.out⟩
/-- A call that makes the chapter's book. -/
def BookPost (w : World) (x y : Int) (e : Ending) (w' : World) : Prop := ∃ g : Nat, e = .returned (ckV (bookC x y) (some ⟨g, 0, none⟩) 2) ∧ w.heap.size < g ∧ Blk w' g 62 (lotCs x y) ∧ ∃ z, w' = ext w z
set_option maxRecDepth 100000 in
set_option maxHeartbeats 4000000 in
theorem own_any (w : World) : Calls Try.prog 54 #[] w (BookPost w 20 (-1)) := by
  go_enter Try.func54, Try.ntmps54
  go_upto_region 1 with fail
  generalize hW : w.alloc _ = W
  have hB : Below w.heap.size w W := by rw [← hW]; (exact belA)
  have kR : Blk W w.heap.size 28 #[.int .i64 0, .int .i64 0, .int .i64 0, .int .i64 0, .int .i64 0, .int .i64 0, .int .i64 0, .int .i64 0, .int .i64 0, .slice none 0 0] := by rw [← hW]; exact Blk.new rfl
  have hz : w.heap.size < W.heap.size := kR.lt
  have HB := Lib.hid hB
  have KR := Lib.hid kR
  clear hW hB kR
  go_wp2_with (first
    | (go_at_call 55; refine (book_any 20 (-1) _).mono ?_; rintro e w1 ⟨g, rfl, hg, kb, z, hw1⟩; have KB := Lib.hid kb; have KR' := Lib.hid (show Blk w1 w.heap.size 28 #[.int .i64 0, .int .i64 0, .int .i64 0, .int .i64 0, .int .i64 0, .int .i64 0, .int .i64 0, .int .i64 0, .int .i64 0, .slice none 0 0] by rw [hw1]; exact KR.out.ext z); have HB' := Lib.hid (show Below w.heap.size w w1 by rw [hw1]; exact HB.out.trans ((below_ext _ z).mono HB.out.size)); clear KR HB hw1 kb; have KR := KR'; have HB := HB'; clear KR' HB'; have kr := KR.out; obtain ⟨r0, r1, r2, r3, r4, r5, r6, r7, r8, r9⟩ := Blk.c10 kr; obtain ⟨f0, f1, f2, f3, f4, f5, f6, f7, f8, f9⟩ := Blk.f10 kr; have lR := kr.lt; clear kr; unfold ckV bookC; dsimp only))
  have kE := KR.out.setB10 (.int .i64 3) (.int .i64 4) (.int .i64 8) (.int .i64 9) (.int .i64 5) (.int .i64 6) (.int .i64 1) (.int .i64 0) (.int .i64 0) (.slice (some ⟨g, 0, none⟩) 2 2)
  have hE := below_setB10 HB.out (g := w.heap.size) (Nat.le_refl _) (.int .i64 3) (.int .i64 4) (.int .i64 8) (.int .i64 9) (.int .i64 5) (.int .i64 6) (.int .i64 1) (.int .i64 0) (.int .i64 0) (.slice (some ⟨g, 0, none⟩) 2 2)
  have kn : Blk ((((((((((w1.setCell ⟨w.heap.size, 0, none⟩ (.int .i64 3)).setCell ⟨w.heap.size, 1, none⟩ (.int .i64 4)).setCell ⟨w.heap.size, 2, none⟩ (.int .i64 8)).setCell ⟨w.heap.size, 3, none⟩ (.int .i64 9)).setCell ⟨w.heap.size, 4, none⟩ (.int .i64 5)).setCell ⟨w.heap.size, 5, none⟩ (.int .i64 6)).setCell ⟨w.heap.size, 6, none⟩ (.int .i64 1)).setCell ⟨w.heap.size, 7, none⟩ (.int .i64 0)).setCell ⟨w.heap.size, 8, none⟩ (.int .i64 0)).setCell ⟨w.heap.size, 9, none⟩ (.slice (some ⟨g, 0, none⟩) 2 2)) g 62 (lotCs 20 (-1)) := blk_setB10 KB.out (by omega) (.int .i64 3) (.int .i64 4) (.int .i64 8) (.int .i64 9) (.int .i64 5) (.int .i64 6) (.int .i64 1) (.int .i64 0) (.int .i64 0) (.slice (some ⟨g, 0, none⟩) 2 2)
  generalize hWW : World.setCell _ _ _ = WW at kE hE kn ⊢
  clear hWW
  have HE2 := Lib.hid hE
  have KN := Lib.hid kn
  obtain ⟨e0, e1, e2, e3, e4, e5, e6, e7, e8, e9⟩ := Blk.c10 kE
  have lE := kE.lt
  clear hE kE kn
  refine bodyPost_ret (v := ckV (bookC 20 (-1)) (some ⟨g, 0, none⟩) 2) (by simp [results, Try.results54, go_sem, e0, e1, e2, e3, e4, e5, e6, e7, e8, e9, lE, ckV, bookC]) rfl ⟨g, rfl, by omega, KN.out, ext_of HE2.out⟩
set_option maxRecDepth 100000 in
set_option maxHeartbeats 4000000 in
theorem rowed_any (w : World) : Calls Try.prog 56 #[] w (BookPost w 20 9) := by
  go_enter Try.func56, Try.ntmps56
  go_upto_region 1 with fail
  generalize hW : w.alloc _ = W
  have hB : Below w.heap.size w W := by rw [← hW]; (exact belA)
  have kR : Blk W w.heap.size 28 #[.int .i64 0, .int .i64 0, .int .i64 0, .int .i64 0, .int .i64 0, .int .i64 0, .int .i64 0, .int .i64 0, .int .i64 0, .slice none 0 0] := by rw [← hW]; exact Blk.new rfl
  have hz : w.heap.size < W.heap.size := kR.lt
  have HB := Lib.hid hB
  have KR := Lib.hid kR
  clear hW hB kR
  go_wp2_with (first
    | (go_at_call 55; refine (book_any 20 9 _).mono ?_; rintro e w1 ⟨g, rfl, hg, kb, z, hw1⟩; have KB := Lib.hid kb; have KR' := Lib.hid (show Blk w1 w.heap.size 28 #[.int .i64 0, .int .i64 0, .int .i64 0, .int .i64 0, .int .i64 0, .int .i64 0, .int .i64 0, .int .i64 0, .int .i64 0, .slice none 0 0] by rw [hw1]; exact KR.out.ext z); have HB' := Lib.hid (show Below w.heap.size w w1 by rw [hw1]; exact HB.out.trans ((below_ext _ z).mono HB.out.size)); clear KR HB hw1 kb; have KR := KR'; have HB := HB'; clear KR' HB'; have kr := KR.out; obtain ⟨r0, r1, r2, r3, r4, r5, r6, r7, r8, r9⟩ := Blk.c10 kr; obtain ⟨f0, f1, f2, f3, f4, f5, f6, f7, f8, f9⟩ := Blk.f10 kr; have lR := kr.lt; clear kr; unfold ckV bookC; dsimp only))
  have kE := KR.out.setB10 (.int .i64 3) (.int .i64 4) (.int .i64 8) (.int .i64 9) (.int .i64 5) (.int .i64 6) (.int .i64 1) (.int .i64 0) (.int .i64 0) (.slice (some ⟨g, 0, none⟩) 2 2)
  have hE := below_setB10 HB.out (g := w.heap.size) (Nat.le_refl _) (.int .i64 3) (.int .i64 4) (.int .i64 8) (.int .i64 9) (.int .i64 5) (.int .i64 6) (.int .i64 1) (.int .i64 0) (.int .i64 0) (.slice (some ⟨g, 0, none⟩) 2 2)
  have kn : Blk ((((((((((w1.setCell ⟨w.heap.size, 0, none⟩ (.int .i64 3)).setCell ⟨w.heap.size, 1, none⟩ (.int .i64 4)).setCell ⟨w.heap.size, 2, none⟩ (.int .i64 8)).setCell ⟨w.heap.size, 3, none⟩ (.int .i64 9)).setCell ⟨w.heap.size, 4, none⟩ (.int .i64 5)).setCell ⟨w.heap.size, 5, none⟩ (.int .i64 6)).setCell ⟨w.heap.size, 6, none⟩ (.int .i64 1)).setCell ⟨w.heap.size, 7, none⟩ (.int .i64 0)).setCell ⟨w.heap.size, 8, none⟩ (.int .i64 0)).setCell ⟨w.heap.size, 9, none⟩ (.slice (some ⟨g, 0, none⟩) 2 2)) g 62 (lotCs 20 9) := blk_setB10 KB.out (by omega) (.int .i64 3) (.int .i64 4) (.int .i64 8) (.int .i64 9) (.int .i64 5) (.int .i64 6) (.int .i64 1) (.int .i64 0) (.int .i64 0) (.slice (some ⟨g, 0, none⟩) 2 2)
  generalize hWW : World.setCell _ _ _ = WW at kE hE kn ⊢
  clear hWW
  have HE2 := Lib.hid hE
  have KN := Lib.hid kn
  obtain ⟨e0, e1, e2, e3, e4, e5, e6, e7, e8, e9⟩ := Blk.c10 kE
  have lE := kE.lt
  clear hE kE kn
  refine bodyPost_ret (v := ckV (bookC 20 9) (some ⟨g, 0, none⟩) 2) (by simp [results, Try.results56, go_sem, e0, e1, e2, e3, e4, e5, e6, e7, e8, e9, lE, ckV, bookC]) rfl ⟨g, rfl, by omega, KN.out, ext_of HE2.out⟩
set_option maxRecDepth 100000 in
set_option maxHeartbeats 4000000 in
theorem false30_any (w : World) : Calls Try.prog 57 #[] w (BookPost w 30 (-1)) := by
  go_enter Try.func57, Try.ntmps57
  go_upto_region 1 with fail
  generalize hW : w.alloc _ = W
  have hB : Below w.heap.size w W := by rw [← hW]; (exact belA)
  have kR : Blk W w.heap.size 28 #[.int .i64 0, .int .i64 0, .int .i64 0, .int .i64 0, .int .i64 0, .int .i64 0, .int .i64 0, .int .i64 0, .int .i64 0, .slice none 0 0] := by rw [← hW]; exact Blk.new rfl
  have hz : w.heap.size < W.heap.size := kR.lt
  have HB := Lib.hid hB
  have KR := Lib.hid kR
  clear hW hB kR
  go_wp2_with (first
    | (go_at_call 55; refine (book_any 30 (-1) _).mono ?_; rintro e w1 ⟨g, rfl, hg, kb, z, hw1⟩; have KB := Lib.hid kb; have KR' := Lib.hid (show Blk w1 w.heap.size 28 #[.int .i64 0, .int .i64 0, .int .i64 0, .int .i64 0, .int .i64 0, .int .i64 0, .int .i64 0, .int .i64 0, .int .i64 0, .slice none 0 0] by rw [hw1]; exact KR.out.ext z); have HB' := Lib.hid (show Below w.heap.size w w1 by rw [hw1]; exact HB.out.trans ((below_ext _ z).mono HB.out.size)); clear KR HB hw1 kb; have KR := KR'; have HB := HB'; clear KR' HB'; have kr := KR.out; obtain ⟨r0, r1, r2, r3, r4, r5, r6, r7, r8, r9⟩ := Blk.c10 kr; obtain ⟨f0, f1, f2, f3, f4, f5, f6, f7, f8, f9⟩ := Blk.f10 kr; have lR := kr.lt; clear kr; unfold ckV bookC; dsimp only))
  have kE := KR.out.setB10 (.int .i64 3) (.int .i64 4) (.int .i64 8) (.int .i64 9) (.int .i64 5) (.int .i64 6) (.int .i64 1) (.int .i64 0) (.int .i64 0) (.slice (some ⟨g, 0, none⟩) 2 2)
  have hE := below_setB10 HB.out (g := w.heap.size) (Nat.le_refl _) (.int .i64 3) (.int .i64 4) (.int .i64 8) (.int .i64 9) (.int .i64 5) (.int .i64 6) (.int .i64 1) (.int .i64 0) (.int .i64 0) (.slice (some ⟨g, 0, none⟩) 2 2)
  have kn : Blk ((((((((((w1.setCell ⟨w.heap.size, 0, none⟩ (.int .i64 3)).setCell ⟨w.heap.size, 1, none⟩ (.int .i64 4)).setCell ⟨w.heap.size, 2, none⟩ (.int .i64 8)).setCell ⟨w.heap.size, 3, none⟩ (.int .i64 9)).setCell ⟨w.heap.size, 4, none⟩ (.int .i64 5)).setCell ⟨w.heap.size, 5, none⟩ (.int .i64 6)).setCell ⟨w.heap.size, 6, none⟩ (.int .i64 1)).setCell ⟨w.heap.size, 7, none⟩ (.int .i64 0)).setCell ⟨w.heap.size, 8, none⟩ (.int .i64 0)).setCell ⟨w.heap.size, 9, none⟩ (.slice (some ⟨g, 0, none⟩) 2 2)) g 62 (lotCs 30 (-1)) := blk_setB10 KB.out (by omega) (.int .i64 3) (.int .i64 4) (.int .i64 8) (.int .i64 9) (.int .i64 5) (.int .i64 6) (.int .i64 1) (.int .i64 0) (.int .i64 0) (.slice (some ⟨g, 0, none⟩) 2 2)
  generalize hWW : World.setCell _ _ _ = WW at kE hE kn ⊢
  clear hWW
  have HE2 := Lib.hid hE
  have KN := Lib.hid kn
  obtain ⟨e0, e1, e2, e3, e4, e5, e6, e7, e8, e9⟩ := Blk.c10 kE
  have lE := kE.lt
  clear hE kE kn
  refine bodyPost_ret (v := ckV (bookC 30 (-1)) (some ⟨g, 0, none⟩) 2) (by simp [results, Try.results57, go_sem, e0, e1, e2, e3, e4, e5, e6, e7, e8, e9, lE, ckV, bookC]) rfl ⟨g, rfl, by omega, KN.out, ext_of HE2.out⟩
end Go.Proofs.Ytpiadbdkiibdbaa

