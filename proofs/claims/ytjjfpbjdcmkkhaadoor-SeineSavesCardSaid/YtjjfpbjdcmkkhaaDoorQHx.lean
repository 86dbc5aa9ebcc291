/- The reference: Fits. -/
/- Program and reference alike: what is saved, and fits. -/
/- The walk of SeineSaves. Written by gen_holds.py. -/
import Derived.Test.YtjjfpbjdcmkkhaaDoorQWt
import Derived.Test.YtjjfpbjdcmkkhaaDoorQHp
import Derived.Test.YtjjfpbjdcmkkhaaDoorQJe
set_option linter.unusedSimpArgs false
set_option linter.unusedVariables false
namespace Go.Proofs.YtjjfpbjdcmkkhaaDoor
open Go Go.RowKit Go.Shelf
/-- What is told of a further note. -/
def FitsIs (b : Sn) (s : Nt) (q : Bool) (code : Int) : Prop := (snB b = false ∧ q = false ∧ code = 30) ∨ (snB b = true ∧ ntB s = false ∧ q = false ∧ code = 31) ∨ (snB b = true ∧ ntB s = true ∧ rightS (withS b s) = q ∧ code = 0)
theorem fits_some (b : Sn) (s : Nt) : ∃ q code, FitsIs b s q code := by
  cases h : snB b
  · exact ⟨_, _, .inl ⟨h, rfl, rfl⟩⟩
  · cases h2 : ntB s
    · exact ⟨_, _, .inr (.inl ⟨h, h2, rfl, rfl⟩)⟩
    · exact ⟨_, _, .inr (.inr ⟨h, h2, rfl, rfl⟩)⟩
theorem valid_c (s : Nt) (q : Bool) (w : World) (hq : ntB s = q) : Calls Tryd.prog 57 #[.agg (ntC s)] w fun e w' => e = .returned (.bool q) ∧ ∃ x, w' = ext w x := Valid_eq s q w hq
attribute [local go_sem] Oper.semAt_some frozen_alloc_lt
set_option maxRecDepth 100000 in
set_option maxHeartbeats 4000000 in
theorem Fits_r (b : Sn) (p : Option Addr) (c : Nat) (s : Nt) (q : Bool) (code : Int) (w : World) (hl : NotesAt w p b.ns) (hf : FitsIs b s q code) :
    Calls Tryd.prog 30 #[bV b p c, .agg (ntC s)] w fun e w' => e = .returned (.tuple #[.bool q, .int .i64 code]) ∧ Below w.heap.size w w' := by
  have HL := Lib.hid hl
  clear hl
  rcases hf with ⟨hv, rfl, rfl⟩ | ⟨hv, hn, rfl, rfl⟩ | ⟨hv, hn, hr, rfl⟩
  · have HV := Lib.hid hv
    clear hv
    go_enter Tryd.func30, Tryd.ntmps30
    go_wp2_with (go_at_call 17; refine (Check_code b p c false _ (HL.out.below (by (repeat (first | (with_reducible exact Below.refl _ _) | (with_reducible assumption) | ((with_reducible refine below_ext_trans ?_ ?_ _); rotate_left; focus (((try dsimp only); repeat (first | omega | simp only [World.size_alloc, World.size_setCell, World.size_drew] | (with_reducible refine le_ext_of ?_) | (with_reducible refine le_ext_add ?_))); done)) | ((with_reducible refine Below.alloc ?_ ?_ _); rotate_left; focus (((try dsimp only); repeat (first | omega | simp only [World.size_alloc, World.size_setCell, World.size_drew] | (with_reducible refine le_ext_of ?_) | (with_reducible refine le_ext_add ?_))); done)) | ((with_reducible refine Below.setCell ?_ ?_ _); rotate_left; focus (((try dsimp only); repeat (first | omega | simp only [World.size_alloc, World.size_setCell, World.size_drew] | (with_reducible refine le_ext_of ?_) | (with_reducible refine le_ext_add ?_))); done)) | (with_reducible refine Below.drew ?_))))) HV.out).mono ?_; rintro e w1 ⟨rfl, y, rfl⟩)
    refine bodyPost_ret (v := .tuple #[.bool false, .int .i64 30]) (by simp [results, Tryd.results30, go_sem]) rfl ⟨rfl, ?_⟩
    (repeat (first | (with_reducible exact Below.refl _ _) | (with_reducible assumption) | ((with_reducible refine below_ext_trans ?_ ?_ _); rotate_left; focus (((try dsimp only); repeat (first | omega | simp only [World.size_alloc, World.size_setCell, World.size_drew] | (with_reducible refine le_ext_of ?_) | (with_reducible refine le_ext_add ?_))); done)) | ((with_reducible refine Below.alloc ?_ ?_ _); rotate_left; focus (((try dsimp only); repeat (first | omega | simp only [World.size_alloc, World.size_setCell, World.size_drew] | (with_reducible refine le_ext_of ?_) | (with_reducible refine le_ext_add ?_))); done)) | ((with_reducible refine Below.setCell ?_ ?_ _); rotate_left; focus (((try dsimp only); repeat (first | omega | simp only [World.size_alloc, World.size_setCell, World.size_drew] | (with_reducible refine le_ext_of ?_) | (with_reducible refine le_ext_add ?_))); done)) | (with_reducible refine Below.drew ?_)))
  · have HV := Lib.hid hv
    have HN := Lib.hid hn
    clear hv hn
    go_enter Tryd.func30, Tryd.ntmps30
    go_wp2_with (first | (go_at_call 17; refine (Check_code b p c true _ (HL.out.below (by (repeat (first | (with_reducible exact Below.refl _ _) | (with_reducible assumption) | ((with_reducible refine below_ext_trans ?_ ?_ _); rotate_left; focus (((try dsimp only); repeat (first | omega | simp only [World.size_alloc, World.size_setCell, World.size_drew] | (with_reducible refine le_ext_of ?_) | (with_reducible refine le_ext_add ?_))); done)) | ((with_reducible refine Below.alloc ?_ ?_ _); rotate_left; focus (((try dsimp only); repeat (first | omega | simp only [World.size_alloc, World.size_setCell, World.size_drew] | (with_reducible refine le_ext_of ?_) | (with_reducible refine le_ext_add ?_))); done)) | ((with_reducible refine Below.setCell ?_ ?_ _); rotate_left; focus (((try dsimp only); repeat (first | omega | simp only [World.size_alloc, World.size_setCell, World.size_drew] | (with_reducible refine le_ext_of ?_) | (with_reducible refine le_ext_add ?_))); done)) | (with_reducible refine Below.drew ?_))))) HV.out).mono ?_; rintro e w1 ⟨rfl, y, rfl⟩) | (go_at_call 57; refine (valid_c s false _ HN.out).mono ?_; rintro e w1 ⟨rfl, y2, rfl⟩))
    refine bodyPost_ret (v := .tuple #[.bool false, .int .i64 31]) (by simp [results, Tryd.results30, go_sem]) rfl ⟨rfl, ?_⟩
    (repeat (first | (with_reducible exact Below.refl _ _) | (with_reducible assumption) | ((with_reducible refine below_ext_trans ?_ ?_ _); rotate_left; focus (((try dsimp only); repeat (first | omega | simp only [World.size_alloc, World.size_setCell, World.size_drew] | (with_reducible refine le_ext_of ?_) | (with_reducible refine le_ext_add ?_))); done)) | ((with_reducible refine Below.alloc ?_ ?_ _); rotate_left; focus (((try dsimp only); repeat (first | omega | simp only [World.size_alloc, World.size_setCell, World.size_drew] | (with_reducible refine le_ext_of ?_) | (with_reducible refine le_ext_add ?_))); done)) | ((with_reducible refine Below.setCell ?_ ?_ _); rotate_left; focus (((try dsimp only); repeat (first | omega | simp only [World.size_alloc, World.size_setCell, World.size_drew] | (with_reducible refine le_ext_of ?_) | (with_reducible refine le_ext_add ?_))); done)) | (with_reducible refine Below.drew ?_)))
  · have HV := Lib.hid hv
    have HN := Lib.hid hn
    have HR := Lib.hid hr
    have HOK := Lib.hid (Ok9.with hv hn)
    have HL8 := Lib.hid (show b.ns.length ≤ 8 by have := (HOK.out).len; rw [withS_len] at this; omega)
    clear hv hn hr
    go_enter Tryd.func30, Tryd.ntmps30
    go_wp2_with (first | (go_at_call 17; refine (Check_code b p c true _ (HL.out.below (by (repeat (first | (with_reducible exact Below.refl _ _) | (with_reducible assumption) | ((with_reducible refine below_ext_trans ?_ ?_ _); rotate_left; focus (((try dsimp only); repeat (first | omega | simp only [World.size_alloc, World.size_setCell, World.size_drew] | (with_reducible refine le_ext_of ?_) | (with_reducible refine le_ext_add ?_))); done)) | ((with_reducible refine Below.alloc ?_ ?_ _); rotate_left; focus (((try dsimp only); repeat (first | omega | simp only [World.size_alloc, World.size_setCell, World.size_drew] | (with_reducible refine le_ext_of ?_) | (with_reducible refine le_ext_add ?_))); done)) | ((with_reducible refine Below.setCell ?_ ?_ _); rotate_left; focus (((try dsimp only); repeat (first | omega | simp only [World.size_alloc, World.size_setCell, World.size_drew] | (with_reducible refine le_ext_of ?_) | (with_reducible refine le_ext_add ?_))); done)) | (with_reducible refine Below.drew ?_))))) HV.out).mono ?_; rintro e w1 ⟨rfl, y, rfl⟩) | (go_at_call 57; refine (valid_c s true _ HN.out).mono ?_; rintro e w1 ⟨rfl, y2, rfl⟩) | (go_at_call 75; refine (With_r b p c s _ (HL.out.below (by (repeat (first | (with_reducible exact Below.refl _ _) | (with_reducible assumption) | ((with_reducible refine below_ext_trans ?_ ?_ _); rotate_left; focus (((try dsimp only); repeat (first | omega | simp only [World.size_alloc, World.size_setCell, World.size_drew] | (with_reducible refine le_ext_of ?_) | (with_reducible refine le_ext_add ?_))); done)) | ((with_reducible refine Below.alloc ?_ ?_ _); rotate_left; focus (((try dsimp only); repeat (first | omega | simp only [World.size_alloc, World.size_setCell, World.size_drew] | (with_reducible refine le_ext_of ?_) | (with_reducible refine le_ext_add ?_))); done)) | ((with_reducible refine Below.setCell ?_ ?_ _); rotate_left; focus (((try dsimp only); repeat (first | omega | simp only [World.size_alloc, World.size_setCell, World.size_drew] | (with_reducible refine le_ext_of ?_) | (with_reducible refine le_ext_add ?_))); done)) | (with_reducible refine Below.drew ?_))))) HL8.out).mono ?_; rintro e w1 ⟨p3, c3, rfl, h3, y3, rfl⟩; have H3 := Lib.hid h3; clear h3) | (go_at_call 55; refine (right_code (withS b s) p3 c3 q _ (H3.out.notes) HOK.out HR.out).mono ?_; rintro e w1 ⟨rfl, y4, rfl⟩))
    have hz : Below w.heap.size w (ext ((w.alloc (.cells #[.int .i64 b.lo, .int .i64 b.hi, .slice p b.ns.length c] 26)).alloc (.cells (ntC s) 38)) ((y.comp y2).comp y3)) := by (repeat (first | (with_reducible exact Below.refl _ _) | (with_reducible assumption) | ((with_reducible refine below_ext_trans ?_ ?_ _); rotate_left; focus (((try dsimp only); repeat (first | omega | simp only [World.size_alloc, World.size_setCell, World.size_drew] | (with_reducible refine le_ext_of ?_) | (with_reducible refine le_ext_add ?_))); done)) | ((with_reducible refine Below.alloc ?_ ?_ _); rotate_left; focus (((try dsimp only); repeat (first | omega | simp only [World.size_alloc, World.size_setCell, World.size_drew] | (with_reducible refine le_ext_of ?_) | (with_reducible refine le_ext_add ?_))); done)) | ((with_reducible refine Below.setCell ?_ ?_ _); rotate_left; focus (((try dsimp only); repeat (first | omega | simp only [World.size_alloc, World.size_setCell, World.size_drew] | (with_reducible refine le_ext_of ?_) | (with_reducible refine le_ext_add ?_))); done)) | (with_reducible refine Below.drew ?_)))
    refine bodyPost_ret (v := .tuple #[.bool q, .int .i64 0]) (by simp [results, Tryd.results30, go_sem]) rfl ⟨rfl, ?_⟩
    exact hz.trans ((below_ext _ y4).mono hz.size)
end Go.Proofs.YtjjfpbjdcmkkhaaDoor

namespace Go.Proofs.YtjjfpbjdcmkkhaaDoor
open Go Go.RowKit Go.Shelf
theorem saved_both (b : Sn) (p : Option Addr) (c : Nat) (w : World) (hk : SBk w b p) : ∃ (s1 s2 n : Int), ∀ w', Below w.heap.size w w' →
    (Calls Tryd.prog 27 #[bV b p c] w' fun e w2 => e = .returned (.tuple #[.agg #[.int .i64 s1, .int .i64 s2], .int .i64 n]) ∧ ∃ x, w2 = ext w' x) ∧
    (Calls Tryd.prog 28 #[bV b p c] w' fun e w2 => e = .returned (.tuple #[.agg #[.int .i64 s1, .int .i64 s2], .int .i64 n]) ∧ ∃ x, w2 = ext w' x) := by
  obtain ⟨code, ha⟩ := asks_some b true
  refine ⟨_, _, code, fun w' hw => ⟨?_, (Saved_r b p c code _ _ w' (hk.bel hw).nt ha rfl rfl).mono fun e w2 h1 => ⟨h1.1, ext_of h1.2⟩⟩⟩
  rcases ha with h | ⟨h1, -, h3, rfl⟩
  · refine (Saved_err b p c code w' (hk.bel hw) h).mono fun e w2 h1 => ⟨?_, ext_of h1.2⟩
    rw [h1.1, if_neg h.ne, if_neg h.ne]
  · refine (Saved_yes b p c w' (hk.bel hw) h1 h3).mono fun e w2 h1 => ⟨?_, ext_of h1.2⟩
    rw [h1.1, if_pos rfl, if_pos rfl]
theorem empty_is (b : Sn) (code : Int) : ∃ n c, EmptyIs b code n c := by
  by_cases h : code = 0
  · rcases emptyN b with ⟨k, h1, h2, h3⟩ | h1
    · exact ⟨k, 0, .inr ⟨h, .inl ⟨k, h1, h2, h3, rfl, rfl⟩⟩⟩
    · exact ⟨0, 4, .inr ⟨h, .inr ⟨h1, rfl, rfl⟩⟩⟩
  · exact ⟨0, code, .inl ⟨h, rfl, rfl⟩⟩
theorem empty_both (b : Sn) (p : Option Addr) (c : Nat) (w : World) (hk : SBk w b p) (hc : SBc b p c) : ∃ (n m : Int), ∀ w', Below w.heap.size w w' →
    (Calls Tryd.prog 25 #[bV b p c] w' fun e w2 => e = .returned (.tuple #[.int .i64 n, .int .i64 m]) ∧ ∃ x, w2 = ext w' x) ∧
    (Calls Tryd.prog 26 #[bV b p c] w' fun e w2 => e = .returned (.tuple #[.int .i64 n, .int .i64 m]) ∧ ∃ x, w2 = ext w' x) := by
  obtain ⟨code, ha⟩ := asks_some b true
  obtain ⟨n, m, he⟩ := empty_is b code
  refine ⟨n, m, fun w' hw => ⟨?_, (Empty_r b p c code w' (hk.bel hw).nt hc ha).mono fun e w2 ⟨n', m', h1, h2, h3⟩ => ?_⟩⟩
  · rcases ha with h | ⟨h1, -, h3, rfl⟩
    · refine (Empty_err b p c code w' (hk.bel hw) h).mono fun e w2 h1 => ⟨?_, ext_of h1.2⟩
      obtain ⟨e1, e2⟩ := he.uniq (.inl ⟨h.ne, rfl, rfl⟩)
      rw [h1.1, e1, e2]
    · refine (Empty_yes b p c w' (hk.bel hw) h1 h3).mono fun e w2 h1 => ⟨?_, ext_of h1.2⟩
      rcases h1.1 with ⟨k, k1, k2, k3, k4⟩ | ⟨k1, k2⟩
      · obtain ⟨e1, e2⟩ := he.uniq (.inr ⟨rfl, .inl ⟨k, k1, k2, k3, rfl, rfl⟩⟩)
        rw [k4, e1, e2]
      · obtain ⟨e1, e2⟩ := he.uniq (.inr ⟨rfl, .inr ⟨k1, rfl, rfl⟩⟩)
        rw [k2, e1, e2]
  · obtain ⟨e1, e2⟩ := he.uniq h2
    exact ⟨by rw [h1, e1, e2], ext_of h3⟩
theorem fits_both (b : Sn) (p : Option Addr) (c : Nat) (s : Nt) (w : World) (hk : SBk w b p) (hc : SBc b p c) : ∃ (q : Bool) (n : Int), ∀ w', Below w.heap.size w w' →
    (Calls Tryd.prog 29 #[bV b p c, .agg (ntC s)] w' fun e w2 => e = .returned (.tuple #[.bool q, .int .i64 n]) ∧ ∃ x, w2 = ext w' x) ∧
    (Calls Tryd.prog 30 #[bV b p c, .agg (ntC s)] w' fun e w2 => e = .returned (.tuple #[.bool q, .int .i64 n]) ∧ ∃ x, w2 = ext w' x) := by
  obtain ⟨q, n, hf⟩ := fits_some b s
  refine ⟨q, n, fun w' hw => ⟨?_, (Fits_r b p c s q n w' (hk.bel hw).nt hf).mono fun e w2 h1 => ⟨h1.1, ext_of h1.2⟩⟩⟩
  rcases hf with ⟨hv, rfl, rfl⟩ | ⟨hv, hn, rfl, rfl⟩ | ⟨hv, hn, rfl, rfl⟩
  · exact (Fits_bad b p c s w' (hk.bel hw) hv).mono fun e w2 h1 => ⟨h1.1, ext_of h1.2⟩
  · exact (Fits_ask b p c s w' (hk.bel hw) hv hn).mono fun e w2 h1 => ⟨h1.1, ext_of h1.2⟩
  · exact (Fits_ok b p c s w' (hk.bel hw) hc hv hn).mono fun e w2 h1 => ⟨h1.1, ext_of h1.2⟩
end Go.Proofs.YtjjfpbjdcmkkhaaDoor

namespace Go.Proofs.YtjjfpbjdcmkkhaaDoor
open Go Go.RowKit Go.Shelf
attribute [local go_sem] Oper.semAt_some frozen_alloc_lt
set_option maxRecDepth 100000 in
set_option maxHeartbeats 8000000 in
theorem SeineSaves_any (b : Sn) (p : Option Addr) (c : Nat) (s : Nt) (w : World) (hk : SBk w b p) (hc : SBc b p c) :
    Calls Tryd.prog 4 #[bV b p c, .agg (ntC s)] w fun e w' => e = .returned (.bool true) ∧ ∃ x, w' = ext w x := by
  obtain ⟨r1, e1, h1⟩ := empty_both b p c w hk hc
  obtain ⟨s1, s2, e2, h2⟩ := saved_both b p c w hk
  obtain ⟨r3, e3, h3⟩ := fits_both b p c s w hk hc
  have H1 := Lib.hid h1
  have H2 := Lib.hid h2
  have H3 := Lib.hid h3
  have HM := Lib.hid hk.mm
  clear h1 h2 h3 hk hc
  go_enter Tryd.func4, Tryd.ntmps4
  go_upto_region 1 with fail
  generalize hX : (w.alloc _).alloc _ = W0
  have hB : Below w.heap.size w W0 := by rw [← hX]; (repeat (first | (with_reducible exact Below.refl _ _) | (with_reducible assumption) | ((with_reducible refine below_ext_trans ?_ ?_ _); rotate_left; focus (((try dsimp only); repeat (first | omega | simp only [World.size_alloc, World.size_setCell, World.size_drew] | (with_reducible refine le_ext_of ?_) | (with_reducible refine le_ext_add ?_))); done)) | ((with_reducible refine Below.alloc ?_ ?_ _); rotate_left; focus (((try dsimp only); repeat (first | omega | simp only [World.size_alloc, World.size_setCell, World.size_drew] | (with_reducible refine le_ext_of ?_) | (with_reducible refine le_ext_add ?_))); done)) | ((with_reducible refine Below.setCell ?_ ?_ _); rotate_left; focus (((try dsimp only); repeat (first | omega | simp only [World.size_alloc, World.size_setCell, World.size_drew] | (with_reducible refine le_ext_of ?_) | (with_reducible refine le_ext_add ?_))); done)) | (with_reducible refine Below.drew ?_)))
  have Nb := Lib.hid (show Blk W0 w.heap.size 26 #[.int .i64 b.lo, .int .i64 b.hi, .slice p b.ns.length c] by rw [← hX]; exact (Blk.new rfl).alloc _)
  have Nn := Lib.hid (show Blk W0 (w.heap.size + 1) 38 #[.int .i64 s.kind, .int .i64 s.hour, .int .i64 s.lo, .int .i64 s.hi] by rw [← hX]; exact Blk.new (by simp))
  have HB0 := Lib.hid hB
  clear hX hB
  have qb0 := Nb.out.cell 0
  have qb1 := Nb.out.cell 1
  have qb2 := Nb.out.cell 2
  have lb := Nb.out.lt
  have qn0 := Nn.out.cell 0
  have qn1 := Nn.out.cell 1
  have qn2 := Nn.out.cell 2
  have qn3 := Nn.out.cell 3
  have ln := Nn.out.lt
  simp only [List.size_toArray, List.length_cons, List.length_nil, Nat.reduceAdd, Nat.reduceLT, getElem?_pos, List.getElem_toArray, List.getElem_cons_zero, List.getElem_cons_succ] at qb0 qb1 qb2 qn0 qn1 qn2 qn3
  go_upto_region 2 with (go_at_call 25; refine ((H1.out _ HB0.out).1).mono ?_; rintro e w1 ⟨rfl, y1, rfl⟩)
  go_upto_region 3 with (go_at_call 26; refine ((H1.out _ (HB0.out.trans ((below_ext _ y1).mono HB0.out.size))).2).mono ?_; rintro e w1 ⟨rfl, y2, rfl⟩)
  clear qb0 qb1 qb2 lb qn0 qn1 qn2 qn3 ln
  generalize hX : ext W0 (y1.comp y2) = X1 at *
  have hBX : Below w.heap.size W0 X1 := by rw [← hX]; exact (below_ext _ _).mono HB0.out.size
  have HB1 := Lib.hid (HB0.out.trans hBX)
  have Mb := Lib.hid (show Blk X1 w.heap.size 26 #[.int .i64 b.lo, .int .i64 b.hi, .slice p b.ns.length c] by rw [← hX]; exact Nb.out.ext _)
  have Mn := Lib.hid (show Blk X1 (w.heap.size + 1) 38 #[.int .i64 s.kind, .int .i64 s.hour, .int .i64 s.lo, .int .i64 s.hi] by rw [← hX]; exact Nn.out.ext _)
  clear hX hBX HB0 Nb Nn
  have Nb := Mb
  have Nn := Mn
  clear Mb Mn
  have qb0 := Nb.out.cell 0
  have qb1 := Nb.out.cell 1
  have qb2 := Nb.out.cell 2
  have lb := Nb.out.lt
  have qn0 := Nn.out.cell 0
  have qn1 := Nn.out.cell 1
  have qn2 := Nn.out.cell 2
  have qn3 := Nn.out.cell 3
  have ln := Nn.out.lt
  simp only [List.size_toArray, List.length_cons, List.length_nil, Nat.reduceAdd, Nat.reduceLT, getElem?_pos, List.getElem_toArray, List.getElem_cons_zero, List.getElem_cons_succ] at qb0 qb1 qb2 qn0 qn1 qn2 qn3
  go_upto_region 6 with (go_at_call 27; refine ((H2.out _ HB1.out).1).mono ?_; rintro e w1 ⟨rfl, y1, rfl⟩)
  clear qb0 qb1 qb2 lb qn0 qn1 qn2 qn3 ln
  obtain ⟨gs, hg⟩ : ∃ g, g = (ext X1 y1).heap.size := ⟨_, rfl⟩
  rw [← hg]
  have HGs := Lib.hid (show (w.heap.size + 1) < gs by have h1 := (below_ext X1 y1).size; have h2 := Nn.out.lt; omega)
  generalize hX : (ext X1 y1).alloc _ = X2 at *
  have hBX : Below w.heap.size X1 X2 := by rw [← hX]; exact ((below_ext _ _).mono HB1.out.size).alloc (Nat.le_trans HB1.out.size (below_ext _ _).size) _
  have HB2 := Lib.hid (HB1.out.trans hBX)
  have Mb := Lib.hid (show Blk X2 w.heap.size 26 #[.int .i64 b.lo, .int .i64 b.hi, .slice p b.ns.length c] by rw [← hX]; exact (Nb.out.ext _).alloc _)
  have Mn := Lib.hid (show Blk X2 (w.heap.size + 1) 38 #[.int .i64 s.kind, .int .i64 s.hour, .int .i64 s.lo, .int .i64 s.hi] by rw [← hX]; exact (Nn.out.ext _).alloc _)
  have Ns := Lib.hid (show Blk X2 gs 23 #[.int .i64 s1, .int .i64 s2] by rw [← hX]; exact Blk.new hg)
  clear hX hBX HB1 Nb Nn hg
  have Nb := Mb
  have Nn := Mn
  clear Mb Mn
  have qb0 := Nb.out.cell 0
  have qb1 := Nb.out.cell 1
  have qb2 := Nb.out.cell 2
  have lb := Nb.out.lt
  have qn0 := Nn.out.cell 0
  have qn1 := Nn.out.cell 1
  have qn2 := Nn.out.cell 2
  have qn3 := Nn.out.cell 3
  have ln := Nn.out.lt
  have qs0 := Ns.out.cell 0
  have qs1 := Ns.out.cell 1
  have fs0 := Ns.out.frozen 0
  have fs1 := Ns.out.frozen 1
  have ls := Ns.out.lt
  simp only [List.size_toArray, List.length_cons, List.length_nil, Nat.reduceAdd, Nat.reduceLT, getElem?_pos, List.getElem_toArray, List.getElem_cons_zero, List.getElem_cons_succ] at qb0 qb1 qb2 qn0 qn1 qn2 qn3 qs0 qs1
  go_upto_region 7 with (go_at_call 28; refine ((H2.out _ HB2.out).2).mono ?_; rintro e w1 ⟨rfl, y1, rfl⟩)
  clear qb0 qb1 qb2 lb qn0 qn1 qn2 qn3 ln qs0 fs0 qs1 fs1 ls
  obtain ⟨gt, hg⟩ : ∃ g, g = (ext X2 y1).heap.size := ⟨_, rfl⟩
  rw [← hg]
  have HGt := Lib.hid (show gs < gt by have h1 := (below_ext X2 y1).size; have h2 := Ns.out.lt; omega)
  generalize hX : (ext X2 y1).alloc _ = X3 at *
  have hBX : Below w.heap.size X2 X3 := by rw [← hX]; exact ((below_ext _ _).mono HB2.out.size).alloc (Nat.le_trans HB2.out.size (below_ext _ _).size) _
  have HB3 := Lib.hid (HB2.out.trans hBX)
  have Mb := Lib.hid (show Blk X3 w.heap.size 26 #[.int .i64 b.lo, .int .i64 b.hi, .slice p b.ns.length c] by rw [← hX]; exact (Nb.out.ext _).alloc _)
  have Mn := Lib.hid (show Blk X3 (w.heap.size + 1) 38 #[.int .i64 s.kind, .int .i64 s.hour, .int .i64 s.lo, .int .i64 s.hi] by rw [← hX]; exact (Nn.out.ext _).alloc _)
  have Ms := Lib.hid (show Blk X3 gs 23 #[.int .i64 s1, .int .i64 s2] by rw [← hX]; exact (Ns.out.ext _).alloc _)
  have Nt := Lib.hid (show Blk X3 gt 23 #[.int .i64 s1, .int .i64 s2] by rw [← hX]; exact Blk.new hg)
  clear hX hBX HB2 Nb Nn Ns hg
  have Nb := Mb
  have Nn := Mn
  have Ns := Ms
  clear Mb Mn Ms
  have qb0 := Nb.out.cell 0
  have qb1 := Nb.out.cell 1
  have qb2 := Nb.out.cell 2
  have lb := Nb.out.lt
  have qn0 := Nn.out.cell 0
  have qn1 := Nn.out.cell 1
  have qn2 := Nn.out.cell 2
  have qn3 := Nn.out.cell 3
  have ln := Nn.out.lt
  have qs0 := Ns.out.cell 0
  have qs1 := Ns.out.cell 1
  have fs0 := Ns.out.frozen 0
  have fs1 := Ns.out.frozen 1
  have ls := Ns.out.lt
  have qt0 := Nt.out.cell 0
  have qt1 := Nt.out.cell 1
  have ft0 := Nt.out.frozen 0
  have ft1 := Nt.out.frozen 1
  have lt := Nt.out.lt
  simp only [List.size_toArray, List.length_cons, List.length_nil, Nat.reduceAdd, Nat.reduceLT, getElem?_pos, List.getElem_toArray, List.getElem_cons_zero, List.getElem_cons_succ] at qb0 qb1 qb2 qn0 qn1 qn2 qn3 qs0 qs1 qt0 qt1
  go_upto_region 10 with (go_at_call 29; refine ((H3.out _ HB3.out).1).mono ?_; rintro e w1 ⟨rfl, y1, rfl⟩)
  go_upto_region 11 with (go_at_call 30; refine ((H3.out _ (HB3.out.trans ((below_ext _ y1).mono HB3.out.size))).2).mono ?_; rintro e w1 ⟨rfl, y2, rfl⟩)
  clear qb0 qb1 qb2 lb qn0 qn1 qn2 qn3 ln qs0 fs0 qs1 fs1 ls qt0 ft0 qt1 ft1 lt
  generalize hX : ext X3 (y1.comp y2) = X4 at *
  have hBX : Below w.heap.size X3 X4 := by rw [← hX]; exact (below_ext _ _).mono HB3.out.size
  have HB4 := Lib.hid (HB3.out.trans hBX)
  have Mb := Lib.hid (show Blk X4 w.heap.size 26 #[.int .i64 b.lo, .int .i64 b.hi, .slice p b.ns.length c] by rw [← hX]; exact Nb.out.ext _)
  have Mn := Lib.hid (show Blk X4 (w.heap.size + 1) 38 #[.int .i64 s.kind, .int .i64 s.hour, .int .i64 s.lo, .int .i64 s.hi] by rw [← hX]; exact Nn.out.ext _)
  have Ms := Lib.hid (show Blk X4 gs 23 #[.int .i64 s1, .int .i64 s2] by rw [← hX]; exact Ns.out.ext _)
  have Mt := Lib.hid (show Blk X4 gt 23 #[.int .i64 s1, .int .i64 s2] by rw [← hX]; exact Nt.out.ext _)
  clear hX hBX HB3 Nb Nn Ns Nt
  have Nb := Mb
  have Nn := Mn
  have Ns := Ms
  have Nt := Mt
  clear Mb Mn Ms Mt
  have qb0 := Nb.out.cell 0
  have qb1 := Nb.out.cell 1
  have qb2 := Nb.out.cell 2
  have lb := Nb.out.lt
  have qn0 := Nn.out.cell 0
  have qn1 := Nn.out.cell 1
  have qn2 := Nn.out.cell 2
  have qn3 := Nn.out.cell 3
  have ln := Nn.out.lt
  have qs0 := Ns.out.cell 0
  have qs1 := Ns.out.cell 1
  have fs0 := Ns.out.frozen 0
  have fs1 := Ns.out.frozen 1
  have ls := Ns.out.lt
  have qt0 := Nt.out.cell 0
  have qt1 := Nt.out.cell 1
  have ft0 := Nt.out.frozen 0
  have ft1 := Nt.out.frozen 1
  have lt := Nt.out.lt
  simp only [List.size_toArray, List.length_cons, List.length_nil, Nat.reduceAdd, Nat.reduceLT, getElem?_pos, List.getElem_toArray, List.getElem_cons_zero, List.getElem_cons_succ] at qb0 qb1 qb2 qn0 qn1 qn2 qn3 qs0 qs1 qt0 qt1
  go_wp2_with (go_at_call 24; refine (sounded_any _ (HM.out.below (HB4.out.trans (Below.mono (by (repeat (first | (with_reducible exact Below.refl _ _) | (with_reducible assumption) | ((with_reducible refine below_ext_trans ?_ ?_ _); rotate_left; focus (((try dsimp only); repeat (first | omega | simp only [World.size_alloc, World.size_setCell, World.size_drew] | (with_reducible refine le_ext_of ?_) | (with_reducible refine le_ext_add ?_))); done)) | ((with_reducible refine Below.alloc ?_ ?_ _); rotate_left; focus (((try dsimp only); repeat (first | omega | simp only [World.size_alloc, World.size_setCell, World.size_drew] | (with_reducible refine le_ext_of ?_) | (with_reducible refine le_ext_add ?_))); done)) | ((with_reducible refine Below.setCell ?_ ?_ _); rotate_left; focus (((try dsimp only); repeat (first | omega | simp only [World.size_alloc, World.size_setCell, World.size_drew] | (with_reducible refine le_ext_of ?_) | (with_reducible refine le_ext_add ?_))); done)) | (with_reducible refine Below.drew ?_)))) HB4.out.size)))).mono ?_; rintro e w1 ⟨rfl, y, rfl⟩)
  go_ret
  exact ⟨rfl, ext_of (HB4.out.trans (Below.mono (by (repeat (first | (with_reducible exact Below.refl _ _) | (with_reducible assumption) | ((with_reducible refine below_ext_trans ?_ ?_ _); rotate_left; focus (((try dsimp only); repeat (first | omega | simp only [World.size_alloc, World.size_setCell, World.size_drew] | (with_reducible refine le_ext_of ?_) | (with_reducible refine le_ext_add ?_))); done)) | ((with_reducible refine Below.alloc ?_ ?_ _); rotate_left; focus (((try dsimp only); repeat (first | omega | simp only [World.size_alloc, World.size_setCell, World.size_drew] | (with_reducible refine le_ext_of ?_) | (with_reducible refine le_ext_add ?_))); done)) | ((with_reducible refine Below.setCell ?_ ?_ _); rotate_left; focus (((try dsimp only); repeat (first | omega | simp only [World.size_alloc, World.size_setCell, World.size_drew] | (with_reducible refine le_ext_of ?_) | (with_reducible refine le_ext_add ?_))); done)) | (with_reducible refine Below.drew ?_)))) HB4.out.size))⟩
end Go.Proofs.YtjjfpbjdcmkkhaaDoor

