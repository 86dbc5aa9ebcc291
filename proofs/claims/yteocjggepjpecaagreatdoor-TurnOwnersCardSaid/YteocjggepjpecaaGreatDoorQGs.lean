/- TurnOwners' walk: what the program and the reference answer alike. -/
/- TurnOwners' walk: the law itself. -/
import Derived.Test.YteocjggepjpecaaGreatDoorQGq
import Derived.Test.YteocjggepjpecaaGreatDoorQBa
import Derived.Test.YteocjggepjpecaaGreatDoorQGj
import Derived.Test.YteocjggepjpecaaGreatDoorQVe
import Derived.Test.YteocjggepjpecaaGreatDoorQWe
set_option linter.unusedSimpArgs false
set_option linter.unusedVariables false
namespace Go.Proofs.YteocjggepjpecaaGreatDoor
open Go Go.RowKit

theorem turn_both (h : Hd) (b : Bk) (m : Int) (w : World) (hb : BkAt w h b) (hn : NB w) : ∃ x y c : Int, ∀ w', Below w.heap.size w w' →
    (Calls Tryz.prog 6 #[.agg #[.int .i64 b.n, .slice h.pb b.bs.length h.cb, .slice h.po b.os.length h.co, .slice h.ps b.ss.length h.cs], .int .i64 m] w' fun e w2 => e = .returned (.tuple #[.agg #[.int .i64 x, .int .i64 y], .int .i64 c]) ∧ ∃ x, w2 = ext w' x) ∧
    (Calls Tryz.prog 7 #[.agg #[.int .i64 b.n, .slice h.pb b.bs.length h.cb, .slice h.po b.os.length h.co, .slice h.ps b.ss.length h.cs], .int .i64 m] w' fun e w2 => e = .returned (.tuple #[.agg #[.int .i64 x, .int .i64 y], .int .i64 c]) ∧ ∃ x, w2 = ext w' x) := by
  cases hv : bookB b
  · exact ⟨0, 0, 20, fun w' hw => ⟨Turn_err h b m 20 w' (by decide) (OpenErr.bad _ (hb.below hw) hv), rTurn_err h b m 20 w' (hb.below hw) (ask_bad hv _) (.inl rfl)⟩⟩
  · cases hq : isN m 1440
    · exact ⟨0, 0, 21, fun w' hw => ⟨Turn_err h b m 21 w' (by decide) (OpenErr.ask (hb.below hw) hv hq), rTurn_err h b m 21 w' (hb.below hw) (ask_ok hv hq) (.inr rfl)⟩⟩
    · have hm := of_isN hq
      have h4 := (bookB_bounds hv).1
      have e1 : cnt [kspec b.bs 2 0 4, kspec b.bs 2 0 5, kspec b.bs 2 0 6, kspec b.bs 2 0 7] m = cnt (b.bs.map Prod.snd) m := by
        have e := late_tl b.bs
        unfold lateL at e
        rw [e]; exact cnt_tl _ (by simpa using h4) _ (by omega)
      have e2 : cnt [kspec b.bs 2 0 0, kspec b.bs 2 0 1, kspec b.bs 2 0 2, kspec b.bs 2 0 3] m = cnt (b.bs.map Prod.fst) m := by
        have e := soon_tl b.bs
        unfold soonL at e
        rw [e]; exact cnt_tl _ (by simpa using h4) _ (by omega)
      refine ⟨_, _, 0, fun w' hw => ⟨Turn_yes h b m w' (hb.below hw) hv (hn.below hw) hq, ?_⟩⟩
      rw [e1, e2]
      exact rTurn_yes h b m w' (hb.below hw) hv hq
theorem check_both (h : Hd) (b : Bk) (w : World) (hb : BkAt w h b) : ∃ c : Int, ∀ w', Below w.heap.size w w' →
    (Calls Tryz.prog 8 #[.agg #[.int .i64 b.n, .slice h.pb b.bs.length h.cb, .slice h.po b.os.length h.co, .slice h.ps b.ss.length h.cs]] w' fun e w2 => e = .returned (.int .i64 c) ∧ ∃ x, w2 = ext w' x) ∧
    (Calls Tryz.prog 9 #[.agg #[.int .i64 b.n, .slice h.pb b.bs.length h.cb, .slice h.po b.os.length h.co, .slice h.ps b.ss.length h.cs]] w' fun e w2 => e = .returned (.int .i64 c) ∧ ∃ x, w2 = ext w' x) := by
  cases hv : bookB b
  · exact ⟨20, fun w' hw => ⟨Check_no h b w' (hb.below hw) hv, Check_eq h b 20 w' (hb.below hw) (by rw [hv]; rfl)⟩⟩
  · exact ⟨0, fun w' hw => ⟨Check_yes h b w' (hb.below hw) hv, Check_eq h b 0 w' (hb.below hw) (by rw [hv]; rfl)⟩⟩
theorem owners_both (h : Hd) (b : Bk) (st m : Int) (w : World) (hb : BkAt w h b) (hn : NB w) : ∃ (l : List Int) (c : Int), (l.length : Int) ≤ 1000 ∧ ∀ w', Below w.heap.size w w' →
    (Calls Tryz.prog 10 #[.agg #[.int .i64 b.n, .slice h.pb b.bs.length h.cb, .slice h.po b.os.length h.co, .slice h.ps b.ss.length h.cs], .int .i64 st, .int .i64 m] w' (ListC l c w')) ∧
    (Calls Tryz.prog 11 #[.agg #[.int .i64 b.n, .slice h.pb b.bs.length h.cb, .slice h.po b.os.length h.co, .slice h.ps b.ss.length h.cs], .int .i64 st, .int .i64 m] w' (ListC l c w')) := by
  cases hv : bookB b
  · exact ⟨[], 20, by simp, fun w' hw => ⟨(Owners_err h b st m 20 w' (by decide) (OpenErr.bad _ (hb.below hw) hv)).mono fun _ _ => listC_nil, (rOwners_err h b st m 20 w' (hb.below hw) (ask_bad hv _) (.inl rfl)).mono fun _ _ => listC_nil⟩⟩
  · have h3 := (bookB_rows hv).1
    cases hq : (isN st b.os.length && isN m 1440)
    · exact ⟨[], 21, by simp, fun w' hw => ⟨(Owners_err h b st m 21 w' (by decide) (OpenErr.ask (hb.below hw) hv hq)).mono fun _ _ => listC_nil, (rOwners_err h b st m 21 w' (hb.below hw) (ask_ok hv (by rw [shotQ_eq (by omega), hq])) (.inr rfl)).mono fun _ _ => listC_nil⟩⟩
    · simp only [Bool.and_eq_true] at hq
      have hi := of_isN hq.1
      have hm := of_isN hq.2
      obtain ⟨k, rfl⟩ := Int.eq_ofNat_of_zero_le hi.1
      have h4 := (bookB_bounds hv).1
      have e1 : cnt (lateL b.bs) m = cnt (b.bs.map Prod.snd) m := by rw [late_tl]; exact cnt_tl _ (by simpa using h4) _ (by omega)
      have e2 : cnt (soonL b.bs) m = cnt (b.bs.map Prod.fst) m := by rw [soon_tl]; exact cnt_tl _ (by simpa using h4) _ (by omega)
      refine ⟨ownersL b k (cnt (b.bs.map Prod.snd) m) (cnt (b.bs.map Prod.fst) m), 0, ?_, fun w' hw => ⟨(Owners_yes h b k m w' (hb.below hw) hv (hn.below hw) (by omega) (by omega) (by omega)).mono fun e w2 ⟨p, c, he, hI, hx⟩ => ?_, (rOwners_yes h b k m w' (hb.below hw) hv (by omega) hq.2).mono fun e w2 ⟨p, c, he, hI, hx⟩ => ⟨p, c, he, hI, hx⟩⟩⟩
      · obtain ⟨-, -, -, -, -⟩ := bookB_rows hv
        have hn1 : 1 ≤ b.n := by simp only [bookB, Bool.and_eq_true, decide_eq_true_eq] at hv; omega
        obtain ⟨n, hnn⟩ := Int.eq_ofNat_of_zero_le (show 0 ≤ b.n by omega)
        have hle := bitsL_le (setN (cosL b k m (allT b))) n
        rw [owners_same hv (by omega) hnn] at hle
        have := (bookB_rows hv).2.2.2.1
        omega
      · rw [e1, e2] at he hI
        exact ⟨p, c, he, hI, hx⟩
def SpansC (l : List (Int × Int)) (c : Int) (w : World) (e : Ending) (w' : World) : Prop := ∃ p q, e = .returned (.tuple #[.slice p l.length q, .int .i64 c]) ∧ SpansAt w' p l ∧ ∃ x, w' = ext w x
theorem spansC_nil {c : Int} {w : World} {e : Ending} {w' : World} (h : e = .returned (.tuple #[.slice none 0 0, .int .i64 c]) ∧ ∃ x, w' = ext w x) : SpansC [] c w e w' := ⟨none, 0, h.1, fun i x hx => by simp at hx, h.2⟩
theorem sure_len {b : Bk} (hv : bookB b = true) (st : Nat) (co : Int) : ((runsTo (onlyAt b st co) 1440).length : Int) ≤ 1000 := by
  have := runs_few hv st co
  have := (bookB_bounds hv).1
  omega
theorem sure_both (h : Hd) (b : Bk) (st co : Int) (w : World) (hb : BkAt w h b) (hn : NB w) : ∃ (l : List (Int × Int)) (c : Int), (l.length : Int) ≤ 1000 ∧ ∀ w', Below w.heap.size w w' →
    (Calls Tryz.prog 13 #[.agg #[.int .i64 b.n, .slice h.pb b.bs.length h.cb, .slice h.po b.os.length h.co, .slice h.ps b.ss.length h.cs], .int .i64 st, .int .i64 co] w' (SpansC l c w')) ∧
    (Calls Tryz.prog 14 #[.agg #[.int .i64 b.n, .slice h.pb b.bs.length h.cb, .slice h.po b.os.length h.co, .slice h.ps b.ss.length h.cs], .int .i64 st, .int .i64 co] w' (SpansC l c w')) := by
  cases hv : bookB b
  · exact ⟨[], 20, by simp, fun w' hw => ⟨(Sure_err h b st co 20 w' (by decide) (OpenErr.bad _ (hb.below hw) hv)).mono fun _ _ => spansC_nil, (rSure_err h b st co 20 w' (hb.below hw) (ask_bad hv _) (.inl rfl)).mono fun _ _ => spansC_nil⟩⟩
  · have h3 := (bookB_rows hv).1
    have hn4 := (bookB_rows hv).2.2.2.1
    have hn1 : 1 ≤ b.n := by simp only [bookB, Bool.and_eq_true, decide_eq_true_eq] at hv; omega
    cases hq : (isN st b.os.length && isN co b.n)
    · exact ⟨[], 21, by simp, fun w' hw => ⟨(Sure_err h b st co 21 w' (by decide) (OpenErr.ask (hb.below hw) hv hq)).mono fun _ _ => spansC_nil, (rSure_err h b st co 21 w' (hb.below hw) (ask_ok hv (by rw [shotQ_eq (by omega), coQ_eq hn1 hn4, hq])) (.inr rfl)).mono fun _ _ => spansC_nil⟩⟩
    · simp only [Bool.and_eq_true] at hq
      have hi := of_isN hq.1
      have hm := of_isN hq.2
      obtain ⟨k, rfl⟩ := Int.eq_ofNat_of_zero_le hi.1
      exact ⟨runsTo (onlyAt b k co) 1440, 0, sure_len hv k co, fun w' hw => ⟨(Sure_yes h b k co w' (hb.below hw) hv (hn.below hw) (by omega) hm.1 hm.2).mono fun e w2 ⟨p, c, he, hI, hx⟩ => ⟨p, c, he, hI, hx⟩, (rSure_yes h b k co w' (hb.below hw) hv (by omega) hq.2).mono fun e w2 ⟨p, c, he, hI, hx⟩ => ⟨p, c, he, hI, hx⟩⟩⟩
end Go.Proofs.YteocjggepjpecaaGreatDoor

namespace Go.Proofs.YteocjggepjpecaaGreatDoor
open Go Go.RowKit

theorem sameSpans_eq (p q : Option Addr) (c d : Nat) (l : List (Int × Int)) (n : Nat) (w : World) (hn : l.length = n) (hl : SpansAt w p l) (hm : SpansAt w q l) (hb : (l.length : Int) ≤ 1000) :
    Calls Tryz.prog 15 #[.slice p n c, .slice q n d] w fun e w' => e = .returned (.bool true) ∧ ∃ x, w' = ext w x := by
  subst hn
  exact (SameSpans_any p q c d l l w hl hm hb hb).mono fun e w' ⟨he, hx⟩ => ⟨by rw [he]; simp, hx⟩
attribute [local go_sem] Oper.semAt_some frozen_alloc_lt
set_option maxRecDepth 100000 in
set_option maxHeartbeats 2000000 in
theorem TurnOwners_any (h : Hd) (b : Bk) (n0 n1 n2 : Int) (w : World) (hb : BkAt w h b) (hn : NB w) :
    Calls Tryz.prog 3 #[.agg #[.int .i64 b.n, .slice h.pb b.bs.length h.cb, .slice h.po b.os.length h.co, .slice h.ps b.ss.length h.cs], .agg #[.int .i64 n0, .int .i64 n1, .int .i64 n2]] w fun e w' => e = .returned (.bool true) ∧ ∃ x, w' = ext w x := by
  obtain ⟨x1, y1, c1, h1⟩ := turn_both h b n2 w hb hn
  obtain ⟨c2, h2⟩ := check_both h b w hb
  obtain ⟨l3, c3, hl3, h3⟩ := owners_both h b n0 n2 w hb hn
  obtain ⟨l4, c4, hl4, h4⟩ := sure_both h b n0 n1 w hb hn
  have H1 := Lib.hid h1
  have H2 := Lib.hid h2
  have H3 := Lib.hid h3
  have H4 := Lib.hid h4
  have HL3 := Lib.hid hl3
  have HL4 := Lib.hid hl4
  have HN := Lib.hid hn
  clear h1 h2 h3 h4 hl3 hl4 hb hn
  generalize hm3 : l3.length = m3 at *
  generalize hm4 : l4.length = m4 at *
  have HM3 := Lib.hid hm3
  have HM4 := Lib.hid hm4
  clear hm3 hm4
  have hne : ∀ w, (Go.binOp .neq 29 (.agg #[.int .i64 x1, .int .i64 y1]) (.agg #[.int .i64 x1, .int .i64 y1])).run Tryz.prog w = .ok (.bool false) w := fun w => by rw [span_neq]; simp
  go_enter Tryz.func3, Tryz.ntmps3
  go_upto_region 2 with (go_at_call 6; refine ((H1.out _ (by (repeat (first | (with_reducible exact Below.refl _ _) | (with_reducible assumption) | ((with_reducible refine below_ext_trans ?_ ?_ _); rotate_left; focus (((try dsimp only); repeat (first | omega | simp only [World.size_alloc, World.size_setCell, World.size_drew] | (with_reducible refine le_ext_of ?_) | (with_reducible refine le_ext_add ?_))); done)) | ((with_reducible refine Below.alloc ?_ ?_ _); rotate_left; focus (((try dsimp only); repeat (first | omega | simp only [World.size_alloc, World.size_setCell, World.size_drew] | (with_reducible refine le_ext_of ?_) | (with_reducible refine le_ext_add ?_))); done)) | ((with_reducible refine Below.setCell ?_ ?_ _); rotate_left; focus (((try dsimp only); repeat (first | omega | simp only [World.size_alloc, World.size_setCell, World.size_drew] | (with_reducible refine le_ext_of ?_) | (with_reducible refine le_ext_add ?_))); done)) | (with_reducible refine Below.drew ?_))))).1).mono ?_; rintro e w1 ⟨rfl, z1, rfl⟩)
  generalize hV1 : (ext ((w.alloc _).alloc _) _).alloc _ = V1
  generalize hg : (ext ((w.alloc _).alloc _) _).heap.size = g1
  have hB1 : Below w.heap.size w V1 := by rw [← hV1]; (repeat (first | (with_reducible exact Below.refl _ _) | (with_reducible assumption) | ((with_reducible refine below_ext_trans ?_ ?_ _); rotate_left; focus (((try dsimp only); repeat (first | omega | simp only [World.size_alloc, World.size_setCell, World.size_drew] | (with_reducible refine le_ext_of ?_) | (with_reducible refine le_ext_add ?_))); done)) | ((with_reducible refine Below.alloc ?_ ?_ _); rotate_left; focus (((try dsimp only); repeat (first | omega | simp only [World.size_alloc, World.size_setCell, World.size_drew] | (with_reducible refine le_ext_of ?_) | (with_reducible refine le_ext_add ?_))); done)) | ((with_reducible refine Below.setCell ?_ ?_ _); rotate_left; focus (((try dsimp only); repeat (first | omega | simp only [World.size_alloc, World.size_setCell, World.size_drew] | (with_reducible refine le_ext_of ?_) | (with_reducible refine le_ext_add ?_))); done)) | (with_reducible refine Below.drew ?_)))
  have kb : Blk V1 w.heap.size 26 #[.int .i64 b.n, .slice h.pb b.bs.length h.cb, .slice h.po b.os.length h.co, .slice h.ps b.ss.length h.cs] := by rw [← hV1]; exact (((Blk.new rfl).alloc _).ext _).alloc _
  have kn : Blk V1 (w.heap.size + 1) 27 #[.int .i64 n0, .int .i64 n1, .int .i64 n2] := by rw [← hV1]; exact ((Blk.new (by simp)).ext _).alloc _
  have k1 : Blk V1 g1 29 #[.int .i64 x1, .int .i64 y1] := by rw [← hV1]; exact Blk.new hg.symm
  have HB1 := Lib.hid hB1
  have KB := Lib.hid kb
  have KN := Lib.hid kn
  have K1 := Lib.hid k1
  have hz1 := hB1.size
  clear hV1 hg hB1 kb kn k1
  have hl := KB.out.lt
  have hln := KN.out.lt
  have d0 := KB.out.cell 0
  have d1 := KB.out.cell 1
  have d2 := KB.out.cell 2
  have d3 := KB.out.cell 3
  have m0 := KN.out.cell 0
  have m1 := KN.out.cell 1
  have m2 := KN.out.cell 2
  simp only [List.size_toArray, List.length_cons, List.length_nil, Nat.reduceAdd, Nat.reduceLT, getElem?_pos, List.getElem_toArray, List.getElem_cons_zero, List.getElem_cons_succ] at d0 d1 d2 d3 m0 m1 m2
  go_upto_region 3 with (go_at_call 7; refine ((H1.out _ (HB1.out.trans (Below.mono (by (repeat (first | (with_reducible exact Below.refl _ _) | (with_reducible assumption) | ((with_reducible refine below_ext_trans ?_ ?_ _); rotate_left; focus (((try dsimp only); repeat (first | omega | simp only [World.size_alloc, World.size_setCell, World.size_drew] | (with_reducible refine le_ext_of ?_) | (with_reducible refine le_ext_add ?_))); done)) | ((with_reducible refine Below.alloc ?_ ?_ _); rotate_left; focus (((try dsimp only); repeat (first | omega | simp only [World.size_alloc, World.size_setCell, World.size_drew] | (with_reducible refine le_ext_of ?_) | (with_reducible refine le_ext_add ?_))); done)) | ((with_reducible refine Below.setCell ?_ ?_ _); rotate_left; focus (((try dsimp only); repeat (first | omega | simp only [World.size_alloc, World.size_setCell, World.size_drew] | (with_reducible refine le_ext_of ?_) | (with_reducible refine le_ext_add ?_))); done)) | (with_reducible refine Below.drew ?_)))) HB1.out.size))).2).mono ?_; rintro e w1 ⟨rfl, y2, rfl⟩)
  generalize hV2 : (ext V1 _).alloc _ = V2
  generalize hg : (ext V1 _).heap.size = g2
  have hB2 : Below V1.heap.size V1 V2 := by rw [← hV2]; (repeat (first | (with_reducible exact Below.refl _ _) | (with_reducible assumption) | ((with_reducible refine below_ext_trans ?_ ?_ _); rotate_left; focus (((try dsimp only); repeat (first | omega | simp only [World.size_alloc, World.size_setCell, World.size_drew] | (with_reducible refine le_ext_of ?_) | (with_reducible refine le_ext_add ?_))); done)) | ((with_reducible refine Below.alloc ?_ ?_ _); rotate_left; focus (((try dsimp only); repeat (first | omega | simp only [World.size_alloc, World.size_setCell, World.size_drew] | (with_reducible refine le_ext_of ?_) | (with_reducible refine le_ext_add ?_))); done)) | ((with_reducible refine Below.setCell ?_ ?_ _); rotate_left; focus (((try dsimp only); repeat (first | omega | simp only [World.size_alloc, World.size_setCell, World.size_drew] | (with_reducible refine le_ext_of ?_) | (with_reducible refine le_ext_add ?_))); done)) | (with_reducible refine Below.drew ?_)))
  have k2 : Blk V2 g2 29 #[.int .i64 x1, .int .i64 y1] := by rw [← hV2]; exact Blk.new hg.symm
  have HB2 := Lib.hid (HB1.out.trans (hB2.mono HB1.out.size))
  have KB2 := Lib.hid (KB.out.bel hB2)
  have KN2 := Lib.hid (KN.out.bel hB2)
  have K12 := Lib.hid (K1.out.bel hB2)
  have K22 := Lib.hid k2
  clear hV2 hg hB2 k2 d0 d1 d2 d3 m0 m1 m2 hl hln
  have hl := KB2.out.lt
  have hln := KN2.out.lt
  have hl1 := K12.out.lt
  have hl2 := K22.out.lt
  have d0 := KB2.out.cell 0
  have d1 := KB2.out.cell 1
  have d2 := KB2.out.cell 2
  have d3 := KB2.out.cell 3
  have e0 := K12.out.cell 0
  have e1 := K12.out.cell 1
  have f0 := K22.out.cell 0
  have f1 := K22.out.cell 1
  simp only [List.size_toArray, List.length_cons, List.length_nil, Nat.reduceAdd, Nat.reduceLT, getElem?_pos, List.getElem_toArray, List.getElem_cons_zero, List.getElem_cons_succ] at d0 d1 d2 d3 e0 e1 f0 f1
  refine wp_region_ext (by kernel_rfl) (by kernel_rfl) ?_
  repeat (go_big_quiet_step (fail))
  go_big_quiet_step ((go_at_call 8; exact quiet_ext ((H2.out _ (HB2.out.trans (Below.mono (by (repeat (first | (with_reducible exact Below.refl _ _) | (with_reducible assumption) | ((with_reducible refine below_ext_trans ?_ ?_ _); rotate_left; focus (((try dsimp only); repeat (first | omega | simp only [World.size_alloc, World.size_setCell, World.size_drew] | (with_reducible refine le_ext_of ?_) | (with_reducible refine le_ext_add ?_))); done)) | ((with_reducible refine Below.alloc ?_ ?_ _); rotate_left; focus (((try dsimp only); repeat (first | omega | simp only [World.size_alloc, World.size_setCell, World.size_drew] | (with_reducible refine le_ext_of ?_) | (with_reducible refine le_ext_add ?_))); done)) | ((with_reducible refine Below.setCell ?_ ?_ _); rotate_left; focus (((try dsimp only); repeat (first | omega | simp only [World.size_alloc, World.size_setCell, World.size_drew] | (with_reducible refine le_ext_of ?_) | (with_reducible refine le_ext_add ?_))); done)) | (with_reducible refine Below.drew ?_)))) HB2.out.size))).1)))
  repeat (go_big_quiet_step (fail))
  go_big_quiet_step ((go_at_call 9; exact quiet_ext ((H2.out _ (HB2.out.trans (Below.mono (by (repeat (first | (with_reducible exact Below.refl _ _) | (with_reducible assumption) | ((with_reducible refine below_ext_trans ?_ ?_ _); rotate_left; focus (((try dsimp only); repeat (first | omega | simp only [World.size_alloc, World.size_setCell, World.size_drew] | (with_reducible refine le_ext_of ?_) | (with_reducible refine le_ext_add ?_))); done)) | ((with_reducible refine Below.alloc ?_ ?_ _); rotate_left; focus (((try dsimp only); repeat (first | omega | simp only [World.size_alloc, World.size_setCell, World.size_drew] | (with_reducible refine le_ext_of ?_) | (with_reducible refine le_ext_add ?_))); done)) | ((with_reducible refine Below.setCell ?_ ?_ _); rotate_left; focus (((try dsimp only); repeat (first | omega | simp only [World.size_alloc, World.size_setCell, World.size_drew] | (with_reducible refine le_ext_of ?_) | (with_reducible refine le_ext_add ?_))); done)) | (with_reducible refine Below.drew ?_)))) HB2.out.size))).2)))
  repeat (go_big_quiet_step (fail))
  refine wpQuiet_nil ?_
  rintro V3 ⟨z3, hV3⟩
  have hB3 : Below V2.heap.size V2 V3 := by rw [hV3]; (repeat (first | (with_reducible exact Below.refl _ _) | (with_reducible assumption) | ((with_reducible refine below_ext_trans ?_ ?_ _); rotate_left; focus (((try dsimp only); repeat (first | omega | simp only [World.size_alloc, World.size_setCell, World.size_drew] | (with_reducible refine le_ext_of ?_) | (with_reducible refine le_ext_add ?_))); done)) | ((with_reducible refine Below.alloc ?_ ?_ _); rotate_left; focus (((try dsimp only); repeat (first | omega | simp only [World.size_alloc, World.size_setCell, World.size_drew] | (with_reducible refine le_ext_of ?_) | (with_reducible refine le_ext_add ?_))); done)) | ((with_reducible refine Below.setCell ?_ ?_ _); rotate_left; focus (((try dsimp only); repeat (first | omega | simp only [World.size_alloc, World.size_setCell, World.size_drew] | (with_reducible refine le_ext_of ?_) | (with_reducible refine le_ext_add ?_))); done)) | (with_reducible refine Below.drew ?_)))
  have HB3 := Lib.hid (HB2.out.trans (hB3.mono HB2.out.size))
  have KB3 := Lib.hid (KB2.out.bel hB3)
  have KN3 := Lib.hid (KN2.out.bel hB3)
  clear hV3 hB3 d0 d1 d2 d3 e0 e1 f0 f1 hl hln hl1 hl2 hne K12 K22 K1
  have hl := KB3.out.lt
  have hln := KN3.out.lt
  have d0 := KB3.out.cell 0
  have d1 := KB3.out.cell 1
  have d2 := KB3.out.cell 2
  have d3 := KB3.out.cell 3
  have m0 := KN3.out.cell 0
  have m1 := KN3.out.cell 1
  have m2 := KN3.out.cell 2
  simp only [List.size_toArray, List.length_cons, List.length_nil, Nat.reduceAdd, Nat.reduceLT, getElem?_pos, List.getElem_toArray, List.getElem_cons_zero, List.getElem_cons_succ] at d0 d1 d2 d3 m0 m1 m2
  go_upto_region 6 with (go_at_call 10; refine ((H3.out _ (HB3.out.trans (Below.mono (by (repeat (first | (with_reducible exact Below.refl _ _) | (with_reducible assumption) | ((with_reducible refine below_ext_trans ?_ ?_ _); rotate_left; focus (((try dsimp only); repeat (first | omega | simp only [World.size_alloc, World.size_setCell, World.size_drew] | (with_reducible refine le_ext_of ?_) | (with_reducible refine le_ext_add ?_))); done)) | ((with_reducible refine Below.alloc ?_ ?_ _); rotate_left; focus (((try dsimp only); repeat (first | omega | simp only [World.size_alloc, World.size_setCell, World.size_drew] | (with_reducible refine le_ext_of ?_) | (with_reducible refine le_ext_add ?_))); done)) | ((with_reducible refine Below.setCell ?_ ?_ _); rotate_left; focus (((try dsimp only); repeat (first | omega | simp only [World.size_alloc, World.size_setCell, World.size_drew] | (with_reducible refine le_ext_of ?_) | (with_reducible refine le_ext_add ?_))); done)) | (with_reducible refine Below.drew ?_)))) HB3.out.size))).1).mono ?_; rintro e w1 ⟨p3, q3, rfl, hi3, y3, rfl⟩)
  simp only [HM3.out]
  go_upto_region 7 with (go_at_call 11; refine ((H3.out _ (HB3.out.trans (Below.mono (by (repeat (first | (with_reducible exact Below.refl _ _) | (with_reducible assumption) | ((with_reducible refine below_ext_trans ?_ ?_ _); rotate_left; focus (((try dsimp only); repeat (first | omega | simp only [World.size_alloc, World.size_setCell, World.size_drew] | (with_reducible refine le_ext_of ?_) | (with_reducible refine le_ext_add ?_))); done)) | ((with_reducible refine Below.alloc ?_ ?_ _); rotate_left; focus (((try dsimp only); repeat (first | omega | simp only [World.size_alloc, World.size_setCell, World.size_drew] | (with_reducible refine le_ext_of ?_) | (with_reducible refine le_ext_add ?_))); done)) | ((with_reducible refine Below.setCell ?_ ?_ _); rotate_left; focus (((try dsimp only); repeat (first | omega | simp only [World.size_alloc, World.size_setCell, World.size_drew] | (with_reducible refine le_ext_of ?_) | (with_reducible refine le_ext_add ?_))); done)) | (with_reducible refine Below.drew ?_)))) HB3.out.size))).2).mono ?_; rintro e w1 ⟨p4, q4, rfl, hi4, y4, rfl⟩)
  simp only [HM3.out]
  have HI3 := Lib.hid (show IntsAt (ext V3 (y3.comp y4)) p3 l3 from hi3.below (below_ext _ y4))
  have HI4 := Lib.hid (show IntsAt (ext V3 (y3.comp y4)) p4 l3 from hi4)
  clear hi3 hi4
  generalize hV4 : ext V3 (y3.comp y4) = V4 at *
  have hB4 : Below V3.heap.size V3 V4 := by rw [← hV4]; (repeat (first | (with_reducible exact Below.refl _ _) | (with_reducible assumption) | ((with_reducible refine below_ext_trans ?_ ?_ _); rotate_left; focus (((try dsimp only); repeat (first | omega | simp only [World.size_alloc, World.size_setCell, World.size_drew] | (with_reducible refine le_ext_of ?_) | (with_reducible refine le_ext_add ?_))); done)) | ((with_reducible refine Below.alloc ?_ ?_ _); rotate_left; focus (((try dsimp only); repeat (first | omega | simp only [World.size_alloc, World.size_setCell, World.size_drew] | (with_reducible refine le_ext_of ?_) | (with_reducible refine le_ext_add ?_))); done)) | ((with_reducible refine Below.setCell ?_ ?_ _); rotate_left; focus (((try dsimp only); repeat (first | omega | simp only [World.size_alloc, World.size_setCell, World.size_drew] | (with_reducible refine le_ext_of ?_) | (with_reducible refine le_ext_add ?_))); done)) | (with_reducible refine Below.drew ?_)))
  have HB4 := Lib.hid (HB3.out.trans (hB4.mono HB3.out.size))
  have KB4 := Lib.hid (KB3.out.bel hB4)
  have KN4 := Lib.hid (KN3.out.bel hB4)
  clear hV4 hB4 d0 d1 d2 d3 m0 m1 m2 hl hln
  go_upto_region 9 with (go_at_call 12; refine (same_eq p3 p4 q3 q4 l3 m3 _ HM3.out (HI3.out.below (by (repeat (first | (with_reducible exact Below.refl _ _) | (with_reducible assumption) | ((with_reducible refine below_ext_trans ?_ ?_ _); rotate_left; focus (((try dsimp only); repeat (first | omega | simp only [World.size_alloc, World.size_setCell, World.size_drew] | (with_reducible refine le_ext_of ?_) | (with_reducible refine le_ext_add ?_))); done)) | ((with_reducible refine Below.alloc ?_ ?_ _); rotate_left; focus (((try dsimp only); repeat (first | omega | simp only [World.size_alloc, World.size_setCell, World.size_drew] | (with_reducible refine le_ext_of ?_) | (with_reducible refine le_ext_add ?_))); done)) | ((with_reducible refine Below.setCell ?_ ?_ _); rotate_left; focus (((try dsimp only); repeat (first | omega | simp only [World.size_alloc, World.size_setCell, World.size_drew] | (with_reducible refine le_ext_of ?_) | (with_reducible refine le_ext_add ?_))); done)) | (with_reducible refine Below.drew ?_))))) (HI4.out.below (by (repeat (first | (with_reducible exact Below.refl _ _) | (with_reducible assumption) | ((with_reducible refine below_ext_trans ?_ ?_ _); rotate_left; focus (((try dsimp only); repeat (first | omega | simp only [World.size_alloc, World.size_setCell, World.size_drew] | (with_reducible refine le_ext_of ?_) | (with_reducible refine le_ext_add ?_))); done)) | ((with_reducible refine Below.alloc ?_ ?_ _); rotate_left; focus (((try dsimp only); repeat (first | omega | simp only [World.size_alloc, World.size_setCell, World.size_drew] | (with_reducible refine le_ext_of ?_) | (with_reducible refine le_ext_add ?_))); done)) | ((with_reducible refine Below.setCell ?_ ?_ _); rotate_left; focus (((try dsimp only); repeat (first | omega | simp only [World.size_alloc, World.size_setCell, World.size_drew] | (with_reducible refine le_ext_of ?_) | (with_reducible refine le_ext_add ?_))); done)) | (with_reducible refine Below.drew ?_))))) (by rw [HM3.out]; exact HL3.out)).mono ?_; rintro e w1 ⟨rfl, y5, rfl⟩)
  generalize hV5 : ext V4 y5 = V5 at *
  have hB5 : Below V4.heap.size V4 V5 := by rw [← hV5]; (repeat (first | (with_reducible exact Below.refl _ _) | (with_reducible assumption) | ((with_reducible refine below_ext_trans ?_ ?_ _); rotate_left; focus (((try dsimp only); repeat (first | omega | simp only [World.size_alloc, World.size_setCell, World.size_drew] | (with_reducible refine le_ext_of ?_) | (with_reducible refine le_ext_add ?_))); done)) | ((with_reducible refine Below.alloc ?_ ?_ _); rotate_left; focus (((try dsimp only); repeat (first | omega | simp only [World.size_alloc, World.size_setCell, World.size_drew] | (with_reducible refine le_ext_of ?_) | (with_reducible refine le_ext_add ?_))); done)) | ((with_reducible refine Below.setCell ?_ ?_ _); rotate_left; focus (((try dsimp only); repeat (first | omega | simp only [World.size_alloc, World.size_setCell, World.size_drew] | (with_reducible refine le_ext_of ?_) | (with_reducible refine le_ext_add ?_))); done)) | (with_reducible refine Below.drew ?_)))
  have HB5 := Lib.hid (HB4.out.trans (hB5.mono HB4.out.size))
  have KB5 := Lib.hid (KB4.out.bel hB5)
  have KN5 := Lib.hid (KN4.out.bel hB5)
  clear hV5 hB5
  have hl := KB5.out.lt
  have hln := KN5.out.lt
  have d0 := KB5.out.cell 0
  have d1 := KB5.out.cell 1
  have d2 := KB5.out.cell 2
  have d3 := KB5.out.cell 3
  have m0 := KN5.out.cell 0
  have m1 := KN5.out.cell 1
  have m2 := KN5.out.cell 2
  simp only [List.size_toArray, List.length_cons, List.length_nil, Nat.reduceAdd, Nat.reduceLT, getElem?_pos, List.getElem_toArray, List.getElem_cons_zero, List.getElem_cons_succ] at d0 d1 d2 d3 m0 m1 m2
  go_upto_region 10 with (go_at_call 13; refine ((H4.out _ (HB5.out.trans (Below.mono (by (repeat (first | (with_reducible exact Below.refl _ _) | (with_reducible assumption) | ((with_reducible refine below_ext_trans ?_ ?_ _); rotate_left; focus (((try dsimp only); repeat (first | omega | simp only [World.size_alloc, World.size_setCell, World.size_drew] | (with_reducible refine le_ext_of ?_) | (with_reducible refine le_ext_add ?_))); done)) | ((with_reducible refine Below.alloc ?_ ?_ _); rotate_left; focus (((try dsimp only); repeat (first | omega | simp only [World.size_alloc, World.size_setCell, World.size_drew] | (with_reducible refine le_ext_of ?_) | (with_reducible refine le_ext_add ?_))); done)) | ((with_reducible refine Below.setCell ?_ ?_ _); rotate_left; focus (((try dsimp only); repeat (first | omega | simp only [World.size_alloc, World.size_setCell, World.size_drew] | (with_reducible refine le_ext_of ?_) | (with_reducible refine le_ext_add ?_))); done)) | (with_reducible refine Below.drew ?_)))) HB5.out.size))).1).mono ?_; rintro e w1 ⟨p5, q5, rfl, hi5, y6, rfl⟩)
  simp only [HM4.out]
  go_upto_region 11 with (go_at_call 14; refine ((H4.out _ (HB5.out.trans (Below.mono (by (repeat (first | (with_reducible exact Below.refl _ _) | (with_reducible assumption) | ((with_reducible refine below_ext_trans ?_ ?_ _); rotate_left; focus (((try dsimp only); repeat (first | omega | simp only [World.size_alloc, World.size_setCell, World.size_drew] | (with_reducible refine le_ext_of ?_) | (with_reducible refine le_ext_add ?_))); done)) | ((with_reducible refine Below.alloc ?_ ?_ _); rotate_left; focus (((try dsimp only); repeat (first | omega | simp only [World.size_alloc, World.size_setCell, World.size_drew] | (with_reducible refine le_ext_of ?_) | (with_reducible refine le_ext_add ?_))); done)) | ((with_reducible refine Below.setCell ?_ ?_ _); rotate_left; focus (((try dsimp only); repeat (first | omega | simp only [World.size_alloc, World.size_setCell, World.size_drew] | (with_reducible refine le_ext_of ?_) | (with_reducible refine le_ext_add ?_))); done)) | (with_reducible refine Below.drew ?_)))) HB5.out.size))).2).mono ?_; rintro e w1 ⟨p6, q6, rfl, hi6, y7, rfl⟩)
  simp only [HM4.out]
  have HI5 := Lib.hid (show SpansAt (ext V5 (y6.comp y7)) p5 l4 from hi5.below (below_ext _ y7))
  have HI6 := Lib.hid (show SpansAt (ext V5 (y6.comp y7)) p6 l4 from hi6)
  clear hi5 hi6
  generalize hV6 : ext V5 (y6.comp y7) = V6 at *
  have hB6 : Below V5.heap.size V5 V6 := by rw [← hV6]; (repeat (first | (with_reducible exact Below.refl _ _) | (with_reducible assumption) | ((with_reducible refine below_ext_trans ?_ ?_ _); rotate_left; focus (((try dsimp only); repeat (first | omega | simp only [World.size_alloc, World.size_setCell, World.size_drew] | (with_reducible refine le_ext_of ?_) | (with_reducible refine le_ext_add ?_))); done)) | ((with_reducible refine Below.alloc ?_ ?_ _); rotate_left; focus (((try dsimp only); repeat (first | omega | simp only [World.size_alloc, World.size_setCell, World.size_drew] | (with_reducible refine le_ext_of ?_) | (with_reducible refine le_ext_add ?_))); done)) | ((with_reducible refine Below.setCell ?_ ?_ _); rotate_left; focus (((try dsimp only); repeat (first | omega | simp only [World.size_alloc, World.size_setCell, World.size_drew] | (with_reducible refine le_ext_of ?_) | (with_reducible refine le_ext_add ?_))); done)) | (with_reducible refine Below.drew ?_)))
  have HB6 := Lib.hid (HB5.out.trans (hB6.mono HB5.out.size))
  clear hV6 hB6 d0 d1 d2 d3 m0 m1 m2 hl hln
  go_wp2_with (first
    | (go_at_call 15; refine (sameSpans_eq p5 p6 q5 q6 l4 m4 _ HM4.out (HI5.out.below (by (repeat (first | (with_reducible exact Below.refl _ _) | (with_reducible assumption) | ((with_reducible refine below_ext_trans ?_ ?_ _); rotate_left; focus (((try dsimp only); repeat (first | omega | simp only [World.size_alloc, World.size_setCell, World.size_drew] | (with_reducible refine le_ext_of ?_) | (with_reducible refine le_ext_add ?_))); done)) | ((with_reducible refine Below.alloc ?_ ?_ _); rotate_left; focus (((try dsimp only); repeat (first | omega | simp only [World.size_alloc, World.size_setCell, World.size_drew] | (with_reducible refine le_ext_of ?_) | (with_reducible refine le_ext_add ?_))); done)) | ((with_reducible refine Below.setCell ?_ ?_ _); rotate_left; focus (((try dsimp only); repeat (first | omega | simp only [World.size_alloc, World.size_setCell, World.size_drew] | (with_reducible refine le_ext_of ?_) | (with_reducible refine le_ext_add ?_))); done)) | (with_reducible refine Below.drew ?_))))) (HI6.out.below (by (repeat (first | (with_reducible exact Below.refl _ _) | (with_reducible assumption) | ((with_reducible refine below_ext_trans ?_ ?_ _); rotate_left; focus (((try dsimp only); repeat (first | omega | simp only [World.size_alloc, World.size_setCell, World.size_drew] | (with_reducible refine le_ext_of ?_) | (with_reducible refine le_ext_add ?_))); done)) | ((with_reducible refine Below.alloc ?_ ?_ _); rotate_left; focus (((try dsimp only); repeat (first | omega | simp only [World.size_alloc, World.size_setCell, World.size_drew] | (with_reducible refine le_ext_of ?_) | (with_reducible refine le_ext_add ?_))); done)) | ((with_reducible refine Below.setCell ?_ ?_ _); rotate_left; focus (((try dsimp only); repeat (first | omega | simp only [World.size_alloc, World.size_setCell, World.size_drew] | (with_reducible refine le_ext_of ?_) | (with_reducible refine le_ext_add ?_))); done)) | (with_reducible refine Below.drew ?_))))) (by rw [HM4.out]; exact HL4.out)).mono ?_; rintro e w1 ⟨rfl, y8, rfl⟩)
    | (go_at_call 16; refine (shot_any _ (HN.out.below (HB6.out.trans (Below.mono (by (repeat (first | (with_reducible exact Below.refl _ _) | (with_reducible assumption) | ((with_reducible refine below_ext_trans ?_ ?_ _); rotate_left; focus (((try dsimp only); repeat (first | omega | simp only [World.size_alloc, World.size_setCell, World.size_drew] | (with_reducible refine le_ext_of ?_) | (with_reducible refine le_ext_add ?_))); done)) | ((with_reducible refine Below.alloc ?_ ?_ _); rotate_left; focus (((try dsimp only); repeat (first | omega | simp only [World.size_alloc, World.size_setCell, World.size_drew] | (with_reducible refine le_ext_of ?_) | (with_reducible refine le_ext_add ?_))); done)) | ((with_reducible refine Below.setCell ?_ ?_ _); rotate_left; focus (((try dsimp only); repeat (first | omega | simp only [World.size_alloc, World.size_setCell, World.size_drew] | (with_reducible refine le_ext_of ?_) | (with_reducible refine le_ext_add ?_))); done)) | (with_reducible refine Below.drew ?_)))) HB6.out.size)))).mono ?_; rintro e w1 ⟨rfl, y, rfl⟩))
  go_ret
  exact ⟨rfl, ext_of (HB6.out.trans (Below.mono (by (repeat (first | (with_reducible exact Below.refl _ _) | (with_reducible assumption) | ((with_reducible refine below_ext_trans ?_ ?_ _); rotate_left; focus (((try dsimp only); repeat (first | omega | simp only [World.size_alloc, World.size_setCell, World.size_drew] | (with_reducible refine le_ext_of ?_) | (with_reducible refine le_ext_add ?_))); done)) | ((with_reducible refine Below.alloc ?_ ?_ _); rotate_left; focus (((try dsimp only); repeat (first | omega | simp only [World.size_alloc, World.size_setCell, World.size_drew] | (with_reducible refine le_ext_of ?_) | (with_reducible refine le_ext_add ?_))); done)) | ((with_reducible refine Below.setCell ?_ ?_ _); rotate_left; focus (((try dsimp only); repeat (first | omega | simp only [World.size_alloc, World.size_setCell, World.size_drew] | (with_reducible refine le_ext_of ?_) | (with_reducible refine le_ext_add ?_))); done)) | (with_reducible refine Below.drew ?_)))) HB6.out.size))⟩
end Go.Proofs.YteocjggepjpecaaGreatDoor

