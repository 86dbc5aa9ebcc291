/- TurnFairs' walk. -/
/- TurnFairs' walk: the law itself. -/
import Derived.Test.YteocjggepjpecaaGreatDoorQGg
import Derived.Test.YteocjggepjpecaaGreatDoorQBa
import Derived.Test.YteocjggepjpecaaGreatDoorQWe
set_option linter.unusedSimpArgs false
set_option linter.unusedVariables false
namespace Go.Proofs.YteocjggepjpecaaGreatDoor
open Go Go.RowKit

abbrev bkV (h : Hd) (b : Bk) : Value := .agg #[.int .i64 b.n, .slice h.pb b.bs.length h.cb, .slice h.po b.os.length h.co, .slice h.ps b.ss.length h.cs]
theorem ask_ok {b : Bk} (hv : bookB b = true) {q : Bool} (hq : q = false) : askC b q = 21 := by subst hq; unfold askC; rw [hv]; rfl
theorem ask_bad {b : Bk} (hv : bookB b = false) (q : Bool) : askC b q = 20 := by unfold askC; rw [hv]; rfl
theorem fair_both (h : Hd) (b : Bk) (i : Int) (w : World) (hb : BkAt w h b) (hn : NB w) : ∃ n c : Int, ∀ w', Below w.heap.size w w' →
    (Calls Tryz.prog 17 #[.agg #[.int .i64 b.n, .slice h.pb b.bs.length h.cb, .slice h.po b.os.length h.co, .slice h.ps b.ss.length h.cs], .int .i64 i] w' fun e w2 => e = .returned (.tuple #[.int .i64 n, .int .i64 c]) ∧ ∃ x, w2 = ext w' x) ∧
    (Calls Tryz.prog 18 #[.agg #[.int .i64 b.n, .slice h.pb b.bs.length h.cb, .slice h.po b.os.length h.co, .slice h.ps b.ss.length h.cs], .int .i64 i] w' fun e w2 => e = .returned (.tuple #[.int .i64 n, .int .i64 c]) ∧ ∃ x, w2 = ext w' x) := by
  cases hv : bookB b
  · exact ⟨0, 20, fun w' hw => ⟨Fair_bad h b i w' (hb.below hw) hv (hn.below hw), rFair_err h b i 20 w' (hb.below hw) (ask_bad hv _) (.inl rfl)⟩⟩
  · have h5 := bookB_ss hv
    cases hq : isN i b.ss.length
    · exact ⟨0, 21, fun w' hw => ⟨Fair_ask h b i w' (hb.below hw) hv hq (hn.below hw), rFair_err h b i 21 w' (hb.below hw) (ask_ok hv (by rw [shotQ_eq (by omega), hq])) (.inr rfl)⟩⟩
    · have hi := of_isN hq
      obtain ⟨k, rfl⟩ := Int.eq_ofNat_of_zero_le hi.1
      obtain ⟨⟨st, co, lo, hi'⟩, hs⟩ := get_some b.ss k (by omega)
      obtain ⟨hst, -, -⟩ := bookB_shot hv hs
      dsimp only at hst
      obtain ⟨st', rfl⟩ := Int.eq_ofNat_of_zero_le hst.1
      exact ⟨_, 0, fun w' hw => ⟨Fair_yes h b k st' ⟨st', co, lo, hi'⟩ w' (hb.below hw) hv (hn.below hw) hs rfl, rFair_yes h b k st' co lo hi' _ w' (hb.below hw) hv hs rfl⟩⟩
def ListC (l : List Int) (c : Int) (w : World) (e : Ending) (w' : World) : Prop := ∃ p q, e = .returned (.tuple #[.slice p l.length q, .int .i64 c]) ∧ IntsAt w' p l ∧ ∃ x, w' = ext w x
theorem listC_nil {c : Int} {w : World} {e : Ending} {w' : World} (h : e = .returned (.tuple #[.slice none 0 0, .int .i64 c]) ∧ ∃ x, w' = ext w x) : ListC [] c w e w' := ⟨none, 0, h.1, fun i x hx => by simp at hx, h.2⟩
theorem hangs_both (h : Hd) (b : Bk) (i : Int) (w : World) (hb : BkAt w h b) (hn : NB w) : ∃ (l : List Int) (c : Int), (l.length : Int) ≤ 1000 ∧ ∀ w', Below w.heap.size w w' →
    (Calls Tryz.prog 19 #[.agg #[.int .i64 b.n, .slice h.pb b.bs.length h.cb, .slice h.po b.os.length h.co, .slice h.ps b.ss.length h.cs], .int .i64 i] w' (ListC l c w')) ∧
    (Calls Tryz.prog 20 #[.agg #[.int .i64 b.n, .slice h.pb b.bs.length h.cb, .slice h.po b.os.length h.co, .slice h.ps b.ss.length h.cs], .int .i64 i] w' (ListC l c w')) := by
  cases hv : bookB b
  · exact ⟨[], 20, by simp, fun w' hw => ⟨(Hangs_err h b i 20 w' (by decide) (OpenErr.bad _ (hb.below hw) hv)).mono fun _ _ => listC_nil, (rHangs_err h b i 20 w' (hb.below hw) (ask_bad hv _) (.inl rfl)).mono fun _ _ => listC_nil⟩⟩
  · have h5 := bookB_ss hv
    cases hq : isN i b.ss.length
    · exact ⟨[], 21, by simp, fun w' hw => ⟨(Hangs_err h b i 21 w' (by decide) (OpenErr.ask (hb.below hw) hv hq)).mono fun _ _ => listC_nil, (rHangs_err h b i 21 w' (hb.below hw) (ask_ok hv (by rw [shotQ_eq (by omega), hq])) (.inr rfl)).mono fun _ _ => listC_nil⟩⟩
    · have hi := of_isN hq
      obtain ⟨k, rfl⟩ := Int.eq_ofNat_of_zero_le hi.1
      obtain ⟨⟨st, co, lo, hi'⟩, hs⟩ := get_some b.ss k (by omega)
      obtain ⟨hst, -, -⟩ := bookB_shot hv hs
      dsimp only at hst
      obtain ⟨st', rfl⟩ := Int.eq_ofNat_of_zero_le hst.1
      have h4 := (bookB_bounds hv).1
      exact ⟨hangsTo b st' ⟨st', co, lo, hi'⟩ b.bs.length, 0, by have := hangsTo_le b st' ⟨st', co, lo, hi'⟩ b.bs.length; omega, fun w' hw => ⟨Hangs_yes h b k st' ⟨st', co, lo, hi'⟩ w' (hb.below hw) hv (hn.below hw) hs rfl, rHangs_yes h b k st' co lo hi' w' (hb.below hw) hv hs⟩⟩
theorem first_both (h : Hd) (b : Bk) (i j : Int) (w : World) (hb : BkAt w h b) (hn : NB w) : ∃ n c : Int, ∀ w', Below w.heap.size w w' →
    (Calls Tryz.prog 21 #[.agg #[.int .i64 b.n, .slice h.pb b.bs.length h.cb, .slice h.po b.os.length h.co, .slice h.ps b.ss.length h.cs], .int .i64 i, .int .i64 j] w' fun e w2 => e = .returned (.tuple #[.int .i64 n, .int .i64 c]) ∧ ∃ x, w2 = ext w' x) ∧
    (Calls Tryz.prog 22 #[.agg #[.int .i64 b.n, .slice h.pb b.bs.length h.cb, .slice h.po b.os.length h.co, .slice h.ps b.ss.length h.cs], .int .i64 i, .int .i64 j] w' fun e w2 => e = .returned (.tuple #[.int .i64 n, .int .i64 c]) ∧ ∃ x, w2 = ext w' x) := by
  cases hv : bookB b
  · exact ⟨0, 20, fun w' hw => ⟨First_err h b i j 20 w' (by decide) (OpenErr.bad _ (hb.below hw) hv), rFirst_err h b i j 20 w' (hb.below hw) (ask_bad hv _) (.inl rfl)⟩⟩
  · have h5 := bookB_ss hv
    cases hq : ((isN i b.ss.length && isN j b.ss.length) && (i != j))
    · exact ⟨0, 21, fun w' hw => ⟨First_err h b i j 21 w' (by decide) (OpenErr.ask (hb.below hw) hv hq), rFirst_err h b i j 21 w' (hb.below hw) (ask_ok hv (by rw [shotQ_eq (by omega), shotQ_eq (by omega), hq])) (.inr rfl)⟩⟩
    · simp only [Bool.and_eq_true, bne_iff_ne] at hq
      have hi := of_isN hq.1.1
      have hj := of_isN hq.1.2
      obtain ⟨k, rfl⟩ := Int.eq_ofNat_of_zero_le hi.1
      obtain ⟨m, rfl⟩ := Int.eq_ofNat_of_zero_le hj.1
      obtain ⟨s, hs⟩ := get_some b.ss k (by omega)
      obtain ⟨t, ht⟩ := get_some b.ss m (by omega)
      have hkm : k ≠ m := fun e => hq.2 (by rw [e])
      exact ⟨_, 0, fun w' hw => ⟨First_yes h b k m s t w' (hb.below hw) hv (hn.below hw) hs ht hkm, rFirst_yes h b k m s t w' (hb.below hw) hv hs ht hkm⟩⟩
end Go.Proofs.YteocjggepjpecaaGreatDoor

namespace Go.Proofs.YteocjggepjpecaaGreatDoor
open Go Go.RowKit

theorem same_eq (p q : Option Addr) (c d : Nat) (l : List Int) (n : Nat) (w : World) (hn : l.length = n) (hl : IntsAt w p l) (hm : IntsAt w q l) (hb : (l.length : Int) ≤ 1000) :
    Calls Tryz.prog 12 #[.slice p n c, .slice q n d] w fun e w' => e = .returned (.bool true) ∧ ∃ x, w' = ext w x := by
  subst hn
  exact (Same_any p q c d l l w hl hm hb hb).mono fun e w' ⟨he, hx⟩ => ⟨by rw [he]; simp, hx⟩
attribute [local go_sem] Oper.semAt_some frozen_alloc_lt
set_option maxRecDepth 100000 in
set_option maxHeartbeats 2000000 in
theorem TurnFairs_any (h : Hd) (b : Bk) (i j : Int) (w : World) (hb : BkAt w h b) (hn : NB w) :
    Calls Tryz.prog 4 #[.agg #[.int .i64 b.n, .slice h.pb b.bs.length h.cb, .slice h.po b.os.length h.co, .slice h.ps b.ss.length h.cs], .int .i64 i, .int .i64 j] w fun e w' => e = .returned (.bool true) ∧ ∃ x, w' = ext w x := by
  obtain ⟨n1, c1, h1⟩ := fair_both h b i w hb hn
  obtain ⟨l2, c2, hl2, h2⟩ := hangs_both h b i w hb hn
  obtain ⟨n3, c3, h3⟩ := first_both h b i j w hb hn
  have H1 := Lib.hid h1
  have H2 := Lib.hid h2
  have H3 := Lib.hid h3
  have HL2 := Lib.hid hl2
  have HN := Lib.hid hn
  clear h1 h2 h3 hl2 hb hn
  generalize hm : l2.length = m at *
  have HM := Lib.hid hm
  clear hm
  go_enter Tryz.func4, Tryz.ntmps4
  go_upto_region 2 with (go_at_call 17; refine ((H1.out _ (by (repeat (first | (with_reducible exact Below.refl _ _) | (with_reducible assumption) | ((with_reducible refine below_ext_trans ?_ ?_ _); rotate_left; focus (((try dsimp only); repeat (first | omega | simp only [World.size_alloc, World.size_setCell, World.size_drew] | (with_reducible refine le_ext_of ?_) | (with_reducible refine le_ext_add ?_))); done)) | ((with_reducible refine Below.alloc ?_ ?_ _); rotate_left; focus (((try dsimp only); repeat (first | omega | simp only [World.size_alloc, World.size_setCell, World.size_drew] | (with_reducible refine le_ext_of ?_) | (with_reducible refine le_ext_add ?_))); done)) | ((with_reducible refine Below.setCell ?_ ?_ _); rotate_left; focus (((try dsimp only); repeat (first | omega | simp only [World.size_alloc, World.size_setCell, World.size_drew] | (with_reducible refine le_ext_of ?_) | (with_reducible refine le_ext_add ?_))); done)) | (with_reducible refine Below.drew ?_))))).1).mono ?_; rintro e w1 ⟨rfl, y1, rfl⟩)
  go_upto_region 3 with (go_at_call 18; refine ((H1.out _ (by (repeat (first | (with_reducible exact Below.refl _ _) | (with_reducible assumption) | ((with_reducible refine below_ext_trans ?_ ?_ _); rotate_left; focus (((try dsimp only); repeat (first | omega | simp only [World.size_alloc, World.size_setCell, World.size_drew] | (with_reducible refine le_ext_of ?_) | (with_reducible refine le_ext_add ?_))); done)) | ((with_reducible refine Below.alloc ?_ ?_ _); rotate_left; focus (((try dsimp only); repeat (first | omega | simp only [World.size_alloc, World.size_setCell, World.size_drew] | (with_reducible refine le_ext_of ?_) | (with_reducible refine le_ext_add ?_))); done)) | ((with_reducible refine Below.setCell ?_ ?_ _); rotate_left; focus (((try dsimp only); repeat (first | omega | simp only [World.size_alloc, World.size_setCell, World.size_drew] | (with_reducible refine le_ext_of ?_) | (with_reducible refine le_ext_add ?_))); done)) | (with_reducible refine Below.drew ?_))))).2).mono ?_; rintro e w1 ⟨rfl, y2, rfl⟩)
  generalize hV1 : ext _ _ = V1
  have hB1 : Below w.heap.size w V1 := by rw [← hV1]; (repeat (first | (with_reducible exact Below.refl _ _) | (with_reducible assumption) | ((with_reducible refine below_ext_trans ?_ ?_ _); rotate_left; focus (((try dsimp only); repeat (first | omega | simp only [World.size_alloc, World.size_setCell, World.size_drew] | (with_reducible refine le_ext_of ?_) | (with_reducible refine le_ext_add ?_))); done)) | ((with_reducible refine Below.alloc ?_ ?_ _); rotate_left; focus (((try dsimp only); repeat (first | omega | simp only [World.size_alloc, World.size_setCell, World.size_drew] | (with_reducible refine le_ext_of ?_) | (with_reducible refine le_ext_add ?_))); done)) | ((with_reducible refine Below.setCell ?_ ?_ _); rotate_left; focus (((try dsimp only); repeat (first | omega | simp only [World.size_alloc, World.size_setCell, World.size_drew] | (with_reducible refine le_ext_of ?_) | (with_reducible refine le_ext_add ?_))); done)) | (with_reducible refine Below.drew ?_)))
  have kb : Blk V1 w.heap.size 26 #[.int .i64 b.n, .slice h.pb b.bs.length h.cb, .slice h.po b.os.length h.co, .slice h.ps b.ss.length h.cs] := by rw [← hV1]; exact (Blk.new rfl).ext _
  have HB1 := Lib.hid hB1
  have HK1 := Lib.hid kb
  have hl := kb.lt
  have d0 := kb.cell 0
  have d1 := kb.cell 1
  have d2 := kb.cell 2
  have d3 := kb.cell 3
  simp only [List.size_toArray, List.length_cons, List.length_nil, Nat.reduceAdd, Nat.reduceLT, getElem?_pos, List.getElem_toArray, List.getElem_cons_zero, List.getElem_cons_succ] at d0 d1 d2 d3
  have hz1 := hB1.size
  clear hV1 hB1 kb
  go_upto_region 6 with (go_at_call 19; refine ((H2.out _ (HB1.out.trans (Below.mono (by (repeat (first | (with_reducible exact Below.refl _ _) | (with_reducible assumption) | ((with_reducible refine below_ext_trans ?_ ?_ _); rotate_left; focus (((try dsimp only); repeat (first | omega | simp only [World.size_alloc, World.size_setCell, World.size_drew] | (with_reducible refine le_ext_of ?_) | (with_reducible refine le_ext_add ?_))); done)) | ((with_reducible refine Below.alloc ?_ ?_ _); rotate_left; focus (((try dsimp only); repeat (first | omega | simp only [World.size_alloc, World.size_setCell, World.size_drew] | (with_reducible refine le_ext_of ?_) | (with_reducible refine le_ext_add ?_))); done)) | ((with_reducible refine Below.setCell ?_ ?_ _); rotate_left; focus (((try dsimp only); repeat (first | omega | simp only [World.size_alloc, World.size_setCell, World.size_drew] | (with_reducible refine le_ext_of ?_) | (with_reducible refine le_ext_add ?_))); done)) | (with_reducible refine Below.drew ?_)))) HB1.out.size))).1).mono ?_; rintro e w1 ⟨p3, q3, rfl, hi3, y3, rfl⟩)
  simp only [HM.out]
  go_upto_region 7 with (go_at_call 20; refine ((H2.out _ (HB1.out.trans (Below.mono (by (repeat (first | (with_reducible exact Below.refl _ _) | (with_reducible assumption) | ((with_reducible refine below_ext_trans ?_ ?_ _); rotate_left; focus (((try dsimp only); repeat (first | omega | simp only [World.size_alloc, World.size_setCell, World.size_drew] | (with_reducible refine le_ext_of ?_) | (with_reducible refine le_ext_add ?_))); done)) | ((with_reducible refine Below.alloc ?_ ?_ _); rotate_left; focus (((try dsimp only); repeat (first | omega | simp only [World.size_alloc, World.size_setCell, World.size_drew] | (with_reducible refine le_ext_of ?_) | (with_reducible refine le_ext_add ?_))); done)) | ((with_reducible refine Below.setCell ?_ ?_ _); rotate_left; focus (((try dsimp only); repeat (first | omega | simp only [World.size_alloc, World.size_setCell, World.size_drew] | (with_reducible refine le_ext_of ?_) | (with_reducible refine le_ext_add ?_))); done)) | (with_reducible refine Below.drew ?_)))) HB1.out.size))).2).mono ?_; rintro e w1 ⟨p4, q4, rfl, hi4, y4, rfl⟩)
  simp only [HM.out]
  have HI3 := Lib.hid (show IntsAt (ext V1 (y3.comp y4)) p3 l2 from hi3.below (below_ext _ y4))
  have HI4 := Lib.hid (show IntsAt (ext V1 (y3.comp y4)) p4 l2 from hi4)
  clear hi3 hi4
  generalize hV2 : ext V1 (y3.comp y4) = V2 at *
  have hB2 : Below V1.heap.size V1 V2 := by rw [← hV2]; (repeat (first | (with_reducible exact Below.refl _ _) | (with_reducible assumption) | ((with_reducible refine below_ext_trans ?_ ?_ _); rotate_left; focus (((try dsimp only); repeat (first | omega | simp only [World.size_alloc, World.size_setCell, World.size_drew] | (with_reducible refine le_ext_of ?_) | (with_reducible refine le_ext_add ?_))); done)) | ((with_reducible refine Below.alloc ?_ ?_ _); rotate_left; focus (((try dsimp only); repeat (first | omega | simp only [World.size_alloc, World.size_setCell, World.size_drew] | (with_reducible refine le_ext_of ?_) | (with_reducible refine le_ext_add ?_))); done)) | ((with_reducible refine Below.setCell ?_ ?_ _); rotate_left; focus (((try dsimp only); repeat (first | omega | simp only [World.size_alloc, World.size_setCell, World.size_drew] | (with_reducible refine le_ext_of ?_) | (with_reducible refine le_ext_add ?_))); done)) | (with_reducible refine Below.drew ?_)))
  have HB2 := Lib.hid (HB1.out.trans (hB2.mono HB1.out.size))
  have hk2 := HK1.out.bel hB2
  have HV := Lib.hid hB2.size
  clear hV2 hB2 d0 d1 d2 d3 hl
  have hl := hk2.lt
  have d0 := hk2.cell 0
  have d1 := hk2.cell 1
  have d2 := hk2.cell 2
  have d3 := hk2.cell 3
  simp only [List.size_toArray, List.length_cons, List.length_nil, Nat.reduceAdd, Nat.reduceLT, getElem?_pos, List.getElem_toArray, List.getElem_cons_zero, List.getElem_cons_succ] at d0 d1 d2 d3
  clear hk2
  go_upto_region 9 with (go_at_call 12; refine (same_eq p3 p4 q3 q4 l2 m _ HM.out (HI3.out.below (by (repeat (first | (with_reducible exact Below.refl _ _) | (with_reducible assumption) | ((with_reducible refine below_ext_trans ?_ ?_ _); rotate_left; focus (((try dsimp only); repeat (first | omega | simp only [World.size_alloc, World.size_setCell, World.size_drew] | (with_reducible refine le_ext_of ?_) | (with_reducible refine le_ext_add ?_))); done)) | ((with_reducible refine Below.alloc ?_ ?_ _); rotate_left; focus (((try dsimp only); repeat (first | omega | simp only [World.size_alloc, World.size_setCell, World.size_drew] | (with_reducible refine le_ext_of ?_) | (with_reducible refine le_ext_add ?_))); done)) | ((with_reducible refine Below.setCell ?_ ?_ _); rotate_left; focus (((try dsimp only); repeat (first | omega | simp only [World.size_alloc, World.size_setCell, World.size_drew] | (with_reducible refine le_ext_of ?_) | (with_reducible refine le_ext_add ?_))); done)) | (with_reducible refine Below.drew ?_))))) (HI4.out.below (by (repeat (first | (with_reducible exact Below.refl _ _) | (with_reducible assumption) | ((with_reducible refine below_ext_trans ?_ ?_ _); rotate_left; focus (((try dsimp only); repeat (first | omega | simp only [World.size_alloc, World.size_setCell, World.size_drew] | (with_reducible refine le_ext_of ?_) | (with_reducible refine le_ext_add ?_))); done)) | ((with_reducible refine Below.alloc ?_ ?_ _); rotate_left; focus (((try dsimp only); repeat (first | omega | simp only [World.size_alloc, World.size_setCell, World.size_drew] | (with_reducible refine le_ext_of ?_) | (with_reducible refine le_ext_add ?_))); done)) | ((with_reducible refine Below.setCell ?_ ?_ _); rotate_left; focus (((try dsimp only); repeat (first | omega | simp only [World.size_alloc, World.size_setCell, World.size_drew] | (with_reducible refine le_ext_of ?_) | (with_reducible refine le_ext_add ?_))); done)) | (with_reducible refine Below.drew ?_))))) (by rw [HM.out]; exact HL2.out)).mono ?_; rintro e w1 ⟨rfl, y5, rfl⟩)
  go_upto_region 10 with (go_at_call 21; refine ((H3.out _ (HB2.out.trans (Below.mono (by (repeat (first | (with_reducible exact Below.refl _ _) | (with_reducible assumption) | ((with_reducible refine below_ext_trans ?_ ?_ _); rotate_left; focus (((try dsimp only); repeat (first | omega | simp only [World.size_alloc, World.size_setCell, World.size_drew] | (with_reducible refine le_ext_of ?_) | (with_reducible refine le_ext_add ?_))); done)) | ((with_reducible refine Below.alloc ?_ ?_ _); rotate_left; focus (((try dsimp only); repeat (first | omega | simp only [World.size_alloc, World.size_setCell, World.size_drew] | (with_reducible refine le_ext_of ?_) | (with_reducible refine le_ext_add ?_))); done)) | ((with_reducible refine Below.setCell ?_ ?_ _); rotate_left; focus (((try dsimp only); repeat (first | omega | simp only [World.size_alloc, World.size_setCell, World.size_drew] | (with_reducible refine le_ext_of ?_) | (with_reducible refine le_ext_add ?_))); done)) | (with_reducible refine Below.drew ?_)))) HB2.out.size))).1).mono ?_; rintro e w1 ⟨rfl, y6, rfl⟩)
  go_upto_region 11 with (go_at_call 22; refine ((H3.out _ (HB2.out.trans (Below.mono (by (repeat (first | (with_reducible exact Below.refl _ _) | (with_reducible assumption) | ((with_reducible refine below_ext_trans ?_ ?_ _); rotate_left; focus (((try dsimp only); repeat (first | omega | simp only [World.size_alloc, World.size_setCell, World.size_drew] | (with_reducible refine le_ext_of ?_) | (with_reducible refine le_ext_add ?_))); done)) | ((with_reducible refine Below.alloc ?_ ?_ _); rotate_left; focus (((try dsimp only); repeat (first | omega | simp only [World.size_alloc, World.size_setCell, World.size_drew] | (with_reducible refine le_ext_of ?_) | (with_reducible refine le_ext_add ?_))); done)) | ((with_reducible refine Below.setCell ?_ ?_ _); rotate_left; focus (((try dsimp only); repeat (first | omega | simp only [World.size_alloc, World.size_setCell, World.size_drew] | (with_reducible refine le_ext_of ?_) | (with_reducible refine le_ext_add ?_))); done)) | (with_reducible refine Below.drew ?_)))) HB2.out.size))).2).mono ?_; rintro e w1 ⟨rfl, y7, rfl⟩)
  clear d0 d1 d2 d3
  go_wp2_with (go_at_call 16; refine (shot_any _ (HN.out.below (HB2.out.trans (Below.mono (by (repeat (first | (with_reducible exact Below.refl _ _) | (with_reducible assumption) | ((with_reducible refine below_ext_trans ?_ ?_ _); rotate_left; focus (((try dsimp only); repeat (first | omega | simp only [World.size_alloc, World.size_setCell, World.size_drew] | (with_reducible refine le_ext_of ?_) | (with_reducible refine le_ext_add ?_))); done)) | ((with_reducible refine Below.alloc ?_ ?_ _); rotate_left; focus (((try dsimp only); repeat (first | omega | simp only [World.size_alloc, World.size_setCell, World.size_drew] | (with_reducible refine le_ext_of ?_) | (with_reducible refine le_ext_add ?_))); done)) | ((with_reducible refine Below.setCell ?_ ?_ _); rotate_left; focus (((try dsimp only); repeat (first | omega | simp only [World.size_alloc, World.size_setCell, World.size_drew] | (with_reducible refine le_ext_of ?_) | (with_reducible refine le_ext_add ?_))); done)) | (with_reducible refine Below.drew ?_)))) HB2.out.size)))).mono ?_; rintro e w1 ⟨rfl, y, rfl⟩)
  go_ret
  exact ⟨rfl, ext_of (HB2.out.trans (Below.mono (by (repeat (first | (with_reducible exact Below.refl _ _) | (with_reducible assumption) | ((with_reducible refine below_ext_trans ?_ ?_ _); rotate_left; focus (((try dsimp only); repeat (first | omega | simp only [World.size_alloc, World.size_setCell, World.size_drew] | (with_reducible refine le_ext_of ?_) | (with_reducible refine le_ext_add ?_))); done)) | ((with_reducible refine Below.alloc ?_ ?_ _); rotate_left; focus (((try dsimp only); repeat (first | omega | simp only [World.size_alloc, World.size_setCell, World.size_drew] | (with_reducible refine le_ext_of ?_) | (with_reducible refine le_ext_add ?_))); done)) | ((with_reducible refine Below.setCell ?_ ?_ _); rotate_left; focus (((try dsimp only); repeat (first | omega | simp only [World.size_alloc, World.size_setCell, World.size_drew] | (with_reducible refine le_ext_of ?_) | (with_reducible refine le_ext_add ?_))); done)) | (with_reducible refine Below.drew ?_)))) HB2.out.size))⟩
end Go.Proofs.YteocjggepjpecaaGreatDoor

