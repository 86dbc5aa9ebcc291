/- Package seine: Fits. Written by gen_fits.py. -/
import Derived.Test.YtnckampdbbcehaaDoorQNh
set_option linter.unusedSimpArgs false
set_option linter.unusedVariables false
namespace Go.Proofs.YtnckampdbbcehaaDoor
open Go Go.RowKit Go.Shelf
theorem chainN_mono {a a' : Int} (h : a' ≤ a) : ∀ {l : List Nt}, chainN a l = true → chainN a' l = true
  | [], _ => rfl
  | s :: l, hc => by
    simp only [chainN, Bool.and_eq_true, decide_eq_true_eq] at hc ⊢
    exact ⟨⟨hc.1.1, by omega⟩, hc.2⟩
/-- A note between those that are not later and those that are. -/
theorem chainN_with (s : Nt) (hs : ntB s = true) : ∀ (l : List Nt) (past : Int), past ≤ s.hour → chainN past l = true → chainN past (l.take (upN l s.hour) ++ [s] ++ l.drop (upN l s.hour)) = true
  | [], past, hp, _ => by simp [upN, chainN, hs, hp]
  | t :: l, past, hp, hc => by
    simp only [chainN, Bool.and_eq_true, decide_eq_true_eq] at hc
    by_cases ht : t.hour ≤ s.hour
    · have hu : upN (t :: l) s.hour = upN l s.hour + 1 := by
        unfold upN; rw [List.takeWhile_cons_of_pos (by simpa using ht)]; rfl
      rw [hu, List.take_succ_cons, List.drop_succ_cons, List.cons_append, List.cons_append]
      simp only [chainN, Bool.and_eq_true, decide_eq_true_eq]
      exact ⟨hc.1, chainN_with s hs l t.hour ht hc.2⟩
    · have hu : upN (t :: l) s.hour = 0 := by
        unfold upN; rw [List.takeWhile_cons_of_neg (by simpa using ht)]; rfl
      rw [hu, List.take_zero, List.drop_zero, List.nil_append, List.singleton_append]
      simp only [chainN, Bool.and_eq_true, decide_eq_true_eq]
      exact ⟨⟨hs, hp⟩, ⟨hc.1.1, by omega⟩, hc.2⟩
/-- A valid book with a valid note more. -/
theorem Ok9.with {b : Sn} {s : Nt} (hv : snB b = true) (hs : ntB s = true) : Ok9 (withS b s) := by
  have h := Ok9.of hv
  refine ⟨h.span, ?_, ?_⟩
  · show chainN 0 (withS b s).ns = true
    rw [withS_ns]
    refine chainN_with s hs b.ns 0 ?_ h.chain
    exact (ntB_facts hs).2.1.1
  · rw [withS_len]
    simp only [snB, notesB, Bool.and_eq_true, decide_eq_true_eq] at hv
    omega
/-- How a book's slice was laid. -/
structure SBc (b : Sn) (p : Option Addr) (c : Nat) : Prop where
  cap : b.ns.length ≤ c
  adr : ∀ a, p = some a → ∃ b o, a = ⟨b, o, none⟩
  nil : p = none → c = 0
abbrev ntC (s : Nt) : Array Value := #[.int .i64 s.kind, .int .i64 s.hour, .int .i64 s.lo, .int .i64 s.hi]
theorem validNoteS_eq (s : Nt) (q : Bool) (w : World) (hm : MM w) (hq : ntB s = q) : Calls Tryd.prog 73 #[.agg (ntC s)] w fun e w' => e = .returned (.bool q) ∧ ∃ x, w' = ext w x := by
  subst hq; exact validNote_any _ _ _ _ w hm
attribute [local go_sem] Oper.semAt_some frozen_alloc_lt
set_option maxHeartbeats 1000000 in
theorem Fits_bad (b : Sn) (p : Option Addr) (c : Nat) (s : Nt) (w : World) (hk : SBk w b p) (hv : snB b = false) :
    Calls Tryd.prog 29 #[.agg #[.int .i64 b.lo, .int .i64 b.hi, .slice p b.ns.length c], .agg (ntC s)] w fun e w' => e = .returned (.tuple #[.bool false, .int .i64 30]) ∧ Below w.heap.size w w' := by
  have HK := Lib.hid hk
  clear hk
  go_enter Tryd.func29, Tryd.ntmps29
  go_wp2_with (go_at_call 16; refine (Check_eq b p c false _ (HK.out.bel (by (repeat (first | (with_reducible exact Below.refl _ _) | (with_reducible assumption) | ((with_reducible refine below_ext_trans ?_ ?_ _); rotate_left; focus (((try dsimp only); repeat (first | omega | simp only [World.size_alloc, World.size_setCell, World.size_drew] | (with_reducible refine le_ext_of ?_) | (with_reducible refine le_ext_add ?_))); done)) | ((with_reducible refine Below.alloc ?_ ?_ _); rotate_left; focus (((try dsimp only); repeat (first | omega | simp only [World.size_alloc, World.size_setCell, World.size_drew] | (with_reducible refine le_ext_of ?_) | (with_reducible refine le_ext_add ?_))); done)) | ((with_reducible refine Below.setCell ?_ ?_ _); rotate_left; focus (((try dsimp only); repeat (first | omega | simp only [World.size_alloc, World.size_setCell, World.size_drew] | (with_reducible refine le_ext_of ?_) | (with_reducible refine le_ext_add ?_))); done)) | (with_reducible refine Below.drew ?_))))) hv).mono ?_; rintro e w1 ⟨rfl, y, rfl⟩)
  refine bodyPost_ret (v := .tuple #[.bool false, .int .i64 30]) ?_ ?_ ?_
  · simp [results, Tryd.results29, go_sem]
  · rfl
  · exact ⟨rfl, by (repeat (first | (with_reducible exact Below.refl _ _) | (with_reducible assumption) | ((with_reducible refine below_ext_trans ?_ ?_ _); rotate_left; focus (((try dsimp only); repeat (first | omega | simp only [World.size_alloc, World.size_setCell, World.size_drew] | (with_reducible refine le_ext_of ?_) | (with_reducible refine le_ext_add ?_))); done)) | ((with_reducible refine Below.alloc ?_ ?_ _); rotate_left; focus (((try dsimp only); repeat (first | omega | simp only [World.size_alloc, World.size_setCell, World.size_drew] | (with_reducible refine le_ext_of ?_) | (with_reducible refine le_ext_add ?_))); done)) | ((with_reducible refine Below.setCell ?_ ?_ _); rotate_left; focus (((try dsimp only); repeat (first | omega | simp only [World.size_alloc, World.size_setCell, World.size_drew] | (with_reducible refine le_ext_of ?_) | (with_reducible refine le_ext_add ?_))); done)) | (with_reducible refine Below.drew ?_)))⟩
set_option maxHeartbeats 1000000 in
theorem Fits_ask (b : Sn) (p : Option Addr) (c : Nat) (s : Nt) (w : World) (hk : SBk w b p) (hv : snB b = true) (hs : ntB s = false) :
    Calls Tryd.prog 29 #[.agg #[.int .i64 b.lo, .int .i64 b.hi, .slice p b.ns.length c], .agg (ntC s)] w fun e w' => e = .returned (.tuple #[.bool false, .int .i64 31]) ∧ Below w.heap.size w w' := by
  have HK := Lib.hid hk
  clear hk
  go_enter Tryd.func29, Tryd.ntmps29
  go_wp2_with (first
    | (go_at_call 16; refine (Check_eq b p c true _ (HK.out.bel (by (repeat (first | (with_reducible exact Below.refl _ _) | (with_reducible assumption) | ((with_reducible refine below_ext_trans ?_ ?_ _); rotate_left; focus (((try dsimp only); repeat (first | omega | simp only [World.size_alloc, World.size_setCell, World.size_drew] | (with_reducible refine le_ext_of ?_) | (with_reducible refine le_ext_add ?_))); done)) | ((with_reducible refine Below.alloc ?_ ?_ _); rotate_left; focus (((try dsimp only); repeat (first | omega | simp only [World.size_alloc, World.size_setCell, World.size_drew] | (with_reducible refine le_ext_of ?_) | (with_reducible refine le_ext_add ?_))); done)) | ((with_reducible refine Below.setCell ?_ ?_ _); rotate_left; focus (((try dsimp only); repeat (first | omega | simp only [World.size_alloc, World.size_setCell, World.size_drew] | (with_reducible refine le_ext_of ?_) | (with_reducible refine le_ext_add ?_))); done)) | (with_reducible refine Below.drew ?_))))) hv).mono ?_; rintro e w1 ⟨rfl, y, rfl⟩)
    | (go_at_call 73; refine (validNoteS_eq s false _ (HK.out.mm.below (by (repeat (first | (with_reducible exact Below.refl _ _) | (with_reducible assumption) | ((with_reducible refine below_ext_trans ?_ ?_ _); rotate_left; focus (((try dsimp only); repeat (first | omega | simp only [World.size_alloc, World.size_setCell, World.size_drew] | (with_reducible refine le_ext_of ?_) | (with_reducible refine le_ext_add ?_))); done)) | ((with_reducible refine Below.alloc ?_ ?_ _); rotate_left; focus (((try dsimp only); repeat (first | omega | simp only [World.size_alloc, World.size_setCell, World.size_drew] | (with_reducible refine le_ext_of ?_) | (with_reducible refine le_ext_add ?_))); done)) | ((with_reducible refine Below.setCell ?_ ?_ _); rotate_left; focus (((try dsimp only); repeat (first | omega | simp only [World.size_alloc, World.size_setCell, World.size_drew] | (with_reducible refine le_ext_of ?_) | (with_reducible refine le_ext_add ?_))); done)) | (with_reducible refine Below.drew ?_))))) hs).mono ?_; rintro e w2 ⟨rfl, y2, rfl⟩))
  refine bodyPost_ret (v := .tuple #[.bool false, .int .i64 31]) ?_ ?_ ?_
  · simp [results, Tryd.results29, go_sem]
  · rfl
  · exact ⟨rfl, by (repeat (first | (with_reducible exact Below.refl _ _) | (with_reducible assumption) | ((with_reducible refine below_ext_trans ?_ ?_ _); rotate_left; focus (((try dsimp only); repeat (first | omega | simp only [World.size_alloc, World.size_setCell, World.size_drew] | (with_reducible refine le_ext_of ?_) | (with_reducible refine le_ext_add ?_))); done)) | ((with_reducible refine Below.alloc ?_ ?_ _); rotate_left; focus (((try dsimp only); repeat (first | omega | simp only [World.size_alloc, World.size_setCell, World.size_drew] | (with_reducible refine le_ext_of ?_) | (with_reducible refine le_ext_add ?_))); done)) | ((with_reducible refine Below.setCell ?_ ?_ _); rotate_left; focus (((try dsimp only); repeat (first | omega | simp only [World.size_alloc, World.size_setCell, World.size_drew] | (with_reducible refine le_ext_of ?_) | (with_reducible refine le_ext_add ?_))); done)) | (with_reducible refine Below.drew ?_)))⟩
set_option maxRecDepth 100000 in
set_option maxHeartbeats 1000000 in
theorem Fits_ok (b : Sn) (p : Option Addr) (c : Nat) (s : Nt) (w : World) (hk : SBk w b p) (hc : SBc b p c) (hv : snB b = true) (hs : ntB s = true) :
    Calls Tryd.prog 29 #[.agg #[.int .i64 b.lo, .int .i64 b.hi, .slice p b.ns.length c], .agg (ntC s)] w fun e w' => e = .returned (.tuple #[.bool (rightS (withS b s)), .int .i64 0]) ∧ Below w.heap.size w w' := by
  have hok := Ok9.with hv hs
  have hlen := (Ok9.of hv).len
  have HK := Lib.hid hk
  have HC := Lib.hid hc
  clear hk hc
  go_enter Tryd.func29, Tryd.ntmps29
  go_upto_region 6 with (first
    | (go_at_call 16; refine (Check_eq b p c true _ (HK.out.bel (by (repeat (first | (with_reducible exact Below.refl _ _) | (with_reducible assumption) | ((with_reducible refine below_ext_trans ?_ ?_ _); rotate_left; focus (((try dsimp only); repeat (first | omega | simp only [World.size_alloc, World.size_setCell, World.size_drew] | (with_reducible refine le_ext_of ?_) | (with_reducible refine le_ext_add ?_))); done)) | ((with_reducible refine Below.alloc ?_ ?_ _); rotate_left; focus (((try dsimp only); repeat (first | omega | simp only [World.size_alloc, World.size_setCell, World.size_drew] | (with_reducible refine le_ext_of ?_) | (with_reducible refine le_ext_add ?_))); done)) | ((with_reducible refine Below.setCell ?_ ?_ _); rotate_left; focus (((try dsimp only); repeat (first | omega | simp only [World.size_alloc, World.size_setCell, World.size_drew] | (with_reducible refine le_ext_of ?_) | (with_reducible refine le_ext_add ?_))); done)) | (with_reducible refine Below.drew ?_))))) hv).mono ?_; rintro e w1 ⟨rfl, y, rfl⟩)
    | (go_at_call 73; refine (validNoteS_eq s true _ (HK.out.mm.below (by (repeat (first | (with_reducible exact Below.refl _ _) | (with_reducible assumption) | ((with_reducible refine below_ext_trans ?_ ?_ _); rotate_left; focus (((try dsimp only); repeat (first | omega | simp only [World.size_alloc, World.size_setCell, World.size_drew] | (with_reducible refine le_ext_of ?_) | (with_reducible refine le_ext_add ?_))); done)) | ((with_reducible refine Below.alloc ?_ ?_ _); rotate_left; focus (((try dsimp only); repeat (first | omega | simp only [World.size_alloc, World.size_setCell, World.size_drew] | (with_reducible refine le_ext_of ?_) | (with_reducible refine le_ext_add ?_))); done)) | ((with_reducible refine Below.setCell ?_ ?_ _); rotate_left; focus (((try dsimp only); repeat (first | omega | simp only [World.size_alloc, World.size_setCell, World.size_drew] | (with_reducible refine le_ext_of ?_) | (with_reducible refine le_ext_add ?_))); done)) | (with_reducible refine Below.drew ?_))))) hs).mono ?_; rintro e w2 ⟨rfl, y2, rfl⟩))
  generalize hW0 : ext _ (y.comp y2) = W0
  have hB0 : Below w.heap.size w W0 := by rw [← hW0]; (repeat (first | (with_reducible exact Below.refl _ _) | (with_reducible assumption) | ((with_reducible refine below_ext_trans ?_ ?_ _); rotate_left; focus (((try dsimp only); repeat (first | omega | simp only [World.size_alloc, World.size_setCell, World.size_drew] | (with_reducible refine le_ext_of ?_) | (with_reducible refine le_ext_add ?_))); done)) | ((with_reducible refine Below.alloc ?_ ?_ _); rotate_left; focus (((try dsimp only); repeat (first | omega | simp only [World.size_alloc, World.size_setCell, World.size_drew] | (with_reducible refine le_ext_of ?_) | (with_reducible refine le_ext_add ?_))); done)) | ((with_reducible refine Below.setCell ?_ ?_ _); rotate_left; focus (((try dsimp only); repeat (first | omega | simp only [World.size_alloc, World.size_setCell, World.size_drew] | (with_reducible refine le_ext_of ?_) | (with_reducible refine le_ext_add ?_))); done)) | (with_reducible refine Below.drew ?_)))
  have hq0 : Blk W0 w.heap.size 26 #[.int .i64 b.lo, .int .i64 b.hi, .slice p b.ns.length c] := by rw [← hW0]; exact ((Blk.new rfl).alloc _).ext (y.comp y2)
  have hn0 : Blk W0 (w.heap.size + 1) 38 (ntC s) := by rw [← hW0]; exact (Blk.new (by simp)).ext (y.comp y2)
  clear hW0
  have q0 := hq0.cell 0
  have q1 := hq0.cell 1
  have q2 := hq0.cell 2
  have n0 := hn0.cell 0
  have n1 := hn0.cell 1
  have n2 := hn0.cell 2
  have n3 := hn0.cell 3
  simp only [List.size_toArray, List.length_cons, List.length_nil, Nat.reduceAdd, Nat.reduceLT, getElem?_pos, List.getElem_toArray, List.getElem_cons_zero, List.getElem_cons_succ] at q0 q1 q2 n0 n1 n2 n3
  have HB0 := Lib.hid hB0
  clear hB0 hq0 hn0
  go_wp2_with (first
    | (go_at_call 74; refine (with_any b p c s _ (HK.out.bel HB0.out).nt (by omega) HC.out.cap HC.out.adr HC.out.nil (HK.out.bel HB0.out).lt).mono ?_; rintro e w3 ⟨p', c', rfl, k1, k2, k3, k4⟩; have K4 := Lib.hid (HB0.out.trans (k4.mono HB0.out.size)); have K1 := Lib.hid (show SBk w3 (withS b s) p' from ⟨k1, HK.out.mm.below K4.out, k2⟩); clear k1 k2 k3 k4)
    | (go_at_call 52; refine (newCatch_b (withS b s) p' c' _ K1.out hok).mono ?_; rintro e w4 ⟨kd, hkd, rfl, y1, rfl⟩)
    | (go_at_call 53; refine (tale_cat (withS b s) p' c' kd _ (K1.out.bel (below_ext _ _)) hok).mono ?_; rintro e w5 ⟨Bb, rfl, k1, k2, k3⟩; have K5 := Lib.hid k1; have K2 := Lib.hid k2; clear k1 k2 k3)
    | (go_at_call 54; refine (tright_eq (withS b s) p' c' kd Bb _ _ K5.out rfl).mono ?_; rintro e w6 ⟨rfl, y6, rfl⟩))
  refine bodyPost_ret (v := .tuple #[.bool (rightS (withS b s)), .int .i64 0]) ?_ ?_ ?_
  · simp [results, Tryd.results29, go_sem]
  · rfl
  · exact ⟨rfl, K4.out.trans (((below_ext _ _).mono K4.out.size).trans ((K2.out.mono (by have := K4.out.size; have := (below_ext w3 y1).size; omega)).trans ((below_ext _ _).mono (by have := K4.out.size; have := (below_ext w3 y1).size; have := K2.out.size; omega))))⟩
end Go.Proofs.YtnckampdbbcehaaDoor

