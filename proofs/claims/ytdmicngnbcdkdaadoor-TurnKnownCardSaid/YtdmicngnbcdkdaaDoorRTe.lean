/- Contracts of package turn: what is known of all bounds. -/
import Derived.Test.YtdmicngnbcdkdaaDoorRTc
import Derived.Laws.EntriesVeiled
set_option linter.unusedSimpArgs false
set_option linter.unusedVariables false
namespace Go.Proofs.YtdmicngnbcdkdaaDoor
open Go Go.RowKit

theorem frozen_alloc_lt (w : World) (o : Obj) (a : Addr) (h : a.block < w.heap.size) : (w.alloc o).frozen? a = w.frozen? a := World.frozen?_alloc_old _ _ _ (Nat.ne_of_lt h)
attribute [local go_sem] frozen_alloc_lt

/-- The package's truth without bounds lies where it was laid. -/
structure NB (w : World) : Prop where
  sz : 0 < w.heap.size
  g0 : w.cell? ⟨0, 0, none⟩ = some (.int .i64 1440)
  g1 : w.cell? ⟨0, 1, none⟩ = some (.int .i64 1440)
  g2 : w.cell? ⟨0, 2, none⟩ = some (.int .i64 1440)
  g3 : w.cell? ⟨0, 3, none⟩ = some (.int .i64 1440)
theorem NB.below {w w' : World} (h : NB w) (hb : Below w.heap.size w w') : NB w' := by
  obtain ⟨sz, g0, g1, g2, g3⟩ := h
  refine ⟨Nat.lt_of_lt_of_le sz hb.size, ?_, ?_, ?_, ?_⟩
  · rw [hb.cell (p := ⟨0, 0, none⟩) sz]; exact g0
  · rw [hb.cell (p := ⟨0, 1, none⟩) sz]; exact g1
  · rw [hb.cell (p := ⟨0, 2, none⟩) sz]; exact g2
  · rw [hb.cell (p := ⟨0, 3, none⟩) sz]; exact g3

def padv (l : List (Int × Int)) (r q : Nat) : Int := if r = 0 then (l.map Prod.fst).getD q 1440 else (l.map Prod.snd).getD q 1440
def kspec (l : List (Int × Int)) (i k j : Nat) : Int := if j / 4 < i ∨ (j / 4 = i ∧ j % 4 < k) then padv l (j / 4) (j % 4) else 1440
theorem kspec_end (l : List (Int × Int)) (i j : Nat) : kspec l i l.length j = kspec l (i + 1) 0 j := by
  unfold kspec
  by_cases h1 : j / 4 < i
  · rw [if_pos (.inl h1), if_pos (.inl (by omega))]
  · by_cases h2 : j / 4 = i
    · by_cases h3 : j % 4 < l.length
      · rw [if_pos (.inr ⟨h2, h3⟩), if_pos (.inl (by omega))]
      · rw [if_neg (by omega), if_pos (.inl (by omega))]
        unfold padv
        split
        · rw [List.getD_eq_getElem?_getD, List.getElem?_eq_none (by simp; omega)]; rfl
        · rw [List.getD_eq_getElem?_getD, List.getElem?_eq_none (by simp; omega)]; rfl
    · rw [if_neg (by omega), if_neg (by omega)]
theorem kspec_step (l : List (Int × Int)) (i k j : Nat) (h : j ≠ 4 * i + k) (hk : k < 4) : kspec l i (k + 1) j = kspec l i k j := by
  unfold kspec
  by_cases h1 : j / 4 < i ∨ (j / 4 = i ∧ j % 4 < k)
  · rw [if_pos h1, if_pos (by omega)]
  · rw [if_neg h1, if_neg (by omega)]
theorem kspec_new (l : List (Int × Int)) (i k : Nat) (hk : k < 4) (lo hi : Int) (h : l[k]? = some (lo, hi)) : kspec l i (k + 1) (4 * i + k) = if i = 0 then lo else hi := by
  unfold kspec
  rw [if_pos (by omega), show (4 * i + k) / 4 = i by omega, show (4 * i + k) % 4 = k by omega]
  unfold padv
  split <;> simp [List.getD_eq_getElem?_getD, h]

/-- Both truths, as far as they are filled: i of them whole, and k bounds of the next one. -/
def TabAt (B : Nat) (l : List (Int × Int)) (i k : Nat) (w : World) : Prop := ∀ j : Nat, j < 8 → w.cell? ⟨B, j, none⟩ = some (.int .i64 (kspec l i k j)) ∧ w.frozen? ⟨B, j, none⟩ = false
theorem TabAt.kept {B : Nat} {l : List (Int × Int)} {i k : Nat} {w w' : World} (h : TabAt B l i k w) (hB : B < w.heap.size) (hb : Below w.heap.size w w') : TabAt B l i k w' := fun j hj => by
  obtain ⟨h1, h2⟩ := h j hj
  exact ⟨by rw [hb.cell (p := ⟨B, j, none⟩) hB]; exact h1, by rw [hb.frozen (p := ⟨B, j, none⟩) hB]; exact h2⟩
theorem TabAt.set {B : Nat} {l : List (Int × Int)} {i k : Nat} {w : World} (h : TabAt B l i k w) (hi : i < 2) (hk : k < 4) (lo hi' : Int) (hl : l[k]? = some (lo, hi')) (o : Nat) (ho : o = 4 * i + k) (v : Int) (hv : v = if i = 0 then lo else hi') :
    TabAt B l i (k + 1) (w.setCell ⟨B, o, none⟩ (.int .i64 v)) := fun j hj => by
  obtain ⟨h1, h2⟩ := h j hj
  subst ho
  refine ⟨?_, by rw [World.frozen?_setCell]; exact h2⟩
  by_cases hjo : j = 4 * i + k
  · subst hjo
    rw [World.cell?_setCell_same' _ _ _ (by rw [h1]; rfl), kspec_new l i k hk lo hi' hl, hv]
  · rw [World.cell?_setCell_other _ _ _ _ (by intro e; cases e; exact hjo rfl), h1, kspec_step l i k j hjo hk]

set_option maxHeartbeats 4000000 in
theorem knownOf_any (p : Option Addr) (c : Nat) (l : List (Int × Int)) (w : World) (hs : SpansAt w p l) (h4 : (l.length : Int) ≤ 4) (hn : NB w) :
    Calls Tryd.prog 86 #[.slice p l.length c] w fun e w' => e = .returned (.agg #[.int .i64 (kspec l 2 0 0), .int .i64 (kspec l 2 0 1), .int .i64 (kspec l 2 0 2), .int .i64 (kspec l 2 0 3), .int .i64 (kspec l 2 0 4), .int .i64 (kspec l 2 0 5), .int .i64 (kspec l 2 0 6), .int .i64 (kspec l 2 0 7)]) ∧ ∃ x, w' = ext w x := by
  obtain ⟨sz, g0, g1, g2, g3⟩ := hn
  go_enter Tryd.func86, Tryd.ntmps86
  go_wp2_with fail
  generalize hW : (((w.alloc _).alloc _).alloc _) = W
  have hWB : Below w.heap.size w W := by rw [← hW]; (repeat (first | (with_reducible exact Below.refl _ _) | (with_reducible assumption) | ((with_reducible refine below_ext_trans ?_ ?_ _); rotate_left; focus (((try dsimp only); repeat (first | omega | simp only [World.size_alloc, World.size_setCell, World.size_drew] | (with_reducible refine le_ext_of ?_) | (with_reducible refine le_ext_add ?_))); done)) | ((with_reducible refine Below.alloc ?_ ?_ _); rotate_left; focus (((try dsimp only); repeat (first | omega | simp only [World.size_alloc, World.size_setCell, World.size_drew] | (with_reducible refine le_ext_of ?_) | (with_reducible refine le_ext_add ?_))); done)) | ((with_reducible refine Below.setCell ?_ ?_ _); rotate_left; focus (((try dsimp only); repeat (first | omega | simp only [World.size_alloc, World.size_setCell, World.size_drew] | (with_reducible refine le_ext_of ?_) | (with_reducible refine le_ext_add ?_))); done)) | (with_reducible refine Below.drew ?_)))
  have hWs : W.heap.size = w.heap.size + 3 := by rw [← hW]; simp
  have hT : TabAt (w.heap.size + 1 + 1) l 0 0 W := by
    intro j hj
    have hsz : ∀ A B : Obj, w.heap.size + 1 + 1 = ((w.alloc A).alloc B).heap.size := fun A B => by simp
    rw [← hW, new_cell _ _ _ _ _ (hsz _ _), new_frozen _ _ _ _ _ (hsz _ _)]
    refine ⟨?_, rfl⟩
    rw [kspec, if_neg (by omega)]
    have : j = 0 ∨ j = 1 ∨ j = 2 ∨ j = 3 ∨ j = 4 ∨ j = 5 ∨ j = 6 ∨ j = 7 := by omega
    rcases this with rfl | rfl | rfl | rfl | rfl | rfl | rfl | rfl <;> rfl
  have hR : ∀ j : Nat, j < 8 → W.cell? ⟨w.heap.size, j, none⟩ = some (.int .i64 0) ∧ W.frozen? ⟨w.heap.size, j, none⟩ = false := by
    intro j hj
    have e1 : Below (w.heap.size + 1) (w.alloc (.cells #[.int .i64 0, .int .i64 0, .int .i64 0, .int .i64 0, .int .i64 0, .int .i64 0, .int .i64 0, .int .i64 0] 80)) W := by rw [← hW]; (repeat (first | (with_reducible exact Below.refl _ _) | (with_reducible assumption) | ((with_reducible refine below_ext_trans ?_ ?_ _); rotate_left; focus (((try dsimp only); repeat (first | omega | simp only [World.size_alloc, World.size_setCell, World.size_drew] | (with_reducible refine le_ext_of ?_) | (with_reducible refine le_ext_add ?_))); done)) | ((with_reducible refine Below.alloc ?_ ?_ _); rotate_left; focus (((try dsimp only); repeat (first | omega | simp only [World.size_alloc, World.size_setCell, World.size_drew] | (with_reducible refine le_ext_of ?_) | (with_reducible refine le_ext_add ?_))); done)) | ((with_reducible refine Below.setCell ?_ ?_ _); rotate_left; focus (((try dsimp only); repeat (first | omega | simp only [World.size_alloc, World.size_setCell, World.size_drew] | (with_reducible refine le_ext_of ?_) | (with_reducible refine le_ext_add ?_))); done)) | (with_reducible refine Below.drew ?_)))
    rw [e1.cell (p := ⟨w.heap.size, j, none⟩) (by simp), e1.frozen (p := ⟨w.heap.size, j, none⟩) (by simp), new_cell _ _ _ _ _ rfl, new_frozen _ _ _ _ _ rfl]
    refine ⟨?_, rfl⟩
    have : j = 0 ∨ j = 1 ∨ j = 2 ∨ j = 3 ∨ j = 4 ∨ j = 5 ∨ j = 6 ∨ j = 7 := by omega
    rcases this with rfl | rfl | rfl | rfl | rfl | rfl | rfl | rfl <;> rfl
  have HT := Lib.hid hT
  have HR := Lib.hid hR
  have HWs := Lib.hid hWs
  have HWB := Lib.hid hWB
  clear hW hT hR hWs hWB g0 g1 g2 g3
  have fi0 : ∀ w, (Instr.index 130 (.agg #[.func (.func 68) #[] #[], .func (.func 69) #[] #[]]) (.int .i64 0)).run Tryd.prog w = .ok (.func (.func 68) #[] #[]) w := fun _ => by kernel_rfl
  have fi1 : ∀ w, (Instr.index 130 (.agg #[.func (.func 68) #[] #[], .func (.func 69) #[] #[]]) (.int .i64 1)).run Tryd.prog w = .ok (.func (.func 69) #[] #[]) w := fun _ => by kernel_rfl
  go_loopw [5, 6, 7, 8, 14] (fun _ _ _ _ q wr => ∃ i : Nat, i ≤ 2 ∧ q = .int .i64 i ∧ Hid (TabAt (w.heap.size + 1 + 1) l i 0 wr) ∧ Hid (Below (w.heap.size + 2) W wr)) (fun _ _ _ _ q _ => 2 - (intOf q).toNat)
  case atStart => exact ⟨0, by omega, rfl, HT, Lib.hid (Below.refl _ _)⟩
  case round =>
    obtain ⟨i, hi, hq, H, HB⟩ := hrel
    have hz : w.heap.size + 1 + 1 < wr.heap.size := by have := HB.out.size; have := HWs.out; omega
    have hz1 : w.heap.size < wr.heap.size := by omega
    have hz2 : w.heap.size ≤ wr.heap.size := by omega
    have HBw : Hid (Below w.heap.size w wr) := Lib.hid (HWB.out.trans (HB.out.mono (by omega)))
    have hc : i = 2 ∨ i = 0 ∨ i = 1 := by omega
    rcases hc with rfl | rfl | rfl
    · replace hq : _ = Value.int .i64 2 := hq
      obtain rfl := hq
      have a0 := (H.out 0 (by omega)).1
      have a1 := (H.out 1 (by omega)).1
      have a2 := (H.out 2 (by omega)).1
      have a3 := (H.out 3 (by omega)).1
      have a4 := (H.out 4 (by omega)).1
      have a5 := (H.out 5 (by omega)).1
      have a6 := (H.out 6 (by omega)).1
      have a7 := (H.out 7 (by omega)).1
      have hRr : ∀ j : Nat, j < 8 → wr.cell? ⟨w.heap.size, j, none⟩ = some (.int .i64 0) ∧ wr.frozen? ⟨w.heap.size, j, none⟩ = false := fun j hj => by
        rw [HB.out.cell (p := ⟨w.heap.size, j, none⟩) (by dsimp only; omega), HB.out.frozen (p := ⟨w.heap.size, j, none⟩) (by dsimp only; omega)]; exact HR.out j hj
      have b0 := (hRr 0 (by omega)).1
      have f0 := (hRr 0 (by omega)).2
      have b1 := (hRr 1 (by omega)).1
      have f1 := (hRr 1 (by omega)).2
      have b2 := (hRr 2 (by omega)).1
      have f2 := (hRr 2 (by omega)).2
      have b3 := (hRr 3 (by omega)).1
      have f3 := (hRr 3 (by omega)).2
      have b4 := (hRr 4 (by omega)).1
      have f4 := (hRr 4 (by omega)).2
      have b5 := (hRr 5 (by omega)).1
      have f5 := (hRr 5 (by omega)).2
      have b6 := (hRr 6 (by omega)).1
      have f6 := (hRr 6 (by omega)).2
      have b7 := (hRr 7 (by omega)).1
      have f7 := (hRr 7 (by omega)).2
      clear hRr
      go_wp2_with fail
      refine bodyPost_ret (v := .agg #[.int .i64 (kspec l 2 0 0), .int .i64 (kspec l 2 0 1), .int .i64 (kspec l 2 0 2), .int .i64 (kspec l 2 0 3), .int .i64 (kspec l 2 0 4), .int .i64 (kspec l 2 0 5), .int .i64 (kspec l 2 0 6), .int .i64 (kspec l 2 0 7)])
        (by simp [results, Tryd.results86, go_sem, b0, b1, b2, b3, b4, b5, b6, b7]) rfl ⟨rfl, ?_⟩
      exact ext_of (by have hB := HBw.out; (repeat (first | (with_reducible exact Below.refl _ _) | (with_reducible assumption) | ((with_reducible refine below_ext_trans ?_ ?_ _); rotate_left; focus (((try dsimp only); repeat (first | omega | simp only [World.size_alloc, World.size_setCell, World.size_drew] | (with_reducible refine le_ext_of ?_) | (with_reducible refine le_ext_add ?_))); done)) | ((with_reducible refine Below.alloc ?_ ?_ _); rotate_left; focus (((try dsimp only); repeat (first | omega | simp only [World.size_alloc, World.size_setCell, World.size_drew] | (with_reducible refine le_ext_of ?_) | (with_reducible refine le_ext_add ?_))); done)) | ((with_reducible refine Below.setCell ?_ ?_ _); rotate_left; focus (((try dsimp only); repeat (first | omega | simp only [World.size_alloc, World.size_setCell, World.size_drew] | (with_reducible refine le_ext_of ?_) | (with_reducible refine le_ext_add ?_))); done)) | (with_reducible refine Below.drew ?_))))
    · replace hq : _ = Value.int .i64 0 := hq
      obtain rfl := hq
      go_wp2_with fail
      go_loopw [7, 8, 20] (fun _ _ q wr => ∃ k : Nat, k ≤ l.length ∧ q = .int .i64 k ∧ Hid (TabAt (w.heap.size + 1 + 1) l 0 k wr) ∧ Hid (Below (w.heap.size + 2) W wr)) (fun _ _ q _ => l.length - (intOf q).toNat)
      case atStart => exact ⟨0, by omega, rfl, H, HB⟩
      case round =>
        clear H HB hz hz1 hz2 HBw
        obtain ⟨k, hk, hq, H, HB⟩ := hrel
        by_cases hlt : k < l.length
        · have hz : w.heap.size + 1 + 1 < wr.heap.size := by have := HB.out.size; have := HWs.out; omega
          have hz1 : w.heap.size < wr.heap.size := by omega
          have hz3 : w.heap.size + 1 < wr.heap.size := by omega
          have hz4 : w.heap.size + 1 ≤ wr.heap.size := by omega
          have hz2 : w.heap.size + 1 + 1 ≤ wr.heap.size := by omega
          have HBw : Hid (Below w.heap.size w wr) := Lib.hid (HWB.out.trans (HB.out.mono (by omega)))
          obtain ⟨⟨lo, hi'⟩, hsk⟩ := get_some l k hlt
          obtain ⟨b, o, rfl, hb, c1, c2⟩ := (hs.below HBw.out) k _ hsk
          have HSK := Lib.hid hsk
          clear hsk
          dsimp only at c1 c2
          have hc4 : k = 0 ∨ k = 1 ∨ k = 2 ∨ k = 3 := by omega
          rcases hc4 with rfl | rfl | rfl | rfl
          · replace hq : _ = Value.int .i64 0 := hq
            obtain rfl := hq
            have hltk : (0 : Int) < (l.length : Int) := by omega
            have d0 := (H.out 0 (by omega)).1
            have e0 := (H.out 0 (by omega)).2
            simp only [Nat.zero_mul, Nat.add_zero, Nat.one_mul, Nat.reduceMul] at c1 c2
            have c2' := c2
            try simp only [Nat.add_assoc, Nat.reduceAdd] at c2'
            go_wp2_with fail
            refine wp_region_ext_tail 7 (by kernel_rfl) (by kernel_rfl) ?_
            simp only [List.take_succ_cons, List.take_zero, List.drop_succ_cons, List.drop_zero]
            repeat (go_big_quiet_step (first | (go_at_call 68; exact quiet_ext (soonest_any _ _ _))))
            (refine wpQuiet_nil ?_; rintro _ ⟨x, rfl⟩)
            go_wp2_with fail
            go_roundw
            case rel =>
              refine ⟨0 + 1, by omega, by go_num, Lib.hid (TabAt.set ?_ (by omega) (by omega) lo hi' HSK.out _ (by rfl) _ rfl), Lib.hid ?_⟩
              · exact H.out.kept (by omega) (by (repeat (first | (with_reducible exact Below.refl _ _) | (with_reducible assumption) | ((with_reducible refine below_ext_trans ?_ ?_ _); rotate_left; focus (((try dsimp only); repeat (first | omega | simp only [World.size_alloc, World.size_setCell, World.size_drew] | (with_reducible refine le_ext_of ?_) | (with_reducible refine le_ext_add ?_))); done)) | ((with_reducible refine Below.alloc ?_ ?_ _); rotate_left; focus (((try dsimp only); repeat (first | omega | simp only [World.size_alloc, World.size_setCell, World.size_drew] | (with_reducible refine le_ext_of ?_) | (with_reducible refine le_ext_add ?_))); done)) | ((with_reducible refine Below.setCell ?_ ?_ _); rotate_left; focus (((try dsimp only); repeat (first | omega | simp only [World.size_alloc, World.size_setCell, World.size_drew] | (with_reducible refine le_ext_of ?_) | (with_reducible refine le_ext_add ?_))); done)) | (with_reducible refine Below.drew ?_))))
              · have hB := HB.out
                (repeat (first | (with_reducible exact Below.refl _ _) | (with_reducible assumption) | ((with_reducible refine below_ext_trans ?_ ?_ _); rotate_left; focus (((try dsimp only); repeat (first | omega | simp only [World.size_alloc, World.size_setCell, World.size_drew] | (with_reducible refine le_ext_of ?_) | (with_reducible refine le_ext_add ?_))); done)) | ((with_reducible refine Below.alloc ?_ ?_ _); rotate_left; focus (((try dsimp only); repeat (first | omega | simp only [World.size_alloc, World.size_setCell, World.size_drew] | (with_reducible refine le_ext_of ?_) | (with_reducible refine le_ext_add ?_))); done)) | ((with_reducible refine Below.setCell ?_ ?_ _); rotate_left; focus (((try dsimp only); repeat (first | omega | simp only [World.size_alloc, World.size_setCell, World.size_drew] | (with_reducible refine le_ext_of ?_) | (with_reducible refine le_ext_add ?_))); done)) | (with_reducible refine Below.drew ?_)))
            case measure => simp [intOf]; omega
          · replace hq : _ = Value.int .i64 1 := hq
            obtain rfl := hq
            have hltk : (1 : Int) < (l.length : Int) := by omega
            have d0 := (H.out 1 (by omega)).1
            have e0 := (H.out 1 (by omega)).2
            simp only [Nat.zero_mul, Nat.add_zero, Nat.one_mul, Nat.reduceMul] at c1 c2
            have c2' := c2
            try simp only [Nat.add_assoc, Nat.reduceAdd] at c2'
            go_wp2_with fail
            refine wp_region_ext_tail 7 (by kernel_rfl) (by kernel_rfl) ?_
            simp only [List.take_succ_cons, List.take_zero, List.drop_succ_cons, List.drop_zero]
            repeat (go_big_quiet_step (first | (go_at_call 68; exact quiet_ext (soonest_any _ _ _))))
            (refine wpQuiet_nil ?_; rintro _ ⟨x, rfl⟩)
            go_wp2_with fail
            go_roundw
            case rel =>
              refine ⟨1 + 1, by omega, by go_num, Lib.hid (TabAt.set ?_ (by omega) (by omega) lo hi' HSK.out _ (by rfl) _ rfl), Lib.hid ?_⟩
              · exact H.out.kept (by omega) (by (repeat (first | (with_reducible exact Below.refl _ _) | (with_reducible assumption) | ((with_reducible refine below_ext_trans ?_ ?_ _); rotate_left; focus (((try dsimp only); repeat (first | omega | simp only [World.size_alloc, World.size_setCell, World.size_drew] | (with_reducible refine le_ext_of ?_) | (with_reducible refine le_ext_add ?_))); done)) | ((with_reducible refine Below.alloc ?_ ?_ _); rotate_left; focus (((try dsimp only); repeat (first | omega | simp only [World.size_alloc, World.size_setCell, World.size_drew] | (with_reducible refine le_ext_of ?_) | (with_reducible refine le_ext_add ?_))); done)) | ((with_reducible refine Below.setCell ?_ ?_ _); rotate_left; focus (((try dsimp only); repeat (first | omega | simp only [World.size_alloc, World.size_setCell, World.size_drew] | (with_reducible refine le_ext_of ?_) | (with_reducible refine le_ext_add ?_))); done)) | (with_reducible refine Below.drew ?_))))
              · have hB := HB.out
                (repeat (first | (with_reducible exact Below.refl _ _) | (with_reducible assumption) | ((with_reducible refine below_ext_trans ?_ ?_ _); rotate_left; focus (((try dsimp only); repeat (first | omega | simp only [World.size_alloc, World.size_setCell, World.size_drew] | (with_reducible refine le_ext_of ?_) | (with_reducible refine le_ext_add ?_))); done)) | ((with_reducible refine Below.alloc ?_ ?_ _); rotate_left; focus (((try dsimp only); repeat (first | omega | simp only [World.size_alloc, World.size_setCell, World.size_drew] | (with_reducible refine le_ext_of ?_) | (with_reducible refine le_ext_add ?_))); done)) | ((with_reducible refine Below.setCell ?_ ?_ _); rotate_left; focus (((try dsimp only); repeat (first | omega | simp only [World.size_alloc, World.size_setCell, World.size_drew] | (with_reducible refine le_ext_of ?_) | (with_reducible refine le_ext_add ?_))); done)) | (with_reducible refine Below.drew ?_)))
            case measure => simp [intOf]; omega
          · replace hq : _ = Value.int .i64 2 := hq
            obtain rfl := hq
            have hltk : (2 : Int) < (l.length : Int) := by omega
            have d0 := (H.out 2 (by omega)).1
            have e0 := (H.out 2 (by omega)).2
            simp only [Nat.zero_mul, Nat.add_zero, Nat.one_mul, Nat.reduceMul] at c1 c2
            have c2' := c2
            try simp only [Nat.add_assoc, Nat.reduceAdd] at c2'
            go_wp2_with fail
            refine wp_region_ext_tail 7 (by kernel_rfl) (by kernel_rfl) ?_
            simp only [List.take_succ_cons, List.take_zero, List.drop_succ_cons, List.drop_zero]
            repeat (go_big_quiet_step (first | (go_at_call 68; exact quiet_ext (soonest_any _ _ _))))
            (refine wpQuiet_nil ?_; rintro _ ⟨x, rfl⟩)
            go_wp2_with fail
            go_roundw
            case rel =>
              refine ⟨2 + 1, by omega, by go_num, Lib.hid (TabAt.set ?_ (by omega) (by omega) lo hi' HSK.out _ (by rfl) _ rfl), Lib.hid ?_⟩
              · exact H.out.kept (by omega) (by (repeat (first | (with_reducible exact Below.refl _ _) | (with_reducible assumption) | ((with_reducible refine below_ext_trans ?_ ?_ _); rotate_left; focus (((try dsimp only); repeat (first | omega | simp only [World.size_alloc, World.size_setCell, World.size_drew] | (with_reducible refine le_ext_of ?_) | (with_reducible refine le_ext_add ?_))); done)) | ((with_reducible refine Below.alloc ?_ ?_ _); rotate_left; focus (((try dsimp only); repeat (first | omega | simp only [World.size_alloc, World.size_setCell, World.size_drew] | (with_reducible refine le_ext_of ?_) | (with_reducible refine le_ext_add ?_))); done)) | ((with_reducible refine Below.setCell ?_ ?_ _); rotate_left; focus (((try dsimp only); repeat (first | omega | simp only [World.size_alloc, World.size_setCell, World.size_drew] | (with_reducible refine le_ext_of ?_) | (with_reducible refine le_ext_add ?_))); done)) | (with_reducible refine Below.drew ?_))))
              · have hB := HB.out
                (repeat (first | (with_reducible exact Below.refl _ _) | (with_reducible assumption) | ((with_reducible refine below_ext_trans ?_ ?_ _); rotate_left; focus (((try dsimp only); repeat (first | omega | simp only [World.size_alloc, World.size_setCell, World.size_drew] | (with_reducible refine le_ext_of ?_) | (with_reducible refine le_ext_add ?_))); done)) | ((with_reducible refine Below.alloc ?_ ?_ _); rotate_left; focus (((try dsimp only); repeat (first | omega | simp only [World.size_alloc, World.size_setCell, World.size_drew] | (with_reducible refine le_ext_of ?_) | (with_reducible refine le_ext_add ?_))); done)) | ((with_reducible refine Below.setCell ?_ ?_ _); rotate_left; focus (((try dsimp only); repeat (first | omega | simp only [World.size_alloc, World.size_setCell, World.size_drew] | (with_reducible refine le_ext_of ?_) | (with_reducible refine le_ext_add ?_))); done)) | (with_reducible refine Below.drew ?_)))
            case measure => simp [intOf]; omega
          · replace hq : _ = Value.int .i64 3 := hq
            obtain rfl := hq
            have hltk : (3 : Int) < (l.length : Int) := by omega
            have d0 := (H.out 3 (by omega)).1
            have e0 := (H.out 3 (by omega)).2
            simp only [Nat.zero_mul, Nat.add_zero, Nat.one_mul, Nat.reduceMul] at c1 c2
            have c2' := c2
            try simp only [Nat.add_assoc, Nat.reduceAdd] at c2'
            go_wp2_with fail
            refine wp_region_ext_tail 7 (by kernel_rfl) (by kernel_rfl) ?_
            simp only [List.take_succ_cons, List.take_zero, List.drop_succ_cons, List.drop_zero]
            repeat (go_big_quiet_step (first | (go_at_call 68; exact quiet_ext (soonest_any _ _ _))))
            (refine wpQuiet_nil ?_; rintro _ ⟨x, rfl⟩)
            go_wp2_with fail
            go_roundw
            case rel =>
              refine ⟨3 + 1, by omega, by go_num, Lib.hid (TabAt.set ?_ (by omega) (by omega) lo hi' HSK.out _ (by rfl) _ rfl), Lib.hid ?_⟩
              · exact H.out.kept (by omega) (by (repeat (first | (with_reducible exact Below.refl _ _) | (with_reducible assumption) | ((with_reducible refine below_ext_trans ?_ ?_ _); rotate_left; focus (((try dsimp only); repeat (first | omega | simp only [World.size_alloc, World.size_setCell, World.size_drew] | (with_reducible refine le_ext_of ?_) | (with_reducible refine le_ext_add ?_))); done)) | ((with_reducible refine Below.alloc ?_ ?_ _); rotate_left; focus (((try dsimp only); repeat (first | omega | simp only [World.size_alloc, World.size_setCell, World.size_drew] | (with_reducible refine le_ext_of ?_) | (with_reducible refine le_ext_add ?_))); done)) | ((with_reducible refine Below.setCell ?_ ?_ _); rotate_left; focus (((try dsimp only); repeat (first | omega | simp only [World.size_alloc, World.size_setCell, World.size_drew] | (with_reducible refine le_ext_of ?_) | (with_reducible refine le_ext_add ?_))); done)) | (with_reducible refine Below.drew ?_))))
              · have hB := HB.out
                (repeat (first | (with_reducible exact Below.refl _ _) | (with_reducible assumption) | ((with_reducible refine below_ext_trans ?_ ?_ _); rotate_left; focus (((try dsimp only); repeat (first | omega | simp only [World.size_alloc, World.size_setCell, World.size_drew] | (with_reducible refine le_ext_of ?_) | (with_reducible refine le_ext_add ?_))); done)) | ((with_reducible refine Below.alloc ?_ ?_ _); rotate_left; focus (((try dsimp only); repeat (first | omega | simp only [World.size_alloc, World.size_setCell, World.size_drew] | (with_reducible refine le_ext_of ?_) | (with_reducible refine le_ext_add ?_))); done)) | ((with_reducible refine Below.setCell ?_ ?_ _); rotate_left; focus (((try dsimp only); repeat (first | omega | simp only [World.size_alloc, World.size_setCell, World.size_drew] | (with_reducible refine le_ext_of ?_) | (with_reducible refine le_ext_add ?_))); done)) | (with_reducible refine Below.drew ?_)))
            case measure => simp [intOf]; omega
        · obtain rfl : k = l.length := by omega
          obtain rfl := hq
          have HN := Lib.hid (show TabAt (w.heap.size + 1 + 1) l (0 + 1) 0 wr from fun j hj => by rw [← kspec_end]; exact H.out j hj)
          clear H
          go_wp2_with fail
          go_roundw
          case rel => exact ⟨0 + 1, by omega, by go_num, HN, HB⟩
          case measure => simp [intOf]
    · replace hq : _ = Value.int .i64 1 := hq
      obtain rfl := hq
      go_wp2_with fail
      go_loopw [7, 8, 20] (fun _ _ q wr => ∃ k : Nat, k ≤ l.length ∧ q = .int .i64 k ∧ Hid (TabAt (w.heap.size + 1 + 1) l 1 k wr) ∧ Hid (Below (w.heap.size + 2) W wr)) (fun _ _ q _ => l.length - (intOf q).toNat)
      case atStart => exact ⟨0, by omega, rfl, H, HB⟩
      case round =>
        clear H HB hz hz1 hz2 HBw
        obtain ⟨k, hk, hq, H, HB⟩ := hrel
        by_cases hlt : k < l.length
        · have hz : w.heap.size + 1 + 1 < wr.heap.size := by have := HB.out.size; have := HWs.out; omega
          have hz1 : w.heap.size < wr.heap.size := by omega
          have hz3 : w.heap.size + 1 < wr.heap.size := by omega
          have hz4 : w.heap.size + 1 ≤ wr.heap.size := by omega
          have hz2 : w.heap.size + 1 + 1 ≤ wr.heap.size := by omega
          have HBw : Hid (Below w.heap.size w wr) := Lib.hid (HWB.out.trans (HB.out.mono (by omega)))
          obtain ⟨⟨lo, hi'⟩, hsk⟩ := get_some l k hlt
          obtain ⟨b, o, rfl, hb, c1, c2⟩ := (hs.below HBw.out) k _ hsk
          have HSK := Lib.hid hsk
          clear hsk
          dsimp only at c1 c2
          have hc4 : k = 0 ∨ k = 1 ∨ k = 2 ∨ k = 3 := by omega
          rcases hc4 with rfl | rfl | rfl | rfl
          · replace hq : _ = Value.int .i64 0 := hq
            obtain rfl := hq
            have hltk : (0 : Int) < (l.length : Int) := by omega
            have d0 := (H.out 4 (by omega)).1
            have e0 := (H.out 4 (by omega)).2
            simp only [Nat.zero_mul, Nat.add_zero, Nat.one_mul, Nat.reduceMul] at c1 c2
            have c2' := c2
            try simp only [Nat.add_assoc, Nat.reduceAdd] at c2'
            go_wp2_with fail
            refine wp_region_ext_tail 7 (by kernel_rfl) (by kernel_rfl) ?_
            simp only [List.take_succ_cons, List.take_zero, List.drop_succ_cons, List.drop_zero]
            repeat (go_big_quiet_step (first | (go_at_call 69; exact quiet_ext (latest_any _ _ _))))
            (refine wpQuiet_nil ?_; rintro _ ⟨x, rfl⟩)
            go_wp2_with fail
            go_roundw
            case rel =>
              refine ⟨0 + 1, by omega, by go_num, Lib.hid (TabAt.set ?_ (by omega) (by omega) lo hi' HSK.out _ (by rfl) _ rfl), Lib.hid ?_⟩
              · exact H.out.kept (by omega) (by (repeat (first | (with_reducible exact Below.refl _ _) | (with_reducible assumption) | ((with_reducible refine below_ext_trans ?_ ?_ _); rotate_left; focus (((try dsimp only); repeat (first | omega | simp only [World.size_alloc, World.size_setCell, World.size_drew] | (with_reducible refine le_ext_of ?_) | (with_reducible refine le_ext_add ?_))); done)) | ((with_reducible refine Below.alloc ?_ ?_ _); rotate_left; focus (((try dsimp only); repeat (first | omega | simp only [World.size_alloc, World.size_setCell, World.size_drew] | (with_reducible refine le_ext_of ?_) | (with_reducible refine le_ext_add ?_))); done)) | ((with_reducible refine Below.setCell ?_ ?_ _); rotate_left; focus (((try dsimp only); repeat (first | omega | simp only [World.size_alloc, World.size_setCell, World.size_drew] | (with_reducible refine le_ext_of ?_) | (with_reducible refine le_ext_add ?_))); done)) | (with_reducible refine Below.drew ?_))))
              · have hB := HB.out
                (repeat (first | (with_reducible exact Below.refl _ _) | (with_reducible assumption) | ((with_reducible refine below_ext_trans ?_ ?_ _); rotate_left; focus (((try dsimp only); repeat (first | omega | simp only [World.size_alloc, World.size_setCell, World.size_drew] | (with_reducible refine le_ext_of ?_) | (with_reducible refine le_ext_add ?_))); done)) | ((with_reducible refine Below.alloc ?_ ?_ _); rotate_left; focus (((try dsimp only); repeat (first | omega | simp only [World.size_alloc, World.size_setCell, World.size_drew] | (with_reducible refine le_ext_of ?_) | (with_reducible refine le_ext_add ?_))); done)) | ((with_reducible refine Below.setCell ?_ ?_ _); rotate_left; focus (((try dsimp only); repeat (first | omega | simp only [World.size_alloc, World.size_setCell, World.size_drew] | (with_reducible refine le_ext_of ?_) | (with_reducible refine le_ext_add ?_))); done)) | (with_reducible refine Below.drew ?_)))
            case measure => simp [intOf]; omega
          · replace hq : _ = Value.int .i64 1 := hq
            obtain rfl := hq
            have hltk : (1 : Int) < (l.length : Int) := by omega
            have d0 := (H.out 5 (by omega)).1
            have e0 := (H.out 5 (by omega)).2
            simp only [Nat.zero_mul, Nat.add_zero, Nat.one_mul, Nat.reduceMul] at c1 c2
            have c2' := c2
            try simp only [Nat.add_assoc, Nat.reduceAdd] at c2'
            go_wp2_with fail
            refine wp_region_ext_tail 7 (by kernel_rfl) (by kernel_rfl) ?_
            simp only [List.take_succ_cons, List.take_zero, List.drop_succ_cons, List.drop_zero]
            repeat (go_big_quiet_step (first | (go_at_call 69; exact quiet_ext (latest_any _ _ _))))
            (refine wpQuiet_nil ?_; rintro _ ⟨x, rfl⟩)
            go_wp2_with fail
            go_roundw
            case rel =>
              refine ⟨1 + 1, by omega, by go_num, Lib.hid (TabAt.set ?_ (by omega) (by omega) lo hi' HSK.out _ (by rfl) _ rfl), Lib.hid ?_⟩
              · exact H.out.kept (by omega) (by (repeat (first | (with_reducible exact Below.refl _ _) | (with_reducible assumption) | ((with_reducible refine below_ext_trans ?_ ?_ _); rotate_left; focus (((try dsimp only); repeat (first | omega | simp only [World.size_alloc, World.size_setCell, World.size_drew] | (with_reducible refine le_ext_of ?_) | (with_reducible refine le_ext_add ?_))); done)) | ((with_reducible refine Below.alloc ?_ ?_ _); rotate_left; focus (((try dsimp only); repeat (first | omega | simp only [World.size_alloc, World.size_setCell, World.size_drew] | (with_reducible refine le_ext_of ?_) | (with_reducible refine le_ext_add ?_))); done)) | ((with_reducible refine Below.setCell ?_ ?_ _); rotate_left; focus (((try dsimp only); repeat (first | omega | simp only [World.size_alloc, World.size_setCell, World.size_drew] | (with_reducible refine le_ext_of ?_) | (with_reducible refine le_ext_add ?_))); done)) | (with_reducible refine Below.drew ?_))))
              · have hB := HB.out
                (repeat (first | (with_reducible exact Below.refl _ _) | (with_reducible assumption) | ((with_reducible refine below_ext_trans ?_ ?_ _); rotate_left; focus (((try dsimp only); repeat (first | omega | simp only [World.size_alloc, World.size_setCell, World.size_drew] | (with_reducible refine le_ext_of ?_) | (with_reducible refine le_ext_add ?_))); done)) | ((with_reducible refine Below.alloc ?_ ?_ _); rotate_left; focus (((try dsimp only); repeat (first | omega | simp only [World.size_alloc, World.size_setCell, World.size_drew] | (with_reducible refine le_ext_of ?_) | (with_reducible refine le_ext_add ?_))); done)) | ((with_reducible refine Below.setCell ?_ ?_ _); rotate_left; focus (((try dsimp only); repeat (first | omega | simp only [World.size_alloc, World.size_setCell, World.size_drew] | (with_reducible refine le_ext_of ?_) | (with_reducible refine le_ext_add ?_))); done)) | (with_reducible refine Below.drew ?_)))
            case measure => simp [intOf]; omega
          · replace hq : _ = Value.int .i64 2 := hq
            obtain rfl := hq
            have hltk : (2 : Int) < (l.length : Int) := by omega
            have d0 := (H.out 6 (by omega)).1
            have e0 := (H.out 6 (by omega)).2
            simp only [Nat.zero_mul, Nat.add_zero, Nat.one_mul, Nat.reduceMul] at c1 c2
            have c2' := c2
            try simp only [Nat.add_assoc, Nat.reduceAdd] at c2'
            go_wp2_with fail
            refine wp_region_ext_tail 7 (by kernel_rfl) (by kernel_rfl) ?_
            simp only [List.take_succ_cons, List.take_zero, List.drop_succ_cons, List.drop_zero]
            repeat (go_big_quiet_step (first | (go_at_call 69; exact quiet_ext (latest_any _ _ _))))
            (refine wpQuiet_nil ?_; rintro _ ⟨x, rfl⟩)
            go_wp2_with fail
            go_roundw
            case rel =>
              refine ⟨2 + 1, by omega, by go_num, Lib.hid (TabAt.set ?_ (by omega) (by omega) lo hi' HSK.out _ (by rfl) _ rfl), Lib.hid ?_⟩
              · exact H.out.kept (by omega) (by (repeat (first | (with_reducible exact Below.refl _ _) | (with_reducible assumption) | ((with_reducible refine below_ext_trans ?_ ?_ _); rotate_left; focus (((try dsimp only); repeat (first | omega | simp only [World.size_alloc, World.size_setCell, World.size_drew] | (with_reducible refine le_ext_of ?_) | (with_reducible refine le_ext_add ?_))); done)) | ((with_reducible refine Below.alloc ?_ ?_ _); rotate_left; focus (((try dsimp only); repeat (first | omega | simp only [World.size_alloc, World.size_setCell, World.size_drew] | (with_reducible refine le_ext_of ?_) | (with_reducible refine le_ext_add ?_))); done)) | ((with_reducible refine Below.setCell ?_ ?_ _); rotate_left; focus (((try dsimp only); repeat (first | omega | simp only [World.size_alloc, World.size_setCell, World.size_drew] | (with_reducible refine le_ext_of ?_) | (with_reducible refine le_ext_add ?_))); done)) | (with_reducible refine Below.drew ?_))))
              · have hB := HB.out
                (repeat (first | (with_reducible exact Below.refl _ _) | (with_reducible assumption) | ((with_reducible refine below_ext_trans ?_ ?_ _); rotate_left; focus (((try dsimp only); repeat (first | omega | simp only [World.size_alloc, World.size_setCell, World.size_drew] | (with_reducible refine le_ext_of ?_) | (with_reducible refine le_ext_add ?_))); done)) | ((with_reducible refine Below.alloc ?_ ?_ _); rotate_left; focus (((try dsimp only); repeat (first | omega | simp only [World.size_alloc, World.size_setCell, World.size_drew] | (with_reducible refine le_ext_of ?_) | (with_reducible refine le_ext_add ?_))); done)) | ((with_reducible refine Below.setCell ?_ ?_ _); rotate_left; focus (((try dsimp only); repeat (first | omega | simp only [World.size_alloc, World.size_setCell, World.size_drew] | (with_reducible refine le_ext_of ?_) | (with_reducible refine le_ext_add ?_))); done)) | (with_reducible refine Below.drew ?_)))
            case measure => simp [intOf]; omega
          · replace hq : _ = Value.int .i64 3 := hq
            obtain rfl := hq
            have hltk : (3 : Int) < (l.length : Int) := by omega
            have d0 := (H.out 7 (by omega)).1
            have e0 := (H.out 7 (by omega)).2
            simp only [Nat.zero_mul, Nat.add_zero, Nat.one_mul, Nat.reduceMul] at c1 c2
            have c2' := c2
            try simp only [Nat.add_assoc, Nat.reduceAdd] at c2'
            go_wp2_with fail
            refine wp_region_ext_tail 7 (by kernel_rfl) (by kernel_rfl) ?_
            simp only [List.take_succ_cons, List.take_zero, List.drop_succ_cons, List.drop_zero]
            repeat (go_big_quiet_step (first | (go_at_call 69; exact quiet_ext (latest_any _ _ _))))
            (refine wpQuiet_nil ?_; rintro _ ⟨x, rfl⟩)
            go_wp2_with fail
            go_roundw
            case rel =>
              refine ⟨3 + 1, by omega, by go_num, Lib.hid (TabAt.set ?_ (by omega) (by omega) lo hi' HSK.out _ (by rfl) _ rfl), Lib.hid ?_⟩
              · exact H.out.kept (by omega) (by (repeat (first | (with_reducible exact Below.refl _ _) | (with_reducible assumption) | ((with_reducible refine below_ext_trans ?_ ?_ _); rotate_left; focus (((try dsimp only); repeat (first | omega | simp only [World.size_alloc, World.size_setCell, World.size_drew] | (with_reducible refine le_ext_of ?_) | (with_reducible refine le_ext_add ?_))); done)) | ((with_reducible refine Below.alloc ?_ ?_ _); rotate_left; focus (((try dsimp only); repeat (first | omega | simp only [World.size_alloc, World.size_setCell, World.size_drew] | (with_reducible refine le_ext_of ?_) | (with_reducible refine le_ext_add ?_))); done)) | ((with_reducible refine Below.setCell ?_ ?_ _); rotate_left; focus (((try dsimp only); repeat (first | omega | simp only [World.size_alloc, World.size_setCell, World.size_drew] | (with_reducible refine le_ext_of ?_) | (with_reducible refine le_ext_add ?_))); done)) | (with_reducible refine Below.drew ?_))))
              · have hB := HB.out
                (repeat (first | (with_reducible exact Below.refl _ _) | (with_reducible assumption) | ((with_reducible refine below_ext_trans ?_ ?_ _); rotate_left; focus (((try dsimp only); repeat (first | omega | simp only [World.size_alloc, World.size_setCell, World.size_drew] | (with_reducible refine le_ext_of ?_) | (with_reducible refine le_ext_add ?_))); done)) | ((with_reducible refine Below.alloc ?_ ?_ _); rotate_left; focus (((try dsimp only); repeat (first | omega | simp only [World.size_alloc, World.size_setCell, World.size_drew] | (with_reducible refine le_ext_of ?_) | (with_reducible refine le_ext_add ?_))); done)) | ((with_reducible refine Below.setCell ?_ ?_ _); rotate_left; focus (((try dsimp only); repeat (first | omega | simp only [World.size_alloc, World.size_setCell, World.size_drew] | (with_reducible refine le_ext_of ?_) | (with_reducible refine le_ext_add ?_))); done)) | (with_reducible refine Below.drew ?_)))
            case measure => simp [intOf]; omega
        · obtain rfl : k = l.length := by omega
          obtain rfl := hq
          have HN := Lib.hid (show TabAt (w.heap.size + 1 + 1) l (1 + 1) 0 wr from fun j hj => by rw [← kspec_end]; exact H.out j hj)
          clear H
          go_wp2_with fail
          go_roundw
          case rel => exact ⟨1 + 1, by omega, by go_num, HN, HB⟩
          case measure => simp [intOf]
end Go.Proofs.YtdmicngnbcdkdaaDoor

