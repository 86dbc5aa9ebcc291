/- Package seine: with. Written by gen_with.py. -/
/- Package seine: Fits. Written by gen_fits.py. -/
import Derived.Test.YtjjfpbjdcmkkhaaDoorQNg
import Derived.Deep.QuietTactic
import Derived.BigQuiet
set_option linter.unusedSimpArgs false
set_option linter.unusedVariables false
namespace Go.Proofs.YtjjfpbjdcmkkhaaDoor
open Go Go.RowKit Go.Shelf
/-- A book with a further note. -/
def withS (b : Sn) (s : Nt) : Sn := { lo := b.lo, hi := b.hi, ns := b.ns.take (upN b.ns s.hour) ++ [s] ++ b.ns.drop (upN b.ns s.hour) }
theorem withS_ns (b : Sn) (s : Nt) : (withS b s).ns = b.ns.take (upN b.ns s.hour) ++ [s] ++ b.ns.drop (upN b.ns s.hour) := rfl
theorem withS_len (b : Sn) (s : Nt) : (withS b s).ns.length = b.ns.length + 1 := by
  have := upN_le b.ns s.hour
  rw [withS_ns]; simp; omega
/-- What the operations leave by which the note gets behind the first ones. -/
def with4R (B : Nat) (b : Sn) (p : Option Addr) (c : Nat) (s : Nt) (k : Nat) (i : Nat) (v : Value) (w : World) : Prop :=
  match i with
  | 0 => v = .pointer (some ⟨B, 2, none⟩)
  | 1 => v = .slice p b.ns.length c
  | 2 => v = .int .i64 k
  | 3 => v = .int .i64 k
  | 4 => v = .slice p k k
  | 5 => v = .agg #[.int .i64 s.kind, .int .i64 s.hour, .int .i64 s.lo, .int .i64 s.hi]
  | 6 => ∃ g, v = .slice (some ⟨g, 0, none⟩) 1 1 ∧ Blk w g 38 #[.int .i64 s.kind, .int .i64 s.hour, .int .i64 s.lo, .int .i64 s.hi]
  | 7 => OwnNs w (B + 3) v (b.ns.take k ++ [s])
  | _ => True
theorem with4R_kept (B : Nat) (b : Sn) (p : Option Addr) (c : Nat) (s : Nt) (k : Nat) : ∀ i, i < 8 → ∀ (v : Value) (w w' : World), with4R B b p c s k i v w → Below w.heap.size w w' → with4R B b p c s k i v w' := by
  intro i h8 v w w' h hb
  match i, h8 with
  | 0, _ => exact h
  | 1, _ => exact h
  | 2, _ => exact h
  | 3, _ => exact h
  | 4, _ => exact h
  | 5, _ => exact h
  | 6, _ => obtain ⟨g, h1, h2⟩ := h; exact ⟨g, h1, h2.bel hb⟩
  | 7, _ => exact OwnNs.below h hb
  | k + 8, hk => omega
/-- What the operations leave by which the other notes get behind it. -/
def with5R (B : Nat) (b : Sn) (p : Option Addr) (c : Nat) (s : Nt) (k : Nat) (v0 : Value) (f : Bool) (i : Nat) (v : Value) (w : World) : Prop :=
  match i with
  | 0 => v = .pointer (some ⟨B, 0, none⟩)
  | 1 => v = .agg #[.int .i64 b.lo, .int .i64 b.hi]
  | 2 => v = v0 ∧ (f = false → OwnNs w (B + 3) v0 (b.ns.take k ++ [s]))
  | 3 => v = .pointer (some ⟨B, 2, none⟩)
  | 4 => v = .slice p b.ns.length c
  | 5 => v = .int .i64 k
  | 6 => match p with | none => v = .slice none 0 0 | some ⟨b', o', _⟩ => ∃ o2, v = .slice (some ⟨b', o2, none⟩) (b.ns.length - k) (c - k) ∧ (c ≠ k → o2 = o' + k * 4)
  | 7 => f = true ∧ OwnNs w (B + 3) v (b.ns.take k ++ [s] ++ b.ns.drop k)
  | 8 => f = true ∧ ∃ v', OwnNs w (B + 3) v' (b.ns.take k ++ [s] ++ b.ns.drop k) ∧ ∃ p' n' c', v' = .slice p' n' c' ∧ v = .agg #[.int .i64 b.lo, .int .i64 b.hi, .slice p' n' c']
  | _ => True
theorem with5R_kept (B : Nat) (b : Sn) (p : Option Addr) (c : Nat) (s : Nt) (k : Nat) (v0 : Value) : ∀ f i, i < 9 → ∀ (v : Value) (w w' : World), with5R B b p c s k v0 f i v w → Below w.heap.size w w' → with5R B b p c s k v0 f i v w' := by
  intro f i h8 v w w' h hb
  match i, h8 with
  | 0, _ => exact h
  | 1, _ => exact h
  | 2, _ => exact ⟨h.1, fun e => (h.2 e).below hb⟩
  | 3, _ => exact h
  | 4, _ => exact h
  | 5, _ => exact h
  | 6, _ => exact h
  | 7, _ => exact ⟨h.1, OwnNs.below h.2 hb⟩
  | 8, _ => obtain ⟨h0, v', h1, h2⟩ := h; exact ⟨h0, v', OwnNs.below h1 hb, h2⟩
  | k + 9, hk => omega
attribute [local go_sem] Oper.semAt_some frozen_alloc_lt
set_option maxRecDepth 100000 in
set_option maxHeartbeats 4000000 in
theorem with_any (b : Sn) (p : Option Addr) (c : Nat) (s : Nt) (w : World) (hl : NotesAt w p b.ns) (hlen : b.ns.length ≤ 100) (hcap : b.ns.length ≤ c) (hp : ∀ a, p = some a → ∃ b o, a = ⟨b, o, none⟩) (hp0 : p = none → c = 0) (hpw : ∀ a, p = some a → a.block < w.heap.size) :
    Calls Tryd.prog 74 #[.agg #[.int .i64 b.lo, .int .i64 b.hi, .slice p b.ns.length c], .agg #[.int .i64 s.kind, .int .i64 s.hour, .int .i64 s.lo, .int .i64 s.hi]] w fun e w' => ∃ (p' : Option Addr) (c' : Nat), e = .returned (.agg #[.int .i64 b.lo, .int .i64 b.hi, .slice p' (withS b s).ns.length c']) ∧ NotesAt w' p' (withS b s).ns ∧ (∀ a, p' = some a → a.block < w'.heap.size) ∧ (withS b s).ns.length ≤ c' ∧ Below w.heap.size w w' := by
  have hnil : p = none → b.ns = [] := fun e => by
    cases hns : b.ns with
    | nil => rfl
    | cons a l => obtain ⟨b', o', e', -⟩ := hl 0 a (by rw [hns]; rfl); rw [e] at e'; cases e'
  have HL := Lib.hid hl
  have HPW := Lib.hid hpw
  have HP := Lib.hid hp
  have HNIL := Lib.hid hnil
  have HP0 := Lib.hid hp0
  clear hl hp hnil hpw hp0
  go_enter Tryd.func74, Tryd.ntmps74
  go_upto_region 2 with fail
  generalize hW0 : ((w.alloc _).alloc _).alloc _ = W0
  have hB0 : Below w.heap.size w W0 := by rw [← hW0]; (repeat (first | (with_reducible exact Below.refl _ _) | (with_reducible assumption) | ((with_reducible refine below_ext_trans ?_ ?_ _); rotate_left; focus (((try dsimp only); repeat (first | omega | simp only [World.size_alloc, World.size_setCell, World.size_drew] | (with_reducible refine le_ext_of ?_) | (with_reducible refine le_ext_add ?_))); done)) | ((with_reducible refine Below.alloc ?_ ?_ _); rotate_left; focus (((try dsimp only); repeat (first | omega | simp only [World.size_alloc, World.size_setCell, World.size_drew] | (with_reducible refine le_ext_of ?_) | (with_reducible refine le_ext_add ?_))); done)) | ((with_reducible refine Below.setCell ?_ ?_ _); rotate_left; focus (((try dsimp only); repeat (first | omega | simp only [World.size_alloc, World.size_setCell, World.size_drew] | (with_reducible refine le_ext_of ?_) | (with_reducible refine le_ext_add ?_))); done)) | (with_reducible refine Below.drew ?_)))
  have hz0 : W0.heap.size = w.heap.size + 3 := by rw [← hW0]; simp
  have hb0 : Blk W0 w.heap.size 26 #[.int .i64 b.lo, .int .i64 b.hi, .slice p b.ns.length c] := by rw [← hW0]; exact ((Blk.new rfl).alloc _).alloc _
  have hn0 : Blk W0 (w.heap.size + 1) 38 #[.int .i64 s.kind, .int .i64 s.hour, .int .i64 s.lo, .int .i64 s.hi] := by rw [← hW0]; exact (Blk.new (by simp)).alloc _
  have hr0 : Blk W0 (w.heap.size + 2) 26 #[.int .i64 0, .int .i64 0, .slice none 0 0] := by rw [← hW0]; exact Blk.new (by simp)
  clear hW0
  have t2 := hb0.cell 2
  have n1 := hn0.cell 1
  have lt := hb0.lt
  have ln := hn0.lt
  simp only [List.size_toArray, List.length_cons, List.length_nil, Nat.reduceAdd, Nat.reduceLT, getElem?_pos, List.getElem_toArray, List.getElem_cons_zero, List.getElem_cons_succ] at t2 n1
  have HB0 := Lib.hid hB0
  have HBk := Lib.hid hb0
  have HN0 := Lib.hid hn0
  have HR0 := Lib.hid hr0
  have HZ0 := Lib.hid hz0
  clear hB0 hb0 hn0 hr0 hz0
  go_wp2_with fail
  go_loopw [5] (fun i wr => ∃ k : Nat, k ≤ b.ns.length ∧ i = .int .i64 k ∧ Hid (∀ i s', i < k → b.ns[i]? = some s' → s'.hour ≤ s.hour) ∧ Hid (Below W0.heap.size W0 wr)) (fun i _ => b.ns.length - (intOf i).toNat)
  case atStart => exact ⟨0, by omega, rfl, Lib.hid (fun i s' hi => by omega), Lib.hid (Below.refl _ _)⟩
  case round =>
    obtain ⟨k, hk, rfl, HLOW, HB⟩ := hrel
    have hk0 : (0 : Int) ≤ (k : Int) := by omega
    have t2 : wr.cell? ⟨w.heap.size, 2, none⟩ = some (.slice p b.ns.length c) := (HB.out.cell (p := ⟨w.heap.size, 2, none⟩) HBk.out.lt).trans (by simpa using HBk.out.cell 2)
    have n1 : wr.cell? ⟨w.heap.size + 1, 1, none⟩ = some (.int .i64 s.hour) := (HB.out.cell (p := ⟨w.heap.size + 1, 1, none⟩) HN0.out.lt).trans (by simpa using HN0.out.cell 1)
    have lt : w.heap.size < wr.heap.size := (HBk.out.bel HB.out).lt
    have ln : w.heap.size + 1 < wr.heap.size := (HN0.out.bel HB.out).lt
    by_cases hcont : ∃ s', b.ns[k]? = some s' ∧ s'.hour ≤ s.hour
    · obtain ⟨s', hs, hle⟩ := hcont
      have hlt := (List.getElem?_eq_some_iff.1 hs).1
      have hkl : (k : Int) < (b.ns.length : Int) := by omega
      obtain ⟨bb, o, hp, hbb, c0, c1, c2, c3⟩ := ((HL.out.below HB0.out).below HB.out) k s' hs
      subst hp
      have hlow2 : ∀ i t, i < k + 1 → b.ns[i]? = some t → t.hour ≤ s.hour := fun i t hi ht => by
        rcases Nat.lt_or_ge i k with h1 | h1
        · exact HLOW.out i t h1 ht
        · have : i = k := by omega
          subst this
          rw [hs] at ht
          cases ht
          exact hle
      have HLOW2 := Lib.hid hlow2
      have HW := Lib.hid (wrap_num k (by omega))
      clear hlow2 hs
      have hd1 : decide ((k : Int) < (b.ns.length : Int)) = true := by simpa using hkl
      have hd2 : decide (s'.hour ≤ s.hour) = true := by simpa using hle
      try go_wp2_with fail
      refine wp_region_ext (by kernel_rfl) (by kernel_rfl) ?_
      repeat (go_big_quiet_step (fail))
      (refine wpQuiet_nil ?_; rintro _ ⟨x, rfl⟩)
      go_wp2_with fail
      go_roundw
      case rel => exact ⟨k + 1, by omega, by go_num, HLOW2, Lib.hid (HB.out.trans ((below_ext _ _).mono HB.out.size))⟩
      case measure => simp [intOf]; omega
    · have HK := Lib.hid (upN_at (h := s.hour) (k := k) HLOW.out hk (fun t ht hle => hcont ⟨t, ht, hle⟩))
      clear HLOW
      by_cases hlt : k < b.ns.length
      · obtain ⟨s', hs⟩ := get_some b.ns k hlt
        have hle : ¬ s'.hour ≤ s.hour := fun e => hcont ⟨s', hs, e⟩
        have hkl : (k : Int) < (b.ns.length : Int) := by omega
        obtain ⟨bb, o, hp, hbb, c0, c1, c2, c3⟩ := ((HL.out.below HB0.out).below HB.out) k s' hs
        subst hp
        clear hs hcont
        have hd1 : decide ((k : Int) < (b.ns.length : Int)) = true := by simpa using hkl
        have hd2 : decide (s'.hour ≤ s.hour) = false := by simpa using hle
        try go_wp2_with fail
        refine wp_region_ext (by kernel_rfl) (by kernel_rfl) ?_
        repeat (go_big_quiet_step (fail))
        (refine wpQuiet_nil ?_; rintro _ ⟨x, rfl⟩)
        go_upto_region 4 with fail
        generalize hW1 : ext wr _ = W1
        have hB1 : Below W0.heap.size W0 W1 := by rw [← hW1]; exact HB.out.trans ((below_ext _ _).mono HB.out.size)
        have hb1 := HBk.out.bel hB1
        have hn1 := HN0.out.bel hB1
        have hl1 := (HL.out.below HB0.out).below hB1
        have hz1 := hB1.size
        have hz0 := HZ0.out
        have hk1 := HK.out
        clear hW1
        refine wp_region_flow_back 8 42 (with4R w.heap.size b (some ⟨bb, o, none⟩) c s k) (by kernel_rfl) (by kernel_rfl) rfl (with4R_kept _ _ _ _ _ _) ?_ ?_
        · intro i hin a X g1 g2 g3 g4 g5 KK hKK
          have hzX := g5.size
          match i, hin with
          | 0, _ => exact st_val rfl (wanted_none rfl) (run_fBook1 _ rfl (g3 2 (by kernel_rfl)) (hb1.bel g5).lt) (hKK _ _ rfl (Below.refl _ _))
          | 1, _ => exact st_val rfl (wanted_none rfl) (run_lNotes _ rfl (g4 0 (by kernel_rfl)) (by simpa using (hb1.bel g5).cell 2)) (hKK _ _ rfl (Below.refl _ _))
          | 2, _ => exact st_move rfl rfl (wanted_none rfl) (g3 5 (by kernel_rfl)) (hKK _ _ rfl (Below.refl _ _))
          | 3, _ => exact st_move rfl rfl (wanted_none rfl) (g3 5 (by kernel_rfl)) (hKK _ _ rfl (Below.refl _ _))
          | 4, _ => exact st_val rfl (wanted_none rfl) (run_slTo _ rfl (g4 1 (by kernel_rfl)) (g4 2 (by kernel_rfl)) (g4 3 (by kernel_rfl)) (by omega) HP.out (fun e => by have := HNIL.out e; rw [this] at hk; simpa using hk)) (hKK _ _ rfl (Below.refl _ _))
          | 5, _ => exact st_val rfl (wanted_none rfl) (run_lNoteS _ rfl (g3 3 (by kernel_rfl)) (hn1.bel g5)) (hKK _ _ rfl (Below.refl _ _))
          | 6, _ => exact st_valw rfl (wanted_none rfl) (run_bsNote _ rfl (g4 5 (by kernel_rfl))) (hKK _ _ ⟨_, rfl, Blk.new rfl⟩ ((Below.refl _ _).alloc (Nat.le_refl _) _))
          | 7, _ =>
            obtain ⟨g, e6, hg⟩ := g4 6 (by kernel_rfl)
            have e4 := g4 4 (by kernel_rfl)
            have htk : (b.ns.take k).length = k := by rw [List.length_take]; omega
            refine st_grow_note rfl rfl _ _ rfl (some ⟨bb, o, none⟩) (b.ns.take k) (e4.trans (by rw [htk])) (fun e => by rw [HNIL.out e]; simp) ((hl1.below g5).take k) HP.out g s e6 hg (by omega) ?_
            intro v' w' h1 h2
            exact hKK _ _ (h1.mono (by omega)) h2
          | k + 8, hk => omega
        intro vs W2 hvs hBW2
        have v0 : vs 0 = _ := hvs 0 (by omega)
        have v1 : vs 1 = _ := hvs 1 (by omega)
        have v2 : vs 2 = _ := hvs 2 (by omega)
        have v3 : vs 3 = _ := hvs 3 (by omega)
        have v4 : vs 4 = _ := hvs 4 (by omega)
        have v5 : vs 5 = _ := hvs 5 (by omega)
        obtain ⟨g6, v6, -⟩ := hvs 6 (by omega)
        obtain ⟨v', v7⟩ : ∃ x, vs 7 = x := ⟨_, rfl⟩
        have hown : OwnNs W2 (w.heap.size + 3) v' (b.ns.take k ++ [s]) := by rw [← v7]; exact hvs 7 (by omega)
        simp only [putAll, v0, v1, v2, v3, v4, v5, v6, v7]
        clear v0 v1 v2 v3 v4 v5 v6 v7 hvs
        simp only [dstOf, Act.put, List.getElem?_toArray, List.getElem?_cons_zero, List.getElem?_cons_succ, Option.bind_some, Option.getD_some, List.setIfInBounds_toArray, List.set_cons_succ, List.set_cons_zero, List.drop_succ_cons, List.drop_zero]
        have hB2 := hB1.trans (hBW2.mono hz1)
        have HB2 := Lib.hid hB2
        have HOWN := Lib.hid hown
        clear hB2 hown hBW2 hB1 hb1 hn1 hl1
        go_upto_region 5 with fail
        have hb2 := HBk.out.bel HB2.out
        have hr2 := HR0.out.bel HB2.out
        have hl2 := (HL.out.below HB0.out).below HB2.out
        have hz2 := HB2.out.size
        have hown := HOWN.out
        have hrow : ∀ g', v'.ownBlock = some g' → w.heap.size + 3 ≤ g' := fun g' hg => (hown.lt g' hg).1
        refine wp_region_flow_backH 9 42 7 v'.ownBlock (with5R w.heap.size b (some ⟨bb, o, none⟩) c s k v') (by kernel_rfl) (by kernel_rfl) rfl (by omega) (with5R_kept _ _ _ _ _ _ _) ?_ ?_ ?_
        · intro i hin hne f a X g1 g2 g3 g4 g5 g6 KK hKK
          have far : ∀ g', g' < W2.heap.size → g' < w.heap.size + 3 → X.heap[g']? = W2.heap[g']? := fun g' h1 h2 => g5.block g' h1 (fun e => by have := hrow g' e.symm; omega)
          have hbX : Blk X w.heap.size 26 #[.int .i64 b.lo, .int .i64 b.hi, .slice (some ⟨bb, o, none⟩) b.ns.length c] := (far _ hb2.lt (by omega)).trans hb2
          match i, hin with
          | 0, _ => exact st_val rfl (wanted_none rfl) (run_fBook0 _ rfl (g3 2 (by kernel_rfl)) hbX.lt) (hKK _ _ rfl (Below.refl _ _))
          | 1, _ => exact st_val rfl (wanted_none rfl) (run_lSpanS _ rfl (g4 0 (by kernel_rfl)) (by simpa using hbX.cell 0) (by simpa using hbX.cell 1)) (hKK _ _ rfl (Below.refl _ _))
          | 2, _ => exact st_move rfl rfl (wanted_none rfl) (g3 6 (by kernel_rfl)) (hKK _ _ ⟨rfl, fun hf => hown.below (g6 hf)⟩ (Below.refl _ _))
          | 3, _ => exact st_val rfl (wanted_none rfl) (run_fBook1 _ rfl (g3 2 (by kernel_rfl)) hbX.lt) (hKK _ _ rfl (Below.refl _ _))
          | 4, _ => exact st_val rfl (wanted_none rfl) (run_lNotes _ rfl (g4 3 (by kernel_rfl)) (by simpa using hbX.cell 2)) (hKK _ _ rfl (Below.refl _ _))
          | 5, _ => exact st_move rfl rfl (wanted_none rfl) (g3 5 (by kernel_rfl)) (hKK _ _ rfl (Below.refl _ _))
          | 6, _ =>
            exact st_slFrom rfl (wanted_none rfl) rfl (g4 4 (by kernel_rfl)) (g4 5 (by kernel_rfl)) hk hcap (fun o2 ho2 => hKK _ _ ⟨o2, rfl, ho2⟩ (Below.refl _ _))
          | 7, _ => exact absurd rfl hne
          | 8, _ =>
            obtain ⟨hf, hO⟩ := g4 7 (by kernel_rfl)
            obtain ⟨p', c', e7, -⟩ := hO.at
            exact st_val rfl (wanted_none rfl) (run_bBookS _ rfl (g4 1 (by kernel_rfl)) e7) (hKK _ _ ⟨hf, _, hO, p', _, c', e7, rfl⟩ (Below.refl _ _))
          | k + 9, hk => omega
        · intro a X g1 g2 g3 g4 g5 KK hKK
          obtain ⟨e2, ho⟩ := g4 2 (by kernel_rfl)
          obtain ⟨o2, e6, ho2⟩ := g4 6 (by kernel_rfl)
          have hdl : (b.ns.drop k).length = b.ns.length - k := List.length_drop
          have htk : (b.ns.take k).length = k := by rw [List.length_take]; omega
          have hdn : NotesAt X (some ⟨bb, o2, none⟩) (b.ns.drop k) := by
            by_cases hck : c = k
            · have : b.ns.drop k = [] := List.drop_eq_nil_of_le (by omega)
              rw [this]; intro i s hi; simp at hi
            · rw [ho2 hck]; exact (hl2.below g5).drop k
          refine st_append_notes rfl (wanted_none rfl) _ _ rfl (w.heap.size + 3) _ _ e2 (ho rfl) bb o2 (c - k) (b.ns.drop k) (e6.trans (by rw [hdl])) hdn (by rw [hdl, List.length_append, htk]; simp; omega) (by have := g5.size; have := hr2.lt; omega) ?_
          intro v2 w2 h7 h8
          refine hKK _ _ ⟨rfl, h7⟩ (fun j u hj hr => ?_) h8
          match j, hj with
          | 0, _ => exact hr
          | 1, _ => exact hr
          | 2, _ => exact ⟨hr.1, fun hf => by cases hf⟩
          | 3, _ => exact hr
          | 4, _ => exact hr
          | 5, _ => exact hr
          | 6, _ => exact hr
          | 7, _ => exact absurd hr.1 (by decide)
          | 8, _ => exact absurd hr.1 (by decide)
          | k + 9, hk => omega
        intro vs W3 hvs hg3
        have v0 : vs 0 = _ := hvs 0 (by omega)
        have v1 : vs 1 = _ := hvs 1 (by omega)
        have v2 : vs 2 = _ := (hvs 2 (by omega)).1
        have v3 : vs 3 = _ := hvs 3 (by omega)
        have v4 : vs 4 = _ := hvs 4 (by omega)
        have v5 : vs 5 = _ := hvs 5 (by omega)
        obtain ⟨x6, v6⟩ : ∃ x, vs 6 = x := ⟨_, rfl⟩
        obtain ⟨x7, v7⟩ : ∃ x, vs 7 = x := ⟨_, rfl⟩
        obtain ⟨-, vL, hO, p', n', c', rfl, v8⟩ := hvs 8 (by omega)
        simp only [putAll, v0, v1, v2, v3, v4, v5, v6, v7, v8]
        clear v0 v1 v2 v3 v4 v5 v6 v7 v8 hvs
        simp only [dstOf, Act.put, List.getElem?_toArray, List.getElem?_cons_zero, List.getElem?_cons_succ, Option.bind_some, Option.getD_some, List.setIfInBounds_toArray, List.set_cons_succ, List.set_cons_zero, List.drop_succ_cons, List.drop_zero]
        have hr3 : Blk W3 (w.heap.size + 2) 26 #[.int .i64 0, .int .i64 0, .slice none 0 0] := (hg3.block _ hr2.lt (fun e => by have := hrow _ e.symm; omega)).trans hr2
        have hB3 : Below w.heap.size w W3 := (HB0.out.trans (HB2.out.mono (by omega))).trans ⟨hg3.os, hg3.tape, hg3.output, hg3.size, fun q hq => hg3.block q (by have := hb2.lt; omega) (fun e => by have := hrow _ e.symm; omega)⟩
        have r0 := hr3.frozen 0
        have r1 := hr3.frozen 1
        have r2 := hr3.frozen 2
        have d0 := hr3.cell 0
        have d1 := hr3.cell 1
        have d2 := hr3.cell 2
        have lr := hr3.lt
        simp only [List.size_toArray, List.length_cons, List.length_nil, Nat.reduceAdd, Nat.reduceLT, getElem?_pos, List.getElem_toArray, List.getElem_cons_zero, List.getElem_cons_succ] at d0 d1 d2
        have HR3 := Lib.hid hr3
        have HB3 := Lib.hid hB3
        have HO := Lib.hid hO
        clear hr3 hB3 hO hg3 hb2 hr2 hl2 hz2 hown hrow
        go_wp2_with fail
        have hF := ((HR3.out.set 0 (.int .i64 b.lo)).set 1 (.int .i64 b.hi)).set 2 (.slice p' n' c')
        have hBF : Below w.heap.size w (((W3.setCell ⟨w.heap.size + 2, 0, none⟩ (.int .i64 b.lo)).setCell ⟨w.heap.size + 2, 1, none⟩ (.int .i64 b.hi)).setCell ⟨w.heap.size + 2, 2, none⟩ (.slice p' n' c')) := ((HB3.out.setCell (by simp) _).setCell (by simp) _).setCell (by simp) _
        have hOF : OwnNs (((W3.setCell ⟨w.heap.size + 2, 0, none⟩ (.int .i64 b.lo)).setCell ⟨w.heap.size + 2, 1, none⟩ (.int .i64 b.hi)).setCell ⟨w.heap.size + 2, 2, none⟩ (.slice p' n' c')) (w.heap.size + 3) (.slice p' n' c') (b.ns.take k ++ [s] ++ b.ns.drop k) := HO.out.kept (fun g hg => by
          have := (HO.out.lt g hg).1
          exact (Below.heap_setCell _ _ _ _ (by dsimp only; omega)).trans ((Below.heap_setCell _ _ _ _ (by dsimp only; omega)).trans (Below.heap_setCell _ _ _ _ (by dsimp only; omega))))
        have hnl : (withS b s).ns = b.ns.take k ++ [s] ++ b.ns.drop k := by rw [withS_ns, hk1]
        rw [← hnl] at hOF
        obtain ⟨hn', hcp, hlt⟩ := hOF.ends
        have hNF := hOF.notes
        have t0 := Blk.cell hF 0
        have t1 := Blk.cell hF 1
        have t2 := Blk.cell hF 2
        refine bodyPost_ret (v := .agg #[.int .i64 b.lo, .int .i64 b.hi, .slice p' (withS b s).ns.length c']) ?_ ?_ ?_
        · subst hn'
          simp [results, Tryd.results74, go_sem, d0, d1, d2, lr]
        · rfl
        · exact ⟨p', c', rfl, hNF, hlt, hcp, hBF⟩
      · have hkl : ¬ (k : Int) < (b.ns.length : Int) := by omega
        clear hcont
        have hd1 : decide ((k : Int) < (b.ns.length : Int)) = false := by simpa using hkl
        try go_wp2_with fail
        refine wp_region_ext (by kernel_rfl) (by kernel_rfl) ?_
        repeat (go_big_quiet_step (fail))
        (refine wpQuiet_nil ?_; rintro _ ⟨x, rfl⟩)
        go_upto_region 4 with fail
        generalize hW1 : ext wr _ = W1
        have hB1 : Below W0.heap.size W0 W1 := by rw [← hW1]; exact HB.out.trans ((below_ext _ _).mono HB.out.size)
        have hb1 := HBk.out.bel hB1
        have hn1 := HN0.out.bel hB1
        have hl1 := (HL.out.below HB0.out).below hB1
        have hz1 := hB1.size
        have hz0 := HZ0.out
        have hk1 := HK.out
        clear hW1
        refine wp_region_flow_back 8 42 (with4R w.heap.size b p c s k) (by kernel_rfl) (by kernel_rfl) rfl (with4R_kept _ _ _ _ _ _) ?_ ?_
        · intro i hin a X g1 g2 g3 g4 g5 KK hKK
          have hzX := g5.size
          match i, hin with
          | 0, _ => exact st_val rfl (wanted_none rfl) (run_fBook1 _ rfl (g3 2 (by kernel_rfl)) (hb1.bel g5).lt) (hKK _ _ rfl (Below.refl _ _))
          | 1, _ => exact st_val rfl (wanted_none rfl) (run_lNotes _ rfl (g4 0 (by kernel_rfl)) (by simpa using (hb1.bel g5).cell 2)) (hKK _ _ rfl (Below.refl _ _))
          | 2, _ => exact st_move rfl rfl (wanted_none rfl) (g3 5 (by kernel_rfl)) (hKK _ _ rfl (Below.refl _ _))
          | 3, _ => exact st_move rfl rfl (wanted_none rfl) (g3 5 (by kernel_rfl)) (hKK _ _ rfl (Below.refl _ _))
          | 4, _ => exact st_val rfl (wanted_none rfl) (run_slTo _ rfl (g4 1 (by kernel_rfl)) (g4 2 (by kernel_rfl)) (g4 3 (by kernel_rfl)) (by omega) HP.out (fun e => by have := HNIL.out e; rw [this] at hk; simpa using hk)) (hKK _ _ rfl (Below.refl _ _))
          | 5, _ => exact st_val rfl (wanted_none rfl) (run_lNoteS _ rfl (g3 3 (by kernel_rfl)) (hn1.bel g5)) (hKK _ _ rfl (Below.refl _ _))
          | 6, _ => exact st_valw rfl (wanted_none rfl) (run_bsNote _ rfl (g4 5 (by kernel_rfl))) (hKK _ _ ⟨_, rfl, Blk.new rfl⟩ ((Below.refl _ _).alloc (Nat.le_refl _) _))
          | 7, _ =>
            obtain ⟨g, e6, hg⟩ := g4 6 (by kernel_rfl)
            have e4 := g4 4 (by kernel_rfl)
            have htk : (b.ns.take k).length = k := by rw [List.length_take]; omega
            refine st_grow_note rfl rfl _ _ rfl p (b.ns.take k) (e4.trans (by rw [htk])) (fun e => by rw [HNIL.out e]; simp) ((hl1.below g5).take k) HP.out g s e6 hg (by omega) ?_
            intro v' w' h1 h2
            exact hKK _ _ (h1.mono (by omega)) h2
          | k + 8, hk => omega
        intro vs W2 hvs hBW2
        have v0 : vs 0 = _ := hvs 0 (by omega)
        have v1 : vs 1 = _ := hvs 1 (by omega)
        have v2 : vs 2 = _ := hvs 2 (by omega)
        have v3 : vs 3 = _ := hvs 3 (by omega)
        have v4 : vs 4 = _ := hvs 4 (by omega)
        have v5 : vs 5 = _ := hvs 5 (by omega)
        obtain ⟨g6, v6, -⟩ := hvs 6 (by omega)
        obtain ⟨v', v7⟩ : ∃ x, vs 7 = x := ⟨_, rfl⟩
        have hown : OwnNs W2 (w.heap.size + 3) v' (b.ns.take k ++ [s]) := by rw [← v7]; exact hvs 7 (by omega)
        simp only [putAll, v0, v1, v2, v3, v4, v5, v6, v7]
        clear v0 v1 v2 v3 v4 v5 v6 v7 hvs
        simp only [dstOf, Act.put, List.getElem?_toArray, List.getElem?_cons_zero, List.getElem?_cons_succ, Option.bind_some, Option.getD_some, List.setIfInBounds_toArray, List.set_cons_succ, List.set_cons_zero, List.drop_succ_cons, List.drop_zero]
        have hB2 := hB1.trans (hBW2.mono hz1)
        have HB2 := Lib.hid hB2
        have HOWN := Lib.hid hown
        clear hB2 hown hBW2 hB1 hb1 hn1 hl1
        go_upto_region 5 with fail
        have hb2 := HBk.out.bel HB2.out
        have hr2 := HR0.out.bel HB2.out
        have hl2 := (HL.out.below HB0.out).below HB2.out
        have hz2 := HB2.out.size
        have hown := HOWN.out
        have hrow : ∀ g', v'.ownBlock = some g' → w.heap.size + 3 ≤ g' := fun g' hg => (hown.lt g' hg).1
        cases p with
        | none =>
          have hn00 : b.ns.length = 0 := by rw [HNIL.out rfl]; rfl
          have hk00 : k = 0 := by omega
          refine wp_region_flow_backH 9 42 7 v'.ownBlock (with5R w.heap.size b none c s k v') (by kernel_rfl) (by kernel_rfl) rfl (by omega) (with5R_kept _ _ _ _ _ _ _) ?_ ?_ ?_
          · intro i hin hne f a X g1 g2 g3 g4 g5 g6 KK hKK
            have far : ∀ g', g' < W2.heap.size → g' < w.heap.size + 3 → X.heap[g']? = W2.heap[g']? := fun g' h1 h2 => g5.block g' h1 (fun e => by have := hrow g' e.symm; omega)
            have hbX : Blk X w.heap.size 26 #[.int .i64 b.lo, .int .i64 b.hi, .slice none b.ns.length c] := (far _ hb2.lt (by omega)).trans hb2
            match i, hin with
            | 0, _ => exact st_val rfl (wanted_none rfl) (run_fBook0 _ rfl (g3 2 (by kernel_rfl)) hbX.lt) (hKK _ _ rfl (Below.refl _ _))
            | 1, _ => exact st_val rfl (wanted_none rfl) (run_lSpanS _ rfl (g4 0 (by kernel_rfl)) (by simpa using hbX.cell 0) (by simpa using hbX.cell 1)) (hKK _ _ rfl (Below.refl _ _))
            | 2, _ => exact st_move rfl rfl (wanted_none rfl) (g3 6 (by kernel_rfl)) (hKK _ _ ⟨rfl, fun hf => hown.below (g6 hf)⟩ (Below.refl _ _))
            | 3, _ => exact st_val rfl (wanted_none rfl) (run_fBook1 _ rfl (g3 2 (by kernel_rfl)) hbX.lt) (hKK _ _ rfl (Below.refl _ _))
            | 4, _ => exact st_val rfl (wanted_none rfl) (run_lNotes _ rfl (g4 3 (by kernel_rfl)) (by simpa using hbX.cell 2)) (hKK _ _ rfl (Below.refl _ _))
            | 5, _ => exact st_move rfl rfl (wanted_none rfl) (g3 5 (by kernel_rfl)) (hKK _ _ rfl (Below.refl _ _))
            | 6, _ =>
              have e4 := g4 4 (by kernel_rfl)
              have e5 := g4 5 (by kernel_rfl)
              exact st_val rfl (wanted_none rfl) (run_slFrom0 _ rfl (e4.trans (by rw [hn00])) (e5.trans (by rw [hk00])) (HP0.out rfl)) (hKK _ _ rfl (Below.refl _ _))
            | 7, _ => exact absurd rfl hne
            | 8, _ =>
              obtain ⟨hf, hO⟩ := g4 7 (by kernel_rfl)
              obtain ⟨p', c', e7, -⟩ := hO.at
              exact st_val rfl (wanted_none rfl) (run_bBookS _ rfl (g4 1 (by kernel_rfl)) e7) (hKK _ _ ⟨hf, _, hO, p', _, c', e7, rfl⟩ (Below.refl _ _))
            | k + 9, hk => omega
          · intro a X g1 g2 g3 g4 g5 KK hKK
            obtain ⟨e2, ho⟩ := g4 2 (by kernel_rfl)
            have e6 := g4 6 (by kernel_rfl)
            obtain ⟨g, cap, hv', hcp⟩ := (ho rfl).form (by simp)
            have hdn : b.ns.drop k = [] := by rw [HNIL.out rfl]; simp
            have h7 := ho rfl
            rw [hv'] at e2 h7
            refine st_append_none rfl (wanted_none rfl) _ _ rfl g _ cap e2 hcp e6 ?_
            refine hKK _ _ ⟨rfl, by rw [hdn, List.append_nil]; exact h7⟩ (fun j u hj hr => ?_) (grown_refl _ _)
            match j, hj with
            | 0, _ => exact hr
            | 1, _ => exact hr
            | 2, _ => exact ⟨hr.1, fun hf => by cases hf⟩
            | 3, _ => exact hr
            | 4, _ => exact hr
            | 5, _ => exact hr
            | 6, _ => exact hr
            | 7, _ => exact absurd hr.1 (by decide)
            | 8, _ => exact absurd hr.1 (by decide)
            | k + 9, hk => omega
          intro vs W3 hvs hg3
          have v0 : vs 0 = _ := hvs 0 (by omega)
          have v1 : vs 1 = _ := hvs 1 (by omega)
          have v2 : vs 2 = _ := (hvs 2 (by omega)).1
          have v3 : vs 3 = _ := hvs 3 (by omega)
          have v4 : vs 4 = _ := hvs 4 (by omega)
          have v5 : vs 5 = _ := hvs 5 (by omega)
          obtain ⟨x6, v6⟩ : ∃ x, vs 6 = x := ⟨_, rfl⟩
          obtain ⟨x7, v7⟩ : ∃ x, vs 7 = x := ⟨_, rfl⟩
          obtain ⟨-, vL, hO, p', n', c', rfl, v8⟩ := hvs 8 (by omega)
          simp only [putAll, v0, v1, v2, v3, v4, v5, v6, v7, v8]
          clear v0 v1 v2 v3 v4 v5 v6 v7 v8 hvs
          simp only [dstOf, Act.put, List.getElem?_toArray, List.getElem?_cons_zero, List.getElem?_cons_succ, Option.bind_some, Option.getD_some, List.setIfInBounds_toArray, List.set_cons_succ, List.set_cons_zero, List.drop_succ_cons, List.drop_zero]
          have hr3 : Blk W3 (w.heap.size + 2) 26 #[.int .i64 0, .int .i64 0, .slice none 0 0] := (hg3.block _ hr2.lt (fun e => by have := hrow _ e.symm; omega)).trans hr2
          have hB3 : Below w.heap.size w W3 := (HB0.out.trans (HB2.out.mono (by omega))).trans ⟨hg3.os, hg3.tape, hg3.output, hg3.size, fun q hq => hg3.block q (by have := hb2.lt; omega) (fun e => by have := hrow _ e.symm; omega)⟩
          have r0 := hr3.frozen 0
          have r1 := hr3.frozen 1
          have r2 := hr3.frozen 2
          have d0 := hr3.cell 0
          have d1 := hr3.cell 1
          have d2 := hr3.cell 2
          have lr := hr3.lt
          simp only [List.size_toArray, List.length_cons, List.length_nil, Nat.reduceAdd, Nat.reduceLT, getElem?_pos, List.getElem_toArray, List.getElem_cons_zero, List.getElem_cons_succ] at d0 d1 d2
          have HR3 := Lib.hid hr3
          have HB3 := Lib.hid hB3
          have HO := Lib.hid hO
          clear hr3 hB3 hO hg3 hb2 hr2 hl2 hz2 hown hrow
          go_wp2_with fail
          have hF := ((HR3.out.set 0 (.int .i64 b.lo)).set 1 (.int .i64 b.hi)).set 2 (.slice p' n' c')
          have hBF : Below w.heap.size w (((W3.setCell ⟨w.heap.size + 2, 0, none⟩ (.int .i64 b.lo)).setCell ⟨w.heap.size + 2, 1, none⟩ (.int .i64 b.hi)).setCell ⟨w.heap.size + 2, 2, none⟩ (.slice p' n' c')) := ((HB3.out.setCell (by simp) _).setCell (by simp) _).setCell (by simp) _
          have hOF : OwnNs (((W3.setCell ⟨w.heap.size + 2, 0, none⟩ (.int .i64 b.lo)).setCell ⟨w.heap.size + 2, 1, none⟩ (.int .i64 b.hi)).setCell ⟨w.heap.size + 2, 2, none⟩ (.slice p' n' c')) (w.heap.size + 3) (.slice p' n' c') (b.ns.take k ++ [s] ++ b.ns.drop k) := HO.out.kept (fun g hg => by
            have := (HO.out.lt g hg).1
            exact (Below.heap_setCell _ _ _ _ (by dsimp only; omega)).trans ((Below.heap_setCell _ _ _ _ (by dsimp only; omega)).trans (Below.heap_setCell _ _ _ _ (by dsimp only; omega))))
          have hnl : (withS b s).ns = b.ns.take k ++ [s] ++ b.ns.drop k := by rw [withS_ns, hk1]
          rw [← hnl] at hOF
          obtain ⟨hn', hcp, hlt⟩ := hOF.ends
          have hNF := hOF.notes
          have t0 := Blk.cell hF 0
          have t1 := Blk.cell hF 1
          have t2 := Blk.cell hF 2
          refine bodyPost_ret (v := .agg #[.int .i64 b.lo, .int .i64 b.hi, .slice p' (withS b s).ns.length c']) ?_ ?_ ?_
          · subst hn'
            simp [results, Tryd.results74, go_sem, d0, d1, d2, lr]
          · rfl
          · exact ⟨p', c', rfl, hNF, hlt, hcp, hBF⟩
        | some pa =>
          obtain ⟨bb, o, rfl⟩ := HP.out _ rfl
          refine wp_region_flow_backH 9 42 7 v'.ownBlock (with5R w.heap.size b (some ⟨bb, o, none⟩) c s k v') (by kernel_rfl) (by kernel_rfl) rfl (by omega) (with5R_kept _ _ _ _ _ _ _) ?_ ?_ ?_
          · intro i hin hne f a X g1 g2 g3 g4 g5 g6 KK hKK
            have far : ∀ g', g' < W2.heap.size → g' < w.heap.size + 3 → X.heap[g']? = W2.heap[g']? := fun g' h1 h2 => g5.block g' h1 (fun e => by have := hrow g' e.symm; omega)
            have hbX : Blk X w.heap.size 26 #[.int .i64 b.lo, .int .i64 b.hi, .slice (some ⟨bb, o, none⟩) b.ns.length c] := (far _ hb2.lt (by omega)).trans hb2
            match i, hin with
            | 0, _ => exact st_val rfl (wanted_none rfl) (run_fBook0 _ rfl (g3 2 (by kernel_rfl)) hbX.lt) (hKK _ _ rfl (Below.refl _ _))
            | 1, _ => exact st_val rfl (wanted_none rfl) (run_lSpanS _ rfl (g4 0 (by kernel_rfl)) (by simpa using hbX.cell 0) (by simpa using hbX.cell 1)) (hKK _ _ rfl (Below.refl _ _))
            | 2, _ => exact st_move rfl rfl (wanted_none rfl) (g3 6 (by kernel_rfl)) (hKK _ _ ⟨rfl, fun hf => hown.below (g6 hf)⟩ (Below.refl _ _))
            | 3, _ => exact st_val rfl (wanted_none rfl) (run_fBook1 _ rfl (g3 2 (by kernel_rfl)) hbX.lt) (hKK _ _ rfl (Below.refl _ _))
            | 4, _ => exact st_val rfl (wanted_none rfl) (run_lNotes _ rfl (g4 3 (by kernel_rfl)) (by simpa using hbX.cell 2)) (hKK _ _ rfl (Below.refl _ _))
            | 5, _ => exact st_move rfl rfl (wanted_none rfl) (g3 5 (by kernel_rfl)) (hKK _ _ rfl (Below.refl _ _))
            | 6, _ =>
              exact st_slFrom rfl (wanted_none rfl) rfl (g4 4 (by kernel_rfl)) (g4 5 (by kernel_rfl)) hk hcap (fun o2 ho2 => hKK _ _ ⟨o2, rfl, ho2⟩ (Below.refl _ _))
            | 7, _ => exact absurd rfl hne
            | 8, _ =>
              obtain ⟨hf, hO⟩ := g4 7 (by kernel_rfl)
              obtain ⟨p', c', e7, -⟩ := hO.at
              exact st_val rfl (wanted_none rfl) (run_bBookS _ rfl (g4 1 (by kernel_rfl)) e7) (hKK _ _ ⟨hf, _, hO, p', _, c', e7, rfl⟩ (Below.refl _ _))
            | k + 9, hk => omega
          · intro a X g1 g2 g3 g4 g5 KK hKK
            obtain ⟨e2, ho⟩ := g4 2 (by kernel_rfl)
            obtain ⟨o2, e6, ho2⟩ := g4 6 (by kernel_rfl)
            have hdl : (b.ns.drop k).length = b.ns.length - k := List.length_drop
            have htk : (b.ns.take k).length = k := by rw [List.length_take]; omega
            have hdn : NotesAt X (some ⟨bb, o2, none⟩) (b.ns.drop k) := by
              by_cases hck : c = k
              · have : b.ns.drop k = [] := List.drop_eq_nil_of_le (by omega)
                rw [this]; intro i s hi; simp at hi
              · rw [ho2 hck]; exact (hl2.below g5).drop k
            refine st_append_notes rfl (wanted_none rfl) _ _ rfl (w.heap.size + 3) _ _ e2 (ho rfl) bb o2 (c - k) (b.ns.drop k) (e6.trans (by rw [hdl])) hdn (by rw [hdl, List.length_append, htk]; simp; omega) (by have := g5.size; have := hr2.lt; omega) ?_
            intro v2 w2 h7 h8
            refine hKK _ _ ⟨rfl, h7⟩ (fun j u hj hr => ?_) h8
            match j, hj with
            | 0, _ => exact hr
            | 1, _ => exact hr
            | 2, _ => exact ⟨hr.1, fun hf => by cases hf⟩
            | 3, _ => exact hr
            | 4, _ => exact hr
            | 5, _ => exact hr
            | 6, _ => exact hr
            | 7, _ => exact absurd hr.1 (by decide)
            | 8, _ => exact absurd hr.1 (by decide)
            | k + 9, hk => omega
          intro vs W3 hvs hg3
          have v0 : vs 0 = _ := hvs 0 (by omega)
          have v1 : vs 1 = _ := hvs 1 (by omega)
          have v2 : vs 2 = _ := (hvs 2 (by omega)).1
          have v3 : vs 3 = _ := hvs 3 (by omega)
          have v4 : vs 4 = _ := hvs 4 (by omega)
          have v5 : vs 5 = _ := hvs 5 (by omega)
          obtain ⟨x6, v6⟩ : ∃ x, vs 6 = x := ⟨_, rfl⟩
          obtain ⟨x7, v7⟩ : ∃ x, vs 7 = x := ⟨_, rfl⟩
          obtain ⟨-, vL, hO, p', n', c', rfl, v8⟩ := hvs 8 (by omega)
          simp only [putAll, v0, v1, v2, v3, v4, v5, v6, v7, v8]
          clear v0 v1 v2 v3 v4 v5 v6 v7 v8 hvs
          simp only [dstOf, Act.put, List.getElem?_toArray, List.getElem?_cons_zero, List.getElem?_cons_succ, Option.bind_some, Option.getD_some, List.setIfInBounds_toArray, List.set_cons_succ, List.set_cons_zero, List.drop_succ_cons, List.drop_zero]
          have hr3 : Blk W3 (w.heap.size + 2) 26 #[.int .i64 0, .int .i64 0, .slice none 0 0] := (hg3.block _ hr2.lt (fun e => by have := hrow _ e.symm; omega)).trans hr2
          have hB3 : Below w.heap.size w W3 := (HB0.out.trans (HB2.out.mono (by omega))).trans ⟨hg3.os, hg3.tape, hg3.output, hg3.size, fun q hq => hg3.block q (by have := hb2.lt; omega) (fun e => by have := hrow _ e.symm; omega)⟩
          have r0 := hr3.frozen 0
          have r1 := hr3.frozen 1
          have r2 := hr3.frozen 2
          have d0 := hr3.cell 0
          have d1 := hr3.cell 1
          have d2 := hr3.cell 2
          have lr := hr3.lt
          simp only [List.size_toArray, List.length_cons, List.length_nil, Nat.reduceAdd, Nat.reduceLT, getElem?_pos, List.getElem_toArray, List.getElem_cons_zero, List.getElem_cons_succ] at d0 d1 d2
          have HR3 := Lib.hid hr3
          have HB3 := Lib.hid hB3
          have HO := Lib.hid hO
          clear hr3 hB3 hO hg3 hb2 hr2 hl2 hz2 hown hrow
          go_wp2_with fail
          have hF := ((HR3.out.set 0 (.int .i64 b.lo)).set 1 (.int .i64 b.hi)).set 2 (.slice p' n' c')
          have hBF : Below w.heap.size w (((W3.setCell ⟨w.heap.size + 2, 0, none⟩ (.int .i64 b.lo)).setCell ⟨w.heap.size + 2, 1, none⟩ (.int .i64 b.hi)).setCell ⟨w.heap.size + 2, 2, none⟩ (.slice p' n' c')) := ((HB3.out.setCell (by simp) _).setCell (by simp) _).setCell (by simp) _
          have hOF : OwnNs (((W3.setCell ⟨w.heap.size + 2, 0, none⟩ (.int .i64 b.lo)).setCell ⟨w.heap.size + 2, 1, none⟩ (.int .i64 b.hi)).setCell ⟨w.heap.size + 2, 2, none⟩ (.slice p' n' c')) (w.heap.size + 3) (.slice p' n' c') (b.ns.take k ++ [s] ++ b.ns.drop k) := HO.out.kept (fun g hg => by
            have := (HO.out.lt g hg).1
            exact (Below.heap_setCell _ _ _ _ (by dsimp only; omega)).trans ((Below.heap_setCell _ _ _ _ (by dsimp only; omega)).trans (Below.heap_setCell _ _ _ _ (by dsimp only; omega))))
          have hnl : (withS b s).ns = b.ns.take k ++ [s] ++ b.ns.drop k := by rw [withS_ns, hk1]
          rw [← hnl] at hOF
          obtain ⟨hn', hcp, hlt⟩ := hOF.ends
          have hNF := hOF.notes
          have t0 := Blk.cell hF 0
          have t1 := Blk.cell hF 1
          have t2 := Blk.cell hF 2
          refine bodyPost_ret (v := .agg #[.int .i64 b.lo, .int .i64 b.hi, .slice p' (withS b s).ns.length c']) ?_ ?_ ?_
          · subst hn'
            simp [results, Tryd.results74, go_sem, d0, d1, d2, lr]
          · rfl
          · exact ⟨p', c', rfl, hNF, hlt, hcp, hBF⟩
end Go.Proofs.YtjjfpbjdcmkkhaaDoor

namespace Go.Proofs.YtjjfpbjdcmkkhaaDoor
open Go Go.RowKit Go.Shelf
theorem chainN_mono {a a' : Int} (h : a' ≤ a) : ∀ {l : List Nt}, chainN a l = true → chainN a' l = true
  | [], _ => rfl
  | s :: l, hc => by
    simp only [chainN, Bool.and_eq_true, decide_eq_true_eq] at hc ⊢
    exact ⟨⟨hc.1.1, by omega⟩, hc.2⟩
/-- A note between those that are not later and those that are. -/
theorem chainN_with (s : Nt) (hs : ntB s = true) : ∀ (l : List Nt) (past : Int), past ≤ s.hour → chainN past l = true → chainN past (l.take (upN l s.hour) ++ [s] ++ l.drop (upN l s.hour)) = true
  | [], past, hp, _ => by simp [upN, chainN, hs, hp]
  | t :: l, past, hp, hc => by
    simp only [chainN, Bool.and_eq_true, decide_eq_true_eq] at hc
    by_cases ht : t.hour ≤ s.hour
    · have hu : upN (t :: l) s.hour = upN l s.hour + 1 := by
        unfold upN; rw [List.takeWhile_cons_of_pos (by simpa using ht)]; rfl
      rw [hu, List.take_succ_cons, List.drop_succ_cons, List.cons_append, List.cons_append]
      simp only [chainN, Bool.and_eq_true, decide_eq_true_eq]
      exact ⟨hc.1, chainN_with s hs l t.hour ht hc.2⟩
    · have hu : upN (t :: l) s.hour = 0 := by
        unfold upN; rw [List.takeWhile_cons_of_neg (by simpa using ht)]; rfl
      rw [hu, List.take_zero, List.drop_zero, List.nil_append, List.singleton_append]
      simp only [chainN, Bool.and_eq_true, decide_eq_true_eq]
      exact ⟨⟨hs, hp⟩, ⟨hc.1.1, by omega⟩, hc.2⟩
/-- A valid book with a valid note more. -/
theorem Ok9.with {b : Sn} {s : Nt} (hv : snB b = true) (hs : ntB s = true) : Ok9 (withS b s) := by
  have h := Ok9.of hv
  refine ⟨h.span, ?_, ?_⟩
  · show chainN 0 (withS b s).ns = true
    rw [withS_ns]
    refine chainN_with s hs b.ns 0 ?_ h.chain
    exact (ntB_facts hs).2.1.1
  · rw [withS_len]
    simp only [snB, notesB, Bool.and_eq_true, decide_eq_true_eq] at hv
    omega
/-- How a book's slice was laid. -/
structure SBc (b : Sn) (p : Option Addr) (c : Nat) : Prop where
  cap : b.ns.length ≤ c
  adr : ∀ a, p = some a → ∃ b o, a = ⟨b, o, none⟩
  nil : p = none → c = 0
abbrev ntC (s : Nt) : Array Value := #[.int .i64 s.kind, .int .i64 s.hour, .int .i64 s.lo, .int .i64 s.hi]
theorem validNoteS_eq (s : Nt) (q : Bool) (w : World) (hm : MM w) (hq : ntB s = q) : Calls Tryd.prog 73 #[.agg (ntC s)] w fun e w' => e = .returned (.bool q) ∧ ∃ x, w' = ext w x := by
  subst hq; exact validNote_any _ _ _ _ w hm
attribute [local go_sem] Oper.semAt_some frozen_alloc_lt
set_option maxHeartbeats 1000000 in
theorem Fits_bad (b : Sn) (p : Option Addr) (c : Nat) (s : Nt) (w : World) (hk : SBk w b p) (hv : snB b = false) :
    Calls Tryd.prog 29 #[.agg #[.int .i64 b.lo, .int .i64 b.hi, .slice p b.ns.length c], .agg (ntC s)] w fun e w' => e = .returned (.tuple #[.bool false, .int .i64 30]) ∧ Below w.heap.size w w' := by
  have HK := Lib.hid hk
  clear hk
  go_enter Tryd.func29, Tryd.ntmps29
  go_wp2_with (go_at_call 16; refine (Check_eq b p c false _ (HK.out.bel (by (repeat (first | (with_reducible exact Below.refl _ _) | (with_reducible assumption) | ((with_reducible refine below_ext_trans ?_ ?_ _); rotate_left; focus (((try dsimp only); repeat (first | omega | simp only [World.size_alloc, World.size_setCell, World.size_drew] | (with_reducible refine le_ext_of ?_) | (with_reducible refine le_ext_add ?_))); done)) | ((with_reducible refine Below.alloc ?_ ?_ _); rotate_left; focus (((try dsimp only); repeat (first | omega | simp only [World.size_alloc, World.size_setCell, World.size_drew] | (with_reducible refine le_ext_of ?_) | (with_reducible refine le_ext_add ?_))); done)) | ((with_reducible refine Below.setCell ?_ ?_ _); rotate_left; focus (((try dsimp only); repeat (first | omega | simp only [World.size_alloc, World.size_setCell, World.size_drew] | (with_reducible refine le_ext_of ?_) | (with_reducible refine le_ext_add ?_))); done)) | (with_reducible refine Below.drew ?_))))) hv).mono ?_; rintro e w1 ⟨rfl, y, rfl⟩)
  refine bodyPost_ret (v := .tuple #[.bool false, .int .i64 30]) ?_ ?_ ?_
  · simp [results, Tryd.results29, go_sem]
  · rfl
  · exact ⟨rfl, by (repeat (first | (with_reducible exact Below.refl _ _) | (with_reducible assumption) | ((with_reducible refine below_ext_trans ?_ ?_ _); rotate_left; focus (((try dsimp only); repeat (first | omega | simp only [World.size_alloc, World.size_setCell, World.size_drew] | (with_reducible refine le_ext_of ?_) | (with_reducible refine le_ext_add ?_))); done)) | ((with_reducible refine Below.alloc ?_ ?_ _); rotate_left; focus (((try dsimp only); repeat (first | omega | simp only [World.size_alloc, World.size_setCell, World.size_drew] | (with_reducible refine le_ext_of ?_) | (with_reducible refine le_ext_add ?_))); done)) | ((with_reducible refine Below.setCell ?_ ?_ _); rotate_left; focus (((try dsimp only); repeat (first | omega | simp only [World.size_alloc, World.size_setCell, World.size_drew] | (with_reducible refine le_ext_of ?_) | (with_reducible refine le_ext_add ?_))); done)) | (with_reducible refine Below.drew ?_)))⟩
set_option maxHeartbeats 1000000 in
theorem Fits_ask (b : Sn) (p : Option Addr) (c : Nat) (s : Nt) (w : World) (hk : SBk w b p) (hv : snB b = true) (hs : ntB s = false) :
    Calls Tryd.prog 29 #[.agg #[.int .i64 b.lo, .int .i64 b.hi, .slice p b.ns.length c], .agg (ntC s)] w fun e w' => e = .returned (.tuple #[.bool false, .int .i64 31]) ∧ Below w.heap.size w w' := by
  have HK := Lib.hid hk
  clear hk
  go_enter Tryd.func29, Tryd.ntmps29
  go_wp2_with (first
    | (go_at_call 16; refine (Check_eq b p c true _ (HK.out.bel (by (repeat (first | (with_reducible exact Below.refl _ _) | (with_reducible assumption) | ((with_reducible refine below_ext_trans ?_ ?_ _); rotate_left; focus (((try dsimp only); repeat (first | omega | simp only [World.size_alloc, World.size_setCell, World.size_drew] | (with_reducible refine le_ext_of ?_) | (with_reducible refine le_ext_add ?_))); done)) | ((with_reducible refine Below.alloc ?_ ?_ _); rotate_left; focus (((try dsimp only); repeat (first | omega | simp only [World.size_alloc, World.size_setCell, World.size_drew] | (with_reducible refine le_ext_of ?_) | (with_reducible refine le_ext_add ?_))); done)) | ((with_reducible refine Below.setCell ?_ ?_ _); rotate_left; focus (((try dsimp only); repeat (first | omega | simp only [World.size_alloc, World.size_setCell, World.size_drew] | (with_reducible refine le_ext_of ?_) | (with_reducible refine le_ext_add ?_))); done)) | (with_reducible refine Below.drew ?_))))) hv).mono ?_; rintro e w1 ⟨rfl, y, rfl⟩)
    | (go_at_call 73; refine (validNoteS_eq s false _ (HK.out.mm.below (by (repeat (first | (with_reducible exact Below.refl _ _) | (with_reducible assumption) | ((with_reducible refine below_ext_trans ?_ ?_ _); rotate_left; focus (((try dsimp only); repeat (first | omega | simp only [World.size_alloc, World.size_setCell, World.size_drew] | (with_reducible refine le_ext_of ?_) | (with_reducible refine le_ext_add ?_))); done)) | ((with_reducible refine Below.alloc ?_ ?_ _); rotate_left; focus (((try dsimp only); repeat (first | omega | simp only [World.size_alloc, World.size_setCell, World.size_drew] | (with_reducible refine le_ext_of ?_) | (with_reducible refine le_ext_add ?_))); done)) | ((with_reducible refine Below.setCell ?_ ?_ _); rotate_left; focus (((try dsimp only); repeat (first | omega | simp only [World.size_alloc, World.size_setCell, World.size_drew] | (with_reducible refine le_ext_of ?_) | (with_reducible refine le_ext_add ?_))); done)) | (with_reducible refine Below.drew ?_))))) hs).mono ?_; rintro e w2 ⟨rfl, y2, rfl⟩))
  refine bodyPost_ret (v := .tuple #[.bool false, .int .i64 31]) ?_ ?_ ?_
  · simp [results, Tryd.results29, go_sem]
  · rfl
  · exact ⟨rfl, by (repeat (first | (with_reducible exact Below.refl _ _) | (with_reducible assumption) | ((with_reducible refine below_ext_trans ?_ ?_ _); rotate_left; focus (((try dsimp only); repeat (first | omega | simp only [World.size_alloc, World.size_setCell, World.size_drew] | (with_reducible refine le_ext_of ?_) | (with_reducible refine le_ext_add ?_))); done)) | ((with_reducible refine Below.alloc ?_ ?_ _); rotate_left; focus (((try dsimp only); repeat (first | omega | simp only [World.size_alloc, World.size_setCell, World.size_drew] | (with_reducible refine le_ext_of ?_) | (with_reducible refine le_ext_add ?_))); done)) | ((with_reducible refine Below.setCell ?_ ?_ _); rotate_left; focus (((try dsimp only); repeat (first | omega | simp only [World.size_alloc, World.size_setCell, World.size_drew] | (with_reducible refine le_ext_of ?_) | (with_reducible refine le_ext_add ?_))); done)) | (with_reducible refine Below.drew ?_)))⟩
set_option maxRecDepth 100000 in
set_option maxHeartbeats 1000000 in
theorem Fits_ok (b : Sn) (p : Option Addr) (c : Nat) (s : Nt) (w : World) (hk : SBk w b p) (hc : SBc b p c) (hv : snB b = true) (hs : ntB s = true) :
    Calls Tryd.prog 29 #[.agg #[.int .i64 b.lo, .int .i64 b.hi, .slice p b.ns.length c], .agg (ntC s)] w fun e w' => e = .returned (.tuple #[.bool (rightS (withS b s)), .int .i64 0]) ∧ Below w.heap.size w w' := by
  have hok := Ok9.with hv hs
  have hlen := (Ok9.of hv).len
  have HK := Lib.hid hk
  have HC := Lib.hid hc
  clear hk hc
  go_enter Tryd.func29, Tryd.ntmps29
  go_upto_region 6 with (first
    | (go_at_call 16; refine (Check_eq b p c true _ (HK.out.bel (by (repeat (first | (with_reducible exact Below.refl _ _) | (with_reducible assumption) | ((with_reducible refine below_ext_trans ?_ ?_ _); rotate_left; focus (((try dsimp only); repeat (first | omega | simp only [World.size_alloc, World.size_setCell, World.size_drew] | (with_reducible refine le_ext_of ?_) | (with_reducible refine le_ext_add ?_))); done)) | ((with_reducible refine Below.alloc ?_ ?_ _); rotate_left; focus (((try dsimp only); repeat (first | omega | simp only [World.size_alloc, World.size_setCell, World.size_drew] | (with_reducible refine le_ext_of ?_) | (with_reducible refine le_ext_add ?_))); done)) | ((with_reducible refine Below.setCell ?_ ?_ _); rotate_left; focus (((try dsimp only); repeat (first | omega | simp only [World.size_alloc, World.size_setCell, World.size_drew] | (with_reducible refine le_ext_of ?_) | (with_reducible refine le_ext_add ?_))); done)) | (with_reducible refine Below.drew ?_))))) hv).mono ?_; rintro e w1 ⟨rfl, y, rfl⟩)
    | (go_at_call 73; refine (validNoteS_eq s true _ (HK.out.mm.below (by (repeat (first | (with_reducible exact Below.refl _ _) | (with_reducible assumption) | ((with_reducible refine below_ext_trans ?_ ?_ _); rotate_left; focus (((try dsimp only); repeat (first | omega | simp only [World.size_alloc, World.size_setCell, World.size_drew] | (with_reducible refine le_ext_of ?_) | (with_reducible refine le_ext_add ?_))); done)) | ((with_reducible refine Below.alloc ?_ ?_ _); rotate_left; focus (((try dsimp only); repeat (first | omega | simp only [World.size_alloc, World.size_setCell, World.size_drew] | (with_reducible refine le_ext_of ?_) | (with_reducible refine le_ext_add ?_))); done)) | ((with_reducible refine Below.setCell ?_ ?_ _); rotate_left; focus (((try dsimp only); repeat (first | omega | simp only [World.size_alloc, World.size_setCell, World.size_drew] | (with_reducible refine le_ext_of ?_) | (with_reducible refine le_ext_add ?_))); done)) | (with_reducible refine Below.drew ?_))))) hs).mono ?_; rintro e w2 ⟨rfl, y2, rfl⟩))
  generalize hW0 : ext _ (y.comp y2) = W0
  have hB0 : Below w.heap.size w W0 := by rw [← hW0]; (repeat (first | (with_reducible exact Below.refl _ _) | (with_reducible assumption) | ((with_reducible refine below_ext_trans ?_ ?_ _); rotate_left; focus (((try dsimp only); repeat (first | omega | simp only [World.size_alloc, World.size_setCell, World.size_drew] | (with_reducible refine le_ext_of ?_) | (with_reducible refine le_ext_add ?_))); done)) | ((with_reducible refine Below.alloc ?_ ?_ _); rotate_left; focus (((try dsimp only); repeat (first | omega | simp only [World.size_alloc, World.size_setCell, World.size_drew] | (with_reducible refine le_ext_of ?_) | (with_reducible refine le_ext_add ?_))); done)) | ((with_reducible refine Below.setCell ?_ ?_ _); rotate_left; focus (((try dsimp only); repeat (first | omega | simp only [World.size_alloc, World.size_setCell, World.size_drew] | (with_reducible refine le_ext_of ?_) | (with_reducible refine le_ext_add ?_))); done)) | (with_reducible refine Below.drew ?_)))
  have hq0 : Blk W0 w.heap.size 26 #[.int .i64 b.lo, .int .i64 b.hi, .slice p b.ns.length c] := by rw [← hW0]; exact ((Blk.new rfl).alloc _).ext (y.comp y2)
  have hn0 : Blk W0 (w.heap.size + 1) 38 (ntC s) := by rw [← hW0]; exact (Blk.new (by simp)).ext (y.comp y2)
  clear hW0
  have q0 := hq0.cell 0
  have q1 := hq0.cell 1
  have q2 := hq0.cell 2
  have n0 := hn0.cell 0
  have n1 := hn0.cell 1
  have n2 := hn0.cell 2
  have n3 := hn0.cell 3
  simp only [List.size_toArray, List.length_cons, List.length_nil, Nat.reduceAdd, Nat.reduceLT, getElem?_pos, List.getElem_toArray, List.getElem_cons_zero, List.getElem_cons_succ] at q0 q1 q2 n0 n1 n2 n3
  have HB0 := Lib.hid hB0
  clear hB0 hq0 hn0
  go_wp2_with (first
    | (go_at_call 74; refine (with_any b p c s _ (HK.out.bel HB0.out).nt (by omega) HC.out.cap HC.out.adr HC.out.nil (HK.out.bel HB0.out).lt).mono ?_; rintro e w3 ⟨p', c', rfl, k1, k2, k3, k4⟩; have K4 := Lib.hid (HB0.out.trans (k4.mono HB0.out.size)); have K1 := Lib.hid (show SBk w3 (withS b s) p' from ⟨k1, HK.out.mm.below K4.out, k2⟩); clear k1 k2 k3 k4)
    | (go_at_call 52; refine (newCatch_b (withS b s) p' c' _ K1.out hok).mono ?_; rintro e w4 ⟨kd, hkd, rfl, y1, rfl⟩)
    | (go_at_call 53; refine (tale_cat (withS b s) p' c' kd _ (K1.out.bel (below_ext _ _)) hok).mono ?_; rintro e w5 ⟨Bb, rfl, k1, k2, k3⟩; have K5 := Lib.hid k1; have K2 := Lib.hid k2; clear k1 k2 k3)
    | (go_at_call 54; refine (tright_eq (withS b s) p' c' kd Bb _ _ K5.out rfl).mono ?_; rintro e w6 ⟨rfl, y6, rfl⟩))
  refine bodyPost_ret (v := .tuple #[.bool (rightS (withS b s)), .int .i64 0]) ?_ ?_ ?_
  · simp [results, Tryd.results29, go_sem]
  · rfl
  · exact ⟨rfl, K4.out.trans (((below_ext _ _).mono K4.out.size).trans ((K2.out.mono (by have := K4.out.size; have := (below_ext w3 y1).size; omega)).trans ((below_ext _ _).mono (by have := K4.out.size; have := (below_ext w3 y1).size; have := K2.out.size; omega))))⟩
end Go.Proofs.YtjjfpbjdcmkkhaaDoor

