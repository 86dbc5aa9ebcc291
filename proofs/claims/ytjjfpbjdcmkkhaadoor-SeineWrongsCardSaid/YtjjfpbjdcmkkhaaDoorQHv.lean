/- The reference: Bits, exactly; Without. -/
/- Which list Wrong tells, plainly. -/
import Derived.Test.YtjjfpbjdcmkkhaaDoorQHh
import Derived.Test.YtjjfpbjdcmkkhaaDoorQPj
import Derived.Test.YtjjfpbjdcmkkhaaDoorQJk
import Derived.Test.YtjjfpbjdcmkkhaaDoorQWt
import Derived.Test.YtjjfpbjdcmkkhaaDoorQPc
set_option linter.unusedSimpArgs false
set_option linter.unusedVariables false
namespace Go.Proofs.YtjjfpbjdcmkkhaaDoor
open Go Go.RowKit Go.Shelf
theorem bit_fact : ∀ s : Nat, s < 256 → ∀ n : Nat, n < 8 → (((s : Int) / 2 ^ n).tmod 2 == 1) = s.testBit n := by decide +kernel
set_option maxHeartbeats 1000000 in
theorem Bit_eq (s n : Nat) (q : Bool) (w : World) (hs : s < 256) (hn : n < 8) (hq : s.testBit n = q) : Calls Tryd.prog 81 #[.int .i64 s, .int .i64 n] w fun e w' => e = .returned (.bool q) ∧ w = w' := by
  subst hq
  have n0 : (0 : Int) ≤ (n : Int) := by omega
  have n1 : (n : Int) < 64 := by omega
  have H := Lib.hid (bit_fact s hs n hn)
  go_enter Tryd.func81, Tryd.ntmps81
  go_wp2
  go_ret
  exact ⟨by rw [← H.out]; rfl, rfl⟩
/-- The numbers of a set. -/
def bitsL (s m : Nat) : List Int := ((List.range m).filter (fun k => s.testBit k)).map (fun (k : Nat) => (k : Int))
theorem bitsL_yes {s k : Nat} (h : s.testBit k = true) : bitsL s (k + 1) = bitsL s k ++ [(k : Int)] := by simp [bitsL, List.range_succ, List.filter_append, h]
theorem bitsL_no {s k : Nat} (h : s.testBit k = false) : bitsL s (k + 1) = bitsL s k := by simp [bitsL, List.range_succ, List.filter_append, h]
theorem bitsL_le (s m : Nat) : (bitsL s m).length ≤ m := by
  unfold bitsL
  rw [List.length_map]
  exact Nat.le_trans (List.length_filter_le _ _) (by simp)
theorem mem_bitsL {s m : Nat} {x : Int} : x ∈ bitsL s m ↔ ∃ k : Nat, k < m ∧ s.testBit k = true ∧ x = (k : Int) := by
  unfold bitsL
  rw [List.mem_map]
  constructor
  · rintro ⟨k, hk, rfl⟩
    rw [List.mem_filter, List.mem_range] at hk
    exact ⟨k, hk.1, hk.2, rfl⟩
  · rintro ⟨k, h1, h2, rfl⟩
    exact ⟨k, List.mem_filter.2 ⟨List.mem_range.2 h1, h2⟩, rfl⟩
theorem bitsL_rises (s m : Nat) : (bitsL s m).Pairwise (· < ·) := by
  unfold bitsL
  rw [List.pairwise_map]
  exact (List.pairwise_lt_range.sublist List.filter_sublist).imp (fun {a c} h => by omega)
theorem bitsL_at {s m k : Nat} (hk : k < m) : ((k : Int) ∈ bitsL s m) ↔ s.testBit k = true := by
  rw [mem_bitsL]
  exact ⟨fun ⟨j, _, h2, h3⟩ => by rw [show k = j by omega]; exact h2, fun h => ⟨k, hk, h, rfl⟩⟩
def BitsPost (w : World) (L : List Int) (e : Ending) (w' : World) : Prop := ∃ (p : Option Addr) (c : Nat), e = .returned (.slice p L.length c) ∧ IntsAt w' p L ∧ ∃ x, w' = ext w x
attribute [local go_sem] Oper.semAt_some frozen_alloc_lt
set_option maxHeartbeats 4000000 in
theorem Bits_eq (s m : Nat) (w : World) (hs : s < 256) (hm : m ≤ 8) : Calls Tryd.prog 46 #[.int .i64 s, .int .i64 m] w (BitsPost w (bitsL s m)) := by
  go_enter Tryd.func46, Tryd.ntmps46
  go_wp2_with fail
  generalize hW : w.alloc _ = W
  have hWB : Below w.heap.size w W := by rw [← hW]; (repeat (first | (with_reducible exact Below.refl _ _) | (with_reducible assumption) | ((with_reducible refine below_ext_trans ?_ ?_ _); rotate_left; focus (((try dsimp only); repeat (first | omega | simp only [World.size_alloc, World.size_setCell, World.size_drew] | (with_reducible refine le_ext_of ?_) | (with_reducible refine le_ext_add ?_))); done)) | ((with_reducible refine Below.alloc ?_ ?_ _); rotate_left; focus (((try dsimp only); repeat (first | omega | simp only [World.size_alloc, World.size_setCell, World.size_drew] | (with_reducible refine le_ext_of ?_) | (with_reducible refine le_ext_add ?_))); done)) | ((with_reducible refine Below.setCell ?_ ?_ _); rotate_left; focus (((try dsimp only); repeat (first | omega | simp only [World.size_alloc, World.size_setCell, World.size_drew] | (with_reducible refine le_ext_of ?_) | (with_reducible refine le_ext_add ?_))); done)) | (with_reducible refine Below.drew ?_)))
  have ho : OwnInts W w.heap.size (.slice (some ⟨w.heap.size, 0, none⟩) 0 0) [] := by rw [← hW]; exact OwnInts.of_blk (Blk.new rfl) rfl rfl (by simp)
  have HW := Lib.hid hWB
  have HO0 := Lib.hid ho
  have hWs : w.heap.size ≤ W.heap.size := hWB.size
  clear hW hWB ho
  go_loopw [5, 6] (fun v i wr => ∃ k : Nat, k ≤ m ∧ i = .int .i64 k ∧ Hid (OwnInts wr w.heap.size v (bitsL s k)) ∧ Hid (Below w.heap.size w wr)) (fun _ i _ => m - (intOf i).toNat)
  case atStart => exact ⟨0, by omega, rfl, HO0, HW⟩
  case round =>
    obtain ⟨k, hk, rfl, HO, HB⟩ := hrel
    have hzr : w.heap.size ≤ wr.heap.size := HB.out.size
    by_cases hlt : k < m
    · have hle := bitsL_le s k
      cases hq : s.testBit k
      · have HU := Lib.hid (bitsL_no hq)
        have HQ := Lib.hid hq
        clear hq
        go_wp2_with (go_at_call 81; refine (Bit_eq s k false _ hs (by omega) HQ.out).mono ?_; rintro e w1 ⟨rfl, rfl⟩)
        go_roundw
        case rel => exact ⟨k + 1, by omega, by go_num, by rw [HU.out]; exact HO, HB⟩
        case measure => simp [intOf]; omega
      · have HU := Lib.hid (bitsL_yes hq)
        have HQ := Lib.hid hq
        clear hq
        go_wp2_with (first
          | (go_at_call 81; refine (Bit_eq s k true _ hs (by omega) HQ.out).mono ?_; rintro e w1 ⟨rfl, rfl⟩)
          | (at_builtin; refine wpList_append_int rfl _ _ rfl w.heap.size _ _ rfl (HO.out.below ((Below.refl _ _).alloc (Nat.le_refl _) _)) wr.heap.size (k : Int) rfl (by simp [go_sem]) (by omega) (by ((try dsimp only); repeat (first | omega | simp only [World.size_alloc, World.size_setCell, World.size_drew] | (with_reducible refine le_ext_of ?_) | (with_reducible refine le_ext_add ?_)))) ?_; intro v' w1 ho hg))
        have HO' := Lib.hid ho
        have hB2 : Below w.heap.size w w1 := by
          have hB := HB.out
          refine Below.grown (w := wr.alloc (.cells #[.int .i64 (k : Int)] 3)) (by (repeat (first | (with_reducible exact Below.refl _ _) | (with_reducible assumption) | ((with_reducible refine below_ext_trans ?_ ?_ _); rotate_left; focus (((try dsimp only); repeat (first | omega | simp only [World.size_alloc, World.size_setCell, World.size_drew] | (with_reducible refine le_ext_of ?_) | (with_reducible refine le_ext_add ?_))); done)) | ((with_reducible refine Below.alloc ?_ ?_ _); rotate_left; focus (((try dsimp only); repeat (first | omega | simp only [World.size_alloc, World.size_setCell, World.size_drew] | (with_reducible refine le_ext_of ?_) | (with_reducible refine le_ext_add ?_))); done)) | ((with_reducible refine Below.setCell ?_ ?_ _); rotate_left; focus (((try dsimp only); repeat (first | omega | simp only [World.size_alloc, World.size_setCell, World.size_drew] | (with_reducible refine le_ext_of ?_) | (with_reducible refine le_ext_add ?_))); done)) | (with_reducible refine Below.drew ?_)))) hg (by ((try dsimp only); repeat (first | omega | simp only [World.size_alloc, World.size_setCell, World.size_drew] | (with_reducible refine le_ext_of ?_) | (with_reducible refine le_ext_add ?_)))) ?_
          intro j hj
          exact (HO.out.lt j hj).1
        have HB2 := Lib.hid hB2
        clear ho hg hB2
        go_wp2_with fail
        go_roundw
        case rel => exact ⟨k + 1, by omega, by go_num, by rw [HU.out]; exact HO', HB2⟩
        case measure => simp [intOf]; omega
    · obtain rfl : k = m := by omega
      obtain ⟨p, c, rfl, hI, -⟩ := HO.out.at
      go_wp2_with fail
      go_ret
      exact ⟨p, c, rfl, hI, ext_of HB.out⟩
set_option maxRecDepth 100000 in
set_option maxHeartbeats 8000000 in
theorem Without_r (b : Sn) (p0 : Option Addr) (c0 : Nat) (st : Nat) (l : List Int) (w : World) (hb : NotesAt w p0 b.ns) (h9 : b.ns.length ≤ 8) (hst : st < 256) (hl : bitsL st b.ns.length = l) :
    Calls Tryd.prog 77 #[bV b p0 c0, .int .i64 st] w fun e w' => ∃ p3 c3, e = .returned (bV (woutS b l b.ns.length) p3 c3) ∧ OwnNs w' w.heap.size (.slice p3 (woutN b.ns l b.ns.length).length c3) (woutN b.ns l b.ns.length) ∧ ∃ x, w' = ext w x := by
  have HB := Lib.hid hb
  have HTB := Lib.hid (show ∀ k : Nat, k < b.ns.length → ((k : Int) ∈ l ↔ st.testBit k = true) from fun k hk => by rw [← hl]; exact bitsL_at hk)
  clear hb hl
  go_enter Tryd.func77, Tryd.ntmps77
  go_upto_region 3 with fail
  generalize hW : ((w.alloc _).alloc _).alloc _ = W
  obtain ⟨gb, egb⟩ : ∃ gb, w.heap.size = gb := ⟨_, rfl⟩
  have hWB : Below w.heap.size w W := by rw [← hW]; (repeat (first | (with_reducible exact Below.refl _ _) | (with_reducible assumption) | ((with_reducible refine below_ext_trans ?_ ?_ _); rotate_left; focus (((try dsimp only); repeat (first | omega | simp only [World.size_alloc, World.size_setCell, World.size_drew] | (with_reducible refine le_ext_of ?_) | (with_reducible refine le_ext_add ?_))); done)) | ((with_reducible refine Below.alloc ?_ ?_ _); rotate_left; focus (((try dsimp only); repeat (first | omega | simp only [World.size_alloc, World.size_setCell, World.size_drew] | (with_reducible refine le_ext_of ?_) | (with_reducible refine le_ext_add ?_))); done)) | ((with_reducible refine Below.setCell ?_ ?_ _); rotate_left; focus (((try dsimp only); repeat (first | omega | simp only [World.size_alloc, World.size_setCell, World.size_drew] | (with_reducible refine le_ext_of ?_) | (with_reducible refine le_ext_add ?_))); done)) | (with_reducible refine Below.drew ?_)))
  have hWs : W.heap.size = gb + 3 := by rw [← hW]; simp; omega
  have kb : Blk W gb 26 #[.int .i64 b.lo, .int .i64 b.hi, .slice p0 b.ns.length c0] := by rw [← hW]; exact ((Blk.new egb.symm).alloc _).alloc _
  have kr : Blk W (gb + 1) 26 #[.int .i64 0, .int .i64 0, .slice none 0 0] := by rw [← hW]; exact (Blk.new (by simp; omega)).alloc _
  have kx : Blk W (gb + 2) 26 #[.int .i64 b.lo, .int .i64 b.hi, .slice none 0 0] := by rw [← hW]; exact Blk.new (by simp; omega)
  have HWB := Lib.hid hWB
  have HWs := Lib.hid hWs
  have KB := Lib.hid kb
  have KR := Lib.hid kr
  have KX := Lib.hid kx
  have HE := Lib.hid egb
  rw [egb]
  clear hW hWB hWs kb kr kx egb
  go_wp2_with fail
  go_loopw [6] (fun i wr => ∃ (k : Nat) (p : Option Addr) (c m : Nat), k ≤ b.ns.length ∧ i = .int .i64 k ∧ Hid ((woutN b.ns l k).length = m) ∧ Hid (Blk wr (gb + 2) 26 #[.int .i64 b.lo, .int .i64 b.hi, .slice p m c]) ∧ Hid (OwnNs wr (gb + 2 + 1) (.slice p m c) (woutN b.ns l k)) ∧ Hid (Below (gb + 2) W wr)) (fun i _ => b.ns.length - (intOf i).toNat)
  case atStart => exact ⟨0, none, 0, 0, by omega, rfl, Lib.hid rfl, KX, Lib.hid (OwnNs.nil _ _), Lib.hid (Below.refl _ _)⟩
  case round =>
    obtain ⟨k, p, c, m, hk, rfl, HM, HX, HO, HBL⟩ := hrel
    have kb : Blk wr gb 26 #[.int .i64 b.lo, .int .i64 b.hi, .slice p0 b.ns.length c0] := (HBL.out.block gb (by omega)).trans KB.out
    have d2 : wr.cell? ⟨gb, 2, none⟩ = some (.slice p0 b.ns.length c0) := kb.cell 2
    have kl := kb.lt
    have xl := HX.out.lt
    have hbw : Below w.heap.size w wr := HWB.out.trans (HBL.out.mono (by have := HE.out; omega))
    have HBW := Lib.hid hbw
    have KB2 := Lib.hid kb
    clear kb hbw
    by_cases hlt : k < b.ns.length
    · obtain ⟨s, hs⟩ := get_some b.ns k hlt
      have HS := Lib.hid hs
      have hk1 : (k : Int) < (b.ns.length : Int) := by omega
      have hk0 : (0 : Int) ≤ (k : Int) := by omega
      clear hs
      cases hm : st.testBit k with
      | true =>
        have HMM := Lib.hid hm
        have HU := Lib.hid (woutN_in HS.out ((HTB.out k hlt).2 hm))
        clear hm
        go_wp2_with (go_at_call 81; refine (Bit_eq st k true _ hst (by omega) HMM.out).mono ?_; rintro e w1 ⟨rfl, rfl⟩)
        go_roundw
        case rel => exact ⟨k + 1, p, c, m, by omega, by go_num, by rw [HU.out]; exact HM, HX, by rw [HU.out]; exact HO, HBL⟩
        case measure => simp [intOf]; omega
      | false =>
        have HMM := Lib.hid hm
        have HU := Lib.hid (woutN_out HS.out (l := l) (fun e => by rw [(HTB.out k hlt).1 e] at hm; cases hm))
        clear hm
        obtain ⟨bb1, o1, hps, hb1, q0, q1, q2, q3⟩ := (HB.out.below HBW.out) k _ HS.out
        subst hps
        have HA := Lib.hid hb1
        have HQ := Lib.hid (And.intro q0 (And.intro q1 (And.intro q2 q3)))
        have hbb : bb1 < gb := by
          obtain ⟨b2, o2, e, h2, -⟩ := HB.out k _ HS.out
          cases e
          have := HE.out; omega
        have hrow : ∀ g, (Value.slice p m c).ownBlock = some g → gb + 2 + 1 ≤ g := fun g hg => (HO.out.lt g hg).1
        have HROW := Lib.hid hrow
        have hml : (woutN b.ns l k).length ≤ 1000 := by have := woutN_len b.ns l k; omega
        clear hb1 q0 q1 q2 q3 hrow
        go_upto_region 7 with (go_at_call 81; refine (Bit_eq st k false _ hst (by omega) HMM.out).mono ?_; rintro e w1 ⟨rfl, rfl⟩)
        refine wp_region_flow_backH 10 31 8 (Value.slice p m c).ownBlock (woutR (gb + 2) gb bb1 (o1 + k * 4) b.ns.length c0 k p m c (some ⟨bb1, o1, none⟩) (woutN b.ns l k) s) (by kernel_rfl) (by kernel_rfl) rfl (by omega) (woutR_kept _ _ _ _ _ _ _ _ _ _ _ _ _) ?_ ?_ ?_
        · intro i hin hne f a W1 h1 h2 h3 h4 h5' h6' KK hKK
          have far : ∀ g', g' < wr.heap.size → g' ≤ gb + 2 → W1.heap[g']? = wr.heap[g']? := fun g' hg hg2 => h5'.block g' hg (fun e => by have := HROW.out g' e.symm; omega)
          rcases (show i = 0 ∨ i = 1 ∨ i = 2 ∨ i = 3 ∨ i = 4 ∨ i = 5 ∨ i = 6 ∨ i = 7 ∨ i = 9 by omega) with hi0 | hi0 | hi0 | hi0 | hi0 | hi0 | hi0 | hi0 | hi0
          · subst hi0
            exact st_val rfl (wanted_none rfl) (run_fBook1 _ rfl (h3 5 (by kernel_rfl)) (Nat.lt_of_lt_of_le HX.out.lt h5'.size)) (hKK _ _ rfl (Below.refl _ _))
          · subst hi0
            have kx : Blk W1 (gb + 2) _ _ := (far (gb + 2) HX.out.lt (by omega)).trans HX.out
            exact st_val rfl (wanted_none rfl) (run_lNotes _ rfl (h4 0 (by kernel_rfl)) (Blk.cell kx 2)) (hKK _ _ ⟨rfl, fun hf => HO.out.below (h6' hf)⟩ (Below.refl _ _))
          · subst hi0
            exact st_val rfl (wanted_none rfl) (run_fBook1 _ rfl (h3 2 (by kernel_rfl)) (Nat.lt_of_lt_of_le KB2.out.lt h5'.size)) (hKK _ _ rfl (Below.refl _ _))
          · subst hi0
            have kb : Blk W1 gb _ _ := (far gb KB2.out.lt (by omega)).trans KB2.out
            exact st_val rfl (wanted_none rfl) (run_lNotes _ rfl (h4 2 (by kernel_rfl)) (Blk.cell kb 2)) (hKK _ _ rfl (Below.refl _ _))
          · subst hi0
            exact st_move rfl rfl (wanted_none rfl) (h3 6 (by kernel_rfl)) (hKK _ _ rfl (Below.refl _ _))
          · subst hi0
            exact st_val rfl (wanted_none rfl) (run_atNote _ rfl (h4 3 (by kernel_rfl)) (h4 4 (by kernel_rfl)) hlt (Nat.lt_of_lt_of_le HA.out h5'.size)) (hKK _ _ rfl (Below.refl _ _))
          · subst hi0
            have hc : ∀ j, W1.cell? ⟨bb1, j, none⟩ = wr.cell? ⟨bb1, j, none⟩ := fun j => World.cell?_of_block (a := ⟨bb1, j, none⟩) (far bb1 HA.out (by omega))
            exact st_val rfl (wanted_none rfl) (run_noteAt _ rfl (h4 5 (by kernel_rfl)) ((hc _).trans HQ.out.1) ((hc _).trans HQ.out.2.1) ((hc _).trans HQ.out.2.2.1) ((hc _).trans HQ.out.2.2.2)) (hKK _ _ rfl (Below.refl _ _))
          · subst hi0
            exact st_valw rfl (wanted_none rfl) (run_bsNote _ rfl (h4 6 (by kernel_rfl))) (hKK _ _ ⟨_, rfl, fun _ => Blk.new rfl⟩ ((Below.refl _ _).alloc (Nat.le_refl _) _))
          · subst hi0
            exact st_val rfl (wanted_none rfl) (run_fBook1 _ rfl (h3 5 (by kernel_rfl)) (Nat.lt_of_lt_of_le HX.out.lt h5'.size)) (hKK _ _ rfl (Below.refl _ _))
        · intro a W1 h1 h2 h3 h4 h5' KK hKK
          obtain ⟨e1, ho⟩ := h4 1 (by kernel_rfl)
          obtain ⟨q, e2, hq⟩ := h4 7 (by kernel_rfl)
          refine st_append_note rfl (wanted_none rfl) _ _ rfl (gb + 2 + 1) _ _ e1 (ho rfl) q s e2 (hq rfl) hml (by have := HX.out.lt; have := h5'.size; omega) ?_
          intro v' w' h7 h8
          refine hKK _ _ ⟨rfl, h7⟩ (fun j u hj hr => ?_) h8
          rcases (show j = 0 ∨ j = 1 ∨ j = 2 ∨ j = 3 ∨ j = 4 ∨ j = 5 ∨ j = 6 ∨ j = 7 ∨ j = 8 ∨ j = 9 by omega) with hi0 | hi0 | hi0 | hi0 | hi0 | hi0 | hi0 | hi0 | hi0 | hi0
          all_goals subst hi0
          · exact hr
          · exact ⟨hr.1, fun hf => by cases hf⟩
          · exact hr
          · exact hr
          · exact hr
          · exact hr
          · exact hr
          · obtain ⟨q', e, _⟩ := hr; exact ⟨q', e, fun hf => by cases hf⟩
          · exact absurd hr.1 (by decide)
          · exact hr
        · intro vs W3 hvs hB3
          have v0 : vs 0 = _ := hvs 0 (by omega)
          have v1 : vs 1 = _ := (hvs 1 (by omega)).1
          have v2 : vs 2 = _ := hvs 2 (by omega)
          have v3 : vs 3 = _ := hvs 3 (by omega)
          have v4 : vs 4 = _ := hvs 4 (by omega)
          have v5 : vs 5 = _ := hvs 5 (by omega)
          have v6 : vs 6 = _ := hvs 6 (by omega)
          obtain ⟨q, v7, -⟩ := hvs 7 (by omega)
          have ho8 := (hvs 8 (by omega)).2
          obtain ⟨p', c', v8, -⟩ := ho8.at
          have v9 : vs 9 = _ := hvs 9 (by omega)
          rw [v8] at ho8
          obtain ⟨m', hm'⟩ : ∃ m', (woutN b.ns l k ++ [s]).length = m' := ⟨_, rfl⟩
          rw [hm'] at ho8 v8
          simp only [putAll, v0, v1, v2, v3, v4, v5, v6, v7, v8, v9]
          clear v0 v1 v2 v3 v4 v5 v6 v7 v8 v9 hvs
          simp only [dstOf, Act.put, List.getElem?_toArray, List.getElem?_cons_zero, List.getElem?_cons_succ, Option.bind_some, Option.getD_some, List.setIfInBounds_toArray, List.set_cons_succ, List.set_cons_zero, List.drop_succ_cons, List.drop_zero]
          have kx3 : Blk W3 (gb + 2) 26 #[.int .i64 b.lo, .int .i64 b.hi, .slice p m c] := (hB3.block _ HX.out.lt (fun e => by have := HROW.out _ e.symm; omega)).trans HX.out
          have x2 := kx3.cell 2
          have f2 := kx3.frozen 2
          simp only [List.size_toArray, List.length_cons, List.length_nil, Nat.reduceAdd, Nat.reduceLT, getElem?_pos, List.getElem_toArray, List.getElem_cons_zero, List.getElem_cons_succ] at x2
          have xl3 := kx3.lt
          have hbl3 : Below (gb + 2) W W3 := Below.grown HBL.out hB3 (by have := HX.out.lt; omega) (fun j hj => by have := HROW.out j hj; omega)
          have KX3 := Lib.hid kx3
          have HO8 := Lib.hid ho8
          have HM8 := Lib.hid hm'
          have HBL3 := Lib.hid hbl3
          clear kx3 ho8 hm' hbl3 hB3
          go_wp2_with fail
          go_roundw
          case rel => exact ⟨k + 1, p', c', m', by omega, by go_num, by rw [HU.out]; exact HM8, Lib.hid (by simpa using KX3.out.set 2 (.slice p' m' c')), by rw [HU.out]; exact Lib.hid (HO8.out.kept (fun g hg => by have := (HO8.out.lt g hg).1; exact Below.heap_setCell _ _ _ _ (by dsimp only; omega))), Lib.hid (HBL3.out.setCell (by dsimp only; omega) _)⟩
          case measure => simp [intOf]; omega
    · obtain rfl : k = b.ns.length := by omega
      have kr : Blk wr (gb + 1) 26 #[.int .i64 0, .int .i64 0, .slice none 0 0] := (HBL.out.block (gb + 1) (by omega)).trans KR.out
      have x0 := HX.out.cell 0
      have x1 := HX.out.cell 1
      have x2 := HX.out.cell 2
      have r0 := kr.cell 0
      have r1 := kr.cell 1
      have r2 := kr.cell 2
      have s0 := kr.frozen 0
      have s1 := kr.frozen 1
      have s2 := kr.frozen 2
      simp only [List.size_toArray, List.length_cons, List.length_nil, Nat.reduceAdd, Nat.reduceLT, getElem?_pos, List.getElem_toArray, List.getElem_cons_zero, List.getElem_cons_succ] at x0 x1 x2 r0 r1 r2
      have rl := kr.lt
      have KRR := Lib.hid kr
      clear kr
      have hO3 : OwnNs (((wr.setCell ⟨gb + 1, 0, none⟩ (.int .i64 b.lo)).setCell ⟨gb + 1, 1, none⟩ (.int .i64 b.hi)).setCell ⟨gb + 1, 2, none⟩ (.slice p m c)) (gb + 2 + 1) (.slice p m c) (woutN b.ns l b.ns.length) := HO.out.kept (fun g hg => by
        have h1 := (HO.out.lt g hg).1
        have e : ∀ (w : World) (i : Nat) (v : Value), (w.setCell ⟨gb + 1, i, none⟩ v).heap[g]? = w.heap[g]? := fun w i v => Below.heap_setCell _ _ _ _ (by dsimp only; omega)
        rw [e, e, e])
      have HO3 := Lib.hid hO3
      clear hO3
      go_wp2_with fail
      refine bodyPost_ret (v := .agg #[.int .i64 b.lo, .int .i64 b.hi, .slice p m c]) (by simp [results, Tryd.results77, go_sem, r0, r1, r2, s0, s1, s2, rl]) rfl ?_
      refine ⟨p, c, by show Ending.returned (Value.agg #[.int .i64 b.lo, .int .i64 b.hi, .slice p m c]) = Ending.returned (.agg #[.int .i64 b.lo, .int .i64 b.hi, .slice p (woutN b.ns l b.ns.length).length c]); rw [HM.out], by rw [HM.out]; exact HO3.out.mono (by have := HE.out; omega), ext_of ?_⟩
      have hB := HBW.out
      have hE := HE.out
      show Below w.heap.size w (((wr.setCell ⟨gb + 1, 0, none⟩ _).setCell ⟨gb + 1, 1, none⟩ _).setCell ⟨gb + 1, 2, none⟩ _)
      (repeat (first | (with_reducible exact Below.refl _ _) | (with_reducible assumption) | ((with_reducible refine below_ext_trans ?_ ?_ _); rotate_left; focus (((try dsimp only); repeat (first | omega | simp only [World.size_alloc, World.size_setCell, World.size_drew] | (with_reducible refine le_ext_of ?_) | (with_reducible refine le_ext_add ?_))); done)) | ((with_reducible refine Below.alloc ?_ ?_ _); rotate_left; focus (((try dsimp only); repeat (first | omega | simp only [World.size_alloc, World.size_setCell, World.size_drew] | (with_reducible refine le_ext_of ?_) | (with_reducible refine le_ext_add ?_))); done)) | ((with_reducible refine Below.setCell ?_ ?_ _); rotate_left; focus (((try dsimp only); repeat (first | omega | simp only [World.size_alloc, World.size_setCell, World.size_drew] | (with_reducible refine le_ext_of ?_) | (with_reducible refine le_ext_add ?_))); done)) | (with_reducible refine Below.drew ?_)))
end Go.Proofs.YtjjfpbjdcmkkhaaDoor

namespace Go.Proofs.YtjjfpbjdcmkkhaaDoor
open Go Go.RowKit Go.Shelf
/-- A set of notes without which the book can be true. -/
def canW (b : Sn) (S : Nat) : Bool := rightS (woutS b (bitsL S b.ns.length) b.ns.length)
/-- The first list of the fewest, of so many sets. -/
def WInv (b : Sn) (s : Nat) (best : List Int) : Prop := (∃ S, S < 2 ^ b.ns.length ∧ best = bitsL S b.ns.length ∧ canW b S = true) ∧ ∀ S, S < s → canW b S = true → fewerB (bitsL S b.ns.length) best = false
theorem full_set {N : Nat} : ∀ k, k < N → (2 ^ N - 1).testBit k = true := fun k hk => by rw [Nat.testBit_two_pow_sub_one]; exact decide_eq_true hk
theorem wout_full {ns : List Nt} {l : List Int} : ∀ k, k ≤ ns.length → (∀ j : Nat, j < k → (j : Int) ∈ l) → woutN ns l k = []
  | 0, _, _ => rfl
  | k + 1, hk, h => by
    obtain ⟨s, hs⟩ := get_some ns k (by omega)
    rw [woutN_in hs (h k (by omega))]
    exact wout_full k (by omega) (fun j hj => h j (by omega))
theorem WInv.start {b : Sn} (hsp : b.lo ≤ b.hi) : WInv b 0 (bitsL (2 ^ b.ns.length - 1) b.ns.length) := by
  refine ⟨⟨2 ^ b.ns.length - 1, by have := Nat.two_pow_pos b.ns.length; omega, rfl, ?_⟩, fun S hS => by omega⟩
  unfold canW
  rw [show woutS b (bitsL (2 ^ b.ns.length - 1) b.ns.length) b.ns.length = ⟨b.lo, b.hi, []⟩ by
    show Sn.mk b.lo b.hi (woutN b.ns _ b.ns.length) = _
    rw [wout_full _ (Nat.le_refl _) (fun j hj => (bitsL_at hj).2 (full_set j hj))]]
  exact plain_right hsp
theorem WInv.keep {b : Sn} {s : Nat} {best : List Int} (h : WInv b s best) (hk : canW b s = true → fewerB (bitsL s b.ns.length) best = false) : WInv b (s + 1) best :=
  ⟨h.1, fun S hS hc => by
    by_cases e : S = s
    · subst e; exact hk hc
    · exact h.2 S (by omega) hc⟩
theorem WInv.take {b : Sn} {s : Nat} {best : List Int} (h : WInv b s best) (hs : s < 2 ^ b.ns.length) (hc : canW b s = true) (hf : fewerB (bitsL s b.ns.length) best = true) : WInv b (s + 1) (bitsL s b.ns.length) := by
  refine ⟨⟨s, hs, rfl, hc⟩, fun S hS hS2 => ?_⟩
  by_cases e : S = s
  · subst e; exact fewerB_irrefl _
  · refine fewerB_ge (h.2 S (by omega) hS2) ?_
    rw [Bool.eq_false_iff]
    intro h2
    have := fewerB_trans _ _ _ hf h2
    rw [fewerB_irrefl] at this
    cases this
theorem set_some (P : Nat → Bool) : ∀ N : Nat, ∃ S, S < 2 ^ N ∧ ∀ k, k < N → S.testBit k = P k
  | 0 => ⟨0, by simp, fun k hk => by omega⟩
  | N + 1 => by
    obtain ⟨S, h1, h2⟩ := set_some P N
    have hp := Nat.pow_succ 2 N
    cases hP : P N
    · refine ⟨S, by omega, fun k hk => ?_⟩
      by_cases e : k = N
      · subst e; rw [hP]; exact Nat.testBit_lt_two_pow h1
      · exact h2 k (by omega)
    · refine ⟨2 ^ N + S, by omega, fun k hk => ?_⟩
      by_cases e : k = N
      · subst e; rw [hP, Nat.testBit_two_pow_add_eq, Nat.testBit_lt_two_pow h1]; rfl
      · rw [Nat.testBit_two_pow_add_gt (by omega)]
        exact h2 k (by omega)
/-- What the reference tells is what the program tells. -/
theorem WInv.same {b : Sn} (hok : Ok9 b) {best l : List Int} (h : WInv b (2 ^ b.ns.length) best) (hl : WrongIs b l) : best = l := by
  obtain ⟨⟨S, hS, rfl, hc⟩, hmin⟩ := h
  obtain ⟨hin, hpw⟩ := wrong_inn hok hl
  obtain ⟨T, hT, hTb⟩ := set_some (fun k => decide ((k : Int) ∈ l)) b.ns.length
  have eT : bitsL T b.ns.length = l := by
    refine sorted_eq (bitsL_rises _ _) hpw (fun x => ?_)
    rw [mem_bitsL]
    constructor
    · rintro ⟨k, h1, h2, rfl⟩
      rw [hTb k h1] at h2
      exact of_decide_eq_true h2
    · intro hx
      obtain ⟨x0, x1⟩ := hin x hx
      obtain ⟨k, rfl⟩ := Int.eq_ofNat_of_zero_le x0
      exact ⟨k, by omega, by rw [hTb k (by omega)]; exact decide_eq_true hx, rfl⟩
  have h1 : fewerB l (bitsL S b.ns.length) = false := by
    have := hmin T hT (by unfold canW; rw [eT]; exact wrong_rest hok hl)
    rw [eT] at this
    exact this
  have h2 : fewerB (bitsL S b.ns.length) l = false := by
    rw [Bool.eq_false_iff]
    intro hf
    have := wrong_less hok hl (bitsL_rises _ _) (fun x hx => by
      obtain ⟨k, k1, k2, rfl⟩ := mem_bitsL.1 hx
      omega) hf
    unfold canW at hc
    rw [this] at hc
    cases hc
  exact fewerB_total h2 h1
theorem WInv.len {b : Sn} {s : Nat} {best : List Int} (h : WInv b s best) : best.length ≤ b.ns.length := by
  obtain ⟨⟨S, -, rfl, -⟩, -⟩ := h
  exact bitsL_le _ _
end Go.Proofs.YtjjfpbjdcmkkhaaDoor

