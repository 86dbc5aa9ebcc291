/- TurnKnows' walk. -/
import Derived.Test.YtmnbfjphndgmnaaDoorQZe
set_option linter.unusedSimpArgs false
set_option linter.unusedVariables false
namespace Go.Proofs.YtmnbfjphndgmnaaDoor
open Go Go.RowKit

set_option maxRecDepth 100000 in
set_option maxHeartbeats 4000000 in
theorem TurnKnows_bad (h : Hd) (b : Bk) (n0 n1 n2 n3 : Int) (w : World) (hb : BkAt w h b) (hv : bookB b = false) (hn : NB w) :
    Calls Tryd.prog 7 #[.agg #[.int .i64 b.n, .slice h.pb b.bs.length h.cb, .slice h.po b.os.length h.co, .slice h.ps b.ss.length h.cs], .agg #[.int .i64 n0, .int .i64 n1, .int .i64 n2, .int .i64 n3]] w fun e w' => e = .returned (.bool true) ∧ ∃ x, w' = ext w x := by
  have HB := Lib.hid hb
  have HN := Lib.hid hn
  clear hb hn
  go_enter Tryd.func7, Tryd.ntmps7
  go_wp2_with (first
    | (go_at_call 12; refine (sound_no h b _ (HB.out.below (by (repeat (first | (with_reducible exact Below.refl _ _) | (with_reducible assumption) | ((with_reducible refine below_ext_trans ?_ ?_ _); rotate_left; focus (((try dsimp only); repeat (first | omega | simp only [World.size_alloc, World.size_setCell, World.size_drew] | (with_reducible refine le_ext_of ?_) | (with_reducible refine le_ext_add ?_))); done)) | ((with_reducible refine Below.alloc ?_ ?_ _); rotate_left; focus (((try dsimp only); repeat (first | omega | simp only [World.size_alloc, World.size_setCell, World.size_drew] | (with_reducible refine le_ext_of ?_) | (with_reducible refine le_ext_add ?_))); done)) | ((with_reducible refine Below.setCell ?_ ?_ _); rotate_left; focus (((try dsimp only); repeat (first | omega | simp only [World.size_alloc, World.size_setCell, World.size_drew] | (with_reducible refine le_ext_of ?_) | (with_reducible refine le_ext_add ?_))); done)) | (with_reducible refine Below.drew ?_))))) hv).mono ?_; rintro e w1 ⟨rfl, y1, rfl⟩)
    | (go_at_call 13; refine (shot_any _ (HN.out.below (by (repeat (first | (with_reducible exact Below.refl _ _) | (with_reducible assumption) | ((with_reducible refine below_ext_trans ?_ ?_ _); rotate_left; focus (((try dsimp only); repeat (first | omega | simp only [World.size_alloc, World.size_setCell, World.size_drew] | (with_reducible refine le_ext_of ?_) | (with_reducible refine le_ext_add ?_))); done)) | ((with_reducible refine Below.alloc ?_ ?_ _); rotate_left; focus (((try dsimp only); repeat (first | omega | simp only [World.size_alloc, World.size_setCell, World.size_drew] | (with_reducible refine le_ext_of ?_) | (with_reducible refine le_ext_add ?_))); done)) | ((with_reducible refine Below.setCell ?_ ?_ _); rotate_left; focus (((try dsimp only); repeat (first | omega | simp only [World.size_alloc, World.size_setCell, World.size_drew] | (with_reducible refine le_ext_of ?_) | (with_reducible refine le_ext_add ?_))); done)) | (with_reducible refine Below.drew ?_)))))).mono ?_; rintro e w1 ⟨rfl, y, rfl⟩))
  go_ret
  exact ⟨rfl, by (exact ext_of (by (repeat (first | (with_reducible exact Below.refl _ _) | (with_reducible assumption) | ((with_reducible refine below_ext_trans ?_ ?_ _); rotate_left; focus (((try dsimp only); repeat (first | omega | simp only [World.size_alloc, World.size_setCell, World.size_drew] | (with_reducible refine le_ext_of ?_) | (with_reducible refine le_ext_add ?_))); done)) | ((with_reducible refine Below.alloc ?_ ?_ _); rotate_left; focus (((try dsimp only); repeat (first | omega | simp only [World.size_alloc, World.size_setCell, World.size_drew] | (with_reducible refine le_ext_of ?_) | (with_reducible refine le_ext_add ?_))); done)) | ((with_reducible refine Below.setCell ?_ ?_ _); rotate_left; focus (((try dsimp only); repeat (first | omega | simp only [World.size_alloc, World.size_setCell, World.size_drew] | (with_reducible refine le_ext_of ?_) | (with_reducible refine le_ext_add ?_))); done)) | (with_reducible refine Below.drew ?_)))))⟩

set_option maxRecDepth 100000 in
set_option maxHeartbeats 16000000 in
theorem TurnKnows_yes (h : Hd) (b : Bk) (n0 n1 n2 n3 : Int) (w : World) (hb : BkAt w h b) (hv : bookB b = true) (hn : NB w) :
    Calls Tryd.prog 7 #[.agg #[.int .i64 b.n, .slice h.pb b.bs.length h.cb, .slice h.po b.os.length h.co, .slice h.ps b.ss.length h.cs], .agg #[.int .i64 n0, .int .i64 n1, .int .i64 n2, .int .i64 n3]] w fun e w' => e = .returned (.bool true) ∧ ∃ x, w' = ext w x := by
  obtain ⟨pb, cb, po, co, ps, cs⟩ := h
  dsimp only
  have hs5 := bookB_ss hv
  have h4 := (bookB_bounds hv).1
  have hv0 := hv
  have HB := Lib.hid hb
  have HN := Lib.hid hn
  have HV := Lib.hid hv
  clear hb hn hv hv0
  go_enter Tryd.func7, Tryd.ntmps7
  go_upto_region 4 with (go_at_call 12; refine (sound_yes ⟨pb, cb, po, co, ps, cs⟩ b _ (HB.out.below (by (repeat (first | (with_reducible exact Below.refl _ _) | (with_reducible assumption) | ((with_reducible refine below_ext_trans ?_ ?_ _); rotate_left; focus (((try dsimp only); repeat (first | omega | simp only [World.size_alloc, World.size_setCell, World.size_drew] | (with_reducible refine le_ext_of ?_) | (with_reducible refine le_ext_add ?_))); done)) | ((with_reducible refine Below.alloc ?_ ?_ _); rotate_left; focus (((try dsimp only); repeat (first | omega | simp only [World.size_alloc, World.size_setCell, World.size_drew] | (with_reducible refine le_ext_of ?_) | (with_reducible refine le_ext_add ?_))); done)) | ((with_reducible refine Below.setCell ?_ ?_ _); rotate_left; focus (((try dsimp only); repeat (first | omega | simp only [World.size_alloc, World.size_setCell, World.size_drew] | (with_reducible refine le_ext_of ?_) | (with_reducible refine le_ext_add ?_))); done)) | (with_reducible refine Below.drew ?_))))) HV.out).mono ?_; rintro e w1 ⟨rfl, y1, rfl⟩)
  generalize hW1 : (ext ((w.alloc _).alloc _) _).alloc _ = W1
  generalize hg : (ext ((w.alloc _).alloc _) _).heap.size = g
  have hgw : w.heap.size + 1 < g := by
    rw [← hg]
    have := (below_ext _ y1).size
    simp only [World.size_alloc] at this
    omega
  have hB1 : Below w.heap.size w W1 := by rw [← hW1]; (repeat (first | (with_reducible exact Below.refl _ _) | (with_reducible assumption) | ((with_reducible refine below_ext_trans ?_ ?_ _); rotate_left; focus (((try dsimp only); repeat (first | omega | simp only [World.size_alloc, World.size_setCell, World.size_drew] | (with_reducible refine le_ext_of ?_) | (with_reducible refine le_ext_add ?_))); done)) | ((with_reducible refine Below.alloc ?_ ?_ _); rotate_left; focus (((try dsimp only); repeat (first | omega | simp only [World.size_alloc, World.size_setCell, World.size_drew] | (with_reducible refine le_ext_of ?_) | (with_reducible refine le_ext_add ?_))); done)) | ((with_reducible refine Below.setCell ?_ ?_ _); rotate_left; focus (((try dsimp only); repeat (first | omega | simp only [World.size_alloc, World.size_setCell, World.size_drew] | (with_reducible refine le_ext_of ?_) | (with_reducible refine le_ext_add ?_))); done)) | (with_reducible refine Below.drew ?_)))
  have kb : Blk W1 w.heap.size 26 #[.int .i64 b.n, .slice pb b.bs.length cb, .slice po b.os.length co, .slice ps b.ss.length cs] := by rw [← hW1]; exact (((Blk.new rfl).alloc _).ext _).alloc _
  have kn : Blk W1 (w.heap.size + 1) 61 #[.int .i64 n0, .int .i64 n1, .int .i64 n2, .int .i64 n3] := by rw [← hW1]; exact ((Blk.new (by simp)).ext _).alloc _
  have kx : Blk W1 g 26 #[.int .i64 b.n, .slice pb b.bs.length cb, .slice po b.os.length co, .slice ps b.ss.length cs] := by rw [← hW1]; exact Blk.new hg.symm
  have d0 := kb.cell 0
  have d1 := kb.cell 1
  have d2 := kb.cell 2
  have d3 := kb.cell 3
  have m0 := kn.cell 0
  have m1 := kn.cell 1
  have m2 := kn.cell 2
  have m3 := kn.cell 3
  simp only [List.size_toArray, List.length_cons, List.length_nil, Nat.reduceAdd, Nat.reduceLT, getElem?_pos, List.getElem_toArray, List.getElem_cons_zero, List.getElem_cons_succ] at d0 d1 d2 d3 m0 m1 m2 m3
  have kl := kb.lt
  have nl := kn.lt
  have xl := kx.lt
  have HB1 := Lib.hid (HB.out.below hB1)
  have HN1 := Lib.hid (HN.out.below hB1)
  have HW1 := Lib.hid hB1
  have KB1 := Lib.hid kb
  have KN1 := Lib.hid kn
  have KX1 := Lib.hid kx
  have HG := Lib.hid hgw
  clear hW1 hg hB1 kb kn kx hgw
  go_upto_if 30 with fail
  go_cut [6, 7, 8, 9, 10, 11] (fun s6 s7 s8 s9 s10 s11 wx => ∃ X : Bk, X.ss = b.ss ∧ More X b ∧ X.n = b.n ∧ bookB X = true ∧ KnownAt b po co g wx X ∧ Below w.heap.size w wx ∧ Blk wx w.heap.size 26 #[.int .i64 b.n, .slice pb b.bs.length cb, .slice po b.os.length co, .slice ps b.ss.length cs] ∧ Blk wx (w.heap.size + 1) 61 #[.int .i64 n0, .int .i64 n1, .int .i64 n2, .int .i64 n3])
  case first =>
    by_cases hbs : b.bs.length = 0
    · have hl0 : (b.bs.length : Int) = 0 := by omega
      go_wp2_with fail
      go_meet
      exact ⟨b, rfl, More.refl b, rfl, HV.out, ⟨pb, cb, ps, cs, KX1.out, HB1.out.bs, HB1.out.ss, HB.out.bs.fresh (by have := HG.out; omega), HB.out.ss.fresh (by have := HG.out; omega)⟩, HW1.out, KB1.out, KN1.out⟩
    · have hl0 : (0 : Int) < (b.bs.length : Int) := by omega
      have HL1 := Lib.hid (show 1 ≤ (b.bs.length : Int) ∧ (b.bs.length : Int) ≤ 1000000 by omega)
      obtain ⟨k, ek⟩ := Int.eq_ofNat_of_zero_le (Int.emod_nonneg n0 (show (b.bs.length : Int) ≠ 0 by omega))
      have hkl : k < b.bs.length := by have := Int.emod_lt_of_pos n0 hl0; omega
      obtain ⟨⟨lo, hi⟩, hbk⟩ := get_some b.bs k hkl
      have hle := chain_bounds (bookB_bounds HV.out).2.2 _ (List.mem_of_getElem? hbk)
      unfold Mom at hle
      dsimp only at hle
      obtain ⟨v, ev⟩ : ∃ v, someI lo hi n1 = v := ⟨_, rfl⟩
      have hvb := someI_bd (n := n1) (show lo ≤ hi by omega)
      rw [ev] at hvb
      have HBK := Lib.hid hbk
      have EK := Lib.hid ek
      have EV := Lib.hid ev
      have HVB := Lib.hid hvb
      have SB := Lib.hid (show 0 ≤ lo ∧ lo ≤ hi ∧ hi ≤ 100000 by omega)
      obtain ⟨bb1, o1, hpb, hb1, qlo, qhi⟩ := HB1.out.bs k _ hbk
      dsimp only at hpb qlo qhi
      subst hpb
      have HA1 := Lib.hid hb1
      have HLO1 := Lib.hid qlo
      have HHI1 := Lib.hid qhi
      clear hbk ek ev hvb hle qlo qhi hb1
      go_upto_region 6 with (go_at_call 14; refine (Wheel_eq n0 _ k _ HL1.out EK.out).mono ?_; rintro e w1 ⟨rfl, y2, rfl⟩)
      have hB2 : Below W1.heap.size W1 (ext W1 y2) := below_ext _ _
      generalize ext W1 y2 = W2 at *
      have KB2 := Lib.hid (KB1.out.bel hB2)
      have KN2 := Lib.hid (KN1.out.bel hB2)
      have KX2 := Lib.hid (KX1.out.bel hB2)
      have HB2 := Lib.hid (HB1.out.below hB2)
      have HN2 := Lib.hid (HN1.out.below hB2)
      have HW2 := Lib.hid (HW1.out.trans (hB2.mono HW1.out.size))
      have HA2 := Lib.hid (Nat.lt_of_lt_of_le HA1.out hB2.size)
      have HLO2 := Lib.hid ((hB2.cell (p := ⟨bb1, o1 + k * 2, none⟩) HA1.out).trans HLO1.out)
      have HHI2 := Lib.hid ((hB2.cell (p := ⟨bb1, o1 + k * 2 + 1, none⟩) HA1.out).trans HHI1.out)
      clear hB2 KB1 KN1 KX1 HB1 HN1 HW1 HA1 HLO1 HHI1 d0 d1 d2 d3 m0 m1 m2 m3 kl nl xl
      refine wp_region_flow_back 11 179 (knowR (.agg #[.int .i64 b.n, .slice (some ⟨bb1, o1, none⟩) b.bs.length cb, .slice po b.os.length co, .slice ps b.ss.length cs]) (.slice (some ⟨bb1, o1, none⟩) b.bs.length cb) b.n b.bs.length b.os.length b.ss.length k po co ps cs w.heap.size (w.heap.size + 1) g bb1 (o1 + k * 2) lo hi n1 v (b.bs.set k (v, v))) (by kernel_rfl) (by kernel_rfl) rfl (knowR_kept _ _ _ _ _ _ _ _ _ _ _ _ _ _ _ _ _ _ _ _ _) ?_ ?_
      · intro i hin a W h1 h2 h3 h4' h5 KK hKK
        rcases (show i = 0 ∨ i = 1 ∨ i = 2 ∨ i = 3 ∨ i = 4 ∨ i = 5 ∨ i = 6 ∨ i = 7 ∨ i = 8 ∨ i = 9 ∨ i = 10 by omega) with hi0 | hi0 | hi0 | hi0 | hi0 | hi0 | hi0 | hi0 | hi0 | hi0 | hi0
        · subst hi0
          exact st_val rfl (wanted_none rfl) (run_book _ rfl (h3 2 (by kernel_rfl)) (KB2.out.bel h5)) (hKK _ _ rfl (Below.refl _ _))
        · subst hi0
          exact st_move rfl rfl (wanted_none rfl) (h3 6 (by kernel_rfl)) (hKK _ _ rfl (Below.refl _ _))
        · subst hi0
          exact st_val rfl (wanted_none rfl) (run_bounds _ rfl (h3 2 (by kernel_rfl)) (Nat.lt_of_lt_of_le KB2.out.lt h5.size)) (hKK _ _ rfl (Below.refl _ _))
        · subst hi0
          exact st_val rfl (wanted_none rfl) (run_slice _ rfl (h4' 2 (by kernel_rfl)) (Blk.cell (KB2.out.bel h5) 1)) (hKK _ _ rfl (Below.refl _ _))
        · subst hi0
          exact st_move rfl rfl (wanted_none rfl) (h3 6 (by kernel_rfl)) (hKK _ _ rfl (Below.refl _ _))
        · subst hi0
          exact st_val rfl (wanted_none rfl) (run_at _ rfl (h4' 3 (by kernel_rfl)) (h4' 4 (by kernel_rfl)) hkl (Nat.lt_of_lt_of_le HA2.out h5.size)) (hKK _ _ rfl (Below.refl _ _))
        · subst hi0
          exact st_val rfl (wanted_none rfl) (run_span_at _ rfl (h4' 5 (by kernel_rfl)) ((h5.cell (p := ⟨bb1, o1 + k * 2, none⟩) HA2.out).trans HLO2.out) ((h5.cell (p := ⟨bb1, o1 + k * 2 + 1, none⟩) HA2.out).trans HHI2.out)) (hKK _ _ rfl (Below.refl _ _))
        · subst hi0
          exact st_val rfl (wanted_none rfl) (run_n1 _ rfl (h3 3 (by kernel_rfl)) (Nat.lt_of_lt_of_le KN2.out.lt h5.size)) (hKK _ _ rfl (Below.refl _ _))
        · subst hi0
          exact st_val rfl (wanted_none rfl) (run_num _ rfl (h4' 7 (by kernel_rfl)) (Blk.cell (KN2.out.bel h5) 1)) (hKK _ _ rfl (Below.refl _ _))
        · subst hi0
          refine st_call rfl rfl (wanted_none rfl) (args2 (h4' 6 (by kernel_rfl)) (h4' 8 (by kernel_rfl))) (run_enter Tryd.func23 (by kernel_rfl) (by kernel_rfl) _) ?_
          refine (Some_eq' lo hi n1 v _ SB.out EV.out).mono ?_
          rintro e w1 ⟨rfl, y9, rfl⟩
          exact ⟨_, rfl, hKK _ _ rfl (below_ext _ _)⟩
        · subst hi0
          refine st_call rfl rfl (wanted_none rfl) (args3' (h4' 0 (by kernel_rfl)) (h4' 1 (by kernel_rfl)) (h4' 9 (by kernel_rfl))) (run_enter Tryd.func30 (by kernel_rfl) (by kernel_rfl) _) ?_
          refine (known_new ⟨some ⟨bb1, o1, none⟩, cb, po, co, ps, cs⟩ b k v _ (HB2.out.below h5) hkl h4).mono ?_
          rintro e w1 ⟨g2, c2, rfl, hg2, hs2, -, y9, rfl⟩
          exact ⟨_, rfl, hKK _ _ ⟨g2, c2, rfl, by have := KX2.out.lt; have := h5.size; omega, hs2⟩ (below_ext _ _)⟩
      intro vs W3 hvs hB3
      have v0 : vs 0 = _ := hvs 0 (by omega)
      have v1 : vs 1 = _ := hvs 1 (by omega)
      have v2 : vs 2 = _ := hvs 2 (by omega)
      have v3 : vs 3 = _ := hvs 3 (by omega)
      have v4 : vs 4 = _ := hvs 4 (by omega)
      have v5 : vs 5 = _ := hvs 5 (by omega)
      have v6 : vs 6 = _ := hvs 6 (by omega)
      have v7 : vs 7 = _ := hvs 7 (by omega)
      have v8 : vs 8 = _ := hvs 8 (by omega)
      have v9 : vs 9 = _ := hvs 9 (by omega)
      obtain ⟨g2, c2, v10, hg2, hs2⟩ := hvs 10 (by omega)
      simp only [putAll, v0, v1, v2, v3, v4, v5, v6, v7, v8, v9, v10]
      clear v0 v1 v2 v3 v4 v5 v6 v7 v8 v9 v10 hvs
      simp only [dstOf, Act.put, List.getElem?_toArray, List.getElem?_cons_zero, List.getElem?_cons_succ, Option.bind_some, Option.getD_some, List.setIfInBounds_toArray, List.set_cons_succ, List.set_cons_zero, List.drop_succ_cons, List.drop_zero]
      have kx3 := KX2.out.bel hB3
      have xl := kx3.lt
      have x0 := kx3.cell 0
      have x1 := kx3.cell 1
      have x2 := kx3.cell 2
      have x3 := kx3.cell 3
      have f0 := kx3.frozen 0
      have f1 := kx3.frozen 1
      have f2 := kx3.frozen 2
      have f3 := kx3.frozen 3
      simp only [List.size_toArray, List.length_cons, List.length_nil, Nat.reduceAdd, Nat.reduceLT, getElem?_pos, List.getElem_toArray, List.getElem_cons_zero, List.getElem_cons_succ] at x0 x1 x2 x3
      have HB3 := Lib.hid hB3
      have HS2 := Lib.hid hs2
      clear hB3 kx3 hs2
      go_upto_region 7 with fail
      generalize hW4 : (((W3.setCell ⟨g, 0, none⟩ _).setCell ⟨g, 1, none⟩ _).setCell ⟨g, 2, none⟩ _).setCell ⟨g, 3, none⟩ _ = W4
      have hgg := HG.out
      have hbel := HW2.out.trans (HB3.out.mono HW2.out.size)
      have hB4 : Below w.heap.size w W4 := by rw [← hW4]; (repeat (first | (with_reducible exact Below.refl _ _) | (with_reducible assumption) | ((with_reducible refine below_ext_trans ?_ ?_ _); rotate_left; focus (((try dsimp only); repeat (first | omega | simp only [World.size_alloc, World.size_setCell, World.size_drew] | (with_reducible refine le_ext_of ?_) | (with_reducible refine le_ext_add ?_))); done)) | ((with_reducible refine Below.alloc ?_ ?_ _); rotate_left; focus (((try dsimp only); repeat (first | omega | simp only [World.size_alloc, World.size_setCell, World.size_drew] | (with_reducible refine le_ext_of ?_) | (with_reducible refine le_ext_add ?_))); done)) | ((with_reducible refine Below.setCell ?_ ?_ _); rotate_left; focus (((try dsimp only); repeat (first | omega | simp only [World.size_alloc, World.size_setCell, World.size_drew] | (with_reducible refine le_ext_of ?_) | (with_reducible refine le_ext_add ?_))); done)) | (with_reducible refine Below.drew ?_)))
      have hkX := known_ok HV.out HBK.out HVB.out.1 HVB.out.2
      have HX := Lib.hid hkX
      have hne2 : ∀ a, (some ⟨g2, 0, none⟩ : Option Addr) = some a → a.block = g → b.bs.set k (v, v) = [] := fun a ha hag => by
        cases ha
        dsimp only at hag
        omega
      have HNE := Lib.hid hne2
      have hS4 : SpansAt W4 (some ⟨g2, 0, none⟩) (b.bs.set k (v, v)) := by rw [← hW4]; exact (((HS2.out.off hne2 _ _).off hne2 _ _).off hne2 _ _).off hne2 _ _
      have kx4 : Blk W4 g 26 #[.int .i64 b.n, .slice (some ⟨g2, 0, none⟩) b.bs.length c2, .slice po b.os.length co, .slice ps b.ss.length cs] := by rw [← hW4]; exact put4_at (KX2.out.bel HB3.out) _ _ _ _
      have kb4 : Blk W4 w.heap.size 26 #[.int .i64 b.n, .slice (some ⟨bb1, o1, none⟩) b.bs.length cb, .slice po b.os.length co, .slice ps b.ss.length cs] := by rw [← hW4]; exact put4_off (KB2.out.bel HB3.out) (by omega) _ _ _ _
      have kn4 : Blk W4 (w.heap.size + 1) 61 #[.int .i64 n0, .int .i64 n1, .int .i64 n2, .int .i64 n3] := by rw [← hW4]; exact put4_off (KN2.out.bel HB3.out) (by omega) _ _ _ _
      have HS4 := Lib.hid hS4
      have KX4 := Lib.hid kx4
      have KB4 := Lib.hid kb4
      have KN4 := Lib.hid kn4
      have HW4 := Lib.hid hB4
      have HKH := Lib.hid (fun (st : Nat) (s : Shot) (h : s.hi < 1440) => known_hangs HV.out HBK.out HVB.out.1 HVB.out.2 st (s := s) h)
      clear hW4 hgg hbel hB4 hkX hne2 hS4 kx4 kb4 kn4 x0 x1 x2 x3 f0 f1 f2 f3 xl HS2 HB3 KX2 KB2 KN2 HB2 HN2 HW2 HA2 HLO2 HHI2
      go_wp2_with fail
      go_loopw [7] (fun i wr => ∃ j : Nat, j ≤ b.ss.length ∧ i = .int .i64 j ∧ ∃ x, wr = ext W4 x) (fun i _ => b.ss.length - (intOf i).toNat)
      case atStart => exact ⟨0, by omega, rfl, ext_of (Below.refl _ _)⟩
      case round =>
        obtain ⟨j, hj, rfl, y5, rfl⟩ := hrel
        have hB5 : Below W4.heap.size W4 (ext W4 y5) := below_ext W4 y5
        generalize hW5 : ext W4 y5 = W5 at *
        clear hW5
        have HB45 := Lib.hid hB5
        have hX5 := HW4.out.trans (hB5.mono HW4.out.size)
        have HW5 := Lib.hid hX5
        have HB5 := Lib.hid (HB.out.below hX5)
        have HN5 := Lib.hid (HN.out.below hX5)
        have HS5 := Lib.hid (HS4.out.below hB5)
        have kx5 := KX4.out.bel hB5
        have kb5 := KB4.out.bel hB5
        have KX5 := Lib.hid kx5
        have KB5 := Lib.hid kb5
        have KN5 := Lib.hid (KN4.out.bel hB5)
        have d0 := kb5.cell 0
        have d1 := kb5.cell 1
        have d2 := kb5.cell 2
        have d3 := kb5.cell 3
        have x0 := kx5.cell 0
        have x1 := kx5.cell 1
        have x2 := kx5.cell 2
        have x3 := kx5.cell 3
        simp only [List.size_toArray, List.length_cons, List.length_nil, Nat.reduceAdd, Nat.reduceLT, getElem?_pos, List.getElem_toArray, List.getElem_cons_zero, List.getElem_cons_succ] at d0 d1 d2 d3 x0 x1 x2 x3
        have kl := kb5.lt
        have xl := kx5.lt
        clear hB5 hX5 kx5 kb5
        by_cases hlt : j < b.ss.length
        · obtain ⟨s, hs⟩ := get_some b.ss j hlt
          obtain ⟨⟨g0, -⟩, -, ms⟩ := bookB_shot HV.out hs
          unfold Mom at ms
          obtain ⟨st, est⟩ := Int.eq_ofNat_of_zero_le g0
          obtain ⟨hk1, hk2⟩ := HKH.out st s (by omega)
          obtain ⟨T, hT⟩ : ∃ T, hangsTo (knownBk b k v) st s b.bs.length = T := ⟨_, rfl⟩
          obtain ⟨nt, hnt⟩ : ∃ nt, T.length = nt := ⟨_, rfl⟩
          obtain ⟨L, hL⟩ : ∃ L, hangsTo b st s b.bs.length = L := ⟨_, rfl⟩
          obtain ⟨nl, hnl⟩ : ∃ nl, L.length = nl := ⟨_, rfl⟩
          have hLr : risesB b.bs.length 0 L = true := by rw [← hL]; exact hangsTo_rises _ _ _ _
          have hLs : ∀ x ∈ L, 0 ≤ x ∧ x < 4 := fun x hx => by
            rw [← hL] at hx
            obtain ⟨j, j1, -, rfl⟩ := mem_hangsTo.1 hx
            omega
          rw [hT] at hk1 hk2
          rw [hL] at hk2
          have hTs : ∀ x ∈ T, 0 ≤ x ∧ x < 4 := fun x hx => hLs x (hk2 x hx)
          have hll : (L.length : Int) ≤ 1000 := by rw [← hL]; have := hangsTo_le b st s b.bs.length; omega
          have htl : (T.length : Int) ≤ 1000 := by rw [← hT]; have := hangsTo_le (knownBk b k v) st s b.bs.length; omega
          have hor := or_sub hTs hLs hk2
          have HT := Lib.hid (show hangsTo (knownBk b k v) st s (knownBk b k v).bs.length = T by rw [← hT]; simp [knownBk])
          have HNT := Lib.hid hnt
          have HL := Lib.hid hL
          have HNL := Lib.hid hnl
          have HLR := Lib.hid hLr
          have HLS := Lib.hid hLs
          have HTS := Lib.hid hTs
          have HLL := Lib.hid hll
          have HTL := Lib.hid htl
          have HKN := Lib.hid hk1
          have HS := Lib.hid hs
          have EST := Lib.hid est
          have j0 : (0 : Int) ≤ (j : Int) := by omega
          have j1 : (j : Int) < (b.ss.length : Int) := by omega
          clear hs g0 ms est hk1 hk2 hT hnt hL hnl hLr hLs hTs hll htl
          generalize eT : setN T = zT at hor
          generalize eL : setN L = zL at hor
          have ET := Lib.hid eT
          have EL := Lib.hid eL
          clear eT eL
          go_upto_region 11 with (go_at_call 29; refine (Hangs_len' (some ⟨g2, 0, none⟩) po ps c2 co cs _ _ _ _ (knownBk b k v) j st s T nt _ (⟨HS5.out.below (by (repeat (first | (with_reducible exact Below.refl _ _) | (with_reducible assumption) | ((with_reducible refine below_ext_trans ?_ ?_ _); rotate_left; focus (((try dsimp only); repeat (first | omega | simp only [World.size_alloc, World.size_setCell, World.size_drew] | (with_reducible refine le_ext_of ?_) | (with_reducible refine le_ext_add ?_))); done)) | ((with_reducible refine Below.alloc ?_ ?_ _); rotate_left; focus (((try dsimp only); repeat (first | omega | simp only [World.size_alloc, World.size_setCell, World.size_drew] | (with_reducible refine le_ext_of ?_) | (with_reducible refine le_ext_add ?_))); done)) | ((with_reducible refine Below.setCell ?_ ?_ _); rotate_left; focus (((try dsimp only); repeat (first | omega | simp only [World.size_alloc, World.size_setCell, World.size_drew] | (with_reducible refine le_ext_of ?_) | (with_reducible refine le_ext_add ?_))); done)) | (with_reducible refine Below.drew ?_)))), HB5.out.os.below (by (repeat (first | (with_reducible exact Below.refl _ _) | (with_reducible assumption) | ((with_reducible refine below_ext_trans ?_ ?_ _); rotate_left; focus (((try dsimp only); repeat (first | omega | simp only [World.size_alloc, World.size_setCell, World.size_drew] | (with_reducible refine le_ext_of ?_) | (with_reducible refine le_ext_add ?_))); done)) | ((with_reducible refine Below.alloc ?_ ?_ _); rotate_left; focus (((try dsimp only); repeat (first | omega | simp only [World.size_alloc, World.size_setCell, World.size_drew] | (with_reducible refine le_ext_of ?_) | (with_reducible refine le_ext_add ?_))); done)) | ((with_reducible refine Below.setCell ?_ ?_ _); rotate_left; focus (((try dsimp only); repeat (first | omega | simp only [World.size_alloc, World.size_setCell, World.size_drew] | (with_reducible refine le_ext_of ?_) | (with_reducible refine le_ext_add ?_))); done)) | (with_reducible refine Below.drew ?_)))), HB5.out.ss.below (by (repeat (first | (with_reducible exact Below.refl _ _) | (with_reducible assumption) | ((with_reducible refine below_ext_trans ?_ ?_ _); rotate_left; focus (((try dsimp only); repeat (first | omega | simp only [World.size_alloc, World.size_setCell, World.size_drew] | (with_reducible refine le_ext_of ?_) | (with_reducible refine le_ext_add ?_))); done)) | ((with_reducible refine Below.alloc ?_ ?_ _); rotate_left; focus (((try dsimp only); repeat (first | omega | simp only [World.size_alloc, World.size_setCell, World.size_drew] | (with_reducible refine le_ext_of ?_) | (with_reducible refine le_ext_add ?_))); done)) | ((with_reducible refine Below.setCell ?_ ?_ _); rotate_left; focus (((try dsimp only); repeat (first | omega | simp only [World.size_alloc, World.size_setCell, World.size_drew] | (with_reducible refine le_ext_of ?_) | (with_reducible refine le_ext_add ?_))); done)) | (with_reducible refine Below.drew ?_))))⟩) HX.out (HN5.out.below (by (repeat (first | (with_reducible exact Below.refl _ _) | (with_reducible assumption) | ((with_reducible refine below_ext_trans ?_ ?_ _); rotate_left; focus (((try dsimp only); repeat (first | omega | simp only [World.size_alloc, World.size_setCell, World.size_drew] | (with_reducible refine le_ext_of ?_) | (with_reducible refine le_ext_add ?_))); done)) | ((with_reducible refine Below.alloc ?_ ?_ _); rotate_left; focus (((try dsimp only); repeat (first | omega | simp only [World.size_alloc, World.size_setCell, World.size_drew] | (with_reducible refine le_ext_of ?_) | (with_reducible refine le_ext_add ?_))); done)) | ((with_reducible refine Below.setCell ?_ ?_ _); rotate_left; focus (((try dsimp only); repeat (first | omega | simp only [World.size_alloc, World.size_setCell, World.size_drew] | (with_reducible refine le_ext_of ?_) | (with_reducible refine le_ext_add ?_))); done)) | (with_reducible refine Below.drew ?_))))) HS.out EST.out HT.out HNT.out rfl (by simp [knownBk]) rfl rfl).mono ?_; rintro e w1 ⟨pt, ct, rfl, hIt, y6, rfl⟩; (try simp only [ext_ext] at hIt); have HIT := Lib.hid hIt; clear hIt)
          have hB6 : Below W5.heap.size W5 (ext W5 y6) := below_ext _ _
          generalize ext W5 y6 = W6 at *
          clear d0 d1 d2 d3 x0 x1 x2 x3 kl xl
          have kb6 := KB5.out.bel hB6
          have HB6 := Lib.hid (HB5.out.below hB6)
          have HN6 := Lib.hid (HN5.out.below hB6)
          have HX6 := Lib.hid hB6
          have d0 := kb6.cell 0
          have d1 := kb6.cell 1
          have d2 := kb6.cell 2
          have d3 := kb6.cell 3
          simp only [List.size_toArray, List.length_cons, List.length_nil, Nat.reduceAdd, Nat.reduceLT, getElem?_pos, List.getElem_toArray, List.getElem_cons_zero, List.getElem_cons_succ] at d0 d1 d2 d3
          have kl := kb6.lt
          have KB6 := Lib.hid kb6
          clear hB6 kb6 KB5 KX5 KN5 HS5 HB5 HN5
          go_upto_region 12 with (go_at_call 29; refine (Hangs_len' (some ⟨bb1, o1, none⟩) po ps cb co cs _ _ _ _ b j st s L nl _ (HB6.out.below (by (repeat (first | (with_reducible exact Below.refl _ _) | (with_reducible assumption) | ((with_reducible refine below_ext_trans ?_ ?_ _); rotate_left; focus (((try dsimp only); repeat (first | omega | simp only [World.size_alloc, World.size_setCell, World.size_drew] | (with_reducible refine le_ext_of ?_) | (with_reducible refine le_ext_add ?_))); done)) | ((with_reducible refine Below.alloc ?_ ?_ _); rotate_left; focus (((try dsimp only); repeat (first | omega | simp only [World.size_alloc, World.size_setCell, World.size_drew] | (with_reducible refine le_ext_of ?_) | (with_reducible refine le_ext_add ?_))); done)) | ((with_reducible refine Below.setCell ?_ ?_ _); rotate_left; focus (((try dsimp only); repeat (first | omega | simp only [World.size_alloc, World.size_setCell, World.size_drew] | (with_reducible refine le_ext_of ?_) | (with_reducible refine le_ext_add ?_))); done)) | (with_reducible refine Below.drew ?_))))) HV.out (HN6.out.below (by (repeat (first | (with_reducible exact Below.refl _ _) | (with_reducible assumption) | ((with_reducible refine below_ext_trans ?_ ?_ _); rotate_left; focus (((try dsimp only); repeat (first | omega | simp only [World.size_alloc, World.size_setCell, World.size_drew] | (with_reducible refine le_ext_of ?_) | (with_reducible refine le_ext_add ?_))); done)) | ((with_reducible refine Below.alloc ?_ ?_ _); rotate_left; focus (((try dsimp only); repeat (first | omega | simp only [World.size_alloc, World.size_setCell, World.size_drew] | (with_reducible refine le_ext_of ?_) | (with_reducible refine le_ext_add ?_))); done)) | ((with_reducible refine Below.setCell ?_ ?_ _); rotate_left; focus (((try dsimp only); repeat (first | omega | simp only [World.size_alloc, World.size_setCell, World.size_drew] | (with_reducible refine le_ext_of ?_) | (with_reducible refine le_ext_add ?_))); done)) | (with_reducible refine Below.drew ?_))))) HS.out EST.out HL.out HNL.out rfl rfl rfl rfl).mono ?_; rintro e w1 ⟨pl, cl, rfl, hIl, y7, rfl⟩; (try simp only [ext_ext] at hIl); have HIL := Lib.hid hIl; clear hIl)
          have hB7 : Below W6.heap.size W6 (ext W6 y7) := below_ext _ _
          generalize ext W6 y7 = W7 at *
          clear d0 d1 d2 d3 kl
          have kb7 := KB6.out.bel hB7
          have HIT7 := Lib.hid (HIT.out.below hB7)
          have HX7 := Lib.hid (HB45.out.trans ((HX6.out.trans (hB7.mono HX6.out.size)).mono HB45.out.size))
          have d0 := kb7.cell 0
          have d1 := kb7.cell 1
          have d2 := kb7.cell 2
          have d3 := kb7.cell 3
          simp only [List.size_toArray, List.length_cons, List.length_nil, Nat.reduceAdd, Nat.reduceLT, getElem?_pos, List.getElem_toArray, List.getElem_cons_zero, List.getElem_cons_succ] at d0 d1 d2 d3
          have kl := kb7.lt
          clear hB7 kb7 KB6 HB6 HN6 HX6 HIT
          have HSA := Lib.hid (fun (W' : World) (h : Below W7.heap.size W7 W') => (Set_eq pt ct T nt W' HNT.out (HIT7.out.below h) HTL.out HTS.out))
          have HSB := Lib.hid (fun (W' : World) (h : Below W7.heap.size W7 W') => (Set_eq pl cl L nl W' HNL.out (HIL.out.below h) HLL.out HLS.out))
          rw [ET.out] at HSA
          rw [EL.out] at HSB
          go_wp2_with (first
            | (go_at_call 20; refine (Place_none pt ct T nt k _ (HIT7.out.below (by (repeat (first | (with_reducible exact Below.refl _ _) | (with_reducible assumption) | ((with_reducible refine below_ext_trans ?_ ?_ _); rotate_left; focus (((try dsimp only); repeat (first | omega | simp only [World.size_alloc, World.size_setCell, World.size_drew] | (with_reducible refine le_ext_of ?_) | (with_reducible refine le_ext_add ?_))); done)) | ((with_reducible refine Below.alloc ?_ ?_ _); rotate_left; focus (((try dsimp only); repeat (first | omega | simp only [World.size_alloc, World.size_setCell, World.size_drew] | (with_reducible refine le_ext_of ?_) | (with_reducible refine le_ext_add ?_))); done)) | ((with_reducible refine Below.setCell ?_ ?_ _); rotate_left; focus (((try dsimp only); repeat (first | omega | simp only [World.size_alloc, World.size_setCell, World.size_drew] | (with_reducible refine le_ext_of ?_) | (with_reducible refine le_ext_add ?_))); done)) | (with_reducible refine Below.drew ?_))))) HTL.out HKN.out HNT.out).mono ?_; rintro e w1 ⟨rfl, rfl⟩)
            | (go_at_call 27; go_loud (first
              | ((with_reducible refine (HSA.out _ ?_).mono ?_); (focus (repeat (first | (with_reducible exact Below.refl _ _) | (with_reducible assumption) | ((with_reducible refine below_ext_trans ?_ ?_ _); rotate_left; focus (((try dsimp only); repeat (first | omega | simp only [World.size_alloc, World.size_setCell, World.size_drew] | (with_reducible refine le_ext_of ?_) | (with_reducible refine le_ext_add ?_))); done)) | ((with_reducible refine Below.alloc ?_ ?_ _); rotate_left; focus (((try dsimp only); repeat (first | omega | simp only [World.size_alloc, World.size_setCell, World.size_drew] | (with_reducible refine le_ext_of ?_) | (with_reducible refine le_ext_add ?_))); done)) | ((with_reducible refine Below.setCell ?_ ?_ _); rotate_left; focus (((try dsimp only); repeat (first | omega | simp only [World.size_alloc, World.size_setCell, World.size_drew] | (with_reducible refine le_ext_of ?_) | (with_reducible refine le_ext_add ?_))); done)) | (with_reducible refine Below.drew ?_)))); rintro e w1 ⟨rfl, rfl⟩)
              | ((with_reducible refine (HSB.out _ ?_).mono ?_); (focus (repeat (first | (with_reducible exact Below.refl _ _) | (with_reducible assumption) | ((with_reducible refine below_ext_trans ?_ ?_ _); rotate_left; focus (((try dsimp only); repeat (first | omega | simp only [World.size_alloc, World.size_setCell, World.size_drew] | (with_reducible refine le_ext_of ?_) | (with_reducible refine le_ext_add ?_))); done)) | ((with_reducible refine Below.alloc ?_ ?_ _); rotate_left; focus (((try dsimp only); repeat (first | omega | simp only [World.size_alloc, World.size_setCell, World.size_drew] | (with_reducible refine le_ext_of ?_) | (with_reducible refine le_ext_add ?_))); done)) | ((with_reducible refine Below.setCell ?_ ?_ _); rotate_left; focus (((try dsimp only); repeat (first | omega | simp only [World.size_alloc, World.size_setCell, World.size_drew] | (with_reducible refine le_ext_of ?_) | (with_reducible refine le_ext_add ?_))); done)) | (with_reducible refine Below.drew ?_)))); rintro e w1 ⟨rfl, rfl⟩)))
            | (go_at_call 19; refine (Rises_ext pl cl L nl _ _ HNL.out (HIL.out.below (by (repeat (first | (with_reducible exact Below.refl _ _) | (with_reducible assumption) | ((with_reducible refine below_ext_trans ?_ ?_ _); rotate_left; focus (((try dsimp only); repeat (first | omega | simp only [World.size_alloc, World.size_setCell, World.size_drew] | (with_reducible refine le_ext_of ?_) | (with_reducible refine le_ext_add ?_))); done)) | ((with_reducible refine Below.alloc ?_ ?_ _); rotate_left; focus (((try dsimp only); repeat (first | omega | simp only [World.size_alloc, World.size_setCell, World.size_drew] | (with_reducible refine le_ext_of ?_) | (with_reducible refine le_ext_add ?_))); done)) | ((with_reducible refine Below.setCell ?_ ?_ _); rotate_left; focus (((try dsimp only); repeat (first | omega | simp only [World.size_alloc, World.size_setCell, World.size_drew] | (with_reducible refine le_ext_of ?_) | (with_reducible refine le_ext_add ?_))); done)) | (with_reducible refine Below.drew ?_))))) HLL.out (by omega) (by omega) HLR.out).mono ?_; rintro e w1 ⟨rfl, y8, rfl⟩))
          go_roundw
          case rel => exact ⟨j + 1, by omega, by go_num, by refine ext_of (HX7.out.trans (Below.mono ?_ HX7.out.size)); (repeat (first | (with_reducible exact Below.refl _ _) | (with_reducible assumption) | ((with_reducible refine below_ext_trans ?_ ?_ _); rotate_left; focus (((try dsimp only); repeat (first | omega | simp only [World.size_alloc, World.size_setCell, World.size_drew] | (with_reducible refine le_ext_of ?_) | (with_reducible refine le_ext_add ?_))); done)) | ((with_reducible refine Below.alloc ?_ ?_ _); rotate_left; focus (((try dsimp only); repeat (first | omega | simp only [World.size_alloc, World.size_setCell, World.size_drew] | (with_reducible refine le_ext_of ?_) | (with_reducible refine le_ext_add ?_))); done)) | ((with_reducible refine Below.setCell ?_ ?_ _); rotate_left; focus (((try dsimp only); repeat (first | omega | simp only [World.size_alloc, World.size_setCell, World.size_drew] | (with_reducible refine le_ext_of ?_) | (with_reducible refine le_ext_add ?_))); done)) | (with_reducible refine Below.drew ?_)))⟩
          case measure => simp [intOf]; omega
        · obtain rfl : j = b.ss.length := by omega
          go_wp2_with fail
          go_meet
          exact ⟨knownBk b k v, rfl, known_more HBK.out HVB.out.1 HVB.out.2, rfl, HX.out, ⟨some ⟨g2, 0, none⟩, c2, ps, cs, KX5.out, HS5.out, HB5.out.ss, HNE.out, HB.out.ss.fresh (by have := HG.out; omega)⟩, HW5.out, KB5.out, KN5.out⟩
  case rest =>
    clear KB1 KN1 KX1 HB1 HN1 HW1 kl nl xl d0 d1 d2 d3 m0 m1 m2 m3
    obtain ⟨X, hXss, hM, hXn, hXv, ⟨p1, c1, p3, c3, kx, hsp, hsh, ho1, ho3⟩, hbel, kb, kn⟩ := hcut
    have d0 := kb.cell 0
    have d1 := kb.cell 1
    have d2 := kb.cell 2
    have d3 := kb.cell 3
    have m0 := kn.cell 0
    have m1 := kn.cell 1
    have m2 := kn.cell 2
    have m3 := kn.cell 3
    simp only [List.size_toArray, List.length_cons, List.length_nil, Nat.reduceAdd, Nat.reduceLT, getElem?_pos, List.getElem_toArray, List.getElem_cons_zero, List.getElem_cons_succ] at d0 d1 d2 d3 m0 m1 m2 m3
    have kl := kb.lt
    have nl := kn.lt
    have xl := kx.lt
    have HM := Lib.hid hM
    have HXV := Lib.hid hXv
    have E0 := Lib.hid hXn
    have E1 := Lib.hid hM.bl
    have E2 := Lib.hid (show X.os.length = b.os.length by rw [hM.os])
    have E3 := Lib.hid hM.sl
    have HSP1 := Lib.hid hsp
    have HSH1 := Lib.hid hsh
    have HRW1 := Lib.hid (show RowsAt wc po X.os by rw [hM.os]; exact (HB.out.below hbel).os)
    have HO1 := Lib.hid ho1
    have HO3 := Lib.hid ho3
    have HW1 := Lib.hid hbel
    have HB1 := Lib.hid (HB.out.below hbel)
    have HN1 := Lib.hid (HN.out.below hbel)
    have KB1 := Lib.hid kb
    have KN1 := Lib.hid kn
    have KX1 := Lib.hid kx
    clear hM hXn hXv kx hsp hsh ho1 ho3 hbel kb kn
    have HXSS := Lib.hid hXss
    clear hXss
    go_upto_if 100 with fail
    go_cut [12] (fun s12 wx => ∃ X : Bk, More X b ∧ X.n = b.n ∧ bookB X = true ∧ KnownAt b po co g wx X ∧ Below w.heap.size w wx ∧ Blk wx w.heap.size 26 #[.int .i64 b.n, .slice pb b.bs.length cb, .slice po b.os.length co, .slice ps b.ss.length cs] ∧ Blk wx (w.heap.size + 1) 61 #[.int .i64 n0, .int .i64 n1, .int .i64 n2, .int .i64 n3])
    case first =>
      by_cases hss : b.ss.length = 0
      · have hl0 : (b.ss.length : Int) = 0 := by omega
        go_wp2_with fail
        go_meet
        exact ⟨X, HM.out, E0.out, HXV.out, ⟨p1, c1, p3, c3, KX1.out, HSP1.out, HSH1.out, HO1.out, HO3.out⟩, HW1.out, KB1.out, KN1.out⟩
      · have hl0 : (0 : Int) < (b.ss.length : Int) := by omega
        have HL1 := Lib.hid (show 1 ≤ (b.ss.length : Int) ∧ (b.ss.length : Int) ≤ 1000000 by omega)
        obtain ⟨k, ek⟩ := Int.eq_ofNat_of_zero_le (Int.emod_nonneg n2 (show (b.ss.length : Int) ≠ 0 by omega))
        have hkl : k < b.ss.length := by have := Int.emod_lt_of_pos n2 hl0; omega
        obtain ⟨s, hbk⟩ := get_some b.ss k hkl
        obtain ⟨-, -, ms⟩ := bookB_shot HV.out hbk
        unfold Mom at ms
        obtain ⟨v, ev⟩ : ∃ v, someI s.lo s.hi n3 = v := ⟨_, rfl⟩
        have hvb := someI_bd (n := n3) (show s.lo ≤ s.hi by omega)
        rw [ev] at hvb
        have HXS := Lib.hid (show X.ss[k]? = some s by rw [HXSS.out]; exact hbk)
        have EK := Lib.hid ek
        have EV := Lib.hid ev
        have HVX := Lib.hid hvb
        have SB := Lib.hid (show 0 ≤ s.lo ∧ s.lo ≤ s.hi ∧ s.hi ≤ 100000 by omega)
        obtain ⟨bb1, o1, hps, hb1, -, -, qlo, qhi⟩ := HB1.out.ss k _ hbk
        dsimp only at hps
        subst hps
        have HA1 := Lib.hid hb1
        have HLO1 := Lib.hid qlo
        have HHI1 := Lib.hid qhi
        clear hbk ek ev hvb ms qlo qhi hb1
        go_upto_region 16 with (go_at_call 14; refine (Wheel_eq n2 _ k _ HL1.out EK.out).mono ?_; rintro e w1 ⟨rfl, y2, rfl⟩)
        have hB2 : Below wc.heap.size wc (ext wc y2) := below_ext _ _
        generalize ext wc y2 = W2 at *
        have KB2 := Lib.hid (KB1.out.bel hB2)
        have KN2 := Lib.hid (KN1.out.bel hB2)
        have KX2 := Lib.hid (KX1.out.bel hB2)
        have HB2 := Lib.hid (HB1.out.below hB2)
        have HW2 := Lib.hid (HW1.out.trans (hB2.mono HW1.out.size))
        have HSP2 := Lib.hid (HSP1.out.below hB2)
        have HSH2 := Lib.hid (HSH1.out.below hB2)
        have HRW2 := Lib.hid (HRW1.out.below hB2)
        have HA2 := Lib.hid (Nat.lt_of_lt_of_le HA1.out hB2.size)
        have HLO2 := Lib.hid ((hB2.cell (p := ⟨bb1, o1 + k * 4 + 2, none⟩) HA1.out).trans HLO1.out)
        have HHI2 := Lib.hid ((hB2.cell (p := ⟨bb1, o1 + k * 4 + 3, none⟩) HA1.out).trans HHI1.out)
        clear hB2 KB1 KN1 KX1 HB1 HW1 HSP1 HSH1 HRW1 HA1 HLO1 HHI1 d0 d1 d2 d3 m0 m1 m2 m3 kl nl xl
        refine wp_region_flow_back 12 179 (onlyR (.agg #[.int .i64 b.n, .slice p1 b.bs.length c1, .slice po b.os.length co, .slice p3 b.ss.length c3]) (.slice (some ⟨bb1, o1, none⟩) b.ss.length cs) b.n b.bs.length b.os.length b.ss.length k p1 c1 po co w.heap.size (w.heap.size + 1) g bb1 (o1 + k * 4) s.lo s.hi n3 v (onlyBk X k v).ss) (by kernel_rfl) (by kernel_rfl) rfl (onlyR_kept _ _ _ _ _ _ _ _ _ _ _ _ _ _ _ _ _ _ _ _ _) ?_ ?_
        · intro i hin a W h1 h2 h3 h4' h5 KK hKK
          rcases (show i = 0 ∨ i = 1 ∨ i = 2 ∨ i = 3 ∨ i = 4 ∨ i = 5 ∨ i = 6 ∨ i = 7 ∨ i = 8 ∨ i = 9 ∨ i = 10 ∨ i = 11 by omega) with hi0 | hi0 | hi0 | hi0 | hi0 | hi0 | hi0 | hi0 | hi0 | hi0 | hi0 | hi0
          · subst hi0
            exact st_val rfl (wanted_none rfl) (run_book _ rfl (h3 5 (by kernel_rfl)) (KX2.out.bel h5)) (hKK _ _ rfl (Below.refl _ _))
          · subst hi0
            exact st_move rfl rfl (wanted_none rfl) (h3 12 (by kernel_rfl)) (hKK _ _ rfl (Below.refl _ _))
          · subst hi0
            exact st_val rfl (wanted_none rfl) (run_shots _ rfl (h3 2 (by kernel_rfl)) (Nat.lt_of_lt_of_le KB2.out.lt h5.size)) (hKK _ _ rfl (Below.refl _ _))
          · subst hi0
            exact st_val rfl (wanted_none rfl) (run_slice_shots _ rfl (h4' 2 (by kernel_rfl)) (Blk.cell (KB2.out.bel h5) 3)) (hKK _ _ rfl (Below.refl _ _))
          · subst hi0
            exact st_move rfl rfl (wanted_none rfl) (h3 12 (by kernel_rfl)) (hKK _ _ rfl (Below.refl _ _))
          · subst hi0
            exact st_val rfl (wanted_none rfl) (run_at_shot _ rfl (h4' 3 (by kernel_rfl)) (h4' 4 (by kernel_rfl)) hkl (Nat.lt_of_lt_of_le HA2.out h5.size)) (hKK _ _ rfl (Below.refl _ _))
          · subst hi0
            exact st_val rfl (wanted_none rfl) (run_when _ rfl (h4' 5 (by kernel_rfl)) (Nat.lt_of_lt_of_le HA2.out h5.size)) (hKK _ _ rfl (Below.refl _ _))
          · subst hi0
            exact st_val rfl (wanted_none rfl) (run_span_at _ rfl (h4' 6 (by kernel_rfl)) ((h5.cell (p := ⟨bb1, o1 + k * 4 + 2, none⟩) HA2.out).trans HLO2.out) ((h5.cell (p := ⟨bb1, o1 + k * 4 + 3, none⟩) HA2.out).trans HHI2.out)) (hKK _ _ rfl (Below.refl _ _))
          · subst hi0
            exact st_val rfl (wanted_none rfl) (run_n3 _ rfl (h3 3 (by kernel_rfl)) (Nat.lt_of_lt_of_le KN2.out.lt h5.size)) (hKK _ _ rfl (Below.refl _ _))
          · subst hi0
            exact st_val rfl (wanted_none rfl) (run_num _ rfl (h4' 8 (by kernel_rfl)) (Blk.cell (KN2.out.bel h5) 3)) (hKK _ _ rfl (Below.refl _ _))
          · subst hi0
            refine st_call rfl rfl (wanted_none rfl) (args2 (h4' 7 (by kernel_rfl)) (h4' 9 (by kernel_rfl))) (run_enter Tryd.func23 (by kernel_rfl) (by kernel_rfl) _) ?_
            refine (Some_eq' s.lo s.hi n3 v _ SB.out EV.out).mono ?_
            rintro e w1 ⟨rfl, y9, rfl⟩
            exact ⟨_, rfl, hKK _ _ rfl (below_ext _ _)⟩
          · subst hi0
            refine st_call rfl rfl (wanted_none rfl) (args3' (h4' 0 (by kernel_rfl)) (h4' 1 (by kernel_rfl)) (h4' 10 (by kernel_rfl))) (run_enter Tryd.func28 (by kernel_rfl) (by kernel_rfl) _) ?_
            refine (only_len p1 po p3 c1 co c3 _ _ _ _ X k v _ ⟨HSP2.out.below h5, HRW2.out.below h5, HSH2.out.below h5⟩ (by rw [E3.out]; exact hkl) (by rw [E3.out]; exact hs5) E0.out E1.out E2.out E3.out).mono ?_
            rintro e w1 ⟨g2, c2, rfl, hg2, hs2, y9, rfl⟩
            exact ⟨_, rfl, hKK _ _ ⟨g2, c2, rfl, by have := KX2.out.lt; have := h5.size; omega, hs2⟩ (below_ext _ _)⟩
        intro vs W3 hvs hB3
        have v0 : vs 0 = _ := hvs 0 (by omega)
        have v1 : vs 1 = _ := hvs 1 (by omega)
        have v2 : vs 2 = _ := hvs 2 (by omega)
        have v3 : vs 3 = _ := hvs 3 (by omega)
        have v4 : vs 4 = _ := hvs 4 (by omega)
        have v5 : vs 5 = _ := hvs 5 (by omega)
        have v6 : vs 6 = _ := hvs 6 (by omega)
        have v7 : vs 7 = _ := hvs 7 (by omega)
        have v8 : vs 8 = _ := hvs 8 (by omega)
        have v9 : vs 9 = _ := hvs 9 (by omega)
        have v10 : vs 10 = _ := hvs 10 (by omega)
        obtain ⟨g2, c2, v11, hg2, hs2⟩ := hvs 11 (by omega)
        simp only [putAll, v0, v1, v2, v3, v4, v5, v6, v7, v8, v9, v10, v11]
        clear v0 v1 v2 v3 v4 v5 v6 v7 v8 v9 v10 v11 hvs
        simp only [dstOf, Act.put, List.getElem?_toArray, List.getElem?_cons_zero, List.getElem?_cons_succ, Option.bind_some, Option.getD_some, List.setIfInBounds_toArray, List.set_cons_succ, List.set_cons_zero, List.drop_succ_cons, List.drop_zero]
        have kx3 := KX2.out.bel hB3
        have xl := kx3.lt
        have x0 := kx3.cell 0
        have x1 := kx3.cell 1
        have x2 := kx3.cell 2
        have x3 := kx3.cell 3
        have f0 := kx3.frozen 0
        have f1 := kx3.frozen 1
        have f2 := kx3.frozen 2
        have f3 := kx3.frozen 3
        simp only [List.size_toArray, List.length_cons, List.length_nil, Nat.reduceAdd, Nat.reduceLT, getElem?_pos, List.getElem_toArray, List.getElem_cons_zero, List.getElem_cons_succ] at x0 x1 x2 x3
        have HB3 := Lib.hid hB3
        have HS2 := Lib.hid hs2
        clear hB3 kx3 hs2
        go_wp2_with fail
        have hbel := HW2.out.trans (HB3.out.mono HW2.out.size)
        have hgg := HG.out
        have hB4 : Below w.heap.size w (put4 W3 g (.int .i64 b.n) (.slice p1 b.bs.length c1) (.slice po b.os.length co) (.slice (some ⟨g2, 0, none⟩) b.ss.length c2)) := by
          show Below w.heap.size w ((((W3.setCell ⟨g, 0, none⟩ _).setCell ⟨g, 1, none⟩ _).setCell ⟨g, 2, none⟩ _).setCell ⟨g, 3, none⟩ _)
          (repeat (first | (with_reducible exact Below.refl _ _) | (with_reducible assumption) | ((with_reducible refine below_ext_trans ?_ ?_ _); rotate_left; focus (((try dsimp only); repeat (first | omega | simp only [World.size_alloc, World.size_setCell, World.size_drew] | (with_reducible refine le_ext_of ?_) | (with_reducible refine le_ext_add ?_))); done)) | ((with_reducible refine Below.alloc ?_ ?_ _); rotate_left; focus (((try dsimp only); repeat (first | omega | simp only [World.size_alloc, World.size_setCell, World.size_drew] | (with_reducible refine le_ext_of ?_) | (with_reducible refine le_ext_add ?_))); done)) | ((with_reducible refine Below.setCell ?_ ?_ _); rotate_left; focus (((try dsimp only); repeat (first | omega | simp only [World.size_alloc, World.size_setCell, World.size_drew] | (with_reducible refine le_ext_of ?_) | (with_reducible refine le_ext_add ?_))); done)) | (with_reducible refine Below.drew ?_)))
        have hne2 : ∀ a, (some ⟨g2, 0, none⟩ : Option Addr) = some a → a.block = g → (onlyBk X k v).ss = [] := fun a ha hag => by
          cases ha
          dsimp only at hag
          omega
        go_meet
        exact ⟨onlyBk X k v, (only_more HXS.out HVX.out.1 HVX.out.2).trans HM.out, E0.out, only_ok HXV.out HXS.out HVX.out.1 HVX.out.2, ⟨p1, c1, some ⟨g2, 0, none⟩, c2, put4_at (KX2.out.bel HB3.out) _ _ _ _, ((((HSP2.out.below HB3.out).off HO1.out _ _).off HO1.out _ _).off HO1.out _ _).off HO1.out _ _, (((HS2.out.off hne2 _ _).off hne2 _ _).off hne2 _ _).off hne2 _ _, HO1.out, hne2⟩, hB4, put4_off (KB2.out.bel HB3.out) (by omega) _ _ _ _, put4_off (KN2.out.bel HB3.out) (by omega) _ _ _ _⟩
    case rest =>
      clear KB1 KN1 KX1 HB1 HN1 HW1 HSP1 HSH1 HRW1 HO1 HO3 E0 E1 E2 E3 HM HXV HXSS kl nl xl d0 d1 d2 d3 m0 m1 m2 m3
      obtain ⟨X, hM, hXn, hXv, ⟨p1, c1, p3, c3, kx, hsp, hsh, ho1, ho3⟩, hbel, kb, kn⟩ := hcut
      have d0 := kb.cell 0
      have d1 := kb.cell 1
      have d2 := kb.cell 2
      have d3 := kb.cell 3
      have m0 := kn.cell 0
      have m1 := kn.cell 1
      have m2 := kn.cell 2
      have m3 := kn.cell 3
      simp only [List.size_toArray, List.length_cons, List.length_nil, Nat.reduceAdd, Nat.reduceLT, getElem?_pos, List.getElem_toArray, List.getElem_cons_zero, List.getElem_cons_succ] at d0 d1 d2 d3 m0 m1 m2 m3
      have kl := kb.lt
      have nl := kn.lt
      have xl := kx.lt
      have HM := Lib.hid hM
      have HXV := Lib.hid hXv
      have E0 := Lib.hid hXn
      have E1 := Lib.hid hM.bl
      have E2 := Lib.hid (show X.os.length = b.os.length by rw [hM.os])
      have E3 := Lib.hid hM.sl
      have HSP1 := Lib.hid hsp
      have HSH1 := Lib.hid hsh
      have HRW1 := Lib.hid (show RowsAt wc po X.os by rw [hM.os]; exact (HB.out.below hbel).os)
      have HO1 := Lib.hid ho1
      have HO3 := Lib.hid ho3
      have HW1 := Lib.hid hbel
      have HB1 := Lib.hid (HB.out.below hbel)
      have HN1 := Lib.hid (HN.out.below hbel)
      have KB1 := Lib.hid kb
      have KN1 := Lib.hid kn
      have KX1 := Lib.hid kx
      clear hM hXn hXv kx hsp hsh ho1 ho3 hbel kb kn
      clear m0 m1 m2 m3 nl
      go_wp2_with fail
      go_loopw [13] (fun i wr => ∃ j : Nat, j ≤ b.ss.length ∧ i = .int .i64 j ∧ ∃ x, wr = ext wc x) (fun i _ => b.ss.length - (intOf i).toNat)
      case atStart => exact ⟨0, by omega, rfl, ext_of (Below.refl _ _)⟩
      case round =>
        obtain ⟨j, hj, rfl, y5, rfl⟩ := hrel
        have hB5 : Below wc.heap.size wc (ext wc y5) := below_ext wc y5
        generalize hW5 : ext wc y5 = W5 at *
        clear hW5
        have HB45 := Lib.hid hB5
        have hX5 := HW1.out.trans (hB5.mono HW1.out.size)
        have HW5 := Lib.hid hX5
        have HB5 := Lib.hid (HB.out.below hX5)
        have HN5 := Lib.hid (HN.out.below hX5)
        have HSP5 := Lib.hid (HSP1.out.below hB5)
        have HSH5 := Lib.hid (HSH1.out.below hB5)
        have HRW5 := Lib.hid (HRW1.out.below hB5)
        have kx5 := KX1.out.bel hB5
        have kb5 := KB1.out.bel hB5
        have KX5 := Lib.hid kx5
        have KB5 := Lib.hid kb5
        clear d0 d1 d2 d3 kl xl
        have d0 := kb5.cell 0
        have d1 := kb5.cell 1
        have d2 := kb5.cell 2
        have d3 := kb5.cell 3
        have x0 := kx5.cell 0
        have x1 := kx5.cell 1
        have x2 := kx5.cell 2
        have x3 := kx5.cell 3
        simp only [List.size_toArray, List.length_cons, List.length_nil, Nat.reduceAdd, Nat.reduceLT, getElem?_pos, List.getElem_toArray, List.getElem_cons_zero, List.getElem_cons_succ] at d0 d1 d2 d3 x0 x1 x2 x3
        have kl := kb5.lt
        have xl := kx5.lt
        clear hB5 hX5 kx5 kb5
        by_cases hlt : j < b.ss.length
        · obtain ⟨s, hs⟩ := get_some b.ss j hlt
          obtain ⟨⟨g0, -⟩, -, -⟩ := bookB_shot HV.out hs
          obtain ⟨st, est⟩ := Int.eq_ofNat_of_zero_le g0
          obtain ⟨t, ht, te, -⟩ := HM.out.ss j s hs
          obtain ⟨K, hK⟩ : ∃ K, kindOf (fun u => ownf b.os st u == s.co) (seg (cnt (lateL b.bs) s.lo) (cnt (soonL b.bs) s.hi)) = K := ⟨_, rfl⟩
          obtain ⟨K', hK'⟩ : ∃ K', kindOf (fun u => ownf X.os st u == t.co) (seg (cnt (lateL X.bs) t.lo) (cnt (soonL X.bs) t.hi)) = K' := ⟨_, rfl⟩
          have HKK := Lib.hid (HM.out.kind HV.out HXV.out hs ht hK hK')
          have HK := Lib.hid hK
          have HK' := Lib.hid hK'
          have HS := Lib.hid hs
          have HT := Lib.hid ht
          have EST := Lib.hid est
          have ETT := Lib.hid (te.trans est)
          have j0 : (0 : Int) ≤ (j : Int) := by omega
          have j1 : (j : Int) < (b.ss.length : Int) := by omega
          clear hs g0 ht te est hK hK'
          go_upto_region 21 with (go_at_call 22; refine (Fair_len' pb po ps cb co cs _ _ _ _ b j st s K _ (HB5.out.below (by (repeat (first | (with_reducible exact Below.refl _ _) | (with_reducible assumption) | ((with_reducible refine below_ext_trans ?_ ?_ _); rotate_left; focus (((try dsimp only); repeat (first | omega | simp only [World.size_alloc, World.size_setCell, World.size_drew] | (with_reducible refine le_ext_of ?_) | (with_reducible refine le_ext_add ?_))); done)) | ((with_reducible refine Below.alloc ?_ ?_ _); rotate_left; focus (((try dsimp only); repeat (first | omega | simp only [World.size_alloc, World.size_setCell, World.size_drew] | (with_reducible refine le_ext_of ?_) | (with_reducible refine le_ext_add ?_))); done)) | ((with_reducible refine Below.setCell ?_ ?_ _); rotate_left; focus (((try dsimp only); repeat (first | omega | simp only [World.size_alloc, World.size_setCell, World.size_drew] | (with_reducible refine le_ext_of ?_) | (with_reducible refine le_ext_add ?_))); done)) | (with_reducible refine Below.drew ?_))))) HV.out (HN5.out.below (by (repeat (first | (with_reducible exact Below.refl _ _) | (with_reducible assumption) | ((with_reducible refine below_ext_trans ?_ ?_ _); rotate_left; focus (((try dsimp only); repeat (first | omega | simp only [World.size_alloc, World.size_setCell, World.size_drew] | (with_reducible refine le_ext_of ?_) | (with_reducible refine le_ext_add ?_))); done)) | ((with_reducible refine Below.alloc ?_ ?_ _); rotate_left; focus (((try dsimp only); repeat (first | omega | simp only [World.size_alloc, World.size_setCell, World.size_drew] | (with_reducible refine le_ext_of ?_) | (with_reducible refine le_ext_add ?_))); done)) | ((with_reducible refine Below.setCell ?_ ?_ _); rotate_left; focus (((try dsimp only); repeat (first | omega | simp only [World.size_alloc, World.size_setCell, World.size_drew] | (with_reducible refine le_ext_of ?_) | (with_reducible refine le_ext_add ?_))); done)) | (with_reducible refine Below.drew ?_))))) HS.out EST.out HK.out rfl rfl rfl rfl).mono ?_; rintro e w1 ⟨rfl, y6, rfl⟩)
          have hB6 : Below W5.heap.size W5 (ext W5 y6) := below_ext _ _
          generalize ext W5 y6 = W6 at *
          clear d0 d1 d2 d3 x0 x1 x2 x3 kl xl
          have kx6 := KX5.out.bel hB6
          have HN6 := Lib.hid (HN5.out.below hB6)
          have HSP6 := Lib.hid (HSP5.out.below hB6)
          have HSH6 := Lib.hid (HSH5.out.below hB6)
          have HRW6 := Lib.hid (HRW5.out.below hB6)
          have HX6 := Lib.hid (HB45.out.trans (hB6.mono HB45.out.size))
          have x0 := kx6.cell 0
          have x1 := kx6.cell 1
          have x2 := kx6.cell 2
          have x3 := kx6.cell 3
          simp only [List.size_toArray, List.length_cons, List.length_nil, Nat.reduceAdd, Nat.reduceLT, getElem?_pos, List.getElem_toArray, List.getElem_cons_zero, List.getElem_cons_succ] at x0 x1 x2 x3
          have xl := kx6.lt
          clear hB6 kx6 KB5 KX5 HSP5 HSH5 HRW5 HB5 HN5
          go_upto_region 22 with (go_at_call 22; refine (Fair_len' p1 po p3 c1 co c3 _ _ _ _ X j st t K' _ (⟨HSP6.out.below (by (repeat (first | (with_reducible exact Below.refl _ _) | (with_reducible assumption) | ((with_reducible refine below_ext_trans ?_ ?_ _); rotate_left; focus (((try dsimp only); repeat (first | omega | simp only [World.size_alloc, World.size_setCell, World.size_drew] | (with_reducible refine le_ext_of ?_) | (with_reducible refine le_ext_add ?_))); done)) | ((with_reducible refine Below.alloc ?_ ?_ _); rotate_left; focus (((try dsimp only); repeat (first | omega | simp only [World.size_alloc, World.size_setCell, World.size_drew] | (with_reducible refine le_ext_of ?_) | (with_reducible refine le_ext_add ?_))); done)) | ((with_reducible refine Below.setCell ?_ ?_ _); rotate_left; focus (((try dsimp only); repeat (first | omega | simp only [World.size_alloc, World.size_setCell, World.size_drew] | (with_reducible refine le_ext_of ?_) | (with_reducible refine le_ext_add ?_))); done)) | (with_reducible refine Below.drew ?_)))), HRW6.out.below (by (repeat (first | (with_reducible exact Below.refl _ _) | (with_reducible assumption) | ((with_reducible refine below_ext_trans ?_ ?_ _); rotate_left; focus (((try dsimp only); repeat (first | omega | simp only [World.size_alloc, World.size_setCell, World.size_drew] | (with_reducible refine le_ext_of ?_) | (with_reducible refine le_ext_add ?_))); done)) | ((with_reducible refine Below.alloc ?_ ?_ _); rotate_left; focus (((try dsimp only); repeat (first | omega | simp only [World.size_alloc, World.size_setCell, World.size_drew] | (with_reducible refine le_ext_of ?_) | (with_reducible refine le_ext_add ?_))); done)) | ((with_reducible refine Below.setCell ?_ ?_ _); rotate_left; focus (((try dsimp only); repeat (first | omega | simp only [World.size_alloc, World.size_setCell, World.size_drew] | (with_reducible refine le_ext_of ?_) | (with_reducible refine le_ext_add ?_))); done)) | (with_reducible refine Below.drew ?_)))), HSH6.out.below (by (repeat (first | (with_reducible exact Below.refl _ _) | (with_reducible assumption) | ((with_reducible refine below_ext_trans ?_ ?_ _); rotate_left; focus (((try dsimp only); repeat (first | omega | simp only [World.size_alloc, World.size_setCell, World.size_drew] | (with_reducible refine le_ext_of ?_) | (with_reducible refine le_ext_add ?_))); done)) | ((with_reducible refine Below.alloc ?_ ?_ _); rotate_left; focus (((try dsimp only); repeat (first | omega | simp only [World.size_alloc, World.size_setCell, World.size_drew] | (with_reducible refine le_ext_of ?_) | (with_reducible refine le_ext_add ?_))); done)) | ((with_reducible refine Below.setCell ?_ ?_ _); rotate_left; focus (((try dsimp only); repeat (first | omega | simp only [World.size_alloc, World.size_setCell, World.size_drew] | (with_reducible refine le_ext_of ?_) | (with_reducible refine le_ext_add ?_))); done)) | (with_reducible refine Below.drew ?_))))⟩) HXV.out (HN6.out.below (by (repeat (first | (with_reducible exact Below.refl _ _) | (with_reducible assumption) | ((with_reducible refine below_ext_trans ?_ ?_ _); rotate_left; focus (((try dsimp only); repeat (first | omega | simp only [World.size_alloc, World.size_setCell, World.size_drew] | (with_reducible refine le_ext_of ?_) | (with_reducible refine le_ext_add ?_))); done)) | ((with_reducible refine Below.alloc ?_ ?_ _); rotate_left; focus (((try dsimp only); repeat (first | omega | simp only [World.size_alloc, World.size_setCell, World.size_drew] | (with_reducible refine le_ext_of ?_) | (with_reducible refine le_ext_add ?_))); done)) | ((with_reducible refine Below.setCell ?_ ?_ _); rotate_left; focus (((try dsimp only); repeat (first | omega | simp only [World.size_alloc, World.size_setCell, World.size_drew] | (with_reducible refine le_ext_of ?_) | (with_reducible refine le_ext_add ?_))); done)) | (with_reducible refine Below.drew ?_))))) HT.out ETT.out HK'.out E0.out E1.out E2.out E3.out).mono ?_; rintro e w1 ⟨rfl, y7, rfl⟩)
          by_cases hK1 : K = 1
          · subst hK1
            go_wp2_with fail
            go_roundw
            case rel => exact ⟨j + 1, by omega, by go_num, by refine ext_of (HX6.out.trans (Below.mono ?_ HX6.out.size)); (repeat (first | (with_reducible exact Below.refl _ _) | (with_reducible assumption) | ((with_reducible refine below_ext_trans ?_ ?_ _); rotate_left; focus (((try dsimp only); repeat (first | omega | simp only [World.size_alloc, World.size_setCell, World.size_drew] | (with_reducible refine le_ext_of ?_) | (with_reducible refine le_ext_add ?_))); done)) | ((with_reducible refine Below.alloc ?_ ?_ _); rotate_left; focus (((try dsimp only); repeat (first | omega | simp only [World.size_alloc, World.size_setCell, World.size_drew] | (with_reducible refine le_ext_of ?_) | (with_reducible refine le_ext_add ?_))); done)) | ((with_reducible refine Below.setCell ?_ ?_ _); rotate_left; focus (((try dsimp only); repeat (first | omega | simp only [World.size_alloc, World.size_setCell, World.size_drew] | (with_reducible refine le_ext_of ?_) | (with_reducible refine le_ext_add ?_))); done)) | (with_reducible refine Below.drew ?_)))⟩
            case measure => simp [intOf]; omega
          · obtain rfl : K' = K := HKK.out hK1
            have hK2 : (K' == 1) = false := by simpa using hK1
            have hK3 : (K' != 1) = true := by simpa using hK1
            go_wp2_with fail
            go_roundw
            case rel => exact ⟨j + 1, by omega, by go_num, by refine ext_of (HX6.out.trans (Below.mono ?_ HX6.out.size)); (repeat (first | (with_reducible exact Below.refl _ _) | (with_reducible assumption) | ((with_reducible refine below_ext_trans ?_ ?_ _); rotate_left; focus (((try dsimp only); repeat (first | omega | simp only [World.size_alloc, World.size_setCell, World.size_drew] | (with_reducible refine le_ext_of ?_) | (with_reducible refine le_ext_add ?_))); done)) | ((with_reducible refine Below.alloc ?_ ?_ _); rotate_left; focus (((try dsimp only); repeat (first | omega | simp only [World.size_alloc, World.size_setCell, World.size_drew] | (with_reducible refine le_ext_of ?_) | (with_reducible refine le_ext_add ?_))); done)) | ((with_reducible refine Below.setCell ?_ ?_ _); rotate_left; focus (((try dsimp only); repeat (first | omega | simp only [World.size_alloc, World.size_setCell, World.size_drew] | (with_reducible refine le_ext_of ?_) | (with_reducible refine le_ext_add ?_))); done)) | (with_reducible refine Below.drew ?_)))⟩
            case measure => simp [intOf]; omega
        · obtain rfl : j = b.ss.length := by omega
          obtain ⟨nv, hnv⟩ : ∃ nv, (wrongL b).length = nv := ⟨_, rfl⟩
          obtain ⟨nw, hnw⟩ : ∃ nw, (wrongL X).length = nw := ⟨_, rfl⟩
          have hvw : (nv : Int) ≤ (nw : Int) := by have := HM.out.wrong HV.out HXV.out; omega
          have HNV := Lib.hid hnv
          have HNW := Lib.hid hnw
          clear hnv hnw
          go_upto_region 25 with (go_at_call 21; refine (Wrong_len pb po ps cb co cs _ _ _ _ b nv _ (HB5.out.below (by (repeat (first | (with_reducible exact Below.refl _ _) | (with_reducible assumption) | ((with_reducible refine below_ext_trans ?_ ?_ _); rotate_left; focus (((try dsimp only); repeat (first | omega | simp only [World.size_alloc, World.size_setCell, World.size_drew] | (with_reducible refine le_ext_of ?_) | (with_reducible refine le_ext_add ?_))); done)) | ((with_reducible refine Below.alloc ?_ ?_ _); rotate_left; focus (((try dsimp only); repeat (first | omega | simp only [World.size_alloc, World.size_setCell, World.size_drew] | (with_reducible refine le_ext_of ?_) | (with_reducible refine le_ext_add ?_))); done)) | ((with_reducible refine Below.setCell ?_ ?_ _); rotate_left; focus (((try dsimp only); repeat (first | omega | simp only [World.size_alloc, World.size_setCell, World.size_drew] | (with_reducible refine le_ext_of ?_) | (with_reducible refine le_ext_add ?_))); done)) | (with_reducible refine Below.drew ?_))))) HV.out (HN5.out.below (by (repeat (first | (with_reducible exact Below.refl _ _) | (with_reducible assumption) | ((with_reducible refine below_ext_trans ?_ ?_ _); rotate_left; focus (((try dsimp only); repeat (first | omega | simp only [World.size_alloc, World.size_setCell, World.size_drew] | (with_reducible refine le_ext_of ?_) | (with_reducible refine le_ext_add ?_))); done)) | ((with_reducible refine Below.alloc ?_ ?_ _); rotate_left; focus (((try dsimp only); repeat (first | omega | simp only [World.size_alloc, World.size_setCell, World.size_drew] | (with_reducible refine le_ext_of ?_) | (with_reducible refine le_ext_add ?_))); done)) | ((with_reducible refine Below.setCell ?_ ?_ _); rotate_left; focus (((try dsimp only); repeat (first | omega | simp only [World.size_alloc, World.size_setCell, World.size_drew] | (with_reducible refine le_ext_of ?_) | (with_reducible refine le_ext_add ?_))); done)) | (with_reducible refine Below.drew ?_))))) HNV.out rfl rfl rfl rfl).mono ?_; rintro e w1 ⟨pv, cv, rfl, y6, rfl⟩)
          have hB6 : Below W5.heap.size W5 (ext W5 y6) := below_ext _ _
          generalize ext W5 y6 = W6 at *
          clear d0 d1 d2 d3 x0 x1 x2 x3 kl xl
          have kx6 := KX5.out.bel hB6
          have HN6 := Lib.hid (HN5.out.below hB6)
          have HSP6 := Lib.hid (HSP5.out.below hB6)
          have HSH6 := Lib.hid (HSH5.out.below hB6)
          have HRW6 := Lib.hid (HRW5.out.below hB6)
          have HX6 := Lib.hid (HW5.out.trans (hB6.mono HW5.out.size))
          have x0 := kx6.cell 0
          have x1 := kx6.cell 1
          have x2 := kx6.cell 2
          have x3 := kx6.cell 3
          simp only [List.size_toArray, List.length_cons, List.length_nil, Nat.reduceAdd, Nat.reduceLT, getElem?_pos, List.getElem_toArray, List.getElem_cons_zero, List.getElem_cons_succ] at x0 x1 x2 x3
          have xl := kx6.lt
          clear hB6 kx6 KB5 KX5 HSP5 HSH5 HRW5 HB5 HN5
          go_upto_region 26 with (go_at_call 21; refine (Wrong_len p1 po p3 c1 co c3 _ _ _ _ X nw _ (⟨HSP6.out.below (by (repeat (first | (with_reducible exact Below.refl _ _) | (with_reducible assumption) | ((with_reducible refine below_ext_trans ?_ ?_ _); rotate_left; focus (((try dsimp only); repeat (first | omega | simp only [World.size_alloc, World.size_setCell, World.size_drew] | (with_reducible refine le_ext_of ?_) | (with_reducible refine le_ext_add ?_))); done)) | ((with_reducible refine Below.alloc ?_ ?_ _); rotate_left; focus (((try dsimp only); repeat (first | omega | simp only [World.size_alloc, World.size_setCell, World.size_drew] | (with_reducible refine le_ext_of ?_) | (with_reducible refine le_ext_add ?_))); done)) | ((with_reducible refine Below.setCell ?_ ?_ _); rotate_left; focus (((try dsimp only); repeat (first | omega | simp only [World.size_alloc, World.size_setCell, World.size_drew] | (with_reducible refine le_ext_of ?_) | (with_reducible refine le_ext_add ?_))); done)) | (with_reducible refine Below.drew ?_)))), HRW6.out.below (by (repeat (first | (with_reducible exact Below.refl _ _) | (with_reducible assumption) | ((with_reducible refine below_ext_trans ?_ ?_ _); rotate_left; focus (((try dsimp only); repeat (first | omega | simp only [World.size_alloc, World.size_setCell, World.size_drew] | (with_reducible refine le_ext_of ?_) | (with_reducible refine le_ext_add ?_))); done)) | ((with_reducible refine Below.alloc ?_ ?_ _); rotate_left; focus (((try dsimp only); repeat (first | omega | simp only [World.size_alloc, World.size_setCell, World.size_drew] | (with_reducible refine le_ext_of ?_) | (with_reducible refine le_ext_add ?_))); done)) | ((with_reducible refine Below.setCell ?_ ?_ _); rotate_left; focus (((try dsimp only); repeat (first | omega | simp only [World.size_alloc, World.size_setCell, World.size_drew] | (with_reducible refine le_ext_of ?_) | (with_reducible refine le_ext_add ?_))); done)) | (with_reducible refine Below.drew ?_)))), HSH6.out.below (by (repeat (first | (with_reducible exact Below.refl _ _) | (with_reducible assumption) | ((with_reducible refine below_ext_trans ?_ ?_ _); rotate_left; focus (((try dsimp only); repeat (first | omega | simp only [World.size_alloc, World.size_setCell, World.size_drew] | (with_reducible refine le_ext_of ?_) | (with_reducible refine le_ext_add ?_))); done)) | ((with_reducible refine Below.alloc ?_ ?_ _); rotate_left; focus (((try dsimp only); repeat (first | omega | simp only [World.size_alloc, World.size_setCell, World.size_drew] | (with_reducible refine le_ext_of ?_) | (with_reducible refine le_ext_add ?_))); done)) | ((with_reducible refine Below.setCell ?_ ?_ _); rotate_left; focus (((try dsimp only); repeat (first | omega | simp only [World.size_alloc, World.size_setCell, World.size_drew] | (with_reducible refine le_ext_of ?_) | (with_reducible refine le_ext_add ?_))); done)) | (with_reducible refine Below.drew ?_))))⟩) HXV.out (HN6.out.below (by (repeat (first | (with_reducible exact Below.refl _ _) | (with_reducible assumption) | ((with_reducible refine below_ext_trans ?_ ?_ _); rotate_left; focus (((try dsimp only); repeat (first | omega | simp only [World.size_alloc, World.size_setCell, World.size_drew] | (with_reducible refine le_ext_of ?_) | (with_reducible refine le_ext_add ?_))); done)) | ((with_reducible refine Below.alloc ?_ ?_ _); rotate_left; focus (((try dsimp only); repeat (first | omega | simp only [World.size_alloc, World.size_setCell, World.size_drew] | (with_reducible refine le_ext_of ?_) | (with_reducible refine le_ext_add ?_))); done)) | ((with_reducible refine Below.setCell ?_ ?_ _); rotate_left; focus (((try dsimp only); repeat (first | omega | simp only [World.size_alloc, World.size_setCell, World.size_drew] | (with_reducible refine le_ext_of ?_) | (with_reducible refine le_ext_add ?_))); done)) | (with_reducible refine Below.drew ?_))))) HNW.out E0.out E1.out E2.out E3.out).mono ?_; rintro e w1 ⟨pw, cw, rfl, y7, rfl⟩)
          go_wp2_with (go_at_call 13; refine (shot_any _ (HN6.out.below (by (repeat (first | (with_reducible exact Below.refl _ _) | (with_reducible assumption) | ((with_reducible refine below_ext_trans ?_ ?_ _); rotate_left; focus (((try dsimp only); repeat (first | omega | simp only [World.size_alloc, World.size_setCell, World.size_drew] | (with_reducible refine le_ext_of ?_) | (with_reducible refine le_ext_add ?_))); done)) | ((with_reducible refine Below.alloc ?_ ?_ _); rotate_left; focus (((try dsimp only); repeat (first | omega | simp only [World.size_alloc, World.size_setCell, World.size_drew] | (with_reducible refine le_ext_of ?_) | (with_reducible refine le_ext_add ?_))); done)) | ((with_reducible refine Below.setCell ?_ ?_ _); rotate_left; focus (((try dsimp only); repeat (first | omega | simp only [World.size_alloc, World.size_setCell, World.size_drew] | (with_reducible refine le_ext_of ?_) | (with_reducible refine le_ext_add ?_))); done)) | (with_reducible refine Below.drew ?_)))))).mono ?_; rintro e w1 ⟨rfl, y, rfl⟩)
          go_ret
          exact ⟨rfl, by have hB := HX6.out; have hBs := hB.size; (exact ext_of (by (repeat (first | (with_reducible exact Below.refl _ _) | (with_reducible assumption) | ((with_reducible refine below_ext_trans ?_ ?_ _); rotate_left; focus (((try dsimp only); repeat (first | omega | simp only [World.size_alloc, World.size_setCell, World.size_drew] | (with_reducible refine le_ext_of ?_) | (with_reducible refine le_ext_add ?_))); done)) | ((with_reducible refine Below.alloc ?_ ?_ _); rotate_left; focus (((try dsimp only); repeat (first | omega | simp only [World.size_alloc, World.size_setCell, World.size_drew] | (with_reducible refine le_ext_of ?_) | (with_reducible refine le_ext_add ?_))); done)) | ((with_reducible refine Below.setCell ?_ ?_ _); rotate_left; focus (((try dsimp only); repeat (first | omega | simp only [World.size_alloc, World.size_setCell, World.size_drew] | (with_reducible refine le_ext_of ?_) | (with_reducible refine le_ext_add ?_))); done)) | (with_reducible refine Below.drew ?_)))))⟩

theorem TurnKnows_any (h : Hd) (b : Bk) (n0 n1 n2 n3 : Int) (w : World) (hb : BkAt w h b) (hn : NB w) :
    Calls Tryd.prog 7 #[.agg #[.int .i64 b.n, .slice h.pb b.bs.length h.cb, .slice h.po b.os.length h.co, .slice h.ps b.ss.length h.cs], .agg #[.int .i64 n0, .int .i64 n1, .int .i64 n2, .int .i64 n3]] w fun e w' => e = .returned (.bool true) ∧ ∃ x, w' = ext w x := by
  cases hv : bookB b with
  | false => exact TurnKnows_bad h b n0 n1 n2 n3 w hb hv hn
  | true => exact TurnKnows_yes h b n0 n1 n2 n3 w hb hv hn
end Go.Proofs.YtmnbfjphndgmnaaDoor

