/- TurnKnown's walk. -/
import Derived.Test.YtdmicngnbcdkdaaDoorRBh
import Derived.Test.YtdmicngnbcdkdaaDoorRBv
import Derived.Deep.CutBlock
import Derived.Outline
set_option linter.unusedSimpArgs false
set_option linter.unusedVariables false
namespace Go.Proofs.YtdmicngnbcdkdaaDoor
open Go Go.RowKit

attribute [local go_sem] Oper.semAt_some frozen_alloc_lt
set_option maxRecDepth 100000 in
set_option maxHeartbeats 16000000 in
theorem TurnKnown_any (w : World) (hn : NB w) : Calls Tryd.prog 11 #[] w fun e w' => e = .returned (.bool true) ∧ ∃ x, w' = ext w x := by
  have HN := Lib.hid hn
  clear hn
  go_enter Tryd.func11, Tryd.ntmps11
  go_upto_region 1 with fail
  go_cut [1] from 58 to 74 (fun s1 wx => ∃ (gB : Nat) (cs : Array Value) (lo : Nat → Nat), s1 = .slice (some ⟨gB, 0, none⟩) 14 14 ∧ Inv wx gB cs lo 1 ∧ w.heap.size ≤ lo 0 ∧ Below w.heap.size w wx)
  case first =>
    have HH := Lib.hid (RowsMade.nil w)
    go_wp2_with (first
      | (go_at_call 40; refine (own_in _).mono ?_; rintro e w1 ⟨a, b, c, rfl, hi, hb⟩; have HG := Lib.hid (HH.out.snoc hb hi); clear HH hb hi; have HH := HG; clear HG)
      | (go_at_call 26; refine (To_in _ _ _).mono ?_; rintro e w1 ⟨rfl, hb⟩; have HG := Lib.hid (HH.out.grow hb); clear HH hb; have HH := HG; clear HG)
      | (go_at_call 41; refine (book_at_in _ _ _).mono ?_; rintro e w1 ⟨a, b, c, rfl, hi, hb⟩; have HG := Lib.hid (HH.out.snoc hb hi); clear HH hb hi; have HH := HG; clear HG))
    obtain ⟨lo, h0, hb, I⟩ := inv_start HH.out rfl
    go_meet
    exact ⟨_, _, lo, rfl, I, h0, hb.alloc hb.size _⟩
  obtain ⟨gB, cs1, lo, rfl, hI, hL, hW⟩ := hcut
  have HI := Lib.hid hI
  have HW := Lib.hid hW
  have HL := Lib.hid hL
  clear hI hW hL
  generalize wc = V1 at *
  go_upto_region 2 with fail
  go_cut [75] from 75 to 77 (fun _ wx => ∃ cs2 : Array Value, Inv wx gB cs2 lo 2 ∧ Below w.heap.size w wx)
  case first =>
    have I := HI.out
    obtain ⟨a, b, c, g3, g4, F⟩ := I.row (by omega)
    have hl := I.blk.lt
    have la := F.ka.lt
    have lb := F.kb.lt
    have l4 := F.k4.lt
    have lc := F.kc.lt
    have lm := lo_le I.mono (show 0 ≤ 1 by omega)
    have zL := HL.out
    have ra := F.ra
    have rb := F.rb
    have r4 := F.r4
    have rc := F.rc
    have rt := F.top
    have HF := Lib.hid F
    have zB : w.heap.size ≤ gB := by omega
    have za : w.heap.size ≤ a := by omega
    have zb : w.heap.size ≤ b := by omega
    have z4 : w.heap.size ≤ g4 := by omega
    have zc : w.heap.size ≤ c := by omega
    have p4 := (I.blk.cell 4).trans F.c0
    have f4 := I.blk.frozen 4
    clear F
    clear ra rb r4 rc rt lm zL
    go_wp2_with fail
    go_meet
    exact ⟨_, inv1 I, HW.out.setCell zB _⟩
  obtain ⟨cs2, hI, hW⟩ := hcut
  clear HI HW
  have HI := Lib.hid hI
  have HW := Lib.hid hW
  clear hI hW
  generalize wc = V2 at *
  go_upto_region 3 with fail
  go_cut [78] from 78 to 83 (fun _ wx => ∃ cs2 : Array Value, Inv wx gB cs2 lo 3 ∧ Below w.heap.size w wx)
  case first =>
    have I := HI.out
    obtain ⟨a, b, c, g3, g4, F⟩ := I.row (by omega)
    have hl := I.blk.lt
    have la := F.ka.lt
    have lb := F.kb.lt
    have l4 := F.k4.lt
    have lc := F.kc.lt
    have lm := lo_le I.mono (show 0 ≤ 2 by omega)
    have zL := HL.out
    have ra := F.ra
    have rb := F.rb
    have r4 := F.r4
    have rc := F.rc
    have rt := F.top
    have HF := Lib.hid F
    have zB : w.heap.size ≤ gB := by omega
    have za : w.heap.size ≤ a := by omega
    have zb : w.heap.size ≤ b := by omega
    have z4 : w.heap.size ≤ g4 := by omega
    have zc : w.heap.size ≤ c := by omega
    have p9 := (I.blk.cell 9).trans F.c1
    have f9 := I.blk.frozen 9
    clear F
    clear ra rb r4 rc rt lm zL
    refine wp_region_ext_tail 6 (by kernel_rfl) (by kernel_rfl) ?_
    simp only [List.take_succ_cons, List.take_zero, List.drop_succ_cons, List.drop_zero]
    repeat (go_big_quiet_step (fail))
    go_big_quiet_step ((go_at_call 26; exact quiet_ext (To_any _ _ _)))
    repeat (go_big_quiet_step (fail))
    refine wpQuiet_nil ?_
    rintro W3 ⟨x3, hW3⟩
    have hB : Below V2.heap.size V2 W3 := by rw [hW3]; exact below_ext _ _
    have I3 := Lib.hid (I.grow hB)
    have F3 := Lib.hid (HF.out.grow hB)
    have HW3 := Lib.hid (HW.out.trans (hB.mono HW.out.size))
    have la := F3.out.ka.lt
    have q2 := F3.out.ka.cell 2
    have qf2 := F3.out.ka.frozen 2
    have q3 := F3.out.ka.cell 3
    have qf3 := F3.out.ka.frozen 3
    simp only [List.size_toArray, List.length_cons, List.length_nil, Nat.reduceAdd, Nat.reduceLT, getElem?_pos, List.getElem_toArray, List.getElem_cons_zero, List.getElem_cons_succ] at q2 q3
    clear hW3 hB I
    go_wp2_with fail
    go_meet
    exact ⟨_, inv2 I3.out F3.out, (HW3.out.setCell za _).setCell za _⟩
  obtain ⟨cs3, hI, hW⟩ := hcut
  clear HI HW
  have HI := Lib.hid hI
  have HW := Lib.hid hW
  clear hI hW
  generalize wc = V3 at *
  go_upto_region 4 with fail
  go_cut [84] from 84 to 89 (fun _ wx => ∃ cs2 : Array Value, Inv wx gB cs2 lo 4 ∧ Below w.heap.size w wx)
  case first =>
    have I := HI.out
    obtain ⟨a, b, c, g3, g4, F⟩ := I.row (by omega)
    have hl := I.blk.lt
    have la := F.ka.lt
    have lb := F.kb.lt
    have l4 := F.k4.lt
    have lc := F.kc.lt
    have lm := lo_le I.mono (show 0 ≤ 3 by omega)
    have zL := HL.out
    have ra := F.ra
    have rb := F.rb
    have r4 := F.r4
    have rc := F.rc
    have rt := F.top
    have HF := Lib.hid F
    have zB : w.heap.size ≤ gB := by omega
    have za : w.heap.size ≤ a := by omega
    have zb : w.heap.size ≤ b := by omega
    have z4 : w.heap.size ≤ g4 := by omega
    have zc : w.heap.size ≤ c := by omega
    have p13 := (I.blk.cell 13).trans F.c1
    have f13 := I.blk.frozen 13
    clear F
    clear ra rb r4 rc rt lm zL
    refine wp_region_ext_tail 6 (by kernel_rfl) (by kernel_rfl) ?_
    simp only [List.take_succ_cons, List.take_zero, List.drop_succ_cons, List.drop_zero]
    repeat (go_big_quiet_step (fail))
    go_big_quiet_step ((go_at_call 26; exact quiet_ext (To_any _ _ _)))
    repeat (go_big_quiet_step (fail))
    refine wpQuiet_nil ?_
    rintro W3 ⟨x3, hW3⟩
    have hB : Below V3.heap.size V3 W3 := by rw [hW3]; exact below_ext _ _
    have I3 := Lib.hid (I.grow hB)
    have F3 := Lib.hid (HF.out.grow hB)
    have HW3 := Lib.hid (HW.out.trans (hB.mono HW.out.size))
    have la := F3.out.ka.lt
    have q0 := F3.out.ka.cell 0
    have qf0 := F3.out.ka.frozen 0
    have q1 := F3.out.ka.cell 1
    have qf1 := F3.out.ka.frozen 1
    simp only [List.size_toArray, List.length_cons, List.length_nil, Nat.reduceAdd, Nat.reduceLT, getElem?_pos, List.getElem_toArray, List.getElem_cons_zero, List.getElem_cons_succ] at q0 q1
    clear hW3 hB I
    go_wp2_with fail
    go_meet
    exact ⟨_, inv3 I3.out F3.out, (HW3.out.setCell za _).setCell za _⟩
  obtain ⟨cs4, hI, hW⟩ := hcut
  clear HI HW
  have HI := Lib.hid hI
  have HW := Lib.hid hW
  clear hI hW
  generalize wc = V4 at *
  go_upto_region 5 with fail
  go_cut [90] from 90 to 95 (fun _ wx => ∃ cs2 : Array Value, Inv wx gB cs2 lo 5 ∧ Below w.heap.size w wx)
  case first =>
    have I := HI.out
    obtain ⟨a, b, c, g3, g4, F⟩ := I.row (by omega)
    have hl := I.blk.lt
    have la := F.ka.lt
    have lb := F.kb.lt
    have l4 := F.k4.lt
    have lc := F.kc.lt
    have lm := lo_le I.mono (show 0 ≤ 4 by omega)
    have zL := HL.out
    have ra := F.ra
    have rb := F.rb
    have r4 := F.r4
    have rc := F.rc
    have rt := F.top
    have HF := Lib.hid F
    have zB : w.heap.size ≤ gB := by omega
    have za : w.heap.size ≤ a := by omega
    have zb : w.heap.size ≤ b := by omega
    have z4 : w.heap.size ≤ g4 := by omega
    have zc : w.heap.size ≤ c := by omega
    have p18 := (I.blk.cell 18).trans F.c2
    have f18 := I.blk.frozen 18
    have q0 := F.kb.cell 0
    have qf0 := F.kb.frozen 0
    simp only [List.size_toArray, List.length_cons, List.length_nil, Nat.reduceAdd, Nat.reduceLT, getElem?_pos, List.getElem_toArray, List.getElem_cons_zero, List.getElem_cons_succ] at q0
    clear F
    clear ra rb r4 rc rt lm zL
    go_wp2_with fail
    go_meet
    have hB := (Below.refl V4.heap.size V4).alloc (Nat.le_refl _) (.cells #[.int .i64 0, .int .i64 1] 3)
    rw [← World.setCell_alloc_past]
    · exact ⟨_, inv4 (I.grow hB) (HF.out.grow hB) (Blk.new rfl) hl, (HW.out.trans (hB.mono HW.out.size)).setCell zb _⟩
    · exact lb
  obtain ⟨cs5, hI, hW⟩ := hcut
  clear HI HW
  have HI := Lib.hid hI
  have HW := Lib.hid hW
  clear hI hW
  generalize wc = V5 at *
  go_upto_region 6 with fail
  go_cut [96] from 96 to 102 (fun _ wx => ∃ cs2 : Array Value, Inv wx gB cs2 lo 6 ∧ Below w.heap.size w wx)
  case first =>
    have I := HI.out
    obtain ⟨a, b, c, g3, g4, F⟩ := I.row (by omega)
    have hl := I.blk.lt
    have la := F.ka.lt
    have lb := F.kb.lt
    have l4 := F.k4.lt
    have lc := F.kc.lt
    have lm := lo_le I.mono (show 0 ≤ 5 by omega)
    have zL := HL.out
    have ra := F.ra
    have rb := F.rb
    have r4 := F.r4
    have rc := F.rc
    have rt := F.top
    have HF := Lib.hid F
    have zB : w.heap.size ≤ gB := by omega
    have za : w.heap.size ≤ a := by omega
    have zb : w.heap.size ≤ b := by omega
    have z4 : w.heap.size ≤ g4 := by omega
    have zc : w.heap.size ≤ c := by omega
    have p22 := (I.blk.cell 22).trans F.c2
    have f22 := I.blk.frozen 22
    have q1 := F.kb.cell 1
    have qf1 := F.kb.frozen 1
    simp only [List.size_toArray, List.length_cons, List.length_nil, Nat.reduceAdd, Nat.reduceLT, getElem?_pos, List.getElem_toArray, List.getElem_cons_zero, List.getElem_cons_succ] at q1
    have s2 := F.k4.cell 2
    have sf2 := F.k4.frozen 2
    simp only [List.size_toArray, List.length_cons, List.length_nil, Nat.reduceAdd, Nat.reduceLT, getElem?_pos, List.getElem_toArray, List.getElem_cons_zero, List.getElem_cons_succ] at s2
    clear F
    clear ra rb r4 rc rt lm zL
    go_wp2_with fail
    go_meet
    exact ⟨_, inv5 I HF.out, HW.out.setCell z4 _⟩
  obtain ⟨cs6, hI, hW⟩ := hcut
  clear HI HW
  have HI := Lib.hid hI
  have HW := Lib.hid hW
  clear hI hW
  generalize wc = V6 at *
  go_upto_region 7 with fail
  go_cut [103] from 103 to 105 (fun _ wx => ∃ cs2 : Array Value, Inv wx gB cs2 lo 7 ∧ Below w.heap.size w wx)
  case first =>
    have I := HI.out
    obtain ⟨a, b, c, g3, g4, F⟩ := I.row (by omega)
    have hl := I.blk.lt
    have la := F.ka.lt
    have lb := F.kb.lt
    have l4 := F.k4.lt
    have lc := F.kc.lt
    have lm := lo_le I.mono (show 0 ≤ 6 by omega)
    have zL := HL.out
    have ra := F.ra
    have rb := F.rb
    have r4 := F.r4
    have rc := F.rc
    have rt := F.top
    have HF := Lib.hid F
    have zB : w.heap.size ≤ gB := by omega
    have za : w.heap.size ≤ a := by omega
    have zb : w.heap.size ≤ b := by omega
    have z4 : w.heap.size ≤ g4 := by omega
    have zc : w.heap.size ≤ c := by omega
    have p26 := (I.blk.cell 26).trans F.c2
    have f26 := I.blk.frozen 26
    clear F
    clear ra rb r4 rc rt lm zL
    go_wp2_with fail
    go_meet
    exact ⟨_, inv6 I, HW.out.setCell zB _⟩
  obtain ⟨cs7, hI, hW⟩ := hcut
  clear HI HW
  have HI := Lib.hid hI
  have HW := Lib.hid hW
  clear hI hW
  generalize wc = V7 at *
  go_upto_region 8 with fail
  go_cut [106] from 106 to 111 (fun _ wx => ∃ cs2 : Array Value, Inv wx gB cs2 lo 8 ∧ Below w.heap.size w wx)
  case first =>
    have I := HI.out
    obtain ⟨a, b, c, g3, g4, F⟩ := I.row (by omega)
    have hl := I.blk.lt
    have la := F.ka.lt
    have lb := F.kb.lt
    have l4 := F.k4.lt
    have lc := F.kc.lt
    have lm := lo_le I.mono (show 0 ≤ 7 by omega)
    have zL := HL.out
    have ra := F.ra
    have rb := F.rb
    have r4 := F.r4
    have rc := F.rc
    have rt := F.top
    have HF := Lib.hid F
    have zB : w.heap.size ≤ gB := by omega
    have za : w.heap.size ≤ a := by omega
    have zb : w.heap.size ≤ b := by omega
    have z4 : w.heap.size ≤ g4 := by omega
    have zc : w.heap.size ≤ c := by omega
    have p31 := (I.blk.cell 31).trans F.c3
    have f31 := I.blk.frozen 31
    have q4 := F.kc.cell 4
    have qf4 := F.kc.frozen 4
    simp only [List.size_toArray, List.length_cons, List.length_nil, Nat.reduceAdd, Nat.reduceLT, getElem?_pos, List.getElem_toArray, List.getElem_cons_zero, List.getElem_cons_succ] at q4
    clear F
    clear ra rb r4 rc rt lm zL
    go_wp2_with fail
    go_meet
    exact ⟨_, inv7 I HF.out, HW.out.setCell zc _⟩
  obtain ⟨cs8, hI, hW⟩ := hcut
  clear HI HW
  have HI := Lib.hid hI
  have HW := Lib.hid hW
  clear hI hW
  generalize wc = V8 at *
  go_upto_region 9 with fail
  go_cut [112] from 112 to 117 (fun _ wx => ∃ cs2 : Array Value, Inv wx gB cs2 lo 9 ∧ Below w.heap.size w wx)
  case first =>
    have I := HI.out
    obtain ⟨a, b, c, g3, g4, F⟩ := I.row (by omega)
    have hl := I.blk.lt
    have la := F.ka.lt
    have lb := F.kb.lt
    have l4 := F.k4.lt
    have lc := F.kc.lt
    have lm := lo_le I.mono (show 0 ≤ 8 by omega)
    have zL := HL.out
    have ra := F.ra
    have rb := F.rb
    have r4 := F.r4
    have rc := F.rc
    have rt := F.top
    have HF := Lib.hid F
    have zB : w.heap.size ≤ gB := by omega
    have za : w.heap.size ≤ a := by omega
    have zb : w.heap.size ≤ b := by omega
    have z4 : w.heap.size ≤ g4 := by omega
    have zc : w.heap.size ≤ c := by omega
    have p35 := (I.blk.cell 35).trans F.c3
    have f35 := I.blk.frozen 35
    have q5 := F.kc.cell 5
    have qf5 := F.kc.frozen 5
    simp only [List.size_toArray, List.length_cons, List.length_nil, Nat.reduceAdd, Nat.reduceLT, getElem?_pos, List.getElem_toArray, List.getElem_cons_zero, List.getElem_cons_succ] at q5
    clear F
    clear ra rb r4 rc rt lm zL
    go_wp2_with fail
    go_meet
    exact ⟨_, inv8 I HF.out, HW.out.setCell zc _⟩
  obtain ⟨cs9, hI, hW⟩ := hcut
  clear HI HW
  have HI := Lib.hid hI
  have HW := Lib.hid hW
  clear hI hW
  generalize wc = V9 at *
  go_upto_region 10 with fail
  go_cut [118] from 118 to 129 (fun _ wx => ∃ cs2 : Array Value, Inv wx gB cs2 lo 10 ∧ Below w.heap.size w wx)
  case first =>
    have I := HI.out
    obtain ⟨a, b, c, g3, g4, F⟩ := I.row (by omega)
    have hl := I.blk.lt
    have la := F.ka.lt
    have lb := F.kb.lt
    have l4 := F.k4.lt
    have lc := F.kc.lt
    have lm := lo_le I.mono (show 0 ≤ 9 by omega)
    have zL := HL.out
    have ra := F.ra
    have rb := F.rb
    have r4 := F.r4
    have rc := F.rc
    have rt := F.top
    have HF := Lib.hid F
    have zB : w.heap.size ≤ gB := by omega
    have za : w.heap.size ≤ a := by omega
    have zb : w.heap.size ≤ b := by omega
    have z4 : w.heap.size ≤ g4 := by omega
    have zc : w.heap.size ≤ c := by omega
    have p39 := (I.blk.cell 39).trans F.c3
    have f39 := I.blk.frozen 39
    have HI9 := Lib.hid I
    clear F I
    clear ra rb r4 rc rt lm zL
    refine wp_region_flow_back 12 548 (grow9R gB c V9.heap.size) (by kernel_rfl) (by kernel_rfl) rfl (grow9R_kept _ _ _) ?_ ?_
    · intro i hin a' X g1 g2 g3' g4' g5 KK hKK
      have hlX : gB < X.heap.size := Nat.lt_of_lt_of_le hl g5.size
      match i, hin with
      | 0, _ =>
        exact st_move rfl rfl (wanted_none rfl) (g3' 1 (by kernel_rfl)) (hKK _ _ rfl (Below.refl _ _))
      | 1, _ =>
        exact st_move rfl rfl (wanted_none rfl) (g3' 1 (by kernel_rfl)) (hKK _ _ rfl (Below.refl _ _))
      | 2, _ =>
        exact st_val rfl (wanted_none rfl) (run_rowb (k := 9) _ rfl (g4' 1 (by kernel_rfl)) (by omega) hlX) (hKK _ _ rfl (Below.refl _ _))
      | 3, _ =>
        exact st_val rfl (wanted_none rfl) (run_field 3 _ rfl (g4' 2 (by kernel_rfl)) (by omega) hlX) (hKK _ _ rfl (Below.refl _ _))
      | 4, _ =>
        exact st_val rfl (wanted_none rfl) (run_shots_at _ rfl (g4' 3 (by kernel_rfl)) ((g5.cell (p := ⟨gB, 39, none⟩) hl).trans p39)) (hKK _ _ rfl (Below.refl _ _))
      | 5, _ =>
        exact st_move rfl rfl (wanted_none rfl) (g3' 1 (by kernel_rfl)) (hKK _ _ rfl (Below.refl _ _))
      | 6, _ =>
        exact st_val rfl (wanted_none rfl) (run_rowb (k := 9) _ rfl (g4' 5 (by kernel_rfl)) (by omega) hlX) (hKK _ _ rfl (Below.refl _ _))
      | 7, _ =>
        exact st_val rfl (wanted_none rfl) (run_field 3 _ rfl (g4' 6 (by kernel_rfl)) (by omega) hlX) (hKK _ _ rfl (Below.refl _ _))
      | 8, _ =>
        exact st_val rfl (wanted_none rfl) (run_shots_at _ rfl (g4' 7 (by kernel_rfl)) ((g5.cell (p := ⟨gB, 39, none⟩) hl).trans p39)) (hKK _ _ rfl (Below.refl _ _))
      | 9, _ =>
        refine wpOp_get rfl ?_
        refine step_grow_shots rfl _ _ rfl c 4 (bookW 541 543).ss (g4' 4 (by kernel_rfl)) (g4' 8 (by kernel_rfl)) rfl (by omega) (by omega) (ShotsAt.enc (shots_of_blk (HF.out.kc.bel g5) rfl (by simp [bookW]))) (encShots_one _) ?_
        intro v' w' h6 h7
        obtain ⟨p, cap, rfl, -⟩ := h6.at
        exact hKK _ _ ⟨p, _, cap, X.heap.size, rfl, g5.size, h6⟩ h7
      | 10, _ =>
        exact st_val rfl (wanted_none rfl) (run_rowb (k := 9) _ rfl (g4' 0 (by kernel_rfl)) (by omega) hlX) (hKK _ _ rfl (Below.refl _ _))
      | 11, _ =>
        exact st_val rfl (wanted_none rfl) (run_field 3 _ rfl (g4' 10 (by kernel_rfl)) (by omega) hlX) (hKK _ _ rfl (Below.refl _ _))
      | k + 12, hk => omega
    intro vs W2 hvs hB
    have v0 : vs 0 = _ := hvs 0 (by omega)
    have v1 : vs 1 = _ := hvs 1 (by omega)
    have v2 : vs 2 = _ := hvs 2 (by omega)
    have v3 : vs 3 = _ := hvs 3 (by omega)
    have v4 : vs 4 = _ := hvs 4 (by omega)
    have v5 : vs 5 = _ := hvs 5 (by omega)
    have v6 : vs 6 = _ := hvs 6 (by omega)
    have v7 : vs 7 = _ := hvs 7 (by omega)
    have v8 : vs 8 = _ := hvs 8 (by omega)
    have v10 : vs 10 = _ := hvs 10 (by omega)
    have v11 : vs 11 = _ := hvs 11 (by omega)
    obtain ⟨p, n, cap, B, v9, hB0, ho⟩ := hvs 9 (by omega)
    simp only [putAll, v0, v1, v2, v3, v4, v5, v6, v7, v8, v9, v10, v11]
    clear v0 v1 v2 v3 v4 v5 v6 v7 v8 v9 v10 v11 hvs
    simp only [dstOf, Act.put, List.getElem?_toArray, List.getElem?_cons_zero, List.getElem?_cons_succ, Option.bind_some, Option.getD_some, List.setIfInBounds_toArray, List.set_cons_succ, List.set_cons_zero, List.drop_succ_cons, List.drop_zero]
    have I3 := Lib.hid (HI9.out.grow hB)
    have F3 := Lib.hid (HF.out.grow hB)
    have HW3 := Lib.hid (HW.out.trans (hB.mono HW.out.size))
    have HO := Lib.hid ho
    have hl3 := Nat.lt_of_lt_of_le hl hB.size
    have p3 := (hB.cell (p := ⟨gB, 39, none⟩) hl).trans p39
    have f3 := I3.out.blk.frozen 39
    clear ho hB p39 f39
    go_wp2_with fail
    go_meet
    exact ⟨_, inv9 I3.out F3.out HO.out (Nat.lt_of_lt_of_le hl hB0), HW3.out.setCell zB _⟩
  obtain ⟨cs10, hI, hW⟩ := hcut
  clear HI HW
  have HI := Lib.hid hI
  have HW := Lib.hid hW
  clear hI hW
  generalize wc = V10 at *
  go_upto_region 11 with fail
  go_cut [130] from 130 to 138 (fun _ wx => ∃ cs2 : Array Value, Inv wx gB cs2 lo 11 ∧ Below w.heap.size w wx)
  case first =>
    have I := HI.out
    obtain ⟨a, b, c, g3, g4, F⟩ := I.row (by omega)
    have hl := I.blk.lt
    have la := F.ka.lt
    have lb := F.kb.lt
    have l4 := F.k4.lt
    have lc := F.kc.lt
    have lm := lo_le I.mono (show 0 ≤ 10 by omega)
    have zL := HL.out
    have ra := F.ra
    have rb := F.rb
    have r4 := F.r4
    have rc := F.rc
    have rt := F.top
    have HF := Lib.hid F
    have zB : w.heap.size ≤ gB := by omega
    have za : w.heap.size ≤ a := by omega
    have zb : w.heap.size ≤ b := by omega
    have z4 : w.heap.size ≤ g4 := by omega
    have zc : w.heap.size ≤ c := by omega
    have p41 := (I.blk.cell 41).trans F.c1
    have f41 := I.blk.frozen 41
    clear F
    clear ra rb r4 rc rt lm zL
    go_wp2_with (go_at_call 42; refine (Just_any _ _).mono ?_; rintro e w1 ⟨rfl, y9, rfl⟩)
    go_meet
    rw [← World.setCell_alloc_past]
    · exact ⟨_, inv10 (I.grow (Below.alloc (below_ext _ _) (below_ext _ _).size _)) (HF.out.grow (Below.alloc (below_ext _ _) (below_ext _ _).size _)) (Blk.new rfl) (Nat.lt_of_lt_of_le hl (below_ext _ _).size), (HW.out.trans ((Below.alloc (below_ext _ _) (below_ext _ _).size _).mono HW.out.size)).setCell zB _⟩
    · exact Nat.lt_of_lt_of_le hl (below_ext _ _).size
  obtain ⟨cs11, hI, hW⟩ := hcut
  clear HI HW
  have HI := Lib.hid hI
  have HW := Lib.hid hW
  clear hI hW
  generalize wc = V11 at *
  go_upto_region 12 with fail
  go_cut [139] from 139 to 150 (fun _ wx => ∃ cs2 : Array Value, Inv wx gB cs2 lo 12 ∧ Below w.heap.size w wx)
  case first =>
    have I := HI.out
    obtain ⟨a, b, c, g3, g4, F⟩ := I.row (by omega)
    have hl := I.blk.lt
    have la := F.ka.lt
    have lb := F.kb.lt
    have l4 := F.k4.lt
    have lc := F.kc.lt
    have lm := lo_le I.mono (show 0 ≤ 11 by omega)
    have zL := HL.out
    have ra := F.ra
    have rb := F.rb
    have r4 := F.r4
    have rc := F.rc
    have rt := F.top
    have HF := Lib.hid F
    have zB : w.heap.size ≤ gB := by omega
    have za : w.heap.size ≤ a := by omega
    have zb : w.heap.size ≤ b := by omega
    have z4 : w.heap.size ≤ g4 := by omega
    have zc : w.heap.size ≤ c := by omega
    have p46 := (I.blk.cell 46).trans F.c2
    have f46 := I.blk.frozen 46
    have HI9 := Lib.hid I
    clear F I
    clear ra rb r4 rc rt lm zL
    refine wp_region_flow_back 12 548 (grow11R gB b g3 g4 V11.heap.size) (by kernel_rfl) (by kernel_rfl) rfl (grow11R_kept _ _ _ _ _) ?_ ?_
    · intro i hin a' X g1 g2 g3' g4' g5 KK hKK
      have hlX : gB < X.heap.size := Nat.lt_of_lt_of_le hl g5.size
      match i, hin with
      | 0, _ =>
        exact st_move rfl rfl (wanted_none rfl) (g3' 1 (by kernel_rfl)) (hKK _ _ rfl (Below.refl _ _))
      | 1, _ =>
        exact st_move rfl rfl (wanted_none rfl) (g3' 1 (by kernel_rfl)) (hKK _ _ rfl (Below.refl _ _))
      | 2, _ =>
        exact st_val rfl (wanted_none rfl) (run_rowb (k := 11) _ rfl (g4' 1 (by kernel_rfl)) (by omega) hlX) (hKK _ _ rfl (Below.refl _ _))
      | 3, _ =>
        exact st_val rfl (wanted_none rfl) (run_field 2 _ rfl (g4' 2 (by kernel_rfl)) (by omega) hlX) (hKK _ _ rfl (Below.refl _ _))
      | 4, _ =>
        exact st_val rfl (wanted_none rfl) (run_load_rows _ rfl (g4' 3 (by kernel_rfl)) ((g5.cell (p := ⟨gB, 46, none⟩) hl).trans p46)) (hKK _ _ rfl (Below.refl _ _))
      | 5, _ =>
        exact st_move rfl rfl (wanted_none rfl) (g3' 1 (by kernel_rfl)) (hKK _ _ rfl (Below.refl _ _))
      | 6, _ =>
        exact st_val rfl (wanted_none rfl) (run_rowb (k := 11) _ rfl (g4' 5 (by kernel_rfl)) (by omega) hlX) (hKK _ _ rfl (Below.refl _ _))
      | 7, _ =>
        exact st_val rfl (wanted_none rfl) (run_field 2 _ rfl (g4' 6 (by kernel_rfl)) (by omega) hlX) (hKK _ _ rfl (Below.refl _ _))
      | 8, _ =>
        exact st_val rfl (wanted_none rfl) (run_load_rows _ rfl (g4' 7 (by kernel_rfl)) ((g5.cell (p := ⟨gB, 46, none⟩) hl).trans p46)) (hKK _ _ rfl (Below.refl _ _))
      | 9, _ =>
        refine wpOp_get rfl ?_
        refine step_grow_rows rfl _ _ rfl b g3 g4 (g4' 4 (by kernel_rfl)) (g4' 8 (by kernel_rfl)) (HF.out.kb.bel g5) ?_
        intro v' w' h6 h7
        obtain ⟨p, n, cap, rfl⟩ := ownsRow_slice h6
        exact hKK _ _ ⟨p, n, cap, X.heap.size, rfl, g5.size, h6⟩ h7
      | 10, _ =>
        exact st_val rfl (wanted_none rfl) (run_rowb (k := 11) _ rfl (g4' 0 (by kernel_rfl)) (by omega) hlX) (hKK _ _ rfl (Below.refl _ _))
      | 11, _ =>
        exact st_val rfl (wanted_none rfl) (run_field 2 _ rfl (g4' 10 (by kernel_rfl)) (by omega) hlX) (hKK _ _ rfl (Below.refl _ _))
      | k + 12, hk => omega
    intro vs W2 hvs hB
    have v0 : vs 0 = _ := hvs 0 (by omega)
    have v1 : vs 1 = _ := hvs 1 (by omega)
    have v2 : vs 2 = _ := hvs 2 (by omega)
    have v3 : vs 3 = _ := hvs 3 (by omega)
    have v4 : vs 4 = _ := hvs 4 (by omega)
    have v5 : vs 5 = _ := hvs 5 (by omega)
    have v6 : vs 6 = _ := hvs 6 (by omega)
    have v7 : vs 7 = _ := hvs 7 (by omega)
    have v8 : vs 8 = _ := hvs 8 (by omega)
    have v10 : vs 10 = _ := hvs 10 (by omega)
    have v11 : vs 11 = _ := hvs 11 (by omega)
    obtain ⟨p, n, cap, B, v9, hB0, ho⟩ := hvs 9 (by omega)
    simp only [putAll, v0, v1, v2, v3, v4, v5, v6, v7, v8, v9, v10, v11]
    clear v0 v1 v2 v3 v4 v5 v6 v7 v8 v9 v10 v11 hvs
    simp only [dstOf, Act.put, List.getElem?_toArray, List.getElem?_cons_zero, List.getElem?_cons_succ, Option.bind_some, Option.getD_some, List.setIfInBounds_toArray, List.set_cons_succ, List.set_cons_zero, List.drop_succ_cons, List.drop_zero]
    have I3 := Lib.hid (HI9.out.grow hB)
    have F3 := Lib.hid (HF.out.grow hB)
    have HW3 := Lib.hid (HW.out.trans (hB.mono HW.out.size))
    have HO := Lib.hid ho
    have hl3 := Nat.lt_of_lt_of_le hl hB.size
    have p3 := (hB.cell (p := ⟨gB, 46, none⟩) hl).trans p46
    have f3 := I3.out.blk.frozen 46
    clear ho hB p46 f46
    go_wp2_with fail
    go_meet
    exact ⟨_, inv11 I3.out F3.out HO.out (Nat.lt_of_lt_of_le hl hB0), HW3.out.setCell zB _⟩
  obtain ⟨cs12, hI, hW⟩ := hcut
  clear HI HW
  have HI := Lib.hid hI
  have HW := Lib.hid hW
  clear hI hW
  generalize wc = V12 at *
  go_upto_block 0 with fail
  go_cut [2, 3, 4, 5, 6, 7, 8, 9, 10, 11, 12, 13, 14, 15, 16, 17, 18] from 151 to 258 (fun _ _ _ _ _ _ _ _ _ _ _ _ _ _ _ _ _ wx => Below w.heap.size w wx)
  case first =>
    go_wp2_with fail
    go_loopw [2] (fun i wr => ∃ k : Nat, k ≤ 14 ∧ i = .int .i64 k ∧ ∃ x, wr = ext V12 x) (fun i _ => 14 - (intOf i).toNat)
    case atStart => exact ⟨0, by omega, rfl, ext_of (Below.refl _ _)⟩
    case round =>
      obtain ⟨k, hk, rfl, y1, rfl⟩ := hrel
      have hBV := below_ext V12 y1
      generalize ext V12 y1 = U0 at *
      by_cases hlt : k < 14
      · obtain ⟨h9, b9, hbad, hrow, hat⟩ := HI.out.done hlt
        have HBAD := Lib.hid hbad
        have HAT := Lib.hid (fun w' (hw : Below U0.heap.size U0 w') => hat w' (hBV.trans (hw.mono hBV.size)))
        have HNV := Lib.hid (HN.out.below (HW.out.trans (hBV.mono HW.out.size)))
        have HRW := Lib.hid (row_cells hrow)
        have HK0 := Lib.hid (HI.out.blk.bel hBV)
        have HBV := Lib.hid hBV
        have HB0 := Lib.hid (Below.refl U0.heap.size U0)
        clear hbad hrow hat hBV
        have k0 : (0 : Int) ≤ (k : Int) := by omega
        have k1 : (k : Int) < 14 := by omega
        have c0 := (HK0.out.cell (k * 4)).trans HRW.out.1
        have c1 := (HK0.out.cell (k * 4 + 1)).trans HRW.out.2.1
        have c2 := (HK0.out.cell (k * 4 + 2)).trans HRW.out.2.2.1
        have c3 := (HK0.out.cell (k * 4 + 3)).trans HRW.out.2.2.2
        have hl := HK0.out.lt
        go_upto_region 17 with (go_at_call 15; refine (Turn_err h9 b9 (-1) 20 _ (by decide) (OpenErr.bad _ (HAT.out _ (HB0.out.trans (Below.mono (by (repeat (first | (with_reducible exact Below.refl _ _) | (with_reducible assumption) | ((with_reducible refine below_ext_trans ?_ ?_ _); rotate_left; focus (((try dsimp only); repeat (first | omega | simp only [World.size_alloc, World.size_setCell, World.size_drew] | (with_reducible refine le_ext_of ?_) | (with_reducible refine le_ext_add ?_))); done)) | ((with_reducible refine Below.alloc ?_ ?_ _); rotate_left; focus (((try dsimp only); repeat (first | omega | simp only [World.size_alloc, World.size_setCell, World.size_drew] | (with_reducible refine le_ext_of ?_) | (with_reducible refine le_ext_add ?_))); done)) | ((with_reducible refine Below.setCell ?_ ?_ _); rotate_left; focus (((try dsimp only); repeat (first | omega | simp only [World.size_alloc, World.size_setCell, World.size_drew] | (with_reducible refine le_ext_of ?_) | (with_reducible refine le_ext_add ?_))); done)) | (with_reducible refine Below.drew ?_)))) HB0.out.size))) HBAD.out)).mono ?_; rintro e w1 ⟨rfl, y8, rfl⟩)
        generalize hE1 : (ext U0 y8).alloc _ = U1 at *
        have hB1 : Below U0.heap.size U0 U1 := by rw [← hE1]; (repeat (first | (with_reducible exact Below.refl _ _) | (with_reducible assumption) | ((with_reducible refine below_ext_trans ?_ ?_ _); rotate_left; focus (((try dsimp only); repeat (first | omega | simp only [World.size_alloc, World.size_setCell, World.size_drew] | (with_reducible refine le_ext_of ?_) | (with_reducible refine le_ext_add ?_))); done)) | ((with_reducible refine Below.alloc ?_ ?_ _); rotate_left; focus (((try dsimp only); repeat (first | omega | simp only [World.size_alloc, World.size_setCell, World.size_drew] | (with_reducible refine le_ext_of ?_) | (with_reducible refine le_ext_add ?_))); done)) | ((with_reducible refine Below.setCell ?_ ?_ _); rotate_left; focus (((try dsimp only); repeat (first | omega | simp only [World.size_alloc, World.size_setCell, World.size_drew] | (with_reducible refine le_ext_of ?_) | (with_reducible refine le_ext_add ?_))); done)) | (with_reducible refine Below.drew ?_)))
        have HB1 := Lib.hid (HB0.out.trans (hB1.mono HB0.out.size))
        have HK1 := Lib.hid (HK0.out.bel hB1)
        clear hE1 hB1 HB0 HK0 c0 c1 c2 c3 hl
        have c0 := (HK1.out.cell (k * 4)).trans HRW.out.1
        have c1 := (HK1.out.cell (k * 4 + 1)).trans HRW.out.2.1
        have c2 := (HK1.out.cell (k * 4 + 2)).trans HRW.out.2.2.1
        have c3 := (HK1.out.cell (k * 4 + 3)).trans HRW.out.2.2.2
        have hl := HK1.out.lt
        go_upto_region 18 with (go_at_call 16; refine (Owners_err h9 b9 (-1) (-1) 20 _ (by decide) (OpenErr.bad _ (HAT.out _ (HB1.out.trans (Below.mono (by (repeat (first | (with_reducible exact Below.refl _ _) | (with_reducible assumption) | ((with_reducible refine below_ext_trans ?_ ?_ _); rotate_left; focus (((try dsimp only); repeat (first | omega | simp only [World.size_alloc, World.size_setCell, World.size_drew] | (with_reducible refine le_ext_of ?_) | (with_reducible refine le_ext_add ?_))); done)) | ((with_reducible refine Below.alloc ?_ ?_ _); rotate_left; focus (((try dsimp only); repeat (first | omega | simp only [World.size_alloc, World.size_setCell, World.size_drew] | (with_reducible refine le_ext_of ?_) | (with_reducible refine le_ext_add ?_))); done)) | ((with_reducible refine Below.setCell ?_ ?_ _); rotate_left; focus (((try dsimp only); repeat (first | omega | simp only [World.size_alloc, World.size_setCell, World.size_drew] | (with_reducible refine le_ext_of ?_) | (with_reducible refine le_ext_add ?_))); done)) | (with_reducible refine Below.drew ?_)))) HB1.out.size))) HBAD.out)).mono ?_; rintro e w1 ⟨rfl, y8, rfl⟩)
        generalize hE2 : ext U1 y8 = U2 at *
        have hB2 : Below U1.heap.size U1 U2 := by rw [← hE2]; (repeat (first | (with_reducible exact Below.refl _ _) | (with_reducible assumption) | ((with_reducible refine below_ext_trans ?_ ?_ _); rotate_left; focus (((try dsimp only); repeat (first | omega | simp only [World.size_alloc, World.size_setCell, World.size_drew] | (with_reducible refine le_ext_of ?_) | (with_reducible refine le_ext_add ?_))); done)) | ((with_reducible refine Below.alloc ?_ ?_ _); rotate_left; focus (((try dsimp only); repeat (first | omega | simp only [World.size_alloc, World.size_setCell, World.size_drew] | (with_reducible refine le_ext_of ?_) | (with_reducible refine le_ext_add ?_))); done)) | ((with_reducible refine Below.setCell ?_ ?_ _); rotate_left; focus (((try dsimp only); repeat (first | omega | simp only [World.size_alloc, World.size_setCell, World.size_drew] | (with_reducible refine le_ext_of ?_) | (with_reducible refine le_ext_add ?_))); done)) | (with_reducible refine Below.drew ?_)))
        have HB2 := Lib.hid (HB1.out.trans (hB2.mono HB1.out.size))
        have HK2 := Lib.hid (HK1.out.bel hB2)
        clear hE2 hB2 HB1 HK1 c0 c1 c2 c3 hl
        have c0 := (HK2.out.cell (k * 4)).trans HRW.out.1
        have c1 := (HK2.out.cell (k * 4 + 1)).trans HRW.out.2.1
        have c2 := (HK2.out.cell (k * 4 + 2)).trans HRW.out.2.2.1
        have c3 := (HK2.out.cell (k * 4 + 3)).trans HRW.out.2.2.2
        have hl := HK2.out.lt
        go_upto_region 19 with (go_at_call 22; refine (Fair_bad h9 b9 (-1) _ (HAT.out _ (HB2.out.trans (Below.mono (by (repeat (first | (with_reducible exact Below.refl _ _) | (with_reducible assumption) | ((with_reducible refine below_ext_trans ?_ ?_ _); rotate_left; focus (((try dsimp only); repeat (first | omega | simp only [World.size_alloc, World.size_setCell, World.size_drew] | (with_reducible refine le_ext_of ?_) | (with_reducible refine le_ext_add ?_))); done)) | ((with_reducible refine Below.alloc ?_ ?_ _); rotate_left; focus (((try dsimp only); repeat (first | omega | simp only [World.size_alloc, World.size_setCell, World.size_drew] | (with_reducible refine le_ext_of ?_) | (with_reducible refine le_ext_add ?_))); done)) | ((with_reducible refine Below.setCell ?_ ?_ _); rotate_left; focus (((try dsimp only); repeat (first | omega | simp only [World.size_alloc, World.size_setCell, World.size_drew] | (with_reducible refine le_ext_of ?_) | (with_reducible refine le_ext_add ?_))); done)) | (with_reducible refine Below.drew ?_)))) HB2.out.size))) HBAD.out (HNV.out.below (HB2.out.trans (Below.mono (by (repeat (first | (with_reducible exact Below.refl _ _) | (with_reducible assumption) | ((with_reducible refine below_ext_trans ?_ ?_ _); rotate_left; focus (((try dsimp only); repeat (first | omega | simp only [World.size_alloc, World.size_setCell, World.size_drew] | (with_reducible refine le_ext_of ?_) | (with_reducible refine le_ext_add ?_))); done)) | ((with_reducible refine Below.alloc ?_ ?_ _); rotate_left; focus (((try dsimp only); repeat (first | omega | simp only [World.size_alloc, World.size_setCell, World.size_drew] | (with_reducible refine le_ext_of ?_) | (with_reducible refine le_ext_add ?_))); done)) | ((with_reducible refine Below.setCell ?_ ?_ _); rotate_left; focus (((try dsimp only); repeat (first | omega | simp only [World.size_alloc, World.size_setCell, World.size_drew] | (with_reducible refine le_ext_of ?_) | (with_reducible refine le_ext_add ?_))); done)) | (with_reducible refine Below.drew ?_)))) HB2.out.size)))).mono ?_; rintro e w1 ⟨rfl, y8, rfl⟩)
        generalize hE3 : ext U2 y8 = U3 at *
        have hB3 : Below U2.heap.size U2 U3 := by rw [← hE3]; (repeat (first | (with_reducible exact Below.refl _ _) | (with_reducible assumption) | ((with_reducible refine below_ext_trans ?_ ?_ _); rotate_left; focus (((try dsimp only); repeat (first | omega | simp only [World.size_alloc, World.size_setCell, World.size_drew] | (with_reducible refine le_ext_of ?_) | (with_reducible refine le_ext_add ?_))); done)) | ((with_reducible refine Below.alloc ?_ ?_ _); rotate_left; focus (((try dsimp only); repeat (first | omega | simp only [World.size_alloc, World.size_setCell, World.size_drew] | (with_reducible refine le_ext_of ?_) | (with_reducible refine le_ext_add ?_))); done)) | ((with_reducible refine Below.setCell ?_ ?_ _); rotate_left; focus (((try dsimp only); repeat (first | omega | simp only [World.size_alloc, World.size_setCell, World.size_drew] | (with_reducible refine le_ext_of ?_) | (with_reducible refine le_ext_add ?_))); done)) | (with_reducible refine Below.drew ?_)))
        have HB3 := Lib.hid (HB2.out.trans (hB3.mono HB2.out.size))
        have HK3 := Lib.hid (HK2.out.bel hB3)
        clear hE3 hB3 HB2 HK2 c0 c1 c2 c3 hl
        have c0 := (HK3.out.cell (k * 4)).trans HRW.out.1
        have c1 := (HK3.out.cell (k * 4 + 1)).trans HRW.out.2.1
        have c2 := (HK3.out.cell (k * 4 + 2)).trans HRW.out.2.2.1
        have c3 := (HK3.out.cell (k * 4 + 3)).trans HRW.out.2.2.2
        have hl := HK3.out.lt
        go_upto_region 20 with (go_at_call 29; refine (Hangs_err h9 b9 (-1) 20 _ (by decide) (OpenErr.bad _ (HAT.out _ (HB3.out.trans (Below.mono (by (repeat (first | (with_reducible exact Below.refl _ _) | (with_reducible assumption) | ((with_reducible refine below_ext_trans ?_ ?_ _); rotate_left; focus (((try dsimp only); repeat (first | omega | simp only [World.size_alloc, World.size_setCell, World.size_drew] | (with_reducible refine le_ext_of ?_) | (with_reducible refine le_ext_add ?_))); done)) | ((with_reducible refine Below.alloc ?_ ?_ _); rotate_left; focus (((try dsimp only); repeat (first | omega | simp only [World.size_alloc, World.size_setCell, World.size_drew] | (with_reducible refine le_ext_of ?_) | (with_reducible refine le_ext_add ?_))); done)) | ((with_reducible refine Below.setCell ?_ ?_ _); rotate_left; focus (((try dsimp only); repeat (first | omega | simp only [World.size_alloc, World.size_setCell, World.size_drew] | (with_reducible refine le_ext_of ?_) | (with_reducible refine le_ext_add ?_))); done)) | (with_reducible refine Below.drew ?_)))) HB3.out.size))) HBAD.out)).mono ?_; rintro e w1 ⟨rfl, y8, rfl⟩)
        generalize hE4 : ext U3 y8 = U4 at *
        have hB4 : Below U3.heap.size U3 U4 := by rw [← hE4]; (repeat (first | (with_reducible exact Below.refl _ _) | (with_reducible assumption) | ((with_reducible refine below_ext_trans ?_ ?_ _); rotate_left; focus (((try dsimp only); repeat (first | omega | simp only [World.size_alloc, World.size_setCell, World.size_drew] | (with_reducible refine le_ext_of ?_) | (with_reducible refine le_ext_add ?_))); done)) | ((with_reducible refine Below.alloc ?_ ?_ _); rotate_left; focus (((try dsimp only); repeat (first | omega | simp only [World.size_alloc, World.size_setCell, World.size_drew] | (with_reducible refine le_ext_of ?_) | (with_reducible refine le_ext_add ?_))); done)) | ((with_reducible refine Below.setCell ?_ ?_ _); rotate_left; focus (((try dsimp only); repeat (first | omega | simp only [World.size_alloc, World.size_setCell, World.size_drew] | (with_reducible refine le_ext_of ?_) | (with_reducible refine le_ext_add ?_))); done)) | (with_reducible refine Below.drew ?_)))
        have HB4 := Lib.hid (HB3.out.trans (hB4.mono HB3.out.size))
        have HK4 := Lib.hid (HK3.out.bel hB4)
        clear hE4 hB4 HB3 HK3 c0 c1 c2 c3 hl
        have c0 := (HK4.out.cell (k * 4)).trans HRW.out.1
        have c1 := (HK4.out.cell (k * 4 + 1)).trans HRW.out.2.1
        have c2 := (HK4.out.cell (k * 4 + 2)).trans HRW.out.2.2.1
        have c3 := (HK4.out.cell (k * 4 + 3)).trans HRW.out.2.2.2
        have hl := HK4.out.lt
        go_upto_region 21 with (go_at_call 37; refine (First_err h9 b9 (-1) (-1) 20 _ (by decide) (OpenErr.bad _ (HAT.out _ (HB4.out.trans (Below.mono (by (repeat (first | (with_reducible exact Below.refl _ _) | (with_reducible assumption) | ((with_reducible refine below_ext_trans ?_ ?_ _); rotate_left; focus (((try dsimp only); repeat (first | omega | simp only [World.size_alloc, World.size_setCell, World.size_drew] | (with_reducible refine le_ext_of ?_) | (with_reducible refine le_ext_add ?_))); done)) | ((with_reducible refine Below.alloc ?_ ?_ _); rotate_left; focus (((try dsimp only); repeat (first | omega | simp only [World.size_alloc, World.size_setCell, World.size_drew] | (with_reducible refine le_ext_of ?_) | (with_reducible refine le_ext_add ?_))); done)) | ((with_reducible refine Below.setCell ?_ ?_ _); rotate_left; focus (((try dsimp only); repeat (first | omega | simp only [World.size_alloc, World.size_setCell, World.size_drew] | (with_reducible refine le_ext_of ?_) | (with_reducible refine le_ext_add ?_))); done)) | (with_reducible refine Below.drew ?_)))) HB4.out.size))) HBAD.out)).mono ?_; rintro e w1 ⟨rfl, y8, rfl⟩)
        generalize hE5 : ext U4 y8 = U5 at *
        have hB5 : Below U4.heap.size U4 U5 := by rw [← hE5]; (repeat (first | (with_reducible exact Below.refl _ _) | (with_reducible assumption) | ((with_reducible refine below_ext_trans ?_ ?_ _); rotate_left; focus (((try dsimp only); repeat (first | omega | simp only [World.size_alloc, World.size_setCell, World.size_drew] | (with_reducible refine le_ext_of ?_) | (with_reducible refine le_ext_add ?_))); done)) | ((with_reducible refine Below.alloc ?_ ?_ _); rotate_left; focus (((try dsimp only); repeat (first | omega | simp only [World.size_alloc, World.size_setCell, World.size_drew] | (with_reducible refine le_ext_of ?_) | (with_reducible refine le_ext_add ?_))); done)) | ((with_reducible refine Below.setCell ?_ ?_ _); rotate_left; focus (((try dsimp only); repeat (first | omega | simp only [World.size_alloc, World.size_setCell, World.size_drew] | (with_reducible refine le_ext_of ?_) | (with_reducible refine le_ext_add ?_))); done)) | (with_reducible refine Below.drew ?_)))
        have HB5 := Lib.hid (HB4.out.trans (hB5.mono HB4.out.size))
        have HK5 := Lib.hid (HK4.out.bel hB5)
        clear hE5 hB5 HB4 HK4 c0 c1 c2 c3 hl
        have c0 := (HK5.out.cell (k * 4)).trans HRW.out.1
        have c1 := (HK5.out.cell (k * 4 + 1)).trans HRW.out.2.1
        have c2 := (HK5.out.cell (k * 4 + 2)).trans HRW.out.2.2.1
        have c3 := (HK5.out.cell (k * 4 + 3)).trans HRW.out.2.2.2
        have hl := HK5.out.lt
        go_upto_region 22 with (go_at_call 34; refine (Sure_err h9 b9 (-1) (-1) 20 _ (by decide) (OpenErr.bad _ (HAT.out _ (HB5.out.trans (Below.mono (by (repeat (first | (with_reducible exact Below.refl _ _) | (with_reducible assumption) | ((with_reducible refine below_ext_trans ?_ ?_ _); rotate_left; focus (((try dsimp only); repeat (first | omega | simp only [World.size_alloc, World.size_setCell, World.size_drew] | (with_reducible refine le_ext_of ?_) | (with_reducible refine le_ext_add ?_))); done)) | ((with_reducible refine Below.alloc ?_ ?_ _); rotate_left; focus (((try dsimp only); repeat (first | omega | simp only [World.size_alloc, World.size_setCell, World.size_drew] | (with_reducible refine le_ext_of ?_) | (with_reducible refine le_ext_add ?_))); done)) | ((with_reducible refine Below.setCell ?_ ?_ _); rotate_left; focus (((try dsimp only); repeat (first | omega | simp only [World.size_alloc, World.size_setCell, World.size_drew] | (with_reducible refine le_ext_of ?_) | (with_reducible refine le_ext_add ?_))); done)) | (with_reducible refine Below.drew ?_)))) HB5.out.size))) HBAD.out)).mono ?_; rintro e w1 ⟨rfl, y8, rfl⟩)
        generalize hE6 : ext U5 y8 = U6 at *
        have hB6 : Below U5.heap.size U5 U6 := by rw [← hE6]; (repeat (first | (with_reducible exact Below.refl _ _) | (with_reducible assumption) | ((with_reducible refine below_ext_trans ?_ ?_ _); rotate_left; focus (((try dsimp only); repeat (first | omega | simp only [World.size_alloc, World.size_setCell, World.size_drew] | (with_reducible refine le_ext_of ?_) | (with_reducible refine le_ext_add ?_))); done)) | ((with_reducible refine Below.alloc ?_ ?_ _); rotate_left; focus (((try dsimp only); repeat (first | omega | simp only [World.size_alloc, World.size_setCell, World.size_drew] | (with_reducible refine le_ext_of ?_) | (with_reducible refine le_ext_add ?_))); done)) | ((with_reducible refine Below.setCell ?_ ?_ _); rotate_left; focus (((try dsimp only); repeat (first | omega | simp only [World.size_alloc, World.size_setCell, World.size_drew] | (with_reducible refine le_ext_of ?_) | (with_reducible refine le_ext_add ?_))); done)) | (with_reducible refine Below.drew ?_)))
        have HB6 := Lib.hid (HB5.out.trans (hB6.mono HB5.out.size))
        have HK6 := Lib.hid (HK5.out.bel hB6)
        clear hE6 hB6 HB5 HK5 c0 c1 c2 c3 hl
        have c0 := (HK6.out.cell (k * 4)).trans HRW.out.1
        have c1 := (HK6.out.cell (k * 4 + 1)).trans HRW.out.2.1
        have c2 := (HK6.out.cell (k * 4 + 2)).trans HRW.out.2.2.1
        have c3 := (HK6.out.cell (k * 4 + 3)).trans HRW.out.2.2.2
        have hl := HK6.out.lt
        go_upto_region 23 with (go_at_call 21; refine (Wrong_bad h9 b9 _ (HAT.out _ (HB6.out.trans (Below.mono (by (repeat (first | (with_reducible exact Below.refl _ _) | (with_reducible assumption) | ((with_reducible refine below_ext_trans ?_ ?_ _); rotate_left; focus (((try dsimp only); repeat (first | omega | simp only [World.size_alloc, World.size_setCell, World.size_drew] | (with_reducible refine le_ext_of ?_) | (with_reducible refine le_ext_add ?_))); done)) | ((with_reducible refine Below.alloc ?_ ?_ _); rotate_left; focus (((try dsimp only); repeat (first | omega | simp only [World.size_alloc, World.size_setCell, World.size_drew] | (with_reducible refine le_ext_of ?_) | (with_reducible refine le_ext_add ?_))); done)) | ((with_reducible refine Below.setCell ?_ ?_ _); rotate_left; focus (((try dsimp only); repeat (first | omega | simp only [World.size_alloc, World.size_setCell, World.size_drew] | (with_reducible refine le_ext_of ?_) | (with_reducible refine le_ext_add ?_))); done)) | (with_reducible refine Below.drew ?_)))) HB6.out.size))) HBAD.out).mono ?_; rintro e w1 ⟨rfl, y8, rfl⟩)
        generalize hE7 : ext U6 y8 = U7 at *
        have hB7 : Below U6.heap.size U6 U7 := by rw [← hE7]; (repeat (first | (with_reducible exact Below.refl _ _) | (with_reducible assumption) | ((with_reducible refine below_ext_trans ?_ ?_ _); rotate_left; focus (((try dsimp only); repeat (first | omega | simp only [World.size_alloc, World.size_setCell, World.size_drew] | (with_reducible refine le_ext_of ?_) | (with_reducible refine le_ext_add ?_))); done)) | ((with_reducible refine Below.alloc ?_ ?_ _); rotate_left; focus (((try dsimp only); repeat (first | omega | simp only [World.size_alloc, World.size_setCell, World.size_drew] | (with_reducible refine le_ext_of ?_) | (with_reducible refine le_ext_add ?_))); done)) | ((with_reducible refine Below.setCell ?_ ?_ _); rotate_left; focus (((try dsimp only); repeat (first | omega | simp only [World.size_alloc, World.size_setCell, World.size_drew] | (with_reducible refine le_ext_of ?_) | (with_reducible refine le_ext_add ?_))); done)) | (with_reducible refine Below.drew ?_)))
        have HB7 := Lib.hid (HB6.out.trans (hB7.mono HB6.out.size))
        have HK7 := Lib.hid (HK6.out.bel hB7)
        clear hE7 hB7 HB6 HK6 c0 c1 c2 c3 hl
        have c0 := (HK7.out.cell (k * 4)).trans HRW.out.1
        have c1 := (HK7.out.cell (k * 4 + 1)).trans HRW.out.2.1
        have c2 := (HK7.out.cell (k * 4 + 2)).trans HRW.out.2.2.1
        have c3 := (HK7.out.cell (k * 4 + 3)).trans HRW.out.2.2.2
        have hl := HK7.out.lt
        go_upto_region 24 with (go_at_call 38; refine (Learn_bad h9 b9 _ (HAT.out _ (HB7.out.trans (Below.mono (by (repeat (first | (with_reducible exact Below.refl _ _) | (with_reducible assumption) | ((with_reducible refine below_ext_trans ?_ ?_ _); rotate_left; focus (((try dsimp only); repeat (first | omega | simp only [World.size_alloc, World.size_setCell, World.size_drew] | (with_reducible refine le_ext_of ?_) | (with_reducible refine le_ext_add ?_))); done)) | ((with_reducible refine Below.alloc ?_ ?_ _); rotate_left; focus (((try dsimp only); repeat (first | omega | simp only [World.size_alloc, World.size_setCell, World.size_drew] | (with_reducible refine le_ext_of ?_) | (with_reducible refine le_ext_add ?_))); done)) | ((with_reducible refine Below.setCell ?_ ?_ _); rotate_left; focus (((try dsimp only); repeat (first | omega | simp only [World.size_alloc, World.size_setCell, World.size_drew] | (with_reducible refine le_ext_of ?_) | (with_reducible refine le_ext_add ?_))); done)) | (with_reducible refine Below.drew ?_)))) HB7.out.size))) HBAD.out).mono ?_; rintro e w1 ⟨rfl, y8, rfl⟩)
        generalize hE8 : ext U7 y8 = U8 at *
        have hB8 : Below U7.heap.size U7 U8 := by rw [← hE8]; (repeat (first | (with_reducible exact Below.refl _ _) | (with_reducible assumption) | ((with_reducible refine below_ext_trans ?_ ?_ _); rotate_left; focus (((try dsimp only); repeat (first | omega | simp only [World.size_alloc, World.size_setCell, World.size_drew] | (with_reducible refine le_ext_of ?_) | (with_reducible refine le_ext_add ?_))); done)) | ((with_reducible refine Below.alloc ?_ ?_ _); rotate_left; focus (((try dsimp only); repeat (first | omega | simp only [World.size_alloc, World.size_setCell, World.size_drew] | (with_reducible refine le_ext_of ?_) | (with_reducible refine le_ext_add ?_))); done)) | ((with_reducible refine Below.setCell ?_ ?_ _); rotate_left; focus (((try dsimp only); repeat (first | omega | simp only [World.size_alloc, World.size_setCell, World.size_drew] | (with_reducible refine le_ext_of ?_) | (with_reducible refine le_ext_add ?_))); done)) | (with_reducible refine Below.drew ?_)))
        have HB8 := Lib.hid (HB7.out.trans (hB8.mono HB7.out.size))
        have HK8 := Lib.hid (HK7.out.bel hB8)
        clear hE8 hB8 HB7 HK7 c0 c1 c2 c3 hl
        have c0 := (HK8.out.cell (k * 4)).trans HRW.out.1
        have c1 := (HK8.out.cell (k * 4 + 1)).trans HRW.out.2.1
        have c2 := (HK8.out.cell (k * 4 + 2)).trans HRW.out.2.2.1
        have c3 := (HK8.out.cell (k * 4 + 3)).trans HRW.out.2.2.2
        have hl := HK8.out.lt
        go_wp2_with (go_at_call 43; refine (Check_no h9 b9 _ (HAT.out _ (HB8.out.trans (Below.mono (by (repeat (first | (with_reducible exact Below.refl _ _) | (with_reducible assumption) | ((with_reducible refine below_ext_trans ?_ ?_ _); rotate_left; focus (((try dsimp only); repeat (first | omega | simp only [World.size_alloc, World.size_setCell, World.size_drew] | (with_reducible refine le_ext_of ?_) | (with_reducible refine le_ext_add ?_))); done)) | ((with_reducible refine Below.alloc ?_ ?_ _); rotate_left; focus (((try dsimp only); repeat (first | omega | simp only [World.size_alloc, World.size_setCell, World.size_drew] | (with_reducible refine le_ext_of ?_) | (with_reducible refine le_ext_add ?_))); done)) | ((with_reducible refine Below.setCell ?_ ?_ _); rotate_left; focus (((try dsimp only); repeat (first | omega | simp only [World.size_alloc, World.size_setCell, World.size_drew] | (with_reducible refine le_ext_of ?_) | (with_reducible refine le_ext_add ?_))); done)) | (with_reducible refine Below.drew ?_)))) HB8.out.size))) HBAD.out).mono ?_; rintro e w1 ⟨rfl, y8, rfl⟩)
        go_roundw
        case rel => exact ⟨k + 1, by omega, by go_num, by refine ext_of (HBV.out.trans (Below.mono ?_ HBV.out.size)); exact (HB8.out.trans (Below.mono (by (repeat (first | (with_reducible exact Below.refl _ _) | (with_reducible assumption) | ((with_reducible refine below_ext_trans ?_ ?_ _); rotate_left; focus (((try dsimp only); repeat (first | omega | simp only [World.size_alloc, World.size_setCell, World.size_drew] | (with_reducible refine le_ext_of ?_) | (with_reducible refine le_ext_add ?_))); done)) | ((with_reducible refine Below.alloc ?_ ?_ _); rotate_left; focus (((try dsimp only); repeat (first | omega | simp only [World.size_alloc, World.size_setCell, World.size_drew] | (with_reducible refine le_ext_of ?_) | (with_reducible refine le_ext_add ?_))); done)) | ((with_reducible refine Below.setCell ?_ ?_ _); rotate_left; focus (((try dsimp only); repeat (first | omega | simp only [World.size_alloc, World.size_setCell, World.size_drew] | (with_reducible refine le_ext_of ?_) | (with_reducible refine le_ext_add ?_))); done)) | (with_reducible refine Below.drew ?_)))) HB8.out.size))⟩
        case measure => simp [intOf]; omega
      · obtain rfl : k = 14 := by omega
        go_wp2_with fail
        go_meet
        exact HW.out.trans (hBV.mono HW.out.size)
  have HWX := Lib.hid hcut
  clear hcut HI HW
  generalize wc = V0 at *
  have HW0 := HWX
  clear HWX
  apply_assumption
  exact known_second w V0 _ rfl rfl HN.out HW0.out
end Go.Proofs.YtdmicngnbcdkdaaDoor

