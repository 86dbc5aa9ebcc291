/- SeineKnown: the law itself. Written by gen_sknown1.py. -/
import Derived.Test.YtjjfpbjdcmkkhaaDoorQLo
import Derived.Test.YtjjfpbjdcmkkhaaDoorQLm
import Derived.Test.YtjjfpbjdcmkkhaaDoorQJf
set_option linter.unusedSimpArgs false
set_option linter.unusedVariables false
namespace Go.Proofs.YtjjfpbjdcmkkhaaDoor
open Go Go.RowKit Go.Shelf
attribute [local go_sem] Oper.semAt_some frozen_alloc_lt
set_option maxRecDepth 100000 in
set_option maxHeartbeats 16000000 in
theorem SeineKnown_any (w : World) (hn : MM w) : Calls Tryd.prog 13 #[] w fun e w' => e = .returned (.bool true) ∧ ∃ x, w' = ext w x := by
  have HN := Lib.hid hn
  clear hn
  go_enter Tryd.func13, Tryd.ntmps13
  go_upto_region 1 with fail
  refine wp_region_flowA 17 480 (booksR w.heap.size) (fun f a w' => Below w.heap.size w w' ∧ Dist f a) (by kernel_rfl) (by kernel_rfl) rfl ⟨Below.drew (Below.refl _ _), fun i j _ _ _ h => by cases h⟩ ?_ ?_
  · intro i hin f a X s1 s2 s3 rows wf wb fi st KK hKK
    have hold : ∀ j, isB j = true → f j = true → ∀ g, a.tmps.getD (52 + j) undef = bkv g → g < X.heap.size := by
      intro j hj hfj g hg
      have hj' : j = 10 ∨ j = 11 ∨ j = 12 ∨ j = 13 ∨ j = 14 ∨ j = 15 := by
        simp only [isB, decide_eq_true_eq] at hj
        omega
      have key : ∀ g1, a.tmps.getD (52 + j) undef = bkv g1 → g1 < X.heap.size → g < X.heap.size := fun g1 e h => by
        have := e.symm.trans hg
        have : g1 = g := by simpa [bkv] using this
        omega
      rcases hj' with rfl | rfl | rfl | rfl | rfl | rfl
      · obtain ⟨g1, e, -, k⟩ := rows 10 (by omega) hfj; exact key g1 e k.lt
      · obtain ⟨g1, e, -, k⟩ := rows 11 (by omega) hfj; exact key g1 e k.lt
      · obtain ⟨g1, e, -, k⟩ := rows 12 (by omega) hfj; exact key g1 e k.lt
      · obtain ⟨g1, e, -, k⟩ := rows 13 (by omega) hfj; exact key g1 e k.lt
      · obtain ⟨g1, e, -, k⟩ := rows 14 (by omega) hfj; exact key g1 e k.lt
      · obtain ⟨g1, e, -, k⟩ := rows 15 (by omega) hfj; exact key g1 e k.lt
    have kept : ∀ (f' : Nat → Bool) (w' : World), Below X.heap.size X w' → ∀ (j : Nat) (u : Value), j < 17 → booksR w.heap.size f j u X → booksR w.heap.size f' j u w' := fun f' w' hb j u hj h => booksR_kept _ _ _ j hj _ _ _ h hb
    match i, hin with
    | 0, _ =>
      refine st_call rfl rfl (wanted_none rfl) (consts2 _ _) (run_enter Tryd.func48 (by kernel_rfl) (by kernel_rfl) _) ?_
      refine (To_any _ _ _).mono ?_
      rintro e w1 ⟨rfl, y, rfl⟩
      exact ⟨_, rfl, hKK _ _ rfl (fun j hj _ _ h => kept _ _ (below_ext _ _) j _ hj h) ⟨st.1.trans ((below_ext _ _).mono st.1.size), st.2.other (i := 0) rfl _⟩⟩
    | 1, _ => exact st_val rfl (wanted_none rfl) (run_bBk0 _ rfl (rows 0 (by omega) (wf 0 (by kernel_rfl)))) (hKK _ _ rfl (fun j hj _ _ h => kept _ _ (Below.refl _ _) j _ hj h) ⟨st.1.trans ((Below.refl _ _).mono st.1.size), st.2.other (i := 1) rfl _⟩)
    | 2, _ =>
      refine st_call rfl rfl (wanted_none rfl) (consts2 _ _) (run_enter Tryd.func48 (by kernel_rfl) (by kernel_rfl) _) ?_
      refine (To_any _ _ _).mono ?_
      rintro e w1 ⟨rfl, y, rfl⟩
      exact ⟨_, rfl, hKK _ _ rfl (fun j hj _ _ h => kept _ _ (below_ext _ _) j _ hj h) ⟨st.1.trans ((below_ext _ _).mono st.1.size), st.2.other (i := 2) rfl _⟩⟩
    | 3, _ => exact st_val rfl (wanted_none rfl) (run_bBk0 _ rfl (rows 2 (by omega) (wf 2 (by kernel_rfl)))) (hKK _ _ rfl (fun j hj _ _ h => kept _ _ (Below.refl _ _) j _ hj h) ⟨st.1.trans ((Below.refl _ _).mono st.1.size), st.2.other (i := 3) rfl _⟩)
    | 4, _ =>
      refine st_call rfl rfl (wanted_none rfl) (consts2 _ _) (run_enter Tryd.func48 (by kernel_rfl) (by kernel_rfl) _) ?_
      refine (To_any _ _ _).mono ?_
      rintro e w1 ⟨rfl, y, rfl⟩
      exact ⟨_, rfl, hKK _ _ rfl (fun j hj _ _ h => kept _ _ (below_ext _ _) j _ hj h) ⟨st.1.trans ((below_ext _ _).mono st.1.size), st.2.other (i := 4) rfl _⟩⟩
    | 5, _ => exact st_val rfl (wanted_none rfl) (run_bBk0 _ rfl (rows 4 (by omega) (wf 4 (by kernel_rfl)))) (hKK _ _ rfl (fun j hj _ _ h => kept _ _ (Below.refl _ _) j _ hj h) ⟨st.1.trans ((Below.refl _ _).mono st.1.size), st.2.other (i := 5) rfl _⟩)
    | 6, _ =>
      refine st_call rfl rfl (wanted_none rfl) (consts2 _ _) (run_enter Tryd.func48 (by kernel_rfl) (by kernel_rfl) _) ?_
      refine (To_any _ _ _).mono ?_
      rintro e w1 ⟨rfl, y, rfl⟩
      exact ⟨_, rfl, hKK _ _ rfl (fun j hj _ _ h => kept _ _ (below_ext _ _) j _ hj h) ⟨st.1.trans ((below_ext _ _).mono st.1.size), st.2.other (i := 6) rfl _⟩⟩
    | 7, _ => exact st_val rfl (wanted_none rfl) (run_bBk0 _ rfl (rows 6 (by omega) (wf 6 (by kernel_rfl)))) (hKK _ _ rfl (fun j hj _ _ h => kept _ _ (Below.refl _ _) j _ hj h) ⟨st.1.trans ((Below.refl _ _).mono st.1.size), st.2.other (i := 7) rfl _⟩)
    | 8, _ => exact st_valw rfl (wanted_none rfl) (run_mk9 _ rfl rfl) (hKK _ _ ⟨_, rfl, Blk.new rfl⟩ (fun j hj _ _ h => kept _ _ ((Below.refl _ _).alloc (Nat.le_refl _) _) j _ hj h) ⟨st.1.trans (((Below.refl _ _).alloc (Nat.le_refl _) _).mono st.1.size), st.2.other (i := 8) rfl _⟩)
    | 9, _ =>
      obtain ⟨g, e, k⟩ := rows 8 (by omega) (wf 8 (by kernel_rfl))
      exact st_val rfl (wanted_none rfl) (run_bBk1 _ rfl e) (hKK _ _ ⟨g, rfl, k⟩ (fun j hj _ _ h => kept _ _ (Below.refl _ _) j _ hj h) ⟨st.1.trans ((Below.refl _ _).mono st.1.size), st.2.other (i := 9) rfl _⟩)
    | 10, _ =>
      refine st_call rfl rfl (wanted_none rfl) (vs := #[.slice none 0 0]) (by simp [Act.eval]) (run_enter Tryd.func49 (by kernel_rfl) (by kernel_rfl) _) ?_
      refine (book_blk _).mono ?_
      rintro e w1 ⟨g, hg, rfl, hk, hb⟩
      exact ⟨_, rfl, hKK _ _ ⟨g, rfl, Nat.le_trans st.1.size hg, hk⟩ (fun j hj _ _ h => kept _ _ (hb) j _ hj h) ⟨st.1.trans ((hb).mono st.1.size), st.2.new (i := 10) (by rw [s1]; decide) hg hold⟩⟩
    | 11, _ =>
      refine st_call rfl rfl (wanted_none rfl) (vs := #[.slice none 0 0]) (by simp [Act.eval]) (run_enter Tryd.func49 (by kernel_rfl) (by kernel_rfl) _) ?_
      refine (book_blk _).mono ?_
      rintro e w1 ⟨g, hg, rfl, hk, hb⟩
      exact ⟨_, rfl, hKK _ _ ⟨g, rfl, Nat.le_trans st.1.size hg, hk⟩ (fun j hj _ _ h => kept _ _ (hb) j _ hj h) ⟨st.1.trans ((hb).mono st.1.size), st.2.new (i := 11) (by rw [s1]; decide) hg hold⟩⟩
    | 12, _ =>
      refine st_call rfl rfl (wanted_none rfl) (vs := #[.slice none 0 0]) (by simp [Act.eval]) (run_enter Tryd.func49 (by kernel_rfl) (by kernel_rfl) _) ?_
      refine (book_blk _).mono ?_
      rintro e w1 ⟨g, hg, rfl, hk, hb⟩
      exact ⟨_, rfl, hKK _ _ ⟨g, rfl, Nat.le_trans st.1.size hg, hk⟩ (fun j hj _ _ h => kept _ _ (hb) j _ hj h) ⟨st.1.trans ((hb).mono st.1.size), st.2.new (i := 12) (by rw [s1]; decide) hg hold⟩⟩
    | 13, _ =>
      refine st_call rfl rfl (wanted_none rfl) (vs := #[.slice none 0 0]) (by simp [Act.eval]) (run_enter Tryd.func49 (by kernel_rfl) (by kernel_rfl) _) ?_
      refine (book_blk _).mono ?_
      rintro e w1 ⟨g, hg, rfl, hk, hb⟩
      exact ⟨_, rfl, hKK _ _ ⟨g, rfl, Nat.le_trans st.1.size hg, hk⟩ (fun j hj _ _ h => kept _ _ (hb) j _ hj h) ⟨st.1.trans ((hb).mono st.1.size), st.2.new (i := 13) (by rw [s1]; decide) hg hold⟩⟩
    | 14, _ =>
      refine st_call rfl rfl (wanted_none rfl) (vs := #[.slice none 0 0]) (by simp [Act.eval]) (run_enter Tryd.func49 (by kernel_rfl) (by kernel_rfl) _) ?_
      refine (book_blk _).mono ?_
      rintro e w1 ⟨g, hg, rfl, hk, hb⟩
      exact ⟨_, rfl, hKK _ _ ⟨g, rfl, Nat.le_trans st.1.size hg, hk⟩ (fun j hj _ _ h => kept _ _ (hb) j _ hj h) ⟨st.1.trans ((hb).mono st.1.size), st.2.new (i := 14) (by rw [s1]; decide) hg hold⟩⟩
    | 15, _ =>
      refine st_call rfl rfl (wanted_none rfl) (vs := #[.slice none 0 0]) (by simp [Act.eval]) (run_enter Tryd.func49 (by kernel_rfl) (by kernel_rfl) _) ?_
      refine (book_blk _).mono ?_
      rintro e w1 ⟨g, hg, rfl, hk, hb⟩
      exact ⟨_, rfl, hKK _ _ ⟨g, rfl, Nat.le_trans st.1.size hg, hk⟩ (fun j hj _ _ h => kept _ _ (hb) j _ hj h) ⟨st.1.trans ((hb).mono st.1.size), st.2.new (i := 15) (by rw [s1]; decide) hg hold⟩⟩
    | 16, _ =>
      have e1 := rows 1 (by omega) (wf 1 (by kernel_rfl))
      have e3 := rows 3 (by omega) (wf 3 (by kernel_rfl))
      have e5 := rows 5 (by omega) (wf 5 (by kernel_rfl))
      have e7 := rows 7 (by omega) (wf 7 (by kernel_rfl))
      obtain ⟨g4, e9, k4⟩ := rows 9 (by omega) (wf 9 (by kernel_rfl))
      obtain ⟨g5, e10, z5, k5⟩ := rows 10 (by omega) (wf 10 (by kernel_rfl))
      obtain ⟨g6, e11, z6, k6⟩ := rows 11 (by omega) (wf 11 (by kernel_rfl))
      obtain ⟨g7, e12, z7, k7⟩ := rows 12 (by omega) (wf 12 (by kernel_rfl))
      obtain ⟨g8, e13, z8, k8⟩ := rows 13 (by omega) (wf 13 (by kernel_rfl))
      obtain ⟨g9, e14, z9, k9⟩ := rows 14 (by omega) (wf 14 (by kernel_rfl))
      obtain ⟨g10, e15, z10, k10⟩ := rows 15 (by omega) (wf 15 (by kernel_rfl))
      have D := st.2
      have hne : [g5, g6, g7, g8, g9, g10].Pairwise (· ≠ ·) := by
        simp only [List.pairwise_cons, List.mem_cons, List.not_mem_nil, or_false, forall_eq_or_imp, forall_eq, List.Pairwise.nil, and_true]
        refine ⟨⟨D 10 11 rfl rfl (by decide) (wf 10 (by kernel_rfl)) (wf 11 (by kernel_rfl)) _ _ e10 e11, D 10 12 rfl rfl (by decide) (wf 10 (by kernel_rfl)) (wf 12 (by kernel_rfl)) _ _ e10 e12, D 10 13 rfl rfl (by decide) (wf 10 (by kernel_rfl)) (wf 13 (by kernel_rfl)) _ _ e10 e13, D 10 14 rfl rfl (by decide) (wf 10 (by kernel_rfl)) (wf 14 (by kernel_rfl)) _ _ e10 e14, D 10 15 rfl rfl (by decide) (wf 10 (by kernel_rfl)) (wf 15 (by kernel_rfl)) _ _ e10 e15⟩, ⟨D 11 12 rfl rfl (by decide) (wf 11 (by kernel_rfl)) (wf 12 (by kernel_rfl)) _ _ e11 e12, D 11 13 rfl rfl (by decide) (wf 11 (by kernel_rfl)) (wf 13 (by kernel_rfl)) _ _ e11 e13, D 11 14 rfl rfl (by decide) (wf 11 (by kernel_rfl)) (wf 14 (by kernel_rfl)) _ _ e11 e14, D 11 15 rfl rfl (by decide) (wf 11 (by kernel_rfl)) (wf 15 (by kernel_rfl)) _ _ e11 e15⟩, ⟨D 12 13 rfl rfl (by decide) (wf 12 (by kernel_rfl)) (wf 13 (by kernel_rfl)) _ _ e12 e13, D 12 14 rfl rfl (by decide) (wf 12 (by kernel_rfl)) (wf 14 (by kernel_rfl)) _ _ e12 e14, D 12 15 rfl rfl (by decide) (wf 12 (by kernel_rfl)) (wf 15 (by kernel_rfl)) _ _ e12 e15⟩, ⟨D 13 14 rfl rfl (by decide) (wf 13 (by kernel_rfl)) (wf 14 (by kernel_rfl)) _ _ e13 e14, D 13 15 rfl rfl (by decide) (wf 13 (by kernel_rfl)) (wf 15 (by kernel_rfl)) _ _ e13 e15⟩, D 14 15 rfl rfl (by decide) (wf 14 (by kernel_rfl)) (wf 15 (by kernel_rfl)) _ _ e14 e15, fun _ h => by cases h⟩
      have hb : ∀ o, Below X.heap.size X (X.alloc o) := fun o => (Below.refl _ _).alloc (Nat.le_refl _) o
      exact st_valw rfl (wanted_none rfl) (run_bs11 _ rfl e1 e3 e5 e7 e9 e10 e11 e12 e13 e14 e15) (hKK _ _ ⟨_, g4, g5, g6, g7, g8, g9, g10, rfl, ⟨Blk.new rfl, k4.bel (hb _), k5.bel (hb _), k6.bel (hb _), k7.bel (hb _), k8.bel (hb _), k9.bel (hb _), k10.bel (hb _), by simp only [List.mem_cons, List.not_mem_nil, or_false, forall_eq_or_imp, forall_eq]; exact ⟨z5, z6, z7, z8, z9, z10⟩, hne⟩⟩ (fun j hj _ _ h => kept _ _ (hb _) j _ hj h) ⟨st.1.trans ((hb _).mono st.1.size), st.2.other (i := 16) rfl _⟩)
    | k + 17, hk => omega
  intro a W1 h1 h2 h3 f hf hR hS
  obtain ⟨gB, g4, g5, g6, g7, g8, g9, g10, e68, hSix⟩ := hR 16 (by omega)
  have HW1 := Lib.hid hS.1
  obtain ⟨f, rfl⟩ := frame480 a h1 h2
  have e68 : f 68 = .slice (some ⟨gB, 0, none⟩) 11 11 := e68
  rw [e68]
  clear h1 h2 h3 hf hR hS e68
  change wpList _ _ _ (_ :: []) _ _
  have HSIX := Lib.hid hSix
  clear hSix
  have KB := Lib.hid HSIX.out.kB
  have K4 := Lib.hid HSIX.out.k4
  have K5 := Lib.hid HSIX.out.k5
  have K6 := Lib.hid HSIX.out.k6
  have K7 := Lib.hid HSIX.out.k7
  have K8 := Lib.hid HSIX.out.k8
  have K9 := Lib.hid HSIX.out.k9
  have K10 := Lib.hid HSIX.out.k10
  have HNE := Lib.hid HSIX.out.ne
  have HGE5 := Lib.hid (HSIX.out.ge g5 (by simp))
  have HGE6 := Lib.hid (HSIX.out.ge g6 (by simp))
  have HGE7 := Lib.hid (HSIX.out.ge g7 (by simp))
  have HGE8 := Lib.hid (HSIX.out.ge g8 (by simp))
  have HGE9 := Lib.hid (HSIX.out.ge g9 (by simp))
  have HGE10 := Lib.hid (HSIX.out.ge g10 (by simp))
  clear HSIX
  go_upto_region 2 with fail
  have hne := HNE.out
  simp only [List.pairwise_cons, List.mem_cons, List.not_mem_nil, or_false, forall_eq_or_imp, forall_eq, List.Pairwise.nil, and_true, ne_eq] at hne
  have HFB := Lib.hid (show gB ≠ g5 from fun e => by have h1 := KB.out; rw [e] at h1; have h2 := h1.symm.trans K5.out; simp at h2)
  have HF4 := Lib.hid (show g4 ≠ g5 from fun e => by have h1 := K4.out; rw [e] at h1; have h2 := h1.symm.trans K5.out; simp only [Option.some.injEq, Obj.cells.injEq] at h2; have h3 := congrArg Array.size h2.1; rw [zeroC_size] at h3; simp at h3)
  have HF6 := Lib.hid (show g6 ≠ g5 by omega)
  have HF7 := Lib.hid (show g7 ≠ g5 by omega)
  have HF8 := Lib.hid (show g8 ≠ g5 by omega)
  have HF9 := Lib.hid (show g9 ≠ g5 by omega)
  have HF10 := Lib.hid (show g10 ≠ g5 by omega)
  clear hne
  have qB := KB.out.cell 17
  have lB := KB.out.lt
  have q0 := K5.out.cell 0
  have f0 := K5.out.frozen 0
  have l0 := K5.out.lt
  simp only [List.size_toArray, List.length_cons, List.length_nil, Nat.reduceAdd, Nat.reduceLT, getElem?_pos, List.getElem_toArray, List.getElem_cons_zero, List.getElem_cons_succ] at qB q0
  go_upto_region 3 with fail
  clear qB lB q0 f0 l0
  generalize hX : W1.setCell ⟨g5, 0, none⟩ (.int .i64 5) = W2 at *
  have hBW : Below w.heap.size w W2 := by rw [← hX]; exact (HW1.out).setCell (by have h := HGE5.out; dsimp only; omega) _
  have HW2 := Lib.hid hBW
  have N5 := Lib.hid (show Blk W2 g5 38 #[.int .i64 5, .int .i64 6, .int .i64 30, .int .i64 30, .int .i64 1, .int .i64 8, .int .i64 1, .int .i64 3, .int .i64 2, .int .i64 18, .int .i64 0, .int .i64 0, .int .i64 4, .int .i64 20, .int .i64 45, .int .i64 55] by rw [← hX]; simpa using (K5.out.set 0 (.int .i64 5)))
  have NB := Lib.hid (show Blk W2 gB 26 #[.int .i64 1, .int .i64 0, .slice none 0 0, .int .i64 (-1), .int .i64 0, .slice none 0 0, .int .i64 395, .int .i64 401, .slice none 0 0, .int .i64 0, .int .i64 13, .slice none 0 0, .int .i64 0, .int .i64 0, .slice (some ⟨g4, 0, none⟩) 9 9, .int .i64 100, .int .i64 110, .slice (some ⟨g5, 0, none⟩) 4 4, .int .i64 100, .int .i64 110, .slice (some ⟨g6, 0, none⟩) 4 4, .int .i64 100, .int .i64 110, .slice (some ⟨g7, 0, none⟩) 4 4, .int .i64 100, .int .i64 110, .slice (some ⟨g8, 0, none⟩) 4 4, .int .i64 100, .int .i64 110, .slice (some ⟨g9, 0, none⟩) 4 4, .int .i64 100, .int .i64 110, .slice (some ⟨g10, 0, none⟩) 4 4] by rw [← hX]; exact (KB.out.setOther HFB.out _ _))
  have N4 := Lib.hid (show Blk W2 g4 38 zeroC by rw [← hX]; exact (K4.out.setOther HF4.out _ _))
  have N6 := Lib.hid (show Blk W2 g6 38 #[.int .i64 0, .int .i64 6, .int .i64 30, .int .i64 30, .int .i64 1, .int .i64 8, .int .i64 1, .int .i64 3, .int .i64 2, .int .i64 18, .int .i64 0, .int .i64 0, .int .i64 4, .int .i64 20, .int .i64 45, .int .i64 55] by rw [← hX]; exact (K6.out.setOther HF6.out _ _))
  have N7 := Lib.hid (show Blk W2 g7 38 #[.int .i64 0, .int .i64 6, .int .i64 30, .int .i64 30, .int .i64 1, .int .i64 8, .int .i64 1, .int .i64 3, .int .i64 2, .int .i64 18, .int .i64 0, .int .i64 0, .int .i64 4, .int .i64 20, .int .i64 45, .int .i64 55] by rw [← hX]; exact (K7.out.setOther HF7.out _ _))
  have N8 := Lib.hid (show Blk W2 g8 38 #[.int .i64 0, .int .i64 6, .int .i64 30, .int .i64 30, .int .i64 1, .int .i64 8, .int .i64 1, .int .i64 3, .int .i64 2, .int .i64 18, .int .i64 0, .int .i64 0, .int .i64 4, .int .i64 20, .int .i64 45, .int .i64 55] by rw [← hX]; exact (K8.out.setOther HF8.out _ _))
  have N9 := Lib.hid (show Blk W2 g9 38 #[.int .i64 0, .int .i64 6, .int .i64 30, .int .i64 30, .int .i64 1, .int .i64 8, .int .i64 1, .int .i64 3, .int .i64 2, .int .i64 18, .int .i64 0, .int .i64 0, .int .i64 4, .int .i64 20, .int .i64 45, .int .i64 55] by rw [← hX]; exact (K9.out.setOther HF9.out _ _))
  have N10 := Lib.hid (show Blk W2 g10 38 #[.int .i64 0, .int .i64 6, .int .i64 30, .int .i64 30, .int .i64 1, .int .i64 8, .int .i64 1, .int .i64 3, .int .i64 2, .int .i64 18, .int .i64 0, .int .i64 0, .int .i64 4, .int .i64 20, .int .i64 45, .int .i64 55] by rw [← hX]; exact (K10.out.setOther HF10.out _ _))
  clear hX hBW HW1 HFB HF4 KB K4 K5 K6 K7 K8 K9 K10 HF6 HF7 HF8 HF9 HF10
  have KB := NB
  have K4 := N4
  have K5 := N5
  have K6 := N6
  have K7 := N7
  have K8 := N8
  have K9 := N9
  have K10 := N10
  clear NB N4 N5 N6 N7 N8 N9 N10
  have hne := HNE.out
  simp only [List.pairwise_cons, List.mem_cons, List.not_mem_nil, or_false, forall_eq_or_imp, forall_eq, List.Pairwise.nil, and_true, ne_eq] at hne
  have HFB := Lib.hid (show gB ≠ g6 from fun e => by have h1 := KB.out; rw [e] at h1; have h2 := h1.symm.trans K6.out; simp at h2)
  have HF4 := Lib.hid (show g4 ≠ g6 from fun e => by have h1 := K4.out; rw [e] at h1; have h2 := h1.symm.trans K6.out; simp only [Option.some.injEq, Obj.cells.injEq] at h2; have h3 := congrArg Array.size h2.1; rw [zeroC_size] at h3; simp at h3)
  have HF5 := Lib.hid (show g5 ≠ g6 by omega)
  have HF7 := Lib.hid (show g7 ≠ g6 by omega)
  have HF8 := Lib.hid (show g8 ≠ g6 by omega)
  have HF9 := Lib.hid (show g9 ≠ g6 by omega)
  have HF10 := Lib.hid (show g10 ≠ g6 by omega)
  clear hne
  have qB := KB.out.cell 20
  have lB := KB.out.lt
  have q0 := K6.out.cell 1
  have f0 := K6.out.frozen 1
  have l0 := K6.out.lt
  simp only [List.size_toArray, List.length_cons, List.length_nil, Nat.reduceAdd, Nat.reduceLT, getElem?_pos, List.getElem_toArray, List.getElem_cons_zero, List.getElem_cons_succ] at qB q0
  go_upto_region 4 with fail
  clear qB lB q0 f0 l0
  generalize hX : W2.setCell ⟨g6, 1, none⟩ (.int .i64 9) = W3 at *
  have hBW : Below w.heap.size w W3 := by rw [← hX]; exact (HW2.out).setCell (by have h := HGE6.out; dsimp only; omega) _
  have HW3 := Lib.hid hBW
  have N6 := Lib.hid (show Blk W3 g6 38 #[.int .i64 0, .int .i64 9, .int .i64 30, .int .i64 30, .int .i64 1, .int .i64 8, .int .i64 1, .int .i64 3, .int .i64 2, .int .i64 18, .int .i64 0, .int .i64 0, .int .i64 4, .int .i64 20, .int .i64 45, .int .i64 55] by rw [← hX]; simpa using (K6.out.set 1 (.int .i64 9)))
  have NB := Lib.hid (show Blk W3 gB 26 #[.int .i64 1, .int .i64 0, .slice none 0 0, .int .i64 (-1), .int .i64 0, .slice none 0 0, .int .i64 395, .int .i64 401, .slice none 0 0, .int .i64 0, .int .i64 13, .slice none 0 0, .int .i64 0, .int .i64 0, .slice (some ⟨g4, 0, none⟩) 9 9, .int .i64 100, .int .i64 110, .slice (some ⟨g5, 0, none⟩) 4 4, .int .i64 100, .int .i64 110, .slice (some ⟨g6, 0, none⟩) 4 4, .int .i64 100, .int .i64 110, .slice (some ⟨g7, 0, none⟩) 4 4, .int .i64 100, .int .i64 110, .slice (some ⟨g8, 0, none⟩) 4 4, .int .i64 100, .int .i64 110, .slice (some ⟨g9, 0, none⟩) 4 4, .int .i64 100, .int .i64 110, .slice (some ⟨g10, 0, none⟩) 4 4] by rw [← hX]; exact (KB.out.setOther HFB.out _ _))
  have N4 := Lib.hid (show Blk W3 g4 38 zeroC by rw [← hX]; exact (K4.out.setOther HF4.out _ _))
  have N5 := Lib.hid (show Blk W3 g5 38 #[.int .i64 5, .int .i64 6, .int .i64 30, .int .i64 30, .int .i64 1, .int .i64 8, .int .i64 1, .int .i64 3, .int .i64 2, .int .i64 18, .int .i64 0, .int .i64 0, .int .i64 4, .int .i64 20, .int .i64 45, .int .i64 55] by rw [← hX]; exact (K5.out.setOther HF5.out _ _))
  have N7 := Lib.hid (show Blk W3 g7 38 #[.int .i64 0, .int .i64 6, .int .i64 30, .int .i64 30, .int .i64 1, .int .i64 8, .int .i64 1, .int .i64 3, .int .i64 2, .int .i64 18, .int .i64 0, .int .i64 0, .int .i64 4, .int .i64 20, .int .i64 45, .int .i64 55] by rw [← hX]; exact (K7.out.setOther HF7.out _ _))
  have N8 := Lib.hid (show Blk W3 g8 38 #[.int .i64 0, .int .i64 6, .int .i64 30, .int .i64 30, .int .i64 1, .int .i64 8, .int .i64 1, .int .i64 3, .int .i64 2, .int .i64 18, .int .i64 0, .int .i64 0, .int .i64 4, .int .i64 20, .int .i64 45, .int .i64 55] by rw [← hX]; exact (K8.out.setOther HF8.out _ _))
  have N9 := Lib.hid (show Blk W3 g9 38 #[.int .i64 0, .int .i64 6, .int .i64 30, .int .i64 30, .int .i64 1, .int .i64 8, .int .i64 1, .int .i64 3, .int .i64 2, .int .i64 18, .int .i64 0, .int .i64 0, .int .i64 4, .int .i64 20, .int .i64 45, .int .i64 55] by rw [← hX]; exact (K9.out.setOther HF9.out _ _))
  have N10 := Lib.hid (show Blk W3 g10 38 #[.int .i64 0, .int .i64 6, .int .i64 30, .int .i64 30, .int .i64 1, .int .i64 8, .int .i64 1, .int .i64 3, .int .i64 2, .int .i64 18, .int .i64 0, .int .i64 0, .int .i64 4, .int .i64 20, .int .i64 45, .int .i64 55] by rw [← hX]; exact (K10.out.setOther HF10.out _ _))
  clear hX hBW HW2 HFB HF4 KB K4 K5 K6 K7 K8 K9 K10 HF5 HF7 HF8 HF9 HF10
  have KB := NB
  have K4 := N4
  have K5 := N5
  have K6 := N6
  have K7 := N7
  have K8 := N8
  have K9 := N9
  have K10 := N10
  clear NB N4 N5 N6 N7 N8 N9 N10
  have hne := HNE.out
  simp only [List.pairwise_cons, List.mem_cons, List.not_mem_nil, or_false, forall_eq_or_imp, forall_eq, List.Pairwise.nil, and_true, ne_eq] at hne
  have HFB := Lib.hid (show gB ≠ g7 from fun e => by have h1 := KB.out; rw [e] at h1; have h2 := h1.symm.trans K7.out; simp at h2)
  have HF4 := Lib.hid (show g4 ≠ g7 from fun e => by have h1 := K4.out; rw [e] at h1; have h2 := h1.symm.trans K7.out; simp only [Option.some.injEq, Obj.cells.injEq] at h2; have h3 := congrArg Array.size h2.1; rw [zeroC_size] at h3; simp at h3)
  have HF5 := Lib.hid (show g5 ≠ g7 by omega)
  have HF6 := Lib.hid (show g6 ≠ g7 by omega)
  have HF8 := Lib.hid (show g8 ≠ g7 by omega)
  have HF9 := Lib.hid (show g9 ≠ g7 by omega)
  have HF10 := Lib.hid (show g10 ≠ g7 by omega)
  clear hne
  have qB := KB.out.cell 23
  have lB := KB.out.lt
  have q0 := K7.out.cell 13
  have f0 := K7.out.frozen 13
  have l0 := K7.out.lt
  simp only [List.size_toArray, List.length_cons, List.length_nil, Nat.reduceAdd, Nat.reduceLT, getElem?_pos, List.getElem_toArray, List.getElem_cons_zero, List.getElem_cons_succ] at qB q0
  go_upto_region 5 with fail
  clear qB lB q0 f0 l0
  generalize hX : W3.setCell ⟨g7, 13, none⟩ (.int .i64 61) = W4 at *
  have hBW : Below w.heap.size w W4 := by rw [← hX]; exact (HW3.out).setCell (by have h := HGE7.out; dsimp only; omega) _
  have HW4 := Lib.hid hBW
  have N7 := Lib.hid (show Blk W4 g7 38 #[.int .i64 0, .int .i64 6, .int .i64 30, .int .i64 30, .int .i64 1, .int .i64 8, .int .i64 1, .int .i64 3, .int .i64 2, .int .i64 18, .int .i64 0, .int .i64 0, .int .i64 4, .int .i64 61, .int .i64 45, .int .i64 55] by rw [← hX]; simpa using (K7.out.set 13 (.int .i64 61)))
  have NB := Lib.hid (show Blk W4 gB 26 #[.int .i64 1, .int .i64 0, .slice none 0 0, .int .i64 (-1), .int .i64 0, .slice none 0 0, .int .i64 395, .int .i64 401, .slice none 0 0, .int .i64 0, .int .i64 13, .slice none 0 0, .int .i64 0, .int .i64 0, .slice (some ⟨g4, 0, none⟩) 9 9, .int .i64 100, .int .i64 110, .slice (some ⟨g5, 0, none⟩) 4 4, .int .i64 100, .int .i64 110, .slice (some ⟨g6, 0, none⟩) 4 4, .int .i64 100, .int .i64 110, .slice (some ⟨g7, 0, none⟩) 4 4, .int .i64 100, .int .i64 110, .slice (some ⟨g8, 0, none⟩) 4 4, .int .i64 100, .int .i64 110, .slice (some ⟨g9, 0, none⟩) 4 4, .int .i64 100, .int .i64 110, .slice (some ⟨g10, 0, none⟩) 4 4] by rw [← hX]; exact (KB.out.setOther HFB.out _ _))
  have N4 := Lib.hid (show Blk W4 g4 38 zeroC by rw [← hX]; exact (K4.out.setOther HF4.out _ _))
  have N5 := Lib.hid (show Blk W4 g5 38 #[.int .i64 5, .int .i64 6, .int .i64 30, .int .i64 30, .int .i64 1, .int .i64 8, .int .i64 1, .int .i64 3, .int .i64 2, .int .i64 18, .int .i64 0, .int .i64 0, .int .i64 4, .int .i64 20, .int .i64 45, .int .i64 55] by rw [← hX]; exact (K5.out.setOther HF5.out _ _))
  have N6 := Lib.hid (show Blk W4 g6 38 #[.int .i64 0, .int .i64 9, .int .i64 30, .int .i64 30, .int .i64 1, .int .i64 8, .int .i64 1, .int .i64 3, .int .i64 2, .int .i64 18, .int .i64 0, .int .i64 0, .int .i64 4, .int .i64 20, .int .i64 45, .int .i64 55] by rw [← hX]; exact (K6.out.setOther HF6.out _ _))
  have N8 := Lib.hid (show Blk W4 g8 38 #[.int .i64 0, .int .i64 6, .int .i64 30, .int .i64 30, .int .i64 1, .int .i64 8, .int .i64 1, .int .i64 3, .int .i64 2, .int .i64 18, .int .i64 0, .int .i64 0, .int .i64 4, .int .i64 20, .int .i64 45, .int .i64 55] by rw [← hX]; exact (K8.out.setOther HF8.out _ _))
  have N9 := Lib.hid (show Blk W4 g9 38 #[.int .i64 0, .int .i64 6, .int .i64 30, .int .i64 30, .int .i64 1, .int .i64 8, .int .i64 1, .int .i64 3, .int .i64 2, .int .i64 18, .int .i64 0, .int .i64 0, .int .i64 4, .int .i64 20, .int .i64 45, .int .i64 55] by rw [← hX]; exact (K9.out.setOther HF9.out _ _))
  have N10 := Lib.hid (show Blk W4 g10 38 #[.int .i64 0, .int .i64 6, .int .i64 30, .int .i64 30, .int .i64 1, .int .i64 8, .int .i64 1, .int .i64 3, .int .i64 2, .int .i64 18, .int .i64 0, .int .i64 0, .int .i64 4, .int .i64 20, .int .i64 45, .int .i64 55] by rw [← hX]; exact (K10.out.setOther HF10.out _ _))
  clear hX hBW HW3 HFB HF4 KB K4 K5 K6 K7 K8 K9 K10 HF5 HF6 HF8 HF9 HF10
  have KB := NB
  have K4 := N4
  have K5 := N5
  have K6 := N6
  have K7 := N7
  have K8 := N8
  have K9 := N9
  have K10 := N10
  clear NB N4 N5 N6 N7 N8 N9 N10
  have hne := HNE.out
  simp only [List.pairwise_cons, List.mem_cons, List.not_mem_nil, or_false, forall_eq_or_imp, forall_eq, List.Pairwise.nil, and_true, ne_eq] at hne
  have HFB := Lib.hid (show gB ≠ g8 from fun e => by have h1 := KB.out; rw [e] at h1; have h2 := h1.symm.trans K8.out; simp at h2)
  have HF4 := Lib.hid (show g4 ≠ g8 from fun e => by have h1 := K4.out; rw [e] at h1; have h2 := h1.symm.trans K8.out; simp only [Option.some.injEq, Obj.cells.injEq] at h2; have h3 := congrArg Array.size h2.1; rw [zeroC_size] at h3; simp at h3)
  have HF5 := Lib.hid (show g5 ≠ g8 by omega)
  have HF6 := Lib.hid (show g6 ≠ g8 by omega)
  have HF7 := Lib.hid (show g7 ≠ g8 by omega)
  have HF9 := Lib.hid (show g9 ≠ g8 by omega)
  have HF10 := Lib.hid (show g10 ≠ g8 by omega)
  clear hne
  have HKB := Lib.hid KB.out
  refine wp_region_flow 7 480 (storR gB 8 g8 1 1 10) (by kernel_rfl) (by kernel_rfl) rfl (storR_kept _ _ _ _ _ _) ?_ ?_
  · intro i hin a X h1 h2 h3 h4 h5 KK hKK
    have kX := KB.out.bel h5
    have k0 := K8.out.bel h5
    match i, hin with
    | 0, _ => exact st_move rfl rfl (wanted_none rfl) (h3 1 (by kernel_rfl)) (hKK _ _ rfl (Below.refl _ _))
    | 1, _ => exact st_val rfl (wanted_none rfl) (run_ixB _ rfl (h4 0 (by kernel_rfl)) rfl (by decide) kX.lt rfl) (hKK _ _ rfl (Below.refl _ _))
    | 2, _ => exact st_val rfl (wanted_none rfl) (run_fB1 _ rfl (h4 1 (by kernel_rfl)) kX.lt) (hKK _ _ rfl (Below.refl _ _))
    | 3, _ => exact st_val rfl (wanted_none rfl) (run_lNotes _ rfl (h4 2 (by kernel_rfl)) (kX.cell 26)) (hKK _ _ rfl (Below.refl _ _))
    | 4, _ =>
      refine st_call rfl rfl (wanted_none rfl) (consts2 _ _) (run_enter Tryd.func48 (by kernel_rfl) (by kernel_rfl) _) ?_
      refine (To_any _ _ _).mono ?_
      rintro e w1 ⟨rfl, y, rfl⟩
      exact ⟨_, rfl, hKK _ _ rfl (below_ext _ _)⟩
    | 5, _ => exact st_val rfl (wanted_none rfl) (run_ixN _ rfl (h4 3 (by kernel_rfl)) rfl (by decide) k0.lt rfl) (hKK _ _ rfl (Below.refl _ _))
    | 6, _ => exact st_val rfl (wanted_none rfl) (run_fN2 _ rfl (h4 5 (by kernel_rfl)) k0.lt) (hKK _ _ rfl (Below.refl _ _))
    | k + 7, hk => omega
  intro a W5 h1 h2 h3 h4 hB5
  have e1 : a.tmps.getD 1 undef = .slice (some ⟨gB, 0, none⟩) 11 11 := h3 1 (by kernel_rfl)
  have ev : a.tmps.getD 91 undef = .agg #[.int .i64 1, .int .i64 10] := h4 4 (by decide)
  have ep : a.tmps.getD 93 undef = .pointer (some ⟨g8, 6, none⟩) := h4 6 (by decide)
  clear h3 h4 HKB
  obtain ⟨f, rfl⟩ := frame480 a h1 h2
  have e1 : f 1 = .slice (some ⟨gB, 0, none⟩) 11 11 := e1
  have ev : f 91 = .agg #[.int .i64 1, .int .i64 10] := ev
  have ep : f 93 = .pointer (some ⟨g8, 6, none⟩) := ep
  rw [e1, ev, ep]
  clear e1 ev ep h1 h2
  change wpList _ _ _ (_ :: []) _ _
  have hB : Below W4.heap.size W4 W5 := by exact hB5
  have HW5 := Lib.hid (HW4.out.trans (hB.mono HW4.out.size))
  have NB := Lib.hid (KB.out.bel hB)
  have N4 := Lib.hid (K4.out.bel hB)
  have N5 := Lib.hid (K5.out.bel hB)
  have N6 := Lib.hid (K6.out.bel hB)
  have N7 := Lib.hid (K7.out.bel hB)
  have N8 := Lib.hid (K8.out.bel hB)
  have N9 := Lib.hid (K9.out.bel hB)
  have N10 := Lib.hid (K10.out.bel hB)
  clear hB HW4 KB K4 K5 K6 K7 K8 K9 K10
  have KB := NB
  have K4 := N4
  have K5 := N5
  have K6 := N6
  have K7 := N7
  have K8 := N8
  have K9 := N9
  have K10 := N10
  clear NB N4 N5 N6 N7 N8 N9 N10
  clear hB5
  have q0 := K8.out.cell 6
  have f0 := K8.out.frozen 6
  have q1 := K8.out.cell 7
  have f1 := K8.out.frozen 7
  have l0 := K8.out.lt
  simp only [List.size_toArray, List.length_cons, List.length_nil, Nat.reduceAdd, Nat.reduceLT, getElem?_pos, List.getElem_toArray, List.getElem_cons_zero, List.getElem_cons_succ] at q0 q1
  go_upto_region 6 with fail
  clear q0 q1 f0 f1 l0
  generalize hX : (W5.setCell ⟨g8, 6, none⟩ (.int .i64 1)).setCell ⟨g8, 7, none⟩ (.int .i64 10) = W6 at *
  have hBW : Below w.heap.size w W6 := by rw [← hX]; exact ((HW5.out).setCell (by have h := HGE8.out; dsimp only; omega) _).setCell (by have h := HGE8.out; dsimp only; omega) _
  have HW6 := Lib.hid hBW
  have N8 := Lib.hid (show Blk W6 g8 38 #[.int .i64 0, .int .i64 6, .int .i64 30, .int .i64 30, .int .i64 1, .int .i64 8, .int .i64 1, .int .i64 10, .int .i64 2, .int .i64 18, .int .i64 0, .int .i64 0, .int .i64 4, .int .i64 20, .int .i64 45, .int .i64 55] by rw [← hX]; simpa using ((K8.out.set 6 (.int .i64 1)).set 7 (.int .i64 10)))
  have NB := Lib.hid (show Blk W6 gB 26 #[.int .i64 1, .int .i64 0, .slice none 0 0, .int .i64 (-1), .int .i64 0, .slice none 0 0, .int .i64 395, .int .i64 401, .slice none 0 0, .int .i64 0, .int .i64 13, .slice none 0 0, .int .i64 0, .int .i64 0, .slice (some ⟨g4, 0, none⟩) 9 9, .int .i64 100, .int .i64 110, .slice (some ⟨g5, 0, none⟩) 4 4, .int .i64 100, .int .i64 110, .slice (some ⟨g6, 0, none⟩) 4 4, .int .i64 100, .int .i64 110, .slice (some ⟨g7, 0, none⟩) 4 4, .int .i64 100, .int .i64 110, .slice (some ⟨g8, 0, none⟩) 4 4, .int .i64 100, .int .i64 110, .slice (some ⟨g9, 0, none⟩) 4 4, .int .i64 100, .int .i64 110, .slice (some ⟨g10, 0, none⟩) 4 4] by rw [← hX]; exact ((KB.out.setOther HFB.out _ _).setOther HFB.out _ _))
  have N4 := Lib.hid (show Blk W6 g4 38 zeroC by rw [← hX]; exact ((K4.out.setOther HF4.out _ _).setOther HF4.out _ _))
  have N5 := Lib.hid (show Blk W6 g5 38 #[.int .i64 5, .int .i64 6, .int .i64 30, .int .i64 30, .int .i64 1, .int .i64 8, .int .i64 1, .int .i64 3, .int .i64 2, .int .i64 18, .int .i64 0, .int .i64 0, .int .i64 4, .int .i64 20, .int .i64 45, .int .i64 55] by rw [← hX]; exact ((K5.out.setOther HF5.out _ _).setOther HF5.out _ _))
  have N6 := Lib.hid (show Blk W6 g6 38 #[.int .i64 0, .int .i64 9, .int .i64 30, .int .i64 30, .int .i64 1, .int .i64 8, .int .i64 1, .int .i64 3, .int .i64 2, .int .i64 18, .int .i64 0, .int .i64 0, .int .i64 4, .int .i64 20, .int .i64 45, .int .i64 55] by rw [← hX]; exact ((K6.out.setOther HF6.out _ _).setOther HF6.out _ _))
  have N7 := Lib.hid (show Blk W6 g7 38 #[.int .i64 0, .int .i64 6, .int .i64 30, .int .i64 30, .int .i64 1, .int .i64 8, .int .i64 1, .int .i64 3, .int .i64 2, .int .i64 18, .int .i64 0, .int .i64 0, .int .i64 4, .int .i64 61, .int .i64 45, .int .i64 55] by rw [← hX]; exact ((K7.out.setOther HF7.out _ _).setOther HF7.out _ _))
  have N9 := Lib.hid (show Blk W6 g9 38 #[.int .i64 0, .int .i64 6, .int .i64 30, .int .i64 30, .int .i64 1, .int .i64 8, .int .i64 1, .int .i64 3, .int .i64 2, .int .i64 18, .int .i64 0, .int .i64 0, .int .i64 4, .int .i64 20, .int .i64 45, .int .i64 55] by rw [← hX]; exact ((K9.out.setOther HF9.out _ _).setOther HF9.out _ _))
  have N10 := Lib.hid (show Blk W6 g10 38 #[.int .i64 0, .int .i64 6, .int .i64 30, .int .i64 30, .int .i64 1, .int .i64 8, .int .i64 1, .int .i64 3, .int .i64 2, .int .i64 18, .int .i64 0, .int .i64 0, .int .i64 4, .int .i64 20, .int .i64 45, .int .i64 55] by rw [← hX]; exact ((K10.out.setOther HF10.out _ _).setOther HF10.out _ _))
  clear hX hBW HW5 HFB HF4 KB K4 K5 K6 K7 K8 K9 K10 HF5 HF6 HF7 HF9 HF10
  have KB := NB
  have K4 := N4
  have K5 := N5
  have K6 := N6
  have K7 := N7
  have K8 := N8
  have K9 := N9
  have K10 := N10
  clear NB N4 N5 N6 N7 N8 N9 N10
  have hne := HNE.out
  simp only [List.pairwise_cons, List.mem_cons, List.not_mem_nil, or_false, forall_eq_or_imp, forall_eq, List.Pairwise.nil, and_true, ne_eq] at hne
  have HFB := Lib.hid (show gB ≠ g9 from fun e => by have h1 := KB.out; rw [e] at h1; have h2 := h1.symm.trans K9.out; simp at h2)
  have HF4 := Lib.hid (show g4 ≠ g9 from fun e => by have h1 := K4.out; rw [e] at h1; have h2 := h1.symm.trans K9.out; simp only [Option.some.injEq, Obj.cells.injEq] at h2; have h3 := congrArg Array.size h2.1; rw [zeroC_size] at h3; simp at h3)
  have HF5 := Lib.hid (show g5 ≠ g9 by omega)
  have HF6 := Lib.hid (show g6 ≠ g9 by omega)
  have HF7 := Lib.hid (show g7 ≠ g9 by omega)
  have HF8 := Lib.hid (show g8 ≠ g9 by omega)
  have HF10 := Lib.hid (show g10 ≠ g9 by omega)
  clear hne
  go_upto_region 6 with fail
  have HKB := Lib.hid KB.out
  refine wp_region_flow 7 480 (storR gB 9 g9 2 0 1) (by kernel_rfl) (by kernel_rfl) rfl (storR_kept _ _ _ _ _ _) ?_ ?_
  · intro i hin a X h1 h2 h3 h4 h5 KK hKK
    have kX := KB.out.bel h5
    have k0 := K9.out.bel h5
    match i, hin with
    | 0, _ => exact st_move rfl rfl (wanted_none rfl) (h3 1 (by kernel_rfl)) (hKK _ _ rfl (Below.refl _ _))
    | 1, _ => exact st_val rfl (wanted_none rfl) (run_ixB _ rfl (h4 0 (by kernel_rfl)) rfl (by decide) kX.lt rfl) (hKK _ _ rfl (Below.refl _ _))
    | 2, _ => exact st_val rfl (wanted_none rfl) (run_fB1 _ rfl (h4 1 (by kernel_rfl)) kX.lt) (hKK _ _ rfl (Below.refl _ _))
    | 3, _ => exact st_val rfl (wanted_none rfl) (run_lNotes _ rfl (h4 2 (by kernel_rfl)) (kX.cell 29)) (hKK _ _ rfl (Below.refl _ _))
    | 4, _ =>
      refine st_call rfl rfl (wanted_none rfl) (consts2 _ _) (run_enter Tryd.func48 (by kernel_rfl) (by kernel_rfl) _) ?_
      refine (To_any _ _ _).mono ?_
      rintro e w1 ⟨rfl, y, rfl⟩
      exact ⟨_, rfl, hKK _ _ rfl (below_ext _ _)⟩
    | 5, _ => exact st_val rfl (wanted_none rfl) (run_ixN _ rfl (h4 3 (by kernel_rfl)) rfl (by decide) k0.lt rfl) (hKK _ _ rfl (Below.refl _ _))
    | 6, _ => exact st_val rfl (wanted_none rfl) (run_fN2 _ rfl (h4 5 (by kernel_rfl)) k0.lt) (hKK _ _ rfl (Below.refl _ _))
    | k + 7, hk => omega
  intro a W7 h1 h2 h3 h4 hB5
  have e1 : a.tmps.getD 1 undef = .slice (some ⟨gB, 0, none⟩) 11 11 := h3 1 (by kernel_rfl)
  have ev : a.tmps.getD 98 undef = .agg #[.int .i64 0, .int .i64 1] := h4 4 (by decide)
  have ep : a.tmps.getD 100 undef = .pointer (some ⟨g9, 10, none⟩) := h4 6 (by decide)
  clear h3 h4 HKB
  obtain ⟨f, rfl⟩ := frame480 a h1 h2
  have e1 : f 1 = .slice (some ⟨gB, 0, none⟩) 11 11 := e1
  have ev : f 98 = .agg #[.int .i64 0, .int .i64 1] := ev
  have ep : f 100 = .pointer (some ⟨g9, 10, none⟩) := ep
  rw [e1, ev, ep]
  clear e1 ev ep h1 h2
  change wpList _ _ _ (_ :: []) _ _
  have hB : Below W6.heap.size W6 W7 := by exact hB5
  have HW7 := Lib.hid (HW6.out.trans (hB.mono HW6.out.size))
  have NB := Lib.hid (KB.out.bel hB)
  have N4 := Lib.hid (K4.out.bel hB)
  have N5 := Lib.hid (K5.out.bel hB)
  have N6 := Lib.hid (K6.out.bel hB)
  have N7 := Lib.hid (K7.out.bel hB)
  have N8 := Lib.hid (K8.out.bel hB)
  have N9 := Lib.hid (K9.out.bel hB)
  have N10 := Lib.hid (K10.out.bel hB)
  clear hB HW6 KB K4 K5 K6 K7 K8 K9 K10
  have KB := NB
  have K4 := N4
  have K5 := N5
  have K6 := N6
  have K7 := N7
  have K8 := N8
  have K9 := N9
  have K10 := N10
  clear NB N4 N5 N6 N7 N8 N9 N10
  clear hB5
  have q0 := K9.out.cell 10
  have f0 := K9.out.frozen 10
  have q1 := K9.out.cell 11
  have f1 := K9.out.frozen 11
  have l0 := K9.out.lt
  simp only [List.size_toArray, List.length_cons, List.length_nil, Nat.reduceAdd, Nat.reduceLT, getElem?_pos, List.getElem_toArray, List.getElem_cons_zero, List.getElem_cons_succ] at q0 q1
  go_upto_region 7 with fail
  clear q0 q1 f0 f1 l0
  generalize hX : (W7.setCell ⟨g9, 10, none⟩ (.int .i64 0)).setCell ⟨g9, 11, none⟩ (.int .i64 1) = W8 at *
  have hBW : Below w.heap.size w W8 := by rw [← hX]; exact ((HW7.out).setCell (by have h := HGE9.out; dsimp only; omega) _).setCell (by have h := HGE9.out; dsimp only; omega) _
  have HW8 := Lib.hid hBW
  have N9 := Lib.hid (show Blk W8 g9 38 #[.int .i64 0, .int .i64 6, .int .i64 30, .int .i64 30, .int .i64 1, .int .i64 8, .int .i64 1, .int .i64 3, .int .i64 2, .int .i64 18, .int .i64 0, .int .i64 1, .int .i64 4, .int .i64 20, .int .i64 45, .int .i64 55] by rw [← hX]; simpa using ((K9.out.set 10 (.int .i64 0)).set 11 (.int .i64 1)))
  have NB := Lib.hid (show Blk W8 gB 26 #[.int .i64 1, .int .i64 0, .slice none 0 0, .int .i64 (-1), .int .i64 0, .slice none 0 0, .int .i64 395, .int .i64 401, .slice none 0 0, .int .i64 0, .int .i64 13, .slice none 0 0, .int .i64 0, .int .i64 0, .slice (some ⟨g4, 0, none⟩) 9 9, .int .i64 100, .int .i64 110, .slice (some ⟨g5, 0, none⟩) 4 4, .int .i64 100, .int .i64 110, .slice (some ⟨g6, 0, none⟩) 4 4, .int .i64 100, .int .i64 110, .slice (some ⟨g7, 0, none⟩) 4 4, .int .i64 100, .int .i64 110, .slice (some ⟨g8, 0, none⟩) 4 4, .int .i64 100, .int .i64 110, .slice (some ⟨g9, 0, none⟩) 4 4, .int .i64 100, .int .i64 110, .slice (some ⟨g10, 0, none⟩) 4 4] by rw [← hX]; exact ((KB.out.setOther HFB.out _ _).setOther HFB.out _ _))
  have N4 := Lib.hid (show Blk W8 g4 38 zeroC by rw [← hX]; exact ((K4.out.setOther HF4.out _ _).setOther HF4.out _ _))
  have N5 := Lib.hid (show Blk W8 g5 38 #[.int .i64 5, .int .i64 6, .int .i64 30, .int .i64 30, .int .i64 1, .int .i64 8, .int .i64 1, .int .i64 3, .int .i64 2, .int .i64 18, .int .i64 0, .int .i64 0, .int .i64 4, .int .i64 20, .int .i64 45, .int .i64 55] by rw [← hX]; exact ((K5.out.setOther HF5.out _ _).setOther HF5.out _ _))
  have N6 := Lib.hid (show Blk W8 g6 38 #[.int .i64 0, .int .i64 9, .int .i64 30, .int .i64 30, .int .i64 1, .int .i64 8, .int .i64 1, .int .i64 3, .int .i64 2, .int .i64 18, .int .i64 0, .int .i64 0, .int .i64 4, .int .i64 20, .int .i64 45, .int .i64 55] by rw [← hX]; exact ((K6.out.setOther HF6.out _ _).setOther HF6.out _ _))
  have N7 := Lib.hid (show Blk W8 g7 38 #[.int .i64 0, .int .i64 6, .int .i64 30, .int .i64 30, .int .i64 1, .int .i64 8, .int .i64 1, .int .i64 3, .int .i64 2, .int .i64 18, .int .i64 0, .int .i64 0, .int .i64 4, .int .i64 61, .int .i64 45, .int .i64 55] by rw [← hX]; exact ((K7.out.setOther HF7.out _ _).setOther HF7.out _ _))
  have N8 := Lib.hid (show Blk W8 g8 38 #[.int .i64 0, .int .i64 6, .int .i64 30, .int .i64 30, .int .i64 1, .int .i64 8, .int .i64 1, .int .i64 10, .int .i64 2, .int .i64 18, .int .i64 0, .int .i64 0, .int .i64 4, .int .i64 20, .int .i64 45, .int .i64 55] by rw [← hX]; exact ((K8.out.setOther HF8.out _ _).setOther HF8.out _ _))
  have N10 := Lib.hid (show Blk W8 g10 38 #[.int .i64 0, .int .i64 6, .int .i64 30, .int .i64 30, .int .i64 1, .int .i64 8, .int .i64 1, .int .i64 3, .int .i64 2, .int .i64 18, .int .i64 0, .int .i64 0, .int .i64 4, .int .i64 20, .int .i64 45, .int .i64 55] by rw [← hX]; exact ((K10.out.setOther HF10.out _ _).setOther HF10.out _ _))
  clear hX hBW HW7 HFB HF4 KB K4 K5 K6 K7 K8 K9 K10 HF5 HF6 HF7 HF8 HF10
  have KB := NB
  have K4 := N4
  have K5 := N5
  have K6 := N6
  have K7 := N7
  have K8 := N8
  have K9 := N9
  have K10 := N10
  clear NB N4 N5 N6 N7 N8 N9 N10
  have hne := HNE.out
  simp only [List.pairwise_cons, List.mem_cons, List.not_mem_nil, or_false, forall_eq_or_imp, forall_eq, List.Pairwise.nil, and_true, ne_eq] at hne
  have HFB := Lib.hid (show gB ≠ g10 from fun e => by have h1 := KB.out; rw [e] at h1; have h2 := h1.symm.trans K10.out; simp at h2)
  have HF4 := Lib.hid (show g4 ≠ g10 from fun e => by have h1 := K4.out; rw [e] at h1; have h2 := h1.symm.trans K10.out; simp only [Option.some.injEq, Obj.cells.injEq] at h2; have h3 := congrArg Array.size h2.1; rw [zeroC_size] at h3; simp at h3)
  have HF5 := Lib.hid (show g5 ≠ g10 by omega)
  have HF6 := Lib.hid (show g6 ≠ g10 by omega)
  have HF7 := Lib.hid (show g7 ≠ g10 by omega)
  have HF8 := Lib.hid (show g8 ≠ g10 by omega)
  have HF9 := Lib.hid (show g9 ≠ g10 by omega)
  clear hne
  go_upto_region 7 with fail
  have HKB := Lib.hid KB.out
  refine wp_region_flow 7 480 (storR gB 10 g10 3 40 53) (by kernel_rfl) (by kernel_rfl) rfl (storR_kept _ _ _ _ _ _) ?_ ?_
  · intro i hin a X h1 h2 h3 h4 h5 KK hKK
    have kX := KB.out.bel h5
    have k0 := K10.out.bel h5
    match i, hin with
    | 0, _ => exact st_move rfl rfl (wanted_none rfl) (h3 1 (by kernel_rfl)) (hKK _ _ rfl (Below.refl _ _))
    | 1, _ => exact st_val rfl (wanted_none rfl) (run_ixB _ rfl (h4 0 (by kernel_rfl)) rfl (by decide) kX.lt rfl) (hKK _ _ rfl (Below.refl _ _))
    | 2, _ => exact st_val rfl (wanted_none rfl) (run_fB1 _ rfl (h4 1 (by kernel_rfl)) kX.lt) (hKK _ _ rfl (Below.refl _ _))
    | 3, _ => exact st_val rfl (wanted_none rfl) (run_lNotes _ rfl (h4 2 (by kernel_rfl)) (kX.cell 32)) (hKK _ _ rfl (Below.refl _ _))
    | 4, _ =>
      refine st_call rfl rfl (wanted_none rfl) (consts2 _ _) (run_enter Tryd.func48 (by kernel_rfl) (by kernel_rfl) _) ?_
      refine (To_any _ _ _).mono ?_
      rintro e w1 ⟨rfl, y, rfl⟩
      exact ⟨_, rfl, hKK _ _ rfl (below_ext _ _)⟩
    | 5, _ => exact st_val rfl (wanted_none rfl) (run_ixN _ rfl (h4 3 (by kernel_rfl)) rfl (by decide) k0.lt rfl) (hKK _ _ rfl (Below.refl _ _))
    | 6, _ => exact st_val rfl (wanted_none rfl) (run_fN2 _ rfl (h4 5 (by kernel_rfl)) k0.lt) (hKK _ _ rfl (Below.refl _ _))
    | k + 7, hk => omega
  intro a W9 h1 h2 h3 h4 hB5
  have e1 : a.tmps.getD 1 undef = .slice (some ⟨gB, 0, none⟩) 11 11 := h3 1 (by kernel_rfl)
  have ev : a.tmps.getD 105 undef = .agg #[.int .i64 40, .int .i64 53] := h4 4 (by decide)
  have ep : a.tmps.getD 107 undef = .pointer (some ⟨g10, 14, none⟩) := h4 6 (by decide)
  clear h3 h4 HKB
  obtain ⟨f, rfl⟩ := frame480 a h1 h2
  have e1 : f 1 = .slice (some ⟨gB, 0, none⟩) 11 11 := e1
  have ev : f 105 = .agg #[.int .i64 40, .int .i64 53] := ev
  have ep : f 107 = .pointer (some ⟨g10, 14, none⟩) := ep
  rw [e1, ev, ep]
  clear e1 ev ep h1 h2
  change wpList _ _ _ (_ :: []) _ _
  have hB : Below W8.heap.size W8 W9 := by exact hB5
  have HW9 := Lib.hid (HW8.out.trans (hB.mono HW8.out.size))
  have NB := Lib.hid (KB.out.bel hB)
  have N4 := Lib.hid (K4.out.bel hB)
  have N5 := Lib.hid (K5.out.bel hB)
  have N6 := Lib.hid (K6.out.bel hB)
  have N7 := Lib.hid (K7.out.bel hB)
  have N8 := Lib.hid (K8.out.bel hB)
  have N9 := Lib.hid (K9.out.bel hB)
  have N10 := Lib.hid (K10.out.bel hB)
  clear hB HW8 KB K4 K5 K6 K7 K8 K9 K10
  have KB := NB
  have K4 := N4
  have K5 := N5
  have K6 := N6
  have K7 := N7
  have K8 := N8
  have K9 := N9
  have K10 := N10
  clear NB N4 N5 N6 N7 N8 N9 N10
  clear hB5
  have q0 := K10.out.cell 14
  have f0 := K10.out.frozen 14
  have q1 := K10.out.cell 15
  have f1 := K10.out.frozen 15
  have l0 := K10.out.lt
  simp only [List.size_toArray, List.length_cons, List.length_nil, Nat.reduceAdd, Nat.reduceLT, getElem?_pos, List.getElem_toArray, List.getElem_cons_zero, List.getElem_cons_succ] at q0 q1
  go_upto_region 8 with fail
  clear q0 q1 f0 f1 l0
  generalize hX : (W9.setCell ⟨g10, 14, none⟩ (.int .i64 40)).setCell ⟨g10, 15, none⟩ (.int .i64 53) = W10 at *
  have hBW : Below w.heap.size w W10 := by rw [← hX]; exact ((HW9.out).setCell (by have h := HGE10.out; dsimp only; omega) _).setCell (by have h := HGE10.out; dsimp only; omega) _
  have HW10 := Lib.hid hBW
  have N10 := Lib.hid (show Blk W10 g10 38 #[.int .i64 0, .int .i64 6, .int .i64 30, .int .i64 30, .int .i64 1, .int .i64 8, .int .i64 1, .int .i64 3, .int .i64 2, .int .i64 18, .int .i64 0, .int .i64 0, .int .i64 4, .int .i64 20, .int .i64 40, .int .i64 53] by rw [← hX]; simpa using ((K10.out.set 14 (.int .i64 40)).set 15 (.int .i64 53)))
  have NB := Lib.hid (show Blk W10 gB 26 #[.int .i64 1, .int .i64 0, .slice none 0 0, .int .i64 (-1), .int .i64 0, .slice none 0 0, .int .i64 395, .int .i64 401, .slice none 0 0, .int .i64 0, .int .i64 13, .slice none 0 0, .int .i64 0, .int .i64 0, .slice (some ⟨g4, 0, none⟩) 9 9, .int .i64 100, .int .i64 110, .slice (some ⟨g5, 0, none⟩) 4 4, .int .i64 100, .int .i64 110, .slice (some ⟨g6, 0, none⟩) 4 4, .int .i64 100, .int .i64 110, .slice (some ⟨g7, 0, none⟩) 4 4, .int .i64 100, .int .i64 110, .slice (some ⟨g8, 0, none⟩) 4 4, .int .i64 100, .int .i64 110, .slice (some ⟨g9, 0, none⟩) 4 4, .int .i64 100, .int .i64 110, .slice (some ⟨g10, 0, none⟩) 4 4] by rw [← hX]; exact ((KB.out.setOther HFB.out _ _).setOther HFB.out _ _))
  have N4 := Lib.hid (show Blk W10 g4 38 zeroC by rw [← hX]; exact ((K4.out.setOther HF4.out _ _).setOther HF4.out _ _))
  have N5 := Lib.hid (show Blk W10 g5 38 #[.int .i64 5, .int .i64 6, .int .i64 30, .int .i64 30, .int .i64 1, .int .i64 8, .int .i64 1, .int .i64 3, .int .i64 2, .int .i64 18, .int .i64 0, .int .i64 0, .int .i64 4, .int .i64 20, .int .i64 45, .int .i64 55] by rw [← hX]; exact ((K5.out.setOther HF5.out _ _).setOther HF5.out _ _))
  have N6 := Lib.hid (show Blk W10 g6 38 #[.int .i64 0, .int .i64 9, .int .i64 30, .int .i64 30, .int .i64 1, .int .i64 8, .int .i64 1, .int .i64 3, .int .i64 2, .int .i64 18, .int .i64 0, .int .i64 0, .int .i64 4, .int .i64 20, .int .i64 45, .int .i64 55] by rw [← hX]; exact ((K6.out.setOther HF6.out _ _).setOther HF6.out _ _))
  have N7 := Lib.hid (show Blk W10 g7 38 #[.int .i64 0, .int .i64 6, .int .i64 30, .int .i64 30, .int .i64 1, .int .i64 8, .int .i64 1, .int .i64 3, .int .i64 2, .int .i64 18, .int .i64 0, .int .i64 0, .int .i64 4, .int .i64 61, .int .i64 45, .int .i64 55] by rw [← hX]; exact ((K7.out.setOther HF7.out _ _).setOther HF7.out _ _))
  have N8 := Lib.hid (show Blk W10 g8 38 #[.int .i64 0, .int .i64 6, .int .i64 30, .int .i64 30, .int .i64 1, .int .i64 8, .int .i64 1, .int .i64 10, .int .i64 2, .int .i64 18, .int .i64 0, .int .i64 0, .int .i64 4, .int .i64 20, .int .i64 45, .int .i64 55] by rw [← hX]; exact ((K8.out.setOther HF8.out _ _).setOther HF8.out _ _))
  have N9 := Lib.hid (show Blk W10 g9 38 #[.int .i64 0, .int .i64 6, .int .i64 30, .int .i64 30, .int .i64 1, .int .i64 8, .int .i64 1, .int .i64 3, .int .i64 2, .int .i64 18, .int .i64 0, .int .i64 1, .int .i64 4, .int .i64 20, .int .i64 45, .int .i64 55] by rw [← hX]; exact ((K9.out.setOther HF9.out _ _).setOther HF9.out _ _))
  clear hX hBW HW9 HFB HF4 KB K4 K5 K6 K7 K8 K9 K10 HF5 HF6 HF7 HF8 HF9
  have KB := NB
  have K4 := N4
  have K5 := N5
  have K6 := N6
  have K7 := N7
  have K8 := N8
  have K9 := N9
  have K10 := N10
  clear NB N4 N5 N6 N7 N8 N9 N10
  go_upto_block 0 with fail
  have HROW := Lib.hid (show ∀ k, k < 11 → RowN W10 #[.int .i64 1, .int .i64 0, .slice none 0 0, .int .i64 (-1), .int .i64 0, .slice none 0 0, .int .i64 395, .int .i64 401, .slice none 0 0, .int .i64 0, .int .i64 13, .slice none 0 0, .int .i64 0, .int .i64 0, .slice (some ⟨g4, 0, none⟩) 9 9, .int .i64 100, .int .i64 110, .slice (some ⟨g5, 0, none⟩) 4 4, .int .i64 100, .int .i64 110, .slice (some ⟨g6, 0, none⟩) 4 4, .int .i64 100, .int .i64 110, .slice (some ⟨g7, 0, none⟩) 4 4, .int .i64 100, .int .i64 110, .slice (some ⟨g8, 0, none⟩) 4 4, .int .i64 100, .int .i64 110, .slice (some ⟨g9, 0, none⟩) 4 4, .int .i64 100, .int .i64 110, .slice (some ⟨g10, 0, none⟩) 4 4] k from fun k hk => by
    match k, hk with
    | 0, _ => exact rowN_nil (by kernel_rfl) rfl rfl rfl
    | 1, _ => exact rowN_nil (by kernel_rfl) rfl rfl rfl
    | 2, _ => exact rowN_nil (by kernel_rfl) rfl rfl rfl
    | 3, _ => exact rowN_nil (by kernel_rfl) rfl rfl rfl
    | 4, _ => exact rowN_blk (l := List.replicate 9 ⟨0, 0, 0, 0⟩) (by kernel_rfl) K4.out zeroC_eq rfl (by decide) rfl rfl rfl
    | 5, _ => exact rowN_blk (l := [⟨5, 6, 30, 30⟩, ⟨1, 8, 1, 3⟩, ⟨2, 18, 0, 0⟩, ⟨4, 20, 45, 55⟩]) (by kernel_rfl) K5.out rfl rfl (by decide) rfl rfl rfl
    | 6, _ => exact rowN_blk (l := [⟨0, 9, 30, 30⟩, ⟨1, 8, 1, 3⟩, ⟨2, 18, 0, 0⟩, ⟨4, 20, 45, 55⟩]) (by kernel_rfl) K6.out rfl rfl (by decide) rfl rfl rfl
    | 7, _ => exact rowN_blk (l := [⟨0, 6, 30, 30⟩, ⟨1, 8, 1, 3⟩, ⟨2, 18, 0, 0⟩, ⟨4, 61, 45, 55⟩]) (by kernel_rfl) K7.out rfl rfl (by decide) rfl rfl rfl
    | 8, _ => exact rowN_blk (l := [⟨0, 6, 30, 30⟩, ⟨1, 8, 1, 10⟩, ⟨2, 18, 0, 0⟩, ⟨4, 20, 45, 55⟩]) (by kernel_rfl) K8.out rfl rfl (by decide) rfl rfl rfl
    | 9, _ => exact rowN_blk (l := [⟨0, 6, 30, 30⟩, ⟨1, 8, 1, 3⟩, ⟨2, 18, 0, 1⟩, ⟨4, 20, 45, 55⟩]) (by kernel_rfl) K9.out rfl rfl (by decide) rfl rfl rfl
    | 10, _ => exact rowN_blk (l := [⟨0, 6, 30, 30⟩, ⟨1, 8, 1, 3⟩, ⟨2, 18, 0, 0⟩, ⟨4, 20, 40, 53⟩]) (by kernel_rfl) K10.out rfl rfl (by decide) rfl rfl rfl
    | k + 11, hk => omega)
  clear K4 K5 HGE5 K6 HGE6 K7 HGE7 K8 HGE8 K9 HGE9 K10 HGE10 HNE
  go_cut [2, 3, 4, 5, 6, 7, 8, 9, 10, 11, 12, 13, 14, 15, 16, 17, 18] from 108 to 218 (fun _ _ _ _ _ _ _ _ _ _ _ _ _ _ _ _ _ wx => Below w.heap.size w wx)
  case first =>
    go_wp2_with fail
    go_loopw [2] (fun i wr => ∃ k : Nat, k ≤ 11 ∧ i = .int .i64 k ∧ ∃ x, wr = ext W10 x) (fun i _ => 11 - (intOf i).toNat)
    case atStart => exact ⟨0, by omega, rfl, ext_of (Below.refl _ _)⟩
    case round =>
      obtain ⟨k, hk, rfl, y1, rfl⟩ := hrel
      have hBV := below_ext W10 y1
      generalize ext W10 y1 = U0 at *
      by_cases hlt : k < 11
      · obtain ⟨b9, p9, n9, hv9, hn9, t0, t1, t2, hnt, hlt9⟩ := HROW.out k hlt
        have HV := Lib.hid hv9
        have HN9 := Lib.hid hn9
        have HT := Lib.hid (And.intro t0 (And.intro t1 t2))
        have HNM := Lib.hid (HN.out.below (HW10.out.trans (hBV.mono HW10.out.size)))
        have hsb : SBk U0 b9 p9 := ⟨hnt.below hBV, HNM.out, fun a ha => Nat.lt_of_lt_of_le (hlt9 a ha) hBV.size⟩
        have HS := Lib.hid (fun w' (hw : Below U0.heap.size U0 w') => hsb.bel hw)
        have HK0 := Lib.hid (KB.out.bel hBV)
        have HBV := Lib.hid hBV
        have HB0 := Lib.hid (Below.refl U0.heap.size U0)
        clear hv9 hn9 t0 t1 t2 hnt hlt9 hsb hBV
        have k0 : (0 : Int) ≤ (k : Int) := by omega
        have k1 : (k : Int) < 11 := by omega
        have c0 := (HK0.out.cell (k * 3)).trans HT.out.1
        have c1 := (HK0.out.cell (k * 3 + 1)).trans HT.out.2.1
        have c2 := (HK0.out.cell (k * 3 + 2)).trans HT.out.2.2
        have hl := HK0.out.lt
        go_upto_region 12 with (go_at_call 14; refine (Right_n (HS.out _ (HB0.out.trans (Below.mono (by (repeat (first | (with_reducible exact Below.refl _ _) | (with_reducible assumption) | ((with_reducible refine below_ext_trans ?_ ?_ _); rotate_left; focus (((try dsimp only); repeat (first | omega | simp only [World.size_alloc, World.size_setCell, World.size_drew] | (with_reducible refine le_ext_of ?_) | (with_reducible refine le_ext_add ?_))); done)) | ((with_reducible refine Below.alloc ?_ ?_ _); rotate_left; focus (((try dsimp only); repeat (first | omega | simp only [World.size_alloc, World.size_setCell, World.size_drew] | (with_reducible refine le_ext_of ?_) | (with_reducible refine le_ext_add ?_))); done)) | ((with_reducible refine Below.setCell ?_ ?_ _); rotate_left; focus (((try dsimp only); repeat (first | omega | simp only [World.size_alloc, World.size_setCell, World.size_drew] | (with_reducible refine le_ext_of ?_) | (with_reducible refine le_ext_add ?_))); done)) | (with_reducible refine Below.drew ?_)))) HB0.out.size))) HV.out HN9.out).mono ?_; rintro e w1 ⟨rfl, y8, rfl⟩)
        generalize hE : ext U0 y8 = U1 at *
        have hB : Below U0.heap.size U0 U1 := by rw [← hE]; exact below_ext _ _
        have HB1 := Lib.hid (HB0.out.trans (hB.mono HB0.out.size))
        have HK1 := Lib.hid (HK0.out.bel hB)
        clear hE hB HB0 HK0 c0 c1 c2 hl
        have c0 := (HK1.out.cell (k * 3)).trans HT.out.1
        have c1 := (HK1.out.cell (k * 3 + 1)).trans HT.out.2.1
        have c2 := (HK1.out.cell (k * 3 + 2)).trans HT.out.2.2
        have hl := HK1.out.lt
        go_upto_region 13 with (go_at_call 18; refine (Can_n (HS.out _ (HB1.out.trans (Below.mono (by (repeat (first | (with_reducible exact Below.refl _ _) | (with_reducible assumption) | ((with_reducible refine below_ext_trans ?_ ?_ _); rotate_left; focus (((try dsimp only); repeat (first | omega | simp only [World.size_alloc, World.size_setCell, World.size_drew] | (with_reducible refine le_ext_of ?_) | (with_reducible refine le_ext_add ?_))); done)) | ((with_reducible refine Below.alloc ?_ ?_ _); rotate_left; focus (((try dsimp only); repeat (first | omega | simp only [World.size_alloc, World.size_setCell, World.size_drew] | (with_reducible refine le_ext_of ?_) | (with_reducible refine le_ext_add ?_))); done)) | ((with_reducible refine Below.setCell ?_ ?_ _); rotate_left; focus (((try dsimp only); repeat (first | omega | simp only [World.size_alloc, World.size_setCell, World.size_drew] | (with_reducible refine le_ext_of ?_) | (with_reducible refine le_ext_add ?_))); done)) | (with_reducible refine Below.drew ?_)))) HB1.out.size))) HV.out HN9.out).mono ?_; rintro e w1 ⟨rfl, y8, rfl⟩)
        generalize hE : ext U1 y8 = U2 at *
        have hB : Below U1.heap.size U1 U2 := by rw [← hE]; exact below_ext _ _
        have HB2 := Lib.hid (HB1.out.trans (hB.mono HB1.out.size))
        have HK2 := Lib.hid (HK1.out.bel hB)
        clear hE hB HB1 HK1 c0 c1 c2 hl
        have c0 := (HK2.out.cell (k * 3)).trans HT.out.1
        have c1 := (HK2.out.cell (k * 3 + 1)).trans HT.out.2.1
        have c2 := (HK2.out.cell (k * 3 + 2)).trans HT.out.2.2
        have hl := HK2.out.lt
        go_upto_region 14 with (go_at_call 20; refine (Held_n (HS.out _ (HB2.out.trans (Below.mono (by (repeat (first | (with_reducible exact Below.refl _ _) | (with_reducible assumption) | ((with_reducible refine below_ext_trans ?_ ?_ _); rotate_left; focus (((try dsimp only); repeat (first | omega | simp only [World.size_alloc, World.size_setCell, World.size_drew] | (with_reducible refine le_ext_of ?_) | (with_reducible refine le_ext_add ?_))); done)) | ((with_reducible refine Below.alloc ?_ ?_ _); rotate_left; focus (((try dsimp only); repeat (first | omega | simp only [World.size_alloc, World.size_setCell, World.size_drew] | (with_reducible refine le_ext_of ?_) | (with_reducible refine le_ext_add ?_))); done)) | ((with_reducible refine Below.setCell ?_ ?_ _); rotate_left; focus (((try dsimp only); repeat (first | omega | simp only [World.size_alloc, World.size_setCell, World.size_drew] | (with_reducible refine le_ext_of ?_) | (with_reducible refine le_ext_add ?_))); done)) | (with_reducible refine Below.drew ?_)))) HB2.out.size))) HV.out HN9.out).mono ?_; rintro e w1 ⟨rfl, y8, rfl⟩)
        generalize hgx : (ext U2 y8).heap.size = gx2 at *
        generalize hE : (ext U2 y8).alloc _ = U3 at *
        have hB : Below U2.heap.size U2 U3 := by rw [← hE]; exact (below_ext _ _).alloc (below_ext _ _).size _
        have HB3 := Lib.hid (HB2.out.trans (hB.mono HB2.out.size))
        have HK3 := Lib.hid (HK2.out.bel hB)
        clear hE hB HB2 HK2 c0 c1 c2 hl hgx
        have c0 := (HK3.out.cell (k * 3)).trans HT.out.1
        have c1 := (HK3.out.cell (k * 3 + 1)).trans HT.out.2.1
        have c2 := (HK3.out.cell (k * 3 + 2)).trans HT.out.2.2
        have hl := HK3.out.lt
        go_upto_region 15 with (go_at_call 22; refine (Rate_n (HS.out _ (HB3.out.trans (Below.mono (by (repeat (first | (with_reducible exact Below.refl _ _) | (with_reducible assumption) | ((with_reducible refine below_ext_trans ?_ ?_ _); rotate_left; focus (((try dsimp only); repeat (first | omega | simp only [World.size_alloc, World.size_setCell, World.size_drew] | (with_reducible refine le_ext_of ?_) | (with_reducible refine le_ext_add ?_))); done)) | ((with_reducible refine Below.alloc ?_ ?_ _); rotate_left; focus (((try dsimp only); repeat (first | omega | simp only [World.size_alloc, World.size_setCell, World.size_drew] | (with_reducible refine le_ext_of ?_) | (with_reducible refine le_ext_add ?_))); done)) | ((with_reducible refine Below.setCell ?_ ?_ _); rotate_left; focus (((try dsimp only); repeat (first | omega | simp only [World.size_alloc, World.size_setCell, World.size_drew] | (with_reducible refine le_ext_of ?_) | (with_reducible refine le_ext_add ?_))); done)) | (with_reducible refine Below.drew ?_)))) HB3.out.size))) HV.out HN9.out).mono ?_; rintro e w1 ⟨rfl, y8, rfl⟩)
        generalize hgx : (ext U3 y8).heap.size = gx3 at *
        generalize hE : (ext U3 y8).alloc _ = U4 at *
        have hB : Below U3.heap.size U3 U4 := by rw [← hE]; exact (below_ext _ _).alloc (below_ext _ _).size _
        have HB4 := Lib.hid (HB3.out.trans (hB.mono HB3.out.size))
        have HK4 := Lib.hid (HK3.out.bel hB)
        clear hE hB HB3 HK3 c0 c1 c2 hl hgx
        have c0 := (HK4.out.cell (k * 3)).trans HT.out.1
        have c1 := (HK4.out.cell (k * 3 + 1)).trans HT.out.2.1
        have c2 := (HK4.out.cell (k * 3 + 2)).trans HT.out.2.2
        have hl := HK4.out.lt
        go_upto_region 16 with (go_at_call 25; refine (Empty_n (HS.out _ (HB4.out.trans (Below.mono (by (repeat (first | (with_reducible exact Below.refl _ _) | (with_reducible assumption) | ((with_reducible refine below_ext_trans ?_ ?_ _); rotate_left; focus (((try dsimp only); repeat (first | omega | simp only [World.size_alloc, World.size_setCell, World.size_drew] | (with_reducible refine le_ext_of ?_) | (with_reducible refine le_ext_add ?_))); done)) | ((with_reducible refine Below.alloc ?_ ?_ _); rotate_left; focus (((try dsimp only); repeat (first | omega | simp only [World.size_alloc, World.size_setCell, World.size_drew] | (with_reducible refine le_ext_of ?_) | (with_reducible refine le_ext_add ?_))); done)) | ((with_reducible refine Below.setCell ?_ ?_ _); rotate_left; focus (((try dsimp only); repeat (first | omega | simp only [World.size_alloc, World.size_setCell, World.size_drew] | (with_reducible refine le_ext_of ?_) | (with_reducible refine le_ext_add ?_))); done)) | (with_reducible refine Below.drew ?_)))) HB4.out.size))) HV.out HN9.out).mono ?_; rintro e w1 ⟨rfl, y8, rfl⟩)
        generalize hE : ext U4 y8 = U5 at *
        have hB : Below U4.heap.size U4 U5 := by rw [← hE]; exact below_ext _ _
        have HB5 := Lib.hid (HB4.out.trans (hB.mono HB4.out.size))
        have HK5 := Lib.hid (HK4.out.bel hB)
        clear hE hB HB4 HK4 c0 c1 c2 hl
        have c0 := (HK5.out.cell (k * 3)).trans HT.out.1
        have c1 := (HK5.out.cell (k * 3 + 1)).trans HT.out.2.1
        have c2 := (HK5.out.cell (k * 3 + 2)).trans HT.out.2.2
        have hl := HK5.out.lt
        go_upto_region 17 with (go_at_call 27; refine (Saved_n (HS.out _ (HB5.out.trans (Below.mono (by (repeat (first | (with_reducible exact Below.refl _ _) | (with_reducible assumption) | ((with_reducible refine below_ext_trans ?_ ?_ _); rotate_left; focus (((try dsimp only); repeat (first | omega | simp only [World.size_alloc, World.size_setCell, World.size_drew] | (with_reducible refine le_ext_of ?_) | (with_reducible refine le_ext_add ?_))); done)) | ((with_reducible refine Below.alloc ?_ ?_ _); rotate_left; focus (((try dsimp only); repeat (first | omega | simp only [World.size_alloc, World.size_setCell, World.size_drew] | (with_reducible refine le_ext_of ?_) | (with_reducible refine le_ext_add ?_))); done)) | ((with_reducible refine Below.setCell ?_ ?_ _); rotate_left; focus (((try dsimp only); repeat (first | omega | simp only [World.size_alloc, World.size_setCell, World.size_drew] | (with_reducible refine le_ext_of ?_) | (with_reducible refine le_ext_add ?_))); done)) | (with_reducible refine Below.drew ?_)))) HB5.out.size))) HV.out HN9.out).mono ?_; rintro e w1 ⟨rfl, y8, rfl⟩)
        generalize hgx : (ext U5 y8).heap.size = gx5 at *
        generalize hE : (ext U5 y8).alloc _ = U6 at *
        have hB : Below U5.heap.size U5 U6 := by rw [← hE]; exact (below_ext _ _).alloc (below_ext _ _).size _
        have HB6 := Lib.hid (HB5.out.trans (hB.mono HB5.out.size))
        have HK6 := Lib.hid (HK5.out.bel hB)
        clear hE hB HB5 HK5 c0 c1 c2 hl hgx
        have c0 := (HK6.out.cell (k * 3)).trans HT.out.1
        have c1 := (HK6.out.cell (k * 3 + 1)).trans HT.out.2.1
        have c2 := (HK6.out.cell (k * 3 + 2)).trans HT.out.2.2
        have hl := HK6.out.lt
        refine wp_region_ext (by kernel_rfl) (by kernel_rfl) ?_
        repeat (go_big_quiet_step (first | (go_at_call 39; exact quiet_ext (Just_any _ _)) | (go_at_call 40; exact quiet_ext (note_any _ _ _ _ _)) | (go_at_call 29; exact quiet_ext (Fits_n (HS.out _ (HB6.out.trans (Below.mono (by (repeat (first | (with_reducible exact Below.refl _ _) | (with_reducible assumption) | ((with_reducible refine below_ext_trans ?_ ?_ _); rotate_left; focus (((try dsimp only); repeat (first | omega | simp only [World.size_alloc, World.size_setCell, World.size_drew] | (with_reducible refine le_ext_of ?_) | (with_reducible refine le_ext_add ?_))); done)) | ((with_reducible refine Below.alloc ?_ ?_ _); rotate_left; focus (((try dsimp only); repeat (first | omega | simp only [World.size_alloc, World.size_setCell, World.size_drew] | (with_reducible refine le_ext_of ?_) | (with_reducible refine le_ext_add ?_))); done)) | ((with_reducible refine Below.setCell ?_ ?_ _); rotate_left; focus (((try dsimp only); repeat (first | omega | simp only [World.size_alloc, World.size_setCell, World.size_drew] | (with_reducible refine le_ext_of ?_) | (with_reducible refine le_ext_add ?_))); done)) | (with_reducible refine Below.drew ?_)))) HB6.out.size))) HV.out HN9.out))))
        (refine wpQuiet_nil ?_; rintro _ ⟨x, rfl⟩)
        generalize hE : ext U6 x = U7 at *
        have hB : Below U6.heap.size U6 U7 := by rw [← hE]; exact below_ext _ _
        have HB7 := Lib.hid (HB6.out.trans (hB.mono HB6.out.size))
        have HK7 := Lib.hid (HK6.out.bel hB)
        clear hE hB HB6 HK6 c0 c1 c2 hl
        have c0 := (HK7.out.cell (k * 3)).trans HT.out.1
        have c1 := (HK7.out.cell (k * 3 + 1)).trans HT.out.2.1
        have c2 := (HK7.out.cell (k * 3 + 2)).trans HT.out.2.2
        have hl := HK7.out.lt
        go_upto_region 19 with (go_at_call 31; refine (Wrong_n (HS.out _ (HB7.out.trans (Below.mono (by (repeat (first | (with_reducible exact Below.refl _ _) | (with_reducible assumption) | ((with_reducible refine below_ext_trans ?_ ?_ _); rotate_left; focus (((try dsimp only); repeat (first | omega | simp only [World.size_alloc, World.size_setCell, World.size_drew] | (with_reducible refine le_ext_of ?_) | (with_reducible refine le_ext_add ?_))); done)) | ((with_reducible refine Below.alloc ?_ ?_ _); rotate_left; focus (((try dsimp only); repeat (first | omega | simp only [World.size_alloc, World.size_setCell, World.size_drew] | (with_reducible refine le_ext_of ?_) | (with_reducible refine le_ext_add ?_))); done)) | ((with_reducible refine Below.setCell ?_ ?_ _); rotate_left; focus (((try dsimp only); repeat (first | omega | simp only [World.size_alloc, World.size_setCell, World.size_drew] | (with_reducible refine le_ext_of ?_) | (with_reducible refine le_ext_add ?_))); done)) | (with_reducible refine Below.drew ?_)))) HB7.out.size))) HV.out HN9.out).mono ?_; rintro e w1 ⟨rfl, y8, rfl⟩)
        generalize hE : ext U7 y8 = U8 at *
        have hB : Below U7.heap.size U7 U8 := by rw [← hE]; exact below_ext _ _
        have HB8 := Lib.hid (HB7.out.trans (hB.mono HB7.out.size))
        have HK8 := Lib.hid (HK7.out.bel hB)
        clear hE hB HB7 HK7 c0 c1 c2 hl
        have c0 := (HK8.out.cell (k * 3)).trans HT.out.1
        have c1 := (HK8.out.cell (k * 3 + 1)).trans HT.out.2.1
        have c2 := (HK8.out.cell (k * 3 + 2)).trans HT.out.2.2
        have hl := HK8.out.lt
        go_wp2_with (go_at_call 16; refine (Check_n (HS.out _ (HB8.out.trans (Below.mono (by (repeat (first | (with_reducible exact Below.refl _ _) | (with_reducible assumption) | ((with_reducible refine below_ext_trans ?_ ?_ _); rotate_left; focus (((try dsimp only); repeat (first | omega | simp only [World.size_alloc, World.size_setCell, World.size_drew] | (with_reducible refine le_ext_of ?_) | (with_reducible refine le_ext_add ?_))); done)) | ((with_reducible refine Below.alloc ?_ ?_ _); rotate_left; focus (((try dsimp only); repeat (first | omega | simp only [World.size_alloc, World.size_setCell, World.size_drew] | (with_reducible refine le_ext_of ?_) | (with_reducible refine le_ext_add ?_))); done)) | ((with_reducible refine Below.setCell ?_ ?_ _); rotate_left; focus (((try dsimp only); repeat (first | omega | simp only [World.size_alloc, World.size_setCell, World.size_drew] | (with_reducible refine le_ext_of ?_) | (with_reducible refine le_ext_add ?_))); done)) | (with_reducible refine Below.drew ?_)))) HB8.out.size))) HV.out HN9.out).mono ?_; rintro e w1 ⟨rfl, y8, rfl⟩)
        go_roundw
        case rel => exact ⟨k + 1, by omega, by go_num, by refine ext_of (HBV.out.trans (Below.mono ?_ HBV.out.size)); exact (HB8.out.trans (Below.mono (by (repeat (first | (with_reducible exact Below.refl _ _) | (with_reducible assumption) | ((with_reducible refine below_ext_trans ?_ ?_ _); rotate_left; focus (((try dsimp only); repeat (first | omega | simp only [World.size_alloc, World.size_setCell, World.size_drew] | (with_reducible refine le_ext_of ?_) | (with_reducible refine le_ext_add ?_))); done)) | ((with_reducible refine Below.alloc ?_ ?_ _); rotate_left; focus (((try dsimp only); repeat (first | omega | simp only [World.size_alloc, World.size_setCell, World.size_drew] | (with_reducible refine le_ext_of ?_) | (with_reducible refine le_ext_add ?_))); done)) | ((with_reducible refine Below.setCell ?_ ?_ _); rotate_left; focus (((try dsimp only); repeat (first | omega | simp only [World.size_alloc, World.size_setCell, World.size_drew] | (with_reducible refine le_ext_of ?_) | (with_reducible refine le_ext_add ?_))); done)) | (with_reducible refine Below.drew ?_)))) HB8.out.size))⟩
        case measure => simp [intOf]; omega
      · obtain rfl : k = 11 := by omega
        go_wp2_with fail
        go_meet
        exact HW10.out.trans (hBV.mono HW10.out.size)
  have HWX := Lib.hid hcut
  clear hcut HROW HW10 KB
  generalize wc = V0 at *
  have HW0 := HWX
  clear HWX
  apply_assumption
  exact sknown_second w V0 _ rfl rfl HN.out HW0.out
end Go.Proofs.YtjjfpbjdcmkkhaaDoor

