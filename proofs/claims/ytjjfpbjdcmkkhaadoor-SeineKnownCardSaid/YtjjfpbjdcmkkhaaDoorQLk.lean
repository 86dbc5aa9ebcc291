/- SeineKnown: the chapter's further calls, each with its answer. -/
/- SeineKnown: the table of what is held, and steps at an abstract frame. -/
/- SeineKnown: what its last region leaves. Written by gen_sknown.py. -/
import Derived.Test.YtjjfpbjdcmkkhaaDoorQJe
import Derived.Test.YtjjfpbjdcmkkhaaDoorQJf
import Derived.Test.YtjjfpbjdcmkkhaaDoorQFh
import Derived.Test.YtjjfpbjdcmkkhaaDoorQFq
set_option linter.unusedSimpArgs false
set_option linter.unusedVariables false
namespace Go.Proofs.YtjjfpbjdcmkkhaaDoor
open Go Go.RowKit Go.Shelf
theorem torn_not : rightS tornW = false := by kernel_rfl
theorem v_hold : (minF Prod.fst 400 (atL bookW 0) = 100 ∧ maxF Prod.fst 0 (atL bookW 0) = 110) ∧ (minF Prod.fst 400 (atL bookW 6) = 70 ∧ maxF Prod.fst 0 (atL bookW 6) = 80) ∧ (minF Prod.fst 400 (atL bookW 20) = 45 ∧ maxF Prod.fst 0 (atL bookW 20) = 55) ∧ (minF Prod.fst 400 (atL bookW 60) = 45 ∧ maxF Prod.fst 0 (atL bookW 60) = 55) := ⟨⟨by kernel_rfl, by kernel_rfl⟩, ⟨by kernel_rfl, by kernel_rfl⟩, ⟨by kernel_rfl, by kernel_rfl⟩, ⟨by kernel_rfl, by kernel_rfl⟩⟩
theorem v_rate7 : minF Prod.snd 400 (atL bookW 7) = 0 ∧ maxF Prod.snd 0 (atL bookW 7) = 0 := ⟨by kernel_rfl, by kernel_rfl⟩
theorem v_rate18 : minF Prod.snd 400 (atL bookW 18) = 0 ∧ maxF Prod.snd 0 (atL bookW 18) = 0 := ⟨by kernel_rfl, by kernel_rfl⟩
theorem v_ratel : minF Prod.snd 400 (atL leakyW 1) = 0 ∧ maxF Prod.snd 0 (atL leakyW 1) = 0 := ⟨by kernel_rfl, by kernel_rfl⟩
theorem v_savedb : minF (savS (60 - lastN bookW.ns)) 400 (atL bookW (lastN bookW.ns)) = 0 ∧ maxF (savS (60 - lastN bookW.ns)) 0 (atL bookW (lastN bookW.ns)) = 0 := ⟨by kernel_rfl, by kernel_rfl⟩
theorem v_can56 : canB bookW 20 56 = false := by kernel_rfl
theorem v_can75 : canB bookW 10 75 = false := by kernel_rfl
theorem v_fits1 : rightS (withS bookW ⟨0, 21, 50, 55⟩) = true := by kernel_rfl
theorem v_fits2 : rightS (withS bookW ⟨4, 6, 80, 80⟩) = true := by kernel_rfl
theorem v_fits3 : rightS (withS bookW ⟨4, 6, 81, 81⟩) = false := by kernel_rfl
theorem v_never : ((List.range 61).all fun j => decide (topH bookW (j : Nat) ≠ 0)) = true := by kernel_rfl
theorem v_whole : ((rchAll bookW 4).any fun q => decide (q.2 = [])) = true := by kernel_rfl
theorem book_nil {l : List Int} (h2 : ∀ st l', Rch bookW bookW.ns.length (st, l') → fewerB l' l = false) : l = [] := by
  refine best_nil h2 ?_
  have := v_whole
  rw [List.any_eq_true] at this
  obtain ⟨⟨st, l⟩, hq, he⟩ := this
  simp only [decide_eq_true_eq] at he
  subst he
  exact ⟨st, mem_rchAll.2 hq⟩
section
variable {B g c : Nat} {w : World}
theorem Can_t1 (hO : OwnNs w B (.slice (some ⟨g, 0, none⟩) tornW.ns.length c) tornW.ns) (hm : MM w) : Calls Tryd.prog 18 #[bkV tornW g c, .int .i64 61, .int .i64 0] w fun e w' => e = .returned (.tuple #[.bool false, .int .i64 31]) ∧ ∃ x, w' = ext w x :=
  (Can_all tornW _ c 61 0 31 w (sbk_of hO hm) (.inl (.inr (.inl ⟨torn_okS, rfl, rfl⟩)))).mono fun e w' ⟨h1, h2⟩ => by
    rcases h1 with ⟨-, h1⟩ | ⟨h0, -⟩
    · exact ⟨h1, ext_of h2⟩
    · cases h0
theorem Can_t2 (hO : OwnNs w B (.slice (some ⟨g, 0, none⟩) tornW.ns.length c) tornW.ns) (hm : MM w) : Calls Tryd.prog 18 #[bkV tornW g c, .int .i64 0, .int .i64 401] w fun e w' => e = .returned (.tuple #[.bool false, .int .i64 31]) ∧ ∃ x, w' = ext w x :=
  (Can_all tornW _ c 0 401 31 w (sbk_of hO hm) (.inl (.inr (.inl ⟨torn_okS, rfl, rfl⟩)))).mono fun e w' ⟨h1, h2⟩ => by
    rcases h1 with ⟨-, h1⟩ | ⟨h0, -⟩
    · exact ⟨h1, ext_of h2⟩
    · cases h0
theorem Held_t1 (hO : OwnNs w B (.slice (some ⟨g, 0, none⟩) tornW.ns.length c) tornW.ns) (hm : MM w) : Calls Tryd.prog 20 #[bkV tornW g c, .int .i64 (-1)] w fun e w' => e = .returned (.tuple #[.agg #[.int .i64 0, .int .i64 0], .int .i64 31]) ∧ ∃ x, w' = ext w x :=
  (Held_all tornW _ c (-1) 31 w (sbk_of hO hm) (.inl (.inr (.inl ⟨torn_okS, rfl, rfl⟩)))).mono fun e w' ⟨h1, h2⟩ => by
    rcases h1 with ⟨-, h1⟩ | ⟨h0, -⟩
    · exact ⟨h1, ext_of h2⟩
    · cases h0
theorem Rate_t1 (hO : OwnNs w B (.slice (some ⟨g, 0, none⟩) tornW.ns.length c) tornW.ns) (hm : MM w) : Calls Tryd.prog 22 #[bkV tornW g c, .int .i64 61] w fun e w' => e = .returned (.tuple #[.agg #[.int .i64 0, .int .i64 0], .int .i64 31]) ∧ ∃ x, w' = ext w x :=
  (Rate_all tornW _ c 61 31 w (sbk_of hO hm) (.inl (.inr (.inl ⟨torn_okS, rfl, rfl⟩)))).mono fun e w' ⟨h1, h2⟩ => by
    rcases h1 with ⟨-, h1⟩ | ⟨h0, -⟩
    · exact ⟨h1, ext_of h2⟩
    · cases h0
theorem Held_t2 (hO : OwnNs w B (.slice (some ⟨g, 0, none⟩) tornW.ns.length c) tornW.ns) (hm : MM w) : Calls Tryd.prog 20 #[bkV tornW g c, .int .i64 0] w fun e w' => e = .returned (.tuple #[.agg #[.int .i64 0, .int .i64 0], .int .i64 32]) ∧ ∃ x, w' = ext w x :=
  (Held_all tornW _ c 0 32 w (sbk_of hO hm) (.inl (.inr (.inr ⟨torn_okS, rfl, torn_not, rfl⟩)))).mono fun e w' ⟨h1, h2⟩ => by
    rcases h1 with ⟨-, h1⟩ | ⟨h0, -⟩
    · exact ⟨h1, ext_of h2⟩
    · cases h0
theorem Fits_t1 (hO : OwnNs w B (.slice (some ⟨g, 0, none⟩) tornW.ns.length c) tornW.ns) (hm : MM w) : Calls Tryd.prog 29 #[bkV tornW g c, .agg #[.int .i64 2, .int .i64 5, .int .i64 1, .int .i64 1]] w fun e w' => e = .returned (.tuple #[.bool false, .int .i64 31]) ∧ ∃ x, w' = ext w x :=
  (Fits_ask tornW _ c ⟨2, 5, 1, 1⟩ w (sbk_of hO hm) torn_okS (by kernel_rfl)).mono fun e w' ⟨h1, h2⟩ => ⟨h1, ext_of h2⟩
theorem Empty_t1 (hO : OwnNs w B (.slice (some ⟨g, 0, none⟩) tornW.ns.length c) tornW.ns) (hm : MM w) : Calls Tryd.prog 25 #[bkV tornW g c] w fun e w' => e = .returned (.tuple #[.int .i64 0, .int .i64 32]) ∧ ∃ x, w' = ext w x :=
  (Empty_err tornW _ c 32 w (sbk_of hO hm) (aerr_false torn_okS torn_not)).mono fun e w' ⟨h1, h2⟩ => ⟨h1, ext_of h2⟩
theorem Saved_t1 (hO : OwnNs w B (.slice (some ⟨g, 0, none⟩) tornW.ns.length c) tornW.ns) (hm : MM w) : Calls Tryd.prog 27 #[bkV tornW g c] w fun e w' => e = .returned (.tuple #[.agg #[.int .i64 0, .int .i64 0], .int .i64 32]) ∧ ∃ x, w' = ext w x :=
  (Saved_err tornW _ c 32 w (sbk_of hO hm) (aerr_false torn_okS torn_not)).mono fun e w' ⟨h1, h2⟩ => ⟨h1, ext_of h2⟩
theorem Empty_b (hO : OwnNs w B (.slice (some ⟨g, 0, none⟩) bookW.ns.length c) bookW.ns) (hm : MM w) : Calls Tryd.prog 25 #[bkV bookW g c] w fun e w' => e = .returned (.tuple #[.int .i64 0, .int .i64 4]) ∧ ∃ x, w' = ext w x :=
  Empty_non bookW _ c w (sbk_of hO hm) book_okS book_right (fun j hj => of_decide_eq_true (List.all_eq_true.1 v_never j (List.mem_range.2 (by omega))))
theorem Held_b0 (hO : OwnNs w B (.slice (some ⟨g, 0, none⟩) bookW.ns.length c) bookW.ns) (hm : MM w) : Calls Tryd.prog 20 #[bkV bookW g c, .int .i64 0] w fun e w' => e = .returned (.tuple #[.agg #[.int .i64 100, .int .i64 110], .int .i64 0]) ∧ ∃ x, w' = ext w x :=
  (Held_all bookW _ c 0 0 w (sbk_of hO hm) (.inr ⟨book_okS, rfl, book_right, rfl⟩)).mono fun e w' ⟨h1, h2⟩ => by
    rcases h1 with ⟨h1, -⟩ | ⟨-, h1⟩
    · exact absurd rfl h1
    · rw [v_hold.1.1, v_hold.1.2] at h1; exact ⟨h1, ext_of h2⟩
theorem Held_b1 (hO : OwnNs w B (.slice (some ⟨g, 0, none⟩) bookW.ns.length c) bookW.ns) (hm : MM w) : Calls Tryd.prog 20 #[bkV bookW g c, .int .i64 6] w fun e w' => e = .returned (.tuple #[.agg #[.int .i64 70, .int .i64 80], .int .i64 0]) ∧ ∃ x, w' = ext w x :=
  (Held_all bookW _ c 6 0 w (sbk_of hO hm) (.inr ⟨book_okS, rfl, book_right, rfl⟩)).mono fun e w' ⟨h1, h2⟩ => by
    rcases h1 with ⟨h1, -⟩ | ⟨-, h1⟩
    · exact absurd rfl h1
    · rw [v_hold.2.1.1, v_hold.2.1.2] at h1; exact ⟨h1, ext_of h2⟩
theorem Held_b2 (hO : OwnNs w B (.slice (some ⟨g, 0, none⟩) bookW.ns.length c) bookW.ns) (hm : MM w) : Calls Tryd.prog 20 #[bkV bookW g c, .int .i64 10] w fun e w' => e = .returned (.tuple #[.agg #[.int .i64 66, .int .i64 74], .int .i64 0]) ∧ ∃ x, w' = ext w x :=
  (Held_all bookW _ c 10 0 w (sbk_of hO hm) (.inr ⟨book_okS, rfl, book_right, rfl⟩)).mono fun e w' ⟨h1, h2⟩ => by
    rcases h1 with ⟨h1, -⟩ | ⟨-, h1⟩
    · exact absurd rfl h1
    · rw [v_held10.1, v_held10.2] at h1; exact ⟨h1, ext_of h2⟩
theorem Held_b3 (hO : OwnNs w B (.slice (some ⟨g, 0, none⟩) bookW.ns.length c) bookW.ns) (hm : MM w) : Calls Tryd.prog 20 #[bkV bookW g c, .int .i64 20] w fun e w' => e = .returned (.tuple #[.agg #[.int .i64 45, .int .i64 55], .int .i64 0]) ∧ ∃ x, w' = ext w x :=
  (Held_all bookW _ c 20 0 w (sbk_of hO hm) (.inr ⟨book_okS, rfl, book_right, rfl⟩)).mono fun e w' ⟨h1, h2⟩ => by
    rcases h1 with ⟨h1, -⟩ | ⟨-, h1⟩
    · exact absurd rfl h1
    · rw [v_hold.2.2.1.1, v_hold.2.2.1.2] at h1; exact ⟨h1, ext_of h2⟩
theorem Held_b4 (hO : OwnNs w B (.slice (some ⟨g, 0, none⟩) bookW.ns.length c) bookW.ns) (hm : MM w) : Calls Tryd.prog 20 #[bkV bookW g c, .int .i64 60] w fun e w' => e = .returned (.tuple #[.agg #[.int .i64 45, .int .i64 55], .int .i64 0]) ∧ ∃ x, w' = ext w x :=
  (Held_all bookW _ c 60 0 w (sbk_of hO hm) (.inr ⟨book_okS, rfl, book_right, rfl⟩)).mono fun e w' ⟨h1, h2⟩ => by
    rcases h1 with ⟨h1, -⟩ | ⟨-, h1⟩
    · exact absurd rfl h1
    · rw [v_hold.2.2.2.1, v_hold.2.2.2.2] at h1; exact ⟨h1, ext_of h2⟩
theorem Rate_b7 (hO : OwnNs w B (.slice (some ⟨g, 0, none⟩) bookW.ns.length c) bookW.ns) (hm : MM w) : Calls Tryd.prog 22 #[bkV bookW g c, .int .i64 7] w fun e w' => e = .returned (.tuple #[.agg #[.int .i64 0, .int .i64 0], .int .i64 0]) ∧ ∃ x, w' = ext w x :=
  (Rate_all bookW _ c 7 0 w (sbk_of hO hm) (.inr ⟨book_okS, rfl, book_right, rfl⟩)).mono fun e w' ⟨h1, h2⟩ => by
    rcases h1 with ⟨h1, -⟩ | ⟨-, h1⟩
    · exact absurd rfl h1
    · rw [v_rate7.1, v_rate7.2] at h1; exact ⟨h1, ext_of h2⟩
theorem Rate_b18 (hO : OwnNs w B (.slice (some ⟨g, 0, none⟩) bookW.ns.length c) bookW.ns) (hm : MM w) : Calls Tryd.prog 22 #[bkV bookW g c, .int .i64 18] w fun e w' => e = .returned (.tuple #[.agg #[.int .i64 0, .int .i64 0], .int .i64 0]) ∧ ∃ x, w' = ext w x :=
  (Rate_all bookW _ c 18 0 w (sbk_of hO hm) (.inr ⟨book_okS, rfl, book_right, rfl⟩)).mono fun e w' ⟨h1, h2⟩ => by
    rcases h1 with ⟨h1, -⟩ | ⟨-, h1⟩
    · exact absurd rfl h1
    · rw [v_rate18.1, v_rate18.2] at h1; exact ⟨h1, ext_of h2⟩
theorem Saved_b (hO : OwnNs w B (.slice (some ⟨g, 0, none⟩) bookW.ns.length c) bookW.ns) (hm : MM w) : Calls Tryd.prog 27 #[bkV bookW g c] w fun e w' => e = .returned (.tuple #[.agg #[.int .i64 0, .int .i64 0], .int .i64 0]) ∧ ∃ x, w' = ext w x :=
  Saved_is bookW _ c 0 0 w (sbk_of hO hm) book_okS book_right v_savedb.1 v_savedb.2
theorem Can_b56 (hO : OwnNs w B (.slice (some ⟨g, 0, none⟩) bookW.ns.length c) bookW.ns) (hm : MM w) : Calls Tryd.prog 18 #[bkV bookW g c, .int .i64 20, .int .i64 56] w fun e w' => e = .returned (.tuple #[.bool false, .int .i64 0]) ∧ ∃ x, w' = ext w x :=
  (Can_all bookW _ c 20 56 0 w (sbk_of hO hm) (.inr ⟨book_okS, rfl, book_right, rfl⟩)).mono fun e w' ⟨h1, h2⟩ => by
    rcases h1 with ⟨h1, -⟩ | ⟨-, h1⟩
    · exact absurd rfl h1
    · rw [v_can56] at h1; exact ⟨h1, ext_of h2⟩
theorem Can_b75 (hO : OwnNs w B (.slice (some ⟨g, 0, none⟩) bookW.ns.length c) bookW.ns) (hm : MM w) : Calls Tryd.prog 18 #[bkV bookW g c, .int .i64 10, .int .i64 75] w fun e w' => e = .returned (.tuple #[.bool false, .int .i64 0]) ∧ ∃ x, w' = ext w x :=
  (Can_all bookW _ c 10 75 0 w (sbk_of hO hm) (.inr ⟨book_okS, rfl, book_right, rfl⟩)).mono fun e w' ⟨h1, h2⟩ => by
    rcases h1 with ⟨h1, -⟩ | ⟨-, h1⟩
    · exact absurd rfl h1
    · rw [v_can75] at h1; exact ⟨h1, ext_of h2⟩
theorem Fits_b1 (hO : OwnNs w B (.slice (some ⟨g, 0, none⟩) bookW.ns.length c) bookW.ns) (hm : MM w) : Calls Tryd.prog 29 #[bkV bookW g c, .agg #[.int .i64 0, .int .i64 21, .int .i64 50, .int .i64 55]] w fun e w' => e = .returned (.tuple #[.bool true, .int .i64 0]) ∧ ∃ x, w' = ext w x :=
  (Fits_ok bookW _ c ⟨0, 21, 50, 55⟩ w (sbk_of hO hm) (sbc_of hO) book_okS (by kernel_rfl)).mono fun e w' ⟨h1, h2⟩ => by
    rw [v_fits1] at h1; exact ⟨h1, ext_of h2⟩
theorem Fits_b2 (hO : OwnNs w B (.slice (some ⟨g, 0, none⟩) bookW.ns.length c) bookW.ns) (hm : MM w) : Calls Tryd.prog 29 #[bkV bookW g c, .agg #[.int .i64 4, .int .i64 6, .int .i64 80, .int .i64 80]] w fun e w' => e = .returned (.tuple #[.bool true, .int .i64 0]) ∧ ∃ x, w' = ext w x :=
  (Fits_ok bookW _ c ⟨4, 6, 80, 80⟩ w (sbk_of hO hm) (sbc_of hO) book_okS (by kernel_rfl)).mono fun e w' ⟨h1, h2⟩ => by
    rw [v_fits2] at h1; exact ⟨h1, ext_of h2⟩
theorem Fits_b3 (hO : OwnNs w B (.slice (some ⟨g, 0, none⟩) bookW.ns.length c) bookW.ns) (hm : MM w) : Calls Tryd.prog 29 #[bkV bookW g c, .agg #[.int .i64 4, .int .i64 6, .int .i64 81, .int .i64 81]] w fun e w' => e = .returned (.tuple #[.bool false, .int .i64 0]) ∧ ∃ x, w' = ext w x :=
  (Fits_ok bookW _ c ⟨4, 6, 81, 81⟩ w (sbk_of hO hm) (sbc_of hO) book_okS (by kernel_rfl)).mono fun e w' ⟨h1, h2⟩ => by
    rw [v_fits3] at h1; exact ⟨h1, ext_of h2⟩
theorem Rate_l1 (hO : OwnNs w B (.slice (some ⟨g, 0, none⟩) leakyW.ns.length c) leakyW.ns) (hm : MM w) : Calls Tryd.prog 22 #[bkV leakyW g c, .int .i64 1] w fun e w' => e = .returned (.tuple #[.agg #[.int .i64 0, .int .i64 0], .int .i64 0]) ∧ ∃ x, w' = ext w x :=
  (Rate_all leakyW _ c 1 0 w (sbk_of hO hm) (.inr ⟨leaky_okS, rfl, leaky_right, rfl⟩)).mono fun e w' ⟨h1, h2⟩ => by
    rcases h1 with ⟨h1, -⟩ | ⟨-, h1⟩
    · exact absurd rfl h1
    · rw [v_ratel.1, v_ratel.2] at h1; exact ⟨h1, ext_of h2⟩
theorem Wrong_b (hO : OwnNs w B (.slice (some ⟨g, 0, none⟩) bookW.ns.length c) bookW.ns) (hm : MM w) : Calls Tryd.prog 31 #[bkV bookW g c] w fun e w' => ∃ (p : Option Addr) (k : Nat), e = .returned (.tuple #[.slice p 0 k, .int .i64 0]) ∧ ∃ x, w' = ext w x :=
  (Wrong_ok bookW _ c w (sbk_of hO hm) book_okS).mono fun e w' ⟨v, l, h1, h2, h3, h4, h5⟩ => by
    obtain rfl := book_nil h4
    obtain ⟨p, k, rfl, hI, -⟩ := h2
    exact ⟨p, k, h1, ext_of h5⟩
end
end Go.Proofs.YtjjfpbjdcmkkhaaDoor

namespace Go.Proofs.YtjjfpbjdcmkkhaaDoor
open Go Go.RowKit Go.Shelf
section
variable {P : Program} {ops : Array Oper} {Q : Exit → Act → World → Prop} {i : Nat} {o : Oper} {K : Act → World → Prop} {a : Act} {w : World}
theorem run_eqS (ρ : Operand → Value) {s : Nat} {t t2 : TypeId} {m n : Int} (hop : o.op = .binOp .eql t (.tmp s) (.const (.int .i64 n)) t2) (hs : ρ (.tmp s) = .int .i64 m) (hn : ρ (.const (.int .i64 n)) = .int .i64 n) : (execOp ρ o).run P w = .ok (.value (.bool (m == n))) w := by
  unfold execOp
  simp [hop, hs, hn, go_sem]
theorem st_eqS {s : Nat} {t t2 : TypeId} {m n : Int} (h : ops[i]? = some o) (hop : o.op = .binOp .eql t (.tmp s) (.const (.int .i64 n)) t2) (hw : Region.wanted o (yielded ops a.tmps) = true) (hs : a.tmps.getD s undef = .int .i64 m) (hK : K (a.put o.dst (.bool (m == n))) w) : wpOp P ops Q i K a w :=
  st_val h hw (run_eqS _ hop hs rfl) hK
theorem st_assignS {s : Nat} {v : Value} (h : ops[i]? = some o) (hop : o.op = .assign (.tmp s)) (hw : Region.wanted o (yielded ops a.tmps) = true) (hs : a.tmps.getD s undef = v) (hK : K (a.put o.dst v) w) : wpOp P ops Q i K a w := by
  refine st_val h hw ?_ hK
  unfold execOp
  simp only [hop, Act.eval, hs, Sem.run_pure]
theorem run_lenS (ρ : Operand → Value) {s : Nat} {p : Option Addr} {n c : Nat} (hop : o.op = .call { callee := .builtin .len, args := #[.tmp s], argTypes := #[44] }) (hs : ρ (.tmp s) = .slice p n c) :
    (execOp ρ o).run Tryd.prog w = .ok (.value (.int .i64 n)) w := by
  unfold execOp
  simp [hop, hs, go_sem]
theorem run_spanEq (ρ : Operand → Value) {s t : Nat} {t2 : TypeId} {x y : Int} (hop : o.op = .binOp .eql 23 (.tmp s) (.tmp t) t2) (h1 : ρ (.tmp s) = .agg #[.int .i64 x, .int .i64 y]) (h2 : ρ (.tmp t) = .agg #[.int .i64 x, .int .i64 y]) :
    (execOp ρ o).run Tryd.prog w = .ok (.value (.bool true)) w := by
  unfold execOp
  simp only [hop, h1, h2]
  simp only [Sem.run_bind, span_eql]
  simp [go_sem]
theorem run_lSpanK (ρ : Operand → Value) {g s : Nat} {x y : Int} (hop : o.op = .load 23 (.tmp s)) (hs : ρ (.tmp s) = .pointer (some ⟨g, 0, none⟩)) (k : Blk w g 23 #[.int .i64 x, .int .i64 y]) :
    (execOp ρ o).run Tryd.prog w = .ok (.value (.agg #[.int .i64 x, .int .i64 y])) w := by
  have c0 := k.cell 0
  have c1 := k.cell 1
  simp only [List.size_toArray, List.length_cons, List.length_nil, Nat.reduceAdd, Nat.reduceLT, getElem?_pos, List.getElem_toArray, List.getElem_cons_zero, List.getElem_cons_succ] at c0 c1
  unfold execOp
  simp [hop, hs, go_sem, c0, c1]
end
theorem run_aSpanK {o : Oper} {w : World} (ρ : Operand → Value) (hop : o.op = .alloc 23) :
    (execOp ρ o).run Tryd.prog w = .ok (.value (.pointer (some ⟨w.heap.size, 0, none⟩))) (w.alloc (.cells #[.int .i64 0, .int .i64 0] 23)) := by
  unfold execOp
  simp [hop, go_sem]
theorem st_stspK {ops : Array Oper} {Q : Exit → Act → World → Prop} {i : Nat} {o : Oper} {K : Act → World → Prop} {a : Act} {w : World} {s t g j : Nat} {x y : Int} {v0 v1 : Value} (h : ops[i]? = some o) (hw : Region.wanted o (yielded ops a.tmps) = true) (hop : o.op = .store 23 (.tmp s) (.tmp t)) (hd : o.dst = none)
    (hs : a.tmps.getD s undef = .pointer (some ⟨g, 0, none⟩)) (ht : a.tmps.getD t undef = .agg #[.int .i64 x, .int .i64 y]) (k : Blk w g 23 #[v0, v1])
    (hK : ∀ w', (∀ B, B ≤ g → Below B w w') → Blk w' g 23 #[.int .i64 x, .int .i64 y] → K a w') : wpOp Tryd.prog ops Q i K a w := by
  refine wpOp_want h hw ?_
  refine wp_store_mid 23 _ _ hop g 0 _ hs ht ?_ (by kernel_rfl) (by kernel_rfl) ?_
  · intro j hj
    rw [Nat.zero_add, k.cell, k.frozen]
    have hj' : j < (#[v0, v1] : Array Value).size := hj
    exact ⟨by rw [Array.getElem?_eq_getElem hj']; rfl, rfl⟩
  · rw [hd]
    refine hK ((w.setCell ⟨g, 0, none⟩ (.int .i64 x)).setCell ⟨g, 1, none⟩ (.int .i64 y)) (fun B hB => ((Below.refl _ _).setCell hB _).setCell hB _) ?_
    simpa using (k.set 0 (.int .i64 x)).set 1 (.int .i64 y)
/-- Hours, and what is held then. -/
def heldRow : Nat → Int × Int × Int
  | 0 => (0, 100, 110)
  | 1 => (6, 70, 80)
  | 2 => (10, 66, 74)
  | 3 => (20, 45, 55)
  | _ => (60, 45, 55)
def heldCells : Array Value := #[.int .i64 0, .int .i64 100, .int .i64 110, .int .i64 6, .int .i64 70, .int .i64 80, .int .i64 10, .int .i64 66, .int .i64 74, .int .i64 20, .int .i64 45, .int .i64 55, .int .i64 60, .int .i64 45, .int .i64 55]
theorem heldCells_at (k : Nat) (hk : k < 5) : heldCells[k * 3]? = some (.int .i64 (heldRow k).1) ∧ heldCells[k * 3 + 1]? = some (.int .i64 (heldRow k).2.1) ∧ heldCells[k * 3 + 2]? = some (.int .i64 (heldRow k).2.2) := by
  rcases (show k = 0 ∨ k = 1 ∨ k = 2 ∨ k = 3 ∨ k = 4 by omega) with rfl | rfl | rfl | rfl | rfl <;> exact ⟨rfl, rfl, rfl⟩
theorem Held_rows (k : Nat) (hk : k < 5) (B g c : Nat) (w : World) (hO : OwnNs w B (.slice (some ⟨g, 0, none⟩) bookW.ns.length c) bookW.ns) (hm : MM w) : Calls Tryd.prog 20 #[bkV bookW g c, .int .i64 (heldRow k).1] w fun e w' => e = .returned (.tuple #[.agg #[.int .i64 (heldRow k).2.1, .int .i64 (heldRow k).2.2], .int .i64 0]) ∧ ∃ x, w' = ext w x := by
  rcases (show k = 0 ∨ k = 1 ∨ k = 2 ∨ k = 3 ∨ k = 4 by omega) with rfl | rfl | rfl | rfl | rfl
  · exact Held_b0 hO hm
  · exact Held_b1 hO hm
  · exact Held_b2 hO hm
  · exact Held_b3 hO hm
  · exact Held_b4 hO hm
theorem run_row3K {o : Oper} {w : World} {g s u k : Nat} (ρ : Operand → Value) (hop : o.op = .indexAddr 73 (.tmp s) (.tmp u)) (h1 : ρ (.tmp s) = .slice (some ⟨g, 0, none⟩) 5 5) (h2 : ρ (.tmp u) = .int .i64 k) (hk : k < 5) (hl : g < w.heap.size) :
    (execOp ρ o).run Tryd.prog w = .ok (.value (.pointer (some ⟨g, k * 3, none⟩))) w := by
  have k0 : (0 : Int) ≤ (k : Int) := by omega
  have k1 : (k : Int) < 5 := by omega
  unfold execOp
  simp [hop, h1, h2, go_sem, hl, k0, k1]
theorem run_col0K {o : Oper} {w : World} {g j s : Nat} (ρ : Operand → Value) (hop : o.op = .indexAddr 67 (.tmp s) (.const (.int .i64 0))) (hs : ρ (.tmp s) = .pointer (some ⟨g, j, none⟩)) (hl : g < w.heap.size) (hc : ρ (.const (.int .i64 0)) = .int .i64 0 := by rfl) :
    (execOp ρ o).run Tryd.prog w = .ok (.value (.pointer (some ⟨g, j, none⟩))) w := by
  unfold execOp
  simp [hop, hs, hc, go_sem, hl]
theorem run_lNumK {o : Oper} {w : World} {g j t : Nat} {x : Int} (ρ : Operand → Value) (hop : o.op = .load 3 (.tmp t)) (hs : ρ (.tmp t) = .pointer (some ⟨g, j, none⟩)) (c0 : w.cell? ⟨g, j, none⟩ = some (.int .i64 x)) : (execOp ρ o).run Tryd.prog w = .ok (.value (.int .i64 x)) w := by
  unfold execOp; simp [hop, hs, go_sem, c0]
/-- What the operations of a round of the table leave. -/
def tabS (W0 g37 k : Nat) (m lo hi : Int) (f : Bool) (i : Nat) (u : Value) (w : World) : Prop :=
  match i with
  | 0 => ∃ g c, u = bkV bookW g c ∧ (f = false → OwnNs w 0 (.slice (some ⟨g, 0, none⟩) bookW.ns.length c) bookW.ns)
  | 1 => u = .slice (some ⟨g37, 0, none⟩) 5 5
  | 2 => u = .int .i64 k
  | 3 => u = .pointer (some ⟨g37, k * 3, none⟩)
  | 4 => u = .pointer (some ⟨g37, k * 3, none⟩)
  | 5 => u = .int .i64 m
  | 6 => u = .tuple #[.agg #[.int .i64 lo, .int .i64 hi], .int .i64 0]
  | 7 => u = .tuple #[.agg #[.int .i64 lo, .int .i64 hi], .int .i64 0]
  | 8 => u = .agg #[.int .i64 lo, .int .i64 hi]
  | 9 => u = .int .i64 0
  | 10 => ∃ g : Nat, u = .pointer (some ⟨g, 0, none⟩) ∧ W0 ≤ g ∧ ∃ v0 v1, Blk w g 23 #[v0, v1] ∧ (f = true → v0 = .int .i64 lo ∧ v1 = .int .i64 hi)
  | _ => True
theorem tabS_kept (W0 g37 k : Nat) (m lo hi : Int) : ∀ (f : Bool) (i : Nat), i < 12 → i ≠ 11 → ∀ (u : Value) (w w' : World), tabS W0 g37 k m lo hi f i u w → Below w.heap.size w w' → tabS W0 g37 k m lo hi f i u w' := by
  intro f i hi hik u w w' h hb
  rcases (show i = 0 ∨ i = 1 ∨ i = 2 ∨ i = 3 ∨ i = 4 ∨ i = 5 ∨ i = 6 ∨ i = 7 ∨ i = 8 ∨ i = 9 ∨ i = 10 by omega) with hi0 | hi0 | hi0 | hi0 | hi0 | hi0 | hi0 | hi0 | hi0 | hi0 | hi0
  all_goals subst hi0
  all_goals first
    | exact h
    | (obtain ⟨g, h1, h2, v0, v1, h3, h4⟩ := h; exact ⟨g, h1, h2, v0, v1, h3.bel hb, h4⟩)
    | (obtain ⟨g, c, h1, h2⟩ := h; exact ⟨g, c, h1, fun hf => (h2 hf).below hb⟩)
end Go.Proofs.YtjjfpbjdcmkkhaaDoor

namespace Go.Proofs.YtjjfpbjdcmkkhaaDoor
open Go Go.RowKit Go.Shelf
/-- What the operations of the last region leave. -/
def lastK (pw : Option Addr) (cw : Nat) (i : Nat) (v : Value) (_w : World) : Prop :=
  match i with
  | 0 => v = .int .i64 0
  | 1 => v = .bool true
  | 2 => v = .bool true
  | 3 => v = .agg #[.int .i64 0, .int .i64 0]
  | 4 => v = .agg #[.int .i64 0, .int .i64 0]
  | 5 => v = .bool true
  | 6 => v = .bool true
  | 7 => v = .bool true
  | 8 => v = .int .i64 0
  | 9 => v = .bool true
  | 10 => v = .bool true
  | 11 => v = .bool true
  | 12 => v = .agg #[.int .i64 0, .int .i64 0]
  | 13 => v = .agg #[.int .i64 0, .int .i64 0]
  | 14 => v = .bool true
  | 15 => v = .bool true
  | 16 => v = .bool true
  | 17 => v = .int .i64 0
  | 18 => v = .bool true
  | 19 => v = .bool true
  | 20 => v = .bool true
  | 21 => v = .agg #[.int .i64 0, .int .i64 0]
  | 22 => v = .agg #[.int .i64 0, .int .i64 0]
  | 23 => v = .bool true
  | 24 => v = .bool true
  | 25 => v = .bool true
  | 26 => v = .int .i64 0
  | 27 => v = .bool true
  | 28 => v = .bool true
  | 29 => v = .bool true
  | 30 => v = .bool false
  | 31 => v = .bool true
  | 32 => v = .bool true
  | 33 => v = .bool true
  | 34 => v = .int .i64 0
  | 35 => v = .bool true
  | 36 => v = .bool true
  | 37 => v = .bool true
  | 38 => v = .bool false
  | 39 => v = .bool true
  | 40 => v = .bool true
  | 41 => v = .bool true
  | 42 => v = .int .i64 0
  | 43 => v = .bool true
  | 44 => v = .bool true
  | 45 => v = .bool true
  | 46 => v = .bool true
  | 47 => v = .bool true
  | 48 => v = .bool true
  | 49 => v = .int .i64 0
  | 50 => v = .bool true
  | 51 => v = .bool true
  | 52 => v = .bool true
  | 53 => v = .bool true
  | 54 => v = .bool true
  | 55 => v = .bool true
  | 56 => v = .int .i64 0
  | 57 => v = .bool true
  | 58 => v = .bool true
  | 59 => v = .bool true
  | 60 => v = .bool false
  | 61 => v = .bool true
  | 62 => v = .bool true
  | 63 => v = .bool true
  | 64 => v = .int .i64 0
  | 65 => v = .bool true
  | 66 => v = .bool true
  | 67 => v = .bool true
  | 68 => v = .slice pw 0 cw
  | 69 => v = .int .i64 0
  | 70 => v = .bool true
  | 71 => v = .bool true
  | 72 => v = .bool true
  | 73 => v = .int .i64 0
  | 74 => v = .bool true
  | 75 => v = .bool true
  | 76 => v = .bool true
  | 77 => v = .agg #[.int .i64 0, .int .i64 0]
  | 78 => v = .agg #[.int .i64 0, .int .i64 0]
  | 79 => v = .bool true
  | 80 => v = .bool true
  | 81 => v = .bool true
  | 82 => v = .bool true
  | 83 => v = .bool true
  | 84 => v = .bool true
  | 85 => v = .bool true
  | _ => True
theorem lastK_kept (pw : Option Addr) (cw : Nat) : ∀ i, i < 86 → ∀ (v : Value) (w w' : World), lastK pw cw i v w → Below w.heap.size w w' → lastK pw cw i v w' := fun i _ v w w' h _ => by
  unfold lastK at h ⊢
  exact h
end Go.Proofs.YtjjfpbjdcmkkhaaDoor

