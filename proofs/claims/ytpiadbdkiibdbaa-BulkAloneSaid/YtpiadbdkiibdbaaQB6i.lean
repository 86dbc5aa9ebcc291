/- For the law BulkAlone: plain facts; Spans, Sum of huerref00. -/
import Derived.Test.YtpiadbdkiibdbaaQB6h
set_option linter.unusedSimpArgs false
set_option linter.unusedVariables false
namespace Go.Proofs.Ytpiadbdkiibdbaa
open Go Go.RowKit Go.Shelf
theorem true_one {b : Ck} {m : Ms} {L : List (Int × Int)} {i : Nat} {t : Lt} (h : TrueIs b m L) (ht : b.ls[i]? = some t) : ∃ l, L[i]? = some l ∧ TrueIs (b.one t) m [l] := by
  have hi : i < L.length := by rw [h.len]; exact (List.getElem?_eq_some_iff.1 ht).1
  have hl := List.getElem?_eq_getElem hi
  exact ⟨L[i], hl, one_true.2 ⟨h.ms, _, rfl, h.ok i t _ ht hl⟩⟩
theorem gSum_at {q : Qs} {i : Nat} {m : Ms} {L : List (Int × Int)} {l : Int × Int} (h : L[i]? = some l) : gSum q i 1 m L = q.num m l := by
  unfold gSum
  rw [drop_of_get h]
  simp
theorem gSum_one {q : Qs} {m : Ms} {l : Int × Int} : gSum q 0 1 m [l] = q.num m l := by simp [gSum]
theorem alone_spans {b : Ck} {q : Qs} {i : Nat} {t : Lt} {lo hi lo' hi' : Int} (ht : b.ls[i]? = some t) (h : EndsC b (gSum q i 1) lo hi) (h' : EndsC (b.one t) (gSum q 0 1) lo' hi') : lo' ≤ lo ∧ hi ≤ hi' := by
  have key : ∀ m L, TrueIs b m L → lo' ≤ gSum q i 1 m L ∧ gSum q i 1 m L ≤ hi' := fun m L hL => by
    obtain ⟨l, h1, h2⟩ := true_one hL ht
    have := h'.all m [l] h2
    rw [gSum_one] at this
    rwa [gSum_at h1]
  obtain ⟨m1, L1, a1, a2⟩ := h.low
  obtain ⟨m2, L2, a3, a4⟩ := h.high
  have := key _ _ a1
  have := key _ _ a3
  omega
theorem alone_holds {b : Ck} {i k : Nat} {t : Lt} {lo hi lo' hi' : Int} (ht : b.ls[i]? = some t) (h : EndsC b (fun m _ => m.at k) lo hi) (h' : EndsC (b.one t) (fun m _ => m.at k) lo' hi') : lo' ≤ lo ∧ hi ≤ hi' := by
  obtain ⟨m1, L1, a1, a2⟩ := h.low
  obtain ⟨m2, L2, a3, a4⟩ := h.high
  obtain ⟨l1, -, b1⟩ := true_one a1 ht
  obtain ⟨l2, -, b2⟩ := true_one a3 ht
  have := h'.all _ _ b1
  have := h'.all _ _ b2
  omega
theorem holds_inner {b : Ck} {k : Nat} {lo hi : Int} (h : EndsC b (fun m _ => m.at k) lo hi) : b.lo k ≤ lo ∧ hi ≤ b.hi k := by
  obtain ⟨m1, L1, a1, a2⟩ := h.low
  obtain ⟨m2, L2, a3, a4⟩ := h.high
  obtain ⟨h1, h2, h3⟩ := a1.ms
  obtain ⟨h4, h5, h6⟩ := a3.ms
  rcases k with _ | _ | k <;> simp only [Ck.lo, Ck.hi, Ms.at] at * <;> omega
theorem alone_right {b : Ck} {i : Nat} {t : Lt} (ht : b.ls[i]? = some t) (h : rightC b = true) : rightC (b.one t) = true := by
  obtain ⟨m, L, hL⟩ := rightC_iff.1 h
  obtain ⟨l, -, h2⟩ := true_one hL ht
  exact rightC_iff.2 ⟨m, _, h2⟩
/-- The sums of the ends of the first lots. -/
structure SumsTo (b : Ck) (q : Qs) (j : Nat) (lo hi : Int) : Prop where
  all : ∀ m L, TrueIs b m L → lo ≤ gSum q 0 j m L ∧ gSum q 0 j m L ≤ hi
  bd : (0 ≤ lo ∧ lo ≤ 400 * (j : Int)) ∧ 0 ≤ hi ∧ hi ≤ 400 * (j : Int)
theorem SumsTo.nil (b : Ck) (q : Qs) : SumsTo b q 0 0 0 := ⟨fun m L _ => by simp [gSum], by simp⟩
theorem gSum_succ {q : Qs} {j : Nat} {m : Ms} {L : List (Int × Int)} {l : Int × Int} (h : L[j]? = some l) : gSum q 0 (j + 1) m L = gSum q 0 j m L + gSum q j 1 m L := by
  rw [gSum_at h]
  unfold gSum
  rw [List.drop_zero, List.take_add_one, h]
  simp
theorem SumsTo.step {b : Ck} {q : Qs} {j : Nat} {lo hi x y : Int} (h : SumsTo b q j lo hi) (hj : j < b.ls.length) (he : EndsC b (gSum q j 1) x y) (hx : 0 ≤ x ∧ x ≤ 400) (hy : 0 ≤ y ∧ y ≤ 400) : SumsTo b q (j + 1) (lo + x) (hi + y) := by
  refine ⟨fun m L hL => ?_, by have := h.bd; omega⟩
  have hi : j < L.length := by rw [hL.len]; exact hj
  rw [gSum_succ (List.getElem?_eq_getElem hi)]
  have := h.all m L hL
  have := he.all m L hL
  omega
theorem SumsTo.spans {b : Ck} {q : Qs} {lo hi x y : Int} (h : SumsTo b q b.ls.length lo hi) (he : EndsC b (gSum q 0 b.ls.length) x y) : lo ≤ x ∧ y ≤ hi := by
  obtain ⟨m1, L1, a1, a2⟩ := he.low
  obtain ⟨m2, L2, a3, a4⟩ := he.high
  have := h.all _ _ a1
  have := h.all _ _ a3
  omega
theorem ends_num_bd {b : Ck} {q : Qs} {i : Nat} {lo hi : Int} (hv : cellV b = true) (hq : ∀ k, q = .count k → k < 3) (hin : i < b.ls.length) (he : EndsC b (gSum q i 1) lo hi) : (0 ≤ lo ∧ lo ≤ 400) ∧ 0 ≤ hi ∧ hi ≤ 400 := by
  have key : ∀ m L, TrueIs b m L → 0 ≤ gSum q i 1 m L ∧ gSum q i 1 m L ≤ 400 := fun m L hL => by
    have h1 : i < L.length := by rw [hL.len]; exact hin
    rw [gSum_at (List.getElem?_eq_getElem h1)]
    have ht := List.getElem?_eq_getElem hin
    exact num_bd (ms_ok (cell_holds hv) (mem_storesL.2 hL.ms)) ((cell_bk hv).ok _ (List.getElem_mem hin)) hq (hL.ok i _ _ ht (List.getElem?_eq_getElem h1))
  obtain ⟨m1, L1, a1, a2⟩ := he.low
  obtain ⟨m2, L2, a3, a4⟩ := he.high
  have := key _ _ a1
  have := key _ _ a3
  omega
theorem lo_hi_bd {b : Ck} (hv : cellV b = true) (k : Nat) : 1 ≤ b.lo k ∧ b.hi k ≤ 9 := by
  obtain ⟨⟨⟨a1, a2, a3, -⟩, ⟨a5, a6, a7, -⟩, a9, a10, a11, -⟩, -⟩ := cell_parts hv
  rcases k with _ | _ | k <;> simp only [Ck.lo, Ck.hi] <;> omega
theorem cell_holdsAt {w : World} {g : Nat} {b : Ck} {p : Option Addr} {c : Nat} (h : Blk w g 28 (ckcs b p c)) {k : Nat} (hk : k < 3) : w.cell? ⟨g, k * 2, none⟩ = some (.int .i64 (b.lo k)) ∧ w.cell? ⟨g, k * 2 + 1, none⟩ = some (.int .i64 (b.hi k)) := by
  rw [h.cell, h.cell]
  match k, hk with
  | 0, _ => exact ⟨rfl, rfl⟩
  | 1, _ => exact ⟨rfl, rfl⟩
  | 2, _ => exact ⟨rfl, rfl⟩
theorem Spans_yes (a b c d : Int) (w : World) (h1 : a ≤ c) (h2 : d ≤ b) : Calls Try.prog 42 #[.agg #[.int .i64 a, .int .i64 b], .agg #[.int .i64 c, .int .i64 d]] w fun e w' => e = .returned (.bool true) ∧ ∃ x, w' = ext w x := by
  go_enter Try.func42, Try.ntmps42
  go_wp2
  go_ret
  exact ⟨rfl, by (exact ext_of (by (exact belA)))⟩
theorem Sum_any (a b c d : Int) (w : World) (h1 : 0 ≤ a ∧ a ≤ 100000) (h2 : 0 ≤ b ∧ b ≤ 100000) (h3 : 0 ≤ c ∧ c ≤ 100000) (h4 : 0 ≤ d ∧ d ≤ 100000) : Calls Try.prog 44 #[.agg #[.int .i64 a, .int .i64 b], .agg #[.int .i64 c, .int .i64 d]] w fun e w' => e = .returned (.agg #[.int .i64 (a + c), .int .i64 (b + d)]) ∧ ∃ x, w' = ext w x := by
  go_enter Try.func44, Try.ntmps44
  go_wp2_with (go_at_call 52; refine (To_any _ _ _).mono ?_; rintro e w1 ⟨rfl, y, rfl⟩)
  refine bodyPost_ret (v := .agg #[.int .i64 (a + c), .int .i64 (b + d)]) (by simp [results, Try.results44, go_sem]) rfl ⟨rfl, ?_⟩
  (exact ext_of (by (exact belA)))
end Go.Proofs.Ytpiadbdkiibdbaa

