/- The chapter's book torn: one shot more. -/
import Derived.Test.YtkmjfmppeedaoaaDoorQWa
import Derived.Test.YtkmjfmppeedaoaaDoorQUf
set_option linter.unusedSimpArgs false
set_option linter.unusedVariables false
namespace Go.Proofs.YtkmjfmppeedaoaaDoor
open Go Go.RowKit

theorem ShotsAt.enc {w : World} {ad : Addr} {l : List Shot} (h : ShotsAt w (some ad) l) : ∀ j u, (encShots l)[j]? = some u → w.cell? (ad.add j) = some u := by
  intro j u hj
  have hlt := (List.getElem?_eq_some_iff.1 hj).1
  rw [encShots_len] at hlt
  obtain ⟨s, hs⟩ := get_some l (j / 4) (by omega)
  obtain ⟨b, o, h1, h2, c0, c1, c2, c3⟩ := h (j / 4) s hs
  obtain ⟨e0, e1, e2, e3⟩ := encShots_get l (j / 4) s hs
  cases h1
  have hc : j = j / 4 * 4 ∨ j = j / 4 * 4 + 1 ∨ j = j / 4 * 4 + 2 ∨ j = j / 4 * 4 + 3 := by omega
  generalize j / 4 = i at *
  rcases hc with rfl | rfl | rfl | rfl
  · rw [e0] at hj; cases hj; rw [addr_add]; simpa [Nat.add_assoc] using c0
  · rw [e1] at hj; cases hj; rw [addr_add]; simpa [Nat.add_assoc] using c1
  · rw [e2] at hj; cases hj; rw [addr_add]; simpa [Nat.add_assoc] using c2
  · rw [e3] at hj; cases hj; rw [addr_add]; simpa [Nat.add_assoc] using c3
theorem step_grow_shot {ops : Array Oper} {o : Oper} {a : Act} {w : World} {K : Act → World → Prop} {Q : Exit → Act → World → Prop} {E : Prop} (hg : o.guard = none) (s x : Operand)
    (hop : o.op = Op.call { callee := Callee.builtin Builtin.append, args := #[s, x], argTypes := #[24, 24] })
    (ad : Addr) (n : Nat) (l : List Shot) (hs : a.eval s = .slice (some ad) n n) (hl : l.length = n) (hb : n ≤ 1000) (had : ∀ j u, (encShots l)[j]? = some u → w.cell? (ad.add j) = some u)
    (g : Nat) (y : Shot) (hx : a.eval x = .slice (some ⟨g, 0, none⟩) 1 1) (hc : Blk w g 46 #[.int .i64 y.st, .int .i64 y.co, .int .i64 y.lo, .int .i64 y.hi])
    (hK : ∀ v' w', OwnShots w' w.heap.size v' (l ++ [y]) → Below w.heap.size w w' → K (a.put o.dst v') w') :
    if Region.wanted o (yielded ops a.tmps) = true then Oper.wp Tryd.prog o a w K Q else E := by
  obtain ⟨i0, hi, hz0, hz1, hz2⟩ := info_parts info_shot
  refine step_append_grows hg s x 24 hop 46 i0 (.agg #[.int .i64 0, .int .i64 0, .int .i64 0, .int .i64 0]) 4 32 under_shots hi hz0 hz1 hz2 rfl (by decide) (some ad) n n (encShots l) hs (fun h => by cases h) (by rw [encShots_len, hl])
    (fun b hb j u hj => by cases hb; exact had j u hj) ⟨g, 0, none⟩ 1 1 (encShots [y]) hx rfl ?_ (encShots_one _) (by omega) (by unfold maxLen; omega) (by omega) ?_
  · intro j u hj
    match j, hj with
    | 0, hj => simp [encShots] at hj; subst hj; simpa [Addr.add] using hc.cell 0
    | 1, hj => simp [encShots] at hj; subst hj; simpa [Addr.add] using hc.cell 1
    | 2, hj => simp [encShots] at hj; subst hj; simpa [Addr.add] using hc.cell 2
    | 3, hj => simp [encShots] at hj; subst hj; simpa [Addr.add] using hc.cell 3
  · intro v' w' h1 h2
    refine hK v' w' ?_ ⟨h2.os, h2.tape, h2.output, h2.size, fun k hk => h2.block k hk (by simp)⟩
    unfold OwnShots
    rw [encShots_append, List.length_append, hl]
    exact h1

def tornW : Bk := { bookW 541 543 with ss := (bookW 541 543).ss ++ [⟨0, 0, 366, 366⟩] }
def tornR (B g : Nat) (i : Nat) (v : Value) (w : World) : Prop :=
  match i with
  | 0 => v = .pointer (some ⟨B, 3, none⟩)
  | 1 => v = .slice (some ⟨g, 0, none⟩) 4 4
  | 2 => v = .agg #[.int .i64 366, .int .i64 366]
  | 3 => v = .agg #[.int .i64 0, .int .i64 0, .int .i64 366, .int .i64 366]
  | 4 => ∃ q, v = .slice (some ⟨q, 0, none⟩) 1 1 ∧ Blk w q 46 #[.int .i64 0, .int .i64 0, .int .i64 366, .int .i64 366]
  | 5 => ∃ p c, v = .slice p 5 c ∧ OwnShots w (B + 1) (.slice p 5 c) tornW.ss
  | 6 => v = .pointer (some ⟨B, 3, none⟩)
  | _ => True
theorem tornR_kept (B g : Nat) : ∀ (i : Nat), i < 7 → ∀ (v : Value) (w w' : World), tornR B g i v w → Below w.heap.size w w' → tornR B g i v w' := by
  intro i hi v w w' h hb
  rcases (show i = 0 ∨ i = 1 ∨ i = 2 ∨ i = 3 ∨ i = 4 ∨ i = 5 ∨ i = 6 by omega) with hi0 | hi1 | hi2 | hi3 | hi4 | hi5 | hi6
  · subst hi0; exact h
  · subst hi1; exact h
  · subst hi2; exact h
  · subst hi3; exact h
  · subst hi4; obtain ⟨q, h1, h2⟩ := h; exact ⟨q, h1, h2.bel hb⟩
  · subst hi5; obtain ⟨p, c, h1, h2⟩ := h; exact ⟨p, c, h1, h2.below hb⟩
  · subst hi6; exact h
set_option maxHeartbeats 2000000 in
theorem torn_any (w : World) : Calls Tryd.prog 44 #[] w (BkPost w tornW) := by
  go_enter Tryd.func44, Tryd.ntmps44
  go_wp2_with (go_at_call 40; refine (own_full _).mono ?_; rintro e w1 ⟨g2, g5, g3, g4, g, hg, rfl, k2, k5, k3, k4, k14, z, rfl⟩)
  have hXB : Below w.heap.size w (ext _ z) := below_ext_trans ((Below.refl _ _).alloc (Nat.le_refl _) _) (by simp) z
  have kr : Blk (ext _ z) w.heap.size 26 #[.int .i64 0, .slice none 0 0, .slice none 0 0, .slice none 0 0] := (Blk.new rfl).ext z
  clear hg
  generalize ext _ z = X at *
  generalize hB1 : X.heap.size = B1
  generalize hW : X.alloc _ = W0
  have HW := Lib.hid (show Below w.heap.size w W0 by rw [← hW]; exact hXB.alloc hXB.size _)
  have KR := Lib.hid (show Blk W0 w.heap.size 26 #[.int .i64 0, .slice none 0 0, .slice none 0 0, .slice none 0 0] by rw [← hW]; exact kr.alloc _)
  have KB := Lib.hid (show Blk W0 B1 26 #[.int .i64 3, .slice (some ⟨g2, 0, none⟩) 2 2, .slice (some ⟨g5, 0, none⟩) 2 2, .slice (some ⟨g, 0, none⟩) 4 4] by rw [← hW]; exact Blk.new hB1.symm)
  have K2 := Lib.hid (show Blk W0 g2 _ _ by rw [← hW]; exact k2.alloc _)
  have K5 := Lib.hid (show Blk W0 g5 _ _ by rw [← hW]; exact k5.alloc _)
  have K3 := Lib.hid (show Blk W0 g3 _ _ by rw [← hW]; exact k3.alloc _)
  have K4 := Lib.hid (show Blk W0 g4 _ _ by rw [← hW]; exact k4.alloc _)
  have K14 := Lib.hid (show Blk W0 g _ _ by rw [← hW]; exact k14.alloc _)
  have HN := Lib.hid (show B1 ≠ w.heap.size ∧ w.heap.size ≤ B1 by have := kr.lt; have := hXB.size; omega)
  clear hW kr hXB k2 k5 k3 k4 k14 hB1
  refine wp_region_flow 7 11 (tornR B1 g) (by kernel_rfl) (by kernel_rfl) rfl (tornR_kept _ _) ?_ ?_
  · intro i hin a W h1 h2 h3 h4 h5 K hK
    rcases (show i = 0 ∨ i = 1 ∨ i = 2 ∨ i = 3 ∨ i = 4 ∨ i = 5 ∨ i = 6 by omega) with hi0 | hi1 | hi2 | hi3 | hi4 | hi5 | hi6
    · subst hi0
      obtain ⟨⟨l⟩, D⟩ := a
      match l, h1 with
      | [x0, x1, x2, x3, x4, x5, x6, x7, x8, x9, x10], _ =>
        obtain rfl : D = [] := h2
        obtain rfl : x1 = .pointer (some ⟨B1, 0, none⟩) := h3 1 (by kernel_rfl)
        have H5 := Lib.hid h5
        clear h1 h3 h4 h5
        refine wpOp_get rfl ?_
        go_simp
        exact hK _ _ rfl (Below.refl _ _)
    · subst hi1
      obtain ⟨⟨l⟩, D⟩ := a
      match l, h1 with
      | [x0, x1, x2, x3, x4, x5, x6, x7, x8, x9, x10], _ =>
        obtain rfl : D = [] := h2
        obtain rfl := h4 0 (by kernel_rfl)
        have kb : Blk W B1 26 #[.int .i64 3, .slice (some ⟨g2, 0, none⟩) 2 2, .slice (some ⟨g5, 0, none⟩) 2 2, .slice (some ⟨g, 0, none⟩) 4 4] := (h5.block _ KB.out.lt).trans KB.out
        have q3 := kb.cell 3
        have ql := kb.lt
        simp only [List.size_toArray, List.length_cons, List.length_nil, Nat.reduceAdd, Nat.reduceLT, getElem?_pos, List.getElem_toArray, List.getElem_cons_zero, List.getElem_cons_succ] at q3
        have H5 := Lib.hid h5
        clear h1 h3 h4 h5 kb
        refine wpOp_get rfl ?_
        go_simp
        exact hK _ _ rfl (Below.refl _ _)
    · subst hi2
      obtain ⟨⟨l⟩, D⟩ := a
      match l, h1 with
      | [x0, x1, x2, x3, x4, x5, x6, x7, x8, x9, x10], _ =>
        obtain rfl : D = [] := h2
        have H5 := Lib.hid h5
        clear h1 h3 h4 h5
        refine wpOp_get rfl ?_
        go_simp
        go_wp2_with (go_at_call 42; refine (Just_any _ _).mono ?_; rintro e w1 ⟨rfl, y, rfl⟩)
        exact hK _ _ rfl (below_ext _ _)
    · subst hi3
      obtain ⟨⟨l⟩, D⟩ := a
      match l, h1 with
      | [x0, x1, x2, x3, x4, x5, x6, x7, x8, x9, x10], _ =>
        obtain rfl : D = [] := h2
        obtain rfl := h4 2 (by kernel_rfl)
        have H5 := Lib.hid h5
        clear h1 h3 h4 h5
        refine wpOp_get rfl ?_
        go_simp
        go_wp2_with (go_at_call 64; refine (aim_any _ _ _ _ _).mono ?_; rintro e w1 ⟨rfl, y, rfl⟩)
        exact hK _ _ rfl (below_ext _ _)
    · subst hi4
      obtain ⟨⟨l⟩, D⟩ := a
      match l, h1 with
      | [x0, x1, x2, x3, x4, x5, x6, x7, x8, x9, x10], _ =>
        obtain rfl : D = [] := h2
        obtain rfl := h4 3 (by kernel_rfl)
        have H5 := Lib.hid h5
        clear h1 h3 h4 h5
        refine wpOp_get rfl ?_
        go_simp
        exact hK _ _ ⟨_, rfl, Blk.new rfl⟩ ((Below.refl _ _).alloc (Nat.le_refl _) _)
    · subst hi5
      obtain ⟨⟨l⟩, D⟩ := a
      match l, h1 with
      | [x0, x1, x2, x3, x4, x5, x6, x7, x8, x9, x10], _ =>
        obtain rfl : D = [] := h2
        obtain rfl := h4 1 (by kernel_rfl)
        obtain ⟨q, rfl, kq⟩ := h4 4 (by kernel_rfl)
        have H5 := Lib.hid h5
        clear h1 h3 h4 h5
        refine wpOp_get rfl ?_
        refine step_grow_shot rfl _ _ rfl ⟨g, 0, none⟩ 4 (bookW 541 543).ss rfl rfl (by omega) (ShotsAt.enc (shots_of_blk ((H5.out.block _ K14.out.lt).trans K14.out) rfl (by simp [bookW]))) q ⟨0, 0, 366, 366⟩ rfl kq ?_
        intro v' w' h6 h7
        obtain ⟨p, c, rfl, -⟩ := h6.at
        exact hK _ _ ⟨p, c, rfl, h6.mono (by have := H5.out.size; have := KB.out.lt; omega)⟩ h7
    · subst hi6
      obtain ⟨⟨l⟩, D⟩ := a
      match l, h1 with
      | [x0, x1, x2, x3, x4, x5, x6, x7, x8, x9, x10], _ =>
        obtain rfl : D = [] := h2
        obtain rfl : x1 = .pointer (some ⟨B1, 0, none⟩) := h3 1 (by kernel_rfl)
        have H5 := Lib.hid h5
        clear h1 h3 h4 h5
        refine wpOp_get rfl ?_
        go_simp
        exact hK _ _ rfl (Below.refl _ _)
  · intro a W h1 h2 h3 h4 h5
    obtain ⟨⟨l⟩, D⟩ := a
    match l, h1 with
    | [x0, x1, x2, x3, x4, x5, x6, x7, x8, x9, x10], _ =>
      obtain rfl : D = [] := h2
      obtain rfl : x0 = .pointer (some ⟨w.heap.size, 0, none⟩) := h3 0 (by kernel_rfl)
      obtain rfl : x1 = .pointer (some ⟨B1, 0, none⟩) := h3 1 (by kernel_rfl)
      obtain ⟨p, c, rfl, hsh⟩ := h4 5 (by decide)
      obtain rfl := h4 6 (by decide)
      have kb : Blk W B1 26 #[.int .i64 3, .slice (some ⟨g2, 0, none⟩) 2 2, .slice (some ⟨g5, 0, none⟩) 2 2, .slice (some ⟨g, 0, none⟩) 4 4] := (h5.block _ KB.out.lt).trans KB.out
      have kr : Blk W w.heap.size 26 #[.int .i64 0, .slice none 0 0, .slice none 0 0, .slice none 0 0] := (h5.block _ KR.out.lt).trans KR.out
      have q0 := kb.cell 0
      have q1 := kb.cell 1
      have q2 := kb.cell 2
      have q3 := kb.cell 3
      have f0 := kb.frozen 0
      have f1 := kb.frozen 1
      have f2 := kb.frozen 2
      have f3 := kb.frozen 3
      have ql := kb.lt
      have r0 := kr.cell 0
      have r1 := kr.cell 1
      have r2 := kr.cell 2
      have r3 := kr.cell 3
      have s0 := kr.frozen 0
      have s1 := kr.frozen 1
      have s2 := kr.frozen 2
      have s3 := kr.frozen 3
      have rl := kr.lt
      simp only [List.size_toArray, List.length_cons, List.length_nil, Nat.reduceAdd, Nat.reduceLT, getElem?_pos, List.getElem_toArray, List.getElem_cons_zero, List.getElem_cons_succ] at q0 q1 q2 q3 r0 r1 r2 r3
      obtain ⟨hn1, hn2⟩ := HN.out
      have hn3 : w.heap.size ≠ B1 := Ne.symm hn1
      have H5 := Lib.hid h5
      have HS := Lib.hid hsh
      have KR2 := Lib.hid kr
      have KB2 := Lib.hid kb
      clear h1 h3 h4 h5 kb kr hsh
      simp only [List.drop_succ_cons, List.drop_zero]
      go_wp2_with fail
      refine bodyPost_ret (v := .agg #[.int .i64 3, .slice (some ⟨g2, 0, none⟩) 2 2, .slice (some ⟨g5, 0, none⟩) 2 2, .slice p 5 c]) (by simp [results, Tryd.results44, go_sem, r0, r1, r2, r3, s0, s1, s2, s3, rl]) rfl ?_
      have kept : ∀ {j : Nat} {t : TypeId} {cs : Array Value}, Blk W0 j t cs → t ≠ 26 → Blk (((((W.setCell ⟨B1, 3, none⟩ (.slice p 5 c)).setCell ⟨w.heap.size, 0, none⟩ (.int .i64 3)).setCell ⟨w.heap.size, 1, none⟩ (.slice (some ⟨g2, 0, none⟩) 2 2)).setCell ⟨w.heap.size, 2, none⟩ (.slice (some ⟨g5, 0, none⟩) 2 2)).setCell ⟨w.heap.size, 3, none⟩ (.slice p 5 c)) j t cs := fun {j t cs} k ht => by
        have k1 : Blk W j t cs := (H5.out.block _ k.lt).trans k
        have n1 : j ≠ B1 := fun e => by subst e; exact Blk.noteq k1 KB2.out ht
        have n2 : j ≠ w.heap.size := fun e => by subst e; exact Blk.noteq k1 KR2.out ht
        exact ((((k1.setOther n1 _ _).setOther n2 _ _).setOther n2 _ _).setOther n2 _ _).setOther n2 _ _
      have own : OwnShots (((((W.setCell ⟨B1, 3, none⟩ (.slice p 5 c)).setCell ⟨w.heap.size, 0, none⟩ (.int .i64 3)).setCell ⟨w.heap.size, 1, none⟩ (.slice (some ⟨g2, 0, none⟩) 2 2)).setCell ⟨w.heap.size, 2, none⟩ (.slice (some ⟨g5, 0, none⟩) 2 2)).setCell ⟨w.heap.size, 3, none⟩ (.slice p 5 c)) (B1 + 1) (.slice p 5 c) tornW.ss := HS.out.kept (fun j hj => by
        have := (HS.out.lt j hj).1
        rw [Below.heap_setCell _ _ _ _ (by show j ≠ w.heap.size; omega), Below.heap_setCell _ _ _ _ (by show j ≠ w.heap.size; omega), Below.heap_setCell _ _ _ _ (by show j ≠ w.heap.size; omega), Below.heap_setCell _ _ _ _ (by show j ≠ w.heap.size; omega), Below.heap_setCell _ _ _ _ (by show j ≠ B1; omega)])
      obtain ⟨p2, c2, e2, hsh⟩ := own.at
      simp only [Value.slice.injEq] at e2
      obtain ⟨rfl, -, rfl⟩ := e2
      refine ⟨{ pb := some ⟨g2, 0, none⟩, cb := 2, po := some ⟨g5, 0, none⟩, co := 2, ps := p, cs := c }, rfl, ⟨spans_of_blk (kept K2.out (by decide)) rfl (by simp [tornW, bookW]), rows_of_blk (kept K5.out (by decide)) (ints_of_blk (kept K3.out (by decide)) rfl (by simp)) (ints_of_blk (kept K4.out (by decide)) rfl (by simp)) rfl rfl, hsh⟩, by simp [tornW, bookW], ?_⟩
      have hb : Below w.heap.size w W := HW.out.trans (H5.out.mono HW.out.size)
      exact ext_of (by (repeat (first | (with_reducible exact Below.refl _ _) | (with_reducible assumption) | ((with_reducible refine below_ext_trans ?_ ?_ _); rotate_left; focus (((try dsimp only); repeat (first | omega | simp only [World.size_alloc, World.size_setCell, World.size_drew] | (with_reducible refine le_ext_of ?_) | (with_reducible refine le_ext_add ?_))); done)) | ((with_reducible refine Below.alloc ?_ ?_ _); rotate_left; focus (((try dsimp only); repeat (first | omega | simp only [World.size_alloc, World.size_setCell, World.size_drew] | (with_reducible refine le_ext_of ?_) | (with_reducible refine le_ext_add ?_))); done)) | ((with_reducible refine Below.setCell ?_ ?_ _); rotate_left; focus (((try dsimp only); repeat (first | omega | simp only [World.size_alloc, World.size_setCell, World.size_drew] | (with_reducible refine le_ext_of ?_) | (with_reducible refine le_ext_add ?_))); done)) | (with_reducible refine Below.drew ?_))))
end Go.Proofs.YtkmjfmppeedaoaaDoor

