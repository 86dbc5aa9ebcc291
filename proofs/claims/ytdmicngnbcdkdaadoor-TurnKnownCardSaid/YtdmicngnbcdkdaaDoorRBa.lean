/- Contracts of Turn, Owners, Hangs, First and Sure, where open answers an error. -/
import Derived.Test.YtdmicngnbcdkdaaDoorRAa
import Derived.Test.YtdmicngnbcdkdaaDoorRAf
import Derived.Test.YtdmicngnbcdkdaaDoorRZe0
import Derived.Test.YtdmicngnbcdkdaaDoorRVk
import Derived.Test.YtdmicngnbcdkdaaDoorRTq
import Derived.Test.YtdmicngnbcdkdaaDoorRFs
import Derived.Deep.MidRow
set_option linter.unusedSimpArgs false
set_option linter.unusedVariables false
namespace Go.Proofs.YtdmicngnbcdkdaaDoor
open Go Go.RowKit

section
variable {P : Program} {ops : Array Oper} {Q : Exit → Act → World → Prop} {i : Nat} {o : Oper} {K : Act → World → Prop} {a : Act} {w : World}
theorem wanted_not {g s : Nat} {b : Bool} (h : o.guard = some (g, b)) (hs : (ops[g]?).bind (·.dst) = some s) (hv : a.tmps.getD s undef = .bool (!b)) : Region.wanted o (yielded ops a.tmps) = false := by
  have h2 : a.tmps[s]? = some (.bool (!b)) := by
    cases h3 : a.tmps[s]? with
    | none => simp [Array.getD_eq_getD_getElem?, h3, undef] at hv
    | some x => simp [Array.getD_eq_getD_getElem?, h3] at hv; rw [hv]
  cases b <;> simp [Region.wanted, h, yielded, hs, h2]
theorem st_skip (h : ops[i]? = some o) (hw : Region.wanted o (yielded ops a.tmps) = false) (hK : K (a.put o.dst undef) w) : wpOp P ops Q i K a w :=
  wpOp_get h (by rw [if_neg (by rw [hw]; decide)]; exact hK)
end
theorem run_nq {o : Oper} {w : World} {s t : Nat} {m n : Int} (ρ : Operand → Value) (hop : o.op = .binOp .neq 3 (.tmp s) (.tmp t) 3) (hs : ρ (.tmp s) = .int .i64 m) (ht : ρ (.tmp t) = .int .i64 n) : (execOp ρ o).run Tryd.prog w = .ok (.value (.bool (m != n))) w := by
  unfold execOp
  simp [hop, hs, ht, go_sem]
theorem run_comp {o : Oper} {w : World} {g s : Nat} (ρ : Operand → Value) (hop : o.op = .fieldAddr 26 (.tmp s) 0) (hs : ρ (.tmp s) = .pointer (some ⟨g, 0, none⟩)) (hl : g < w.heap.size) :
    (execOp ρ o).run Tryd.prog w = .ok (.value (.pointer (some ⟨g, 0, none⟩))) w := by
  unfold execOp
  simp [hop, hs, go_sem, hl]
theorem run_alloc_cove {o : Oper} {w : World} (ρ : Operand → Value) (hop : o.op = .alloc 83) :
    (execOp ρ o).run Tryd.prog w = .ok (.value (.pointer (some ⟨w.heap.size, 0, none⟩))) (w.alloc (.cells #[.int .i64 0, .slice none 0 0, .slice none 0 0, .slice none 0 0, .int .i64 0, .int .i64 0, .int .i64 0, .int .i64 0, .int .i64 0, .int .i64 0, .int .i64 0, .int .i64 0, .map none] 83)) := by
  unfold execOp
  simp [hop, go_sem]
theorem below_setCells {B b : Nat} (hB : B ≤ b) : ∀ (vs : List Value) (o : Nat) (a w : World), Below B a w → Below B a (w.setCells b o vs)
  | [], _, _, _, h => h
  | v :: vs, o, a, w, h => below_setCells hB vs (o + 1) a _ (h.setCell hB v)
theorem st_store_cove {ops : Array Oper} {Q : Exit → Act → World → Prop} {i : Nat} {o : Oper} {K : Act → World → Prop} {a : Act} {w : World} {s t g : Nat} (h : ops[i]? = some o) (hw : Region.wanted o (yielded ops a.tmps) = true) (hop : o.op = .store 83 (.tmp s) (.tmp t)) (hd : o.dst = none)
    (hs : a.tmps.getD s undef = .pointer (some ⟨g, 0, none⟩)) (ht : a.tmps.getD t undef = .agg #[.int .i64 0, .slice none 0 0, .slice none 0 0, .slice none 0 0, .int .i64 0, .int .i64 0, .int .i64 0, .int .i64 0, .int .i64 0, .int .i64 0, .int .i64 0, .int .i64 0, .map none]) (k : Blk w g 83 #[.int .i64 0, .slice none 0 0, .slice none 0 0, .slice none 0 0, .int .i64 0, .int .i64 0, .int .i64 0, .int .i64 0, .int .i64 0, .int .i64 0, .int .i64 0, .int .i64 0, .map none])
    (hK : ∀ w', (∀ B, B ≤ g → Below B w w') → K a w') : wpOp Tryd.prog ops Q i K a w := by
  refine wpOp_want h hw ?_
  refine wp_store_mid 83 _ _ hop g 0 _ hs ht ?_ (by kernel_rfl) (by kernel_rfl) ?_
  · intro j hj
    rw [Nat.zero_add, k.cell, k.frozen]
    exact ⟨by rw [Array.getElem?_eq_getElem hj]; rfl, rfl⟩
  · rw [hd]
    exact hK _ (fun B hB => below_setCells hB _ _ _ _ (Below.refl _ _))
theorem args1 {a : Act} {s : Nat} {x : Value} (h1 : a.tmps.getD s undef = x) : (#[Operand.tmp s]).map a.eval = #[x] := by
  simp only [List.map_toArray, List.map_cons, List.map_nil, Act.eval, h1]
/-- What open answers with an error. -/
def OpenErr (h : Hd) (b : Bk) (q : Bool) (code : Int) (w : World) : Prop := ∀ w', Below w.heap.size w w' → Calls Tryd.prog 47 #[.agg #[.int .i64 b.n, .slice h.pb b.bs.length h.cb, .slice h.po b.os.length h.co, .slice h.ps b.ss.length h.cs], .bool q] w' fun e w2 => e = .returned (.tuple #[.agg #[.int .i64 0, .slice none 0 0, .slice none 0 0, .slice none 0 0, .int .i64 0, .int .i64 0, .int .i64 0, .int .i64 0, .int .i64 0, .int .i64 0, .int .i64 0, .int .i64 0, .map none], .int .i64 code]) ∧ ∃ x, w2 = ext w' x
theorem OpenErr.bad {h : Hd} {b : Bk} (q : Bool) {w : World} (hb : BkAt w h b) (hv : bookB b = false) : OpenErr h b q 20 w := fun w' hw => open_bad h b q w' (hb.below hw) hv
theorem OpenErr.ask {h : Hd} {b : Bk} {q : Bool} {w : World} (hb : BkAt w h b) (hv : bookB b = true) (hq : q = false) : OpenErr h b q 21 w := fun w' hw => by subst hq; exact open_ask h b w' (hb.below hw) hv
def errTurnR (bk : Value) (W0 gb : Nat) (n : Int) (m : Int) (p q : Bool) (code : Int) (f : Bool) (i : Nat) (u : Value) (w : World) : Prop :=
  match i with
  | 0 => u = bk
  | 1 => u = .int .i64 m
  | 2 => u = .bool p
  | 3 => u = .tuple #[.agg #[.int .i64 0, .slice none 0 0, .slice none 0 0, .slice none 0 0, .int .i64 0, .int .i64 0, .int .i64 0, .int .i64 0, .int .i64 0, .int .i64 0, .int .i64 0, .int .i64 0, .map none], .int .i64 code]
  | 4 => u = .tuple #[.agg #[.int .i64 0, .slice none 0 0, .slice none 0 0, .slice none 0 0, .int .i64 0, .int .i64 0, .int .i64 0, .int .i64 0, .int .i64 0, .int .i64 0, .int .i64 0, .int .i64 0, .map none], .int .i64 code]
  | 5 => u = .agg #[.int .i64 0, .slice none 0 0, .slice none 0 0, .slice none 0 0, .int .i64 0, .int .i64 0, .int .i64 0, .int .i64 0, .int .i64 0, .int .i64 0, .int .i64 0, .int .i64 0, .map none]
  | 6 => u = .int .i64 code
  | 7 => ∃ g : Nat, u = .pointer (some ⟨g, 0, none⟩) ∧ W0 ≤ g ∧ (f = false → Blk w g 83 #[.int .i64 0, .slice none 0 0, .slice none 0 0, .slice none 0 0, .int .i64 0, .int .i64 0, .int .i64 0, .int .i64 0, .int .i64 0, .int .i64 0, .int .i64 0, .int .i64 0, .map none])
  | _ => True
theorem errTurnR_kept (bk : Value) (W0 gb : Nat) (n : Int) (m : Int) (p q : Bool) (code : Int) : ∀ (f : Bool) (i : Nat), i < 9 → i ≠ 8 → ∀ (u : Value) (w w' : World), errTurnR bk W0 gb n m p q code f i u w → Below w.heap.size w w' → errTurnR bk W0 gb n m p q code f i u w' := by
  intro f i hi hik u w w' h hb
  rcases (show i = 0 ∨ i = 1 ∨ i = 2 ∨ i = 3 ∨ i = 4 ∨ i = 5 ∨ i = 6 ∨ i = 7 by omega) with hi0 | hi0 | hi0 | hi0 | hi0 | hi0 | hi0 | hi0
  all_goals subst hi0
  all_goals first
    | exact h
    | (obtain ⟨g, h1, h2, h3⟩ := h; exact ⟨g, h1, h2, fun hf => (h3 hf).bel hb⟩)
set_option maxRecDepth 100000 in
set_option maxHeartbeats 4000000 in
theorem Turn_err (h : Hd) (b : Bk) (m : Int) (code : Int) (w : World) (hc : code ≠ 0) (ho : OpenErr h b (isN m 1440) code w) :
    Calls Tryd.prog 15 #[.agg #[.int .i64 b.n, .slice h.pb b.bs.length h.cb, .slice h.po b.os.length h.co, .slice h.ps b.ss.length h.cs], .int .i64 m] w fun e w' => e = .returned (.tuple #[.agg #[.int .i64 0, .int .i64 0], .int .i64 code]) ∧ ∃ x, w' = ext w x := by
  obtain ⟨pb, cb, po, co, ps, cs⟩ := h
  dsimp only
  have HO := Lib.hid ho
  have hc2 : (code == 0) = false := by simpa using hc
  have hc3 : (code != 0) = true := by simpa using hc
  clear hc ho
  go_enter Tryd.func15, Tryd.ntmps15
  go_upto_region 1 with fail
  generalize hW : (w.alloc _).alloc _ = W
  have hWB : Below w.heap.size w W := by rw [← hW]; (repeat (first | (with_reducible exact Below.refl _ _) | (with_reducible assumption) | ((with_reducible refine below_ext_trans ?_ ?_ _); rotate_left; focus (((try dsimp only); repeat (first | omega | simp only [World.size_alloc, World.size_setCell, World.size_drew] | (with_reducible refine le_ext_of ?_) | (with_reducible refine le_ext_add ?_))); done)) | ((with_reducible refine Below.alloc ?_ ?_ _); rotate_left; focus (((try dsimp only); repeat (first | omega | simp only [World.size_alloc, World.size_setCell, World.size_drew] | (with_reducible refine le_ext_of ?_) | (with_reducible refine le_ext_add ?_))); done)) | ((with_reducible refine Below.setCell ?_ ?_ _); rotate_left; focus (((try dsimp only); repeat (first | omega | simp only [World.size_alloc, World.size_setCell, World.size_drew] | (with_reducible refine le_ext_of ?_) | (with_reducible refine le_ext_add ?_))); done)) | (with_reducible refine Below.drew ?_)))
  have kb : Blk W w.heap.size 26 #[.int .i64 b.n, .slice pb b.bs.length cb, .slice po b.os.length co, .slice ps b.ss.length cs] := by rw [← hW]; exact (Blk.new rfl).alloc _
  have kr : Blk W (w.heap.size + 1) 33 #[.int .i64 0, .int .i64 0] := by rw [← hW]; exact Blk.new (by simp)
  have KR := Lib.hid kr
  have KB := Lib.hid kb
  have HW := Lib.hid hWB
  clear hW hWB kb kr
  obtain ⟨p, hp⟩ : ∃ p, isN m 1440 = p := ⟨_, rfl⟩
  obtain ⟨q, hq⟩ : ∃ q, true = q := ⟨_, rfl⟩
  rw [hp] at HO
  try rw [hq] at HO
  have HP := Lib.hid hp
  have HQ := Lib.hid hq
  clear hp hq
  refine wp_region_flow_backS 9 24 8 (fun _ => True) (errTurnR (.agg #[.int .i64 b.n, .slice pb b.bs.length cb, .slice po b.os.length co, .slice ps b.ss.length cs]) W.heap.size w.heap.size b.n m p q code) (by kernel_rfl) (by kernel_rfl) rfl (by omega) (errTurnR_kept _ _ _ _ _ _ _ _) (fun _ _ h _ => h) ?_ ?_ ?_
  · intro i hin hik f a W1 h1 h2 h3 h4 h5 hfw KK hKK
    have hb5 := HW.out.trans (h5.mono HW.out.size)
    rcases (show i = 0 ∨ i = 1 ∨ i = 2 ∨ i = 3 ∨ i = 4 ∨ i = 5 ∨ i = 6 ∨ i = 7 by omega) with hi0 | hi0 | hi0 | hi0 | hi0 | hi0 | hi0 | hi0
    · subst hi0
      exact st_val rfl (wanted_none rfl) (run_book _ rfl (h3 2 (by kernel_rfl)) (KB.out.bel h5)) (hKK _ _ rfl (Below.refl _ _))
    · subst hi0
      exact st_move rfl rfl (wanted_none rfl) (h3 1 (by kernel_rfl)) (hKK _ _ rfl (Below.refl _ _))
    · subst hi0
      refine st_call rfl rfl (wanted_none rfl) (args1 (h4 1 (by decide) (by kernel_rfl))) (run_enter Tryd.func48 (by kernel_rfl) (by kernel_rfl) _) ?_
      refine (isMinute_any _ _).mono ?_
      rw [HP.out]
      rintro e w1 ⟨rfl, rfl⟩
      exact ⟨_, rfl, hKK _ _ rfl (Below.refl _ _)⟩
    · subst hi0
      refine st_call rfl rfl (wanted_none rfl) (args2 (h4 0 (by decide) (by kernel_rfl)) (h4 2 (by decide) (by kernel_rfl))) (run_enter Tryd.func47 (by kernel_rfl) (by kernel_rfl) _) ?_
      refine (HO.out _ hb5).mono ?_
      rintro e w1 ⟨rfl, y9, rfl⟩
      exact ⟨_, rfl, hKK _ _ rfl (below_ext _ _)⟩
    · subst hi0
      exact st_move rfl rfl (wanted_none rfl) (h4 3 (by decide) (by kernel_rfl)) (hKK _ _ rfl (Below.refl _ _))
    · subst hi0
      exact st_val rfl (wanted_none rfl) (run_part _ rfl (h4 4 (by decide) (by kernel_rfl)) rfl) (hKK _ _ rfl (Below.refl _ _))
    · subst hi0
      exact st_val rfl (wanted_none rfl) (run_part _ rfl (h4 4 (by decide) (by kernel_rfl)) rfl) (hKK _ _ rfl (Below.refl _ _))
    · subst hi0
      exact st_valw rfl (wanted_none rfl) (run_alloc_cove _ rfl) (hKK _ _ ⟨_, rfl, h5.size, fun _ => Blk.new rfl⟩ ((Below.refl _ _).alloc (Nat.le_refl _) _))
  · intro a W1 h1 h2 h3 h4 h5 KK hKK
    obtain ⟨g, e1, e2, e3⟩ := h4 7 (by decide) (by kernel_rfl)
    refine st_store_cove rfl (wanted_none rfl) rfl rfl e1 (h4 5 (by decide) (by kernel_rfl)) (e3 rfl) (fun w' hw' => hKK w' trivial (fun j hj hjk hr => ?_) (hw' _ e2))
    rcases (show j = 0 ∨ j = 1 ∨ j = 2 ∨ j = 3 ∨ j = 4 ∨ j = 5 ∨ j = 6 ∨ j = 7 by omega) with hi0 | hi0 | hi0 | hi0 | hi0 | hi0 | hi0 | hi0
    all_goals subst hi0
    all_goals first
      | exact hr
      | (obtain ⟨g', e1', e2', -⟩ := hr; exact ⟨g', e1', e2', fun hf => by cases hf⟩)
  intro vs W2 hvs hS0 hB2
  have v0 : vs 0 = _ := hvs 0 (by omega) (by decide)
  have v1 : vs 1 = _ := hvs 1 (by omega) (by decide)
  have v2 : vs 2 = _ := hvs 2 (by omega) (by decide)
  have v3 : vs 3 = _ := hvs 3 (by omega) (by decide)
  have v4 : vs 4 = _ := hvs 4 (by omega) (by decide)
  have v5 : vs 5 = _ := hvs 5 (by omega) (by decide)
  have v6 : vs 6 = _ := hvs 6 (by omega) (by decide)
  obtain ⟨gv, v7, -, -⟩ := hvs 7 (by omega) (by decide)
  clear hvs hS0
  simp only [putSkip, Nat.reduceEqDiff, reduceIte, v0, v1, v2, v3, v4, v5, v6, v7]
  clear v0 v1 v2 v3 v4 v5 v6 v7
  simp only [dstOf, Act.put, List.getElem?_toArray, List.getElem?_cons_zero, List.getElem?_cons_succ, Option.bind_some, Option.getD_some, List.setIfInBounds_toArray, List.set_cons_succ, List.set_cons_zero, List.drop_succ_cons, List.drop_zero]
  have HB2 := Lib.hid (HW.out.trans (hB2.mono HW.out.size))
  have hbs := hB2.size
  have hws := HW.out.size
  have kr2 := KR.out.bel hB2
  have r0 := kr2.cell 0
  have r1 := kr2.cell 1
  have s0 := kr2.frozen 0
  have s1 := kr2.frozen 1
  simp only [List.size_toArray, List.length_cons, List.length_nil, Nat.reduceAdd, Nat.reduceLT, getElem?_pos, List.getElem_toArray, List.getElem_cons_zero, List.getElem_cons_succ] at r0 r1
  have rl := kr2.lt
  clear kr2
  clear hB2
  go_wp2_with fail
  refine bodyPost_ret (v := .tuple #[.agg #[.int .i64 0, .int .i64 0], .int .i64 code]) (by simp [results, Tryd.results15, go_sem, r0, r1, s0, s1, rl]) rfl ⟨rfl, ?_⟩
  have hB := HB2.out
  (exact ext_of (by (repeat (first | (with_reducible exact Below.refl _ _) | (with_reducible assumption) | ((with_reducible refine below_ext_trans ?_ ?_ _); rotate_left; focus (((try dsimp only); repeat (first | omega | simp only [World.size_alloc, World.size_setCell, World.size_drew] | (with_reducible refine le_ext_of ?_) | (with_reducible refine le_ext_add ?_))); done)) | ((with_reducible refine Below.alloc ?_ ?_ _); rotate_left; focus (((try dsimp only); repeat (first | omega | simp only [World.size_alloc, World.size_setCell, World.size_drew] | (with_reducible refine le_ext_of ?_) | (with_reducible refine le_ext_add ?_))); done)) | ((with_reducible refine Below.setCell ?_ ?_ _); rotate_left; focus (((try dsimp only); repeat (first | omega | simp only [World.size_alloc, World.size_setCell, World.size_drew] | (with_reducible refine le_ext_of ?_) | (with_reducible refine le_ext_add ?_))); done)) | (with_reducible refine Below.drew ?_)))))
def errOwnersR (bk : Value) (W0 gb : Nat) (n : Int) (st : Int) (m : Int) (p q : Bool) (code : Int) (f : Bool) (i : Nat) (u : Value) (w : World) : Prop :=
  match i with
  | 0 => u = bk
  | 1 => u = bk
  | 2 => u = .int .i64 st
  | 3 => u = .bool p
  | 4 => u = .bool p
  | 5 => p = true → u = .int .i64 m
  | 6 => p = true → u = .bool q
  | 7 => u = .bool (p && q)
  | 8 => u = .tuple #[.agg #[.int .i64 0, .slice none 0 0, .slice none 0 0, .slice none 0 0, .int .i64 0, .int .i64 0, .int .i64 0, .int .i64 0, .int .i64 0, .int .i64 0, .int .i64 0, .int .i64 0, .map none], .int .i64 code]
  | 9 => u = .tuple #[.agg #[.int .i64 0, .slice none 0 0, .slice none 0 0, .slice none 0 0, .int .i64 0, .int .i64 0, .int .i64 0, .int .i64 0, .int .i64 0, .int .i64 0, .int .i64 0, .int .i64 0, .map none], .int .i64 code]
  | 10 => u = .agg #[.int .i64 0, .slice none 0 0, .slice none 0 0, .slice none 0 0, .int .i64 0, .int .i64 0, .int .i64 0, .int .i64 0, .int .i64 0, .int .i64 0, .int .i64 0, .int .i64 0, .map none]
  | 11 => u = .int .i64 code
  | 12 => ∃ g : Nat, u = .pointer (some ⟨g, 0, none⟩) ∧ W0 ≤ g ∧ (f = false → Blk w g 83 #[.int .i64 0, .slice none 0 0, .slice none 0 0, .slice none 0 0, .int .i64 0, .int .i64 0, .int .i64 0, .int .i64 0, .int .i64 0, .int .i64 0, .int .i64 0, .int .i64 0, .map none])
  | _ => True
theorem errOwnersR_kept (bk : Value) (W0 gb : Nat) (n : Int) (st : Int) (m : Int) (p q : Bool) (code : Int) : ∀ (f : Bool) (i : Nat), i < 14 → i ≠ 13 → ∀ (u : Value) (w w' : World), errOwnersR bk W0 gb n st m p q code f i u w → Below w.heap.size w w' → errOwnersR bk W0 gb n st m p q code f i u w' := by
  intro f i hi hik u w w' h hb
  rcases (show i = 0 ∨ i = 1 ∨ i = 2 ∨ i = 3 ∨ i = 4 ∨ i = 5 ∨ i = 6 ∨ i = 7 ∨ i = 8 ∨ i = 9 ∨ i = 10 ∨ i = 11 ∨ i = 12 by omega) with hi0 | hi0 | hi0 | hi0 | hi0 | hi0 | hi0 | hi0 | hi0 | hi0 | hi0 | hi0 | hi0
  all_goals subst hi0
  all_goals first
    | exact h
    | (obtain ⟨g, h1, h2, h3⟩ := h; exact ⟨g, h1, h2, fun hf => (h3 hf).bel hb⟩)
set_option maxRecDepth 100000 in
set_option maxHeartbeats 4000000 in
theorem Owners_err (h : Hd) (b : Bk) (st : Int) (m : Int) (code : Int) (w : World) (hc : code ≠ 0) (ho : OpenErr h b (isN st b.os.length && isN m 1440) code w) :
    Calls Tryd.prog 16 #[.agg #[.int .i64 b.n, .slice h.pb b.bs.length h.cb, .slice h.po b.os.length h.co, .slice h.ps b.ss.length h.cs], .int .i64 st, .int .i64 m] w fun e w' => e = .returned (.tuple #[.slice none 0 0, .int .i64 code]) ∧ ∃ x, w' = ext w x := by
  obtain ⟨pb, cb, po, co, ps, cs⟩ := h
  dsimp only
  have HO := Lib.hid ho
  have hc2 : (code == 0) = false := by simpa using hc
  have hc3 : (code != 0) = true := by simpa using hc
  clear hc ho
  go_enter Tryd.func16, Tryd.ntmps16
  go_upto_region 1 with fail
  generalize hW : w.alloc _ = W
  have hWB : Below w.heap.size w W := by rw [← hW]; (repeat (first | (with_reducible exact Below.refl _ _) | (with_reducible assumption) | ((with_reducible refine below_ext_trans ?_ ?_ _); rotate_left; focus (((try dsimp only); repeat (first | omega | simp only [World.size_alloc, World.size_setCell, World.size_drew] | (with_reducible refine le_ext_of ?_) | (with_reducible refine le_ext_add ?_))); done)) | ((with_reducible refine Below.alloc ?_ ?_ _); rotate_left; focus (((try dsimp only); repeat (first | omega | simp only [World.size_alloc, World.size_setCell, World.size_drew] | (with_reducible refine le_ext_of ?_) | (with_reducible refine le_ext_add ?_))); done)) | ((with_reducible refine Below.setCell ?_ ?_ _); rotate_left; focus (((try dsimp only); repeat (first | omega | simp only [World.size_alloc, World.size_setCell, World.size_drew] | (with_reducible refine le_ext_of ?_) | (with_reducible refine le_ext_add ?_))); done)) | (with_reducible refine Below.drew ?_)))
  have kb : Blk W w.heap.size 26 #[.int .i64 b.n, .slice pb b.bs.length cb, .slice po b.os.length co, .slice ps b.ss.length cs] := by rw [← hW]; exact Blk.new rfl
  have KB := Lib.hid kb
  have HW := Lib.hid hWB
  clear hW hWB kb
  obtain ⟨p, hp⟩ : ∃ p, isN st b.os.length = p := ⟨_, rfl⟩
  obtain ⟨q, hq⟩ : ∃ q, isN m 1440 = q := ⟨_, rfl⟩
  rw [hp] at HO
  try rw [hq] at HO
  have HP := Lib.hid hp
  have HQ := Lib.hid hq
  clear hp hq
  refine wp_region_flow_backS 14 29 13 (fun _ => True) (errOwnersR (.agg #[.int .i64 b.n, .slice pb b.bs.length cb, .slice po b.os.length co, .slice ps b.ss.length cs]) W.heap.size w.heap.size b.n st m p q code) (by kernel_rfl) (by kernel_rfl) rfl (by omega) (errOwnersR_kept _ _ _ _ _ _ _ _ _) (fun _ _ h _ => h) ?_ ?_ ?_
  · intro i hin hik f a W1 h1 h2 h3 h4 h5 hfw KK hKK
    have hb5 := HW.out.trans (h5.mono HW.out.size)
    rcases (show i = 0 ∨ i = 1 ∨ i = 2 ∨ i = 3 ∨ i = 4 ∨ i = 5 ∨ i = 6 ∨ i = 7 ∨ i = 8 ∨ i = 9 ∨ i = 10 ∨ i = 11 ∨ i = 12 by omega) with hi0 | hi0 | hi0 | hi0 | hi0 | hi0 | hi0 | hi0 | hi0 | hi0 | hi0 | hi0 | hi0
    · subst hi0
      exact st_val rfl (wanted_none rfl) (run_book _ rfl (h3 3 (by kernel_rfl)) (KB.out.bel h5)) (hKK _ _ rfl (Below.refl _ _))
    · subst hi0
      exact st_val rfl (wanted_none rfl) (run_book _ rfl (h3 3 (by kernel_rfl)) (KB.out.bel h5)) (hKK _ _ rfl (Below.refl _ _))
    · subst hi0
      exact st_move rfl rfl (wanted_none rfl) (h3 1 (by kernel_rfl)) (hKK _ _ rfl (Below.refl _ _))
    · subst hi0
      refine st_call rfl rfl (wanted_none rfl) (args2 (h4 1 (by decide) (by kernel_rfl)) (h4 2 (by decide) (by kernel_rfl))) (run_enter Tryd.func51 (by kernel_rfl) (by kernel_rfl) _) ?_
      refine (isStation_any _ _ _ _ _ _ _ _ _ _ _ _).mono ?_
      rw [HP.out]
      rintro e w1 ⟨rfl, y9, rfl⟩
      exact ⟨_, rfl, hKK _ _ rfl (below_ext _ _)⟩
    · subst hi0
      exact st_move rfl rfl (wanted_none rfl) (h4 3 (by decide) (by kernel_rfl)) (hKK _ _ rfl (Below.refl _ _))
    · subst hi0
      cases hg : p with
      | true =>
        have hgv := h4 4 (by decide) (by kernel_rfl)
        simp only [errOwnersR] at hgv
        rw [hg] at hgv
        exact st_move rfl rfl (wanted_some (s := 15) rfl rfl hgv) (h3 2 (by kernel_rfl)) (hKK _ _ (fun _ => rfl) (Below.refl _ _))
      | false =>
        have hgv := h4 4 (by decide) (by kernel_rfl)
        simp only [errOwnersR] at hgv
        rw [hg] at hgv
        exact st_skip rfl (wanted_not (s := 15) rfl rfl hgv) (hKK _ _ (fun hf => by rw [hg] at hf; cases hf) (Below.refl _ _))
    · subst hi0
      cases hg : p with
      | true =>
        have hgv := h4 4 (by decide) (by kernel_rfl)
        simp only [errOwnersR] at hgv
        rw [hg] at hgv
        refine st_call rfl rfl (wanted_some (s := 15) rfl rfl hgv) (args1 (h4 5 (by decide) (by kernel_rfl) hg)) (run_enter Tryd.func48 (by kernel_rfl) (by kernel_rfl) _) ?_
        refine (isMinute_any _ _).mono ?_
        rw [HQ.out]
        rintro e w1 ⟨rfl, rfl⟩
        exact ⟨_, rfl, hKK _ _ (fun _ => rfl) (Below.refl _ _)⟩
      | false =>
        have hgv := h4 4 (by decide) (by kernel_rfl)
        simp only [errOwnersR] at hgv
        rw [hg] at hgv
        exact st_skip rfl (wanted_not (s := 15) rfl rfl hgv) (hKK _ _ (fun hf => by rw [hg] at hf; cases hf) (Below.refl _ _))
    · subst hi0
      cases hg : p with
      | true =>
        have hgv := (h4 4 (by decide) (by kernel_rfl))
        have hgu := (h4 6 (by decide) (by kernel_rfl)) hg
        simp only [errOwnersR] at hgv
        rw [hg] at hgv
        exact st_pick rfl rfl (wanted_none rfl) hgv (v := .bool q) hgu (hKK _ _ (by show _ = _; rw [hg]; rfl) (Below.refl _ _))
      | false =>
        have hgv := (h4 4 (by decide) (by kernel_rfl))
        simp only [errOwnersR] at hgv
        rw [hg] at hgv
        exact st_pick rfl rfl (wanted_none rfl) hgv (v := .bool false) rfl (hKK _ _ (by show _ = _; rw [hg]; rfl) (Below.refl _ _))
    · subst hi0
      refine st_call rfl rfl (wanted_none rfl) (args2 (h4 0 (by decide) (by kernel_rfl)) (h4 7 (by decide) (by kernel_rfl))) (run_enter Tryd.func47 (by kernel_rfl) (by kernel_rfl) _) ?_
      refine (HO.out _ hb5).mono ?_
      rintro e w1 ⟨rfl, y9, rfl⟩
      exact ⟨_, rfl, hKK _ _ rfl (below_ext _ _)⟩
    · subst hi0
      exact st_move rfl rfl (wanted_none rfl) (h4 8 (by decide) (by kernel_rfl)) (hKK _ _ rfl (Below.refl _ _))
    · subst hi0
      exact st_val rfl (wanted_none rfl) (run_part _ rfl (h4 9 (by decide) (by kernel_rfl)) rfl) (hKK _ _ rfl (Below.refl _ _))
    · subst hi0
      exact st_val rfl (wanted_none rfl) (run_part _ rfl (h4 9 (by decide) (by kernel_rfl)) rfl) (hKK _ _ rfl (Below.refl _ _))
    · subst hi0
      exact st_valw rfl (wanted_none rfl) (run_alloc_cove _ rfl) (hKK _ _ ⟨_, rfl, h5.size, fun _ => Blk.new rfl⟩ ((Below.refl _ _).alloc (Nat.le_refl _) _))
  · intro a W1 h1 h2 h3 h4 h5 KK hKK
    obtain ⟨g, e1, e2, e3⟩ := h4 12 (by decide) (by kernel_rfl)
    refine st_store_cove rfl (wanted_none rfl) rfl rfl e1 (h4 10 (by decide) (by kernel_rfl)) (e3 rfl) (fun w' hw' => hKK w' trivial (fun j hj hjk hr => ?_) (hw' _ e2))
    rcases (show j = 0 ∨ j = 1 ∨ j = 2 ∨ j = 3 ∨ j = 4 ∨ j = 5 ∨ j = 6 ∨ j = 7 ∨ j = 8 ∨ j = 9 ∨ j = 10 ∨ j = 11 ∨ j = 12 by omega) with hi0 | hi0 | hi0 | hi0 | hi0 | hi0 | hi0 | hi0 | hi0 | hi0 | hi0 | hi0 | hi0
    all_goals subst hi0
    all_goals first
      | exact hr
      | (obtain ⟨g', e1', e2', -⟩ := hr; exact ⟨g', e1', e2', fun hf => by cases hf⟩)
  intro vs W2 hvs hS0 hB2
  have v0 : vs 0 = _ := hvs 0 (by omega) (by decide)
  have v1 : vs 1 = _ := hvs 1 (by omega) (by decide)
  have v2 : vs 2 = _ := hvs 2 (by omega) (by decide)
  have v3 : vs 3 = _ := hvs 3 (by omega) (by decide)
  have v4 : vs 4 = _ := hvs 4 (by omega) (by decide)
  have v7 : vs 7 = _ := hvs 7 (by omega) (by decide)
  have v8 : vs 8 = _ := hvs 8 (by omega) (by decide)
  have v9 : vs 9 = _ := hvs 9 (by omega) (by decide)
  have v10 : vs 10 = _ := hvs 10 (by omega) (by decide)
  have v11 : vs 11 = _ := hvs 11 (by omega) (by decide)
  obtain ⟨gv, v12, -, -⟩ := hvs 12 (by omega) (by decide)
  clear hvs hS0
  simp only [putSkip, Nat.reduceEqDiff, reduceIte, v0, v1, v2, v3, v4, v7, v8, v9, v10, v11, v12]
  generalize vs 5 = u5v
  generalize vs 6 = u6v
  clear v0 v1 v2 v3 v4 v7 v8 v9 v10 v11 v12
  simp only [dstOf, Act.put, List.getElem?_toArray, List.getElem?_cons_zero, List.getElem?_cons_succ, Option.bind_some, Option.getD_some, List.setIfInBounds_toArray, List.set_cons_succ, List.set_cons_zero, List.drop_succ_cons, List.drop_zero]
  have HB2 := Lib.hid (HW.out.trans (hB2.mono HW.out.size))
  have hbs := hB2.size
  have hws := HW.out.size
  clear hB2
  go_wp2_with fail
  go_ret2
  exact ⟨rfl, by have hB := HB2.out; (exact ext_of (by (repeat (first | (with_reducible exact Below.refl _ _) | (with_reducible assumption) | ((with_reducible refine below_ext_trans ?_ ?_ _); rotate_left; focus (((try dsimp only); repeat (first | omega | simp only [World.size_alloc, World.size_setCell, World.size_drew] | (with_reducible refine le_ext_of ?_) | (with_reducible refine le_ext_add ?_))); done)) | ((with_reducible refine Below.alloc ?_ ?_ _); rotate_left; focus (((try dsimp only); repeat (first | omega | simp only [World.size_alloc, World.size_setCell, World.size_drew] | (with_reducible refine le_ext_of ?_) | (with_reducible refine le_ext_add ?_))); done)) | ((with_reducible refine Below.setCell ?_ ?_ _); rotate_left; focus (((try dsimp only); repeat (first | omega | simp only [World.size_alloc, World.size_setCell, World.size_drew] | (with_reducible refine le_ext_of ?_) | (with_reducible refine le_ext_add ?_))); done)) | (with_reducible refine Below.drew ?_)))))⟩
def errHangsR (bk : Value) (W0 gb : Nat) (n : Int) (j : Int) (p q : Bool) (code : Int) (f : Bool) (i : Nat) (u : Value) (w : World) : Prop :=
  match i with
  | 0 => u = bk
  | 1 => u = bk
  | 2 => u = .int .i64 j
  | 3 => u = .bool p
  | 4 => u = .tuple #[.agg #[.int .i64 0, .slice none 0 0, .slice none 0 0, .slice none 0 0, .int .i64 0, .int .i64 0, .int .i64 0, .int .i64 0, .int .i64 0, .int .i64 0, .int .i64 0, .int .i64 0, .map none], .int .i64 code]
  | 5 => u = .tuple #[.agg #[.int .i64 0, .slice none 0 0, .slice none 0 0, .slice none 0 0, .int .i64 0, .int .i64 0, .int .i64 0, .int .i64 0, .int .i64 0, .int .i64 0, .int .i64 0, .int .i64 0, .map none], .int .i64 code]
  | 6 => u = .agg #[.int .i64 0, .slice none 0 0, .slice none 0 0, .slice none 0 0, .int .i64 0, .int .i64 0, .int .i64 0, .int .i64 0, .int .i64 0, .int .i64 0, .int .i64 0, .int .i64 0, .map none]
  | 7 => u = .int .i64 code
  | 8 => ∃ g : Nat, u = .pointer (some ⟨g, 0, none⟩) ∧ W0 ≤ g ∧ (f = false → Blk w g 83 #[.int .i64 0, .slice none 0 0, .slice none 0 0, .slice none 0 0, .int .i64 0, .int .i64 0, .int .i64 0, .int .i64 0, .int .i64 0, .int .i64 0, .int .i64 0, .int .i64 0, .map none])
  | _ => True
theorem errHangsR_kept (bk : Value) (W0 gb : Nat) (n : Int) (j : Int) (p q : Bool) (code : Int) : ∀ (f : Bool) (i : Nat), i < 10 → i ≠ 9 → ∀ (u : Value) (w w' : World), errHangsR bk W0 gb n j p q code f i u w → Below w.heap.size w w' → errHangsR bk W0 gb n j p q code f i u w' := by
  intro f i hi hik u w w' h hb
  rcases (show i = 0 ∨ i = 1 ∨ i = 2 ∨ i = 3 ∨ i = 4 ∨ i = 5 ∨ i = 6 ∨ i = 7 ∨ i = 8 by omega) with hi0 | hi0 | hi0 | hi0 | hi0 | hi0 | hi0 | hi0 | hi0
  all_goals subst hi0
  all_goals first
    | exact h
    | (obtain ⟨g, h1, h2, h3⟩ := h; exact ⟨g, h1, h2, fun hf => (h3 hf).bel hb⟩)
set_option maxRecDepth 100000 in
set_option maxHeartbeats 4000000 in
theorem Hangs_err (h : Hd) (b : Bk) (j : Int) (code : Int) (w : World) (hc : code ≠ 0) (ho : OpenErr h b (isN j b.ss.length) code w) :
    Calls Tryd.prog 29 #[.agg #[.int .i64 b.n, .slice h.pb b.bs.length h.cb, .slice h.po b.os.length h.co, .slice h.ps b.ss.length h.cs], .int .i64 j] w fun e w' => e = .returned (.tuple #[.slice none 0 0, .int .i64 code]) ∧ ∃ x, w' = ext w x := by
  obtain ⟨pb, cb, po, co, ps, cs⟩ := h
  dsimp only
  have HO := Lib.hid ho
  have hc2 : (code == 0) = false := by simpa using hc
  have hc3 : (code != 0) = true := by simpa using hc
  clear hc ho
  go_enter Tryd.func29, Tryd.ntmps29
  go_upto_region 1 with fail
  generalize hW : w.alloc _ = W
  have hWB : Below w.heap.size w W := by rw [← hW]; (repeat (first | (with_reducible exact Below.refl _ _) | (with_reducible assumption) | ((with_reducible refine below_ext_trans ?_ ?_ _); rotate_left; focus (((try dsimp only); repeat (first | omega | simp only [World.size_alloc, World.size_setCell, World.size_drew] | (with_reducible refine le_ext_of ?_) | (with_reducible refine le_ext_add ?_))); done)) | ((with_reducible refine Below.alloc ?_ ?_ _); rotate_left; focus (((try dsimp only); repeat (first | omega | simp only [World.size_alloc, World.size_setCell, World.size_drew] | (with_reducible refine le_ext_of ?_) | (with_reducible refine le_ext_add ?_))); done)) | ((with_reducible refine Below.setCell ?_ ?_ _); rotate_left; focus (((try dsimp only); repeat (first | omega | simp only [World.size_alloc, World.size_setCell, World.size_drew] | (with_reducible refine le_ext_of ?_) | (with_reducible refine le_ext_add ?_))); done)) | (with_reducible refine Below.drew ?_)))
  have kb : Blk W w.heap.size 26 #[.int .i64 b.n, .slice pb b.bs.length cb, .slice po b.os.length co, .slice ps b.ss.length cs] := by rw [← hW]; exact Blk.new rfl
  have KB := Lib.hid kb
  have HW := Lib.hid hWB
  clear hW hWB kb
  obtain ⟨p, hp⟩ : ∃ p, isN j b.ss.length = p := ⟨_, rfl⟩
  obtain ⟨q, hq⟩ : ∃ q, true = q := ⟨_, rfl⟩
  rw [hp] at HO
  try rw [hq] at HO
  have HP := Lib.hid hp
  have HQ := Lib.hid hq
  clear hp hq
  refine wp_region_flow_backS 10 38 9 (fun _ => True) (errHangsR (.agg #[.int .i64 b.n, .slice pb b.bs.length cb, .slice po b.os.length co, .slice ps b.ss.length cs]) W.heap.size w.heap.size b.n j p q code) (by kernel_rfl) (by kernel_rfl) rfl (by omega) (errHangsR_kept _ _ _ _ _ _ _ _) (fun _ _ h _ => h) ?_ ?_ ?_
  · intro i hin hik f a W1 h1 h2 h3 h4 h5 hfw KK hKK
    have hb5 := HW.out.trans (h5.mono HW.out.size)
    rcases (show i = 0 ∨ i = 1 ∨ i = 2 ∨ i = 3 ∨ i = 4 ∨ i = 5 ∨ i = 6 ∨ i = 7 ∨ i = 8 by omega) with hi0 | hi0 | hi0 | hi0 | hi0 | hi0 | hi0 | hi0 | hi0
    · subst hi0
      exact st_val rfl (wanted_none rfl) (run_book _ rfl (h3 2 (by kernel_rfl)) (KB.out.bel h5)) (hKK _ _ rfl (Below.refl _ _))
    · subst hi0
      exact st_val rfl (wanted_none rfl) (run_book _ rfl (h3 2 (by kernel_rfl)) (KB.out.bel h5)) (hKK _ _ rfl (Below.refl _ _))
    · subst hi0
      exact st_move rfl rfl (wanted_none rfl) (h3 1 (by kernel_rfl)) (hKK _ _ rfl (Below.refl _ _))
    · subst hi0
      refine st_call rfl rfl (wanted_none rfl) (args2 (h4 1 (by decide) (by kernel_rfl)) (h4 2 (by decide) (by kernel_rfl))) (run_enter Tryd.func54 (by kernel_rfl) (by kernel_rfl) _) ?_
      refine (isShot_any _ _ _ _ _ _ _ _ _ _ _ _).mono ?_
      rw [HP.out]
      rintro e w1 ⟨rfl, y9, rfl⟩
      exact ⟨_, rfl, hKK _ _ rfl (below_ext _ _)⟩
    · subst hi0
      refine st_call rfl rfl (wanted_none rfl) (args2 (h4 0 (by decide) (by kernel_rfl)) (h4 3 (by decide) (by kernel_rfl))) (run_enter Tryd.func47 (by kernel_rfl) (by kernel_rfl) _) ?_
      refine (HO.out _ hb5).mono ?_
      rintro e w1 ⟨rfl, y9, rfl⟩
      exact ⟨_, rfl, hKK _ _ rfl (below_ext _ _)⟩
    · subst hi0
      exact st_move rfl rfl (wanted_none rfl) (h4 4 (by decide) (by kernel_rfl)) (hKK _ _ rfl (Below.refl _ _))
    · subst hi0
      exact st_val rfl (wanted_none rfl) (run_part _ rfl (h4 5 (by decide) (by kernel_rfl)) rfl) (hKK _ _ rfl (Below.refl _ _))
    · subst hi0
      exact st_val rfl (wanted_none rfl) (run_part _ rfl (h4 5 (by decide) (by kernel_rfl)) rfl) (hKK _ _ rfl (Below.refl _ _))
    · subst hi0
      exact st_valw rfl (wanted_none rfl) (run_alloc_cove _ rfl) (hKK _ _ ⟨_, rfl, h5.size, fun _ => Blk.new rfl⟩ ((Below.refl _ _).alloc (Nat.le_refl _) _))
  · intro a W1 h1 h2 h3 h4 h5 KK hKK
    obtain ⟨g, e1, e2, e3⟩ := h4 8 (by decide) (by kernel_rfl)
    refine st_store_cove rfl (wanted_none rfl) rfl rfl e1 (h4 6 (by decide) (by kernel_rfl)) (e3 rfl) (fun w' hw' => hKK w' trivial (fun j hj hjk hr => ?_) (hw' _ e2))
    rcases (show j = 0 ∨ j = 1 ∨ j = 2 ∨ j = 3 ∨ j = 4 ∨ j = 5 ∨ j = 6 ∨ j = 7 ∨ j = 8 by omega) with hi0 | hi0 | hi0 | hi0 | hi0 | hi0 | hi0 | hi0 | hi0
    all_goals subst hi0
    all_goals first
      | exact hr
      | (obtain ⟨g', e1', e2', -⟩ := hr; exact ⟨g', e1', e2', fun hf => by cases hf⟩)
  intro vs W2 hvs hS0 hB2
  have v0 : vs 0 = _ := hvs 0 (by omega) (by decide)
  have v1 : vs 1 = _ := hvs 1 (by omega) (by decide)
  have v2 : vs 2 = _ := hvs 2 (by omega) (by decide)
  have v3 : vs 3 = _ := hvs 3 (by omega) (by decide)
  have v4 : vs 4 = _ := hvs 4 (by omega) (by decide)
  have v5 : vs 5 = _ := hvs 5 (by omega) (by decide)
  have v6 : vs 6 = _ := hvs 6 (by omega) (by decide)
  have v7 : vs 7 = _ := hvs 7 (by omega) (by decide)
  obtain ⟨gv, v8, -, -⟩ := hvs 8 (by omega) (by decide)
  clear hvs hS0
  simp only [putSkip, Nat.reduceEqDiff, reduceIte, v0, v1, v2, v3, v4, v5, v6, v7, v8]
  clear v0 v1 v2 v3 v4 v5 v6 v7 v8
  simp only [dstOf, Act.put, List.getElem?_toArray, List.getElem?_cons_zero, List.getElem?_cons_succ, Option.bind_some, Option.getD_some, List.setIfInBounds_toArray, List.set_cons_succ, List.set_cons_zero, List.drop_succ_cons, List.drop_zero]
  have HB2 := Lib.hid (HW.out.trans (hB2.mono HW.out.size))
  have hbs := hB2.size
  have hws := HW.out.size
  clear hB2
  go_wp2_with fail
  go_ret2
  exact ⟨rfl, by have hB := HB2.out; (exact ext_of (by (repeat (first | (with_reducible exact Below.refl _ _) | (with_reducible assumption) | ((with_reducible refine below_ext_trans ?_ ?_ _); rotate_left; focus (((try dsimp only); repeat (first | omega | simp only [World.size_alloc, World.size_setCell, World.size_drew] | (with_reducible refine le_ext_of ?_) | (with_reducible refine le_ext_add ?_))); done)) | ((with_reducible refine Below.alloc ?_ ?_ _); rotate_left; focus (((try dsimp only); repeat (first | omega | simp only [World.size_alloc, World.size_setCell, World.size_drew] | (with_reducible refine le_ext_of ?_) | (with_reducible refine le_ext_add ?_))); done)) | ((with_reducible refine Below.setCell ?_ ?_ _); rotate_left; focus (((try dsimp only); repeat (first | omega | simp only [World.size_alloc, World.size_setCell, World.size_drew] | (with_reducible refine le_ext_of ?_) | (with_reducible refine le_ext_add ?_))); done)) | (with_reducible refine Below.drew ?_)))))⟩
def errSureR (bk : Value) (W0 gb : Nat) (n : Int) (st : Int) (m : Int) (p q : Bool) (code : Int) (f : Bool) (i : Nat) (u : Value) (w : World) : Prop :=
  match i with
  | 0 => u = bk
  | 1 => u = bk
  | 2 => u = .int .i64 st
  | 3 => u = .bool p
  | 4 => u = .bool p
  | 5 => p = true → u = .int .i64 m
  | 6 => p = true → u = .pointer (some ⟨gb, 0, none⟩)
  | 7 => p = true → u = .int .i64 n
  | 8 => p = true → u = .bool q
  | 9 => u = .bool (p && q)
  | 10 => u = .tuple #[.agg #[.int .i64 0, .slice none 0 0, .slice none 0 0, .slice none 0 0, .int .i64 0, .int .i64 0, .int .i64 0, .int .i64 0, .int .i64 0, .int .i64 0, .int .i64 0, .int .i64 0, .map none], .int .i64 code]
  | 11 => u = .tuple #[.agg #[.int .i64 0, .slice none 0 0, .slice none 0 0, .slice none 0 0, .int .i64 0, .int .i64 0, .int .i64 0, .int .i64 0, .int .i64 0, .int .i64 0, .int .i64 0, .int .i64 0, .map none], .int .i64 code]
  | 12 => u = .agg #[.int .i64 0, .slice none 0 0, .slice none 0 0, .slice none 0 0, .int .i64 0, .int .i64 0, .int .i64 0, .int .i64 0, .int .i64 0, .int .i64 0, .int .i64 0, .int .i64 0, .map none]
  | 13 => u = .int .i64 code
  | 14 => ∃ g : Nat, u = .pointer (some ⟨g, 0, none⟩) ∧ W0 ≤ g ∧ (f = false → Blk w g 83 #[.int .i64 0, .slice none 0 0, .slice none 0 0, .slice none 0 0, .int .i64 0, .int .i64 0, .int .i64 0, .int .i64 0, .int .i64 0, .int .i64 0, .int .i64 0, .int .i64 0, .map none])
  | _ => True
theorem errSureR_kept (bk : Value) (W0 gb : Nat) (n : Int) (st : Int) (m : Int) (p q : Bool) (code : Int) : ∀ (f : Bool) (i : Nat), i < 16 → i ≠ 15 → ∀ (u : Value) (w w' : World), errSureR bk W0 gb n st m p q code f i u w → Below w.heap.size w w' → errSureR bk W0 gb n st m p q code f i u w' := by
  intro f i hi hik u w w' h hb
  rcases (show i = 0 ∨ i = 1 ∨ i = 2 ∨ i = 3 ∨ i = 4 ∨ i = 5 ∨ i = 6 ∨ i = 7 ∨ i = 8 ∨ i = 9 ∨ i = 10 ∨ i = 11 ∨ i = 12 ∨ i = 13 ∨ i = 14 by omega) with hi0 | hi0 | hi0 | hi0 | hi0 | hi0 | hi0 | hi0 | hi0 | hi0 | hi0 | hi0 | hi0 | hi0 | hi0
  all_goals subst hi0
  all_goals first
    | exact h
    | (obtain ⟨g, h1, h2, h3⟩ := h; exact ⟨g, h1, h2, fun hf => (h3 hf).bel hb⟩)
set_option maxRecDepth 100000 in
set_option maxHeartbeats 4000000 in
theorem Sure_err (h : Hd) (b : Bk) (st : Int) (m : Int) (code : Int) (w : World) (hc : code ≠ 0) (ho : OpenErr h b (isN st b.os.length && isN m b.n) code w) :
    Calls Tryd.prog 34 #[.agg #[.int .i64 b.n, .slice h.pb b.bs.length h.cb, .slice h.po b.os.length h.co, .slice h.ps b.ss.length h.cs], .int .i64 st, .int .i64 m] w fun e w' => e = .returned (.tuple #[.slice none 0 0, .int .i64 code]) ∧ ∃ x, w' = ext w x := by
  obtain ⟨pb, cb, po, co, ps, cs⟩ := h
  dsimp only
  have HO := Lib.hid ho
  have hc2 : (code == 0) = false := by simpa using hc
  have hc3 : (code != 0) = true := by simpa using hc
  clear hc ho
  go_enter Tryd.func34, Tryd.ntmps34
  go_upto_region 1 with fail
  generalize hW : w.alloc _ = W
  have hWB : Below w.heap.size w W := by rw [← hW]; (repeat (first | (with_reducible exact Below.refl _ _) | (with_reducible assumption) | ((with_reducible refine below_ext_trans ?_ ?_ _); rotate_left; focus (((try dsimp only); repeat (first | omega | simp only [World.size_alloc, World.size_setCell, World.size_drew] | (with_reducible refine le_ext_of ?_) | (with_reducible refine le_ext_add ?_))); done)) | ((with_reducible refine Below.alloc ?_ ?_ _); rotate_left; focus (((try dsimp only); repeat (first | omega | simp only [World.size_alloc, World.size_setCell, World.size_drew] | (with_reducible refine le_ext_of ?_) | (with_reducible refine le_ext_add ?_))); done)) | ((with_reducible refine Below.setCell ?_ ?_ _); rotate_left; focus (((try dsimp only); repeat (first | omega | simp only [World.size_alloc, World.size_setCell, World.size_drew] | (with_reducible refine le_ext_of ?_) | (with_reducible refine le_ext_add ?_))); done)) | (with_reducible refine Below.drew ?_)))
  have kb : Blk W w.heap.size 26 #[.int .i64 b.n, .slice pb b.bs.length cb, .slice po b.os.length co, .slice ps b.ss.length cs] := by rw [← hW]; exact Blk.new rfl
  have KB := Lib.hid kb
  have HW := Lib.hid hWB
  clear hW hWB kb
  obtain ⟨p, hp⟩ : ∃ p, isN st b.os.length = p := ⟨_, rfl⟩
  obtain ⟨q, hq⟩ : ∃ q, isN m b.n = q := ⟨_, rfl⟩
  rw [hp] at HO
  try rw [hq] at HO
  have HP := Lib.hid hp
  have HQ := Lib.hid hq
  clear hp hq
  refine wp_region_flow_backS 16 31 15 (fun _ => True) (errSureR (.agg #[.int .i64 b.n, .slice pb b.bs.length cb, .slice po b.os.length co, .slice ps b.ss.length cs]) W.heap.size w.heap.size b.n st m p q code) (by kernel_rfl) (by kernel_rfl) rfl (by omega) (errSureR_kept _ _ _ _ _ _ _ _ _) (fun _ _ h _ => h) ?_ ?_ ?_
  · intro i hin hik f a W1 h1 h2 h3 h4 h5 hfw KK hKK
    have hb5 := HW.out.trans (h5.mono HW.out.size)
    rcases (show i = 0 ∨ i = 1 ∨ i = 2 ∨ i = 3 ∨ i = 4 ∨ i = 5 ∨ i = 6 ∨ i = 7 ∨ i = 8 ∨ i = 9 ∨ i = 10 ∨ i = 11 ∨ i = 12 ∨ i = 13 ∨ i = 14 by omega) with hi0 | hi0 | hi0 | hi0 | hi0 | hi0 | hi0 | hi0 | hi0 | hi0 | hi0 | hi0 | hi0 | hi0 | hi0
    · subst hi0
      exact st_val rfl (wanted_none rfl) (run_book _ rfl (h3 3 (by kernel_rfl)) (KB.out.bel h5)) (hKK _ _ rfl (Below.refl _ _))
    · subst hi0
      exact st_val rfl (wanted_none rfl) (run_book _ rfl (h3 3 (by kernel_rfl)) (KB.out.bel h5)) (hKK _ _ rfl (Below.refl _ _))
    · subst hi0
      exact st_move rfl rfl (wanted_none rfl) (h3 1 (by kernel_rfl)) (hKK _ _ rfl (Below.refl _ _))
    · subst hi0
      refine st_call rfl rfl (wanted_none rfl) (args2 (h4 1 (by decide) (by kernel_rfl)) (h4 2 (by decide) (by kernel_rfl))) (run_enter Tryd.func51 (by kernel_rfl) (by kernel_rfl) _) ?_
      refine (isStation_any _ _ _ _ _ _ _ _ _ _ _ _).mono ?_
      rw [HP.out]
      rintro e w1 ⟨rfl, y9, rfl⟩
      exact ⟨_, rfl, hKK _ _ rfl (below_ext _ _)⟩
    · subst hi0
      exact st_move rfl rfl (wanted_none rfl) (h4 3 (by decide) (by kernel_rfl)) (hKK _ _ rfl (Below.refl _ _))
    · subst hi0
      cases hg : p with
      | true =>
        have hgv := h4 4 (by decide) (by kernel_rfl)
        simp only [errSureR] at hgv
        rw [hg] at hgv
        exact st_move rfl rfl (wanted_some (s := 15) rfl rfl hgv) (h3 2 (by kernel_rfl)) (hKK _ _ (fun _ => rfl) (Below.refl _ _))
      | false =>
        have hgv := h4 4 (by decide) (by kernel_rfl)
        simp only [errSureR] at hgv
        rw [hg] at hgv
        exact st_skip rfl (wanted_not (s := 15) rfl rfl hgv) (hKK _ _ (fun hf => by rw [hg] at hf; cases hf) (Below.refl _ _))
    · subst hi0
      cases hg : p with
      | true =>
        have hgv := h4 4 (by decide) (by kernel_rfl)
        simp only [errSureR] at hgv
        rw [hg] at hgv
        exact st_val rfl (wanted_some (s := 15) rfl rfl hgv) (run_comp _ rfl (h3 3 (by kernel_rfl)) (Nat.lt_of_lt_of_le KB.out.lt h5.size)) (hKK _ _ (fun _ => rfl) (Below.refl _ _))
      | false =>
        have hgv := h4 4 (by decide) (by kernel_rfl)
        simp only [errSureR] at hgv
        rw [hg] at hgv
        exact st_skip rfl (wanted_not (s := 15) rfl rfl hgv) (hKK _ _ (fun hf => by rw [hg] at hf; cases hf) (Below.refl _ _))
    · subst hi0
      cases hg : p with
      | true =>
        have hgv := h4 4 (by decide) (by kernel_rfl)
        simp only [errSureR] at hgv
        rw [hg] at hgv
        exact st_val rfl (wanted_some (s := 15) rfl rfl hgv) (run_num _ rfl (h4 6 (by decide) (by kernel_rfl) hg) (Blk.cell (KB.out.bel h5) 0)) (hKK _ _ (fun _ => rfl) (Below.refl _ _))
      | false =>
        have hgv := h4 4 (by decide) (by kernel_rfl)
        simp only [errSureR] at hgv
        rw [hg] at hgv
        exact st_skip rfl (wanted_not (s := 15) rfl rfl hgv) (hKK _ _ (fun hf => by rw [hg] at hf; cases hf) (Below.refl _ _))
    · subst hi0
      cases hg : p with
      | true =>
        have hgv := h4 4 (by decide) (by kernel_rfl)
        simp only [errSureR] at hgv
        rw [hg] at hgv
        refine st_call rfl rfl (wanted_some (s := 15) rfl rfl hgv) (args2 (h4 5 (by decide) (by kernel_rfl) hg) (h4 7 (by decide) (by kernel_rfl) hg)) (run_enter Tryd.func59 (by kernel_rfl) (by kernel_rfl) _) ?_
        refine (isNumber_any _ _ _).mono ?_
        rw [HQ.out]
        rintro e w1 ⟨rfl, rfl⟩
        exact ⟨_, rfl, hKK _ _ (fun _ => rfl) (Below.refl _ _)⟩
      | false =>
        have hgv := h4 4 (by decide) (by kernel_rfl)
        simp only [errSureR] at hgv
        rw [hg] at hgv
        exact st_skip rfl (wanted_not (s := 15) rfl rfl hgv) (hKK _ _ (fun hf => by rw [hg] at hf; cases hf) (Below.refl _ _))
    · subst hi0
      cases hg : p with
      | true =>
        have hgv := (h4 4 (by decide) (by kernel_rfl))
        have hgu := (h4 8 (by decide) (by kernel_rfl)) hg
        simp only [errSureR] at hgv
        rw [hg] at hgv
        exact st_pick rfl rfl (wanted_none rfl) hgv (v := .bool q) hgu (hKK _ _ (by show _ = _; rw [hg]; rfl) (Below.refl _ _))
      | false =>
        have hgv := (h4 4 (by decide) (by kernel_rfl))
        simp only [errSureR] at hgv
        rw [hg] at hgv
        exact st_pick rfl rfl (wanted_none rfl) hgv (v := .bool false) rfl (hKK _ _ (by show _ = _; rw [hg]; rfl) (Below.refl _ _))
    · subst hi0
      refine st_call rfl rfl (wanted_none rfl) (args2 (h4 0 (by decide) (by kernel_rfl)) (h4 9 (by decide) (by kernel_rfl))) (run_enter Tryd.func47 (by kernel_rfl) (by kernel_rfl) _) ?_
      refine (HO.out _ hb5).mono ?_
      rintro e w1 ⟨rfl, y9, rfl⟩
      exact ⟨_, rfl, hKK _ _ rfl (below_ext _ _)⟩
    · subst hi0
      exact st_move rfl rfl (wanted_none rfl) (h4 10 (by decide) (by kernel_rfl)) (hKK _ _ rfl (Below.refl _ _))
    · subst hi0
      exact st_val rfl (wanted_none rfl) (run_part _ rfl (h4 11 (by decide) (by kernel_rfl)) rfl) (hKK _ _ rfl (Below.refl _ _))
    · subst hi0
      exact st_val rfl (wanted_none rfl) (run_part _ rfl (h4 11 (by decide) (by kernel_rfl)) rfl) (hKK _ _ rfl (Below.refl _ _))
    · subst hi0
      exact st_valw rfl (wanted_none rfl) (run_alloc_cove _ rfl) (hKK _ _ ⟨_, rfl, h5.size, fun _ => Blk.new rfl⟩ ((Below.refl _ _).alloc (Nat.le_refl _) _))
  · intro a W1 h1 h2 h3 h4 h5 KK hKK
    obtain ⟨g, e1, e2, e3⟩ := h4 14 (by decide) (by kernel_rfl)
    refine st_store_cove rfl (wanted_none rfl) rfl rfl e1 (h4 12 (by decide) (by kernel_rfl)) (e3 rfl) (fun w' hw' => hKK w' trivial (fun j hj hjk hr => ?_) (hw' _ e2))
    rcases (show j = 0 ∨ j = 1 ∨ j = 2 ∨ j = 3 ∨ j = 4 ∨ j = 5 ∨ j = 6 ∨ j = 7 ∨ j = 8 ∨ j = 9 ∨ j = 10 ∨ j = 11 ∨ j = 12 ∨ j = 13 ∨ j = 14 by omega) with hi0 | hi0 | hi0 | hi0 | hi0 | hi0 | hi0 | hi0 | hi0 | hi0 | hi0 | hi0 | hi0 | hi0 | hi0
    all_goals subst hi0
    all_goals first
      | exact hr
      | (obtain ⟨g', e1', e2', -⟩ := hr; exact ⟨g', e1', e2', fun hf => by cases hf⟩)
  intro vs W2 hvs hS0 hB2
  have v0 : vs 0 = _ := hvs 0 (by omega) (by decide)
  have v1 : vs 1 = _ := hvs 1 (by omega) (by decide)
  have v2 : vs 2 = _ := hvs 2 (by omega) (by decide)
  have v3 : vs 3 = _ := hvs 3 (by omega) (by decide)
  have v4 : vs 4 = _ := hvs 4 (by omega) (by decide)
  have v9 : vs 9 = _ := hvs 9 (by omega) (by decide)
  have v10 : vs 10 = _ := hvs 10 (by omega) (by decide)
  have v11 : vs 11 = _ := hvs 11 (by omega) (by decide)
  have v12 : vs 12 = _ := hvs 12 (by omega) (by decide)
  have v13 : vs 13 = _ := hvs 13 (by omega) (by decide)
  obtain ⟨gv, v14, -, -⟩ := hvs 14 (by omega) (by decide)
  clear hvs hS0
  simp only [putSkip, Nat.reduceEqDiff, reduceIte, v0, v1, v2, v3, v4, v9, v10, v11, v12, v13, v14]
  generalize vs 5 = u5v
  generalize vs 6 = u6v
  generalize vs 7 = u7v
  generalize vs 8 = u8v
  clear v0 v1 v2 v3 v4 v9 v10 v11 v12 v13 v14
  simp only [dstOf, Act.put, List.getElem?_toArray, List.getElem?_cons_zero, List.getElem?_cons_succ, Option.bind_some, Option.getD_some, List.setIfInBounds_toArray, List.set_cons_succ, List.set_cons_zero, List.drop_succ_cons, List.drop_zero]
  have HB2 := Lib.hid (HW.out.trans (hB2.mono HW.out.size))
  have hbs := hB2.size
  have hws := HW.out.size
  clear hB2
  go_wp2_with fail
  go_ret2
  exact ⟨rfl, by have hB := HB2.out; (exact ext_of (by (repeat (first | (with_reducible exact Below.refl _ _) | (with_reducible assumption) | ((with_reducible refine below_ext_trans ?_ ?_ _); rotate_left; focus (((try dsimp only); repeat (first | omega | simp only [World.size_alloc, World.size_setCell, World.size_drew] | (with_reducible refine le_ext_of ?_) | (with_reducible refine le_ext_add ?_))); done)) | ((with_reducible refine Below.alloc ?_ ?_ _); rotate_left; focus (((try dsimp only); repeat (first | omega | simp only [World.size_alloc, World.size_setCell, World.size_drew] | (with_reducible refine le_ext_of ?_) | (with_reducible refine le_ext_add ?_))); done)) | ((with_reducible refine Below.setCell ?_ ?_ _); rotate_left; focus (((try dsimp only); repeat (first | omega | simp only [World.size_alloc, World.size_setCell, World.size_drew] | (with_reducible refine le_ext_of ?_) | (with_reducible refine le_ext_add ?_))); done)) | (with_reducible refine Below.drew ?_)))))⟩
def errFirstR (bk : Value) (W0 gb : Nat) (n : Int) (st : Int) (m : Int) (p q : Bool) (code : Int) (f : Bool) (i : Nat) (u : Value) (w : World) : Prop :=
  match i with
  | 0 => u = bk
  | 1 => u = bk
  | 2 => u = .int .i64 st
  | 3 => u = .bool p
  | 4 => u = .bool p
  | 5 => p = true → u = bk
  | 6 => p = true → u = .int .i64 m
  | 7 => p = true → u = .bool q
  | 8 => u = .bool (p && q)
  | 9 => u = .bool (p && q)
  | 10 => (p && q) = true → u = .int .i64 st
  | 11 => (p && q) = true → u = .int .i64 m
  | 12 => (p && q) = true → u = .bool (st != m)
  | 13 => u = .bool ((p && q) && (st != m))
  | 14 => u = .tuple #[.agg #[.int .i64 0, .slice none 0 0, .slice none 0 0, .slice none 0 0, .int .i64 0, .int .i64 0, .int .i64 0, .int .i64 0, .int .i64 0, .int .i64 0, .int .i64 0, .int .i64 0, .map none], .int .i64 code]
  | 15 => u = .tuple #[.agg #[.int .i64 0, .slice none 0 0, .slice none 0 0, .slice none 0 0, .int .i64 0, .int .i64 0, .int .i64 0, .int .i64 0, .int .i64 0, .int .i64 0, .int .i64 0, .int .i64 0, .map none], .int .i64 code]
  | 16 => u = .agg #[.int .i64 0, .slice none 0 0, .slice none 0 0, .slice none 0 0, .int .i64 0, .int .i64 0, .int .i64 0, .int .i64 0, .int .i64 0, .int .i64 0, .int .i64 0, .int .i64 0, .map none]
  | 17 => u = .int .i64 code
  | 18 => ∃ g : Nat, u = .pointer (some ⟨g, 0, none⟩) ∧ W0 ≤ g ∧ (f = false → Blk w g 83 #[.int .i64 0, .slice none 0 0, .slice none 0 0, .slice none 0 0, .int .i64 0, .int .i64 0, .int .i64 0, .int .i64 0, .int .i64 0, .int .i64 0, .int .i64 0, .int .i64 0, .map none])
  | _ => True
theorem errFirstR_kept (bk : Value) (W0 gb : Nat) (n : Int) (st : Int) (m : Int) (p q : Bool) (code : Int) : ∀ (f : Bool) (i : Nat), i < 20 → i ≠ 19 → ∀ (u : Value) (w w' : World), errFirstR bk W0 gb n st m p q code f i u w → Below w.heap.size w w' → errFirstR bk W0 gb n st m p q code f i u w' := by
  intro f i hi hik u w w' h hb
  rcases (show i = 0 ∨ i = 1 ∨ i = 2 ∨ i = 3 ∨ i = 4 ∨ i = 5 ∨ i = 6 ∨ i = 7 ∨ i = 8 ∨ i = 9 ∨ i = 10 ∨ i = 11 ∨ i = 12 ∨ i = 13 ∨ i = 14 ∨ i = 15 ∨ i = 16 ∨ i = 17 ∨ i = 18 by omega) with hi0 | hi0 | hi0 | hi0 | hi0 | hi0 | hi0 | hi0 | hi0 | hi0 | hi0 | hi0 | hi0 | hi0 | hi0 | hi0 | hi0 | hi0 | hi0
  all_goals subst hi0
  all_goals first
    | exact h
    | (obtain ⟨g, h1, h2, h3⟩ := h; exact ⟨g, h1, h2, fun hf => (h3 hf).bel hb⟩)
set_option maxRecDepth 100000 in
set_option maxHeartbeats 4000000 in
theorem First_err (h : Hd) (b : Bk) (st : Int) (m : Int) (code : Int) (w : World) (hc : code ≠ 0) (ho : OpenErr h b ((isN st b.ss.length && isN m b.ss.length) && (st != m)) code w) :
    Calls Tryd.prog 37 #[.agg #[.int .i64 b.n, .slice h.pb b.bs.length h.cb, .slice h.po b.os.length h.co, .slice h.ps b.ss.length h.cs], .int .i64 st, .int .i64 m] w fun e w' => e = .returned (.tuple #[.int .i64 0, .int .i64 code]) ∧ ∃ x, w' = ext w x := by
  obtain ⟨pb, cb, po, co, ps, cs⟩ := h
  dsimp only
  have HO := Lib.hid ho
  have hc2 : (code == 0) = false := by simpa using hc
  have hc3 : (code != 0) = true := by simpa using hc
  clear hc ho
  go_enter Tryd.func37, Tryd.ntmps37
  go_upto_region 1 with fail
  generalize hW : w.alloc _ = W
  have hWB : Below w.heap.size w W := by rw [← hW]; (repeat (first | (with_reducible exact Below.refl _ _) | (with_reducible assumption) | ((with_reducible refine below_ext_trans ?_ ?_ _); rotate_left; focus (((try dsimp only); repeat (first | omega | simp only [World.size_alloc, World.size_setCell, World.size_drew] | (with_reducible refine le_ext_of ?_) | (with_reducible refine le_ext_add ?_))); done)) | ((with_reducible refine Below.alloc ?_ ?_ _); rotate_left; focus (((try dsimp only); repeat (first | omega | simp only [World.size_alloc, World.size_setCell, World.size_drew] | (with_reducible refine le_ext_of ?_) | (with_reducible refine le_ext_add ?_))); done)) | ((with_reducible refine Below.setCell ?_ ?_ _); rotate_left; focus (((try dsimp only); repeat (first | omega | simp only [World.size_alloc, World.size_setCell, World.size_drew] | (with_reducible refine le_ext_of ?_) | (with_reducible refine le_ext_add ?_))); done)) | (with_reducible refine Below.drew ?_)))
  have kb : Blk W w.heap.size 26 #[.int .i64 b.n, .slice pb b.bs.length cb, .slice po b.os.length co, .slice ps b.ss.length cs] := by rw [← hW]; exact Blk.new rfl
  have KB := Lib.hid kb
  have HW := Lib.hid hWB
  clear hW hWB kb
  obtain ⟨p, hp⟩ : ∃ p, isN st b.ss.length = p := ⟨_, rfl⟩
  obtain ⟨q, hq⟩ : ∃ q, isN m b.ss.length = q := ⟨_, rfl⟩
  rw [hp] at HO
  try rw [hq] at HO
  have HP := Lib.hid hp
  have HQ := Lib.hid hq
  clear hp hq
  refine wp_region_flow_backS 20 38 19 (fun _ => True) (errFirstR (.agg #[.int .i64 b.n, .slice pb b.bs.length cb, .slice po b.os.length co, .slice ps b.ss.length cs]) W.heap.size w.heap.size b.n st m p q code) (by kernel_rfl) (by kernel_rfl) rfl (by omega) (errFirstR_kept _ _ _ _ _ _ _ _ _) (fun _ _ h _ => h) ?_ ?_ ?_
  · intro i hin hik f a W1 h1 h2 h3 h4 h5 hfw KK hKK
    have hb5 := HW.out.trans (h5.mono HW.out.size)
    rcases (show i = 0 ∨ i = 1 ∨ i = 2 ∨ i = 3 ∨ i = 4 ∨ i = 5 ∨ i = 6 ∨ i = 7 ∨ i = 8 ∨ i = 9 ∨ i = 10 ∨ i = 11 ∨ i = 12 ∨ i = 13 ∨ i = 14 ∨ i = 15 ∨ i = 16 ∨ i = 17 ∨ i = 18 by omega) with hi0 | hi0 | hi0 | hi0 | hi0 | hi0 | hi0 | hi0 | hi0 | hi0 | hi0 | hi0 | hi0 | hi0 | hi0 | hi0 | hi0 | hi0 | hi0
    · subst hi0
      exact st_val rfl (wanted_none rfl) (run_book _ rfl (h3 3 (by kernel_rfl)) (KB.out.bel h5)) (hKK _ _ rfl (Below.refl _ _))
    · subst hi0
      exact st_val rfl (wanted_none rfl) (run_book _ rfl (h3 3 (by kernel_rfl)) (KB.out.bel h5)) (hKK _ _ rfl (Below.refl _ _))
    · subst hi0
      exact st_move rfl rfl (wanted_none rfl) (h3 1 (by kernel_rfl)) (hKK _ _ rfl (Below.refl _ _))
    · subst hi0
      refine st_call rfl rfl (wanted_none rfl) (args2 (h4 1 (by decide) (by kernel_rfl)) (h4 2 (by decide) (by kernel_rfl))) (run_enter Tryd.func54 (by kernel_rfl) (by kernel_rfl) _) ?_
      refine (isShot_any _ _ _ _ _ _ _ _ _ _ _ _).mono ?_
      rw [HP.out]
      rintro e w1 ⟨rfl, y9, rfl⟩
      exact ⟨_, rfl, hKK _ _ rfl (below_ext _ _)⟩
    · subst hi0
      exact st_move rfl rfl (wanted_none rfl) (h4 3 (by decide) (by kernel_rfl)) (hKK _ _ rfl (Below.refl _ _))
    · subst hi0
      cases hg : p with
      | true =>
        have hgv := h4 4 (by decide) (by kernel_rfl)
        simp only [errFirstR] at hgv
        rw [hg] at hgv
        exact st_val rfl (wanted_some (s := 15) rfl rfl hgv) (run_book _ rfl (h3 3 (by kernel_rfl)) (KB.out.bel h5)) (hKK _ _ (fun _ => rfl) (Below.refl _ _))
      | false =>
        have hgv := h4 4 (by decide) (by kernel_rfl)
        simp only [errFirstR] at hgv
        rw [hg] at hgv
        exact st_skip rfl (wanted_not (s := 15) rfl rfl hgv) (hKK _ _ (fun hf => by rw [hg] at hf; cases hf) (Below.refl _ _))
    · subst hi0
      cases hg : p with
      | true =>
        have hgv := h4 4 (by decide) (by kernel_rfl)
        simp only [errFirstR] at hgv
        rw [hg] at hgv
        exact st_move rfl rfl (wanted_some (s := 15) rfl rfl hgv) (h3 2 (by kernel_rfl)) (hKK _ _ (fun _ => rfl) (Below.refl _ _))
      | false =>
        have hgv := h4 4 (by decide) (by kernel_rfl)
        simp only [errFirstR] at hgv
        rw [hg] at hgv
        exact st_skip rfl (wanted_not (s := 15) rfl rfl hgv) (hKK _ _ (fun hf => by rw [hg] at hf; cases hf) (Below.refl _ _))
    · subst hi0
      cases hg : p with
      | true =>
        have hgv := h4 4 (by decide) (by kernel_rfl)
        simp only [errFirstR] at hgv
        rw [hg] at hgv
        refine st_call rfl rfl (wanted_some (s := 15) rfl rfl hgv) (args2 (h4 5 (by decide) (by kernel_rfl) hg) (h4 6 (by decide) (by kernel_rfl) hg)) (run_enter Tryd.func54 (by kernel_rfl) (by kernel_rfl) _) ?_
        refine (isShot_any _ _ _ _ _ _ _ _ _ _ _ _).mono ?_
        rw [HQ.out]
        rintro e w1 ⟨rfl, y9, rfl⟩
        exact ⟨_, rfl, hKK _ _ (fun _ => rfl) (below_ext _ _)⟩
      | false =>
        have hgv := h4 4 (by decide) (by kernel_rfl)
        simp only [errFirstR] at hgv
        rw [hg] at hgv
        exact st_skip rfl (wanted_not (s := 15) rfl rfl hgv) (hKK _ _ (fun hf => by rw [hg] at hf; cases hf) (Below.refl _ _))
    · subst hi0
      cases hg : p with
      | true =>
        have hgv := (h4 4 (by decide) (by kernel_rfl))
        have hgu := (h4 7 (by decide) (by kernel_rfl)) hg
        simp only [errFirstR] at hgv
        rw [hg] at hgv
        exact st_pick rfl rfl (wanted_none rfl) hgv (v := .bool q) hgu (hKK _ _ (by show _ = _; rw [hg]; rfl) (Below.refl _ _))
      | false =>
        have hgv := (h4 4 (by decide) (by kernel_rfl))
        simp only [errFirstR] at hgv
        rw [hg] at hgv
        exact st_pick rfl rfl (wanted_none rfl) hgv (v := .bool false) rfl (hKK _ _ (by show _ = _; rw [hg]; rfl) (Below.refl _ _))
    · subst hi0
      exact st_move rfl rfl (wanted_none rfl) (h4 8 (by decide) (by kernel_rfl)) (hKK _ _ rfl (Below.refl _ _))
    · subst hi0
      cases hg : (p && q) with
      | true =>
        have hgv := h4 9 (by decide) (by kernel_rfl)
        simp only [errFirstR] at hgv
        rw [hg] at hgv
        exact st_move rfl rfl (wanted_some (s := 20) rfl rfl hgv) (h3 1 (by kernel_rfl)) (hKK _ _ (fun _ => rfl) (Below.refl _ _))
      | false =>
        have hgv := h4 9 (by decide) (by kernel_rfl)
        simp only [errFirstR] at hgv
        rw [hg] at hgv
        exact st_skip rfl (wanted_not (s := 20) rfl rfl hgv) (hKK _ _ (fun hf => by rw [hg] at hf; cases hf) (Below.refl _ _))
    · subst hi0
      cases hg : (p && q) with
      | true =>
        have hgv := h4 9 (by decide) (by kernel_rfl)
        simp only [errFirstR] at hgv
        rw [hg] at hgv
        exact st_move rfl rfl (wanted_some (s := 20) rfl rfl hgv) (h3 2 (by kernel_rfl)) (hKK _ _ (fun _ => rfl) (Below.refl _ _))
      | false =>
        have hgv := h4 9 (by decide) (by kernel_rfl)
        simp only [errFirstR] at hgv
        rw [hg] at hgv
        exact st_skip rfl (wanted_not (s := 20) rfl rfl hgv) (hKK _ _ (fun hf => by rw [hg] at hf; cases hf) (Below.refl _ _))
    · subst hi0
      cases hg : (p && q) with
      | true =>
        have hgv := h4 9 (by decide) (by kernel_rfl)
        simp only [errFirstR] at hgv
        rw [hg] at hgv
        exact st_val rfl (wanted_some (s := 20) rfl rfl hgv) (run_nq _ rfl (h4 10 (by decide) (by kernel_rfl) hg) (h4 11 (by decide) (by kernel_rfl) hg)) (hKK _ _ (fun _ => rfl) (Below.refl _ _))
      | false =>
        have hgv := h4 9 (by decide) (by kernel_rfl)
        simp only [errFirstR] at hgv
        rw [hg] at hgv
        exact st_skip rfl (wanted_not (s := 20) rfl rfl hgv) (hKK _ _ (fun hf => by rw [hg] at hf; cases hf) (Below.refl _ _))
    · subst hi0
      cases hg : (p && q) with
      | true =>
        have hgv := (h4 9 (by decide) (by kernel_rfl))
        have hgu := (h4 12 (by decide) (by kernel_rfl)) hg
        simp only [errFirstR] at hgv
        rw [hg] at hgv
        exact st_pick rfl rfl (wanted_none rfl) hgv (v := .bool (st != m)) hgu (hKK _ _ (by show _ = _; rw [hg]; rfl) (Below.refl _ _))
      | false =>
        have hgv := (h4 9 (by decide) (by kernel_rfl))
        simp only [errFirstR] at hgv
        rw [hg] at hgv
        exact st_pick rfl rfl (wanted_none rfl) hgv (v := .bool false) rfl (hKK _ _ (by show _ = _; rw [hg]; rfl) (Below.refl _ _))
    · subst hi0
      refine st_call rfl rfl (wanted_none rfl) (args2 (h4 0 (by decide) (by kernel_rfl)) (h4 13 (by decide) (by kernel_rfl))) (run_enter Tryd.func47 (by kernel_rfl) (by kernel_rfl) _) ?_
      refine (HO.out _ hb5).mono ?_
      rintro e w1 ⟨rfl, y9, rfl⟩
      exact ⟨_, rfl, hKK _ _ rfl (below_ext _ _)⟩
    · subst hi0
      exact st_move rfl rfl (wanted_none rfl) (h4 14 (by decide) (by kernel_rfl)) (hKK _ _ rfl (Below.refl _ _))
    · subst hi0
      exact st_val rfl (wanted_none rfl) (run_part _ rfl (h4 15 (by decide) (by kernel_rfl)) rfl) (hKK _ _ rfl (Below.refl _ _))
    · subst hi0
      exact st_val rfl (wanted_none rfl) (run_part _ rfl (h4 15 (by decide) (by kernel_rfl)) rfl) (hKK _ _ rfl (Below.refl _ _))
    · subst hi0
      exact st_valw rfl (wanted_none rfl) (run_alloc_cove _ rfl) (hKK _ _ ⟨_, rfl, h5.size, fun _ => Blk.new rfl⟩ ((Below.refl _ _).alloc (Nat.le_refl _) _))
  · intro a W1 h1 h2 h3 h4 h5 KK hKK
    obtain ⟨g, e1, e2, e3⟩ := h4 18 (by decide) (by kernel_rfl)
    refine st_store_cove rfl (wanted_none rfl) rfl rfl e1 (h4 16 (by decide) (by kernel_rfl)) (e3 rfl) (fun w' hw' => hKK w' trivial (fun j hj hjk hr => ?_) (hw' _ e2))
    rcases (show j = 0 ∨ j = 1 ∨ j = 2 ∨ j = 3 ∨ j = 4 ∨ j = 5 ∨ j = 6 ∨ j = 7 ∨ j = 8 ∨ j = 9 ∨ j = 10 ∨ j = 11 ∨ j = 12 ∨ j = 13 ∨ j = 14 ∨ j = 15 ∨ j = 16 ∨ j = 17 ∨ j = 18 by omega) with hi0 | hi0 | hi0 | hi0 | hi0 | hi0 | hi0 | hi0 | hi0 | hi0 | hi0 | hi0 | hi0 | hi0 | hi0 | hi0 | hi0 | hi0 | hi0
    all_goals subst hi0
    all_goals first
      | exact hr
      | (obtain ⟨g', e1', e2', -⟩ := hr; exact ⟨g', e1', e2', fun hf => by cases hf⟩)
  intro vs W2 hvs hS0 hB2
  have v0 : vs 0 = _ := hvs 0 (by omega) (by decide)
  have v1 : vs 1 = _ := hvs 1 (by omega) (by decide)
  have v2 : vs 2 = _ := hvs 2 (by omega) (by decide)
  have v3 : vs 3 = _ := hvs 3 (by omega) (by decide)
  have v4 : vs 4 = _ := hvs 4 (by omega) (by decide)
  have v8 : vs 8 = _ := hvs 8 (by omega) (by decide)
  have v9 : vs 9 = _ := hvs 9 (by omega) (by decide)
  have v13 : vs 13 = _ := hvs 13 (by omega) (by decide)
  have v14 : vs 14 = _ := hvs 14 (by omega) (by decide)
  have v15 : vs 15 = _ := hvs 15 (by omega) (by decide)
  have v16 : vs 16 = _ := hvs 16 (by omega) (by decide)
  have v17 : vs 17 = _ := hvs 17 (by omega) (by decide)
  obtain ⟨gv, v18, -, -⟩ := hvs 18 (by omega) (by decide)
  clear hvs hS0
  simp only [putSkip, Nat.reduceEqDiff, reduceIte, v0, v1, v2, v3, v4, v8, v9, v13, v14, v15, v16, v17, v18]
  generalize vs 5 = u5v
  generalize vs 6 = u6v
  generalize vs 7 = u7v
  generalize vs 10 = u10v
  generalize vs 11 = u11v
  generalize vs 12 = u12v
  clear v0 v1 v2 v3 v4 v8 v9 v13 v14 v15 v16 v17 v18
  simp only [dstOf, Act.put, List.getElem?_toArray, List.getElem?_cons_zero, List.getElem?_cons_succ, Option.bind_some, Option.getD_some, List.setIfInBounds_toArray, List.set_cons_succ, List.set_cons_zero, List.drop_succ_cons, List.drop_zero]
  have HB2 := Lib.hid (HW.out.trans (hB2.mono HW.out.size))
  have hbs := hB2.size
  have hws := HW.out.size
  clear hB2
  go_wp2_with fail
  go_ret2
  exact ⟨rfl, by have hB := HB2.out; (exact ext_of (by (repeat (first | (with_reducible exact Below.refl _ _) | (with_reducible assumption) | ((with_reducible refine below_ext_trans ?_ ?_ _); rotate_left; focus (((try dsimp only); repeat (first | omega | simp only [World.size_alloc, World.size_setCell, World.size_drew] | (with_reducible refine le_ext_of ?_) | (with_reducible refine le_ext_add ?_))); done)) | ((with_reducible refine Below.alloc ?_ ?_ _); rotate_left; focus (((try dsimp only); repeat (first | omega | simp only [World.size_alloc, World.size_setCell, World.size_drew] | (with_reducible refine le_ext_of ?_) | (with_reducible refine le_ext_add ?_))); done)) | ((with_reducible refine Below.setCell ?_ ?_ _); rotate_left; focus (((try dsimp only); repeat (first | omega | simp only [World.size_alloc, World.size_setCell, World.size_drew] | (with_reducible refine le_ext_of ?_) | (with_reducible refine le_ext_add ?_))); done)) | (with_reducible refine Below.drew ?_)))))⟩
end Go.Proofs.YtdmicngnbcdkdaaDoor

