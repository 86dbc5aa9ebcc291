/- The reference: Valid, pass and does. -/
/- The reference: lists of states of a call's own; begun. -/
import Derived.Test.YtjjfpbjdcmkkhaaDoorQNz
import Derived.Test.YtjjfpbjdcmkkhaaDoorQJf
import Derived.Deep.QuietTactic
import Derived.BigQuiet
import Derived.RegionTactic
import Derived.Test.YtjjfpbjdcmkkhaaDoorQNg
set_option linter.unusedSimpArgs false
set_option linter.unusedVariables false
namespace Go.Proofs.YtjjfpbjdcmkkhaaDoor
open Go Go.RowKit Go.Shelf
attribute [local go_sem] Oper.semAt_some frozen_alloc_lt
set_option maxHeartbeats 1000000 in
theorem pass_r (h r n m : Int) (w : World) (hh : 0 ≤ h ∧ h ≤ 400) (hr : 0 ≤ r ∧ r ≤ 100) (hn : 0 ≤ n ∧ n ≤ 60) (hm : (aftS (h, r) n).1 = m) :
    Calls Tryd.prog 72 #[.agg #[.int .i64 h, .int .i64 r], .int .i64 n] w fun e w' => e = .returned (.agg #[.int .i64 m, .int .i64 r]) ∧ ∃ x, w' = ext w x := by
  have h1 : 0 ≤ r * n := Int.mul_nonneg hr.1 hn.1
  have h2 : r * n ≤ 100 * 60 := Int.mul_le_mul hr.2 hn.2 hn.1 (by omega)
  have h3 : m = max 0 (h - r * n) := by
    rw [← hm]
    unfold aftS
    dsimp only
    rw [afterH_eq hr.1 _ _ hh.1, Int.toNat_of_nonneg hn.1, Int.mul_comm]
  obtain ⟨q, hq⟩ : ∃ q, r * n = q := ⟨_, rfl⟩
  rw [hq] at h1 h2 h3
  have e1 : IntKind.i64.wrap (r * n) = q := by rw [hq]; exact IntWalk.i64_in _ (by omega)
  have e2 : IntKind.i64.wrap (h - q) = h - q := IntWalk.i64_in _ (by omega)
  have H3 := Lib.hid h3
  clear hm hq h3
  go_enter Tryd.func72, Tryd.ntmps72
  go_wp2_with fail
  all_goals (refine bodyPost_ret (v := .agg #[.int .i64 m, .int .i64 r]) (by simp [results, Tryd.results72, go_sem]; have := H3.out; omega) rfl ⟨rfl, ?_⟩)
  all_goals (exact ext_of (by (repeat (first | (with_reducible exact Below.refl _ _) | (with_reducible assumption) | ((with_reducible refine below_ext_trans ?_ ?_ _); rotate_left; focus (((try dsimp only); repeat (first | omega | simp only [World.size_alloc, World.size_setCell, World.size_drew] | (with_reducible refine le_ext_of ?_) | (with_reducible refine le_ext_add ?_))); done)) | ((with_reducible refine Below.alloc ?_ ?_ _); rotate_left; focus (((try dsimp only); repeat (first | omega | simp only [World.size_alloc, World.size_setCell, World.size_drew] | (with_reducible refine le_ext_of ?_) | (with_reducible refine le_ext_add ?_))); done)) | ((with_reducible refine Below.setCell ?_ ?_ _); rotate_left; focus (((try dsimp only); repeat (first | omega | simp only [World.size_alloc, World.size_setCell, World.size_drew] | (with_reducible refine le_ext_of ?_) | (with_reducible refine le_ext_add ?_))); done)) | (with_reducible refine Below.drew ?_)))))
theorem does_r (kd hr lo hi x r n : Int) (w : World) (hk : 0 ≤ kd ∧ kd ≤ 4) (hh : 0 ≤ x ∧ x ≤ 400) (hr' : 0 ≤ r ∧ r ≤ 100) (hn : 0 ≤ n ∧ n ≤ 400) :
    Calls Tryd.prog 109 #[.agg #[.int .i64 x, .int .i64 r], .agg #[.int .i64 kd, .int .i64 hr, .int .i64 lo, .int .i64 hi], .int .i64 n] w fun e w' => ∃ x' r', e = .returned (.tuple #[.agg #[.int .i64 x', .int .i64 r'], .bool (rightB kd x n)]) ∧ (rightB kd x n = true → (x', r') = doesS kd (x, r) n) ∧ ∃ z, w' = ext w z := by
  have ea : IntKind.i64.wrap (x - n) = x - n := IntWalk.i64_in _ (by omega)
  have ec : IntKind.i64.wrap (r + n) = r + n := IntWalk.i64_in _ (by omega)
  rcases (show kd = 0 ∨ kd = 1 ∨ kd = 2 ∨ kd = 3 ∨ kd = 4 by omega) with rfl | rfl | rfl | rfl | rfl
  · go_enter Tryd.func109, Tryd.ntmps109
    go_upto_region 3 with fail
    go_region
    all_goals go_wp2_with fail
    all_goals refine bodyPost_ret (v := .tuple #[.agg #[.int .i64 (x - n), .int .i64 r], .bool (decide (n ≤ x))]) (by simp [results, Tryd.results109, go_sem]) rfl ⟨(x - n), r, by simp [rightB], fun _ => by simp [doesS], ?_⟩
    all_goals (exact ext_of (by (repeat (first | (with_reducible exact Below.refl _ _) | (with_reducible assumption) | ((with_reducible refine below_ext_trans ?_ ?_ _); rotate_left; focus (((try dsimp only); repeat (first | omega | simp only [World.size_alloc, World.size_setCell, World.size_drew] | (with_reducible refine le_ext_of ?_) | (with_reducible refine le_ext_add ?_))); done)) | ((with_reducible refine Below.alloc ?_ ?_ _); rotate_left; focus (((try dsimp only); repeat (first | omega | simp only [World.size_alloc, World.size_setCell, World.size_drew] | (with_reducible refine le_ext_of ?_) | (with_reducible refine le_ext_add ?_))); done)) | ((with_reducible refine Below.setCell ?_ ?_ _); rotate_left; focus (((try dsimp only); repeat (first | omega | simp only [World.size_alloc, World.size_setCell, World.size_drew] | (with_reducible refine le_ext_of ?_) | (with_reducible refine le_ext_add ?_))); done)) | (with_reducible refine Below.drew ?_)))))
  · go_enter Tryd.func109, Tryd.ntmps109
    go_wp2_with fail
    all_goals refine bodyPost_ret (v := .tuple #[.agg #[.int .i64 x, .int .i64 (r + n)], .bool true]) (by simp [results, Tryd.results109, go_sem]) rfl ⟨x, (r + n), by simp [rightB], fun _ => by simp [doesS], ?_⟩
    all_goals (exact ext_of (by (repeat (first | (with_reducible exact Below.refl _ _) | (with_reducible assumption) | ((with_reducible refine below_ext_trans ?_ ?_ _); rotate_left; focus (((try dsimp only); repeat (first | omega | simp only [World.size_alloc, World.size_setCell, World.size_drew] | (with_reducible refine le_ext_of ?_) | (with_reducible refine le_ext_add ?_))); done)) | ((with_reducible refine Below.alloc ?_ ?_ _); rotate_left; focus (((try dsimp only); repeat (first | omega | simp only [World.size_alloc, World.size_setCell, World.size_drew] | (with_reducible refine le_ext_of ?_) | (with_reducible refine le_ext_add ?_))); done)) | ((with_reducible refine Below.setCell ?_ ?_ _); rotate_left; focus (((try dsimp only); repeat (first | omega | simp only [World.size_alloc, World.size_setCell, World.size_drew] | (with_reducible refine le_ext_of ?_) | (with_reducible refine le_ext_add ?_))); done)) | (with_reducible refine Below.drew ?_)))))
  · go_enter Tryd.func109, Tryd.ntmps109
    go_wp2_with fail
    all_goals refine bodyPost_ret (v := .tuple #[.agg #[.int .i64 x, .int .i64 0], .bool true]) (by simp [results, Tryd.results109, go_sem]) rfl ⟨x, 0, by simp [rightB], fun _ => by simp [doesS], ?_⟩
    all_goals (exact ext_of (by (repeat (first | (with_reducible exact Below.refl _ _) | (with_reducible assumption) | ((with_reducible refine below_ext_trans ?_ ?_ _); rotate_left; focus (((try dsimp only); repeat (first | omega | simp only [World.size_alloc, World.size_setCell, World.size_drew] | (with_reducible refine le_ext_of ?_) | (with_reducible refine le_ext_add ?_))); done)) | ((with_reducible refine Below.alloc ?_ ?_ _); rotate_left; focus (((try dsimp only); repeat (first | omega | simp only [World.size_alloc, World.size_setCell, World.size_drew] | (with_reducible refine le_ext_of ?_) | (with_reducible refine le_ext_add ?_))); done)) | ((with_reducible refine Below.setCell ?_ ?_ _); rotate_left; focus (((try dsimp only); repeat (first | omega | simp only [World.size_alloc, World.size_setCell, World.size_drew] | (with_reducible refine le_ext_of ?_) | (with_reducible refine le_ext_add ?_))); done)) | (with_reducible refine Below.drew ?_)))))
  · go_enter Tryd.func109, Tryd.ntmps109
    go_wp2_with fail
    all_goals refine bodyPost_ret (v := .tuple #[.agg #[.int .i64 (x - min x n), .int .i64 r], .bool true]) (by simp [results, Tryd.results109, go_sem]; omega) rfl ⟨(x - min x n), r, by simp [rightB], fun _ => by simp [doesS], ?_⟩
    all_goals (exact ext_of (by (repeat (first | (with_reducible exact Below.refl _ _) | (with_reducible assumption) | ((with_reducible refine below_ext_trans ?_ ?_ _); rotate_left; focus (((try dsimp only); repeat (first | omega | simp only [World.size_alloc, World.size_setCell, World.size_drew] | (with_reducible refine le_ext_of ?_) | (with_reducible refine le_ext_add ?_))); done)) | ((with_reducible refine Below.alloc ?_ ?_ _); rotate_left; focus (((try dsimp only); repeat (first | omega | simp only [World.size_alloc, World.size_setCell, World.size_drew] | (with_reducible refine le_ext_of ?_) | (with_reducible refine le_ext_add ?_))); done)) | ((with_reducible refine Below.setCell ?_ ?_ _); rotate_left; focus (((try dsimp only); repeat (first | omega | simp only [World.size_alloc, World.size_setCell, World.size_drew] | (with_reducible refine le_ext_of ?_) | (with_reducible refine le_ext_add ?_))); done)) | (with_reducible refine Below.drew ?_)))))
  · go_enter Tryd.func109, Tryd.ntmps109
    go_upto_region 10 with fail
    go_region
    all_goals go_wp2_with fail
    all_goals refine bodyPost_ret (v := .tuple #[.agg #[.int .i64 x, .int .i64 r], .bool (n == x)]) (by simp [results, Tryd.results109, go_sem]) rfl ⟨x, r, by simp [rightB] <;> rfl, fun _ => by simp [doesS], ?_⟩
    all_goals (exact ext_of (by (repeat (first | (with_reducible exact Below.refl _ _) | (with_reducible assumption) | ((with_reducible refine below_ext_trans ?_ ?_ _); rotate_left; focus (((try dsimp only); repeat (first | omega | simp only [World.size_alloc, World.size_setCell, World.size_drew] | (with_reducible refine le_ext_of ?_) | (with_reducible refine le_ext_add ?_))); done)) | ((with_reducible refine Below.alloc ?_ ?_ _); rotate_left; focus (((try dsimp only); repeat (first | omega | simp only [World.size_alloc, World.size_setCell, World.size_drew] | (with_reducible refine le_ext_of ?_) | (with_reducible refine le_ext_add ?_))); done)) | ((with_reducible refine Below.setCell ?_ ?_ _); rotate_left; focus (((try dsimp only); repeat (first | omega | simp only [World.size_alloc, World.size_setCell, World.size_drew] | (with_reducible refine le_ext_of ?_) | (with_reducible refine le_ext_add ?_))); done)) | (with_reducible refine Below.drew ?_)))))
end Go.Proofs.YtjjfpbjdcmkkhaaDoor

namespace Go.Proofs.YtjjfpbjdcmkkhaaDoor
open Go Go.RowKit Go.Shelf
theorem info_rst : (Tryd.prog.info? 96).map (fun i => (i.zero, i.size, i.bytes)) = some (some (.agg #[.int .i64 0, .int .i64 0]), 2, 16) := by kernel_rfl
theorem under_rsts : Tryd.prog.underlying 93 = some (.slice 96) := by kernel_rfl
def encRs (l : List (Int × Int)) : List Value := l.flatMap fun s => [.int .i64 s.1, .int .i64 s.2]
theorem encRs_cons (a : Int × Int) (l : List (Int × Int)) : encRs (a :: l) = .int .i64 a.1 :: .int .i64 a.2 :: encRs l := rfl
theorem encRs_append (l m : List (Int × Int)) : encRs (l ++ m) = encRs l ++ encRs m := by simp [encRs]
theorem encRs_len (l : List (Int × Int)) : (encRs l).length = l.length * 2 := by
  induction l with
  | nil => rfl
  | cons a l ih => rw [encRs_cons]; simp [ih]; omega
theorem encRs_get : ∀ (l : List (Int × Int)) (i : Nat) (s : Int × Int), l[i]? = some s → (encRs l)[i * 2]? = some (.int .i64 s.1) ∧ (encRs l)[i * 2 + 1]? = some (.int .i64 s.2)
  | [], i, s, h => by simp at h
  | a :: l, 0, s, h => by simp at h; subst h; simp [encRs]
  | a :: l, i + 1, s, h => by
    have := encRs_get l i s (by simpa using h)
    rw [encRs_cons, show (i + 1) * 2 = i * 2 + 1 + 1 by omega]
    simpa using this
theorem encRs_one (l : List (Int × Int)) : ∀ u ∈ encRs l, u.oneCell' = true := by
  induction l with
  | nil => simp [encRs]
  | cons a l ih =>
    intro u hu
    rw [encRs_cons] at hu
    simp only [List.mem_cons] at hu
    rcases hu with rfl | rfl | hu
    · rfl
    · rfl
    · exact ih u hu
/-- A list of states in an array of the call's own (or nil). -/
def OwnRs (w : World) (B : Nat) (v : Value) (l : List (Int × Int)) : Prop := w.ownsRow B 96 2 v l.length (encRs l)
theorem OwnRs.nil (w : World) (B : Nat) : OwnRs w B (.slice none 0 0) [] := World.ownsRow_nil _ _ _ _
theorem OwnRs.kept {w w' : World} {B : Nat} {v : Value} {l : List (Int × Int)} (h : OwnRs w B v l) (hb : ∀ g, v.ownBlock = some g → w'.heap[g]? = w.heap[g]?) : OwnRs w' B v l := by
  obtain ⟨h1, h2⟩ := h
  refine ⟨h1, ?_⟩
  rcases h2 with h2 | ⟨g, cap, cur, rfl, hg, hh, r⟩
  · exact .inl h2
  · exact .inr ⟨g, cap, cur, rfl, hg, (hb g rfl).trans hh, r⟩
theorem OwnRs.lt {w : World} {B : Nat} {v : Value} {l : List (Int × Int)} (h : OwnRs w B v l) : ∀ g, v.ownBlock = some g → B ≤ g ∧ g < w.heap.size := World.ownsRow.lt h
theorem OwnRs.below {w w' : World} {B : Nat} {v : Value} {l : List (Int × Int)} (h : OwnRs w B v l) (hb : Below w.heap.size w w') : OwnRs w' B v l := h.kept (fun g hg => hb.block g (h.lt g hg).2)
theorem OwnRs.mono {w : World} {B B' : Nat} {v : Value} {l : List (Int × Int)} (h : OwnRs w B v l) (hB : B' ≤ B) : OwnRs w B' v l := by
  obtain ⟨h1, h2⟩ := h
  refine ⟨h1, ?_⟩
  rcases h2 with h2 | ⟨g, cap, cur, rfl, hg, r⟩
  · exact .inl h2
  · exact .inr ⟨g, cap, cur, rfl, by omega, r⟩
/-- A list of states that lies in memory. -/
def RsAt (w : World) (p : Option Addr) (l : List (Int × Int)) : Prop :=
  ∀ (i : Nat) (s : Int × Int), l[i]? = some s → ∃ b o, p = some ⟨b, o, none⟩ ∧ b < w.heap.size ∧ w.cell? ⟨b, o + i * 2, none⟩ = some (.int .i64 s.1) ∧ w.cell? ⟨b, o + i * 2 + 1, none⟩ = some (.int .i64 s.2)
theorem RsAt.below {w w' : World} {p : Option Addr} {l : List (Int × Int)} (h : RsAt w p l) (hb : Below w.heap.size w w') : RsAt w' p l := fun i s hi => by
  obtain ⟨b, o, e, h1, h2, h3⟩ := h i s hi
  exact ⟨b, o, e, Nat.lt_of_lt_of_le h1 hb.size, (hb.cell (p := ⟨b, o + i * 2, none⟩) h1).trans h2, (hb.cell (p := ⟨b, o + i * 2 + 1, none⟩) h1).trans h3⟩
theorem OwnRs.at {w : World} {B : Nat} {v : Value} {l : List (Int × Int)} (h : OwnRs w B v l) : ∃ p c, v = .slice p l.length c ∧ RsAt w p l := by
  obtain ⟨h1, h2⟩ := h
  rcases h2 with ⟨h2, h3⟩ | ⟨g, cap, cur, rfl, hg, hh, hn, hm, hs, ht⟩
  · refine ⟨none, 0, by rw [h2, h3], fun i x hx => ?_⟩
    have := (List.getElem?_eq_some_iff.1 hx).1
    omega
  · refine ⟨_, cap, rfl, fun i x hx => ⟨g, 0, rfl, (Array.getElem?_eq_some_iff.1 hh).1, ?_⟩⟩
    have hi := (List.getElem?_eq_some_iff.1 hx).1
    have ho : w.ownsRow B 96 2 (.slice (some ⟨g, 0, none⟩) l.length cap) l.length (encRs l) := ⟨h1, .inr ⟨g, cap, cur, rfl, hg, hh, hn, hm, hs, ht⟩⟩
    obtain ⟨e1, e2⟩ := encRs_get l i x hx
    rw [Nat.zero_add, ho.cellAt (i * 2) (by omega), ho.cellAt (i * 2 + 1) (by omega)]
    exact ⟨e1, e2⟩
theorem wpList_append_rst {ops : Array Oper} {rest : List Oper} {o : Oper} {a : Act} {Q : Exit → Act → World → Prop} {w : World} (hgd : o.guard = none) (s x : Operand)
    (ho : o.op = .call { callee := .builtin .append, args := #[s, x], argTypes := #[93, 93] }) (B : Nat)
    (v : Value) (l : List (Int × Int)) (hs : a.eval s = v) (hown : OwnRs w B v l) (g : Nat) (y : Int × Int) (hx : a.eval x = .slice (some ⟨g, 0, none⟩) 1 1) (hc : Blk w g 96 #[.int .i64 y.1, .int .i64 y.2])
    (hl : l.length ≤ 8700000000000) (hB : B ≤ w.heap.size)
    (h : ∀ v' w', OwnRs w' B v' (l ++ [y]) → w.grownBy w' v.ownBlock → wpList Tryd.prog ops Q rest (a.put o.dst v') w') : wpList Tryd.prog ops Q (o :: rest) a w := by
  obtain ⟨i0, hi, hz0, hz1, hz2⟩ := info_parts info_rst
  refine wpList_append_own w hgd s x 93 ho B 96 i0 (.agg #[.int .i64 0, .int .i64 0]) 2 16 under_rsts hi hz0 hz1 hz2 rfl (by decide) v l.length _ hs hown ⟨g, 0, none⟩ 1 1 (encRs [y]) hx rfl ?_ (encRs_one _) ?_ ?_ hB ?_
  · intro j u hj
    match j, hj with
    | 0, hj => simp [encRs] at hj; subst hj; simpa [Addr.add] using hc.cell 0
    | 1, hj => simp [encRs] at hj; subst hj; simpa [Addr.add] using hc.cell 1
    | n + 2, hj => simp [encRs] at hj
  · unfold maxLen; omega
  · omega
  · intro v' w' h1 h2 _
    refine h v' w' ?_ h2
    unfold OwnRs
    rw [encRs_append, List.length_append]
    exact h1
attribute [local go_sem] Oper.semAt_some frozen_alloc_lt
theorem starts_len (a : Int) (k : Nat) : ((nupto a k).map fun m => ((m, 0) : Int × Int)).length = k := by simp [nupto]
theorem starts_succ (a : Int) (k : Nat) : ((nupto a (k + 1)).map fun m => ((m, 0) : Int × Int)) = ((nupto a k).map fun m => ((m, 0) : Int × Int)) ++ [(a + (k : Int), 0)] := by rw [← nupto_snoc]; simp
set_option maxHeartbeats 4000000 in
theorem begun_r (b : Sn) (p : Option Addr) (c : Nat) (w : World) (h0 : 0 ≤ b.lo) (h1 : b.lo ≤ b.hi) (h2 : b.hi ≤ 400) :
    Calls Tryd.prog 71 #[bV b p c] w fun e w' => ∃ v, e = .returned v ∧ OwnRs w' w.heap.size v (startL b.lo b.hi) ∧ ∃ x, w' = ext w x := by
  go_enter Tryd.func71, Tryd.ntmps71
  go_upto_region 2 with fail
  generalize hW : w.alloc _ = W
  have hWB : Below w.heap.size w W := by rw [← hW]; (repeat (first | (with_reducible exact Below.refl _ _) | (with_reducible assumption) | ((with_reducible refine below_ext_trans ?_ ?_ _); rotate_left; focus (((try dsimp only); repeat (first | omega | simp only [World.size_alloc, World.size_setCell, World.size_drew] | (with_reducible refine le_ext_of ?_) | (with_reducible refine le_ext_add ?_))); done)) | ((with_reducible refine Below.alloc ?_ ?_ _); rotate_left; focus (((try dsimp only); repeat (first | omega | simp only [World.size_alloc, World.size_setCell, World.size_drew] | (with_reducible refine le_ext_of ?_) | (with_reducible refine le_ext_add ?_))); done)) | ((with_reducible refine Below.setCell ?_ ?_ _); rotate_left; focus (((try dsimp only); repeat (first | omega | simp only [World.size_alloc, World.size_setCell, World.size_drew] | (with_reducible refine le_ext_of ?_) | (with_reducible refine le_ext_add ?_))); done)) | (with_reducible refine Below.drew ?_)))
  have kb : Blk W w.heap.size 26 #[.int .i64 b.lo, .int .i64 b.hi, .slice p b.ns.length c] := by rw [← hW]; exact Blk.new rfl
  have hWs : W.heap.size = w.heap.size + 1 := by rw [← hW]; simp
  have HW := Lib.hid hWB
  have KB := Lib.hid kb
  have HWS := Lib.hid hWs
  have q0 := kb.cell 0
  have q1 := kb.cell 1
  have lb := kb.lt
  simp only [List.size_toArray, List.length_cons, List.length_nil, Nat.reduceAdd, Nat.reduceLT, getElem?_pos, List.getElem_toArray, List.getElem_cons_zero, List.getElem_cons_succ] at q0 q1
  clear hW hWB kb hWs
  go_wp2_with fail
  clear q0 q1 lb
  go_loopw [3, 4] (fun o i wr => ∃ k : Nat, (k : Int) ≤ b.hi - b.lo + 1 ∧ i = .int .i64 (b.lo + (k : Int)) ∧ Hid (OwnRs wr (w.heap.size + 1) o ((nupto b.lo k).map fun m => (m, 0))) ∧ Hid (Below (w.heap.size + 1) W wr)) (fun _ i _ => (b.hi + 1 - intOf i).toNat)
  case atStart => exact ⟨0, by omega, by simp, Lib.hid (OwnRs.nil _ _), Lib.hid (Below.refl _ _)⟩
  case round =>
    obtain ⟨k, hk, rfl, HO, HB⟩ := hrel
    have kb : Blk wr w.heap.size 26 #[.int .i64 b.lo, .int .i64 b.hi, .slice p b.ns.length c] := (HB.out.block w.heap.size (by omega)).trans KB.out
    have q0 := kb.cell 0
    have q1 := kb.cell 1
    have lb := kb.lt
    simp only [List.size_toArray, List.length_cons, List.length_nil, Nat.reduceAdd, Nat.reduceLT, getElem?_pos, List.getElem_toArray, List.getElem_cons_zero, List.getElem_cons_succ] at q0 q1
    have hzr : w.heap.size + 1 ≤ wr.heap.size := by have := HB.out.size; have := HWS.out; omega
    clear kb
    by_cases hlt : b.lo + (k : Int) ≤ b.hi
    · have hc : decide (b.lo + (k : Int) ≤ b.hi) = true := by simpa using hlt
      have e1 : IntKind.i64.wrap (b.lo + (k : Int) + 1) = b.lo + ((k + 1 : Nat) : Int) := by rw [IntWalk.i64_in _ (by omega)]; omega
      go_wp2_with (at_builtin; refine wpList_append_rst rfl _ _ rfl (w.heap.size + 1) _ _ rfl (HO.out.below ((Below.refl _ _).alloc (Nat.le_refl _) _)) wr.heap.size (b.lo + (k : Int), 0) rfl (Blk.new rfl) (by rw [starts_len]; omega) (by simp; omega) ?_; intro v' w1 ho hg; have HO2 := Lib.hid ho; have HG2 := Lib.hid hg; clear ho hg)
      have HB2 := Lib.hid (Below.grown (w := wr.alloc (.cells #[.int .i64 (b.lo + (k : Int)), .int .i64 0] 96)) (HB.out.alloc hzr _) HG2.out (by simp; omega) (fun j hj => (HO.out.lt j hj).1))
      go_wp2_with fail
      go_roundw
      case rel => exact ⟨k + 1, by omega, congrArg (Value.int IntKind.i64) (by push_cast; omega), by rw [starts_succ]; exact HO2, HB2⟩
      case measure => simp [intOf]; omega
    · have hk1 : (k : Int) = b.hi - b.lo + 1 := by omega
      have HE := Lib.hid (show ((nupto b.lo k).map fun m => ((m, 0) : Int × Int)) = startL b.lo b.hi by
        unfold startL numsL
        rw [show (b.hi - b.lo + 1).toNat = k by omega])
      have hc : decide (b.lo + (k : Int) ≤ b.hi) = false := by simpa using hlt
      clear hk1 hk hlt
      obtain ⟨q, cq, e, -⟩ := HO.out.at
      subst e
      have HO2 := Lib.hid (show OwnRs wr w.heap.size _ _ from HO.out.mono (by omega))
      go_wp2_with fail
      go_ret
      exact ⟨_, rfl, by rw [← HE.out]; exact HO2.out, ext_of (HW.out.trans (HB.out.mono (by omega)))⟩
end Go.Proofs.YtjjfpbjdcmkkhaaDoor

