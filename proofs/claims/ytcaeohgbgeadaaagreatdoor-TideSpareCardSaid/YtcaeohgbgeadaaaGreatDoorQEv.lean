/- For the laws of package tide: a list without one of its elements. -/
/- Package tide, plainly: a tide less in a plan; what is left and what is lost; no tide at all; mending. -/
import Derived.Test.YtcaeohgbgeadaaaGreatDoorQEs
import Derived.RegionTactic
import Derived.Test.YtcaeohgbgeadaaaGreatDoorQOf
set_option linter.unusedSimpArgs false
set_option linter.unusedVariables false
namespace Go.Proofs.YtcaeohgbgeadaaaGreatDoor
open Go Go.RowKit Go.Shelf
theorem addOf (b o i : Nat) : (⟨b, o, none⟩ : Addr).add i = ⟨b, o + i, none⟩ := by
  unfold Addr.add
  split
  · rename_i h; subst h; rfl
  · rfl
theorem wpList_append_ints {ops : Array Oper} {rest : List Oper} {o : Oper} {a : Act} {Q : Exit → Act → World → Prop} {w : World} (hgd : o.guard = none) (s x : Operand)
    (ho : o.op = .call { callee := .builtin .append, args := #[s, x], argTypes := #[30, 30] }) (B : Nat)
    (v : Value) (l : List Int) (hs : a.eval s = v) (hown : OwnInts w B v l) (b j m c : Nat) (l2 : List Int) (hx : a.eval x = .slice (some ⟨b, j, none⟩) m c) (hm : m = l2.length) (hc : IntsAt w (some ⟨b, j, none⟩) l2)
    (hl : l.length + l2.length ≤ 100000) (hB : B ≤ w.heap.size)
    (h : ∀ v' w', OwnInts w' B v' (l ++ l2) → w.grownBy w' v.ownBlock → wpList Tryz.prog ops Q rest (a.put o.dst v') w') : wpList Tryz.prog ops Q (o :: rest) a w := by
  obtain ⟨i0, hi, hz0, hz1, hz2⟩ := info_parts info_numT
  subst hm
  refine wpList_append_own w hgd s x 30 ho B 3 i0 (.int .i64 0) 1 8 under_numsT hi hz0 hz1 hz2 rfl (by decide) v l.length _ hs hown ⟨b, j, none⟩ l2.length c (l2.map (Value.int .i64)) hx (by simp) ?_ ?_ ?_ ?_ hB ?_
  · intro i u hi
    rw [List.getElem?_map] at hi
    cases hy : l2[i]? with
    | none => rw [hy] at hi; simp at hi
    | some y =>
      rw [hy] at hi
      simp at hi
      subst hi
      obtain ⟨b', o', e, -, h3⟩ := hc i y hy
      cases e
      rw [addOf]
      exact h3
  · intro u hu; obtain ⟨y, -, rfl⟩ := List.mem_map.1 hu; rfl
  · unfold maxLen; omega
  · omega
  · intro v' w' h1 h2 _
    refine h v' w' ?_ h2
    unfold OwnInts
    simpa using h1
attribute [local go_sem] Oper.semAt_some frozen_alloc_lt
set_option maxRecDepth 100000 in
set_option maxHeartbeats 2000000 in
theorem lwithout_any (v : Value) (pl : List Int) (k : Nat) (w : World) (h : PlanAt w v pl) (hk : k < pl.length) (hlen : pl.length ≤ 1000) :
    Calls Tryz.prog 46 #[v, .int .i64 k] w fun e w' => ∃ v', e = .returned v' ∧ OwnInts w' w.heap.size v' (pl.eraseIdx k) ∧ ∃ x, w' = ext w x := by
  obtain ⟨p, c, rfl, h2, h3, h4, h5⟩ := h
  cases p with
  | none => have := h5 rfl; omega
  | some q =>
  obtain ⟨⟨b, o, rfl⟩, hbl⟩ := h4 q rfl
  dsimp only at hbl
  obtain ⟨n, hn⟩ : ∃ n, pl.length = n := ⟨_, rfl⟩
  rw [hn] at h3 hk hlen ⊢
  have k0 : (0 : Int) ≤ (k : Int) := by omega
  have k1 : (k : Int) ≤ (c : Int) := by omega
  have k2 : (0 : Int) ≤ (k : Int) + 1 := by omega
  have k3 : (k : Int) + 1 ≤ (n : Int) := by omega
  have k4 : (n : Int) ≤ (c : Int) := by omega
  have hw1 : IntKind.i64.wrap ((k : Int) + 1) = (k : Int) + 1 := by rw [IntWalk.i64_in _ (by omega)]
  have HI := Lib.hid h2
  have HX := Lib.hid (show OwnInts (w.alloc (.cells #[] 3)) w.heap.size (.slice (some ⟨w.heap.size, 0, none⟩) 0 0) [] from OwnInts.of_blk (Blk.new rfl) rfl rfl (by simp))
  go_enter Tryz.func46, Tryz.ntmps46
  go_upto_region 2 with (at_builtin; refine wpList_append_ints rfl _ _ rfl w.heap.size _ [] rfl (OwnInts.of_blk (Blk.new rfl) rfl rfl (by simp)) b o k c (pl.take k) rfl (by simp; omega) (ints_take (HI.out.below belA) k) (by simp; omega) (by ((try dsimp only); repeat (first | omega | simp only [World.size_alloc, World.size_setCell, World.size_drew] | (with_reducible refine le_ext_of ?_) | (with_reducible refine le_ext_add ?_)))) ?_; intro v1 w1 ho hg)
  have hB2 : Below w.heap.size w w1 := by
    refine Below.grown (w := w.alloc (.cells #[] 3)) belA hg (by ((try dsimp only); repeat (first | omega | simp only [World.size_alloc, World.size_setCell, World.size_drew] | (with_reducible refine le_ext_of ?_) | (with_reducible refine le_ext_add ?_)))) ?_
    intro j hj
    exact (HX.out.lt j hj).1
  have HO := Lib.hid ho
  have HB := Lib.hid hB2
  clear ho hg hB2
  obtain ⟨o2, ho2, ho3⟩ : ∃ o2, (if c = k + 1 then some (⟨b, o, none⟩ : Addr) else some ⟨b, o + (k + 1), none⟩) = some ⟨b, o2, none⟩ ∧ (c ≠ k + 1 → o2 = o + (k + 1)) := by
    by_cases hc : c = k + 1
    · exact ⟨o, if_pos hc, fun h => absurd hc h⟩
    · exact ⟨o + (k + 1), if_neg hc, fun _ => rfl⟩
  have hI2 : IntsAt w1 (some ⟨b, o2, none⟩) (pl.drop (k + 1)) := by
    by_cases hc : c = k + 1
    · rw [List.drop_of_length_le (by omega)]; intro i x hi; simp at hi
    · rw [ho3 hc]; exact ints_drop (HI.out.below HB.out)
  go_wp2_with (at_builtin; refine wpList_append_ints rfl _ _ rfl w.heap.size v1 (pl.take k) rfl HO.out b o2 (n - (k + 1)) (c - (k + 1)) (pl.drop (k + 1)) rfl (by simp; omega) hI2 (by simp; omega) HB.out.size ?_; intro v2 w2 ho hg)
  have hB3 : Below w.heap.size w w2 := Below.grown HB.out hg HB.out.size (fun j hj => (HO.out.lt j hj).1)
  have HO2 := Lib.hid ho
  clear ho hg
  go_ret
  refine ⟨_, rfl, ?_, ext_of hB3⟩
  rw [List.eraseIdx_eq_take_drop_succ]
  exact HO2.out
end Go.Proofs.YtcaeohgbgeadaaaGreatDoor

namespace Go.Proofs.YtcaeohgbgeadaaaGreatDoor
open Go Go.RowKit Go.Shelf
theorem truth_erase {h : Hl} (k : h.OK) {pl : List Int} (hp : planB h.b.ts h.b.most h.b.rest pl = true) (i : Nat) (x y c d : Bool) :
    askN 0 (endS h.b (trOf h x y c d) (pl.eraseIdx i)) ≤ askN 0 (endS h.b (trOf h x y c d) pl) ∧ askN 1 (endS h.b (trOf h x y c d) pl) ≤ askN 1 (endS h.b (trOf h x y c d) (pl.eraseIdx i)) ∧ askN 2 (endS h.b (trOf h x y c d) pl) ≤ askN 2 (endS h.b (trOf h x y c d) (pl.eraseIdx i)) := by
  rw [end_corn k hp, end_corn k (plan_erase k.rs.1 hp i)]
  have b := btw_corn k x y c d
  have k1 := k.hd
  have k2 := k.rt
  have k3 := k.gl
  have h1 := b.x
  have h2 := b.y
  have h3 := b.g
  have e := runS_erase (ts := h.b.ts) (room := roomT h.b.ts c) (fun i => (k.room c i).1) (r := endN y h.rl h.rh) (g := endN d h.b.glo h.b.ghi) (by omega) pl i (endN x h.hl h.hh) h.b.now 0 (by omega) (by omega) (plan_ord k.rs.1 k.ch hp)
  simp only [askN]
  omega
theorem ends_erase {h : Hl} (k : h.OK) {pl : List Int} (hp : planB h.b.ts h.b.most h.b.rest pl = true) (i : Nat) :
    (ansLo h 0 (pl.eraseIdx i) ≤ ansLo h 0 pl ∧ ansHi h 0 (pl.eraseIdx i) ≤ ansHi h 0 pl) ∧ (ansLo h 1 pl ≤ ansLo h 1 (pl.eraseIdx i) ∧ ansHi h 1 pl ≤ ansHi h 1 (pl.eraseIdx i)) ∧ (ansLo h 2 pl ≤ ansLo h 2 (pl.eraseIdx i) ∧ ansHi h 2 pl ≤ ansHi h 2 (pl.eraseIdx i)) := by
  have he := plan_erase k.rs.1 hp i
  refine ⟨⟨?_, ?_⟩, ⟨?_, ?_⟩, ⟨?_, ?_⟩⟩
  · rw [ansLo_is k hp, ansLo_is k he]; exact (truth_erase k hp i _ _ _ _).1
  · rw [ansHi_is k hp, ansHi_is k he]; exact (truth_erase k hp i _ _ _ _).1
  · rw [ansLo_is k hp, ansLo_is k he]; exact (truth_erase k hp i _ _ _ _).2.1
  · rw [ansHi_is k hp, ansHi_is k he]; exact (truth_erase k hp i _ _ _ _).2.1
  · rw [ansLo_is k hp, ansLo_is k he]; exact (truth_erase k hp i _ _ _ _).2.2
  · rw [ansHi_is k hp, ansHi_is k he]; exact (truth_erase k hp i _ _ _ _).2.2
theorem truth_left {h : Hl} (k : h.OK) {pl : List Int} (hp : planB h.b.ts h.b.most h.b.rest pl = true) (x y c d : Bool) :
    askN 2 (endS h.b (trOf h x y c d) pl) ≤ askN 1 (endS h.b (trOf h x y c d) pl) := by
  rw [end_corn k hp]
  have b := btw_corn k x y c d
  have k1 := k.hd
  have k2 := k.rt
  have h1 := b.x
  have h2 := b.y
  have e := runS_bd (ts := h.b.ts) (room := roomT h.b.ts c) (fun i => (k.room c i).1) (r := endN y h.rl h.rh) (g := endN d h.b.glo h.b.ghi) (by omega) pl (endN x h.hl h.hh) h.b.now 0 (by omega) (plan_ord k.rs.1 k.ch hp)
  simp only [askN]
  omega
theorem ends_left {h : Hl} (k : h.OK) {pl : List Int} (hp : planB h.b.ts h.b.most h.b.rest pl = true) : ansLo h 2 pl ≤ ansLo h 1 pl ∧ ansHi h 2 pl ≤ ansHi h 1 pl := by
  constructor
  · rw [ansLo_is k hp 1, ansLo_is k hp 2]
    exact Int.le_trans (ask_corn k hp _ _ _ _ 2).1 (truth_left k hp _ _ _ _)
  · rw [ansHi_is k hp 2, ansHi_is k hp 1]
    exact Int.le_trans (truth_left k hp _ _ _ _) (ask_corn k hp _ _ _ _ 1).2
theorem ends_mend {h : Hl} (k : h.OK) {pl : List Int} (hp : planB h.b.ts h.b.most h.b.rest pl = true) : ansLo h 0 pl ≤ ansLo h.mend 0 pl ∧ ansHi h 0 pl ≤ ansHi h.mend 0 pl := by
  have hp' : planB h.mend.b.ts h.mend.b.most h.mend.b.rest pl = true := hp
  have ho := plan_ord k.rs.1 k.ch hp
  have k1 := k.hd
  have k2 := k.rt
  have k3 := k.gl
  rw [ansLo_is k hp, ansHi_is k hp, ansLo_is k.mend hp', ansHi_is k.mend hp', end_corn k hp, end_corn k hp, end_corn k.mend hp', end_corn k.mend hp']
  simp only [loC, hiC, endN, askN, Bool.not_false, Bool.not_true, Bool.false_eq_true, if_false, if_true]
  exact ⟨run_out (fun i => (k.room false i).1) (fun i => Int.le_refl _) (by omega) (Int.le_refl _) (Int.le_refl 0) (Int.le_trans k2.1 k2.2.1) (Int.le_refl _) (by omega) ho, run_out (fun i => (k.room true i).1) (fun i => Int.le_refl _) (by omega) (Int.le_refl _) (Int.le_refl 0) k2.1 (Int.le_refl _) (by omega) ho⟩
theorem ends_nil {h : Hl} (k : h.OK) : ansLo h 0 [] = 0 ∧ ansHi h 0 [] = 0 := by
  have hp : planB h.b.ts h.b.most h.b.rest [] = true := plan_nil k.ms.1
  rw [ansLo_is k hp, ansHi_is k hp, end_corn k hp, end_corn k hp]
  exact ⟨rfl, rfl⟩
end Go.Proofs.YtcaeohgbgeadaaaGreatDoor

