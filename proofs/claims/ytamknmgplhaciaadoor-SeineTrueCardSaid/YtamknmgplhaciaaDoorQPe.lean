/- Package seine: an append of notes to a slice of the call's own, wherever there is room; what lay there stays. -/
/- For the laws of package seine: with (the laws' own). -/
import Derived.Test.YtamknmgplhaciaaDoorQJc
import Derived.Test.YtamknmgplhaciaaDoorQFp
set_option linter.unusedSimpArgs false
set_option linter.unusedVariables false
namespace Go.Proofs.YtamknmgplhaciaaDoor
open Go Go.RowKit Go.Shelf
theorem OwnNs.shorter {w : World} {B g cap : Nat} {l L : List Nt} (h : OwnNs w B (.slice (some ⟨g, 0, none⟩) (l ++ L).length cap) (l ++ L)) : OwnNs w B (.slice (some ⟨g, 0, none⟩) l.length cap) l := by
  obtain ⟨h1, h2⟩ := h
  refine ⟨encNs_len l, ?_⟩
  rcases h2 with ⟨h2, -⟩ | ⟨g', cap', cur, e, hg, hh, hn, hm, hs, ht⟩
  · cases h2
  · simp only [Value.slice.injEq, Option.some.injEq, Addr.mk.injEq, and_true, true_and] at e
    obtain ⟨rfl, rfl⟩ := e
    refine .inr ⟨g, cap, cur, rfl, hg, hh, ?_, hm, hs, ?_⟩
    · rw [List.length_append] at hn; omega
    · have := congrArg (List.take (l.length * 4)) ht
      rw [List.take_take, Nat.min_eq_left (by rw [List.length_append]; omega), encNs_append, List.take_left' (encNs_len l)] at this
      exact this
theorem st_app_notes {ops : Array Oper} {Q : Exit → Act → World → Prop} {i : Nat} {o : Oper} {K : Act → World → Prop} {a : Act} {w : World} (h : ops[i]? = some o) (hgd : o.guard = none) (s x : Operand)
    (ho : o.op = .call { callee := .builtin .append, args := #[s, x], argTypes := #[24, 24] }) (B : Nat)
    (g cap : Nat) (l : List Nt) (hs : a.eval s = .slice (some ⟨g, 0, none⟩) l.length cap) (hown : OwnNs w B (.slice (some ⟨g, 0, none⟩) l.length cap) l) (p : Option Addr) (c : Nat) (L : List Nt) (hx : a.eval x = .slice p L.length c) (hc : NotesAt w p L)
    (hp : ∀ q, p = some q → ∃ b o, q = ⟨b, o, none⟩) (hp0 : p = none → c = 0 ∧ L = [])
    (hl : l.length + L.length ≤ 1000) (hB : B ≤ w.heap.size)
    (hK : ∀ g' cap' w', OwnNs w' B (.slice (some ⟨g', 0, none⟩) (l ++ L).length cap') (l ++ L) → OwnNs w' B (.slice (some ⟨g, 0, none⟩) l.length cap) l → w.grownBy w' (some g) → (w.grownBy w' none ∨ l.length + L.length ≤ cap) → (l.length + L.length ≤ cap → g' = g ∧ cap' = cap) → K (a.put o.dst (.slice (some ⟨g', 0, none⟩) (l ++ L).length cap')) w') : wpOp Tryd.prog ops Q i K a w := by
  have hw : Region.wanted o (yielded ops a.tmps) = true := by simp [Region.wanted, hgd]
  have hcap := hown.ends.2.1
  cases p with
  | none =>
    obtain ⟨rfl, rfl⟩ := hp0 rfl
    refine st_append_none h hw s x ho g l.length cap hs hcap hx ?_
    have := hK g cap w (by rw [List.append_nil]; exact hown) hown (grown_refl _ _) (.inl (grown_refl _ _)) (fun _ => ⟨rfl, rfl⟩)
    rw [List.append_nil] at this
    exact this
  | some q =>
    obtain ⟨b, o', rfl⟩ := hp q rfl
    obtain ⟨i0, hi, hz0, hz1, hz2⟩ := info_parts info_note
    by_cases hroom : l.length + L.length ≤ cap
    · refine wpOp_want h hw ?_
      obtain ⟨w', hrun, h1, h2⟩ := run_append_fits (P := Tryd.prog) w B 24 o.type 38 i0 4 under_notes hi hz1 g l.length cap (encNs l) hown ⟨b, o', none⟩ L.length c (encNs L) (encNs_len L) hc.cells (encNs_one _) hroom
      unfold Oper.wp execOp
      simp only [ho, resolve, invoke, builtin, Sem.run_bind, Sem.run_pure, Result.andThen_ok, List.map_toArray, List.map_cons, List.map_nil, hs, hx, hrun]
      have h3 : OwnNs w' B (.slice (some ⟨g, 0, none⟩) (l ++ L).length cap) (l ++ L) := by
        unfold OwnNs
        rw [encNs_append, List.length_append]
        exact h1
      have := hK g cap w' h3 h3.shorter h2 (.inr hroom) (fun _ => ⟨rfl, rfl⟩)
      rw [List.length_append] at this
      exact this
    · have h9 := step_append_grows (P := Tryd.prog) (ops := ops) (K := K) (Q := Q) (E := True) hgd s x 24 ho 38 i0 (.agg #[.int .i64 0, .int .i64 0, .int .i64 0, .int .i64 0]) 4 32 under_notes hi hz0 hz1 hz2 rfl (by decide) (some ⟨g, 0, none⟩) l.length cap (encNs l) hs (fun e => by cases e) (encNs_len l)
        (fun q hq j u hj => by
          cases hq
          exact hown.notes.cells j u hj) ⟨b, o', none⟩ L.length c (encNs L) hx (encNs_len L) hc.cells (encNs_one _) (by omega) (by unfold maxLen; omega) (by omega)
        (fun v' w' h1 h2 => by
          have h3 : OwnNs w' w.heap.size v' (l ++ L) := by
            unfold OwnNs
            rw [encNs_append, List.length_append]
            exact h1
          obtain ⟨g', cap', hv, -⟩ := h3.form (fun e => by
            have hl0 : l = [] ∧ L = [] := List.append_eq_nil_iff.1 e
            rw [hl0.1, hl0.2] at hroom
            simp at hroom)
          subst hv
          exact hK g' cap' w' (h3.mono hB) (hown.kept (fun q hq => h2.block q (hown.lt q hq).2 (by simp))) ⟨h2.os, h2.tape, h2.output, h2.size, fun q hq _ => h2.block q hq (by simp)⟩ (.inl h2) (fun h => absurd h hroom))
      rw [if_pos hw] at h9
      exact wpOp_want h hw h9
theorem own_cells {w : World} {B g n cap : Nat} {l : List Nt} (h : OwnNs w B (.slice (some ⟨g, 0, none⟩) n cap) l) : ∃ cur, Blk w g 38 cur ∧ cur.size = cap * 4 ∧ n ≤ cap := by
  obtain ⟨h1, h2⟩ := h
  rcases h2 with ⟨h2, -⟩ | ⟨g', cap', cur, e, hg, hh, hn, hm, hs, ht⟩
  · cases h2
  · simp only [Value.slice.injEq, Option.some.injEq, Addr.mk.injEq, and_true, true_and] at e
    obtain ⟨rfl, rfl, rfl⟩ := e
    exact ⟨cur, hh, hs, hn⟩
theorem Blk.same {w : World} {g : Nat} {t t' : TypeId} {cs cs' : Array Value} (h : Blk w g t cs) (h' : Blk w g t' cs') : cs = cs' := by
  unfold Blk at h h'
  rw [h] at h'
  simp only [Option.some.injEq, Obj.cells.injEq] at h'
  exact h'.1
end Go.Proofs.YtamknmgplhaciaaDoor

namespace Go.Proofs.YtamknmgplhaciaaDoor
open Go Go.RowKit Go.Shelf
theorem run_slTo2 {o : Oper} {w : World} {s t N c k : Nat} {p : Option Addr} (ρ : Operand → Value) (hop : o.op = .slice 24 (.tmp s) none (some (.tmp t)) none) (hs : ρ (.tmp s) = .slice p N c) (ht : ρ (.tmp t) = .int .i64 k) (hk : k ≤ c) (hp : ∀ a, p = some a → ∃ b o, a = ⟨b, o, none⟩) (hk0 : p = none → k = 0 ∧ c = 0) :
    (execOp ρ o).run Tryd.prog w = .ok (.value (.slice p k c)) w := by
  have k0 : (0 : Int) ≤ (k : Int) := by omega
  have k1 : (k : Int) ≤ (c : Int) := by omega
  cases p with
  | none =>
    obtain ⟨rfl, rfl⟩ := hk0 rfl
    unfold execOp; simp [hop, hs, ht, go_sem]
  | some a =>
    obtain ⟨b, o', rfl⟩ := hp _ rfl
    unfold execOp; simp [hop, hs, ht, go_sem, k0, k1]
theorem run_slFrom2 {b o' N c k : Nat} (hk : k ≤ N) (hN : N ≤ c) : ∃ o2, (c ≠ k → o2 = o' + k * 4) ∧ ∀ {o : Oper} {w : World} {s t : Nat} (ρ : Operand → Value), o.op = .slice 24 (.tmp s) (some (.tmp t)) none none → ρ (.tmp s) = .slice (some ⟨b, o', none⟩) N c → ρ (.tmp t) = .int .i64 k →
    (execOp ρ o).run Tryd.prog w = .ok (.value (.slice (some ⟨b, o2, none⟩) (N - k) (c - k))) w := by
  have k0 : (0 : Int) ≤ (k : Int) := by omega
  have k1 : (k : Int) ≤ (N : Int) := by omega
  have k2 : (N : Int) ≤ (c : Int) := by omega
  by_cases hc : c = k
  · refine ⟨o', fun h => absurd hc h, fun {o w s t} ρ hop hs ht => ?_⟩
    unfold execOp; simp [hop, hs, ht, go_sem, k0, k1, k2, hc]
  · refine ⟨o' + k * 4, fun _ => rfl, fun {o w s t} ρ hop hs ht => ?_⟩
    unfold execOp; simp [hop, hs, ht, go_sem, k0, k1, k2, hc]
theorem NotesAt.one {w : World} {g : Nat} {s : Nt} (h : Blk w g 38 (ntC s)) : NotesAt w (some ⟨g, 0, none⟩) [s] := (OwnNs.of_blk (n := 1) (l := [s]) h rfl rfl (by simp)).notes
theorem run_bs0 {o : Oper} {w : World} (ρ : Operand → Value) (hop : o.op = .buildSlice 24 0 #[]) :
    (execOp ρ o).run Tryd.prog w = .ok (.value (.slice (some ⟨w.heap.size, 0, none⟩) 0 0)) (w.alloc (.cells #[] 38)) := by
  unfold execOp; simp [hop, go_sem]
theorem wpList_app2 {ops : Array Oper} {rest : List Oper} {o : Oper} {a : Act} {Q : Exit → Act → World → Prop} {w : World} (hgd : o.guard = none) (s x : Operand)
    (ho : o.op = .call { callee := .builtin .append, args := #[s, x], argTypes := #[24, 24] }) (B : Nat)
    (g cap : Nat) (l : List Nt) (hs : a.eval s = .slice (some ⟨g, 0, none⟩) l.length cap) (hown : OwnNs w B (.slice (some ⟨g, 0, none⟩) l.length cap) l) (p : Option Addr) (c : Nat) (L : List Nt) (hx : a.eval x = .slice p L.length c) (hc : NotesAt w p L)
    (hp : ∀ q, p = some q → ∃ b o, q = ⟨b, o, none⟩) (hp0 : p = none → c = 0 ∧ L = []) (hne : l ≠ [])
    (hl : l.length + L.length ≤ 1000) (hB : B ≤ w.heap.size)
    (h : ∀ g' cap' w', OwnNs w' B (.slice (some ⟨g', 0, none⟩) (l ++ L).length cap') (l ++ L) → w.grownBy w' (some g) → wpList Tryd.prog ops Q rest (a.put o.dst (.slice (some ⟨g', 0, none⟩) (l ++ L).length cap')) w') : wpList Tryd.prog ops Q (o :: rest) a w := by
  cases p with
  | none =>
    obtain ⟨rfl, rfl⟩ := hp0 rfl
    refine wpList_app_none hgd s x ho g l.length cap hs hown.ends.2.1 hx ?_
    have := h g cap w (by rw [List.append_nil]; exact hown) (grown_refl _ _)
    rw [List.append_nil] at this
    exact this
  | some q =>
    obtain ⟨b, o', rfl⟩ := hp q rfl
    refine wpList_app_notes hgd s x ho B _ l hs hown b o' c L hx hc hl hB fun v' w' h1 h2 => ?_
    obtain ⟨g', cap', rfl, -⟩ := h1.form (fun e => hne (List.append_eq_nil_iff.1 e).1)
    exact h g' cap' w' h1 h2
theorem below_setIn {w W : World} (h : Below w.heap.size w W) (b i : Nat) (v : Value) (hb : w.heap.size ≤ b) : Below w.heap.size w (W.setCell ⟨b, i, none⟩ v) := h.setCell (by dsimp only; omega) v
def lwR (B : Nat) (b : Sn) (p : Option Addr) (c : Nat) (s : Nt) (k b2 : Nat) (i : Nat) (v : Value) (w : World) : Prop :=
  match i with
  | 0 => ∃ g : Nat, v = .slice (some ⟨g, 0, none⟩) 0 0 ∧ Blk w g 38 #[] ∧ B ≤ g
  | 1 => v = .pointer (some ⟨b2, 2, none⟩)
  | 2 => v = .slice p b.ns.length c
  | 3 => v = .int .i64 k
  | 4 => v = .slice p k c
  | 5 => ∃ g cap : Nat, v = .slice (some ⟨g, 0, none⟩) k cap ∧ OwnNs w B (.slice (some ⟨g, 0, none⟩) (b.ns.take k).length cap) (b.ns.take k) ∧ (k = 0 → cap = 0)
  | 6 => v = .agg (ntC s)
  | 7 => ∃ g : Nat, v = .slice (some ⟨g, 0, none⟩) 1 1 ∧ Blk w g 38 (ntC s) ∧ B ≤ g
  | 8 => ∃ g cap : Nat, v = .slice (some ⟨g, 0, none⟩) (k + 1) cap ∧ OwnNs w B (.slice (some ⟨g, 0, none⟩) (b.ns.take k ++ [s]).length cap) (b.ns.take k ++ [s])
  | 9 => v = .pointer (some ⟨b2, 2, none⟩)
  | 10 => v = .slice p b.ns.length c
  | 11 => v = .int .i64 k
  | 12 => (p = none → v = .slice none 0 0) ∧ ∀ bb o, p = some ⟨bb, o, none⟩ → ∃ o2, v = .slice (some ⟨bb, o2, none⟩) (b.ns.length - k) (c - k) ∧ (c ≠ k → o2 = o + k * 4)
  | _ => True
theorem lwR_kept (B : Nat) (b : Sn) (p : Option Addr) (c : Nat) (s : Nt) (k b2 : Nat) : ∀ i, i < 13 → ∀ (v : Value) (w w' : World), lwR B b p c s k b2 i v w → Below w.heap.size w w' → lwR B b p c s k b2 i v w' := by
  intro i hi v w w' h hb
  match i, hi with
  | 0, _ => obtain ⟨g, h1, h2, h3⟩ := h; exact ⟨g, h1, h2.bel hb, h3⟩
  | 1, _ => exact h
  | 2, _ => exact h
  | 3, _ => exact h
  | 4, _ => exact h
  | 5, _ => obtain ⟨g, cap, h1, h2, h3⟩ := h; exact ⟨g, cap, h1, h2.below hb, h3⟩
  | 6, _ => exact h
  | 7, _ => obtain ⟨g, h1, h2, h3⟩ := h; exact ⟨g, h1, h2.bel hb, h3⟩
  | 8, _ => obtain ⟨g, cap, h1, h2⟩ := h; exact ⟨g, cap, h1, h2.below hb⟩
  | 9, _ => exact h
  | 10, _ => exact h
  | 11, _ => exact h
  | 12, _ => exact h
  | k + 13, hk => omega
/-- What an append may turn leaves what is known of all operations but those that it follows. -/
theorem lwR_grown {B : Nat} {b : Sn} {p : Option Addr} {c : Nat} {s : Nt} {k b2 : Nat} {w w' : World} {g : Nat} (hg : w.grownBy w' (some g)) {j : Nat} (hj : j < 13) {v : Value} (h : lwR B b p c s k b2 j v w)
    (h0 : ∀ q, j = 0 → Blk w q 38 #[] → Blk w' q 38 #[]) (h5 : ∀ q cap, j = 5 → v = .slice (some ⟨q, 0, none⟩) k cap → OwnNs w B (.slice (some ⟨q, 0, none⟩) (b.ns.take k).length cap) (b.ns.take k) → OwnNs w' B (.slice (some ⟨q, 0, none⟩) (b.ns.take k).length cap) (b.ns.take k))
    (h7 : ∀ q, j = 7 → Blk w q 38 (ntC s) → Blk w' q 38 (ntC s)) (h8 : ∀ q cap, j = 8 → OwnNs w B (.slice (some ⟨q, 0, none⟩) (b.ns.take k ++ [s]).length cap) (b.ns.take k ++ [s]) → OwnNs w' B (.slice (some ⟨q, 0, none⟩) (b.ns.take k ++ [s]).length cap) (b.ns.take k ++ [s])) : lwR B b p c s k b2 j v w' := by
  match j, hj with
  | 0, _ => obtain ⟨g, h1, h2, h3⟩ := h; exact ⟨g, h1, h0 g rfl h2, h3⟩
  | 1, _ => exact h
  | 2, _ => exact h
  | 3, _ => exact h
  | 4, _ => exact h
  | 5, _ => obtain ⟨g, cap, h1, h2, h3⟩ := h; exact ⟨g, cap, h1, h5 g cap rfl h1 h2, h3⟩
  | 6, _ => exact h
  | 7, _ => obtain ⟨g, h1, h2, h3⟩ := h; exact ⟨g, h1, h7 g rfl h2, h3⟩
  | 8, _ => obtain ⟨g, cap, h1, h2⟩ := h; exact ⟨g, cap, h1, h8 g cap rfl h2⟩
  | 9, _ => exact h
  | 10, _ => exact h
  | 11, _ => exact h
  | 12, _ => exact h
  | k + 13, hk => omega
attribute [local go_sem] Oper.semAt_some frozen_alloc_lt
set_option maxRecDepth 100000 in
set_option maxHeartbeats 4000000 in
theorem lwith_any (b : Sn) (p : Option Addr) (c : Nat) (s : Nt) (w : World) (hk : SBk w b p) (hc : SBc b p c) (hlen : b.ns.length ≤ 100) :
    Calls Tryd.prog 42 #[.agg #[.int .i64 b.lo, .int .i64 b.hi, .slice p b.ns.length c], .agg (ntC s)] w (BookAt w w.heap.size (withS b s)) := by
  have hnil : p = none → b.ns = [] := fun e => by
    cases hns : b.ns with
    | nil => rfl
    | cons a l => obtain ⟨b', o', e', -⟩ := hk.nt 0 a (by rw [hns]; rfl); rw [e] at e'; cases e'
  have HL := Lib.hid hk.nt
  have HPW := Lib.hid hk.lt
  have HP := Lib.hid hc.adr
  have HNIL := Lib.hid hnil
  have HP0 := Lib.hid hc.nil
  have hcap := hc.cap
  clear hk hc hnil
  go_enter Tryd.func42, Tryd.ntmps42
  go_upto_region 2 with fail
  generalize hW0 : (((w.alloc _).alloc _).alloc _).alloc _ = W0
  have hB0 : Below w.heap.size w W0 := by rw [← hW0]; (repeat (first | (with_reducible exact Below.refl _ _) | (with_reducible assumption) | ((with_reducible refine below_ext_trans ?_ ?_ _); rotate_left; focus (((try dsimp only); repeat (first | omega | simp only [World.size_alloc, World.size_setCell, World.size_drew] | (with_reducible refine le_ext_of ?_) | (with_reducible refine le_ext_add ?_))); done)) | ((with_reducible refine Below.alloc ?_ ?_ _); rotate_left; focus (((try dsimp only); repeat (first | omega | simp only [World.size_alloc, World.size_setCell, World.size_drew] | (with_reducible refine le_ext_of ?_) | (with_reducible refine le_ext_add ?_))); done)) | ((with_reducible refine Below.setCell ?_ ?_ _); rotate_left; focus (((try dsimp only); repeat (first | omega | simp only [World.size_alloc, World.size_setCell, World.size_drew] | (with_reducible refine le_ext_of ?_) | (with_reducible refine le_ext_add ?_))); done)) | (with_reducible refine Below.drew ?_)))
  have hz0 : W0.heap.size = w.heap.size + 4 := by rw [← hW0]; simp
  have hb0 : Blk W0 w.heap.size 26 #[.int .i64 b.lo, .int .i64 b.hi, .slice p b.ns.length c] := by rw [← hW0]; exact (((Blk.new rfl).alloc _).alloc _).alloc _
  have hn0 : Blk W0 (w.heap.size + 1) 38 (ntC s) := by rw [← hW0]; exact ((Blk.new (by simp)).alloc _).alloc _
  have hr0 : Blk W0 (w.heap.size + 2) 26 #[.int .i64 0, .int .i64 0, .slice none 0 0] := by rw [← hW0]; exact (Blk.new (by simp)).alloc _
  have hy0 : Blk W0 (w.heap.size + 3) 26 #[.int .i64 b.lo, .int .i64 b.hi, .slice p b.ns.length c] := by rw [← hW0]; exact Blk.new (by simp)
  clear hW0
  have t2 := hb0.cell 2
  have n1 := hn0.cell 1
  have lt := hb0.lt
  have ln := hn0.lt
  simp only [ntC, List.size_toArray, List.length_cons, List.length_nil, Nat.reduceAdd, Nat.reduceLT, getElem?_pos, List.getElem_toArray, List.getElem_cons_zero, List.getElem_cons_succ] at t2 n1
  have HB0 := Lib.hid hB0
  have HBk := Lib.hid hb0
  have HN0 := Lib.hid hn0
  have HR0 := Lib.hid hr0
  have HY0 := Lib.hid hy0
  have HZ0 := Lib.hid hz0
  clear hB0 hb0 hn0 hr0 hy0 hz0
  go_wp2_with fail
  go_loopw [6] (fun i wr => ∃ k : Nat, k ≤ b.ns.length ∧ i = .int .i64 k ∧ Hid (∀ i s', i < k → b.ns[i]? = some s' → s'.hour ≤ s.hour) ∧ Hid (Below W0.heap.size W0 wr)) (fun i _ => b.ns.length - (intOf i).toNat)
  case atStart => exact ⟨0, by omega, rfl, Lib.hid (fun i s' hi => by omega), Lib.hid (Below.refl _ _)⟩
  case round =>
    obtain ⟨k, hk, rfl, HLOW, HB⟩ := hrel
    have hk0 : (0 : Int) ≤ (k : Int) := by omega
    have t2 : wr.cell? ⟨w.heap.size, 2, none⟩ = some (.slice p b.ns.length c) := (HB.out.cell (p := ⟨w.heap.size, 2, none⟩) HBk.out.lt).trans (by simpa using HBk.out.cell 2)
    have n1 : wr.cell? ⟨w.heap.size + 1, 1, none⟩ = some (.int .i64 s.hour) := (HB.out.cell (p := ⟨w.heap.size + 1, 1, none⟩) HN0.out.lt).trans (by simpa using HN0.out.cell 1)
    have lt : w.heap.size < wr.heap.size := (HBk.out.bel HB.out).lt
    have ln : w.heap.size + 1 < wr.heap.size := (HN0.out.bel HB.out).lt
    by_cases hcont : ∃ s', b.ns[k]? = some s' ∧ s'.hour ≤ s.hour
    · obtain ⟨s', hs, hle⟩ := hcont
      have hlt := (List.getElem?_eq_some_iff.1 hs).1
      have hkl : (k : Int) < (b.ns.length : Int) := by omega
      obtain ⟨bb, o, hp, hbb, c0, c1, c2, c3⟩ := ((HL.out.below HB0.out).below HB.out) k s' hs
      subst hp
      have hlow2 : ∀ i t, i < k + 1 → b.ns[i]? = some t → t.hour ≤ s.hour := fun i t hi ht => by
        rcases Nat.lt_or_ge i k with h1 | h1
        · exact HLOW.out i t h1 ht
        · have : i = k := by omega
          subst this
          rw [hs] at ht
          cases ht
          exact hle
      have HLOW2 := Lib.hid hlow2
      have HW := Lib.hid (wrap_num k (by omega))
      clear hlow2 hs
      have hd1 : decide ((k : Int) < (b.ns.length : Int)) = true := by simpa using hkl
      have hd2 : decide (s'.hour ≤ s.hour) = true := by simpa using hle
      try go_wp2_with fail
      refine wp_region_ext (by kernel_rfl) (by kernel_rfl) ?_
      repeat (go_big_quiet_step (fail))
      (refine wpQuiet_nil ?_; rintro _ ⟨x, rfl⟩)
      go_wp2_with fail
      go_roundw
      case rel => exact ⟨k + 1, by omega, by go_num, HLOW2, Lib.hid (HB.out.trans ((below_ext _ _).mono HB.out.size))⟩
      case measure => simp [intOf]; omega
    · have HK := Lib.hid (upN_at (h := s.hour) (k := k) HLOW.out hk (fun t ht hle => hcont ⟨t, ht, hle⟩))
      clear HLOW
      by_cases hlt : k < b.ns.length
      · obtain ⟨s', hs⟩ := get_some b.ns k hlt
        have hle : ¬ s'.hour ≤ s.hour := fun e => hcont ⟨s', hs, e⟩
        have hkl : (k : Int) < (b.ns.length : Int) := by omega
        obtain ⟨bb, o, hp, hbb, c0, c1, c2, c3⟩ := ((HL.out.below HB0.out).below HB.out) k s' hs
        subst hp
        clear hs hcont
        have hd1 : decide ((k : Int) < (b.ns.length : Int)) = true := by simpa using hkl
        have hd2 : decide (s'.hour ≤ s.hour) = false := by simpa using hle
        try go_wp2_with fail
        refine wp_region_ext (by kernel_rfl) (by kernel_rfl) ?_
        repeat (go_big_quiet_step (fail))
        (refine wpQuiet_nil ?_; rintro _ ⟨x, rfl⟩)
        go_upto_region 5 with fail
        generalize hpp : (some (⟨bb, o, none⟩ : Addr)) = p at HL HPW HP HNIL HP0 HBk HY0 ⊢
        generalize hW1 : ext wr _ = W1
        have hB1 : Below W0.heap.size W0 W1 := by rw [← hW1]; exact HB.out.trans ((below_ext _ _).mono HB.out.size)
        have hb1 := HBk.out.bel hB1
        have hn1 := HN0.out.bel hB1
        have hr1 := HR0.out.bel hB1
        have hy1 := HY0.out.bel hB1
        have hl1 := (HL.out.below HB0.out).below hB1
        have hz1 := hB1.size
        have hz0 := HZ0.out
        have hk1 := HK.out
        clear hW1
        have htk : (b.ns.take k).length = k := by rw [List.length_take]; omega
        refine wp_region_flow_backG 13 42 (lwR W1.heap.size b p c s k w.heap.size) (by kernel_rfl) (by kernel_rfl) rfl ?_ ?_
        · intro i hin a X g1 g2 g3 g4 g5 KK hKK
          have hzX := g5.size
          have hbX := hb1.bel g5
          have hnX := hn1.bel g5
          match i, hin with
          | 0, _ => exact st_valw rfl (wanted_none rfl) (run_bs0 _ rfl) (hKK _ _ ⟨_, rfl, Blk.new rfl, by omega⟩ (fun j hj _ h => lwR_kept _ _ _ _ _ _ _ j hj _ _ _ h ((Below.refl _ _).alloc (Nat.le_refl _) _)) (g5.alloc g5.size _))
          | 1, _ => exact st_val rfl (wanted_none rfl) (run_fBook1 _ rfl (g3 2 (by kernel_rfl)) hbX.lt) (hKK _ _ rfl (fun _ _ _ h => h) g5)
          | 2, _ => exact st_val rfl (wanted_none rfl) (run_lNotes _ rfl (g4 1 (by kernel_rfl)) (by simpa using hbX.cell 2)) (hKK _ _ rfl (fun _ _ _ h => h) g5)
          | 3, _ => exact st_move rfl rfl (wanted_none rfl) (g3 6 (by kernel_rfl)) (hKK _ _ rfl (fun _ _ _ h => h) g5)
          | 4, _ => exact st_val rfl (wanted_none rfl) (run_slTo2 _ rfl (g4 2 (by kernel_rfl)) (g4 3 (by kernel_rfl)) (by omega) HP.out (fun e => ⟨by have := HNIL.out e; rw [this] at hk; simpa using hk, HP0.out e⟩)) (hKK _ _ rfl (fun _ _ _ h => h) g5)
          | 5, _ =>
            obtain ⟨g, e0, hg0, hBg⟩ := g4 0 (by kernel_rfl)
            have e4 := g4 4 (by kernel_rfl)
            refine st_app_notes rfl rfl _ _ rfl W1.heap.size g 0 [] e0 ((OwnNs.of_blk (n := 0) (l := []) hg0 rfl rfl (by decide)).mono hBg) p c (b.ns.take k) (e4.trans (by rw [htk])) ((hl1.below g5).take k) HP.out (fun e => ⟨HP0.out e, by rw [HNIL.out e]; simp⟩) (by simp; omega) (by omega) ?_
            intro g' cap' w' h1 h2 h3 h4 h5
            rw [List.nil_append] at h1
            have hne : ∀ q cs, Blk X q 38 cs → cs.size ≠ 0 → w'.heap[q]? = X.heap[q]? := fun q cs hq hcs => h3.block q hq.lt (fun e => by
              simp only [Option.some.injEq] at e
              subst e
              have := hq.same hg0
              rw [this] at hcs
              simp at hcs)
            rw [show (([] : List Nt) ++ b.ns.take k).length = k from htk]
            refine hKK (.slice (some ⟨g', 0, none⟩) k cap') w' ⟨g', cap', rfl, h1, fun e => ?_⟩ (fun j hj hji h => ?_) ⟨h3.os.trans g5.os, h3.tape.trans g5.tape, h3.output.trans g5.output, Nat.le_trans g5.size h3.size, fun q hq => (h3.block q (by omega) (fun e => by simp only [Option.some.injEq] at e; omega)).trans (g5.block q hq)⟩
            · exact (h5 (by rw [htk, e]; simp)).2
            · refine lwR_grown h3 hj h (fun q _ hq => ?_) (fun q _ e => absurd e hji) (fun q _ hq => (hne q _ hq (by simp [ntC])).trans hq) (fun q cq _ hq => ?_)
              · by_cases e : q = g
                · subst e
                  obtain ⟨cur, c1, c2, -⟩ := own_cells h2
                  have : cur = #[] := Array.eq_empty_of_size_eq_zero (by omega)
                  rw [this] at c1
                  exact c1
                · exact (h3.block q hq.lt (fun e' => e (by simpa using e'))).trans hq
              · obtain ⟨cur, c1, c2, c3⟩ := own_cells hq
                exact hq.kept (fun q' hq' => by cases hq'; exact hne q _ c1 (by have : (b.ns.take k ++ [s]).length = k + 1 := by rw [List.length_append, htk]; rfl
                                                                                omega))
          | 6, _ => exact st_val rfl (wanted_none rfl) (run_lNoteS _ rfl (g3 3 (by kernel_rfl)) hnX) (hKK _ _ rfl (fun _ _ _ h => h) g5)
          | 7, _ => exact st_valw rfl (wanted_none rfl) (run_bsNote _ rfl (g4 6 (by kernel_rfl))) (hKK _ _ ⟨_, rfl, Blk.new rfl, by omega⟩ (fun j hj _ h => lwR_kept _ _ _ _ _ _ _ j hj _ _ _ h ((Below.refl _ _).alloc (Nat.le_refl _) _)) (g5.alloc g5.size _))
          | 8, _ =>
            obtain ⟨g, cap, e5, hg5, hc5⟩ := g4 5 (by kernel_rfl)
            obtain ⟨g7, e7, hg7, hB7⟩ := g4 7 (by kernel_rfl)
            obtain ⟨cur, c1, c2, c3⟩ := own_cells hg5
            refine st_app_notes rfl rfl _ _ rfl W1.heap.size g cap (b.ns.take k) (e5.trans (by rw [htk])) hg5 (some ⟨g7, 0, none⟩) 1 [s] e7 (NotesAt.one hg7) (fun a h => by cases h; exact ⟨_, _, rfl⟩) (fun e => by cases e) (by simp; omega) (by omega) ?_
            intro g' cap' w' h1 h2 h3 h4 h5
            have hlt := (own_cells hg5).elim fun cur h => h.1.lt
            have hBg := (hg5.lt g rfl).1
            rw [show (b.ns.take k ++ [s]).length = k + 1 by rw [List.length_append, htk]; rfl] at h1 ⊢
            refine hKK _ w' ⟨g', cap', rfl, by rw [List.length_append, htk]; exact h1⟩ (fun j hj hji h => lwR_grown h3 hj h (fun q _ hq => ?_) (fun q cq _ _ hq => ?_) (fun q _ hq => ?_) (fun q _ e => absurd e hji)) ⟨h3.os.trans g5.os, h3.tape.trans g5.tape, h3.output.trans g5.output, Nat.le_trans g5.size h3.size, fun q hq => (h3.block q (by omega) (fun e => by simp only [Option.some.injEq] at e; omega)).trans (g5.block q hq)⟩
            · rcases h4 with h4 | h4
              · exact (h4.block q hq.lt (by simp)).trans hq
              · exact (h3.block q hq.lt (fun e => by
                  simp only [Option.some.injEq] at e
                  subst e
                  have := congrArg Array.size (c1.same hq)
                  simp only [List.size_toArray, List.length_nil] at this
                  rw [htk] at h4
                  simp only [List.length_cons, List.length_nil] at h4
                  omega)).trans hq
            · by_cases e : q = g
              · subst e
                obtain ⟨cur', d1, d2, -⟩ := own_cells hq
                have := congrArg Array.size (d1.same c1)
                have hcc : cq = cap := by omega
                subst hcc
                exact h2
              · exact hq.kept (fun q' hq' => by cases hq'; exact h3.block q (hq.lt q rfl).2 (by simpa using e))
            · rcases h4 with h4 | h4
              · exact (h4.block q hq.lt (by simp)).trans hq
              · exact (h3.block q hq.lt (fun e => by
                  simp only [Option.some.injEq] at e
                  subst e
                  have := congrArg Array.size (c1.same hq)
                  simp only [ntC, List.size_toArray, List.length_cons, List.length_nil] at this
                  rw [htk] at h4 c3
                  simp only [List.length_cons, List.length_nil] at h4
                  have := hc5 (by omega)
                  omega)).trans hq
          | 9, _ => exact st_val rfl (wanted_none rfl) (run_fBook1 _ rfl (g3 2 (by kernel_rfl)) hbX.lt) (hKK _ _ rfl (fun _ _ _ h => h) g5)
          | 10, _ => exact st_val rfl (wanted_none rfl) (run_lNotes _ rfl (g4 9 (by kernel_rfl)) (by simpa using hbX.cell 2)) (hKK _ _ rfl (fun _ _ _ h => h) g5)
          | 11, _ => exact st_move rfl rfl (wanted_none rfl) (g3 6 (by kernel_rfl)) (hKK _ _ rfl (fun _ _ _ h => h) g5)
          | 12, _ =>
            have e10 := g4 10 (by kernel_rfl)
            have e11 := g4 11 (by kernel_rfl)
            cases p with
            | none =>
              have hn0 : b.ns = [] := HNIL.out rfl
              have hk00 : k = 0 := by rw [hn0] at hk; simpa using hk
              have hc0 : c = 0 := HP0.out rfl
              subst hk00
              exact st_val rfl (wanted_none rfl) (run_slFrom0 _ rfl (e10.trans (by rw [hn0]; rfl)) e11 hc0) (hKK _ _ ⟨fun _ => rfl, fun _ _ e => (by cases e)⟩ (fun _ _ _ h => h) g5)
            | some q =>
              obtain ⟨bb, o, rfl⟩ := HP.out q rfl
              obtain ⟨o2, ho2, hr⟩ := run_slFrom2 (b := bb) (o' := o) hk hcap
              exact st_val rfl (wanted_none rfl) (hr _ rfl e10 e11) (hKK _ _ ⟨fun e => (by cases e), fun _ _ e => (by cases e; exact ⟨o2, rfl, ho2⟩)⟩ (fun _ _ _ h => h) g5)
          | j + 13, hj => omega
        intro vs W3 hvs hg3
        have v0 := hvs 0 (by omega)
        obtain ⟨g, cap, v8, ho8⟩ := hvs 8 (by omega)
        have v12 := hvs 12 (by omega)
        obtain ⟨x0, v0⟩ : ∃ x, vs 0 = x := ⟨_, rfl⟩
        obtain ⟨x1, v1⟩ : ∃ x, vs 1 = x := ⟨_, rfl⟩
        obtain ⟨x2, v2⟩ : ∃ x, vs 2 = x := ⟨_, rfl⟩
        obtain ⟨x3, v3⟩ : ∃ x, vs 3 = x := ⟨_, rfl⟩
        obtain ⟨x4, v4⟩ : ∃ x, vs 4 = x := ⟨_, rfl⟩
        obtain ⟨x5, v5⟩ : ∃ x, vs 5 = x := ⟨_, rfl⟩
        obtain ⟨x6, v6⟩ : ∃ x, vs 6 = x := ⟨_, rfl⟩
        obtain ⟨x7, v7⟩ : ∃ x, vs 7 = x := ⟨_, rfl⟩
        obtain ⟨x9, v9⟩ : ∃ x, vs 9 = x := ⟨_, rfl⟩
        obtain ⟨x10, v10⟩ : ∃ x, vs 10 = x := ⟨_, rfl⟩
        obtain ⟨x11, v11⟩ : ∃ x, vs 11 = x := ⟨_, rfl⟩
        obtain ⟨x12, e12⟩ : ∃ x, vs 12 = x := ⟨_, rfl⟩
        rw [e12] at v12
        have hr3 := hr1.bel hg3
        have hy3 := hy1.bel hg3
        have hl3 := hl1.below hg3
        have hz3 := hg3.size
        have hB3 : Below w.heap.size w W3 := HB0.out.trans ((hB1.mono (by omega)).trans (hg3.mono (by omega)))
        have happ : ∃ (cx : Nat) (px : Option Addr), x12 = .slice px (b.ns.drop k).length cx ∧ NotesAt W3 px (b.ns.drop k) ∧ (∀ q, px = some q → ∃ b o, q = ⟨b, o, none⟩) ∧ (px = none → cx = 0 ∧ b.ns.drop k = []) := by
          have hdl : (b.ns.drop k).length = b.ns.length - k := List.length_drop
          cases p with
          | none =>
            have h0 : b.ns.drop k = [] := by rw [HNIL.out rfl]; simp
            rw [h0]
            exact ⟨0, none, v12.1 rfl, fun i s hi => (by simp at hi), fun q e => (by cases e), fun _ => ⟨rfl, rfl⟩⟩
          | some q =>
            obtain ⟨bb, o, rfl⟩ := HP.out q rfl
            obtain ⟨o2, ho, ho2⟩ := v12.2 bb o rfl
            refine ⟨c - k, some ⟨bb, o2, none⟩, by rw [ho, hdl], ?_, fun q e => (by cases e; exact ⟨_, _, rfl⟩), fun e => (by cases e)⟩
            by_cases hck : c = k
            · have : b.ns.drop k = [] := List.drop_eq_nil_of_le (by omega)
              rw [this]; intro i s hi; simp at hi
            · rw [ho2 hck]; exact hl3.drop k
        obtain ⟨cx, px, hx12, hnx, hpx, hpx0⟩ := happ
        subst hx12
        simp only [putAll, v0, v1, v2, v3, v4, v5, v6, v7, v8, v9, v10, v11, e12]
        clear v0 v1 v2 v3 v4 v5 v6 v7 v8 v9 v10 v11 v12 e12 hvs
        simp only [dstOf, Act.put, List.getElem?_toArray, List.getElem?_cons_zero, List.getElem?_cons_succ, Option.bind_some, Option.getD_some, List.setIfInBounds_toArray, List.set_cons_succ, List.set_cons_zero, List.drop_succ_cons, List.drop_zero]
        refine wpList_app2 rfl _ _ rfl W1.heap.size g cap (b.ns.take k ++ [s]) (by rw [List.length_append, htk]; rfl) ho8 px cx (b.ns.drop k) rfl hnx hpx hpx0 (by simp) (by rw [List.length_append, htk, List.length_drop]; simp; omega) (by omega) ?_
        intro g' cap' w4 hO hg4
        have hgB := (ho8.lt g rfl).1
        have hgB2 := (hO.lt g' rfl).1
        have hr4 : Blk w4 (w.heap.size + 2) 26 #[.int .i64 0, .int .i64 0, .slice none 0 0] := (hg4.block _ hr3.lt (fun e => by simp only [Option.some.injEq] at e; omega)).trans hr3
        have hy4 : Blk w4 (w.heap.size + 3) 26 #[.int .i64 b.lo, .int .i64 b.hi, .slice p b.ns.length c] := (hg4.block _ hy3.lt (fun e => by simp only [Option.some.injEq] at e; omega)).trans hy3
        have hB4 : Below w.heap.size w w4 := hB3.trans ⟨hg4.os, hg4.tape, hg4.output, hg4.size, fun q hq => hg4.block q (by have := hB3.size; omega) (fun e => by simp only [Option.some.injEq] at e; omega)⟩
        have r0 := hr4.frozen 0
        have r1 := hr4.frozen 1
        have r2 := hr4.frozen 2
        have d0 := hr4.cell 0
        have d1 := hr4.cell 1
        have d2 := hr4.cell 2
        have lr := hr4.lt
        have s0 := hy4.frozen 0
        have s1 := hy4.frozen 1
        have s2 := hy4.frozen 2
        have y0 := hy4.cell 0
        have y1 := hy4.cell 1
        have y2 := hy4.cell 2
        have ly := hy4.lt
        simp only [List.size_toArray, List.length_cons, List.length_nil, Nat.reduceAdd, Nat.reduceLT, getElem?_pos, List.getElem_toArray, List.getElem_cons_zero, List.getElem_cons_succ] at d0 d1 d2 y0 y1 y2
        have HR4 := Lib.hid hr4
        have HY4 := Lib.hid hy4
        have HB4 := Lib.hid hB4
        have HO := Lib.hid hO
        clear hr4 hy4 hB4 hO hg4 hr3 hy3 hl3 hz3 hB3 hnx hpx hpx0 ho8 hg3 hb1 hn1 hr1 hy1 hl1 hB1
        go_wp2_with fail
        have hnl : (withS b s).ns = b.ns.take k ++ [s] ++ b.ns.drop k := by rw [withS_ns, hk1]
        have hlen2 : k + (b.ns.length - k + 1) = (withS b s).ns.length := by rw [withS_len]; omega
        have hOn := HO.out
        rw [← hnl] at hOn
        rw [hlen2]
        generalize hv : Value.slice (some ⟨g', 0, none⟩) (withS b s).ns.length cap' = v at hOn ⊢
        have hrY : Blk (w4.setCell ⟨w.heap.size + 1 + 1 + 1, 2, none⟩ v) (w.heap.size + 1 + 1) 26 #[.int .i64 0, .int .i64 0, .slice none 0 0] := (Below.heap_setCell _ _ _ _ (by dsimp only; omega)).trans HR4.out
        have hbF := ((hrY.set 0 (.int .i64 b.lo)).set 1 (.int .i64 b.hi)).set 2 v
        have hB5 := below_setIn (below_setIn (below_setIn (below_setIn HB4.out (w.heap.size + 1 + 1 + 1) 2 v (by omega)) (w.heap.size + 1 + 1) 0 (.int .i64 b.lo) (by omega)) (w.heap.size + 1 + 1) 1 (.int .i64 b.hi) (by omega)) (w.heap.size + 1 + 1) 2 v (by omega)
        have t0 := Blk.cell hbF 0
        have t1 := Blk.cell hbF 1
        have t2 := Blk.cell hbF 2
        refine bodyPost_ret (v := .agg #[.int .i64 b.lo, .int .i64 b.hi, v]) ?_ rfl ⟨g', cap', by rw [← hv]; rfl, ?_, ext_of hB5⟩
        · simp [results, Tryd.results42, go_sem, d0, d1, d2, lr]
        · subst hv
          refine (hOn.kept (fun q hq => ?_)).mono (by omega)
          obtain rfl : g' = q := by simpa [Value.ownBlock] using hq
          exact (Below.heap_setCell _ _ _ _ (by dsimp only; omega)).trans ((Below.heap_setCell _ _ _ _ (by dsimp only; omega)).trans ((Below.heap_setCell _ _ _ _ (by dsimp only; omega)).trans (Below.heap_setCell _ _ _ _ (by dsimp only; omega))))
      · have hkl : ¬ (k : Int) < (b.ns.length : Int) := by omega
        clear hcont
        have hd1 : decide ((k : Int) < (b.ns.length : Int)) = false := by simpa using hkl
        try go_wp2_with fail
        refine wp_region_ext (by kernel_rfl) (by kernel_rfl) ?_
        repeat (go_big_quiet_step (fail))
        (refine wpQuiet_nil ?_; rintro _ ⟨x, rfl⟩)
        go_upto_region 5 with fail
        generalize hW1 : ext wr _ = W1
        have hB1 : Below W0.heap.size W0 W1 := by rw [← hW1]; exact HB.out.trans ((below_ext _ _).mono HB.out.size)
        have hb1 := HBk.out.bel hB1
        have hn1 := HN0.out.bel hB1
        have hr1 := HR0.out.bel hB1
        have hy1 := HY0.out.bel hB1
        have hl1 := (HL.out.below HB0.out).below hB1
        have hz1 := hB1.size
        have hz0 := HZ0.out
        have hk1 := HK.out
        clear hW1
        have htk : (b.ns.take k).length = k := by rw [List.length_take]; omega
        refine wp_region_flow_backG 13 42 (lwR W1.heap.size b p c s k w.heap.size) (by kernel_rfl) (by kernel_rfl) rfl ?_ ?_
        · intro i hin a X g1 g2 g3 g4 g5 KK hKK
          have hzX := g5.size
          have hbX := hb1.bel g5
          have hnX := hn1.bel g5
          match i, hin with
          | 0, _ => exact st_valw rfl (wanted_none rfl) (run_bs0 _ rfl) (hKK _ _ ⟨_, rfl, Blk.new rfl, by omega⟩ (fun j hj _ h => lwR_kept _ _ _ _ _ _ _ j hj _ _ _ h ((Below.refl _ _).alloc (Nat.le_refl _) _)) (g5.alloc g5.size _))
          | 1, _ => exact st_val rfl (wanted_none rfl) (run_fBook1 _ rfl (g3 2 (by kernel_rfl)) hbX.lt) (hKK _ _ rfl (fun _ _ _ h => h) g5)
          | 2, _ => exact st_val rfl (wanted_none rfl) (run_lNotes _ rfl (g4 1 (by kernel_rfl)) (by simpa using hbX.cell 2)) (hKK _ _ rfl (fun _ _ _ h => h) g5)
          | 3, _ => exact st_move rfl rfl (wanted_none rfl) (g3 6 (by kernel_rfl)) (hKK _ _ rfl (fun _ _ _ h => h) g5)
          | 4, _ => exact st_val rfl (wanted_none rfl) (run_slTo2 _ rfl (g4 2 (by kernel_rfl)) (g4 3 (by kernel_rfl)) (by omega) HP.out (fun e => ⟨by have := HNIL.out e; rw [this] at hk; simpa using hk, HP0.out e⟩)) (hKK _ _ rfl (fun _ _ _ h => h) g5)
          | 5, _ =>
            obtain ⟨g, e0, hg0, hBg⟩ := g4 0 (by kernel_rfl)
            have e4 := g4 4 (by kernel_rfl)
            refine st_app_notes rfl rfl _ _ rfl W1.heap.size g 0 [] e0 ((OwnNs.of_blk (n := 0) (l := []) hg0 rfl rfl (by decide)).mono hBg) p c (b.ns.take k) (e4.trans (by rw [htk])) ((hl1.below g5).take k) HP.out (fun e => ⟨HP0.out e, by rw [HNIL.out e]; simp⟩) (by simp; omega) (by omega) ?_
            intro g' cap' w' h1 h2 h3 h4 h5
            rw [List.nil_append] at h1
            have hne : ∀ q cs, Blk X q 38 cs → cs.size ≠ 0 → w'.heap[q]? = X.heap[q]? := fun q cs hq hcs => h3.block q hq.lt (fun e => by
              simp only [Option.some.injEq] at e
              subst e
              have := hq.same hg0
              rw [this] at hcs
              simp at hcs)
            rw [show (([] : List Nt) ++ b.ns.take k).length = k from htk]
            refine hKK (.slice (some ⟨g', 0, none⟩) k cap') w' ⟨g', cap', rfl, h1, fun e => ?_⟩ (fun j hj hji h => ?_) ⟨h3.os.trans g5.os, h3.tape.trans g5.tape, h3.output.trans g5.output, Nat.le_trans g5.size h3.size, fun q hq => (h3.block q (by omega) (fun e => by simp only [Option.some.injEq] at e; omega)).trans (g5.block q hq)⟩
            · exact (h5 (by rw [htk, e]; simp)).2
            · refine lwR_grown h3 hj h (fun q _ hq => ?_) (fun q _ e => absurd e hji) (fun q _ hq => (hne q _ hq (by simp [ntC])).trans hq) (fun q cq _ hq => ?_)
              · by_cases e : q = g
                · subst e
                  obtain ⟨cur, c1, c2, -⟩ := own_cells h2
                  have : cur = #[] := Array.eq_empty_of_size_eq_zero (by omega)
                  rw [this] at c1
                  exact c1
                · exact (h3.block q hq.lt (fun e' => e (by simpa using e'))).trans hq
              · obtain ⟨cur, c1, c2, c3⟩ := own_cells hq
                exact hq.kept (fun q' hq' => by cases hq'; exact hne q _ c1 (by have : (b.ns.take k ++ [s]).length = k + 1 := by rw [List.length_append, htk]; rfl
                                                                                omega))
          | 6, _ => exact st_val rfl (wanted_none rfl) (run_lNoteS _ rfl (g3 3 (by kernel_rfl)) hnX) (hKK _ _ rfl (fun _ _ _ h => h) g5)
          | 7, _ => exact st_valw rfl (wanted_none rfl) (run_bsNote _ rfl (g4 6 (by kernel_rfl))) (hKK _ _ ⟨_, rfl, Blk.new rfl, by omega⟩ (fun j hj _ h => lwR_kept _ _ _ _ _ _ _ j hj _ _ _ h ((Below.refl _ _).alloc (Nat.le_refl _) _)) (g5.alloc g5.size _))
          | 8, _ =>
            obtain ⟨g, cap, e5, hg5, hc5⟩ := g4 5 (by kernel_rfl)
            obtain ⟨g7, e7, hg7, hB7⟩ := g4 7 (by kernel_rfl)
            obtain ⟨cur, c1, c2, c3⟩ := own_cells hg5
            refine st_app_notes rfl rfl _ _ rfl W1.heap.size g cap (b.ns.take k) (e5.trans (by rw [htk])) hg5 (some ⟨g7, 0, none⟩) 1 [s] e7 (NotesAt.one hg7) (fun a h => by cases h; exact ⟨_, _, rfl⟩) (fun e => by cases e) (by simp; omega) (by omega) ?_
            intro g' cap' w' h1 h2 h3 h4 h5
            have hlt := (own_cells hg5).elim fun cur h => h.1.lt
            have hBg := (hg5.lt g rfl).1
            rw [show (b.ns.take k ++ [s]).length = k + 1 by rw [List.length_append, htk]; rfl] at h1 ⊢
            refine hKK _ w' ⟨g', cap', rfl, by rw [List.length_append, htk]; exact h1⟩ (fun j hj hji h => lwR_grown h3 hj h (fun q _ hq => ?_) (fun q cq _ _ hq => ?_) (fun q _ hq => ?_) (fun q _ e => absurd e hji)) ⟨h3.os.trans g5.os, h3.tape.trans g5.tape, h3.output.trans g5.output, Nat.le_trans g5.size h3.size, fun q hq => (h3.block q (by omega) (fun e => by simp only [Option.some.injEq] at e; omega)).trans (g5.block q hq)⟩
            · rcases h4 with h4 | h4
              · exact (h4.block q hq.lt (by simp)).trans hq
              · exact (h3.block q hq.lt (fun e => by
                  simp only [Option.some.injEq] at e
                  subst e
                  have := congrArg Array.size (c1.same hq)
                  simp only [List.size_toArray, List.length_nil] at this
                  rw [htk] at h4
                  simp only [List.length_cons, List.length_nil] at h4
                  omega)).trans hq
            · by_cases e : q = g
              · subst e
                obtain ⟨cur', d1, d2, -⟩ := own_cells hq
                have := congrArg Array.size (d1.same c1)
                have hcc : cq = cap := by omega
                subst hcc
                exact h2
              · exact hq.kept (fun q' hq' => by cases hq'; exact h3.block q (hq.lt q rfl).2 (by simpa using e))
            · rcases h4 with h4 | h4
              · exact (h4.block q hq.lt (by simp)).trans hq
              · exact (h3.block q hq.lt (fun e => by
                  simp only [Option.some.injEq] at e
                  subst e
                  have := congrArg Array.size (c1.same hq)
                  simp only [ntC, List.size_toArray, List.length_cons, List.length_nil] at this
                  rw [htk] at h4 c3
                  simp only [List.length_cons, List.length_nil] at h4
                  have := hc5 (by omega)
                  omega)).trans hq
          | 9, _ => exact st_val rfl (wanted_none rfl) (run_fBook1 _ rfl (g3 2 (by kernel_rfl)) hbX.lt) (hKK _ _ rfl (fun _ _ _ h => h) g5)
          | 10, _ => exact st_val rfl (wanted_none rfl) (run_lNotes _ rfl (g4 9 (by kernel_rfl)) (by simpa using hbX.cell 2)) (hKK _ _ rfl (fun _ _ _ h => h) g5)
          | 11, _ => exact st_move rfl rfl (wanted_none rfl) (g3 6 (by kernel_rfl)) (hKK _ _ rfl (fun _ _ _ h => h) g5)
          | 12, _ =>
            have e10 := g4 10 (by kernel_rfl)
            have e11 := g4 11 (by kernel_rfl)
            cases p with
            | none =>
              have hn0 : b.ns = [] := HNIL.out rfl
              have hk00 : k = 0 := by rw [hn0] at hk; simpa using hk
              have hc0 : c = 0 := HP0.out rfl
              subst hk00
              exact st_val rfl (wanted_none rfl) (run_slFrom0 _ rfl (e10.trans (by rw [hn0]; rfl)) e11 hc0) (hKK _ _ ⟨fun _ => rfl, fun _ _ e => (by cases e)⟩ (fun _ _ _ h => h) g5)
            | some q =>
              obtain ⟨bb, o, rfl⟩ := HP.out q rfl
              obtain ⟨o2, ho2, hr⟩ := run_slFrom2 (b := bb) (o' := o) hk hcap
              exact st_val rfl (wanted_none rfl) (hr _ rfl e10 e11) (hKK _ _ ⟨fun e => (by cases e), fun _ _ e => (by cases e; exact ⟨o2, rfl, ho2⟩)⟩ (fun _ _ _ h => h) g5)
          | j + 13, hj => omega
        intro vs W3 hvs hg3
        have v0 := hvs 0 (by omega)
        obtain ⟨g, cap, v8, ho8⟩ := hvs 8 (by omega)
        have v12 := hvs 12 (by omega)
        obtain ⟨x0, v0⟩ : ∃ x, vs 0 = x := ⟨_, rfl⟩
        obtain ⟨x1, v1⟩ : ∃ x, vs 1 = x := ⟨_, rfl⟩
        obtain ⟨x2, v2⟩ : ∃ x, vs 2 = x := ⟨_, rfl⟩
        obtain ⟨x3, v3⟩ : ∃ x, vs 3 = x := ⟨_, rfl⟩
        obtain ⟨x4, v4⟩ : ∃ x, vs 4 = x := ⟨_, rfl⟩
        obtain ⟨x5, v5⟩ : ∃ x, vs 5 = x := ⟨_, rfl⟩
        obtain ⟨x6, v6⟩ : ∃ x, vs 6 = x := ⟨_, rfl⟩
        obtain ⟨x7, v7⟩ : ∃ x, vs 7 = x := ⟨_, rfl⟩
        obtain ⟨x9, v9⟩ : ∃ x, vs 9 = x := ⟨_, rfl⟩
        obtain ⟨x10, v10⟩ : ∃ x, vs 10 = x := ⟨_, rfl⟩
        obtain ⟨x11, v11⟩ : ∃ x, vs 11 = x := ⟨_, rfl⟩
        obtain ⟨x12, e12⟩ : ∃ x, vs 12 = x := ⟨_, rfl⟩
        rw [e12] at v12
        have hr3 := hr1.bel hg3
        have hy3 := hy1.bel hg3
        have hl3 := hl1.below hg3
        have hz3 := hg3.size
        have hB3 : Below w.heap.size w W3 := HB0.out.trans ((hB1.mono (by omega)).trans (hg3.mono (by omega)))
        have happ : ∃ (cx : Nat) (px : Option Addr), x12 = .slice px (b.ns.drop k).length cx ∧ NotesAt W3 px (b.ns.drop k) ∧ (∀ q, px = some q → ∃ b o, q = ⟨b, o, none⟩) ∧ (px = none → cx = 0 ∧ b.ns.drop k = []) := by
          have hdl : (b.ns.drop k).length = b.ns.length - k := List.length_drop
          cases p with
          | none =>
            have h0 : b.ns.drop k = [] := by rw [HNIL.out rfl]; simp
            rw [h0]
            exact ⟨0, none, v12.1 rfl, fun i s hi => (by simp at hi), fun q e => (by cases e), fun _ => ⟨rfl, rfl⟩⟩
          | some q =>
            obtain ⟨bb, o, rfl⟩ := HP.out q rfl
            obtain ⟨o2, ho, ho2⟩ := v12.2 bb o rfl
            refine ⟨c - k, some ⟨bb, o2, none⟩, by rw [ho, hdl], ?_, fun q e => (by cases e; exact ⟨_, _, rfl⟩), fun e => (by cases e)⟩
            by_cases hck : c = k
            · have : b.ns.drop k = [] := List.drop_eq_nil_of_le (by omega)
              rw [this]; intro i s hi; simp at hi
            · rw [ho2 hck]; exact hl3.drop k
        obtain ⟨cx, px, hx12, hnx, hpx, hpx0⟩ := happ
        subst hx12
        simp only [putAll, v0, v1, v2, v3, v4, v5, v6, v7, v8, v9, v10, v11, e12]
        clear v0 v1 v2 v3 v4 v5 v6 v7 v8 v9 v10 v11 v12 e12 hvs
        simp only [dstOf, Act.put, List.getElem?_toArray, List.getElem?_cons_zero, List.getElem?_cons_succ, Option.bind_some, Option.getD_some, List.setIfInBounds_toArray, List.set_cons_succ, List.set_cons_zero, List.drop_succ_cons, List.drop_zero]
        refine wpList_app2 rfl _ _ rfl W1.heap.size g cap (b.ns.take k ++ [s]) (by rw [List.length_append, htk]; rfl) ho8 px cx (b.ns.drop k) rfl hnx hpx hpx0 (by simp) (by rw [List.length_append, htk, List.length_drop]; simp; omega) (by omega) ?_
        intro g' cap' w4 hO hg4
        have hgB := (ho8.lt g rfl).1
        have hgB2 := (hO.lt g' rfl).1
        have hr4 : Blk w4 (w.heap.size + 2) 26 #[.int .i64 0, .int .i64 0, .slice none 0 0] := (hg4.block _ hr3.lt (fun e => by simp only [Option.some.injEq] at e; omega)).trans hr3
        have hy4 : Blk w4 (w.heap.size + 3) 26 #[.int .i64 b.lo, .int .i64 b.hi, .slice p b.ns.length c] := (hg4.block _ hy3.lt (fun e => by simp only [Option.some.injEq] at e; omega)).trans hy3
        have hB4 : Below w.heap.size w w4 := hB3.trans ⟨hg4.os, hg4.tape, hg4.output, hg4.size, fun q hq => hg4.block q (by have := hB3.size; omega) (fun e => by simp only [Option.some.injEq] at e; omega)⟩
        have r0 := hr4.frozen 0
        have r1 := hr4.frozen 1
        have r2 := hr4.frozen 2
        have d0 := hr4.cell 0
        have d1 := hr4.cell 1
        have d2 := hr4.cell 2
        have lr := hr4.lt
        have s0 := hy4.frozen 0
        have s1 := hy4.frozen 1
        have s2 := hy4.frozen 2
        have y0 := hy4.cell 0
        have y1 := hy4.cell 1
        have y2 := hy4.cell 2
        have ly := hy4.lt
        simp only [List.size_toArray, List.length_cons, List.length_nil, Nat.reduceAdd, Nat.reduceLT, getElem?_pos, List.getElem_toArray, List.getElem_cons_zero, List.getElem_cons_succ] at d0 d1 d2 y0 y1 y2
        have HR4 := Lib.hid hr4
        have HY4 := Lib.hid hy4
        have HB4 := Lib.hid hB4
        have HO := Lib.hid hO
        clear hr4 hy4 hB4 hO hg4 hr3 hy3 hl3 hz3 hB3 hnx hpx hpx0 ho8 hg3 hb1 hn1 hr1 hy1 hl1 hB1
        go_wp2_with fail
        have hnl : (withS b s).ns = b.ns.take k ++ [s] ++ b.ns.drop k := by rw [withS_ns, hk1]
        have hlen2 : k + (b.ns.length - k + 1) = (withS b s).ns.length := by rw [withS_len]; omega
        have hOn := HO.out
        rw [← hnl] at hOn
        rw [hlen2]
        generalize hv : Value.slice (some ⟨g', 0, none⟩) (withS b s).ns.length cap' = v at hOn ⊢
        have hrY : Blk (w4.setCell ⟨w.heap.size + 1 + 1 + 1, 2, none⟩ v) (w.heap.size + 1 + 1) 26 #[.int .i64 0, .int .i64 0, .slice none 0 0] := (Below.heap_setCell _ _ _ _ (by dsimp only; omega)).trans HR4.out
        have hbF := ((hrY.set 0 (.int .i64 b.lo)).set 1 (.int .i64 b.hi)).set 2 v
        have hB5 := below_setIn (below_setIn (below_setIn (below_setIn HB4.out (w.heap.size + 1 + 1 + 1) 2 v (by omega)) (w.heap.size + 1 + 1) 0 (.int .i64 b.lo) (by omega)) (w.heap.size + 1 + 1) 1 (.int .i64 b.hi) (by omega)) (w.heap.size + 1 + 1) 2 v (by omega)
        have t0 := Blk.cell hbF 0
        have t1 := Blk.cell hbF 1
        have t2 := Blk.cell hbF 2
        refine bodyPost_ret (v := .agg #[.int .i64 b.lo, .int .i64 b.hi, v]) ?_ rfl ⟨g', cap', by rw [← hv]; rfl, ?_, ext_of hB5⟩
        · simp [results, Tryd.results42, go_sem, d0, d1, d2, lr]
        · subst hv
          refine (hOn.kept (fun q hq => ?_)).mono (by omega)
          obtain rfl : g' = q := by simpa [Value.ownBlock] using hq
          exact (Below.heap_setCell _ _ _ _ (by dsimp only; omega)).trans ((Below.heap_setCell _ _ _ _ (by dsimp only; omega)).trans ((Below.heap_setCell _ _ _ _ (by dsimp only; omega)).trans (Below.heap_setCell _ _ _ _ (by dsimp only; omega))))
end Go.Proofs.YtamknmgplhaciaaDoor

