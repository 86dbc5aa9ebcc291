/- Package tide: lists of numbers that lie in memory; a plan without one of its tides. -/
import Derived.Test.YtcaeohgbgeadaaaGreatDoorQDy
import Derived.Deep.RegionLawGrows
set_option linter.unusedSimpArgs false
set_option linter.unusedVariables false
namespace Go.Proofs.YtcaeohgbgeadaaaGreatDoor
open Go Go.RowKit Go.Shelf
theorem info_numT : (Tryz.prog.info? 3).map (fun i => (i.zero, i.size, i.bytes)) = some (some (.int .i64 0), 1, 8) := by kernel_rfl
theorem under_numsT : Tryz.prog.underlying 30 = some (.slice 3) := by kernel_rfl
abbrev encT (l : List Int) : List Value := l.map (fun x => Value.int .i64 x)
/-- A list of numbers lies in memory. -/
def PlanAt (w : World) (v : Value) (l : List Int) : Prop :=
  ∃ (p : Option Addr) (c : Nat), v = .slice p l.length c ∧ IntsAt w p l ∧ l.length ≤ c ∧ (∀ a, p = some a → (∃ b o, a = ⟨b, o, none⟩) ∧ a.block < w.heap.size) ∧ (p = none → c = 0)
theorem PlanAt.bel {w w' : World} {v : Value} {l : List Int} (h : PlanAt w v l) (hb : Below w.heap.size w w') : PlanAt w' v l := by
  obtain ⟨p, c, h1, h2, h3, h4, h5⟩ := h
  exact ⟨p, c, h1, h2.below hb, h3, fun a ha => ⟨(h4 a ha).1, Nat.lt_of_lt_of_le (h4 a ha).2 hb.size⟩, h5⟩
theorem PlanAt.nil (w : World) : PlanAt w (.slice none 0 0) [] := ⟨none, 0, rfl, fun i x hi => by simp at hi, by simp, (fun a ha => by cases ha), (fun _ => rfl)⟩
/-- A list stays where no block turns in which it lies. -/
theorem PlanAt.priv {w w' : World} {v : Value} {l : List Int} {O : Nat → Prop} (h : PlanAt w v l) (hp : PrivM O w w') (hO : ∀ p n c a, v = .slice p n c → p = some a → ¬ O a.block) : PlanAt w' v l := by
  obtain ⟨p, c, h1, h2, h3, h4, h5⟩ := h
  refine ⟨p, c, h1, fun i x hi => ?_, h3, fun a ha => ⟨(h4 a ha).1, Nat.lt_of_lt_of_le (h4 a ha).2 hp.size⟩, h5⟩
  obtain ⟨b, o, e1, e2, e3⟩ := h2 i x hi
  refine ⟨b, o, e1, Nat.lt_of_lt_of_le e2 hp.size, ?_⟩
  rw [World.cell?_of_block (a := ⟨b, o + i, none⟩) (hp.block b e2 (hO _ _ _ _ h1 e1))]
  exact e3
/-- A list of numbers lies in memory, from a block on. -/
def PlanIn (n : Nat) (w : World) (v : Value) (l : List Int) : Prop := PlanAt w v l ∧ ∀ p m c a, v = .slice p m c → p = some a → n ≤ a.block
theorem PlanIn.bel {n : Nat} {w w' : World} {v : Value} {l : List Int} (h : PlanIn n w v l) (hb : Below w.heap.size w w') : PlanIn n w' v l := ⟨h.1.bel hb, h.2⟩
theorem PlanIn.mono {n n' : Nat} {w : World} {v : Value} {l : List Int} (h : PlanIn n w v l) (hn : n' ≤ n) : PlanIn n' w v l := ⟨h.1, fun p m c a h1 h2 => Nat.le_trans hn (h.2 p m c a h1 h2)⟩
theorem PlanIn.priv {n : Nat} {w w' : World} {v : Value} {l : List Int} {O : Nat → Prop} (h : PlanIn n w v l) (hp : PrivM O w w') (hO : ∀ k, O k → k < n) : PlanIn n w' v l :=
  ⟨h.1.priv hp (fun p m c a h1 h2 h3 => by have := hO _ h3; have := h.2 p m c a h1 h2; omega), h.2⟩
theorem PlanIn.nil (n : Nat) (w : World) : PlanIn n w (.slice none 0 0) [] := ⟨PlanAt.nil w, fun p m c a h1 h2 => by cases h1; cases h2⟩
theorem plan_of_own {w : World} {B : Nat} {v : Value} {l : List Int} (h : w.ownsRow B 3 1 v l.length (encT l)) : PlanAt w v l := by
  obtain ⟨h1, h2⟩ := id h
  rcases h2 with ⟨h2, h3⟩ | ⟨g, cap, cur, rfl, hg, hh, hn, hm, hs, ht⟩
  · obtain rfl := List.eq_nil_of_length_eq_zero h3
    subst h2
    exact PlanAt.nil w
  · have hlt := (Array.getElem?_eq_some_iff.1 hh).1
    refine ⟨_, cap, rfl, fun i x hx => ⟨g, 0, rfl, hlt, ?_⟩, hn, fun a ha => ?_, fun e => (by cases e)⟩
    · have hi := (List.getElem?_eq_some_iff.1 hx).1
      rw [Nat.zero_add, h.cellAt i (by simpa using hi)]
      simp [encT, hx]
    · cases ha; exact ⟨⟨g, 0, rfl⟩, hlt⟩
section
variable {o : Oper} {w : World} {g j t s u : Nat} (ρ : Operand → Value)
theorem run_lenT {p : Option Addr} {n c : Nat} (hop : o.op = .call { callee := .builtin .len, args := #[.tmp t], argTypes := #[30] }) (hs : ρ (.tmp t) = .slice p n c) : (execOp ρ o).run Tryz.prog w = .ok (.value (.int .i64 n)) w := by
  unfold execOp; simp [hop, hs, go_sem, resolve, invoke]
theorem run_slT {p : Option Addr} {N c k : Nat} (hop : o.op = .slice 30 (.tmp s) none (some (.tmp t)) (some (.tmp u))) (hs : ρ (.tmp s) = .slice p N c) (ht : ρ (.tmp t) = .int .i64 k) (hu : ρ (.tmp u) = .int .i64 k) (hk : k ≤ c) (hp : ∀ a, p = some a → ∃ b o, a = ⟨b, o, none⟩) (hk0 : p = none → k = 0) :
    (execOp ρ o).run Tryz.prog w = .ok (.value (.slice p k k)) w := by
  have k0 : (0 : Int) ≤ (k : Int) := by omega
  have k1 : (k : Int) ≤ (c : Int) := by omega
  cases p with
  | none =>
    obtain rfl := hk0 rfl
    unfold execOp; simp [hop, hs, ht, hu, go_sem, k0, k1]
  | some a =>
    obtain ⟨b, o', rfl⟩ := hp _ rfl
    unfold execOp; simp [hop, hs, ht, hu, go_sem, k0, k1]
theorem run_slFromT {b o' N c k : Nat} (hop : o.op = .slice 30 (.tmp s) (some (.tmp t)) none none) (hs : ρ (.tmp s) = .slice (some ⟨b, o', none⟩) N c) (ht : ρ (.tmp t) = .int .i64 k) (hk : k ≤ N) (hN : N ≤ c) :
    ∃ o2, (execOp ρ o).run Tryz.prog w = .ok (.value (.slice (some ⟨b, o2, none⟩) (N - k) (c - k))) w ∧ (c ≠ k → o2 = o' + k) := by
  have k0 : (0 : Int) ≤ (k : Int) := by omega
  have k1 : (k : Int) ≤ (N : Int) := by omega
  have k2 : (N : Int) ≤ (c : Int) := by omega
  by_cases hc : c = k
  · refine ⟨o', ?_, fun h => absurd hc h⟩
    unfold execOp; simp [hop, hs, ht, go_sem, k0, k1, k2, hc]
  · refine ⟨o' + k, ?_, fun _ => rfl⟩
    unfold execOp; simp [hop, hs, ht, go_sem, k0, k1, k2, hc]
end
theorem st_slFromT {ops : Array Oper} {Q : Exit → Act → World → Prop} {i : Nat} {o : Oper} {K : Act → World → Prop} {a : Act} {w : World} {s t : Nat} {b o' N c k : Nat} (h : ops[i]? = some o) (hw : Region.wanted o (yielded ops a.tmps) = true)
    (hop : o.op = .slice 30 (.tmp s) (some (.tmp t)) none none) (hs : a.tmps.getD s undef = .slice (some ⟨b, o', none⟩) N c) (ht : a.tmps.getD t undef = .int .i64 k) (hk : k ≤ N) (hN : N ≤ c)
    (hK : ∀ o2, (c ≠ k → o2 = o' + k) → K (a.put o.dst (.slice (some ⟨b, o2, none⟩) (N - k) (c - k))) w) : wpOp Tryz.prog ops Q i K a w := by
  obtain ⟨o2, hr, ho2⟩ := run_slFromT (w := w) a.eval hop hs ht hk hN
  exact st_val h hw hr (hK o2 ho2)
/-- An append of nothing. -/
theorem run_append_zero {ty : TypeId} (a b : Addr) (n cap c : Nat) (w : World) (h : n ≤ cap) : (Builtin.append_ #[30, 30] ty #[.slice (some a) n cap, .slice (some b) 0 c]).run Tryz.prog w = .ok (.slice (some a) n cap) w := by
  obtain ⟨i0, hi, hz0, hz1, hz2⟩ := info_parts info_numT
  simp [Builtin.append_, run_underlying under_numsT, sizeOf, typeInfo, hi, Builtin.lenOf, h, Builtin.firstCells, storeCells, go_sem]
theorem wpList_app_zero {ops : Array Oper} {rest : List Oper} {Q : Exit → Act → World → Prop} {o : Oper} {a : Act} {w : World} (hg : o.guard = none) (s x : Operand)
    (ho : o.op = .call { callee := .builtin .append, args := #[s, x], argTypes := #[30, 30] })
    (p q : Addr) (n cap c : Nat) (hs : a.eval s = .slice (some p) n cap) (hn : n ≤ cap) (hx : a.eval x = .slice (some q) 0 c)
    (hK : wpList Tryz.prog ops Q rest (a.put o.dst (.slice (some p) n cap)) w) : wpList Tryz.prog ops Q (o :: rest) a w := by
  have hw : Region.wanted o (yielded ops a.tmps) = true := by simp [Region.wanted, hg]
  unfold wpList
  rw [if_pos hw]
  refine .inl ?_
  have hr := run_append_zero (ty := o.type) p q n cap c w hn
  unfold Oper.wp execOp
  simp only [ho, resolve, invoke, builtin, Sem.run_bind, Sem.run_pure, Result.andThen_ok, List.map_toArray, List.map_cons, List.map_nil, hs, hx, hr]
  exact hK
theorem planin_of_own {w : World} {B : Nat} {v : Value} {l : List Int} (h : w.ownsRow B 3 1 v l.length (encT l)) : PlanIn B w v l := by
  refine ⟨plan_of_own h, fun p m c a h1 h2 => ?_⟩
  obtain ⟨-, h3 | ⟨g, cap, cur, h3, hg, -⟩⟩ := h
  · rw [h1] at h3
    simp only [Value.slice.injEq] at h3
    obtain ⟨⟨rfl, -, -⟩, -⟩ := h3
    cases h2
  · rw [h1] at h3
    simp only [Value.slice.injEq] at h3
    obtain ⟨rfl, -, -⟩ := h3
    cases h2; exact hg
/-- An append of a list where there is no room. -/
theorem app_grow {ops : Array Oper} {Q : Exit → Act → World → Prop} {o : Oper} {K : Act → World → Prop} {a : Act} {w : World} (hg : o.guard = none) (s x : Operand)
    (ho : o.op = .call { callee := .builtin .append, args := #[s, x], argTypes := #[30, 30] })
    (p : Option Addr) (l : List Int) (hs : a.eval s = .slice p l.length l.length) (hp : p = none → l.length = 0) (hl : IntsAt w p l) (q : Addr) (m : List Int) (c : Nat) (hx : a.eval x = .slice (some q) m.length c) (hm : IntsAt w (some q) m) (hm0 : 0 < m.length)
    (hlen : l.length + m.length ≤ 10000)
    (hK : ∀ v' w', PlanIn w.heap.size w' v' (l ++ m) → Below w.heap.size w w' → K (a.put o.dst v') w') : Oper.wp Tryz.prog o a w K Q := by
  have hw : Region.wanted o (yielded ops a.tmps) = true := by simp [Region.wanted, hg]
  obtain ⟨i0, hi0, hz0, hz1, hz2⟩ := info_parts info_numT
  have hcell : ∀ (l : List Int) (q : Addr), IntsAt w (some q) l → ∀ (j : Nat) (u : Value), (encT l)[j]? = some u → w.cell? (q.add j) = some u := fun l q h j u hj => by
    have hx2 : ∃ x, l[j]? = some x ∧ u = .int .i64 x := by
      rw [List.getElem?_map] at hj
      cases hlj : l[j]? with
      | none => rw [hlj] at hj; cases hj
      | some x => rw [hlj] at hj; simp at hj; exact ⟨x, rfl, hj.symm⟩
    obtain ⟨x, hlx, rfl⟩ := hx2
    obtain ⟨b, o2, e, hb, c0⟩ := h j x hlx
    cases e
    rw [show (⟨b, o2, none⟩ : Addr).add j = ⟨b, o2 + j, none⟩ by simp [Addr.add]]; exact c0
  have := step_append_grows (P := Tryz.prog) (ops := ops) (K := K) (Q := Q) (E := True) hg s x 30 ho 3 i0 (.int .i64 0) 1 8 under_numsT hi0 hz0 hz1 hz2 rfl (by decide) p l.length l.length (encT l) hs
    (fun e => ⟨hp e, hp e⟩) (by simp [encT])
    (fun q hq => hcell l q (hq ▸ hl)) q m.length c (encT m) hx (by simp [encT]) (hcell m q hm)
    (fun u hu => by
      obtain ⟨x, -, rfl⟩ := List.mem_map.1 hu
      rfl) (by omega) (by unfold maxLen; omega) (by omega)
    (fun v' w' h1 h2 => hK v' w' (planin_of_own (B := w.heap.size) (by unfold encT at *; rw [List.map_append, List.length_append]; exact h1)) (Below.of_grown0 h2 (Nat.le_refl _)))
  rwa [if_pos hw] at this
theorem wpList_app_grow {ops : Array Oper} {rest : List Oper} {Q : Exit → Act → World → Prop} {o : Oper} {a : Act} {w : World} (hg : o.guard = none) (s x : Operand)
    (ho : o.op = .call { callee := .builtin .append, args := #[s, x], argTypes := #[30, 30] })
    (p : Option Addr) (l : List Int) (n : Nat) (hs : a.eval s = .slice p n n) (hnl : n = l.length) (hp : p = none → l.length = 0) (hl : IntsAt w p l) (q : Addr) (m : List Int) (n2 c : Nat) (hx : a.eval x = .slice (some q) n2 c) (hn2 : n2 = m.length) (hm : IntsAt w (some q) m) (hm0 : 0 < m.length)
    (hlen : l.length + m.length ≤ 10000)
    (hK : ∀ v' w', PlanIn w.heap.size w' v' (l ++ m) → Below w.heap.size w w' → wpList Tryz.prog ops Q rest (a.put o.dst v') w') : wpList Tryz.prog ops Q (o :: rest) a w := by
  subst hnl hn2
  have hw : Region.wanted o (yielded ops a.tmps) = true := by simp [Region.wanted, hg]
  unfold wpList
  rw [if_pos hw]
  exact .inl (app_grow (ops := ops) hg s x ho p l hs hp hl q m c hx hm hm0 hlen hK)
theorem run_incT {o : Oper} {w : World} {s : Nat} {k : Nat} (ρ : Operand → Value) (hop : o.op = .binOp .add 3 (.tmp s) (.const (.int .i64 1)) 3) (hs : ρ (.tmp s) = .int .i64 k) (hc : ρ (.const (.int .i64 1)) = .int .i64 1) (hk : k ≤ 1000000) :
    (execOp ρ o).run Tryz.prog w = .ok (.value (.int .i64 ((k + 1 : Nat) : Int))) w := by
  have hw : IntKind.i64.wrap ((k : Int) + 1) = ((k + 1 : Nat) : Int) := by rw [IntWalk.i64_in _ (by omega)]; omega
  unfold execOp
  simp only [hop, hs, hc]
  simp [go_sem]
  simpa using hw
/-- What without's operations leave. -/
def woutR (b o n c k : Nat) (i : Nat) (v : Value) (_w : World) : Prop :=
  match i with
  | 0 => v = .slice (some ⟨b, o, none⟩) n c
  | 1 => v = .int .i64 k
  | 2 => v = .int .i64 k
  | 3 => v = .slice (some ⟨b, o, none⟩) k k
  | 4 => v = .slice (some ⟨b, o, none⟩) n c
  | 5 => v = .int .i64 k
  | 6 => v = .int .i64 ((k + 1 : Nat) : Int)
  | 7 => ∃ o2, v = .slice (some ⟨b, o2, none⟩) (n - (k + 1)) (c - (k + 1)) ∧ (c ≠ k + 1 → o2 = o + (k + 1))
  | _ => True
theorem woutR_kept (b o n c k : Nat) : ∀ (i : Nat), i < 8 → ∀ (v : Value) (w w' : World), woutR b o n c k i v w → Below w.heap.size w w' → woutR b o n c k i v w' := by
  intro i hi v w w' h hb
  match i, hi with
  | 0, _ => exact h
  | 1, _ => exact h
  | 2, _ => exact h
  | 3, _ => exact h
  | 4, _ => exact h
  | 5, _ => exact h
  | 6, _ => exact h
  | 7, _ => exact h
  | k + 8, hk => omega
theorem ints_take {w : World} {p : Option Addr} {l : List Int} (h : IntsAt w p l) (k : Nat) : IntsAt w p (l.take k) := fun i x hi => by
  rw [List.getElem?_take] at hi
  split at hi
  · exact h i x hi
  · cases hi
theorem ints_drop {w : World} {b o k : Nat} {l : List Int} (h : IntsAt w (some ⟨b, o, none⟩) l) : IntsAt w (some ⟨b, o + k, none⟩) (l.drop k) := fun i x hi => by
  rw [List.getElem?_drop] at hi
  obtain ⟨b2, o2, e, h2, h3⟩ := h (k + i) x hi
  cases e
  exact ⟨b, o + k, rfl, h2, by rw [show o + k + i = o + (k + i) by omega]; exact h3⟩
attribute [local go_sem] Oper.semAt_some frozen_alloc_lt
set_option maxHeartbeats 2000000 in
theorem without_any (v : Value) (pl : List Int) (k : Nat) (w : World) (h : PlanAt w v pl) (hk : k < pl.length) (hlen : pl.length ≤ 1000) :
    Calls Tryz.prog 122 #[v, .int .i64 k] w fun e w' => ∃ v', e = .returned v' ∧ PlanAt w' v' (pl.eraseIdx k) ∧ ∃ x, w' = ext w x := by
  obtain ⟨p, c, rfl, h2, h3, h4, h5⟩ := h
  cases p with
  | none => have := h5 rfl; omega
  | some q =>
  obtain ⟨⟨b, o, rfl⟩, hbl⟩ := h4 q rfl
  dsimp only at hbl
  go_enter Tryz.func122, Tryz.ntmps122
  go_upto_region 1 with fail
  refine wp_region_flow_back 8 14 (woutR b o pl.length c k) (by kernel_rfl) (by kernel_rfl) rfl (woutR_kept _ _ _ _ _) ?_ ?_
  · intro i hin a X g1 g2 g3 g4 g5 KK hKK
    match i, hin with
    | 0, _ => exact st_move rfl rfl (wanted_none rfl) (g3 0 (by kernel_rfl)) (hKK _ _ rfl (Below.refl _ _))
    | 1, _ => exact st_move rfl rfl (wanted_none rfl) (g3 1 (by kernel_rfl)) (hKK _ _ rfl (Below.refl _ _))
    | 2, _ => exact st_move rfl rfl (wanted_none rfl) (g3 1 (by kernel_rfl)) (hKK _ _ rfl (Below.refl _ _))
    | 3, _ => exact st_val rfl (wanted_none rfl) (run_slT _ rfl (g4 0 (by kernel_rfl)) (g4 1 (by kernel_rfl)) (g4 2 (by kernel_rfl)) (by omega) (fun a ha => by cases ha; exact ⟨_, _, rfl⟩) (fun e => by cases e)) (hKK _ _ rfl (Below.refl _ _))
    | 4, _ => exact st_move rfl rfl (wanted_none rfl) (g3 0 (by kernel_rfl)) (hKK _ _ rfl (Below.refl _ _))
    | 5, _ => exact st_move rfl rfl (wanted_none rfl) (g3 1 (by kernel_rfl)) (hKK _ _ rfl (Below.refl _ _))
    | 6, _ => exact st_val rfl (wanted_none rfl) (run_incT _ rfl (g4 5 (by kernel_rfl)) rfl (by omega)) (hKK _ _ rfl (Below.refl _ _))
    | 7, _ =>
      exact st_slFromT rfl (wanted_none rfl) rfl (g4 4 (by kernel_rfl)) (g4 6 (by kernel_rfl)) (by omega) h3 (fun o2 ho2 => hKK _ _ ⟨o2, rfl, ho2⟩ (Below.refl _ _))
    | k + 8, hk => omega
  intro vs W2 hvs hBW
  have v0 : vs 0 = _ := hvs 0 (by omega)
  have v1 : vs 1 = _ := hvs 1 (by omega)
  have v2 : vs 2 = _ := hvs 2 (by omega)
  have v3 : vs 3 = _ := hvs 3 (by omega)
  have v4 : vs 4 = _ := hvs 4 (by omega)
  have v5 : vs 5 = _ := hvs 5 (by omega)
  have v6 : vs 6 = _ := hvs 6 (by omega)
  obtain ⟨o2, v7, ho2⟩ := hvs 7 (by omega)
  simp only [putAll, v0, v1, v2, v3, v4, v5, v6, v7]
  clear v0 v1 v2 v3 v4 v5 v6 v7 hvs
  simp only [dstOf, Act.put, List.getElem?_toArray, List.getElem?_cons_zero, List.getElem?_cons_succ, Option.bind_some, Option.getD_some, List.setIfInBounds_toArray, List.set_cons_succ, List.set_cons_zero, List.drop_succ_cons, List.drop_zero]
  by_cases hlast : k + 1 = pl.length
  · refine wpList_app_zero rfl _ _ rfl ⟨b, o, none⟩ ⟨b, o2, none⟩ k k (c - (k + 1)) rfl (Nat.le_refl _) (by simp [Act.eval, ← hlast]) ?_
    go_wp2_with fail
    refine bodyPost_ret (v := .slice (some ⟨b, o, none⟩) k k) (by simp [results, Tryz.results122, go_sem]) rfl ?_
    have he : pl.eraseIdx k = pl.take k := by
      rw [List.eraseIdx_eq_take_drop_succ, List.drop_of_length_le (by omega), List.append_nil]
    have hlt : (pl.take k).length = k := by rw [List.length_take]; omega
    refine ⟨_, rfl, ?_, ext_of hBW⟩
    rw [he]
    exact ⟨some ⟨b, o, none⟩, k, by rw [hlt], ints_take (h2.below hBW) k, by omega, fun a ha => by cases ha; exact ⟨⟨_, _, rfl⟩, Nat.lt_of_lt_of_le hbl hBW.size⟩, fun e => by cases e⟩
  · obtain rfl := ho2 (by omega)
    refine wpList_app_grow rfl _ _ rfl (some ⟨b, o, none⟩) (pl.take k) k rfl (by rw [List.length_take]; omega) (fun e => by cases e) (ints_take (h2.below hBW) k) ⟨b, o + (k + 1), none⟩ (pl.drop (k + 1)) (pl.length - (k + 1)) (c - (k + 1)) rfl (by rw [List.length_drop]) (ints_drop (h2.below hBW)) (by rw [List.length_drop]; omega) (by rw [List.length_take, List.length_drop]; omega) ?_
    intro v' w3 h6 h7
    go_wp2_with fail
    go_ret
    refine ⟨_, rfl, ?_, ext_of (hBW.trans (h7.mono hBW.size))⟩
    rw [List.eraseIdx_eq_take_drop_succ]
    exact h6.1
end Go.Proofs.YtcaeohgbgeadaaaGreatDoor

