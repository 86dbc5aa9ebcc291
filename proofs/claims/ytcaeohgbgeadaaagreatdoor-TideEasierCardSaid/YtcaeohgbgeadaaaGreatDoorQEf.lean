/- Package tide: the tides of a plan that can be spared. -/
/- Ranges over functions whose iterators write nothing at all into what lies there: a contract (Seq1) for bodies that remember what the iterator made; what is known of a thing that is handed over (K) is told with it. -/
import Derived.Test.YtcaeohgbgeadaaaGreatDoorQEe
import Derived.Test.YtcaeohgbgeadaaaGreatDoorQIt
set_option linter.unusedSimpArgs false
set_option linter.unusedVariables false
namespace Go.Proofs.YtcaeohgbgeadaaaGreatDoor
open Go Go.RowKit Go.Shelf
/-- The tides, of so many first ones of a plan, without which no more are lost at most. -/
def sprL (h : Hl) (pl : List Int) : Nat → List Int
  | 0 => []
  | k + 1 => sprL h pl k ++ (match pl[k]? with
    | some t => if ansHi h 1 (pl.eraseIdx k) ≤ ansHi h 1 pl then [t] else []
    | none => [])
theorem sprL_len (h : Hl) (pl : List Int) : ∀ k, (sprL h pl k).length ≤ k
  | 0 => Nat.le_refl _
  | k + 1 => by
    have := sprL_len h pl k
    unfold sprL
    rw [List.length_append]
    split
    · split <;> simp <;> omega
    · simp; omega
theorem sprL_yes {h : Hl} {pl : List Int} {k : Nat} {t : Int} (ht : pl[k]? = some t) (hq : ansHi h 1 (pl.eraseIdx k) ≤ ansHi h 1 pl) : sprL h pl (k + 1) = sprL h pl k ++ [t] := by
  conv => lhs; unfold sprL
  simp only [ht]; rw [if_pos hq]
theorem sprL_no {h : Hl} {pl : List Int} {k : Nat} {t : Int} (ht : pl[k]? = some t) (hq : ¬ ansHi h 1 (pl.eraseIdx k) ≤ ansHi h 1 pl) : sprL h pl (k + 1) = sprL h pl k := by
  conv => lhs; unfold sprL
  simp only [ht]; rw [if_neg hq, List.append_nil]
theorem mem_sprL {h : Hl} {pl : List Int} {t : Int} : ∀ {n : Nat}, t ∈ sprL h pl n ↔ ∃ k, k < n ∧ pl[k]? = some t ∧ ansHi h 1 (pl.eraseIdx k) ≤ ansHi h 1 pl
  | 0 => by simp [sprL]
  | n + 1 => by
    unfold sprL
    rw [List.mem_append, mem_sprL]
    constructor
    · rintro (⟨k, h1, h2⟩ | h1)
      · exact ⟨k, by omega, h2⟩
      · cases hs : pl[n]? with
        | none => simp [hs] at h1
        | some s =>
          simp only [hs] at h1
          by_cases hq : ansHi h 1 (pl.eraseIdx n) ≤ ansHi h 1 pl
          · rw [if_pos hq, List.mem_singleton] at h1
            subst h1
            exact ⟨n, by omega, hs, hq⟩
          · rw [if_neg hq] at h1; cases h1
    · rintro ⟨k, h1, h2, h3⟩
      by_cases e : k = n
      · subst e
        refine .inr ?_
        simp only [h2]
        rw [if_pos h3]; simp
      · exact .inl ⟨k, by omega, h2, h3⟩
theorem below_grown {n : Nat} {A B : World} {v : Value} (ho3 : ∀ g, v.ownBlock = some g → n ≤ g) (h : A.grownBy B v.ownBlock) (hn : n ≤ A.heap.size) : Below n A B :=
  ⟨h.os, h.tape, h.output, h.size, fun k hk => h.block k (by omega) (fun e => by have := ho3 k e.symm; omega)⟩
theorem OwnInts.mono {w : World} {B B' : Nat} {v : Value} {l : List Int} (h : OwnInts w B v l) (hB : B' ≤ B) : OwnInts w B' v l := by
  obtain ⟨h1, h2⟩ := h
  refine ⟨h1, ?_⟩
  rcases h2 with h2 | ⟨g, cap, cur, rfl, hg, r⟩
  · exact .inl h2
  · exact .inr ⟨g, cap, cur, rfl, by omega, r⟩
theorem answer_plan (h : Hl) (p : Tp) (k : Nat) (v : Value) (pl : List Int) (w : World) (hk : h.OK) (hq : k < 3) (hl : LowsAt w p.tp h.b.ts) (hp : PlanAt w v pl) (hlen : pl.length ≤ 1000) (ho : ordT h.b.ts h.b.now pl) :
    Calls Tryz.prog 67 #[hlv h p, .int .i64 k, v] w fun e w' => e = .returned (.agg #[.int .i64 (ansLo h k pl), .int .i64 (ansHi h k pl)]) ∧ ∃ x, w' = ext w x := by
  obtain ⟨q, c, rfl, h2, -, -, -⟩ := hp
  exact answer_any h p k q c pl w hk hq hl h2 hlen ho
theorem sargsTCT {a : Act} {s u : Nat} {x z c : Value} (h1 : a.tmps.getD s undef = x) (h2 : a.tmps.getD u undef = z) : (#[Operand.tmp s, Operand.const c, Operand.tmp u]).map a.eval = #[x, c, z] := by
  simp only [List.map_toArray, List.map_cons, List.map_nil, Act.eval, h1, h2]
section
variable {o : Oper} {w : World} {g j t s u : Nat} (ρ : Operand → Value)
theorem run_fHi {x y : Int} (hop : o.op = .field 23 (.tmp t) 1) (hs : ρ (.tmp t) = .agg #[.int .i64 x, .int .i64 y]) : (execOp ρ o).run Tryz.prog w = .ok (.value (.int .i64 y)) w := by
  unfold execOp; simp [hop, hs, Instr.field, run_underlying Tryz.underlying23, go_sem, part, asAgg]
end
theorem field_hi (x y : Int) (w : World) : (Instr.field 23 (.agg #[.int .i64 x, .int .i64 y]) 1).run Tryz.prog w = .ok (.int .i64 y) w := by
  simp [Instr.field, run_underlying Tryz.underlying23, go_sem, part, asAgg]
/-- What region 6's operations leave. -/
def sprR (h : Hl) (p : Tp) (pv : Value) (pl : List Int) (k : Nat) (most : Int) (i : Nat) (v : Value) (w : World) : Prop :=
  match i with
  | 0 => v = hlv h p
  | 1 => v = pv
  | 2 => v = .int .i64 k
  | 3 => PlanAt w v (pl.eraseIdx k)
  | 4 => v = .agg #[.int .i64 (ansLo h 1 (pl.eraseIdx k)), .int .i64 (ansHi h 1 (pl.eraseIdx k))]
  | 5 => v = .int .i64 (ansHi h 1 (pl.eraseIdx k))
  | 6 => v = .int .i64 most
  | _ => True
theorem sprR_kept (h : Hl) (p : Tp) (pv : Value) (pl : List Int) (k : Nat) (most : Int) : ∀ (i : Nat), i < 7 → ∀ (v : Value) (w w' : World), sprR h p pv pl k most i v w → Below w.heap.size w w' → sprR h p pv pl k most i v w' := by
  intro i hi v w w' h hb
  match i, hi with
  | 0, _ => exact h
  | 1, _ => exact h
  | 2, _ => exact h
  | 3, _ => exact PlanAt.bel h hb
  | 4, _ => exact h
  | 5, _ => exact h
  | 6, _ => exact h
  | k + 7, hk => omega
attribute [local go_sem] Oper.semAt_some frozen_alloc_lt
set_option maxRecDepth 100000 in
set_option maxHeartbeats 8000000 in
theorem spare_any (h : Hl) (p : Tp) (v : Value) (pl : List Int) (w : World) (hk : h.OK) (hl : LowsAt w p.tp h.b.ts) (hp : PlanAt w v pl) (hlen : pl.length ≤ 1000) (ho : ordT h.b.ts h.b.now pl) :
    Calls Tryz.prog 78 #[hlv h p, v] w fun e w' => ∃ v', e = .returned v' ∧ OwnInts w' w.heap.size v' (sprL h pl pl.length) ∧ ∃ x, w' = ext w x := by
  have hp0 := hp
  obtain ⟨q, c, rfl, h2, h3, h4, h5⟩ := hp
  have HK := Lib.hid hk
  have HL := Lib.hid hl
  have HP := Lib.hid hp0
  have HI := Lib.hid h2
  have HO := Lib.hid ho
  clear hk hl hp0 h2 ho h4
  unfold hlv
  go_enter Tryz.func78, Tryz.ntmps78
  go_upto_region 1 with fail
  generalize hW : w.alloc _ = W
  have hB : Below w.heap.size w W := by rw [← hW]; (exact belA)
  have kH : Blk W w.heap.size 87 (hlcs h p) := by rw [← hW]; exact Blk.new rfl
  have HB := Lib.hid hB
  have KH := Lib.hid kH
  unfold hlcs at kH
  obtain ⟨c0, c1, c2, c3, c4, c5, c6, c7, c8, c9, c10, c11, c12⟩ := Blk.c13 kH
  have lH := kH.lt
  clear hW hB kH
  have hfi := field_hi
  go_upto_region 4 with (go_at_call 67; refine (answer_plan h p 1 _ pl _ HK.out (by omega) (HL.out.below HB.out) (HP.out.bel HB.out) hlen HO.out).mono ?_; rintro e w1 ⟨rfl, y, rfl⟩)
  clear c0 c1 c2 c3 c4 c5 c6 c7 c8 c9 c10 c11 c12 lH hfi
  have HB2 := Lib.hid (HB.out.trans ((below_ext W y).mono HB.out.size))
  have KH2 := Lib.hid (KH.out.ext y)
  clear HB KH
  generalize ext W y = W2 at *
  obtain ⟨most, hmost⟩ : ∃ m, ansHi h 1 pl = m := ⟨_, rfl⟩
  rw [hmost]
  have HM := Lib.hid hmost
  clear hmost
  go_loopw [6, 15] (fun u i wr => ∃ k : Nat, k ≤ pl.length ∧ i = .int .i64 k ∧ Hid (Below w.heap.size w wr) ∧ Hid (Blk wr w.heap.size 87 (hlcs h p)) ∧ Hid (OwnInts wr (w.heap.size + 1) u (sprL h pl k))) (fun _ i _ => pl.length - (intOf i).toNat)
  case atStart => exact ⟨0, by omega, rfl, HB2, KH2, Lib.hid (OwnInts.nil _ _)⟩
  case round =>
    clear HB2 KH2
    obtain ⟨k, hk, rfl, HB, KH, HOW⟩ := hrel
    by_cases hlt : k < pl.length
    · obtain ⟨t, ht⟩ := get_some pl k hlt
      obtain ⟨b1, o1, hp, hb, c1⟩ := (HI.out.below HB.out) k _ ht
      subst hp
      have k0 : (0 : Int) ≤ (k : Int) := by omega
      have k1 : (k : Int) < (pl.length : Int) := by omega
      have HW := Lib.hid (wrap_num k (by omega))
      have HT := Lib.hid ht
      clear ht
      go_upto_region 6 with fail
      refine wp_region_flow_back 7 34 (sprR h p (.slice (some ⟨b1, o1, none⟩) pl.length c) pl k most) (by kernel_rfl) (by kernel_rfl) rfl (sprR_kept _ _ _ _ _ _) ?_ ?_
      · intro i hin a X g1 g2 g3 g4 g5 KK hKK
        have hBX := HB.out.trans (g5.mono HB.out.size)
        match i, hin with
        | 0, _ => exact st_val rfl (wanted_none rfl) (run_lHl _ rfl (g3 2 (by kernel_rfl)) (KH.out.bel g5)) (hKK _ _ rfl (Below.refl _ _))
        | 1, _ => exact st_move rfl rfl (wanted_none rfl) (g3 1 (by kernel_rfl)) (hKK _ _ rfl (Below.refl _ _))
        | 2, _ => exact st_move rfl rfl (wanted_none rfl) (g3 7 (by kernel_rfl)) (hKK _ _ rfl (Below.refl _ _))
        | 3, _ =>
          refine st_call rfl rfl (wanted_none rfl) (sargs2 (g4 1 (by kernel_rfl)) (g4 2 (by kernel_rfl))) (run_enter Tryz.func122 (by kernel_rfl) (by kernel_rfl) _) ?_
          refine (without_any _ pl k _ (HP.out.bel hBX) hlt hlen).mono ?_
          rintro e w1 ⟨v', rfl, hv', y, rfl⟩
          exact ⟨_, rfl, hKK _ _ hv' (below_ext _ _)⟩
        | 4, _ =>
          refine st_call rfl rfl (wanted_none rfl) (sargsTCT (g4 0 (by kernel_rfl)) rfl) (run_enter Tryz.func67 (by kernel_rfl) (by kernel_rfl) _) ?_
          refine (answer_plan h p 1 _ (pl.eraseIdx k) _ HK.out (by omega) (HL.out.below hBX) (g4 3 (by kernel_rfl)) (Nat.le_trans (List.length_eraseIdx_le ..) hlen) (ordT_erase k HO.out)).mono ?_
          rintro e w1 ⟨rfl, y, rfl⟩
          exact ⟨_, rfl, hKK _ _ rfl (below_ext _ _)⟩
        | 5, _ => exact st_val rfl (wanted_none rfl) (run_fHi _ rfl (g4 4 (by kernel_rfl))) (hKK _ _ rfl (Below.refl _ _))
        | 6, _ => exact st_move rfl rfl (wanted_none rfl) (g3 5 (by kernel_rfl)) (hKK _ _ rfl (Below.refl _ _))
        | k + 7, hk => omega
      intro vs W3 hvs hBW
      have v0 : vs 0 = _ := hvs 0 (by omega)
      have v1 : vs 1 = _ := hvs 1 (by omega)
      have v2 : vs 2 = _ := hvs 2 (by omega)
      obtain ⟨v3, hv3⟩ : ∃ v, vs 3 = v := ⟨_, rfl⟩
      have v4 : vs 4 = _ := hvs 4 (by omega)
      have v5 : vs 5 = _ := hvs 5 (by omega)
      have v6 : vs 6 = _ := hvs 6 (by omega)
      simp only [putAll, v0, v1, v2, hv3, v4, v5, v6]
      clear v0 v1 v2 hv3 v4 v5 v6 hvs
      simp only [dstOf, Act.put, List.getElem?_toArray, List.getElem?_cons_zero, List.getElem?_cons_succ, Option.bind_some, Option.getD_some, List.setIfInBounds_toArray, List.set_cons_succ, List.set_cons_zero, List.drop_succ_cons, List.drop_zero]
      obtain ⟨en, hen⟩ : ∃ m, ansHi h 1 (pl.eraseIdx k) = m := ⟨_, rfl⟩
      obtain ⟨el, hel⟩ : ∃ m, ansLo h 1 (pl.eraseIdx k) = m := ⟨_, rfl⟩
      rw [hen, hel]
      have HE := Lib.hid hen
      clear hen hel
      have HB3 := Lib.hid (HB.out.trans (hBW.mono HB.out.size))
      have KH3 := Lib.hid (KH.out.bel hBW)
      have HO3 := Lib.hid (HOW.out.below hBW)
      have hW3 : w.heap.size ≤ W3.heap.size := HB3.out.size
      clear HB KH HOW hBW
      by_cases hq : en ≤ most
      · have hq' : decide (en ≤ most) = true := by simpa using hq
        have HS := Lib.hid (show sprL h pl (k + 1) = sprL h pl k ++ [t] from sprL_yes HT.out (by rw [HE.out, HM.out]; exact hq))
        clear hq
        have hk' := sprL_len h pl k
        have hW4 : w.heap.size + 1 ≤ (W3.alloc (.cells #[.int .i64 t] 3)).heap.size := by rw [World.size_alloc]; have := KH3.out.lt; omega
        go_wp2_with (at_builtin; refine wpList_append_int rfl _ _ rfl (w.heap.size + 1) _ _ rfl (HO3.out.below ((Below.refl _ _).alloc (Nat.le_refl _) _)) W3.heap.size t rfl (by simp [go_sem]) (by omega) hW4 ?_; intro v' w1 ho hg)
        have hl5 := KH3.out.lt
        have hB5 : Below (w.heap.size + 1) W3 w1 := ((Below.refl _ W3).alloc (by omega) (.cells #[.int .i64 t] 3)).trans (below_grown (ho3 := fun g e => (HO3.out.lt g e).1) hg (by rw [World.size_alloc]; omega))
        try rw [HW.out]
        refine ⟨⟨k + 1, hlt, rfl, Lib.hid (HB3.out.trans (hB5.mono (by omega))), Lib.hid ((hB5.block _ (by omega)).trans KH3.out), Lib.hid ?_⟩, less_num _ k hlt⟩
        rw [HS.out]; exact ho
      · have hq' : decide (en ≤ most) = false := by simpa using hq
        have HS := Lib.hid (show sprL h pl (k + 1) = sprL h pl k from sprL_no HT.out (by rw [HE.out, HM.out]; exact hq))
        clear hq
        go_wp2_with fail
        try rw [HW.out]
        refine ⟨⟨k + 1, hlt, rfl, HB3, KH3, Lib.hid ?_⟩, less_num _ k hlt⟩
        rw [HS.out]; exact HO3.out
    · obtain rfl : k = pl.length := by omega
      go_wp2_with fail
      go_ret
      exact ⟨_, rfl, HOW.out.mono (by omega), ext_of HB.out⟩
end Go.Proofs.YtcaeohgbgeadaaaGreatDoor

namespace Go.Proofs.YtcaeohgbgeadaaaGreatDoor
open Go Go.RowKit

/-- A relation that abides what is made. -/
def Grw {α : Type} (J : List α → World → Prop) : Prop := ∀ pre A B, J pre A → Below A.heap.size A B → J pre B
/-- The iterator's contract. O: the blocks below the caller's that a body may turn; K: what is known of a thing. -/
def Seq1 {α : Type} (P : Program) (g : Nat) (fb lb : Array Value) (encs : α → Array Value) (K : Nat → α → World → Prop) (O : Nat → Prop) (S Sp : List α → Prop) (w : World) : Prop :=
  ∀ (n l : Nat) (J Jx : List α → World → Prop) (W : World), Below w.heap.size w W → (∀ k, O k → k < W.heap.size) →
    Grw J → Grw Jx →
    (∀ m pre x A, W.heap.size ≤ A.heap.size → Sp (pre ++ [x]) → K W.heap.size x A → J pre A → YieldAt Fence.wide m P l (encs x) A fun e B =>
      (e = .returned (.bool true) ∧ J (pre ++ [x]) B ∧ PrivM O A B) ∨ (e = .returned (.bool false) ∧ Jx (pre ++ [x]) B ∧ PrivM O A B)) →
    J [] W →
    CallsIn Fence.wide n P g (fb ++ #[.func (.yield l) #[] #[]] ++ lb) W fun e W' => (∃ v, e = .returned v) ∧ PrivM O W W' ∧
      ((∃ xs, S xs ∧ J xs W') ∨ (∃ pre, Sp pre ∧ Jx pre W'))

theorem wpIn_rangeFunc_1 {α : Type} {n : Nat} {P : Program} {g : Operand} {ps : Array Tmp} {assign body : Code} {Q : Exit → Act → World → Prop} {a : Act} {w : World}
    {gf : Nat} {fb lb : Array Value} (hg : a.eval g = .func (.func gf) fb lb) (eg : ∀ args w, (callFunc gf args).run P w = .ok (.enter gf args) w)
    {encs : α → Array Value} (O : Nat → Prop) (hO : ∀ k, O k → k < w.heap.size) {S Sp : List α → Prop} {w0 : World}
    {K : Nat → α → World → Prop} (hseq : Seq1 P gf fb lb encs K (fun k => O k ∨ k = w.heap.size + 1) S Sp w0) (hb0 : Below w0.heap.size w0 w) (hps : ∀ x, (encs x).size = ps.size)
    (I : List α → World → Prop) (Ix : Code → List α → World → Prop) (Ax : List α → α → Act → World → Prop)
    (hK : ∀ x A B, K (w.heap.size + 2) x A → PrivM (fun k => k = w.heap.size + 1) A B → K (w.heap.size + 2) x B)
    (hI : ∀ pre A B, I pre A → PrivM (fun k => k = w.heap.size + 1) A B → I pre B) (hIx : ∀ c pre A B, Ix c pre A → PrivM (fun k => k = w.heap.size + 1) A B → Ix c pre B)
    (hAx : ∀ pre x a' A B, Ax pre x a' A → PrivM (fun k => k = w.heap.size + 1) A B → Ax pre x a' B)
    (h0 : ∀ W1, Below w.heap.size w W1 → I [] W1)
    (hassign : ∀ (m l : Nat) (pre : List α) (x : α) (W : World), w.heap.size + 2 ≤ W.heap.size → Sp (pre ++ [x]) → K (w.heap.size + 2) x W → I pre W →
      assign.wpIn (Fence.wide.inRound l) m P (Exit.then (fun a' W' => Ax pre x a' W' ∧ Below W.heap.size W W') (fun _ _ _ => False)) { tmps := (ps.zip (encs x)).foldl (fun t (p, v) => t.setIfInBounds p v) a.tmps, defers := [] } W)
    (hbody : ∀ (m l : Nat) (pre : List α) (x : α) (a' : Act) (W : World), w.heap.size + 2 ≤ W.heap.size → Sp (pre ++ [x]) → K (w.heap.size + 2) x W → I pre W → Ax pre x a' W →
      body.wpIn (Fence.wide.inRound l) m P (post0 O I Ix (pre ++ [x]) W) a' W)
    (hdone : ∀ (D : Nat) (xs : List α) (W : World), D = w.heap.size → w.heap.size + 2 ≤ W.heap.size → S xs → I xs W → PrivM O w W → W.heap[D]? = some (.deferred (some [])) → Q .normal { a with defers := { target := .collected D, args := #[] } :: a.defers } W)
    (hstop : ∀ (D : Nat) (c : Code) (pre : List α) (W : World), D = w.heap.size → w.heap.size + 2 ≤ W.heap.size → Sp pre → Ix c pre W → PrivM O w W → W.heap[D]? = some (.deferred (some [])) → c.wpIn Fence.wide n P Q { a with defers := { target := .collected D, args := #[] } :: a.defers } W) :
    (Code.rangeFunc g ps assign body).wpIn Fence.wide n P Q a w := by
  refine wpIn_rangeFunc ?_
  intro fn hfn
  obtain ⟨rec, hrec⟩ : ∃ rec : LoopState → Option Code → Loop, rec = fun st pe => { state := st, pending := pe, fn, tmps := a.tmps, params := ps, assign, body, defers := w.heap.size } := ⟨_, rfl⟩
  obtain ⟨W1, hW1⟩ : ∃ W1, (w.alloc (.deferred (some []))).alloc (.loop (rec .ready none)) = W1 := ⟨_, rfl⟩
  have hs1 : W1.heap.size = w.heap.size + 2 := by rw [← hW1]; simp
  have hL1 : W1.heap[w.heap.size + 1]? = some (.loop (rec .ready none)) := by
    rw [← hW1]; have := World.alloc_heap_new (w.alloc (.deferred (some []))) (.loop (rec .ready none)); rwa [World.size_alloc] at this
  have hK1 : W1.heap[w.heap.size]? = some (.deferred (some [])) := by
    rw [← hW1]; exact (Below.heap_alloc _ _ _ (by simp)).trans (World.alloc_heap_new w _)
  have hwW : Below w.heap.size w W1 := by rw [← hW1]; exact ((Below.refl _ w).alloc (Nat.le_refl _) _).alloc (by simp) _
  have hb1 : Below w0.heap.size w0 W1 := hb0.trans (hwW.mono hb0.size)
  refine ⟨w.heap.size + 1, [{ target := .collected w.heap.size, args := #[] }], W1, { target := .fn (.func gf) lb, args := fb ++ #[.func (.yield (w.heap.size + 1)) #[] #[]] }, W1, gf,
    fb ++ #[.func (.yield (w.heap.size + 1)) #[] #[]] ++ lb, W1, ?_, ?_, fun _ _ => trivial, ?_, (fun h => by cases h), ?_⟩
  · rw [← hW1, hrec]; exact run_enterLoop_outer _ _ _ _ _
  · simp only [resolve, hg]
    simp [go_sem]
  · simp [invoke, go_sem, eg]
  · have hput : ∀ (X : World) (o : Obj), PrivM (fun k => k = w.heap.size + 1) X (X.putObj (w.heap.size + 1) o) := fun X o => PrivM.putObj (M := fun k => k = w.heap.size + 1) X rfl o
    refine (hseq (n - 1) (w.heap.size + 1)
      (fun pre W => I pre W ∧ W.heap[w.heap.size + 1]? = some (.loop (rec .ready none)) ∧ W.heap[w.heap.size]? = some (.deferred (some [])))
      (fun pre W => ∃ c, Ix c pre W ∧ W.heap[w.heap.size + 1]? = some (.loop (rec .done (some c))) ∧ W.heap[w.heap.size]? = some (.deferred (some [])))
      W1 hb1 (fun k hk => by rcases hk with hk | hk
                             · have := hO k hk; omega
                             · omega) ?_ ?_ ?_ ?_).mono ?_
    · rintro pre A B ⟨hi, hl, hk⟩ hp
      exact ⟨hI pre A B hi (PrivM.of_below hp), (hp.block _ (Array.getElem?_eq_some_iff.1 hl).1).trans hl, (hp.block _ (Array.getElem?_eq_some_iff.1 hk).1).trans hk⟩
    · rintro pre A B ⟨c, hi, hl, hk⟩ hp
      exact ⟨c, hIx c pre A B hi (PrivM.of_below hp), (hp.block _ (Array.getElem?_eq_some_iff.1 hl).1).trans hl, (hp.block _ (Array.getElem?_eq_some_iff.1 hk).1).trans hk⟩
    · -- one round
      rintro m pre x W hsz hspx hkx ⟨hi, hl, hk⟩
      rw [hs1] at hsz hkx
      have hy := run_yield (P := P) (args := encs x) hl (by rw [hrec]; exact hps x)
      rw [hrec] at hy
      refine ⟨fn, _, assign, body, hy, roundIn_of_wpIn hfn ?_⟩
      refine wpIn_mono (hassign _ (w.heap.size + 1) pre x W hsz hspx hkx hi) ?_
      rintro e a' W' hp
      cases e with
      | normal =>
        obtain ⟨hax, hbel⟩ := hp
        have hi' : I pre W' := hI _ _ _ hi (PrivM.of_below hbel)
        have hl' : W'.heap[w.heap.size + 1]? = some (.loop (rec .ready none)) := (hbel.block _ (by omega)).trans hl
        have hk' : W'.heap[w.heap.size]? = some (.deferred (some [])) := (hbel.block _ (by omega)).trans hk
        have hsz' : w.heap.size + 2 ≤ W'.heap.size := Nat.le_trans hsz hbel.size
        refine ⟨_, run_beginRound hl' (by rw [hrec]), ?_⟩
        have hpr : PrivM (fun k => k = w.heap.size + 1) W' (W'.putObj (w.heap.size + 1) (.loop { rec .ready none with state := .busy })) := PrivM.putObj (M := fun k => k = w.heap.size + 1) _ rfl _
        have hl2 : (W'.putObj (w.heap.size + 1) (.loop { rec .ready none with state := .busy })).heap[w.heap.size + 1]? = some (.loop { rec .ready none with state := .busy }) := World.putObj_heap_same (by omega)
        have hk2 : (W'.putObj (w.heap.size + 1) (.loop { rec .ready none with state := .busy })).heap[w.heap.size]? = some (.deferred (some [])) := (World.putObj_heap_other (by omega)).trans hk'
        have hsp0 : PrivM (fun k => O k ∨ k = w.heap.size + 1) W (W'.putObj (w.heap.size + 1) (.loop { rec .ready none with state := .busy })) :=
          (PrivM.of_below hbel).trans (hpr.mono (fun k h => .inr h))
        refine wpIn_mono (hbody _ _ pre x a' _ (by rw [World.putObj_size]; exact hsz') hspx (hK x _ _ hkx ((PrivM.of_below hbel).trans hpr)) (hI pre _ _ hi' hpr) (hAx pre x a' _ _ hax hpr)) ?_
        have fin : ∀ (jump : Option Code) (W3 : World), PrivM O (W'.putObj (w.heap.size + 1) (.loop { rec .ready none with state := .busy })) W3 →
            (Instr.endRound (w.heap.size + 1) jump).run P W3 = .ok (.bool jump.isNone) (W3.putObj (w.heap.size + 1) (.loop (rec (if jump.isNone then .ready else .done) jump))) ∧
            (W3.putObj (w.heap.size + 1) (.loop (rec (if jump.isNone then .ready else .done) jump))).heap[w.heap.size + 1]? = some (.loop (rec (if jump.isNone then .ready else .done) jump)) ∧
            (W3.putObj (w.heap.size + 1) (.loop (rec (if jump.isNone then .ready else .done) jump))).heap[w.heap.size]? = some (.deferred (some [])) ∧ w.heap.size + 2 ≤ W3.heap.size ∧
            PrivM (fun k => O k ∨ k = w.heap.size + 1) W (W3.putObj (w.heap.size + 1) (.loop (rec (if jump.isNone then .ready else .done) jump))) := fun jump W3 hsp => by
          have hz2 : w.heap.size + 2 ≤ (W'.putObj (w.heap.size + 1) (.loop { rec .ready none with state := .busy })).heap.size := by rw [World.putObj_size]; exact hsz'
          have hl3 := (hsp.block (w.heap.size + 1) (by omega) (fun e => by have := hO _ e; omega)).trans hl2
          have hk3 := (hsp.block w.heap.size (by omega) (fun e => by have := hO _ e; omega)).trans hk2
          have := run_endRound (P := P) jump hl3
          rw [hrec] at this ⊢
          have hz3 : w.heap.size + 2 ≤ W3.heap.size := Nat.le_trans hz2 hsp.size
          rw [hrec] at hsp0 hsp
          exact ⟨this, World.putObj_heap_same (Array.getElem?_eq_some_iff.1 hl3).1, (World.putObj_heap_other (by omega)).trans hk3, hz3, (hsp0.trans (hsp.mono (fun k h => .inl h))).trans (PrivM.putObj _ (.inr rfl) _)⟩
        rintro e a3 W3 hp3
        cases e with
        | normal =>
          obtain ⟨hsp, hi3⟩ := hp3
          obtain ⟨hr, hl4, hk4, hz3, hs4⟩ := fin none W3 hsp
          exact ⟨_, _, hr, .inl ⟨rfl, ⟨hI _ _ _ hi3 (hput _ _), hl4, hk4⟩, hs4⟩⟩
        | ret =>
          obtain ⟨hsp, hi3⟩ := hp3
          obtain ⟨hr, hl4, hk4, hz3, hs4⟩ := fin (some .ret) W3 hsp
          exact ⟨_, _, hr, .inr ⟨rfl, ⟨.ret, hIx _ _ _ _ hi3 (hput _ _), hl4, hk4⟩, hs4⟩⟩
        | exit id =>
          obtain ⟨hsp, hi3⟩ := hp3
          obtain ⟨hr, hl4, hk4, hz3, hs4⟩ := fin (some (.exit id)) W3 hsp
          exact ⟨_, _, hr, .inr ⟨rfl, ⟨.exit id, hIx _ _ _ _ hi3 (hput _ _), hl4, hk4⟩, hs4⟩⟩
        | goto t =>
          obtain ⟨hsp, hi3⟩ := hp3
          obtain ⟨hr, hl4, hk4, hz3, hs4⟩ := fin (some (.goto t)) W3 hsp
          exact ⟨_, _, hr, .inr ⟨rfl, ⟨.goto t, hIx _ _ _ _ hi3 (hput _ _), hl4, hk4⟩, hs4⟩⟩
        | panic ch => exact hp3.elim
        | outgrown => exact hp3.elim
      | ret => exact hp.elim
      | exit id => exact hp.elim
      | goto t => exact hp.elim
      | panic ch => exact hp.elim
      | outgrown => exact hp.elim
    · exact ⟨h0 W1 hwW, hL1, hK1⟩
    · -- behind the iterator
      have htot : ∀ (X : World) (o : Obj), PrivM (fun k => O k ∨ k = w.heap.size + 1) W1 X → PrivM O w (X.putObj (w.heap.size + 1) o) := fun X o h =>
        ⟨h.os.trans hwW.os, h.tape.trans hwW.tape, h.output.trans hwW.output, by rw [World.putObj_size]; exact Nat.le_trans hwW.size h.size, fun k hk hn =>
          (World.putObj_heap_other (by omega)).trans ((h.block k (by omega) (by rintro (e | e); exact hn e; omega)).trans (hwW.block k hk))⟩
      have hzz : ∀ (X : World), PrivM (fun k => O k ∨ k = w.heap.size + 1) W1 X → w.heap.size + 2 ≤ X.heap.size := fun X h => by have := h.size; omega
      rintro e W2 ⟨⟨v, rfl⟩, htr, (⟨xs, hS, hi, hl, hk⟩ | ⟨pre, hSp, c, hi, hl, hk⟩)⟩
      · exact ⟨none, _, by have := run_endLoop (P := P) hl (by rw [hrec]; simp); rw [hrec] at this; exact this,
          hdone _ xs _ rfl (by rw [World.putObj_size]; exact hzz _ htr) hS (hI _ _ _ hi (hput _ _)) (htot _ _ htr) ((World.putObj_heap_other (by omega)).trans hk)⟩
      · exact ⟨some c, _, by have := run_endLoop (P := P) hl (by rw [hrec]; simp); rw [hrec] at this; exact this,
          hstop _ c pre _ rfl (by rw [World.putObj_size]; exact hzz _ htr) hSp (hIx c _ _ _ hi (hput _ _)) (htot _ _ htr) ((World.putObj_heap_other (by omega)).trans hk)⟩
end Go.Proofs.YtcaeohgbgeadaaaGreatDoor

