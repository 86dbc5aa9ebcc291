/- A region that draws its order, each of whose first operations leaves a value of which something is known that a grown world keeps (not a value that is fixed: a new block's address hangs on the order). -/
/- Steps of a drawn region at a frame of which some slots are known. -/
/- A region that draws its order, as in Fl, and behind it the frame as it was, with what the first operations left put into it. -/
import Derived.Test.YtpiadbdkiibdbaaQExt
import Derived.Laws.StructEq
set_option linter.unusedSimpArgs false
set_option linter.unusedVariables false
namespace Go.Proofs.Ytpiadbdkiibdbaa
open Go Go.RowKit

section
variable {P : Program} {ops : Array Oper} {md : Region.Mode}

def dstOf (ops : Array Oper) (i : Nat) : Nat := ((ops[i]?).bind (·.dst)).getD 0
/-- A slot that none of the first n operations writes. -/
def freeB (ops : Array Oper) (n s : Nat) : Bool := (List.range n).all fun i => dstOf ops i != s
theorem freeB_iff {ops : Array Oper} {n s : Nat} : freeB ops n s = true ↔ ∀ i, i < n → dstOf ops i ≠ s := by simp [freeB]
/-- The first n operations: each waits for some only that stand before it, each has a slot of its own; what is left comes up one by one. -/
def flowB (md : Region.Mode) (ops : Array Oper) (n N : Nat) : Bool :=
  decide (n < ops.size) && Region.sinkB md ops n && Region.chainB md ops n &&
  ((List.range n).all fun i => ((ops[i]?).map fun o => o.after.all fun e => !Region.binds md e || decide (e.on < i)).getD false) &&
  ((List.range n).all fun i => match (ops[i]?).bind (·.dst) with | some d => decide (d < N) && (List.range n).all (fun j => i == j || dstOf ops j != d) | none => false) &&
  Region.seqB md ops (ops.size - n) n ((List.replicate n true ++ List.replicate (ops.size - n) false).toArray)

structure FlowInv (md : Region.Mode) (ops : Array Oper) (n N : Nat) (a0 : Act) (w0 : World) (R : Nat → Value → World → Prop) (listed : Array Bool) (a : Act) (w : World) : Prop where
  head : HeadInv md ops n listed
  size : a.tmps.size = N
  dfr : a.defers = a0.defers
  old : ∀ s, freeB ops n s = true → a.tmps.getD s undef = a0.tmps.getD s undef
  rel : ∀ i, i < n → listed.getD i false = true → R i (a.tmps.getD (dstOf ops i) undef) w
  bel : Below w0.heap.size w0 w

theorem listed_full {n : Nat} {listed : Array Bool} (hs : listed.size = ops.size) (hn : n ≤ ops.size) (h1 : ∀ i, i < n → listed.getD i false = true) (h2 : ∀ t, n ≤ t → t < ops.size → listed.getD t true = false) :
    listed = (List.replicate n true ++ List.replicate (ops.size - n) false).toArray := by
  apply Array.ext
  · simp; omega
  · intro i hi hi2
    rcases Nat.lt_or_ge i n with h | h
    · have := h1 i h
      simp [hi] at this
      simp [List.getElem_append, h, this]
    · have := h2 i h (by omega)
      simp [hi] at this
      simp [List.getElem_append, Nat.not_lt.2 h, this]

theorem wpAny_of_flow {n N : Nat} {a0 : Act} {w0 : World} {R : Nat → Value → World → Prop} {Q : Exit → Act → World → Prop} {tl : List Oper}
    (hB : flowB md ops n N = true) (htl : ∀ j, tl[j]? = ops[n + j]?) (htn : tl.length = ops.size - n)
    (hR : ∀ i, i < n → ∀ v w w', R i v w → Below w.heap.size w w' → R i v w')
    (hstep : ∀ i, i < n → ∀ (a : Act) (w : World), a.tmps.size = N → a.defers = a0.defers → (∀ s, freeB ops n s = true → a.tmps.getD s undef = a0.tmps.getD s undef) →
      (∀ j, Region.waitsFor md ops i j = true → R j (a.tmps.getD (dstOf ops j) undef) w) → Below w0.heap.size w0 w →
      ∀ K : Act → World → Prop, (∀ v w', R i v w' → Below w.heap.size w w' → K (a.put (some (dstOf ops i)) v) w') → wpOp P ops Q i K a w)
    (htail : ∀ (a : Act) (w : World), a.tmps.size = N → a.defers = a0.defers → (∀ s, freeB ops n s = true → a.tmps.getD s undef = a0.tmps.getD s undef) →
      (∀ i, i < n → R i (a.tmps.getD (dstOf ops i) undef) w) → Below w0.heap.size w0 w → wpList P ops Q tl a w) :
    ∀ (k : Nat) (listed : Array Bool) (a : Act) (w : World), ((List.range n).filter fun i => !listed.getD i false).length = k → FlowInv md ops n N a0 w0 R listed a w → wpAny P md ops Q (k + (ops.size - n)) listed a w := by
  simp only [flowB, Bool.and_eq_true, decide_eq_true_eq] at hB
  obtain ⟨⟨⟨⟨⟨hn, hs⟩, hc⟩, hlow⟩, hdst⟩, hseq⟩ := hB
  have hd : ∀ i, i < n → ∃ o, ops[i]? = some o ∧ o.dst = some (dstOf ops i) ∧ dstOf ops i < N ∧ ∀ j, j < n → i ≠ j → dstOf ops j ≠ dstOf ops i := by
    intro i hi
    have h1 := List.all_eq_true.1 hdst i (List.mem_range.2 hi)
    have hio : i < ops.size := by omega
    have ho : ops[i]? = some ops[i] := Array.getElem?_eq_getElem hio
    cases hd : ops[i].dst with
    | none => simp [ho, hd] at h1
    | some d =>
      have e : dstOf ops i = d := by simp [dstOf, ho, hd]
      simp only [ho, Option.bind_some, hd, Bool.and_eq_true, decide_eq_true_eq] at h1
      refine ⟨ops[i], ho, by rw [hd, e], by rw [e]; exact h1.1, fun j hj hij => ?_⟩
      have h2 := List.all_eq_true.1 h1.2 j (List.mem_range.2 hj)
      simp only [Bool.or_eq_true, beq_iff_eq, bne_iff_ne] at h2
      rcases h2 with h2 | h2
      · exact absurd h2 hij
      · rw [e]; exact h2
  intro k
  induction k with
  | zero =>
    intro listed a w hk inv
    have hall : ∀ i, i < n → listed.getD i false = true := by
      intro i hi
      have h0 := List.length_eq_zero_iff.1 hk
      have h1 := List.filter_eq_nil_iff.1 h0 i (List.mem_range.2 hi)
      simpa using h1
    have hf := listed_full inv.head.size (by omega) hall inv.head.tail
    rw [Nat.zero_add, ← htn]
    refine wpAny_of_seq (md := md) (Q' := Q) tl n listed a w htl ?_ (htail a w inv.size inv.dfr inv.old (fun i hi => inv.rel i hi (hall i hi)) inv.bel)
    rw [htn, hf]
    exact hseq
  | succ k ih =>
    intro listed a w hk inv
    have hex : ∃ i, i < n ∧ listed.getD i false = false := by
      refine Classical.byContradiction fun h => ?_
      have : ((List.range n).filter fun i => !listed.getD i false) = [] := by
        rw [List.filter_eq_nil_iff]
        intro i hi hb
        exact h ⟨i, List.mem_range.1 hi, by simpa using hb⟩
      rw [this] at hk
      simp at hk
    rw [show k + 1 + (ops.size - n) = (k + (ops.size - n)) + 1 by omega]
    have hin : ∀ i, i < n → listed.getD i false = false → listed.getD i true = false := fun i hi h => getD_in (by rw [inv.head.size]; omega) h
    refine ⟨fun h0 => ?_, fun i hi => ?_⟩
    · exfalso
      obtain ⟨i, hi, hl⟩ := hex
      -- the least that is not listed is ready
      have key : ∀ m, m ≤ n → (∀ j, j < m → listed.getD j false = true) ∨ ∃ j, j < m ∧ listed.getD j false = false ∧ ∀ j', j' < j → listed.getD j' false = true := by
        intro m
        induction m with
        | zero => intro _; exact .inl (fun j hj => by omega)
        | succ m ihm =>
          intro hm
          rcases ihm (by omega) with h | ⟨j, hj, hj2⟩
          · cases hlm : listed.getD m false with
            | true => exact .inl (fun j hj => by rcases Nat.lt_succ_iff_lt_or_eq.1 hj with h' | rfl; exact h j h'; exact hlm)
            | false => exact .inr ⟨m, by omega, hlm, h⟩
          · exact .inr ⟨j, by omega, hj2⟩
      rcases key n (Nat.le_refl _) with h | ⟨j, hj, hj1, hj2⟩
      · rw [h i hi] at hl; cases hl
      · have hjo : j < ops.size := by omega
        have hr : j ∈ Region.ready md ops listed := by
          refine mem_ready.2 ⟨hin j hj hj1, ops[j], Array.getElem?_eq_getElem hjo, fun e he hb => ?_⟩
          have h1 := List.all_eq_true.1 hlow j (List.mem_range.2 hj)
          simp only [Array.getElem?_eq_getElem hjo, Option.map_some, Option.getD_some, Array.all_eq_true_iff_forall_mem, Bool.or_eq_true, Bool.not_eq_true', decide_eq_true_eq] at h1
          rcases h1 e he with h2 | h2
          · rw [hb] at h2; cases h2
          · exact hj2 e.on h2
        rw [h0] at hr
        cases hr
    · have hin2 : i < n := by
        rcases Nat.lt_or_ge i n with h | h
        · exact h
        · obtain ⟨j, hj, hl⟩ := hex
          exact absurd hi (tail_waits hs hc hn inv.head _ j rfl hj (hin j hj hl) i h)
      obtain ⟨o, ho, hod, hdN, hne⟩ := hd i hin2
      obtain ⟨hun, oi, hoi, hall⟩ := mem_ready.1 hi
      have : oi = o := Option.some.inj (hoi.symm.trans ho)
      subst this
      refine hstep i hin2 a w inv.size inv.dfr inv.old (fun j hj => ?_) inv.bel _ (fun v w' hv hb => ?_)
      · obtain ⟨oj, hoj, e, he, hbd, hon⟩ := Region.waitsFor_spec hj
        have : oj = oi := Option.some.inj (hoj.symm.trans hoi)
        subst this
        have hl := hall e he hbd
        rw [hon] at hl
        have hjn : j < n := by
          have h1 := List.all_eq_true.1 hlow i (List.mem_range.2 hin2)
          simp only [ho, Option.map_some, Option.getD_some, Array.all_eq_true_iff_forall_mem, Bool.or_eq_true, Bool.not_eq_true', decide_eq_true_eq] at h1
          rcases h1 e he with h2 | h2
          · rw [hbd] at h2; cases h2
          · omega
        exact inv.rel j hjn hl
      · refine ih _ _ _ ?_ ⟨inv.head.set hi hin2, by simp [Act.put, inv.size], by simpa [Act.put] using inv.dfr, fun s hs' => ?_, fun j hj hl => ?_, inv.bel.trans (hb.mono inv.bel.size)⟩
        · -- one fewer
          have hlt : i < listed.size := by rw [inv.head.size]; omega
          have e : ∀ j, (listed.setIfInBounds i true).getD j false = (j == i || listed.getD j false) := by
            intro j
            by_cases hji : i = j
            · subst hji; simp [hlt]
            · rw [getD_set_ne false hji]; simp [Ne.symm hji]
          have hcount : ∀ (l : List Nat), l.Nodup → i ∈ l → (l.filter fun j => !listed.getD j false).length = (l.filter fun j => !(listed.setIfInBounds i true).getD j false).length + 1 := by
            intro l
            induction l with
            | nil => intro _ h; cases h
            | cons x l ihl =>
              intro hnd hm
              have hx := (List.nodup_cons.1 hnd)
              by_cases hxi : x = i
              · subst hxi
                have hl0 : listed.getD x false = false := getD_both hun
                have hrest : (l.filter fun j => !listed.getD j false) = l.filter fun j => !(listed.setIfInBounds x true).getD j false := by
                  apply List.filter_congr
                  intro j hj
                  have hjx : j ≠ x := fun h => hx.1 (h ▸ hj)
                  rw [e j]
                  simp [hjx]
                rw [List.filter_cons_of_pos (by simp only [hl0]; rfl), List.filter_cons_of_neg (by rw [e x]; simp), ← hrest]
                rfl
              · have hm' : i ∈ l := by rcases List.mem_cons.1 hm with h | h; exact absurd h.symm hxi; exact h
                have := ihl hx.2 hm'
                have ex : (listed.setIfInBounds i true).getD x false = listed.getD x false := by rw [e x]; simp [hxi]
                cases hlx : listed.getD x false with
                | true => rw [List.filter_cons_of_neg (by rw [hlx]; simp), List.filter_cons_of_neg (by rw [ex, hlx]; simp)]; exact this
                | false => rw [List.filter_cons_of_pos (by rw [hlx]; rfl), List.filter_cons_of_pos (by rw [ex, hlx]; rfl)]; simp only [List.length_cons]; omega
          have := hcount (List.range n) List.nodup_range (List.mem_range.2 hin2)
          omega
        · have hsi : dstOf ops i ≠ s := freeB_iff.1 hs' i hin2
          rw [← inv.old s hs']
          simp [Act.put, Array.getElem?_setIfInBounds_ne hsi]
        · by_cases hij : i = j
          · subst hij
            have : (a.put (some (dstOf ops i)) v).tmps.getD (dstOf ops i) undef = v := by
              have : dstOf ops i < a.tmps.size := by rw [inv.size]; exact hdN
              simp [Act.put, this]
            rw [this]
            exact hv
          · rw [getD_set_ne false hij] at hl
            have hdj := hne j hj hij
            have : (a.put (some (dstOf ops i)) v).tmps.getD (dstOf ops j) undef = a.tmps.getD (dstOf ops j) undef := by
              simp [Act.put, Array.getElem?_setIfInBounds_ne (Ne.symm hdj)]
            rw [this]
            exact hR _ hj _ _ _ (inv.rel j hj hl) hb
end

theorem wpOp_get {P : Program} {ops : Array Oper} {Q : Exit → Act → World → Prop} {i : Nat} {o : Oper} {K : Act → World → Prop} {a : Act} {w : World} (h : ops[i]? = some o)
    (h2 : if Region.wanted o (yielded ops a.tmps) = true then Oper.wp P o a w K Q else K (a.put o.dst undef) w) : wpOp P ops Q i K a w := by
  unfold wpOp
  simp only [h]
  by_cases hw : Region.wanted o (yielded ops a.tmps) = true
  · rw [if_pos hw] at h2 ⊢; exact .inl h2
  · rw [if_neg hw] at h2 ⊢; exact h2
/-- The law. -/
theorem wp_region_flow {P : Program} {id : Nat} {Q : Exit → Act → World → Prop} {a0 : Act} {w0 : World} {l : List Oper} (n N : Nat) (R : Nat → Value → World → Prop) (hm : P.follows .mixedOrders = true) (hB : flowB .any l.toArray n N = true) (hN : a0.tmps.size = N)
    (hR : ∀ i, i < n → ∀ v w w', R i v w → Below w.heap.size w w' → R i v w')
    (hstep : ∀ i, i < n → ∀ (a : Act) (w : World), a.tmps.size = N → a.defers = a0.defers → (∀ s, freeB l.toArray n s = true → a.tmps.getD s undef = a0.tmps.getD s undef) →
      (∀ j, Region.waitsFor .any l.toArray i j = true → R j (a.tmps.getD (dstOf l.toArray j) undef) w) → Below w0.heap.size w0 w →
      ∀ K : Act → World → Prop, (∀ v w', R i v w' → Below w.heap.size w w' → K (a.put (some (dstOf l.toArray i)) v) w') → wpOp P l.toArray Q i K a w)
    (htail : ∀ (a : Act) (w : World), a.tmps.size = N → a.defers = a0.defers → (∀ s, freeB l.toArray n s = true → a.tmps.getD s undef = a0.tmps.getD s undef) →
      (∀ i, i < n → R i (a.tmps.getD (dstOf l.toArray i) undef) w) → Below w0.heap.size w0 w → wpList P l.toArray Q (l.drop n) a w) :
    (Code.region id l.toArray true).wp P Q a0 w0 := by
  have hn : n < l.length := by
    simp only [flowB, Bool.and_eq_true, decide_eq_true_eq] at hB
    simpa using hB.1.1.1.1.1
  refine wp_region_any hm ?_
  have h0 : ((List.range n).filter fun i => !(Array.replicate l.toArray.size false).getD i false).length = n := by
    rw [List.filter_eq_self.2 (fun i _ => by rw [getD_replicate_false]; rfl)]
    simp
  have := wpAny_of_flow (P := P) (ops := l.toArray) (md := .any) (n := n) (N := N) (a0 := a0) (w0 := w0) (R := R) (Q := Q) (tl := l.drop n) hB (fun j => by simp [List.getElem?_drop]) (by simp) hR hstep htail n
    (Array.replicate l.toArray.size false) a0 { w0 with drawn := w0.drawn + 1 } h0
    ⟨⟨by simp, fun j oj _ hl => (by rw [getD_replicate_false] at hl; cases hl), fun t _ ht => getD_in (by simpa using ht) (getD_replicate_false _ _)⟩, hN, rfl, fun _ _ => rfl, fun i _ hl => (by rw [getD_replicate_false] at hl; cases hl), Below.drew (Below.refl _ _)⟩
  have e : n + (l.toArray.size - n) = l.toArray.size := by simp; omega
  rw [e] at this
  exact this
end Go.Proofs.Ytpiadbdkiibdbaa

namespace Go.Proofs.Ytpiadbdkiibdbaa
open Go Go.RowKit

section
variable {P : Program} {ops : Array Oper} {Q : Exit → Act → World → Prop} {i : Nat} {o : Oper} {K : Act → World → Prop} {a : Act} {w : World}

theorem wanted_none {y : Nat → Option Bool} (h : o.guard = none) : Region.wanted o y = true := by simp [Region.wanted, h]
theorem wanted_some {g s : Nat} {b : Bool} (h : o.guard = some (g, b)) (hs : (ops[g]?).bind (·.dst) = some s) (hv : a.tmps.getD s undef = .bool b) : Region.wanted o (yielded ops a.tmps) = true := by
  have h2 : a.tmps[s]? = some (.bool b) := by
    cases h3 : a.tmps[s]? with
    | none => simp [Array.getD_eq_getD_getElem?, h3, undef] at hv
    | some x => simp [Array.getD_eq_getD_getElem?, h3] at hv; rw [hv]
  simp [Region.wanted, h, yielded, hs, h2]
theorem wpOp_want (h : ops[i]? = some o) (hw : Region.wanted o (yielded ops a.tmps) = true) (h2 : Oper.wp P o a w K Q) : wpOp P ops Q i K a w := wpOp_get h (by rw [if_pos hw]; exact h2)
theorem st_val {v : Value} (h : ops[i]? = some o) (hw : Region.wanted o (yielded ops a.tmps) = true) (hr : (execOp a.eval o).run P w = .ok (.value v) w) (hK : K (a.put o.dst v) w) : wpOp P ops Q i K a w := by
  refine wpOp_want h hw ?_
  unfold Oper.wp
  rw [hr]
  exact hK
theorem run_pick (ρ : Operand → Value) {s : Nat} {x y : Operand} {b : Bool} {v : Value} (hop : o.op = .pick (.tmp s) x y) (hs : ρ (.tmp s) = .bool b) (hv : (if b then ρ x else ρ y) = v) : (execOp ρ o).run P w = .ok (.value v) w := by
  unfold execOp
  cases b <;> simp [hop, hs, go_sem] at hv ⊢ <;> exact hv
theorem run_not (ρ : Operand → Value) {s : Nat} {ty : TypeId} {b : Bool} (hop : o.op = .unOp .not ty (.tmp s)) (hs : ρ (.tmp s) = .bool b) : (execOp ρ o).run P w = .ok (.value (.bool (!b))) w := by
  unfold execOp
  simp [hop, hs, go_sem]
theorem run_neq (ρ : Operand → Value) {s : Nat} {t t2 : TypeId} {m n : Int} (hop : o.op = .binOp .neq t (.tmp s) (.const (.int .i64 n)) t2) (hs : ρ (.tmp s) = .int .i64 m) (hn : ρ (.const (.int .i64 n)) = .int .i64 n) : (execOp ρ o).run P w = .ok (.value (.bool (m != n))) w := by
  unfold execOp
  simp [hop, hs, hn, go_sem]
theorem st_move {s : Nat} {v : Value} (h : ops[i]? = some o) (hop : o.op = .move (.tmp s)) (hw : Region.wanted o (yielded ops a.tmps) = true) (hs : a.tmps.getD s undef = v) (hK : K (a.put o.dst v) w) : wpOp P ops Q i K a w := by
  refine st_val h hw ?_ hK
  unfold execOp
  simp only [hop, Act.eval, hs, Sem.run_pure]
theorem st_pick {s : Nat} {x y : Operand} {b : Bool} {v : Value} (h : ops[i]? = some o) (hop : o.op = .pick (.tmp s) x y) (hw : Region.wanted o (yielded ops a.tmps) = true) (hs : a.tmps.getD s undef = .bool b) (hv : (if b then a.eval x else a.eval y) = v) (hK : K (a.put o.dst v) w) : wpOp P ops Q i K a w :=
  st_val h hw (run_pick _ hop hs hv) hK
theorem st_not {s : Nat} {ty : TypeId} {b : Bool} (h : ops[i]? = some o) (hop : o.op = .unOp .not ty (.tmp s)) (hw : Region.wanted o (yielded ops a.tmps) = true) (hs : a.tmps.getD s undef = .bool b) (hK : K (a.put o.dst (.bool (!b))) w) : wpOp P ops Q i K a w :=
  st_val h hw (run_not _ hop hs) hK
theorem st_neq {s : Nat} {t t2 : TypeId} {m n : Int} (h : ops[i]? = some o) (hop : o.op = .binOp .neq t (.tmp s) (.const (.int .i64 n)) t2) (hw : Region.wanted o (yielded ops a.tmps) = true) (hs : a.tmps.getD s undef = .int .i64 m) (hK : K (a.put o.dst (.bool (m != n))) w) : wpOp P ops Q i K a w :=
  st_val h hw (run_neq _ hop hs rfl) hK
end
end Go.Proofs.Ytpiadbdkiibdbaa

namespace Go.Proofs.Ytpiadbdkiibdbaa
open Go Go.RowKit

section
variable {ops : Array Oper} {a0 : Act} {vs : Nat → Value}
def putAll (ops : Array Oper) (a0 : Act) (vs : Nat → Value) : Nat → Act
  | 0 => a0
  | k + 1 => (putAll ops a0 vs k).put (some (dstOf ops k)) (vs k)
theorem putAll_size (k : Nat) : (putAll ops a0 vs k).tmps.size = a0.tmps.size := by
  induction k with
  | zero => rfl
  | succ k ih => simp [putAll, Act.put, ih]
theorem putAll_dfr (k : Nat) : (putAll ops a0 vs k).defers = a0.defers := by
  induction k with
  | zero => rfl
  | succ k ih => simp [putAll, Act.put, ih]
theorem putAll_get (k : Nat) (hd : ∀ i j, i < k → j < k → i ≠ j → dstOf ops i ≠ dstOf ops j) (hN : ∀ i, i < k → dstOf ops i < a0.tmps.size) :
    (∀ i, i < k → (putAll ops a0 vs k).tmps.getD (dstOf ops i) undef = vs i) ∧ ∀ s, (∀ i, i < k → dstOf ops i ≠ s) → (putAll ops a0 vs k).tmps.getD s undef = a0.tmps.getD s undef := by
  induction k with
  | zero => exact ⟨fun i hi => by omega, fun _ _ => rfl⟩
  | succ k ih =>
    obtain ⟨h1, h2⟩ := ih (fun i j hi hj hij => hd i j (by omega) (by omega) hij) (fun i hi => hN i (by omega))
    have hne : ∀ s v, dstOf ops k ≠ s → ((putAll ops a0 vs k).put (some (dstOf ops k)) v).tmps.getD s undef = (putAll ops a0 vs k).tmps.getD s undef := fun s v h => by
      simp only [Act.put, Array.getD_eq_getD_getElem?, Array.getElem?_setIfInBounds, if_neg h]
    refine ⟨fun i hi => ?_, fun s hs => ?_⟩
    · by_cases e : i = k
      · subst e
        have := hN i (by omega)
        have hsz := putAll_size (ops := ops) (a0 := a0) (vs := vs) i
        simp only [putAll, Act.put, Array.getD_eq_getD_getElem?, Array.getElem?_setIfInBounds, if_true]
        rw [if_pos (by omega)]
        rfl
      · rw [putAll, hne _ _ (hd k i (by omega) (by omega) (Ne.symm e))]
        exact h1 i (by omega)
    · rw [putAll, hne _ _ (hs k (by omega))]
      exact h2 s (fun i hi => hs i (by omega))
end

/-- The law, with the frame brought back. -/
theorem wp_region_flow_back {P : Program} {id : Nat} {Q : Exit → Act → World → Prop} {a0 : Act} {w0 : World} {l : List Oper} (n N : Nat) (R : Nat → Value → World → Prop) (hm : P.follows .mixedOrders = true) (hB : flowB .any l.toArray n N = true) (hN : a0.tmps.size = N)
    (hR : ∀ i, i < n → ∀ v w w', R i v w → Below w.heap.size w w' → R i v w')
    (hstep : ∀ i, i < n → ∀ (a : Act) (w : World), a.tmps.size = N → a.defers = a0.defers → (∀ s, freeB l.toArray n s = true → a.tmps.getD s undef = a0.tmps.getD s undef) →
      (∀ j, Region.waitsFor .any l.toArray i j = true → R j (a.tmps.getD (dstOf l.toArray j) undef) w) → Below w0.heap.size w0 w →
      ∀ K : Act → World → Prop, (∀ v w', R i v w' → Below w.heap.size w w' → K (a.put (some (dstOf l.toArray i)) v) w') → wpOp P l.toArray Q i K a w)
    (htail : ∀ (vs : Nat → Value) (w : World), (∀ i, i < n → R i (vs i) w) → Below w0.heap.size w0 w → wpList P l.toArray Q (l.drop n) (putAll l.toArray a0 vs n) w) :
    (Code.region id l.toArray true).wp P Q a0 w0 := by
  refine wp_region_flow n N R hm hB hN hR hstep ?_
  intro a w h1 h2 h3 h4 h5
  simp only [flowB, Bool.and_eq_true, decide_eq_true_eq] at hB
  obtain ⟨⟨-, hdst⟩, -⟩ := hB
  have hd : ∀ i, i < n → dstOf l.toArray i < N ∧ ∀ j, j < n → i ≠ j → dstOf l.toArray j ≠ dstOf l.toArray i := by
    intro i hi
    have h6 := List.all_eq_true.1 hdst i (List.mem_range.2 hi)
    split at h6
    · rename_i d hdd
      have e : dstOf l.toArray i = d := by unfold dstOf; rw [hdd]; rfl
      simp only [Bool.and_eq_true, decide_eq_true_eq] at h6
      refine ⟨by rw [e]; exact h6.1, fun j hj hij => ?_⟩
      have h7 := List.all_eq_true.1 h6.2 j (List.mem_range.2 hj)
      simp only [Bool.or_eq_true, beq_iff_eq, bne_iff_ne] at h7
      rw [e]
      rcases h7 with h7 | h7
      · exact absurd h7 hij
      · exact h7
    · cases h6
  obtain ⟨g1, g2⟩ := putAll_get (ops := l.toArray) (a0 := a0) (vs := fun i => a.tmps.getD (dstOf l.toArray i) undef) n (fun i j hi hj hij => Ne.symm ((hd i hi).2 j hj hij)) (fun i hi => by rw [hN]; exact (hd i hi).1)
  have e : putAll l.toArray a0 (fun i => a.tmps.getD (dstOf l.toArray i) undef) n = a := by
    have hs := putAll_size (ops := l.toArray) (a0 := a0) (vs := fun i => a.tmps.getD (dstOf l.toArray i) undef) n
    have hdf := putAll_dfr (ops := l.toArray) (a0 := a0) (vs := fun i => a.tmps.getD (dstOf l.toArray i) undef) n
    have ht : (putAll l.toArray a0 (fun i => a.tmps.getD (dstOf l.toArray i) undef) n).tmps = a.tmps := by
      refine Array.ext (by rw [hs, hN, h1]) (fun s hs1 hs2 => ?_)
      have key : (putAll l.toArray a0 (fun i => a.tmps.getD (dstOf l.toArray i) undef) n).tmps.getD s undef = a.tmps.getD s undef := by
        by_cases hx : freeB l.toArray n s = true
        · rw [g2 s (freeB_iff.1 hx), h3 s hx]
        · have : ∃ i, i < n ∧ dstOf l.toArray i = s := by
            refine Classical.byContradiction fun hc => hx (freeB_iff.2 (fun i hi he => hc ⟨i, hi, he⟩))
          obtain ⟨i, hi, rfl⟩ := this
          exact g1 i hi
      have gd : ∀ (x : Array Value) (s : Nat) (h : s < x.size), x.getD s undef = x[s] := fun x s h => by simp [Array.getD, h]
      rw [gd _ _ hs1, gd _ _ hs2] at key
      exact key
    cases a
    generalize putAll l.toArray a0 _ n = b at *
    cases b
    simp only at ht hdf h2
    rw [ht, hdf, h2]
  have := htail _ w h4 h5
  rw [e] at this
  exact this
end Go.Proofs.Ytpiadbdkiibdbaa

