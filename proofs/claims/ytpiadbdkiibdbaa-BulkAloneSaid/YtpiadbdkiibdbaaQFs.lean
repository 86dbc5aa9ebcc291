/- A region that draws its order, as in Fl and Fn, one of whose operations is a store into memory that the region itself makes: what is known ahead of it is told apart from what is known behind it. -/
import Derived.Test.YtpiadbdkiibdbaaQFh
set_option linter.unusedSimpArgs false
set_option linter.unusedVariables false
namespace Go.Proofs.Ytpiadbdkiibdbaa
open Go Go.RowKit

/-- As flowB, but one of the first n operations is a store: it writes no slot. -/
def flowS (md : Region.Mode) (ops : Array Oper) (n N k0 : Nat) : Bool :=
  decide (n < ops.size) && Region.sinkB md ops n && Region.chainB md ops n &&
  ((List.range n).all fun i => ((ops[i]?).map fun o => o.after.all fun e => !Region.binds md e || decide (e.on < i)).getD false) &&
  ((List.range n).all fun i => match (ops[i]?).bind (·.dst) with | some d => decide (i ≠ k0) && decide (d < N) && (List.range n).all (fun j => i == j || j == k0 || dstOf ops j != d) | none => decide (i = k0)) &&
  Region.seqB md ops (ops.size - n) n ((List.replicate n true ++ List.replicate (ops.size - n) false).toArray)
/-- A slot that none of the first n operations writes. -/
def freeS (ops : Array Oper) (n k0 s : Nat) : Bool := (List.range n).all fun i => i == k0 || dstOf ops i != s
theorem freeS_iff {ops : Array Oper} {n k0 s : Nat} : freeS ops n k0 s = true ↔ ∀ i, i < n → i ≠ k0 → dstOf ops i ≠ s := by
  simp only [freeS, List.all_eq_true, List.mem_range, Bool.or_eq_true, beq_iff_eq, bne_iff_ne]
  exact ⟨fun h i hi hk => (h i hi).resolve_left hk, fun h i hi => by by_cases hk : i = k0; exact .inl hk; exact .inr (h i hi hk)⟩
section
variable {P : Program} {ops : Array Oper} {md : Region.Mode}
structure FlowInvS (md : Region.Mode) (ops : Array Oper) (n N k0 : Nat) (a0 : Act) (w0 : World) (S : World → Prop) (R : Bool → Nat → Value → World → Prop) (listed : Array Bool) (a : Act) (w : World) : Prop where
  head : HeadInv md ops n listed
  size : a.tmps.size = N
  dfr : a.defers = a0.defers
  old : ∀ s, freeS ops n k0 s = true → a.tmps.getD s undef = a0.tmps.getD s undef
  rel : ∀ i, i < n → i ≠ k0 → listed.getD i false = true → R (listed.getD k0 false) i (a.tmps.getD (dstOf ops i) undef) w
  bel : Below (w0.heap.size) w0 w
  put : listed.getD k0 false = true → S w

theorem wpAny_of_flowS {n N : Nat} {a0 : Act} {w0 : World} {k0 : Nat} {S : World → Prop} {R : Bool → Nat → Value → World → Prop} {Q : Exit → Act → World → Prop} {tl : List Oper}
    (hB : flowS md ops n N k0 = true) (htl : ∀ j, tl[j]? = ops[n + j]?) (htn : tl.length = ops.size - n)
    (hk0 : k0 < n) (hR : ∀ f i, i < n → i ≠ k0 → ∀ v w w', R f i v w → Below w.heap.size w w' → R f i v w') (hS : ∀ w w', S w → Below w.heap.size w w' → S w')
    (hstep : ∀ i, i < n → i ≠ k0 → ∀ (f : Bool) (a : Act) (w : World), a.tmps.size = N → a.defers = a0.defers → (∀ s, freeS ops n k0 s = true → a.tmps.getD s undef = a0.tmps.getD s undef) →
      (∀ j, j ≠ k0 → Region.waitsFor md ops i j = true → R f j (a.tmps.getD (dstOf ops j) undef) w) → Below (w0.heap.size) w0 w → (f = true → Region.waitsFor md ops k0 i = false) →
      ∀ K : Act → World → Prop, (∀ v w', R f i v w' → Below w.heap.size w w' → K (a.put (some (dstOf ops i)) v) w') → wpOp P ops Q i K a w)
    (hone : ∀ (a : Act) (w : World), a.tmps.size = N → a.defers = a0.defers → (∀ s, freeS ops n k0 s = true → a.tmps.getD s undef = a0.tmps.getD s undef) →
      (∀ j, j ≠ k0 → Region.waitsFor md ops k0 j = true → R false j (a.tmps.getD (dstOf ops j) undef) w) → Below (w0.heap.size) w0 w →
      ∀ K : Act → World → Prop, (∀ w', S w' → (∀ j, j < n → j ≠ k0 → R false j (a.tmps.getD (dstOf ops j) undef) w → R true j (a.tmps.getD (dstOf ops j) undef) w') → Below (w0.heap.size) w w' → K a w') → wpOp P ops Q k0 K a w)
    (htail : ∀ (a : Act) (w : World), a.tmps.size = N → a.defers = a0.defers → (∀ s, freeS ops n k0 s = true → a.tmps.getD s undef = a0.tmps.getD s undef) →
      (∀ i, i < n → i ≠ k0 → R true i (a.tmps.getD (dstOf ops i) undef) w) → S w → Below (w0.heap.size) w0 w → wpList P ops Q tl a w) :
    ∀ (k : Nat) (listed : Array Bool) (a : Act) (w : World), ((List.range n).filter fun i => !listed.getD i false).length = k → FlowInvS md ops n N k0 a0 w0 S R listed a w → wpAny P md ops Q (k + (ops.size - n)) listed a w := by
  simp only [flowS, Bool.and_eq_true, decide_eq_true_eq] at hB
  obtain ⟨⟨⟨⟨⟨hn, hs⟩, hc⟩, hlow⟩, hdst⟩, hseq⟩ := hB
  have hd : ∀ i, i < n → ∃ o, ops[i]? = some o ∧ (i ≠ k0 → o.dst = some (dstOf ops i) ∧ dstOf ops i < N ∧ ∀ j, j < n → j ≠ k0 → i ≠ j → dstOf ops j ≠ dstOf ops i) := by
    intro i hi
    have h1 := List.all_eq_true.1 hdst i (List.mem_range.2 hi)
    have hio : i < ops.size := by omega
    have ho : ops[i]? = some ops[i] := Array.getElem?_eq_getElem hio
    refine ⟨ops[i], ho, fun hik => ?_⟩
    cases hd : ops[i].dst with
    | none => simp [ho, hd] at h1; exact absurd h1 hik
    | some d =>
      have e : dstOf ops i = d := by simp [dstOf, ho, hd]
      simp only [ho, Option.bind_some, hd, Bool.and_eq_true, decide_eq_true_eq] at h1
      refine ⟨by rw [e], by rw [e]; exact h1.1.2, fun j hj hjk hij => ?_⟩
      have h2 := List.all_eq_true.1 h1.2 j (List.mem_range.2 hj)
      simp only [Bool.or_eq_true, beq_iff_eq, bne_iff_ne] at h2
      rcases h2 with (h2 | h2) | h2
      · exact absurd h2 hij
      · exact absurd h2 hjk
      · rw [e]; exact h2
  intro k
  induction k with
  | zero =>
    intro listed a w hk inv
    have hall : ∀ i, i < n → listed.getD i false = true := by
      intro i hi
      have h0 := List.length_eq_zero_iff.1 hk
      have h1 := List.filter_eq_nil_iff.1 h0 i (List.mem_range.2 hi)
      simpa using h1
    have hf := listed_full inv.head.size (by omega) hall inv.head.tail
    rw [Nat.zero_add, ← htn]
    refine wpAny_of_seq (md := md) (Q' := Q) tl n listed a w htl ?_ (htail a w inv.size inv.dfr inv.old (fun i hi hik => by have := inv.rel i hi hik (hall i hi); rw [hall k0 hk0] at this; exact this) (inv.put (hall k0 hk0)) inv.bel)
    rw [htn, hf]
    exact hseq
  | succ k ih =>
    intro listed a w hk inv
    have hex : ∃ i, i < n ∧ listed.getD i false = false := by
      refine Classical.byContradiction fun h => ?_
      have : ((List.range n).filter fun i => !listed.getD i false) = [] := by
        rw [List.filter_eq_nil_iff]
        intro i hi hb
        exact h ⟨i, List.mem_range.1 hi, by simpa using hb⟩
      rw [this] at hk
      simp at hk
    rw [show k + 1 + (ops.size - n) = (k + (ops.size - n)) + 1 by omega]
    have hin : ∀ i, i < n → listed.getD i false = false → listed.getD i true = false := fun i hi h => getD_in (by rw [inv.head.size]; omega) h
    refine ⟨fun h0 => ?_, fun i hi => ?_⟩
    · exfalso
      obtain ⟨i, hi, hl⟩ := hex
      -- the least that is not listed is ready
      have key : ∀ m, m ≤ n → (∀ j, j < m → listed.getD j false = true) ∨ ∃ j, j < m ∧ listed.getD j false = false ∧ ∀ j', j' < j → listed.getD j' false = true := by
        intro m
        induction m with
        | zero => intro _; exact .inl (fun j hj => by omega)
        | succ m ihm =>
          intro hm
          rcases ihm (by omega) with h | ⟨j, hj, hj2⟩
          · cases hlm : listed.getD m false with
            | true => exact .inl (fun j hj => by rcases Nat.lt_succ_iff_lt_or_eq.1 hj with h' | rfl; exact h j h'; exact hlm)
            | false => exact .inr ⟨m, by omega, hlm, h⟩
          · exact .inr ⟨j, by omega, hj2⟩
      rcases key n (Nat.le_refl _) with h | ⟨j, hj, hj1, hj2⟩
      · rw [h i hi] at hl; cases hl
      · have hjo : j < ops.size := by omega
        have hr : j ∈ Region.ready md ops listed := by
          refine mem_ready.2 ⟨hin j hj hj1, ops[j], Array.getElem?_eq_getElem hjo, fun e he hb => ?_⟩
          have h1 := List.all_eq_true.1 hlow j (List.mem_range.2 hj)
          simp only [Array.getElem?_eq_getElem hjo, Option.map_some, Option.getD_some, Array.all_eq_true_iff_forall_mem, Bool.or_eq_true, Bool.not_eq_true', decide_eq_true_eq] at h1
          rcases h1 e he with h2 | h2
          · rw [hb] at h2; cases h2
          · exact hj2 e.on h2
        rw [h0] at hr
        cases hr
    · have hin2 : i < n := by
        rcases Nat.lt_or_ge i n with h | h
        · exact h
        · obtain ⟨j, hj, hl⟩ := hex
          exact absurd hi (tail_waits hs hc hn inv.head _ j rfl hj (hin j hj hl) i h)
      obtain ⟨o, ho, hdo⟩ := hd i hin2
      obtain ⟨hun, oi, hoi, hall⟩ := mem_ready.1 hi
      have : oi = o := Option.some.inj (hoi.symm.trans ho)
      subst this
      have hw : ∀ j, Region.waitsFor md ops i j = true → j < n ∧ listed.getD j false = true := fun j hj => by
        obtain ⟨oj, hoj, e, he, hbd, hon⟩ := Region.waitsFor_spec hj
        have : oj = oi := Option.some.inj (hoj.symm.trans hoi)
        subst this
        have hl := hall e he hbd
        rw [hon] at hl
        refine ⟨?_, hl⟩
        have h1 := List.all_eq_true.1 hlow i (List.mem_range.2 hin2)
        simp only [ho, Option.map_some, Option.getD_some, Array.all_eq_true_iff_forall_mem, Bool.or_eq_true, Bool.not_eq_true', decide_eq_true_eq] at h1
        rcases h1 e he with h2 | h2
        · rw [hbd] at h2; cases h2
        · omega
      have hfew : ((List.range n).filter fun j => !(listed.setIfInBounds i true).getD j false).length = k := by
        have hlt : i < listed.size := by rw [inv.head.size]; omega
        have e : ∀ j, (listed.setIfInBounds i true).getD j false = (j == i || listed.getD j false) := by
          intro j
          by_cases hji : i = j
          · subst hji; simp [hlt]
          · rw [getD_set_ne false hji]; simp [Ne.symm hji]
        have hcount : ∀ (l : List Nat), l.Nodup → i ∈ l → (l.filter fun j => !listed.getD j false).length = (l.filter fun j => !(listed.setIfInBounds i true).getD j false).length + 1 := by
          intro l
          induction l with
          | nil => intro _ h; cases h
          | cons x l ihl =>
            intro hnd hm
            have hx := (List.nodup_cons.1 hnd)
            by_cases hxi : x = i
            · subst hxi
              have hl0 : listed.getD x false = false := getD_both hun
              have hrest : (l.filter fun j => !listed.getD j false) = l.filter fun j => !(listed.setIfInBounds x true).getD j false := by
                apply List.filter_congr
                intro j hj
                have hjx : j ≠ x := fun h => hx.1 (h ▸ hj)
                rw [e j]
                simp [hjx]
              rw [List.filter_cons_of_pos (by simp only [hl0]; rfl), List.filter_cons_of_neg (by rw [e x]; simp), ← hrest]
              rfl
            · have hm' : i ∈ l := by rcases List.mem_cons.1 hm with h | h; exact absurd h.symm hxi; exact h
              have := ihl hx.2 hm'
              have ex : (listed.setIfInBounds i true).getD x false = listed.getD x false := by rw [e x]; simp [hxi]
              cases hlx : listed.getD x false with
              | true => rw [List.filter_cons_of_neg (by rw [hlx]; simp), List.filter_cons_of_neg (by rw [ex, hlx]; simp)]; exact this
              | false => rw [List.filter_cons_of_pos (by rw [hlx]; rfl), List.filter_cons_of_pos (by rw [ex, hlx]; rfl)]; simp only [List.length_cons]; omega
        have := hcount (List.range n) List.nodup_range (List.mem_range.2 hin2)
        omega
      have hl0 : listed.getD i false = false := getD_both hun
      by_cases hik : i = k0
      · subst hik
        have hlt : i < listed.size := by rw [inv.head.size]; omega
        have hl1 : (listed.setIfInBounds i true).getD i false = true := by simp [hlt]
        refine hone a w inv.size inv.dfr inv.old (fun j hjk hj => ?_) inv.bel _ (fun w' hs' hk' hb => ih _ _ _ hfew ⟨inv.head.set hi hin2, inv.size, inv.dfr, inv.old, fun j hj hji hl => ?_, inv.bel.trans hb, fun _ => hs'⟩)
        · obtain ⟨h1, h2⟩ := hw j hj
          have := inv.rel j h1 hjk h2
          rw [hl0] at this
          exact this
        · rw [getD_set_ne false (Ne.symm hji)] at hl
          have := inv.rel j hj hji hl
          rw [hl0] at this
          rw [hl1]
          exact hk' j hj hji this
      · obtain ⟨hod, hdN, hne⟩ := hdo hik
        have hl1 : (listed.setIfInBounds i true).getD k0 false = listed.getD k0 false := getD_set_ne false hik
        refine hstep i hin2 hik (listed.getD k0 false) a w inv.size inv.dfr inv.old (fun j hjk hj => ?_) inv.bel (fun hf => ?_) _ (fun v w' hv hb => ih _ _ _ hfew ⟨inv.head.set hi hin2, by simp [Act.put, inv.size], by simpa [Act.put] using inv.dfr, fun s hs' => ?_, fun j hj hjk hl => ?_, inv.bel.trans (hb.mono inv.bel.size), fun hf => ?_⟩)
        · obtain ⟨h1, h2⟩ := hw j hj
          exact inv.rel j h1 hjk h2
        · cases hwk : Region.waitsFor md ops k0 i with
          | false => rfl
          | true =>
            obtain ⟨oj, hoj, e, he, hbd, hon⟩ := Region.waitsFor_spec hwk
            have h9 := inv.head.closed k0 oj hoj hf e he hbd
            rw [hon, hl0] at h9
            cases h9
        · have hsi : dstOf ops i ≠ s := freeS_iff.1 hs' i hin2 hik
          rw [← inv.old s hs']
          simp [Act.put, Array.getElem?_setIfInBounds_ne hsi]
        · rw [hl1]
          by_cases hij : i = j
          · subst hij
            have : (a.put (some (dstOf ops i)) v).tmps.getD (dstOf ops i) undef = v := by
              have : dstOf ops i < a.tmps.size := by rw [inv.size]; exact hdN
              simp [Act.put, this]
            rw [this]
            exact hv
          · rw [getD_set_ne false hij] at hl
            have hdj := hne j hj hjk hij
            have : (a.put (some (dstOf ops i)) v).tmps.getD (dstOf ops j) undef = a.tmps.getD (dstOf ops j) undef := by
              simp [Act.put, Array.getElem?_setIfInBounds_ne (Ne.symm hdj)]
            rw [this]
            exact hR _ j hj hjk _ _ _ (inv.rel j hj hjk hl) hb
        · rw [hl1] at hf
          exact hS _ _ (inv.put hf) hb
end
/-- The law. -/
theorem wp_region_flowS {P : Program} {id : Nat} {Q : Exit → Act → World → Prop} {a0 : Act} {w0 : World} {l : List Oper} (n N : Nat) (k0 : Nat) (S : World → Prop) (R : Bool → Nat → Value → World → Prop) (hm : P.follows .mixedOrders = true) (hB : flowS .any l.toArray n N k0 = true) (hN : a0.tmps.size = N)
    (hk0 : k0 < n) (hR : ∀ f i, i < n → i ≠ k0 → ∀ v w w', R f i v w → Below w.heap.size w w' → R f i v w') (hS : ∀ w w', S w → Below w.heap.size w w' → S w')
    (hstep : ∀ i, i < n → i ≠ k0 → ∀ (f : Bool) (a : Act) (w : World), a.tmps.size = N → a.defers = a0.defers → (∀ s, freeS l.toArray n k0 s = true → a.tmps.getD s undef = a0.tmps.getD s undef) →
      (∀ j, j ≠ k0 → Region.waitsFor .any l.toArray i j = true → R f j (a.tmps.getD (dstOf l.toArray j) undef) w) → Below (w0.heap.size) w0 w → (f = true → Region.waitsFor .any l.toArray k0 i = false) →
      ∀ K : Act → World → Prop, (∀ v w', R f i v w' → Below w.heap.size w w' → K (a.put (some (dstOf l.toArray i)) v) w') → wpOp P l.toArray Q i K a w)
    (hone : ∀ (a : Act) (w : World), a.tmps.size = N → a.defers = a0.defers → (∀ s, freeS l.toArray n k0 s = true → a.tmps.getD s undef = a0.tmps.getD s undef) →
      (∀ j, j ≠ k0 → Region.waitsFor .any l.toArray k0 j = true → R false j (a.tmps.getD (dstOf l.toArray j) undef) w) → Below (w0.heap.size) w0 w →
      ∀ K : Act → World → Prop, (∀ w', S w' → (∀ j, j < n → j ≠ k0 → R false j (a.tmps.getD (dstOf l.toArray j) undef) w → R true j (a.tmps.getD (dstOf l.toArray j) undef) w') → Below (w0.heap.size) w w' → K a w') → wpOp P l.toArray Q k0 K a w)
    (htail : ∀ (a : Act) (w : World), a.tmps.size = N → a.defers = a0.defers → (∀ s, freeS l.toArray n k0 s = true → a.tmps.getD s undef = a0.tmps.getD s undef) →
      (∀ i, i < n → i ≠ k0 → R true i (a.tmps.getD (dstOf l.toArray i) undef) w) → S w → Below (w0.heap.size) w0 w → wpList P l.toArray Q (l.drop n) a w) :
    (Code.region id l.toArray true).wp P Q a0 w0 := by
  have hn : n < l.length := by
    simp only [flowS, Bool.and_eq_true, decide_eq_true_eq] at hB
    simpa using hB.1.1.1.1.1
  refine wp_region_any hm ?_
  have h0 : ((List.range n).filter fun i => !(Array.replicate l.toArray.size false).getD i false).length = n := by
    rw [List.filter_eq_self.2 (fun i _ => by rw [getD_replicate_false]; rfl)]
    simp
  have := wpAny_of_flowS (P := P) (ops := l.toArray) (md := .any) (n := n) (N := N) (a0 := a0) (w0 := w0) (k0 := k0) (S := S) (R := R) (Q := Q) (tl := l.drop n) hB (fun j => by simp [List.getElem?_drop]) (by simp) hk0 hR hS hstep hone htail n
    (Array.replicate l.toArray.size false) a0 { w0 with drawn := w0.drawn + 1 } h0
    ⟨⟨by simp, fun j oj _ hl => (by rw [getD_replicate_false] at hl; cases hl), fun t _ ht => getD_in (by simpa using ht) (getD_replicate_false _ _)⟩, hN, rfl, fun _ _ => rfl, fun i _ _ hl => (by rw [getD_replicate_false] at hl; cases hl), Below.drew (Below.refl _ _), fun hl => (by rw [getD_replicate_false] at hl; cases hl)⟩
  have e : n + (l.toArray.size - n) = l.toArray.size := by simp; omega
  rw [e] at this
  exact this
section
variable {ops : Array Oper} {a0 : Act} {vs : Nat → Value} {k0 : Nat}
def putSkip (ops : Array Oper) (a0 : Act) (vs : Nat → Value) (k0 : Nat) : Nat → Act
  | 0 => a0
  | k + 1 => if k = k0 then putSkip ops a0 vs k0 k else (putSkip ops a0 vs k0 k).put (some (dstOf ops k)) (vs k)
theorem putSkip_size (k : Nat) : (putSkip ops a0 vs k0 k).tmps.size = a0.tmps.size := by
  induction k with
  | zero => rfl
  | succ k ih =>
    unfold putSkip
    split
    · exact ih
    · simp [Act.put, ih]
theorem putSkip_dfr (k : Nat) : (putSkip ops a0 vs k0 k).defers = a0.defers := by
  induction k with
  | zero => rfl
  | succ k ih =>
    unfold putSkip
    split
    · exact ih
    · simp [Act.put, ih]
theorem putSkip_get (k : Nat) (hd : ∀ i j, i < k → j < k → i ≠ k0 → j ≠ k0 → i ≠ j → dstOf ops i ≠ dstOf ops j) (hN : ∀ i, i < k → i ≠ k0 → dstOf ops i < a0.tmps.size) :
    (∀ i, i < k → i ≠ k0 → (putSkip ops a0 vs k0 k).tmps.getD (dstOf ops i) undef = vs i) ∧ ∀ s, (∀ i, i < k → i ≠ k0 → dstOf ops i ≠ s) → (putSkip ops a0 vs k0 k).tmps.getD s undef = a0.tmps.getD s undef := by
  induction k with
  | zero => exact ⟨fun i hi => by omega, fun _ _ => rfl⟩
  | succ k ih =>
    obtain ⟨h1, h2⟩ := ih (fun i j hi hj a b hij => hd i j (by omega) (by omega) a b hij) (fun i hi => hN i (by omega))
    by_cases hk : k = k0
    · have e : putSkip ops a0 vs k0 (k + 1) = putSkip ops a0 vs k0 k := by rw [putSkip, if_pos hk]
      rw [e]
      exact ⟨fun i hi hik => h1 i (by omega) hik, fun s hs => h2 s (fun i hi hik => hs i (by omega) hik)⟩
    · have e : putSkip ops a0 vs k0 (k + 1) = (putSkip ops a0 vs k0 k).put (some (dstOf ops k)) (vs k) := by rw [putSkip, if_neg hk]
      rw [e]
      have hne : ∀ s v, dstOf ops k ≠ s → ((putSkip ops a0 vs k0 k).put (some (dstOf ops k)) v).tmps.getD s undef = (putSkip ops a0 vs k0 k).tmps.getD s undef := fun s v h => by
        simp only [Act.put, Array.getD_eq_getD_getElem?, Array.getElem?_setIfInBounds, if_neg h]
      refine ⟨fun i hi hik => ?_, fun s hs => ?_⟩
      · by_cases e2 : i = k
        · subst e2
          have := hN i (by omega) hk
          have hsz := putSkip_size (ops := ops) (a0 := a0) (vs := vs) (k0 := k0) i
          simp only [Act.put, Array.getD_eq_getD_getElem?, Array.getElem?_setIfInBounds, if_true]
          rw [if_pos (by omega)]
          rfl
        · rw [hne _ _ (hd k i (by omega) (by omega) hk hik (Ne.symm e2))]
          exact h1 i (by omega) hik
      · rw [hne _ _ (hs k (by omega) hk)]
        exact h2 s (fun i hi hik => hs i (by omega) hik)
end

/-- The law, with the frame brought back. -/
theorem wp_region_flow_backS {P : Program} {id : Nat} {Q : Exit → Act → World → Prop} {a0 : Act} {w0 : World} {l : List Oper} (n N : Nat) (k0 : Nat) (S : World → Prop) (R : Bool → Nat → Value → World → Prop) (hm : P.follows .mixedOrders = true) (hB : flowS .any l.toArray n N k0 = true) (hN : a0.tmps.size = N)
    (hk0 : k0 < n) (hR : ∀ f i, i < n → i ≠ k0 → ∀ v w w', R f i v w → Below w.heap.size w w' → R f i v w') (hS : ∀ w w', S w → Below w.heap.size w w' → S w')
    (hstep : ∀ i, i < n → i ≠ k0 → ∀ (f : Bool) (a : Act) (w : World), a.tmps.size = N → a.defers = a0.defers → (∀ s, freeS l.toArray n k0 s = true → a.tmps.getD s undef = a0.tmps.getD s undef) →
      (∀ j, j ≠ k0 → Region.waitsFor .any l.toArray i j = true → R f j (a.tmps.getD (dstOf l.toArray j) undef) w) → Below (w0.heap.size) w0 w → (f = true → Region.waitsFor .any l.toArray k0 i = false) →
      ∀ K : Act → World → Prop, (∀ v w', R f i v w' → Below w.heap.size w w' → K (a.put (some (dstOf l.toArray i)) v) w') → wpOp P l.toArray Q i K a w)
    (hone : ∀ (a : Act) (w : World), a.tmps.size = N → a.defers = a0.defers → (∀ s, freeS l.toArray n k0 s = true → a.tmps.getD s undef = a0.tmps.getD s undef) →
      (∀ j, j ≠ k0 → Region.waitsFor .any l.toArray k0 j = true → R false j (a.tmps.getD (dstOf l.toArray j) undef) w) → Below (w0.heap.size) w0 w →
      ∀ K : Act → World → Prop, (∀ w', S w' → (∀ j, j < n → j ≠ k0 → R false j (a.tmps.getD (dstOf l.toArray j) undef) w → R true j (a.tmps.getD (dstOf l.toArray j) undef) w') → Below (w0.heap.size) w w' → K a w') → wpOp P l.toArray Q k0 K a w)
    (htail : ∀ (vs : Nat → Value) (w : World), (∀ i, i < n → i ≠ k0 → R true i (vs i) w) → S w → Below (w0.heap.size) w0 w → wpList P l.toArray Q (l.drop n) (putSkip l.toArray a0 vs k0 n) w) :
    (Code.region id l.toArray true).wp P Q a0 w0 := by
  refine wp_region_flowS n N k0 S R hm hB hN hk0 hR hS hstep hone ?_
  intro a w h1 h2 h3 h4 h5 h6'
  simp only [flowS, Bool.and_eq_true, decide_eq_true_eq] at hB
  obtain ⟨⟨-, hdst⟩, -⟩ := hB
  have hd : ∀ i, i < n → i ≠ k0 → dstOf l.toArray i < N ∧ ∀ j, j < n → j ≠ k0 → i ≠ j → dstOf l.toArray j ≠ dstOf l.toArray i := by
    intro i hi hik
    have h6 := List.all_eq_true.1 hdst i (List.mem_range.2 hi)
    split at h6
    · rename_i d hdd
      have e : dstOf l.toArray i = d := by unfold dstOf; rw [hdd]; rfl
      simp only [Bool.and_eq_true, decide_eq_true_eq] at h6
      refine ⟨by rw [e]; exact h6.1.2, fun j hj hjk hij => ?_⟩
      have h7 := List.all_eq_true.1 h6.2 j (List.mem_range.2 hj)
      simp only [Bool.or_eq_true, beq_iff_eq, bne_iff_ne] at h7
      rw [e]
      rcases h7 with (h7 | h7) | h7
      · exact absurd h7 hij
      · exact absurd h7 hjk
      · exact h7
    · exact absurd (of_decide_eq_true h6) hik
  obtain ⟨g1, g2⟩ := putSkip_get (ops := l.toArray) (a0 := a0) (k0 := k0) (vs := fun i => a.tmps.getD (dstOf l.toArray i) undef) n (fun i j hi hj hik hjk hij => Ne.symm ((hd i hi hik).2 j hj hjk hij)) (fun i hi hik => by rw [hN]; exact (hd i hi hik).1)
  have e : putSkip l.toArray a0 (fun i => a.tmps.getD (dstOf l.toArray i) undef) k0 n = a := by
    have hs := putSkip_size (ops := l.toArray) (a0 := a0) (k0 := k0) (vs := fun i => a.tmps.getD (dstOf l.toArray i) undef) n
    have hdf := putSkip_dfr (ops := l.toArray) (a0 := a0) (k0 := k0) (vs := fun i => a.tmps.getD (dstOf l.toArray i) undef) n
    have ht : (putSkip l.toArray a0 (fun i => a.tmps.getD (dstOf l.toArray i) undef) k0 n).tmps = a.tmps := by
      refine Array.ext (by rw [hs, hN, h1]) (fun s hs1 hs2 => ?_)
      have key : (putSkip l.toArray a0 (fun i => a.tmps.getD (dstOf l.toArray i) undef) k0 n).tmps.getD s undef = a.tmps.getD s undef := by
        by_cases hx : freeS l.toArray n k0 s = true
        · rw [g2 s (freeS_iff.1 hx), h3 s hx]
        · have : ∃ i, i < n ∧ i ≠ k0 ∧ dstOf l.toArray i = s := by
            refine Classical.byContradiction fun hc => hx (freeS_iff.2 (fun i hi hik he => hc ⟨i, hi, hik, he⟩))
          obtain ⟨i, hi, hik, rfl⟩ := this
          exact g1 i hi hik
      have gd : ∀ (x : Array Value) (s : Nat) (h : s < x.size), x.getD s undef = x[s] := fun x s h => by simp [Array.getD, h]
      rw [gd _ _ hs1, gd _ _ hs2] at key
      exact key
    cases a
    generalize putSkip l.toArray a0 _ k0 n = b at *
    cases b
    simp only at ht hdf h2
    rw [ht, hdf, h2]
  have := htail _ w h4 h5 h6'
  rw [e] at this
  exact this
end Go.Proofs.Ytpiadbdkiibdbaa

