/- A region that draws its order, as in Fl and Fn, one of whose operations may write into a row of memory, too (an append into spare room): what is known ahead of it is told apart from what is known behind it. -/
import Derived.Test.YtpiadbdkiibdbaaQFl
set_option linter.unusedSimpArgs false
set_option linter.unusedVariables false
namespace Go.Proofs.Ytpiadbdkiibdbaa
open Go Go.RowKit

theorem gb_refl (w : World) (row : Option Nat) : w.grownBy w row := ⟨rfl, rfl, rfl, Nat.le_refl _, fun _ _ _ => rfl⟩
theorem gb_trans {a b c : World} {row : Option Nat} (h : a.grownBy b row) (k : b.grownBy c row) : a.grownBy c row :=
  ⟨k.os.trans h.os, k.tape.trans h.tape, k.output.trans h.output, Nat.le_trans h.size k.size, fun i hi hr => (k.block i (Nat.lt_of_lt_of_le hi h.size) hr).trans (h.block i hi hr)⟩
theorem gb_below {w w' : World} (row : Option Nat) (h : Below w.heap.size w w') : w.grownBy w' row := ⟨h.os, h.tape, h.output, h.size, fun i hi _ => h.block i hi⟩
section
variable {P : Program} {ops : Array Oper} {md : Region.Mode}
structure FlowInvH (md : Region.Mode) (ops : Array Oper) (n N k0 : Nat) (a0 : Act) (w0 : World) (row : Option Nat) (R : Bool → Nat → Value → World → Prop) (listed : Array Bool) (a : Act) (w : World) : Prop where
  head : HeadInv md ops n listed
  size : a.tmps.size = N
  dfr : a.defers = a0.defers
  old : ∀ s, freeB ops n s = true → a.tmps.getD s undef = a0.tmps.getD s undef
  rel : ∀ i, i < n → listed.getD i false = true → R (listed.getD k0 false) i (a.tmps.getD (dstOf ops i) undef) w
  bel : w0.grownBy w row
  bel0 : listed.getD k0 false = false → Below (w0.heap.size) w0 w

theorem wpAny_of_flowH {n N : Nat} {a0 : Act} {w0 : World} {k0 : Nat} {row : Option Nat} {R : Bool → Nat → Value → World → Prop} {Q : Exit → Act → World → Prop} {tl : List Oper}
    (hB : flowB md ops n N = true) (htl : ∀ j, tl[j]? = ops[n + j]?) (htn : tl.length = ops.size - n)
    (hk0 : k0 < n) (hR : ∀ f i, i < n → ∀ v w w', R f i v w → Below w.heap.size w w' → R f i v w')
    (hstep : ∀ i, i < n → i ≠ k0 → ∀ (f : Bool) (a : Act) (w : World), a.tmps.size = N → a.defers = a0.defers → (∀ s, freeB ops n s = true → a.tmps.getD s undef = a0.tmps.getD s undef) →
      (∀ j, Region.waitsFor md ops i j = true → R f j (a.tmps.getD (dstOf ops j) undef) w) → w0.grownBy w row → (f = false → Below (w0.heap.size) w0 w) →
      ∀ K : Act → World → Prop, (∀ v w', R f i v w' → Below w.heap.size w w' → K (a.put (some (dstOf ops i)) v) w') → wpOp P ops Q i K a w)
    (hone : ∀ (a : Act) (w : World), a.tmps.size = N → a.defers = a0.defers → (∀ s, freeB ops n s = true → a.tmps.getD s undef = a0.tmps.getD s undef) →
      (∀ j, Region.waitsFor md ops k0 j = true → R false j (a.tmps.getD (dstOf ops j) undef) w) → Below (w0.heap.size) w0 w →
      ∀ K : Act → World → Prop, (∀ v w', R true k0 v w' → (∀ j u, j < n → R false j u w → R true j u w') → w.grownBy w' row → K (a.put (some (dstOf ops k0)) v) w') → wpOp P ops Q k0 K a w)
    (htail : ∀ (a : Act) (w : World), a.tmps.size = N → a.defers = a0.defers → (∀ s, freeB ops n s = true → a.tmps.getD s undef = a0.tmps.getD s undef) →
      (∀ i, i < n → R true i (a.tmps.getD (dstOf ops i) undef) w) → w0.grownBy w row → wpList P ops Q tl a w) :
    ∀ (k : Nat) (listed : Array Bool) (a : Act) (w : World), ((List.range n).filter fun i => !listed.getD i false).length = k → FlowInvH md ops n N k0 a0 w0 row R listed a w → wpAny P md ops Q (k + (ops.size - n)) listed a w := by
  simp only [flowB, Bool.and_eq_true, decide_eq_true_eq] at hB
  obtain ⟨⟨⟨⟨⟨hn, hs⟩, hc⟩, hlow⟩, hdst⟩, hseq⟩ := hB
  have hd : ∀ i, i < n → ∃ o, ops[i]? = some o ∧ o.dst = some (dstOf ops i) ∧ dstOf ops i < N ∧ ∀ j, j < n → i ≠ j → dstOf ops j ≠ dstOf ops i := by
    intro i hi
    have h1 := List.all_eq_true.1 hdst i (List.mem_range.2 hi)
    have hio : i < ops.size := by omega
    have ho : ops[i]? = some ops[i] := Array.getElem?_eq_getElem hio
    cases hd : ops[i].dst with
    | none => simp [ho, hd] at h1
    | some d =>
      have e : dstOf ops i = d := by simp [dstOf, ho, hd]
      simp only [ho, Option.bind_some, hd, Bool.and_eq_true, decide_eq_true_eq] at h1
      refine ⟨ops[i], ho, by rw [hd, e], by rw [e]; exact h1.1, fun j hj hij => ?_⟩
      have h2 := List.all_eq_true.1 h1.2 j (List.mem_range.2 hj)
      simp only [Bool.or_eq_true, beq_iff_eq, bne_iff_ne] at h2
      rcases h2 with h2 | h2
      · exact absurd h2 hij
      · rw [e]; exact h2
  intro k
  induction k with
  | zero =>
    intro listed a w hk inv
    have hall : ∀ i, i < n → listed.getD i false = true := by
      intro i hi
      have h0 := List.length_eq_zero_iff.1 hk
      have h1 := List.filter_eq_nil_iff.1 h0 i (List.mem_range.2 hi)
      simpa using h1
    have hf := listed_full inv.head.size (by omega) hall inv.head.tail
    rw [Nat.zero_add, ← htn]
    refine wpAny_of_seq (md := md) (Q' := Q) tl n listed a w htl ?_ (htail a w inv.size inv.dfr inv.old (fun i hi => by have := inv.rel i hi (hall i hi); rw [hall k0 hk0] at this; exact this) inv.bel)
    rw [htn, hf]
    exact hseq
  | succ k ih =>
    intro listed a w hk inv
    have hex : ∃ i, i < n ∧ listed.getD i false = false := by
      refine Classical.byContradiction fun h => ?_
      have : ((List.range n).filter fun i => !listed.getD i false) = [] := by
        rw [List.filter_eq_nil_iff]
        intro i hi hb
        exact h ⟨i, List.mem_range.1 hi, by simpa using hb⟩
      rw [this] at hk
      simp at hk
    rw [show k + 1 + (ops.size - n) = (k + (ops.size - n)) + 1 by omega]
    have hin : ∀ i, i < n → listed.getD i false = false → listed.getD i true = false := fun i hi h => getD_in (by rw [inv.head.size]; omega) h
    refine ⟨fun h0 => ?_, fun i hi => ?_⟩
    · exfalso
      obtain ⟨i, hi, hl⟩ := hex
      -- the least that is not listed is ready
      have key : ∀ m, m ≤ n → (∀ j, j < m → listed.getD j false = true) ∨ ∃ j, j < m ∧ listed.getD j false = false ∧ ∀ j', j' < j → listed.getD j' false = true := by
        intro m
        induction m with
        | zero => intro _; exact .inl (fun j hj => by omega)
        | succ m ihm =>
          intro hm
          rcases ihm (by omega) with h | ⟨j, hj, hj2⟩
          · cases hlm : listed.getD m false with
            | true => exact .inl (fun j hj => by rcases Nat.lt_succ_iff_lt_or_eq.1 hj with h' | rfl; exact h j h'; exact hlm)
            | false => exact .inr ⟨m, by omega, hlm, h⟩
          · exact .inr ⟨j, by omega, hj2⟩
      rcases key n (Nat.le_refl _) with h | ⟨j, hj, hj1, hj2⟩
      · rw [h i hi] at hl; cases hl
      · have hjo : j < ops.size := by omega
        have hr : j ∈ Region.ready md ops listed := by
          refine mem_ready.2 ⟨hin j hj hj1, ops[j], Array.getElem?_eq_getElem hjo, fun e he hb => ?_⟩
          have h1 := List.all_eq_true.1 hlow j (List.mem_range.2 hj)
          simp only [Array.getElem?_eq_getElem hjo, Option.map_some, Option.getD_some, Array.all_eq_true_iff_forall_mem, Bool.or_eq_true, Bool.not_eq_true', decide_eq_true_eq] at h1
          rcases h1 e he with h2 | h2
          · rw [hb] at h2; cases h2
          · exact hj2 e.on h2
        rw [h0] at hr
        cases hr
    · have hin2 : i < n := by
        rcases Nat.lt_or_ge i n with h | h
        · exact h
        · obtain ⟨j, hj, hl⟩ := hex
          exact absurd hi (tail_waits hs hc hn inv.head _ j rfl hj (hin j hj hl) i h)
      obtain ⟨o, ho, hod, hdN, hne⟩ := hd i hin2
      obtain ⟨hun, oi, hoi, hall⟩ := mem_ready.1 hi
      have : oi = o := Option.some.inj (hoi.symm.trans ho)
      subst this
      have hw : ∀ j, Region.waitsFor md ops i j = true → j < n ∧ listed.getD j false = true := fun j hj => by
        obtain ⟨oj, hoj, e, he, hbd, hon⟩ := Region.waitsFor_spec hj
        have : oj = oi := Option.some.inj (hoj.symm.trans hoi)
        subst this
        have hl := hall e he hbd
        rw [hon] at hl
        refine ⟨?_, hl⟩
        have h1 := List.all_eq_true.1 hlow i (List.mem_range.2 hin2)
        simp only [ho, Option.map_some, Option.getD_some, Array.all_eq_true_iff_forall_mem, Bool.or_eq_true, Bool.not_eq_true', decide_eq_true_eq] at h1
        rcases h1 e he with h2 | h2
        · rw [hbd] at h2; cases h2
        · omega
      have hgo : ∀ v w', R ((listed.setIfInBounds i true).getD k0 false) i v w' → (∀ j u, j < n → j ≠ i → listed.getD j false = true → R (listed.getD k0 false) j u w → R ((listed.setIfInBounds i true).getD k0 false) j u w') → w.grownBy w' row → ((listed.setIfInBounds i true).getD k0 false = false → Below (w.heap.size) w w') → wpAny P md ops Q (k + (ops.size - n)) (listed.setIfInBounds i true) (a.put (some (dstOf ops i)) v) w' := by
        intro v w' hv hkeep hb hb0
        refine ih _ _ _ ?_ ⟨inv.head.set hi hin2, by simp [Act.put, inv.size], by simpa [Act.put] using inv.dfr, fun s hs' => ?_, fun j hj hl => ?_, gb_trans inv.bel hb, fun hf => ?_⟩
        · -- one fewer
          have hlt : i < listed.size := by rw [inv.head.size]; omega
          have e : ∀ j, (listed.setIfInBounds i true).getD j false = (j == i || listed.getD j false) := by
            intro j
            by_cases hji : i = j
            · subst hji; simp [hlt]
            · rw [getD_set_ne false hji]; simp [Ne.symm hji]
          have hcount : ∀ (l : List Nat), l.Nodup → i ∈ l → (l.filter fun j => !listed.getD j false).length = (l.filter fun j => !(listed.setIfInBounds i true).getD j false).length + 1 := by
            intro l
            induction l with
            | nil => intro _ h; cases h
            | cons x l ihl =>
              intro hnd hm
              have hx := (List.nodup_cons.1 hnd)
              by_cases hxi : x = i
              · subst hxi
                have hl0 : listed.getD x false = false := getD_both hun
                have hrest : (l.filter fun j => !listed.getD j false) = l.filter fun j => !(listed.setIfInBounds x true).getD j false := by
                  apply List.filter_congr
                  intro j hj
                  have hjx : j ≠ x := fun h => hx.1 (h ▸ hj)
                  rw [e j]
                  simp [hjx]
                rw [List.filter_cons_of_pos (by simp only [hl0]; rfl), List.filter_cons_of_neg (by rw [e x]; simp), ← hrest]
                rfl
              · have hm' : i ∈ l := by rcases List.mem_cons.1 hm with h | h; exact absurd h.symm hxi; exact h
                have := ihl hx.2 hm'
                have ex : (listed.setIfInBounds i true).getD x false = listed.getD x false := by rw [e x]; simp [hxi]
                cases hlx : listed.getD x false with
                | true => rw [List.filter_cons_of_neg (by rw [hlx]; simp), List.filter_cons_of_neg (by rw [ex, hlx]; simp)]; exact this
                | false => rw [List.filter_cons_of_pos (by rw [hlx]; rfl), List.filter_cons_of_pos (by rw [ex, hlx]; rfl)]; simp only [List.length_cons]; omega
          have := hcount (List.range n) List.nodup_range (List.mem_range.2 hin2)
          omega
        · have hsi : dstOf ops i ≠ s := freeB_iff.1 hs' i hin2
          rw [← inv.old s hs']
          simp [Act.put, Array.getElem?_setIfInBounds_ne hsi]
        · by_cases hij : i = j
          · subst hij
            have : (a.put (some (dstOf ops i)) v).tmps.getD (dstOf ops i) undef = v := by
              have : dstOf ops i < a.tmps.size := by rw [inv.size]; exact hdN
              simp [Act.put, this]
            rw [this]
            exact hv
          · rw [getD_set_ne false hij] at hl
            have hdj := hne j hj hij
            have : (a.put (some (dstOf ops i)) v).tmps.getD (dstOf ops j) undef = a.tmps.getD (dstOf ops j) undef := by
              simp [Act.put, Array.getElem?_setIfInBounds_ne (Ne.symm hdj)]
            rw [this]
            exact hkeep j _ hj (Ne.symm hij) hl (inv.rel j hj hl)
        · have hf0 : listed.getD k0 false = false := by
            by_cases hik : i = k0
            · subst hik; exact getD_both hun
            · rw [← getD_set_ne false hik]; exact hf
          have h0 := inv.bel0 hf0
          exact h0.trans ((hb0 hf).mono h0.size)
      by_cases hik : i = k0
      · subst hik
        have hl0 : listed.getD i false = false := getD_both hun
        have hlt : i < listed.size := by rw [inv.head.size]; omega
        have hl1 : (listed.setIfInBounds i true).getD i false = true := by simp [hlt]
        rw [hl1, hl0] at hgo
        refine hone a w inv.size inv.dfr inv.old (fun j hj => ?_) (inv.bel0 hl0) _ (fun v w' hv hk hb => hgo v w' hv (fun j u hj _ _ hr => hk j u hj hr) hb (fun hf => by cases hf))
        obtain ⟨h1, h2⟩ := hw j hj
        have := inv.rel j h1 h2
        rw [hl0] at this
        exact this
      · have hl1 : (listed.setIfInBounds i true).getD k0 false = listed.getD k0 false := getD_set_ne false hik
        rw [hl1] at hgo
        refine hstep i hin2 hik _ a w inv.size inv.dfr inv.old (fun j hj => ?_) inv.bel inv.bel0 _ (fun v w' hv hb => hgo v w' hv (fun j u hj _ _ hr => hR _ _ hj _ _ _ hr hb) (gb_below row hb) (fun _ => hb))
        obtain ⟨h1, h2⟩ := hw j hj
        exact inv.rel j h1 h2
end
/-- The law. -/
theorem wp_region_flowH {P : Program} {id : Nat} {Q : Exit → Act → World → Prop} {a0 : Act} {w0 : World} {l : List Oper} (n N : Nat) (k0 : Nat) (row : Option Nat) (R : Bool → Nat → Value → World → Prop) (hm : P.follows .mixedOrders = true) (hB : flowB .any l.toArray n N = true) (hN : a0.tmps.size = N)
    (hk0 : k0 < n) (hR : ∀ f i, i < n → ∀ v w w', R f i v w → Below w.heap.size w w' → R f i v w')
    (hstep : ∀ i, i < n → i ≠ k0 → ∀ (f : Bool) (a : Act) (w : World), a.tmps.size = N → a.defers = a0.defers → (∀ s, freeB l.toArray n s = true → a.tmps.getD s undef = a0.tmps.getD s undef) →
      (∀ j, Region.waitsFor .any l.toArray i j = true → R f j (a.tmps.getD (dstOf l.toArray j) undef) w) → w0.grownBy w row → (f = false → Below (w0.heap.size) w0 w) →
      ∀ K : Act → World → Prop, (∀ v w', R f i v w' → Below w.heap.size w w' → K (a.put (some (dstOf l.toArray i)) v) w') → wpOp P l.toArray Q i K a w)
    (hone : ∀ (a : Act) (w : World), a.tmps.size = N → a.defers = a0.defers → (∀ s, freeB l.toArray n s = true → a.tmps.getD s undef = a0.tmps.getD s undef) →
      (∀ j, Region.waitsFor .any l.toArray k0 j = true → R false j (a.tmps.getD (dstOf l.toArray j) undef) w) → Below (w0.heap.size) w0 w →
      ∀ K : Act → World → Prop, (∀ v w', R true k0 v w' → (∀ j u, j < n → R false j u w → R true j u w') → w.grownBy w' row → K (a.put (some (dstOf l.toArray k0)) v) w') → wpOp P l.toArray Q k0 K a w)
    (htail : ∀ (a : Act) (w : World), a.tmps.size = N → a.defers = a0.defers → (∀ s, freeB l.toArray n s = true → a.tmps.getD s undef = a0.tmps.getD s undef) →
      (∀ i, i < n → R true i (a.tmps.getD (dstOf l.toArray i) undef) w) → w0.grownBy w row → wpList P l.toArray Q (l.drop n) a w) :
    (Code.region id l.toArray true).wp P Q a0 w0 := by
  have hn : n < l.length := by
    simp only [flowB, Bool.and_eq_true, decide_eq_true_eq] at hB
    simpa using hB.1.1.1.1.1
  refine wp_region_any hm ?_
  have h0 : ((List.range n).filter fun i => !(Array.replicate l.toArray.size false).getD i false).length = n := by
    rw [List.filter_eq_self.2 (fun i _ => by rw [getD_replicate_false]; rfl)]
    simp
  have := wpAny_of_flowH (P := P) (ops := l.toArray) (md := .any) (n := n) (N := N) (a0 := a0) (w0 := w0) (k0 := k0) (row := row) (R := R) (Q := Q) (tl := l.drop n) hB (fun j => by simp [List.getElem?_drop]) (by simp) hk0 hR hstep hone htail n
    (Array.replicate l.toArray.size false) a0 { w0 with drawn := w0.drawn + 1 } h0
    ⟨⟨by simp, fun j oj _ hl => (by rw [getD_replicate_false] at hl; cases hl), fun t _ ht => getD_in (by simpa using ht) (getD_replicate_false _ _)⟩, hN, rfl, fun _ _ => rfl, fun i _ hl => (by rw [getD_replicate_false] at hl; cases hl), ⟨rfl, rfl, rfl, Nat.le_refl _, fun _ _ _ => rfl⟩, fun _ => Below.drew (Below.refl _ _)⟩
  have e : n + (l.toArray.size - n) = l.toArray.size := by simp; omega
  rw [e] at this
  exact this
/-- The law, with the frame brought back. -/
theorem wp_region_flow_backH {P : Program} {id : Nat} {Q : Exit → Act → World → Prop} {a0 : Act} {w0 : World} {l : List Oper} (n N : Nat) (k0 : Nat) (row : Option Nat) (R : Bool → Nat → Value → World → Prop) (hm : P.follows .mixedOrders = true) (hB : flowB .any l.toArray n N = true) (hN : a0.tmps.size = N)
    (hk0 : k0 < n) (hR : ∀ f i, i < n → ∀ v w w', R f i v w → Below w.heap.size w w' → R f i v w')
    (hstep : ∀ i, i < n → i ≠ k0 → ∀ (f : Bool) (a : Act) (w : World), a.tmps.size = N → a.defers = a0.defers → (∀ s, freeB l.toArray n s = true → a.tmps.getD s undef = a0.tmps.getD s undef) →
      (∀ j, Region.waitsFor .any l.toArray i j = true → R f j (a.tmps.getD (dstOf l.toArray j) undef) w) → w0.grownBy w row → (f = false → Below (w0.heap.size) w0 w) →
      ∀ K : Act → World → Prop, (∀ v w', R f i v w' → Below w.heap.size w w' → K (a.put (some (dstOf l.toArray i)) v) w') → wpOp P l.toArray Q i K a w)
    (hone : ∀ (a : Act) (w : World), a.tmps.size = N → a.defers = a0.defers → (∀ s, freeB l.toArray n s = true → a.tmps.getD s undef = a0.tmps.getD s undef) →
      (∀ j, Region.waitsFor .any l.toArray k0 j = true → R false j (a.tmps.getD (dstOf l.toArray j) undef) w) → Below (w0.heap.size) w0 w →
      ∀ K : Act → World → Prop, (∀ v w', R true k0 v w' → (∀ j u, j < n → R false j u w → R true j u w') → w.grownBy w' row → K (a.put (some (dstOf l.toArray k0)) v) w') → wpOp P l.toArray Q k0 K a w)
    (htail : ∀ (vs : Nat → Value) (w : World), (∀ i, i < n → R true i (vs i) w) → w0.grownBy w row → wpList P l.toArray Q (l.drop n) (putAll l.toArray a0 vs n) w) :
    (Code.region id l.toArray true).wp P Q a0 w0 := by
  refine wp_region_flowH n N k0 row R hm hB hN hk0 hR hstep hone ?_
  intro a w h1 h2 h3 h4 h5
  simp only [flowB, Bool.and_eq_true, decide_eq_true_eq] at hB
  obtain ⟨⟨-, hdst⟩, -⟩ := hB
  have hd : ∀ i, i < n → dstOf l.toArray i < N ∧ ∀ j, j < n → i ≠ j → dstOf l.toArray j ≠ dstOf l.toArray i := by
    intro i hi
    have h6 := List.all_eq_true.1 hdst i (List.mem_range.2 hi)
    split at h6
    · rename_i d hdd
      have e : dstOf l.toArray i = d := by unfold dstOf; rw [hdd]; rfl
      simp only [Bool.and_eq_true, decide_eq_true_eq] at h6
      refine ⟨by rw [e]; exact h6.1, fun j hj hij => ?_⟩
      have h7 := List.all_eq_true.1 h6.2 j (List.mem_range.2 hj)
      simp only [Bool.or_eq_true, beq_iff_eq, bne_iff_ne] at h7
      rw [e]
      rcases h7 with h7 | h7
      · exact absurd h7 hij
      · exact h7
    · cases h6
  obtain ⟨g1, g2⟩ := putAll_get (ops := l.toArray) (a0 := a0) (vs := fun i => a.tmps.getD (dstOf l.toArray i) undef) n (fun i j hi hj hij => Ne.symm ((hd i hi).2 j hj hij)) (fun i hi => by rw [hN]; exact (hd i hi).1)
  have e : putAll l.toArray a0 (fun i => a.tmps.getD (dstOf l.toArray i) undef) n = a := by
    have hs := putAll_size (ops := l.toArray) (a0 := a0) (vs := fun i => a.tmps.getD (dstOf l.toArray i) undef) n
    have hdf := putAll_dfr (ops := l.toArray) (a0 := a0) (vs := fun i => a.tmps.getD (dstOf l.toArray i) undef) n
    have ht : (putAll l.toArray a0 (fun i => a.tmps.getD (dstOf l.toArray i) undef) n).tmps = a.tmps := by
      refine Array.ext (by rw [hs, hN, h1]) (fun s hs1 hs2 => ?_)
      have key : (putAll l.toArray a0 (fun i => a.tmps.getD (dstOf l.toArray i) undef) n).tmps.getD s undef = a.tmps.getD s undef := by
        by_cases hx : freeB l.toArray n s = true
        · rw [g2 s (freeB_iff.1 hx), h3 s hx]
        · have : ∃ i, i < n ∧ dstOf l.toArray i = s := by
            refine Classical.byContradiction fun hc => hx (freeB_iff.2 (fun i hi he => hc ⟨i, hi, he⟩))
          obtain ⟨i, hi, rfl⟩ := this
          exact g1 i hi
      have gd : ∀ (x : Array Value) (s : Nat) (h : s < x.size), x.getD s undef = x[s] := fun x s h => by simp [Array.getD, h]
      rw [gd _ _ hs1, gd _ _ hs2] at key
      exact key
    cases a
    generalize putAll l.toArray a0 _ n = b at *
    cases b
    simp only at ht hdf h2
    rw [ht, hdf, h2]
  have := htail _ w h4 h5
  rw [e] at this
  exact this
end Go.Proofs.Ytpiadbdkiibdbaa

