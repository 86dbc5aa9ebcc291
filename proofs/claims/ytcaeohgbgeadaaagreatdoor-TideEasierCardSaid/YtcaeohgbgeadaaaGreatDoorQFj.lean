/- A region that draws its order, as in Fs, one of whose operations is a store: what is known of the world all the while is told by a property of one's own (J), that the store keeps. Written out of Fs by hand. -/
/- Package tide: what becomes of a seine by a plan in a truth: the walk. -/
import Derived.Test.YtcaeohgbgeadaaaGreatDoorQFs
import Derived.Test.YtcaeohgbgeadaaaGreatDoorQFa
import Derived.Deep.MidRow
set_option linter.unusedSimpArgs false
set_option linter.unusedVariables false
namespace Go.Proofs.YtcaeohgbgeadaaaGreatDoor
open Go Go.RowKit
section
variable {P : Program} {ops : Array Oper} {md : Region.Mode}
structure FlowInvJ (md : Region.Mode) (ops : Array Oper) (n N k0 : Nat) (a0 : Act) (w0 : World) (S J : World → Prop) (R : Bool → Nat → Value → World → Prop) (listed : Array Bool) (a : Act) (w : World) : Prop where
  head : HeadInv md ops n listed
  size : a.tmps.size = N
  dfr : a.defers = a0.defers
  old : ∀ s, freeS ops n k0 s = true → a.tmps.getD s undef = a0.tmps.getD s undef
  rel : ∀ i, i < n → i ≠ k0 → listed.getD i false = true → R (listed.getD k0 false) i (a.tmps.getD (dstOf ops i) undef) w
  bel : J w
  put : listed.getD k0 false = true → S w

theorem wpAny_of_flowJ {n N : Nat} {a0 : Act} {w0 : World} {k0 : Nat} {S J : World → Prop} {R : Bool → Nat → Value → World → Prop} {Q : Exit → Act → World → Prop} {tl : List Oper}
    (hB : flowS md ops n N k0 = true) (htl : ∀ j, tl[j]? = ops[n + j]?) (htn : tl.length = ops.size - n)
    (hk0 : k0 < n) (hR : ∀ f i, i < n → i ≠ k0 → ∀ v w w', R f i v w → Below w.heap.size w w' → R f i v w') (hS : ∀ w w', S w → Below w.heap.size w w' → S w') (hJ : ∀ w w', J w → Below w.heap.size w w' → J w')
    (hstep : ∀ i, i < n → i ≠ k0 → ∀ (f : Bool) (a : Act) (w : World), a.tmps.size = N → a.defers = a0.defers → (∀ s, freeS ops n k0 s = true → a.tmps.getD s undef = a0.tmps.getD s undef) →
      (∀ j, j ≠ k0 → Region.waitsFor md ops i j = true → R f j (a.tmps.getD (dstOf ops j) undef) w) → J w → (f = true → Region.waitsFor md ops k0 i = false) →
      ∀ K : Act → World → Prop, (∀ v w', R f i v w' → Below w.heap.size w w' → K (a.put (some (dstOf ops i)) v) w') → wpOp P ops Q i K a w)
    (hone : ∀ (a : Act) (w : World), a.tmps.size = N → a.defers = a0.defers → (∀ s, freeS ops n k0 s = true → a.tmps.getD s undef = a0.tmps.getD s undef) →
      (∀ j, j ≠ k0 → Region.waitsFor md ops k0 j = true → R false j (a.tmps.getD (dstOf ops j) undef) w) → J w →
      ∀ K : Act → World → Prop, (∀ w', S w' → (∀ j, j < n → j ≠ k0 → R false j (a.tmps.getD (dstOf ops j) undef) w → R true j (a.tmps.getD (dstOf ops j) undef) w') → J w' → K a w') → wpOp P ops Q k0 K a w)
    (htail : ∀ (a : Act) (w : World), a.tmps.size = N → a.defers = a0.defers → (∀ s, freeS ops n k0 s = true → a.tmps.getD s undef = a0.tmps.getD s undef) →
      (∀ i, i < n → i ≠ k0 → R true i (a.tmps.getD (dstOf ops i) undef) w) → S w → J w → wpList P ops Q tl a w) :
    ∀ (k : Nat) (listed : Array Bool) (a : Act) (w : World), ((List.range n).filter fun i => !listed.getD i false).length = k → FlowInvJ md ops n N k0 a0 w0 S J R listed a w → wpAny P md ops Q (k + (ops.size - n)) listed a w := by
  simp only [flowS, Bool.and_eq_true, decide_eq_true_eq] at hB
  obtain ⟨⟨⟨⟨⟨hn, hs⟩, hc⟩, hlow⟩, hdst⟩, hseq⟩ := hB
  have hd : ∀ i, i < n → ∃ o, ops[i]? = some o ∧ (i ≠ k0 → o.dst = some (dstOf ops i) ∧ dstOf ops i < N ∧ ∀ j, j < n → j ≠ k0 → i ≠ j → dstOf ops j ≠ dstOf ops i) := by
    intro i hi
    have h1 := List.all_eq_true.1 hdst i (List.mem_range.2 hi)
    have hio : i < ops.size := by omega
    have ho : ops[i]? = some ops[i] := Array.getElem?_eq_getElem hio
    refine ⟨ops[i], ho, fun hik => ?_⟩
    cases hd : ops[i].dst with
    | none => simp [ho, hd] at h1; exact absurd h1 hik
    | some d =>
      have e : dstOf ops i = d := by simp [dstOf, ho, hd]
      simp only [ho, Option.bind_some, hd, Bool.and_eq_true, decide_eq_true_eq] at h1
      refine ⟨by rw [e], by rw [e]; exact h1.1.2, fun j hj hjk hij => ?_⟩
      have h2 := List.all_eq_true.1 h1.2 j (List.mem_range.2 hj)
      simp only [Bool.or_eq_true, beq_iff_eq, bne_iff_ne] at h2
      rcases h2 with (h2 | h2) | h2
      · exact absurd h2 hij
      · exact absurd h2 hjk
      · rw [e]; exact h2
  intro k
  induction k with
  | zero =>
    intro listed a w hk inv
    have hall : ∀ i, i < n → listed.getD i false = true := by
      intro i hi
      have h0 := List.length_eq_zero_iff.1 hk
      have h1 := List.filter_eq_nil_iff.1 h0 i (List.mem_range.2 hi)
      simpa using h1
    have hf := listed_full inv.head.size (by omega) hall inv.head.tail
    rw [Nat.zero_add, ← htn]
    refine wpAny_of_seq (md := md) (Q' := Q) tl n listed a w htl ?_ (htail a w inv.size inv.dfr inv.old (fun i hi hik => by have := inv.rel i hi hik (hall i hi); rw [hall k0 hk0] at this; exact this) (inv.put (hall k0 hk0)) inv.bel)
    rw [htn, hf]
    exact hseq
  | succ k ih =>
    intro listed a w hk inv
    have hex : ∃ i, i < n ∧ listed.getD i false = false := by
      refine Classical.byContradiction fun h => ?_
      have : ((List.range n).filter fun i => !listed.getD i false) = [] := by
        rw [List.filter_eq_nil_iff]
        intro i hi hb
        exact h ⟨i, List.mem_range.1 hi, by simpa using hb⟩
      rw [this] at hk
      simp at hk
    rw [show k + 1 + (ops.size - n) = (k + (ops.size - n)) + 1 by omega]
    have hin : ∀ i, i < n → listed.getD i false = false → listed.getD i true = false := fun i hi h => getD_in (by rw [inv.head.size]; omega) h
    refine ⟨fun h0 => ?_, fun i hi => ?_⟩
    · exfalso
      obtain ⟨i, hi, hl⟩ := hex
      -- the least that is not listed is ready
      have key : ∀ m, m ≤ n → (∀ j, j < m → listed.getD j false = true) ∨ ∃ j, j < m ∧ listed.getD j false = false ∧ ∀ j', j' < j → listed.getD j' false = true := by
        intro m
        induction m with
        | zero => intro _; exact .inl (fun j hj => by omega)
        | succ m ihm =>
          intro hm
          rcases ihm (by omega) with h | ⟨j, hj, hj2⟩
          · cases hlm : listed.getD m false with
            | true => exact .inl (fun j hj => by rcases Nat.lt_succ_iff_lt_or_eq.1 hj with h' | rfl; exact h j h'; exact hlm)
            | false => exact .inr ⟨m, by omega, hlm, h⟩
          · exact .inr ⟨j, by omega, hj2⟩
      rcases key n (Nat.le_refl _) with h | ⟨j, hj, hj1, hj2⟩
      · rw [h i hi] at hl; cases hl
      · have hjo : j < ops.size := by omega
        have hr : j ∈ Region.ready md ops listed := by
          refine mem_ready.2 ⟨hin j hj hj1, ops[j], Array.getElem?_eq_getElem hjo, fun e he hb => ?_⟩
          have h1 := List.all_eq_true.1 hlow j (List.mem_range.2 hj)
          simp only [Array.getElem?_eq_getElem hjo, Option.map_some, Option.getD_some, Array.all_eq_true_iff_forall_mem, Bool.or_eq_true, Bool.not_eq_true', decide_eq_true_eq] at h1
          rcases h1 e he with h2 | h2
          · rw [hb] at h2; cases h2
          · exact hj2 e.on h2
        rw [h0] at hr
        cases hr
    · have hin2 : i < n := by
        rcases Nat.lt_or_ge i n with h | h
        · exact h
        · obtain ⟨j, hj, hl⟩ := hex
          exact absurd hi (tail_waits hs hc hn inv.head _ j rfl hj (hin j hj hl) i h)
      obtain ⟨o, ho, hdo⟩ := hd i hin2
      obtain ⟨hun, oi, hoi, hall⟩ := mem_ready.1 hi
      have : oi = o := Option.some.inj (hoi.symm.trans ho)
      subst this
      have hw : ∀ j, Region.waitsFor md ops i j = true → j < n ∧ listed.getD j false = true := fun j hj => by
        obtain ⟨oj, hoj, e, he, hbd, hon⟩ := Region.waitsFor_spec hj
        have : oj = oi := Option.some.inj (hoj.symm.trans hoi)
        subst this
        have hl := hall e he hbd
        rw [hon] at hl
        refine ⟨?_, hl⟩
        have h1 := List.all_eq_true.1 hlow i (List.mem_range.2 hin2)
        simp only [ho, Option.map_some, Option.getD_some, Array.all_eq_true_iff_forall_mem, Bool.or_eq_true, Bool.not_eq_true', decide_eq_true_eq] at h1
        rcases h1 e he with h2 | h2
        · rw [hbd] at h2; cases h2
        · omega
      have hfew : ((List.range n).filter fun j => !(listed.setIfInBounds i true).getD j false).length = k := by
        have hlt : i < listed.size := by rw [inv.head.size]; omega
        have e : ∀ j, (listed.setIfInBounds i true).getD j false = (j == i || listed.getD j false) := by
          intro j
          by_cases hji : i = j
          · subst hji; simp [hlt]
          · rw [getD_set_ne false hji]; simp [Ne.symm hji]
        have hcount : ∀ (l : List Nat), l.Nodup → i ∈ l → (l.filter fun j => !listed.getD j false).length = (l.filter fun j => !(listed.setIfInBounds i true).getD j false).length + 1 := by
          intro l
          induction l with
          | nil => intro _ h; cases h
          | cons x l ihl =>
            intro hnd hm
            have hx := (List.nodup_cons.1 hnd)
            by_cases hxi : x = i
            · subst hxi
              have hl0 : listed.getD x false = false := getD_both hun
              have hrest : (l.filter fun j => !listed.getD j false) = l.filter fun j => !(listed.setIfInBounds x true).getD j false := by
                apply List.filter_congr
                intro j hj
                have hjx : j ≠ x := fun h => hx.1 (h ▸ hj)
                rw [e j]
                simp [hjx]
              rw [List.filter_cons_of_pos (by simp only [hl0]; rfl), List.filter_cons_of_neg (by rw [e x]; simp), ← hrest]
              rfl
            · have hm' : i ∈ l := by rcases List.mem_cons.1 hm with h | h; exact absurd h.symm hxi; exact h
              have := ihl hx.2 hm'
              have ex : (listed.setIfInBounds i true).getD x false = listed.getD x false := by rw [e x]; simp [hxi]
              cases hlx : listed.getD x false with
              | true => rw [List.filter_cons_of_neg (by rw [hlx]; simp), List.filter_cons_of_neg (by rw [ex, hlx]; simp)]; exact this
              | false => rw [List.filter_cons_of_pos (by rw [hlx]; rfl), List.filter_cons_of_pos (by rw [ex, hlx]; rfl)]; simp only [List.length_cons]; omega
        have := hcount (List.range n) List.nodup_range (List.mem_range.2 hin2)
        omega
      have hl0 : listed.getD i false = false := getD_both hun
      by_cases hik : i = k0
      · subst hik
        have hlt : i < listed.size := by rw [inv.head.size]; omega
        have hl1 : (listed.setIfInBounds i true).getD i false = true := by simp [hlt]
        refine hone a w inv.size inv.dfr inv.old (fun j hjk hj => ?_) inv.bel _ (fun w' hs' hk' hb => ih _ _ _ hfew ⟨inv.head.set hi hin2, inv.size, inv.dfr, inv.old, fun j hj hji hl => ?_, hb, fun _ => hs'⟩)
        · obtain ⟨h1, h2⟩ := hw j hj
          have := inv.rel j h1 hjk h2
          rw [hl0] at this
          exact this
        · rw [getD_set_ne false (Ne.symm hji)] at hl
          have := inv.rel j hj hji hl
          rw [hl0] at this
          rw [hl1]
          exact hk' j hj hji this
      · obtain ⟨hod, hdN, hne⟩ := hdo hik
        have hl1 : (listed.setIfInBounds i true).getD k0 false = listed.getD k0 false := getD_set_ne false hik
        refine hstep i hin2 hik (listed.getD k0 false) a w inv.size inv.dfr inv.old (fun j hjk hj => ?_) inv.bel (fun hf => ?_) _ (fun v w' hv hb => ih _ _ _ hfew ⟨inv.head.set hi hin2, by simp [Act.put, inv.size], by simpa [Act.put] using inv.dfr, fun s hs' => ?_, fun j hj hjk hl => ?_, hJ _ _ inv.bel hb, fun hf => ?_⟩)
        · obtain ⟨h1, h2⟩ := hw j hj
          exact inv.rel j h1 hjk h2
        · cases hwk : Region.waitsFor md ops k0 i with
          | false => rfl
          | true =>
            obtain ⟨oj, hoj, e, he, hbd, hon⟩ := Region.waitsFor_spec hwk
            have h9 := inv.head.closed k0 oj hoj hf e he hbd
            rw [hon, hl0] at h9
            cases h9
        · have hsi : dstOf ops i ≠ s := freeS_iff.1 hs' i hin2 hik
          rw [← inv.old s hs']
          simp [Act.put, Array.getElem?_setIfInBounds_ne hsi]
        · rw [hl1]
          by_cases hij : i = j
          · subst hij
            have : (a.put (some (dstOf ops i)) v).tmps.getD (dstOf ops i) undef = v := by
              have : dstOf ops i < a.tmps.size := by rw [inv.size]; exact hdN
              simp [Act.put, this]
            rw [this]
            exact hv
          · rw [getD_set_ne false hij] at hl
            have hdj := hne j hj hjk hij
            have : (a.put (some (dstOf ops i)) v).tmps.getD (dstOf ops j) undef = a.tmps.getD (dstOf ops j) undef := by
              simp [Act.put, Array.getElem?_setIfInBounds_ne (Ne.symm hdj)]
            rw [this]
            exact hR _ j hj hjk _ _ _ (inv.rel j hj hjk hl) hb
        · rw [hl1] at hf
          exact hS _ _ (inv.put hf) hb
end
/-- The law. -/
theorem wp_region_flowJ {P : Program} {id : Nat} {Q : Exit → Act → World → Prop} {a0 : Act} {w0 : World} {l : List Oper} (n N : Nat) (k0 : Nat) (S J : World → Prop) (R : Bool → Nat → Value → World → Prop) (hm : P.follows .mixedOrders = true) (hB : flowS .any l.toArray n N k0 = true) (hN : a0.tmps.size = N) (hJ0 : J { w0 with drawn := w0.drawn + 1 })
    (hk0 : k0 < n) (hR : ∀ f i, i < n → i ≠ k0 → ∀ v w w', R f i v w → Below w.heap.size w w' → R f i v w') (hS : ∀ w w', S w → Below w.heap.size w w' → S w') (hJ : ∀ w w', J w → Below w.heap.size w w' → J w')
    (hstep : ∀ i, i < n → i ≠ k0 → ∀ (f : Bool) (a : Act) (w : World), a.tmps.size = N → a.defers = a0.defers → (∀ s, freeS l.toArray n k0 s = true → a.tmps.getD s undef = a0.tmps.getD s undef) →
      (∀ j, j ≠ k0 → Region.waitsFor .any l.toArray i j = true → R f j (a.tmps.getD (dstOf l.toArray j) undef) w) → J w → (f = true → Region.waitsFor .any l.toArray k0 i = false) →
      ∀ K : Act → World → Prop, (∀ v w', R f i v w' → Below w.heap.size w w' → K (a.put (some (dstOf l.toArray i)) v) w') → wpOp P l.toArray Q i K a w)
    (hone : ∀ (a : Act) (w : World), a.tmps.size = N → a.defers = a0.defers → (∀ s, freeS l.toArray n k0 s = true → a.tmps.getD s undef = a0.tmps.getD s undef) →
      (∀ j, j ≠ k0 → Region.waitsFor .any l.toArray k0 j = true → R false j (a.tmps.getD (dstOf l.toArray j) undef) w) → J w →
      ∀ K : Act → World → Prop, (∀ w', S w' → (∀ j, j < n → j ≠ k0 → R false j (a.tmps.getD (dstOf l.toArray j) undef) w → R true j (a.tmps.getD (dstOf l.toArray j) undef) w') → J w' → K a w') → wpOp P l.toArray Q k0 K a w)
    (htail : ∀ (a : Act) (w : World), a.tmps.size = N → a.defers = a0.defers → (∀ s, freeS l.toArray n k0 s = true → a.tmps.getD s undef = a0.tmps.getD s undef) →
      (∀ i, i < n → i ≠ k0 → R true i (a.tmps.getD (dstOf l.toArray i) undef) w) → S w → J w → wpList P l.toArray Q (l.drop n) a w) :
    (Code.region id l.toArray true).wp P Q a0 w0 := by
  have hn : n < l.length := by
    simp only [flowS, Bool.and_eq_true, decide_eq_true_eq] at hB
    simpa using hB.1.1.1.1.1
  refine wp_region_any hm ?_
  have h0 : ((List.range n).filter fun i => !(Array.replicate l.toArray.size false).getD i false).length = n := by
    rw [List.filter_eq_self.2 (fun i _ => by rw [getD_replicate_false]; rfl)]
    simp
  have := wpAny_of_flowJ (P := P) (ops := l.toArray) (md := .any) (n := n) (N := N) (a0 := a0) (w0 := w0) (k0 := k0) (S := S) (J := J) (R := R) (Q := Q) (tl := l.drop n) hB (fun j => by simp [List.getElem?_drop]) (by simp) hk0 hR hS hJ hstep hone htail n
    (Array.replicate l.toArray.size false) a0 { w0 with drawn := w0.drawn + 1 } h0
    ⟨⟨by simp, fun j oj _ hl => (by rw [getD_replicate_false] at hl; cases hl), fun t _ ht => getD_in (by simpa using ht) (getD_replicate_false _ _)⟩, hN, rfl, fun _ _ => rfl, fun i _ _ hl => (by rw [getD_replicate_false] at hl; cases hl), hJ0, fun hl => (by rw [getD_replicate_false] at hl; cases hl)⟩
  have e : n + (l.toArray.size - n) = l.toArray.size := by simp; omega
  rw [e] at this
  exact this
theorem wp_region_flow_backJ {P : Program} {id : Nat} {Q : Exit → Act → World → Prop} {a0 : Act} {w0 : World} {l : List Oper} (n N : Nat) (k0 : Nat) (S J : World → Prop) (R : Bool → Nat → Value → World → Prop) (hm : P.follows .mixedOrders = true) (hB : flowS .any l.toArray n N k0 = true) (hN : a0.tmps.size = N) (hJ0 : J { w0 with drawn := w0.drawn + 1 })
    (hk0 : k0 < n) (hR : ∀ f i, i < n → i ≠ k0 → ∀ v w w', R f i v w → Below w.heap.size w w' → R f i v w') (hS : ∀ w w', S w → Below w.heap.size w w' → S w') (hJ : ∀ w w', J w → Below w.heap.size w w' → J w')
    (hstep : ∀ i, i < n → i ≠ k0 → ∀ (f : Bool) (a : Act) (w : World), a.tmps.size = N → a.defers = a0.defers → (∀ s, freeS l.toArray n k0 s = true → a.tmps.getD s undef = a0.tmps.getD s undef) →
      (∀ j, j ≠ k0 → Region.waitsFor .any l.toArray i j = true → R f j (a.tmps.getD (dstOf l.toArray j) undef) w) → J w → (f = true → Region.waitsFor .any l.toArray k0 i = false) →
      ∀ K : Act → World → Prop, (∀ v w', R f i v w' → Below w.heap.size w w' → K (a.put (some (dstOf l.toArray i)) v) w') → wpOp P l.toArray Q i K a w)
    (hone : ∀ (a : Act) (w : World), a.tmps.size = N → a.defers = a0.defers → (∀ s, freeS l.toArray n k0 s = true → a.tmps.getD s undef = a0.tmps.getD s undef) →
      (∀ j, j ≠ k0 → Region.waitsFor .any l.toArray k0 j = true → R false j (a.tmps.getD (dstOf l.toArray j) undef) w) → J w →
      ∀ K : Act → World → Prop, (∀ w', S w' → (∀ j, j < n → j ≠ k0 → R false j (a.tmps.getD (dstOf l.toArray j) undef) w → R true j (a.tmps.getD (dstOf l.toArray j) undef) w') → J w' → K a w') → wpOp P l.toArray Q k0 K a w)
    (htail : ∀ (vs : Nat → Value) (w : World), (∀ i, i < n → i ≠ k0 → R true i (vs i) w) → S w → J w → wpList P l.toArray Q (l.drop n) (putSkip l.toArray a0 vs k0 n) w) :
    (Code.region id l.toArray true).wp P Q a0 w0 := by
  refine wp_region_flowJ n N k0 S J R hm hB hN hJ0 hk0 hR hS hJ hstep hone ?_
  intro a w h1 h2 h3 h4 h5 h6'
  simp only [flowS, Bool.and_eq_true, decide_eq_true_eq] at hB
  obtain ⟨⟨-, hdst⟩, -⟩ := hB
  have hd : ∀ i, i < n → i ≠ k0 → dstOf l.toArray i < N ∧ ∀ j, j < n → j ≠ k0 → i ≠ j → dstOf l.toArray j ≠ dstOf l.toArray i := by
    intro i hi hik
    have h6 := List.all_eq_true.1 hdst i (List.mem_range.2 hi)
    split at h6
    · rename_i d hdd
      have e : dstOf l.toArray i = d := by unfold dstOf; rw [hdd]; rfl
      simp only [Bool.and_eq_true, decide_eq_true_eq] at h6
      refine ⟨by rw [e]; exact h6.1.2, fun j hj hjk hij => ?_⟩
      have h7 := List.all_eq_true.1 h6.2 j (List.mem_range.2 hj)
      simp only [Bool.or_eq_true, beq_iff_eq, bne_iff_ne] at h7
      rw [e]
      rcases h7 with (h7 | h7) | h7
      · exact absurd h7 hij
      · exact absurd h7 hjk
      · exact h7
    · exact absurd (of_decide_eq_true h6) hik
  obtain ⟨g1, g2⟩ := putSkip_get (ops := l.toArray) (a0 := a0) (k0 := k0) (vs := fun i => a.tmps.getD (dstOf l.toArray i) undef) n (fun i j hi hj hik hjk hij => Ne.symm ((hd i hi hik).2 j hj hjk hij)) (fun i hi hik => by rw [hN]; exact (hd i hi hik).1)
  have e : putSkip l.toArray a0 (fun i => a.tmps.getD (dstOf l.toArray i) undef) k0 n = a := by
    have hs := putSkip_size (ops := l.toArray) (a0 := a0) (k0 := k0) (vs := fun i => a.tmps.getD (dstOf l.toArray i) undef) n
    have hdf := putSkip_dfr (ops := l.toArray) (a0 := a0) (k0 := k0) (vs := fun i => a.tmps.getD (dstOf l.toArray i) undef) n
    have ht : (putSkip l.toArray a0 (fun i => a.tmps.getD (dstOf l.toArray i) undef) k0 n).tmps = a.tmps := by
      refine Array.ext (by rw [hs, hN, h1]) (fun s hs1 hs2 => ?_)
      have key : (putSkip l.toArray a0 (fun i => a.tmps.getD (dstOf l.toArray i) undef) k0 n).tmps.getD s undef = a.tmps.getD s undef := by
        by_cases hx : freeS l.toArray n k0 s = true
        · rw [g2 s (freeS_iff.1 hx), h3 s hx]
        · have : ∃ i, i < n ∧ i ≠ k0 ∧ dstOf l.toArray i = s := by
            refine Classical.byContradiction fun hc => hx (freeS_iff.2 (fun i hi hik he => hc ⟨i, hi, hik, he⟩))
          obtain ⟨i, hi, hik, rfl⟩ := this
          exact g1 i hi hik
      have gd : ∀ (x : Array Value) (s : Nat) (h : s < x.size), x.getD s undef = x[s] := fun x s h => by simp [Array.getD, h]
      rw [gd _ _ hs1, gd _ _ hs2] at key
      exact key
    cases a
    generalize putSkip l.toArray a0 _ k0 n = b at *
    cases b
    simp only at ht hdf h2
    rw [ht, hdf, h2]
  have := htail _ w h4 h5 h6'
  rw [e] at this
  exact this
end Go.Proofs.YtcaeohgbgeadaaaGreatDoor

namespace Go.Proofs.YtcaeohgbgeadaaaGreatDoor
open Go Go.RowKit
/-- What region 8's operations leave. -/
def r8T (gT gN : Nat) (t : Tr) (q tn hr : Int) (i : Nat) (v : Value) (_w : World) : Prop :=
  match i with
  | 0 => v = .agg #[.int .i64 q, .int .i64 t.r]
  | 1 => v = .int .i64 tn
  | 2 => v = .pointer (some ⟨gT, 2, none⟩)
  | 3 => v = .pointer (some ⟨gT, 2 + tn.toNat, none⟩)
  | 4 => v = .int .i64 (t.room tn.toNat)
  | 5 => v = .agg #[.int .i64 (q - min q (t.room tn.toNat)), .int .i64 t.r]
  | 6 => v = .int .i64 hr
  | _ => True
theorem r8T_kept (gT gN : Nat) (t : Tr) (q tn hr : Int) : ∀ (i : Nat), i < 7 → ∀ (v : Value) (w w' : World), r8T gT gN t q tn hr i v w → Below w.heap.size w w' → r8T gT gN t q tn hr i v w' := by
  intro i hi v w w' h hb
  match i, hi with
  | 0, _ => exact h
  | 1, _ => exact h
  | 2, _ => exact h
  | 3, _ => exact h
  | 4, _ => exact h
  | 5, _ => exact h
  | 6, _ => exact h
  | k + 7, hk => omega
/-- What region 11's operations leave. -/
def r11T (gT : Nat) (t : Tr) (v1 a1 o1 q : Int) (i : Nat) (v : Value) (_w : World) : Prop :=
  match i with
  | 0 => v = .pointer (some ⟨gT, 0, none⟩)
  | 1 => v = .pointer (some ⟨gT, 0, none⟩)
  | 2 => v = .int .i64 t.h
  | 3 => v = .int .i64 o1
  | 4 => v = .agg #[.int .i64 v1, .int .i64 t.r]
  | 5 => v = .pointer (some ⟨gT, 8, none⟩)
  | 6 => v = .int .i64 t.g
  | 7 => v = .int .i64 a1
  | 8 => v = .int .i64 (t.g - a1)
  | 9 => v = .agg #[.int .i64 q, .int .i64 t.r]
  | 10 => v = .int .i64 q
  | 11 => v = .agg #[.int .i64 t.h, .int .i64 o1, .int .i64 q]
  | _ => True
theorem r11T_kept (gT : Nat) (t : Tr) (v1 a1 o1 q : Int) : ∀ (i : Nat), i < 12 → ∀ (v : Value) (w w' : World), r11T gT t v1 a1 o1 q i v w → Below w.heap.size w w' → r11T gT t v1 a1 o1 q i v w' := by
  intro i hi v w w' h hb
  match i, hi with
  | 0, _ => exact h
  | 1, _ => exact h
  | 2, _ => exact h
  | 3, _ => exact h
  | 4, _ => exact h
  | 5, _ => exact h
  | 6, _ => exact h
  | 7, _ => exact h
  | 8, _ => exact h
  | 9, _ => exact h
  | 10, _ => exact h
  | 11, _ => exact h
  | k + 12, hk => omega
theorem st_store_net {ops : Array Oper} {Q : Exit → Act → World → Prop} {i : Nat} {o : Oper} {K : Act → World → Prop} {a : Act} {w : World} {s t g : Nat} {x y : Int} {v0 v1 : Value} (h : ops[i]? = some o) (hw : Region.wanted o (yielded ops a.tmps) = true) (hop : o.op = .store 141 (.tmp s) (.tmp t)) (hd : o.dst = none)
    (hs : a.tmps.getD s undef = .pointer (some ⟨g, 0, none⟩)) (ht : a.tmps.getD t undef = .agg #[.int .i64 x, .int .i64 y]) (k : Blk w g 141 #[v0, v1])
    (hK : ∀ w', (∀ B, B ≤ g → Below B w w') → (∀ g', g' ≠ g → ∀ t' cs, Blk w g' t' cs → Blk w' g' t' cs) → Blk w' g 141 #[.int .i64 x, .int .i64 y] → K a w') : wpOp Tryz.prog ops Q i K a w := by
  refine wpOp_want h hw ?_
  refine wp_store_mid 141 _ _ hop g 0 _ hs ht ?_ (by kernel_rfl) (by kernel_rfl) ?_
  · intro j hj
    rw [Nat.zero_add, k.cell, k.frozen]
    have hj' : j < (#[v0, v1] : Array Value).size := hj
    exact ⟨by rw [Array.getElem?_eq_getElem hj']; rfl, rfl⟩
  · rw [hd]
    have h2 : Blk ((w.setCell ⟨g, 0, none⟩ (.int .i64 x)).setCell ⟨g, 1, none⟩ (.int .i64 y)) g 141 #[.int .i64 x, .int .i64 y] := by simpa using (k.set 0 (.int .i64 x)).set 1 (.int .i64 y)
    exact hK ((w.setCell ⟨g, 0, none⟩ (.int .i64 x)).setCell ⟨g, 1, none⟩ (.int .i64 y)) (fun B hB => ((Below.refl B w).setCell hB _).setCell hB _) (fun g' hg' t' cs hk => (hk.setOther hg' 0 _).setOther hg' 1 _) h2
/-- What is so of the world all through region 8. -/
structure J8 (w : World) (b : Tk) (p : Tp) (t : Tr) (gM : Nat) (q : Int) (X : World) : Prop where
  bel : Below w.heap.size w X
  B : Blk X w.heap.size 81 (tcs b p)
  T : Blk X (w.heap.size + 1) 145 (trcs t)
  E : Blk X (w.heap.size + 1 + 1) 137 #[.int .i64 0, .int .i64 0, .int .i64 0]
  N : ∃ x y, Blk X (w.heap.size + 1 + 1 + 1) 141 #[x, y]
  M : Blk X gM 141 #[.int .i64 q, .int .i64 t.r]
theorem J8.next {w : World} {b : Tk} {p : Tp} {t : Tr} {gM : Nat} {q : Int} {X Y : World} (h : J8 w b p t gM q X) (hb : Below X.heap.size X Y) : J8 w b p t gM q Y :=
  ⟨h.bel.trans (hb.mono h.bel.size), h.B.bel hb, h.T.bel hb, h.E.bel hb, by obtain ⟨x, y, hn⟩ := h.N; exact ⟨x, y, hn.bel hb⟩, h.M.bel hb⟩
attribute [local go_sem] Oper.semAt_some frozen_alloc_lt
set_option maxRecDepth 100000 in
set_option maxHeartbeats 4000000 in
theorem ending_any (b : Tk) (p : Tp) (t : Tr) (pp : Option Addr) (pc : Nat) (pl : List Int) (w : World) (hl : LowsAt w p.tp b.ts) (hp : IntsAt w pp pl) (hn : 0 ≤ b.now ∧ b.now ≤ t.g) (h6 : b.ts.length ≤ 6) (hlen : pl.length ≤ 1000) (ho : ordT b.ts b.now pl) (hok : t.OK) :
    Calls Tryz.prog 116 #[tv b p, trv t, .slice pp pl.length pc] w fun e w' => e = .returned (.agg #[.int .i64 (endS b t pl).1, .int .i64 (endS b t pl).2.1, .int .i64 (endS b t pl).2.2]) ∧ ∃ x, w' = ext w x := by
  unfold tv trv
  have HL := Lib.hid hl
  have HP := Lib.hid hp
  have HO := Lib.hid ho
  have HOK := Lib.hid hok
  clear hl hp ho hok
  go_enter Tryz.func116, Tryz.ntmps116
  go_upto_region 1 with fail
  go_region
  generalize hW : World.alloc _ _ = W
  have hB : Below w.heap.size w W := by rw [← hW]; (exact belA)
  have kB : Blk W w.heap.size 81 (tcs b p) := by rw [← hW]; exact (((Blk.new rfl).alloc _).alloc _).alloc _
  have kT : Blk W (w.heap.size + 1) 145 (trcs t) := by rw [← hW]; exact ((Blk.new (by simp)).alloc _).alloc _
  have kE : Blk W (w.heap.size + 1 + 1) 137 #[.int .i64 0, .int .i64 0, .int .i64 0] := by rw [← hW]; exact (Blk.new (by simp)).alloc _
  have kN : Blk W (w.heap.size + 1 + 1 + 1) 141 #[.int .i64 t.h, .int .i64 t.r] := by rw [← hW]; exact Blk.new (by simp)
  have KB := Lib.hid kB
  have KT := Lib.hid kT
  have KE := Lib.hid kE
  have KN := Lib.hid kN
  have HB := Lib.hid hB
  clear hW hB kB kT kE kN
  go_upto_region 3 with fail
  go_loopw [8, 9, 21] (fun x y i wr => ∃ (k : Nat) (v a o : Int), k ≤ pl.length ∧ i = .int .i64 k ∧ x = .int .i64 a ∧ y = .int .i64 o ∧ Hid (0 ≤ v ∧ 0 ≤ o ∧ v + o ≤ t.h) ∧ Hid (0 ≤ a ∧ a ≤ t.g) ∧ Hid (ordT b.ts a (pl.drop k)) ∧ Hid (playS b.ts t.room t.r t.g pl (t.h, b.now, 0) = playS b.ts t.room t.r t.g (pl.drop k) (v, a, o)) ∧
    Hid (Blk wr w.heap.size 81 (tcs b p)) ∧ Hid (Blk wr (w.heap.size + 1) 145 (trcs t)) ∧ Hid (Blk wr (w.heap.size + 1 + 1) 137 #[.int .i64 0, .int .i64 0, .int .i64 0]) ∧ Hid (Blk wr (w.heap.size + 1 + 1 + 1) 141 #[.int .i64 v, .int .i64 t.r]) ∧ Hid (Below w.heap.size w wr)) (fun _ _ i _ => pl.length - (intOf i).toNat)
  case atStart => exact ⟨0, t.h, b.now, 0, by omega, rfl, rfl, rfl, Lib.hid ⟨HOK.out.h.1, by omega, by omega⟩, Lib.hid hn, HO, Lib.hid rfl, KB, KT, KE, KN, Lib.hid HB.out.drew⟩
  case round =>
    obtain ⟨k, v, a, o, hk, rfl, rfl, rfl, HV, HA, HO, HS, KB, KT, KE, KN, HB⟩ := hrel
    by_cases hlt : k < pl.length
    · obtain ⟨tn, ht⟩ := get_some pl k hlt
      obtain ⟨b0, o0, hpp, hb0, c0⟩ := (HP.out.below HB.out) k _ ht
      have hD := drop_of_get ht
      have ho2 := HO.out
      rw [hD] at ho2
      obtain ⟨t0, s, hs, ha1, ha2, ho3⟩ := ho2
      obtain ⟨n, rfl⟩ := Int.eq_ofNat_of_zero_le t0
      have hn' : ((n : Int)).toNat = n := by omega
      obtain ⟨b1, o1, hp1, hb1, d1, -, -⟩ := (HL.out.below HB.out) _ s hs
      rw [hn'] at d1
      have hnl : n < b.ts.length := by have := (List.getElem?_eq_some_iff.1 hs).1; omega
      have n0 : (0 : Int) ≤ (n : Int) := by omega
      have n1 : (n : Int) < (b.ts.length : Int) := by omega
      have k0 : (0 : Int) ≤ (k : Int) := by omega
      have k1 : (k : Int) < (pl.length : Int) := by omega
      have HW := Lib.hid (wrap_num k (by omega))
      have c4 : wr.cell? ⟨w.heap.size, 4, none⟩ = some (.slice (some ⟨b1, o1, none⟩) b.ts.length p.tc) := by rw [← hp1]; exact (KB.out.cell 4).trans rfl
      have lB := KB.out.lt
      have c8 : wr.cell? ⟨w.heap.size + 1, 8, none⟩ = some (.int .i64 t.g) := (KT.out.cell 8).trans rfl
      have lT := KT.out.lt
      clear hp1
      rw [hpp]
      clear hpp
      by_cases hg : t.g ≤ s.hour
      · have hd : decide (t.g ≤ s.hour) = true := by simpa using hg
        obtain ⟨qq, hqq⟩ : ∃ q, afterH t.r (t.g - a).toNat v = q := ⟨_, rfl⟩
        have HQ := Lib.hid hqq
        have HG := Lib.hid (show 0 ≤ t.g - a ∧ t.g - a ≤ 1000 by have := HA.out; have := HOK.out.g; omega)
        have HZ := Lib.hid (show endS b t pl = (t.h, o, qq) by unfold endS; rw [HS.out, hD, playS_stop hs hg, ← hqq])
        clear hqq ht hs hD ho3
        go_upto_region 11 with fail
        clear c0 d1 c4 c8 hd
        refine wp_region_flow_back 12 68 (r11T (w.heap.size + 1) t v a o qq) (by kernel_rfl) (by kernel_rfl) rfl (r11T_kept _ _ _ _ _ _) ?_ ?_
        · intro i hin a2 X g1 g2 g3 g4 g5 KK hKK
          match i, hin with
          | 0, _ => exact st_val rfl (wanted_none rfl) (run_tr0 _ rfl (g3 4 (by kernel_rfl)) (KT.out.bel g5).lt) (hKK _ _ rfl (Below.refl _ _))
          | 1, _ => exact st_val rfl (wanted_none rfl) (run_heldT _ rfl (g4 0 (by kernel_rfl)) (KT.out.bel g5).lt) (hKK _ _ rfl (Below.refl _ _))
          | 2, _ => exact st_val rfl (wanted_none rfl) (run_num _ rfl (g4 1 (by kernel_rfl)) (((KT.out.bel g5).cell 0).trans rfl)) (hKK _ _ rfl (Below.refl _ _))
          | 3, _ => exact st_move rfl rfl (wanted_none rfl) (g3 9 (by kernel_rfl)) (hKK _ _ rfl (Below.refl _ _))
          | 4, _ => exact st_val rfl (wanted_none rfl) (run_net _ rfl (g3 7 (by kernel_rfl)) (KN.out.bel g5)) (hKK _ _ rfl (Below.refl _ _))
          | 5, _ => exact st_val rfl (wanted_none rfl) (run_tr2 _ rfl (g3 4 (by kernel_rfl)) (KT.out.bel g5).lt) (hKK _ _ rfl (Below.refl _ _))
          | 6, _ => exact st_val rfl (wanted_none rfl) (run_num _ rfl (g4 5 (by kernel_rfl)) (((KT.out.bel g5).cell 8).trans rfl)) (hKK _ _ rfl (Below.refl _ _))
          | 7, _ => exact st_move rfl rfl (wanted_none rfl) (g3 8 (by kernel_rfl)) (hKK _ _ rfl (Below.refl _ _))
          | 8, _ => exact st_val rfl (wanted_none rfl) (run_subT _ rfl (g4 6 (by kernel_rfl)) (g4 7 (by kernel_rfl)) (by have := HG.out; omega)) (hKK _ _ rfl (Below.refl _ _))
          | 9, _ =>
            refine st_call rfl rfl (wanted_none rfl) (sargs2 (g4 4 (by kernel_rfl)) (g4 8 (by kernel_rfl))) (run_enter Tryz.func152 (by kernel_rfl) (by kernel_rfl) _) ?_
            refine (after_eqT v t.r (t.g - a) qq _ HOK.out.r HG.out HV.out.1 (by have := HV.out; have := HOK.out.h; omega) HQ.out).mono ?_
            rintro e w1 ⟨rfl, y, rfl⟩
            exact ⟨_, rfl, hKK _ _ rfl (below_ext _ _)⟩
          | 10, _ => exact st_val rfl (wanted_none rfl) (run_netf _ rfl (g4 9 (by kernel_rfl))) (hKK _ _ rfl (Below.refl _ _))
          | 11, _ => exact st_val rfl (wanted_none rfl) (run_end _ rfl (g4 2 (by kernel_rfl)) (g4 3 (by kernel_rfl)) (g4 10 (by kernel_rfl)) ⟨⟨_, rfl⟩, ⟨_, rfl⟩, ⟨_, rfl⟩⟩) (hKK _ _ rfl (Below.refl _ _))
          | k + 12, hk => omega
        intro vs W2 hvs hBW
        have v0 : vs 0 = _ := hvs 0 (by omega)
        have v1 : vs 1 = _ := hvs 1 (by omega)
        have v2 : vs 2 = _ := hvs 2 (by omega)
        have v3 : vs 3 = _ := hvs 3 (by omega)
        have v4 : vs 4 = _ := hvs 4 (by omega)
        have v5 : vs 5 = _ := hvs 5 (by omega)
        have v6 : vs 6 = _ := hvs 6 (by omega)
        have v7 : vs 7 = _ := hvs 7 (by omega)
        have v8 : vs 8 = _ := hvs 8 (by omega)
        have v9 : vs 9 = _ := hvs 9 (by omega)
        have v10 : vs 10 = _ := hvs 10 (by omega)
        have v11 : vs 11 = _ := hvs 11 (by omega)
        simp only [putAll, v0, v1, v2, v3, v4, v5, v6, v7, v8, v9, v10, v11]
        clear v0 v1 v2 v3 v4 v5 v6 v7 v8 v9 v10 v11 hvs
        simp only [dstOf, Act.put, List.getElem?_toArray, List.getElem?_cons_zero, List.getElem?_cons_succ, Option.bind_some, Option.getD_some, List.setIfInBounds_toArray, List.set_cons_succ, List.set_cons_zero, List.drop_succ_cons, List.drop_zero]
        have kE := KE.out.bel hBW
        have e0 := kE.cell 0
        have e1 := kE.cell 1
        have e2 := kE.cell 2
        have f0 := kE.frozen 0
        have f1 := kE.frozen 1
        have f2 := kE.frozen 2
        have le := kE.lt
        simp only [List.size_toArray, List.length_cons, List.length_nil, Nat.reduceAdd, Nat.reduceLT, getElem?_pos, List.getElem_toArray, List.getElem_cons_zero, List.getElem_cons_succ] at e0 e1 e2
        have HEND := Lib.hid (HB.out.trans (hBW.mono HB.out.size))
        clear kE hBW
        go_wp2_with fail
        refine bodyPost_ret (v := .agg #[.int .i64 t.h, .int .i64 o, .int .i64 qq]) (by simp [results, Tryz.results116, go_sem, e0, e1, e2, le]) rfl ⟨by rw [HZ.out], ext_of ?_⟩
        exact ((HEND.out.setCell (by dsimp only; omega) _).setCell (by dsimp only; omega) _).setCell (by dsimp only; omega) _
      · have hd : decide (t.g ≤ s.hour) = false := by simpa using hg
        obtain ⟨q, hq⟩ : ∃ q, afterH t.r (s.hour - a).toNat v = q := ⟨_, rfl⟩
        have HQ := Lib.hid hq
        have HQB := Lib.hid (show 0 ≤ q ∧ q ≤ v by rw [← hq]; exact afterH_bd HOK.out.r.1 _ _ HV.out.1)
        have HG := Lib.hid (show 0 ≤ s.hour - a ∧ s.hour - a ≤ 1000 by have := HA.out; omega)
        have HS2 := Lib.hid (show playS b.ts t.room t.r t.g pl (t.h, b.now, 0) = playS b.ts t.room t.r t.g (pl.drop (k + 1)) (q - min q (t.room n), s.hour, o + min q (t.room n)) by
          rw [HS.out, hD, playS_go hs hg hq, hn'])
        have HO3 := Lib.hid ho3
        have HH := Lib.hid (show 0 ≤ s.hour ∧ s.hour ≤ t.g ∧ s.hour ≤ 60 by have := HA.out; omega)
        have ew : IntKind.i64.wrap (s.hour - a) = s.hour - a := IntWalk.i64_in _ (by have := HG.out; omega)
        have ew' : wrap64 (s.hour - a) = s.hour - a := by have := HG.out; unfold wrap64; omega
        have x0 := KN.out.cell 0
        have x1 := KN.out.cell 1
        have lN := KN.out.lt
        simp only [List.size_toArray, List.length_cons, List.length_nil, Nat.reduceAdd, Nat.reduceLT, getElem?_pos, List.getElem_toArray, List.getElem_cons_zero, List.getElem_cons_succ] at x0 x1
        clear hq ht hs hD ho3
        go_upto_region 8 with (go_at_call 152; refine (after_eqT v t.r (s.hour - a) q _ HOK.out.r HG.out HV.out.1 (by have := HV.out; have := HOK.out.h; omega) HQ.out).mono ?_; rintro e w1 ⟨rfl, y, rfl⟩)
        have kB := (KB.out.ext y).alloc (.cells #[.int .i64 q, .int .i64 t.r] 141)
        have kT := (KT.out.ext y).alloc (.cells #[.int .i64 q, .int .i64 t.r] 141)
        have kE := (KE.out.ext y).alloc (.cells #[.int .i64 q, .int .i64 t.r] 141)
        have kN := (KN.out.ext y).alloc (.cells #[.int .i64 q, .int .i64 t.r] 141)
        have kM : Blk ((ext wr y).alloc (.cells #[.int .i64 q, .int .i64 t.r] 141)) (ext wr y).heap.size 141 #[.int .i64 q, .int .i64 t.r] := Blk.new rfl
        have hB : Below w.heap.size w ((ext wr y).alloc (.cells #[.int .i64 q, .int .i64 t.r] 141)) := HB.out.trans (((below_ext wr y).alloc (below_ext wr y).size _).mono HB.out.size)
        have hne : w.heap.size + 1 + 1 + 1 < (ext wr y).heap.size := Nat.lt_of_lt_of_le lN (below_ext wr y).size
        generalize hW3 : (ext wr y).alloc _ = W3 at *
        generalize hgM : (ext wr y).heap.size = gM at *
        clear hW3 hgM KB KT KE KN HB c0 c4 c8 d1 x0 x1 hb0 hb1
        have KB := Lib.hid kB
        have KT := Lib.hid kT
        have KE := Lib.hid kE
        have KN := Lib.hid kN
        have KM := Lib.hid kM
        have HB := Lib.hid hB
        clear kB kT kE kN kM hB
        have HJ : J8 w b p t gM q W3 := ⟨HB.out, KB.out, KT.out, KE.out, ⟨_, _, KN.out⟩, KM.out⟩
        clear KB KT KE KN KM HB
        refine wp_region_flow_backJ 8 68 7 (fun X => Blk X (w.heap.size + 1 + 1 + 1) 141 #[.int .i64 (q - min q (t.room n)), .int .i64 t.r]) (J8 w b p t gM q) (fun _ => r8T (w.heap.size + 1) (w.heap.size + 1 + 1 + 1) t q n s.hour) (by kernel_rfl) (by kernel_rfl) rfl (HJ.next (Below.refl _ W3).drew) (by omega) (fun _ i hi hk => r8T_kept _ _ _ _ _ _ i (by omega)) (fun _ _ h hb => h.bel hb) (fun _ _ h hb => h.next hb) ?_ ?_ ?_
        · intro i hin hik f a2 X g1 g2 g3 g4 g5 g6 KK hKK
          match i, hin, hik with
          | 0, _, _ => exact st_val rfl (wanted_none rfl) (run_net _ rfl (g3 13 (by kernel_rfl)) g5.M) (hKK _ _ rfl (Below.refl _ _))
          | 1, _, _ => exact st_move rfl rfl (wanted_none rfl) (g3 11 (by kernel_rfl)) (hKK _ _ rfl (Below.refl _ _))
          | 2, _, _ => exact st_val rfl (wanted_none rfl) (run_tr1 _ rfl (g3 4 (by kernel_rfl)) g5.T.lt) (hKK _ _ rfl (Below.refl _ _))
          | 3, _, _ => exact st_val rfl (wanted_none rfl) (run_rm _ rfl (g4 2 (by decide) (by kernel_rfl)) (g4 1 (by decide) (by kernel_rfl)) (show n < 6 by omega) g5.T.lt) (hKK _ _ (show _ = Value.pointer (some ⟨_, 2 + ((n : Int)).toNat, none⟩) by rw [hn']) (Below.refl _ _))
          | 4, _, _ => exact st_val rfl (wanted_none rfl) (run_num _ rfl (g4 3 (by decide) (by kernel_rfl)) ((g5.T.cell _).trans (room_at t (by omega)))) (hKK _ _ rfl (Below.refl _ _))
          | 5, _, _ =>
            refine st_call rfl rfl (wanted_none rfl) (sargs2 (g4 0 (by decide) (by kernel_rfl)) (g4 4 (by decide) (by kernel_rfl))) (run_enter Tryz.func153 (by kernel_rfl) (by kernel_rfl) _) ?_
            refine (less_anyT q t.r _ _ (by have := HQB.out; have := HV.out; have := HOK.out.h; omega) (by have := HOK.out.rm (n : Int).toNat; omega)).mono ?_
            rintro e w1 ⟨rfl, y2, rfl⟩
            exact ⟨_, rfl, hKK _ _ rfl (below_ext _ _)⟩
          | 6, _, _ => exact st_move rfl rfl (wanted_none rfl) (g3 12 (by kernel_rfl)) (hKK _ _ rfl (Below.refl _ _))
          | 7, _, hk => exact absurd rfl hk
          | k + 8, hk, _ => omega
        · intro a2 X g1 g2 g3 g4 g5 KK hKK
          obtain ⟨x, y2, hn2⟩ := g5.N
          refine st_store_net rfl (wanted_none rfl) rfl rfl (g3 7 (by kernel_rfl)) (g4 5 (by decide) (by kernel_rfl)) hn2 (fun w' b1 b2 b3 => hKK w' ?_ (fun j hj hjk hr => hr) ?_)
          · rw [hn'] at b3; exact b3
          · exact ⟨g5.bel.trans (b1 _ (by omega)), b2 _ (by omega) _ _ g5.B, b2 _ (by omega) _ _ g5.T, b2 _ (by omega) _ _ g5.E, ⟨_, _, b3⟩, b2 _ (by omega) _ _ g5.M⟩
        intro vs W2 hvs hSS hJJ
        have v0 : vs 0 = _ := hvs 0 (by omega) (by decide)
        have v1 : vs 1 = _ := hvs 1 (by omega) (by decide)
        have v2 : vs 2 = _ := hvs 2 (by omega) (by decide)
        have v3 : vs 3 = _ := hvs 3 (by omega) (by decide)
        have v4 : vs 4 = _ := hvs 4 (by omega) (by decide)
        have v5 : vs 5 = _ := hvs 5 (by omega) (by decide)
        have v6 : vs 6 = _ := hvs 6 (by omega) (by decide)
        rw [hn'] at v3 v4 v5
        simp only [putSkip, v0, v1, v2, v3, v4, v5, v6, Nat.reduceEqDiff, if_true, if_false, reduceIte]
        clear v0 v1 v2 v3 v4 v5 v6 hvs
        simp only [dstOf, Act.put, List.getElem?_toArray, List.getElem?_cons_zero, List.getElem?_cons_succ, Option.bind_some, Option.getD_some, List.setIfInBounds_toArray, List.set_cons_succ, List.set_cons_zero, List.drop_succ_cons, List.drop_zero]
        obtain ⟨z, hz⟩ : ∃ z, q - min q (t.room n) = z := ⟨_, rfl⟩
        rw [hz] at hSS
        have HZB := Lib.hid (show 0 ≤ z ∧ z ≤ q ∧ q - z = min q (t.room n) by have := HQB.out; have := HOK.out.rm n; omega)
        rw [hz]
        have HSS := Lib.hid hSS
        have HJ2 := Lib.hid hJJ
        have y0 := hSS.cell 0
        have y1 := hSS.cell 1
        have ly := hSS.lt
        have m0 := hJJ.M.cell 0
        have m1 := hJJ.M.cell 1
        have lm := hJJ.M.lt
        simp only [List.size_toArray, List.length_cons, List.length_nil, Nat.reduceAdd, Nat.reduceLT, getElem?_pos, List.getElem_toArray, List.getElem_cons_zero, List.getElem_cons_succ] at y0 y1 m0 m1
        have e1 : IntKind.i64.wrap (q - z) = q - z := IntWalk.i64_in _ (by have := HZB.out; have := HQB.out; have := HV.out; have := HOK.out.h; omega)
        have e2 : IntKind.i64.wrap (o + (q - z)) = o + (q - z) := IntWalk.i64_in _ (by have := HZB.out; have := HQB.out; have := HV.out; have := HOK.out.h; omega)
        have e1' : wrap64 (q - z) = q - z := by have := HZB.out; have := HQB.out; have := HV.out; have := HOK.out.h; unfold wrap64; omega
        have e2' : wrap64 (o + (q - z)) = o + (q - z) := by have := HZB.out; have := HQB.out; have := HV.out; have := HOK.out.h; unfold wrap64; omega
        clear hSS hJJ
        go_wp2_with fail
        try rw [HW.out]
        have hj := HJ2.out
        refine ⟨⟨k + 1, z, s.hour, o + (q - z), hlt, rfl, rfl, rfl, Lib.hid ?_, Lib.hid ⟨HH.out.1, HH.out.2.1⟩, HO3, Lib.hid ?_, Lib.hid hj.B, Lib.hid hj.T, Lib.hid hj.E, HSS, Lib.hid hj.bel⟩, less_num _ k hlt⟩
        · have := HZB.out; have := HQB.out; have := HV.out; omega
        · rw [HS2.out, hz, ← HZB.out.2.2]
    · obtain rfl : k = pl.length := by omega
      obtain ⟨qq, hqq⟩ : ∃ q, afterH t.r (t.g - a).toNat v = q := ⟨_, rfl⟩
      have HQ := Lib.hid hqq
      have HG := Lib.hid (show 0 ≤ t.g - a ∧ t.g - a ≤ 1000 by have := HA.out; have := HOK.out.g; omega)
      have HZ := Lib.hid (show endS b t pl = (t.h, o, qq) by unfold endS; rw [HS.out, List.drop_length, ← hqq]; rfl)
      clear hqq
      go_upto_region 11 with fail
      refine wp_region_flow_back 12 68 (r11T (w.heap.size + 1) t v a o qq) (by kernel_rfl) (by kernel_rfl) rfl (r11T_kept _ _ _ _ _ _) ?_ ?_
      · intro i hin a2 X g1 g2 g3 g4 g5 KK hKK
        match i, hin with
        | 0, _ => exact st_val rfl (wanted_none rfl) (run_tr0 _ rfl (g3 4 (by kernel_rfl)) (KT.out.bel g5).lt) (hKK _ _ rfl (Below.refl _ _))
        | 1, _ => exact st_val rfl (wanted_none rfl) (run_heldT _ rfl (g4 0 (by kernel_rfl)) (KT.out.bel g5).lt) (hKK _ _ rfl (Below.refl _ _))
        | 2, _ => exact st_val rfl (wanted_none rfl) (run_num _ rfl (g4 1 (by kernel_rfl)) (((KT.out.bel g5).cell 0).trans rfl)) (hKK _ _ rfl (Below.refl _ _))
        | 3, _ => exact st_move rfl rfl (wanted_none rfl) (g3 9 (by kernel_rfl)) (hKK _ _ rfl (Below.refl _ _))
        | 4, _ => exact st_val rfl (wanted_none rfl) (run_net _ rfl (g3 7 (by kernel_rfl)) (KN.out.bel g5)) (hKK _ _ rfl (Below.refl _ _))
        | 5, _ => exact st_val rfl (wanted_none rfl) (run_tr2 _ rfl (g3 4 (by kernel_rfl)) (KT.out.bel g5).lt) (hKK _ _ rfl (Below.refl _ _))
        | 6, _ => exact st_val rfl (wanted_none rfl) (run_num _ rfl (g4 5 (by kernel_rfl)) (((KT.out.bel g5).cell 8).trans rfl)) (hKK _ _ rfl (Below.refl _ _))
        | 7, _ => exact st_move rfl rfl (wanted_none rfl) (g3 8 (by kernel_rfl)) (hKK _ _ rfl (Below.refl _ _))
        | 8, _ => exact st_val rfl (wanted_none rfl) (run_subT _ rfl (g4 6 (by kernel_rfl)) (g4 7 (by kernel_rfl)) (by have := HG.out; omega)) (hKK _ _ rfl (Below.refl _ _))
        | 9, _ =>
          refine st_call rfl rfl (wanted_none rfl) (sargs2 (g4 4 (by kernel_rfl)) (g4 8 (by kernel_rfl))) (run_enter Tryz.func152 (by kernel_rfl) (by kernel_rfl) _) ?_
          refine (after_eqT v t.r (t.g - a) qq _ HOK.out.r HG.out HV.out.1 (by have := HV.out; have := HOK.out.h; omega) HQ.out).mono ?_
          rintro e w1 ⟨rfl, y, rfl⟩
          exact ⟨_, rfl, hKK _ _ rfl (below_ext _ _)⟩
        | 10, _ => exact st_val rfl (wanted_none rfl) (run_netf _ rfl (g4 9 (by kernel_rfl))) (hKK _ _ rfl (Below.refl _ _))
        | 11, _ => exact st_val rfl (wanted_none rfl) (run_end _ rfl (g4 2 (by kernel_rfl)) (g4 3 (by kernel_rfl)) (g4 10 (by kernel_rfl)) ⟨⟨_, rfl⟩, ⟨_, rfl⟩, ⟨_, rfl⟩⟩) (hKK _ _ rfl (Below.refl _ _))
        | k + 12, hk => omega
      intro vs W2 hvs hBW
      have v0 : vs 0 = _ := hvs 0 (by omega)
      have v1 : vs 1 = _ := hvs 1 (by omega)
      have v2 : vs 2 = _ := hvs 2 (by omega)
      have v3 : vs 3 = _ := hvs 3 (by omega)
      have v4 : vs 4 = _ := hvs 4 (by omega)
      have v5 : vs 5 = _ := hvs 5 (by omega)
      have v6 : vs 6 = _ := hvs 6 (by omega)
      have v7 : vs 7 = _ := hvs 7 (by omega)
      have v8 : vs 8 = _ := hvs 8 (by omega)
      have v9 : vs 9 = _ := hvs 9 (by omega)
      have v10 : vs 10 = _ := hvs 10 (by omega)
      have v11 : vs 11 = _ := hvs 11 (by omega)
      simp only [putAll, v0, v1, v2, v3, v4, v5, v6, v7, v8, v9, v10, v11]
      clear v0 v1 v2 v3 v4 v5 v6 v7 v8 v9 v10 v11 hvs
      simp only [dstOf, Act.put, List.getElem?_toArray, List.getElem?_cons_zero, List.getElem?_cons_succ, Option.bind_some, Option.getD_some, List.setIfInBounds_toArray, List.set_cons_succ, List.set_cons_zero, List.drop_succ_cons, List.drop_zero]
      have kE := KE.out.bel hBW
      have e0 := kE.cell 0
      have e1 := kE.cell 1
      have e2 := kE.cell 2
      have f0 := kE.frozen 0
      have f1 := kE.frozen 1
      have f2 := kE.frozen 2
      have le := kE.lt
      simp only [List.size_toArray, List.length_cons, List.length_nil, Nat.reduceAdd, Nat.reduceLT, getElem?_pos, List.getElem_toArray, List.getElem_cons_zero, List.getElem_cons_succ] at e0 e1 e2
      have HEND := Lib.hid (HB.out.trans (hBW.mono HB.out.size))
      clear kE hBW
      go_wp2_with fail
      refine bodyPost_ret (v := .agg #[.int .i64 t.h, .int .i64 o, .int .i64 qq]) (by simp [results, Tryz.results116, go_sem, e0, e1, e2, le]) rfl ⟨by rw [HZ.out], ext_of ?_⟩
      exact ((HEND.out.setCell (by dsimp only; omega) _).setCell (by dsimp only; omega) _).setCell (by dsimp only; omega) _
end Go.Proofs.YtcaeohgbgeadaaaGreatDoor

