/- A region that draws its order, as in Fl and Fn, one of whose operations may write into a row of memory, too (an append into spare room): what is known ahead of it is told apart from what is known behind it. -/
/- Package seine: the closure of tale, which calls itself: in which states the seine is in its truths behind each number of notes. -/
/- Package seine: all states at the hour 0. -/
import Derived.Test.YtcaeohgbgeadaaaGreatDoorQFl
import Derived.Test.YtcaeohgbgeadaaaGreatDoorQSp
import Derived.Test.YtcaeohgbgeadaaaGreatDoorQSo
set_option linter.unusedSimpArgs false
set_option linter.unusedVariables false
namespace Go.Proofs.YtcaeohgbgeadaaaGreatDoor
open Go Go.RowKit

theorem gb_refl (w : World) (row : Option Nat) : w.grownBy w row := ⟨rfl, rfl, rfl, Nat.le_refl _, fun _ _ _ => rfl⟩
theorem gb_trans {a b c : World} {row : Option Nat} (h : a.grownBy b row) (k : b.grownBy c row) : a.grownBy c row :=
  ⟨k.os.trans h.os, k.tape.trans h.tape, k.output.trans h.output, Nat.le_trans h.size k.size, fun i hi hr => (k.block i (Nat.lt_of_lt_of_le hi h.size) hr).trans (h.block i hi hr)⟩
theorem gb_below {w w' : World} (row : Option Nat) (h : Below w.heap.size w w') : w.grownBy w' row := ⟨h.os, h.tape, h.output, h.size, fun i hi _ => h.block i hi⟩
section
variable {P : Program} {ops : Array Oper} {md : Region.Mode}
structure FlowInvH (md : Region.Mode) (ops : Array Oper) (n N k0 : Nat) (a0 : Act) (w0 : World) (row : Option Nat) (R : Bool → Nat → Value → World → Prop) (listed : Array Bool) (a : Act) (w : World) : Prop where
  head : HeadInv md ops n listed
  size : a.tmps.size = N
  dfr : a.defers = a0.defers
  old : ∀ s, freeB ops n s = true → a.tmps.getD s undef = a0.tmps.getD s undef
  rel : ∀ i, i < n → listed.getD i false = true → R (listed.getD k0 false) i (a.tmps.getD (dstOf ops i) undef) w
  bel : w0.grownBy w row
  bel0 : listed.getD k0 false = false → Below (w0.heap.size) w0 w

theorem wpAny_of_flowH {n N : Nat} {a0 : Act} {w0 : World} {k0 : Nat} {row : Option Nat} {R : Bool → Nat → Value → World → Prop} {Q : Exit → Act → World → Prop} {tl : List Oper}
    (hB : flowB md ops n N = true) (htl : ∀ j, tl[j]? = ops[n + j]?) (htn : tl.length = ops.size - n)
    (hk0 : k0 < n) (hR : ∀ f i, i < n → ∀ v w w', R f i v w → Below w.heap.size w w' → R f i v w')
    (hstep : ∀ i, i < n → i ≠ k0 → ∀ (f : Bool) (a : Act) (w : World), a.tmps.size = N → a.defers = a0.defers → (∀ s, freeB ops n s = true → a.tmps.getD s undef = a0.tmps.getD s undef) →
      (∀ j, Region.waitsFor md ops i j = true → R f j (a.tmps.getD (dstOf ops j) undef) w) → w0.grownBy w row → (f = false → Below (w0.heap.size) w0 w) →
      ∀ K : Act → World → Prop, (∀ v w', R f i v w' → Below w.heap.size w w' → K (a.put (some (dstOf ops i)) v) w') → wpOp P ops Q i K a w)
    (hone : ∀ (a : Act) (w : World), a.tmps.size = N → a.defers = a0.defers → (∀ s, freeB ops n s = true → a.tmps.getD s undef = a0.tmps.getD s undef) →
      (∀ j, Region.waitsFor md ops k0 j = true → R false j (a.tmps.getD (dstOf ops j) undef) w) → Below (w0.heap.size) w0 w →
      ∀ K : Act → World → Prop, (∀ v w', R true k0 v w' → (∀ j u, j < n → R false j u w → R true j u w') → w.grownBy w' row → K (a.put (some (dstOf ops k0)) v) w') → wpOp P ops Q k0 K a w)
    (htail : ∀ (a : Act) (w : World), a.tmps.size = N → a.defers = a0.defers → (∀ s, freeB ops n s = true → a.tmps.getD s undef = a0.tmps.getD s undef) →
      (∀ i, i < n → R true i (a.tmps.getD (dstOf ops i) undef) w) → w0.grownBy w row → wpList P ops Q tl a w) :
    ∀ (k : Nat) (listed : Array Bool) (a : Act) (w : World), ((List.range n).filter fun i => !listed.getD i false).length = k → FlowInvH md ops n N k0 a0 w0 row R listed a w → wpAny P md ops Q (k + (ops.size - n)) listed a w := by
  simp only [flowB, Bool.and_eq_true, decide_eq_true_eq] at hB
  obtain ⟨⟨⟨⟨⟨hn, hs⟩, hc⟩, hlow⟩, hdst⟩, hseq⟩ := hB
  have hd : ∀ i, i < n → ∃ o, ops[i]? = some o ∧ o.dst = some (dstOf ops i) ∧ dstOf ops i < N ∧ ∀ j, j < n → i ≠ j → dstOf ops j ≠ dstOf ops i := by
    intro i hi
    have h1 := List.all_eq_true.1 hdst i (List.mem_range.2 hi)
    have hio : i < ops.size := by omega
    have ho : ops[i]? = some ops[i] := Array.getElem?_eq_getElem hio
    cases hd : ops[i].dst with
    | none => simp [ho, hd] at h1
    | some d =>
      have e : dstOf ops i = d := by simp [dstOf, ho, hd]
      simp only [ho, Option.bind_some, hd, Bool.and_eq_true, decide_eq_true_eq] at h1
      refine ⟨ops[i], ho, by rw [hd, e], by rw [e]; exact h1.1, fun j hj hij => ?_⟩
      have h2 := List.all_eq_true.1 h1.2 j (List.mem_range.2 hj)
      simp only [Bool.or_eq_true, beq_iff_eq, bne_iff_ne] at h2
      rcases h2 with h2 | h2
      · exact absurd h2 hij
      · rw [e]; exact h2
  intro k
  induction k with
  | zero =>
    intro listed a w hk inv
    have hall : ∀ i, i < n → listed.getD i false = true := by
      intro i hi
      have h0 := List.length_eq_zero_iff.1 hk
      have h1 := List.filter_eq_nil_iff.1 h0 i (List.mem_range.2 hi)
      simpa using h1
    have hf := listed_full inv.head.size (by omega) hall inv.head.tail
    rw [Nat.zero_add, ← htn]
    refine wpAny_of_seq (md := md) (Q' := Q) tl n listed a w htl ?_ (htail a w inv.size inv.dfr inv.old (fun i hi => by have := inv.rel i hi (hall i hi); rw [hall k0 hk0] at this; exact this) inv.bel)
    rw [htn, hf]
    exact hseq
  | succ k ih =>
    intro listed a w hk inv
    have hex : ∃ i, i < n ∧ listed.getD i false = false := by
      refine Classical.byContradiction fun h => ?_
      have : ((List.range n).filter fun i => !listed.getD i false) = [] := by
        rw [List.filter_eq_nil_iff]
        intro i hi hb
        exact h ⟨i, List.mem_range.1 hi, by simpa using hb⟩
      rw [this] at hk
      simp at hk
    rw [show k + 1 + (ops.size - n) = (k + (ops.size - n)) + 1 by omega]
    have hin : ∀ i, i < n → listed.getD i false = false → listed.getD i true = false := fun i hi h => getD_in (by rw [inv.head.size]; omega) h
    refine ⟨fun h0 => ?_, fun i hi => ?_⟩
    · exfalso
      obtain ⟨i, hi, hl⟩ := hex
      -- the least that is not listed is ready
      have key : ∀ m, m ≤ n → (∀ j, j < m → listed.getD j false = true) ∨ ∃ j, j < m ∧ listed.getD j false = false ∧ ∀ j', j' < j → listed.getD j' false = true := by
        intro m
        induction m with
        | zero => intro _; exact .inl (fun j hj => by omega)
        | succ m ihm =>
          intro hm
          rcases ihm (by omega) with h | ⟨j, hj, hj2⟩
          · cases hlm : listed.getD m false with
            | true => exact .inl (fun j hj => by rcases Nat.lt_succ_iff_lt_or_eq.1 hj with h' | rfl; exact h j h'; exact hlm)
            | false => exact .inr ⟨m, by omega, hlm, h⟩
          · exact .inr ⟨j, by omega, hj2⟩
      rcases key n (Nat.le_refl _) with h | ⟨j, hj, hj1, hj2⟩
      · rw [h i hi] at hl; cases hl
      · have hjo : j < ops.size := by omega
        have hr : j ∈ Region.ready md ops listed := by
          refine mem_ready.2 ⟨hin j hj hj1, ops[j], Array.getElem?_eq_getElem hjo, fun e he hb => ?_⟩
          have h1 := List.all_eq_true.1 hlow j (List.mem_range.2 hj)
          simp only [Array.getElem?_eq_getElem hjo, Option.map_some, Option.getD_some, Array.all_eq_true_iff_forall_mem, Bool.or_eq_true, Bool.not_eq_true', decide_eq_true_eq] at h1
          rcases h1 e he with h2 | h2
          · rw [hb] at h2; cases h2
          · exact hj2 e.on h2
        rw [h0] at hr
        cases hr
    · have hin2 : i < n := by
        rcases Nat.lt_or_ge i n with h | h
        · exact h
        · obtain ⟨j, hj, hl⟩ := hex
          exact absurd hi (tail_waits hs hc hn inv.head _ j rfl hj (hin j hj hl) i h)
      obtain ⟨o, ho, hod, hdN, hne⟩ := hd i hin2
      obtain ⟨hun, oi, hoi, hall⟩ := mem_ready.1 hi
      have : oi = o := Option.some.inj (hoi.symm.trans ho)
      subst this
      have hw : ∀ j, Region.waitsFor md ops i j = true → j < n ∧ listed.getD j false = true := fun j hj => by
        obtain ⟨oj, hoj, e, he, hbd, hon⟩ := Region.waitsFor_spec hj
        have : oj = oi := Option.some.inj (hoj.symm.trans hoi)
        subst this
        have hl := hall e he hbd
        rw [hon] at hl
        refine ⟨?_, hl⟩
        have h1 := List.all_eq_true.1 hlow i (List.mem_range.2 hin2)
        simp only [ho, Option.map_some, Option.getD_some, Array.all_eq_true_iff_forall_mem, Bool.or_eq_true, Bool.not_eq_true', decide_eq_true_eq] at h1
        rcases h1 e he with h2 | h2
        · rw [hbd] at h2; cases h2
        · omega
      have hgo : ∀ v w', R ((listed.setIfInBounds i true).getD k0 false) i v w' → (∀ j u, j < n → j ≠ i → listed.getD j false = true → R (listed.getD k0 false) j u w → R ((listed.setIfInBounds i true).getD k0 false) j u w') → w.grownBy w' row → ((listed.setIfInBounds i true).getD k0 false = false → Below (w.heap.size) w w') → wpAny P md ops Q (k + (ops.size - n)) (listed.setIfInBounds i true) (a.put (some (dstOf ops i)) v) w' := by
        intro v w' hv hkeep hb hb0
        refine ih _ _ _ ?_ ⟨inv.head.set hi hin2, by simp [Act.put, inv.size], by simpa [Act.put] using inv.dfr, fun s hs' => ?_, fun j hj hl => ?_, gb_trans inv.bel hb, fun hf => ?_⟩
        · -- one fewer
          have hlt : i < listed.size := by rw [inv.head.size]; omega
          have e : ∀ j, (listed.setIfInBounds i true).getD j false = (j == i || listed.getD j false) := by
            intro j
            by_cases hji : i = j
            · subst hji; simp [hlt]
            · rw [getD_set_ne false hji]; simp [Ne.symm hji]
          have hcount : ∀ (l : List Nat), l.Nodup → i ∈ l → (l.filter fun j => !listed.getD j false).length = (l.filter fun j => !(listed.setIfInBounds i true).getD j false).length + 1 := by
            intro l
            induction l with
            | nil => intro _ h; cases h
            | cons x l ihl =>
              intro hnd hm
              have hx := (List.nodup_cons.1 hnd)
              by_cases hxi : x = i
              · subst hxi
                have hl0 : listed.getD x false = false := getD_both hun
                have hrest : (l.filter fun j => !listed.getD j false) = l.filter fun j => !(listed.setIfInBounds x true).getD j false := by
                  apply List.filter_congr
                  intro j hj
                  have hjx : j ≠ x := fun h => hx.1 (h ▸ hj)
                  rw [e j]
                  simp [hjx]
                rw [List.filter_cons_of_pos (by simp only [hl0]; rfl), List.filter_cons_of_neg (by rw [e x]; simp), ← hrest]
                rfl
              · have hm' : i ∈ l := by rcases List.mem_cons.1 hm with h | h; exact absurd h.symm hxi; exact h
                have := ihl hx.2 hm'
                have ex : (listed.setIfInBounds i true).getD x false = listed.getD x false := by rw [e x]; simp [hxi]
                cases hlx : listed.getD x false with
                | true => rw [List.filter_cons_of_neg (by rw [hlx]; simp), List.filter_cons_of_neg (by rw [ex, hlx]; simp)]; exact this
                | false => rw [List.filter_cons_of_pos (by rw [hlx]; rfl), List.filter_cons_of_pos (by rw [ex, hlx]; rfl)]; simp only [List.length_cons]; omega
          have := hcount (List.range n) List.nodup_range (List.mem_range.2 hin2)
          omega
        · have hsi : dstOf ops i ≠ s := freeB_iff.1 hs' i hin2
          rw [← inv.old s hs']
          simp [Act.put, Array.getElem?_setIfInBounds_ne hsi]
        · by_cases hij : i = j
          · subst hij
            have : (a.put (some (dstOf ops i)) v).tmps.getD (dstOf ops i) undef = v := by
              have : dstOf ops i < a.tmps.size := by rw [inv.size]; exact hdN
              simp [Act.put, this]
            rw [this]
            exact hv
          · rw [getD_set_ne false hij] at hl
            have hdj := hne j hj hij
            have : (a.put (some (dstOf ops i)) v).tmps.getD (dstOf ops j) undef = a.tmps.getD (dstOf ops j) undef := by
              simp [Act.put, Array.getElem?_setIfInBounds_ne (Ne.symm hdj)]
            rw [this]
            exact hkeep j _ hj (Ne.symm hij) hl (inv.rel j hj hl)
        · have hf0 : listed.getD k0 false = false := by
            by_cases hik : i = k0
            · subst hik; exact getD_both hun
            · rw [← getD_set_ne false hik]; exact hf
          have h0 := inv.bel0 hf0
          exact h0.trans ((hb0 hf).mono h0.size)
      by_cases hik : i = k0
      · subst hik
        have hl0 : listed.getD i false = false := getD_both hun
        have hlt : i < listed.size := by rw [inv.head.size]; omega
        have hl1 : (listed.setIfInBounds i true).getD i false = true := by simp [hlt]
        rw [hl1, hl0] at hgo
        refine hone a w inv.size inv.dfr inv.old (fun j hj => ?_) (inv.bel0 hl0) _ (fun v w' hv hk hb => hgo v w' hv (fun j u hj _ _ hr => hk j u hj hr) hb (fun hf => by cases hf))
        obtain ⟨h1, h2⟩ := hw j hj
        have := inv.rel j h1 h2
        rw [hl0] at this
        exact this
      · have hl1 : (listed.setIfInBounds i true).getD k0 false = listed.getD k0 false := getD_set_ne false hik
        rw [hl1] at hgo
        refine hstep i hin2 hik _ a w inv.size inv.dfr inv.old (fun j hj => ?_) inv.bel inv.bel0 _ (fun v w' hv hb => hgo v w' hv (fun j u hj _ _ hr => hR _ _ hj _ _ _ hr hb) (gb_below row hb) (fun _ => hb))
        obtain ⟨h1, h2⟩ := hw j hj
        exact inv.rel j h1 h2
end
/-- The law. -/
theorem wp_region_flowH {P : Program} {id : Nat} {Q : Exit → Act → World → Prop} {a0 : Act} {w0 : World} {l : List Oper} (n N : Nat) (k0 : Nat) (row : Option Nat) (R : Bool → Nat → Value → World → Prop) (hm : P.follows .mixedOrders = true) (hB : flowB .any l.toArray n N = true) (hN : a0.tmps.size = N)
    (hk0 : k0 < n) (hR : ∀ f i, i < n → ∀ v w w', R f i v w → Below w.heap.size w w' → R f i v w')
    (hstep : ∀ i, i < n → i ≠ k0 → ∀ (f : Bool) (a : Act) (w : World), a.tmps.size = N → a.defers = a0.defers → (∀ s, freeB l.toArray n s = true → a.tmps.getD s undef = a0.tmps.getD s undef) →
      (∀ j, Region.waitsFor .any l.toArray i j = true → R f j (a.tmps.getD (dstOf l.toArray j) undef) w) → w0.grownBy w row → (f = false → Below (w0.heap.size) w0 w) →
      ∀ K : Act → World → Prop, (∀ v w', R f i v w' → Below w.heap.size w w' → K (a.put (some (dstOf l.toArray i)) v) w') → wpOp P l.toArray Q i K a w)
    (hone : ∀ (a : Act) (w : World), a.tmps.size = N → a.defers = a0.defers → (∀ s, freeB l.toArray n s = true → a.tmps.getD s undef = a0.tmps.getD s undef) →
      (∀ j, Region.waitsFor .any l.toArray k0 j = true → R false j (a.tmps.getD (dstOf l.toArray j) undef) w) → Below (w0.heap.size) w0 w →
      ∀ K : Act → World → Prop, (∀ v w', R true k0 v w' → (∀ j u, j < n → R false j u w → R true j u w') → w.grownBy w' row → K (a.put (some (dstOf l.toArray k0)) v) w') → wpOp P l.toArray Q k0 K a w)
    (htail : ∀ (a : Act) (w : World), a.tmps.size = N → a.defers = a0.defers → (∀ s, freeB l.toArray n s = true → a.tmps.getD s undef = a0.tmps.getD s undef) →
      (∀ i, i < n → R true i (a.tmps.getD (dstOf l.toArray i) undef) w) → w0.grownBy w row → wpList P l.toArray Q (l.drop n) a w) :
    (Code.region id l.toArray true).wp P Q a0 w0 := by
  have hn : n < l.length := by
    simp only [flowB, Bool.and_eq_true, decide_eq_true_eq] at hB
    simpa using hB.1.1.1.1.1
  refine wp_region_any hm ?_
  have h0 : ((List.range n).filter fun i => !(Array.replicate l.toArray.size false).getD i false).length = n := by
    rw [List.filter_eq_self.2 (fun i _ => by rw [getD_replicate_false]; rfl)]
    simp
  have := wpAny_of_flowH (P := P) (ops := l.toArray) (md := .any) (n := n) (N := N) (a0 := a0) (w0 := w0) (k0 := k0) (row := row) (R := R) (Q := Q) (tl := l.drop n) hB (fun j => by simp [List.getElem?_drop]) (by simp) hk0 hR hstep hone htail n
    (Array.replicate l.toArray.size false) a0 { w0 with drawn := w0.drawn + 1 } h0
    ⟨⟨by simp, fun j oj _ hl => (by rw [getD_replicate_false] at hl; cases hl), fun t _ ht => getD_in (by simpa using ht) (getD_replicate_false _ _)⟩, hN, rfl, fun _ _ => rfl, fun i _ hl => (by rw [getD_replicate_false] at hl; cases hl), ⟨rfl, rfl, rfl, Nat.le_refl _, fun _ _ _ => rfl⟩, fun _ => Below.drew (Below.refl _ _)⟩
  have e : n + (l.toArray.size - n) = l.toArray.size := by simp; omega
  rw [e] at this
  exact this
/-- The law, with the frame brought back. -/
theorem wp_region_flow_backH {P : Program} {id : Nat} {Q : Exit → Act → World → Prop} {a0 : Act} {w0 : World} {l : List Oper} (n N : Nat) (k0 : Nat) (row : Option Nat) (R : Bool → Nat → Value → World → Prop) (hm : P.follows .mixedOrders = true) (hB : flowB .any l.toArray n N = true) (hN : a0.tmps.size = N)
    (hk0 : k0 < n) (hR : ∀ f i, i < n → ∀ v w w', R f i v w → Below w.heap.size w w' → R f i v w')
    (hstep : ∀ i, i < n → i ≠ k0 → ∀ (f : Bool) (a : Act) (w : World), a.tmps.size = N → a.defers = a0.defers → (∀ s, freeB l.toArray n s = true → a.tmps.getD s undef = a0.tmps.getD s undef) →
      (∀ j, Region.waitsFor .any l.toArray i j = true → R f j (a.tmps.getD (dstOf l.toArray j) undef) w) → w0.grownBy w row → (f = false → Below (w0.heap.size) w0 w) →
      ∀ K : Act → World → Prop, (∀ v w', R f i v w' → Below w.heap.size w w' → K (a.put (some (dstOf l.toArray i)) v) w') → wpOp P l.toArray Q i K a w)
    (hone : ∀ (a : Act) (w : World), a.tmps.size = N → a.defers = a0.defers → (∀ s, freeB l.toArray n s = true → a.tmps.getD s undef = a0.tmps.getD s undef) →
      (∀ j, Region.waitsFor .any l.toArray k0 j = true → R false j (a.tmps.getD (dstOf l.toArray j) undef) w) → Below (w0.heap.size) w0 w →
      ∀ K : Act → World → Prop, (∀ v w', R true k0 v w' → (∀ j u, j < n → R false j u w → R true j u w') → w.grownBy w' row → K (a.put (some (dstOf l.toArray k0)) v) w') → wpOp P l.toArray Q k0 K a w)
    (htail : ∀ (vs : Nat → Value) (w : World), (∀ i, i < n → R true i (vs i) w) → w0.grownBy w row → wpList P l.toArray Q (l.drop n) (putAll l.toArray a0 vs n) w) :
    (Code.region id l.toArray true).wp P Q a0 w0 := by
  refine wp_region_flowH n N k0 row R hm hB hN hk0 hR hstep hone ?_
  intro a w h1 h2 h3 h4 h5
  simp only [flowB, Bool.and_eq_true, decide_eq_true_eq] at hB
  obtain ⟨⟨-, hdst⟩, -⟩ := hB
  have hd : ∀ i, i < n → dstOf l.toArray i < N ∧ ∀ j, j < n → i ≠ j → dstOf l.toArray j ≠ dstOf l.toArray i := by
    intro i hi
    have h6 := List.all_eq_true.1 hdst i (List.mem_range.2 hi)
    split at h6
    · rename_i d hdd
      have e : dstOf l.toArray i = d := by unfold dstOf; rw [hdd]; rfl
      simp only [Bool.and_eq_true, decide_eq_true_eq] at h6
      refine ⟨by rw [e]; exact h6.1, fun j hj hij => ?_⟩
      have h7 := List.all_eq_true.1 h6.2 j (List.mem_range.2 hj)
      simp only [Bool.or_eq_true, beq_iff_eq, bne_iff_ne] at h7
      rw [e]
      rcases h7 with h7 | h7
      · exact absurd h7 hij
      · exact h7
    · cases h6
  obtain ⟨g1, g2⟩ := putAll_get (ops := l.toArray) (a0 := a0) (vs := fun i => a.tmps.getD (dstOf l.toArray i) undef) n (fun i j hi hj hij => Ne.symm ((hd i hi).2 j hj hij)) (fun i hi => by rw [hN]; exact (hd i hi).1)
  have e : putAll l.toArray a0 (fun i => a.tmps.getD (dstOf l.toArray i) undef) n = a := by
    have hs := putAll_size (ops := l.toArray) (a0 := a0) (vs := fun i => a.tmps.getD (dstOf l.toArray i) undef) n
    have hdf := putAll_dfr (ops := l.toArray) (a0 := a0) (vs := fun i => a.tmps.getD (dstOf l.toArray i) undef) n
    have ht : (putAll l.toArray a0 (fun i => a.tmps.getD (dstOf l.toArray i) undef) n).tmps = a.tmps := by
      refine Array.ext (by rw [hs, hN, h1]) (fun s hs1 hs2 => ?_)
      have key : (putAll l.toArray a0 (fun i => a.tmps.getD (dstOf l.toArray i) undef) n).tmps.getD s undef = a.tmps.getD s undef := by
        by_cases hx : freeB l.toArray n s = true
        · rw [g2 s (freeB_iff.1 hx), h3 s hx]
        · have : ∃ i, i < n ∧ dstOf l.toArray i = s := by
            refine Classical.byContradiction fun hc => hx (freeB_iff.2 (fun i hi he => hc ⟨i, hi, he⟩))
          obtain ⟨i, hi, rfl⟩ := this
          exact g1 i hi
      have gd : ∀ (x : Array Value) (s : Nat) (h : s < x.size), x.getD s undef = x[s] := fun x s h => by simp [Array.getD, h]
      rw [gd _ _ hs1, gd _ _ hs2] at key
      exact key
    cases a
    generalize putAll l.toArray a0 _ n = b at *
    cases b
    simp only at ht hdf h2
    rw [ht, hdf, h2]
  have := htail _ w h4 h5
  rw [e] at this
  exact this
end Go.Proofs.YtcaeohgbgeadaaaGreatDoor

namespace Go.Proofs.YtcaeohgbgeadaaaGreatDoor
open Go Go.RowKit Go.Shelf

/-- What the closure tells of the notes from one on, if j are left. -/
def tlL (ns : List Nt) : Nat → Nat → List (Int × Int) → List (List (Int × Int))
  | 0, _, l => [l]
  | j + 1, k, l => match ns[k]? with
    | some s => leadL ns k s l ((tlL ns j (k + 1) (rchL ns k s l)).headD []) :: tlL ns j (k + 1) (rchL ns k s l)
    | none => [l]
theorem tlL_step {ns : List Nt} {k : Nat} {s : Nt} (h : ns[k]? = some s) (j : Nat) (l : List (Int × Int)) : tlL ns (j + 1) k l = leadL ns k s l ((tlL ns j (k + 1) (rchL ns k s l)).headD []) :: tlL ns j (k + 1) (rchL ns k s l) := by
  simp only [tlL, h]
/-- What states keep to behind some notes. -/
def StK (k : Nat) (st : Int × Int) : Prop := (0 ≤ st.1 ∧ st.1 ≤ 400) ∧ 0 ≤ st.2 ∧ st.2 ≤ 9 * k
theorem StK.b {k : Nat} {st : Int × Int} (h : StK k st) (hk : k ≤ 100) : StB st := ⟨h.1, h.2.1, by have := h.2.2; omega⟩
theorem rchL_K {b : Sn} (hok : Ok9 b) {k : Nat} {s : Nt} (hs : b.ns[k]? = some s) {l : List (Int × Int)} (hl : ∀ st ∈ l, StK k st) : ∀ st ∈ rchL b.ns k s l, StK (k + 1) st := by
  intro z hz
  simp only [rchL, List.mem_flatMap] at hz
  obtain ⟨⟨h, r⟩, h1, h2⟩ := hz
  obtain ⟨hkn, -, hsp⟩ := hok.nt hs
  obtain ⟨g1, g2, g3⟩ := hl _ h1
  dsimp only at g1 g2 g3
  have h3 := afterH_bd g2 (gapN b.ns k).toNat h g1.1
  have h4 := behL_bd hkn hsp (st := befS b.ns k (h, r)) (by rw [befS_eq]; exact h3.1) (by rw [befS_eq]; exact g2) h2
  rw [befS_eq] at h4
  dsimp only at h4
  exact ⟨by omega, by omega, by push_cast; omega⟩
/-- What lies in the list that the closure fills: the states of all numbers of notes from one on. -/
def TlAt (w : World) (Bb N k : Nat) (cs : Array Value) (tl : List (List (Int × Int))) : Prop :=
  ∃ cs' : Array Value, Blk w Bb 179 cs' ∧ cs'.size = N + 1 ∧ (∀ i, i < k → cs'[i]? = cs[i]?) ∧ ∀ (i : Nat) (L : List (Int × Int)), tl[i]? = some L → ∃ M n : Nat, cs'[k + i]? = some (.map (some M)) ∧ StAt w M n L
theorem StAt.ne_blk {w : World} {M n Bb : Nat} {l : List (Int × Int)} {t : TypeId} {cs : Array Value} (h : StAt w M n l) (k : Blk w Bb t cs) : M ≠ Bb := by
  rintro rfl
  obtain ⟨D, ⟨es, clock, h1, _⟩, _⟩ := h
  unfold Blk at k
  rw [k] at h1; cases h1
theorem TlAt.bel {w w' : World} {Bb N k : Nat} {cs : Array Value} {tl : List (List (Int × Int))} (h : TlAt w Bb N k cs tl) (hb : Below w.heap.size w w') : TlAt w' Bb N k cs tl := by
  obtain ⟨cs', h1, h2, h3, h4⟩ := h
  refine ⟨cs', h1.bel hb, h2, h3, fun i L hi => ?_⟩
  obtain ⟨M, n, g1, g2⟩ := h4 i L hi
  exact ⟨M, n, g1, g2.below hb⟩
/-- What the closure has captured. -/
structure GoBox (w : World) (b : Sn) (p : Option Addr) (c : Nat) (kd : Kd) (bc bg bt Bb : Nat) : Prop where
  cC : Blk w bc 119 (catC b.lo b.hi p b.ns.length c kd)
  gG : Blk w bg 177 #[.func (.func 139) #[] #[.pointer (some ⟨bc, 0, none⟩), .pointer (some ⟨bg, 0, none⟩), .pointer (some ⟨bt, 0, none⟩)]]
  tT : Blk w bt 122 (catC b.lo b.hi p b.ns.length c kd ++ #[.slice (some ⟨Bb, 0, none⟩) (b.ns.length + 1) (b.ns.length + 1)])
theorem GoBox.grown {w w' : World} {b : Sn} {p : Option Addr} {c : Nat} {kd : Kd} {bc bg bt Bb : Nat} (h : GoBox w b p c kd bc bg bt Bb) (hg : w.grownBy w' (some Bb)) (h1 : bc ≠ Bb) (h2 : bg ≠ Bb) (h3 : bt ≠ Bb) : GoBox w' b p c kd bc bg bt Bb :=
  ⟨(hg.block _ h.cC.lt (by simpa using h1)).trans h.cC, (hg.block _ h.gG.lt (by simpa using h2)).trans h.gG, (hg.block _ h.tT.lt (by simpa using h3)).trans h.tT⟩
/-- What the closure leaves. -/
def GoPost (w : World) (Bb N k : Nat) (cs : Array Value) (tl : List (List (Int × Int))) (e : Ending) (w' : World) : Prop :=
  ∃ M' n' : Nat, e = .returned (.map (some M')) ∧ StAt w' M' n' (tl.headD []) ∧ TlAt w' Bb N k cs tl ∧ w.grownBy w' (some Bb)
/-- What the operations of the closure's drawn region leave. -/
def goR (b : Sn) (p : Option Addr) (c : Nat) (kd : Kd) (bc bg bt Bb M n k : Nat) (s : Nt) (l : List (Int × Int)) (cs : Array Value) (tl : List (List (Int × Int))) (f : Bool) (i : Nat) (v : Value) (w : World) : Prop :=
  match i with
  | 0 => v = .agg (catC b.lo b.hi p b.ns.length c kd)
  | 1 => v = .int .i64 k
  | 2 => v = .map (some M)
  | 3 => v = .func (.func 139) #[] #[.pointer (some ⟨bc, 0, none⟩), .pointer (some ⟨bg, 0, none⟩), .pointer (some ⟨bt, 0, none⟩)]
  | 4 => v = .int .i64 k
  | 5 => v = .int .i64 ((k + 1 : Nat) : Int)
  | 6 => v = .agg (catC b.lo b.hi p b.ns.length c kd)
  | 7 => v = .int .i64 k
  | 8 => v = .map (some M)
  | 9 => ∃ M' n' : Nat, v = .map (some M') ∧ n' ≤ 13 * n ∧ M' ≠ Bb ∧ StAt w M' n' (rchL b.ns k s l)
  | 10 => f = true ∧ ∃ M' n' : Nat, v = .map (some M') ∧ StAt w M' n' (tl.headD []) ∧ TlAt w Bb b.ns.length (k + 1) cs tl
  | 11 => f = true ∧ ∃ M' n' : Nat, v = .map (some M') ∧ StAt w M' n' (leadL b.ns k s l (tl.headD []))
  | _ => True
theorem goR_kept (b : Sn) (p : Option Addr) (c : Nat) (kd : Kd) (bc bg bt Bb M n k : Nat) (s : Nt) (l : List (Int × Int)) (cs : Array Value) (tl : List (List (Int × Int))) : ∀ (f : Bool) (i : Nat), i < 12 → ∀ (v : Value) (w w' : World), goR b p c kd bc bg bt Bb M n k s l cs tl f i v w → Below w.heap.size w w' → goR b p c kd bc bg bt Bb M n k s l cs tl f i v w' := by
  intro f i hi v w w' h hb
  match i, hi with
  | 0, _ => exact h
  | 1, _ => exact h
  | 2, _ => exact h
  | 3, _ => exact h
  | 4, _ => exact h
  | 5, _ => exact h
  | 6, _ => exact h
  | 7, _ => exact h
  | 8, _ => exact h
  | 9, _ => obtain ⟨M', n', h1, h2, h3, h4⟩ := h; exact ⟨M', n', h1, h2, h3, h4.below hb⟩
  | 10, _ => obtain ⟨h0, M', n', h1, h2, h3⟩ := h; exact ⟨h0, M', n', h1, h2.below hb, h3.bel hb⟩
  | 11, _ => obtain ⟨h0, M', n', h1, h2⟩ := h; exact ⟨h0, M', n', h1, h2.below hb⟩
  | k + 12, hk => omega
section
variable {o : Oper} {w : World} {g j t : Nat} (ρ : Operand → Value)
theorem run_lCatch {lo hi : Int} {p : Option Addr} {N c : Nat} {kd : Kd} (hop : o.op = .load 119 (.tmp t)) (hs : ρ (.tmp t) = .pointer (some ⟨g, 0, none⟩)) (k : Blk w g 119 (catC lo hi p N c kd)) : (execOp ρ o).run Tryz.prog w = .ok (.value (.agg (catC lo hi p N c kd))) w := by
  have c0 := k.cell 0
  have c1 := k.cell 1
  have c2 := k.cell 2
  have c3 := k.cell 3
  have c4 := k.cell 4
  have c5 := k.cell 5
  have c6 := k.cell 6
  have c7 := k.cell 7
  unfold catC at *
  simp only [List.size_toArray, List.length_cons, List.length_nil, Nat.reduceAdd, Nat.reduceLT, getElem?_pos, List.getElem_toArray, List.getElem_cons_zero, List.getElem_cons_succ] at c0 c1 c2 c3 c4 c5 c6 c7
  unfold execOp; simp [hop, hs, go_sem, c0, c1, c2, c3, c4, c5, c6, c7]
theorem run_lGo {x : Value} (hop : o.op = .load 177 (.tmp t)) (hs : ρ (.tmp t) = .pointer (some ⟨g, 0, none⟩)) (c0 : w.cell? ⟨g, 0, none⟩ = some x) : (execOp ρ o).run Tryz.prog w = .ok (.value x) w := by
  unfold execOp; simp [hop, hs, go_sem, c0]
theorem run_inc {k : Nat} (hk : k ≤ 1000000) (hop : o.op = .binOp .add 3 (.tmp t) (.const (.int .i64 1)) 3) (hs : ρ (.tmp t) = .int .i64 k) (h1 : ρ (.const (.int .i64 1)) = .int .i64 1) : (execOp ρ o).run Tryz.prog w = .ok (.value (.int .i64 ((k + 1 : Nat) : Int))) w := by
  have : IntKind.i64.wrap ((k : Int) + 1) = (k : Int) + 1 := IntWalk.i64_in _ (by omega)
  unfold execOp; simp [hop, hs, h1, go_sem, this]
end
theorem sargs3 {a : Act} {s t u : Nat} {x y z : Value} (h1 : a.tmps.getD s undef = x) (h2 : a.tmps.getD t undef = y) (h3 : a.tmps.getD u undef = z) : (#[Operand.tmp s, Operand.tmp t, Operand.tmp u]).map a.eval = #[x, y, z] := by
  simp only [List.map_toArray, List.map_cons, List.map_nil, Act.eval, h1, h2, h3]
theorem sargs4 {a : Act} {s t u r : Nat} {x y z q : Value} (h1 : a.tmps.getD s undef = x) (h2 : a.tmps.getD t undef = y) (h3 : a.tmps.getD u undef = z) (h4 : a.tmps.getD r undef = q) : (#[Operand.tmp s, Operand.tmp t, Operand.tmp u, Operand.tmp r]).map a.eval = #[x, y, z, q] := by
  simp only [List.map_toArray, List.map_cons, List.map_nil, Act.eval, h1, h2, h3, h4]
theorem sargsv23 {a : Act} {s t : Nat} {x y u v r : Value} (h1 : a.tmps.getD s undef = x) (h2 : a.tmps.getD t undef = y) : #[] ++ (#[Operand.tmp s, Operand.tmp t]).map a.eval ++ #[u, v, r] = #[x, y, u, v, r] := by
  simp only [List.map_toArray, List.map_cons, List.map_nil, Act.eval, h1, h2, List.append_toArray, List.nil_append, List.cons_append]
/-- One more list of states is laid into the closure's list. -/
theorem TlAt.put {w : World} {Bb N k M n : Nat} {cs cs' : Array Value} {L : List (Int × Int)} {tl : List (List (Int × Int))} (hB : Blk w Bb 179 cs') (hcs : cs'.size = N + 1) (hk : k < N + 1) (hlo : ∀ i, i < k → cs'[i]? = cs[i]?)
    (htl : ∀ (i : Nat) (L : List (Int × Int)), tl[i]? = some L → ∃ M n : Nat, cs'[k + 1 + i]? = some (.map (some M)) ∧ StAt w M n L) (hm : StAt w M n L) :
    TlAt (w.setCell ⟨Bb, k, none⟩ (.map (some M))) Bb N k cs (L :: tl) := by
  have keep : ∀ {M n : Nat} {L : List (Int × Int)}, StAt w M n L → StAt (w.setCell ⟨Bb, k, none⟩ (.map (some M))) M n L := fun h => h.of_heap (Below.heap_setCell _ _ _ _ (h.ne_blk hB))
  refine ⟨_, hB.set k _, by simp [hcs], fun i hi => ?_, fun i L' hi => ?_⟩
  · rw [Array.getElem?_setIfInBounds_ne (by omega)]; exact hlo i hi
  · cases i with
    | zero =>
      simp only [List.getElem?_cons_zero, Option.some.injEq] at hi
      subst hi
      refine ⟨M, n, by simp [hcs, hk], hm.of_heap (Below.heap_setCell _ _ _ _ (hm.ne_blk hB))⟩
    | succ i =>
      rw [List.getElem?_cons_succ] at hi
      obtain ⟨M', n', h1, h2⟩ := htl i L' hi
      refine ⟨M', n', ?_, h2.of_heap (Below.heap_setCell _ _ _ _ (h2.ne_blk hB))⟩
      rw [Array.getElem?_setIfInBounds_ne (by omega), show k + (i + 1) = k + 1 + i by omega]; exact h1
theorem grownBy_setCell (w : World) (g i : Nat) (v : Value) : w.grownBy (w.setCell ⟨g, i, none⟩ v) (some g) := ⟨rfl, rfl, rfl, by simp, fun k _ hn => Below.heap_setCell w ⟨g, i, none⟩ v k (fun e => hn (by rw [e]))⟩
theorem GoBox.bel {w w' : World} {b : Sn} {p : Option Addr} {c : Nat} {kd : Kd} {bc bg bt Bb : Nat} (h : GoBox w b p c kd bc bg bt Bb) (hb : Below w.heap.size w w') : GoBox w' b p c kd bc bg bt Bb := ⟨h.cC.bel hb, h.gG.bel hb, h.tT.bel hb⟩
theorem NotesAt.grown {w w' : World} {p : Option Addr} {l : List Nt} {Bb : Nat} (h : NotesAt w p l) (hg : w.grownBy w' (some Bb)) (hp : ∀ a, p = some a → a.block ≠ Bb) : NotesAt w' p l := fun i s hi => by
  obtain ⟨b, o, h1, h2, h3, h4, h5, h6⟩ := h i s hi
  have hb := hg.block b h2 (by simpa using hp _ h1)
  refine ⟨b, o, h1, Nat.lt_of_lt_of_le h2 hg.size, ?_, ?_, ?_, ?_⟩
  · rw [World.cell?_of_block (w := w) (a := ⟨b, _, none⟩) hb]; exact h3
  · rw [World.cell?_of_block (w := w) (a := ⟨b, _, none⟩) hb]; exact h4
  · rw [World.cell?_of_block (w := w) (a := ⟨b, _, none⟩) hb]; exact h5
  · rw [World.cell?_of_block (w := w) (a := ⟨b, _, none⟩) hb]; exact h6
theorem cell_some {w : World} {Bb k N : Nat} {t : TypeId} {cs : Array Value} (hB : Blk w Bb t cs) (hcs : cs.size = N + 1) (hk : k < N + 1) : ∃ v, w.cell? ⟨Bb, k, none⟩ = some v := by
  rw [hB.cell]; exact ⟨cs[k], Array.getElem?_eq_getElem (by omega)⟩
theorem fEnter (vs : Array Value) (w : World) : (callFunc 139 vs).run Tryz.prog w = .ok (.enter 139 vs) w := run_enter Tryz.func139 (by kernel_rfl) (by kernel_rfl) _ _
attribute [local go_sem] Oper.semAt_some frozen_alloc_lt
set_option maxRecDepth 100000 in
set_option maxHeartbeats 4000000 in
theorem goOn_any (b : Sn) (p : Option Addr) (c : Nat) (kd : Kd) (bc bg bt Bb : Nat) (hok : Ok9 b) : ∀ (j k M n : Nat) (l : List (Int × Int)) (cs : Array Value) (w : World), k + j = b.ns.length → NotesAt w p b.ns → GoBox w b p c kd bc bg bt Bb → bc ≠ Bb → bg ≠ Bb → bt ≠ Bb → (∀ a, p = some a → a.block ≠ Bb) →
    Blk w Bb 179 cs → cs.size = b.ns.length + 1 → StAt w M n l → (∀ st ∈ l, StK k st) → n ≤ 13 ^ (k + 1) →
    Calls Tryz.prog 139 #[.int .i64 k, .map (some M), .pointer (some ⟨bc, 0, none⟩), .pointer (some ⟨bg, 0, none⟩), .pointer (some ⟨bt, 0, none⟩)] w (GoPost w Bb b.ns.length k cs (tlL b.ns j k l)) := by
  intro j
  induction j with
  | zero =>
    intro k M n l cs w hkj hl hgb hn1 hn2 hn3 hp hB hcs hm hst hn
    have hkN : k = b.ns.length := by omega
    have hge : ¬ (k : Int) < (b.ns.length : Int) := by omega
    have hge2 : ¬ k < b.ns.length := by omega
    obtain ⟨v0, hv0⟩ := cell_some hB hcs (show k < b.ns.length + 1 by omega)
    have q2 := hgb.cC.cell 2
    have q8 := hgb.tT.cell 8
    have lc := hgb.cC.lt
    have lt := hgb.tT.lt
    have lB := hB.lt
    have fk := hB.frozen k
    unfold catC at q2 q8
    simp only [List.size_toArray, List.length_cons, List.length_nil, Nat.reduceAdd, Nat.reduceLT, getElem?_pos, List.getElem_toArray, List.getElem_cons_zero, List.getElem_cons_succ, List.append_toArray, List.cons_append, List.nil_append] at q2 q8
    have hk0 : (0 : Int) ≤ (k : Int) := by omega
    have hk1 : (k : Int) < ((b.ns.length + 1 : Nat) : Int) := by omega
    have hk2 : (k : Int) < (b.ns.length : Int) + 1 := by omega
    have HF := Lib.hid (TlAt.put (k := k) (cs := cs) (L := l) (tl := []) hB hcs (by omega) (fun _ _ => rfl) (fun i L h => by simp at h) hm)
    have HM := Lib.hid (hm.of_heap (Below.heap_setCell w ⟨Bb, k, none⟩ (.map (some M)) M (hm.ne_blk hB)))
    clear hl hgb hok hB hm hst hn hkj hkN
    go_enter Tryz.func139, Tryz.ntmps139
    go_wp2_with fail
    go_ret
    exact ⟨M, n, rfl, HM.out, HF.out, grownBy_setCell _ _ _ _⟩
  | succ j ih =>
    intro k M n l cs w hkj hl hgb hn1 hn2 hn3 hp hB hcs hm hst hn
    have hd : decide ((k : Int) < (b.ns.length : Int)) = true := by simp; omega
    obtain ⟨s, hs⟩ := get_some b.ns k (by omega)
    have hlen := hok.len
    have q2 := hgb.cC.cell 2
    have lc := hgb.cC.lt
    unfold catC at q2
    simp only [List.size_toArray, List.length_cons, List.length_nil, Nat.reduceAdd, Nat.reduceLT, getElem?_pos, List.getElem_toArray, List.getElem_cons_zero, List.getElem_cons_succ, List.append_toArray, List.cons_append, List.nil_append] at q2
    rw [tlL_step hs]
    have hrK := rchL_K hok hs hst
    have hn12 : n ≤ 1000000000000 := by
      have h1 : (13 : Nat) ^ (k + 1) ≤ 13 ^ 10 := Nat.pow_le_pow_right (by omega) (by omega)
      have h2 : (13 : Nat) ^ 10 = 137858491849 := by decide
      omega
    have hn13 : ∀ n', n' ≤ 13 * n → n' ≤ 13 ^ (k + 1 + 1) := fun n' h => by rw [Nat.pow_succ]; omega
    have hstB : ∀ st ∈ l, StB st := fun st h => (hst st h).b (by omega)
    have HIH := Lib.hid ih
    have lBw := hB.lt
    clear ih hn
    go_enter Tryz.func139, Tryz.ntmps139
    go_upto_region 2 with fail
    clear q2 lc
    generalize htl : tlL b.ns j (k + 1) (rchL b.ns k s l) = tl at *
    refine wp_region_flow_backH 12 32 10 (some Bb) (goR b p c kd bc bg bt Bb M n k s l cs tl) (by kernel_rfl) (by kernel_rfl) rfl (by omega) (goR_kept b p c kd bc bg bt Bb M n k s l cs tl) ?_ ?_ ?_
    · intro i hin hi10 f a X g1 g2 g3 g4 g5 g6 KK hKK
      have hgX := hgb.grown g5 hn1 hn2 hn3
      have hlX := hl.grown g5 hp
      have hmX : StAt X M n l := MapAt.grown hm g5 (by simpa using hm.ne_blk hB)
      have hgc := hgX.gG.cell 0
      match i, hin with
      | 0, _ => exact st_val rfl (wanted_none rfl) (run_lCatch _ rfl (g3 2 (by kernel_rfl)) hgX.cC) (hKK _ _ rfl (Below.refl _ _))
      | 1, _ => exact st_move rfl rfl (wanted_none rfl) (g3 0 (by kernel_rfl)) (hKK _ _ rfl (Below.refl _ _))
      | 2, _ => exact st_move rfl rfl (wanted_none rfl) (g3 1 (by kernel_rfl)) (hKK _ _ rfl (Below.refl _ _))
      | 3, _ => exact st_val rfl (wanted_none rfl) (run_lGo _ rfl (g3 3 (by kernel_rfl)) hgc) (hKK _ _ rfl (Below.refl _ _))
      | 4, _ => exact st_move rfl rfl (wanted_none rfl) (g3 0 (by kernel_rfl)) (hKK _ _ rfl (Below.refl _ _))
      | 5, _ => exact st_val rfl (wanted_none rfl) (run_inc _ (by omega) rfl (g4 4 (by kernel_rfl)) rfl) (hKK _ _ rfl (Below.refl _ _))
      | 6, _ => exact st_val rfl (wanted_none rfl) (run_lCatch _ rfl (g3 2 (by kernel_rfl)) hgX.cC) (hKK _ _ rfl (Below.refl _ _))
      | 7, _ => exact st_move rfl rfl (wanted_none rfl) (g3 0 (by kernel_rfl)) (hKK _ _ rfl (Below.refl _ _))
      | 8, _ => exact st_move rfl rfl (wanted_none rfl) (g3 1 (by kernel_rfl)) (hKK _ _ rfl (Below.refl _ _))
      | 9, _ =>
        refine st_call rfl rfl (wanted_none rfl) (sargs3 (g4 6 (by kernel_rfl)) (g4 7 (by kernel_rfl)) (g4 8 (by kernel_rfl))) (run_enter Tryz.func141 (by kernel_rfl) (by kernel_rfl) _) ?_
        refine (reached_any b p c kd k s M n l _ hlX hok hs hmX hstB hn12).mono ?_
        rintro e w1 ⟨M', n', rfl, k1, k2, k3, k4⟩
        exact ⟨_, rfl, hKK _ _ ⟨M', n', rfl, k2, by have := g5.size; omega, k3⟩ k4⟩
      | 11, _ =>
        obtain ⟨hf, M2, n2, e2, hm2, ht2⟩ := g4 10 (by kernel_rfl)
        refine st_call rfl rfl (wanted_none rfl) (sargs4 (g4 0 (by kernel_rfl)) (g4 1 (by kernel_rfl)) (g4 2 (by kernel_rfl)) e2) (run_enter Tryz.func140 (by kernel_rfl) (by kernel_rfl) _) ?_
        refine (leading_any b p c kd k s M M2 n n2 l (tl.headD []) _ hlX hok hs hmX hm2 hstB (by omega)).mono ?_
        rintro e w1 ⟨M', n', rfl, k1, k2, k3, k4⟩
        exact ⟨_, rfl, hKK _ _ ⟨hf, M', n', rfl, k3⟩ k4⟩
      | 10, _ => exact absurd rfl hi10
      | k + 12, hk => omega
    · intro a X g1 g2 g3 g4 g5 KK hKK
      obtain ⟨M1, n1, e1, k1, k2, k3⟩ := g4 9 (by kernel_rfl)
      have e3 : a.tmps.getD 17 undef = _ := g4 3 (by kernel_rfl)
      refine st_callv rfl rfl (wanted_none rfl) e3 (sargsv23 (g4 5 (by kernel_rfl)) e1) (fEnter _) ?_
      refine (HIH.out (k + 1) M1 n1 (rchL b.ns k s l) cs X (by omega) (hl.below g5) (hgb.bel g5) hn1 hn2 hn3 hp (hB.bel g5) hcs k3 hrK (hn13 _ k1)).mono ?_
      rw [htl]
      rintro e w1 ⟨M', n', rfl, h1, h2, h3⟩
      refine ⟨_, rfl, hKK _ _ ⟨rfl, M', n', rfl, h1, h2⟩ (fun i u hi hu => ?_) h3⟩
      match i, hi with
      | 0, _ => exact hu
      | 1, _ => exact hu
      | 2, _ => exact hu
      | 3, _ => exact hu
      | 4, _ => exact hu
      | 5, _ => exact hu
      | 6, _ => exact hu
      | 7, _ => exact hu
      | 8, _ => exact hu
      | 9, _ => obtain ⟨M', n', h4, h5, h6, h7⟩ := hu; exact ⟨M', n', h4, h5, h6, MapAt.grown h7 h3 (by simpa using h6)⟩
      | 10, _ => exact absurd hu.1 (by simp)
      | 11, _ => exact absurd hu.1 (by simp)
      | k + 12, hk => omega
    intro vs W2 hvs hBW
    have v0 : vs 0 = _ := hvs 0 (by omega)
    have v1 : vs 1 = _ := hvs 1 (by omega)
    have v2 : vs 2 = _ := hvs 2 (by omega)
    have v3 : vs 3 = _ := hvs 3 (by omega)
    have v4 : vs 4 = _ := hvs 4 (by omega)
    have v5 : vs 5 = _ := hvs 5 (by omega)
    have v6 : vs 6 = _ := hvs 6 (by omega)
    have v7 : vs 7 = _ := hvs 7 (by omega)
    have v8 : vs 8 = _ := hvs 8 (by omega)
    obtain ⟨M9, n9, v9, -⟩ := hvs 9 (by omega)
    obtain ⟨-, M10, n10, v10, -, ht10⟩ := hvs 10 (by omega)
    obtain ⟨-, M11, n11, v11, hm11⟩ := hvs 11 (by omega)
    simp only [putAll, v0, v1, v2, v3, v4, v5, v6, v7, v8, v9, v10, v11]
    clear v0 v1 v2 v3 v4 v5 v6 v7 v8 v9 v10 v11 hvs
    simp only [dstOf, Act.put, List.getElem?_toArray, List.getElem?_cons_zero, List.getElem?_cons_succ, Option.bind_some, Option.getD_some, List.setIfInBounds_toArray, List.set_cons_succ, List.set_cons_zero, List.drop_succ_cons, List.drop_zero]
    obtain ⟨cs', hB2, hcs2, hlo2, htl2⟩ := ht10
    have hg2 := hgb.grown hBW hn1 hn2 hn3
    obtain ⟨v0, hv0⟩ := cell_some hB2 hcs2 (show k < b.ns.length + 1 by omega)
    have q8 := hg2.tT.cell 8
    have lt := hg2.tT.lt
    have lB := hB2.lt
    have fk := hB2.frozen k
    unfold catC at q8
    simp only [List.size_toArray, List.length_cons, List.length_nil, Nat.reduceAdd, Nat.reduceLT, getElem?_pos, List.getElem_toArray, List.getElem_cons_zero, List.getElem_cons_succ, List.append_toArray, List.cons_append, List.nil_append] at q8
    have hk0 : (0 : Int) ≤ (k : Int) := by omega
    have hk2 : (k : Int) < (b.ns.length : Int) + 1 := by omega
    have HF := Lib.hid (TlAt.put (k := k) (cs := cs) (L := leadL b.ns k s l (tl.headD [])) (tl := tl) hB2 hcs2 (by omega) (fun i hi => hlo2 i (by omega)) htl2 hm11)
    have HM := Lib.hid (hm11.of_heap (Below.heap_setCell W2 ⟨Bb, k, none⟩ (.map (some M11)) M11 (hm11.ne_blk hB2)))
    have HBW := Lib.hid hBW
    clear hl hgb hok hB hm hst hBW hg2 htl2 hlo2 hB2 hm11 hn13 hstB hrK HIH htl
    go_wp2_with fail
    go_ret
    exact ⟨M11, n11, rfl, HM.out, HF.out, gb_trans HBW.out (grownBy_setCell _ _ _ _)⟩
end Go.Proofs.YtcaeohgbgeadaaaGreatDoor

namespace Go.Proofs.YtcaeohgbgeadaaaGreatDoor
open Go Go.RowKit Go.Shelf

/-- All states at the hour 0, before all notes. -/
def startL (lo hi : Int) : List (Int × Int) := (numsL lo hi).map fun m => (m, 0)
attribute [local go_sem] Oper.semAt_some frozen_alloc_lt
set_option maxHeartbeats 4000000 in
theorem start_in (lo hi : Int) (p : Option Addr) (N c : Nat) (kd : Kd) (O : Nat → Prop) (w : World) (hsp : 0 ≤ lo ∧ lo ≤ hi ∧ hi ≤ 400) :
    Seq0 Tryz.prog 142 #[.agg (catC lo hi p N c kd)] #[] encS O (fun xs => xs = startL lo hi) (fun pre => pre <+: startL lo hi) w := by
  intro n l J Jx W hW hOW hJ hJx hY h0'
  have HJ := Lib.hid hJ
  have HJx := Lib.hid hJx
  have HY := Lib.hid hY
  have H0 := Lib.hid h0'
  have HOW := Lib.hid hOW
  clear hJ hJx hY h0' hOW hW
  refine callsIn_of_wp_marks Tryz.func142 rfl trivial ?_ rfl
  simp only [Tryz.ntmps142, List.size_toArray, List.length_cons, List.length_nil, Nat.reduceAdd, Nat.reduceSub, Array.replicate_succ, Array.replicate_zero, List.push_toArray, List.append_toArray, List.nil_append, List.cons_append]
  unfold catC
  gi_wp2_with (gi_at_call 177; refine (callsIn_wide.2 (numbers_any lo hi _)).mono ?_; rintro e w1 ⟨g, rfl, k1, k2, y, rfl⟩)
  generalize hW1 : ext _ y = W1 at *
  have hB1 : Below W.heap.size W W1 := by rw [← hW1]; (exact belA)
  have hyb : Blk W1 (W.heap.size + 1) 209 #[.func (.yield l) #[] #[]] := by rw [← hW1]; exact (Blk.new (by simp)).ext y
  have hgl := k2.lt
  have HB1 := Lib.hid hB1
  have HYB := Lib.hid hyb
  have hgz : W.heap.size ≤ g := by simp at k1; omega
  have hyl := hyb.lt
  have hseq := numbers1_in g lo hi (fun k => O k ∨ k = W1.heap.size + 1) W1 k2 hsp.1 hsp.2.1 (by omega) (fun k hk => by
    rcases hk with hk | hk
    · have := HOW.out k hk; omega
    · omega)
  clear hW1 hB1 hyb k1 k2
  refine wpIn_rangeFunc_0 (gf := 194) (fb := #[]) (lb := #[.pointer (some ⟨g, 0, none⟩)]) rfl (enters_of Tryz.func194 (by kernel_rfl) rfl)
    O (fun k hk => by have := HOW.out k hk; have := HB1.out.size; omega) hseq (Below.refl _ _) (fun _ => rfl)
    (fun pre A => J (pre.map fun m => (m, 0)) A ∧ Blk A (W.heap.size + 1) 209 #[.func (.yield l) #[] #[]])
    (fun c pre A => c = .ret ∧ Jx (pre.map fun m => (m, 0)) A)
    (fun pre x a' A => ∃ u5 u6 u7, a' = { tmps := #[.agg #[.int .i64 lo, .int .i64 hi, .slice p N c, .int .i64 kd.a, .int .i64 kd.b, .int .i64 kd.c, .int .i64 kd.d, .int .i64 kd.e], .func (.yield l) #[] #[], .pointer (some ⟨W.heap.size, 0, none⟩), .pointer (some ⟨W.heap.size + 1, 0, none⟩), .int .i64 x, u5, u6, u7, .func (.func 194) #[] #[.pointer (some ⟨g, 0, none⟩)], .int .i64 x, undef, undef, undef, undef, undef], defers := [] })
    ?hI ?hIx ?hAx ?h0 ?hassign ?hbody ?hdone ?hstop
  case hI =>
    rintro pre A C ⟨j1, j2⟩ hz hp
    exact ⟨HJ.out _ _ _ j1 (by omega) (hp.mono (by omega)), (hp.block _ (by omega)).trans j2⟩
  case hIx =>
    rintro c pre A C ⟨rfl, j1⟩ hz hp
    exact ⟨rfl, HJx.out _ _ _ j1 (by omega) (hp.mono (by omega))⟩
  case hAx => rintro pre x a' A C ⟨u5, u6, u7, rfl⟩ hp; exact ⟨u5, u6, u7, rfl⟩
  case h0 =>
    intro W3 hb3
    exact ⟨HJ.out _ _ _ H0.out (Nat.le_refl _) (HB1.out.trans (hb3.mono (by omega))), (hb3.block _ (by omega)).trans HYB.out⟩
  case hassign =>
    intro m l' pre x W' hz hsp hi'
    exact wpIn_assign ⟨⟨_, _, _, by simp [go_sem, Act.put, Act.eval]; exact ⟨rfl, rfl, rfl⟩⟩, Below.refl _ _⟩
  case hbody =>
    rintro m l' pre x a' W' hz hpx ⟨j1, j2⟩ ⟨u5, u6, u7, rfl⟩
    have HP := Lib.hid (show (pre.map fun m => ((m, 0) : Int × Int)) ++ [(x, 0)] <+: startL lo hi by have := hpx.map (fun m => ((m, 0) : Int × Int)); rwa [List.map_append] at this)
    have c0 := j2.cell 0
    have l0 := j2.lt
    simp only [List.size_toArray, List.length_cons, List.length_nil, Nat.reduceAdd, Nat.reduceLT, getElem?_pos, List.getElem_toArray, List.getElem_cons_zero, List.getElem_cons_succ] at c0
    have J1 := Lib.hid j1
    have J2 := Lib.hid j2
    clear hseq j1 j2
    obtain ⟨fn, tmps, assign, body, hy, hR⟩ := YieldAt.inR l' (HY.out _ (pre.map fun m => (m, 0)) (x, 0) W' (by have := HB1.out.size; omega) HP.out J1.out)
    dsimp only [encS, key2] at hy
    gi_wp2_with fail
    refine hR.mono ?_
    rintro e B (⟨rfl, hJB, hS⟩ | ⟨rfl, hJB, hS⟩)
    · have HS := Lib.hid hS
      have HJB := Lib.hid hJB
      clear hS hJB hy hR
      gi_wp2_with fail
      exact ⟨HS.out, by rw [List.map_append]; exact HJB.out, (HS.out.block _ (by omega) (fun e => by have := HOW.out _ e; omega)).trans J2.out⟩
    · have HS := Lib.hid hS
      have HJB := Lib.hid hJB
      clear hS hJB hy hR
      gi_wp2_with fail
      exact ⟨HS.out, rfl, by rw [List.map_append]; exact HJB.out⟩
  case hdone =>
    rintro D xs W' rfl hz rfl ⟨j1, j2⟩ hp hD'
    have J1 := Lib.hid j1
    have HPV := Lib.hid hp
    clear j1 j2 hp hseq
    gi_wp2_with fail
    refine ⟨by simp, .inl ⟨_, _, rfl, run_takeDeferred hD', ?_⟩⟩
    exact ⟨_, results_none rfl _ _ _, ⟨_, rfl⟩, HPV.out.shut HB1.out (by have := HB1.out.size; omega) _, .inl ⟨_, rfl, HJ.out _ _ _ J1.out (by have := HB1.out.size; omega) (below_putObj _ (by have := HB1.out.size; omega) _)⟩⟩
  case hstop =>
    rintro D c pre W' rfl hz hSp ⟨rfl, j1⟩ hp hD'
    have J1 := Lib.hid j1
    have HPV := Lib.hid hp
    clear j1 hp hseq
    gi_wp2_with fail
    refine ⟨by simp, .inl ⟨_, _, rfl, run_takeDeferred hD', ?_⟩⟩
    exact ⟨_, results_none rfl _ _ _, ⟨_, rfl⟩, HPV.out.shut HB1.out (by have := HB1.out.size; omega) _, .inr ⟨_, hSp.map _, HJx.out _ _ _ J1.out (by have := HB1.out.size; omega) (below_putObj _ (by have := HB1.out.size; omega) _)⟩⟩
end Go.Proofs.YtcaeohgbgeadaaaGreatDoor

