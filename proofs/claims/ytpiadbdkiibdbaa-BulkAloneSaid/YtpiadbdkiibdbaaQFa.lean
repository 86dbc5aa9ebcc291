/- A region that draws its order, of whose first operations several may write into memory: what is known of each is told by which are done (after Fp). -/
/- What holds of every order of a region's operations outside of a round holds inside of one. In part cut out of Fa by gen_fia.py. -/
import Derived.Test.YtpiadbdkiibdbaaQFl
import Derived.Test.YtpiadbdkiibdbaaQQr
set_option linter.unusedSimpArgs false
set_option linter.unusedVariables false
namespace Go.Proofs.Ytpiadbdkiibdbaa
open Go Go.RowKit

section
variable {P : Program} {ops : Array Oper} {md : Region.Mode}
/-- One operation more is done. -/
def updF (f : Nat → Bool) (i : Nat) : Nat → Bool := fun j => j == i || f j
theorem updF_self (f : Nat → Bool) (i : Nat) : updF f i i = true := by simp [updF]
theorem updF_ne {f : Nat → Bool} {i j : Nat} (h : j ≠ i) : updF f i j = f j := by simp [updF, h]
structure FlowInvA (md : Region.Mode) (ops : Array Oper) (n N : Nat) (a0 : Act) (R : (Nat → Bool) → Nat → Value → World → Prop) (S : (Nat → Bool) → Act → World → Prop) (listed : Array Bool) (a : Act) (w : World) : Prop where
  head : HeadInv md ops n listed
  size : a.tmps.size = N
  dfr : a.defers = a0.defers
  old : ∀ s, freeB ops n s = true → a.tmps.getD s undef = a0.tmps.getD s undef
  rel : ∀ i, i < n → listed.getD i false = true → R (fun j => listed.getD j false) i (a.tmps.getD (dstOf ops i) undef) w
  st : S (fun j => listed.getD j false) a w
theorem wpAny_of_flowA {n N : Nat} {a0 : Act} {R : (Nat → Bool) → Nat → Value → World → Prop} {S : (Nat → Bool) → Act → World → Prop} {Q : Exit → Act → World → Prop} {tl : List Oper}
    (hB : flowB md ops n N = true) (htl : ∀ j, tl[j]? = ops[n + j]?) (htn : tl.length = ops.size - n)
    (hstep : ∀ i, i < n → ∀ (f : Nat → Bool) (a : Act) (w : World), a.tmps.size = N → a.defers = a0.defers → (∀ s, freeB ops n s = true → a.tmps.getD s undef = a0.tmps.getD s undef) →
      (∀ j, j < n → f j = true → R f j (a.tmps.getD (dstOf ops j) undef) w) → (∀ j, Region.waitsFor md ops i j = true → f j = true) → (∀ j, Region.waitsFor md ops j i = true → f j = false) → f i = false → S f a w →
      ∀ K : Act → World → Prop, (∀ v w', R (updF f i) i v w' → (∀ j, j < n → j ≠ i → f j = true → R f j (a.tmps.getD (dstOf ops j) undef) w → R (updF f i) j (a.tmps.getD (dstOf ops j) undef) w') → S (updF f i) (a.put (some (dstOf ops i)) v) w' → K (a.put (some (dstOf ops i)) v) w') → wpOp P ops Q i K a w)
    (htail : ∀ (a : Act) (w : World), a.tmps.size = N → a.defers = a0.defers → (∀ s, freeB ops n s = true → a.tmps.getD s undef = a0.tmps.getD s undef) →
      ∀ f : Nat → Bool, (∀ i, i < n → f i = true) → (∀ i, i < n → R f i (a.tmps.getD (dstOf ops i) undef) w) → S f a w → wpList P ops Q tl a w) :
    ∀ (k : Nat) (listed : Array Bool) (a : Act) (w : World), ((List.range n).filter fun i => !listed.getD i false).length = k → FlowInvA md ops n N a0 R S listed a w → wpAny P md ops Q (k + (ops.size - n)) listed a w := by
  simp only [flowB, Bool.and_eq_true, decide_eq_true_eq] at hB
  obtain ⟨⟨⟨⟨⟨hn, hs⟩, hc⟩, hlow⟩, hdst⟩, hseq⟩ := hB
  have hd : ∀ i, i < n → ∃ o, ops[i]? = some o ∧ o.dst = some (dstOf ops i) ∧ dstOf ops i < N ∧ ∀ j, j < n → i ≠ j → dstOf ops j ≠ dstOf ops i := by
    intro i hi
    have h1 := List.all_eq_true.1 hdst i (List.mem_range.2 hi)
    have hio : i < ops.size := by omega
    have ho : ops[i]? = some ops[i] := Array.getElem?_eq_getElem hio
    cases hd : ops[i].dst with
    | none => simp [ho, hd] at h1
    | some d =>
      have e : dstOf ops i = d := by simp [dstOf, ho, hd]
      simp only [ho, Option.bind_some, hd, Bool.and_eq_true, decide_eq_true_eq] at h1
      refine ⟨ops[i], ho, by rw [hd, e], by rw [e]; exact h1.1, fun j hj hij => ?_⟩
      have h2 := List.all_eq_true.1 h1.2 j (List.mem_range.2 hj)
      simp only [Bool.or_eq_true, beq_iff_eq, bne_iff_ne] at h2
      rcases h2 with h2 | h2
      · exact absurd h2 hij
      · rw [e]; exact h2
  intro k
  induction k with
  | zero =>
    intro listed a w hk inv
    have hall : ∀ i, i < n → listed.getD i false = true := by
      intro i hi
      have h0 := List.length_eq_zero_iff.1 hk
      have h1 := List.filter_eq_nil_iff.1 h0 i (List.mem_range.2 hi)
      simpa using h1
    have hf := listed_full inv.head.size (by omega) hall inv.head.tail
    rw [Nat.zero_add, ← htn]
    refine wpAny_of_seq (md := md) (Q' := Q) tl n listed a w htl ?_ (htail a w inv.size inv.dfr inv.old _ hall (fun i hi => inv.rel i hi (hall i hi)) inv.st)
    rw [htn, hf]
    exact hseq
  | succ k ih =>
    intro listed a w hk inv
    have hex : ∃ i, i < n ∧ listed.getD i false = false := by
      refine Classical.byContradiction fun h => ?_
      have : ((List.range n).filter fun i => !listed.getD i false) = [] := by
        rw [List.filter_eq_nil_iff]
        intro i hi hb
        exact h ⟨i, List.mem_range.1 hi, by simpa using hb⟩
      rw [this] at hk
      simp at hk
    rw [show k + 1 + (ops.size - n) = (k + (ops.size - n)) + 1 by omega]
    have hin : ∀ i, i < n → listed.getD i false = false → listed.getD i true = false := fun i hi h => getD_in (by rw [inv.head.size]; omega) h
    refine ⟨fun h0 => ?_, fun i hi => ?_⟩
    · exfalso
      obtain ⟨i, hi, hl⟩ := hex
      -- the least that is not listed is ready
      have key : ∀ m, m ≤ n → (∀ j, j < m → listed.getD j false = true) ∨ ∃ j, j < m ∧ listed.getD j false = false ∧ ∀ j', j' < j → listed.getD j' false = true := by
        intro m
        induction m with
        | zero => intro _; exact .inl (fun j hj => by omega)
        | succ m ihm =>
          intro hm
          rcases ihm (by omega) with h | ⟨j, hj, hj2⟩
          · cases hlm : listed.getD m false with
            | true => exact .inl (fun j hj => by rcases Nat.lt_succ_iff_lt_or_eq.1 hj with h' | rfl; exact h j h'; exact hlm)
            | false => exact .inr ⟨m, by omega, hlm, h⟩
          · exact .inr ⟨j, by omega, hj2⟩
      rcases key n (Nat.le_refl _) with h | ⟨j, hj, hj1, hj2⟩
      · rw [h i hi] at hl; cases hl
      · have hjo : j < ops.size := by omega
        have hr : j ∈ Region.ready md ops listed := by
          refine mem_ready.2 ⟨hin j hj hj1, ops[j], Array.getElem?_eq_getElem hjo, fun e he hb => ?_⟩
          have h1 := List.all_eq_true.1 hlow j (List.mem_range.2 hj)
          simp only [Array.getElem?_eq_getElem hjo, Option.map_some, Option.getD_some, Array.all_eq_true_iff_forall_mem, Bool.or_eq_true, Bool.not_eq_true', decide_eq_true_eq] at h1
          rcases h1 e he with h2 | h2
          · rw [hb] at h2; cases h2
          · exact hj2 e.on h2
        rw [h0] at hr
        cases hr
    · have hin2 : i < n := by
        rcases Nat.lt_or_ge i n with h | h
        · exact h
        · obtain ⟨j, hj, hl⟩ := hex
          exact absurd hi (tail_waits hs hc hn inv.head _ j rfl hj (hin j hj hl) i h)
      obtain ⟨o, ho, hod, hdN, hne⟩ := hd i hin2
      obtain ⟨hun, oi, hoi, hall⟩ := mem_ready.1 hi
      have : oi = o := Option.some.inj (hoi.symm.trans ho)
      subst this
      have hl0 : listed.getD i false = false := getD_both hun
      have hlt : i < listed.size := by rw [inv.head.size]; omega
      have e : ∀ j, (listed.setIfInBounds i true).getD j false = (j == i || listed.getD j false) := by
        intro j
        by_cases hji : i = j
        · subst hji; simp [hlt]
        · rw [getD_set_ne false hji]; simp [Ne.symm hji]
      have hu : updF (fun j => listed.getD j false) i = fun j => (listed.setIfInBounds i true).getD j false := by
        funext j
        rw [e j]
        rfl
      refine hstep i hin2 (fun j => listed.getD j false) a w inv.size inv.dfr inv.old inv.rel (fun j hj => ?_) (fun j hj => ?_) hl0 inv.st _ (fun v w' hv hp hb => ?_)
      · obtain ⟨oj, hoj, e, he, hbd, hon⟩ := Region.waitsFor_spec hj
        have : oj = oi := Option.some.inj (hoj.symm.trans hoi)
        subst this
        have hl := hall e he hbd
        rw [hon] at hl
        exact hl
      · obtain ⟨oj, hoj, e2, he, hbd, hon⟩ := Region.waitsFor_spec hj
        cases hlj : listed.getD j false with
        | false => rfl
        | true =>
          have h9 := inv.head.closed j oj hoj hlj e2 he hbd
          rw [hon, hl0] at h9
          cases h9
      · rw [hu] at hv hp hb
        refine ih _ _ _ ?_ ⟨inv.head.set hi hin2, by simp [Act.put, inv.size], by simpa [Act.put] using inv.dfr, fun s hs' => ?_, fun j hj hl => ?_, hb⟩
        · -- one fewer
          have hcount : ∀ (l : List Nat), l.Nodup → i ∈ l → (l.filter fun j => !listed.getD j false).length = (l.filter fun j => !(listed.setIfInBounds i true).getD j false).length + 1 := by
            intro l
            induction l with
            | nil => intro _ h; cases h
            | cons x l ihl =>
              intro hnd hm
              have hx := (List.nodup_cons.1 hnd)
              by_cases hxi : x = i
              · subst hxi
                have hl0 : listed.getD x false = false := getD_both hun
                have hrest : (l.filter fun j => !listed.getD j false) = l.filter fun j => !(listed.setIfInBounds x true).getD j false := by
                  apply List.filter_congr
                  intro j hj
                  have hjx : j ≠ x := fun h => hx.1 (h ▸ hj)
                  rw [e j]
                  simp [hjx]
                rw [List.filter_cons_of_pos (by simp only [hl0]; rfl), List.filter_cons_of_neg (by rw [e x]; simp), ← hrest]
                rfl
              · have hm' : i ∈ l := by rcases List.mem_cons.1 hm with h | h; exact absurd h.symm hxi; exact h
                have := ihl hx.2 hm'
                have ex : (listed.setIfInBounds i true).getD x false = listed.getD x false := by rw [e x]; simp [hxi]
                cases hlx : listed.getD x false with
                | true => rw [List.filter_cons_of_neg (by rw [hlx]; simp), List.filter_cons_of_neg (by rw [ex, hlx]; simp)]; exact this
                | false => rw [List.filter_cons_of_pos (by rw [hlx]; rfl), List.filter_cons_of_pos (by rw [ex, hlx]; rfl)]; simp only [List.length_cons]; omega
          have := hcount (List.range n) List.nodup_range (List.mem_range.2 hin2)
          omega
        · have hsi : dstOf ops i ≠ s := freeB_iff.1 hs' i hin2
          rw [← inv.old s hs']
          simp [Act.put, Array.getElem?_setIfInBounds_ne hsi]
        · by_cases hij : i = j
          · subst hij
            have : (a.put (some (dstOf ops i)) v).tmps.getD (dstOf ops i) undef = v := by
              have : dstOf ops i < a.tmps.size := by rw [inv.size]; exact hdN
              simp [Act.put, this]
            rw [this]
            exact hv
          · rw [getD_set_ne false hij] at hl
            have hdj := hne j hj hij
            have : (a.put (some (dstOf ops i)) v).tmps.getD (dstOf ops j) undef = a.tmps.getD (dstOf ops j) undef := by
              simp [Act.put, Array.getElem?_setIfInBounds_ne (Ne.symm hdj)]
            rw [this]
            exact hp j hj (Ne.symm hij) hl (inv.rel j hj hl)
end

/-- The law. -/
theorem wp_region_flowA {P : Program} {id : Nat} {Q : Exit → Act → World → Prop} {a0 : Act} {w0 : World} {l : List Oper} (n N : Nat) (R : (Nat → Bool) → Nat → Value → World → Prop) (S : (Nat → Bool) → Act → World → Prop) (hm : P.follows .mixedOrders = true) (hB : flowB .any l.toArray n N = true) (hN : a0.tmps.size = N) (hS0 : S (fun _ => false) a0 { w0 with drawn := w0.drawn + 1 })
    (hstep : ∀ i, i < n → ∀ (f : Nat → Bool) (a : Act) (w : World), a.tmps.size = N → a.defers = a0.defers → (∀ s, freeB l.toArray n s = true → a.tmps.getD s undef = a0.tmps.getD s undef) →
      (∀ j, j < n → f j = true → R f j (a.tmps.getD (dstOf l.toArray j) undef) w) → (∀ j, Region.waitsFor .any l.toArray i j = true → f j = true) → (∀ j, Region.waitsFor .any l.toArray j i = true → f j = false) → f i = false → S f a w →
      ∀ K : Act → World → Prop, (∀ v w', R (updF f i) i v w' → (∀ j, j < n → j ≠ i → f j = true → R f j (a.tmps.getD (dstOf l.toArray j) undef) w → R (updF f i) j (a.tmps.getD (dstOf l.toArray j) undef) w') → S (updF f i) (a.put (some (dstOf l.toArray i)) v) w' → K (a.put (some (dstOf l.toArray i)) v) w') → wpOp P l.toArray Q i K a w)
    (htail : ∀ (a : Act) (w : World), a.tmps.size = N → a.defers = a0.defers → (∀ s, freeB l.toArray n s = true → a.tmps.getD s undef = a0.tmps.getD s undef) →
      ∀ f : Nat → Bool, (∀ i, i < n → f i = true) → (∀ i, i < n → R f i (a.tmps.getD (dstOf l.toArray i) undef) w) → S f a w → wpList P l.toArray Q (l.drop n) a w) :
    (Code.region id l.toArray true).wp P Q a0 w0 := by
  have hn : n < l.length := by
    simp only [flowB, Bool.and_eq_true, decide_eq_true_eq] at hB
    simpa using hB.1.1.1.1.1
  refine wp_region_any hm ?_
  have h0 : ((List.range n).filter fun i => !(Array.replicate l.toArray.size false).getD i false).length = n := by
    rw [List.filter_eq_self.2 (fun i _ => by rw [getD_replicate_false]; rfl)]
    simp
  have := wpAny_of_flowA (P := P) (ops := l.toArray) (md := .any) (n := n) (N := N) (a0 := a0) (R := R) (S := S) (Q := Q) (tl := l.drop n) hB (fun j => by simp [List.getElem?_drop]) (by simp) hstep htail n
    (Array.replicate l.toArray.size false) a0 { w0 with drawn := w0.drawn + 1 } h0
    ⟨⟨by simp, fun j oj _ hl => (by rw [getD_replicate_false] at hl; cases hl), fun t _ ht => getD_in (by simpa using ht) (getD_replicate_false _ _)⟩, hN, rfl, fun _ _ => rfl, fun i _ hl => (by rw [getD_replicate_false] at hl; cases hl), by
      have e : (fun j => (Array.replicate l.toArray.size false).getD j false) = fun _ => false := by funext j; exact getD_replicate_false _ _
      rw [e]; exact hS0⟩
  have e : n + (l.toArray.size - n) = l.toArray.size := by simp; omega
  rw [e] at this
  exact this
/-- The law, with the frame brought back. -/
theorem wp_region_flow_backA {P : Program} {id : Nat} {Q : Exit → Act → World → Prop} {a0 : Act} {w0 : World} {l : List Oper} (n N : Nat) (R : (Nat → Bool) → Nat → Value → World → Prop) (S : (Nat → Bool) → Act → World → Prop) (hm : P.follows .mixedOrders = true) (hB : flowB .any l.toArray n N = true) (hN : a0.tmps.size = N) (hS0 : S (fun _ => false) a0 { w0 with drawn := w0.drawn + 1 })
    (hstep : ∀ i, i < n → ∀ (f : Nat → Bool) (a : Act) (w : World), a.tmps.size = N → a.defers = a0.defers → (∀ s, freeB l.toArray n s = true → a.tmps.getD s undef = a0.tmps.getD s undef) →
      (∀ j, j < n → f j = true → R f j (a.tmps.getD (dstOf l.toArray j) undef) w) → (∀ j, Region.waitsFor .any l.toArray i j = true → f j = true) → (∀ j, Region.waitsFor .any l.toArray j i = true → f j = false) → f i = false → S f a w →
      ∀ K : Act → World → Prop, (∀ v w', R (updF f i) i v w' → (∀ j, j < n → j ≠ i → f j = true → R f j (a.tmps.getD (dstOf l.toArray j) undef) w → R (updF f i) j (a.tmps.getD (dstOf l.toArray j) undef) w') → S (updF f i) (a.put (some (dstOf l.toArray i)) v) w' → K (a.put (some (dstOf l.toArray i)) v) w') → wpOp P l.toArray Q i K a w)
    (htail : ∀ (vs : Nat → Value) (w : World) (f : Nat → Bool), (∀ i, i < n → (putAll l.toArray a0 vs n).tmps.getD (dstOf l.toArray i) undef = vs i) → (∀ i, i < n → f i = true) → (∀ i, i < n → R f i (vs i) w) → S f (putAll l.toArray a0 vs n) w → wpList P l.toArray Q (l.drop n) (putAll l.toArray a0 vs n) w) :
    (Code.region id l.toArray true).wp P Q a0 w0 := by
  refine wp_region_flowA n N R S hm hB hN hS0 hstep ?_
  intro a w h1 h2 h3 f hf h4 h5
  simp only [flowB, Bool.and_eq_true, decide_eq_true_eq] at hB
  obtain ⟨⟨-, hdst⟩, -⟩ := hB
  have hd : ∀ i, i < n → dstOf l.toArray i < N ∧ ∀ j, j < n → i ≠ j → dstOf l.toArray j ≠ dstOf l.toArray i := by
    intro i hi
    have h6 := List.all_eq_true.1 hdst i (List.mem_range.2 hi)
    split at h6
    · rename_i d hdd
      have e : dstOf l.toArray i = d := by unfold dstOf; rw [hdd]; rfl
      simp only [Bool.and_eq_true, decide_eq_true_eq] at h6
      refine ⟨by rw [e]; exact h6.1, fun j hj hij => ?_⟩
      have h7 := List.all_eq_true.1 h6.2 j (List.mem_range.2 hj)
      simp only [Bool.or_eq_true, beq_iff_eq, bne_iff_ne] at h7
      rw [e]
      rcases h7 with h7 | h7
      · exact absurd h7 hij
      · exact h7
    · cases h6
  obtain ⟨g1, g2⟩ := putAll_get (ops := l.toArray) (a0 := a0) (vs := fun i => a.tmps.getD (dstOf l.toArray i) undef) n (fun i j hi hj hij => Ne.symm ((hd i hi).2 j hj hij)) (fun i hi => by rw [hN]; exact (hd i hi).1)
  have e : putAll l.toArray a0 (fun i => a.tmps.getD (dstOf l.toArray i) undef) n = a := by
    have hs := putAll_size (ops := l.toArray) (a0 := a0) (vs := fun i => a.tmps.getD (dstOf l.toArray i) undef) n
    have hdf := putAll_dfr (ops := l.toArray) (a0 := a0) (vs := fun i => a.tmps.getD (dstOf l.toArray i) undef) n
    have ht : (putAll l.toArray a0 (fun i => a.tmps.getD (dstOf l.toArray i) undef) n).tmps = a.tmps := by
      refine Array.ext (by rw [hs, hN, h1]) (fun s hs1 hs2 => ?_)
      have key : (putAll l.toArray a0 (fun i => a.tmps.getD (dstOf l.toArray i) undef) n).tmps.getD s undef = a.tmps.getD s undef := by
        by_cases hx : freeB l.toArray n s = true
        · rw [g2 s (freeB_iff.1 hx), h3 s hx]
        · have : ∃ i, i < n ∧ dstOf l.toArray i = s := by
            refine Classical.byContradiction fun hc => hx (freeB_iff.2 (fun i hi he => hc ⟨i, hi, he⟩))
          obtain ⟨i, hi, rfl⟩ := this
          exact g1 i hi
      have gd : ∀ (x : Array Value) (s : Nat) (h : s < x.size), x.getD s undef = x[s] := fun x s h => by simp [Array.getD, h]
      rw [gd _ _ hs1, gd _ _ hs2] at key
      exact key
    cases a
    generalize putAll l.toArray a0 _ n = b at *
    cases b
    simp only at ht hdf h2
    rw [ht, hdf, h2]
  have := htail (fun i => a.tmps.getD (dstOf l.toArray i) undef) w f (fun i _ => by rw [e]) hf h4 (by rw [e]; exact h5)
  rw [e] at this
  exact this
end Go.Proofs.Ytpiadbdkiibdbaa

namespace Go.Proofs.Ytpiadbdkiibdbaa
open Go Go.RowKit
/-- What is asked of the end of a region that ends as it should. -/
def EndN (R : Act → World → Prop) : Exit → Act → World → Prop := fun e a w => e = .normal ∧ R a w
section
variable {F : Fence} {m : Nat} {P : Program} {ops : Array Oper} {md : Region.Mode}
theorem wpOpIn_of_wpOpN {R : Act → World → Prop} {Q : Exit → Act → World → Prop} {i : Nat} {K K' : Act → World → Prop} {a : Act} {w : World} (hF : Free F) (hnd : NoDefer ops) (hK : ∀ a w, K a w → K' a w) (h : wpOp P ops (EndN R) i K a w) : wpOpIn F m P ops Q i K' a w := by
  unfold wpOp at h
  unfold wpOpIn
  cases ho : ops[i]? with
  | none => simp only [ho] at h; exact hK _ _ h
  | some o =>
    simp only [ho] at h
    show if _ then _ else _
    split at h
    · rename_i hw
      rw [if_pos hw]
      rcases h with h | ⟨_, _, _, h1, _⟩
      · refine ⟨fun f _ => hF.fn f, ?_⟩
        rw [Oper.semAt_plain F _ _ (hnd i o ho)]
        unfold Oper.wp at h
        generalize (execOp a.eval o).run P w = r at *
        cases r with
        | ok x w' =>
          cases x <;> simp only [Oper.upon] at h <;> simp only [Oper.uponIn]
          case value v => exact hK _ _ h
          case skip => exact hK _ _ h
          case defer d => exact hK _ _ h
          case enter f args =>
            refine ⟨fun h1 => (by rw [hF.depth] at h1; cases h1), (hF.calls h).mono fun e w'' he => ?_⟩
            cases e with
            | returned v => exact hK _ _ he
            | panicked c => exact absurd he.1 (by simp)
            | outgrown => obtain ⟨_, _, h3, _⟩ := he; cases h3
          case row f args => exact ⟨fun h1 => (by rw [hF.depth] at h1; cases h1), (hF.rows h).mono (fun _ _ he => hK _ _ he)⟩
        | halt x w' => cases x <;> simp only [Oper.upon] at h; exact absurd h.1 (by simp)
      · cases h1
    · rename_i hw
      rw [if_neg hw]
      exact ⟨fun f _ => hF.fn f, hK _ _ h⟩
theorem wpAnyIn_of_wpAny {R : Act → World → Prop} {Q : Exit → Act → World → Prop} (hF : Free F) (hnd : NoDefer ops) (hR : ∀ a w, R a w → Q .normal a w) : ∀ (fuel : Nat) (listed : Array Bool) (a : Act) (w : World), wpAny P md ops (EndN R) fuel listed a w → wpAnyIn F m P md ops Q fuel listed a w
  | 0, listed, a, w, h => ⟨h.1, hR _ _ h.2.2⟩
  | fuel + 1, listed, a, w, h => ⟨fun h0 => hR _ _ (h.1 h0).2, fun i hi => wpOpIn_of_wpOpN hF hnd (fun a' w' h' => wpAnyIn_of_wpAny hF hnd hR fuel _ a' w' h') (h.2 i hi)⟩
end
theorem wpIn_region_of_any {F : Fence} {m : Nat} {P : Program} {id : Nat} {Q : Exit → Act → World → Prop} {a : Act} {w : World} {l : List Oper} (hF : Free F) (hnd : noDefer l = true) (hm : P.follows .mixedOrders = true)
    (h : wpAny P .any l.toArray (EndN (Q .normal)) l.toArray.size (Array.replicate l.toArray.size false) a { w with drawn := w.drawn + 1 }) : (Code.region id l.toArray true).wpIn F m P Q a w :=
  wpIn_region_any hm (wpAnyIn_of_wpAny hF (noDefer_spec hnd) (fun _ _ h => h) _ _ _ _ h)
/-- The law. -/
theorem any_flowA {P : Program} {Q : Exit → Act → World → Prop} {a0 : Act} {w0 : World} {l : List Oper} (n N : Nat) (R : (Nat → Bool) → Nat → Value → World → Prop) (S : (Nat → Bool) → Act → World → Prop) (hB : flowB .any l.toArray n N = true) (hN : a0.tmps.size = N) (hS0 : S (fun _ => false) a0 { w0 with drawn := w0.drawn + 1 })
    (hstep : ∀ i, i < n → ∀ (f : Nat → Bool) (a : Act) (w : World), a.tmps.size = N → a.defers = a0.defers → (∀ s, freeB l.toArray n s = true → a.tmps.getD s undef = a0.tmps.getD s undef) →
      (∀ j, j < n → f j = true → R f j (a.tmps.getD (dstOf l.toArray j) undef) w) → (∀ j, Region.waitsFor .any l.toArray i j = true → f j = true) → (∀ j, Region.waitsFor .any l.toArray j i = true → f j = false) → f i = false → S f a w →
      ∀ K : Act → World → Prop, (∀ v w', R (updF f i) i v w' → (∀ j, j < n → j ≠ i → f j = true → R f j (a.tmps.getD (dstOf l.toArray j) undef) w → R (updF f i) j (a.tmps.getD (dstOf l.toArray j) undef) w') → S (updF f i) (a.put (some (dstOf l.toArray i)) v) w' → K (a.put (some (dstOf l.toArray i)) v) w') → wpOp P l.toArray Q i K a w)
    (htail : ∀ (a : Act) (w : World), a.tmps.size = N → a.defers = a0.defers → (∀ s, freeB l.toArray n s = true → a.tmps.getD s undef = a0.tmps.getD s undef) →
      ∀ f : Nat → Bool, (∀ i, i < n → f i = true) → (∀ i, i < n → R f i (a.tmps.getD (dstOf l.toArray i) undef) w) → S f a w → wpList P l.toArray Q (l.drop n) a w) :
    wpAny P .any l.toArray Q l.toArray.size (Array.replicate l.toArray.size false) a0 { w0 with drawn := w0.drawn + 1 } := by
  have hn : n < l.length := by
    simp only [flowB, Bool.and_eq_true, decide_eq_true_eq] at hB
    simpa using hB.1.1.1.1.1
  have h0 : ((List.range n).filter fun i => !(Array.replicate l.toArray.size false).getD i false).length = n := by
    rw [List.filter_eq_self.2 (fun i _ => by rw [getD_replicate_false]; rfl)]
    simp
  have := wpAny_of_flowA (P := P) (ops := l.toArray) (md := .any) (n := n) (N := N) (a0 := a0) (R := R) (S := S) (Q := Q) (tl := l.drop n) hB (fun j => by simp [List.getElem?_drop]) (by simp) hstep htail n
    (Array.replicate l.toArray.size false) a0 { w0 with drawn := w0.drawn + 1 } h0
    ⟨⟨by simp, fun j oj _ hl => (by rw [getD_replicate_false] at hl; cases hl), fun t _ ht => getD_in (by simpa using ht) (getD_replicate_false _ _)⟩, hN, rfl, fun _ _ => rfl, fun i _ hl => (by rw [getD_replicate_false] at hl; cases hl), by
      have e : (fun j => (Array.replicate l.toArray.size false).getD j false) = fun _ => false := by funext j; exact getD_replicate_false _ _
      rw [e]; exact hS0⟩
  have e : n + (l.toArray.size - n) = l.toArray.size := by simp; omega
  rw [e] at this
  exact this
/-- The law, with the frame brought back. -/
theorem any_flow_backA {P : Program} {Q : Exit → Act → World → Prop} {a0 : Act} {w0 : World} {l : List Oper} (n N : Nat) (R : (Nat → Bool) → Nat → Value → World → Prop) (S : (Nat → Bool) → Act → World → Prop) (hB : flowB .any l.toArray n N = true) (hN : a0.tmps.size = N) (hS0 : S (fun _ => false) a0 { w0 with drawn := w0.drawn + 1 })
    (hstep : ∀ i, i < n → ∀ (f : Nat → Bool) (a : Act) (w : World), a.tmps.size = N → a.defers = a0.defers → (∀ s, freeB l.toArray n s = true → a.tmps.getD s undef = a0.tmps.getD s undef) →
      (∀ j, j < n → f j = true → R f j (a.tmps.getD (dstOf l.toArray j) undef) w) → (∀ j, Region.waitsFor .any l.toArray i j = true → f j = true) → (∀ j, Region.waitsFor .any l.toArray j i = true → f j = false) → f i = false → S f a w →
      ∀ K : Act → World → Prop, (∀ v w', R (updF f i) i v w' → (∀ j, j < n → j ≠ i → f j = true → R f j (a.tmps.getD (dstOf l.toArray j) undef) w → R (updF f i) j (a.tmps.getD (dstOf l.toArray j) undef) w') → S (updF f i) (a.put (some (dstOf l.toArray i)) v) w' → K (a.put (some (dstOf l.toArray i)) v) w') → wpOp P l.toArray Q i K a w)
    (htail : ∀ (vs : Nat → Value) (w : World) (f : Nat → Bool), (∀ i, i < n → (putAll l.toArray a0 vs n).tmps.getD (dstOf l.toArray i) undef = vs i) → (∀ i, i < n → f i = true) → (∀ i, i < n → R f i (vs i) w) → S f (putAll l.toArray a0 vs n) w → wpList P l.toArray Q (l.drop n) (putAll l.toArray a0 vs n) w) :
    wpAny P .any l.toArray Q l.toArray.size (Array.replicate l.toArray.size false) a0 { w0 with drawn := w0.drawn + 1 } := by
  refine any_flowA n N R S hB hN hS0 hstep ?_
  intro a w h1 h2 h3 f hf h4 h5
  simp only [flowB, Bool.and_eq_true, decide_eq_true_eq] at hB
  obtain ⟨⟨-, hdst⟩, -⟩ := hB
  have hd : ∀ i, i < n → dstOf l.toArray i < N ∧ ∀ j, j < n → i ≠ j → dstOf l.toArray j ≠ dstOf l.toArray i := by
    intro i hi
    have h6 := List.all_eq_true.1 hdst i (List.mem_range.2 hi)
    split at h6
    · rename_i d hdd
      have e : dstOf l.toArray i = d := by unfold dstOf; rw [hdd]; rfl
      simp only [Bool.and_eq_true, decide_eq_true_eq] at h6
      refine ⟨by rw [e]; exact h6.1, fun j hj hij => ?_⟩
      have h7 := List.all_eq_true.1 h6.2 j (List.mem_range.2 hj)
      simp only [Bool.or_eq_true, beq_iff_eq, bne_iff_ne] at h7
      rw [e]
      rcases h7 with h7 | h7
      · exact absurd h7 hij
      · exact h7
    · cases h6
  obtain ⟨g1, g2⟩ := putAll_get (ops := l.toArray) (a0 := a0) (vs := fun i => a.tmps.getD (dstOf l.toArray i) undef) n (fun i j hi hj hij => Ne.symm ((hd i hi).2 j hj hij)) (fun i hi => by rw [hN]; exact (hd i hi).1)
  have e : putAll l.toArray a0 (fun i => a.tmps.getD (dstOf l.toArray i) undef) n = a := by
    have hs := putAll_size (ops := l.toArray) (a0 := a0) (vs := fun i => a.tmps.getD (dstOf l.toArray i) undef) n
    have hdf := putAll_dfr (ops := l.toArray) (a0 := a0) (vs := fun i => a.tmps.getD (dstOf l.toArray i) undef) n
    have ht : (putAll l.toArray a0 (fun i => a.tmps.getD (dstOf l.toArray i) undef) n).tmps = a.tmps := by
      refine Array.ext (by rw [hs, hN, h1]) (fun s hs1 hs2 => ?_)
      have key : (putAll l.toArray a0 (fun i => a.tmps.getD (dstOf l.toArray i) undef) n).tmps.getD s undef = a.tmps.getD s undef := by
        by_cases hx : freeB l.toArray n s = true
        · rw [g2 s (freeB_iff.1 hx), h3 s hx]
        · have : ∃ i, i < n ∧ dstOf l.toArray i = s := by
            refine Classical.byContradiction fun hc => hx (freeB_iff.2 (fun i hi he => hc ⟨i, hi, he⟩))
          obtain ⟨i, hi, rfl⟩ := this
          exact g1 i hi
      have gd : ∀ (x : Array Value) (s : Nat) (h : s < x.size), x.getD s undef = x[s] := fun x s h => by simp [Array.getD, h]
      rw [gd _ _ hs1, gd _ _ hs2] at key
      exact key
    cases a
    generalize putAll l.toArray a0 _ n = b at *
    cases b
    simp only at ht hdf h2
    rw [ht, hdf, h2]
  have := htail (fun i => a.tmps.getD (dstOf l.toArray i) undef) w f (fun i _ => by rw [e]) hf h4 (by rw [e]; exact h5)
  rw [e] at this
  exact this
end Go.Proofs.Ytpiadbdkiibdbaa

