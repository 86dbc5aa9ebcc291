/- The laws of Fl and Fn inside a fence: in an iterator, in a round. -/
/- Maps keyed by structs of two numbers, whatever the program: what such a map holds, as a function of the key; made, read, written, ranged over. -/
import Derived.Test.YtcaeohgbgeadaaaGreatDoorQFl
import Derived.Test.YtcaeohgbgeadaaaGreatDoorQIz
import Derived.Test.YtcaeohgbgeadaaaGreatDoorQExt
import Derived.Maps.RangeWalk
import Derived.DeepKeys5
set_option linter.unusedSimpArgs false
set_option linter.unusedVariables false
namespace Go.Proofs.YtcaeohgbgeadaaaGreatDoor
open Go Go.RowKit

/-- A fence that lets every function by, at any depth. -/
def Free (F : Fence) : Prop := F = Fence.wide ∨ ∃ l, F = Fence.wide.inRound l
theorem free_wide : Free Fence.wide := .inl rfl
theorem free_round (l : Nat) : Free (Fence.wide.inRound l) := .inr ⟨l, rfl⟩
theorem Free.fn {F : Fence} (h : Free F) (f : FuncId) : F.fn f := by
  rcases h with rfl | ⟨l, rfl⟩ <;> trivial
theorem Free.depth {F : Fence} (h : Free F) : F.depth = none := by
  rcases h with rfl | ⟨l, rfl⟩ <;> rfl
theorem Free.calls {F : Fence} (h : Free F) {n : Nat} {P : Program} {f : FuncId} {args : Array Value} {w : World} {R : Ending → World → Prop} (hc : Calls P f args w R) : CallsIn F n P f args w R := by
  rcases h with rfl | ⟨l, rfl⟩
  · exact callsIn_wide.2 hc
  · exact (callsIn_wide.2 hc : CallsIn Fence.wide n P f args w R)
theorem Free.rows {F : Fence} (h : Free F) {n : Nat} {P : Program} {f : String} {args : Array Value} {w : World} {R : Value → World → Prop} (hc : Rows P f args w R) : RowsIn F n P f args w R := by
  have h1 : RowsIn Fence.wide n P f args w R := fun c cs _ => let ⟨v, w', r, s⟩ := hc c cs; ⟨v, w', r, stepsIn_wide.2 s⟩
  rcases h with rfl | ⟨l, rfl⟩
  · exact h1
  · exact h1
section
variable {F : Fence} {m : Nat} {P : Program} {ops : Array Oper} {md : Region.Mode}
theorem wpAnyIn_of_seq {Q' : Exit → Act → World → Prop} : ∀ (l : List Oper) (k : Nat) (listed : Array Bool) (a : Act) (w : World), (∀ j, l[j]? = ops[k + j]?) →
    Region.seqB md ops l.length k listed = true → wpListIn F m P ops Q' l a w → wpAnyIn F m P md ops Q' l.length listed a w
  | [], _, _, _, _, _, hB, h => ⟨by simpa [Region.seqB] using hB, h⟩
  | o :: l, k, listed, a, w, hl, hB, h => by
    have h0 : ops[k]? = some o := by simpa using (hl 0).symm
    simp only [List.length_cons, Region.seqB, Bool.and_eq_true, decide_eq_true_eq] at hB
    refine ⟨fun h1 => (by rw [hB.1] at h1; cases h1), fun i hi => ?_⟩
    rw [hB.1] at hi
    have hik : i = k := by simpa using hi
    subst hik
    have hw : wpOpIn F m P ops Q' i (wpListIn F m P ops Q' l) a w := by unfold wpOpIn; simp only [h0]; exact h
    exact wpOpIn_mono (fun a' w' h' => wpAnyIn_of_seq l (i + 1) _ a' w' (fun j => by have := hl (j + 1); simpa [Nat.add_assoc, Nat.add_comm 1 j] using this) hB.2 h') hw
theorem wpOpIn_of_wpOp {Q : Exit → Act → World → Prop} {i : Nat} {K : Act → World → Prop} {a : Act} {w : World} (hF : Free F) (hnd : NoDefer ops) (h : wpOp P ops (fun _ _ _ => False) i K a w) : wpOpIn F m P ops Q i K a w := by
  unfold wpOp at h
  unfold wpOpIn
  cases ho : ops[i]? with
  | none => simp only [ho] at h; exact h
  | some o =>
    simp only [ho] at h
    show if _ then _ else _
    split at h
    · rename_i hw
      rw [if_pos hw]
      rcases h with h | ⟨-, -, -, h⟩
      · refine ⟨fun f _ => hF.fn f, ?_⟩
        rw [Oper.semAt_plain F _ _ (hnd i o ho)]
        unfold Oper.wp at h
        generalize (execOp a.eval o).run P w = r at *
        cases r with
        | ok x w' =>
          cases x <;> simp only [Oper.upon] at h <;> simp only [Oper.uponIn]
          case value v => exact h
          case skip => exact h
          case defer d => exact h
          case enter f args =>
            refine ⟨fun h1 => (by rw [hF.depth] at h1; cases h1), (hF.calls h).mono fun e w'' he => ?_⟩
            cases e with
            | returned v => exact he
            | panicked c => exact he.elim
            | outgrown => obtain ⟨_, _, h3⟩ := he; exact h3.elim
          case row f args => exact ⟨fun h1 => (by rw [hF.depth] at h1; cases h1), hF.rows h⟩
        | halt x w' => cases x <;> simp only [Oper.upon] at h
      · exact h.elim
    · rename_i hw
      rw [if_neg hw]
      exact ⟨fun f _ => hF.fn f, h⟩
theorem wpAnyIn_of_flow {n N : Nat} {a0 : Act} {w0 : World} {R : Nat → Value → World → Prop} {Q : Exit → Act → World → Prop} {tl : List Oper}
    (hF : Free F) (hnd : NoDefer ops) (hB : flowB md ops n N = true) (htl : ∀ j, tl[j]? = ops[n + j]?) (htn : tl.length = ops.size - n)
    (hR : ∀ i, i < n → ∀ v w w', R i v w → Below w.heap.size w w' → R i v w')
    (hstep : ∀ i, i < n → ∀ (a : Act) (w : World), a.tmps.size = N → a.defers = a0.defers → (∀ s, freeB ops n s = true → a.tmps.getD s undef = a0.tmps.getD s undef) →
      (∀ j, Region.waitsFor md ops i j = true → R j (a.tmps.getD (dstOf ops j) undef) w) → Below w0.heap.size w0 w →
      ∀ K : Act → World → Prop, (∀ v w', R i v w' → Below w.heap.size w w' → K (a.put (some (dstOf ops i)) v) w') → wpOp P ops (fun _ _ _ => False) i K a w)
    (htail : ∀ (a : Act) (w : World), a.tmps.size = N → a.defers = a0.defers → (∀ s, freeB ops n s = true → a.tmps.getD s undef = a0.tmps.getD s undef) →
      (∀ i, i < n → R i (a.tmps.getD (dstOf ops i) undef) w) → Below w0.heap.size w0 w → wpListIn F m P ops Q tl a w) :
    ∀ (k : Nat) (listed : Array Bool) (a : Act) (w : World), ((List.range n).filter fun i => !listed.getD i false).length = k → FlowInv md ops n N a0 w0 R listed a w → wpAnyIn F m P md ops Q (k + (ops.size - n)) listed a w := by
  simp only [flowB, Bool.and_eq_true, decide_eq_true_eq] at hB
  obtain ⟨⟨⟨⟨⟨hn, hs⟩, hc⟩, hlow⟩, hdst⟩, hseq⟩ := hB
  have hd : ∀ i, i < n → ∃ o, ops[i]? = some o ∧ o.dst = some (dstOf ops i) ∧ dstOf ops i < N ∧ ∀ j, j < n → i ≠ j → dstOf ops j ≠ dstOf ops i := by
    intro i hi
    have h1 := List.all_eq_true.1 hdst i (List.mem_range.2 hi)
    have hio : i < ops.size := by omega
    have ho : ops[i]? = some ops[i] := Array.getElem?_eq_getElem hio
    cases hd : ops[i].dst with
    | none => simp [ho, hd] at h1
    | some d =>
      have e : dstOf ops i = d := by simp [dstOf, ho, hd]
      simp only [ho, Option.bind_some, hd, Bool.and_eq_true, decide_eq_true_eq] at h1
      refine ⟨ops[i], ho, by rw [hd, e], by rw [e]; exact h1.1, fun j hj hij => ?_⟩
      have h2 := List.all_eq_true.1 h1.2 j (List.mem_range.2 hj)
      simp only [Bool.or_eq_true, beq_iff_eq, bne_iff_ne] at h2
      rcases h2 with h2 | h2
      · exact absurd h2 hij
      · rw [e]; exact h2
  intro k
  induction k with
  | zero =>
    intro listed a w hk inv
    have hall : ∀ i, i < n → listed.getD i false = true := by
      intro i hi
      have h0 := List.length_eq_zero_iff.1 hk
      have h1 := List.filter_eq_nil_iff.1 h0 i (List.mem_range.2 hi)
      simpa using h1
    have hf := listed_full inv.head.size (by omega) hall inv.head.tail
    rw [Nat.zero_add, ← htn]
    refine wpAnyIn_of_seq (md := md) (Q' := Q) tl n listed a w htl ?_ (htail a w inv.size inv.dfr inv.old (fun i hi => inv.rel i hi (hall i hi)) inv.bel)
    rw [htn, hf]
    exact hseq
  | succ k ih =>
    intro listed a w hk inv
    have hex : ∃ i, i < n ∧ listed.getD i false = false := by
      refine Classical.byContradiction fun h => ?_
      have : ((List.range n).filter fun i => !listed.getD i false) = [] := by
        rw [List.filter_eq_nil_iff]
        intro i hi hb
        exact h ⟨i, List.mem_range.1 hi, by simpa using hb⟩
      rw [this] at hk
      simp at hk
    rw [show k + 1 + (ops.size - n) = (k + (ops.size - n)) + 1 by omega]
    have hin : ∀ i, i < n → listed.getD i false = false → listed.getD i true = false := fun i hi h => getD_in (by rw [inv.head.size]; omega) h
    refine ⟨fun h0 => ?_, fun i hi => ?_⟩
    · exfalso
      obtain ⟨i, hi, hl⟩ := hex
      -- the least that is not listed is ready
      have key : ∀ m, m ≤ n → (∀ j, j < m → listed.getD j false = true) ∨ ∃ j, j < m ∧ listed.getD j false = false ∧ ∀ j', j' < j → listed.getD j' false = true := by
        intro m
        induction m with
        | zero => intro _; exact .inl (fun j hj => by omega)
        | succ m ihm =>
          intro hm
          rcases ihm (by omega) with h | ⟨j, hj, hj2⟩
          · cases hlm : listed.getD m false with
            | true => exact .inl (fun j hj => by rcases Nat.lt_succ_iff_lt_or_eq.1 hj with h' | rfl; exact h j h'; exact hlm)
            | false => exact .inr ⟨m, by omega, hlm, h⟩
          · exact .inr ⟨j, by omega, hj2⟩
      rcases key n (Nat.le_refl _) with h | ⟨j, hj, hj1, hj2⟩
      · rw [h i hi] at hl; cases hl
      · have hjo : j < ops.size := by omega
        have hr : j ∈ Region.ready md ops listed := by
          refine mem_ready.2 ⟨hin j hj hj1, ops[j], Array.getElem?_eq_getElem hjo, fun e he hb => ?_⟩
          have h1 := List.all_eq_true.1 hlow j (List.mem_range.2 hj)
          simp only [Array.getElem?_eq_getElem hjo, Option.map_some, Option.getD_some, Array.all_eq_true_iff_forall_mem, Bool.or_eq_true, Bool.not_eq_true', decide_eq_true_eq] at h1
          rcases h1 e he with h2 | h2
          · rw [hb] at h2; cases h2
          · exact hj2 e.on h2
        rw [h0] at hr
        cases hr
    · have hin2 : i < n := by
        rcases Nat.lt_or_ge i n with h | h
        · exact h
        · obtain ⟨j, hj, hl⟩ := hex
          exact absurd hi (tail_waits hs hc hn inv.head _ j rfl hj (hin j hj hl) i h)
      obtain ⟨o, ho, hod, hdN, hne⟩ := hd i hin2
      obtain ⟨hun, oi, hoi, hall⟩ := mem_ready.1 hi
      have : oi = o := Option.some.inj (hoi.symm.trans ho)
      subst this
      refine wpOpIn_of_wpOp hF hnd (hstep i hin2 a w inv.size inv.dfr inv.old (fun j hj => ?_) inv.bel _ (fun v w' hv hb => ?_))
      · obtain ⟨oj, hoj, e, he, hbd, hon⟩ := Region.waitsFor_spec hj
        have : oj = oi := Option.some.inj (hoj.symm.trans hoi)
        subst this
        have hl := hall e he hbd
        rw [hon] at hl
        have hjn : j < n := by
          have h1 := List.all_eq_true.1 hlow i (List.mem_range.2 hin2)
          simp only [ho, Option.map_some, Option.getD_some, Array.all_eq_true_iff_forall_mem, Bool.or_eq_true, Bool.not_eq_true', decide_eq_true_eq] at h1
          rcases h1 e he with h2 | h2
          · rw [hbd] at h2; cases h2
          · omega
        exact inv.rel j hjn hl
      · refine ih _ _ _ ?_ ⟨inv.head.set hi hin2, by simp [Act.put, inv.size], by simpa [Act.put] using inv.dfr, fun s hs' => ?_, fun j hj hl => ?_, inv.bel.trans (hb.mono inv.bel.size)⟩
        · -- one fewer
          have hlt : i < listed.size := by rw [inv.head.size]; omega
          have e : ∀ j, (listed.setIfInBounds i true).getD j false = (j == i || listed.getD j false) := by
            intro j
            by_cases hji : i = j
            · subst hji; simp [hlt]
            · rw [getD_set_ne false hji]; simp [Ne.symm hji]
          have hcount : ∀ (l : List Nat), l.Nodup → i ∈ l → (l.filter fun j => !listed.getD j false).length = (l.filter fun j => !(listed.setIfInBounds i true).getD j false).length + 1 := by
            intro l
            induction l with
            | nil => intro _ h; cases h
            | cons x l ihl =>
              intro hnd hm
              have hx := (List.nodup_cons.1 hnd)
              by_cases hxi : x = i
              · subst hxi
                have hl0 : listed.getD x false = false := getD_both hun
                have hrest : (l.filter fun j => !listed.getD j false) = l.filter fun j => !(listed.setIfInBounds x true).getD j false := by
                  apply List.filter_congr
                  intro j hj
                  have hjx : j ≠ x := fun h => hx.1 (h ▸ hj)
                  rw [e j]
                  simp [hjx]
                rw [List.filter_cons_of_pos (by simp only [hl0]; rfl), List.filter_cons_of_neg (by rw [e x]; simp), ← hrest]
                rfl
              · have hm' : i ∈ l := by rcases List.mem_cons.1 hm with h | h; exact absurd h.symm hxi; exact h
                have := ihl hx.2 hm'
                have ex : (listed.setIfInBounds i true).getD x false = listed.getD x false := by rw [e x]; simp [hxi]
                cases hlx : listed.getD x false with
                | true => rw [List.filter_cons_of_neg (by rw [hlx]; simp), List.filter_cons_of_neg (by rw [ex, hlx]; simp)]; exact this
                | false => rw [List.filter_cons_of_pos (by rw [hlx]; rfl), List.filter_cons_of_pos (by rw [ex, hlx]; rfl)]; simp only [List.length_cons]; omega
          have := hcount (List.range n) List.nodup_range (List.mem_range.2 hin2)
          omega
        · have hsi : dstOf ops i ≠ s := freeB_iff.1 hs' i hin2
          rw [← inv.old s hs']
          simp [Act.put, Array.getElem?_setIfInBounds_ne hsi]
        · by_cases hij : i = j
          · subst hij
            have : (a.put (some (dstOf ops i)) v).tmps.getD (dstOf ops i) undef = v := by
              have : dstOf ops i < a.tmps.size := by rw [inv.size]; exact hdN
              simp [Act.put, this]
            rw [this]
            exact hv
          · rw [getD_set_ne false hij] at hl
            have hdj := hne j hj hij
            have : (a.put (some (dstOf ops i)) v).tmps.getD (dstOf ops j) undef = a.tmps.getD (dstOf ops j) undef := by
              simp [Act.put, Array.getElem?_setIfInBounds_ne (Ne.symm hdj)]
            rw [this]
            exact hR _ hj _ _ _ (inv.rel j hj hl) hb
end
theorem wpIn_region_flow {F : Fence} {m : Nat} {P : Program} {id : Nat} {Q : Exit → Act → World → Prop} {a0 : Act} {w0 : World} {l : List Oper} (n N : Nat) (R : Nat → Value → World → Prop) (hF : Free F) (hnd : noDefer l = true) (hm : P.follows .mixedOrders = true) (hB : flowB .any l.toArray n N = true) (hN : a0.tmps.size = N)
    (hR : ∀ i, i < n → ∀ v w w', R i v w → Below w.heap.size w w' → R i v w')
    (hstep : ∀ i, i < n → ∀ (a : Act) (w : World), a.tmps.size = N → a.defers = a0.defers → (∀ s, freeB l.toArray n s = true → a.tmps.getD s undef = a0.tmps.getD s undef) →
      (∀ j, Region.waitsFor .any l.toArray i j = true → R j (a.tmps.getD (dstOf l.toArray j) undef) w) → Below w0.heap.size w0 w →
      ∀ K : Act → World → Prop, (∀ v w', R i v w' → Below w.heap.size w w' → K (a.put (some (dstOf l.toArray i)) v) w') → wpOp P l.toArray (fun _ _ _ => False) i K a w)
    (htail : ∀ (a : Act) (w : World), a.tmps.size = N → a.defers = a0.defers → (∀ s, freeB l.toArray n s = true → a.tmps.getD s undef = a0.tmps.getD s undef) →
      (∀ i, i < n → R i (a.tmps.getD (dstOf l.toArray i) undef) w) → Below w0.heap.size w0 w → wpListIn F m P l.toArray Q (l.drop n) a w) :
    (Code.region id l.toArray true).wpIn F m P Q a0 w0 := by
  have hn : n < l.length := by
    simp only [flowB, Bool.and_eq_true, decide_eq_true_eq] at hB
    simpa using hB.1.1.1.1.1
  refine wpIn_region_any hm ?_
  have h0 : ((List.range n).filter fun i => !(Array.replicate l.toArray.size false).getD i false).length = n := by
    rw [List.filter_eq_self.2 (fun i _ => by rw [getD_replicate_false]; rfl)]
    simp
  have := wpAnyIn_of_flow (F := F) (m := m) (P := P) (ops := l.toArray) (md := .any) (n := n) (N := N) (a0 := a0) (w0 := w0) (R := R) (Q := Q) (tl := l.drop n) hF (noDefer_spec hnd) hB (fun j => by simp [List.getElem?_drop]) (by simp) hR hstep htail n
    (Array.replicate l.toArray.size false) a0 { w0 with drawn := w0.drawn + 1 } h0
    ⟨⟨by simp, fun j oj _ hl => (by rw [getD_replicate_false] at hl; cases hl), fun t _ ht => getD_in (by simpa using ht) (getD_replicate_false _ _)⟩, hN, rfl, fun _ _ => rfl, fun i _ hl => (by rw [getD_replicate_false] at hl; cases hl), Below.drew (Below.refl _ _)⟩
  have e : n + (l.toArray.size - n) = l.toArray.size := by simp; omega
  rw [e] at this
  exact this
/-- The law, with the frame brought back. -/
theorem wpIn_region_flow_back {F : Fence} {m : Nat} {P : Program} {id : Nat} {Q : Exit → Act → World → Prop} {a0 : Act} {w0 : World} {l : List Oper} (n N : Nat) (R : Nat → Value → World → Prop) (hF : Free F) (hnd : noDefer l = true) (hm : P.follows .mixedOrders = true) (hB : flowB .any l.toArray n N = true) (hN : a0.tmps.size = N)
    (hR : ∀ i, i < n → ∀ v w w', R i v w → Below w.heap.size w w' → R i v w')
    (hstep : ∀ i, i < n → ∀ (a : Act) (w : World), a.tmps.size = N → a.defers = a0.defers → (∀ s, freeB l.toArray n s = true → a.tmps.getD s undef = a0.tmps.getD s undef) →
      (∀ j, Region.waitsFor .any l.toArray i j = true → R j (a.tmps.getD (dstOf l.toArray j) undef) w) → Below w0.heap.size w0 w →
      ∀ K : Act → World → Prop, (∀ v w', R i v w' → Below w.heap.size w w' → K (a.put (some (dstOf l.toArray i)) v) w') → wpOp P l.toArray (fun _ _ _ => False) i K a w)
    (htail : ∀ (vs : Nat → Value) (w : World), (∀ i, i < n → R i (vs i) w) → Below w0.heap.size w0 w → wpListIn F m P l.toArray Q (l.drop n) (putAll l.toArray a0 vs n) w) :
    (Code.region id l.toArray true).wpIn F m P Q a0 w0 := by
  refine wpIn_region_flow n N R hF hnd hm hB hN hR hstep ?_
  intro a w h1 h2 h3 h4 h5
  simp only [flowB, Bool.and_eq_true, decide_eq_true_eq] at hB
  obtain ⟨⟨-, hdst⟩, -⟩ := hB
  have hd : ∀ i, i < n → dstOf l.toArray i < N ∧ ∀ j, j < n → i ≠ j → dstOf l.toArray j ≠ dstOf l.toArray i := by
    intro i hi
    have h6 := List.all_eq_true.1 hdst i (List.mem_range.2 hi)
    split at h6
    · rename_i d hdd
      have e : dstOf l.toArray i = d := by unfold dstOf; rw [hdd]; rfl
      simp only [Bool.and_eq_true, decide_eq_true_eq] at h6
      refine ⟨by rw [e]; exact h6.1, fun j hj hij => ?_⟩
      have h7 := List.all_eq_true.1 h6.2 j (List.mem_range.2 hj)
      simp only [Bool.or_eq_true, beq_iff_eq, bne_iff_ne] at h7
      rw [e]
      rcases h7 with h7 | h7
      · exact absurd h7 hij
      · exact h7
    · cases h6
  obtain ⟨g1, g2⟩ := putAll_get (ops := l.toArray) (a0 := a0) (vs := fun i => a.tmps.getD (dstOf l.toArray i) undef) n (fun i j hi hj hij => Ne.symm ((hd i hi).2 j hj hij)) (fun i hi => by rw [hN]; exact (hd i hi).1)
  have e : putAll l.toArray a0 (fun i => a.tmps.getD (dstOf l.toArray i) undef) n = a := by
    have hs := putAll_size (ops := l.toArray) (a0 := a0) (vs := fun i => a.tmps.getD (dstOf l.toArray i) undef) n
    have hdf := putAll_dfr (ops := l.toArray) (a0 := a0) (vs := fun i => a.tmps.getD (dstOf l.toArray i) undef) n
    have ht : (putAll l.toArray a0 (fun i => a.tmps.getD (dstOf l.toArray i) undef) n).tmps = a.tmps := by
      refine Array.ext (by rw [hs, hN, h1]) (fun s hs1 hs2 => ?_)
      have key : (putAll l.toArray a0 (fun i => a.tmps.getD (dstOf l.toArray i) undef) n).tmps.getD s undef = a.tmps.getD s undef := by
        by_cases hx : freeB l.toArray n s = true
        · rw [g2 s (freeB_iff.1 hx), h3 s hx]
        · have : ∃ i, i < n ∧ dstOf l.toArray i = s := by
            refine Classical.byContradiction fun hc => hx (freeB_iff.2 (fun i hi he => hc ⟨i, hi, he⟩))
          obtain ⟨i, hi, rfl⟩ := this
          exact g1 i hi
      have gd : ∀ (x : Array Value) (s : Nat) (h : s < x.size), x.getD s undef = x[s] := fun x s h => by simp [Array.getD, h]
      rw [gd _ _ hs1, gd _ _ hs2] at key
      exact key
    cases a
    generalize putAll l.toArray a0 _ n = b at *
    cases b
    simp only at ht hdf h2
    rw [ht, hdf, h2]
  have := htail _ w h4 h5
  rw [e] at this
  exact this
end Go.Proofs.YtcaeohgbgeadaaaGreatDoor

namespace Go.Proofs.YtcaeohgbgeadaaaGreatDoor
open Go Go.RowKit Go.Maps

/-- A key. -/
def key2 (a b : Int) : Value := .agg #[.int .i64 a, .int .i64 b]
theorem key2_inj {a b c d : Int} (h : key2 a b = key2 c d) : a = c ∧ b = d := by simpa [key2] using h
/-- A number that fits in. -/
def InI (a : Int) : Prop := (Lit.int .i64 a).wf = true
theorem inI {a : Int} (h0 : -1000000 ≤ a) (h1 : a ≤ 1000000) : InI a := WalkArith.wf_i64 (by omega)
/-- An element reads as itself. -/
def R0 (v : Value) : Option (DataW Value × List MemPlace) := some (.held v, [])
/-- A type of keys: a struct of two numbers. -/
structure Key2 (P : Program) (K : TypeId) : Prop where
  law : Maps.Keyed P K
  enc : ∀ a b, InI a → InI b → ∃ l, keyOf P K (key2 a b) = some l
  inv : ∀ v l, keyOf P K v = some l → ∃ a b, v = key2 a b ∧ InI a ∧ InI b
theorem Key2.of {P : Program} {K I : TypeId} {f0 f1 : Go.Field} (law : Maps.Keyed P K) (hK : P.underlying K = some (.struct #[f0, f1])) (t0 : f0.type = I) (t1 : f1.type = I) (o0 : f0.offset = 0) (o1 : f1.offset = 1)
    (n0 : (f0.name != "_") = true) (n1 : (f1.name != "_") = true) (hI : P.underlying I = some (.int .i64)) (c2 : P.cellsOf K = 2) (c1 : P.cellsOf I = 1) (hk : P.keyType K = true) {m : Nat} (hz : P.types.size = m + 1) : Key2 P K := by
  have n0' : ¬ f0.name = "_" := by simpa using n0
  have n1' : ¬ f1.name = "_" := by simpa using n1
  refine ⟨law, fun a b ha hb => ?_, fun v l h => ?_⟩
  · have ha' : (Lit.int .i64 a).wf = true := ha
    have hb' : (Lit.int .i64 b).wf = true := hb
    refine ⟨.string (keyBytes [.int .i64 a, .int .i64 b]), ?_⟩
    simp [keyOf, hK, hk, key2, Value.formed, c2, Value.cells, hz, Program.keyLits, t0, t1, o0, o1, c1, hI, ha', hb', n0', n1']
  · simp only [keyOf, hK, hk, Bool.true_and] at h
    split at h
    · rename_i hfm
      cases v <;> simp [Value.formed, hK, c2] at hfm
      rename_i cs
      obtain ⟨x, y, rfl⟩ : ∃ x y, cs = #[x, y] := by
        rcases cs with ⟨l⟩
        match l, hfm with
        | [x, y], _ => exact ⟨x, y, rfl⟩
      simp only [Option.map_eq_some_iff] at h
      obtain ⟨ls, h1, -⟩ := h
      rw [hz] at h1
      have one : ∀ v : Value, (∃ n, v = .int .i64 n ∧ (Lit.int .i64 n).wf = true) ∨ P.keyLits (m + 1) I [v] = none := fun v => by
        cases v with
        | int q n =>
          by_cases hq : q = .i64 ∧ (Lit.int .i64 n).wf = true
          · obtain ⟨rfl, hq⟩ := hq; exact .inl ⟨n, rfl, hq⟩
          · exact .inr (by simp only [Program.keyLits, hI]; rw [if_neg hq])
        | _ => exact .inr (by simp [Program.keyLits, hI])
      have h2 : ((P.keyLits (m + 1) I [x]).bind fun a => (P.keyLits (m + 1) I [y]).bind fun b => some [a, b]) ≠ none := by
        have e : P.keyLits (m + 1 + 1) K [x, y] = if [x, y].length = P.cellsOf K ∧ (#[f0, f1]).all (·.name != "_") = true then ((#[f0, f1]).toList.mapM fun f => P.keyLits (m + 1) f.type (([x, y].drop f.offset).take (P.cellsOf f.type))).map List.flatten else none := by conv => { lhs; unfold Program.keyLits; rw [hK] }
        rw [show (Value.agg #[x, y]).cells.toList = [x, y] from rfl, e] at h1
        split at h1
        · intro h0
          cases hx : P.keyLits (m + 1) I [x] <;> cases hy : P.keyLits (m + 1) I [y] <;> simp [t0, t1, o0, o1, c1, hx, hy] at h1 h0
        · cases h1
      rcases one x with ⟨a, rfl, ha⟩ | hx
      · rcases one y with ⟨b, rfl, hb⟩ | hy
        · exact ⟨a, b, rfl, ha, hb⟩
        · rw [hy] at h2; cases P.keyLits (m + 1) I [Value.int .i64 a] <;> simp at h2
      · rw [hx] at h2; simp at h2
    · cases h
/-- What a key reads as. -/
def kl2 (P : Program) (K : TypeId) (a b : Int) : Lit := (keyOf P K (key2 a b)).getD (.bool true)
section
variable {P : Program} {K t e : TypeId}
theorem Key2.kl (k : Key2 P K) {a b : Int} (ha : InI a) (hb : InI b) : keyOf P K (key2 a b) = some (kl2 P K a b) := by
  obtain ⟨l, hl⟩ := k.enc a b ha hb
  unfold kl2; rw [hl]; rfl
theorem Key2.kl_inj (k : Key2 P K) {a b c d : Int} (ha : InI a) (hb : InI b) (hc : InI c) (hd : InI d) (h : kl2 P K a b = kl2 P K c d) : a = c ∧ b = d :=
  key2_inj (k.law.inj (k.kl ha hb) (h ▸ k.kl hc hd))
theorem Key2.isKey (k : Key2 P K) {a b : Int} (ha : InI a) (hb : InI b) : WideAt.IsKeyLit (kl2 P K a b) := k.law.key (k.kl ha hb)
/-- What a function of the key tells of a reading. -/
structure Reads (P : Program) (K : TypeId) (D : DataW Value) (f : Int → Int → Option Value) : Prop where
  has : ∀ a b, InI a → InI b → Maps.has D (kl2 P K a b) = (f a b).isSome
  at_ : ∀ a b, InI a → InI b → ∀ zd, D.atKey (kl2 P K a b) zd = match f a b with | some v => .held v | none => zd
/-- Block b is a map of at most n entries, which holds what f says. -/
def MapAt (P : Program) (K : TypeId) (w : World) (b n : Nat) (f : Int → Int → Option Value) : Prop := ∃ D, w.ownsMap P K R0 b n D ∧ Reads P K D f
def upd (f : Int → Int → Option Value) (a b : Int) (v : Value) : Int → Int → Option Value := fun x y => if x = a ∧ y = b then some v else f x y
variable {w : World} {b n : Nat} {f : Int → Int → Option Value}
theorem MapAt.lt (h : MapAt P K w b n f) : b < w.heap.size := by obtain ⟨D, h1, _⟩ := h; exact h1.lt
theorem MapAt.of_heap {w' : World} (h : MapAt P K w b n f) (hh : w'.heap[b]? = w.heap[b]?) : MapAt P K w' b n f := by
  obtain ⟨D, ⟨es, clock, h1, hr⟩, h2⟩ := h
  exact ⟨D, ⟨es, clock, hh.trans h1, hr⟩, h2⟩
theorem MapAt.below {w' : World} (h : MapAt P K w b n f) (hb : Below w.heap.size w w') : MapAt P K w' b n f := h.of_heap (hb.block b h.lt)
theorem MapAt.bel {w' : World} (h : MapAt P K w b n f) {m : Nat} (hm : b < m) (hb : Below m w w') : MapAt P K w' b n f := h.of_heap (hb.block b hm)
theorem MapAt.grown {w' : World} {r : Option Nat} (h : MapAt P K w b n f) (hg : w.grownBy w' r) (hr : some b ≠ r) : MapAt P K w' b n f := h.of_heap (hg.block b h.lt hr)
theorem MapAt.mono (h : MapAt P K w b n f) {n' : Nat} (hn : n ≤ n') : MapAt P K w b n' f := by obtain ⟨D, h1, h2⟩ := h; exact ⟨D, h1.mono hn, h2⟩
theorem MapAt.new (P : Program) (K : TypeId) (w : World) : MapAt P K (w.alloc (.map #[] 0)) w.heap.size 0 (fun _ _ => none) :=
  ⟨_, World.ownsMap_made _ _ _ _, ⟨fun _ _ _ _ => rfl, fun _ _ _ _ _ => rfl⟩⟩
theorem MapAt.eq (h : MapAt P K w b n f) {g : Int → Int → Option Value} (hg : ∀ a b, InI a → InI b → g a b = f a b) : MapAt P K w b n g := by
  obtain ⟨D, h1, h2, h3⟩ := h
  exact ⟨D, h1, ⟨fun a b ha hb => by rw [hg a b ha hb]; exact h2 a b ha hb, fun a b ha hb => by rw [hg a b ha hb]; exact h3 a b ha hb⟩⟩
theorem MapAt.look (h : MapAt P K w b n f) (k : Key2 P K) (ht : P.underlying t = some (.map K e)) {z : Value} (hz : ∀ w, (zeroValue e).run P w = .ok z w) {a c : Int} (ha : InI a) (hc : InI c) :
    (Instr.lookup t (.map (some b)) (key2 a c) false).run P w = .ok ((f a c).getD z) w := by
  obtain ⟨D, h1, h2, h3⟩ := h
  obtain ⟨v, ps, hr, hv⟩ := h1.lookup k.law ht (hz w) (zd := .held z) (zp := []) rfl (k.kl ha hc)
  rw [h3 a c ha hc] at hv
  rw [hr]
  cases hf : f a c <;> simp [hf, R0] at hv ⊢ <;> rw [hv.1]
theorem MapAt.lookOk (h : MapAt P K w b n f) (k : Key2 P K) (ht : P.underlying t = some (.map K e)) {z : Value} (hz : ∀ w, (zeroValue e).run P w = .ok z w) {a c : Int} (ha : InI a) (hc : InI c) :
    (Instr.lookup t (.map (some b)) (key2 a c) true).run P w = .ok (.tuple #[(f a c).getD z, .bool (f a c).isSome]) w := by
  obtain ⟨D, h1, h2, h3⟩ := h
  obtain ⟨v, ps, hr, hv⟩ := h1.look_ok k.law ht (hz w) (zd := .held z) (zp := []) rfl (k.kl ha hc)
  rw [h3 a c ha hc] at hv
  rw [hr, h2 a c ha hc]
  cases hf : f a c <;> simp [hf, R0] at hv ⊢ <;> rw [hv.1]
theorem MapAt.store (h : MapAt P K w b n f) (k : Key2 P K) (ht : P.underlying t = some (.map K e)) (hn : n < maxLen) {a c : Int} (ha : InI a) (hc : InI c) (v : Value) :
    ∃ w', (Instr.mapUpdate t (.map (some b)) (key2 a c) v).run P w = .ok () w' ∧ MapAt P K w' b (n + 1) (upd f a c v) ∧ w.grownBy w' (some b) := by
  obtain ⟨D, h1, h2, h3⟩ := h
  obtain ⟨w', r1, r2, r3⟩ := h1.update k.law ht hn (k.kl ha hc) (val := v) (d := .held v) (ps := []) rfl
  refine ⟨w', r1, ⟨_, r2, ?_, ?_⟩, r3⟩
  · intro x y hx hy
    by_cases hxy : x = a ∧ y = c
    · obtain ⟨rfl, rfl⟩ := hxy
      rw [has_put_same h1.isMap (k.isKey hx hy)]; simp [upd]
    · have hne : kl2 P K x y ≠ kl2 P K a c := fun h => hxy (k.kl_inj hx hy ha hc h)
      rw [has_put_other hne, h2 x y hx hy]; simp [upd, hxy]
  · intro x y hx hy zd
    by_cases hxy : x = a ∧ y = c
    · obtain ⟨rfl, rfl⟩ := hxy
      rw [atKey_put_same h1.isMap (k.isKey hx hy)]; simp [upd]
    · have hne : kl2 P K x y ≠ kl2 P K a c := fun h => hxy (k.kl_inj hx hy ha hc h)
      rw [atKey_put_other hne, h3 x y hx hy]; simp [upd, hxy]
/-- 'len': nothing in it, or something. -/
theorem MapAt.len (h : MapAt P K w b n f) (k : Key2 P K) (ht : P.underlying t = some (.map K e)) (ty : TypeId) : ∃ m : Nat, m ≤ n ∧ (Builtin.len_ #[t] ty #[.map (some b)]).run P w = .ok (.int .i64 m) w ∧ (m = 0 ↔ ∀ a c, InI a → InI c → f a c = none) := by
  obtain ⟨D, h1, h2, h3⟩ := h
  refine ⟨_, h1.size_le, h1.len ht ty, ?_⟩
  obtain ⟨es, clock, hb, F, hs, rfl⟩ := h1
  constructor
  · intro h0 a c ha hc
    have := h2 a c ha hc
    simp only [Maps.size, length_sorted, List.length_map] at h0
    rw [List.length_eq_zero_iff.1 h0] at this
    simp [Maps.has] at this
    exact this.symm ▸ rfl
  · intro h0
    simp only [Maps.size, length_sorted, List.length_map]
    cases hl : es.toList with
    | nil => rfl
    | cons x r =>
      exfalso
      have hx : x ∈ es.toList := by rw [hl]; simp
      obtain ⟨y, hy⟩ := F.reads x hx
      have hk := WideElems.rd_key hy
      obtain ⟨a, c, ha1, ha, hc⟩ := k.inv _ _ hk
      have h4 := h2 a c ha hc
      rw [h0 a c ha hc] at h4
      have h5 : Maps.has (DataW.map ((es.toList.map (WideElems.rg P K R0)).foldr DataW.insert [])) (kl2 P K a c) = true := by
        refine List.any_eq_true.2 ⟨WideElems.rg P K R0 x, mem_sorted.2 (List.mem_map.2 ⟨x, hx, rfl⟩), ?_⟩
        rw [WideElems.rg_of hy]
        rw [ha1, k.kl ha hc] at hk
        rw [← Option.some.inj hk]
        exact WideAt.sameKey_self (k.isKey ha hc)
      rw [h5] at h4
      cases h4
/-- Block r is an iterator over the map in block b; left: which keys are still to come. -/
def IterAt (P : Program) (K : TypeId) (w : World) (b r n : Nat) (f : Int → Int → Option Value) (left : Int → Int → Bool) (cnt : Nat) : Prop := ∃ D lf, w.ranges P K R0 b r n D lf cnt ∧ Reads P K D f ∧ ∀ a c, InI a → InI c → left a c = lf (kl2 P K a c)
variable {r cnt : Nat} {left : Int → Int → Bool}
theorem IterAt.map (h : IterAt P K w b r n f left cnt) : MapAt P K w b n f := by obtain ⟨D, lf, h1, h2, _⟩ := h; exact ⟨D, h1.owns, h2⟩
theorem IterAt.left_eq (h : IterAt P K w b r n f left cnt) : w.rangeLeft b r = cnt := by obtain ⟨D, lf, h1, _⟩ := h; exact h1.left_eq
theorem IterAt.ne (h : IterAt P K w b r n f left cnt) : r ≠ b := by obtain ⟨D, lf, h1, _⟩ := h; exact h1.ne
theorem IterAt.isIter (h : IterAt P K w b r n f left cnt) : ∃ a c d e, w.heap[r]? = some (.mapIter a c d e) := by
  obtain ⟨D, lf, ⟨es, clock, since, seen, c0, h1, h2, h3, h4, h5, h6⟩, h7⟩ := h
  exact ⟨_, _, _, _, h5⟩
theorem IterAt.lt (h : IterAt P K w b r n f left cnt) : r < w.heap.size := by obtain ⟨D, lf, h1, _⟩ := h; exact h1.lt
theorem IterAt.of_heap {w' : World} (h : IterAt P K w b r n f left cnt) (hb : w'.heap[b]? = w.heap[b]?) (hr : w'.heap[r]? = w.heap[r]?) : IterAt P K w' b r n f left cnt := by
  obtain ⟨D, lf, ⟨es, clock, since, seen, c0, g1, F, g2, g3, g4, rest⟩, h2⟩ := h
  exact ⟨D, lf, ⟨es, clock, since, seen, c0, hb.trans g1, F, g2, g3, hr.trans g4, rest⟩, h2⟩
theorem IterAt.below {w' : World} (h : IterAt P K w b r n f left cnt) {m : Nat} (hb : b < m) (hr : r < m) (hB : Below m w w') : IterAt P K w' b r n f left cnt := h.of_heap (hB.block b hb) (hB.block r hr)
theorem IterAt.some_of_left (h : IterAt P K w b r n f left cnt) (k : Key2 P K) {a c : Int} (ha : InI a) (hc : InI c) (hl : left a c = true) : (f a c).isSome = true := by
  obtain ⟨D, lf, h1, h2, h3⟩ := h
  rw [h3 a c ha hc] at hl
  rw [← h2.has a c ha hc]
  obtain ⟨es, clock, since, seen, c0, hb, F, hs, rfl, hr, hold, _, hl1, hl2, _⟩ := h1
  obtain ⟨x, hx, hxk⟩ := hl2 _ hl
  refine List.any_eq_true.2 ⟨WideElems.rg P K R0 x, mem_sorted.2 (List.mem_map.2 ⟨x, hx, rfl⟩), ?_⟩
  rw [hxk]
  exact WideAt.sameKey_self (k.isKey ha hc)
theorem MapAt.range (h : MapAt P K w b n f) (k : Key2 P K) (ht : P.underlying t = some (.map K e)) :
    ∃ w' left cnt, (Instr.range t (.map (some b))).run P w = .ok (.pointer (some ⟨w.heap.size, 0, none⟩)) w' ∧ IterAt P K w' b w.heap.size n f left cnt ∧ (∀ a c, InI a → InI c → left a c = (f a c).isSome) ∧ w.grownBy w' none ∧ w'.heap.size = w.heap.size + 1 ∧ cnt ≤ n := by
  obtain ⟨D, h1, h2⟩ := h
  obtain ⟨w', r1, r2, r3, r4⟩ := h1.range k.law ht
  exact ⟨w', fun a c => Maps.has D (kl2 P K a c), _, r1, ⟨D, _, r2, h2, fun _ _ _ _ => rfl⟩, fun a c ha hc => h2.has a c ha hc, r3, r4, h1.size_le⟩
/-- The step: nothing is left, or a key comes out that was. -/
theorem IterAt.next (h : IterAt P K w b r n f left cnt) (k : Key2 P K) (ty : TypeId) :
    (cnt = 0 ∧ (∀ a c, InI a → InI c → left a c = false) ∧ (Instr.next (.pointer (some ⟨r, 0, none⟩)) false ty).run P w = .ok (.tuple #[.bool false]) w) ∨
    ∃ a c v w' cnt', InI a ∧ InI c ∧ left a c = true ∧ f a c = some v ∧ (Instr.next (.pointer (some ⟨r, 0, none⟩)) false ty).run P w = .ok (.tuple #[.bool true, key2 a c, v]) w' ∧
      IterAt P K w' b r n f (fun x y => left x y && !(decide (x = a) && decide (y = c))) cnt' ∧ cnt' < cnt ∧ w.grownBy w' (some r) ∧ w'.heap.size = w.heap.size ∧ (Instr.entry (.pointer (some ⟨r, 0, none⟩))).run P w' = .ok (.tuple #[key2 a c, v]) w' := by
  have h0 := h
  obtain ⟨D, lf, h1, h2, h3⟩ := h
  rcases h1.next k.law ty with ⟨e0, e1, e2⟩ | ⟨key, v, l, y, w', cnt', hkey, hl, hv, hat, hrun, hrg, hlt, hgr, hsz, hen⟩
  · exact .inl ⟨e0, fun a c ha hc => by rw [h3 a c ha hc]; exact e1 _, e2⟩
  · obtain ⟨a, c, rfl, ha, hc⟩ := k.inv _ _ hkey
    have hlk : l = kl2 P K a c := by rw [k.kl ha hc] at hkey; exact (Option.some.inj hkey).symm
    subst hlk
    have hla : left a c = true := by rw [h3 a c ha hc]; exact hl
    obtain ⟨u, hu⟩ := Option.isSome_iff_exists.1 (h0.some_of_left k ha hc hla)
    have huv : u = v := by
      have := hat (.held u)
      rw [h2.at_ a c ha hc, hu] at this
      simp [R0] at hv
      rw [← hv] at this
      simpa using this
    subst huv
    refine .inr ⟨a, c, u, w', cnt', ha, hc, hla, hu, hrun, ⟨D, _, hrg, h2, fun x z hx hz => ?_⟩, hlt, hgr, hsz, hen⟩
    show (left x z && _) = (lf _ && _)
    rw [h3 x z hx hz]
    congr 1
    by_cases hxy : x = a ∧ z = c
    · obtain ⟨rfl, rfl⟩ := hxy
      rw [WideAt.sameKey_self (k.isKey hx hz)]; simp
    · have : (kl2 P K x z).sameKey (kl2 P K a c) = false := by
        cases hs : (kl2 P K x z).sameKey (kl2 P K a c)
        · rfl
        · exact absurd (k.kl_inj hx hz ha hc (WideAt.sameKey_eq hs)) hxy
      rw [this]
      simp
      omega
/-- A map is a set of pairs: each of these is a key, with the element true. -/
def setF (l : List (Int × Int)) : Int → Int → Option Value := fun a c => if (a, c) ∈ l then some (.bool true) else none
theorem setF_upd (l : List (Int × Int)) (a c : Int) : upd (setF l) a c (.bool true) = setF ((a, c) :: l) := by
  funext x y
  unfold upd setF
  by_cases h : x = a ∧ y = c
  · obtain ⟨rfl, rfl⟩ := h; simp
  · rw [if_neg h]
    have : ¬ ((x, y) : Int × Int) = (a, c) := fun e => h (by simpa using e)
    simp [this]
theorem setF_congr {l l' : List (Int × Int)} (h : ∀ p, p ∈ l ↔ p ∈ l') : setF l = setF l' := by
  funext x y; unfold setF; simp [h]
theorem setF_nil : setF [] = fun _ _ => none := by funext x y; simp [setF]
theorem setF_isSome (l : List (Int × Int)) (a c : Int) : (setF l a c).isSome = decide ((a, c) ∈ l) := by unfold setF; split <;> simp [*]
theorem setF_getD (l : List (Int × Int)) (a c : Int) : (setF l a c).getD (.bool false) = .bool (decide ((a, c) ∈ l)) := by unfold setF; split <;> simp [*]
theorem setF_some {l : List (Int × Int)} {a c : Int} {v : Value} (h : setF l a c = some v) : (a, c) ∈ l ∧ v = .bool true := by
  unfold setF at h; split at h
  · exact ⟨by assumption, by simpa using h.symm⟩
  · cases h
end
end Go.Proofs.YtcaeohgbgeadaaaGreatDoor

