/- A region that draws its order INSIDE A ROUND (none of its operations is a defer statement), all of whose operations are quiet among the worlds that have grown beyond the one in which it begins. -/
/- The laws of Fl and Fn inside a fence: in an iterator, in a round. -/
/- A drawn region inside a round: its first operations quiet (among worlds that have grown), the last ones in one order behind them. -/
import Derived.Test.YtpiadbdkiibdbaaQExt
import Derived.Sort.BigQuietIn
import Derived.Test.YtpiadbdkiibdbaaQFl
set_option linter.unusedSimpArgs false
set_option linter.unusedVariables false
namespace Go.Proofs.Ytpiadbdkiibdbaa
open Go Go.RowKit

section
variable {F : Fence} {n : Nat} {P : Program} {ops : Array Oper} {md : Region.Mode} {C : World → Prop}

def noDefer (ops : List Oper) : Bool := ops.all fun o => match o.op with | .defer _ => false | _ => true
def NoDefer (ops : Array Oper) : Prop := ∀ (i : Nat) (o : Oper), ops[i]? = some o → ∀ c, o.op ≠ .defer c
theorem noDefer_spec {l : List Oper} (h : noDefer l = true) : NoDefer l.toArray := by
  intro i o hi c hc
  have hm : o ∈ l := by
    have : l[i]? = some o := by simpa using hi
    exact List.mem_of_getElem? this
  have := List.all_eq_true.1 h o hm
  rw [hc] at this
  cases this

theorem wpIn_of_quiet_r {o : Oper} {a : Act} {K : Act → Prop} {K' : Act → World → Prop} {Q' : Exit → Act → World → Prop} {w : World} (hd0 : ∀ c, o.op ≠ .defer c) (hw : C w) (h : ∀ a w', C w' → K a → K' a w')
    (ha : o.askedIn F P a C) (hh : o.quietIn F n P a C K) : o.wpIn F n P a w K' Q' := by
  obtain ⟨v, h1, h2⟩ := hh
  have h3 := h1 w hw
  unfold Oper.quietAtIn at h3
  unfold Oper.wpIn
  refine ⟨ha w hw, ?_⟩
  rw [Oper.semAt_plain F _ _ hd0]
  generalize (execOp a.eval o).run P w = r at *
  cases r with
  | ok x w' =>
    cases x <;> simp only [Oper.quietUponIn] at h3 <;> simp only [Oper.uponIn]
    case value u =>
      obtain ⟨e1, e2⟩ := h3
      rw [e1, e2]
      exact h _ _ hw h2
    case skip =>
      obtain ⟨e1, e2⟩ := h3
      rw [e1, ← e2]
      exact h _ _ hw h2
    case enter f args =>
      obtain ⟨e1, hd, hc⟩ := h3
      rw [e1]
      exact ⟨hd, hc.mono fun e w'' ⟨he, hw''⟩ => by subst he; exact h _ _ hw'' h2⟩
  | halt x w' => simp only [Oper.quietUponIn] at h3

theorem wpOpIn_of_qOpIn_r {i : Nat} {a : Act} {K : Act → Prop} {K' : Act → World → Prop} {Q' : Exit → Act → World → Prop} {w : World} (hnd : NoDefer ops) (hC : C w) (h : ∀ a w', C w' → K a → K' a w')
    (hh : qOpIn F n P ops C i K a) : wpOpIn F n P ops Q' i K' a w := by
  unfold qOpIn at hh
  unfold wpOpIn
  split
  · rename_i ho; simp only [ho] at hh; exact h _ _ hC hh
  · rename_i o ho
    simp only [ho] at hh
    obtain ⟨ha, hh⟩ := hh
    split
    · rename_i hw; simp only [hw, if_true] at hh; exact wpIn_of_quiet_r (hnd i o ho) hC h ha hh
    · rename_i hw; simp only [hw] at hh; exact ⟨ha w hC, h _ _ hC hh⟩

theorem wpAnyIn_of_quiet_r {Q : Act → Prop} {Q' : Exit → Act → World → Prop} (hnd : NoDefer ops) (hQ : ∀ a w, C w → Q a → Q' .normal a w) : ∀ (fuel : Nat) (listed : Array Bool) (a : Act) (w : World), C w →
    wpAnyQIn F n P md ops C Q fuel listed a → wpAnyIn F n P md ops Q' fuel listed a w
  | 0, _, _, _, hw, h => ⟨h.1, hQ _ _ hw h.2⟩
  | fuel + 1, _, _, _, hw, h => ⟨fun h0 => hQ _ _ hw (h.1 h0), fun i hi => wpOpIn_of_qOpIn_r hnd hw (fun a' w' hw' => wpAnyIn_of_quiet_r hnd hQ fuel _ a' w' hw') (h.2 i hi)⟩

theorem wpIn_region_quiet_r {id : Nat} {Q : Exit → Act → World → Prop} {a : Act} {w : World} (hnd : NoDefer ops) (hm : P.follows .mixedOrders = true) (hB : Region.lexB .any ops = true) (hC : C { w with drawn := w.drawn + 1 })
    (h : wpQuietIn F n P ops C (fun a' => ∀ w', C w' → Q .normal a' w') ops.toList a) : (Code.region id ops true).wpIn F n P Q a w := by
  simp only [Region.lexB, Bool.and_eq_true] at hB
  refine wpIn_region_any hm (wpAnyIn_of_quiet_r (Q := fun a' => ∀ w', C w' → Q .normal a' w') hnd (fun _ w' hw' h => h w' hw') _ _ _ _ hC ?_)
  have := wpAnyQIn_lex (F := F) (n := n) (C := C) (md := .any) hB.1 ops.toList 0 (Array.replicate ops.size false) a (by simp) (by simpa using hB.2) h
  simpa using this

end

/-- The region's operations written out, at the class of the worlds grown beyond this one. -/
theorem wpIn_region_ext {F : Fence} {n : Nat} {P : Program} {id : Nat} {Q : Exit → Act → World → Prop} {a : Act} {w : World} {l : List Oper} (hnd : noDefer l = true) (hm : P.follows .mixedOrders = true) (hB : Region.lexB .any l.toArray = true)
    (h : wpQuietIn F n P l.toArray (fun w' => ∃ x, w' = ext w x) (fun a' => ∀ w', (∃ x, w' = ext w x) → Q .normal a' w') l a) : (Code.region id l.toArray true).wpIn F n P Q a w :=
  wpIn_region_quiet_r (C := fun w' => ∃ x, w' = ext w x) (noDefer_spec hnd) hm hB (ext_of (Below.drew (Below.refl _ _))) (by simpa using h)
end Go.Proofs.Ytpiadbdkiibdbaa

namespace Go.Proofs.Ytpiadbdkiibdbaa
open Go Go.RowKit

/-- A fence that lets every function by, at any depth. -/
def Free (F : Fence) : Prop := F = Fence.wide ∨ ∃ l, F = Fence.wide.inRound l
theorem free_wide : Free Fence.wide := .inl rfl
theorem free_round (l : Nat) : Free (Fence.wide.inRound l) := .inr ⟨l, rfl⟩
theorem Free.fn {F : Fence} (h : Free F) (f : FuncId) : F.fn f := by
  rcases h with rfl | ⟨l, rfl⟩ <;> trivial
theorem Free.depth {F : Fence} (h : Free F) : F.depth = none := by
  rcases h with rfl | ⟨l, rfl⟩ <;> rfl
theorem Free.calls {F : Fence} (h : Free F) {n : Nat} {P : Program} {f : FuncId} {args : Array Value} {w : World} {R : Ending → World → Prop} (hc : Calls P f args w R) : CallsIn F n P f args w R := by
  rcases h with rfl | ⟨l, rfl⟩
  · exact callsIn_wide.2 hc
  · exact (callsIn_wide.2 hc : CallsIn Fence.wide n P f args w R)
theorem Free.rows {F : Fence} (h : Free F) {n : Nat} {P : Program} {f : String} {args : Array Value} {w : World} {R : Value → World → Prop} (hc : Rows P f args w R) : RowsIn F n P f args w R := by
  have h1 : RowsIn Fence.wide n P f args w R := fun c cs _ => let ⟨v, w', r, s⟩ := hc c cs; ⟨v, w', r, stepsIn_wide.2 s⟩
  rcases h with rfl | ⟨l, rfl⟩
  · exact h1
  · exact h1
section
variable {F : Fence} {m : Nat} {P : Program} {ops : Array Oper} {md : Region.Mode}
theorem wpAnyIn_of_seq {Q' : Exit → Act → World → Prop} : ∀ (l : List Oper) (k : Nat) (listed : Array Bool) (a : Act) (w : World), (∀ j, l[j]? = ops[k + j]?) →
    Region.seqB md ops l.length k listed = true → wpListIn F m P ops Q' l a w → wpAnyIn F m P md ops Q' l.length listed a w
  | [], _, _, _, _, _, hB, h => ⟨by simpa [Region.seqB] using hB, h⟩
  | o :: l, k, listed, a, w, hl, hB, h => by
    have h0 : ops[k]? = some o := by simpa using (hl 0).symm
    simp only [List.length_cons, Region.seqB, Bool.and_eq_true, decide_eq_true_eq] at hB
    refine ⟨fun h1 => (by rw [hB.1] at h1; cases h1), fun i hi => ?_⟩
    rw [hB.1] at hi
    have hik : i = k := by simpa using hi
    subst hik
    have hw : wpOpIn F m P ops Q' i (wpListIn F m P ops Q' l) a w := by unfold wpOpIn; simp only [h0]; exact h
    exact wpOpIn_mono (fun a' w' h' => wpAnyIn_of_seq l (i + 1) _ a' w' (fun j => by have := hl (j + 1); simpa [Nat.add_assoc, Nat.add_comm 1 j] using this) hB.2 h') hw
theorem wpOpIn_of_wpOp {Q : Exit → Act → World → Prop} {i : Nat} {K : Act → World → Prop} {a : Act} {w : World} (hF : Free F) (hnd : NoDefer ops) (h : wpOp P ops (fun _ _ _ => False) i K a w) : wpOpIn F m P ops Q i K a w := by
  unfold wpOp at h
  unfold wpOpIn
  cases ho : ops[i]? with
  | none => simp only [ho] at h; exact h
  | some o =>
    simp only [ho] at h
    show if _ then _ else _
    split at h
    · rename_i hw
      rw [if_pos hw]
      rcases h with h | ⟨-, -, -, h⟩
      · refine ⟨fun f _ => hF.fn f, ?_⟩
        rw [Oper.semAt_plain F _ _ (hnd i o ho)]
        unfold Oper.wp at h
        generalize (execOp a.eval o).run P w = r at *
        cases r with
        | ok x w' =>
          cases x <;> simp only [Oper.upon] at h <;> simp only [Oper.uponIn]
          case value v => exact h
          case skip => exact h
          case defer d => exact h
          case enter f args =>
            refine ⟨fun h1 => (by rw [hF.depth] at h1; cases h1), (hF.calls h).mono fun e w'' he => ?_⟩
            cases e with
            | returned v => exact he
            | panicked c => exact he.elim
            | outgrown => obtain ⟨_, _, h3⟩ := he; exact h3.elim
          case row f args => exact ⟨fun h1 => (by rw [hF.depth] at h1; cases h1), hF.rows h⟩
        | halt x w' => cases x <;> simp only [Oper.upon] at h
      · exact h.elim
    · rename_i hw
      rw [if_neg hw]
      exact ⟨fun f _ => hF.fn f, h⟩
theorem wpAnyIn_of_flow {n N : Nat} {a0 : Act} {w0 : World} {R : Nat → Value → World → Prop} {Q : Exit → Act → World → Prop} {tl : List Oper}
    (hF : Free F) (hnd : NoDefer ops) (hB : flowB md ops n N = true) (htl : ∀ j, tl[j]? = ops[n + j]?) (htn : tl.length = ops.size - n)
    (hR : ∀ i, i < n → ∀ v w w', R i v w → Below w.heap.size w w' → R i v w')
    (hstep : ∀ i, i < n → ∀ (a : Act) (w : World), a.tmps.size = N → a.defers = a0.defers → (∀ s, freeB ops n s = true → a.tmps.getD s undef = a0.tmps.getD s undef) →
      (∀ j, Region.waitsFor md ops i j = true → R j (a.tmps.getD (dstOf ops j) undef) w) → Below w0.heap.size w0 w →
      ∀ K : Act → World → Prop, (∀ v w', R i v w' → Below w.heap.size w w' → K (a.put (some (dstOf ops i)) v) w') → wpOp P ops (fun _ _ _ => False) i K a w)
    (htail : ∀ (a : Act) (w : World), a.tmps.size = N → a.defers = a0.defers → (∀ s, freeB ops n s = true → a.tmps.getD s undef = a0.tmps.getD s undef) →
      (∀ i, i < n → R i (a.tmps.getD (dstOf ops i) undef) w) → Below w0.heap.size w0 w → wpListIn F m P ops Q tl a w) :
    ∀ (k : Nat) (listed : Array Bool) (a : Act) (w : World), ((List.range n).filter fun i => !listed.getD i false).length = k → FlowInv md ops n N a0 w0 R listed a w → wpAnyIn F m P md ops Q (k + (ops.size - n)) listed a w := by
  simp only [flowB, Bool.and_eq_true, decide_eq_true_eq] at hB
  obtain ⟨⟨⟨⟨⟨hn, hs⟩, hc⟩, hlow⟩, hdst⟩, hseq⟩ := hB
  have hd : ∀ i, i < n → ∃ o, ops[i]? = some o ∧ o.dst = some (dstOf ops i) ∧ dstOf ops i < N ∧ ∀ j, j < n → i ≠ j → dstOf ops j ≠ dstOf ops i := by
    intro i hi
    have h1 := List.all_eq_true.1 hdst i (List.mem_range.2 hi)
    have hio : i < ops.size := by omega
    have ho : ops[i]? = some ops[i] := Array.getElem?_eq_getElem hio
    cases hd : ops[i].dst with
    | none => simp [ho, hd] at h1
    | some d =>
      have e : dstOf ops i = d := by simp [dstOf, ho, hd]
      simp only [ho, Option.bind_some, hd, Bool.and_eq_true, decide_eq_true_eq] at h1
      refine ⟨ops[i], ho, by rw [hd, e], by rw [e]; exact h1.1, fun j hj hij => ?_⟩
      have h2 := List.all_eq_true.1 h1.2 j (List.mem_range.2 hj)
      simp only [Bool.or_eq_true, beq_iff_eq, bne_iff_ne] at h2
      rcases h2 with h2 | h2
      · exact absurd h2 hij
      · rw [e]; exact h2
  intro k
  induction k with
  | zero =>
    intro listed a w hk inv
    have hall : ∀ i, i < n → listed.getD i false = true := by
      intro i hi
      have h0 := List.length_eq_zero_iff.1 hk
      have h1 := List.filter_eq_nil_iff.1 h0 i (List.mem_range.2 hi)
      simpa using h1
    have hf := listed_full inv.head.size (by omega) hall inv.head.tail
    rw [Nat.zero_add, ← htn]
    refine wpAnyIn_of_seq (md := md) (Q' := Q) tl n listed a w htl ?_ (htail a w inv.size inv.dfr inv.old (fun i hi => inv.rel i hi (hall i hi)) inv.bel)
    rw [htn, hf]
    exact hseq
  | succ k ih =>
    intro listed a w hk inv
    have hex : ∃ i, i < n ∧ listed.getD i false = false := by
      refine Classical.byContradiction fun h => ?_
      have : ((List.range n).filter fun i => !listed.getD i false) = [] := by
        rw [List.filter_eq_nil_iff]
        intro i hi hb
        exact h ⟨i, List.mem_range.1 hi, by simpa using hb⟩
      rw [this] at hk
      simp at hk
    rw [show k + 1 + (ops.size - n) = (k + (ops.size - n)) + 1 by omega]
    have hin : ∀ i, i < n → listed.getD i false = false → listed.getD i true = false := fun i hi h => getD_in (by rw [inv.head.size]; omega) h
    refine ⟨fun h0 => ?_, fun i hi => ?_⟩
    · exfalso
      obtain ⟨i, hi, hl⟩ := hex
      -- the least that is not listed is ready
      have key : ∀ m, m ≤ n → (∀ j, j < m → listed.getD j false = true) ∨ ∃ j, j < m ∧ listed.getD j false = false ∧ ∀ j', j' < j → listed.getD j' false = true := by
        intro m
        induction m with
        | zero => intro _; exact .inl (fun j hj => by omega)
        | succ m ihm =>
          intro hm
          rcases ihm (by omega) with h | ⟨j, hj, hj2⟩
          · cases hlm : listed.getD m false with
            | true => exact .inl (fun j hj => by rcases Nat.lt_succ_iff_lt_or_eq.1 hj with h' | rfl; exact h j h'; exact hlm)
            | false => exact .inr ⟨m, by omega, hlm, h⟩
          · exact .inr ⟨j, by omega, hj2⟩
      rcases key n (Nat.le_refl _) with h | ⟨j, hj, hj1, hj2⟩
      · rw [h i hi] at hl; cases hl
      · have hjo : j < ops.size := by omega
        have hr : j ∈ Region.ready md ops listed := by
          refine mem_ready.2 ⟨hin j hj hj1, ops[j], Array.getElem?_eq_getElem hjo, fun e he hb => ?_⟩
          have h1 := List.all_eq_true.1 hlow j (List.mem_range.2 hj)
          simp only [Array.getElem?_eq_getElem hjo, Option.map_some, Option.getD_some, Array.all_eq_true_iff_forall_mem, Bool.or_eq_true, Bool.not_eq_true', decide_eq_true_eq] at h1
          rcases h1 e he with h2 | h2
          · rw [hb] at h2; cases h2
          · exact hj2 e.on h2
        rw [h0] at hr
        cases hr
    · have hin2 : i < n := by
        rcases Nat.lt_or_ge i n with h | h
        · exact h
        · obtain ⟨j, hj, hl⟩ := hex
          exact absurd hi (tail_waits hs hc hn inv.head _ j rfl hj (hin j hj hl) i h)
      obtain ⟨o, ho, hod, hdN, hne⟩ := hd i hin2
      obtain ⟨hun, oi, hoi, hall⟩ := mem_ready.1 hi
      have : oi = o := Option.some.inj (hoi.symm.trans ho)
      subst this
      refine wpOpIn_of_wpOp hF hnd (hstep i hin2 a w inv.size inv.dfr inv.old (fun j hj => ?_) inv.bel _ (fun v w' hv hb => ?_))
      · obtain ⟨oj, hoj, e, he, hbd, hon⟩ := Region.waitsFor_spec hj
        have : oj = oi := Option.some.inj (hoj.symm.trans hoi)
        subst this
        have hl := hall e he hbd
        rw [hon] at hl
        have hjn : j < n := by
          have h1 := List.all_eq_true.1 hlow i (List.mem_range.2 hin2)
          simp only [ho, Option.map_some, Option.getD_some, Array.all_eq_true_iff_forall_mem, Bool.or_eq_true, Bool.not_eq_true', decide_eq_true_eq] at h1
          rcases h1 e he with h2 | h2
          · rw [hbd] at h2; cases h2
          · omega
        exact inv.rel j hjn hl
      · refine ih _ _ _ ?_ ⟨inv.head.set hi hin2, by simp [Act.put, inv.size], by simpa [Act.put] using inv.dfr, fun s hs' => ?_, fun j hj hl => ?_, inv.bel.trans (hb.mono inv.bel.size)⟩
        · -- one fewer
          have hlt : i < listed.size := by rw [inv.head.size]; omega
          have e : ∀ j, (listed.setIfInBounds i true).getD j false = (j == i || listed.getD j false) := by
            intro j
            by_cases hji : i = j
            · subst hji; simp [hlt]
            · rw [getD_set_ne false hji]; simp [Ne.symm hji]
          have hcount : ∀ (l : List Nat), l.Nodup → i ∈ l → (l.filter fun j => !listed.getD j false).length = (l.filter fun j => !(listed.setIfInBounds i true).getD j false).length + 1 := by
            intro l
            induction l with
            | nil => intro _ h; cases h
            | cons x l ihl =>
              intro hnd hm
              have hx := (List.nodup_cons.1 hnd)
              by_cases hxi : x = i
              · subst hxi
                have hl0 : listed.getD x false = false := getD_both hun
                have hrest : (l.filter fun j => !listed.getD j false) = l.filter fun j => !(listed.setIfInBounds x true).getD j false := by
                  apply List.filter_congr
                  intro j hj
                  have hjx : j ≠ x := fun h => hx.1 (h ▸ hj)
                  rw [e j]
                  simp [hjx]
                rw [List.filter_cons_of_pos (by simp only [hl0]; rfl), List.filter_cons_of_neg (by rw [e x]; simp), ← hrest]
                rfl
              · have hm' : i ∈ l := by rcases List.mem_cons.1 hm with h | h; exact absurd h.symm hxi; exact h
                have := ihl hx.2 hm'
                have ex : (listed.setIfInBounds i true).getD x false = listed.getD x false := by rw [e x]; simp [hxi]
                cases hlx : listed.getD x false with
                | true => rw [List.filter_cons_of_neg (by rw [hlx]; simp), List.filter_cons_of_neg (by rw [ex, hlx]; simp)]; exact this
                | false => rw [List.filter_cons_of_pos (by rw [hlx]; rfl), List.filter_cons_of_pos (by rw [ex, hlx]; rfl)]; simp only [List.length_cons]; omega
          have := hcount (List.range n) List.nodup_range (List.mem_range.2 hin2)
          omega
        · have hsi : dstOf ops i ≠ s := freeB_iff.1 hs' i hin2
          rw [← inv.old s hs']
          simp [Act.put, Array.getElem?_setIfInBounds_ne hsi]
        · by_cases hij : i = j
          · subst hij
            have : (a.put (some (dstOf ops i)) v).tmps.getD (dstOf ops i) undef = v := by
              have : dstOf ops i < a.tmps.size := by rw [inv.size]; exact hdN
              simp [Act.put, this]
            rw [this]
            exact hv
          · rw [getD_set_ne false hij] at hl
            have hdj := hne j hj hij
            have : (a.put (some (dstOf ops i)) v).tmps.getD (dstOf ops j) undef = a.tmps.getD (dstOf ops j) undef := by
              simp [Act.put, Array.getElem?_setIfInBounds_ne (Ne.symm hdj)]
            rw [this]
            exact hR _ hj _ _ _ (inv.rel j hj hl) hb
end
theorem wpIn_region_flow {F : Fence} {m : Nat} {P : Program} {id : Nat} {Q : Exit → Act → World → Prop} {a0 : Act} {w0 : World} {l : List Oper} (n N : Nat) (R : Nat → Value → World → Prop) (hF : Free F) (hnd : noDefer l = true) (hm : P.follows .mixedOrders = true) (hB : flowB .any l.toArray n N = true) (hN : a0.tmps.size = N)
    (hR : ∀ i, i < n → ∀ v w w', R i v w → Below w.heap.size w w' → R i v w')
    (hstep : ∀ i, i < n → ∀ (a : Act) (w : World), a.tmps.size = N → a.defers = a0.defers → (∀ s, freeB l.toArray n s = true → a.tmps.getD s undef = a0.tmps.getD s undef) →
      (∀ j, Region.waitsFor .any l.toArray i j = true → R j (a.tmps.getD (dstOf l.toArray j) undef) w) → Below w0.heap.size w0 w →
      ∀ K : Act → World → Prop, (∀ v w', R i v w' → Below w.heap.size w w' → K (a.put (some (dstOf l.toArray i)) v) w') → wpOp P l.toArray (fun _ _ _ => False) i K a w)
    (htail : ∀ (a : Act) (w : World), a.tmps.size = N → a.defers = a0.defers → (∀ s, freeB l.toArray n s = true → a.tmps.getD s undef = a0.tmps.getD s undef) →
      (∀ i, i < n → R i (a.tmps.getD (dstOf l.toArray i) undef) w) → Below w0.heap.size w0 w → wpListIn F m P l.toArray Q (l.drop n) a w) :
    (Code.region id l.toArray true).wpIn F m P Q a0 w0 := by
  have hn : n < l.length := by
    simp only [flowB, Bool.and_eq_true, decide_eq_true_eq] at hB
    simpa using hB.1.1.1.1.1
  refine wpIn_region_any hm ?_
  have h0 : ((List.range n).filter fun i => !(Array.replicate l.toArray.size false).getD i false).length = n := by
    rw [List.filter_eq_self.2 (fun i _ => by rw [getD_replicate_false]; rfl)]
    simp
  have := wpAnyIn_of_flow (F := F) (m := m) (P := P) (ops := l.toArray) (md := .any) (n := n) (N := N) (a0 := a0) (w0 := w0) (R := R) (Q := Q) (tl := l.drop n) hF (noDefer_spec hnd) hB (fun j => by simp [List.getElem?_drop]) (by simp) hR hstep htail n
    (Array.replicate l.toArray.size false) a0 { w0 with drawn := w0.drawn + 1 } h0
    ⟨⟨by simp, fun j oj _ hl => (by rw [getD_replicate_false] at hl; cases hl), fun t _ ht => getD_in (by simpa using ht) (getD_replicate_false _ _)⟩, hN, rfl, fun _ _ => rfl, fun i _ hl => (by rw [getD_replicate_false] at hl; cases hl), Below.drew (Below.refl _ _)⟩
  have e : n + (l.toArray.size - n) = l.toArray.size := by simp; omega
  rw [e] at this
  exact this
/-- The law, with the frame brought back. -/
theorem wpIn_region_flow_back {F : Fence} {m : Nat} {P : Program} {id : Nat} {Q : Exit → Act → World → Prop} {a0 : Act} {w0 : World} {l : List Oper} (n N : Nat) (R : Nat → Value → World → Prop) (hF : Free F) (hnd : noDefer l = true) (hm : P.follows .mixedOrders = true) (hB : flowB .any l.toArray n N = true) (hN : a0.tmps.size = N)
    (hR : ∀ i, i < n → ∀ v w w', R i v w → Below w.heap.size w w' → R i v w')
    (hstep : ∀ i, i < n → ∀ (a : Act) (w : World), a.tmps.size = N → a.defers = a0.defers → (∀ s, freeB l.toArray n s = true → a.tmps.getD s undef = a0.tmps.getD s undef) →
      (∀ j, Region.waitsFor .any l.toArray i j = true → R j (a.tmps.getD (dstOf l.toArray j) undef) w) → Below w0.heap.size w0 w →
      ∀ K : Act → World → Prop, (∀ v w', R i v w' → Below w.heap.size w w' → K (a.put (some (dstOf l.toArray i)) v) w') → wpOp P l.toArray (fun _ _ _ => False) i K a w)
    (htail : ∀ (vs : Nat → Value) (w : World), (∀ i, i < n → R i (vs i) w) → Below w0.heap.size w0 w → wpListIn F m P l.toArray Q (l.drop n) (putAll l.toArray a0 vs n) w) :
    (Code.region id l.toArray true).wpIn F m P Q a0 w0 := by
  refine wpIn_region_flow n N R hF hnd hm hB hN hR hstep ?_
  intro a w h1 h2 h3 h4 h5
  simp only [flowB, Bool.and_eq_true, decide_eq_true_eq] at hB
  obtain ⟨⟨-, hdst⟩, -⟩ := hB
  have hd : ∀ i, i < n → dstOf l.toArray i < N ∧ ∀ j, j < n → i ≠ j → dstOf l.toArray j ≠ dstOf l.toArray i := by
    intro i hi
    have h6 := List.all_eq_true.1 hdst i (List.mem_range.2 hi)
    split at h6
    · rename_i d hdd
      have e : dstOf l.toArray i = d := by unfold dstOf; rw [hdd]; rfl
      simp only [Bool.and_eq_true, decide_eq_true_eq] at h6
      refine ⟨by rw [e]; exact h6.1, fun j hj hij => ?_⟩
      have h7 := List.all_eq_true.1 h6.2 j (List.mem_range.2 hj)
      simp only [Bool.or_eq_true, beq_iff_eq, bne_iff_ne] at h7
      rw [e]
      rcases h7 with h7 | h7
      · exact absurd h7 hij
      · exact h7
    · cases h6
  obtain ⟨g1, g2⟩ := putAll_get (ops := l.toArray) (a0 := a0) (vs := fun i => a.tmps.getD (dstOf l.toArray i) undef) n (fun i j hi hj hij => Ne.symm ((hd i hi).2 j hj hij)) (fun i hi => by rw [hN]; exact (hd i hi).1)
  have e : putAll l.toArray a0 (fun i => a.tmps.getD (dstOf l.toArray i) undef) n = a := by
    have hs := putAll_size (ops := l.toArray) (a0 := a0) (vs := fun i => a.tmps.getD (dstOf l.toArray i) undef) n
    have hdf := putAll_dfr (ops := l.toArray) (a0 := a0) (vs := fun i => a.tmps.getD (dstOf l.toArray i) undef) n
    have ht : (putAll l.toArray a0 (fun i => a.tmps.getD (dstOf l.toArray i) undef) n).tmps = a.tmps := by
      refine Array.ext (by rw [hs, hN, h1]) (fun s hs1 hs2 => ?_)
      have key : (putAll l.toArray a0 (fun i => a.tmps.getD (dstOf l.toArray i) undef) n).tmps.getD s undef = a.tmps.getD s undef := by
        by_cases hx : freeB l.toArray n s = true
        · rw [g2 s (freeB_iff.1 hx), h3 s hx]
        · have : ∃ i, i < n ∧ dstOf l.toArray i = s := by
            refine Classical.byContradiction fun hc => hx (freeB_iff.2 (fun i hi he => hc ⟨i, hi, he⟩))
          obtain ⟨i, hi, rfl⟩ := this
          exact g1 i hi
      have gd : ∀ (x : Array Value) (s : Nat) (h : s < x.size), x.getD s undef = x[s] := fun x s h => by simp [Array.getD, h]
      rw [gd _ _ hs1, gd _ _ hs2] at key
      exact key
    cases a
    generalize putAll l.toArray a0 _ n = b at *
    cases b
    simp only at ht hdf h2
    rw [ht, hdf, h2]
  have := htail _ w h4 h5
  rw [e] at this
  exact this
end Go.Proofs.Ytpiadbdkiibdbaa

namespace Go.Proofs.Ytpiadbdkiibdbaa
open Go Go.RowKit
section
variable {F : Fence} {m : Nat} {P : Program} {ops : Array Oper} {md : Region.Mode} {C : World → Prop}
theorem wpAnyIn_of_headQ {n g : Nat} {L : Array Bool → Act → Prop} {Q : Exit → Act → World → Prop} (hF : Free F) (hnd : NoDefer ops) (hL : ∀ listed a w, C w → L listed a → wpAnyIn F m P md ops Q g listed a w) :
    ∀ (f : Nat) (listed : Array Bool) (a : Act) (w : World), C w → headQ P md ops C n L f listed a → wpAnyIn F m P md ops Q (f + g) listed a w
  | 0, listed, a, w, hw, h => by rw [Nat.zero_add]; exact hL _ _ _ hw h
  | f + 1, listed, a, w, hw, h => by
    rw [show f + 1 + g = (f + g) + 1 by omega]
    exact ⟨fun h0 => absurd h0 h.1, fun i hi => wpOpIn_of_wpOp hF hnd (wpOp_of_qOp hw (fun a' w' hw' h' => wpAnyIn_of_headQ hF hnd hL f _ a' w' hw' h') (h.2 i hi).2)⟩
theorem wpIn_region_quiet_tail {id : Nat} {Q : Exit → Act → World → Prop} {a : Act} {w : World} {l : List Oper} (n : Nat) (hF : Free F) (hnd : noDefer l = true) (hm : P.follows .mixedOrders = true) (hB : Region.lexTailB .any l.toArray n = true) (hC : C { w with drawn := w.drawn + 1 })
    (h : wpQuiet P l.toArray C (fun a' => ∀ w', C w' → wpListIn F m P l.toArray Q (l.drop n) a' w') (l.take n) a) : (Code.region id l.toArray true).wpIn F m P Q a w := by
  simp only [Region.lexTailB, Bool.and_eq_true, decide_eq_true_eq] at hB
  obtain ⟨⟨⟨⟨hsel, hn⟩, hs⟩, hc⟩, hlex⟩ := hB
  have hn' : n < l.length := by simpa using hn
  have htl : (l.take n).length = n := by simp; omega
  have hdl : (l.drop n).length = l.toArray.size - n := by simp
  have inv0 : HeadInv .any l.toArray n (Array.replicate l.toArray.size false) :=
    ⟨by simp, fun j oj _ hl => (by rw [getD_replicate_false] at hl; cases hl), fun t _ ht => getD_in (by simpa using ht) (getD_replicate_false _ _)⟩
  have H := headQ_lex (md := .any) (g := l.toArray.size - n) hsel hs hc hn (l.take n) 0 _ a (fun j hj => by
    have hj' : j < n := by rw [htl] at hj; exact hj
    simp [hj']) (by simpa using htl) inv0 (by rw [htl]; exact hlex) h
  refine wpIn_region_any hm ?_
  have := wpAnyIn_of_headQ (m := m) (Q := Q) (g := l.toArray.size - n) hF (noDefer_spec hnd) (fun listed a' w' hw' hL => by
    have := wpAnyIn_of_seq (F := F) (m := m) (md := .any) (Q' := Q) (l.drop n) n listed a' w' (fun j => by simp [List.getElem?_drop]) (by rw [hdl]; exact hL.1) (hL.2 w' hw')
    rwa [hdl] at this) _ _ _ _ hC H
  rw [htl, show n + (l.toArray.size - n) = l.toArray.size by omega] at this
  exact this
end
theorem wpIn_region_ext_tail {F : Fence} {m : Nat} {P : Program} {id : Nat} {Q : Exit → Act → World → Prop} {a : Act} {w : World} {l : List Oper} (n : Nat) (hF : Free F) (hnd : noDefer l = true) (hm : P.follows .mixedOrders = true) (hB : Region.lexTailB .any l.toArray n = true)
    (h : wpQuiet P l.toArray (fun w' => ∃ x, w' = ext w x) (fun a' => ∀ w', (∃ x, w' = ext w x) → wpListIn F m P l.toArray Q (l.drop n) a' w') (l.take n) a) : (Code.region id l.toArray true).wpIn F m P Q a w :=
  wpIn_region_quiet_tail (C := fun w' => ∃ x, w' = ext w x) n hF hnd hm hB (ext_of (Below.drew (Below.refl _ _))) h
end Go.Proofs.Ytpiadbdkiibdbaa

