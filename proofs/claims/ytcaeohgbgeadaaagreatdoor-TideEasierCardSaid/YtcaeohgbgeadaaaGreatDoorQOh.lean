/- Package tide, plainly: with what is easier the best plan loses no more. -/
import Derived.Test.YtcaeohgbgeadaaaGreatDoorQOf
set_option linter.unusedSimpArgs false
set_option linter.unusedVariables false
namespace Go.Proofs.YtcaeohgbgeadaaaGreatDoor
open Go Go.RowKit Go.Shelf
/-- A book that is easier than another one: the seine and the hour are the same, each plan stays one, each tide surely lets out as much, no gale comes sooner. -/
structure Easier (b b' : Tk) : Prop where
  q : b'.q = b.q
  now : b'.now = b.now
  plan : ∀ pl, planB b.ts b.most b.rest pl = true → planB b'.ts b'.most b'.rest pl = true
  run : ∀ room r g pl h a o, runS b'.ts room r g pl h a o = runS b.ts room r g pl h a o
  rm : ∀ i, roomT b.ts false i ≤ roomT b'.ts false i
  gl : b.glo ≤ b'.glo
theorem easier_best {b b' : Tk} (e : Easier b b') (hv : validB b = true) (hv' : validB b' = true) {l m : List Int} (hl : IsBest (haulOf b) l) (hm : IsBest (haulOf b') m) : ansHi (haulOf b') 1 m ≤ ansHi (haulOf b) 1 l := by
  have k := haul_ok hv
  have k' := haul_ok hv'
  have hp : planB b.ts b.most b.rest l = true := hl.1
  have hp' : planB b'.ts b'.most b'.rest l = true := e.plan l hp
  refine Int.le_trans (hm.lost hp') ?_
  rw [ansHi_is k' hp', ansHi_is k hp, end_corn k' hp', end_corn k hp]
  simp only [loC, hiC, endN, askN, Bool.not_false, Bool.not_true, Bool.false_eq_true, if_false, if_true]
  have e1 : (haulOf b').hh = (haulOf b).hh := by show maxF _ _ (atL b'.q b'.now) = _; rw [e.q, e.now]; rfl
  have e2 : (haulOf b').rh = (haulOf b).rh := by show maxF _ _ (atL b'.q b'.now) = _; rw [e.q, e.now]; rfl
  have hd := k.hd
  have rt := k.rt
  have gl := k.gl
  rw [e1, e2, show (haulOf b').b.ts = b'.ts from rfl, e.run, show (haulOf b').b.now = b.now from e.now]
  exact run_lost (ts := b.ts) (fun i => (k.room false i).1) e.rm (by omega) (Int.le_refl _) (by omega) (Int.le_refl _) e.gl gl.1 (plan_ord k.rs.1 k.ch hp)
/-- More tides in a plan. -/
def Tk.more (b : Tk) : Tk := ⟨b.q, b.now, b.ts, b.glo, b.ghi, min 6 (b.most + 1), b.rest⟩
/-- Tides can follow each other sooner. -/
def Tk.sooner (b : Tk) (x : Int) : Tk := ⟨b.q, b.now, b.ts, b.glo, b.ghi, b.most, max 0 (b.rest - x)⟩
/-- A later gale. -/
def Tk.late (b : Tk) (x : Int) : Tk := ⟨b.q, b.now, b.ts, b.glo + x, b.ghi + x, b.most, b.rest⟩
/-- A tide surely lets out more. -/
def setLo (ts : List Lw) (k : Nat) (x : Int) : List Lw := match ts[k]? with
  | some s => ts.set k ⟨s.hour, x, s.hi⟩
  | none => ts
def Tk.wider (b : Tk) (k : Nat) (x : Int) : Tk := ⟨b.q, b.now, setLo b.ts k x, b.glo, b.ghi, b.most, b.rest⟩
theorem valid_parts {b : Tk} : validB b = true ↔ nowB b = true ∧ tidesB b = true ∧ spanT b.glo b.ghi b.now 60 = true ∧ inT b.most 0 6 = true ∧ inT b.rest 0 60 = true ∧ trueB b.q = true := by
  unfold validB
  simp only [Bool.and_eq_true]
  constructor
  · rintro ⟨⟨⟨⟨⟨h1, h2⟩, h3⟩, h4⟩, h5⟩, h6⟩
    exact ⟨h1, h2, h3, h4, h5, h6⟩
  · rintro ⟨h1, h2, h3, h4, h5, h6⟩
    exact ⟨⟨⟨⟨⟨h1, h2⟩, h3⟩, h4⟩, h5⟩, h6⟩
theorem more_ok {b : Tk} (hv : validB b = true) : validB b.more = true ∧ Easier b b.more := by
  obtain ⟨h1, h2, h3, h4, h5, h6⟩ := valid_parts.1 hv
  have h7 := of_inT h4
  have h8 := of_inT h5
  refine ⟨valid_parts.2 ⟨h1, h2, h3, ?_, h5, h6⟩, rfl, rfl, fun pl h => ?_, fun _ _ _ _ _ _ _ => rfl, fun _ => Int.le_refl _, Int.le_refl _⟩
  · show inT (min 6 (b.most + 1)) 0 6 = true
    simp only [inT, decide_eq_true_eq]; omega
  · rw [planB_iff h8.1] at h
    refine (planB_iff h8.1).2 ⟨?_, h.2⟩
    show (pl.length : Int) ≤ min 6 (b.most + 1)
    omega
theorem sooner_ok {b : Tk} (hv : validB b = true) {x : Int} (hx : 0 ≤ x) : validB (b.sooner x) = true ∧ Easier b (b.sooner x) := by
  obtain ⟨h1, h2, h3, h4, h5, h6⟩ := valid_parts.1 hv
  have h8 := of_inT h5
  refine ⟨valid_parts.2 ⟨h1, h2, h3, h4, ?_, h6⟩, rfl, rfl, fun pl h => ?_, fun _ _ _ _ _ _ _ => rfl, fun _ => Int.le_refl _, Int.le_refl _⟩
  · show inT (max 0 (b.rest - x)) 0 60 = true
    simp only [inT, decide_eq_true_eq]; omega
  · rw [planB_iff h8.1] at h
    refine (planB_iff (show 0 ≤ max 0 (b.rest - x) by omega)).2 ⟨h.1, h.2.1, h.2.2.imp fun {u v} hf => ?_⟩
    obtain ⟨g1, s, t, g2, g3, g4⟩ := follows_is hf
    exact follows_of g1 g2 g3 (by show max 0 (b.rest - x) ≤ _; omega)
theorem later_ok {b : Tk} (hv : validB b = true) {x : Int} (hx : 0 ≤ x ∧ x ≤ 60 - b.ghi) : validB (b.late x) = true ∧ Easier b (b.late x) := by
  obtain ⟨h1, h2, h3, h4, h5, h6⟩ := valid_parts.1 hv
  refine ⟨valid_parts.2 ⟨h1, h2, ?_, h4, h5, h6⟩, rfl, rfl, fun pl h => h, fun _ _ _ _ _ _ _ => rfl, fun _ => Int.le_refl _, by show b.glo ≤ b.glo + x; omega⟩
  show spanT (b.glo + x) (b.ghi + x) b.now 60 = true
  simp only [spanT, inT, Bool.and_eq_true, decide_eq_true_eq] at h3 ⊢
  omega
theorem setLo_at {ts : List Lw} {k : Nat} {s : Lw} (h : ts[k]? = some s) (x : Int) : setLo ts k x = ts.set k ⟨s.hour, x, s.hi⟩ := by
  unfold setLo; rw [h]
theorem setLo_len (ts : List Lw) (k : Nat) (x : Int) : (setLo ts k x).length = ts.length := by
  unfold setLo
  cases ts[k]? <;> simp
theorem setLo_get {ts : List Lw} {k : Nat} {s : Lw} (h : ts[k]? = some s) (x : Int) (i : Nat) : (setLo ts k x)[i]? = if i = k then some ⟨s.hour, x, s.hi⟩ else ts[i]? := by
  rw [setLo_at h]
  have hlt := (List.getElem?_eq_some_iff.1 h).1
  by_cases hi : i = k
  · subst hi
    rw [if_pos rfl, List.getElem?_set_self hlt]
  · rw [if_neg hi, List.getElem?_set_ne (fun e => hi e.symm)]
theorem setLo_hour {ts : List Lw} {k : Nat} {s : Lw} (h : ts[k]? = some s) (x : Int) (i : Nat) : ((setLo ts k x)[i]?).map Lw.hour = (ts[i]?).map Lw.hour := by
  rw [setLo_get h]
  by_cases hi : i = k
  · subst hi; rw [if_pos rfl, h]; rfl
  · rw [if_neg hi]
theorem run_hours {ts ts' : List Lw} (hh : ∀ i : Nat, (ts'[i]?).map Lw.hour = (ts[i]?).map Lw.hour) (room : Nat → Int) (r g : Int) : ∀ (pl : List Int) (h a o : Int), runS ts' room r g pl h a o = runS ts room r g pl h a o
  | [], _, _, _ => rfl
  | t :: l, h, a, o => by
    have e := hh t.toNat
    unfold runS
    cases h1 : ts[t.toNat]? with
    | none =>
      rw [h1] at e
      cases h2 : ts'[t.toNat]? with
      | none => rfl
      | some s' => rw [h2] at e; simp at e
    | some s =>
      rw [h1] at e
      cases h2 : ts'[t.toNat]? with
      | none => rw [h2] at e; simp at e
      | some s' =>
        rw [h2] at e
        simp only [Option.map_some, Option.some.injEq] at e
        dsimp only
        rw [e]
        by_cases hg : g ≤ s.hour
        · rw [if_pos hg, if_pos hg]
        · rw [if_neg hg, if_neg hg]
          exact run_hours hh room r g l _ _ _
theorem follows_hours {ts ts' : List Lw} (hh : ∀ i : Nat, (ts'[i]?).map Lw.hour = (ts[i]?).map Lw.hour) {rest a c : Int} (h : followsB ts rest a c = true) : followsB ts' rest a c = true := by
  obtain ⟨h1, s, t, h2, h3, h4⟩ := follows_is h
  have e1 := hh a.toNat
  have e2 := hh c.toNat
  rw [h2] at e1
  rw [h3] at e2
  cases h5 : ts'[a.toNat]? with
  | none => rw [h5] at e1; simp at e1
  | some s' =>
    cases h6 : ts'[c.toNat]? with
    | none => rw [h6] at e2; simp at e2
    | some t' =>
      rw [h5] at e1
      rw [h6] at e2
      simp only [Option.map_some, Option.some.injEq] at e1 e2
      exact follows_of h1 h5 h6 (by omega)
theorem chain_setLo : ∀ {ts : List Lw} {a : Int} {k : Nat} {s : Lw} {x : Int}, chainT a ts = true → ts[k]? = some s → s.lo ≤ x → x ≤ s.hi → chainT a (ts.set k ⟨s.hour, x, s.hi⟩) = true
  | [], _, _, _, _, _, h, _, _ => by simp at h
  | t :: l, a, 0, s, x, hc, h, h1, h2 => by
    simp only [List.getElem?_cons_zero, Option.some.injEq] at h
    subst h
    rw [List.set_cons_zero]
    unfold chainT at hc ⊢
    simp only [Bool.and_eq_true, spanT, inT, decide_eq_true_eq] at hc ⊢
    exact ⟨⟨hc.1.1, by omega⟩, hc.2⟩
  | t :: l, a, k + 1, s, x, hc, h, h1, h2 => by
    rw [List.set_cons_succ]
    unfold chainT at hc ⊢
    simp only [Bool.and_eq_true] at hc ⊢
    exact ⟨hc.1, chain_setLo hc.2 (by simpa using h) h1 h2⟩
theorem wider_ok {b : Tk} (hv : validB b = true) {k : Nat} {s : Lw} (hs : b.ts[k]? = some s) {x : Int} (hx : s.lo ≤ x ∧ x ≤ s.hi) : validB (b.wider k x) = true ∧ Easier b (b.wider k x) := by
  obtain ⟨h1, h2, h3, h4, h5, h6⟩ := valid_parts.1 hv
  have h8 := of_inT h5
  have hh := setLo_hour hs x
  refine ⟨valid_parts.2 ⟨h1, ?_, h3, h4, h5, h6⟩, rfl, rfl, fun pl h => ?_, fun room r g pl h a o => run_hours hh room r g pl h a o, fun i => ?_, Int.le_refl _⟩
  · unfold tidesB at h2 ⊢
    rw [Bool.and_eq_true, decide_eq_true_eq] at h2 ⊢
    refine ⟨by show (setLo b.ts k x).length ≤ 6; rw [setLo_len]; exact h2.1, ?_⟩
    show chainT b.now (setLo b.ts k x) = true
    rw [setLo_at hs]
    exact chain_setLo h2.2 hs hx.1 hx.2
  · rw [planB_iff h8.1] at h
    refine (planB_iff h8.1).2 ⟨h.1, fun t ht => ?_, h.2.2.imp fun hf => follows_hours hh hf⟩
    show 0 ≤ t ∧ t < ((setLo b.ts k x).length : Int)
    rw [setLo_len]
    exact h.2.1 t ht
  · show roomT b.ts false i ≤ roomT (setLo b.ts k x) false i
    unfold roomT
    rw [setLo_get hs]
    by_cases hi : i = k
    · subst hi
      rw [if_pos rfl, hs]
      simpa using hx.1
    · rw [if_neg hi]
      exact Int.le_refl _
end Go.Proofs.YtcaeohgbgeadaaaGreatDoor

