/- Contracts of the leaves of package tide: what makes a number, a span valid; the least of two numbers; ends of spans; what becomes of a net. -/
/- Contracts of package seine: what makes a book valid; Check. -/
/- Package tide: books, plans, and what becomes of a seine, plainly. -/
/- Contracts of package seine: Check. -/
import Derived.Test.YtcaeohgbgeadaaaGreatDoorQSc
set_option linter.unusedSimpArgs false
set_option linter.unusedVariables false
namespace Go.Proofs.YtcaeohgbgeadaaaGreatDoor
open Go Go.RowKit
/-- Is a number from one to another one? -/
def inT (a f t : Int) : Bool := decide (f ≤ a ∧ a ≤ t)
theorem inT_and (a f t : Int) : (decide (f ≤ a) && decide (a ≤ t)) = inT a f t := by simp [inT, Bool.decide_and]
theorem of_inT {a f t : Int} (h : inT a f t = true) : f ≤ a ∧ a ≤ t := by simpa [inT] using h
theorem tWithin_any (a f t : Int) (w : World) : Calls Tryz.prog 102 #[.int .i64 a, .int .i64 f, .int .i64 t] w fun e w' => e = .returned (.bool (inT a f t)) ∧ w = w' := by
  rw [← inT_and]
  by_cases h : f ≤ a
  · have h' : decide (f ≤ a) = true := by simpa using h
    go_enter Tryz.func102, Tryz.ntmps102
    go_wp2
    go_ret
    exact ⟨by first | (simp; done) | (simp; omega), rfl⟩
  · have h' : decide (f ≤ a) = false := by simpa using h
    go_enter Tryz.func102, Tryz.ntmps102
    go_wp2
    go_ret
    exact ⟨by first | (simp; done) | (simp; omega), rfl⟩
theorem tWithin_eq (a f t : Int) (q : Bool) (w : World) (hq : inT a f t = q) : Calls Tryz.prog 102 #[.int .i64 a, .int .i64 f, .int .i64 t] w fun e w' => e = .returned (.bool q) ∧ w = w' := by
  subst hq; exact tWithin_any a f t w
/-- Is a span from one number to another one, its ends not too far apart? -/
def spanT (a b f t : Int) : Bool := inT a f t && inT b f t && decide (a ≤ b) && decide (b - a ≤ 12)
theorem tSpan_any (a b f t : Int) (w : World) (hf : -1000000 ≤ f ∧ f ≤ 1000000) (hm : -1000000 ≤ t ∧ t ≤ 1000000) : Calls Tryz.prog 107 #[.agg #[.int .i64 a, .int .i64 b], .int .i64 f, .int .i64 t] w fun e w' => e = .returned (.bool (spanT a b f t)) ∧ ∃ x, w' = ext w x := by
  unfold spanT
  cases h1 : inT a f t
  · have H := Lib.hid h1
    clear h1
    go_enter Tryz.func107, Tryz.ntmps107
    go_wp2_with (go_at_call 102; refine (tWithin_eq _ _ _ _ _ H.out).mono ?_; rintro e w' ⟨rfl, rfl⟩)
    go_ret
    exact ⟨rfl, by (exact ext_of (by (exact belA)))⟩
  · cases h2 : inT b f t
    · have H := Lib.hid h1
      have H2 := Lib.hid h2
      clear h1 h2
      go_enter Tryz.func107, Tryz.ntmps107
      go_wp2_with (go_at_call 102; refine (tWithin_eq _ _ _ _ _ (by first | exact H.out | exact H2.out)).mono ?_; rintro e w' ⟨rfl, rfl⟩)
      go_ret
      exact ⟨rfl, by (exact ext_of (by (exact belA)))⟩
    · have g1 := of_inT h1
      have g2 := of_inT h2
      have H := Lib.hid h1
      have H2 := Lib.hid h2
      have ew : IntKind.i64.wrap (b - a) = b - a := IntWalk.i64_in _ (by omega)
      clear h1 h2
      by_cases h3 : a ≤ b
      · have h3' : decide (a ≤ b) = true := by simpa using h3
        go_enter Tryz.func107, Tryz.ntmps107
        go_wp2_with (go_at_call 102; refine (tWithin_eq _ _ _ _ _ (by first | exact H.out | exact H2.out)).mono ?_; rintro e w' ⟨rfl, rfl⟩)
        go_ret
        exact ⟨by first | (simp; done) | (simp; omega), by (exact ext_of (by (exact belA)))⟩
      · have h3' : decide (a ≤ b) = false := by simpa using h3
        go_enter Tryz.func107, Tryz.ntmps107
        go_wp2_with (go_at_call 102; refine (tWithin_eq _ _ _ _ _ (by first | exact H.out | exact H2.out)).mono ?_; rintro e w' ⟨rfl, rfl⟩)
        go_ret
        exact ⟨by first | (simp; done) | (simp; omega), by (exact ext_of (by (exact belA)))⟩
theorem tSpan_eq (a b f t : Int) (q : Bool) (w : World) (hf : -1000000 ≤ f ∧ f ≤ 1000000) (hm : -1000000 ≤ t ∧ t ≤ 1000000) (hq : spanT a b f t = q) : Calls Tryz.prog 107 #[.agg #[.int .i64 a, .int .i64 b], .int .i64 f, .int .i64 t] w fun e w' => e = .returned (.bool q) ∧ ∃ x, w' = ext w x := by
  subst hq; exact tSpan_any a b f t w hf hm
end Go.Proofs.YtcaeohgbgeadaaaGreatDoor

namespace Go.Proofs.YtcaeohgbgeadaaaGreatDoor
open Go Go.RowKit

/-- A note: its kind, its hour, the ends of its number. -/
structure Nt where
  kind : Int
  hour : Int
  lo : Int
  hi : Int
def NotesAt (w : World) (p : Option Addr) (l : List Nt) : Prop :=
  ∀ (i : Nat) (s : Nt), l[i]? = some s → ∃ b o : Nat, p = some ⟨b, o, none⟩ ∧ b < w.heap.size ∧ w.cell? ⟨b, o + i * 4, none⟩ = some (.int .i64 s.kind) ∧ w.cell? ⟨b, o + i * 4 + 1, none⟩ = some (.int .i64 s.hour) ∧
    w.cell? ⟨b, o + i * 4 + 2, none⟩ = some (.int .i64 s.lo) ∧ w.cell? ⟨b, o + i * 4 + 3, none⟩ = some (.int .i64 s.hi)
theorem NotesAt.ext {w : World} {p : Option Addr} {l : List Nt} (h : NotesAt w p l) (x : Grow w) : NotesAt (ext w x) p l := fun i s hi => by
  obtain ⟨b, o, h1, h2, h3, h4, h5, h6⟩ := h i s hi
  exact ⟨b, o, h1, Nat.lt_of_lt_of_le h2 x.ok.size, by rw [ext_cell _ _ _ _ h2]; exact h3, by rw [ext_cell _ _ _ _ h2]; exact h4, by rw [ext_cell _ _ _ _ h2]; exact h5, by rw [ext_cell _ _ _ _ h2]; exact h6⟩
theorem NotesAt.below {w w' : World} {p : Option Addr} {l : List Nt} (h : NotesAt w p l) (hb : Below w.heap.size w w') : NotesAt w' p l := by
  obtain ⟨x, rfl⟩ := ext_of hb; exact h.ext x
def ntB (s : Nt) : Bool := noteB s.kind s.hour s.lo s.hi
def chainN (past : Int) : List Nt → Bool
  | [] => true
  | s :: l => ntB s && decide (past ≤ s.hour) && chainN s.hour l
def notesB (l : List Nt) : Bool := decide (l.length ≤ 8) && chainN 0 l
/-- The hour of the note before one. -/
def pastN (l : List Nt) : Nat → Int
  | 0 => 0
  | k + 1 => match l[k]? with | some s => s.hour | none => 0
theorem drop_of_get {α : Type} {l : List α} {k : Nat} {s : α} (h : l[k]? = some s) : l.drop k = s :: l.drop (k + 1) := by
  obtain ⟨h1, h2⟩ := List.getElem?_eq_some_iff.1 h
  rw [← h2]; exact List.drop_eq_getElem_cons h1
theorem chainN_at {l : List Nt} {k : Nat} {s : Nt} (h : l[k]? = some s) (h1 : chainN 0 l = chainN (pastN l k) (l.drop k)) : chainN 0 l = (ntB s && decide (pastN l k ≤ s.hour) && chainN (pastN l (k + 1)) (l.drop (k + 1))) := by
  rw [h1, drop_of_get h]
  have : pastN l (k + 1) = s.hour := by simp [pastN, h]
  rw [this]
  rfl
theorem validNote_eq (k h lo hi : Int) (q : Bool) (w : World) (hm : MM w) (hq : noteB k h lo hi = q) : Calls Tryz.prog 96 #[.agg #[.int .i64 k, .int .i64 h, .int .i64 lo, .int .i64 hi]] w fun e w' => e = .returned (.bool q) ∧ ∃ x, w' = ext w x := by
  subst hq; exact validNote_any k h lo hi w hm
attribute [local go_sem] Oper.semAt_some frozen_alloc_lt
set_option maxRecDepth 100000 in
set_option maxHeartbeats 2000000 in
theorem validNotes_any (p : Option Addr) (c : Nat) (l : List Nt) (w : World) (hl : NotesAt w p l) (hm : MM w) :
    Calls Tryz.prog 163 #[.slice p l.length c] w fun e w' => e = .returned (.bool (notesB l)) ∧ ∃ x, w' = ext w x := by
  unfold notesB
  by_cases h8 : l.length ≤ 8
  · rw [decide_eq_true h8, Bool.true_and]
    have hd : decide ((8 : Int) < (l.length : Int)) = false := by simp; omega
    have HL := Lib.hid hl
    have HM := Lib.hid hm
    clear hl hm
    go_enter Tryz.func163, Tryz.ntmps163
    go_upto_region 5 with fail
    clear hd
    go_loopw [3, 11] (fun x i wr => ∃ (k : Nat) (v : Int), k ≤ l.length ∧ i = .int .i64 k ∧ x = .int .i64 v ∧ Hid (pastN l k = v) ∧ Hid (chainN 0 l = chainN (pastN l k) (l.drop k)) ∧ ∃ x, wr = ext w x) (fun _ i _ => l.length - (intOf i).toNat)
    case atStart => exact ⟨0, 0, by omega, rfl, rfl, Lib.hid rfl, Lib.hid rfl, ext_of (Below.refl _ _)⟩
    case round =>
      obtain ⟨k, v, hk, rfl, rfl, HV, HC, x, rfl⟩ := hrel
      by_cases hlt : k < l.length
      · obtain ⟨⟨kd, hr, lo, hi⟩, ht⟩ := get_some l k hlt
        obtain ⟨b, o, hp, hb, c1, c2, c3, c4⟩ := (HL.out.ext x) k _ ht
        dsimp only at c1 c2 c3 c4
        subst hp
        have HA := Lib.hid (chainN_at ht HC.out)
        have HP := Lib.hid (show pastN l (k + 1) = hr by simp [pastN, ht])
        have k0 : (0 : Int) ≤ (k : Int) := by omega
        have k1 : (k : Int) < (l.length : Int) := by omega
        have HW := Lib.hid (wrap_num k (by omega))
        have hBx := below_ext w x
        generalize ext w x = V at *
        have HBx := Lib.hid hBx
        have HMV := Lib.hid (HM.out.below hBx)
        clear ht hBx
        obtain ⟨q, hq⟩ : ∃ q, noteB kd hr lo hi = q := ⟨_, rfl⟩
        have HQ := Lib.hid hq
        have HA2 := Lib.hid (show chainN 0 l = (q && decide (v ≤ hr) && chainN (pastN l (k + 1)) (l.drop (k + 1))) by
          rw [HA.out, HV.out]; unfold ntB; rw [hq])
        clear hq HA
        cases q
        · have HF := Lib.hid (show chainN 0 l = false by rw [HA2.out]; simp)
          go_wp2_with (go_at_call 96; refine (validNote_eq kd hr lo hi false _ (HMV.out.below belA) HQ.out).mono ?_; rintro e w1 ⟨rfl, y, rfl⟩)
          go_ret
          exact ⟨by rw [HF.out]; rfl, by refine ext_of (HBx.out.trans (Below.mono ?_ HBx.out.size)); (exact belA)⟩
        · by_cases hh : hr < v
          · have HF := Lib.hid (show chainN 0 l = false by rw [HA2.out, decide_eq_false (show ¬ v ≤ hr by omega)]; simp)
            have hd : decide (hr < v) = true := by simpa using hh
            go_wp2_with (go_at_call 96; refine (validNote_eq kd hr lo hi true _ (HMV.out.below belA) HQ.out).mono ?_; rintro e w1 ⟨rfl, y, rfl⟩)
            go_ret
            exact ⟨by rw [HF.out]; rfl, by refine ext_of (HBx.out.trans (Below.mono ?_ HBx.out.size)); (exact belA)⟩
          · have HC2 := Lib.hid (show chainN 0 l = chainN (pastN l (k + 1)) (l.drop (k + 1)) by rw [HA2.out, decide_eq_true (show v ≤ hr by omega)]; simp)
            have hd : decide (hr < v) = false := by simpa using hh
            go_wp2_with (go_at_call 96; refine (validNote_eq kd hr lo hi true _ (HMV.out.below belA) HQ.out).mono ?_; rintro e w1 ⟨rfl, y, rfl⟩)
            try rw [HW.out]
            exact ⟨⟨k + 1, hr, hlt, rfl, rfl, HP, HC2, by refine ext_of (HBx.out.trans (Below.mono ?_ HBx.out.size)); (exact belA)⟩, less_num _ k hlt⟩
      · obtain rfl : k = l.length := by omega
        have HT := Lib.hid (show chainN 0 l = true by rw [HC.out, List.drop_length]; rfl)
        go_wp2_with fail
        go_ret
        exact ⟨by rw [HT.out]; rfl, by (exact ext_of (by (exact belA)))⟩
  · rw [decide_eq_false h8, Bool.false_and]
    have hd : decide ((8 : Int) < (l.length : Int)) = true := by simp; omega
    clear hl hm
    go_enter Tryz.func163, Tryz.ntmps163
    go_wp2_with fail
    go_ret
    exact ⟨rfl, by (exact ext_of (by (exact belA)))⟩
end Go.Proofs.YtcaeohgbgeadaaaGreatDoor

namespace Go.Proofs.YtcaeohgbgeadaaaGreatDoor
open Go Go.RowKit
/-- A low tide: its hour, and how many baskets it lets out. -/
structure Lw where
  hour : Int
  lo : Int
  hi : Int
/-- A list of low tides that lies in memory. -/
def LowsAt (w : World) (p : Option Addr) (l : List Lw) : Prop :=
  ∀ (i : Nat) (s : Lw), l[i]? = some s → ∃ b o : Nat, p = some ⟨b, o, none⟩ ∧ b < w.heap.size ∧ w.cell? ⟨b, o + i * 3, none⟩ = some (.int .i64 s.hour) ∧ w.cell? ⟨b, o + i * 3 + 1, none⟩ = some (.int .i64 s.lo) ∧ w.cell? ⟨b, o + i * 3 + 2, none⟩ = some (.int .i64 s.hi)
theorem LowsAt.ext {w : World} {p : Option Addr} {l : List Lw} (h : LowsAt w p l) (x : Grow w) : LowsAt (ext w x) p l := fun i s hi => by
  obtain ⟨b, o, h1, h2, h3, h4, h5⟩ := h i s hi
  exact ⟨b, o, h1, Nat.lt_of_lt_of_le h2 (below_ext w x).size, ((below_ext w x).cell (p := ⟨b, _, none⟩) h2).trans h3, ((below_ext w x).cell (p := ⟨b, _, none⟩) h2).trans h4, ((below_ext w x).cell (p := ⟨b, _, none⟩) h2).trans h5⟩
theorem LowsAt.below {w w' : World} {p : Option Addr} {l : List Lw} (h : LowsAt w p l) (hb : Below w.heap.size w w') : LowsAt w' p l := fun i s hi => by
  obtain ⟨b, o, h1, h2, h3, h4, h5⟩ := h i s hi
  exact ⟨b, o, h1, Nat.lt_of_lt_of_le h2 hb.size, (hb.cell (p := ⟨b, _, none⟩) h2).trans h3, (hb.cell (p := ⟨b, _, none⟩) h2).trans h4, (hb.cell (p := ⟨b, _, none⟩) h2).trans h5⟩
/-- Tides, each later than the one before it, from an hour on. -/
def chainT : Int → List Lw → Bool
  | _, [] => true
  | a, s :: l => inT s.hour a 60 && spanT s.lo s.hi 0 99 && chainT (s.hour + 1) l
/-- The hour from which on the k-th tide can be. -/
def fromT (now : Int) (ts : List Lw) : Nat → Int
  | 0 => now
  | k + 1 => match ts[k]? with
    | some s => s.hour + 1
    | none => 0
theorem chainT_at {now : Int} : ∀ {ts : List Lw} {a : Int} {k : Nat} {s : Lw}, ts[k]? = some s → chainT a (s :: ts.drop (k + 1)) = (inT s.hour a 60 && spanT s.lo s.hi 0 99 && chainT (s.hour + 1) (ts.drop (k + 1))) := by
  intro ts a k s _; rfl
/-- Can a tide come next in a plan behind another one? -/
def followsB (ts : List Lw) (rest before tide : Int) : Bool :=
  decide (before < tide) && (match ts[before.toNat]?, ts[tide.toNat]? with | some s, some t => decide (rest ≤ t.hour - s.hour) | _, _ => false)
/-- Is something so of each two that follow each other? -/
def eachB (f : Int → Int → Bool) : List Int → Bool
  | a :: b :: l => f a b && eachB f (b :: l)
  | _ => true
/-- Is it a plan? -/
def planB (ts : List Lw) (most rest : Int) (plan : List Int) : Bool :=
  decide ((plan.length : Int) ≤ most) && plan.all (fun t => inT t 0 ((ts.length : Int) - 1)) && eachB (followsB ts rest) plan
/-- What becomes of what a seine holds, with its rate, by a plan, from an hour on: what it holds, the hour, what was tucked out. -/
def playS (ts : List Lw) (room : Nat → Int) (rate gale : Int) : List Int → (Int × Int × Int) → (Int × Int × Int)
  | [], z => z
  | t :: l, (h, at', out) => match ts[t.toNat]? with
    | some s => if gale ≤ s.hour then (h, at', out) else
      let b := afterH rate (s.hour - at').toNat h
      playS ts room rate gale l (b - min b (room t.toNat), s.hour, out + min b (room t.toNat))
    | none => (h, at', out)
end Go.Proofs.YtcaeohgbgeadaaaGreatDoor

namespace Go.Proofs.YtcaeohgbgeadaaaGreatDoor
open Go Go.RowKit

/-- A seine: what was inclosed, and all notes. -/
structure Sn where
  lo : Int
  hi : Int
  ns : List Nt
def snB (b : Sn) : Bool := spanB b.lo b.hi 400 && notesB b.ns
theorem validNotes_eq (p : Option Addr) (c n : Nat) (l : List Nt) (q : Bool) (w : World) (hn : l.length = n) (hl : NotesAt w p l) (hm : MM w) (hq : notesB l = q) :
    Calls Tryz.prog 163 #[.slice p n c] w fun e w' => e = .returned (.bool q) ∧ ∃ x, w' = ext w x := by
  subst hq hn; exact validNotes_any p c l w hl hm
attribute [local go_sem] Oper.semAt_some frozen_alloc_lt
set_option maxHeartbeats 1000000 in
theorem validBook_any (b : Sn) (p : Option Addr) (c : Nat) (w : World) (hl : NotesAt w p b.ns) (hm : MM w) :
    Calls Tryz.prog 129 #[.agg #[.int .i64 b.lo, .int .i64 b.hi, .slice p b.ns.length c]] w fun e w' => e = .returned (.bool (snB b)) ∧ ∃ x, w' = ext w x := by
  unfold snB
  obtain ⟨q1, h1⟩ : ∃ q, spanB b.lo b.hi 400 = q := ⟨_, rfl⟩
  obtain ⟨q2, h2⟩ : ∃ q, notesB b.ns = q := ⟨_, rfl⟩
  rw [h1, h2]
  have H1 := Lib.hid h1
  have H2 := Lib.hid h2
  have HL := Lib.hid hl
  have HM := Lib.hid hm
  clear h1 h2 hl hm
  cases q1
  · go_enter Tryz.func129, Tryz.ntmps129
    go_wp2_with (go_at_call 138; refine (validSpan_eq b.lo b.hi 400 false _ (by decide) H1.out).mono ?_; rintro e w1 ⟨rfl, y, rfl⟩)
    go_ret
    exact ⟨rfl, by (exact ext_of (by (exact belA)))⟩
  · go_enter Tryz.func129, Tryz.ntmps129
    go_wp2_with (first
      | (go_at_call 138; refine (validSpan_eq b.lo b.hi 400 true _ (by decide) H1.out).mono ?_; rintro e w1 ⟨rfl, y, rfl⟩)
      | (go_at_call 163; refine (validNotes_eq p c _ b.ns q2 _ rfl (HL.out.below belA) (HM.out.below belA) H2.out).mono ?_; rintro e w1 ⟨rfl, y2, rfl⟩))
    go_ret
    exact ⟨by cases q2 <;> rfl, by (exact ext_of (by (exact belA)))⟩
theorem Check_any (b : Sn) (p : Option Addr) (c : Nat) (w : World) (hl : NotesAt w p b.ns) (hm : MM w) :
    Calls Tryz.prog 84 #[.agg #[.int .i64 b.lo, .int .i64 b.hi, .slice p b.ns.length c]] w fun e w' => e = .returned (.int .i64 (if snB b then 0 else 30)) ∧ ∃ x, w' = ext w x := by
  have HL := Lib.hid hl
  have HM := Lib.hid hm
  have hv := fun w (h1 : NotesAt w p b.ns) (h2 : MM w) => validBook_any b p c w h1 h2
  clear hl hm
  cases h : snB b
  · rw [h] at hv
    have HV := Lib.hid hv
    clear hv h
    go_enter Tryz.func84, Tryz.ntmps84
    go_wp2_with (go_at_call 129; refine (HV.out _ (HL.out.below belA) (HM.out.below belA)).mono ?_; rintro e w1 ⟨rfl, y, rfl⟩)
    go_ret
    exact ⟨rfl, by (exact ext_of (by (exact belA)))⟩
  · rw [h] at hv
    have HV := Lib.hid hv
    clear hv h
    go_enter Tryz.func84, Tryz.ntmps84
    go_wp2_with (go_at_call 129; refine (HV.out _ (HL.out.below belA) (HM.out.below belA)).mono ?_; rintro e w1 ⟨rfl, y, rfl⟩)
    go_ret
    exact ⟨rfl, by (exact ext_of (by (exact belA)))⟩
end Go.Proofs.YtcaeohgbgeadaaaGreatDoor

