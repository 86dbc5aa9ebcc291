/- Plain facts: a book whose notes are right, by numbers that choose what is true. -/
/- Appends to two lists of numbers of a call's own: where each then lies. -/
/- What the operations leave by which two lists of numbers get one number more each. -/
import Derived.Test.YtamknmgplhaciaaDoorQPj
import Derived.Test.YtamknmgplhaciaaDoorQFa
set_option linter.unusedSimpArgs false
set_option linter.unusedVariables false
namespace Go.Proofs.YtamknmgplhaciaaDoor
open Go Go.RowKit Go.Shelf
/-- The number that truly is noted. -/
def valT (s : Nt) (q : Int × Int) (n : Int) : Int := if s.kind = 0 ∧ q.1 < n then q.1 else n
/-- How it is noted, rightly. -/
def noteT (s : Nt) (q : Int × Int) (n : Int) : Nt :=
  if s.kind = 0 then (if q.1 < n then ⟨s.kind, s.hour, q.1, q.1⟩ else s)
  else if s.kind = 4 then ⟨s.kind, s.hour, max 0 (q.1 - (s.hi - s.lo) / 2), min 400 (q.1 + (s.hi - s.lo) / 2)⟩ else s
/-- What truly is so behind each note. -/
def stF (b : Sn) (v : Nat → Int) : Nat → Int × Int
  | 0 => (v 0, 0)
  | k + 1 => match b.ns[k]? with
    | some s => doesS s.kind (befS b.ns k (stF b v k)) (valT s (befS b.ns k (stF b v k)) (v (k + 1)))
    | none => (0, 0)
def xN (b : Sn) (v : Nat → Int) : Nat → List Nt
  | 0 => []
  | k + 1 => xN b v k ++ (match b.ns[k]? with | some s => [noteT s (befS b.ns k (stF b v k)) (v (k + 1))] | none => [])
abbrev xS (b : Sn) (v : Nat → Int) : Sn := ⟨b.lo, b.hi, xN b v b.ns.length⟩
structure Chosen (b : Sn) (v : Nat → Int) : Prop where
  first : b.lo ≤ v 0 ∧ v 0 ≤ b.hi
  next : ∀ k s, b.ns[k]? = some s → s.lo ≤ v (k + 1) ∧ v (k + 1) ≤ s.hi
theorem noteT_hour (s : Nt) (q : Int × Int) (n : Int) : (noteT s q n).hour = s.hour := by
  unfold noteT
  split
  · split <;> rfl
  · split <;> rfl
theorem noteT_kind (s : Nt) (q : Int × Int) (n : Int) : (noteT s q n).kind = s.kind := by
  unfold noteT
  split
  · split <;> rfl
  · split <;> rfl
theorem noteT_ok {s : Nt} (hs : ntB s = true) {q : Int × Int} (hq : 0 ≤ q.1 ∧ q.1 ≤ 400) (n : Int) : ntB (noteT s q n) = true := by
  obtain ⟨h1, h2, h3⟩ := ntB_facts hs
  unfold noteT
  split
  · rename_i hk
    split
    · simp [ntB, noteB, spanB, inB, mostOf, hk]
      omega
    · exact hs
  · split
    · rename_i hk
      unfold SpanOK at h3
      simp [ntB, noteB, spanB, inB, mostOf, hk]
      simp [mostOf, hk] at h3
      omega
    · exact hs
theorem noteT_beh {s : Nt} {q : Int × Int} (hq : 0 ≤ q.1 ∧ q.1 ≤ 400) (hsp : s.lo ≤ s.hi) {n : Int} (hn : s.lo ≤ n ∧ n ≤ s.hi) : doesS s.kind q (valT s q n) ∈ behL (noteT s q n) q := by
  unfold behL
  rw [noteT_kind]
  by_cases h0 : s.kind = 0
  · by_cases hl : q.1 < n
    · refine List.mem_map.2 ⟨q.1, List.mem_filter.2 ⟨mem_numsL.2 ?_, by simp [rightB, h0]⟩, by simp [valT, h0, hl]⟩
      simp [noteT, h0, hl]
    · refine List.mem_map.2 ⟨n, List.mem_filter.2 ⟨mem_numsL.2 ?_, by simp [rightB, h0]; omega⟩, by simp [valT, h0, hl]⟩
      simp [noteT, h0, hl]
      exact hn
  · by_cases h4 : s.kind = 4
    · refine List.mem_map.2 ⟨q.1, List.mem_filter.2 ⟨mem_numsL.2 ?_, by simp [rightB, h4]⟩, by simp [doesS, h4]⟩
      simp [noteT, h4]
      omega
    · refine List.mem_map.2 ⟨n, List.mem_filter.2 ⟨mem_numsL.2 ?_, by simp [rightB, h0, h4]⟩, by simp [valT, h0]⟩
      simp [noteT, h0, h4]
      exact hn
theorem doesS_K {s : Nt} (hs : ntB s = true) {k : Nat} {q : Int × Int} (hq : StK k q) {n : Int} (hn : s.lo ≤ n ∧ n ≤ s.hi) : StK (k + 1) (doesS s.kind q (valT s q n)) := by
  obtain ⟨h1, h2, h3⟩ := ntB_facts hs
  obtain ⟨g1, g2, g3⟩ := hq
  obtain ⟨x, r⟩ := q
  dsimp only at g1 g2 g3
  unfold SpanOK at h3
  rcases (show s.kind = 0 ∨ s.kind = 1 ∨ s.kind = 2 ∨ s.kind = 3 ∨ s.kind = 4 by omega) with e | e | e | e | e
  · simp [mostOf, e] at h3
    by_cases hl : x < n
    · simp [doesS, valT, e, hl, StK]; omega
    · simp [doesS, valT, e, hl, StK]; omega
  all_goals
    simp [mostOf, e] at h3
    simp [doesS, valT, e, StK]
    try omega
section
variable {b : Sn} {v : Nat → Int}
theorem stF_at {k : Nat} {s : Nt} (hs : b.ns[k]? = some s) : stF b v (k + 1) = doesS s.kind (befS b.ns k (stF b v k)) (valT s (befS b.ns k (stF b v k)) (v (k + 1))) := by
  show (match b.ns[k]? with | some s => _ | none => _) = _
  rw [hs]
theorem xN_at {k : Nat} {s : Nt} (hs : b.ns[k]? = some s) : xN b v (k + 1) = xN b v k ++ [noteT s (befS b.ns k (stF b v k)) (v (k + 1))] := by
  show xN b v k ++ (match b.ns[k]? with | some s => _ | none => _) = _
  rw [hs]
theorem bef_K (hok : Ok9 b) {k : Nat} {q : Int × Int} (h : StK k q) : StK k (befS b.ns k q) := by
  obtain ⟨x, y⟩ := q
  obtain ⟨g1, g2, g3⟩ := h
  dsimp only at g1 g2 g3
  have := afterH_bd g2 (gapN b.ns k).toNat x g1.1
  rw [befS_eq]
  exact ⟨by dsimp only; omega, g2, g3⟩
theorem stF_K (hok : Ok9 b) (hc : Chosen b v) : ∀ k, k ≤ b.ns.length → StK k (stF b v k)
  | 0, _ => by
    have h1 := hc.first
    have h2 := hok.span
    unfold SpanOK at h2
    exact ⟨by show 0 ≤ v 0 ∧ v 0 ≤ 400; omega, by show (0 : Int) ≤ 0; omega, by show (0 : Int) ≤ _; simp⟩
  | k + 1, hk => by
    obtain ⟨s, hs⟩ := get_some b.ns k (by omega)
    rw [stF_at hs]
    exact doesS_K (chainN_all hok.chain s (List.mem_of_getElem? hs)) (bef_K hok (stF_K hok hc k (by omega))) (hc.next k s hs)
theorem xN_len : ∀ k, k ≤ b.ns.length → (xN b v k).length = k
  | 0, _ => rfl
  | k + 1, hk => by
    obtain ⟨s, hs⟩ := get_some b.ns k (by omega)
    rw [xN_at hs, List.length_append, xN_len k (by omega)]
    rfl
theorem xN_get {i : Nat} {s : Nt} (hs : b.ns[i]? = some s) : ∀ k, i < k → k ≤ b.ns.length → (xN b v k)[i]? = some (noteT s (befS b.ns i (stF b v i)) (v (i + 1)))
  | 0, h, _ => by omega
  | k + 1, h, hk => by
    obtain ⟨t, ht⟩ := get_some b.ns k (by omega)
    have hl := xN_len (v := v) k (show k ≤ b.ns.length by omega)
    rw [xN_at ht]
    by_cases he : i = k
    · subst he
      rw [hs] at ht; cases ht
      rw [List.getElem?_append_right (by omega), hl, Nat.sub_self]
      rfl
    · rw [List.getElem?_append_left (by omega)]
      exact xN_get hs k (by omega) (by omega)
theorem x_ok (hok : Ok9 b) (hc : Chosen b v) : ∀ k, k ≤ b.ns.length → Ok9 ⟨b.lo, b.hi, xN b v k⟩ ∧ lastN (xN b v k) = pastN b.ns k
  | 0, _ => ⟨⟨hok.span, rfl, by simp [xN]⟩, by simp [xN, lastN, pastN]⟩
  | k + 1, hk => by
    obtain ⟨h1, h2⟩ := x_ok hok hc k (by omega)
    obtain ⟨s, hs⟩ := get_some b.ns k (by omega)
    obtain ⟨h3, h4, h5⟩ := past_le hok hs
    have hl := xN_len (v := v) k (show k ≤ b.ns.length by omega)
    have h7 := hok.len
    rw [xN_at hs, last_app, noteT_hour, h5]
    exact ⟨ok_end h1 (noteT_ok (chainN_all hok.chain s (List.mem_of_getElem? hs)) (bef_K hok (stF_K hok hc k (by omega))).1 _) (by rw [noteT_hour]; show lastN (xN b v k) ≤ _; omega) (by show (xN b v k).length < 9; omega), rfl⟩
theorem x_valid (hv : snB b = true) (hc : Chosen b v) : snB (xS b v) = true := by
  have h1 := (x_ok (Ok9.of hv) hc _ (Nat.le_refl _)).1.chain
  have h2 := xN_len (v := v) b.ns.length (Nat.le_refl _)
  simp only [snB, notesB, Bool.and_eq_true, decide_eq_true_eq] at hv ⊢
  exact ⟨hv.1, by show (xN b v b.ns.length).length ≤ 8; omega, h1⟩
theorem x_hour (k : Nat) : ((xN b v b.ns.length)[k]?).map Nt.hour = (b.ns[k]?).map Nt.hour := by
  by_cases hk : k < b.ns.length
  · obtain ⟨s, hs⟩ := get_some b.ns k hk
    rw [xN_get hs _ hk (Nat.le_refl _), hs]
    simp [noteT_hour]
  · have h2 := xN_len (v := v) b.ns.length (Nat.le_refl _)
    rw [List.getElem?_eq_none (by omega), List.getElem?_eq_none (by omega)]
theorem x_past (k : Nat) : pastN (xN b v b.ns.length) k = pastN b.ns k := by
  cases k with
  | zero => rfl
  | succ k =>
    have := x_hour (b := b) (v := v) k
    simp only [pastN]
    cases h1 : (xN b v b.ns.length)[k]? with
    | none =>
      cases h2 : b.ns[k]? with
      | none => rfl
      | some t => rw [h1, h2] at this; simp at this
    | some s =>
      cases h2 : b.ns[k]? with
      | none => rw [h1, h2] at this; simp at this
      | some t => rw [h1, h2] at this; simpa using this
theorem x_gap (k : Nat) : gapN (xN b v b.ns.length) k = gapN b.ns k := by
  have := x_hour (b := b) (v := v) k
  unfold gapN
  rw [x_past]
  cases h1 : (xN b v b.ns.length)[k]? with
  | none =>
    cases h2 : b.ns[k]? with
    | none => rfl
    | some t => rw [h1, h2] at this; simp at this
  | some s =>
    cases h2 : b.ns[k]? with
    | none => rw [h1, h2] at this; simp at this
    | some t => rw [h1, h2] at this; simp at this; dsimp only; rw [this]
theorem x_up (h : Int) : upN (xN b v b.ns.length) h = upN b.ns h := by
  have hl := xN_len (v := v) b.ns.length (Nat.le_refl _)
  refine upN_at (fun i s hi hs => ?_) (by have := upN_le b.ns h; omega) (fun s hs => ?_)
  · have := x_hour (b := b) (v := v) i
    rw [hs] at this
    obtain ⟨t, ht⟩ := get_some b.ns i (by have := upN_le b.ns h; omega)
    rw [ht] at this
    simp at this
    rw [this]
    exact upN_in hi ht
  · have := x_hour (b := b) (v := v) (upN b.ns h)
    rw [hs] at this
    cases h2 : b.ns[upN b.ns h]? with
    | none => rw [h2] at this; simp at this
    | some t =>
      rw [h2] at this
      simp at this
      have := upN_not h2
      omega
theorem x_at (f : Nat → Int × Int) (h : Int) : At (xS b v) f h = At b f h := by
  unfold At sinN
  rw [x_up, x_past]
/-- What truly is so is a truth of the book. -/
theorem x_path (hok : Ok9 b) (hc : Chosen b v) : Path (xS b v) (stF b v) := by
  refine ⟨List.mem_map.2 ⟨v 0, mem_numsL.2 hc.first, rfl⟩, fun k s' hs' => ?_⟩
  have hl := xN_len (v := v) b.ns.length (Nat.le_refl _)
  have hk' : k < (xN b v b.ns.length).length := (List.getElem?_eq_some_iff.1 hs').1
  have hk : k < b.ns.length := by omega
  obtain ⟨s, hs⟩ := get_some b.ns k hk
  have h1 : (xN b v b.ns.length)[k]? = some s' := hs'
  rw [xN_get hs _ hk (Nat.le_refl _)] at h1
  cases h1
  have h2 := bef_K hok (stF_K hok hc k (by omega))
  have e : befS (xN b v b.ns.length) k (stF b v k) = befS b.ns k (stF b v k) := by
    unfold befS
    rw [x_gap]
  show stF b v (k + 1) ∈ behL _ (befS (xN b v b.ns.length) k (stF b v k))
  rw [e, stF_at hs]
  obtain ⟨-, -, h3⟩ := hok.nt hs
  exact noteT_beh h2.1 h3.2.2.2.2.1 (hc.next k s hs)
/-- What is so behind the first notes, at an hour not before them. -/
def curS (b : Sn) (v : Nat → Int) (k : Nat) (h : Int) : Int × Int := aftS (stF b v k) (h - pastN b.ns k)
theorem cur_next (hok : Ok9 b) (hc : Chosen b v) {k : Nat} (hk : k ≤ b.ns.length) {h : Int} (hp : pastN b.ns k ≤ h) : curS b v k (h + 1) = (max 0 ((curS b v k h).1 - (curS b v k h).2), (curS b v k h).2) := by
  obtain ⟨g1, g2, g3⟩ := stF_K hok hc k hk
  unfold curS aftS
  refine Prod.ext ?_ rfl
  dsimp only
  obtain ⟨n, hn⟩ : ∃ n : Nat, h - pastN b.ns k = n := ⟨(h - pastN b.ns k).toNat, by omega⟩
  rw [show h + 1 - pastN b.ns k = ((n + 1 : Nat) : Int) by push_cast; omega, hn, Int.toNat_natCast, Int.toNat_natCast, afterH_eq g2 _ _ g1.1, afterH_eq g2 _ _ g1.1]
  push_cast
  rw [Int.add_mul, Int.one_mul]
  omega
theorem cur_bef {k : Nat} {s : Nt} (hs : b.ns[k]? = some s) : befS b.ns k (stF b v k) = curS b v k s.hour := by
  unfold befS curS
  rw [gapN_at hs]
theorem cur_behind {k : Nat} {s : Nt} (hs : b.ns[k]? = some s) : curS b v (k + 1) s.hour = stF b v (k + 1) := by
  unfold curS
  exact aft_zero _ _ (by simp [pastN, hs])
theorem cur_at {k : Nat} {h : Int} (hk : upN b.ns h = k) : At b (stF b v) h = curS b v k h := by
  unfold At curS sinN
  rw [hk]
theorem cur_zero (h0 : 0 ≤ v 0) : curS b v 0 0 = (v 0, 0) := aft_zero _ _ rfl
theorem cur_bd (hok : Ok9 b) (hc : Chosen b v) {k : Nat} (hk : k ≤ b.ns.length) (h : Int) : (0 ≤ (curS b v k h).1 ∧ (curS b v k h).1 ≤ 400) ∧ 0 ≤ (curS b v k h).2 ∧ (curS b v k h).2 ≤ 81 := by
  obtain ⟨g1, g2, g3⟩ := stF_K hok hc k hk
  have := afterH_bd g2 (h - pastN b.ns k).toNat _ g1.1
  have hl := hok.len
  unfold curS aftS
  dsimp only
  omega
end
end Go.Proofs.YtamknmgplhaciaaDoor

namespace Go.Proofs.YtamknmgplhaciaaDoor
open Go Go.RowKit Go.Shelf
theorem OwnInts.mono {w : World} {B B' : Nat} {v : Value} {l : List Int} (h : OwnInts w B v l) (hB : B' ≤ B) : OwnInts w B' v l := by
  obtain ⟨h1, h2⟩ := h
  refine ⟨h1, ?_⟩
  rcases h2 with h2 | ⟨g, cap, cur, rfl, hg, r⟩
  · exact .inl h2
  · exact .inr ⟨g, cap, cur, rfl, by omega, r⟩
theorem OwnInts.blk {w : World} {B g : Nat} {v : Value} {l : List Int} (h : OwnInts w B v l) (hg : v.ownBlock = some g) : ∃ cs, Blk w g 3 cs := by
  obtain ⟨h1, h2⟩ := h
  rcases h2 with ⟨h2, -⟩ | ⟨g', cap, cur, rfl, hg', hh, hn, hm, hs, ht⟩
  · subst h2; cases hg
  · have : g' = g := by simpa [Value.ownBlock] using hg
    subst this
    exact ⟨cur, hh⟩
theorem OwnNs.blk {w : World} {B g : Nat} {v : Value} {l : List Nt} (h : OwnNs w B v l) (hg : v.ownBlock = some g) : ∃ cs, Blk w g 38 cs := by
  obtain ⟨h1, h2⟩ := h
  rcases h2 with ⟨h2, -⟩ | ⟨g', cap, cur, rfl, hg', hh, hn, hm, hs, ht⟩
  · subst h2; cases hg
  · have : g' = g := by simpa [Value.ownBlock] using hg
    subst this
    exact ⟨cur, hh⟩
theorem ints_notes {w : World} {B B' g : Nat} {v v' : Value} {l : List Int} {l' : List Nt} (h : OwnInts w B v l) (h' : OwnNs w B' v' l') (e : v.ownBlock = some g) (e' : v'.ownBlock = some g) : False := by
  obtain ⟨cs, h1⟩ := h.blk e
  obtain ⟨cs', h2⟩ := h'.blk e'
  unfold Blk at h1 h2
  rw [h1] at h2
  simp at h2
theorem grown_none {w w' : World} (h : w.grownBy w' none) (r : Option Nat) : w.grownBy w' r := ⟨h.os, h.tape, h.output, h.size, fun q hq _ => h.block q hq (by simp)⟩
/-- An append of one number: where the list lies behind it. -/
theorem st_app_int {ops : Array Oper} {Q : Exit → Act → World → Prop} {i : Nat} {o : Oper} {K : Act → World → Prop} {a : Act} {w : World} (h : ops[i]? = some o) (hgd : o.guard = none) (s x : Operand)
    (ho : o.op = .call { callee := .builtin .append, args := #[s, x], argTypes := #[44, 44] }) (B : Nat)
    (v : Value) (l : List Int) (hs : a.eval s = v) (hown : OwnInts w B v l) (g : Nat) (y : Int) (hx : a.eval x = .slice (some ⟨g, 0, none⟩) 1 1) (hc : Blk w g 3 #[.int .i64 y])
    (hl : l.length ≤ 1000) (hB : B ≤ w.heap.size)
    (hK : ∀ v' w', OwnInts w' B v' (l ++ [y]) → w.grownBy w' v.ownBlock → (∀ q, v'.ownBlock = some q → v.ownBlock = some q ∨ w.heap.size ≤ q) → K (a.put o.dst v') w') : wpOp Tryd.prog ops Q i K a w := by
  have hw : Region.wanted o (yielded ops a.tmps) = true := by simp [Region.wanted, hgd]
  have hnew : ∀ (j : Nat) (u : Value), ((encZ [y])[j]? = some u) → w.cell? ((⟨g, 0, none⟩ : Addr).add j) = some u := fun j u hj => by
    match j, hj with
    | 0, hj => simp [encZ] at hj; subst hj; simpa [Addr.add] using hc.cell 0
    | n + 1, hj => simp [encZ] at hj
  have h1 : ∀ u ∈ encZ [y], u.oneCell' = true := fun u hu => by simp [encZ] at hu; subst hu; rfl
  have grows : ∀ (p : Option Addr) (cap : Nat), v = .slice p l.length cap → (p = none → l.length = 0 ∧ cap = 0) → cap < l.length + 1 → (∀ q, p = some q → ∀ (j : Nat) (u : Value), (encZ l)[j]? = some u → w.cell? (q.add j) = some u) → wpOp Tryd.prog ops Q i K a w := fun p cap hv hp hcap hcells => by
    obtain ⟨i0, hi, hz0, hz1, hz2⟩ := info_parts info_num
    refine wpOp_want h hw ?_
    have := step_append_grows (P := Tryd.prog) (ops := ops) (K := K) (Q := Q) (E := True) hgd s x 44 ho 3 i0 (.int .i64 0) 1 8 under_nums hi hz0 hz1 hz2 rfl (by decide) p l.length cap (encZ l) (by rw [hs, hv]) hp (by simp [encZ]) hcells ⟨g, 0, none⟩ 1 1 (encZ [y]) hx rfl hnew h1 (by omega) (by unfold maxLen; omega) (by omega)
      (fun v' w' h2 h3 => by
        have h4 : OwnInts w' w.heap.size v' (l ++ [y]) := by
          unfold OwnInts
          rw [List.map_append, List.length_append]
          exact h2
        exact hK v' w' (h4.mono hB) (grown_none h3 _) (fun q hq => .inr (h4.lt q hq).1))
    rwa [if_pos hw] at this
  obtain ⟨k1, k2⟩ := id hown
  rcases k2 with ⟨k2, k3⟩ | ⟨g', cap, cur, rfl, hg, hh, hn, hm, hsz, ht⟩
  · exact grows none 0 (by rw [k2, k3]) (fun _ => ⟨k3, rfl⟩) (by omega) (fun q hq => by cases hq)
  · by_cases hroom : l.length + 1 ≤ cap
    · obtain ⟨i0, hi, hz0, hz1, hz2⟩ := info_parts info_num
      refine wpOp_want h hw ?_
      obtain ⟨w', hrun, h2, h3⟩ := run_append_fits (P := Tryd.prog) w B 44 o.type 3 i0 1 under_nums hi hz1 g' l.length cap (l.map (Value.int .i64)) hown ⟨g, 0, none⟩ 1 1 (encZ [y]) rfl hnew h1 hroom
      unfold Oper.wp execOp
      simp only [ho, resolve, invoke, builtin, Sem.run_bind, Sem.run_pure, Result.andThen_ok, List.map_toArray, List.map_cons, List.map_nil, hs, hx, hrun]
      refine hK _ w' ?_ h3 (fun q hq => .inl hq)
      unfold OwnInts
      rw [List.map_append, List.length_append]
      exact h2
    · refine grows (some ⟨g', 0, none⟩) cap rfl (fun e => by cases e) (by omega) (fun q hq j u hj => ?_)
      cases hq
      obtain ⟨p2, c2, e2, hI, -⟩ := hown.at
      simp only [Value.slice.injEq] at e2
      obtain ⟨rfl, -, -⟩ := e2
      have hj2 : ∃ x, l[j]? = some x ∧ u = .int .i64 x := by
        rw [encZ, List.getElem?_map] at hj
        cases hlj : l[j]? with
        | none => rw [hlj] at hj; cases hj
        | some x => rw [hlj] at hj; simp at hj; exact ⟨x, rfl, hj.symm⟩
      obtain ⟨x, hx1, rfl⟩ := hj2
      obtain ⟨b2, o2, e3, -, hc2⟩ := hI j x hx1
      cases e3
      have key : ∀ o : Nat, (⟨g', o, none⟩ : Addr).add j = ⟨g', o + j, none⟩ := fun o => by simp [Addr.add]
      rw [key 0]
      exact hc2
theorem wpList_append_note {ops : Array Oper} {rest : List Oper} {o : Oper} {a : Act} {Q : Exit → Act → World → Prop} {w : World} (hgd : o.guard = none) (s x : Operand)
    (ho : o.op = .call { callee := .builtin .append, args := #[s, x], argTypes := #[24, 24] }) (B : Nat)
    (v : Value) (l : List Nt) (hs : a.eval s = v) (hown : OwnNs w B v l) (g : Nat) (y : Nt) (hx : a.eval x = .slice (some ⟨g, 0, none⟩) 1 1) (hc : Blk w g 38 (ntC y))
    (hl : l.length ≤ 1000) (hB : B ≤ w.heap.size) (n : Nat) (hn : n = l.length + 1)
    (h : ∀ q' c' w', OwnNs w' B (.slice q' n c') (l ++ [y]) → w.grownBy w' v.ownBlock → wpList Tryd.prog ops Q rest (a.put o.dst (.slice q' n c')) w') : wpList Tryd.prog ops Q (o :: rest) a w := by
  obtain ⟨i0, hi, hz0, hz1, hz2⟩ := info_parts info_note
  refine wpList_append_own w hgd s x 24 ho B 38 i0 (.agg #[.int .i64 0, .int .i64 0, .int .i64 0, .int .i64 0]) 4 32 under_notes hi hz0 hz1 hz2 rfl (by decide) v l.length _ hs hown ⟨g, 0, none⟩ 1 1 (encNs [y]) hx rfl ?_ (encNs_one _) ?_ ?_ hB ?_
  · intro j u hj
    match j, hj with
    | 0, hj => simp [encNs] at hj; subst hj; simpa [Addr.add] using hc.cell 0
    | 1, hj => simp [encNs] at hj; subst hj; simpa [Addr.add] using hc.cell 1
    | 2, hj => simp [encNs] at hj; subst hj; simpa [Addr.add] using hc.cell 2
    | 3, hj => simp [encNs] at hj; subst hj; simpa [Addr.add] using hc.cell 3
    | n + 4, hj => simp [encNs] at hj
  · unfold maxLen; omega
  · omega
  · intro v' w' h1 h2 _
    have h3 : OwnNs w' B v' (l ++ [y]) := by
      unfold OwnNs
      rw [encNs_append, List.length_append]
      exact h1
    obtain ⟨p, c, e, -⟩ := h3.at
    rw [List.length_append, List.length_singleton, ← hn] at e
    subst e
    exact h p c w' h3 h2
theorem grown_blk {w w' : World} {r : Option Nat} {g : Nat} {t : TypeId} {cs : Array Value} (h : w.grownBy w' r) (k : Blk w g t cs) (hr : r ≠ some g) : Blk w' g t cs := (h.block g k.lt (fun e => hr e.symm)).trans k
theorem OwnInts.grown {w w' : World} {B : Nat} {v : Value} {l : List Int} {r : Option Nat} (h : OwnInts w B v l) (hg : w.grownBy w' r) (hr : ∀ g, v.ownBlock = some g → r = some g → False) : OwnInts w' B v l := h.kept (fun g e => hg.block g (h.lt g e).2 (fun e2 => hr g e e2.symm))
end Go.Proofs.YtamknmgplhaciaaDoor

namespace Go.Proofs.YtamknmgplhaciaaDoor
open Go Go.RowKit Go.Shelf
section
variable {o : Oper} {w : World} (ρ : Operand → Value)
theorem run_fDay0 {g t : Nat} (hop : o.op = .fieldAddr 50 (.tmp t) 0) (hs : ρ (.tmp t) = .pointer (some ⟨g, 0, none⟩)) (hl : g < w.heap.size) : (execOp ρ o).run Tryd.prog w = .ok (.value (.pointer (some ⟨g, 0, none⟩))) w := by
  unfold execOp; simp [hop, hs, go_sem, hl]
theorem run_fDay1 {g t : Nat} (hop : o.op = .fieldAddr 50 (.tmp t) 1) (hs : ρ (.tmp t) = .pointer (some ⟨g, 0, none⟩)) (hl : g < w.heap.size) : (execOp ρ o).run Tryd.prog w = .ok (.value (.pointer (some ⟨g, 1, none⟩))) w := by
  unfold execOp; simp [hop, hs, go_sem, hl]
theorem run_bsInt {s : Nat} {x : Int} (hop : o.op = .buildSlice 44 1 #[(0, .tmp s)]) (h1 : ρ (.tmp s) = .int .i64 x) :
    (execOp ρ o).run Tryd.prog w = .ok (.value (.slice (some ⟨w.heap.size, 0, none⟩) 1 1)) (w.alloc (.cells #[.int .i64 x] 3)) := by
  unfold execOp; simp [hop, h1, go_sem]
end
theorem OwnInts.ints {w : World} {B n c : Nat} {p : Option Addr} {l : List Int} (h : OwnInts w B (.slice p n c) l) : IntsAt w p l := by
  obtain ⟨p2, c2, e, h2, -⟩ := h.at
  simp only [Value.slice.injEq] at e
  obtain ⟨rfl, -, -⟩ := e
  exact h2
/-- What lay in a world still does, but for two blocks. -/
structure Grown2 (w w' : World) (r1 r2 : Option Nat) : Prop where
  os : w'.os = w.os
  tape : w'.tape = w.tape
  output : w'.output = w.output
  size : w.heap.size ≤ w'.heap.size
  block : ∀ g, g < w.heap.size → r1 ≠ some g → r2 ≠ some g → w'.heap[g]? = w.heap[g]?
theorem Grown2.blk {w w' : World} {r1 r2 : Option Nat} {g : Nat} {t : TypeId} {cs : Array Value} (h : Grown2 w w' r1 r2) (k : Blk w g t cs) (h1 : r1 ≠ some g) (h2 : r2 ≠ some g) : Blk w' g t cs := (h.block g k.lt h1 h2).trans k
theorem Grown2.by {w w1 w2 : World} {r1 r2 r : Option Nat} (h : Grown2 w w1 r1 r2) (h2 : w1.grownBy w2 r) (hr : r = r1 ∨ r = r2) : Grown2 w w2 r1 r2 :=
  ⟨h2.os.trans h.os, h2.tape.trans h.tape, h2.output.trans h.output, Nat.le_trans h.size h2.size, fun g hg e1 e2 => (h2.block g (Nat.lt_of_lt_of_le hg h.size) (fun e => by
    rcases hr with hr | hr
    · exact e1 (by rw [← hr, e])
    · exact e2 (by rw [← hr, e]))).trans (h.block g hg e1 e2)⟩
theorem Grown2.bel {w w1 w2 : World} {r1 r2 : Option Nat} (h : Grown2 w w1 r1 r2) (hb : Below w1.heap.size w1 w2) : Grown2 w w2 r1 r2 :=
  ⟨hb.os.trans h.os, hb.tape.trans h.tape, hb.output.trans h.output, Nat.le_trans h.size hb.size, fun g hg e1 e2 => (hb.block g (Nat.lt_of_lt_of_le hg h.size)).trans (h.block g hg e1 e2)⟩
theorem Grown2.below {w w1 w2 : World} {r1 r2 : Option Nat} {B : Nat} (hb : Below B w w1) (h : Grown2 w1 w2 r1 r2) (hB : B ≤ w1.heap.size) (e1 : ∀ g, r1 = some g → B ≤ g) (e2 : ∀ g, r2 = some g → B ≤ g) : Below B w w2 :=
  { os := h.os.trans hb.os, tape := h.tape.trans hb.tape, output := h.output.trans hb.output, size := Nat.le_trans hb.size h.size, block := fun g hg => (h.block g (by omega) (fun e => by have := e1 g e; omega) (fun e => by have := e2 g e; omega)).trans (hb.block g hg) }
def tellR (gD B Z : Nat) (p1 p2 : Option Addr) (n c1 c2 : Nat) (hl rl : List Int) (hd rt : Int) (f : Nat → Bool) (i : Nat) (u : Value) (w : World) : Prop :=
  match i with
  | 0 => u = .pointer (some ⟨gD, 0, none⟩)
  | 1 => u = .slice p1 n c1
  | 2 => u = .int .i64 hd
  | 3 => ∃ g, u = .slice (some ⟨g, 0, none⟩) 1 1 ∧ Z ≤ g ∧ (f 4 = false → Blk w g 3 #[.int .i64 hd])
  | 4 => OwnInts w B u (hl ++ [hd]) ∧ ∀ q, u.ownBlock = some q → (Value.slice p1 n c1).ownBlock = some q ∨ Z ≤ q
  | 5 => u = .pointer (some ⟨gD, 1, none⟩)
  | 6 => u = .slice p2 n c2
  | 7 => u = .int .i64 rt
  | 8 => ∃ g, u = .slice (some ⟨g, 0, none⟩) 1 1 ∧ Z ≤ g ∧ (f 9 = false → Blk w g 3 #[.int .i64 rt])
  | 9 => OwnInts w B u (rl ++ [rt]) ∧ ∀ q, u.ownBlock = some q → (Value.slice p2 n c2).ownBlock = some q ∨ Z ≤ q
  | 10 => u = .pointer (some ⟨gD, 0, none⟩)
  | _ => True
structure TellS (w0 : World) (gD B : Nat) (p1 p2 : Option Addr) (n c1 c2 : Nat) (hl rl : List Int) (f : Nat → Bool) (a : Act) (w : World) : Prop where
  old : Grown2 w0 w (Value.slice p1 n c1).ownBlock (Value.slice p2 n c2).ownBlock
  day : Blk w gD 50 #[.slice p1 n c1, .slice p2 n c2]
  one : f 4 = false → OwnInts w B (.slice p1 n c1) hl
  two : f 9 = false → OwnInts w B (.slice p2 n c2) rl
  dis : f 4 = true → f 9 = true → ∀ q, (a.tmps.getD 117 undef).ownBlock = some q → (a.tmps.getD 122 undef).ownBlock = some q → False
section
variable {w0 : World} {gD B Z : Nat} {p1 p2 : Option Addr} {n c1 c2 : Nat} {hl rl : List Int} {hd rt : Int} {f f' : Nat → Bool}
theorem tellR_f (h4 : f' 4 = f 4) (h9 : f' 9 = f 9) {i : Nat} {u : Value} {w : World} (h : tellR gD B Z p1 p2 n c1 c2 hl rl hd rt f i u w) : tellR gD B Z p1 p2 n c1 c2 hl rl hd rt f' i u w := by
  match i, h with
  | 0, h => exact h
  | 1, h => exact h
  | 2, h => exact h
  | 3, h => obtain ⟨g, e1, e2, e3⟩ := h; exact ⟨g, e1, e2, fun e => e3 (by rw [← h4]; exact e)⟩
  | 4, h => exact h
  | 5, h => exact h
  | 6, h => exact h
  | 7, h => exact h
  | 8, h => obtain ⟨g, e1, e2, e3⟩ := h; exact ⟨g, e1, e2, fun e => e3 (by rw [← h9]; exact e)⟩
  | 9, h => exact h
  | 10, h => exact h
  | k + 11, h => trivial
theorem tellR_bel {i : Nat} {u : Value} {w w' : World} (h : tellR gD B Z p1 p2 n c1 c2 hl rl hd rt f i u w) (hb : Below w.heap.size w w') : tellR gD B Z p1 p2 n c1 c2 hl rl hd rt f i u w' := by
  match i, h with
  | 0, h => exact h
  | 1, h => exact h
  | 2, h => exact h
  | 3, h => obtain ⟨g, e1, e2, e3⟩ := h; exact ⟨g, e1, e2, fun e => (e3 e).bel hb⟩
  | 4, h => exact ⟨h.1.below hb, h.2⟩
  | 5, h => exact h
  | 6, h => exact h
  | 7, h => exact h
  | 8, h => obtain ⟨g, e1, e2, e3⟩ := h; exact ⟨g, e1, e2, fun e => (e3 e).bel hb⟩
  | 9, h => exact ⟨h.1.below hb, h.2⟩
  | 10, h => exact h
  | k + 11, h => trivial
theorem put_ne {a : Act} {d s : Nat} {v : Value} (h : d ≠ s) : (a.put (some d) v).tmps.getD s undef = a.tmps.getD s undef := by
  simp [Act.put, Array.getElem?_setIfInBounds_ne h]
theorem TellS.bel {a : Act} {w w' : World} (h : TellS w0 gD B p1 p2 n c1 c2 hl rl f a w) (hb : Below w.heap.size w w') (h4 : f' 4 = f 4) (h9 : f' 9 = f 9) {d : Nat} {v : Value} (d1 : d ≠ 117) (d2 : d ≠ 122) : TellS w0 gD B p1 p2 n c1 c2 hl rl f' (a.put (some d) v) w' :=
  ⟨h.old.bel hb, h.day.bel hb, fun e => (h.one (by rw [← h4]; exact e)).below hb, fun e => (h.two (by rw [← h9]; exact e)).below hb, fun e1 e2 => by
    rw [put_ne d1, put_ne d2]
    exact h.dis (by rw [← h4]; exact e1) (by rw [← h9]; exact e2)⟩
end
end Go.Proofs.YtamknmgplhaciaaDoor

