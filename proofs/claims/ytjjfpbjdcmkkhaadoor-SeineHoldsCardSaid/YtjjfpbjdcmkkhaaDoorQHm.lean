/- The reference: what holds at an hour, plainly. -/
/- The reference: parts of a book's notes keep their order. -/
/- The reference: at. -/
import Derived.Test.YtjjfpbjdcmkkhaaDoorQHk
import Derived.Test.YtjjfpbjdcmkkhaaDoorQPc
import Derived.Test.YtjjfpbjdcmkkhaaDoorQNh
set_option linter.unusedSimpArgs false
set_option linter.unusedVariables false
namespace Go.Proofs.YtjjfpbjdcmkkhaaDoor
open Go Go.RowKit Go.Shelf
theorem endH_take (ns : List Nt) : ∀ (k : Nat) (fr : Int), k ≤ ns.length → endH fr (ns.take k) = pastF fr ns k := by
  induction ns with
  | nil => intro k fr hk; simp at hk; subst hk; rfl
  | cons s ns ih =>
    intro k fr hk
    cases k with
    | zero => rfl
    | succ k =>
      rw [List.take_succ_cons, pastF_cons]
      exact ih k s.hour (by simpa using hk)
theorem take_get {ns : List Nt} {k i : Nat} (h : i < k) : (ns.take k)[i]? = ns[i]? := List.getElem?_take_of_lt h
theorem pastF_take {ns : List Nt} {k : Nat} (fr : Int) : ∀ {i : Nat}, i ≤ k → pastF fr (ns.take k) i = pastF fr ns i
  | 0, _ => rfl
  | i + 1, h => by simp only [pastF]; rw [take_get (by omega)]
theorem pastF_drop {ns : List Nt} {k : Nat} (h fr : Int) {i : Nat} (hi : 0 < i) : pastF h (ns.drop k) i = pastF fr ns (k + i) := by
  obtain ⟨j, rfl⟩ : ∃ j, i = j + 1 := ⟨i - 1, by omega⟩
  rw [← Nat.add_assoc]
  simp only [pastF, List.getElem?_drop]
theorem leads_bd : ∀ {ns : List Nt} {fr : Int} {x z : Int × Int}, (∀ s ∈ ns, (0 ≤ s.kind ∧ s.kind ≤ 4) ∧ SpanOK s.lo s.hi (mostOf s.kind)) → (0 ≤ x.1 ∧ x.1 ≤ 400) → 0 ≤ x.2 → Leads fr ns x z → (0 ≤ z.1 ∧ z.1 ≤ 400) ∧ 0 ≤ z.2
  | [], fr, x, z, _, h1, h2, h => by rw [show z = x from h]; exact ⟨h1, h2⟩
  | s :: ns, fr, x, z, ho, h1, h2, ⟨y, hy, hz⟩ => by
    have h4 := aftS_bd (n := s.hour - fr) h1 h2
    have h5 := behL_bd (ho s (by simp)).1 (ho s (by simp)).2 h4.1.1 (by rw [h4.2]; exact h2) hy
    exact leads_bd (fun t ht => ho t (by simp [ht])) ⟨by omega, by omega⟩ h5.2.2.1 hz
theorem at_leads {b : Sn} (hok : Ok9 b) {h : Int} (h0 : 0 ≤ h) {z : Int × Int} : z ∈ atL b h ↔ ∃ y, (∃ x ∈ startL b.lo b.hi, Leads 0 (b.ns.take (upN b.ns h)) x y) ∧ z = aftS y (h - endH 0 (b.ns.take (upN b.ns h))) ∧ ∃ u, Leads h (b.ns.drop (upN b.ns h)) z u := by
  have hl := upN_le b.ns h
  have hp : 0 ≤ h - pastN b.ns (upN b.ns h) := (sinN_bd hok h0).1
  have hnx := fun s => upN_not (ns := b.ns) (h := h) (s := s)
  rw [mem_atL]
  unfold sinN
  generalize hk : upN b.ns h = k at *
  rw [endH_take b.ns k 0 hl, pastF_zero]
  have hlen : (b.ns.take k).length = k := by rw [List.length_take]; omega
  constructor
  · rintro ⟨f, hf, rfl⟩
    obtain ⟨⟨b1, b2⟩, b3, b4⟩ := path_K hok hf hl
    obtain ⟨g, hg0, hgs⟩ : ∃ g : Nat → Int × Int, g 0 = aftS (f k) (h - pastN b.ns k) ∧ ∀ n, g (n + 1) = f (k + (n + 1)) := ⟨fun n => if n = 0 then aftS (f k) (h - pastN b.ns k) else f (k + n), rfl, fun n => if_neg (by omega)⟩
    refine ⟨f k, ⟨f 0, hf.1, leads_iff.2 ⟨f, rfl, by rw [hlen], fun i s hs => ?_⟩⟩, rfl, _, leads_iff.2 ⟨g, hg0, rfl, fun i s hs => ?_⟩⟩
    · have hi : i < k := by have := (List.getElem?_eq_some_iff.1 hs).1; rw [hlen] at this; exact this
      rw [take_get hi] at hs
      have := hf.2 i s hs
      unfold befS at this
      rw [gapN_at hs] at this
      rw [pastF_take 0 (by omega), pastF_zero]
      exact this
    · rw [List.getElem?_drop] at hs
      have h3 := hf.2 (k + i) s hs
      unfold befS at h3
      rw [gapN_at hs] at h3
      rw [hgs]
      cases i with
      | zero =>
        have h4 := hnx s hs
        rw [hg0]
        show f (k + 1) ∈ behL s (aftS (aftS (f k) (h - pastN b.ns k)) (s.hour - h))
        rw [aft_aft b1 b3 hp (by omega), show h - pastN b.ns k + (s.hour - h) = s.hour - pastN b.ns k by omega]
        exact h3
      | succ i =>
        rw [hgs, pastF_drop h 0 (by omega), pastF_zero]
        exact h3
  · rintro ⟨y, ⟨x, hx, h1⟩, rfl, u, h2⟩
    have hxb := startL_bd (by have := hok.span; unfold SpanOK at this; omega) x hx
    have hyb := leads_bd (fun s hs => by
      obtain ⟨i, hi⟩ := List.getElem?_of_mem (List.mem_of_mem_take hs)
      have := hok.nt hi
      exact ⟨this.1, this.2.2⟩) hxb.1 hxb.2.1 h1
    obtain ⟨g1, p1, p2, p3⟩ := leads_iff.1 h1
    obtain ⟨g2, r1, r2, r3⟩ := leads_iff.1 h2
    rw [hlen] at p2
    obtain ⟨f, f1, f2⟩ : ∃ f : Nat → Int × Int, (∀ n, n ≤ k → f n = g1 n) ∧ ∀ n, k < n → f n = g2 (n - k) := ⟨fun n => if n ≤ k then g1 n else g2 (n - k), fun n hn => if_pos hn, fun n hn => if_neg (by omega)⟩
    refine ⟨f, ⟨by rw [f1 0 (by omega), p1]; exact hx, fun i s hs => ?_⟩, by rw [f1 k (Nat.le_refl _), p2]⟩
    unfold befS
    rw [gapN_at hs]
    by_cases hi : i < k
    · rw [f1 (i + 1) (by omega), f1 i (by omega)]
      have := p3 i s (by rw [take_get hi]; exact hs)
      rw [pastF_take 0 (by omega), pastF_zero] at this
      exact this
    · have h3 := r3 (i - k) s (by rw [List.getElem?_drop, show k + (i - k) = i by omega]; exact hs)
      rw [f2 (i + 1) (by omega), show i + 1 - k = i - k + 1 by omega]
      by_cases hik : i = k
      · subst hik
        rw [f1 i (Nat.le_refl _), p2]
        have h4 := hnx s hs
        rw [Nat.sub_self] at h3 ⊢
        rw [r1] at h3
        have h5 : g2 (0 + 1) ∈ behL s (aftS (aftS y (h - pastN b.ns i)) (s.hour - h)) := h3
        rw [aft_aft hyb.1.1 hyb.2 hp (by omega), show h - pastN b.ns i + (s.hour - h) = s.hour - pastN b.ns i by omega] at h5
        exact h5
      · rw [f2 i (by omega)]
        rw [pastF_drop h 0 (by omega), pastF_zero, show k + (i - k) = i by omega] at h3
        exact h3
end Go.Proofs.YtjjfpbjdcmkkhaaDoor

namespace Go.Proofs.YtjjfpbjdcmkkhaaDoor
open Go Go.RowKit Go.Shelf
theorem chain_take : ∀ {ns : List Nt} {fr : Int} (k : Nat), chainN fr ns = true → chainN fr (ns.take k) = true
  | [], fr, k, h => by simpa using h
  | s :: ns, fr, 0, h => rfl
  | s :: ns, fr, k + 1, h => by
    simp only [chainN, Bool.and_eq_true, List.take_succ_cons] at h ⊢
    exact ⟨h.1, chain_take k h.2⟩
theorem chain_drop : ∀ {ns : List Nt} {fr h : Int} (k : Nat), chainN fr ns = true → (∀ s, ns[k]? = some s → h ≤ s.hour) → chainN h (ns.drop k) = true
  | [], fr, h, k, h1, h2 => by rw [List.drop_nil]; rfl
  | s :: ns, fr, h, 0, h1, h2 => by
    simp only [chainN, Bool.and_eq_true, decide_eq_true_eq, List.drop_zero] at h1 ⊢
    exact ⟨⟨h1.1.1, h2 s rfl⟩, h1.2⟩
  | s :: ns, fr, h, k + 1, h1, h2 => by
    simp only [chainN, Bool.and_eq_true] at h1
    rw [List.drop_succ_cons]
    exact chain_drop k h1.2 fun t ht => h2 t (by simpa using ht)
/-- Those of a book at an hour: what through asks of both parts. -/
theorem parts_ok {b : Sn} (hok : Ok9 b) {h : Int} : chainN 0 (b.ns.take (upN b.ns h)) = true ∧ chainN h (b.ns.drop (upN b.ns h)) = true ∧ (b.ns.take (upN b.ns h)).length = upN b.ns h ∧ (b.ns.drop (upN b.ns h)).length = b.ns.length - upN b.ns h := by
  have hl := upN_le b.ns h
  exact ⟨chain_take _ hok.chain, chain_drop _ hok.chain fun s hs => Int.le_of_lt (upN_not hs), by rw [List.length_take]; omega, List.length_drop⟩
/-- A state alone, in an array of its own. -/
theorem RsAt.one {w : World} {g : Nat} {z : Int × Int} (h : Blk w g 96 #[.int .i64 z.1, .int .i64 z.2]) : RsAt w (some ⟨g, 0, none⟩) [z] := fun i s hi => by
  cases i with
  | zero =>
    simp at hi; subst hi
    exact ⟨g, 0, rfl, h.lt, h.cell 0, h.cell 1⟩
  | succ i => simp at hi
theorem at_bd {b : Sn} (hok : Ok9 b) {h : Int} {z : Int × Int} (hz : z ∈ atL b h) : StR 81 z := by
  obtain ⟨f, hf, rfl⟩ := mem_At hz
  exact At_bd hok hf h
end Go.Proofs.YtjjfpbjdcmkkhaaDoor

namespace Go.Proofs.YtjjfpbjdcmkkhaaDoor
open Go Go.RowKit Go.Shelf
theorem through_n (l : List (Int × Int)) (p : Option Addr) (c : Nat) (fr : Int) (ns : List Nt) (p2 : Option Addr) (c2 : Nat) (k0 n m : Nat) (w : World) (en : l.length = n) (em : ns.length = m) (hl : RsAt w p l) (hst : ∀ st ∈ l, StR (9 * (k0 : Int)) st) (hn : l.length * 13 ^ ns.length ≤ 8000000000000) (hfr : 0 ≤ fr ∧ fr ≤ 60) (hns : NotesAt w p2 ns) (hch : chainN fr ns = true) (hk : k0 + ns.length ≤ 9) :
    Calls Tryd.prog 70 #[.slice p n c, .int .i64 fr, .slice p2 m c2] w fun e w' => ∃ (p' : Option Addr) (c' : Nat) (out : List (Int × Int)), e = .returned (.tuple #[.slice p' out.length c', .int .i64 (endH fr ns)]) ∧ RsAt w' p' out ∧ (∀ z, z ∈ out ↔ ∃ x ∈ l, Leads fr ns x z) ∧ (∀ st ∈ out, StR (9 * ((k0 + ns.length : Nat) : Int)) st) ∧ out.length ≤ 8000000000000 ∧ Below w.heap.size w w' := by
  subst en em
  exact through_r l p c fr ns p2 c2 k0 w hl hst hn hfr hns hch hk
section
variable {o : Oper} {w : World} (ρ : Operand → Value)
theorem run_slHi {s t N c k : Nat} {p : Option Addr} (hop : o.op = .slice 24 (.tmp s) none (some (.tmp t)) none) (hs : ρ (.tmp s) = .slice p N c) (ht : ρ (.tmp t) = .int .i64 k) (hk : k ≤ c) (hp : ∀ a, p = some a → ∃ b o, a = ⟨b, o, none⟩) (hk0 : p = none → c = 0) :
    (execOp ρ o).run Tryd.prog w = .ok (.value (.slice p k c)) w := by
  have k0 : (0 : Int) ≤ (k : Int) := by omega
  have k1 : (k : Int) ≤ (c : Int) := by omega
  cases p with
  | none =>
    obtain rfl := hk0 rfl
    obtain rfl : k = 0 := by omega
    unfold execOp; simp [hop, hs, ht, go_sem]
  | some a =>
    obtain ⟨b, o', rfl⟩ := hp _ rfl
    unfold execOp; simp [hop, hs, ht, go_sem, k0, k1]
theorem run_bsRst {s : Nat} {a b : Int} (hop : o.op = .buildSlice 93 1 #[(0, .tmp s)]) (h1 : ρ (.tmp s) = .agg #[.int .i64 a, .int .i64 b]) :
    (execOp ρ o).run Tryd.prog w = .ok (.value (.slice (some ⟨w.heap.size, 0, none⟩) 1 1)) (w.alloc (.cells #[.int .i64 a, .int .i64 b] 96)) := by
  unfold execOp; simp [hop, h1, go_sem]
end
theorem begun_n (b : Sn) (p : Option Addr) (c N : Nat) (w : World) (en : b.ns.length = N) (h0 : 0 ≤ b.lo) (h1 : b.lo ≤ b.hi) (h2 : b.hi ≤ 400) :
    Calls Tryd.prog 71 #[.agg #[.int .i64 b.lo, .int .i64 b.hi, .slice p N c]] w fun e w' => ∃ v, e = .returned v ∧ OwnRs w' w.heap.size v (startL b.lo b.hi) ∧ ∃ x, w' = ext w x := by
  subst en; exact begun_r b p c w h0 h1 h2
/-- Notes from one of them on, wherever their slice then begins. -/
theorem st_slTail {ops : Array Oper} {Q : Exit → Act → World → Prop} {i : Nat} {o : Oper} {K : Act → World → Prop} {a : Act} {w : World} {s t k N : Nat} {ns : List Nt} {p : Option Addr} {c : Nat} (h : ops[i]? = some o) (hw : Region.wanted o (yielded ops a.tmps) = true)
    (hop : o.op = .slice 24 (.tmp s) (some (.tmp t)) none none) (hs : a.tmps.getD s undef = .slice p N c) (ht : a.tmps.getD t undef = .int .i64 k) (en : ns.length = N) (hk : k ≤ N) (hN : N ≤ c) (hp : ∀ a, p = some a → ∃ b o, a = ⟨b, o, none⟩) (hk0 : p = none → c = 0) (hl : NotesAt w p ns)
    (hK : ∀ p2 c2, NotesAt w p2 (ns.drop k) → K (a.put o.dst (.slice p2 (N - k) c2)) w) : wpOp Tryd.prog ops Q i K a w := by
  subst en
  cases p with
  | none =>
    obtain rfl := hk0 rfl
    have e0 : ns.length = 0 := by omega
    obtain rfl : k = 0 := by omega
    have hs' : a.eval (.tmp s) = .slice none 0 0 := by have e := hs; rw [e0] at e; exact e
    refine st_val h hw (run_slFrom0 a.eval hop hs' ht rfl) ?_
    have := hK none 0 (by rw [List.drop_zero]; exact hl)
    rw [e0] at this
    exact this
  | some ad =>
    obtain ⟨b, o', rfl⟩ := hp _ rfl
    refine st_slFrom h hw hop hs ht hk hN fun o2 h2 => hK _ _ ?_
    by_cases hc : c = k
    · rw [List.drop_of_length_le (by omega)]
      intro j x hj
      simp at hj
    · rw [h2 hc]
      exact hl.drop k
/-- Those states of a book that lie at the hour of its notes up to one. -/
def FstR (b : Sn) (k : Nat) (w : World) (q : Option Addr) (out : List (Int × Int)) : Prop :=
  RsAt w q out ∧ (∀ z, z ∈ out ↔ ∃ x ∈ startL b.lo b.hi, Leads 0 (b.ns.take k) x z) ∧ (∀ st ∈ out, StR (9 * (k : Int)) st) ∧ out.length ≤ 8000000000000
theorem FstR.bel {b : Sn} {k : Nat} {w w' : World} {q : Option Addr} {out : List (Int × Int)} (h : FstR b k w q out) (hb : Below w.heap.size w w') : FstR b k w' q out := ⟨h.1.below hb, h.2⟩
/-- What the operations leave that go through the notes of an hour. -/
def atfR (B N : Nat) (b : Sn) (p : Option Addr) (c k : Nat) (fr : Int) (i : Nat) (u : Value) (w : World) : Prop :=
  match i with
  | 0 => u = .agg #[.int .i64 b.lo, .int .i64 b.hi, .slice p N c]
  | 1 => ∃ q d, u = .slice q (startL b.lo b.hi).length d ∧ RsAt w q (startL b.lo b.hi)
  | 2 => u = .pointer (some ⟨B, 2, none⟩)
  | 3 => u = .slice p N c
  | 4 => u = .int .i64 k
  | 5 => u = .slice p k c
  | 6 => ∃ (q : Option Addr) (d : Nat) (out : List (Int × Int)), u = .tuple #[.slice q out.length d, .int .i64 fr] ∧ FstR b k w q out
  | 7 => ∃ (q : Option Addr) (d : Nat) (out : List (Int × Int)), u = .tuple #[.slice q out.length d, .int .i64 fr] ∧ FstR b k w q out
  | 8 => ∃ (q : Option Addr) (d : Nat) (out : List (Int × Int)), u = .slice q out.length d ∧ FstR b k w q out
  | 9 => u = .int .i64 fr
  | 10 => ∃ (q : Option Addr) (d : Nat) (out : List (Int × Int)), u = .slice q out.length d ∧ FstR b k w q out
  | _ => True
theorem atfR_kept (B N : Nat) (b : Sn) (p : Option Addr) (c k : Nat) (fr : Int) : ∀ i, i < 11 → ∀ (u : Value) (w w' : World), atfR B N b p c k fr i u w → Below w.heap.size w w' → atfR B N b p c k fr i u w' := by
  intro i hi u w w' h hb
  match i, hi, h with
  | 0, _, h => exact h
  | 1, _, h => obtain ⟨q, d, h1, h2⟩ := h; exact ⟨q, d, h1, h2.below hb⟩
  | 2, _, h => exact h
  | 3, _, h => exact h
  | 4, _, h => exact h
  | 5, _, h => exact h
  | 6, _, h => obtain ⟨q, d, out, h1, h2⟩ := h; exact ⟨q, d, out, h1, h2.bel hb⟩
  | 7, _, h => obtain ⟨q, d, out, h1, h2⟩ := h; exact ⟨q, d, out, h1, h2.bel hb⟩
  | 8, _, h => obtain ⟨q, d, out, h1, h2⟩ := h; exact ⟨q, d, out, h1, h2.bel hb⟩
  | 9, _, h => exact h
  | 10, _, h => obtain ⟨q, d, out, h1, h2⟩ := h; exact ⟨q, d, out, h1, h2.bel hb⟩
  | k + 11, hk, _ => omega
/-- What the operations leave that ask whether a state leads on. -/
def atlR (B N : Nat) (b : Sn) (p : Option Addr) (c k : Nat) (h : Int) (z : Int × Int) (i : Nat) (u : Value) (w : World) : Prop :=
  match i with
  | 0 => u = .agg #[.int .i64 z.1, .int .i64 z.2]
  | 1 => ∃ g, u = .slice (some ⟨g, 0, none⟩) 1 1 ∧ RsAt w (some ⟨g, 0, none⟩) [z]
  | 2 => u = .int .i64 h
  | 3 => u = .pointer (some ⟨B, 2, none⟩)
  | 4 => u = .slice p N c
  | 5 => u = .int .i64 k
  | 6 => ∃ p2 c2, u = .slice p2 (N - k) c2 ∧ NotesAt w p2 (b.ns.drop k)
  | 7 => ∃ (q : Option Addr) (d n : Nat) (fr : Int), u = .tuple #[.slice q n d, .int .i64 fr] ∧ (n ≠ 0 ↔ ∃ u, Leads h (b.ns.drop k) z u) ∧ n ≤ 8000000000000
  | 8 => ∃ (q : Option Addr) (d n : Nat) (fr : Int), u = .tuple #[.slice q n d, .int .i64 fr] ∧ (n ≠ 0 ↔ ∃ u, Leads h (b.ns.drop k) z u) ∧ n ≤ 8000000000000
  | 9 => ∃ (q : Option Addr) (d n : Nat), u = .slice q n d ∧ (n ≠ 0 ↔ ∃ u, Leads h (b.ns.drop k) z u) ∧ n ≤ 8000000000000
  | 10 => ∃ fr : Int, u = .int .i64 fr
  | 11 => ∃ (q : Option Addr) (d n : Nat), u = .slice q n d ∧ (n ≠ 0 ↔ ∃ u, Leads h (b.ns.drop k) z u) ∧ n ≤ 8000000000000
  | _ => True
theorem atlR_kept (B N : Nat) (b : Sn) (p : Option Addr) (c k : Nat) (h : Int) (z : Int × Int) : ∀ i, i < 12 → ∀ (u : Value) (w w' : World), atlR B N b p c k h z i u w → Below w.heap.size w w' → atlR B N b p c k h z i u w' := by
  intro i hi u w w' h hb
  match i, hi, h with
  | 0, _, h => exact h
  | 1, _, h => obtain ⟨g, h1, h2⟩ := h; exact ⟨g, h1, h2.below hb⟩
  | 2, _, h => exact h
  | 3, _, h => exact h
  | 4, _, h => exact h
  | 5, _, h => exact h
  | 6, _, h => obtain ⟨p2, c2, h1, h2⟩ := h; exact ⟨p2, c2, h1, h2.below hb⟩
  | 7, _, h => exact h
  | 8, _, h => exact h
  | 9, _, h => exact h
  | 10, _, h => exact h
  | 11, _, h => exact h
  | k + 12, hk, _ => omega
attribute [local go_sem] Oper.semAt_some frozen_alloc_lt
set_option maxRecDepth 100000 in
set_option maxHeartbeats 8000000 in
theorem at_r (b : Sn) (p : Option Addr) (c : Nat) (h : Int) (w : World) (hl : NotesAt w p b.ns) (hc : SBc b p c) (hok : Ok9 b) (hh : 0 ≤ h ∧ h ≤ 60) :
    Calls Tryd.prog 63 #[bV b p c, .int .i64 h] w fun e w' => ∃ (p' : Option Addr) (c' : Nat) (out : List (Int × Int)), e = .returned (.slice p' out.length c') ∧ RsAt w' p' out ∧ (∀ z, z ∈ out ↔ z ∈ atL b h) ∧ out.length ≤ 8000000000000 ∧ Below w.heap.size w w' := by
  have hsp : 0 ≤ b.lo ∧ b.lo ≤ b.hi ∧ b.hi ≤ 400 := by have := hok.span; unfold SpanOK at this; omega
  have hlen := hok.len
  have HL := Lib.hid hl
  have HC := Lib.hid hc
  have HOK := Lib.hid hok
  clear hl hc hok
  obtain ⟨gb, hgb⟩ : ∃ gb, gb = w.heap.size := ⟨_, rfl⟩
  dsimp only [bV]
  generalize hN : b.ns.length = N at *
  have HN := Lib.hid hN
  clear hN
  go_enter Tryd.func63, Tryd.ntmps63
  go_upto_region 1 with fail
  rw [← hgb]
  generalize hW : w.alloc _ = W
  have hWB : Below w.heap.size w W := by rw [← hW]; (repeat (first | (with_reducible exact Below.refl _ _) | (with_reducible assumption) | ((with_reducible refine below_ext_trans ?_ ?_ _); rotate_left; focus (((try dsimp only); repeat (first | omega | simp only [World.size_alloc, World.size_setCell, World.size_drew] | (with_reducible refine le_ext_of ?_) | (with_reducible refine le_ext_add ?_))); done)) | ((with_reducible refine Below.alloc ?_ ?_ _); rotate_left; focus (((try dsimp only); repeat (first | omega | simp only [World.size_alloc, World.size_setCell, World.size_drew] | (with_reducible refine le_ext_of ?_) | (with_reducible refine le_ext_add ?_))); done)) | ((with_reducible refine Below.setCell ?_ ?_ _); rotate_left; focus (((try dsimp only); repeat (first | omega | simp only [World.size_alloc, World.size_setCell, World.size_drew] | (with_reducible refine le_ext_of ?_) | (with_reducible refine le_ext_add ?_))); done)) | (with_reducible refine Below.drew ?_)))
  have kb : Blk W gb 26 #[.int .i64 b.lo, .int .i64 b.hi, .slice p N c] := by rw [← hW]; exact Blk.new hgb
  have hWs : W.heap.size = gb + 1 := by rw [← hW, hgb]; simp
  have HW := Lib.hid hWB
  have KB := Lib.hid kb
  have HGB := Lib.hid hgb
  have HWS := Lib.hid hWs
  have HL1 := Lib.hid (HL.out.below hWB)
  have q2 := kb.cell 2
  have lb := kb.lt
  simp only [List.size_toArray, List.length_cons, List.length_nil, Nat.reduceAdd, Nat.reduceLT, getElem?_pos, List.getElem_toArray, List.getElem_cons_zero, List.getElem_cons_succ] at q2
  clear hW hWB kb hgb hWs
  go_wp2_with fail
  go_loopw [5] (fun i wr => ∃ k : Nat, k ≤ N ∧ i = .int .i64 k ∧ Hid (∀ (j : Nat) s, j < k → b.ns[j]? = some s → s.hour ≤ h) ∧ Hid (Below W.heap.size W wr)) (fun i _ => N - (intOf i).toNat)
  case atStart => exact ⟨0, by omega, rfl, Lib.hid (fun j s hj => by omega), Lib.hid (Below.refl _ _)⟩
  case round =>
    obtain ⟨k, hk, rfl, HP, HB⟩ := hrel
    have kr := KB.out.bel HB.out
    have HNS := Lib.hid (HL1.out.below HB.out)
    have HKR := Lib.hid kr
    have q2' := kr.cell 2
    have lb' := kr.lt
    simp only [List.size_toArray, List.length_cons, List.length_nil, Nat.reduceAdd, Nat.reduceLT, getElem?_pos, List.getElem_toArray, List.getElem_cons_zero, List.getElem_cons_succ] at q2'
    clear kr q2 lb
    obtain ⟨gg, hgg⟩ : ∃ gg : Bool, gg = true ↔ (k < N ∧ ∀ s, b.ns[k]? = some s → s.hour ≤ h) := ⟨decide _, decide_eq_true_iff⟩
    have HGG := Lib.hid hgg
    clear hgg
    go_upto_region 2 with fail
    go_cut [27] from 13 to 29 (fun v wx => v = .bool gg ∧ wx = wr)
    case first =>
      by_cases hlt : k < N
      · obtain ⟨s, hs⟩ := get_some b.ns k (by have := HN.out; omega)
        obtain ⟨bl, ol, hp, hbl, -, cl1, -, -⟩ := HNS.out k s hs
        subst hp
        have k0 : (0 : Int) ≤ (k : Int) := by omega
        have k1 : (k : Int) < (N : Int) := by omega
        have hc : decide (k < N) = true := by simpa using hlt
        have HH := Lib.hid (show decide (s.hour ≤ h) = gg by
          rw [Bool.eq_iff_iff, decide_eq_true_eq, HGG.out]
          exact ⟨fun e => ⟨hlt, fun t ht => by rw [hs] at ht; cases ht; exact e⟩, fun e => e.2 s hs⟩)
        clear hlt hs
        go_wp2_with fail
        go_meet
        exact ⟨congrArg Value.bool HH.out, rfl⟩
      · have hc : decide (k < N) = false := by simpa using hlt
        have hc2 : decide ((k : Int) < (N : Int)) = false := by simp; omega
        have HH := Lib.hid (show gg = false by
          rw [Bool.eq_false_iff, ne_eq, HGG.out]
          exact fun e => hlt e.1)
        clear hlt
        go_wp2_with fail
        go_meet
        exact ⟨congrArg Value.bool HH.out.symm, rfl⟩
    case rest =>
      obtain ⟨rfl, rfl⟩ := hcut
      cases gg with
      | true =>
        have HX := Lib.hid (HGG.out.1 rfl)
        have HKN := Lib.hid HX.out.1
        have HP2 := Lib.hid (show ∀ (j : Nat) s', j < k + 1 → b.ns[j]? = some s' → s'.hour ≤ h from fun j s' hj hs' => by
          by_cases e : j = k
          · subst e; exact HX.out.2 s' hs'
          · exact HP.out j s' (by omega) hs')
        have hk1 : k + 1 ≤ N := HKN.out
        have e1 : IntKind.i64.wrap ((k : Int) + 1) = ((k + 1 : Nat) : Int) := by rw [IntWalk.i64_in _ (by omega)]; push_cast; rfl
        go_wp2_with fail
        go_roundw
        case rel => exact ⟨k + 1, by omega, rfl, HP2, HB⟩
        case measure => simp [intOf]; omega
      | false =>
        have HU := Lib.hid (show upN b.ns h = k from upN_at (fun i t hi ht => HP.out i t hi ht) (by have := HN.out; omega) (fun t ht e => by
          have := HGG.out.2 ⟨by have h2 := (List.getElem?_eq_some_iff.1 ht).1; have := HN.out; omega, fun s hs => by rw [ht] at hs; cases hs; exact e⟩
          cases this))
        clear HGG HP
        obtain ⟨hp1, hp2, hp3, hp4⟩ := parts_ok HOK.out (h := h)
        have hfr0 := endH_take b.ns k 0 (by have := HN.out; omega)
        have hsin := sinN_bd HOK.out hh.1
        unfold sinN at hsin
        rw [HU.out] at hp1 hp2 hp3 hp4 hsin
        rw [HN.out] at hp4
        rw [pastF_zero] at hfr0
        obtain ⟨fr, hfr⟩ : ∃ fr, endH 0 (b.ns.take k) = fr := ⟨_, rfl⟩
        rw [hfr] at hfr0
        have hfb : 0 ≤ h - fr ∧ h - fr ≤ 60 := by rw [hfr0]; omega
        have HCH1 := Lib.hid hp1
        have HCH2 := Lib.hid hp2
        have HLN1 := Lib.hid hp3
        have HLN2 := Lib.hid hp4
        have HFR := Lib.hid hfr
        clear hp1 hp2 hp3 hp4 hfr0 hsin hfr
        go_upto_region 4 with fail
        clear q2' lb'
        refine wp_region_flow_back 11 73 (atfR gb N b p c k fr) (by kernel_rfl) (by kernel_rfl) rfl (atfR_kept _ _ _ _ _ _ _) ?_ ?_
        · intro i hin a X g1 g2 g3 g4 g5 KK hKK
          have kX := HKR.out.bel g5
          have hc2 := kX.cell 2
          match i, hin with
          | 0, _ => exact st_val rfl (wanted_none rfl) (run_lBookS _ rfl (g3 2 (by kernel_rfl)) kX) (hKK _ _ rfl (Below.refl _ _))
          | 1, _ =>
            refine st_call rfl rfl (wanted_none rfl) (sargs1 (g4 0 (by kernel_rfl))) (run_enter Tryd.func71 (by kernel_rfl) (by kernel_rfl) _) ?_
            refine (begun_n b p c N X HN.out hsp.1 hsp.2.1 hsp.2.2).mono ?_
            rintro e w1 ⟨v, rfl, h1, x, rfl⟩
            obtain ⟨q, d, rfl, h2⟩ := h1.at
            exact ⟨_, rfl, hKK _ _ ⟨q, d, rfl, h2⟩ (below_ext _ x)⟩
          | 2, _ => exact st_val rfl (wanted_none rfl) (run_fBook1 _ rfl (g3 2 (by kernel_rfl)) kX.lt) (hKK _ _ rfl (Below.refl _ _))
          | 3, _ => exact st_val rfl (wanted_none rfl) (run_lNotes _ rfl (g4 2 (by kernel_rfl)) hc2) (hKK _ _ rfl (Below.refl _ _))
          | 4, _ => exact st_move rfl rfl (wanted_none rfl) (g3 5 (by kernel_rfl)) (hKK _ _ rfl (Below.refl _ _))
          | 5, _ => exact st_val rfl (wanted_none rfl) (run_slHi _ rfl (g4 3 (by kernel_rfl)) (g4 4 (by kernel_rfl)) (by have := HC.out.cap; have := HN.out; omega) HC.out.adr HC.out.nil) (hKK _ _ rfl (Below.refl _ _))
          | 6, _ =>
            obtain ⟨q, d, h1, h2⟩ := g4 1 (by kernel_rfl)
            refine st_call rfl rfl (wanted_none rfl) (argsC3 h1 (g4 5 (by kernel_rfl))) (run_enter Tryd.func70 (by kernel_rfl) (by kernel_rfl) _) ?_
            refine (through_n (startL b.lo b.hi) q d 0 (b.ns.take k) p c 0 _ k X rfl HLN1.out h2 (startL_bd hsp) (pow_le (by rw [HLN1.out]; omega) (startL_len hsp)) (by omega) ((HNS.out.below g5).take k) HCH1.out (by rw [HLN1.out]; omega)).mono ?_
            rintro e w1 ⟨q', d', out, rfl, h3, h4, h5, h6, h7⟩
            rw [HLN1.out, Nat.zero_add] at h5
            exact ⟨_, rfl, hKK _ _ ⟨q', d', out, by rw [HFR.out], h3, h4, h5, h6⟩ h7⟩
          | 7, _ =>
            obtain ⟨q, d, out, h1, h2⟩ := g4 6 (by kernel_rfl)
            exact st_move rfl rfl (wanted_none rfl) h1 (hKK _ _ ⟨q, d, out, rfl, h2⟩ (Below.refl _ _))
          | 8, _ =>
            obtain ⟨q, d, out, h1, h2⟩ := g4 7 (by kernel_rfl)
            exact st_val rfl (wanted_none rfl) (run_extractS _ rfl h1 rfl) (hKK _ _ ⟨q, d, out, rfl, h2⟩ (Below.refl _ _))
          | 9, _ =>
            obtain ⟨q, d, out, h1, h2⟩ := g4 7 (by kernel_rfl)
            exact st_val rfl (wanted_none rfl) (run_extractS _ rfl h1 rfl) (hKK _ _ rfl (Below.refl _ _))
          | 10, _ =>
            obtain ⟨q, d, out, h1, h2⟩ := g4 8 (by kernel_rfl)
            exact st_asgR rfl rfl (wanted_none rfl) h1 (hKK _ _ ⟨q, d, out, rfl, h2⟩ (Below.refl _ _))
          | k + 11, hk => omega
        intro vs W2 hvs hBW2
        have v0 : vs 0 = _ := hvs 0 (by omega)
        obtain ⟨q1, d1, v1, -⟩ := hvs 1 (by omega)
        have v2 : vs 2 = _ := hvs 2 (by omega)
        have v3 : vs 3 = _ := hvs 3 (by omega)
        have v4 : vs 4 = _ := hvs 4 (by omega)
        have v5 : vs 5 = _ := hvs 5 (by omega)
        obtain ⟨q6, d6, o6, v6, -⟩ := hvs 6 (by omega)
        obtain ⟨q7, d7, o7, v7, -⟩ := hvs 7 (by omega)
        obtain ⟨q8, d8, o8, v8, -⟩ := hvs 8 (by omega)
        have v9 : vs 9 = _ := hvs 9 (by omega)
        obtain ⟨q, d, l, v10, hF⟩ := hvs 10 (by omega)
        simp only [putAll, v0, v1, v2, v3, v4, v5, v6, v7, v8, v9, v10]
        clear v0 v1 v2 v3 v4 v5 v6 v7 v8 v9 v10 hvs
        simp only [dstOf, Act.put, List.getElem?_toArray, List.getElem?_cons_zero, List.getElem?_cons_succ, Option.bind_some, Option.getD_some, List.setIfInBounds_toArray, List.set_cons_succ, List.set_cons_zero, List.drop_succ_cons, List.drop_zero]
        have HF := Lib.hid hF
        have HB2 := Lib.hid (HW.out.trans ((HB.out.trans (hBW2.mono HB.out.size)).mono HW.out.size))
        have HK2 := Lib.hid (HKR.out.bel hBW2)
        have HNS2 := Lib.hid (HNS.out.below hBW2)
        have HGS := Lib.hid (show gb + 1 ≤ W2.heap.size by have := HK2.out.lt; omega)
        clear hBW2 hF HB HKR HNS
        generalize hM : l.length = M
        have HM := Lib.hid hM
        clear hM
        go_wp2_with fail
        go_loopw [8, 9] (fun o i wr => ∃ (j : Nat) (out : List (Int × Int)), j ≤ M ∧ i = .int .i64 j ∧ Hid (out.length ≤ j) ∧ Hid (∀ z, z ∈ out ↔ (∃ y ∈ l.take j, z = aftS y (h - fr)) ∧ ∃ u, Leads h (b.ns.drop k) z u) ∧ Hid (OwnRs wr W2.heap.size o out) ∧ Hid (Below W2.heap.size W2 wr)) (fun _ i _ => M - (intOf i).toNat)
        case atStart => exact ⟨0, [], by omega, rfl, Lib.hid (Nat.le_refl _), Lib.hid (fun z => by simp), Lib.hid (OwnRs.nil _ _), Lib.hid (Below.refl _ _)⟩
        case round =>
          obtain ⟨j, out, hj, rfl, HLE, HOU, HO, HBr⟩ := hrel
          by_cases hlt : j < M
          · obtain ⟨⟨y1, y2⟩, hy⟩ := get_some l j (by have := HM.out; omega)
            obtain ⟨bl, ol, hp, hbl, c0, c1⟩ := (HF.out.1.below HBr.out) j _ hy
            subst hp
            dsimp only at c0 c1
            have HTK := Lib.hid (show l.take (j + 1) = l.take j ++ [(y1, y2)] by rw [List.take_add_one, hy]; rfl)
            have hyb := HF.out.2.2.1 _ (List.mem_of_getElem? hy)
            unfold StR at hyb
            dsimp only at hyb
            obtain ⟨z1, hz1⟩ : ∃ z1, (aftS (y1, y2) (h - fr)).1 = z1 := ⟨_, rfl⟩
            have HZ := Lib.hid (show aftS (y1, y2) (h - fr) = (z1, y2) from Prod.ext hz1 rfl)
            have HZ1 := Lib.hid hz1
            have hzb : 0 ≤ z1 ∧ z1 ≤ 400 := by rw [← hz1]; exact (aftS_bd hyb.1 hyb.2.1).1
            have HYB := Lib.hid hyb
            have HZB := Lib.hid hzb
            have j0 : (0 : Int) ≤ (j : Int) := by omega
            have j1 : (j : Int) < (M : Int) := by omega
            have hc : decide (j < M) = true := by simpa using hlt
            have ew : IntKind.i64.wrap (h - fr) = h - fr := IntWalk.i64_in _ (by omega)
            have HLM := Lib.hid (show M ≤ 8000000000000 by have := HF.out.2.2.2; have := HM.out; omega)
            have HJ := Lib.hid hlt
            clear hy hz1 hlt hzb hyb
            go_upto_region 10 with (go_at_call 72; refine (pass_r y1 y2 (h - fr) z1 _ HYB.out.1 (by have := HYB.out; omega) hfb HZ1.out).mono ?_; rintro e w1 ⟨rfl, y, rfl⟩)
            obtain ⟨g4, hg4⟩ : ∃ g4, g4 = (ext wr y).heap.size := ⟨_, rfl⟩
            rw [← hg4]
            generalize hW4 : (ext wr y).alloc _ = W4
            have hB4 : Below wr.heap.size wr W4 := by rw [← hW4]; (repeat (first | (with_reducible exact Below.refl _ _) | (with_reducible assumption) | ((with_reducible refine below_ext_trans ?_ ?_ _); rotate_left; focus (((try dsimp only); repeat (first | omega | simp only [World.size_alloc, World.size_setCell, World.size_drew] | (with_reducible refine le_ext_of ?_) | (with_reducible refine le_ext_add ?_))); done)) | ((with_reducible refine Below.alloc ?_ ?_ _); rotate_left; focus (((try dsimp only); repeat (first | omega | simp only [World.size_alloc, World.size_setCell, World.size_drew] | (with_reducible refine le_ext_of ?_) | (with_reducible refine le_ext_add ?_))); done)) | ((with_reducible refine Below.setCell ?_ ?_ _); rotate_left; focus (((try dsimp only); repeat (first | omega | simp only [World.size_alloc, World.size_setCell, World.size_drew] | (with_reducible refine le_ext_of ?_) | (with_reducible refine le_ext_add ?_))); done)) | (with_reducible refine Below.drew ?_)))
            have k4 : Blk W4 g4 96 #[.int .i64 z1, .int .i64 y2] := by rw [← hW4]; exact Blk.new hg4
            have HB4 := Lib.hid (HBr.out.trans (hB4.mono HBr.out.size))
            have HO4 := Lib.hid (HO.out.below hB4)
            have HK4 := Lib.hid k4
            have HKB := Lib.hid (HK2.out.bel HB4.out)
            have HN4 := Lib.hid (HNS2.out.below HB4.out)
            clear hW4 hg4 hB4 k4 HO HBr c0 c1 hbl
            refine wp_region_flow_back 12 73 (atlR gb N b p c k h (z1, y2)) (by kernel_rfl) (by kernel_rfl) rfl (atlR_kept _ _ _ _ _ _ _ _) ?_ ?_
            · intro i hin a X g1 g2 g3 g5 g6 KK hKK
              have kX := HKB.out.bel g6
              have kS := HK4.out.bel g6
              have hc2 := kX.cell 2
              match i, hin with
              | 0, _ => exact st_val rfl (wanted_none rfl) (run_lRst _ rfl (g3 10 (by kernel_rfl)) (kS.cell 0) (kS.cell 1)) (hKK _ _ rfl (Below.refl _ _))
              | 1, _ => exact st_valw rfl (wanted_none rfl) (run_bsRst _ rfl (g5 0 (by kernel_rfl))) (hKK _ _ ⟨_, rfl, RsAt.one (z := (z1, y2)) (Blk.new rfl)⟩ ((Below.refl _ _).alloc (Nat.le_refl _) _))
              | 2, _ => exact st_move rfl rfl (wanted_none rfl) (g3 1 (by kernel_rfl)) (hKK _ _ rfl (Below.refl _ _))
              | 3, _ => exact st_val rfl (wanted_none rfl) (run_fBook1 _ rfl (g3 2 (by kernel_rfl)) kX.lt) (hKK _ _ rfl (Below.refl _ _))
              | 4, _ => exact st_val rfl (wanted_none rfl) (run_lNotes _ rfl (g5 3 (by kernel_rfl)) hc2) (hKK _ _ rfl (Below.refl _ _))
              | 5, _ => exact st_move rfl rfl (wanted_none rfl) (g3 5 (by kernel_rfl)) (hKK _ _ rfl (Below.refl _ _))
              | 6, _ => exact st_slTail rfl (wanted_none rfl) rfl (g5 4 (by kernel_rfl)) (g5 5 (by kernel_rfl)) HN.out hk (by have := HC.out.cap; have := HN.out; omega) HC.out.adr HC.out.nil (HN4.out.below g6) (fun p2 c2 h2 => hKK _ _ ⟨p2, c2, rfl, h2⟩ (Below.refl _ _))
              | 7, _ =>
                obtain ⟨g, h1, h2⟩ := g5 1 (by kernel_rfl)
                obtain ⟨p2, c2, h3, h4⟩ := g5 6 (by kernel_rfl)
                refine st_call rfl rfl (wanted_none rfl) (args3r h1 (g5 2 (by kernel_rfl)) h3) (run_enter Tryd.func70 (by kernel_rfl) (by kernel_rfl) _) ?_
                refine (through_n [(z1, y2)] _ 1 h (b.ns.drop k) p2 c2 k 1 (N - k) X rfl HLN2.out h2 (fun st hst => by
                  rw [List.mem_singleton.1 hst]
                  have h5 := HYB.out
                  have h6 := HZB.out
                  unfold StR
                  dsimp only
                  exact ⟨h6, h5.2⟩) (pow_le (by rw [HLN2.out]; omega) (by simp)) hh h4 HCH2.out (by rw [HLN2.out]; omega)).mono ?_
                rintro e w1 ⟨q', d', o2, rfl, -, h7, -, h8, h9⟩
                refine ⟨_, rfl, hKK _ _ ⟨q', d', o2.length, _, rfl, ?_, h8⟩ h9⟩
                constructor
                · intro hne
                  obtain ⟨z, hz⟩ := List.exists_mem_of_ne_nil o2 (fun e => hne (by rw [e]; rfl))
                  obtain ⟨x, hx, hz2⟩ := (h7 z).1 hz
                  rw [List.mem_singleton.1 hx] at hz2
                  exact ⟨z, hz2⟩
                · rintro ⟨z, hz⟩ h0
                  have := (h7 z).2 ⟨_, List.mem_singleton.2 rfl, hz⟩
                  rw [List.length_eq_zero_iff.1 h0] at this
                  cases this
              | 8, _ =>
                obtain ⟨q, d, n, fr, h1, h2⟩ := g5 7 (by kernel_rfl)
                exact st_move rfl rfl (wanted_none rfl) h1 (hKK _ _ ⟨q, d, n, fr, rfl, h2⟩ (Below.refl _ _))
              | 9, _ =>
                obtain ⟨q, d, n, fr, h1, h2⟩ := g5 8 (by kernel_rfl)
                exact st_val rfl (wanted_none rfl) (run_extractS _ rfl h1 rfl) (hKK _ _ ⟨q, d, n, rfl, h2⟩ (Below.refl _ _))
              | 10, _ =>
                obtain ⟨q, d, n, fr, h1, h2⟩ := g5 8 (by kernel_rfl)
                exact st_val rfl (wanted_none rfl) (run_extractS _ rfl h1 rfl) (hKK _ _ ⟨fr, rfl⟩ (Below.refl _ _))
              | 11, _ =>
                obtain ⟨q, d, n, h1, h2⟩ := g5 9 (by kernel_rfl)
                exact st_asgR rfl rfl (wanted_none rfl) h1 (hKK _ _ ⟨q, d, n, rfl, h2⟩ (Below.refl _ _))
              | k + 12, hk => omega
            intro vs W5 hvs hBW5
            have v0 : vs 0 = _ := hvs 0 (by omega)
            obtain ⟨g1, v1, -⟩ := hvs 1 (by omega)
            have v2 : vs 2 = _ := hvs 2 (by omega)
            have v3 : vs 3 = _ := hvs 3 (by omega)
            have v4 : vs 4 = _ := hvs 4 (by omega)
            have v5 : vs 5 = _ := hvs 5 (by omega)
            obtain ⟨p16, d16, v6, -⟩ := hvs 6 (by omega)
            obtain ⟨q17, d17, n17, r17, v7, -⟩ := hvs 7 (by omega)
            obtain ⟨q18, d18, n18, r18, v8, -⟩ := hvs 8 (by omega)
            obtain ⟨q19, d19, n19, v9, -⟩ := hvs 9 (by omega)
            obtain ⟨r20, v10⟩ := hvs 10 (by omega)
            obtain ⟨q21, d21, n21, v11, hn21, -⟩ := hvs 11 (by omega)
            simp only [putAll, v0, v1, v2, v3, v4, v5, v6, v7, v8, v9, v10, v11]
            clear v0 v1 v2 v3 v4 v5 v6 v7 v8 v9 v10 v11 hvs
            simp only [dstOf, Act.put, List.getElem?_toArray, List.getElem?_cons_zero, List.getElem?_cons_succ, Option.bind_some, Option.getD_some, List.setIfInBounds_toArray, List.set_cons_succ, List.set_cons_zero, List.drop_succ_cons, List.drop_zero]
            have HB5 := Lib.hid (HB4.out.trans (hBW5.mono HB4.out.size))
            have HO5 := Lib.hid (HO4.out.below hBW5)
            have k5 := HK4.out.bel hBW5
            have HZ5 := Lib.hid (show W2.heap.size ≤ W5.heap.size from HB5.out.size)
            have c0 := k5.cell 0
            have c1 := k5.cell 1
            have l5 := k5.lt
            simp only [List.size_toArray, List.length_cons, List.length_nil, Nat.reduceAdd, Nat.reduceLT, getElem?_pos, List.getElem_toArray, List.getElem_cons_zero, List.getElem_cons_succ] at c0 c1
            have e1 : IntKind.i64.wrap ((j : Int) + 1) = ((j + 1 : Nat) : Int) := by rw [IntWalk.i64_in _ (by have := HLM.out; omega)]; push_cast; rfl
            have hj1 : j + 1 ≤ M := HJ.out
            clear hBW5 k5 HB4 HO4 HK4 HKB HN4
            obtain ⟨q7, cq7, e7, -⟩ := HO5.out.at
            subst e7
            by_cases hn : n21 = 0
            · have hd : decide (0 < n21) = false := by simp [hn]
              have HOU2 := Lib.hid (show ∀ z, z ∈ out ↔ (∃ y ∈ l.take (j + 1), z = aftS y (h - fr)) ∧ ∃ u, Leads h (b.ns.drop k) z u by
                intro z
                rw [HOU.out z, HTK.out]
                constructor
                · rintro ⟨⟨y, hy, e⟩, hu⟩
                  exact ⟨⟨y, List.mem_append_left _ hy, e⟩, hu⟩
                · rintro ⟨⟨y, hy, e⟩, hu⟩
                  rcases List.mem_append.1 hy with hy | hy
                  · exact ⟨⟨y, hy, e⟩, hu⟩
                  · rw [List.mem_singleton.1 hy, HZ.out] at e
                    subst e
                    exact absurd hn (hn21.2 hu))
              have HLE2 := Lib.hid (show out.length ≤ j + 1 by have := HLE.out; omega)
              have HDC := Lib.hid hd
              clear hn hn21 hd c0 c1 l5
              have hd := HDC.out
              go_wp2_with fail
              go_roundw
              case rel => exact ⟨j + 1, out, hj1, rfl, HLE2, HOU2, HO5, HB5⟩
              case measure => simp [intOf]; omega
            · have hd : decide (0 < n21) = true := by simp; omega
              have HU5 := Lib.hid (hn21.1 hn)
              have HOU2 := Lib.hid (show ∀ z, z ∈ out ++ [(z1, y2)] ↔ (∃ y ∈ l.take (j + 1), z = aftS y (h - fr)) ∧ ∃ u, Leads h (b.ns.drop k) z u by
                intro z
                rw [List.mem_append, HOU.out z, HTK.out]
                constructor
                · rintro (⟨⟨y, hy, e⟩, hu⟩ | hz)
                  · exact ⟨⟨y, List.mem_append_left _ hy, e⟩, hu⟩
                  · rw [List.mem_singleton.1 hz]
                    exact ⟨⟨_, List.mem_append_right _ (List.mem_singleton.2 rfl), HZ.out.symm⟩, HU5.out⟩
                · rintro ⟨⟨y, hy, e⟩, hu⟩
                  rcases List.mem_append.1 hy with hy | hy
                  · exact .inl ⟨⟨y, hy, e⟩, hu⟩
                  · rw [List.mem_singleton.1 hy, HZ.out] at e
                    exact .inr (List.mem_singleton.2 e))
              have HLE2 := Lib.hid (show (out ++ [(z1, y2)]).length ≤ j + 1 by have := HLE.out; simp; omega)
              have HLO := Lib.hid (show out.length ≤ 8700000000000 by have := HLE.out; have := HLM.out; omega)
              clear hn hn21
              go_wp2_with (at_builtin; refine wpList_append_rst rfl _ _ rfl W2.heap.size _ _ rfl (HO5.out.below ((Below.refl _ _).alloc (Nat.le_refl _) _)) W5.heap.size (z1, y2) rfl (Blk.new rfl) HLO.out (by have := HZ5.out; simp; omega) ?_; intro v' w1 ho hg; have HO6 := Lib.hid ho; have HG6 := Lib.hid hg; clear ho hg)
              have HB6 := Lib.hid (Below.grown (w := W5.alloc (.cells #[.int .i64 z1, .int .i64 y2] 96)) (HB5.out.alloc HZ5.out _) HG6.out (by have := HZ5.out; simp; omega) (fun j hj => (HO5.out.lt j hj).1))
              go_wp2_with fail
              go_roundw
              case rel => exact ⟨j + 1, out ++ [(z1, y2)], hj1, rfl, HLE2, HOU2, HO6, HB6⟩
              case measure => simp [intOf]; omega
          · have hc : decide (j < M) = false := by simpa using hlt
            have HE := Lib.hid (show ∀ z, z ∈ out ↔ z ∈ atL b h by
              intro z
              rw [at_leads HOK.out hh.1, HU.out, HFR.out, HOU.out z, List.take_of_length_le (by have := HM.out; omega)]
              constructor
              · rintro ⟨⟨y, hy, rfl⟩, hu⟩
                exact ⟨y, (HF.out.2.1 y).1 hy, rfl, hu⟩
              · rintro ⟨y, hy, rfl, hu⟩
                exact ⟨⟨y, (HF.out.2.1 y).2 hy, rfl⟩, hu⟩)
            have HLM := Lib.hid (show out.length ≤ 8000000000000 by have := HF.out.2.2.2; have := HM.out; have := HLE.out; omega)
            clear hlt
            obtain ⟨q7, cq7, e7, hr7⟩ := HO.out.at
            subst e7
            have HR7 := Lib.hid hr7
            clear hr7
            go_wp2_with fail
            go_ret
            exact ⟨q7, cq7, out, rfl, HR7.out, HE.out, HLM.out, HB2.out.trans (HBr.out.mono HB2.out.size)⟩
end Go.Proofs.YtjjfpbjdcmkkhaaDoor

