/- The reference: what noted has seen; the operations by which a state is told behind a note. -/
/- The reference: what noted tells, plainly; the region that tells a state. -/
/- The reference: noted. -/
import Derived.Test.YtjjfpbjdcmkkhaaDoorQHa
import Derived.Test.YtjjfpbjdcmkkhaaDoorQPa
import Derived.Test.YtjjfpbjdcmkkhaaDoorQFh
set_option linter.unusedSimpArgs false
set_option linter.unusedVariables false
namespace Go.Proofs.YtjjfpbjdcmkkhaaDoor
open Go Go.RowKit Go.Shelf
/-- Which states have been seen. -/
def SeenAt (w : World) (g : Nat) (out : List (Int × Int)) : Prop :=
  ∃ cs : Array Value, Blk w g 4 cs ∧ cs.size = 32882 ∧ ∀ j : Nat, j < 32882 → cs[j]? = some (.bool (out.any fun z => 401 * z.2 + z.1 == (j : Int)))
theorem SeenAt.bel {w w' : World} {g : Nat} {out : List (Int × Int)} (h : SeenAt w g out) (hb : Below w.heap.size w w') : SeenAt w' g out := by
  obtain ⟨cs, h1, h2, h3⟩ := h
  exact ⟨cs, h1.bel hb, h2, h3⟩
theorem SeenAt.grown {w w' : World} {g : Nat} {out : List (Int × Int)} {r : Option Nat} (h : SeenAt w g out) (hg : w.grownBy w' r) (hr : r ≠ some g) : SeenAt w' g out := by
  obtain ⟨cs, h1, h2, h3⟩ := h
  exact ⟨cs, (hg.block g h1.lt (fun e => hr e.symm)).trans h1, h2, h3⟩
theorem SeenAt.put {w : World} {g : Nat} {out : List (Int × Int)} (h : SeenAt w g out) (z : Int × Int) (j : Nat) (hj : 401 * z.2 + z.1 = (j : Int)) : SeenAt (w.setCell ⟨g, j, none⟩ (.bool true)) g (out ++ [z]) := by
  obtain ⟨cs, h1, h2, h3⟩ := h
  refine ⟨_, h1.set j (.bool true), by simp [h2], fun i hi => ?_⟩
  by_cases e : i = j
  · subst e
    rw [Array.getElem?_setIfInBounds_self_of_lt (by omega)]
    simp [hj]
  · rw [Array.getElem?_setIfInBounds_ne (Ne.symm e), h3 i hi, List.any_append]
    have : ((401 * z.2 + z.1 : Int) == (i : Int)) = false := by
      rw [hj]
      simpa using (show ¬ (j : Int) = (i : Int) by omega)
    simp [this]
theorem SeenAt.other {w : World} {g b i : Nat} {out : List (Int × Int)} {v : Value} (h : SeenAt w g out) (hb : g ≠ b) : SeenAt (w.setCell ⟨b, i, none⟩ v) g out := by
  obtain ⟨cs, h1, h2, h3⟩ := h
  exact ⟨cs, h1.setOther hb i v, h2, h3⟩
theorem SeenAt.cell {w : World} {g : Nat} {out : List (Int × Int)} (h : SeenAt w g out) (j : Nat) (hj : j < 32882) : w.cell? ⟨g, j, none⟩ = some (.bool (out.any fun z => 401 * z.2 + z.1 == (j : Int))) ∧ w.frozen? ⟨g, j, none⟩ = false ∧ g < w.heap.size := by
  obtain ⟨cs, h1, h2, h3⟩ := h
  exact ⟨(h1.cell j).trans (h3 j hj), h1.frozen j, h1.lt⟩
theorem seen_new (N : Nat) {w : World} {B g : Nat} (h : w.ownsRow B 4 1 (.slice (some ⟨g, 0, none⟩) N N) N (madeCells #[.bool false] (N * 1)).toList) : ∃ cs : Array Value, Blk w g 4 cs ∧ cs.size = N ∧ ∀ j : Nat, j < N → cs[j]? = some (.bool false) := by
  obtain ⟨h1, h2⟩ := h
  rcases h2 with ⟨h2, -⟩ | ⟨g', cap, cur, e, hg, hh, hn, hm, hs, ht⟩
  · cases h2
  · injection e with e1 e2 e3
    injection e1 with e1
    injection e1 with e1
    subst e1 e3
    refine ⟨cur, hh, by omega, fun j hj => ?_⟩
    have e4 : (cur.toList.take (N * 1))[j]? = (madeCells #[.bool false] (N * 1)).toList[j]? := by rw [ht]
    rw [toList_madeCells_one, List.getElem?_take_of_lt (by omega), List.getElem?_replicate_of_lt (by omega)] at e4
    rw [← Array.getElem?_toList]
    exact e4
theorem SeenAt.new {w : World} {B g : Nat} (h : w.ownsRow B 4 1 (.slice (some ⟨g, 0, none⟩) 32882 32882) 32882 (madeCells #[.bool false] (32882 * 1)).toList) : SeenAt w g [] := by
  obtain ⟨cs, h1, h2, h3⟩ := seen_new 32882 h
  exact ⟨cs, h1, h2, fun j hj => by rw [h3 j hj]; rfl⟩
/-- Each state is told by its number. -/
theorem seen_iff {out : List (Int × Int)} (hb : ∀ z ∈ out, 0 ≤ z.1 ∧ z.1 ≤ 400) {x : Int × Int} (hx : 0 ≤ x.1 ∧ x.1 ≤ 400) {j : Nat} (hj : 401 * x.2 + x.1 = (j : Int)) : (out.any fun z => 401 * z.2 + z.1 == (j : Int)) = true ↔ x ∈ out := by
  rw [List.any_eq_true]
  constructor
  · rintro ⟨z, hz, e⟩
    have h1 := hb z hz
    have h2 : 401 * z.2 + z.1 = 401 * x.2 + x.1 := by rw [hj]; simpa using e
    have e1 : z.2 = x.2 := by omega
    have e2 : z.1 = x.1 := by omega
    rw [show x = z from Prod.ext e2.symm e1.symm]
    exact hz
  · intro h
    exact ⟨x, h, by rw [hj]; simp⟩
section
variable {o : Oper} {w : World} (ρ : Operand → Value)
theorem run_atRst {g j s u n c k : Nat} (hop : o.op = .indexAddr 93 (.tmp s) (.tmp u)) (h1 : ρ (.tmp s) = .slice (some ⟨g, j, none⟩) n c) (h2 : ρ (.tmp u) = .int .i64 k) (hk : k < n) (hl : g < w.heap.size) :
    (execOp ρ o).run Tryd.prog w = .ok (.value (.pointer (some ⟨g, j + k * 2, none⟩))) w := by
  have k0 : (0 : Int) ≤ (k : Int) := by omega
  have k1 : (k : Int) < (n : Int) := by omega
  unfold execOp
  simp [hop, h1, h2, go_sem, hl, k0, k1]
theorem run_lRst {g j s : Nat} {x y : Int} (hop : o.op = .load 96 (.tmp s)) (hs : ρ (.tmp s) = .pointer (some ⟨g, j, none⟩)) (k0 : w.cell? ⟨g, j, none⟩ = some (.int .i64 x)) (k1 : w.cell? ⟨g, j + 1, none⟩ = some (.int .i64 y)) :
    (execOp ρ o).run Tryd.prog w = .ok (.value (.agg #[.int .i64 x, .int .i64 y])) w := by
  unfold execOp
  simp [hop, hs, go_sem, k0, k1]
theorem run_fNote1 {g t : Nat} (hop : o.op = .fieldAddr 38 (.tmp t) 1) (hs : ρ (.tmp t) = .pointer (some ⟨g, 0, none⟩)) (hl : g < w.heap.size) : (execOp ρ o).run Tryd.prog w = .ok (.value (.pointer (some ⟨g, 1, none⟩))) w := by
  unfold execOp; simp [hop, hs, go_sem, hl]
theorem run_lNum {g j t : Nat} {x : Int} (hop : o.op = .load 3 (.tmp t)) (hs : ρ (.tmp t) = .pointer (some ⟨g, j, none⟩)) (c0 : w.cell? ⟨g, j, none⟩ = some (.int .i64 x)) : (execOp ρ o).run Tryd.prog w = .ok (.value (.int .i64 x)) w := by
  unfold execOp; simp [hop, hs, go_sem, c0]
theorem run_subN {s t : Nat} {x y z : Int} (hop : o.op = .binOp .sub 3 (.tmp s) (.tmp t) 3) (hs : ρ (.tmp s) = .int .i64 x) (ht : ρ (.tmp t) = .int .i64 y) (hz : IntKind.i64.wrap (x - y) = z) : (execOp ρ o).run Tryd.prog w = .ok (.value (.int .i64 z)) w := by
  unfold execOp; simp [hop, hs, ht, go_sem, hz]
theorem run_aRst (hop : o.op = .alloc 96) :
    (execOp ρ o).run Tryd.prog w = .ok (.value (.pointer (some ⟨w.heap.size, 0, none⟩))) (w.alloc (.cells #[.int .i64 0, .int .i64 0] 96)) := by
  unfold execOp
  simp [hop, go_sem]
end
theorem st_store_rst {ops : Array Oper} {Q : Exit → Act → World → Prop} {i : Nat} {o : Oper} {K : Act → World → Prop} {a : Act} {w : World} {s t g : Nat} {x y : Int} {v0 v1 : Value} (h : ops[i]? = some o) (hw : Region.wanted o (yielded ops a.tmps) = true) (hop : o.op = .store 96 (.tmp s) (.tmp t)) (hd : o.dst = none)
    (hs : a.tmps.getD s undef = .pointer (some ⟨g, 0, none⟩)) (ht : a.tmps.getD t undef = .agg #[.int .i64 x, .int .i64 y]) (k : Blk w g 96 #[v0, v1])
    (hK : ∀ w', (∀ B, B ≤ g → Below B w w') → Blk w' g 96 #[.int .i64 x, .int .i64 y] → K a w') : wpOp Tryd.prog ops Q i K a w := by
  refine wpOp_want h hw ?_
  refine wp_store_mid 96 _ _ hop g 0 _ hs ht ?_ (by kernel_rfl) (by kernel_rfl) ?_
  · intro j hj
    rw [Nat.zero_add, k.cell, k.frozen]
    have hj' : j < (#[v0, v1] : Array Value).size := hj
    exact ⟨by rw [Array.getElem?_eq_getElem hj']; rfl, rfl⟩
  · rw [hd]
    refine hK ((w.setCell ⟨g, 0, none⟩ (.int .i64 x)).setCell ⟨g, 1, none⟩ (.int .i64 y)) (fun B hB => ((Below.refl _ _).setCell hB _).setCell hB _) ?_
    simpa using (k.set 0 (.int .i64 x)).set 1 (.int .i64 y)
/-- What the operations leave by which a state is told behind a note. -/
def notR (W0 gb : Nat) (pl : Option Addr) (n1 cl k bl ol : Nat) (st : Int × Int) (s : Nt) (fr gp m q : Int) (f : Bool) (i : Nat) (u : Value) (w : World) : Prop :=
  match i with
  | 0 => u = .slice pl n1 cl
  | 1 => u = .int .i64 k
  | 2 => u = .pointer (some ⟨bl, ol + k * 2, none⟩)
  | 3 => u = .agg #[.int .i64 st.1, .int .i64 st.2]
  | 4 => u = .pointer (some ⟨gb, 1, none⟩)
  | 5 => u = .int .i64 s.hour
  | 6 => u = .int .i64 fr
  | 7 => u = .int .i64 gp
  | 8 => u = .agg #[.int .i64 q, .int .i64 st.2]
  | 9 => u = .agg #[.int .i64 s.kind, .int .i64 s.hour, .int .i64 s.lo, .int .i64 s.hi]
  | 10 => u = .int .i64 m
  | 11 => ∃ h' r', u = .tuple #[.agg #[.int .i64 h', .int .i64 r'], .bool (rightB s.kind q m)] ∧ (rightB s.kind q m = true → (h', r') = doesS s.kind (q, st.2) m)
  | 12 => ∃ h' r', u = .tuple #[.agg #[.int .i64 h', .int .i64 r'], .bool (rightB s.kind q m)] ∧ (rightB s.kind q m = true → (h', r') = doesS s.kind (q, st.2) m)
  | 13 => ∃ h' r', u = .agg #[.int .i64 h', .int .i64 r'] ∧ (rightB s.kind q m = true → (h', r') = doesS s.kind (q, st.2) m)
  | 14 => u = .bool (rightB s.kind q m)
  | 15 => ∃ g : Nat, u = .pointer (some ⟨g, 0, none⟩) ∧ W0 ≤ g ∧ (f = false → Blk w g 96 #[.int .i64 0, .int .i64 0]) ∧ (f = true → ∃ h' r', Blk w g 96 #[.int .i64 h', .int .i64 r'] ∧ (rightB s.kind q m = true → (h', r') = doesS s.kind (q, st.2) m))
  | _ => True
theorem notR_kept (W0 gb : Nat) (pl : Option Addr) (n1 cl k bl ol : Nat) (st : Int × Int) (s : Nt) (fr gp m q : Int) : ∀ f i, i < 17 → i ≠ 16 → ∀ (u : Value) (w w' : World), notR W0 gb pl n1 cl k bl ol st s fr gp m q f i u w → Below w.heap.size w w' → notR W0 gb pl n1 cl k bl ol st s fr gp m q f i u w' := by
  intro f i hi h16 u w w' h hb
  match i, hi, h with
  | 0, _, h => exact h
  | 1, _, h => exact h
  | 2, _, h => exact h
  | 3, _, h => exact h
  | 4, _, h => exact h
  | 5, _, h => exact h
  | 6, _, h => exact h
  | 7, _, h => exact h
  | 8, _, h => exact h
  | 9, _, h => exact h
  | 10, _, h => exact h
  | 11, _, h => exact h
  | 12, _, h => exact h
  | 13, _, h => exact h
  | 14, _, h => exact h
  | 15, _, h => obtain ⟨g, h1, h2, h3, h4⟩ := h; exact ⟨g, h1, h2, fun e => (h3 e).bel hb, fun e => by obtain ⟨a, b, c, d⟩ := h4 e; exact ⟨a, b, c.bel hb, d⟩⟩
  | 16, _, h => exact absurd rfl h16
  | k + 17, hk, h => omega
end Go.Proofs.YtjjfpbjdcmkkhaaDoor

namespace Go.Proofs.YtjjfpbjdcmkkhaaDoor
open Go Go.RowKit Go.Shelf
/-- All states behind a note, from some states. -/
def NotedP (s : Nt) (dt : Int) (done out : List (Int × Int)) : Prop :=
  (∀ z, z ∈ out ↔ ∃ x ∈ done, z ∈ behL s (aftS x dt)) ∧ out.length ≤ 13 * done.length ∧ ∀ z ∈ out, (0 ≤ z.1 ∧ z.1 ≤ 400) ∧ 0 ≤ z.2 ∧ z.2 ≤ 81
/-- And from a state by its first numbers. -/
def NotedQ (s : Nt) (dt : Int) (done : List (Int × Int)) (st : Int × Int) (m : Nat) (out : List (Int × Int)) : Prop :=
  (∀ z, z ∈ out ↔ (∃ x ∈ done, z ∈ behL s (aftS x dt)) ∨ ∃ i : Nat, i < m ∧ rightB s.kind (aftS st dt).1 (s.lo + (i : Int)) = true ∧ z = doesS s.kind (aftS st dt) (s.lo + (i : Int))) ∧ out.length ≤ 13 * done.length + m ∧ ∀ z ∈ out, (0 ≤ z.1 ∧ z.1 ≤ 400) ∧ 0 ≤ z.2 ∧ z.2 ≤ 81
section
variable {s : Nt} {dt : Int} {done out : List (Int × Int)} {st : Int × Int} {m : Nat}
theorem NotedP.nil : NotedP s dt [] [] := ⟨by simp, by simp, by simp⟩
theorem NotedP.open (h : NotedP s dt done out) (st : Int × Int) : NotedQ s dt done st 0 out := by
  refine ⟨fun z => ?_, by have := h.2.1; omega, h.2.2⟩
  rw [h.1 z]
  constructor
  · exact .inl
  · rintro (h | ⟨i, hi, -⟩)
    · exact h
    · omega
theorem NotedQ.close (h : NotedQ s dt done st m out) (hm : (m : Int) = s.hi - s.lo + 1) (h12 : s.hi - s.lo ≤ 12) : NotedP s dt (done ++ [st]) out := by
  refine ⟨fun z => ?_, by have := h.2.1; rw [List.length_append]; simp; omega, h.2.2⟩
  rw [h.1 z]
  constructor
  · rintro (⟨x, hx, hz⟩ | ⟨i, hi, hr, rfl⟩)
    · exact ⟨x, List.mem_append_left _ hx, hz⟩
    · exact ⟨st, by simp, List.mem_map.2 ⟨_, List.mem_filter.2 ⟨mem_numsL.2 (by omega), hr⟩, rfl⟩⟩
  · rintro ⟨x, hx, hz⟩
    rcases List.mem_append.1 hx with hx | hx
    · exact .inl ⟨x, hx, hz⟩
    · rw [List.mem_singleton] at hx
      subst hx
      obtain ⟨n, hn, rfl⟩ := List.mem_map.1 hz
      obtain ⟨h1, h2⟩ := List.mem_filter.1 hn
      have h3 := mem_numsL.1 h1
      refine .inr ⟨(n - s.lo).toNat, by omega, ?_⟩
      have e : s.lo + (((n - s.lo).toNat : Nat) : Int) = n := by omega
      rw [e]
      exact ⟨h2, rfl⟩
theorem NotedQ.wrong (h : NotedQ s dt done st m out) (hr : rightB s.kind (aftS st dt).1 (s.lo + (m : Int)) = false) : NotedQ s dt done st (m + 1) out := by
  refine ⟨fun z => ?_, by have := h.2.1; omega, h.2.2⟩
  rw [h.1 z]
  refine or_congr Iff.rfl ⟨fun ⟨i, hi, h2⟩ => ⟨i, by omega, h2⟩, fun ⟨i, hi, h2, h3⟩ => ⟨i, ?_, h2, h3⟩⟩
  have : i ≠ m := by rintro rfl; rw [hr] at h2; cases h2
  omega
theorem NotedQ.seen (h : NotedQ s dt done st m out) (hr : doesS s.kind (aftS st dt) (s.lo + (m : Int)) ∈ out) : NotedQ s dt done st (m + 1) out := by
  refine ⟨fun z => ⟨fun hz => ?_, fun hz => ?_⟩, by have := h.2.1; omega, h.2.2⟩
  · exact ((h.1 z).1 hz).imp id fun ⟨i, hi, h2⟩ => ⟨i, by omega, h2⟩
  · rcases hz with hz | ⟨i, hi, h2, h3⟩
    · exact (h.1 z).2 (.inl hz)
    · by_cases e : i = m
      · subst e; rw [h3]; exact hr
      · exact (h.1 z).2 (.inr ⟨i, by omega, h2, h3⟩)
theorem NotedQ.more (h : NotedQ s dt done st m out) (hr : rightB s.kind (aftS st dt).1 (s.lo + (m : Int)) = true) {z : Int × Int} (hz : z = doesS s.kind (aftS st dt) (s.lo + (m : Int))) (hb : (0 ≤ z.1 ∧ z.1 ≤ 400) ∧ 0 ≤ z.2 ∧ z.2 ≤ 81) : NotedQ s dt done st (m + 1) (out ++ [z]) := by
  refine ⟨fun x => ?_, by have := h.2.1; rw [List.length_append]; simp; omega, fun x hx => ?_⟩
  · rw [List.mem_append, h.1 x, List.mem_singleton]
    constructor
    · rintro ((h1 | ⟨i, hi, h2⟩) | rfl)
      · exact .inl h1
      · exact .inr ⟨i, by omega, h2⟩
      · exact .inr ⟨m, by omega, hr, hz⟩
    · rintro (h1 | ⟨i, hi, h2, h3⟩)
      · exact .inl (.inl h1)
      · by_cases e : i = m
        · subst e; exact .inr (h3.trans hz.symm)
        · exact .inl (.inr ⟨i, by omega, h2, h3⟩)
  · rcases List.mem_append.1 hx with hx | hx
    · exact h.2.2 x hx
    · rw [List.mem_singleton] at hx; subst hx; exact hb
end
theorem aftS_bd {st : Int × Int} {n : Int} (h1 : 0 ≤ st.1 ∧ st.1 ≤ 400) (h2 : 0 ≤ st.2) : (0 ≤ (aftS st n).1 ∧ (aftS st n).1 ≤ 400) ∧ (aftS st n).2 = st.2 := by
  have := afterH_bd h2 n.toNat st.1 h1.1
  unfold aftS
  dsimp only
  exact ⟨by omega, rfl⟩
theorem does_bd {s : Nt} {q r m : Int} (hk : 0 ≤ s.kind ∧ s.kind ≤ 4) (hs : SpanOK s.lo s.hi (mostOf s.kind)) (hq : 0 ≤ q ∧ q ≤ 400) (hr : 0 ≤ r ∧ r ≤ 72) (hm : s.lo ≤ m ∧ m ≤ s.hi) (h : rightB s.kind q m = true) : (0 ≤ (doesS s.kind (q, r) m).1 ∧ (doesS s.kind (q, r) m).1 ≤ 400) ∧ 0 ≤ (doesS s.kind (q, r) m).2 ∧ (doesS s.kind (q, r) m).2 ≤ 81 := by
  have := behL_bd (st := (q, r)) (z := doesS s.kind (q, r) m) hk hs hq.1 hr.1 (List.mem_map.2 ⟨m, List.mem_filter.2 ⟨mem_numsL.2 hm, h⟩, rfl⟩)
  dsimp only at this
  omega
theorem under_bools : Tryd.prog.underlying 140 = some (.slice 4) := by kernel_rfl
theorem info_bl : (Tryd.prog.info? 4).map (fun i => (i.zero, i.size, i.bytes)) = some (some (.bool false), 1, 1) := by kernel_rfl
end Go.Proofs.YtjjfpbjdcmkkhaaDoor

namespace Go.Proofs.YtjjfpbjdcmkkhaaDoor
open Go Go.RowKit Go.Shelf
attribute [local go_sem] Oper.semAt_some frozen_alloc_lt
theorem args3r {a : Act} {s t u : Nat} {x y z : Value} (h1 : a.tmps.getD s undef = x) (h2 : a.tmps.getD t undef = y) (h3 : a.tmps.getD u undef = z) : (#[Operand.tmp s, Operand.tmp t, Operand.tmp u]).map a.eval = #[x, y, z] := by
  simp only [List.map_toArray, List.map_cons, List.map_nil, Act.eval, h1, h2, h3]
set_option maxRecDepth 100000 in
set_option maxHeartbeats 8000000 in
theorem noted_r (l : List (Int × Int)) (p : Option Addr) (c : Nat) (s : Nt) (fr dt : Int) (w : World) (hl : RsAt w p l) (hst : ∀ st ∈ l, (0 ≤ st.1 ∧ st.1 ≤ 400) ∧ 0 ≤ st.2 ∧ st.2 ≤ 72) (hn : l.length ≤ 650000000000) (hk : 0 ≤ s.kind ∧ s.kind ≤ 4) (hsp : SpanOK s.lo s.hi (mostOf s.kind)) (hfr : 0 ≤ fr ∧ fr ≤ 60) (hd : s.hour - fr = dt) (hdt : 0 ≤ dt ∧ dt ≤ 60) :
    Calls Tryd.prog 97 #[.slice p l.length c, .int .i64 fr, .agg #[.int .i64 s.kind, .int .i64 s.hour, .int .i64 s.lo, .int .i64 s.hi]] w fun e w' => ∃ v out, e = .returned v ∧ OwnRs w' w.heap.size v out ∧ NotedP s dt l out ∧ Below w.heap.size w w' := by
  obtain ⟨kd, hr, lo, hi⟩ := s
  dsimp only at *
  have HL := Lib.hid hl
  have HST := Lib.hid hst
  have HSP := Lib.hid hsp
  have hlo : 0 ≤ lo ∧ lo ≤ 400 ∧ 0 ≤ hi ∧ hi ≤ 400 ∧ lo ≤ hi ∧ hi - lo ≤ 12 := by
    obtain ⟨a1, a2, a3, a4, a5, a6⟩ := hsp
    have : mostOf kd ≤ 400 := by unfold mostOf; split; omega; split <;> omega
    omega
  have hmo : kd = 1 → hi ≤ 9 := by rintro rfl; have := hsp.2.2.2.1; simpa [mostOf] using this
  clear hl hst hsp
  obtain ⟨gb, hgb⟩ : ∃ gb, gb = w.heap.size := ⟨_, rfl⟩
  go_enter Tryd.func97, Tryd.ntmps97
  go_upto_region 2 with fail
  rw [← hgb]
  generalize hW : w.alloc _ = W
  have hWB : Below w.heap.size w W := by rw [← hW]; (repeat (first | (with_reducible exact Below.refl _ _) | (with_reducible assumption) | ((with_reducible refine below_ext_trans ?_ ?_ _); rotate_left; focus (((try dsimp only); repeat (first | omega | simp only [World.size_alloc, World.size_setCell, World.size_drew] | (with_reducible refine le_ext_of ?_) | (with_reducible refine le_ext_add ?_))); done)) | ((with_reducible refine Below.alloc ?_ ?_ _); rotate_left; focus (((try dsimp only); repeat (first | omega | simp only [World.size_alloc, World.size_setCell, World.size_drew] | (with_reducible refine le_ext_of ?_) | (with_reducible refine le_ext_add ?_))); done)) | ((with_reducible refine Below.setCell ?_ ?_ _); rotate_left; focus (((try dsimp only); repeat (first | omega | simp only [World.size_alloc, World.size_setCell, World.size_drew] | (with_reducible refine le_ext_of ?_) | (with_reducible refine le_ext_add ?_))); done)) | (with_reducible refine Below.drew ?_)))
  have kb : Blk W gb 38 #[.int .i64 kd, .int .i64 hr, .int .i64 lo, .int .i64 hi] := by rw [← hW]; exact Blk.new hgb
  have hWs : W.heap.size = gb + 1 := by rw [← hW, hgb]; simp
  have HW := Lib.hid hWB
  have KB := Lib.hid kb
  have HGB := Lib.hid hgb
  clear hW hWB kb hgb
  obtain ⟨i0, hi0, hz0, hz1, hz2⟩ := info_parts info_bl
  go_upto_region 3 with (at_make; refine wpList_make_full _ rfl _ _ 140 rfl W.heap.size 4 i0 (.bool false) 1 under_bools hi0 hz0 hz1 _ _ _ _ 32882 rfl rfl rfl rfl (by rw [hz2]; omega) (by unfold maxLen; omega) (Nat.le_refl _) ?_; intro V ho hg; rw [hWs] at ho ⊢; have hs0 := SeenAt.new ho; have HS0 := Lib.hid hs0; have HG := Lib.hid hg; clear ho hg hs0)
  have HB0 := Lib.hid (Below.of_grown0 (n := gb + 1) HG.out (by omega))
  have hzV : gb + 2 ≤ V.heap.size := by obtain ⟨cs, h1, -⟩ := HS0.out; have := h1.lt; omega
  clear HG hi0 hz0 hz1 hz2 i0
  generalize hN : l.length = N at *
  have HN := Lib.hid hN
  clear hN
  go_wp2_with fail
  go_loopw [7, 9] (fun o i wr => ∃ (k : Nat) (out : List (Int × Int)), k ≤ N ∧ i = .int .i64 k ∧ Hid (NotedP ⟨kd, hr, lo, hi⟩ dt (l.take k) out) ∧ Hid (SeenAt wr (gb + 1) out) ∧ Hid (OwnRs wr (gb + 2) o out) ∧ Hid (Below (gb + 1) W wr)) (fun _ i _ => N - (intOf i).toNat)
  case atStart => exact ⟨0, [], by omega, rfl, Lib.hid NotedP.nil, HS0, Lib.hid (OwnRs.nil _ _), HB0⟩
  case round =>
    clear HS0 HB0 hzV
    obtain ⟨k, out, hkN, rfl, HP, HS, HO, HB⟩ := hrel
    by_cases hlt : k < N
    · obtain ⟨st, hst⟩ := get_some l k (by have := HN.out; omega)
      have HTK := Lib.hid (show l.take (k + 1) = l.take k ++ [st] by rw [List.take_add_one, hst]; rfl)
      have HGT := Lib.hid hst
      have HSB := Lib.hid (HST.out st (List.mem_of_getElem? hst))
      have k0 : (0 : Int) ≤ (k : Int) := by omega
      have k1 : (k : Int) < (N : Int) := by omega
      have kr := (HB.out.block gb (by omega)).trans KB.out
      have q0 := Blk.cell (t := 38) kr 2
      have lb := Blk.lt (t := 38) kr
      simp only [List.size_toArray, List.length_cons, List.length_nil, Nat.reduceAdd, Nat.reduceLT, getElem?_pos, List.getElem_toArray, List.getElem_cons_zero, List.getElem_cons_succ] at q0
      clear kr hst hlt
      go_upto_region 7 with fail
      clear q0 lb
      have HQ0 := Lib.hid (HP.out.open st)
      generalize wr = w5 at *
      go_loopw [7, 10] (fun o i wt => ∃ (m : Nat) (out : List (Int × Int)), (m : Int) ≤ hi - lo + 1 ∧ i = .int .i64 (lo + (m : Int)) ∧ Hid (NotedQ ⟨kd, hr, lo, hi⟩ dt (l.take k) st m out) ∧ Hid (SeenAt wt (gb + 1) out) ∧ Hid (OwnRs wt (gb + 2) o out) ∧ Hid (Below (gb + 1) W wt)) (fun _ i _ => (hi + 1 - intOf i).toNat)
      case atStart => exact ⟨0, out, by omega, by simp, HQ0, HS, HO, HB⟩
      case round =>
        clear HQ0 HS HO HB
        obtain ⟨m, out2, hm, rfl, HQ, HS, HO, HB⟩ := hrel
        have HBX := Lib.hid (HW.out.trans (HB.out.mono (by have := HGB.out; omega)))
        have kr := (HB.out.block gb (by omega)).trans KB.out
        have KR := Lib.hid (show Blk wr gb 38 #[.int .i64 kd, .int .i64 hr, .int .i64 lo, .int .i64 hi] from kr)
        have q1 := KR.out.cell 3
        have lb := KR.out.lt
        simp only [List.size_toArray, List.length_cons, List.length_nil, Nat.reduceAdd, Nat.reduceLT, getElem?_pos, List.getElem_toArray, List.getElem_cons_zero, List.getElem_cons_succ] at q1
        clear kr
        by_cases hle : lo + (m : Int) ≤ hi
        · have hc : decide (lo + (m : Int) ≤ hi) = true := by simpa using hle
          go_upto_region 9 with fail
          clear q1
          obtain ⟨bl, ol, hp, hbl, cl0, cl1⟩ := HL.out k st HGT.out
          have hsb := HSB.out
          obtain ⟨q, hq⟩ : ∃ q, (aftS st dt).1 = q := ⟨_, rfl⟩
          have hqb : 0 ≤ q ∧ q ≤ 400 := by rw [← hq]; exact (aftS_bd hsb.1 hsb.2.1).1
          have hq2 : aftS st dt = (q, st.2) := Prod.ext hq rfl
          have hwd : IntKind.i64.wrap (hr - fr) = dt := by rw [hd]; exact IntWalk.i64_in _ (by omega)
          have hkn : k < N := by omega
          refine wp_region_flow_backS 17 71 16 (fun _ => True) (notR wr.heap.size gb p N c k bl ol st ⟨kd, hr, lo, hi⟩ fr dt (lo + (m : Int)) q) (by kernel_rfl) (by kernel_rfl) rfl (by omega) (notR_kept _ _ _ _ _ _ _ _ _ _ _ _ _ _) (fun _ _ h _ => h) ?_ ?_ ?_
          · intro i hin hik f a X g1 g2 g3 g4 g5 hfw KK hKK
            have hzX := g5.size
            have hbX := HBX.out.trans (g5.mono HBX.out.size)
            have kX := KR.out.bel g5
            match i, hin with
            | 0, _ => exact st_move rfl rfl (wanted_none rfl) (g3 0 (by kernel_rfl)) (hKK _ _ rfl (Below.refl _ _))
            | 1, _ => exact st_move rfl rfl (wanted_none rfl) (g3 9 (by kernel_rfl)) (hKK _ _ rfl (Below.refl _ _))
            | 2, _ => exact st_val rfl (wanted_none rfl) (run_atRst _ rfl ((g4 0 (by decide) (by kernel_rfl)).trans (by rw [hp])) (g4 1 (by decide) (by kernel_rfl)) hkn (Nat.lt_of_lt_of_le hbl hbX.size)) (hKK _ _ rfl (Below.refl _ _))
            | 3, _ => exact st_val rfl (wanted_none rfl) (run_lRst _ rfl (g4 2 (by decide) (by kernel_rfl)) ((hbX.cell (p := ⟨bl, ol + k * 2, none⟩) hbl).trans cl0) ((hbX.cell (p := ⟨bl, ol + k * 2 + 1, none⟩) hbl).trans cl1)) (hKK _ _ rfl (Below.refl _ _))
            | 4, _ => exact st_val rfl (wanted_none rfl) (run_fNote1 _ rfl (g3 5 (by kernel_rfl)) kX.lt) (hKK _ _ rfl (Below.refl _ _))
            | 5, _ => exact st_val rfl (wanted_none rfl) (run_lNum _ rfl (g4 4 (by decide) (by kernel_rfl)) (kX.cell 1)) (hKK _ _ rfl (Below.refl _ _))
            | 6, _ => exact st_move rfl rfl (wanted_none rfl) (g3 1 (by kernel_rfl)) (hKK _ _ rfl (Below.refl _ _))
            | 7, _ => exact st_val rfl (wanted_none rfl) (run_subN _ rfl (g4 5 (by decide) (by kernel_rfl)) (g4 6 (by decide) (by kernel_rfl)) hwd) (hKK _ _ rfl (Below.refl _ _))
            | 8, _ =>
              refine st_call rfl rfl (wanted_none rfl) (sargs2 (g4 3 (by decide) (by kernel_rfl)) (g4 7 (by decide) (by kernel_rfl))) (run_enter Tryd.func72 (by kernel_rfl) (by kernel_rfl) _) ?_
              refine (pass_r st.1 st.2 dt q _ hsb.1 (by omega) hdt hq).mono ?_
              rintro e w1 ⟨rfl, x, rfl⟩
              exact ⟨_, rfl, hKK _ _ rfl (below_ext _ x)⟩
            | 9, _ => exact st_val rfl (wanted_none rfl) (run_lNoteS _ rfl (g3 5 (by kernel_rfl)) kX) (hKK _ _ rfl (Below.refl _ _))
            | 10, _ => exact st_move rfl rfl (wanted_none rfl) (g3 10 (by kernel_rfl)) (hKK _ _ rfl (Below.refl _ _))
            | 11, _ =>
              refine st_call rfl rfl (wanted_none rfl) (args3r (g4 8 (by decide) (by kernel_rfl)) (g4 9 (by decide) (by kernel_rfl)) (g4 10 (by decide) (by kernel_rfl))) (run_enter Tryd.func109 (by kernel_rfl) (by kernel_rfl) _) ?_
              refine (does_r kd hr lo hi q st.2 (lo + (m : Int)) _ hk hqb (by omega) (by omega)).mono ?_
              rintro e w1 ⟨x1, r1, rfl, h1, x, rfl⟩
              exact ⟨_, rfl, hKK _ _ ⟨x1, r1, rfl, h1⟩ (below_ext _ x)⟩
            | 12, _ =>
              obtain ⟨x1, r1, h1, h2⟩ := g4 11 (by decide) (by kernel_rfl)
              exact st_move rfl rfl (wanted_none rfl) h1 (hKK _ _ ⟨x1, r1, rfl, h2⟩ (Below.refl _ _))
            | 13, _ =>
              obtain ⟨x1, r1, h1, h2⟩ := g4 12 (by decide) (by kernel_rfl)
              exact st_val rfl (wanted_none rfl) (run_extractS _ rfl h1 rfl) (hKK _ _ ⟨x1, r1, rfl, h2⟩ (Below.refl _ _))
            | 14, _ =>
              obtain ⟨x1, r1, h1, h2⟩ := g4 12 (by decide) (by kernel_rfl)
              exact st_val rfl (wanted_none rfl) (run_extractS _ rfl h1 rfl) (hKK _ _ rfl (Below.refl _ _))
            | 15, _ =>
              cases f with
              | true =>
                have e := hfw rfl
                have e2 : true = false := Eq.trans (by kernel_rfl) e
                cases e2
              | false => exact st_valw rfl (wanted_none rfl) (run_aRst _ rfl) (hKK _ _ ⟨_, rfl, by omega, fun _ => Blk.new rfl, fun e => by cases e⟩ ((Below.refl _ _).alloc (Nat.le_refl _) _))
            | 16, _ => exact absurd rfl hik
            | k + 17, hk => omega
          · intro a X g1 g2 g3 g4 g5 KK hKK
            obtain ⟨gs, e1, e2, e3, -⟩ := g4 15 (by decide) (by kernel_rfl)
            obtain ⟨x1, r1, t1, t2⟩ := g4 13 (by decide) (by kernel_rfl)
            refine st_store_rst rfl (wanted_none rfl) rfl rfl e1 t1 (e3 rfl) fun w' hB hkb => hKK _ trivial (fun j hj hjk hr => ?_) (hB _ e2)
            match j, hj with
            | 0, _ => exact hr
            | 1, _ => exact hr
            | 2, _ => exact hr
            | 3, _ => exact hr
            | 4, _ => exact hr
            | 5, _ => exact hr
            | 6, _ => exact hr
            | 7, _ => exact hr
            | 8, _ => exact hr
            | 9, _ => exact hr
            | 10, _ => exact hr
            | 11, _ => exact hr
            | 12, _ => exact hr
            | 13, _ => exact hr
            | 14, _ => exact hr
            | 15, _ =>
              obtain ⟨gs', d1, d2, -, -⟩ := hr
              have hbb : gs' = gs := by
                have := e1.symm.trans d1
                simpa using this.symm
              subst hbb
              exact ⟨_, d1, d2, (fun e => by cases e), fun _ => ⟨x1, r1, hkb, t2⟩⟩
            | 16, _ => exact absurd rfl hjk
            | k + 17, hk => omega
          intro vs W2 hvs _ hBW2
          obtain ⟨x11, r11, v11, -⟩ := hvs 11 (by omega) (by decide)
          obtain ⟨x12, r12, v12, -⟩ := hvs 12 (by omega) (by decide)
          obtain ⟨x13, r13, v13, -⟩ := hvs 13 (by omega) (by decide)
          obtain ⟨gs, v15, hgs, -, hbx⟩ := hvs 15 (by omega) (by decide)
          obtain ⟨x, r, hbs, hxr⟩ := hbx rfl
          have v0 : vs 0 = _ := hvs 0 (by omega) (by decide)
          have v1 : vs 1 = _ := hvs 1 (by omega) (by decide)
          have v2 : vs 2 = _ := hvs 2 (by omega) (by decide)
          have v3 : vs 3 = _ := hvs 3 (by omega) (by decide)
          have v4 : vs 4 = _ := hvs 4 (by omega) (by decide)
          have v5 : vs 5 = _ := hvs 5 (by omega) (by decide)
          have v6 : vs 6 = _ := hvs 6 (by omega) (by decide)
          have v7 : vs 7 = _ := hvs 7 (by omega) (by decide)
          have v8 : vs 8 = _ := hvs 8 (by omega) (by decide)
          have v9 : vs 9 = _ := hvs 9 (by omega) (by decide)
          have v10 : vs 10 = _ := hvs 10 (by omega) (by decide)
          have v14 : vs 14 = _ := hvs 14 (by omega) (by decide)
          simp only [putSkip, Nat.reduceEqDiff, reduceIte, v0, v1, v2, v3, v4, v5, v6, v7, v8, v9, v10, v11, v12, v13, v14, v15]
          clear v0 v1 v2 v3 v4 v5 v6 v7 v8 v9 v10 v11 v12 v13 v14 v15 hvs hbx
          simp only [dstOf, Act.put, List.getElem?_toArray, List.getElem?_cons_zero, List.getElem?_cons_succ, Option.bind_some, Option.getD_some, List.setIfInBounds_toArray, List.set_cons_succ, List.set_cons_zero, List.drop_succ_cons, List.drop_zero]
          have HS2 := Lib.hid (HS.out.bel (hBW2.mono (Nat.le_refl _)))
          have HO2 := Lib.hid (HO.out.below hBW2)
          have HB2 := Lib.hid (HB.out.trans (hBW2.mono (by have := HB.out.size; omega)))
          have hzr := HB.out.size
          have hz2 := hBW2.size
          have HBS := Lib.hid hbs
          have hgs2 : gb + 1 < gs := by have := HS.out.cell 0 (by omega); omega
          have em : ((lo + (m : Int)) + 1 : Int) = lo + ((m + 1 : Nat) : Int) := by push_cast; omega
          have e1 : IntKind.i64.wrap (lo + (m : Int) + 1) = lo + ((m + 1 : Nat) : Int) := by rw [IntWalk.i64_in _ (by omega)]; exact em
          have HH := Lib.hid hbl
          clear hbs hBW2 HS HO HB cl0 cl1 hbl KR lb hwd hp
          by_cases hrt : rightB kd q (lo + (m : Int)) = true
          · have hz := hxr hrt
            have hzb := does_bd (s := ⟨kd, hr, lo, hi⟩) hk HSP.out hqb HSB.out.2 (by dsimp only; omega) hrt
            dsimp only at hzb hz
            rw [← hz] at hzb
            dsimp only at hzb
            have HRT := Lib.hid hrt
            rw [hrt]
            obtain ⟨j, hj⟩ : ∃ j : Nat, 401 * r + x = (j : Int) := ⟨(401 * r + x).toNat, by omega⟩
            have hj1 : j < 32882 := by omega
            obtain ⟨s1, s2, s3⟩ := HS2.out.cell j hj1
            have w1 : IntKind.i64.wrap (401 * r) = 401 * r := IntWalk.i64_in _ (by omega)
            have w2 : IntKind.i64.wrap (401 * r + x) = (j : Int) := by rw [IntWalk.i64_in _ (by omega)]; exact hj
            have j0 : (0 : Int) ≤ (j : Int) := by omega
            have j1 : (j : Int) < 32882 := by omega
            have c0 := HBS.out.cell 0
            have c1 := HBS.out.cell 1
            have lbs := HBS.out.lt
            simp only [List.size_toArray, List.length_cons, List.length_nil, Nat.reduceAdd, Nat.reduceLT, getElem?_pos, List.getElem_toArray, List.getElem_cons_zero, List.getElem_cons_succ] at c0 c1
            have hiff := seen_iff (out := out2) (fun z hz => (HQ.out.2.2 z hz).1) (x := (x, r)) hzb.1 (j := j) hj
            have HZ := Lib.hid (show (x, r) = doesS kd (aftS st dt) (lo + (m : Int)) by rw [hq2]; exact hz)
            have HRQ := Lib.hid (show rightB kd (aftS st dt).1 (lo + (m : Int)) = true by rw [hq]; exact hrt)
            have HZB := Lib.hid hzb
            have HJ := Lib.hid hj
            clear hz hxr hrt hj hq hq2 hqb hzb
            generalize hbb : (out2.any fun z => 401 * z.2 + z.1 == (j : Int)) = bb at *
            cases bb with
            | true =>
              have HIN := Lib.hid (hiff.1 rfl)
              clear hbb hiff
              go_wp2_with fail
              go_roundw
              case rel => exact ⟨m + 1, out2, by omega, rfl, Lib.hid (HQ.out.seen (by rw [← HZ.out]; exact HIN.out)), HS2, HO2, HB2⟩
              case measure => simp [intOf]; omega
            | false =>
              clear hbb hiff
              go_upto_region 12 with fail
              generalize hW3 : W2.setCell _ _ = W3
              have hS3 : SeenAt W3 (gb + 1) (out2 ++ [(x, r)]) := by rw [← hW3]; exact HS2.out.put (x, r) j HJ.out
              have hO3 : OwnRs W3 (gb + 2) u7 out2 := by rw [← hW3]; exact HO2.out.kept (fun g hg => Below.heap_setCell W2 ⟨gb + 1, j, none⟩ _ g (by have := (HO2.out.lt g hg).1; show g ≠ gb + 1; omega))
              have hB3 : Below (gb + 1) W W3 := by rw [← hW3]; exact HB2.out.setCell (by simp) _
              have hbs3 : Blk W3 gs 96 #[.int .i64 x, .int .i64 r] := by rw [← hW3]; exact HBS.out.setOther (by omega) _ _
              have hz3 : gb + 2 ≤ W3.heap.size := by rw [← hW3]; simp; omega
              have HS3 := Lib.hid hS3
              have HO3 := Lib.hid hO3
              have HB3 := Lib.hid hB3
              have HL2 := Lib.hid (show out2.length ≤ 8700000000000 by have h1 := HQ.out.2.1; have h2 := List.length_take_le k l; omega)
              clear s1 s2 s3 c0 c1 lbs hW3 hS3 hO3 hB3 HS2 HO2 HB2
              have c0 := hbs3.cell 0
              have c1 := hbs3.cell 1
              have lbs := hbs3.lt
              simp only [List.size_toArray, List.length_cons, List.length_nil, Nat.reduceAdd, Nat.reduceLT, getElem?_pos, List.getElem_toArray, List.getElem_cons_zero, List.getElem_cons_succ] at c0 c1
              clear hbs3
              obtain ⟨q7, cq7, e7, -⟩ := HO3.out.at
              subst e7
              go_wp2_with (at_builtin; refine wpList_append_rst rfl _ _ rfl (gb + 2) _ _ rfl (HO3.out.below ((Below.refl _ _).alloc (Nat.le_refl _) _)) W3.heap.size (x, r) rfl (Blk.new rfl) HL2.out (by simp; omega) ?_; intro v' w1 ho hg; have HO4 := Lib.hid ho; have HG4 := Lib.hid hg; clear ho hg)
              have HB4 := Lib.hid (Below.grown (w := W3.alloc (.cells #[.int .i64 x, .int .i64 r] 96)) (HB3.out.alloc (by omega) _) HG4.out (by simp; omega) (fun j hj => by have := (HO3.out.lt j hj).1; omega))
              have HS4 := Lib.hid ((HS3.out.bel ((Below.refl _ _).alloc (Nat.le_refl _) (.cells #[.int .i64 x, .int .i64 r] 96))).grown HG4.out (fun e => by have := (HO3.out.lt _ e).1; omega))
              go_wp2_with fail
              go_roundw
              case rel => exact ⟨m + 1, out2 ++ [(x, r)], by omega, rfl, Lib.hid (HQ.out.more HRQ.out HZ.out HZB.out), HS4, HO4, HB4⟩
              case measure => simp [intOf]; omega
          · have hrf : rightB kd q (lo + (m : Int)) = false := by simpa using hrt
            rw [hrf]
            have HRQ := Lib.hid (show rightB kd (aftS st dt).1 (lo + (m : Int)) = false by rw [hq]; exact hrf)
            clear hrt hrf hxr hq hq2 hqb
            go_wp2_with fail
            go_roundw
            case rel => exact ⟨m + 1, out2, by omega, rfl, Lib.hid (HQ.out.wrong HRQ.out), HS2, HO2, HB2⟩
            case measure => simp [intOf]; omega
        · have hc : decide (lo + (m : Int) ≤ hi) = false := by simpa using hle
          have HP2 := Lib.hid (show NotedP ⟨kd, hr, lo, hi⟩ dt (l.take (k + 1)) out2 by rw [HTK.out]; exact HQ.out.close (by dsimp only; omega) (by dsimp only; omega))
          have e1 : IntKind.i64.wrap ((k : Int) + 1) = ((k + 1 : Nat) : Int) := by rw [IntWalk.i64_in _ (by omega)]; push_cast; rfl
          clear hle
          go_wp2_with fail
          go_roundw
          case rel => exact ⟨k + 1, out2, by omega, rfl, HP2, HS, HO, HB⟩
          case measure => simp [intOf]; omega
    · have hc : decide (k < N) = false := by simpa using hlt
      have hk1 : k = N := by omega
      have HP2 := Lib.hid (show NotedP ⟨kd, hr, lo, hi⟩ dt l out by rw [← List.take_length (l := l), HN.out, ← hk1]; exact HP.out)
      clear hk1 hlt
      obtain ⟨q7, cq7, e7, -⟩ := HO.out.at
      subst e7
      have HO2 := Lib.hid (show OwnRs wr w.heap.size _ _ from HO.out.mono (by have := HGB.out; omega))
      have HB2 := Lib.hid (HW.out.trans (HB.out.mono (by have := HGB.out; omega)))
      go_wp2_with fail
      go_ret
      exact ⟨_, out, rfl, HO2.out, HP2.out, HB2.out⟩
end Go.Proofs.YtjjfpbjdcmkkhaaDoor

