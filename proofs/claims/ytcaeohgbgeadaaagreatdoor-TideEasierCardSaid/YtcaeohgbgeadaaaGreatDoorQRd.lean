/- For the rows of package tide's laws: how a book, a list and numbers are read as arguments (after Ra), the variable that the row lists. Written by gen_rd.py. -/
/- How a list of numbers is read as an argument. -/
import Derived.Test.YtcaeohgbgeadaaaGreatDoorQEs
import Derived.Test.YtcaeohgbgeadaaaGreatDoorChecked
import Derived.Test.YtcaeohgbgeadaaaGreatDoorCards
import Derived.Test.YtcaeohgbgeadaaaGreatDoorTie
import Derived.Lib.SmallJoins
import Derived.Deep.SlicePairs
import Derived.Deep.Matrix
import Derived.Deep.Slices
import Derived.LaidMore
import Derived.WideKeyArgs
import Derived.Below
import Derived.ChangeSame
import Derived.OpenShut
import Derived.ProofKit
import Derived.Deep.DeepHandedRow
import Derived.Lib.LaidTab
set_option linter.unusedSimpArgs false
set_option linter.unusedVariables false
namespace Go.Proofs.YtcaeohgbgeadaaaGreatDoor
open Go Go.RowKit Go.Joins Go.ChangeShapes Go.WideShapes Go.ChangeAt Go.Deep

theorem spot_of {w : World} {a : Addr} {v : Value} (h : w.cell? a = some v) : a = ⟨a.block, a.off, none⟩ ∧ a.block < w.heap.size := by
  unfold World.cell? at h
  cases hb : w.heap[a.block]? with
  | none => rw [hb] at h; cases h
  | some ob =>
    rw [hb] at h
    have hlt := (Array.getElem?_eq_some_iff.1 hb).1
    cases ob <;> simp only at h <;> try cases h
    split at h
    · cases h
    · rename_i hs
      refine ⟨?_, hlt⟩
      obtain ⟨b, o, s⟩ := a
      cases s with
      | none => rfl
      | some x => simp at hs
theorem add_of (b o i : Nat) : (⟨b, o, none⟩ : Addr).add i = ⟨b, o + i, none⟩ := by
  unfold Addr.add
  split
  · rename_i h; subst h; rfl
  · rfl

section
variable {H : Type} {enc : TypeId × Value → H} {w : World} {base : Nat}
theorem open_num {n : Nat} {t : TypeId} {v : Value} {x : DataW H × List MemPlace} {spare : Nat → Bool} {held : Bool} (ht : t = 3) (h : DataW.trod enc Tryz.prog w base spare held n t [v] = some x) : ∃ k, v = .int .i64 k := by
  subst ht
  obtain ⟨k, h1, -, -⟩ := DataW.trod_int (k := .i64) (by kernel_rfl) h
  simp only [List.cons.injEq, and_true] at h1
  exact ⟨k, h1⟩
theorem struct_at {t : TypeId} {fs : Array Field} {fuel : Nat} {cs : List Value} {x : DataW H × List MemPlace} {spare : Nat → Bool} {held : Bool} (ht : Tryz.prog.underlying t = some (.struct fs)) (h : DataW.trod enc Tryz.prog w base spare held fuel t cs = some x) (i : Nat) (f : Field) (o n : Nat) (e : TypeId)
    (hf : fs[i]? = some f) (ho : f.offset = o) (hn : Tryz.prog.cellsOf f.type = n) (he : f.type = e) : ∃ m y, DataW.trod enc Tryz.prog w base spare held m e ((cs.drop o).take n) = some y := by
  subst ho hn he
  obtain ⟨xs, m, -, -, -, hlen, hg⟩ := DataW.trod_struct ht h
  have hi : i < xs.length := by rw [hlen]; exact (Array.getElem?_eq_some_iff.1 hf).1
  exact ⟨m, xs[i], by rw [hg i f hf, List.getElem?_eq_getElem hi]⟩
theorem open_note {fuel : Nat} {cs : List Value} {x : DataW H × List MemPlace} {spare : Nat → Bool} {held : Bool} (hl : cs.length = 4) (h : DataW.trod enc Tryz.prog w base spare held fuel 75 cs = some x) : ∃ a b c d : Int, cs = [.int .i64 a, .int .i64 b, .int .i64 c, .int .i64 d] := by
  match cs, hl with
  | [c0, c1, c2, c3], _ =>
    have hu : Tryz.prog.underlying 75 = some (.struct (Tryz.prog.fieldsOf 75)) := by kernel_rfl
    obtain ⟨m0, y0, h0⟩ := struct_at hu h 0 ((Tryz.prog.fieldsOf 75)[0]!) 0 1 3 (by kernel_rfl) (by kernel_rfl) (by kernel_rfl) (by kernel_rfl)
    obtain ⟨m1, y1, h1⟩ := struct_at hu h 1 ((Tryz.prog.fieldsOf 75)[1]!) 1 1 3 (by kernel_rfl) (by kernel_rfl) (by kernel_rfl) (by kernel_rfl)
    obtain ⟨m2, y2, h2⟩ := struct_at hu h 2 ((Tryz.prog.fieldsOf 75)[2]!) 2 2 23 (by kernel_rfl) (by kernel_rfl) (by kernel_rfl) (by kernel_rfl)
    have hs : Tryz.prog.underlying 23 = some (.struct (Tryz.prog.fieldsOf 23)) := by kernel_rfl
    obtain ⟨m3, y3, h3⟩ := struct_at hs h2 0 ((Tryz.prog.fieldsOf 23)[0]!) 0 1 3 (by kernel_rfl) (by kernel_rfl) (by kernel_rfl) (by kernel_rfl)
    obtain ⟨m4, y4, h4⟩ := struct_at hs h2 1 ((Tryz.prog.fieldsOf 23)[1]!) 1 1 3 (by kernel_rfl) (by kernel_rfl) (by kernel_rfl) (by kernel_rfl)
    simp only [List.drop_succ_cons, List.drop_zero, List.take_succ_cons, List.take_zero] at h0 h1 h3 h4
    obtain ⟨a, rfl⟩ := open_num rfl h0
    obtain ⟨b, rfl⟩ := open_num rfl h1
    obtain ⟨c, rfl⟩ := open_num rfl h3
    obtain ⟨d, rfl⟩ := open_num rfl h4
    exact ⟨a, b, c, d, rfl⟩
theorem open_notes {fuel : Nat} {v : Value} {x : DataW H × List MemPlace} (h : DataW.trod enc Tryz.prog w base (fun _ => true) true fuel 24 [v] = some x) : ∃ (p : Option Addr) (l : List Nt) (c : Nat), v = .slice p l.length c ∧ NotesAt w p l ∧ l.length ≤ 9223372036854775807 := by
  rcases open_slice (e := 75) (by kernel_rfl) h with ⟨h1, -⟩ | ⟨a, len, cap, m, n, D, Pl, h1, -, hl, hcap, hm, -, hi⟩
  · simp only [List.cons.injEq, and_true] at h1
    exact ⟨none, [], 0, h1, (fun i s hs => by simp at hs), by simp⟩
  · simp only [List.cons.injEq, and_true] at h1
    simp only [if_true] at hm
    subst hm
    have hc4 : Tryz.prog.cellsOf 75 = 4 := by kernel_rfl
    rw [hc4] at hi
    have each : ∀ i, i < m → ∃ s : Nt, w.cell? (a.add (i * 4)) = some (.int .i64 s.kind) ∧ w.cell? ((a.add (i * 4)).add 1) = some (.int .i64 s.hour) ∧ w.cell? ((a.add (i * 4)).add 2) = some (.int .i64 s.lo) ∧ w.cell? ((a.add (i * 4)).add 3) = some (.int .i64 s.hi) := fun i hi2 => by
      obtain ⟨cs', hcs, ht⟩ := hi i hi2
      obtain ⟨-, hlen, hget⟩ := World.cells?_some hcs
      obtain ⟨p, q, r, u, rfl⟩ := open_note hlen ht
      refine ⟨⟨p, q, r, u⟩, ?_, by rw [hget 1 (by omega)]; rfl, by rw [hget 2 (by omega)]; rfl, by rw [hget 3 (by omega)]; rfl⟩
      have := hget 0 (by omega)
      simpa [Addr.add] using this
    refine ⟨some a, (List.range len).map (fun i => if h : i < m then Classical.choose (each i h) else ⟨0, 0, 0, 0⟩), m, by simpa using h1, (fun i s hs => ?_), ?_⟩
    rotate_left 1
    · have : maxLen ≤ 9223372036854775807 := by decide
      simp only [List.length_map, List.length_range]; omega
    have hlt : i < len := by have := (List.getElem?_eq_some_iff.1 hs).1; simpa using this
    have him : i < m := by omega
    have hs2 : s = Classical.choose (each i him) := by
      simp [List.getElem?_map, List.getElem?_range hlt, him] at hs
      exact hs.symm
    obtain ⟨s0, z0, -⟩ := each 0 (by omega)
    obtain ⟨ha, hb⟩ := spot_of (a := a) (by simpa [Addr.add] using z0)
    obtain ⟨c0, c1, c2, c3⟩ := Classical.choose_spec (each i him)
    rw [← hs2] at c0 c1 c2 c3
    rw [ha, add_of] at c0 c1 c2 c3
    rw [add_of] at c1 c2 c3
    exact ⟨a.block, a.off, by rw [← ha], hb, c0, c1, c2, c3⟩
theorem open_low {fuel : Nat} {cs : List Value} {x : DataW H × List MemPlace} {spare : Nat → Bool} {held : Bool} (hl : cs.length = 3) (h : DataW.trod enc Tryz.prog w base spare held fuel 69 cs = some x) : ∃ a b c : Int, cs = [.int .i64 a, .int .i64 b, .int .i64 c] := by
  match cs, hl with
  | [c0, c1, c2], _ =>
    have hu : Tryz.prog.underlying 69 = some (.struct (Tryz.prog.fieldsOf 69)) := by kernel_rfl
    obtain ⟨m0, y0, h0⟩ := struct_at hu h 0 ((Tryz.prog.fieldsOf 69)[0]!) 0 1 3 (by kernel_rfl) (by kernel_rfl) (by kernel_rfl) (by kernel_rfl)
    obtain ⟨m2, y2, h2⟩ := struct_at hu h 1 ((Tryz.prog.fieldsOf 69)[1]!) 1 2 23 (by kernel_rfl) (by kernel_rfl) (by kernel_rfl) (by kernel_rfl)
    have hs : Tryz.prog.underlying 23 = some (.struct (Tryz.prog.fieldsOf 23)) := by kernel_rfl
    obtain ⟨m3, y3, h3⟩ := struct_at hs h2 0 ((Tryz.prog.fieldsOf 23)[0]!) 0 1 3 (by kernel_rfl) (by kernel_rfl) (by kernel_rfl) (by kernel_rfl)
    obtain ⟨m4, y4, h4⟩ := struct_at hs h2 1 ((Tryz.prog.fieldsOf 23)[1]!) 1 1 3 (by kernel_rfl) (by kernel_rfl) (by kernel_rfl) (by kernel_rfl)
    simp only [List.drop_succ_cons, List.drop_zero, List.take_succ_cons, List.take_zero] at h0 h3 h4
    obtain ⟨a, rfl⟩ := open_num rfl h0
    obtain ⟨c, rfl⟩ := open_num rfl h3
    obtain ⟨d, rfl⟩ := open_num rfl h4
    exact ⟨a, c, d, rfl⟩
theorem open_lows {fuel : Nat} {v : Value} {x : DataW H × List MemPlace} (h : DataW.trod enc Tryz.prog w base (fun _ => true) true fuel 27 [v] = some x) : ∃ (p : Option Addr) (l : List Lw) (c : Nat), v = .slice p l.length c ∧ LowsAt w p l ∧ l.length ≤ 9223372036854775807 := by
  rcases open_slice (e := 69) (by kernel_rfl) h with ⟨h1, -⟩ | ⟨a, len, cap, m, n, D, Pl, h1, -, hl, hcap, hm, -, hi⟩
  · simp only [List.cons.injEq, and_true] at h1
    exact ⟨none, [], 0, h1, (fun i s hs => by simp at hs), by simp⟩
  · simp only [List.cons.injEq, and_true] at h1
    simp only [if_true] at hm
    subst hm
    have hc3 : Tryz.prog.cellsOf 69 = 3 := by kernel_rfl
    rw [hc3] at hi
    have each : ∀ i, i < m → ∃ s : Lw, w.cell? (a.add (i * 3)) = some (.int .i64 s.hour) ∧ w.cell? ((a.add (i * 3)).add 1) = some (.int .i64 s.lo) ∧ w.cell? ((a.add (i * 3)).add 2) = some (.int .i64 s.hi) := fun i hi2 => by
      obtain ⟨cs', hcs, ht⟩ := hi i hi2
      obtain ⟨-, hlen, hget⟩ := World.cells?_some hcs
      obtain ⟨p, q, r, rfl⟩ := open_low hlen ht
      refine ⟨⟨p, q, r⟩, ?_, by rw [hget 1 (by omega)]; rfl, by rw [hget 2 (by omega)]; rfl⟩
      have := hget 0 (by omega)
      simpa [Addr.add] using this
    refine ⟨some a, (List.range len).map (fun i => if h : i < m then Classical.choose (each i h) else ⟨0, 0, 0⟩), m, by simpa using h1, (fun i s hs => ?_), ?_⟩
    rotate_left 1
    · have : maxLen ≤ 9223372036854775807 := by decide
      simp only [List.length_map, List.length_range]; omega
    have hlt : i < len := by have := (List.getElem?_eq_some_iff.1 hs).1; simpa using this
    have him : i < m := by omega
    have hs2 : s = Classical.choose (each i him) := by
      simp [List.getElem?_map, List.getElem?_range hlt, him] at hs
      exact hs.symm
    obtain ⟨s0, z0, -⟩ := each 0 (by omega)
    obtain ⟨ha, hb⟩ := spot_of (a := a) (by simpa [Addr.add] using z0)
    obtain ⟨c0, c1, c2⟩ := Classical.choose_spec (each i him)
    rw [← hs2] at c0 c1 c2
    rw [ha, add_of] at c0 c1 c2
    rw [add_of] at c1 c2
    exact ⟨a.block, a.off, by rw [← ha], hb, c0, c1, c2⟩
theorem okWide_array {P : Program} {t e : TypeId} {n : Nat} {v : Value} {r : Reach} {b0 : Nat} (ht : P.underlying t = some (.array n e)) (h : Value.okWide P w r b0 t v) : ∃ cs, v = .agg cs ∧ cs.size = P.cellsOf t := by
  unfold Value.okWide at h
  rw [ht] at h
  obtain ⟨cs, h1, h2, -⟩ := h
  exact ⟨cs, h1, h2⟩
theorem okWide_struct {P : Program} {t : TypeId} {fs : Array Field} {v : Value} {r : Reach} {b0 : Nat} (ht : P.underlying t = some (.struct fs)) (h : Value.okWide P w r b0 t v) : ∃ cs, v = .agg cs ∧ cs.size = P.cellsOf t ∧ Row.okWide P w r b0 t cs := by
  unfold Value.okWide at h
  rw [ht] at h
  exact h
theorem shape_lt {b : Nat} {x : TypeId × Nat} (h : w.shape? b = some x) : b < w.heap.size := by
  unfold World.shape? at h
  cases hb : w.heap[b]? with
  | none => rw [hb] at h; simp at h
  | some o => exact (Array.getElem?_eq_some_iff.1 hb).1
theorem slice_ok {P : Program} {r : Reach} {b0 : Nat} {t e : TypeId} {v : Value} (ht : P.underlying t = some (.slice e)) (h : Cell.okWide P w r b0 t v) : ∃ p n c, v = .slice p n c ∧ n ≤ c ∧ (∀ a, p = some a → (∃ b o, a = ⟨b, o, none⟩) ∧ a.block < w.heap.size) ∧ (p = none → c = 0) := by
  unfold Cell.okWide at h
  rw [ht] at h
  have h2 : Cell.ok P w r b0 t v := by cases v <;> exact h
  unfold Cell.ok at h2
  rw [ht] at h2
  cases v with
  | slice p n c =>
    cases p with
    | none =>
      refine ⟨none, n, c, rfl, ?_, fun a ha => (by cases ha), fun _ => ?_⟩
      all_goals (cases n <;> cases c <;> first | exact Nat.le_refl _ | rfl | exact h2.elim)
    | some a =>
      obtain ⟨h3, -, h4⟩ := h2
      obtain ⟨-, h5, row, cells, h6, -⟩ := h4
      refine ⟨some a, n, c, rfl, h3, fun a' ha => ?_, fun e => (by cases e)⟩
      cases ha
      obtain ⟨b, o, s⟩ := a
      dsimp only at h5 h6
      subst h5
      exact ⟨⟨b, o, rfl⟩, shape_lt h6⟩
  | _ => exact h2.elim
theorem cells_book : Tryz.prog.cellTypes Tryz.prog.depth 29 = some [3, 3, 24, 3, 27, 3, 3, 3, 3] := by kernel_rfl
theorem u_tbook : Tryz.prog.underlying 29 = some (.struct (Tryz.prog.fieldsOf 29)) := by kernel_rfl
theorem u_sbook : Tryz.prog.underlying 26 = some (.struct (Tryz.prog.fieldsOf 26)) := by kernel_rfl
theorem u_sspan : Tryz.prog.underlying 23 = some (.struct (Tryz.prog.fieldsOf 23)) := by kernel_rfl
theorem u_snotes : Tryz.prog.underlying 24 = some (.slice 75) := by kernel_rfl
theorem u_lows : Tryz.prog.underlying 27 = some (.slice 69) := by kernel_rfl
set_option maxRecDepth 100000 in
/-- A book that came in. -/
theorem open_tbook {v : Value} {d : DataW H} {p : List MemPlace} {r : Reach} {b0 : Nat} (hv : Value.okWide Tryz.prog w r b0 29 v) (h : DataW.Trod enc Tryz.prog w base (fun _ => true) true 29 v d p) :
    ∃ (b : Tk) (q : Tp), v = tv b q ∧ NotesAt w q.np b.q.ns ∧ LowsAt w q.tp b.ts ∧ (∀ a, q.np = some a → a.block < w.heap.size) ∧ (∀ a, q.tp = some a → a.block < w.heap.size) ∧ b.q.ns.length ≤ 9223372036854775807 := by
  obtain ⟨cs, rfl, hsz, hrow⟩ := okWide_struct u_tbook hv
  have hc3 : Tryz.prog.cellsOf 29 = 9 := by kernel_rfl
  rw [hc3] at hsz
  obtain ⟨fuel, hf⟩ := h
  have hcs : (Value.agg cs).cells.toList = cs.toList := rfl
  rw [hcs] at hf
  match cs, hsz with
  | ⟨[c0, c1, c2, c3, c4, c5, c6, c7, c8]⟩, _ =>
    obtain ⟨ts, e1, -, e2⟩ := hrow
    rw [cells_book] at e1
    cases e1
    obtain ⟨u, e3, e4⟩ := e2 2 c2 rfl
    simp at e3
    subst e3
    obtain ⟨np, n, nc, rfl, s1, s2, s3⟩ := slice_ok u_snotes e4
    obtain ⟨u, e3, e4⟩ := e2 4 c4 rfl
    simp at e3
    subst e3
    obtain ⟨tp, t, tc, rfl, t1, t2, t3⟩ := slice_ok u_lows e4
    obtain ⟨mhS, yhS, hS⟩ := struct_at u_tbook hf 0 ((Tryz.prog.fieldsOf 29)[0]!) 0 3 26 (by kernel_rfl) (by kernel_rfl) (by kernel_rfl) (by kernel_rfl)
    obtain ⟨mhN, yhN, hN⟩ := struct_at u_tbook hf 1 ((Tryz.prog.fieldsOf 29)[1]!) 3 1 3 (by kernel_rfl) (by kernel_rfl) (by kernel_rfl) (by kernel_rfl)
    obtain ⟨mhT, yhT, hT⟩ := struct_at u_tbook hf 2 ((Tryz.prog.fieldsOf 29)[2]!) 4 1 27 (by kernel_rfl) (by kernel_rfl) (by kernel_rfl) (by kernel_rfl)
    obtain ⟨mhG, yhG, hG⟩ := struct_at u_tbook hf 3 ((Tryz.prog.fieldsOf 29)[3]!) 5 2 23 (by kernel_rfl) (by kernel_rfl) (by kernel_rfl) (by kernel_rfl)
    obtain ⟨mhM, yhM, hM⟩ := struct_at u_tbook hf 4 ((Tryz.prog.fieldsOf 29)[4]!) 7 1 3 (by kernel_rfl) (by kernel_rfl) (by kernel_rfl) (by kernel_rfl)
    obtain ⟨mhR, yhR, hR⟩ := struct_at u_tbook hf 5 ((Tryz.prog.fieldsOf 29)[5]!) 8 1 3 (by kernel_rfl) (by kernel_rfl) (by kernel_rfl) (by kernel_rfl)
    simp only [List.drop_succ_cons, List.drop_zero, List.take_succ_cons, List.take_zero] at hS hN hT hG hM hR
    obtain ⟨mhI, yhI, hI⟩ := struct_at u_sbook hS 0 ((Tryz.prog.fieldsOf 26)[0]!) 0 2 23 (by kernel_rfl) (by kernel_rfl) (by kernel_rfl) (by kernel_rfl)
    obtain ⟨mhL, yhL, hL⟩ := struct_at u_sbook hS 1 ((Tryz.prog.fieldsOf 26)[1]!) 2 1 24 (by kernel_rfl) (by kernel_rfl) (by kernel_rfl) (by kernel_rfl)
    obtain ⟨mhGl, yhGl, hGl⟩ := struct_at u_sspan hG 0 ((Tryz.prog.fieldsOf 23)[0]!) 0 1 3 (by kernel_rfl) (by kernel_rfl) (by kernel_rfl) (by kernel_rfl)
    obtain ⟨mhGh, yhGh, hGh⟩ := struct_at u_sspan hG 1 ((Tryz.prog.fieldsOf 23)[1]!) 1 1 3 (by kernel_rfl) (by kernel_rfl) (by kernel_rfl) (by kernel_rfl)
    simp only [List.drop_succ_cons, List.drop_zero, List.take_succ_cons, List.take_zero] at hI hL hGl hGh
    obtain ⟨mhIl, yhIl, hIl⟩ := struct_at u_sspan hI 0 ((Tryz.prog.fieldsOf 23)[0]!) 0 1 3 (by kernel_rfl) (by kernel_rfl) (by kernel_rfl) (by kernel_rfl)
    obtain ⟨mhIh, yhIh, hIh⟩ := struct_at u_sspan hI 1 ((Tryz.prog.fieldsOf 23)[1]!) 1 1 3 (by kernel_rfl) (by kernel_rfl) (by kernel_rfl) (by kernel_rfl)
    simp only [List.drop_succ_cons, List.drop_zero, List.take_succ_cons, List.take_zero] at hIl hIh
    obtain ⟨lo, rfl⟩ := open_num rfl hIl
    obtain ⟨hi, rfl⟩ := open_num rfl hIh
    obtain ⟨now, rfl⟩ := open_num rfl hN
    obtain ⟨glo, rfl⟩ := open_num rfl hGl
    obtain ⟨ghi, rfl⟩ := open_num rfl hGh
    obtain ⟨most, rfl⟩ := open_num rfl hM
    obtain ⟨rest, rfl⟩ := open_num rfl hR
    obtain ⟨q', l, c', e5, hNA, hNB⟩ := open_notes hL
    obtain ⟨q2, l2, c2, e6, hLA, hLB⟩ := open_lows hT
    simp only [Value.slice.injEq] at e5 e6
    obtain ⟨rfl, rfl, rfl⟩ := e5
    obtain ⟨rfl, rfl, rfl⟩ := e6
    exact ⟨⟨⟨lo, hi, l⟩, now, l2, glo, ghi, most, rest⟩, ⟨np, nc, tp, tc⟩, rfl, hNA, hLA, fun a ha => (s2 a ha).2, fun a ha => (t2 a ha).2, hNB⟩
set_option maxRecDepth 100000 in
/-- A row of numbers that came in. -/
theorem open_row {t : TypeId} {n : Nat} {v : Value} {d : DataW H} {p : List MemPlace} {r : Reach} {b0 : Nat} (ht : Tryz.prog.underlying t = some (.array n 3)) (hc : Tryz.prog.cellsOf t = n) (hv : Value.okWide Tryz.prog w r b0 t v) (h : DataW.Trod enc Tryz.prog w base (fun _ => true) true t v d p) :
    ∃ l : List Int, l.length = n ∧ v = .agg (l.map (Value.int .i64)).toArray := by
  obtain ⟨cs, rfl, hsz⟩ := okWide_array ht hv
  obtain ⟨fuel, hf⟩ := h
  obtain ⟨xs, m, -, -, hlen, hxl, hel⟩ := DataW.trod_array ht hf
  have hce : Tryz.prog.cellsOf 3 = 1 := by kernel_rfl
  rw [hce] at hel
  have hcs : (Value.agg cs).cells.toList = cs.toList := rfl
  rw [hcs] at hlen hel
  have hn : cs.toList.length = n := by rw [hlen, hc]
  have each : ∀ i (hi : i < cs.toList.length), ∃ k, cs.toList[i] = .int .i64 k := fun i hi => by
    have h1 := hel i (by omega)
    rw [Nat.mul_one, List.drop_eq_getElem_cons hi, List.take_succ_cons, List.take_zero, List.getElem?_eq_getElem (by omega)] at h1
    exact open_num rfl h1
  refine ⟨cs.toList.map intOf, by simpa using hn, ?_⟩
  have : (cs.toList.map intOf).map (Value.int .i64) = cs.toList := by
    apply List.ext_getElem
    · simp
    · intro i h1 h2
      obtain ⟨k, hk⟩ := each i h2
      simp only [List.getElem_map, hk]
      rfl
  rw [this]
end
theorem laid_out : laidOutB Tryz.prog = true := by kernel_rfl
theorem own_knob : ownKnob Tryz.prog.godebug = none := by kernel_rfl
theorem g_most : Tryz.prog.globalNamed "huer/seine.mostMany" = some 0 := by kernel_rfl
theorem g_mostT : (Tryz.prog.globals[0]?).map (·.type) = some 116 := by kernel_rfl
/-- What the row's list gives: the package's table lies where it was laid. -/
theorem mm_of {W : World} (h : laidMetH Tryz.prog Rows.tideBestRow.laid W) : MM W := by
  have ht : Lib.TabIs Tryz.prog W "huer/seine.mostMany" .i64 [400, 9, 0, 400, 400] := Lib.tabIs_of_head (rest := []) g_most g_mostT (e := 3) (n := 5) (by kernel_rfl) (by kernel_rfl) (by kernel_rfl) (by kernel_rfl) h
  have c0 : W.cell? ⟨0, 0, none⟩ = some (.int .i64 400) := ht.cell g_most 0 (by decide)
  exact ⟨(spot_of c0).2, c0, ht.cell g_most 1 (by decide), ht.cell g_most 2 (by decide), ht.cell g_most 3 (by decide), ht.cell g_most 4 (by decide)⟩
section
variable {H : Type} {enc : TypeId × Value → H} {P : Program}
/-- A row's last step, where nothing that was there has changed. -/
theorem post_below {f : Func} {s : ChangeSpec} {apart fresh handsOn again : Bool} {W W' : World} {args : Array Value} {v : Value} {ds gs : List (DataW H)} {before pa pv : List MemPlace}
    (hW : DataW.Whole enc P f.params.toList s.vars apart W args.toList ds gs before)
    (hres : ∀ (b : Nat) (sp : Nat → Bool) (hd : Bool), DataW.TrodAll enc P W' b sp hd f.resultTypes.toList (v.resultList f.resultTypes.size) (s.fn H (ds ++ gs)).results [])
    (hargs : ∀ sp : Nat → Bool, (∀ p ∈ before, sp p.block = true) → DataW.TrodAll enc P W' 0 sp true f.params.toList args.toList (s.fn H (ds ++ gs)).args pa)
    (hvars : ∀ sp : Nat → Bool, (∀ p ∈ before, sp p.block = true) → DataW.TrodVars enc P W' sp s.vars (s.fn H (ds ++ gs)).vars pv)
    (hps : before = pa ++ pv) (hb : Below W.heap.size W W')
    (hok : ∀ (j : Nat) (t : TypeId) (r : Value), f.resultTypes[j]? = some t → (v.resultList f.resultTypes.size)[j]? = some r → Value.okWide P W' .any 0 t r) :
    s.post enc P f apart fresh handsOn again W args v W' := by
  have hlt : ∀ p ∈ before, p.block < W.heap.size := fun p hp => hW.lt p hp
  have hold : ∀ p ∈ before, (fun b => decide (b < W.heap.size)) p.block = true := fun p hp => by simpa using hlt p hp
  refine ⟨ds, gs, before, [], pa, pv, hW, hres _ _ _, hargs _ hold, hvars _ hold, World.keptBut_mono (fun p hp => ⟨hp, ?_⟩) (hb.frame (· ∈ before)), fun _ => ?_⟩
  · rw [hps, List.mem_append] at hp
    exact Or.inr hp
  · obtain ⟨_, _, _, _, _, hz, hn⟩ := hW
    refine ⟨hok, _, _, ([] ++ pa) ++ pv, ⟨[] ++ pa, pv, trodAll_append (hargs _ (fun _ _ => rfl)) (hres _ _ _), hvars _ (fun _ _ => rfl), rfl, ?_, ?_⟩, ?_⟩
    · intro b off hp
      have hin : MemPlace.cell b off ∈ before := by rw [hps]; simpa using hp
      rw [hb.frozen (hlt _ hin)]
      exact hz b off hin
    · intro ha
      have := hn ha
      rw [hps] at this
      simpa using this
    · intro p hp _
      rw [hps]
      simpa using hp
end
/-- A world for the witness: the settled one, the variable (block 0) holding what its initialiser lays. -/
noncomputable def laidWorld (os : Os) : World :=
  { World.holding Tryz.prog os ⟨#[], #[], []⟩ with heap := (World.holding Tryz.prog os ⟨#[], #[], []⟩).heap.modify 0 fun
      | .cells _ t frozen => .cells #[.int .i64 400, .int .i64 9, .int .i64 0, .int .i64 400, .int .i64 400] t frozen
      | o => o }
end Go.Proofs.YtcaeohgbgeadaaaGreatDoor

namespace Go.Proofs.YtcaeohgbgeadaaaGreatDoor
open Go Go.RowKit Go.Joins Go.ChangeShapes Go.WideShapes Go.Deep
section
variable {H : Type} {enc : TypeId × Value → H} {w : World} {base : Nat}
set_option maxRecDepth 100000 in
theorem open_list {v : Value} {d : DataW H} {p : List MemPlace} {r : Reach} {b0 : Nat} (hv : Value.okWide Tryz.prog w r b0 30 v) (h : DataW.Trod enc Tryz.prog w base (fun _ => true) true 30 v d p) :
    ∃ (q : Option Addr) (l : List Int) (c : Nat), v = .slice q l.length c ∧ IntsAt w q l ∧ (l.length : Int) ≤ 9223372036854775807 := by
  obtain ⟨q, len, cap, rfl⟩ := okWide_slice (e := 3) (by kernel_rfl) hv
  obtain ⟨fuel, hf⟩ := h
  rcases open_ints (k := .i64) (e := 3) (by kernel_rfl) (by kernel_rfl) (by kernel_rfl) hf with ⟨h1, -⟩ | ⟨a, len', cap', zs, h1, -, hl, hm, hz, -, hcell, -⟩
  · have h2 : Value.slice q len cap = Value.slice none 0 0 := by simpa [Value.cells] using h1
    rw [h2]
    exact ⟨none, [], 0, rfl, fun i s hs => by simp at hs, by simp⟩
  · have h2 : Value.slice q len cap = Value.slice (some a) len' cap' := by simpa [Value.cells] using h1
    rw [h2]
    simp only [if_true] at hz
    have hlen : (zs.take len').length = len' := by simp; omega
    refine ⟨some a, zs.take len', cap', by rw [hlen], fun i x hx => ?_, ?_⟩
    · have hlt : i < (zs.take len').length := (List.getElem?_eq_some_iff.1 hx).1
      rw [hlen] at hlt
      have hx2 : zs[i]? = some x := by rw [List.getElem?_take_of_lt hlt] at hx; exact hx
      obtain ⟨ha, hb⟩ := spot_of (a := a) (by simpa [Addr.add] using hcell 0 (by omega))
      have hc := hcell i (by omega)
      rw [ha, add_of] at hc
      refine ⟨a.block, a.off, by rw [← ha], hb, ?_⟩
      rw [hc, List.getD_eq_getElem?_getD, hx2]; rfl
    · rw [hlen]
      have : maxLen ≤ 9223372036854775807 := by decide
      omega
end
end Go.Proofs.YtcaeohgbgeadaaaGreatDoor

