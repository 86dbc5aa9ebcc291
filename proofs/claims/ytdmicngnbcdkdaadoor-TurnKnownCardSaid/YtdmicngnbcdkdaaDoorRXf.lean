/- How a book, and a row of numbers, are read as arguments. -/
/- What all laws over a book share: the variable that the row lists, the argument read again. -/
import Derived.Test.YtdmicngnbcdkdaaDoorRTc
import Derived.Test.YtdmicngnbcdkdaaDoorChecked
import Derived.Lib.SmallJoins
import Derived.Deep.SlicePairs
import Derived.Deep.Matrix
import Derived.Deep.Slices
import Derived.LaidMore
import Derived.WideKeyArgs
import Derived.Below
import Derived.ChangeSame
import Derived.OpenShut
import Derived.Test.YtdmicngnbcdkdaaDoorCards
import Derived.Test.YtdmicngnbcdkdaaDoorTie
import Derived.Test.YtdmicngnbcdkdaaDoorRTe
import Derived.ProofKit
import Derived.Deep.DeepHandedRow
import Derived.Lib.LaidTab
set_option linter.unusedSimpArgs false
set_option linter.unusedVariables false
namespace Go.Proofs.YtdmicngnbcdkdaaDoor
open Go Go.RowKit Go.Joins Go.ChangeShapes Go.WideShapes Go.Deep

theorem spot_of {w : World} {a : Addr} {v : Value} (h : w.cell? a = some v) : a = ⟨a.block, a.off, none⟩ ∧ a.block < w.heap.size := by
  unfold World.cell? at h
  cases hb : w.heap[a.block]? with
  | none => rw [hb] at h; cases h
  | some ob =>
    rw [hb] at h
    have hlt := (Array.getElem?_eq_some_iff.1 hb).1
    cases ob <;> simp only at h <;> try cases h
    split at h
    · cases h
    · rename_i hs
      refine ⟨?_, hlt⟩
      obtain ⟨b, o, s⟩ := a
      cases s with
      | none => rfl
      | some x => simp at hs
theorem add_of (b o i : Nat) : (⟨b, o, none⟩ : Addr).add i = ⟨b, o + i, none⟩ := by
  unfold Addr.add
  split
  · rename_i h; subst h; rfl
  · rfl

theorem u_book : Tryd.prog.underlying 26 = some (.struct (Tryd.prog.fieldsOf 26)) := by kernel_rfl
section
variable {H : Type} {enc : TypeId × Value → H} {w : World} {base : Nat}
theorem open_num {n : Nat} {t : TypeId} {v : Value} {x : DataW H × List MemPlace} {spare : Nat → Bool} {held : Bool} (ht : t = 3) (h : DataW.trod enc Tryd.prog w base spare held n t [v] = some x) : ∃ k, v = .int .i64 k := by
  subst ht
  obtain ⟨k, h1, -, -⟩ := DataW.trod_int (k := .i64) (by kernel_rfl) h
  simp only [List.cons.injEq, and_true] at h1
  exact ⟨k, h1⟩
theorem open_spans {fuel : Nat} {v : Value} {x : DataW H × List MemPlace} (h : DataW.trod enc Tryd.prog w base (fun _ => true) true fuel 22 [v] = some x) : ∃ (p : Option Addr) (l : List (Int × Int)) (c : Nat), v = .slice p l.length c ∧ SpansAt w p l ∧ l.length ≤ c := by
  rcases open_slice_pairs (f0 := (Tryd.prog.fieldsOf 33)[0]!) (f1 := (Tryd.prog.fieldsOf 33)[1]!) (e := 33) (by kernel_rfl) (by kernel_rfl) (by kernel_rfl) (by kernel_rfl) (by kernel_rfl) (by kernel_rfl) (by kernel_rfl) h with ⟨h1, -⟩ | ⟨a, len, cap, m, n, V0, V1, D0, D1, P0, P1, h1, -, hl, -, hm, -, hi⟩
  · simp only [List.cons.injEq, and_true] at h1
    exact ⟨none, [], 0, h1, fun i s hs => by simp at hs, by simp⟩
  · simp only [List.cons.injEq, and_true] at h1
    simp only [if_true] at hm
    subst hm
    refine ⟨some a, (List.range len).map (fun i => (intOf (V0 i), intOf (V1 i))), m, by simpa using h1, fun i s hs => ?_, by simpa using hl⟩
    have hlt : i < len := by have := (List.getElem?_eq_some_iff.1 hs).1; simpa using this
    have hs2 : s = (intOf (V0 i), intOf (V1 i)) := by
      simp [List.getElem?_map, List.getElem?_range hlt] at hs
      exact hs.symm
    obtain ⟨z0, -, -, -⟩ := hi 0 (by omega)
    obtain ⟨ha, hb⟩ := spot_of (a := a) (by simpa [Addr.add] using z0)
    obtain ⟨c0, c1, t0, t1⟩ := hi i (by omega)
    obtain ⟨k0, e0⟩ := open_num (by kernel_rfl) t0
    obtain ⟨k1, e1⟩ := open_num (by kernel_rfl) t1
    rw [ha, add_of] at c0 c1
    subst hs2
    refine ⟨a.block, a.off, by rw [← ha], hb, by rw [c0, e0]; rfl, ?_⟩
    rw [Nat.add_assoc, c1, e1]; rfl
theorem open_rows {fuel : Nat} {v : Value} {x : DataW H × List MemPlace} (h : DataW.trod enc Tryd.prog w base (fun _ => true) true fuel 23 [v] = some x) : ∃ (p : Option Addr) (l : List (List Int)) (c : Nat), v = .slice p l.length c ∧ RowsAt w p l := by
  rcases open_int_rows (e := 28) (q := 3) (k := .i64) (by kernel_rfl) (by kernel_rfl) (by kernel_rfl) (by kernel_rfl) (by kernel_rfl) h with ⟨h1, -⟩ | ⟨a, len, cap, A, L, C, Z, h1, -, hl, -, -, hi⟩
  · simp only [List.cons.injEq, and_true] at h1
    exact ⟨none, [], 0, h1, fun i s hs => by simp at hs⟩
  · simp only [List.cons.injEq, and_true] at h1
    refine ⟨some a, (List.range len).map (fun r => (Z r).take (L r)), cap, by simpa using h1, fun i s hs => ?_⟩
    have hlt : i < len := by have := (List.getElem?_eq_some_iff.1 hs).1; simpa using this
    have hs2 : s = (Z i).take (L i) := by
      simp [List.getElem?_map, List.getElem?_range hlt] at hs
      exact hs.symm
    obtain ⟨z0, -⟩ := hi 0 (by omega)
    obtain ⟨ha, hb⟩ := spot_of (a := a) (by simpa [Addr.add] using z0)
    obtain ⟨c0, hLC, -, hZ, -, hn, hc⟩ := hi i (by omega)
    rw [ha, add_of] at c0
    subst hs2
    have hlen : ((Z i).take (L i)).length = L i := by rw [List.length_take, hZ]; omega
    refine ⟨a.block, a.off, by rw [← ha], hb, A i, C i, by rw [c0, hlen], fun k y hy => ?_⟩
    have hk : k < L i := by have := (List.getElem?_eq_some_iff.1 hy).1; omega
    cases hA : A i with
    | none => have := hn hA; omega
    | some a' =>
      obtain ⟨-, hcell⟩ := hc a' hA
      have w0 := hcell 0 (by omega)
      obtain ⟨ha', hb'⟩ := spot_of (a := a') (by simpa [Addr.add] using w0)
      have wk := hcell k (by omega)
      rw [ha', add_of] at wk
      refine ⟨a'.block, a'.off, by rw [← ha'], hb', ?_⟩
      rw [wk]
      rw [List.getElem?_take_of_lt hk] at hy
      rw [List.getD_eq_getElem?_getD, hy]
      rfl
theorem struct_at {t : TypeId} {fs : Array Field} {fuel : Nat} {cs : List Value} {x : DataW H × List MemPlace} {spare : Nat → Bool} {held : Bool} (ht : Tryd.prog.underlying t = some (.struct fs)) (h : DataW.trod enc Tryd.prog w base spare held fuel t cs = some x) (i : Nat) (f : Field) (o n : Nat) (e : TypeId)
    (hf : fs[i]? = some f) (ho : f.offset = o) (hn : Tryd.prog.cellsOf f.type = n) (he : f.type = e) : ∃ m y, DataW.trod enc Tryd.prog w base spare held m e ((cs.drop o).take n) = some y := by
  subst ho hn he
  obtain ⟨xs, m, -, -, -, hlen, hg⟩ := DataW.trod_struct ht h
  have hi : i < xs.length := by rw [hlen]; exact (Array.getElem?_eq_some_iff.1 hf).1
  exact ⟨m, xs[i], by rw [hg i f hf, List.getElem?_eq_getElem hi]⟩
theorem open_shot {fuel : Nat} {cs : List Value} {x : DataW H × List MemPlace} {spare : Nat → Bool} {held : Bool} (hl : cs.length = 4) (h : DataW.trod enc Tryd.prog w base spare held fuel 46 cs = some x) : ∃ a b c d : Int, cs = [.int .i64 a, .int .i64 b, .int .i64 c, .int .i64 d] := by
  match cs, hl with
  | [c0, c1, c2, c3], _ =>
    have hu : Tryd.prog.underlying 46 = some (.struct (Tryd.prog.fieldsOf 46)) := by kernel_rfl
    obtain ⟨m0, y0, h0⟩ := struct_at hu h 0 ((Tryd.prog.fieldsOf 46)[0]!) 0 1 3 (by kernel_rfl) (by kernel_rfl) (by kernel_rfl) (by kernel_rfl)
    obtain ⟨m1, y1, h1⟩ := struct_at hu h 1 ((Tryd.prog.fieldsOf 46)[1]!) 1 1 3 (by kernel_rfl) (by kernel_rfl) (by kernel_rfl) (by kernel_rfl)
    obtain ⟨m2, y2, h2⟩ := struct_at hu h 2 ((Tryd.prog.fieldsOf 46)[2]!) 2 2 33 (by kernel_rfl) (by kernel_rfl) (by kernel_rfl) (by kernel_rfl)
    have hs : Tryd.prog.underlying 33 = some (.struct (Tryd.prog.fieldsOf 33)) := by kernel_rfl
    obtain ⟨m3, y3, h3⟩ := struct_at hs h2 0 ((Tryd.prog.fieldsOf 33)[0]!) 0 1 3 (by kernel_rfl) (by kernel_rfl) (by kernel_rfl) (by kernel_rfl)
    obtain ⟨m4, y4, h4⟩ := struct_at hs h2 1 ((Tryd.prog.fieldsOf 33)[1]!) 1 1 3 (by kernel_rfl) (by kernel_rfl) (by kernel_rfl) (by kernel_rfl)
    simp only [List.drop_succ_cons, List.drop_zero, List.take_succ_cons, List.take_zero] at h0 h1 h3 h4
    obtain ⟨a, rfl⟩ := open_num rfl h0
    obtain ⟨b, rfl⟩ := open_num rfl h1
    obtain ⟨c, rfl⟩ := open_num rfl h3
    obtain ⟨d, rfl⟩ := open_num rfl h4
    exact ⟨a, b, c, d, rfl⟩
theorem open_shots {fuel : Nat} {v : Value} {x : DataW H × List MemPlace} (h : DataW.trod enc Tryd.prog w base (fun _ => true) true fuel 24 [v] = some x) : ∃ (p : Option Addr) (l : List Shot) (c : Nat), v = .slice p l.length c ∧ ShotsAt w p l := by
  rcases open_slice (e := 46) (by kernel_rfl) h with ⟨h1, -⟩ | ⟨a, len, cap, m, n, D, Pl, h1, -, hl, -, hm, -, hi⟩
  · simp only [List.cons.injEq, and_true] at h1
    exact ⟨none, [], 0, h1, fun i s hs => by simp at hs⟩
  · simp only [List.cons.injEq, and_true] at h1
    simp only [if_true] at hm
    subst hm
    have hc4 : Tryd.prog.cellsOf 46 = 4 := by kernel_rfl
    rw [hc4] at hi
    have each : ∀ i, i < m → ∃ s : Shot, w.cell? (a.add (i * 4)) = some (.int .i64 s.st) ∧ w.cell? ((a.add (i * 4)).add 1) = some (.int .i64 s.co) ∧ w.cell? ((a.add (i * 4)).add 2) = some (.int .i64 s.lo) ∧ w.cell? ((a.add (i * 4)).add 3) = some (.int .i64 s.hi) := fun i hi2 => by
      obtain ⟨cs', hcs, ht⟩ := hi i hi2
      obtain ⟨-, hlen, hget⟩ := World.cells?_some hcs
      obtain ⟨p, q, r, u, rfl⟩ := open_shot hlen ht
      refine ⟨⟨p, q, r, u⟩, ?_, by rw [hget 1 (by omega)]; rfl, by rw [hget 2 (by omega)]; rfl, by rw [hget 3 (by omega)]; rfl⟩
      have := hget 0 (by omega)
      simpa [Addr.add] using this
    refine ⟨some a, (List.range len).map (fun i => if h : i < m then Classical.choose (each i h) else ⟨0, 0, 0, 0⟩), m, by simpa using h1, fun i s hs => ?_⟩
    have hlt : i < len := by have := (List.getElem?_eq_some_iff.1 hs).1; simpa using this
    have him : i < m := by omega
    have hs2 : s = Classical.choose (each i him) := by
      simp [List.getElem?_map, List.getElem?_range hlt, him] at hs
      exact hs.symm
    obtain ⟨s0, z0, -⟩ := each 0 (by omega)
    obtain ⟨ha, hb⟩ := spot_of (a := a) (by simpa [Addr.add] using z0)
    obtain ⟨c0, c1, c2, c3⟩ := Classical.choose_spec (each i him)
    rw [← hs2] at c0 c1 c2 c3
    rw [ha, add_of] at c0 c1 c2 c3
    rw [add_of] at c1 c2 c3
    exact ⟨a.block, a.off, by rw [← ha], hb, c0, c1, c2, c3⟩
set_option maxRecDepth 100000 in
/-- A book that came in. -/
theorem open_book {v : Value} {d : DataW H} {p : List MemPlace} {r : Reach} {b0 : Nat} (hv : Value.okWide Tryd.prog w r b0 26 v) (h : DataW.Trod enc Tryd.prog w base (fun _ => true) true 26 v d p) :
    ∃ (hd : Hd) (b : Bk), v = .agg #[.int .i64 b.n, .slice hd.pb b.bs.length hd.cb, .slice hd.po b.os.length hd.co, .slice hd.ps b.ss.length hd.cs] ∧ BkAt w hd b ∧ b.bs.length ≤ hd.cb := by
  obtain ⟨v0, v1, v2, v3, y0, y1, y2, y3, n, rfl, -, -, t0, t1, t2, t3⟩ := open_agg4 (f0 := (Tryd.prog.fieldsOf 26)[0]!) (f1 := (Tryd.prog.fieldsOf 26)[1]!) (f2 := (Tryd.prog.fieldsOf 26)[2]!) (f3 := (Tryd.prog.fieldsOf 26)[3]!) (by kernel_rfl) (by kernel_rfl) (by kernel_rfl) hv h
  rw [show ((Tryd.prog.fieldsOf 26)[1]!).type = 22 by kernel_rfl] at t1
  rw [show ((Tryd.prog.fieldsOf 26)[2]!).type = 23 by kernel_rfl] at t2
  rw [show ((Tryd.prog.fieldsOf 26)[3]!).type = 24 by kernel_rfl] at t3
  obtain ⟨k, rfl⟩ := open_num (by kernel_rfl) t0
  obtain ⟨p1, l1, c1, rfl, a1, hc⟩ := open_spans t1
  obtain ⟨p2, l2, c2, rfl, a2⟩ := open_rows t2
  obtain ⟨p3, l3, c3, rfl, a3⟩ := open_shots t3
  exact ⟨⟨p1, c1, p2, c2, p3, c3⟩, ⟨k, l1, l2, l3⟩, rfl, ⟨a1, a2, a3⟩, hc⟩
theorem okWide_array {P : Program} {t e : TypeId} {n : Nat} {v : Value} {r : Reach} {b0 : Nat} (ht : P.underlying t = some (.array n e)) (h : Value.okWide P w r b0 t v) : ∃ cs, v = .agg cs ∧ cs.size = P.cellsOf t := by
  unfold Value.okWide at h
  rw [ht] at h
  obtain ⟨cs, h1, h2, -⟩ := h
  exact ⟨cs, h1, h2⟩
set_option maxRecDepth 100000 in
/-- A row of numbers that came in. -/
theorem open_row {t : TypeId} {n : Nat} {v : Value} {d : DataW H} {p : List MemPlace} {r : Reach} {b0 : Nat} (ht : Tryd.prog.underlying t = some (.array n 3)) (hc : Tryd.prog.cellsOf t = n) (hv : Value.okWide Tryd.prog w r b0 t v) (h : DataW.Trod enc Tryd.prog w base (fun _ => true) true t v d p) :
    ∃ l : List Int, l.length = n ∧ v = .agg (l.map (Value.int .i64)).toArray := by
  obtain ⟨cs, rfl, hsz⟩ := okWide_array ht hv
  obtain ⟨fuel, hf⟩ := h
  obtain ⟨xs, m, -, -, hlen, hxl, hel⟩ := DataW.trod_array ht hf
  have hce : Tryd.prog.cellsOf 3 = 1 := by kernel_rfl
  rw [hce] at hel
  have hcs : (Value.agg cs).cells.toList = cs.toList := rfl
  rw [hcs] at hlen hel
  have hn : cs.toList.length = n := by rw [hlen, hc]
  have each : ∀ i (hi : i < cs.toList.length), ∃ k, cs.toList[i] = .int .i64 k := fun i hi => by
    have h1 := hel i (by omega)
    rw [Nat.mul_one, List.drop_eq_getElem_cons hi, List.take_succ_cons, List.take_zero, List.getElem?_eq_getElem (by omega)] at h1
    exact open_num rfl h1
  refine ⟨cs.toList.map intOf, by simpa using hn, ?_⟩
  have : (cs.toList.map intOf).map (Value.int .i64) = cs.toList := by
    apply List.ext_getElem
    · simp
    · intro i h1 h2
      obtain ⟨k, hk⟩ := each i h2
      simp only [List.getElem_map, hk]
      rfl
  rw [this]
end
end Go.Proofs.YtdmicngnbcdkdaaDoor

namespace Go.Proofs.YtdmicngnbcdkdaaDoor
open Go Go.ChangeShapes Go.WideShapes Go.ChangeAt Go.RowKit

theorem laid_out : laidOutB Tryd.prog = true := by kernel_rfl
theorem own_knob : ownKnob Tryd.prog.godebug = none := by kernel_rfl
theorem g_none : Tryd.prog.globalNamed "huer/turn.noBounds" = some 0 := by kernel_rfl
theorem g_type : (Tryd.prog.globals[0]?).map (·.type) = some 78 := by kernel_rfl
/-- What the row's list gives: the package's truth without bounds lies where it was laid. -/
theorem nb_of {W : World} (h : laidMetH Tryd.prog Rows.turnFirstRow.laid W) : NB W := by
  have ht : Lib.TabIs Tryd.prog W "huer/turn.noBounds" .i64 [1440, 1440, 1440, 1440] := Lib.tabIs_of_head (rest := []) g_none g_type (e := 3) (n := 4) (by kernel_rfl) (by kernel_rfl) (by kernel_rfl) (by kernel_rfl) h
  have c0 : W.cell? ⟨0, 0, none⟩ = some (.int .i64 1440) := ht.cell g_none 0 (by decide)
  exact ⟨(spot_of c0).2, c0, ht.cell g_none 1 (by decide), ht.cell g_none 2 (by decide), ht.cell g_none 3 (by decide)⟩

section
variable {H : Type} {enc : TypeId × Value → H} {P : Program}
/-- A row's last step, where nothing that was there has changed. -/
theorem post_below {f : Func} {s : ChangeSpec} {apart fresh handsOn again : Bool} {W W' : World} {args : Array Value} {v : Value} {ds gs : List (DataW H)} {before pa pv : List MemPlace}
    (hW : DataW.Whole enc P f.params.toList s.vars apart W args.toList ds gs before)
    (hres : ∀ (b : Nat) (sp : Nat → Bool) (hd : Bool), DataW.TrodAll enc P W' b sp hd f.resultTypes.toList (v.resultList f.resultTypes.size) (s.fn H (ds ++ gs)).results [])
    (hargs : ∀ sp : Nat → Bool, (∀ p ∈ before, sp p.block = true) → DataW.TrodAll enc P W' 0 sp true f.params.toList args.toList (s.fn H (ds ++ gs)).args pa)
    (hvars : ∀ sp : Nat → Bool, (∀ p ∈ before, sp p.block = true) → DataW.TrodVars enc P W' sp s.vars (s.fn H (ds ++ gs)).vars pv)
    (hps : before = pa ++ pv) (hb : Below W.heap.size W W')
    (hok : ∀ (j : Nat) (t : TypeId) (r : Value), f.resultTypes[j]? = some t → (v.resultList f.resultTypes.size)[j]? = some r → Value.okWide P W' .any 0 t r) :
    s.post enc P f apart fresh handsOn again W args v W' := by
  have hlt : ∀ p ∈ before, p.block < W.heap.size := fun p hp => hW.lt p hp
  have hold : ∀ p ∈ before, (fun b => decide (b < W.heap.size)) p.block = true := fun p hp => by simpa using hlt p hp
  refine ⟨ds, gs, before, [], pa, pv, hW, hres _ _ _, hargs _ hold, hvars _ hold, World.keptBut_mono (fun p hp => ⟨hp, ?_⟩) (hb.frame (· ∈ before)), fun _ => ?_⟩
  · rw [hps, List.mem_append] at hp
    exact Or.inr hp
  · obtain ⟨_, _, _, _, _, hz, hn⟩ := hW
    refine ⟨hok, _, _, ([] ++ pa) ++ pv, ⟨[] ++ pa, pv, trodAll_append (hargs _ (fun _ _ => rfl)) (hres _ _ _), hvars _ (fun _ _ => rfl), rfl, ?_, ?_⟩, ?_⟩
    · intro b off hp
      have hin : MemPlace.cell b off ∈ before := by rw [hps]; simpa using hp
      rw [hb.frozen (hlt _ hin)]
      exact hz b off hin
    · intro ha
      have := hn ha
      rw [hps] at this
      simpa using this
    · intro p hp _
      rw [hps]
      simpa using hp
end
/-- A world for the witness: the settled one, the variable (block 0) holding what its initialiser lays. -/
noncomputable def laidWorld (os : Os) : World :=
  { World.holding Tryd.prog os ⟨#[], #[], []⟩ with heap := (World.holding Tryd.prog os ⟨#[], #[], []⟩).heap.modify 0 fun
      | .cells _ t frozen => .cells #[.int .i64 1440, .int .i64 1440, .int .i64 1440, .int .i64 1440] t frozen
      | o => o }
end Go.Proofs.YtdmicngnbcdkdaaDoor

