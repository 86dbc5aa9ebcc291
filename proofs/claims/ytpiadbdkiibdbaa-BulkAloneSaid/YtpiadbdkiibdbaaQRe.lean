/- For the rows of package bulk's laws: how a book and numbers are read as arguments (after Rd). Written by gen_re.py. -/
import Derived.Test.YtpiadbdkiibdbaaQStp
import Derived.Test.YtpiadbdkiibdbaaChecked
import Derived.Test.YtpiadbdkiibdbaaRows
import Derived.Lib.SmallJoins
import Derived.Deep.SlicePairs
import Derived.Deep.Matrix
import Derived.Deep.Slices
import Derived.LaidMore
import Derived.WideKeyArgs
import Derived.Below
import Derived.ChangeSame
import Derived.OpenShut
import Derived.ProofKit
import Derived.Deep.DeepHandedRow
import Derived.Lib.LaidTab
set_option linter.unusedSimpArgs false
set_option linter.unusedVariables false
namespace Go.Proofs.Ytpiadbdkiibdbaa
open Go Go.RowKit Go.Joins Go.ChangeShapes Go.WideShapes Go.ChangeAt Go.Deep

theorem spot_of {w : World} {a : Addr} {v : Value} (h : w.cell? a = some v) : a = ⟨a.block, a.off, none⟩ ∧ a.block < w.heap.size := by
  unfold World.cell? at h
  cases hb : w.heap[a.block]? with
  | none => rw [hb] at h; cases h
  | some ob =>
    rw [hb] at h
    have hlt := (Array.getElem?_eq_some_iff.1 hb).1
    cases ob <;> simp only at h <;> try cases h
    split at h
    · cases h
    · rename_i hs
      refine ⟨?_, hlt⟩
      obtain ⟨b, o, s⟩ := a
      cases s with
      | none => rfl
      | some x => simp at hs
theorem add_of (b o i : Nat) : (⟨b, o, none⟩ : Addr).add i = ⟨b, o + i, none⟩ := by
  unfold Addr.add
  split
  · rename_i h; subst h; rfl
  · rfl

section
variable {H : Type} {enc : TypeId × Value → H} {w : World} {base : Nat}
theorem open_num {n : Nat} {t : TypeId} {v : Value} {x : DataW H × List MemPlace} {spare : Nat → Bool} {held : Bool} (ht : t = 3) (h : DataW.trod enc Try.prog w base spare held n t [v] = some x) : ∃ k, v = .int .i64 k := by
  subst ht
  obtain ⟨k, h1, -, -⟩ := DataW.trod_int (k := .i64) (by kernel_rfl) h
  simp only [List.cons.injEq, and_true] at h1
  exact ⟨k, h1⟩
theorem struct_at {t : TypeId} {fs : Array Field} {fuel : Nat} {cs : List Value} {x : DataW H × List MemPlace} {spare : Nat → Bool} {held : Bool} (ht : Try.prog.underlying t = some (.struct fs)) (h : DataW.trod enc Try.prog w base spare held fuel t cs = some x) (i : Nat) (f : Field) (o n : Nat) (e : TypeId)
    (hf : fs[i]? = some f) (ho : f.offset = o) (hn : Try.prog.cellsOf f.type = n) (he : f.type = e) : ∃ m y, DataW.trod enc Try.prog w base spare held m e ((cs.drop o).take n) = some y := by
  subst ho hn he
  obtain ⟨xs, m, -, -, -, hlen, hg⟩ := DataW.trod_struct ht h
  have hi : i < xs.length := by rw [hlen]; exact (Array.getElem?_eq_some_iff.1 hf).1
  exact ⟨m, xs[i], by rw [hg i f hf, List.getElem?_eq_getElem hi]⟩
theorem array_at {t : TypeId} {n fuel : Nat} {e : TypeId} {cs : List Value} {x : DataW H × List MemPlace} {spare : Nat → Bool} {held : Bool} (ht : Try.prog.underlying t = some (.array n e)) (h : DataW.trod enc Try.prog w base spare held fuel t cs = some x) (i k : Nat) (hi : i < n) (hk : Try.prog.cellsOf e = k) : ∃ m y, DataW.trod enc Try.prog w base spare held m e ((cs.drop (i * k)).take k) = some y := by
  subst hk
  obtain ⟨xs, m, -, -, -, hxl, hel⟩ := DataW.trod_array ht h
  have hi' : i < xs.length := by rw [hxl]; exact hi
  exact ⟨m, xs[i], by rw [hel i hi, List.getElem?_eq_getElem hi']⟩
theorem u_lot : Try.prog.underlying 62 = some (.struct (Try.prog.fieldsOf 62)) := by kernel_rfl
theorem u_bspan : Try.prog.underlying 23 = some (.struct (Try.prog.fieldsOf 23)) := by kernel_rfl
theorem u_book : Try.prog.underlying 28 = some (.struct (Try.prog.fieldsOf 28)) := by kernel_rfl
theorem u_lots : Try.prog.underlying 26 = some (.slice 62) := by kernel_rfl
theorem u_three : Try.prog.underlying 25 = some (.array 3 3) := by kernel_rfl
theorem u_spans : Try.prog.underlying 24 = some (.array 3 23) := by kernel_rfl
theorem open_three {fuel : Nat} {c0 c1 c2 : Value} {x : DataW H × List MemPlace} {spare : Nat → Bool} {held : Bool} (h : DataW.trod enc Try.prog w base spare held fuel 25 [c0, c1, c2] = some x) : ∃ a b c : Int, c0 = .int .i64 a ∧ c1 = .int .i64 b ∧ c2 = .int .i64 c := by
  obtain ⟨m0, y0, h0⟩ := array_at u_three h 0 1 (by decide) (by kernel_rfl)
  obtain ⟨m1, y1, h1⟩ := array_at u_three h 1 1 (by decide) (by kernel_rfl)
  obtain ⟨m2, y2, h2⟩ := array_at u_three h 2 1 (by decide) (by kernel_rfl)
  simp only [Nat.zero_mul, Nat.one_mul, Nat.mul_one, List.drop_succ_cons, List.drop_zero, List.take_succ_cons, List.take_zero] at h0 h1 h2
  obtain ⟨a, rfl⟩ := open_num rfl h0
  obtain ⟨b, rfl⟩ := open_num rfl h1
  obtain ⟨c, rfl⟩ := open_num rfl h2
  exact ⟨a, b, c, rfl, rfl, rfl⟩
theorem open_bspan {fuel : Nat} {c0 c1 : Value} {x : DataW H × List MemPlace} {spare : Nat → Bool} {held : Bool} (h : DataW.trod enc Try.prog w base spare held fuel 23 [c0, c1] = some x) : ∃ a b : Int, c0 = .int .i64 a ∧ c1 = .int .i64 b := by
  obtain ⟨m0, y0, h0⟩ := struct_at u_bspan h 0 ((Try.prog.fieldsOf 23)[0]!) 0 1 3 (by kernel_rfl) (by kernel_rfl) (by kernel_rfl) (by kernel_rfl)
  obtain ⟨m1, y1, h1⟩ := struct_at u_bspan h 1 ((Try.prog.fieldsOf 23)[1]!) 1 1 3 (by kernel_rfl) (by kernel_rfl) (by kernel_rfl) (by kernel_rfl)
  simp only [List.drop_succ_cons, List.drop_zero, List.take_succ_cons, List.take_zero] at h0 h1
  obtain ⟨a, rfl⟩ := open_num rfl h0
  obtain ⟨b, rfl⟩ := open_num rfl h1
  exact ⟨a, b, rfl, rfl⟩
theorem open_lot {fuel : Nat} {cs : List Value} {x : DataW H × List MemPlace} {spare : Nat → Bool} {held : Bool} (hl : cs.length = 5) (h : DataW.trod enc Try.prog w base spare held fuel 62 cs = some x) : ∃ a b c d e : Int, cs = [.int .i64 a, .int .i64 b, .int .i64 c, .int .i64 d, .int .i64 e] := by
  match cs, hl with
  | [c0, c1, c2, c3, c4], _ =>
    obtain ⟨m0, y0, h0⟩ := struct_at u_lot h 0 ((Try.prog.fieldsOf 62)[0]!) 0 3 25 (by kernel_rfl) (by kernel_rfl) (by kernel_rfl) (by kernel_rfl)
    obtain ⟨m1, y1, h1⟩ := struct_at u_lot h 1 ((Try.prog.fieldsOf 62)[1]!) 3 2 23 (by kernel_rfl) (by kernel_rfl) (by kernel_rfl) (by kernel_rfl)
    simp only [List.drop_succ_cons, List.drop_zero, List.take_succ_cons, List.take_zero] at h0 h1
    obtain ⟨a, b, c, rfl, rfl, rfl⟩ := open_three h0
    obtain ⟨d, e, rfl, rfl⟩ := open_bspan h1
    exact ⟨a, b, c, d, e, rfl⟩
theorem open_blots {fuel : Nat} {v : Value} {x : DataW H × List MemPlace} (h : DataW.trod enc Try.prog w base (fun _ => true) true fuel 26 [v] = some x) : ∃ (p : Option Addr) (l : List Lt) (c : Nat), v = .slice p l.length c ∧ LotsAt w p l ∧ l.length ≤ 9223372036854775807 := by
  rcases open_slice (e := 62) (by kernel_rfl) h with ⟨h1, -⟩ | ⟨a, len, cap, m, n, D, Pl, h1, -, hl, hcap, hm, -, hi⟩
  · simp only [List.cons.injEq, and_true] at h1
    exact ⟨none, [], 0, h1, (fun i s hs => by simp at hs), by simp⟩
  · simp only [List.cons.injEq, and_true] at h1
    simp only [if_true] at hm
    subst hm
    have hc5 : Try.prog.cellsOf 62 = 5 := by kernel_rfl
    rw [hc5] at hi
    have each : ∀ i, i < m → ∃ s : Lt, w.cell? (a.add (i * 5)) = some (.int .i64 s.t0) ∧ w.cell? ((a.add (i * 5)).add 1) = some (.int .i64 s.t1) ∧ w.cell? ((a.add (i * 5)).add 2) = some (.int .i64 s.t2) ∧ w.cell? ((a.add (i * 5)).add 3) = some (.int .i64 s.wl) ∧ w.cell? ((a.add (i * 5)).add 4) = some (.int .i64 s.wh) := fun i hi2 => by
      obtain ⟨cs', hcs, ht⟩ := hi i hi2
      obtain ⟨-, hlen, hget⟩ := World.cells?_some hcs
      obtain ⟨p, q, r, u, z, rfl⟩ := open_lot hlen ht
      refine ⟨⟨p, q, r, u, z⟩, ?_, by rw [hget 1 (by omega)]; rfl, by rw [hget 2 (by omega)]; rfl, by rw [hget 3 (by omega)]; rfl, by rw [hget 4 (by omega)]; rfl⟩
      have := hget 0 (by omega)
      simpa [Addr.add] using this
    refine ⟨some a, (List.range len).map (fun i => if h : i < m then Classical.choose (each i h) else ⟨0, 0, 0, 0, 0⟩), m, by simpa using h1, (fun i s hs => ?_), ?_⟩
    rotate_left 1
    · have : maxLen ≤ 9223372036854775807 := by decide
      simp only [List.length_map, List.length_range]; omega
    have hlt : i < len := by have := (List.getElem?_eq_some_iff.1 hs).1; simpa using this
    have him : i < m := by omega
    have hs2 : s = Classical.choose (each i him) := by
      simp [List.getElem?_map, List.getElem?_range hlt, him] at hs
      exact hs.symm
    obtain ⟨s0, z0, -⟩ := each 0 (by omega)
    obtain ⟨ha, hb⟩ := spot_of (a := a) (by simpa [Addr.add] using z0)
    obtain ⟨c0, c1, c2, c3, c4⟩ := Classical.choose_spec (each i him)
    rw [← hs2] at c0 c1 c2 c3 c4
    rw [ha, add_of] at c0 c1 c2 c3 c4
    rw [add_of] at c1 c2 c3 c4
    exact ⟨a.block, a.off, by rw [← ha], hb, c0, c1, c2, c3, c4⟩
theorem okWide_array {P : Program} {t e : TypeId} {n : Nat} {v : Value} {r : Reach} {b0 : Nat} (ht : P.underlying t = some (.array n e)) (h : Value.okWide P w r b0 t v) : ∃ cs, v = .agg cs ∧ cs.size = P.cellsOf t := by
  unfold Value.okWide at h
  rw [ht] at h
  obtain ⟨cs, h1, h2, -⟩ := h
  exact ⟨cs, h1, h2⟩
theorem okWide_struct {P : Program} {t : TypeId} {fs : Array Field} {v : Value} {r : Reach} {b0 : Nat} (ht : P.underlying t = some (.struct fs)) (h : Value.okWide P w r b0 t v) : ∃ cs, v = .agg cs ∧ cs.size = P.cellsOf t ∧ Row.okWide P w r b0 t cs := by
  unfold Value.okWide at h
  rw [ht] at h
  exact h
theorem shape_lt {b : Nat} {x : TypeId × Nat} (h : w.shape? b = some x) : b < w.heap.size := by
  unfold World.shape? at h
  cases hb : w.heap[b]? with
  | none => rw [hb] at h; simp at h
  | some o => exact (Array.getElem?_eq_some_iff.1 hb).1
theorem slice_ok {P : Program} {r : Reach} {b0 : Nat} {t e : TypeId} {v : Value} (ht : P.underlying t = some (.slice e)) (h : Cell.okWide P w r b0 t v) : ∃ p n c, v = .slice p n c ∧ n ≤ c ∧ (∀ a, p = some a → (∃ b o, a = ⟨b, o, none⟩) ∧ a.block < w.heap.size) ∧ (p = none → c = 0) := by
  unfold Cell.okWide at h
  rw [ht] at h
  have h2 : Cell.ok P w r b0 t v := by cases v <;> exact h
  unfold Cell.ok at h2
  rw [ht] at h2
  cases v with
  | slice p n c =>
    cases p with
    | none =>
      refine ⟨none, n, c, rfl, ?_, fun a ha => (by cases ha), fun _ => ?_⟩
      all_goals (cases n <;> cases c <;> first | exact Nat.le_refl _ | rfl | exact h2.elim)
    | some a =>
      obtain ⟨h3, -, h4⟩ := h2
      obtain ⟨-, h5, row, cells, h6, -⟩ := h4
      refine ⟨some a, n, c, rfl, h3, fun a' ha => ?_, fun e => (by cases e)⟩
      cases ha
      obtain ⟨b, o, s⟩ := a
      dsimp only at h5 h6
      subst h5
      exact ⟨⟨b, o, rfl⟩, shape_lt h6⟩
  | _ => exact h2.elim
theorem cells_book : Try.prog.cellTypes Try.prog.depth 28 = some [3, 3, 3, 3, 3, 3, 3, 3, 3, 26] := by kernel_rfl
set_option maxRecDepth 100000 in
/-- A book that came in. -/
theorem open_bbook {v : Value} {d : DataW H} {p : List MemPlace} {r : Reach} {b0 : Nat} (hv : Value.okWide Try.prog w r b0 28 v) (h : DataW.Trod enc Try.prog w base (fun _ => true) true 28 v d p) :
    ∃ (b : Ck) (q : Option Addr) (c : Nat), v = ckV b q c ∧ CB w b q ∧ b.ls.length ≤ c ∧ (b.ls.length : Int) ≤ 9223372036854775807 := by
  obtain ⟨cs, rfl, hsz, hrow⟩ := okWide_struct u_book hv
  have hc3 : Try.prog.cellsOf 28 = 10 := by kernel_rfl
  rw [hc3] at hsz
  obtain ⟨fuel, hf⟩ := h
  have hcs : (Value.agg cs).cells.toList = cs.toList := rfl
  rw [hcs] at hf
  match cs, hsz with
  | ⟨[c0, c1, c2, c3, c4, c5, c6, c7, c8, c9]⟩, _ =>
    obtain ⟨ts, e1, -, e2⟩ := hrow
    rw [cells_book] at e1
    cases e1
    obtain ⟨u, e3, e4⟩ := e2 9 c9 rfl
    simp at e3
    subst e3
    obtain ⟨np, n, nc, rfl, s1, s2, s3⟩ := slice_ok u_lots e4
    obtain ⟨m1, y1, h1⟩ := struct_at u_book hf 0 ((Try.prog.fieldsOf 28)[0]!) 0 6 24 (by kernel_rfl) (by kernel_rfl) (by kernel_rfl) (by kernel_rfl)
    obtain ⟨m2, y2, h2⟩ := struct_at u_book hf 1 ((Try.prog.fieldsOf 28)[1]!) 6 3 25 (by kernel_rfl) (by kernel_rfl) (by kernel_rfl) (by kernel_rfl)
    obtain ⟨m3, y3, h3⟩ := struct_at u_book hf 2 ((Try.prog.fieldsOf 28)[2]!) 9 1 26 (by kernel_rfl) (by kernel_rfl) (by kernel_rfl) (by kernel_rfl)
    simp only [List.drop_succ_cons, List.drop_zero, List.take_succ_cons, List.take_zero] at h1 h2 h3
    obtain ⟨m4, y4, h4⟩ := array_at u_spans h1 0 2 (by decide) (by kernel_rfl)
    obtain ⟨m5, y5, h5⟩ := array_at u_spans h1 1 2 (by decide) (by kernel_rfl)
    obtain ⟨m6, y6, h6⟩ := array_at u_spans h1 2 2 (by decide) (by kernel_rfl)
    simp only [Nat.zero_mul, Nat.one_mul, Nat.reduceMul, List.drop_succ_cons, List.drop_zero, List.take_succ_cons, List.take_zero] at h4 h5 h6
    obtain ⟨l0, u0, rfl, rfl⟩ := open_bspan h4
    obtain ⟨l1, u1, rfl, rfl⟩ := open_bspan h5
    obtain ⟨l2, u2, rfl, rfl⟩ := open_bspan h6
    obtain ⟨x0, x1, x2, rfl, rfl, rfl⟩ := open_three h2
    obtain ⟨q', l, c', e5, hNA, hNB⟩ := open_blots h3
    simp only [Value.slice.injEq] at e5
    obtain ⟨rfl, rfl, rfl⟩ := e5
    exact ⟨⟨l0, u0, l1, u1, l2, u2, x0, x1, x2, l⟩, np, nc, rfl, ⟨hNA, fun a ha => (s2 a ha).2⟩, s1, by show (l.length : Int) ≤ _; omega⟩
set_option maxRecDepth 100000 in
/-- A row of numbers that came in. -/
theorem open_row {t : TypeId} {n : Nat} {v : Value} {d : DataW H} {p : List MemPlace} {r : Reach} {b0 : Nat} (ht : Try.prog.underlying t = some (.array n 3)) (hc : Try.prog.cellsOf t = n) (hv : Value.okWide Try.prog w r b0 t v) (h : DataW.Trod enc Try.prog w base (fun _ => true) true t v d p) :
    ∃ l : List Int, l.length = n ∧ v = .agg (l.map (Value.int .i64)).toArray := by
  obtain ⟨cs, rfl, hsz⟩ := okWide_array ht hv
  obtain ⟨fuel, hf⟩ := h
  obtain ⟨xs, m, -, -, hlen, hxl, hel⟩ := DataW.trod_array ht hf
  have hce : Try.prog.cellsOf 3 = 1 := by kernel_rfl
  rw [hce] at hel
  have hcs : (Value.agg cs).cells.toList = cs.toList := rfl
  rw [hcs] at hlen hel
  have hn : cs.toList.length = n := by rw [hlen, hc]
  have each : ∀ i (hi : i < cs.toList.length), ∃ k, cs.toList[i] = .int .i64 k := fun i hi => by
    have h1 := hel i (by omega)
    rw [Nat.mul_one, List.drop_eq_getElem_cons hi, List.take_succ_cons, List.take_zero, List.getElem?_eq_getElem (by omega)] at h1
    exact open_num rfl h1
  refine ⟨cs.toList.map intOf, by simpa using hn, ?_⟩
  have : (cs.toList.map intOf).map (Value.int .i64) = cs.toList := by
    apply List.ext_getElem
    · simp
    · intro i h1 h2
      obtain ⟨k, hk⟩ := each i h2
      simp only [List.getElem_map, hk]
      rfl
  rw [this]
end
theorem laid_out : laidOutB Try.prog = true := by kernel_rfl
theorem own_knob : ownKnob Try.prog.godebug = none := by kernel_rfl
section
variable {H : Type} {enc : TypeId × Value → H} {P : Program}
/-- A row's last step, where nothing that was there has changed. -/
theorem post_below {f : Func} {s : ChangeSpec} {apart fresh handsOn again : Bool} {W W' : World} {args : Array Value} {v : Value} {ds gs : List (DataW H)} {before pa pv : List MemPlace}
    (hW : DataW.Whole enc P f.params.toList s.vars apart W args.toList ds gs before)
    (hres : ∀ (b : Nat) (sp : Nat → Bool) (hd : Bool), DataW.TrodAll enc P W' b sp hd f.resultTypes.toList (v.resultList f.resultTypes.size) (s.fn H (ds ++ gs)).results [])
    (hargs : ∀ sp : Nat → Bool, (∀ p ∈ before, sp p.block = true) → DataW.TrodAll enc P W' 0 sp true f.params.toList args.toList (s.fn H (ds ++ gs)).args pa)
    (hvars : ∀ sp : Nat → Bool, (∀ p ∈ before, sp p.block = true) → DataW.TrodVars enc P W' sp s.vars (s.fn H (ds ++ gs)).vars pv)
    (hps : before = pa ++ pv) (hb : Below W.heap.size W W')
    (hok : ∀ (j : Nat) (t : TypeId) (r : Value), f.resultTypes[j]? = some t → (v.resultList f.resultTypes.size)[j]? = some r → Value.okWide P W' .any 0 t r) :
    s.post enc P f apart fresh handsOn again W args v W' := by
  have hlt : ∀ p ∈ before, p.block < W.heap.size := fun p hp => hW.lt p hp
  have hold : ∀ p ∈ before, (fun b => decide (b < W.heap.size)) p.block = true := fun p hp => by simpa using hlt p hp
  refine ⟨ds, gs, before, [], pa, pv, hW, hres _ _ _, hargs _ hold, hvars _ hold, World.keptBut_mono (fun p hp => ⟨hp, ?_⟩) (hb.frame (· ∈ before)), fun _ => ?_⟩
  · rw [hps, List.mem_append] at hp
    exact Or.inr hp
  · obtain ⟨_, _, _, _, _, hz, hn⟩ := hW
    refine ⟨hok, _, _, ([] ++ pa) ++ pv, ⟨[] ++ pa, pv, trodAll_append (hargs _ (fun _ _ => rfl)) (hres _ _ _), hvars _ (fun _ _ => rfl), rfl, ?_, ?_⟩, ?_⟩
    · intro b off hp
      have hin : MemPlace.cell b off ∈ before := by rw [hps]; simpa using hp
      rw [hb.frozen (hlt _ hin)]
      exact hz b off hin
    · intro ha
      have := hn ha
      rw [hps] at this
      simpa using this
    · intro p hp _
      rw [hps]
      simpa using hp
end
end Go.Proofs.Ytpiadbdkiibdbaa

