/- Package seine: the closure of tale, which calls itself: in which states the seine is in its truths behind each number of notes. -/
import Derived.Test.YtnckampdbbcehaaDoorQSq
import Derived.Test.YtnckampdbbcehaaDoorQFh
set_option linter.unusedSimpArgs false
set_option linter.unusedVariables false
namespace Go.Proofs.YtnckampdbbcehaaDoor
open Go Go.RowKit Go.Shelf

/-- What the closure tells of the notes from one on, if j are left. -/
def tlL (ns : List Nt) : Nat → Nat → List (Int × Int) → List (List (Int × Int))
  | 0, _, l => [l]
  | j + 1, k, l => match ns[k]? with
    | some s => leadL ns k s l ((tlL ns j (k + 1) (rchL ns k s l)).headD []) :: tlL ns j (k + 1) (rchL ns k s l)
    | none => [l]
theorem tlL_step {ns : List Nt} {k : Nat} {s : Nt} (h : ns[k]? = some s) (j : Nat) (l : List (Int × Int)) : tlL ns (j + 1) k l = leadL ns k s l ((tlL ns j (k + 1) (rchL ns k s l)).headD []) :: tlL ns j (k + 1) (rchL ns k s l) := by
  simp only [tlL, h]
/-- What states keep to behind some notes. -/
def StK (k : Nat) (st : Int × Int) : Prop := (0 ≤ st.1 ∧ st.1 ≤ 400) ∧ 0 ≤ st.2 ∧ st.2 ≤ 9 * k
theorem StK.b {k : Nat} {st : Int × Int} (h : StK k st) (hk : k ≤ 100) : StB st := ⟨h.1, h.2.1, by have := h.2.2; omega⟩
theorem rchL_K {b : Sn} (hok : Ok9 b) {k : Nat} {s : Nt} (hs : b.ns[k]? = some s) {l : List (Int × Int)} (hl : ∀ st ∈ l, StK k st) : ∀ st ∈ rchL b.ns k s l, StK (k + 1) st := by
  intro z hz
  simp only [rchL, List.mem_flatMap] at hz
  obtain ⟨⟨h, r⟩, h1, h2⟩ := hz
  obtain ⟨hkn, -, hsp⟩ := hok.nt hs
  obtain ⟨g1, g2, g3⟩ := hl _ h1
  dsimp only at g1 g2 g3
  have h3 := afterH_bd g2 (gapN b.ns k).toNat h g1.1
  have h4 := behL_bd hkn hsp (st := befS b.ns k (h, r)) (by rw [befS_eq]; exact h3.1) (by rw [befS_eq]; exact g2) h2
  rw [befS_eq] at h4
  dsimp only at h4
  exact ⟨by omega, by omega, by push_cast; omega⟩
/-- What lies in the list that the closure fills: the states of all numbers of notes from one on. -/
def TlAt (w : World) (Bb N k : Nat) (cs : Array Value) (tl : List (List (Int × Int))) : Prop :=
  ∃ cs' : Array Value, Blk w Bb 111 cs' ∧ cs'.size = N + 1 ∧ (∀ i, i < k → cs'[i]? = cs[i]?) ∧ ∀ (i : Nat) (L : List (Int × Int)), tl[i]? = some L → ∃ M n : Nat, cs'[k + i]? = some (.map (some M)) ∧ StAt w M n L
theorem StAt.ne_blk {w : World} {M n Bb : Nat} {l : List (Int × Int)} {t : TypeId} {cs : Array Value} (h : StAt w M n l) (k : Blk w Bb t cs) : M ≠ Bb := by
  rintro rfl
  obtain ⟨D, ⟨es, clock, h1, _⟩, _⟩ := h
  unfold Blk at k
  rw [k] at h1; cases h1
theorem TlAt.bel {w w' : World} {Bb N k : Nat} {cs : Array Value} {tl : List (List (Int × Int))} (h : TlAt w Bb N k cs tl) (hb : Below w.heap.size w w') : TlAt w' Bb N k cs tl := by
  obtain ⟨cs', h1, h2, h3, h4⟩ := h
  refine ⟨cs', h1.bel hb, h2, h3, fun i L hi => ?_⟩
  obtain ⟨M, n, g1, g2⟩ := h4 i L hi
  exact ⟨M, n, g1, g2.below hb⟩
/-- What the closure has captured. -/
structure GoBox (w : World) (b : Sn) (p : Option Addr) (c : Nat) (kd : Kd) (bc bg bt Bb : Nat) : Prop where
  cC : Blk w bc 77 (catC b.lo b.hi p b.ns.length c kd)
  gG : Blk w bg 109 #[.func (.func 83) #[] #[.pointer (some ⟨bc, 0, none⟩), .pointer (some ⟨bg, 0, none⟩), .pointer (some ⟨bt, 0, none⟩)]]
  tT : Blk w bt 80 (catC b.lo b.hi p b.ns.length c kd ++ #[.slice (some ⟨Bb, 0, none⟩) (b.ns.length + 1) (b.ns.length + 1)])
theorem GoBox.grown {w w' : World} {b : Sn} {p : Option Addr} {c : Nat} {kd : Kd} {bc bg bt Bb : Nat} (h : GoBox w b p c kd bc bg bt Bb) (hg : w.grownBy w' (some Bb)) (h1 : bc ≠ Bb) (h2 : bg ≠ Bb) (h3 : bt ≠ Bb) : GoBox w' b p c kd bc bg bt Bb :=
  ⟨(hg.block _ h.cC.lt (by simpa using h1)).trans h.cC, (hg.block _ h.gG.lt (by simpa using h2)).trans h.gG, (hg.block _ h.tT.lt (by simpa using h3)).trans h.tT⟩
/-- What the closure leaves. -/
def GoPost (w : World) (Bb N k : Nat) (cs : Array Value) (tl : List (List (Int × Int))) (e : Ending) (w' : World) : Prop :=
  ∃ M' n' : Nat, e = .returned (.map (some M')) ∧ StAt w' M' n' (tl.headD []) ∧ TlAt w' Bb N k cs tl ∧ w.grownBy w' (some Bb)
/-- What the operations of the closure's drawn region leave. -/
def goR (b : Sn) (p : Option Addr) (c : Nat) (kd : Kd) (bc bg bt Bb M n k : Nat) (s : Nt) (l : List (Int × Int)) (cs : Array Value) (tl : List (List (Int × Int))) (f : Bool) (i : Nat) (v : Value) (w : World) : Prop :=
  match i with
  | 0 => v = .agg (catC b.lo b.hi p b.ns.length c kd)
  | 1 => v = .int .i64 k
  | 2 => v = .map (some M)
  | 3 => v = .func (.func 83) #[] #[.pointer (some ⟨bc, 0, none⟩), .pointer (some ⟨bg, 0, none⟩), .pointer (some ⟨bt, 0, none⟩)]
  | 4 => v = .int .i64 k
  | 5 => v = .int .i64 ((k + 1 : Nat) : Int)
  | 6 => v = .agg (catC b.lo b.hi p b.ns.length c kd)
  | 7 => v = .int .i64 k
  | 8 => v = .map (some M)
  | 9 => ∃ M' n' : Nat, v = .map (some M') ∧ n' ≤ 13 * n ∧ M' ≠ Bb ∧ StAt w M' n' (rchL b.ns k s l)
  | 10 => f = true ∧ ∃ M' n' : Nat, v = .map (some M') ∧ StAt w M' n' (tl.headD []) ∧ TlAt w Bb b.ns.length (k + 1) cs tl
  | 11 => f = true ∧ ∃ M' n' : Nat, v = .map (some M') ∧ StAt w M' n' (leadL b.ns k s l (tl.headD []))
  | _ => True
theorem goR_kept (b : Sn) (p : Option Addr) (c : Nat) (kd : Kd) (bc bg bt Bb M n k : Nat) (s : Nt) (l : List (Int × Int)) (cs : Array Value) (tl : List (List (Int × Int))) : ∀ (f : Bool) (i : Nat), i < 12 → ∀ (v : Value) (w w' : World), goR b p c kd bc bg bt Bb M n k s l cs tl f i v w → Below w.heap.size w w' → goR b p c kd bc bg bt Bb M n k s l cs tl f i v w' := by
  intro f i hi v w w' h hb
  match i, hi with
  | 0, _ => exact h
  | 1, _ => exact h
  | 2, _ => exact h
  | 3, _ => exact h
  | 4, _ => exact h
  | 5, _ => exact h
  | 6, _ => exact h
  | 7, _ => exact h
  | 8, _ => exact h
  | 9, _ => obtain ⟨M', n', h1, h2, h3, h4⟩ := h; exact ⟨M', n', h1, h2, h3, h4.below hb⟩
  | 10, _ => obtain ⟨h0, M', n', h1, h2, h3⟩ := h; exact ⟨h0, M', n', h1, h2.below hb, h3.bel hb⟩
  | 11, _ => obtain ⟨h0, M', n', h1, h2⟩ := h; exact ⟨h0, M', n', h1, h2.below hb⟩
  | k + 12, hk => omega
section
variable {o : Oper} {w : World} {g j t : Nat} (ρ : Operand → Value)
theorem run_lCatch {lo hi : Int} {p : Option Addr} {N c : Nat} {kd : Kd} (hop : o.op = .load 77 (.tmp t)) (hs : ρ (.tmp t) = .pointer (some ⟨g, 0, none⟩)) (k : Blk w g 77 (catC lo hi p N c kd)) : (execOp ρ o).run Tryd.prog w = .ok (.value (.agg (catC lo hi p N c kd))) w := by
  have c0 := k.cell 0
  have c1 := k.cell 1
  have c2 := k.cell 2
  have c3 := k.cell 3
  have c4 := k.cell 4
  have c5 := k.cell 5
  have c6 := k.cell 6
  have c7 := k.cell 7
  unfold catC at *
  simp only [List.size_toArray, List.length_cons, List.length_nil, Nat.reduceAdd, Nat.reduceLT, getElem?_pos, List.getElem_toArray, List.getElem_cons_zero, List.getElem_cons_succ] at c0 c1 c2 c3 c4 c5 c6 c7
  unfold execOp; simp [hop, hs, go_sem, c0, c1, c2, c3, c4, c5, c6, c7]
theorem run_lGo {x : Value} (hop : o.op = .load 109 (.tmp t)) (hs : ρ (.tmp t) = .pointer (some ⟨g, 0, none⟩)) (c0 : w.cell? ⟨g, 0, none⟩ = some x) : (execOp ρ o).run Tryd.prog w = .ok (.value x) w := by
  unfold execOp; simp [hop, hs, go_sem, c0]
theorem run_inc {k : Nat} (hk : k ≤ 1000000) (hop : o.op = .binOp .add 3 (.tmp t) (.const (.int .i64 1)) 3) (hs : ρ (.tmp t) = .int .i64 k) (h1 : ρ (.const (.int .i64 1)) = .int .i64 1) : (execOp ρ o).run Tryd.prog w = .ok (.value (.int .i64 ((k + 1 : Nat) : Int))) w := by
  have : IntKind.i64.wrap ((k : Int) + 1) = (k : Int) + 1 := IntWalk.i64_in _ (by omega)
  unfold execOp; simp [hop, hs, h1, go_sem, this]
end
theorem sargs3 {a : Act} {s t u : Nat} {x y z : Value} (h1 : a.tmps.getD s undef = x) (h2 : a.tmps.getD t undef = y) (h3 : a.tmps.getD u undef = z) : (#[Operand.tmp s, Operand.tmp t, Operand.tmp u]).map a.eval = #[x, y, z] := by
  simp only [List.map_toArray, List.map_cons, List.map_nil, Act.eval, h1, h2, h3]
theorem sargs4 {a : Act} {s t u r : Nat} {x y z q : Value} (h1 : a.tmps.getD s undef = x) (h2 : a.tmps.getD t undef = y) (h3 : a.tmps.getD u undef = z) (h4 : a.tmps.getD r undef = q) : (#[Operand.tmp s, Operand.tmp t, Operand.tmp u, Operand.tmp r]).map a.eval = #[x, y, z, q] := by
  simp only [List.map_toArray, List.map_cons, List.map_nil, Act.eval, h1, h2, h3, h4]
theorem sargsv23 {a : Act} {s t : Nat} {x y u v r : Value} (h1 : a.tmps.getD s undef = x) (h2 : a.tmps.getD t undef = y) : #[] ++ (#[Operand.tmp s, Operand.tmp t]).map a.eval ++ #[u, v, r] = #[x, y, u, v, r] := by
  simp only [List.map_toArray, List.map_cons, List.map_nil, Act.eval, h1, h2, List.append_toArray, List.nil_append, List.cons_append]
/-- One more list of states is laid into the closure's list. -/
theorem TlAt.put {w : World} {Bb N k M n : Nat} {cs cs' : Array Value} {L : List (Int × Int)} {tl : List (List (Int × Int))} (hB : Blk w Bb 111 cs') (hcs : cs'.size = N + 1) (hk : k < N + 1) (hlo : ∀ i, i < k → cs'[i]? = cs[i]?)
    (htl : ∀ (i : Nat) (L : List (Int × Int)), tl[i]? = some L → ∃ M n : Nat, cs'[k + 1 + i]? = some (.map (some M)) ∧ StAt w M n L) (hm : StAt w M n L) :
    TlAt (w.setCell ⟨Bb, k, none⟩ (.map (some M))) Bb N k cs (L :: tl) := by
  have keep : ∀ {M n : Nat} {L : List (Int × Int)}, StAt w M n L → StAt (w.setCell ⟨Bb, k, none⟩ (.map (some M))) M n L := fun h => h.of_heap (Below.heap_setCell _ _ _ _ (h.ne_blk hB))
  refine ⟨_, hB.set k _, by simp [hcs], fun i hi => ?_, fun i L' hi => ?_⟩
  · rw [Array.getElem?_setIfInBounds_ne (by omega)]; exact hlo i hi
  · cases i with
    | zero =>
      simp only [List.getElem?_cons_zero, Option.some.injEq] at hi
      subst hi
      refine ⟨M, n, by simp [hcs, hk], hm.of_heap (Below.heap_setCell _ _ _ _ (hm.ne_blk hB))⟩
    | succ i =>
      rw [List.getElem?_cons_succ] at hi
      obtain ⟨M', n', h1, h2⟩ := htl i L' hi
      refine ⟨M', n', ?_, h2.of_heap (Below.heap_setCell _ _ _ _ (h2.ne_blk hB))⟩
      rw [Array.getElem?_setIfInBounds_ne (by omega), show k + (i + 1) = k + 1 + i by omega]; exact h1
theorem grownBy_setCell (w : World) (g i : Nat) (v : Value) : w.grownBy (w.setCell ⟨g, i, none⟩ v) (some g) := ⟨rfl, rfl, rfl, by simp, fun k _ hn => Below.heap_setCell w ⟨g, i, none⟩ v k (fun e => hn (by rw [e]))⟩
theorem GoBox.bel {w w' : World} {b : Sn} {p : Option Addr} {c : Nat} {kd : Kd} {bc bg bt Bb : Nat} (h : GoBox w b p c kd bc bg bt Bb) (hb : Below w.heap.size w w') : GoBox w' b p c kd bc bg bt Bb := ⟨h.cC.bel hb, h.gG.bel hb, h.tT.bel hb⟩
theorem NotesAt.grown {w w' : World} {p : Option Addr} {l : List Nt} {Bb : Nat} (h : NotesAt w p l) (hg : w.grownBy w' (some Bb)) (hp : ∀ a, p = some a → a.block ≠ Bb) : NotesAt w' p l := fun i s hi => by
  obtain ⟨b, o, h1, h2, h3, h4, h5, h6⟩ := h i s hi
  have hb := hg.block b h2 (by simpa using hp _ h1)
  refine ⟨b, o, h1, Nat.lt_of_lt_of_le h2 hg.size, ?_, ?_, ?_, ?_⟩
  · rw [World.cell?_of_block (w := w) (a := ⟨b, _, none⟩) hb]; exact h3
  · rw [World.cell?_of_block (w := w) (a := ⟨b, _, none⟩) hb]; exact h4
  · rw [World.cell?_of_block (w := w) (a := ⟨b, _, none⟩) hb]; exact h5
  · rw [World.cell?_of_block (w := w) (a := ⟨b, _, none⟩) hb]; exact h6
theorem cell_some {w : World} {Bb k N : Nat} {t : TypeId} {cs : Array Value} (hB : Blk w Bb t cs) (hcs : cs.size = N + 1) (hk : k < N + 1) : ∃ v, w.cell? ⟨Bb, k, none⟩ = some v := by
  rw [hB.cell]; exact ⟨cs[k], Array.getElem?_eq_getElem (by omega)⟩
theorem fEnter (vs : Array Value) (w : World) : (callFunc 83 vs).run Tryd.prog w = .ok (.enter 83 vs) w := run_enter Tryd.func83 (by kernel_rfl) (by kernel_rfl) _ _
attribute [local go_sem] Oper.semAt_some frozen_alloc_lt
set_option maxRecDepth 100000 in
set_option maxHeartbeats 4000000 in
theorem goOn_any (b : Sn) (p : Option Addr) (c : Nat) (kd : Kd) (bc bg bt Bb : Nat) (hok : Ok9 b) : ∀ (j k M n : Nat) (l : List (Int × Int)) (cs : Array Value) (w : World), k + j = b.ns.length → NotesAt w p b.ns → GoBox w b p c kd bc bg bt Bb → bc ≠ Bb → bg ≠ Bb → bt ≠ Bb → (∀ a, p = some a → a.block ≠ Bb) →
    Blk w Bb 111 cs → cs.size = b.ns.length + 1 → StAt w M n l → (∀ st ∈ l, StK k st) → n ≤ 13 ^ (k + 1) →
    Calls Tryd.prog 83 #[.int .i64 k, .map (some M), .pointer (some ⟨bc, 0, none⟩), .pointer (some ⟨bg, 0, none⟩), .pointer (some ⟨bt, 0, none⟩)] w (GoPost w Bb b.ns.length k cs (tlL b.ns j k l)) := by
  intro j
  induction j with
  | zero =>
    intro k M n l cs w hkj hl hgb hn1 hn2 hn3 hp hB hcs hm hst hn
    have hkN : k = b.ns.length := by omega
    have hge : ¬ (k : Int) < (b.ns.length : Int) := by omega
    have hge2 : ¬ k < b.ns.length := by omega
    obtain ⟨v0, hv0⟩ := cell_some hB hcs (show k < b.ns.length + 1 by omega)
    have q2 := hgb.cC.cell 2
    have q8 := hgb.tT.cell 8
    have lc := hgb.cC.lt
    have lt := hgb.tT.lt
    have lB := hB.lt
    have fk := hB.frozen k
    unfold catC at q2 q8
    simp only [List.size_toArray, List.length_cons, List.length_nil, Nat.reduceAdd, Nat.reduceLT, getElem?_pos, List.getElem_toArray, List.getElem_cons_zero, List.getElem_cons_succ, List.append_toArray, List.cons_append, List.nil_append] at q2 q8
    have hk0 : (0 : Int) ≤ (k : Int) := by omega
    have hk1 : (k : Int) < ((b.ns.length + 1 : Nat) : Int) := by omega
    have hk2 : (k : Int) < (b.ns.length : Int) + 1 := by omega
    have HF := Lib.hid (TlAt.put (k := k) (cs := cs) (L := l) (tl := []) hB hcs (by omega) (fun _ _ => rfl) (fun i L h => by simp at h) hm)
    have HM := Lib.hid (hm.of_heap (Below.heap_setCell w ⟨Bb, k, none⟩ (.map (some M)) M (hm.ne_blk hB)))
    clear hl hgb hok hB hm hst hn hkj hkN
    go_enter Tryd.func83, Tryd.ntmps83
    go_wp2_with fail
    go_ret
    exact ⟨M, n, rfl, HM.out, HF.out, grownBy_setCell _ _ _ _⟩
  | succ j ih =>
    intro k M n l cs w hkj hl hgb hn1 hn2 hn3 hp hB hcs hm hst hn
    have hd : decide ((k : Int) < (b.ns.length : Int)) = true := by simp; omega
    obtain ⟨s, hs⟩ := get_some b.ns k (by omega)
    have hlen := hok.len
    have q2 := hgb.cC.cell 2
    have lc := hgb.cC.lt
    unfold catC at q2
    simp only [List.size_toArray, List.length_cons, List.length_nil, Nat.reduceAdd, Nat.reduceLT, getElem?_pos, List.getElem_toArray, List.getElem_cons_zero, List.getElem_cons_succ, List.append_toArray, List.cons_append, List.nil_append] at q2
    rw [tlL_step hs]
    have hrK := rchL_K hok hs hst
    have hn12 : n ≤ 1000000000000 := by
      have h1 : (13 : Nat) ^ (k + 1) ≤ 13 ^ 10 := Nat.pow_le_pow_right (by omega) (by omega)
      have h2 : (13 : Nat) ^ 10 = 137858491849 := by decide
      omega
    have hn13 : ∀ n', n' ≤ 13 * n → n' ≤ 13 ^ (k + 1 + 1) := fun n' h => by rw [Nat.pow_succ]; omega
    have hstB : ∀ st ∈ l, StB st := fun st h => (hst st h).b (by omega)
    have HIH := Lib.hid ih
    have lBw := hB.lt
    clear ih hn
    go_enter Tryd.func83, Tryd.ntmps83
    go_upto_region 2 with fail
    clear q2 lc
    generalize htl : tlL b.ns j (k + 1) (rchL b.ns k s l) = tl at *
    refine wp_region_flow_backH 12 32 10 (some Bb) (goR b p c kd bc bg bt Bb M n k s l cs tl) (by kernel_rfl) (by kernel_rfl) rfl (by omega) (goR_kept b p c kd bc bg bt Bb M n k s l cs tl) ?_ ?_ ?_
    · intro i hin hi10 f a X g1 g2 g3 g4 g5 g6 KK hKK
      have hgX := hgb.grown g5 hn1 hn2 hn3
      have hlX := hl.grown g5 hp
      have hmX : StAt X M n l := MapAt.grown hm g5 (by simpa using hm.ne_blk hB)
      have hgc := hgX.gG.cell 0
      match i, hin with
      | 0, _ => exact st_val rfl (wanted_none rfl) (run_lCatch _ rfl (g3 2 (by kernel_rfl)) hgX.cC) (hKK _ _ rfl (Below.refl _ _))
      | 1, _ => exact st_move rfl rfl (wanted_none rfl) (g3 0 (by kernel_rfl)) (hKK _ _ rfl (Below.refl _ _))
      | 2, _ => exact st_move rfl rfl (wanted_none rfl) (g3 1 (by kernel_rfl)) (hKK _ _ rfl (Below.refl _ _))
      | 3, _ => exact st_val rfl (wanted_none rfl) (run_lGo _ rfl (g3 3 (by kernel_rfl)) hgc) (hKK _ _ rfl (Below.refl _ _))
      | 4, _ => exact st_move rfl rfl (wanted_none rfl) (g3 0 (by kernel_rfl)) (hKK _ _ rfl (Below.refl _ _))
      | 5, _ => exact st_val rfl (wanted_none rfl) (run_inc _ (by omega) rfl (g4 4 (by kernel_rfl)) rfl) (hKK _ _ rfl (Below.refl _ _))
      | 6, _ => exact st_val rfl (wanted_none rfl) (run_lCatch _ rfl (g3 2 (by kernel_rfl)) hgX.cC) (hKK _ _ rfl (Below.refl _ _))
      | 7, _ => exact st_move rfl rfl (wanted_none rfl) (g3 0 (by kernel_rfl)) (hKK _ _ rfl (Below.refl _ _))
      | 8, _ => exact st_move rfl rfl (wanted_none rfl) (g3 1 (by kernel_rfl)) (hKK _ _ rfl (Below.refl _ _))
      | 9, _ =>
        refine st_call rfl rfl (wanted_none rfl) (sargs3 (g4 6 (by kernel_rfl)) (g4 7 (by kernel_rfl)) (g4 8 (by kernel_rfl))) (run_enter Tryd.func85 (by kernel_rfl) (by kernel_rfl) _) ?_
        refine (reached_any b p c kd k s M n l _ hlX hok hs hmX hstB hn12).mono ?_
        rintro e w1 ⟨M', n', rfl, k1, k2, k3, k4⟩
        exact ⟨_, rfl, hKK _ _ ⟨M', n', rfl, k2, by have := g5.size; omega, k3⟩ k4⟩
      | 11, _ =>
        obtain ⟨hf, M2, n2, e2, hm2, ht2⟩ := g4 10 (by kernel_rfl)
        refine st_call rfl rfl (wanted_none rfl) (sargs4 (g4 0 (by kernel_rfl)) (g4 1 (by kernel_rfl)) (g4 2 (by kernel_rfl)) e2) (run_enter Tryd.func84 (by kernel_rfl) (by kernel_rfl) _) ?_
        refine (leading_any b p c kd k s M M2 n n2 l (tl.headD []) _ hlX hok hs hmX hm2 hstB (by omega)).mono ?_
        rintro e w1 ⟨M', n', rfl, k1, k2, k3, k4⟩
        exact ⟨_, rfl, hKK _ _ ⟨hf, M', n', rfl, k3⟩ k4⟩
      | 10, _ => exact absurd rfl hi10
      | k + 12, hk => omega
    · intro a X g1 g2 g3 g4 g5 KK hKK
      obtain ⟨M1, n1, e1, k1, k2, k3⟩ := g4 9 (by kernel_rfl)
      have e3 : a.tmps.getD 17 undef = _ := g4 3 (by kernel_rfl)
      refine st_callv rfl rfl (wanted_none rfl) e3 (sargsv23 (g4 5 (by kernel_rfl)) e1) (fEnter _) ?_
      refine (HIH.out (k + 1) M1 n1 (rchL b.ns k s l) cs X (by omega) (hl.below g5) (hgb.bel g5) hn1 hn2 hn3 hp (hB.bel g5) hcs k3 hrK (hn13 _ k1)).mono ?_
      rw [htl]
      rintro e w1 ⟨M', n', rfl, h1, h2, h3⟩
      refine ⟨_, rfl, hKK _ _ ⟨rfl, M', n', rfl, h1, h2⟩ (fun i u hi hu => ?_) h3⟩
      match i, hi with
      | 0, _ => exact hu
      | 1, _ => exact hu
      | 2, _ => exact hu
      | 3, _ => exact hu
      | 4, _ => exact hu
      | 5, _ => exact hu
      | 6, _ => exact hu
      | 7, _ => exact hu
      | 8, _ => exact hu
      | 9, _ => obtain ⟨M', n', h4, h5, h6, h7⟩ := hu; exact ⟨M', n', h4, h5, h6, MapAt.grown h7 h3 (by simpa using h6)⟩
      | 10, _ => exact absurd hu.1 (by simp)
      | 11, _ => exact absurd hu.1 (by simp)
      | k + 12, hk => omega
    intro vs W2 hvs hBW
    have v0 : vs 0 = _ := hvs 0 (by omega)
    have v1 : vs 1 = _ := hvs 1 (by omega)
    have v2 : vs 2 = _ := hvs 2 (by omega)
    have v3 : vs 3 = _ := hvs 3 (by omega)
    have v4 : vs 4 = _ := hvs 4 (by omega)
    have v5 : vs 5 = _ := hvs 5 (by omega)
    have v6 : vs 6 = _ := hvs 6 (by omega)
    have v7 : vs 7 = _ := hvs 7 (by omega)
    have v8 : vs 8 = _ := hvs 8 (by omega)
    obtain ⟨M9, n9, v9, -⟩ := hvs 9 (by omega)
    obtain ⟨-, M10, n10, v10, -, ht10⟩ := hvs 10 (by omega)
    obtain ⟨-, M11, n11, v11, hm11⟩ := hvs 11 (by omega)
    simp only [putAll, v0, v1, v2, v3, v4, v5, v6, v7, v8, v9, v10, v11]
    clear v0 v1 v2 v3 v4 v5 v6 v7 v8 v9 v10 v11 hvs
    simp only [dstOf, Act.put, List.getElem?_toArray, List.getElem?_cons_zero, List.getElem?_cons_succ, Option.bind_some, Option.getD_some, List.setIfInBounds_toArray, List.set_cons_succ, List.set_cons_zero, List.drop_succ_cons, List.drop_zero]
    obtain ⟨cs', hB2, hcs2, hlo2, htl2⟩ := ht10
    have hg2 := hgb.grown hBW hn1 hn2 hn3
    obtain ⟨v0, hv0⟩ := cell_some hB2 hcs2 (show k < b.ns.length + 1 by omega)
    have q8 := hg2.tT.cell 8
    have lt := hg2.tT.lt
    have lB := hB2.lt
    have fk := hB2.frozen k
    unfold catC at q8
    simp only [List.size_toArray, List.length_cons, List.length_nil, Nat.reduceAdd, Nat.reduceLT, getElem?_pos, List.getElem_toArray, List.getElem_cons_zero, List.getElem_cons_succ, List.append_toArray, List.cons_append, List.nil_append] at q8
    have hk0 : (0 : Int) ≤ (k : Int) := by omega
    have hk2 : (k : Int) < (b.ns.length : Int) + 1 := by omega
    have HF := Lib.hid (TlAt.put (k := k) (cs := cs) (L := leadL b.ns k s l (tl.headD [])) (tl := tl) hB2 hcs2 (by omega) (fun i hi => hlo2 i (by omega)) htl2 hm11)
    have HM := Lib.hid (hm11.of_heap (Below.heap_setCell W2 ⟨Bb, k, none⟩ (.map (some M11)) M11 (hm11.ne_blk hB2)))
    have HBW := Lib.hid hBW
    clear hl hgb hok hB hm hst hBW hg2 htl2 hlo2 hB2 hm11 hn13 hstB hrK HIH htl
    go_wp2_with fail
    go_ret
    exact ⟨M11, n11, rfl, HM.out, HF.out, gb_trans HBW.out (grownBy_setCell _ _ _ _)⟩
end Go.Proofs.YtnckampdbbcehaaDoor

