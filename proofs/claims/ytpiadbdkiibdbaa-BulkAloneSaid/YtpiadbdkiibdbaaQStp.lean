/- Steps of regions, as every package needs them (after Sc, Se, So, Ed, Oj, which have the same for seine and tide: never
/- The numbers of a span, plainly. -/
/- Package bulk, plainly: books, lots, what measures hold, loads, truths. -/
/- Contracts of package bulk: numbers and spans that are valid. -/
import both). -/
import Derived.Test.YtpiadbdkiibdbaaQExt
import Derived.Test.YtpiadbdkiibdbaaQFl
import Derived.Test.YtpiadbdkiibdbaaProg
import Derived.WalkMore
set_option linter.unusedSimpArgs false
set_option linter.unusedVariables false
namespace Go.Proofs.Ytpiadbdkiibdbaa
open Go Go.RowKit
theorem frozen_alloc_lt (w : World) (o : Obj) (a : Addr) (h : a.block < w.heap.size) : (w.alloc o).frozen? a = w.frozen? a := World.frozen?_alloc_old _ _ _ (Nat.ne_of_lt h)
section
variable {P : Program} {ops : Array Oper} {Q : Exit → Act → World → Prop} {i : Nat} {o : Oper} {K : Act → World → Prop} {a : Act} {w : World}
theorem st_valw {v : Value} {w' : World} (h : ops[i]? = some o) (hw : Region.wanted o (yielded ops a.tmps) = true) (hr : (execOp a.eval o).run P w = .ok (.value v) w') (hK : K (a.put o.dst v) w') : wpOp P ops Q i K a w := by
  refine wpOp_want h hw ?_
  unfold Oper.wp
  rw [hr]
  exact hK
theorem run_enter {f : FuncId} {fn : Func} (hf : P.funcs[f]? = some fn) (hname : (fn.name == "runtime.NumGoroutine") = false) (hb : fn.body.isSome = true) (vs : Array Value) (w : World) : (callFunc f vs).run P w = .ok (.enter f vs) w := by
  have h1 : fn.name ≠ "runtime.NumGoroutine" := by simpa using hname
  obtain ⟨c, hc⟩ := Option.isSome_iff_exists.1 hb
  simp [callFunc, hf, h1, hc]
theorem run_call (ρ : Operand → Value) {f : FuncId} {xs : Array Operand} {ts : Array TypeId} {vs : Array Value} (hop : o.op = .call { callee := .value (.func f), args := xs, argTypes := ts }) (hf : ρ (.func f) = .func (.func f) #[] #[]) (hv : xs.map ρ = vs) (he : ∀ w, (callFunc f vs).run P w = .ok (.enter f vs) w) : (execOp ρ o).run P w = .ok (.enter f vs) w := by
  unfold execOp
  simp only [hop]
  simp [resolve, hf, hv, go_sem, Deferred.ofValue, invoke, he]
theorem st_call {f : FuncId} {xs : Array Operand} {ts : Array TypeId} {vs : Array Value} (h : ops[i]? = some o) (hop : o.op = .call { callee := .value (.func f), args := xs, argTypes := ts }) (hw : Region.wanted o (yielded ops a.tmps) = true) (hv : xs.map a.eval = vs) (he : ∀ w, (callFunc f vs).run P w = .ok (.enter f vs) w)
    (hc : Calls P f vs w fun e w' => ∃ v, e = .returned v ∧ K (a.put o.dst v) w') : wpOp P ops Q i K a w := by
  refine wpOp_want h hw ?_
  unfold Oper.wp
  rw [run_call a.eval hop rfl hv he]
  refine hc.mono ?_
  rintro e w' ⟨v, rfl, hk⟩
  exact hk
end
theorem drop_of_get {α : Type} {l : List α} {k : Nat} {s : α} (h : l[k]? = some s) : l.drop k = s :: l.drop (k + 1) := by
  obtain ⟨h1, h2⟩ := List.getElem?_eq_some_iff.1 h
  rw [← h2]; exact List.drop_eq_getElem_cons h1
theorem run_callv {P : Program} {o : Oper} {w : World} (ρ : Operand → Value) {s : Nat} {f : FuncId} {fb lb : Array Value} {xs : Array Operand} {ts : Array TypeId} {vs : Array Value} (hop : o.op = .call { callee := .value (.tmp s), args := xs, argTypes := ts }) (hf : ρ (.tmp s) = .func (.func f) fb lb) (hv : fb ++ xs.map ρ ++ lb = vs) (he : ∀ w, (callFunc f vs).run P w = .ok (.enter f vs) w) : (execOp ρ o).run P w = .ok (.enter f vs) w := by
  unfold execOp
  simp only [hop]
  simp [resolve, hf, hv, go_sem, Deferred.ofValue, invoke, he]
theorem st_callv {P : Program} {ops : Array Oper} {Q : Exit → Act → World → Prop} {i : Nat} {o : Oper} {K : Act → World → Prop} {a : Act} {w : World} {s : Nat} {f : FuncId} {fb lb : Array Value} {xs : Array Operand} {ts : Array TypeId} {vs : Array Value} (h : ops[i]? = some o) (hop : o.op = .call { callee := .value (.tmp s), args := xs, argTypes := ts }) (hw : Region.wanted o (yielded ops a.tmps) = true) (hf : a.tmps.getD s undef = .func (.func f) fb lb) (hv : fb ++ xs.map a.eval ++ lb = vs) (he : ∀ w, (callFunc f vs).run P w = .ok (.enter f vs) w)
    (hc : Calls P f vs w fun e w' => ∃ v, e = .returned v ∧ K (a.put o.dst v) w') : wpOp P ops Q i K a w := by
  refine wpOp_want h hw ?_
  unfold Oper.wp
  rw [run_callv a.eval hop hf hv he]
  refine hc.mono ?_
  rintro e w' ⟨v, rfl, hk⟩
  exact hk
theorem sargs1 {a : Act} {s : Nat} {x : Value} (h1 : a.tmps.getD s undef = x) : (#[Operand.tmp s]).map a.eval = #[x] := by
  simp only [List.map_toArray, List.map_cons, List.map_nil, Act.eval, h1]
theorem sargsv2 {a : Act} {s t : Nat} {x y : Value} (h1 : a.tmps.getD s undef = x) (h2 : a.tmps.getD t undef = y) : #[] ++ (#[Operand.tmp s, Operand.tmp t]).map a.eval ++ #[] = #[x, y] := by
  simp only [List.map_toArray, List.map_cons, List.map_nil, Act.eval, h1, h2, List.append_toArray, List.nil_append, List.append_nil]
section
variable {P : Program} {o : Oper} {w : World} {g t : Nat} (ρ : Operand → Value)
theorem run_ext0 {x y : Value} (hop : o.op = .extract (.tmp t) 0) (hs : ρ (.tmp t) = .tuple #[x, y]) : (execOp ρ o).run P w = .ok (.value x) w := by
  unfold execOp; simp [hop, hs, go_sem]
theorem run_ext1 {x y : Value} (hop : o.op = .extract (.tmp t) 1) (hs : ρ (.tmp t) = .tuple #[x, y]) : (execOp ρ o).run P w = .ok (.value y) w := by
  unfold execOp; simp [hop, hs, go_sem]
end
theorem args2 {a : Act} {s t : Nat} {v u : Value} (h1 : a.tmps.getD s undef = v) (h2 : a.tmps.getD t undef = u) : (#[Operand.tmp s, Operand.tmp t]).map a.eval = #[v, u] := by
  simp only [List.map_toArray, List.map_cons, List.map_nil, Act.eval, h1, h2]
theorem consts2 {a : Act} (v u : Value) : (#[Operand.const v, Operand.const u]).map a.eval = #[v, u] := by
  simp only [List.map_toArray, List.map_cons, List.map_nil, Act.eval]
theorem bel_comp {A X : World} {u : Grow A} {z : Grow (ext A u)} (h : Below X.heap.size X (ext A u)) : Below X.heap.size X (ext A (u.comp z)) := h.trans ((below_ext _ z).mono h.size)
theorem bel_alloc {X Y : World} (h : Below X.heap.size X Y) (o : Obj) : Below X.heap.size X (Y.alloc o) := h.alloc h.size o
theorem bel_ext {X Y : World} (h : Below X.heap.size X Y) (y : Grow Y) : Below X.heap.size X (ext Y y) := h.trans ((below_ext Y y).mono h.size)
theorem belC {n : Nat} {a w : World} (h : Below n a w := by (repeat (first | (with_reducible exact Below.refl _ _) | (with_reducible refine bel_comp ?_) | (with_reducible refine bel_alloc ?_ _) | (with_reducible refine bel_ext ?_ _)))) : Below n a w := h
theorem args4 {a : Act} {s t u x : Nat} {v1 v2 v3 v4 : Value} (h1 : a.tmps.getD s undef = v1) (h2 : a.tmps.getD t undef = v2) (h3 : a.tmps.getD u undef = v3) (h4 : a.tmps.getD x undef = v4) : (#[Operand.tmp s, Operand.tmp t, Operand.tmp u, Operand.tmp x]).map a.eval = #[v1, v2, v3, v4] := by
  simp only [List.map_toArray, List.map_cons, List.map_nil, Act.eval, h1, h2, h3, h4]
theorem args_tc {a : Act} {s : Nat} {v1 c : Value} (h1 : a.tmps.getD s undef = v1) : (#[Operand.tmp s, Operand.const c]).map a.eval = #[v1, c] := by
  simp only [List.map_toArray, List.map_cons, List.map_nil, Act.eval, h1]
theorem sargs3 {a : Act} {s t u : Nat} {x y z : Value} (h1 : a.tmps.getD s undef = x) (h2 : a.tmps.getD t undef = y) (h3 : a.tmps.getD u undef = z) : (#[Operand.tmp s, Operand.tmp t, Operand.tmp u]).map a.eval = #[x, y, z] := by
  simp only [List.map_toArray, List.map_cons, List.map_nil, Act.eval, h1, h2, h3]
theorem args_ct {a : Act} {s : Nat} {v1 c : Value} (h1 : a.tmps.getD s undef = v1) : (#[Operand.const c, Operand.tmp s]).map a.eval = #[c, v1] := by
  simp only [List.map_toArray, List.map_cons, List.map_nil, Act.eval, h1]
theorem args_ttc {a : Act} {s t : Nat} {x y c : Value} (h1 : a.tmps.getD s undef = x) (h2 : a.tmps.getD t undef = y) : (#[Operand.tmp s, Operand.tmp t, Operand.const c]).map a.eval = #[x, y, c] := by
  simp only [List.map_toArray, List.map_cons, List.map_nil, Act.eval, h1, h2]
theorem args_tct {a : Act} {s t : Nat} {x y c : Value} (h1 : a.tmps.getD s undef = x) (h2 : a.tmps.getD t undef = y) : (#[Operand.tmp s, Operand.const c, Operand.tmp t]).map a.eval = #[x, c, y] := by
  simp only [List.map_toArray, List.map_cons, List.map_nil, Act.eval, h1, h2]
end Go.Proofs.Ytpiadbdkiibdbaa

namespace Go.Proofs.Ytpiadbdkiibdbaa
open Go Go.RowKit
/-- The first k numbers from one on. -/
def nupto (a : Int) (k : Nat) : List Int := (List.range k).map (fun (j : Nat) => a + (j : Int))
/-- The numbers of a span. -/
def numsL (a b : Int) : List Int := nupto a (b - a + 1).toNat
theorem nupto_snoc (a : Int) (k : Nat) : nupto a k ++ [a + (k : Int)] = nupto a (k + 1) := by simp [nupto, List.range_succ]
theorem nupto_prefix (a : Int) (k k' : Nat) (h : k ≤ k') : nupto a k <+: nupto a k' := by
  unfold nupto
  refine List.IsPrefix.map _ ?_
  refine ⟨(List.range (k' - k)).map (fun (x : Nat) => k + x), ?_⟩
  rw [← List.range_add]
  congr 1; omega
theorem mem_numsL {a b x : Int} : x ∈ numsL a b ↔ a ≤ x ∧ x ≤ b := by
  unfold numsL nupto
  simp only [List.mem_map, List.mem_range]
  constructor
  · rintro ⟨j, hj, rfl⟩; omega
  · rintro ⟨h1, h2⟩; exact ⟨(x - a).toNat, by omega, by omega⟩
end Go.Proofs.Ytpiadbdkiibdbaa

namespace Go.Proofs.Ytpiadbdkiibdbaa
open Go Go.RowKit
/-- A lot: what was told of each kind, and the ends of its waste. -/
structure Lt where
  t0 : Int
  t1 : Int
  t2 : Int
  wl : Int
  wh : Int
/-- A book: the ends of what measures of each kind hold, what their counts can be wrong by, the lots. -/
structure Ck where
  l0 : Int
  u0 : Int
  l1 : Int
  u1 : Int
  l2 : Int
  u2 : Int
  e0 : Int
  e1 : Int
  e2 : Int
  ls : List Lt
/-- What measures of each kind hold. -/
structure Ms where
  a : Int
  b : Int
  c : Int
def Ms.at (m : Ms) : Nat → Int
  | 0 => m.a
  | 1 => m.b
  | _ => m.c
def Lt.told (t : Lt) : Nat → Int
  | 0 => t.t0
  | 1 => t.t1
  | _ => t.t2
def Ck.err (b : Ck) : Nat → Int
  | 0 => b.e0
  | 1 => b.e1
  | _ => b.e2
def Ck.lo (b : Ck) : Nat → Int
  | 0 => b.l0
  | 1 => b.l1
  | _ => b.l2
def Ck.hi (b : Ck) : Nat → Int
  | 0 => b.u0
  | 1 => b.u1
  | _ => b.u2
/-- A lot, a book as values. -/
def ltV (t : Lt) : Value := .agg #[.int .i64 t.t0, .int .i64 t.t1, .int .i64 t.t2, .int .i64 t.wl, .int .i64 t.wh]
def ckcs (b : Ck) (p : Option Addr) (c : Nat) : Array Value := #[.int .i64 b.l0, .int .i64 b.u0, .int .i64 b.l1, .int .i64 b.u1, .int .i64 b.l2, .int .i64 b.u2, .int .i64 b.e0, .int .i64 b.e1, .int .i64 b.e2, .slice p b.ls.length c]
def ckV (b : Ck) (p : Option Addr) (c : Nat) : Value := .agg #[.int .i64 b.l0, .int .i64 b.u0, .int .i64 b.l1, .int .i64 b.u1, .int .i64 b.l2, .int .i64 b.u2, .int .i64 b.e0, .int .i64 b.e1, .int .i64 b.e2, .slice p b.ls.length c]
def msV (m : Ms) : Value := .agg #[.int .i64 m.a, .int .i64 m.b, .int .i64 m.c]
/-- A list of lots that lies in memory. -/
def LotsAt (w : World) (p : Option Addr) (l : List Lt) : Prop :=
  ∀ (i : Nat) (s : Lt), l[i]? = some s → ∃ b o : Nat, p = some ⟨b, o, none⟩ ∧ b < w.heap.size ∧ w.cell? ⟨b, o + i * 5, none⟩ = some (.int .i64 s.t0) ∧ w.cell? ⟨b, o + i * 5 + 1, none⟩ = some (.int .i64 s.t1) ∧ w.cell? ⟨b, o + i * 5 + 2, none⟩ = some (.int .i64 s.t2) ∧ w.cell? ⟨b, o + i * 5 + 3, none⟩ = some (.int .i64 s.wl) ∧ w.cell? ⟨b, o + i * 5 + 4, none⟩ = some (.int .i64 s.wh)
theorem LotsAt.below {w w' : World} {p : Option Addr} {l : List Lt} (h : LotsAt w p l) (hb : Below w.heap.size w w') : LotsAt w' p l := fun i s hi => by
  obtain ⟨b, o, h1, h2, h3, h4, h5, h6, h7⟩ := h i s hi
  exact ⟨b, o, h1, Nat.lt_of_lt_of_le h2 hb.size, (hb.cell (p := ⟨b, _, none⟩) h2).trans h3, (hb.cell (p := ⟨b, _, none⟩) h2).trans h4, (hb.cell (p := ⟨b, _, none⟩) h2).trans h5, (hb.cell (p := ⟨b, _, none⟩) h2).trans h6, (hb.cell (p := ⟨b, _, none⟩) h2).trans h7⟩
theorem LotsAt.ext {w : World} {p : Option Addr} {l : List Lt} (h : LotsAt w p l) (x : Grow w) : LotsAt (ext w x) p l := h.below (below_ext w x)
/-- A book lies in memory. -/
structure CB (w : World) (b : Ck) (p : Option Addr) : Prop where
  ls : LotsAt w p b.ls
  lt : ∀ a, p = some a → a.block < w.heap.size
theorem CB.bel {w w' : World} {b : Ck} {p : Option Addr} (h : CB w b p) (hb : Below w.heap.size w w') : CB w' b p := ⟨h.ls.below hb, fun a ha => Nat.lt_of_lt_of_le (h.lt a ha) hb.size⟩
/-- Is a number from one to another one? A span? -/
def inV (a f t : Int) : Bool := decide (f ≤ a ∧ a ≤ t)
theorem inV_and (a f t : Int) : (decide (f ≤ a) && decide (a ≤ t)) = inV a f t := by simp [inV, Bool.decide_and]
theorem of_inV {a f t : Int} (h : inV a f t = true) : f ≤ a ∧ a ≤ t := by simpa [inV] using h
def spanV (a b f t d : Int) : Bool := inV a f t && inV b f t && decide (a ≤ b) && decide (b - a ≤ d)
theorem of_spanV {a b f t d : Int} (h : spanV a b f t d = true) : f ≤ a ∧ a ≤ b ∧ b ≤ t ∧ b - a ≤ d := by
  simp only [spanV, inV, Bool.and_eq_true, decide_eq_true_eq] at h
  omega
/-- What was told is nothing, or a number. -/
def toldV (t : Int) : Bool := decide (t = -1) || inV t 0 40
def lotV (t : Lt) : Bool := toldV t.t0 && toldV t.t1 && toldV t.t2 && spanV t.wl t.wh 0 20 5
def measV (b : Ck) : Bool := (spanV b.l0 b.u0 1 9 3 && inV b.e0 0 9) && (spanV b.l1 b.u1 1 9 3 && inV b.e1 0 9) && (spanV b.l2 b.u2 1 9 3 && inV b.e2 0 9)
def lotsV (l : List Lt) : Bool := decide (l.length ≤ 4) && l.all lotV
def cellV (b : Ck) : Bool := measV b && lotsV b.ls
/-- How many measures are enough. -/
def enoughI (f h : Int) : Int := (f + h - 1) / h
/-- How many measures of a kind are enough for a load (its fish, what is packed). -/
def cntI (m : Ms) (k : Nat) (l : Int × Int) : Int := enoughI (if k < 2 then l.1 else l.2) (m.at k)
/-- Is a count right? -/
def agreeB (told err n : Int) : Bool := decide (told = -1) || inV n (told - err) (told + err)
/-- The loads of a lot with so many fish. -/
def loadF (b : Ck) (m : Ms) (t : Lt) (fish : Int) : List (Int × Int) :=
  if agreeB t.t0 b.e0 (cntI m 0 (fish, 0)) && agreeB t.t1 b.e1 (cntI m 1 (fish, 0)) then
    ((numsL t.wl (min t.wh fish)).map fun w => (fish, fish - w)).filter fun l => agreeB t.t2 b.e2 (cntI m 2 l)
  else []
def loadsL (b : Ck) (m : Ms) (t : Lt) : List (Int × Int) := (numsL 0 400).flatMap (loadF b m t)
def canB (b : Ck) (m : Ms) (t : Lt) : Bool := !(loadsL b m t).isEmpty
def trueM (b : Ck) (m : Ms) : Bool := b.ls.all (canB b m)
/-- All that measures can hold; what they hold in a truth. -/
def storesL (b : Ck) : List Ms := (numsL b.l0 b.u0).flatMap fun x => (numsL b.l1 b.u1).flatMap fun y => (numsL b.l2 b.u2).map fun z => ⟨x, y, z⟩
def truthsL (b : Ck) : List Ms := (storesL b).filter (trueM b)
end Go.Proofs.Ytpiadbdkiibdbaa

namespace Go.Proofs.Ytpiadbdkiibdbaa
open Go Go.RowKit
theorem bWithin_any (a f t : Int) (w : World) : Calls Try.prog 89 #[.int .i64 a, .int .i64 f, .int .i64 t] w fun e w' => e = .returned (.bool (inV a f t)) ∧ w = w' := by
  rw [← inV_and]
  by_cases h : f ≤ a
  · have h' : decide (f ≤ a) = true := by simpa using h
    go_enter Try.func89, Try.ntmps89
    go_wp2
    go_ret
    exact ⟨by first | (simp; done) | (simp; omega), rfl⟩
  · have h' : decide (f ≤ a) = false := by simpa using h
    go_enter Try.func89, Try.ntmps89
    go_wp2
    go_ret
    exact ⟨by first | (simp; done) | (simp; omega), rfl⟩
theorem bWithin_eq (a f t : Int) (q : Bool) (w : World) (hq : inV a f t = q) : Calls Try.prog 89 #[.int .i64 a, .int .i64 f, .int .i64 t] w fun e w' => e = .returned (.bool q) ∧ w = w' := by
  subst hq; exact bWithin_any a f t w
theorem bKind_eq (k : Int) (q : Bool) (w : World) (hq : inV k 0 2 = q) : Calls Try.prog 63 #[.int .i64 k] w fun e w' => e = .returned (.bool q) ∧ w = w' := by
  go_enter Try.func63, Try.ntmps63
  go_wp2_with (go_at_call 89; refine (bWithin_eq _ _ _ _ _ hq).mono ?_; rintro e w' ⟨rfl, rfl⟩)
  go_ret
  exact ⟨rfl, rfl⟩
theorem bSpan_any (a b f t d : Int) (w : World) (hf : -1000000 ≤ f ∧ f ≤ 1000000) (hm : -1000000 ≤ t ∧ t ≤ 1000000) : Calls Try.prog 108 #[.agg #[.int .i64 a, .int .i64 b], .int .i64 f, .int .i64 t, .int .i64 d] w fun e w' => e = .returned (.bool (spanV a b f t d)) ∧ ∃ x, w' = ext w x := by
  unfold spanV
  cases h1 : inV a f t
  · have H := Lib.hid h1
    clear h1
    go_enter Try.func108, Try.ntmps108
    go_wp2_with (go_at_call 89; refine (bWithin_eq _ _ _ _ _ H.out).mono ?_; rintro e w' ⟨rfl, rfl⟩)
    go_ret
    exact ⟨rfl, by (exact ext_of (by (exact belA)))⟩
  · cases h2 : inV b f t
    · have H := Lib.hid h1
      have H2 := Lib.hid h2
      clear h1 h2
      go_enter Try.func108, Try.ntmps108
      go_wp2_with (go_at_call 89; refine (bWithin_eq _ _ _ _ _ (by first | exact H.out | exact H2.out)).mono ?_; rintro e w' ⟨rfl, rfl⟩)
      go_ret
      exact ⟨rfl, by (exact ext_of (by (exact belA)))⟩
    · have g1 := of_inV h1
      have g2 := of_inV h2
      have H := Lib.hid h1
      have H2 := Lib.hid h2
      have ew : IntKind.i64.wrap (b - a) = b - a := IntWalk.i64_in _ (by omega)
      clear h1 h2
      by_cases h3 : a ≤ b
      · have h3' : decide (a ≤ b) = true := by simpa using h3
        go_enter Try.func108, Try.ntmps108
        go_wp2_with (go_at_call 89; refine (bWithin_eq _ _ _ _ _ (by first | exact H.out | exact H2.out)).mono ?_; rintro e w' ⟨rfl, rfl⟩)
        go_ret
        exact ⟨by first | (simp; done) | (simp; omega), by (exact ext_of (by (exact belA)))⟩
      · have h3' : decide (a ≤ b) = false := by simpa using h3
        go_enter Try.func108, Try.ntmps108
        go_wp2_with (go_at_call 89; refine (bWithin_eq _ _ _ _ _ (by first | exact H.out | exact H2.out)).mono ?_; rintro e w' ⟨rfl, rfl⟩)
        go_ret
        exact ⟨by first | (simp; done) | (simp; omega), by (exact ext_of (by (exact belA)))⟩
theorem bSpan_eq (a b f t d : Int) (q : Bool) (w : World) (hf : -1000000 ≤ f ∧ f ≤ 1000000) (hm : -1000000 ≤ t ∧ t ≤ 1000000) (hq : spanV a b f t d = q) : Calls Try.prog 108 #[.agg #[.int .i64 a, .int .i64 b], .int .i64 f, .int .i64 t, .int .i64 d] w fun e w' => e = .returned (.bool q) ∧ ∃ x, w' = ext w x := by
  subst hq; exact bSpan_any a b f t d w hf hm
end Go.Proofs.Ytpiadbdkiibdbaa

