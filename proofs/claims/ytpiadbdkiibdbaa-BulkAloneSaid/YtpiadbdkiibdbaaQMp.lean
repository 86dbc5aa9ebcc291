/- Maps keyed by structs of two numbers, whatever the program: what such a map holds, as a function of the key; made, read, written, ranged over. -/
import Derived.Test.YtpiadbdkiibdbaaQExt
import Derived.Maps.RangeWalk
import Derived.DeepKeys5
set_option linter.unusedSimpArgs false
set_option linter.unusedVariables false
namespace Go.Proofs.Ytpiadbdkiibdbaa
open Go Go.RowKit Go.Maps

/-- A key. -/
def key2 (a b : Int) : Value := .agg #[.int .i64 a, .int .i64 b]
theorem key2_inj {a b c d : Int} (h : key2 a b = key2 c d) : a = c ∧ b = d := by simpa [key2] using h
/-- A number that fits in. -/
def InI (a : Int) : Prop := (Lit.int .i64 a).wf = true
theorem inI {a : Int} (h0 : -1000000 ≤ a) (h1 : a ≤ 1000000) : InI a := WalkArith.wf_i64 (by omega)
/-- An element reads as itself. -/
def R0 (v : Value) : Option (DataW Value × List MemPlace) := some (.held v, [])
/-- A type of keys: a struct of two numbers. -/
structure Key2 (P : Program) (K : TypeId) : Prop where
  law : Maps.Keyed P K
  enc : ∀ a b, InI a → InI b → ∃ l, keyOf P K (key2 a b) = some l
  inv : ∀ v l, keyOf P K v = some l → ∃ a b, v = key2 a b ∧ InI a ∧ InI b
theorem Key2.of {P : Program} {K I : TypeId} {f0 f1 : Go.Field} (law : Maps.Keyed P K) (hK : P.underlying K = some (.struct #[f0, f1])) (t0 : f0.type = I) (t1 : f1.type = I) (o0 : f0.offset = 0) (o1 : f1.offset = 1)
    (n0 : (f0.name != "_") = true) (n1 : (f1.name != "_") = true) (hI : P.underlying I = some (.int .i64)) (c2 : P.cellsOf K = 2) (c1 : P.cellsOf I = 1) (hk : P.keyType K = true) {m : Nat} (hz : P.types.size = m + 1) : Key2 P K := by
  have n0' : ¬ f0.name = "_" := by simpa using n0
  have n1' : ¬ f1.name = "_" := by simpa using n1
  refine ⟨law, fun a b ha hb => ?_, fun v l h => ?_⟩
  · have ha' : (Lit.int .i64 a).wf = true := ha
    have hb' : (Lit.int .i64 b).wf = true := hb
    refine ⟨.string (keyBytes [.int .i64 a, .int .i64 b]), ?_⟩
    simp [keyOf, hK, hk, key2, Value.formed, c2, Value.cells, hz, Program.keyLits, t0, t1, o0, o1, c1, hI, ha', hb', n0', n1']
  · simp only [keyOf, hK, hk, Bool.true_and] at h
    split at h
    · rename_i hfm
      cases v <;> simp [Value.formed, hK, c2] at hfm
      rename_i cs
      obtain ⟨x, y, rfl⟩ : ∃ x y, cs = #[x, y] := by
        rcases cs with ⟨l⟩
        match l, hfm with
        | [x, y], _ => exact ⟨x, y, rfl⟩
      simp only [Option.map_eq_some_iff] at h
      obtain ⟨ls, h1, -⟩ := h
      rw [hz] at h1
      have one : ∀ v : Value, (∃ n, v = .int .i64 n ∧ (Lit.int .i64 n).wf = true) ∨ P.keyLits (m + 1) I [v] = none := fun v => by
        cases v with
        | int q n =>
          by_cases hq : q = .i64 ∧ (Lit.int .i64 n).wf = true
          · obtain ⟨rfl, hq⟩ := hq; exact .inl ⟨n, rfl, hq⟩
          · exact .inr (by simp only [Program.keyLits, hI]; rw [if_neg hq])
        | _ => exact .inr (by simp [Program.keyLits, hI])
      have h2 : ((P.keyLits (m + 1) I [x]).bind fun a => (P.keyLits (m + 1) I [y]).bind fun b => some [a, b]) ≠ none := by
        have e : P.keyLits (m + 1 + 1) K [x, y] = if [x, y].length = P.cellsOf K ∧ (#[f0, f1]).all (·.name != "_") = true then ((#[f0, f1]).toList.mapM fun f => P.keyLits (m + 1) f.type (([x, y].drop f.offset).take (P.cellsOf f.type))).map List.flatten else none := by conv => { lhs; unfold Program.keyLits; rw [hK] }
        rw [show (Value.agg #[x, y]).cells.toList = [x, y] from rfl, e] at h1
        split at h1
        · intro h0
          cases hx : P.keyLits (m + 1) I [x] <;> cases hy : P.keyLits (m + 1) I [y] <;> simp [t0, t1, o0, o1, c1, hx, hy] at h1 h0
        · cases h1
      rcases one x with ⟨a, rfl, ha⟩ | hx
      · rcases one y with ⟨b, rfl, hb⟩ | hy
        · exact ⟨a, b, rfl, ha, hb⟩
        · rw [hy] at h2; cases P.keyLits (m + 1) I [Value.int .i64 a] <;> simp at h2
      · rw [hx] at h2; simp at h2
    · cases h
/-- What a key reads as. -/
def kl2 (P : Program) (K : TypeId) (a b : Int) : Lit := (keyOf P K (key2 a b)).getD (.bool true)
section
variable {P : Program} {K t e : TypeId}
theorem Key2.kl (k : Key2 P K) {a b : Int} (ha : InI a) (hb : InI b) : keyOf P K (key2 a b) = some (kl2 P K a b) := by
  obtain ⟨l, hl⟩ := k.enc a b ha hb
  unfold kl2; rw [hl]; rfl
theorem Key2.kl_inj (k : Key2 P K) {a b c d : Int} (ha : InI a) (hb : InI b) (hc : InI c) (hd : InI d) (h : kl2 P K a b = kl2 P K c d) : a = c ∧ b = d :=
  key2_inj (k.law.inj (k.kl ha hb) (h ▸ k.kl hc hd))
theorem Key2.isKey (k : Key2 P K) {a b : Int} (ha : InI a) (hb : InI b) : WideAt.IsKeyLit (kl2 P K a b) := k.law.key (k.kl ha hb)
/-- What a function of the key tells of a reading. -/
structure Reads (P : Program) (K : TypeId) (D : DataW Value) (f : Int → Int → Option Value) : Prop where
  has : ∀ a b, InI a → InI b → Maps.has D (kl2 P K a b) = (f a b).isSome
  at_ : ∀ a b, InI a → InI b → ∀ zd, D.atKey (kl2 P K a b) zd = match f a b with | some v => .held v | none => zd
/-- Block b is a map of at most n entries, which holds what f says. -/
def MapAt (P : Program) (K : TypeId) (w : World) (b n : Nat) (f : Int → Int → Option Value) : Prop := ∃ D, w.ownsMap P K R0 b n D ∧ Reads P K D f
def upd (f : Int → Int → Option Value) (a b : Int) (v : Value) : Int → Int → Option Value := fun x y => if x = a ∧ y = b then some v else f x y
variable {w : World} {b n : Nat} {f : Int → Int → Option Value}
theorem MapAt.lt (h : MapAt P K w b n f) : b < w.heap.size := by obtain ⟨D, h1, _⟩ := h; exact h1.lt
theorem MapAt.of_heap {w' : World} (h : MapAt P K w b n f) (hh : w'.heap[b]? = w.heap[b]?) : MapAt P K w' b n f := by
  obtain ⟨D, ⟨es, clock, h1, hr⟩, h2⟩ := h
  exact ⟨D, ⟨es, clock, hh.trans h1, hr⟩, h2⟩
theorem MapAt.below {w' : World} (h : MapAt P K w b n f) (hb : Below w.heap.size w w') : MapAt P K w' b n f := h.of_heap (hb.block b h.lt)
theorem MapAt.bel {w' : World} (h : MapAt P K w b n f) {m : Nat} (hm : b < m) (hb : Below m w w') : MapAt P K w' b n f := h.of_heap (hb.block b hm)
theorem MapAt.grown {w' : World} {r : Option Nat} (h : MapAt P K w b n f) (hg : w.grownBy w' r) (hr : some b ≠ r) : MapAt P K w' b n f := h.of_heap (hg.block b h.lt hr)
theorem MapAt.mono (h : MapAt P K w b n f) {n' : Nat} (hn : n ≤ n') : MapAt P K w b n' f := by obtain ⟨D, h1, h2⟩ := h; exact ⟨D, h1.mono hn, h2⟩
theorem MapAt.new (P : Program) (K : TypeId) (w : World) : MapAt P K (w.alloc (.map #[] 0)) w.heap.size 0 (fun _ _ => none) :=
  ⟨_, World.ownsMap_made _ _ _ _, ⟨fun _ _ _ _ => rfl, fun _ _ _ _ _ => rfl⟩⟩
theorem MapAt.eq (h : MapAt P K w b n f) {g : Int → Int → Option Value} (hg : ∀ a b, InI a → InI b → g a b = f a b) : MapAt P K w b n g := by
  obtain ⟨D, h1, h2, h3⟩ := h
  exact ⟨D, h1, ⟨fun a b ha hb => by rw [hg a b ha hb]; exact h2 a b ha hb, fun a b ha hb => by rw [hg a b ha hb]; exact h3 a b ha hb⟩⟩
theorem MapAt.look (h : MapAt P K w b n f) (k : Key2 P K) (ht : P.underlying t = some (.map K e)) {z : Value} (hz : ∀ w, (zeroValue e).run P w = .ok z w) {a c : Int} (ha : InI a) (hc : InI c) :
    (Instr.lookup t (.map (some b)) (key2 a c) false).run P w = .ok ((f a c).getD z) w := by
  obtain ⟨D, h1, h2, h3⟩ := h
  obtain ⟨v, ps, hr, hv⟩ := h1.lookup k.law ht (hz w) (zd := .held z) (zp := []) rfl (k.kl ha hc)
  rw [h3 a c ha hc] at hv
  rw [hr]
  cases hf : f a c <;> simp [hf, R0] at hv ⊢ <;> rw [hv.1]
theorem MapAt.lookOk (h : MapAt P K w b n f) (k : Key2 P K) (ht : P.underlying t = some (.map K e)) {z : Value} (hz : ∀ w, (zeroValue e).run P w = .ok z w) {a c : Int} (ha : InI a) (hc : InI c) :
    (Instr.lookup t (.map (some b)) (key2 a c) true).run P w = .ok (.tuple #[(f a c).getD z, .bool (f a c).isSome]) w := by
  obtain ⟨D, h1, h2, h3⟩ := h
  obtain ⟨v, ps, hr, hv⟩ := h1.look_ok k.law ht (hz w) (zd := .held z) (zp := []) rfl (k.kl ha hc)
  rw [h3 a c ha hc] at hv
  rw [hr, h2 a c ha hc]
  cases hf : f a c <;> simp [hf, R0] at hv ⊢ <;> rw [hv.1]
theorem MapAt.store (h : MapAt P K w b n f) (k : Key2 P K) (ht : P.underlying t = some (.map K e)) (hn : n < maxLen) {a c : Int} (ha : InI a) (hc : InI c) (v : Value) :
    ∃ w', (Instr.mapUpdate t (.map (some b)) (key2 a c) v).run P w = .ok () w' ∧ MapAt P K w' b (n + 1) (upd f a c v) ∧ w.grownBy w' (some b) := by
  obtain ⟨D, h1, h2, h3⟩ := h
  obtain ⟨w', r1, r2, r3⟩ := h1.update k.law ht hn (k.kl ha hc) (val := v) (d := .held v) (ps := []) rfl
  refine ⟨w', r1, ⟨_, r2, ?_, ?_⟩, r3⟩
  · intro x y hx hy
    by_cases hxy : x = a ∧ y = c
    · obtain ⟨rfl, rfl⟩ := hxy
      rw [has_put_same h1.isMap (k.isKey hx hy)]; simp [upd]
    · have hne : kl2 P K x y ≠ kl2 P K a c := fun h => hxy (k.kl_inj hx hy ha hc h)
      rw [has_put_other hne, h2 x y hx hy]; simp [upd, hxy]
  · intro x y hx hy zd
    by_cases hxy : x = a ∧ y = c
    · obtain ⟨rfl, rfl⟩ := hxy
      rw [atKey_put_same h1.isMap (k.isKey hx hy)]; simp [upd]
    · have hne : kl2 P K x y ≠ kl2 P K a c := fun h => hxy (k.kl_inj hx hy ha hc h)
      rw [atKey_put_other hne, h3 x y hx hy]; simp [upd, hxy]
/-- 'len': nothing in it, or something. -/
theorem MapAt.len (h : MapAt P K w b n f) (k : Key2 P K) (ht : P.underlying t = some (.map K e)) (ty : TypeId) : ∃ m : Nat, m ≤ n ∧ (Builtin.len_ #[t] ty #[.map (some b)]).run P w = .ok (.int .i64 m) w ∧ (m = 0 ↔ ∀ a c, InI a → InI c → f a c = none) := by
  obtain ⟨D, h1, h2, h3⟩ := h
  refine ⟨_, h1.size_le, h1.len ht ty, ?_⟩
  obtain ⟨es, clock, hb, F, hs, rfl⟩ := h1
  constructor
  · intro h0 a c ha hc
    have := h2 a c ha hc
    simp only [Maps.size, length_sorted, List.length_map] at h0
    rw [List.length_eq_zero_iff.1 h0] at this
    simp [Maps.has] at this
    exact this.symm ▸ rfl
  · intro h0
    simp only [Maps.size, length_sorted, List.length_map]
    cases hl : es.toList with
    | nil => rfl
    | cons x r =>
      exfalso
      have hx : x ∈ es.toList := by rw [hl]; simp
      obtain ⟨y, hy⟩ := F.reads x hx
      have hk := WideElems.rd_key hy
      obtain ⟨a, c, ha1, ha, hc⟩ := k.inv _ _ hk
      have h4 := h2 a c ha hc
      rw [h0 a c ha hc] at h4
      have h5 : Maps.has (DataW.map ((es.toList.map (WideElems.rg P K R0)).foldr DataW.insert [])) (kl2 P K a c) = true := by
        refine List.any_eq_true.2 ⟨WideElems.rg P K R0 x, mem_sorted.2 (List.mem_map.2 ⟨x, hx, rfl⟩), ?_⟩
        rw [WideElems.rg_of hy]
        rw [ha1, k.kl ha hc] at hk
        rw [← Option.some.inj hk]
        exact WideAt.sameKey_self (k.isKey ha hc)
      rw [h5] at h4
      cases h4
/-- Block r is an iterator over the map in block b; left: which keys are still to come. -/
def IterAt (P : Program) (K : TypeId) (w : World) (b r n : Nat) (f : Int → Int → Option Value) (left : Int → Int → Bool) (cnt : Nat) : Prop := ∃ D lf, w.ranges P K R0 b r n D lf cnt ∧ Reads P K D f ∧ ∀ a c, InI a → InI c → left a c = lf (kl2 P K a c)
variable {r cnt : Nat} {left : Int → Int → Bool}
theorem IterAt.map (h : IterAt P K w b r n f left cnt) : MapAt P K w b n f := by obtain ⟨D, lf, h1, h2, _⟩ := h; exact ⟨D, h1.owns, h2⟩
theorem IterAt.left_eq (h : IterAt P K w b r n f left cnt) : w.rangeLeft b r = cnt := by obtain ⟨D, lf, h1, _⟩ := h; exact h1.left_eq
theorem IterAt.ne (h : IterAt P K w b r n f left cnt) : r ≠ b := by obtain ⟨D, lf, h1, _⟩ := h; exact h1.ne
theorem IterAt.isIter (h : IterAt P K w b r n f left cnt) : ∃ a c d e, w.heap[r]? = some (.mapIter a c d e) := by
  obtain ⟨D, lf, ⟨es, clock, since, seen, c0, h1, h2, h3, h4, h5, h6⟩, h7⟩ := h
  exact ⟨_, _, _, _, h5⟩
theorem IterAt.lt (h : IterAt P K w b r n f left cnt) : r < w.heap.size := by obtain ⟨D, lf, h1, _⟩ := h; exact h1.lt
theorem IterAt.of_heap {w' : World} (h : IterAt P K w b r n f left cnt) (hb : w'.heap[b]? = w.heap[b]?) (hr : w'.heap[r]? = w.heap[r]?) : IterAt P K w' b r n f left cnt := by
  obtain ⟨D, lf, ⟨es, clock, since, seen, c0, g1, F, g2, g3, g4, rest⟩, h2⟩ := h
  exact ⟨D, lf, ⟨es, clock, since, seen, c0, hb.trans g1, F, g2, g3, hr.trans g4, rest⟩, h2⟩
theorem IterAt.below {w' : World} (h : IterAt P K w b r n f left cnt) {m : Nat} (hb : b < m) (hr : r < m) (hB : Below m w w') : IterAt P K w' b r n f left cnt := h.of_heap (hB.block b hb) (hB.block r hr)
theorem IterAt.some_of_left (h : IterAt P K w b r n f left cnt) (k : Key2 P K) {a c : Int} (ha : InI a) (hc : InI c) (hl : left a c = true) : (f a c).isSome = true := by
  obtain ⟨D, lf, h1, h2, h3⟩ := h
  rw [h3 a c ha hc] at hl
  rw [← h2.has a c ha hc]
  obtain ⟨es, clock, since, seen, c0, hb, F, hs, rfl, hr, hold, _, hl1, hl2, _⟩ := h1
  obtain ⟨x, hx, hxk⟩ := hl2 _ hl
  refine List.any_eq_true.2 ⟨WideElems.rg P K R0 x, mem_sorted.2 (List.mem_map.2 ⟨x, hx, rfl⟩), ?_⟩
  rw [hxk]
  exact WideAt.sameKey_self (k.isKey ha hc)
theorem MapAt.range (h : MapAt P K w b n f) (k : Key2 P K) (ht : P.underlying t = some (.map K e)) :
    ∃ w' left cnt, (Instr.range t (.map (some b))).run P w = .ok (.pointer (some ⟨w.heap.size, 0, none⟩)) w' ∧ IterAt P K w' b w.heap.size n f left cnt ∧ (∀ a c, InI a → InI c → left a c = (f a c).isSome) ∧ w.grownBy w' none ∧ w'.heap.size = w.heap.size + 1 ∧ cnt ≤ n := by
  obtain ⟨D, h1, h2⟩ := h
  obtain ⟨w', r1, r2, r3, r4⟩ := h1.range k.law ht
  exact ⟨w', fun a c => Maps.has D (kl2 P K a c), _, r1, ⟨D, _, r2, h2, fun _ _ _ _ => rfl⟩, fun a c ha hc => h2.has a c ha hc, r3, r4, h1.size_le⟩
/-- The step: nothing is left, or a key comes out that was. -/
theorem IterAt.next (h : IterAt P K w b r n f left cnt) (k : Key2 P K) (ty : TypeId) :
    (cnt = 0 ∧ (∀ a c, InI a → InI c → left a c = false) ∧ (Instr.next (.pointer (some ⟨r, 0, none⟩)) false ty).run P w = .ok (.tuple #[.bool false]) w) ∨
    ∃ a c v w' cnt', InI a ∧ InI c ∧ left a c = true ∧ f a c = some v ∧ (Instr.next (.pointer (some ⟨r, 0, none⟩)) false ty).run P w = .ok (.tuple #[.bool true, key2 a c, v]) w' ∧
      IterAt P K w' b r n f (fun x y => left x y && !(decide (x = a) && decide (y = c))) cnt' ∧ cnt' < cnt ∧ w.grownBy w' (some r) ∧ w'.heap.size = w.heap.size ∧ (Instr.entry (.pointer (some ⟨r, 0, none⟩))).run P w' = .ok (.tuple #[key2 a c, v]) w' := by
  have h0 := h
  obtain ⟨D, lf, h1, h2, h3⟩ := h
  rcases h1.next k.law ty with ⟨e0, e1, e2⟩ | ⟨key, v, l, y, w', cnt', hkey, hl, hv, hat, hrun, hrg, hlt, hgr, hsz, hen⟩
  · exact .inl ⟨e0, fun a c ha hc => by rw [h3 a c ha hc]; exact e1 _, e2⟩
  · obtain ⟨a, c, rfl, ha, hc⟩ := k.inv _ _ hkey
    have hlk : l = kl2 P K a c := by rw [k.kl ha hc] at hkey; exact (Option.some.inj hkey).symm
    subst hlk
    have hla : left a c = true := by rw [h3 a c ha hc]; exact hl
    obtain ⟨u, hu⟩ := Option.isSome_iff_exists.1 (h0.some_of_left k ha hc hla)
    have huv : u = v := by
      have := hat (.held u)
      rw [h2.at_ a c ha hc, hu] at this
      simp [R0] at hv
      rw [← hv] at this
      simpa using this
    subst huv
    refine .inr ⟨a, c, u, w', cnt', ha, hc, hla, hu, hrun, ⟨D, _, hrg, h2, fun x z hx hz => ?_⟩, hlt, hgr, hsz, hen⟩
    show (left x z && _) = (lf _ && _)
    rw [h3 x z hx hz]
    congr 1
    by_cases hxy : x = a ∧ z = c
    · obtain ⟨rfl, rfl⟩ := hxy
      rw [WideAt.sameKey_self (k.isKey hx hz)]; simp
    · have : (kl2 P K x z).sameKey (kl2 P K a c) = false := by
        cases hs : (kl2 P K x z).sameKey (kl2 P K a c)
        · rfl
        · exact absurd (k.kl_inj hx hz ha hc (WideAt.sameKey_eq hs)) hxy
      rw [this]
      simp
      omega
/-- A map is a set of pairs: each of these is a key, with the element true. -/
def setF (l : List (Int × Int)) : Int → Int → Option Value := fun a c => if (a, c) ∈ l then some (.bool true) else none
theorem setF_upd (l : List (Int × Int)) (a c : Int) : upd (setF l) a c (.bool true) = setF ((a, c) :: l) := by
  funext x y
  unfold upd setF
  by_cases h : x = a ∧ y = c
  · obtain ⟨rfl, rfl⟩ := h; simp
  · rw [if_neg h]
    have : ¬ ((x, y) : Int × Int) = (a, c) := fun e => h (by simpa using e)
    simp [this]
theorem setF_congr {l l' : List (Int × Int)} (h : ∀ p, p ∈ l ↔ p ∈ l') : setF l = setF l' := by
  funext x y; unfold setF; simp [h]
theorem setF_nil : setF [] = fun _ _ => none := by funext x y; simp [setF]
theorem setF_isSome (l : List (Int × Int)) (a c : Int) : (setF l a c).isSome = decide ((a, c) ∈ l) := by unfold setF; split <;> simp [*]
theorem setF_getD (l : List (Int × Int)) (a c : Int) : (setF l a c).getD (.bool false) = .bool (decide ((a, c) ∈ l)) := by unfold setF; split <;> simp [*]
theorem setF_some {l : List (Int × Int)} {a c : Int} {v : Value} (h : setF l a c = some v) : (a, c) ∈ l ∧ v = .bool true := by
  unfold setF at h; split at h
  · exact ⟨by assumption, by simpa using h.symm⟩
  · cases h
end
end Go.Proofs.Ytpiadbdkiibdbaa

