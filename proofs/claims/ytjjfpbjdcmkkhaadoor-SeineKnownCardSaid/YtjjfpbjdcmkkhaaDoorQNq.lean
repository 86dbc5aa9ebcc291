/- Plain facts for wrong: offers, the best of them for each state; what can be behind some notes, by which of them are left out. -/
/- Package seine: what holds in the loops of wrong. Written by gen_wrong_s.py. -/
/- Package seine: a list of numbers that grows into memory of its own; the operations of wrong's offer. -/
import Derived.Test.YtjjfpbjdcmkkhaaDoorQNl
import Derived.Deep.RegionLawGrows
set_option linter.unusedSimpArgs false
set_option linter.unusedVariables false
namespace Go.Proofs.YtjjfpbjdcmkkhaaDoor
open Go Go.RowKit Go.Shelf

theorem fewerB_ge {a b c : List Int} (h : fewerB a b = false) (k : fewerB b c = false) : fewerB a c = false := by
  cases hac : fewerB a c with
  | false => rfl
  | true =>
    cases hba : fewerB b a with
    | true => rw [fewerB_trans b a c hba hac] at k; cases k
    | false =>
      have := fewerB_total h hba
      subst this
      rw [hac] at k; cases k
theorem lexB_snoc (x : Int) : ∀ (a b : List Int), a.length = b.length → lexB (a ++ [x]) (b ++ [x]) = lexB a b
  | [], [], _ => by simp [lexB]
  | [], _ :: _, h => by simp at h
  | _ :: _, [], h => by simp at h
  | u :: a, v :: b, h => by simp [lexB, lexB_snoc x a b (by simpa using h)]
theorem fewerB_snoc (x : Int) (a b : List Int) : fewerB (a ++ [x]) (b ++ [x]) = fewerB a b := by
  unfold fewerB
  by_cases h : a.length = b.length
  · rw [lexB_snoc x a b h]; simp
  · have h2 : ¬ (a.length + 1 = b.length + 1) := by omega
    simp [h]
/-- A list stays where only a box turns that holds a map. -/
theorem ListAt.other {B g : Nat} {w w' : World} {v : Value} {l : List Int} {t : TypeId} {m : Option Nat} (h : ListAt B w v l) (hg : Blk w g t #[.map m]) (hz : w.heap.size ≤ w'.heap.size) (hk : ∀ k, k ≠ g → w'.heap[k]? = w.heap[k]?) : ListAt B w' v l := by
  obtain ⟨p, c, h1, h2, h3, h4, h5, h6⟩ := h
  refine ⟨p, c, h1, fun i x hi => ?_, h3, h4, h5, Nat.le_trans h6 hz⟩
  obtain ⟨b, o, e1, e2, e3⟩ := h2 i x hi
  refine ⟨b, o, e1, Nat.lt_of_lt_of_le e2 hz, ?_⟩
  have hne : b ≠ g := by
    rintro rfl
    rw [hg.cell] at e3
    cases hj : o + i with
    | zero => rw [hj] at e3; simp at e3
    | succ j => rw [hj] at e3; simp at e3
  rw [World.cell?_of_block (a := ⟨b, o + i, none⟩) (hk b hne)]
  exact e3
theorem LMap.other {B g : Nat} {w w' : World} {b n : Nat} {t : TypeId} {m : Option Nat} {f : Int → Int → Option (List Int)} (h : LMap B w b n f) (hg : Blk w g t #[.map m]) (hz : w.heap.size ≤ w'.heap.size) (hk : ∀ k, k ≠ g → w'.heap[k]? = w.heap[k]?) : LMap B w' b n f := by
  obtain ⟨F, h1, h2⟩ := h
  have hbg : b ≠ g := by
    rintro rfl
    exact h1.noCells _ _ _ hg
  refine ⟨F, h1.of_heap (hk b hbg), fun a c ha hc => ?_⟩
  have := h2 a c ha hc
  split at this
  · exact this
  · obtain ⟨v, e1, e2⟩ := this
    exact ⟨v, e1, e2.other hg hz hk⟩
/-- Offers: a state, and the list of the notes that are left out on its way. -/
abbrev Offs := List ((Int × Int) × List Int)
/-- The best of all offers for each state. -/
structure BestIs (os : Offs) (g : Int → Int → Option (List Int)) : Prop where
  no : ∀ a c, g a c = none → ∀ l, ((a, c), l) ∉ os
  yes : ∀ a c l, g a c = some l → ((a, c), l) ∈ os ∧ ∀ l', ((a, c), l') ∈ os → fewerB l' l = false
theorem BestIs.nil : BestIs [] (fun _ _ => none) := ⟨fun _ _ _ l h => by simp at h, fun _ _ _ h => by cases h⟩
theorem BestIs.congr {os os' : Offs} {g : Int → Int → Option (List Int)} (h : BestIs os g) (he : ∀ q, q ∈ os' ↔ q ∈ os) : BestIs os' g :=
  ⟨fun a c hn l hl => h.no a c hn l ((he _).1 hl), fun a c l hs => ⟨(he _).2 (h.yes a c l hs).1, fun l' hl => (h.yes a c l hs).2 l' ((he _).1 hl)⟩⟩
theorem BestIs.snoc {os : Offs} {g : Int → Int → Option (List Int)} (h : BestIs os g) (x y : Int) (l : List Int) : BestIs (os ++ [((x, y), l)]) (offG g x y l) := by
  constructor
  · intro a c hn l2 hl
    unfold offG at hn
    by_cases hac : a = x ∧ c = y
    · rw [if_pos hac] at hn
      split at hn
      · cases hn
      · split at hn <;> cases hn
    · rw [if_neg hac] at hn
      rcases List.mem_append.1 hl with h1 | h1
      · exact h.no a c hn l2 h1
      · simp only [List.mem_singleton, Prod.mk.injEq] at h1
        exact hac h1.1
  · intro a c l2 hs
    unfold offG at hs
    by_cases hac : a = x ∧ c = y
    · rw [if_pos hac] at hs
      obtain ⟨rfl, rfl⟩ := hac
      split at hs
      · rename_i hg
        cases hs
        refine ⟨by simp, fun l' hl => ?_⟩
        rcases List.mem_append.1 hl with h1 | h1
        · exact absurd h1 (h.no a c hg l')
        · simp only [List.mem_singleton, Prod.mk.injEq] at h1
          rw [h1.2]; exact fewerB_irrefl _
      · rename_i l3 hg
        obtain ⟨k1, k2⟩ := h.yes a c l3 hg
        split at hs
        · rename_i hb
          cases hs
          refine ⟨by simp, fun l' hl => ?_⟩
          rcases List.mem_append.1 hl with h1 | h1
          · cases hx : fewerB l' l with
            | false => rfl
            | true => have := k2 l' h1; rw [fewerB_trans _ _ _ hx hb] at this; cases this
          · simp only [List.mem_singleton, Prod.mk.injEq] at h1
            rw [h1.2]; exact fewerB_irrefl _
        · rename_i hb
          cases hs
          refine ⟨List.mem_append_left _ k1, fun l' hl => ?_⟩
          rcases List.mem_append.1 hl with h1 | h1
          · exact k2 l' h1
          · simp only [List.mem_singleton, Prod.mk.injEq] at h1
            rw [h1.2]; simpa using hb
    · rw [if_neg hac] at hs
      obtain ⟨k1, k2⟩ := h.yes a c l2 hs
      refine ⟨List.mem_append_left _ k1, fun l' hl => ?_⟩
      rcases List.mem_append.1 hl with h1 | h1
      · exact k2 l' h1
      · simp only [List.mem_singleton, Prod.mk.injEq] at h1
        exact absurd h1.1 hac
/-- What a state and its list offer behind a note: it is left out, or kept. -/
def offL (ns : List Nt) (k : Nat) (s : Nt) (q : (Int × Int) × List Int) : Offs := (befS ns k q.1, q.2 ++ [(k : Int)]) :: (behL s (befS ns k q.1)).map fun z => (z, q.2)
/-- What can be behind the first notes, if those of a list are left out. -/
def Rch (b : Sn) : Nat → (Int × Int) × List Int → Prop
  | 0, q => q.1 ∈ startL b.lo b.hi ∧ q.2 = []
  | k + 1, q => ∃ s q0, b.ns[k]? = some s ∧ Rch b k q0 ∧ q ∈ offL b.ns k s q0
structure BestR (b : Sn) (k : Nat) (f : Int → Int → Option (List Int)) : Prop where
  no : ∀ a c, f a c = none → ∀ l, ¬ Rch b k ((a, c), l)
  yes : ∀ a c l, f a c = some l → Rch b k ((a, c), l) ∧ ∀ l', Rch b k ((a, c), l') → fewerB l' l = false
theorem offL_map {ns : List Nt} {k : Nat} {s : Nt} {st : Int × Int} {l l0 : List Int} {z : Int × Int} {m : List Int} (h : (z, m) ∈ offL ns k s (st, l)) (hf : fewerB l l0 = false) : ∃ m0, (z, m0) ∈ offL ns k s (st, l0) ∧ fewerB m m0 = false := by
  simp only [offL, List.mem_cons, List.mem_map, Prod.mk.injEq] at h ⊢
  rcases h with ⟨rfl, rfl⟩ | ⟨u, hu, rfl, rfl⟩
  · exact ⟨_, .inl ⟨rfl, rfl⟩, by rw [fewerB_snoc]; exact hf⟩
  · exact ⟨l0, .inr ⟨u, hu, rfl, rfl⟩, hf⟩
/-- One note more. -/
theorem BestR.step {b : Sn} {k : Nat} {s : Nt} {f g : Int → Int → Option (List Int)} {dn : Offs} (h : BestR b k f) (hs : b.ns[k]? = some s) (hd : ∀ st l, (st, l) ∈ dn ↔ f st.1 st.2 = some l) (hg : BestIs (dn.flatMap (offL b.ns k s)) g) : BestR b (k + 1) g := by
  have up : ∀ z m, Rch b (k + 1) (z, m) → ∃ m0, (z, m0) ∈ dn.flatMap (offL b.ns k s) ∧ fewerB m m0 = false := by
    rintro z m ⟨s', ⟨st, l⟩, hs', hr, hm⟩
    rw [hs] at hs'; cases hs'
    cases hf : f st.1 st.2 with
    | none => exact absurd hr (h.no _ _ hf l)
    | some l0 =>
      obtain ⟨m0, h1, h2⟩ := offL_map hm ((h.yes _ _ _ hf).2 l hr)
      exact ⟨m0, List.mem_flatMap.2 ⟨(st, l0), (hd _ _).2 hf, h1⟩, h2⟩
  have down : ∀ z m, (z, m) ∈ dn.flatMap (offL b.ns k s) → Rch b (k + 1) (z, m) := by
    intro z m hm
    obtain ⟨⟨st, l⟩, h1, h2⟩ := List.mem_flatMap.1 hm
    exact ⟨s, (st, l), hs, (h.yes _ _ _ ((hd _ _).1 h1)).1, h2⟩
  constructor
  · intro a c hn l hr
    obtain ⟨m0, h1, -⟩ := up _ _ hr
    exact hg.no a c hn m0 h1
  · intro a c l hl
    obtain ⟨h1, h2⟩ := hg.yes a c l hl
    refine ⟨down _ _ h1, fun l' hr => ?_⟩
    obtain ⟨m0, h3, h4⟩ := up _ _ hr
    exact fewerB_ge h4 (h2 m0 h3)
/-- States keep to their bounds, lists are short. -/
theorem Rch.bd {b : Sn} (hok : Ok9 b) : ∀ (k : Nat) (q : (Int × Int) × List Int), Rch b k q → StK k q.1 ∧ q.2.length ≤ k
  | 0, q, h => ⟨startL_K ⟨hok.span.1, hok.span.2.2.2.1⟩ _ h.1, by rw [h.2]; simp⟩
  | k + 1, q, ⟨s, ⟨st, l⟩, hs, hr, hm⟩ => by
    obtain ⟨h1, h2⟩ := Rch.bd hok k _ hr
    dsimp only at h1 h2
    obtain ⟨z, m⟩ := q
    simp only [offL, List.mem_cons, List.mem_map, Prod.mk.injEq] at hm
    rcases hm with ⟨rfl, rfl⟩ | ⟨u, hu, rfl, rfl⟩
    · refine ⟨?_, by simp; omega⟩
      obtain ⟨x, y⟩ := st
      obtain ⟨g1, g2, g3⟩ := h1
      dsimp only at g1 g2 g3
      have := afterH_bd g2 (gapN b.ns k).toNat x g1.1
      rw [befS_eq]
      exact ⟨by dsimp only; omega, g2, by dsimp only; push_cast; omega⟩
    · refine ⟨?_, by dsimp only; omega⟩
      refine rchL_K hok hs (l := [st]) (by simpa using h1) u ?_
      simp only [rchL, List.flatMap_cons, List.flatMap_nil, List.append_nil]
      exact hu
end Go.Proofs.YtjjfpbjdcmkkhaaDoor

namespace Go.Proofs.YtjjfpbjdcmkkhaaDoor
open Go Go.RowKit Go.Shelf
def f0 (lo hi : Int) (pre : List (Int × Int)) : Int → Int → Option (List Int) := fun a c => if (a, c) ∈ pre then some [] else none
/-- What holds before a note. -/
def WrI (b : Sn) (p : Option Addr) (c : Nat) (kd : Kd) (w : World) : Act → World → Prop := fun a wr =>
  ∃ (k M1 n1 : Nat) (Ds : List Nat) (f : Int → Int → Option (List Int)) (u5 u6 u7 u8 u9 u10 u11 u15 u16 u17 u23 u24 u25 u26 u27 u28 u29 u30 u31 u32 u33 u34 u35 u36 u37 u38 u39 u40 u41 u42 u43 u44 u45 u46 u47 u48 u49 u50 u51 u52 u53 u54 u55 u56 u57 u58 u59 u60 u61 u62 u63 : Value),
    a = { tmps := #[.agg (catC b.lo b.hi p b.ns.length c kd), .pointer (some ⟨w.heap.size, 0, none⟩), .slice none 0 0, .pointer (some ⟨w.heap.size + 1 + 1, 0, none⟩), undef, u5, u6, u7, u8, u9, u10, u11, .map (some (w.heap.size + 1)), .agg (catC b.lo b.hi p b.ns.length c kd), .func (.func 86) #[.agg (catC b.lo b.hi p b.ns.length c kd)] #[], u15, u16, u17, .pointer (some ⟨w.heap.size, 0, none⟩), .pointer (some ⟨w.heap.size, 2, none⟩), .slice p b.ns.length c, .int .i64 b.ns.length, .int .i64 k, u23, u24, u25, u26, u27, u28, u29, u30, u31, u32, u33, u34, u35, u36, u37, u38, u39, u40, u41, u42, u43, u44, u45, u46, u47, u48, u49, u50, u51, u52, u53, u54, u55, u56, u57, u58, u59, u60, u61, u62, u63], defers := Ds.map coll } ∧
    k ≤ b.ns.length ∧ Blk wr (w.heap.size + 2) 122 #[.map (some M1)] ∧ w.heap.size ≤ M1 ∧ LMap wr.heap.size wr M1 n1 f ∧ BestR b k f ∧ n1 ≤ 13 * 14 ^ k ∧ Blk wr w.heap.size 77 (catC b.lo b.hi p b.ns.length c kd) ∧ Below w.heap.size w wr ∧ Defs (w.heap.size + 3) Ds wr ∧ w.heap.size + 3 ≤ wr.heap.size
def wrM (b : Sn) : Act → World → Nat := fun a _ => b.ns.length - (intOf (a.tmps.getD 22 undef)).toNat
/-- What holds before a state of those behind the notes before. -/
def WrJ (b : Sn) (p : Option Addr) (c : Nat) (kd : Kd) (w wr : World) (k : Nat) (s : Nt) (M1 n1 : Nat) (f : Int → Int → Option (List Int)) (F : Int → Int → Option Value) (v11 v15 v16 v17 : Value) : Act → World → Prop := fun a w2 =>
  ∃ (Ds : List Nat) (left : Int → Int → Bool) (cnt : Nat) (dn : Offs) (n2 : Nat) (g : Int → Int → Option (List Int)) (u8 u9 u10 u29 u30 u31 u32 u33 u34 u35 u36 u37 u38 u39 u40 u41 u42 u43 u44 u45 u46 u47 u48 u49 u50 u51 u52 u53 u54 u55 u56 u57 u58 u59 u60 u61 u62 u63 : Value),
    a = { tmps := #[.agg (catC b.lo b.hi p b.ns.length c kd), .pointer (some ⟨w.heap.size, 0, none⟩), .slice none 0 0, .pointer (some ⟨w.heap.size + 1 + 1, 0, none⟩), undef, .int .i64 k, .pointer (some ⟨wr.heap.size + 1, 0, none⟩), .pointer (some ⟨wr.heap.size + 1 + 1, 0, none⟩), u8, u9, u10, v11, .map (some (w.heap.size + 1)), .agg (catC b.lo b.hi p b.ns.length c kd), .func (.func 86) #[.agg (catC b.lo b.hi p b.ns.length c kd)] #[], v15, v16, v17, .pointer (some ⟨w.heap.size, 0, none⟩), .pointer (some ⟨w.heap.size, 2, none⟩), .slice p b.ns.length c, .int .i64 b.ns.length, .int .i64 k, .bool true, .int .i64 k, .map (some wr.heap.size), .func (.func 98) #[] #[.pointer (some ⟨wr.heap.size + 1, 0, none⟩)], .map (some M1), .pointer (some ⟨wr.heap.size + 3, 0, none⟩), u29, u30, u31, u32, u33, u34, u35, u36, u37, u38, u39, u40, u41, u42, u43, u44, u45, u46, u47, u48, u49, u50, u51, u52, u53, u54, u55, u56, u57, u58, u59, u60, u61, u62, u63], defers := Ds.map coll } ∧
    IterAt Tryd.prog 91 w2 M1 (wr.heap.size + 3) n1 F left cnt ∧ LMap w2.heap.size w2 wr.heap.size n2 g ∧ BestIs (dn.flatMap (offL b.ns k s)) g ∧ Blk w2 (wr.heap.size + 1) 122 #[.map (some wr.heap.size)] ∧ Blk w2 (wr.heap.size + 2) 125 #[.func (.func 98) #[] #[.pointer (some ⟨wr.heap.size + 1, 0, none⟩)]] ∧ Below wr.heap.size wr w2 ∧ Defs (w.heap.size + 3) Ds w2 ∧
    (∀ st l, f st.1 st.2 = some l → left st.1 st.2 = true ∨ (st, l) ∈ dn) ∧ (∀ st l, (st, l) ∈ dn → f st.1 st.2 = some l) ∧ n2 + 14 * cnt ≤ 14 * n1
theorem f0_bestR (b : Sn) : BestR b 0 (f0 b.lo b.hi (startL b.lo b.hi)) := by
  constructor
  · intro a c h l hr
    obtain ⟨h1, -⟩ := hr
    unfold f0 at h
    rw [if_pos h1] at h; cases h
  · intro a c l h
    unfold f0 at h
    split at h
    · rename_i hm
      cases h
      exact ⟨⟨hm, rfl⟩, fun l' hr => by have := hr.2; dsimp only at this; rw [this]; exact fewerB_irrefl _⟩
    · cases h
theorem wrap_succ (k : Nat) (h : k ≤ 1000) : wrap64 ((k : Int) + 1) = ((k + 1 : Nat) : Int) := by unfold wrap64; omega
theorem pow_step {n1 n2 k : Nat} (h1 : n1 ≤ 13 * 14 ^ k) (h2 : n2 ≤ 14 * n1) : n2 ≤ 13 * 14 ^ (k + 1) := by
  refine Nat.le_trans h2 (Nat.le_trans (Nat.mul_le_mul_left 14 h1) (Nat.le_of_eq ?_))
  rw [Nat.pow_succ, Nat.mul_comm (14 ^ k) 14, Nat.mul_left_comm]
theorem WrI.next {b : Sn} {p : Option Addr} {c : Nat} {kd : Kd} {w w2 : World} {k M1 M2 n2 : Nat} {Ds : List Nat} {g : Int → Int → Option (List Int)} {u5 u6 u7 u8 u9 u10 u11 u15 u16 u17 u23 u24 u25 u26 u27 u28 u29 u30 u31 u32 u33 u34 u35 u36 u37 u38 u39 u40 u41 u42 u43 u44 u45 u46 u47 u48 u49 u50 u51 u52 u53 u54 u55 u56 u57 u58 u59 u60 u61 u62 u63 : Value} (hk : k + 1 ≤ b.ns.length) (hbx : Blk w2 (w.heap.size + 2) 122 #[.map (some M1)]) (hM : w.heap.size ≤ M2) (hA : LMap w2.heap.size w2 M2 n2 g) (hbest : BestR b (k + 1) g) (hn : n2 ≤ 13 * 14 ^ (k + 1)) (hcx : Blk w2 w.heap.size 77 (catC b.lo b.hi p b.ns.length c kd)) (hB : Below w.heap.size w w2) (hD : Defs (w.heap.size + 3) Ds w2) (hz : w.heap.size + 3 ≤ w2.heap.size) :
    WrI b p c kd w { tmps := #[.agg (catC b.lo b.hi p b.ns.length c kd), .pointer (some ⟨w.heap.size, 0, none⟩), .slice none 0 0, .pointer (some ⟨w.heap.size + 1 + 1, 0, none⟩), undef, u5, u6, u7, u8, u9, u10, u11, .map (some (w.heap.size + 1)), .agg (catC b.lo b.hi p b.ns.length c kd), .func (.func 86) #[.agg (catC b.lo b.hi p b.ns.length c kd)] #[], u15, u16, u17, .pointer (some ⟨w.heap.size, 0, none⟩), .pointer (some ⟨w.heap.size, 2, none⟩), .slice p b.ns.length c, .int .i64 b.ns.length, .int .i64 ((k + 1 : Nat) : Int), u23, u24, u25, u26, u27, u28, u29, u30, u31, u32, u33, u34, u35, u36, u37, u38, u39, u40, u41, u42, u43, u44, u45, u46, u47, u48, u49, u50, u51, u52, u53, u54, u55, u56, u57, u58, u59, u60, u61, u62, u63], defers := Ds.map coll } (w2.setCell ⟨w.heap.size + 1 + 1, 0, none⟩ (.map (some M2))) := by
  have hset : ∀ j, j ≠ w.heap.size + 2 → (w2.setCell ⟨w.heap.size + 1 + 1, 0, none⟩ (.map (some M2))).heap[j]? = w2.heap[j]? := fun j hj => Below.heap_setCell _ _ _ _ (by dsimp only; omega)
  refine ⟨k + 1, M2, n2, Ds, g, _, _, _, _, _, _, _, _, _, _, _, _, _, _, _, _, _, _, _, _, _, _, _, _, _, _, _, _, _, _, _, _, _, _, _, _, _, _, _, _, _, _, _, _, _, _, _, _, _, _, _, rfl, hk, hbx.set 0 (.map (some M2)), hM, ?_, hbest, hn, hcx.setOther (by omega) _ _, hB.setCell (by dsimp only; omega) _, ?_, ?_⟩
  · rw [World.size_setCell]
    exact hA.other hbx (by rw [World.size_setCell]; exact Nat.le_refl _) hset
  · exact ⟨hD.nd, fun D hD2 => (hset D (by have := hD.ge D hD2; omega)).trans (hD.is D hD2), hD.ge⟩
  · rw [World.size_setCell]; exact hz
end Go.Proofs.YtjjfpbjdcmkkhaaDoor

namespace Go.Proofs.YtjjfpbjdcmkkhaaDoor
open Go Go.RowKit Go.Shelf
theorem info_num : (Tryd.prog.info? 3).map (fun i => (i.zero, i.size, i.bytes)) = some (some (.int .i64 0), 1, 8) := by kernel_rfl
theorem under_nums : Tryd.prog.underlying 44 = some (.slice 3) := by kernel_rfl
abbrev encZ (l : List Int) : List Value := l.map (fun x => Value.int .i64 x)
theorem list_of_own {w : World} {B : Nat} {v : Value} {l : List Int} (h : w.ownsRow B 3 1 v l.length (encZ l)) : ListAt w.heap.size w v l := by
  obtain ⟨h1, h2⟩ := id h
  rcases h2 with ⟨h2, h3⟩ | ⟨g, cap, cur, rfl, hg, hh, hn, hm, hs, ht⟩
  · obtain rfl := List.eq_nil_of_length_eq_zero h3
    subst h2
    exact ListAt.nil (Nat.le_refl _)
  · have hlt := (Array.getElem?_eq_some_iff.1 hh).1
    refine ⟨_, cap, rfl, fun i x hx => ⟨g, 0, rfl, hlt, ?_⟩, hn, fun a ha => ?_, fun e => (by cases e), Nat.le_refl _⟩
    · have hi := (List.getElem?_eq_some_iff.1 hx).1
      rw [Nat.zero_add, h.cellAt i (by simpa using hi)]
      simp [encZ, hx]
    · cases ha; exact ⟨⟨g, 0, rfl⟩, hlt⟩
section
variable {o : Oper} {w : World} {g j t s u : Nat} (ρ : Operand → Value)
theorem run_lInts {x : Value} (hop : o.op = .load 44 (.tmp t)) (hs : ρ (.tmp t) = .pointer (some ⟨g, j, none⟩)) (c0 : w.cell? ⟨g, j, none⟩ = some x) : (execOp ρ o).run Tryd.prog w = .ok (.value x) w := by
  unfold execOp; simp [hop, hs, go_sem, c0]
theorem run_lenInts {p : Option Addr} {n c : Nat} (hop : o.op = .call { callee := .builtin .len, args := #[.tmp t], argTypes := #[44] }) (hs : ρ (.tmp t) = .slice p n c) : (execOp ρ o).run Tryd.prog w = .ok (.value (.int .i64 n)) w := by
  unfold execOp; simp [hop, hs, go_sem, resolve, invoke]
theorem run_lOffer {x : Value} (hop : o.op = .load 125 (.tmp t)) (hs : ρ (.tmp t) = .pointer (some ⟨g, j, none⟩)) (c0 : w.cell? ⟨g, j, none⟩ = some x) : (execOp ρ o).run Tryd.prog w = .ok (.value x) w := by
  unfold execOp; simp [hop, hs, go_sem, c0]
theorem run_slInts {p : Option Addr} {N c k : Nat} (hop : o.op = .slice 44 (.tmp s) none (some (.tmp t)) (some (.tmp u))) (hs : ρ (.tmp s) = .slice p N c) (ht : ρ (.tmp t) = .int .i64 k) (hu : ρ (.tmp u) = .int .i64 k) (hk : k ≤ c) (hp : ∀ a, p = some a → ∃ b o, a = ⟨b, o, none⟩) (hk0 : p = none → k = 0) :
    (execOp ρ o).run Tryd.prog w = .ok (.value (.slice p k k)) w := by
  have k0 : (0 : Int) ≤ (k : Int) := by omega
  have k1 : (k : Int) ≤ (c : Int) := by omega
  cases p with
  | none =>
    obtain rfl := hk0 rfl
    unfold execOp; simp [hop, hs, ht, hu, go_sem, k0, k1]
  | some a =>
    obtain ⟨b, o', rfl⟩ := hp _ rfl
    unfold execOp; simp [hop, hs, ht, hu, go_sem, k0, k1]
end
/-- An append to numbers behind which there is no room. -/
theorem st_grow_num {ops : Array Oper} {Q : Exit → Act → World → Prop} {i : Nat} {o : Oper} {K : Act → World → Prop} {a : Act} {w : World} (hg : o.guard = none) (hi : ops[i]? = some o) (s x : Operand)
    (ho : o.op = .call { callee := .builtin .append, args := #[s, x], argTypes := #[44, 44] })
    (p : Option Addr) (l : List Int) (c : Nat) (hs : a.eval s = .slice p l.length l.length) (hl : ListAt w.heap.size w (.slice p l.length c) l) (g : Nat) (y : Int) (hx : a.eval x = .slice (some ⟨g, 0, none⟩) 1 1) (hc : Blk w g 3 #[.int .i64 y])
    (hln : l.length ≤ 1000)
    (hK : ∀ v' w', ListAt w'.heap.size w' v' (l ++ [y]) → Below w.heap.size w w' → K (a.put o.dst v') w') : wpOp Tryd.prog ops Q i K a w := by
  have hw : Region.wanted o (yielded ops a.tmps) = true := by simp [Region.wanted, hg]
  refine wpOp_want hi hw ?_
  obtain ⟨p2, c2, e2, hi2, hc2, hp2, hn2, -⟩ := hl
  simp only [Value.slice.injEq] at e2
  obtain ⟨rfl, -, rfl⟩ := e2
  obtain ⟨i0, hi0, hz0, hz1, hz2⟩ := info_parts info_num
  have := step_append_grows (P := Tryd.prog) (ops := ops) (K := K) (Q := Q) (E := True) hg s x 44 ho 3 i0 (.int .i64 0) 1 8 under_nums hi0 hz0 hz1 hz2 rfl (by decide) p l.length l.length (encZ l) hs
    (fun e => by have := hn2 e; omega) (by simp [encZ])
    (fun q hq j u hj => by
      have hx2 : ∃ x, l[j]? = some x ∧ u = .int .i64 x := by
        rw [List.getElem?_map] at hj
        cases hlj : l[j]? with
        | none => rw [hlj] at hj; cases hj
        | some x => rw [hlj] at hj; simp at hj; exact ⟨x, rfl, hj.symm⟩
      obtain ⟨x, hlx, rfl⟩ := hx2
      obtain ⟨b, o2, e, hb, c0⟩ := hi2 j x hlx
      rw [hq] at e
      cases e
      rw [show (⟨b, o2, none⟩ : Addr).add j = ⟨b, o2 + j, none⟩ by simp [Addr.add]]; exact c0) ⟨g, 0, none⟩ 1 1 (encZ [y]) hx rfl
    (fun j u hj => by
      match j, hj with
      | 0, hj => simp at hj; subst hj; simpa [Addr.add] using hc.cell 0
      | n + 1, hj => simp at hj)
    (fun u hu => by simp at hu; subst hu; rfl) (by omega) (by unfold maxLen; omega) (by omega)
    (fun v' w' h1 h2 => hK v' w' (list_of_own (B := w.heap.size) (by unfold encZ at *; rw [List.map_append, List.length_append]; exact h1)) (Below.of_grown0 h2 (Nat.le_refl _)))
  rwa [if_pos hw] at this
/-- What the operations of the offer that leaves a note out leave. -/
def offR (B b7 b9 b10 b6 : Nat) (p : Option Addr) (c : Nat) (l : List Int) (k : Nat) (bx y : Int) (i : Nat) (v : Value) (w : World) : Prop :=
  match i with
  | 0 => v = .func (.func 98) #[] #[.pointer (some ⟨b6, 0, none⟩)]
  | 1 => v = .pointer (some ⟨b10, 4, none⟩)
  | 2 => v = .agg #[.int .i64 bx, .int .i64 y]
  | 3 => v = .slice p l.length c
  | 4 => v = .slice p l.length c
  | 5 => v = .int .i64 (l.length : Nat)
  | 6 => v = .slice p l.length c
  | 7 => v = .int .i64 (l.length : Nat)
  | 8 => v = .slice p l.length l.length
  | 9 => v = .int .i64 (k : Nat)
  | 10 => ∃ g : Nat, v = .slice (some ⟨g, 0, none⟩) 1 1 ∧ Blk w g 3 #[.int .i64 (k : Nat)]
  | 11 => ListAt w.heap.size w v (l ++ [(k : Int)])
  | _ => True
theorem offR_kept (B b7 b9 b10 b6 : Nat) (p : Option Addr) (c : Nat) (l : List Int) (k : Nat) (bx y : Int) : ∀ i, i < 12 → ∀ (v : Value) (w w' : World), offR B b7 b9 b10 b6 p c l k bx y i v w → Below w.heap.size w w' → offR B b7 b9 b10 b6 p c l k bx y i v w' := by
  intro i hi v w w' h hb
  match i, hi with
  | 0, _ => exact h
  | 1, _ => exact h
  | 2, _ => exact h
  | 3, _ => exact h
  | 4, _ => exact h
  | 5, _ => exact h
  | 6, _ => exact h
  | 7, _ => exact h
  | 8, _ => exact h
  | 9, _ => exact h
  | 10, _ => obtain ⟨g, h1, h2⟩ := h; exact ⟨g, h1, h2.bel hb⟩
  | 11, _ => exact (h.bel hb).mono hb.size (Nat.le_refl _)
  | k + 12, hk => omega
theorem n_small {n1 k : Nat} (hk : k ≤ 8) (h : n1 ≤ 13 * 14 ^ k) : 14 * n1 ≤ 300000000000 := by
  have h2 : 14 ^ k ≤ 14 ^ 8 := Nat.pow_le_pow_right (by omega) hk
  have h3 : (14 : Nat) ^ 8 = 1475789056 := by decide
  rw [h3] at h2
  omega
theorem n_small9 {n1 k : Nat} (hk : k ≤ 9) (h : n1 ≤ 13 * 14 ^ k) : n1 ≤ 1000000000000 := by
  have h2 : 14 ^ k ≤ 14 ^ 9 := Nat.pow_le_pow_right (by omega) hk
  have h3 : (14 : Nat) ^ 9 = 20661046784 := by decide
  rw [h3] at h2
  omega
end Go.Proofs.YtjjfpbjdcmkkhaaDoor

