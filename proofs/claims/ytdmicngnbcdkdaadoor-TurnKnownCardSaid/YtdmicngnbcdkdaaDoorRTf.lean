/- The map of owners: what it holds, and what a look-up yields. -/
/- What stands behind the statement that makes the cove, whichever order was drawn. -/
import Derived.Test.YtdmicngnbcdkdaaDoorRTe
import Derived.DeepKeys5
import Derived.Maps.Views
import Derived.Maps.OwnOps
import Derived.Maps.OwnIn
set_option linter.unusedSimpArgs false
set_option linter.unusedVariables false
namespace Go.Proofs.YtdmicngnbcdkdaaDoor
open Go Go.RowKit Go.Maps

theorem spell_law : Maps.Keyed Tryd.prog 103 :=
  Maps.Keyed.of_law (deep_law_gate (by kernel_rfl) (Nat.le_of_ble_eq_true (by kernel_rfl)) (Nat.le_of_ble_eq_true (by kernel_rfl)) (by kernel_rfl) (by kernel_rfl))
/-- What a turn of a station reads as, as a key. -/
def keyl (s t : Nat) : Lit := .string (keyBytes [.int .i64 s, .int .i64 t])
theorem keyl_of (s t : Nat) (hs : s < 3) (ht : t < 5) : keyOf Tryd.prog 103 (.agg #[.int .i64 s, .int .i64 t]) = some (keyl s t) := by
  have h1 : s = 0 ∨ s = 1 ∨ s = 2 := by omega
  have h2 : t = 0 ∨ t = 1 ∨ t = 2 ∨ t = 3 ∨ t = 4 := by omega
  rcases h1 with rfl | rfl | rfl <;> rcases h2 with rfl | rfl | rfl | rfl | rfl <;> (show _ = _; kernel_rfl)
theorem keyl_inj {s t s' t' : Nat} (hs : s < 3) (ht : t < 5) (hs' : s' < 3) (ht' : t' < 5) (h : keyl s t = keyl s' t') : s = s' ∧ t = t' := by
  have h1 := keyl_of s t hs ht
  have h2 := keyl_of s' t' hs' ht'
  rw [← h] at h2
  have := spell_law.inj h1 h2
  simp at this
  omega
theorem zero_int (w : World) : (zeroValue 3).run Tryd.prog w = .ok (.int .i64 0) w := by kernel_rfl
abbrev OwnD := DataW Unit
/-- Block b is the map of owners, as far as p says. -/
def OwnP (w : World) (b N : Nat) (f : Nat → Nat → Int) (p : Nat → Nat → Prop) : Prop :=
  ∃ (D : OwnD), w.ownsMap Tryd.prog 103 (plainElem Tryd.prog 3) b N D ∧ IsMap D ∧ ∀ s t : Nat, s < 3 → t < 5 → p s t → D.atKey (keyl s t) (.lit (.int .i64 0)) = .lit (.int .i64 (f s t))
theorem OwnP.below {w w' : World} {b N : Nat} {f} {p} (h : OwnP w b N f p) (hb : Below w.heap.size w w') : OwnP w' b N f p := by
  obtain ⟨D, h1, h2, h3⟩ := h
  obtain ⟨es, clock, hh, hr⟩ := h1
  have hlt := (Array.getElem?_eq_some_iff.1 hh).1
  exact ⟨D, ⟨es, clock, by rw [hb.block b hlt]; exact hh, hr⟩, h2, h3⟩
theorem OwnP.lt {w : World} {b N : Nat} {f} {p} (h : OwnP w b N f p) : b < w.heap.size := by
  obtain ⟨D, h1, _⟩ := h
  exact h1.lt
theorem OwnP.look {w : World} {b N : Nat} {f} {p} (h : OwnP w b N f p) (s t : Nat) (hs : s < 3) (ht : t < 5) (hp : p s t) :
    (Instr.lookup 81 (.map (some b)) (.agg #[.int .i64 s, .int .i64 t]) false).run Tryd.prog w = .ok (.int .i64 (f s t)) w := by
  obtain ⟨D, h1, _, h3⟩ := h
  obtain ⟨c, hrun, hat, _⟩ := h1.lookup_int spell_law Tryd.underlying81 Tryd.underlying3 (zero_int w) (keyl_of s t hs ht)
  rw [h3 s t hs ht hp] at hat
  simp at hat
  rw [hat]; exact hrun
theorem OwnP.put {w : World} {b N : Nat} {f} {p p' : Nat → Nat → Prop} {D : OwnD} {s t : Nat} (hs : s < 3) (ht : t < 5) {v : Int} (hv : v = f s t)
    (h1 : w.ownsMap Tryd.prog 103 (plainElem Tryd.prog 3) b N (D.put (keyl s t) (.lit (.int .i64 v)))) (hm : IsMap D)
    (h3 : ∀ s t : Nat, s < 3 → t < 5 → p s t → D.atKey (keyl s t) (.lit (.int .i64 0)) = .lit (.int .i64 (f s t)))
    (hp : ∀ s' t', p' s' t' → p s' t' ∨ (s' = s ∧ t' = t)) : OwnP w b N f p' := by
  refine ⟨_, h1, hm.put _ _, fun s' t' hs' ht' hq => ?_⟩
  by_cases he : keyl s' t' = keyl s t
  · obtain ⟨rfl, rfl⟩ := keyl_inj hs' ht' hs ht he
    rw [atKey_put_same hm (spell_law.key (keyl_of _ _ hs' ht')), hv]
  · rcases hp s' t' hq with h | ⟨rfl, rfl⟩
    · rw [atKey_put_other he]; exact h3 s' t' hs' ht' h
    · exact absurd rfl he

/-- What a book is calculated with: its cells, in one block. -/
def ownf (os : List (List Int)) (s t : Nat) : Int := (os.getD s []).getD t 0
structure CoveAt (w : World) (g B : Nat) (h : Hd) (b : Bk) : Prop where
  lt : g < w.heap.size
  e0 : w.cell? ⟨g, 0, none⟩ = some (.int .i64 b.n)
  e1 : w.cell? ⟨g, 1, none⟩ = some (.slice h.pb b.bs.length h.cb)
  e2 : w.cell? ⟨g, 2, none⟩ = some (.slice h.po b.os.length h.co)
  e3 : w.cell? ⟨g, 3, none⟩ = some (.slice h.ps b.ss.length h.cs)
  e4 : w.cell? ⟨g, 4, none⟩ = some (.int .i64 (kspec b.bs 2 0 0))
  e5 : w.cell? ⟨g, 5, none⟩ = some (.int .i64 (kspec b.bs 2 0 1))
  e6 : w.cell? ⟨g, 6, none⟩ = some (.int .i64 (kspec b.bs 2 0 2))
  e7 : w.cell? ⟨g, 7, none⟩ = some (.int .i64 (kspec b.bs 2 0 3))
  e8 : w.cell? ⟨g, 8, none⟩ = some (.int .i64 (kspec b.bs 2 0 4))
  e9 : w.cell? ⟨g, 9, none⟩ = some (.int .i64 (kspec b.bs 2 0 5))
  e10 : w.cell? ⟨g, 10, none⟩ = some (.int .i64 (kspec b.bs 2 0 6))
  e11 : w.cell? ⟨g, 11, none⟩ = some (.int .i64 (kspec b.bs 2 0 7))
  e12 : w.cell? ⟨g, 12, none⟩ = some (.map (some B))
theorem CoveAt.below {w w' : World} {g B : Nat} {h : Hd} {b : Bk} (k : CoveAt w g B h b) {n : Nat} (hg : g < n) (hb : Below n w w') : CoveAt w' g B h b := by
  obtain ⟨lt, e0, e1, e2, e3, e4, e5, e6, e7, e8, e9, e10, e11, e12⟩ := k
  constructor
  · exact Nat.lt_of_lt_of_le lt hb.size
  all_goals (rw [hb.cell (p := ⟨g, _, none⟩) hg]; assumption)

/-- A block of cells, known whole. -/
def Blk (w : World) (g : Nat) (t : TypeId) (cs : Array Value) : Prop := w.heap[g]? = some (.cells cs t (0, 0))
theorem Blk.new {w : World} {g : Nat} {t : TypeId} {cs : Array Value} (h : g = w.heap.size) : Blk (w.alloc (.cells cs t)) g t cs := by subst h; exact (MapKept.heap_alloc w _).1
theorem Blk.lt {w : World} {g : Nat} {t : TypeId} {cs : Array Value} (h : Blk w g t cs) : g < w.heap.size := (Array.getElem?_eq_some_iff.1 h).1
theorem Blk.alloc {w : World} {g : Nat} {t : TypeId} {cs : Array Value} (h : Blk w g t cs) (o : Obj) : Blk (w.alloc o) g t cs := (Below.heap_alloc w o g h.lt).trans h
theorem Blk.drew {w : World} {g : Nat} {t : TypeId} {cs : Array Value} (h : Blk w g t cs) : Blk w.drew g t cs := h
theorem Blk.ext {w : World} {g : Nat} {t : TypeId} {cs : Array Value} (h : Blk w g t cs) (x : Grow w) : Blk (ext w x) g t cs := (x.ok.block g h.lt).trans h
theorem Blk.set {w : World} {g : Nat} {t : TypeId} {cs : Array Value} (h : Blk w g t cs) (i : Nat) (v : Value) : Blk (w.setCell ⟨g, i, none⟩ v) g t (cs.setIfInBounds i v) := by
  unfold Blk at *
  simp only [World.setCell, Array.getElem?_modify, h]
  simp
theorem Blk.setOther {w : World} {g : Nat} {t : TypeId} {cs : Array Value} (h : Blk w g t cs) {b : Nat} (hb : g ≠ b) (i : Nat) (v : Value) : Blk (w.setCell ⟨b, i, none⟩ v) g t cs := (Below.heap_setCell w ⟨b, i, none⟩ v g hb).trans h
theorem Blk.cell {w : World} {g : Nat} {t : TypeId} {cs : Array Value} (h : Blk w g t cs) (i : Nat) : w.cell? ⟨g, i, none⟩ = cs[i]? := by
  simp [World.cell?, show w.heap[g]? = _ from h]
theorem Blk.frozen {w : World} {g : Nat} {t : TypeId} {cs : Array Value} (h : Blk w g t cs) (i : Nat) : w.frozen? ⟨g, i, none⟩ = false := by
  simp [World.frozen?, show w.heap[g]? = _ from h]
theorem CoveAt.of_blk {w : World} {g B : Nat} {t : TypeId} {h : Hd} {b : Bk} {cs : Array Value} (k : Blk w g t cs)
    (hc : cs = #[.int .i64 b.n, .slice h.pb b.bs.length h.cb, .slice h.po b.os.length h.co, .slice h.ps b.ss.length h.cs, .int .i64 (kspec b.bs 2 0 0), .int .i64 (kspec b.bs 2 0 1), .int .i64 (kspec b.bs 2 0 2), .int .i64 (kspec b.bs 2 0 3), .int .i64 (kspec b.bs 2 0 4), .int .i64 (kspec b.bs 2 0 5), .int .i64 (kspec b.bs 2 0 6), .int .i64 (kspec b.bs 2 0 7), .map (some B)]) : CoveAt w g B h b := by
  subst hc
  refine ⟨k.lt, ?_, ?_, ?_, ?_, ?_, ?_, ?_, ?_, ?_, ?_, ?_, ?_, ?_⟩ <;> (rw [k.cell]; rfl)
theorem OwnP.of_heap {w w' : World} {b N : Nat} {f} {p} (h : OwnP w b N f p) (hh : w'.heap[b]? = w.heap[b]?) : OwnP w' b N f p := by
  obtain ⟨D, ⟨es, clock, h1, hr⟩, h2, h3⟩ := h
  exact ⟨D, ⟨es, clock, hh.trans h1, hr⟩, h2, h3⟩
theorem OwnP.new {w : World} {b : Nat} {f} (h : b = w.heap.size) : OwnP (w.alloc (.map #[] 0)) b 0 f (fun _ _ => False) := by
  subst h
  exact ⟨.map [], World.ownsMap_made _ _ _ _, isMap_empty, fun _ _ _ _ h => h.elim⟩
theorem OwnP.alloc {w : World} {b N : Nat} {f} {p} (h : OwnP w b N f p) (o : Obj) : OwnP (w.alloc o) b N f p := h.of_heap (Below.heap_alloc w o b h.lt)
theorem OwnP.drew {w : World} {b N : Nat} {f} {p} (h : OwnP w b N f p) : OwnP w.drew b N f p := h
theorem OwnP.ext {w : World} {b N : Nat} {f} {p} (h : OwnP w b N f p) (x : Grow w) : OwnP (ext w x) b N f p := h.of_heap (x.ok.block b h.lt)
theorem OwnP.set {w : World} {b N : Nat} {f} {p} (h : OwnP w b N f p) {g : Nat} (hg : b ≠ g) (i : Nat) (v : Value) : OwnP (w.setCell ⟨g, i, none⟩ v) b N f p := h.of_heap (Below.heap_setCell w ⟨g, i, none⟩ v b hg)
theorem CoveAt.of_heap {w w' : World} {g B : Nat} {h : Hd} {b : Bk} (k : CoveAt w g B h b) (hs : w.heap.size ≤ w'.heap.size) (hh : w'.heap[g]? = w.heap[g]?) : CoveAt w' g B h b := by
  obtain ⟨lt, e0, e1, e2, e3, e4, e5, e6, e7, e8, e9, e10, e11, e12⟩ := k
  constructor
  · exact Nat.lt_of_lt_of_le lt hs
  all_goals (rw [World.cell?_of_block (w := w) (a := ⟨g, _, none⟩) hh]; assumption)
theorem OwnP.weaken {w : World} {b N N' : Nat} {f} {p p' : Nat → Nat → Prop} (h : OwnP w b N f p) (hN : N ≤ N') (hp : ∀ s t, p' s t → p s t) : OwnP w b N' f p' := by
  obtain ⟨D, h1, h2, h3⟩ := h
  exact ⟨D, h1.mono hN, h2, fun s t hs ht hu => h3 s t hs ht (hp s t hu)⟩
/-- Rows up to k, and t turns of the next one. -/
def upTo (os : List (List Int)) (k j : Nat) (s t : Nat) : Prop := (s < k ∧ t < (os.getD s []).length) ∨ (s = k ∧ t < j)
def inR (os : List (List Int)) (s t : Nat) : Prop := s < os.length ∧ t < (os.getD s []).length
theorem ownf_get {os : List (List Int)} {s t : Nat} {r : List Int} {c : Int} (h1 : os[s]? = some r) (h2 : r[t]? = some c) : ownf os s t = c := by
  simp [ownf, List.getD_eq_getElem?_getD, h1, h2]
end Go.Proofs.YtdmicngnbcdkdaaDoor

namespace Go.Proofs.YtdmicngnbcdkdaaDoor
open Go Go.RowKit Go.Maps

/-- What stands behind the statement that makes the cove. -/
def NewCut (w W : World) (h : Hd) (b : Bk) (s3 : Value) (wx : World) : Prop :=
  ∃ g B : Nat, s3 = .pointer (some ⟨g, 0, none⟩) ∧ CoveAt wx g B h b ∧ w.heap.size + 2 ≤ g ∧ w.heap.size + 2 ≤ B ∧ g ≠ B ∧ OwnP wx B 0 (ownf b.os) (fun _ _ => False) ∧ Below (w.heap.size + 2) W wx

theorem blk13 {X : World} {g B : Nat} {h : Hd} {b : Bk} (k : Blk X g 83 #[.int .i64 0, .slice none 0 0, .slice none 0 0, .slice none 0 0, .int .i64 0, .int .i64 0, .int .i64 0, .int .i64 0, .int .i64 0, .int .i64 0, .int .i64 0, .int .i64 0, .map none]) : CoveAt (((((((((((((X.setCell ⟨g, 0, none⟩ (.int .i64 b.n)).setCell ⟨g, 1, none⟩ (.slice h.pb b.bs.length h.cb)).setCell ⟨g, 2, none⟩ (.slice h.po b.os.length h.co)).setCell ⟨g, 3, none⟩ (.slice h.ps b.ss.length h.cs)).setCell ⟨g, 4, none⟩ (.int .i64 (kspec b.bs 2 0 0))).setCell ⟨g, 5, none⟩ (.int .i64 (kspec b.bs 2 0 1))).setCell ⟨g, 6, none⟩ (.int .i64 (kspec b.bs 2 0 2))).setCell ⟨g, 7, none⟩ (.int .i64 (kspec b.bs 2 0 3))).setCell ⟨g, 8, none⟩ (.int .i64 (kspec b.bs 2 0 4))).setCell ⟨g, 9, none⟩ (.int .i64 (kspec b.bs 2 0 5))).setCell ⟨g, 10, none⟩ (.int .i64 (kspec b.bs 2 0 6))).setCell ⟨g, 11, none⟩ (.int .i64 (kspec b.bs 2 0 7))).setCell ⟨g, 12, none⟩ (.map (some (B)))) g B h b :=
  CoveAt.of_blk (((((((((((((k.set 0 _).set 1 _).set 2 _).set 3 _).set 4 _).set 5 _).set 6 _).set 7 _).set 8 _).set 9 _).set 10 _).set 11 _).set 12 _) (by simp only [List.setIfInBounds_toArray, List.set_cons_zero, List.set_cons_succ])
theorem own13 {X : World} {g B : Nat} {h : Hd} {b : Bk} {N f p} (k : OwnP X B N f p) (hg : B ≠ g) : OwnP (((((((((((((X.setCell ⟨g, 0, none⟩ (.int .i64 b.n)).setCell ⟨g, 1, none⟩ (.slice h.pb b.bs.length h.cb)).setCell ⟨g, 2, none⟩ (.slice h.po b.os.length h.co)).setCell ⟨g, 3, none⟩ (.slice h.ps b.ss.length h.cs)).setCell ⟨g, 4, none⟩ (.int .i64 (kspec b.bs 2 0 0))).setCell ⟨g, 5, none⟩ (.int .i64 (kspec b.bs 2 0 1))).setCell ⟨g, 6, none⟩ (.int .i64 (kspec b.bs 2 0 2))).setCell ⟨g, 7, none⟩ (.int .i64 (kspec b.bs 2 0 3))).setCell ⟨g, 8, none⟩ (.int .i64 (kspec b.bs 2 0 4))).setCell ⟨g, 9, none⟩ (.int .i64 (kspec b.bs 2 0 5))).setCell ⟨g, 10, none⟩ (.int .i64 (kspec b.bs 2 0 6))).setCell ⟨g, 11, none⟩ (.int .i64 (kspec b.bs 2 0 7))).setCell ⟨g, 12, none⟩ (.map (some (B)))) B N f p := (((((((((((((k.set hg 0 _).set hg 1 _).set hg 2 _).set hg 3 _).set hg 4 _).set hg 5 _).set hg 6 _).set hg 7 _).set hg 8 _).set hg 9 _).set hg 10 _).set hg 11 _).set hg 12 _)
theorem bel13 {n : Nat} {W X : World} {g B : Nat} {h : Hd} {b : Bk} (k : Below n W X) (hg : n ≤ g) : Below n W (((((((((((((X.setCell ⟨g, 0, none⟩ (.int .i64 b.n)).setCell ⟨g, 1, none⟩ (.slice h.pb b.bs.length h.cb)).setCell ⟨g, 2, none⟩ (.slice h.po b.os.length h.co)).setCell ⟨g, 3, none⟩ (.slice h.ps b.ss.length h.cs)).setCell ⟨g, 4, none⟩ (.int .i64 (kspec b.bs 2 0 0))).setCell ⟨g, 5, none⟩ (.int .i64 (kspec b.bs 2 0 1))).setCell ⟨g, 6, none⟩ (.int .i64 (kspec b.bs 2 0 2))).setCell ⟨g, 7, none⟩ (.int .i64 (kspec b.bs 2 0 3))).setCell ⟨g, 8, none⟩ (.int .i64 (kspec b.bs 2 0 4))).setCell ⟨g, 9, none⟩ (.int .i64 (kspec b.bs 2 0 5))).setCell ⟨g, 10, none⟩ (.int .i64 (kspec b.bs 2 0 6))).setCell ⟨g, 11, none⟩ (.int .i64 (kspec b.bs 2 0 7))).setCell ⟨g, 12, none⟩ (.map (some (B)))) := (((((((((((((k.setCell (p := ⟨g, 0, none⟩) hg _).setCell (p := ⟨g, 1, none⟩) hg _).setCell (p := ⟨g, 2, none⟩) hg _).setCell (p := ⟨g, 3, none⟩) hg _).setCell (p := ⟨g, 4, none⟩) hg _).setCell (p := ⟨g, 5, none⟩) hg _).setCell (p := ⟨g, 6, none⟩) hg _).setCell (p := ⟨g, 7, none⟩) hg _).setCell (p := ⟨g, 8, none⟩) hg _).setCell (p := ⟨g, 9, none⟩) hg _).setCell (p := ⟨g, 10, none⟩) hg _).setCell (p := ⟨g, 11, none⟩) hg _).setCell (p := ⟨g, 12, none⟩) hg _)
theorem newCut1 {w W : World} {h : Hd} {b : Bk} (hs : W.heap.size = w.heap.size + 2) (x : Grow W.drew) : NewCut w W h b (.pointer (some ⟨(ext W.drew x).heap.size + 1, 0, none⟩)) (((ext W.drew x).alloc (.map #[] 0)).alloc (.cells #[.int .i64 b.n, .slice h.pb b.bs.length h.cb, .slice h.po b.os.length h.co, .slice h.ps b.ss.length h.cs, .int .i64 (kspec b.bs 2 0 0), .int .i64 (kspec b.bs 2 0 1), .int .i64 (kspec b.bs 2 0 2), .int .i64 (kspec b.bs 2 0 3), .int .i64 (kspec b.bs 2 0 4), .int .i64 (kspec b.bs 2 0 5), .int .i64 (kspec b.bs 2 0 6), .int .i64 (kspec b.bs 2 0 7), .map (some ((ext W.drew x).heap.size))] 83)) := by
  have z1 := (below_ext _ x).size
  simp only [World.size_drew, World.size_alloc] at z1
  refine ⟨(ext W.drew x).heap.size + 1, (ext W.drew x).heap.size, rfl, CoveAt.of_blk (Blk.new (by simp)) rfl, by omega, by omega, by omega, (OwnP.new rfl).alloc _, ?_⟩
  (repeat (first | (with_reducible exact Below.refl _ _) | (with_reducible assumption) | ((with_reducible refine below_ext_trans ?_ ?_ _); rotate_left; focus (((try dsimp only); repeat (first | omega | simp only [World.size_alloc, World.size_setCell, World.size_drew] | (with_reducible refine le_ext_of ?_) | (with_reducible refine le_ext_add ?_))); done)) | ((with_reducible refine Below.alloc ?_ ?_ _); rotate_left; focus (((try dsimp only); repeat (first | omega | simp only [World.size_alloc, World.size_setCell, World.size_drew] | (with_reducible refine le_ext_of ?_) | (with_reducible refine le_ext_add ?_))); done)) | ((with_reducible refine Below.setCell ?_ ?_ _); rotate_left; focus (((try dsimp only); repeat (first | omega | simp only [World.size_alloc, World.size_setCell, World.size_drew] | (with_reducible refine le_ext_of ?_) | (with_reducible refine le_ext_add ?_))); done)) | (with_reducible refine Below.drew ?_)))
theorem newCut2 {w W : World} {h : Hd} {b : Bk} (hs : W.heap.size = w.heap.size + 2) (x : Grow W.drew) : NewCut w W h b (.pointer (some ⟨(ext W.drew x).heap.size, 0, none⟩)) (((ext W.drew x).alloc (.cells #[.int .i64 b.n, .slice h.pb b.bs.length h.cb, .slice h.po b.os.length h.co, .slice h.ps b.ss.length h.cs, .int .i64 (kspec b.bs 2 0 0), .int .i64 (kspec b.bs 2 0 1), .int .i64 (kspec b.bs 2 0 2), .int .i64 (kspec b.bs 2 0 3), .int .i64 (kspec b.bs 2 0 4), .int .i64 (kspec b.bs 2 0 5), .int .i64 (kspec b.bs 2 0 6), .int .i64 (kspec b.bs 2 0 7), .map (some ((ext W.drew x).heap.size + 1))] 83)).alloc (.map #[] 0)) := by
  have z1 := (below_ext _ x).size
  simp only [World.size_drew, World.size_alloc] at z1
  refine ⟨(ext W.drew x).heap.size, (ext W.drew x).heap.size + 1, rfl, CoveAt.of_blk ((Blk.new rfl).alloc _) rfl, by omega, by omega, by omega, OwnP.new (by simp), ?_⟩
  (repeat (first | (with_reducible exact Below.refl _ _) | (with_reducible assumption) | ((with_reducible refine below_ext_trans ?_ ?_ _); rotate_left; focus (((try dsimp only); repeat (first | omega | simp only [World.size_alloc, World.size_setCell, World.size_drew] | (with_reducible refine le_ext_of ?_) | (with_reducible refine le_ext_add ?_))); done)) | ((with_reducible refine Below.alloc ?_ ?_ _); rotate_left; focus (((try dsimp only); repeat (first | omega | simp only [World.size_alloc, World.size_setCell, World.size_drew] | (with_reducible refine le_ext_of ?_) | (with_reducible refine le_ext_add ?_))); done)) | ((with_reducible refine Below.setCell ?_ ?_ _); rotate_left; focus (((try dsimp only); repeat (first | omega | simp only [World.size_alloc, World.size_setCell, World.size_drew] | (with_reducible refine le_ext_of ?_) | (with_reducible refine le_ext_add ?_))); done)) | (with_reducible refine Below.drew ?_)))
theorem newCut3 {w W : World} {h : Hd} {b : Bk} (hs : W.heap.size = w.heap.size + 2) (x : Grow (W.alloc (.map #[] 0)).drew) : NewCut w W h b (.pointer (some ⟨(ext (W.alloc (.map #[] 0)).drew x).heap.size, 0, none⟩)) ((ext (W.alloc (.map #[] 0)).drew x).alloc (.cells #[.int .i64 b.n, .slice h.pb b.bs.length h.cb, .slice h.po b.os.length h.co, .slice h.ps b.ss.length h.cs, .int .i64 (kspec b.bs 2 0 0), .int .i64 (kspec b.bs 2 0 1), .int .i64 (kspec b.bs 2 0 2), .int .i64 (kspec b.bs 2 0 3), .int .i64 (kspec b.bs 2 0 4), .int .i64 (kspec b.bs 2 0 5), .int .i64 (kspec b.bs 2 0 6), .int .i64 (kspec b.bs 2 0 7), .map (some (W.heap.size))] 83)) := by
  have z1 := (below_ext _ x).size
  simp only [World.size_drew, World.size_alloc] at z1
  refine ⟨(ext (W.alloc (.map #[] 0)).drew x).heap.size, W.heap.size, rfl, CoveAt.of_blk (Blk.new rfl) rfl, by omega, by omega, by omega, (((OwnP.new rfl).drew).ext x).alloc _, ?_⟩
  (repeat (first | (with_reducible exact Below.refl _ _) | (with_reducible assumption) | ((with_reducible refine below_ext_trans ?_ ?_ _); rotate_left; focus (((try dsimp only); repeat (first | omega | simp only [World.size_alloc, World.size_setCell, World.size_drew] | (with_reducible refine le_ext_of ?_) | (with_reducible refine le_ext_add ?_))); done)) | ((with_reducible refine Below.alloc ?_ ?_ _); rotate_left; focus (((try dsimp only); repeat (first | omega | simp only [World.size_alloc, World.size_setCell, World.size_drew] | (with_reducible refine le_ext_of ?_) | (with_reducible refine le_ext_add ?_))); done)) | ((with_reducible refine Below.setCell ?_ ?_ _); rotate_left; focus (((try dsimp only); repeat (first | omega | simp only [World.size_alloc, World.size_setCell, World.size_drew] | (with_reducible refine le_ext_of ?_) | (with_reducible refine le_ext_add ?_))); done)) | (with_reducible refine Below.drew ?_)))
theorem newCut4 {w W : World} {h : Hd} {b : Bk} (hs : W.heap.size = w.heap.size + 2) (x : Grow ((W.alloc (.map #[] 0)).alloc (.cells #[.int .i64 0, .slice none 0 0, .slice none 0 0, .slice none 0 0, .int .i64 0, .int .i64 0, .int .i64 0, .int .i64 0, .int .i64 0, .int .i64 0, .int .i64 0, .int .i64 0, .map none] 83)).drew) : NewCut w W h b (.pointer (some ⟨W.heap.size + 1, 0, none⟩)) (((((((((((((((ext ((W.alloc (.map #[] 0)).alloc (.cells #[.int .i64 0, .slice none 0 0, .slice none 0 0, .slice none 0 0, .int .i64 0, .int .i64 0, .int .i64 0, .int .i64 0, .int .i64 0, .int .i64 0, .int .i64 0, .int .i64 0, .map none] 83)).drew x).setCell ⟨W.heap.size + 1, 0, none⟩ (.int .i64 b.n)).setCell ⟨W.heap.size + 1, 1, none⟩ (.slice h.pb b.bs.length h.cb)).setCell ⟨W.heap.size + 1, 2, none⟩ (.slice h.po b.os.length h.co)).setCell ⟨W.heap.size + 1, 3, none⟩ (.slice h.ps b.ss.length h.cs)).setCell ⟨W.heap.size + 1, 4, none⟩ (.int .i64 (kspec b.bs 2 0 0))).setCell ⟨W.heap.size + 1, 5, none⟩ (.int .i64 (kspec b.bs 2 0 1))).setCell ⟨W.heap.size + 1, 6, none⟩ (.int .i64 (kspec b.bs 2 0 2))).setCell ⟨W.heap.size + 1, 7, none⟩ (.int .i64 (kspec b.bs 2 0 3))).setCell ⟨W.heap.size + 1, 8, none⟩ (.int .i64 (kspec b.bs 2 0 4))).setCell ⟨W.heap.size + 1, 9, none⟩ (.int .i64 (kspec b.bs 2 0 5))).setCell ⟨W.heap.size + 1, 10, none⟩ (.int .i64 (kspec b.bs 2 0 6))).setCell ⟨W.heap.size + 1, 11, none⟩ (.int .i64 (kspec b.bs 2 0 7))).setCell ⟨W.heap.size + 1, 12, none⟩ (.map (some (W.heap.size))))) := by
  have z1 := (below_ext _ x).size
  simp only [World.size_drew, World.size_alloc] at z1
  refine ⟨W.heap.size + 1, W.heap.size, rfl, blk13 (((Blk.new (by simp)).drew).ext x), by omega, by omega, by omega, own13 ((((OwnP.new rfl).alloc _).drew).ext x) (by omega), bel13 ?_ (by omega)⟩
  (repeat (first | (with_reducible exact Below.refl _ _) | (with_reducible assumption) | ((with_reducible refine below_ext_trans ?_ ?_ _); rotate_left; focus (((try dsimp only); repeat (first | omega | simp only [World.size_alloc, World.size_setCell, World.size_drew] | (with_reducible refine le_ext_of ?_) | (with_reducible refine le_ext_add ?_))); done)) | ((with_reducible refine Below.alloc ?_ ?_ _); rotate_left; focus (((try dsimp only); repeat (first | omega | simp only [World.size_alloc, World.size_setCell, World.size_drew] | (with_reducible refine le_ext_of ?_) | (with_reducible refine le_ext_add ?_))); done)) | ((with_reducible refine Below.setCell ?_ ?_ _); rotate_left; focus (((try dsimp only); repeat (first | omega | simp only [World.size_alloc, World.size_setCell, World.size_drew] | (with_reducible refine le_ext_of ?_) | (with_reducible refine le_ext_add ?_))); done)) | (with_reducible refine Below.drew ?_)))
theorem newCut5 {w W : World} {h : Hd} {b : Bk} (hs : W.heap.size = w.heap.size + 2) (x : Grow (W.alloc (.cells #[.int .i64 0, .slice none 0 0, .slice none 0 0, .slice none 0 0, .int .i64 0, .int .i64 0, .int .i64 0, .int .i64 0, .int .i64 0, .int .i64 0, .int .i64 0, .int .i64 0, .map none] 83)).drew) : NewCut w W h b (.pointer (some ⟨W.heap.size, 0, none⟩)) ((((((((((((((((ext (W.alloc (.cells #[.int .i64 0, .slice none 0 0, .slice none 0 0, .slice none 0 0, .int .i64 0, .int .i64 0, .int .i64 0, .int .i64 0, .int .i64 0, .int .i64 0, .int .i64 0, .int .i64 0, .map none] 83)).drew x).setCell ⟨W.heap.size, 0, none⟩ (.int .i64 b.n)).setCell ⟨W.heap.size, 1, none⟩ (.slice h.pb b.bs.length h.cb)).setCell ⟨W.heap.size, 2, none⟩ (.slice h.po b.os.length h.co)).setCell ⟨W.heap.size, 3, none⟩ (.slice h.ps b.ss.length h.cs)).setCell ⟨W.heap.size, 4, none⟩ (.int .i64 (kspec b.bs 2 0 0))).setCell ⟨W.heap.size, 5, none⟩ (.int .i64 (kspec b.bs 2 0 1))).setCell ⟨W.heap.size, 6, none⟩ (.int .i64 (kspec b.bs 2 0 2))).setCell ⟨W.heap.size, 7, none⟩ (.int .i64 (kspec b.bs 2 0 3))).setCell ⟨W.heap.size, 8, none⟩ (.int .i64 (kspec b.bs 2 0 4))).setCell ⟨W.heap.size, 9, none⟩ (.int .i64 (kspec b.bs 2 0 5))).setCell ⟨W.heap.size, 10, none⟩ (.int .i64 (kspec b.bs 2 0 6))).setCell ⟨W.heap.size, 11, none⟩ (.int .i64 (kspec b.bs 2 0 7))).setCell ⟨W.heap.size, 12, none⟩ (.map (some ((ext (W.alloc (.cells #[.int .i64 0, .slice none 0 0, .slice none 0 0, .slice none 0 0, .int .i64 0, .int .i64 0, .int .i64 0, .int .i64 0, .int .i64 0, .int .i64 0, .int .i64 0, .int .i64 0, .map none] 83)).drew x).heap.size))))).alloc (.map #[] 0)) := by
  have z1 := (below_ext _ x).size
  simp only [World.size_drew, World.size_alloc] at z1
  have cv := (blk13 (B := (ext (W.alloc (.cells #[.int .i64 0, .slice none 0 0, .slice none 0 0, .slice none 0 0, .int .i64 0, .int .i64 0, .int .i64 0, .int .i64 0, .int .i64 0, .int .i64 0, .int .i64 0, .int .i64 0, .map none] 83)).drew x).heap.size) (h := h) (b := b) (((Blk.new (w := W) rfl).drew).ext x)).below (w' := (((((((((((((((ext (W.alloc (.cells #[.int .i64 0, .slice none 0 0, .slice none 0 0, .slice none 0 0, .int .i64 0, .int .i64 0, .int .i64 0, .int .i64 0, .int .i64 0, .int .i64 0, .int .i64 0, .int .i64 0, .map none] 83)).drew x).setCell ⟨W.heap.size, 0, none⟩ (.int .i64 b.n)).setCell ⟨W.heap.size, 1, none⟩ (.slice h.pb b.bs.length h.cb)).setCell ⟨W.heap.size, 2, none⟩ (.slice h.po b.os.length h.co)).setCell ⟨W.heap.size, 3, none⟩ (.slice h.ps b.ss.length h.cs)).setCell ⟨W.heap.size, 4, none⟩ (.int .i64 (kspec b.bs 2 0 0))).setCell ⟨W.heap.size, 5, none⟩ (.int .i64 (kspec b.bs 2 0 1))).setCell ⟨W.heap.size, 6, none⟩ (.int .i64 (kspec b.bs 2 0 2))).setCell ⟨W.heap.size, 7, none⟩ (.int .i64 (kspec b.bs 2 0 3))).setCell ⟨W.heap.size, 8, none⟩ (.int .i64 (kspec b.bs 2 0 4))).setCell ⟨W.heap.size, 9, none⟩ (.int .i64 (kspec b.bs 2 0 5))).setCell ⟨W.heap.size, 10, none⟩ (.int .i64 (kspec b.bs 2 0 6))).setCell ⟨W.heap.size, 11, none⟩ (.int .i64 (kspec b.bs 2 0 7))).setCell ⟨W.heap.size, 12, none⟩ (.map (some ((ext (W.alloc (.cells #[.int .i64 0, .slice none 0 0, .slice none 0 0, .slice none 0 0, .int .i64 0, .int .i64 0, .int .i64 0, .int .i64 0, .int .i64 0, .int .i64 0, .int .i64 0, .int .i64 0, .map none] 83)).drew x).heap.size))))).alloc (.map #[] 0)) (n := W.heap.size + 1) (by omega) (by refine Below.alloc (Below.refl _ _) ?_ _; simp only [World.size_setCell]; omega)
  refine ⟨W.heap.size, _, rfl, cv, by omega, ?_, ?_, OwnP.new (by simp only [World.size_setCell]), ?_⟩
  · omega
  · omega
  · refine (bel13 ?_ (by omega)).alloc (by simp only [World.size_setCell]; omega) _
    (repeat (first | (with_reducible exact Below.refl _ _) | (with_reducible assumption) | ((with_reducible refine below_ext_trans ?_ ?_ _); rotate_left; focus (((try dsimp only); repeat (first | omega | simp only [World.size_alloc, World.size_setCell, World.size_drew] | (with_reducible refine le_ext_of ?_) | (with_reducible refine le_ext_add ?_))); done)) | ((with_reducible refine Below.alloc ?_ ?_ _); rotate_left; focus (((try dsimp only); repeat (first | omega | simp only [World.size_alloc, World.size_setCell, World.size_drew] | (with_reducible refine le_ext_of ?_) | (with_reducible refine le_ext_add ?_))); done)) | ((with_reducible refine Below.setCell ?_ ?_ _); rotate_left; focus (((try dsimp only); repeat (first | omega | simp only [World.size_alloc, World.size_setCell, World.size_drew] | (with_reducible refine le_ext_of ?_) | (with_reducible refine le_ext_add ?_))); done)) | (with_reducible refine Below.drew ?_)))
theorem newCut6 {w W : World} {h : Hd} {b : Bk} (hs : W.heap.size = w.heap.size + 2) (x : Grow ((W.alloc (.cells #[.int .i64 0, .slice none 0 0, .slice none 0 0, .slice none 0 0, .int .i64 0, .int .i64 0, .int .i64 0, .int .i64 0, .int .i64 0, .int .i64 0, .int .i64 0, .int .i64 0, .map none] 83)).alloc (.map #[] 0)).drew) : NewCut w W h b (.pointer (some ⟨W.heap.size, 0, none⟩)) (((((((((((((((ext ((W.alloc (.cells #[.int .i64 0, .slice none 0 0, .slice none 0 0, .slice none 0 0, .int .i64 0, .int .i64 0, .int .i64 0, .int .i64 0, .int .i64 0, .int .i64 0, .int .i64 0, .int .i64 0, .map none] 83)).alloc (.map #[] 0)).drew x).setCell ⟨W.heap.size, 0, none⟩ (.int .i64 b.n)).setCell ⟨W.heap.size, 1, none⟩ (.slice h.pb b.bs.length h.cb)).setCell ⟨W.heap.size, 2, none⟩ (.slice h.po b.os.length h.co)).setCell ⟨W.heap.size, 3, none⟩ (.slice h.ps b.ss.length h.cs)).setCell ⟨W.heap.size, 4, none⟩ (.int .i64 (kspec b.bs 2 0 0))).setCell ⟨W.heap.size, 5, none⟩ (.int .i64 (kspec b.bs 2 0 1))).setCell ⟨W.heap.size, 6, none⟩ (.int .i64 (kspec b.bs 2 0 2))).setCell ⟨W.heap.size, 7, none⟩ (.int .i64 (kspec b.bs 2 0 3))).setCell ⟨W.heap.size, 8, none⟩ (.int .i64 (kspec b.bs 2 0 4))).setCell ⟨W.heap.size, 9, none⟩ (.int .i64 (kspec b.bs 2 0 5))).setCell ⟨W.heap.size, 10, none⟩ (.int .i64 (kspec b.bs 2 0 6))).setCell ⟨W.heap.size, 11, none⟩ (.int .i64 (kspec b.bs 2 0 7))).setCell ⟨W.heap.size, 12, none⟩ (.map (some (W.heap.size + 1))))) := by
  have z1 := (below_ext _ x).size
  simp only [World.size_drew, World.size_alloc] at z1
  refine ⟨W.heap.size, W.heap.size + 1, rfl, blk13 ((((Blk.new rfl).alloc _).drew).ext x), by omega, by omega, by omega, own13 (((OwnP.new (by simp)).drew).ext x) (by omega), bel13 ?_ (by omega)⟩
  (repeat (first | (with_reducible exact Below.refl _ _) | (with_reducible assumption) | ((with_reducible refine below_ext_trans ?_ ?_ _); rotate_left; focus (((try dsimp only); repeat (first | omega | simp only [World.size_alloc, World.size_setCell, World.size_drew] | (with_reducible refine le_ext_of ?_) | (with_reducible refine le_ext_add ?_))); done)) | ((with_reducible refine Below.alloc ?_ ?_ _); rotate_left; focus (((try dsimp only); repeat (first | omega | simp only [World.size_alloc, World.size_setCell, World.size_drew] | (with_reducible refine le_ext_of ?_) | (with_reducible refine le_ext_add ?_))); done)) | ((with_reducible refine Below.setCell ?_ ?_ _); rotate_left; focus (((try dsimp only); repeat (first | omega | simp only [World.size_alloc, World.size_setCell, World.size_drew] | (with_reducible refine le_ext_of ?_) | (with_reducible refine le_ext_add ?_))); done)) | (with_reducible refine Below.drew ?_)))
end Go.Proofs.YtdmicngnbcdkdaaDoor

