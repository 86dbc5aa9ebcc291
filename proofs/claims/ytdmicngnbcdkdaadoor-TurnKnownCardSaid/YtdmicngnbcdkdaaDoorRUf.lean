/- Contract of learned: the cove in which the minute of a bound is known. -/
import Derived.Test.YtdmicngnbcdkdaaDoorRUa
import Derived.Deep.DeepCutAuto
import Derived.Deep.RegionLawGrows
set_option linter.unusedSimpArgs false
set_option linter.unusedVariables false
namespace Go.Proofs.YtdmicngnbcdkdaaDoor
open Go Go.RowKit Go.Maps

/-- A book in which the minute of a bound is known. -/
def setB (b : Bk) (k : Nat) (m : Int) : Bk := { b with bs := b.bs.take k ++ [(m, m)] ++ b.bs.drop (k + 1) }
theorem setB_len (b : Bk) (k : Nat) (m : Int) (hk : k < b.bs.length) : (setB b k m).bs.length = b.bs.length := by simp [setB]; omega
theorem chainB_set : ∀ (l : List (Int × Int)) (p : Int) (k : Nat) (s : Int × Int) (m : Int), chainB p l = true → l[k]? = some s → s.1 ≤ m → m ≤ s.2 → chainB p (l.take k ++ [(m, m)] ++ l.drop (k + 1)) = true
  | [], _, k, s, m, _, h, _, _ => by simp at h
  | a :: l, p, 0, s, m, hc, h, h1, h2 => by
    simp at h; subst h
    simp only [List.take_zero, List.nil_append, List.drop_succ_cons, List.drop_zero, List.cons_append]
    simp only [chainB, Bool.and_eq_true, decide_eq_true_eq] at hc ⊢
    have hm := momB_iff.1 hc.1.1
    unfold Mom at hm
    refine ⟨⟨momB_iff.2 (by unfold Mom; omega), by omega⟩, ?_⟩
    cases l with
    | nil => rfl
    | cons c l =>
      have h3 := hc.2
      simp only [chainB, Bool.and_eq_true, decide_eq_true_eq] at h3 ⊢
      exact ⟨⟨h3.1.1, by omega⟩, h3.2⟩
  | a :: l, p, k + 1, s, m, hc, h, h1, h2 => by
    simp only [List.take_succ_cons, List.drop_succ_cons, List.cons_append]
    simp only [chainB, Bool.and_eq_true] at hc ⊢
    refine ⟨hc.1, ?_⟩
    have := chainB_set l a.2 k s m hc.2 (by simpa using h) h1 h2
    simpa using this
theorem setB_ok {b : Bk} {k : Nat} {s : Int × Int} {m : Int} (hv : bookB b = true) (hs : b.bs[k]? = some s) (h1 : s.1 ≤ m) (h2 : m ≤ s.2) : bookB (setB b k m) = true := by
  have hlen := setB_len b k m (List.getElem?_eq_some_iff.1 hs).1
  have h3 := chainB_set b.bs (-1) k s m (bookB_bounds hv).2.2 hs h1 h2
  have h4 := (bookB_bounds hv).1
  unfold bookB at hv ⊢
  rw [hlen]
  simp only [Bool.and_eq_true] at hv ⊢
  refine ⟨⟨⟨hv.1.1.1, ?_⟩, hv.1.2⟩, hv.2⟩
  unfold boundsB
  rw [hlen]
  simp only [Bool.and_eq_true, decide_eq_true_eq]
  exact ⟨h4, h3⟩

theorem addr_add (b o j : Nat) : (⟨b, o, none⟩ : Addr).add j = ⟨b, o + j, none⟩ := by
  unfold Addr.add
  split
  · rename_i h; subst h; rfl
  · rfl
theorem OwnSpans.mono {w : World} {B B' : Nat} {v : Value} {l : List (Int × Int)} (h : OwnSpans w B v l) (hB : B' ≤ B) : OwnSpans w B' v l := by
  obtain ⟨h1, h2⟩ := h
  refine ⟨h1, ?_⟩
  rcases h2 with h2 | ⟨g, cap, cur, rfl, hg, r⟩
  · exact .inl h2
  · exact .inr ⟨g, cap, cur, rfl, by omega, r⟩
theorem SpansAt.cells {w : World} {b o : Nat} {l : List (Int × Int)} (h : SpansAt w (some ⟨b, o, none⟩) l) {i : Nat} {s : Int × Int} (hi : l[i]? = some s) :
    b < w.heap.size ∧ w.cell? ⟨b, o + i * 2, none⟩ = some (.int .i64 s.1) ∧ w.cell? ⟨b, o + i * 2 + 1, none⟩ = some (.int .i64 s.2) := by
  obtain ⟨b', o', e, h1, h2, h3⟩ := h i s hi
  cases e
  exact ⟨h1, h2, h3⟩
theorem SpansAt.enc {w : World} {b o : Nat} {l : List (Int × Int)} (h : SpansAt w (some ⟨b, o, none⟩) l) (j : Nat) (u : Value) (hj : (encSpans l)[j]? = some u) : w.cell? ⟨b, o + j, none⟩ = some u := by
  have hl := (List.getElem?_eq_some_iff.1 hj).1
  rw [encSpans_len] at hl
  obtain ⟨s, hs⟩ := get_some l (j / 2) (by omega)
  obtain ⟨_, h1, h2⟩ := h.cells hs
  obtain ⟨e1, e2⟩ := encSpans_get l (j / 2) s hs
  rcases Nat.mod_two_eq_zero_or_one j with hm | hm
  · have ej : j / 2 * 2 = j := by omega
    rw [ej] at e1 h1
    rw [hj] at e1
    rw [h1, ← e1]
  · have ej : j / 2 * 2 + 1 = j := by omega
    rw [ej] at e2
    rw [Nat.add_assoc, ej] at h2
    rw [hj] at e2
    rw [h2, ← e2]
theorem SpansAt.take {w : World} {p : Option Addr} {l : List (Int × Int)} (h : SpansAt w p l) (k : Nat) : SpansAt w p (l.take k) := fun i s hi => by
  refine h i s ?_
  rw [List.getElem?_take] at hi
  split at hi
  · exact hi
  · cases hi
theorem SpansAt.drop {w : World} {b o : Nat} {l : List (Int × Int)} (h : SpansAt w (some ⟨b, o, none⟩) l) (k : Nat) : SpansAt w (some ⟨b, o + k * 2, none⟩) (l.drop k) := fun i s hi => by
  rw [List.getElem?_drop] at hi
  obtain ⟨h1, h2, h3⟩ := h.cells hi
  refine ⟨b, o + k * 2, rfl, h1, ?_, ?_⟩
  · rw [show o + k * 2 + i * 2 = o + (k + i) * 2 by omega]; exact h2
  · rw [show o + k * 2 + i * 2 + 1 = o + (k + i) * 2 + 1 by omega]; exact h3

/-- An append of one span behind a list that has no room: it lies in new memory. -/
theorem step_grow_span {ops : Array Oper} {o : Oper} {a : Act} {w : World} {K : Act → World → Prop} {Q : Exit → Act → World → Prop} {E : Prop} (hg : o.guard = none) (s x : Operand)
    (hop : o.op = Op.call { callee := Callee.builtin Builtin.append, args := #[s, x], argTypes := #[22, 22] })
    (ad : Addr) (n : Nat) (l : List (Int × Int)) (hs : a.eval s = .slice (some ad) n n) (hl : l.length = n) (hb : n ≤ 1000) (had : ∀ j u, (encSpans l)[j]? = some u → w.cell? (ad.add j) = some u)
    (g : Nat) (y z : Int) (hx : a.eval x = .slice (some ⟨g, 0, none⟩) 1 1) (hc : w.cell? ⟨g, 0, none⟩ = some (.int .i64 y)) (hc2 : w.cell? ⟨g, 1, none⟩ = some (.int .i64 z))
    (hK : ∀ v' w', OwnSpans w' w.heap.size v' (l ++ [(y, z)]) → Below w.heap.size w w' → K (a.put o.dst v') w') :
    if Region.wanted o (yielded ops a.tmps) = true then Oper.wp Tryd.prog o a w K Q else E := by
  obtain ⟨i0, hi, hz0, hz1, hz2⟩ := info_parts info_span
  refine step_append_grows hg s x 22 hop 33 i0 (.agg #[.int .i64 0, .int .i64 0]) 2 16 under_spans hi hz0 hz1 hz2 rfl (by decide) (some ad) n n (encSpans l) hs (fun h => by cases h) (by rw [encSpans_len, hl])
    (fun b hb j u hj => by cases hb; exact had j u hj) ⟨g, 0, none⟩ 1 1 [.int .i64 y, .int .i64 z] hx rfl ?_ ?_ (by omega) (by unfold maxLen; omega) (by omega) ?_
  · intro j u hj
    match j, hj with
    | 0, hj => simp at hj; subst hj; simpa [Addr.add] using hc
    | 1, hj => simp at hj; subst hj; simpa [Addr.add] using hc2
  · intro u hu; simp at hu; rcases hu with rfl | rfl <;> rfl
  · intro v' w' h1 h2
    refine hK v' w' ?_ ⟨h2.os, h2.tape, h2.output, h2.size, fun k hk => h2.block k hk (by simp)⟩
    unfold OwnSpans
    rw [encSpans_snoc]
    simpa [hl] using h1

theorem slice_from (bb o n cb k : Nat) (hk : k + 1 ≤ n) (hn : n ≤ cb) :
    ∃ (ad : Addr) (cx : Nat), (∀ w, (Instr.sliceAt 22 (.slice (some ⟨bb, o, none⟩) n cb) (some (.int .i64 ((k : Int) + 1))) none none).run Tryd.prog w = .ok (.slice (some ad) (n - (k + 1)) cx) w) ∧ (k + 1 ≠ cb → ad = ⟨bb, o + (k + 1) * 2, none⟩) := by
  refine ⟨if cb = k + 1 then ⟨bb, o, none⟩ else ⟨bb, o + (k + 1) * 2, none⟩, cb - (k + 1), fun w => ?_, fun h => if_neg (fun e => h e.symm)⟩
  have h1 : (0 : Int) ≤ (k : Int) + 1 := by omega
  have h2 : (k : Int) + 1 ≤ (n : Int) := by omega
  have h3 : ((k : Int) + 1).toNat = k + 1 := by omega
  simp [go_sem, h1, h2, h3]
  split <;> rfl

theorem heap13 {X : World} {g B : Nat} {h : Hd} {b : Bk} {j : Nat} (hj : j ≠ g) : (((((((((((((X.setCell ⟨g, 0, none⟩ (.int .i64 b.n)).setCell ⟨g, 1, none⟩ (.slice h.pb b.bs.length h.cb)).setCell ⟨g, 2, none⟩ (.slice h.po b.os.length h.co)).setCell ⟨g, 3, none⟩ (.slice h.ps b.ss.length h.cs)).setCell ⟨g, 4, none⟩ (.int .i64 (kspec b.bs 2 0 0))).setCell ⟨g, 5, none⟩ (.int .i64 (kspec b.bs 2 0 1))).setCell ⟨g, 6, none⟩ (.int .i64 (kspec b.bs 2 0 2))).setCell ⟨g, 7, none⟩ (.int .i64 (kspec b.bs 2 0 3))).setCell ⟨g, 8, none⟩ (.int .i64 (kspec b.bs 2 0 4))).setCell ⟨g, 9, none⟩ (.int .i64 (kspec b.bs 2 0 5))).setCell ⟨g, 10, none⟩ (.int .i64 (kspec b.bs 2 0 6))).setCell ⟨g, 11, none⟩ (.int .i64 (kspec b.bs 2 0 7))).setCell ⟨g, 12, none⟩ (.map (some B))).heap[j]? = X.heap[j]? := by
  repeat rw [Below.heap_setCell _ _ _ _ (by exact hj)]
/-- The cove in which the minute of a bound is known is handed back. -/
def LearnedPost (w : World) (h : Hd) (b : Bk) (k : Nat) (m : Int) (e : Ending) (w' : World) : Prop :=
  ∃ (p : Option Addr) (c B : Nat), e = .returned (.agg (cvcells { h with pb := p, cb := c } (setB b k m) B)) ∧ CoveOK w' { h with pb := p, cb := c } (setB b k m) B ∧ ∃ x, w' = ext w x

theorem newCove_set (h : Hd) (b : Bk) (k : Nat) (m : Int) (p : Option Addr) (c : Nat) (w : World) (hlen : (setB b k m).bs.length = b.bs.length) (hb : BkAt w { h with pb := p, cb := c } (setB b k m)) (hv : bookB (setB b k m) = true) (hn : NB w) :
    Calls Tryd.prog 66 #[.agg #[.int .i64 b.n, .slice p b.bs.length c, .slice h.po b.os.length h.co, .slice h.ps b.ss.length h.cs]] w (NewPost w { h with pb := p, cb := c } (setB b k m)) := by
  have h1 := newCove_any { h with pb := p, cb := c } (setB b k m) w hb hv hn
  rw [hlen] at h1
  exact h1

set_option maxRecDepth 100000 in
set_option maxHeartbeats 4000000 in
theorem learned_any (h : Hd) (b : Bk) (B : Nat) (k : Nat) (m : Int) (w : World) (hk : CoveOK w h b B) (hn : NB w) (hkb : k < b.bs.length) (hcap : b.bs.length ≤ h.cb) (lo hi : Int) (hs : b.bs[k]? = some (lo, hi)) (hm1 : lo ≤ m) (hm2 : m ≤ hi) :
    Calls Tryd.prog 97 #[.agg #[.int .i64 b.n, .slice h.pb b.bs.length h.cb, .slice h.po b.os.length h.co, .slice h.ps b.ss.length h.cs, .int .i64 (kspec b.bs 2 0 0), .int .i64 (kspec b.bs 2 0 1), .int .i64 (kspec b.bs 2 0 2), .int .i64 (kspec b.bs 2 0 3), .int .i64 (kspec b.bs 2 0 4), .int .i64 (kspec b.bs 2 0 5), .int .i64 (kspec b.bs 2 0 6), .int .i64 (kspec b.bs 2 0 7), .map (some B)], .int .i64 k, .int .i64 m] w (LearnedPost w h b k m) := by
  have h4 := (bookB_bounds hk.ok).1
  have hv' := setB_ok hk.ok hs hm1 hm2
  have hlen' := setB_len b k m hkb
  have hsp := hk.bk.bs
  obtain ⟨bb, o, hp, hlt, -, -⟩ := hsp k _ hs
  obtain ⟨h_pb, h_cb, h_po, h_co, h_ps, h_cs⟩ := h
  dsimp only at hp hcap hsp
  subst hp
  have hkc : (k : Int) ≤ (h_cb : Int) := by omega
  have hk0 : (0 : Int) ≤ (k : Int) := by omega
  go_enter Tryd.func97, Tryd.ntmps97
  go_upto_region 2 with fail
  generalize hW : (((w.alloc _).alloc _).alloc _) = W
  have hWB : Below w.heap.size w W := by rw [← hW]; (repeat (first | (with_reducible exact Below.refl _ _) | (with_reducible assumption) | ((with_reducible refine below_ext_trans ?_ ?_ _); rotate_left; focus (((try dsimp only); repeat (first | omega | simp only [World.size_alloc, World.size_setCell, World.size_drew] | (with_reducible refine le_ext_of ?_) | (with_reducible refine le_ext_add ?_))); done)) | ((with_reducible refine Below.alloc ?_ ?_ _); rotate_left; focus (((try dsimp only); repeat (first | omega | simp only [World.size_alloc, World.size_setCell, World.size_drew] | (with_reducible refine le_ext_of ?_) | (with_reducible refine le_ext_add ?_))); done)) | ((with_reducible refine Below.setCell ?_ ?_ _); rotate_left; focus (((try dsimp only); repeat (first | omega | simp only [World.size_alloc, World.size_setCell, World.size_drew] | (with_reducible refine le_ext_of ?_) | (with_reducible refine le_ext_add ?_))); done)) | (with_reducible refine Below.drew ?_)))
  have hWs : W.heap.size = w.heap.size + 3 := by rw [← hW]; simp
  have kb1 : Blk W w.heap.size 83 #[.int .i64 b.n, .slice (some ⟨bb, o, none⟩) b.bs.length h_cb, .slice h_po b.os.length h_co, .slice h_ps b.ss.length h_cs, .int .i64 (kspec b.bs 2 0 0), .int .i64 (kspec b.bs 2 0 1), .int .i64 (kspec b.bs 2 0 2), .int .i64 (kspec b.bs 2 0 3), .int .i64 (kspec b.bs 2 0 4), .int .i64 (kspec b.bs 2 0 5), .int .i64 (kspec b.bs 2 0 6), .int .i64 (kspec b.bs 2 0 7), .map (some B)] := by rw [← hW]; exact ((Blk.new rfl).alloc _).alloc _
  have kb7 : Blk W (w.heap.size + 1 + 1) 26 #[.int .i64 b.n, .slice (some ⟨bb, o, none⟩) b.bs.length h_cb, .slice h_po b.os.length h_co, .slice h_ps b.ss.length h_cs] := by rw [← hW]; exact Blk.new (by simp)
  have kb6 : Blk W (w.heap.size + 1) 83 #[.int .i64 0, .slice none 0 0, .slice none 0 0, .slice none 0 0, .int .i64 0, .int .i64 0, .int .i64 0, .int .i64 0, .int .i64 0, .int .i64 0, .int .i64 0, .int .i64 0, .map none] := by rw [← hW]; exact (Blk.new (by simp)).alloc _
  have hws2 : w.heap.size + 2 ≤ W.heap.size := by omega
  have kS : Hid (∀ w', Below (w.heap.size + 2) W w' → w'.cell? ⟨w.heap.size, 1, none⟩ = some (.slice (some ⟨bb, o, none⟩) b.bs.length h_cb)) := Lib.hid (fun w' hw => by
    have kb1' : Blk w' w.heap.size 83 #[.int .i64 b.n, .slice (some ⟨bb, o, none⟩) b.bs.length h_cb, .slice h_po b.os.length h_co, .slice h_ps b.ss.length h_cs, .int .i64 (kspec b.bs 2 0 0), .int .i64 (kspec b.bs 2 0 1), .int .i64 (kspec b.bs 2 0 2), .int .i64 (kspec b.bs 2 0 3), .int .i64 (kspec b.bs 2 0 4), .int .i64 (kspec b.bs 2 0 5), .int .i64 (kspec b.bs 2 0 6), .int .i64 (kspec b.bs 2 0 7), .map (some B)] := (hw.block _ (by omega)).trans kb1
    rw [kb1'.cell]; rfl)
  have HSP := Lib.hid (hsp.below hWB)
  have HW := Lib.hid hWB
  have HWs := Lib.hid hWs
  have KB1 := Lib.hid kb1
  have KB6 := Lib.hid kb6
  have KB7 := Lib.hid kb7
  have HV := Lib.hid hv'
  have HLEN := Lib.hid hlen'
  have HK := Lib.hid hk
  have HN := Lib.hid hn
  have ff1 : w.heap.size + 1 + 1 < W.heap.size := by omega
  have ff2 := kb7.frozen 1
  have ff3 := kb7.cell 1
  simp only [List.size_toArray, List.length_cons, List.length_nil, Nat.reduceAdd, Nat.reduceLT, getElem?_pos, List.getElem_toArray, List.getElem_cons_zero, List.getElem_cons_succ] at ff3
  clear hW hWB hWs kb1 kb6 kb7 hsp hk hn hs hv' hlen'
  go_cut [20] from 10 to 20 (fun _ wx => ∃ (p : Option Addr) (c : Nat), Blk wx (w.heap.size + 1 + 1) 26 #[.int .i64 b.n, .slice p (k + 1) c, .slice h_po b.os.length h_co, .slice h_ps b.ss.length h_cs] ∧ OwnSpans wx W.heap.size (.slice p (k + 1) c) (b.bs.take k ++ [(m, m)]) ∧ Below (w.heap.size + 2) W wx)
  case first =>
    go_region_held3 (fun w' => w'.cell? ⟨w.heap.size, 1, none⟩ = some (.slice (some ⟨bb, o, none⟩) b.bs.length h_cb))
      ((exact kS.out _ (by (repeat (first | (with_reducible exact Below.refl _ _) | (with_reducible assumption) | ((with_reducible refine below_ext_trans ?_ ?_ _); rotate_left; focus (((try dsimp only); repeat (first | omega | simp only [World.size_alloc, World.size_setCell, World.size_drew] | (with_reducible refine le_ext_of ?_) | (with_reducible refine le_ext_add ?_))); done)) | ((with_reducible refine Below.alloc ?_ ?_ _); rotate_left; focus (((try dsimp only); repeat (first | omega | simp only [World.size_alloc, World.size_setCell, World.size_drew] | (with_reducible refine le_ext_of ?_) | (with_reducible refine le_ext_add ?_))); done)) | ((with_reducible refine Below.setCell ?_ ?_ _); rotate_left; focus (((try dsimp only); repeat (first | omega | simp only [World.size_alloc, World.size_setCell, World.size_drew] | (with_reducible refine le_ext_of ?_) | (with_reducible refine le_ext_add ?_))); done)) | (with_reducible refine Below.drew ?_))))))
      (first
        | (go_at_call 50; refine (just_any _ _).mono ?_; rintro e w' ⟨rfl, y0, rfl⟩)
        | (refine step_grow_span rfl _ _ rfl ⟨bb, o, none⟩ k (b.bs.take k) rfl (by rw [List.length_take]; omega) (by omega) (by intro j u hj; rw [addr_add]; refine SpansAt.enc (SpansAt.take (HSP.out.below ?_) k) j u hj; (repeat (first | (with_reducible exact Below.refl _ _) | (with_reducible assumption) | ((with_reducible refine below_ext_trans ?_ ?_ _); rotate_left; focus (((try dsimp only); repeat (first | omega | simp only [World.size_alloc, World.size_setCell, World.size_drew] | (with_reducible refine le_ext_of ?_) | (with_reducible refine le_ext_add ?_))); done)) | ((with_reducible refine Below.alloc ?_ ?_ _); rotate_left; focus (((try dsimp only); repeat (first | omega | simp only [World.size_alloc, World.size_setCell, World.size_drew] | (with_reducible refine le_ext_of ?_) | (with_reducible refine le_ext_add ?_))); done)) | ((with_reducible refine Below.setCell ?_ ?_ _); rotate_left; focus (((try dsimp only); repeat (first | omega | simp only [World.size_alloc, World.size_setCell, World.size_drew] | (with_reducible refine le_ext_of ?_) | (with_reducible refine le_ext_add ?_))); done)) | (with_reducible refine Below.drew ?_)))) _ m m rfl (by simp [go_sem]) (by simp [go_sem]) ?_; intro v' w1 ho hb1; have hB2 : Below W.heap.size W w1 := Below.trans (by (repeat (first | (with_reducible exact Below.refl _ _) | (with_reducible assumption) | ((with_reducible refine below_ext_trans ?_ ?_ _); rotate_left; focus (((try dsimp only); repeat (first | omega | simp only [World.size_alloc, World.size_setCell, World.size_drew] | (with_reducible refine le_ext_of ?_) | (with_reducible refine le_ext_add ?_))); done)) | ((with_reducible refine Below.alloc ?_ ?_ _); rotate_left; focus (((try dsimp only); repeat (first | omega | simp only [World.size_alloc, World.size_setCell, World.size_drew] | (with_reducible refine le_ext_of ?_) | (with_reducible refine le_ext_add ?_))); done)) | ((with_reducible refine Below.setCell ?_ ?_ _); rotate_left; focus (((try dsimp only); repeat (first | omega | simp only [World.size_alloc, World.size_setCell, World.size_drew] | (with_reducible refine le_ext_of ?_) | (with_reducible refine le_ext_add ?_))); done)) | (with_reducible refine Below.drew ?_)))) (hb1.mono (by ((try dsimp only); repeat (first | omega | simp only [World.size_alloc, World.size_setCell, World.size_drew] | (with_reducible refine le_ext_of ?_) | (with_reducible refine le_ext_add ?_))))); have ho2 := ho.mono (B' := W.heap.size) (by ((try dsimp only); repeat (first | omega | simp only [World.size_alloc, World.size_setCell, World.size_drew] | (with_reducible refine le_ext_of ?_) | (with_reducible refine le_ext_add ?_)))); have q1 := (hB2.cell (p := ⟨w.heap.size + 1 + 1, 1, none⟩) ff1).trans ff3; have q2 := (hB2.frozen (p := ⟨w.heap.size + 1 + 1, 1, none⟩) ff1).trans ff2; have q3 := Nat.lt_of_lt_of_le ff1 hB2.size; have hB3 : Below (w.heap.size + 2) W w1 := hB2.mono hws2; clear hb1 ho; obtain ⟨p', c', hv', -⟩ := ho2.at; rw [show (b.bs.take k ++ [(m, m)]).length = k + 1 by rw [List.length_append, List.length_take, Nat.min_eq_left (Nat.le_of_lt hkb)]; rfl] at hv'; subst hv'))
    all_goals (go_wp2_with fail; go_meet)
    have kb7 := (hB2.block _ KB7.out.lt).trans KB7.out
    have kb7 : Blk w1 (w.heap.size + 1 + 1) 26 #[.int .i64 b.n, .slice (some ⟨bb, o, none⟩) b.bs.length h_cb, .slice h_po b.os.length h_co, .slice h_ps b.ss.length h_cs] := kb7
    refine ⟨p', c', kb7.set 1 _, ho2.kept (fun g hg => Below.heap_setCell _ _ _ _ ?_), ?_⟩
    · have := (ho2.lt g hg).1
      have := HWs.out
      dsimp only
      omega
    · refine Below.setCell (hB2.mono (by have := HWs.out; omega)) (by dsimp only; omega) _
  case rest =>
    obtain ⟨p, c, kb7, ho, hbel⟩ := hcut
    have kb1 : Blk wc w.heap.size 83 #[.int .i64 b.n, .slice (some ⟨bb, o, none⟩) b.bs.length h_cb, .slice h_po b.os.length h_co, .slice h_ps b.ss.length h_cs, .int .i64 (kspec b.bs 2 0 0), .int .i64 (kspec b.bs 2 0 1), .int .i64 (kspec b.bs 2 0 2), .int .i64 (kspec b.bs 2 0 3), .int .i64 (kspec b.bs 2 0 4), .int .i64 (kspec b.bs 2 0 5), .int .i64 (kspec b.bs 2 0 6), .int .i64 (kspec b.bs 2 0 7), .map (some B)] := (hbel.block _ (by omega)).trans KB1.out
    have kb6 : Blk wc (w.heap.size + 1) 83 #[.int .i64 0, .slice none 0 0, .slice none 0 0, .slice none 0 0, .int .i64 0, .int .i64 0, .int .i64 0, .int .i64 0, .int .i64 0, .int .i64 0, .int .i64 0, .int .i64 0, .map none] := (hbel.block _ (by omega)).trans KB6.out
    have d1 : wc.cell? ⟨w.heap.size, 1, none⟩ = some (.slice (some ⟨bb, o, none⟩) b.bs.length h_cb) := by rw [kb1.cell]; rfl
    have t0 := kb7.cell 0
    have t1 := kb7.cell 1
    have t2 := kb7.cell 2
    have t3 := kb7.cell 3
    have tf := kb7.frozen 1
    have tlt := kb7.lt
    simp only [List.size_toArray, List.length_cons, List.length_nil, Nat.reduceAdd, Nat.reduceLT, getElem?_pos, List.getElem_toArray, List.getElem_cons_zero, List.getElem_cons_succ] at t0 t1 t2 t3
    have hw1 : IntKind.i64.wrap ((k : Int) + 1) = (k : Int) + 1 := IntWalk.i64_in _ (by omega)
    have hwwc : Below w.heap.size w wc := HW.out.trans (hbel.mono (by have := HWs.out; omega))
    have HSPc := Lib.hid (show SpansAt wc (some ⟨bb, o, none⟩) b.bs from HK.out.bk.bs.below hwwc)
    obtain ⟨ad, cx, hsl, had⟩ := slice_from bb o b.bs.length h_cb k (by omega) hcap
    have HC : Hid (∀ w', Below wc.heap.size wc w' → ∀ j u, (encSpans (b.bs.drop (k + 1)))[j]? = some u → w'.cell? (ad.add j) = some u) := Lib.hid (fun w' hb j u hj => by
      by_cases hcc : k + 1 = h_cb
      · rw [List.drop_eq_nil_of_le (by omega)] at hj; simp [encSpans] at hj
      · rw [had hcc, addr_add]
        exact ((HSPc.out.below hb).drop (k + 1)).enc j u hj)
    have HO := Lib.hid ho
    have KB1c := Lib.hid kb1
    have KB6c := Lib.hid kb6
    have KB7c := Lib.hid kb7
    have HBEL := Lib.hid hbel
    have hlW : W.heap.size ≤ wc.heap.size := hbel.size
    have hl1 : w.heap.size < wc.heap.size := kb1.lt
    have hl6 : w.heap.size + 1 < wc.heap.size := kb6.lt
    clear had ho kb1 kb6 kb7 hbel
    go_upto_region 3 with fail
    refine wp_region_ext_tail 8 (by kernel_rfl) (by kernel_rfl) ?_
    simp only [List.take_succ_cons, List.take_zero, List.drop_succ_cons, List.drop_zero]
    repeat (go_big_quiet_step (fail))
    refine wpQuiet_nil ?_
    rintro _ ⟨xq, rfl⟩
    go_wp2_with (first
      | (at_builtin; refine wpList_append_spans rfl _ _ rfl W.heap.size (.slice p (k + 1) c) (k + 1) (b.bs.take k ++ [(m, m)]) (b.bs.drop (k + 1)) rfl (HO.out.below (by (repeat (first | (with_reducible exact Below.refl _ _) | (with_reducible assumption) | ((with_reducible refine below_ext_trans ?_ ?_ _); rotate_left; focus (((try dsimp only); repeat (first | omega | simp only [World.size_alloc, World.size_setCell, World.size_drew] | (with_reducible refine le_ext_of ?_) | (with_reducible refine le_ext_add ?_))); done)) | ((with_reducible refine Below.alloc ?_ ?_ _); rotate_left; focus (((try dsimp only); repeat (first | omega | simp only [World.size_alloc, World.size_setCell, World.size_drew] | (with_reducible refine le_ext_of ?_) | (with_reducible refine le_ext_add ?_))); done)) | ((with_reducible refine Below.setCell ?_ ?_ _); rotate_left; focus (((try dsimp only); repeat (first | omega | simp only [World.size_alloc, World.size_setCell, World.size_drew] | (with_reducible refine le_ext_of ?_) | (with_reducible refine le_ext_add ?_))); done)) | (with_reducible refine Below.drew ?_))))) (by rw [List.length_append, List.length_take, Nat.min_eq_left (Nat.le_of_lt hkb)]; rfl) ad (b.bs.length - (k + 1)) cx (by rw [List.length_drop]) rfl (HC.out _ (by (repeat (first | (with_reducible exact Below.refl _ _) | (with_reducible assumption) | ((with_reducible refine below_ext_trans ?_ ?_ _); rotate_left; focus (((try dsimp only); repeat (first | omega | simp only [World.size_alloc, World.size_setCell, World.size_drew] | (with_reducible refine le_ext_of ?_) | (with_reducible refine le_ext_add ?_))); done)) | ((with_reducible refine Below.alloc ?_ ?_ _); rotate_left; focus (((try dsimp only); repeat (first | omega | simp only [World.size_alloc, World.size_setCell, World.size_drew] | (with_reducible refine le_ext_of ?_) | (with_reducible refine le_ext_add ?_))); done)) | ((with_reducible refine Below.setCell ?_ ?_ _); rotate_left; focus (((try dsimp only); repeat (first | omega | simp only [World.size_alloc, World.size_setCell, World.size_drew] | (with_reducible refine le_ext_of ?_) | (with_reducible refine le_ext_add ?_))); done)) | (with_reducible refine Below.drew ?_))))) (by simp; omega) (by ((try dsimp only); repeat (first | omega | simp only [World.size_alloc, World.size_setCell, World.size_drew] | (with_reducible refine le_ext_of ?_) | (with_reducible refine le_ext_add ?_)))) ?_; intro v' w1 ho hg; have hB2 : Below W.heap.size wc w1 := Below.grown (w := ext wc xq) ((below_ext wc xq).mono hlW) hg (by ((try dsimp only); repeat (first | omega | simp only [World.size_alloc, World.size_setCell, World.size_drew] | (with_reducible refine le_ext_of ?_) | (with_reducible refine le_ext_add ?_)))) (fun j hj => (HO.out.lt j hj).1); have q0 := (hB2.cell (p := ⟨w.heap.size + 1 + 1, 0, none⟩) ff1).trans t0; have q1 := (hB2.cell (p := ⟨w.heap.size + 1 + 1, 1, none⟩) ff1).trans t1; have q2 := (hB2.cell (p := ⟨w.heap.size + 1 + 1, 2, none⟩) ff1).trans t2; have q3 := (hB2.cell (p := ⟨w.heap.size + 1 + 1, 3, none⟩) ff1).trans t3; have qf := (hB2.frozen (p := ⟨w.heap.size + 1 + 1, 1, none⟩) ff1).trans tf; have ql := Nat.lt_of_lt_of_le ff1 (Nat.le_trans hlW hB2.size); have HO2 := Lib.hid ho; clear hg; obtain ⟨p2, c2, hv2, -⟩ := ho.at; rw [show (b.bs.take k ++ [(m, m)] ++ b.bs.drop (k + 1)).length = b.bs.length from HLEN.out] at hv2; clear ho; subst hv2; clear t0 t1 t2 t3 tf tlt d1 HO HC hsl))
    generalize hW2 : w1.setCell ⟨w.heap.size + 1 + 1, 1, none⟩ (.slice p2 b.bs.length c2) = W2
    have hkept : ∀ j, j ≠ w.heap.size + 1 + 1 → W2.heap[j]? = w1.heap[j]? := fun j hj => by rw [← hW2]; exact Below.heap_setCell _ _ _ _ (by dsimp only; omega)
    have hb2w : Below w.heap.size w W2 := (hwwc.trans (hB2.mono (by have := hwwc.size; have := HWs.out; omega))).trans (by rw [← hW2]; exact Below.setCell (Below.refl _ _) (by dsimp only; omega) _)
    have ho3 : OwnSpans W2 W.heap.size (.slice p2 b.bs.length c2) (b.bs.take k ++ [(m, m)] ++ b.bs.drop (k + 1)) := HO2.out.kept (fun g hg => hkept g (by have := (HO2.out.lt g hg).1; have := HWs.out; omega))
    have HBK : Hid (BkAt W2 { pb := p2, cb := c2, po := h_po, co := h_co, ps := h_ps, cs := h_cs } (setB b k m)) := Lib.hid ⟨by
      obtain ⟨p', c', he, hs'⟩ := ho3.at
      injection he with e1 e2 e3
      subst e1
      exact hs', HK.out.bk.os.below hb2w, HK.out.bk.ss.below hb2w⟩
    have kb6 : Blk W2 (w.heap.size + 1) 83 #[.int .i64 0, .slice none 0 0, .slice none 0 0, .slice none 0 0, .int .i64 0, .int .i64 0, .int .i64 0, .int .i64 0, .int .i64 0, .int .i64 0, .int .i64 0, .int .i64 0, .map none] := (hkept _ (by omega)).trans ((hB2.block _ (by omega)).trans KB6c.out)
    have HNB := Lib.hid (HN.out.below hb2w)
    have hlt6 : w.heap.size + 1 < W2.heap.size := kb6.lt
    have HB2w := Lib.hid hb2w
    have HO3 := Lib.hid ho3
    clear hW2 hkept ho3 hb2w q0 q1 q2 q3 qf ql hB2
    refine (newCove_set { pb := some ⟨bb, o, none⟩, cb := h_cb, po := h_po, co := h_co, ps := h_ps, cs := h_cs } b k m p2 c2 _ HLEN.out HBK.out HV.out HNB.out).mono ?_
    rintro e w' ⟨B', rfl, hB', hown', z, rfl⟩
    have hX : Blk (ext W2 z) (w.heap.size + 1) 83 #[.int .i64 0, .slice none 0 0, .slice none 0 0, .slice none 0 0, .int .i64 0, .int .i64 0, .int .i64 0, .int .i64 0, .int .i64 0, .int .i64 0, .int .i64 0, .int .i64 0, .map none] := kb6.ext z
    have x0 := hX.cell 0
    have x1 := hX.cell 1
    have x2 := hX.cell 2
    have x3 := hX.cell 3
    have x4 := hX.cell 4
    have x5 := hX.cell 5
    have x6 := hX.cell 6
    have x7 := hX.cell 7
    have x8 := hX.cell 8
    have x9 := hX.cell 9
    have x10 := hX.cell 10
    have x11 := hX.cell 11
    have x12 := hX.cell 12
    have xl := hX.lt
    have xf : ∀ i, (ext W2 z).frozen? ⟨w.heap.size + 1, i, none⟩ = false := fun i => hX.frozen i
    simp only [List.size_toArray, List.length_cons, List.length_nil, Nat.reduceAdd, Nat.reduceLT, getElem?_pos, List.getElem_toArray, List.getElem_cons_zero, List.getElem_cons_succ] at x0 x1 x2 x3 x4 x5 x6 x7 x8 x9 x10 x11 x12
    have HX := Lib.hid hX
    have HO' := Lib.hid hown'
    generalize hXX : ext W2 z = X at *
    have HXX := Lib.hid hXX
    clear hX hown' kb6 hXX
    go_wp2_with fail
    have hne : B' ≠ w.heap.size + 1 := by omega
    have hbX : Below w.heap.size w X := by rw [← HXX.out]; exact below_ext_trans HB2w.out HB2w.out.size z
    have hbF := bel13 (n := w.heap.size) (W := w) (X := X) (g := w.heap.size + 1) (B := B') (h := { pb := p2, cb := c2, po := h_po, co := h_co, ps := h_ps, cs := h_cs }) (b := setB b k m) hbX (by omega)
    have hC := blk13 (h := { pb := p2, cb := c2, po := h_po, co := h_co, ps := h_ps, cs := h_cs }) (b := setB b k m) (B := B') HX.out
    have hoF := own13 (g := w.heap.size + 1) (h := { pb := p2, cb := c2, po := h_po, co := h_co, ps := h_ps, cs := h_cs }) (b := setB b k m) HO'.out hne
    have hkF := fun j hj => heap13 (X := X) (g := w.heap.size + 1) (B := B') (h := { pb := p2, cb := c2, po := h_po, co := h_co, ps := h_ps, cs := h_cs }) (b := setB b k m) (j := j) hj
    dsimp only at hC hoF hkF hbF
    generalize hF : World.setCell _ ⟨w.heap.size + 1, 12, none⟩ _ = F at *
    clear hF x0 x1 x2 x3 x4 x5 x6 x7 x8 x9 x10 x11 x12 xf xl
    have e0 := hC.e0
    have e1 := hC.e1
    have e2 := hC.e2
    have e3 := hC.e3
    have e4 := hC.e4
    have e5 := hC.e5
    have e6 := hC.e6
    have e7 := hC.e7
    have e8 := hC.e8
    have e9 := hC.e9
    have e10 := hC.e10
    have e11 := hC.e11
    have e12 := hC.e12
    have el := hC.lt
    dsimp only at e1 e2 e3
    have hbk : BkAt F { pb := p2, cb := c2, po := h_po, co := h_co, ps := h_ps, cs := h_cs } (setB b k m) := by
      have ho4 : OwnSpans F W.heap.size (.slice p2 b.bs.length c2) (b.bs.take k ++ [(m, m)] ++ b.bs.drop (k + 1)) := HO3.out.kept (fun g hg => by
        obtain ⟨h1, h2⟩ := HO3.out.lt g hg
        rw [hkF g (by have := HWs.out; omega), ← HXX.out]
        exact z.ok.block g h2)
      obtain ⟨p', c', he, hs'⟩ := ho4.at
      injection he with e1 e2 e3
      subst e1
      exact ⟨hs', HK.out.bk.os.below hbF, HK.out.bk.ss.below hbF⟩
    have HBKF := Lib.hid hbk
    have HBF := Lib.hid hbF
    have HOF := Lib.hid hoF
    clear hC hoF hkF hbF hbk hbX
    refine bodyPost_ret (v := .agg (cvcells { pb := p2, cb := c2, po := h_po, co := h_co, ps := h_ps, cs := h_cs } (setB b k m) B')) (by simp [results, Tryd.results97, go_sem, e0, e1, e2, e3, e4, e5, e6, e7, e8, e9, e10, e11, e12, el]) rfl ?_
    exact ⟨p2, c2, B', rfl, ⟨HBKF.out, HV.out, HOF.out⟩, ext_of HBF.out⟩
end Go.Proofs.YtdmicngnbcdkdaaDoor

