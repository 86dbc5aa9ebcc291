/- Package seine: a map from states to lists; wrong's offer. -/
import Derived.Test.YtnckampdbbcehaaDoorQNl
set_option linter.unusedSimpArgs false
set_option linter.unusedVariables false
namespace Go.Proofs.YtnckampdbbcehaaDoor
open Go Go.RowKit Go.Shelf

/-- A list of numbers that lies in memory, below a block. -/
def ListAt (B : Nat) (w : World) (v : Value) (l : List Int) : Prop :=
  ∃ (p : Option Addr) (c : Nat), v = .slice p l.length c ∧ IntsAt w p l ∧ l.length ≤ c ∧ (∀ a, p = some a → (∃ b o, a = ⟨b, o, none⟩) ∧ a.block < B) ∧ (p = none → c = 0) ∧ B ≤ w.heap.size
theorem ListAt.below {B m : Nat} {w w' : World} {v : Value} {l : List Int} (h : ListAt B w v l) (hm : B ≤ m) (hb : Below m w w') : ListAt B w' v l := by
  obtain ⟨p, c, h1, h2, h3, h4, h5, h6⟩ := h
  refine ⟨p, c, h1, fun i x hi => ?_, h3, h4, h5, Nat.le_trans h6 hb.size⟩
  obtain ⟨b, o, e1, e2, e3⟩ := h2 i x hi
  have hbB := (h4 _ e1).2
  dsimp only at hbB
  refine ⟨b, o, e1, Nat.lt_of_lt_of_le e2 hb.size, ?_⟩
  rw [World.cell?_of_block (a := ⟨b, o + i, none⟩) (hb.block b (by omega))]
  exact e3
theorem ListAt.bel {B : Nat} {w w' : World} {v : Value} {l : List Int} (h : ListAt B w v l) (hb : Below w.heap.size w w') : ListAt B w' v l := by
  have hB : B ≤ w.heap.size := by obtain ⟨_, _, -, -, -, -, -, h6⟩ := h; exact h6
  exact h.below hB hb
theorem ListAt.mono {B B' : Nat} {w : World} {v : Value} {l : List Int} (h : ListAt B w v l) (hB : B ≤ B') (hw : B' ≤ w.heap.size) : ListAt B' w v l := by
  obtain ⟨p, c, h1, h2, h3, h4, h5, h6⟩ := h
  exact ⟨p, c, h1, h2, h3, fun a ha => ⟨(h4 a ha).1, Nat.lt_of_lt_of_le (h4 a ha).2 hB⟩, h5, hw⟩
theorem ListAt.nil {B : Nat} {w : World} (hB : B ≤ w.heap.size) : ListAt B w (.slice none 0 0) [] := ⟨none, 0, rfl, fun i x hi => by simp at hi, by simp, (fun a ha => by cases ha), (fun _ => rfl), hB⟩
/-- A list stays where no block of cells turns that is its own. -/
theorem ListAt.priv {B : Nat} {w w' : World} {v : Value} {l : List Int} {M : Nat} (h : ListAt B w v l) (hp : PrivM (fun k => k = M) w w') (hM : ∀ cs t fz, w.heap[M]? ≠ some (.cells cs t fz)) : ListAt B w' v l := by
  obtain ⟨p, c, h1, h2, h3, h4, h5, h6⟩ := h
  refine ⟨p, c, h1, fun i x hi => ?_, h3, h4, h5, Nat.le_trans h6 hp.size⟩
  obtain ⟨b, o, e1, e2, e3⟩ := h2 i x hi
  refine ⟨b, o, e1, Nat.lt_of_lt_of_le e2 hp.size, ?_⟩
  have hne : ¬ b = M := by
    rintro rfl
    unfold World.cell? at e3
    cases hb : w.heap[b]? with
    | none => simp [hb] at e3
    | some ob =>
      cases ob with
      | cells cs t fz => exact hM cs t fz hb
      | _ => simp [hb] at e3
  rw [World.cell?_of_block (a := ⟨b, o + i, none⟩) (hp.block b e2 hne)]
  exact e3
theorem MapAt.noCells {P : Program} {K : TypeId} {w : World} {b n : Nat} {f : Int → Int → Option Value} (h : MapAt P K w b n f) : ∀ cs t fz, w.heap[b]? ≠ some (.cells cs t fz) := by
  intro cs t fz e
  obtain ⟨D, ⟨es, clock, e1, _⟩, _⟩ := h
  rw [e] at e1; cases e1
/-- A map from states to lists. -/
def LMap (B : Nat) (w : World) (b n : Nat) (g : Int → Int → Option (List Int)) : Prop :=
  ∃ F, MapAt Tryd.prog 91 w b n F ∧ ∀ a c, InI a → InI c → match g a c with | none => F a c = none | some l => ∃ v, F a c = some v ∧ ListAt B w v l
theorem LMap.below {B m : Nat} {w w' : World} {b n : Nat} {g : Int → Int → Option (List Int)} (h : LMap B w b n g) (hm : B ≤ m) (hbm : b < m) (hb : Below m w w') : LMap B w' b n g := by
  obtain ⟨F, h1, h2⟩ := h
  refine ⟨F, h1.bel hbm hb, fun a c ha hc => ?_⟩
  have := h2 a c ha hc
  split at this
  · exact this
  · obtain ⟨v, e1, e2⟩ := this
    exact ⟨v, e1, e2.below hm hb⟩
theorem LMap.lt {B : Nat} {w : World} {b n : Nat} {g : Int → Int → Option (List Int)} (h : LMap B w b n g) : b < w.heap.size := by obtain ⟨F, h1, -⟩ := h; exact h1.lt
theorem LMap.bel {B : Nat} {w w' : World} {b n : Nat} {g : Int → Int → Option (List Int)} (h : LMap B w b n g) (hb : Below w.heap.size w w') : LMap B w' b n g := by
  obtain ⟨F, h1, h2⟩ := h
  refine ⟨F, h1.below hb, fun a c ha hc => ?_⟩
  have := h2 a c ha hc
  split at this
  · exact this
  · obtain ⟨v, e1, e2⟩ := this
    exact ⟨v, e1, e2.bel hb⟩
theorem LMap.mono {B B' : Nat} {w : World} {b n : Nat} {g : Int → Int → Option (List Int)} (h : LMap B w b n g) (hB : B ≤ B') (hw : B' ≤ w.heap.size) : LMap B' w b n g := by
  obtain ⟨F, h1, h2⟩ := h
  refine ⟨F, h1, fun a c ha hc => ?_⟩
  have := h2 a c ha hc
  split at this
  · exact this
  · obtain ⟨v, e1, e2⟩ := this
    exact ⟨v, e1, e2.mono hB hw⟩
/-- What an offer leaves. -/
def offG (g : Int → Int → Option (List Int)) (x y : Int) (l : List Int) : Int → Int → Option (List Int) := fun a c =>
  if a = x ∧ c = y then (match g a c with | none => some l | some l' => if fewerB l l' = true then some l else some l') else g a c
theorem zero_ints (w : World) : (zeroValue 44).run Tryd.prog w = .ok (.slice none 0 0) w := by kernel_rfl
/-- A map stays where only other maps and new blocks turn. -/
theorem LMap.priv {B : Nat} {w w' : World} {b n M : Nat} {g : Int → Int → Option (List Int)} (h : LMap B w b n g) (hp : PrivM (fun k => k = M) w w') (hb : b ≠ M) (hM : ∀ cs t fz, w.heap[M]? ≠ some (.cells cs t fz)) : LMap B w' b n g := by
  obtain ⟨F, h1, h2⟩ := h
  refine ⟨F, h1.of_heap (hp.block b h1.lt hb), fun a c ha hc => ?_⟩
  have := h2 a c ha hc
  split at this
  · exact this
  · obtain ⟨v, e1, e2⟩ := this
    exact ⟨v, e1, e2.priv hp hM⟩
/-- A store into such a map. -/
theorem LMap.put {B : Nat} {w w' : World} {b n : Nat} {F : Int → Int → Option Value} {g : Int → Int → Option (List Int)} (h1 : MapAt Tryd.prog 91 w b n F) (h2 : ∀ a c, InI a → InI c → match g a c with | none => F a c = none | some l => ∃ v, F a c = some v ∧ ListAt B w v l)
    {x y : Int} {v : Value} {l : List Int} (hv : ListAt B w v l) (h3 : MapAt Tryd.prog 91 w' b (n + 1) (upd F x y v)) (hg : w.grownBy w' (some b)) :
    LMap B w' b (n + 1) (fun a c => if a = x ∧ c = y then some l else g a c) := by
  have hp : PrivM (fun k => k = b) w w' := PrivM.of_grown hg
  refine ⟨_, h3, fun a c ha hc => ?_⟩
  by_cases hac : a = x ∧ c = y
  · simp only [hac, and_self, if_true, upd]
    exact ⟨v, rfl, hv.priv hp h1.noCells⟩
  · simp only [upd, if_neg hac]
    have := h2 a c ha hc
    split at this
    · exact this
    · obtain ⟨u, e1, e2⟩ := this
      exact ⟨u, e1, e2.priv hp h1.noCells⟩
attribute [local go_sem] Oper.semAt_some frozen_alloc_lt
set_option maxHeartbeats 2000000 in
theorem offer_none (B : Nat) (x y : Int) (v : Value) (l : List Int) (g6 M n : Nat) (g : Int → Int → Option (List Int)) (w : World) (hx : InI x) (hy : InI y) (hv : ListAt B w v l) (h6 : Blk w g6 122 #[.map (some M)]) (hm : LMap B w M n g) (hn : n ≤ 1000000000000) (hg : g x y = none) :
    Calls Tryd.prog 98 #[.agg #[.int .i64 x, .int .i64 y], v, .pointer (some ⟨g6, 0, none⟩)] w fun e w' => (∃ u, e = .returned u) ∧ LMap B w' M (n + 1) (offG g x y l) ∧ PrivM (fun k => k = M) w w' := by
  obtain ⟨F, hF, hR⟩ := hm
  have hFx := hR x y hx hy
  rw [hg] at hFx
  dsimp only at hFx
  have hoff : offG g x y l = fun a c => if a = x ∧ c = y then some l else g a c := by
    funext a c
    unfold offG
    by_cases hac : a = x ∧ c = y
    · obtain ⟨rfl, rfl⟩ := hac; simp [hg]
    · simp [hac]
  rw [hoff]
  have hlt6 := h6.lt
  have hne : ¬ g6 = w.heap.size := by omega
  have c6 := h6.cell 0
  simp only [List.size_toArray, List.length_cons, List.length_nil, Nat.reduceAdd, Nat.reduceLT, getElem?_pos, List.getElem_toArray, List.getElem_cons_zero, List.getElem_cons_succ] at c6
  have hF1 : MapAt Tryd.prog 91 (w.alloc (.cells #[.int .i64 x, .int .i64 y] 91)) M n F := hF.below ((Below.refl _ _).alloc (Nat.le_refl _) _)
  have hlk := hF1.lookOk key_state Tryd.underlying122 zero_ints hx hy
  rw [hFx] at hlk
  dsimp only [Option.getD_none, Option.isSome_none] at hlk
  unfold key2 at hlk
  have HV := Lib.hid hv
  have HF := Lib.hid hF
  have HR := Lib.hid hR
  clear hv h6 hR hF
  go_enter Tryd.func98, Tryd.ntmps98
  go_upto_region 3 with fail
  generalize hW : w.alloc _ = W at *
  have hB : Below w.heap.size w W := by rw [← hW]; (repeat (first | (with_reducible exact Below.refl _ _) | (with_reducible assumption) | ((with_reducible refine below_ext_trans ?_ ?_ _); rotate_left; focus (((try dsimp only); repeat (first | omega | simp only [World.size_alloc, World.size_setCell, World.size_drew] | (with_reducible refine le_ext_of ?_) | (with_reducible refine le_ext_add ?_))); done)) | ((with_reducible refine Below.alloc ?_ ?_ _); rotate_left; focus (((try dsimp only); repeat (first | omega | simp only [World.size_alloc, World.size_setCell, World.size_drew] | (with_reducible refine le_ext_of ?_) | (with_reducible refine le_ext_add ?_))); done)) | ((with_reducible refine Below.setCell ?_ ?_ _); rotate_left; focus (((try dsimp only); repeat (first | omega | simp only [World.size_alloc, World.size_setCell, World.size_drew] | (with_reducible refine le_ext_of ?_) | (with_reducible refine le_ext_add ?_))); done)) | (with_reducible refine Below.drew ?_)))
  have hs : Blk W w.heap.size 91 #[.int .i64 x, .int .i64 y] := by rw [← hW]; exact Blk.new rfl
  have h6' : W.cell? ⟨g6, 0, none⟩ = some (.map (some M)) := by rw [hB.cell (p := ⟨g6, 0, none⟩) hlt6]; exact c6
  obtain ⟨w3, hst, hm3, hg3⟩ := hF1.store key_state Tryd.underlying122 (by unfold maxLen; omega) hx hy v
  have hd0 := hs.cell 0
  have hd1 := hs.cell 1
  have ls := hs.lt
  simp only [List.size_toArray, List.length_cons, List.length_nil, Nat.reduceAdd, Nat.reduceLT, getElem?_pos, List.getElem_toArray, List.getElem_cons_zero, List.getElem_cons_succ] at hd0 hd1
  have HM3 := Lib.hid hm3
  have HG3 := Lib.hid hg3
  have HB := Lib.hid hB
  unfold key2 at hst
  clear hlk hW hm3 hg3 hB hs
  go_wp2_with fail
  go_end0
  refine ⟨⟨_, rfl⟩, LMap.put hF1 ?_ (HV.out.bel HB.out) HM3.out HG3.out, (PrivM.of_below HB.out).trans (PrivM.of_grown HG3.out)⟩
  intro a c ha hc
  have := HR.out a c ha hc
  split at this
  · exact this
  · obtain ⟨u, e1, e2⟩ := this
    exact ⟨u, e1, e2.bel HB.out⟩
set_option maxRecDepth 100000 in
set_option maxHeartbeats 2000000 in
theorem offer_some (B : Nat) (x y : Int) (v : Value) (l l' : List Int) (q : Bool) (g6 M n : Nat) (g : Int → Int → Option (List Int)) (w : World) (hx : InI x) (hy : InI y) (hv : ListAt B w v l) (hl : l.length ≤ 1000) (h6 : Blk w g6 122 #[.map (some M)]) (hm : LMap B w M n g) (hn : n ≤ 1000000000000) (hg : g x y = some l') (hq : fewerB l l' = q) :
    Calls Tryd.prog 98 #[.agg #[.int .i64 x, .int .i64 y], v, .pointer (some ⟨g6, 0, none⟩)] w fun e w' => (∃ u, e = .returned u) ∧ LMap B w' M (n + 1) (offG g x y l) ∧ PrivM (fun k => k = M) w w' := by
  obtain ⟨F, hF, hR⟩ := hm
  have hFx := hR x y hx hy
  rw [hg] at hFx
  obtain ⟨v', hFv, hv'⟩ := hFx
  have hcl := hF.noCells
  have hoff : offG g x y l = if q = true then (fun a c => if a = x ∧ c = y then some l else g a c) else g := by
    funext a c
    unfold offG
    by_cases hac : a = x ∧ c = y
    · obtain ⟨rfl, rfl⟩ := hac
      cases q <;> simp [hg, hq]
    · cases q <;> simp [hac]
  rw [hoff]
  have hlt6 := h6.lt
  have hne : ¬ g6 = w.heap.size := by omega
  have c6 := h6.cell 0
  simp only [List.size_toArray, List.length_cons, List.length_nil, Nat.reduceAdd, Nat.reduceLT, getElem?_pos, List.getElem_toArray, List.getElem_cons_zero, List.getElem_cons_succ] at c6
  have hF1 : MapAt Tryd.prog 91 (w.alloc (.cells #[.int .i64 x, .int .i64 y] 91)) M n F := hF.below ((Below.refl _ _).alloc (Nat.le_refl _) _)
  have hlk := hF1.lookOk key_state Tryd.underlying122 zero_ints hx hy
  rw [hFv] at hlk
  dsimp only [Option.getD_some, Option.isSome_some] at hlk
  unfold key2 at hlk
  have hcn : decide (cmpF l l' < 0) = q := by rw [cmpF_neg]; exact hq
  have HF := Lib.hid hF
  have HR := Lib.hid hR
  have HLM := Lib.hid (show LMap B w M n g from ⟨F, hF, hR⟩)
  obtain ⟨p1, c1, rfl, i1, -, -, -, -⟩ := id hv
  obtain ⟨p2, c2, rfl, i2, -, -, -, -⟩ := hv'
  have HV := Lib.hid hv
  have I1 := Lib.hid i1
  have I2 := Lib.hid i2
  have H6 := Lib.hid h6
  clear hv h6 hR hF i1 i2 hFv
  go_enter Tryd.func98, Tryd.ntmps98
  cases q with
  | false =>
    have hcf : decide (cmpF l l' < 0) = false := hcn
    go_wp2_with (go_at_call 99; refine (compareS_any p1 p2 c1 c2 l l' _ (I1.out.below (by (repeat (first | (with_reducible exact Below.refl _ _) | (with_reducible assumption) | ((with_reducible refine below_ext_trans ?_ ?_ _); rotate_left; focus (((try dsimp only); repeat (first | omega | simp only [World.size_alloc, World.size_setCell, World.size_drew] | (with_reducible refine le_ext_of ?_) | (with_reducible refine le_ext_add ?_))); done)) | ((with_reducible refine Below.alloc ?_ ?_ _); rotate_left; focus (((try dsimp only); repeat (first | omega | simp only [World.size_alloc, World.size_setCell, World.size_drew] | (with_reducible refine le_ext_of ?_) | (with_reducible refine le_ext_add ?_))); done)) | ((with_reducible refine Below.setCell ?_ ?_ _); rotate_left; focus (((try dsimp only); repeat (first | omega | simp only [World.size_alloc, World.size_setCell, World.size_drew] | (with_reducible refine le_ext_of ?_) | (with_reducible refine le_ext_add ?_))); done)) | (with_reducible refine Below.drew ?_))))) (I2.out.below (by (repeat (first | (with_reducible exact Below.refl _ _) | (with_reducible assumption) | ((with_reducible refine below_ext_trans ?_ ?_ _); rotate_left; focus (((try dsimp only); repeat (first | omega | simp only [World.size_alloc, World.size_setCell, World.size_drew] | (with_reducible refine le_ext_of ?_) | (with_reducible refine le_ext_add ?_))); done)) | ((with_reducible refine Below.alloc ?_ ?_ _); rotate_left; focus (((try dsimp only); repeat (first | omega | simp only [World.size_alloc, World.size_setCell, World.size_drew] | (with_reducible refine le_ext_of ?_) | (with_reducible refine le_ext_add ?_))); done)) | ((with_reducible refine Below.setCell ?_ ?_ _); rotate_left; focus (((try dsimp only); repeat (first | omega | simp only [World.size_alloc, World.size_setCell, World.size_drew] | (with_reducible refine le_ext_of ?_) | (with_reducible refine le_ext_add ?_))); done)) | (with_reducible refine Below.drew ?_))))) (by omega)).mono ?_; rintro e w1 ⟨rfl, y1, rfl⟩)
    go_end0
    have hB : Below w.heap.size w (ext (w.alloc (.cells #[.int .i64 x, .int .i64 y] 91)) y1) := by (repeat (first | (with_reducible exact Below.refl _ _) | (with_reducible assumption) | ((with_reducible refine below_ext_trans ?_ ?_ _); rotate_left; focus (((try dsimp only); repeat (first | omega | simp only [World.size_alloc, World.size_setCell, World.size_drew] | (with_reducible refine le_ext_of ?_) | (with_reducible refine le_ext_add ?_))); done)) | ((with_reducible refine Below.alloc ?_ ?_ _); rotate_left; focus (((try dsimp only); repeat (first | omega | simp only [World.size_alloc, World.size_setCell, World.size_drew] | (with_reducible refine le_ext_of ?_) | (with_reducible refine le_ext_add ?_))); done)) | ((with_reducible refine Below.setCell ?_ ?_ _); rotate_left; focus (((try dsimp only); repeat (first | omega | simp only [World.size_alloc, World.size_setCell, World.size_drew] | (with_reducible refine le_ext_of ?_) | (with_reducible refine le_ext_add ?_))); done)) | (with_reducible refine Below.drew ?_)))
    obtain ⟨F', e1, e2⟩ := HLM.out.bel hB
    exact ⟨⟨_, rfl⟩, ⟨F', e1.mono (by omega), e2⟩, PrivM.of_below hB⟩
  | true =>
    have hcf : decide (cmpF l l' < 0) = true := hcn
    go_upto_region 3 with (go_at_call 99; refine (compareS_any p1 p2 c1 c2 l l' _ (I1.out.below (by (repeat (first | (with_reducible exact Below.refl _ _) | (with_reducible assumption) | ((with_reducible refine below_ext_trans ?_ ?_ _); rotate_left; focus (((try dsimp only); repeat (first | omega | simp only [World.size_alloc, World.size_setCell, World.size_drew] | (with_reducible refine le_ext_of ?_) | (with_reducible refine le_ext_add ?_))); done)) | ((with_reducible refine Below.alloc ?_ ?_ _); rotate_left; focus (((try dsimp only); repeat (first | omega | simp only [World.size_alloc, World.size_setCell, World.size_drew] | (with_reducible refine le_ext_of ?_) | (with_reducible refine le_ext_add ?_))); done)) | ((with_reducible refine Below.setCell ?_ ?_ _); rotate_left; focus (((try dsimp only); repeat (first | omega | simp only [World.size_alloc, World.size_setCell, World.size_drew] | (with_reducible refine le_ext_of ?_) | (with_reducible refine le_ext_add ?_))); done)) | (with_reducible refine Below.drew ?_))))) (I2.out.below (by (repeat (first | (with_reducible exact Below.refl _ _) | (with_reducible assumption) | ((with_reducible refine below_ext_trans ?_ ?_ _); rotate_left; focus (((try dsimp only); repeat (first | omega | simp only [World.size_alloc, World.size_setCell, World.size_drew] | (with_reducible refine le_ext_of ?_) | (with_reducible refine le_ext_add ?_))); done)) | ((with_reducible refine Below.alloc ?_ ?_ _); rotate_left; focus (((try dsimp only); repeat (first | omega | simp only [World.size_alloc, World.size_setCell, World.size_drew] | (with_reducible refine le_ext_of ?_) | (with_reducible refine le_ext_add ?_))); done)) | ((with_reducible refine Below.setCell ?_ ?_ _); rotate_left; focus (((try dsimp only); repeat (first | omega | simp only [World.size_alloc, World.size_setCell, World.size_drew] | (with_reducible refine le_ext_of ?_) | (with_reducible refine le_ext_add ?_))); done)) | (with_reducible refine Below.drew ?_))))) (by omega)).mono ?_; rintro e w1 ⟨rfl, y1, rfl⟩)
    generalize hW : ext _ y1 = W
    have hB : Below w.heap.size w W := by rw [← hW]; (repeat (first | (with_reducible exact Below.refl _ _) | (with_reducible assumption) | ((with_reducible refine below_ext_trans ?_ ?_ _); rotate_left; focus (((try dsimp only); repeat (first | omega | simp only [World.size_alloc, World.size_setCell, World.size_drew] | (with_reducible refine le_ext_of ?_) | (with_reducible refine le_ext_add ?_))); done)) | ((with_reducible refine Below.alloc ?_ ?_ _); rotate_left; focus (((try dsimp only); repeat (first | omega | simp only [World.size_alloc, World.size_setCell, World.size_drew] | (with_reducible refine le_ext_of ?_) | (with_reducible refine le_ext_add ?_))); done)) | ((with_reducible refine Below.setCell ?_ ?_ _); rotate_left; focus (((try dsimp only); repeat (first | omega | simp only [World.size_alloc, World.size_setCell, World.size_drew] | (with_reducible refine le_ext_of ?_) | (with_reducible refine le_ext_add ?_))); done)) | (with_reducible refine Below.drew ?_)))
    have hs : Blk W w.heap.size 91 #[.int .i64 x, .int .i64 y] := by rw [← hW]; exact (Blk.new rfl).ext y1
    have h6' : W.cell? ⟨g6, 0, none⟩ = some (.map (some M)) := by rw [hB.cell (p := ⟨g6, 0, none⟩) hlt6]; exact c6
    have hFW : MapAt Tryd.prog 91 W M n F := HF.out.below hB
    obtain ⟨w3, hst, hm3, hg3⟩ := hFW.store key_state Tryd.underlying122 (by unfold maxLen; omega) hx hy (.slice p1 l.length c1)
    have hd0 := hs.cell 0
    have hd1 := hs.cell 1
    have ls := hs.lt
    simp only [List.size_toArray, List.length_cons, List.length_nil, Nat.reduceAdd, Nat.reduceLT, getElem?_pos, List.getElem_toArray, List.getElem_cons_zero, List.getElem_cons_succ] at hd0 hd1
    have HM3 := Lib.hid hm3
    have HG3 := Lib.hid hg3
    have HB := Lib.hid hB
    unfold key2 at hst
    clear hlk hW hm3 hg3 hB hs
    go_wp2_with fail
    go_end0
    refine ⟨⟨_, rfl⟩, LMap.put hFW ?_ (HV.out.bel HB.out) HM3.out HG3.out, (PrivM.of_below HB.out).trans (PrivM.of_grown HG3.out)⟩
    intro a c ha hc
    have := HR.out a c ha hc
    split at this
    · exact this
    · obtain ⟨u, e1, e2⟩ := this
      exact ⟨u, e1, e2.bel HB.out⟩
theorem offer_any (B : Nat) (x y : Int) (v : Value) (l : List Int) (g6 M n : Nat) (g : Int → Int → Option (List Int)) (w : World) (hx : InI x) (hy : InI y) (hv : ListAt B w v l) (hl : l.length ≤ 1000) (h6 : Blk w g6 122 #[.map (some M)]) (hm : LMap B w M n g) (hn : n ≤ 1000000000000) :
    Calls Tryd.prog 98 #[.agg #[.int .i64 x, .int .i64 y], v, .pointer (some ⟨g6, 0, none⟩)] w fun e w' => (∃ u, e = .returned u) ∧ LMap B w' M (n + 1) (offG g x y l) ∧ PrivM (fun k => k = M) w w' := by
  cases hg : g x y with
  | none => exact offer_none B x y v l g6 M n g w hx hy hv h6 hm hn hg
  | some l' => exact offer_some B x y v l l' _ g6 M n g w hx hy hv hl h6 hm hn hg rfl
end Go.Proofs.YtnckampdbbcehaaDoor

