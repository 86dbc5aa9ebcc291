/- The reference: asked, by its answers; Held and Rate. -/
/- The reference: Can. -/
/- The reference: Empty. -/
/- The reference: Saved. -/
import Derived.Test.YtjjfpbjdcmkkhaaDoorQHm
import Derived.Test.YtjjfpbjdcmkkhaaDoorQPc
import Derived.Test.YtjjfpbjdcmkkhaaDoorQPg
set_option linter.unusedSimpArgs false
set_option linter.unusedVariables false
namespace Go.Proofs.YtjjfpbjdcmkkhaaDoor
open Go Go.RowKit Go.Shelf
theorem asked_c (b : Sn) (p : Option Addr) (c : Nat) (qq : Bool) (code : Int) (w : World) (hl : NotesAt w p b.ns) (ha : Asks b qq code) :
    Calls Tryd.prog 62 #[bV b p c, .bool qq] w fun e w' => e = .returned (.int .i64 code) ∧ ∃ x, w' = ext w x := by
  rcases ha with (⟨h1, rfl⟩ | ⟨h1, rfl, rfl⟩ | ⟨h1, rfl, h2, rfl⟩) | ⟨h1, rfl, h2, rfl⟩
  · exact asked_bad b p c qq w hl h1
  · exact asked_ask b p c w hl h1
  · exact asked_right b p c false w hl h1 h2
  · exact asked_right b p c true w hl h1 h2
theorem asks_some (b : Sn) (q : Bool) : ∃ code, Asks b q code := by
  cases h : snB b
  · exact ⟨30, .inl (.inl ⟨h, rfl⟩)⟩
  · cases q
    · exact ⟨31, .inl (.inr (.inl ⟨h, rfl, rfl⟩))⟩
    · cases h2 : rightS b
      · exact ⟨32, .inl (.inr (.inr ⟨h, rfl, h2, rfl⟩))⟩
      · exact ⟨0, .inr ⟨h, rfl, h2, rfl⟩⟩
theorem mnI_le (l : List Int) : ∀ a, mnI a l ≤ a ∧ ∀ z ∈ l, mnI a l ≤ z := by
  induction l with
  | nil => intro a; exact ⟨Int.le_refl _, fun z h => by cases h⟩
  | cons x l ih =>
    intro a
    obtain ⟨h1, h2⟩ := ih (min a x)
    have e : mnI a (x :: l) = mnI (min a x) l := rfl
    rw [e]
    refine ⟨by omega, fun z hz => ?_⟩
    rcases List.mem_cons.1 hz with rfl | hz
    · omega
    · exact h2 z hz
theorem mnI_mem (l : List Int) : ∀ a, mnI a l = a ∨ mnI a l ∈ l := by
  induction l with
  | nil => intro a; exact .inl rfl
  | cons x l ih =>
    intro a
    have e : mnI a (x :: l) = mnI (min a x) l := rfl
    rw [e]
    rcases ih (min a x) with h | h
    · rw [h]
      by_cases hx : a ≤ x
      · exact .inl (by omega)
      · exact .inr (List.mem_cons.2 (.inl (by omega)))
    · exact .inr (List.mem_cons.2 (.inr h))
theorem mxI_ge (l : List Int) : ∀ a, a ≤ mxI a l ∧ ∀ z ∈ l, z ≤ mxI a l := by
  induction l with
  | nil => intro a; exact ⟨Int.le_refl _, fun z h => by cases h⟩
  | cons x l ih =>
    intro a
    obtain ⟨h1, h2⟩ := ih (max a x)
    have e : mxI a (x :: l) = mxI (max a x) l := rfl
    rw [e]
    refine ⟨by omega, fun z hz => ?_⟩
    rcases List.mem_cons.1 hz with rfl | hz
    · omega
    · exact h2 z hz
theorem mxI_mem (l : List Int) : ∀ a, mxI a l = a ∨ mxI a l ∈ l := by
  induction l with
  | nil => intro a; exact .inl rfl
  | cons x l ih =>
    intro a
    have e : mxI a (x :: l) = mxI (max a x) l := rfl
    rw [e]
    rcases ih (max a x) with h | h
    · rw [h]
      by_cases hx : x ≤ a
      · exact .inl (by omega)
      · exact .inr (List.mem_cons.2 (.inl (by omega)))
    · exact .inr (List.mem_cons.2 (.inr h))
/-- Two ways to tell the ends of the same numbers. -/
theorem ends_same {l m : List (Int × Int)} (hm : ∀ z, z ∈ l ↔ z ∈ m) (g : Int × Int → Int) (hb : ∀ z ∈ m, 0 ≤ g z ∧ g z ≤ 400) {a : Int} (ha : (l.map g)[0]? = some a) : mnI a (l.map g) = minF g 400 m ∧ mxI a (l.map g) = maxF g 0 m := by
  have hal := List.mem_of_getElem? ha
  have hin : ∀ x, x ∈ l.map g ↔ ∃ z ∈ m, g z = x := fun x => by
    rw [List.mem_map]
    exact ⟨fun ⟨z, h1, h2⟩ => ⟨z, (hm z).1 h1, h2⟩, fun ⟨z, h1, h2⟩ => ⟨z, (hm z).2 h1, h2⟩⟩
  obtain ⟨za, hza, ea⟩ := (hin a).1 hal
  have n1 := mnI_le (l.map g) a
  have n2 := mxI_ge (l.map g) a
  have k1 := minF_le (g := g) (l := m) (a := 400)
  have k2 := maxF_ge (g := g) (l := m) (a := 0)
  constructor
  · have h1 : minF g 400 m ≤ mnI a (l.map g) := by
      have : mnI a (l.map g) ∈ l.map g := by
        rcases mnI_mem (l.map g) a with h | h
        · rw [h]; exact hal
        · exact h
      obtain ⟨z, hz, e⟩ := (hin _).1 this
      rw [← e]; exact k1.2 z hz
    have h2 : mnI a (l.map g) ≤ minF g 400 m := by
      rcases minF_mem (g := g) (l := m) (a := 400) with h | ⟨z, hz, e⟩
      · rw [h]; have := hb za hza; omega
      · rw [e]; exact n1.2 _ ((hin _).2 ⟨z, hz, rfl⟩)
    omega
  · have h1 : mxI a (l.map g) ≤ maxF g 0 m := by
      have : mxI a (l.map g) ∈ l.map g := by
        rcases mxI_mem (l.map g) a with h | h
        · rw [h]; exact hal
        · exact h
      obtain ⟨z, hz, e⟩ := (hin _).1 this
      rw [← e]; exact k2.2 z hz
    have h2 : maxF g 0 m ≤ mxI a (l.map g) := by
      rcases maxF_mem (g := g) (l := m) (a := 0) with h | ⟨z, hz, e⟩
      · rw [h]; have := hb za hza; omega
      · rw [e]; exact n2.2 _ ((hin _).2 ⟨z, hz, rfl⟩)
    omega
theorem at_some {b : Sn} (hr : rightS b = true) (h : Int) {l : List (Int × Int)} (hm : ∀ z, z ∈ l ↔ z ∈ atL b h) (g : Int × Int → Int) : ∃ a, (l.map g)[0]? = some a := by
  obtain ⟨f, hf⟩ := rightS_iff.1 hr
  have := (hm _).2 (At_mem hf h)
  cases l with
  | nil => cases this
  | cons x l => exact ⟨g x, rfl⟩
/-- ends of a list of numbers, as the answer's span. -/
theorem ends_q (l : List Int) (p : Option Addr) (c n : Nat) (a x y : Int) (w : World) (en : l.length = n) (hl : IntsAt w p l) (hn : l.length ≤ 8000000000000) (ha : l[0]? = some a) (hx : mnI a l = x) (hy : mxI a l = y) :
    Calls Tryd.prog 65 #[.slice p n c] w fun e w' => e = .returned (.agg #[.int .i64 x, .int .i64 y]) ∧ Below w.heap.size w w' := by
  subst en hx hy
  exact ends_r l p c a w hl hn ha
attribute [local go_sem] Oper.semAt_some frozen_alloc_lt
set_option maxRecDepth 100000 in
set_option maxHeartbeats 4000000 in
theorem Held_r (b : Sn) (p : Option Addr) (c : Nat) (h code s1 s2 : Int) (w : World) (hl : NotesAt w p b.ns) (hc : SBc b p c) (ha : Asks b (inB h 60) code) (hx : (if code = 0 then minF Prod.fst 400 (atL b h) else 0) = s1) (hy : (if code = 0 then maxF Prod.fst 0 (atL b h) else 0) = s2) :
    Calls Tryd.prog 21 #[bV b p c, .int .i64 h] w fun e w' => e = .returned (.tuple #[.agg #[.int .i64 s1, .int .i64 s2], .int .i64 code]) ∧ Below w.heap.size w w' := by
  obtain ⟨qq, has⟩ : ∃ qq, inB h 60 = qq := ⟨_, rfl⟩
  rw [has] at ha
  have HH0 := Lib.hid (show qq = true → 0 ≤ h ∧ h ≤ 60 from fun e => by rw [e] at has; simpa [inB] using has)
  have HAS := Lib.hid has
  have HA := Lib.hid ha
  have HX := Lib.hid hx
  have HY := Lib.hid hy
  have HL := Lib.hid hl
  have HC := Lib.hid hc
  clear ha has hx hy hl hc
  go_enter Tryd.func21, Tryd.ntmps21
  go_upto_region 1 with fail
  generalize hW0 : (w.alloc _).alloc _ = W0
  have hB0 : Below w.heap.size w W0 := by rw [← hW0]; (repeat (first | (with_reducible exact Below.refl _ _) | (with_reducible assumption) | ((with_reducible refine below_ext_trans ?_ ?_ _); rotate_left; focus (((try dsimp only); repeat (first | omega | simp only [World.size_alloc, World.size_setCell, World.size_drew] | (with_reducible refine le_ext_of ?_) | (with_reducible refine le_ext_add ?_))); done)) | ((with_reducible refine Below.alloc ?_ ?_ _); rotate_left; focus (((try dsimp only); repeat (first | omega | simp only [World.size_alloc, World.size_setCell, World.size_drew] | (with_reducible refine le_ext_of ?_) | (with_reducible refine le_ext_add ?_))); done)) | ((with_reducible refine Below.setCell ?_ ?_ _); rotate_left; focus (((try dsimp only); repeat (first | omega | simp only [World.size_alloc, World.size_setCell, World.size_drew] | (with_reducible refine le_ext_of ?_) | (with_reducible refine le_ext_add ?_))); done)) | (with_reducible refine Below.drew ?_)))
  have hq0 : Blk W0 w.heap.size 26 #[.int .i64 b.lo, .int .i64 b.hi, .slice p b.ns.length c] := by rw [← hW0]; exact (Blk.new rfl).alloc _
  have hr0 : Blk W0 (w.heap.size + 1) 23 #[.int .i64 0, .int .i64 0] := by rw [← hW0]; exact Blk.new (by simp)
  have HB0 := Lib.hid hB0
  have HQ0 := Lib.hid hq0
  have HR0 := Lib.hid hr0
  have HL0 := Lib.hid (HL.out.below hB0)
  have q0 := hq0.cell 0
  have q1 := hq0.cell 1
  have q2 := hq0.cell 2
  have lq := hq0.lt
  simp only [List.size_toArray, List.length_cons, List.length_nil, Nat.reduceAdd, Nat.reduceLT, getElem?_pos, List.getElem_toArray, List.getElem_cons_zero, List.getElem_cons_succ] at q0 q1 q2
  clear hW0 hB0 hq0 hr0
  refine wp_region_ext (by kernel_rfl) (by kernel_rfl) ?_
  repeat (go_big_quiet_step (first | (go_at_call 38; exact quiet_same (Btw_r h 60 qq _ HAS.out)) | (go_at_call 62; exact quiet_ext (asked_c b p c qq code _ (HL0.out.below (by (repeat (first | (with_reducible exact Below.refl _ _) | (with_reducible assumption) | ((with_reducible refine below_ext_trans ?_ ?_ _); rotate_left; focus (((try dsimp only); repeat (first | omega | simp only [World.size_alloc, World.size_setCell, World.size_drew] | (with_reducible refine le_ext_of ?_) | (with_reducible refine le_ext_add ?_))); done)) | ((with_reducible refine Below.alloc ?_ ?_ _); rotate_left; focus (((try dsimp only); repeat (first | omega | simp only [World.size_alloc, World.size_setCell, World.size_drew] | (with_reducible refine le_ext_of ?_) | (with_reducible refine le_ext_add ?_))); done)) | ((with_reducible refine Below.setCell ?_ ?_ _); rotate_left; focus (((try dsimp only); repeat (first | omega | simp only [World.size_alloc, World.size_setCell, World.size_drew] | (with_reducible refine le_ext_of ?_) | (with_reducible refine le_ext_add ?_))); done)) | (with_reducible refine Below.drew ?_))))) HA.out))))
  (refine wpQuiet_nil ?_; rintro _ ⟨x, rfl⟩)
  generalize hW1 : ext W0 x = W1 at *
  have hB1 : Below W0.heap.size W0 W1 := by rw [← hW1]; exact below_ext _ _
  have HB1 := Lib.hid (HB0.out.trans (hB1.mono HB0.out.size))
  have HQ1 := Lib.hid (HQ0.out.bel hB1)
  have HR1 := Lib.hid (HR0.out.bel hB1)
  have HL1 := Lib.hid (HL0.out.below hB1)
  clear hW1 hB1 HB0 HQ0 HR0 HL0 q0 q1 q2 lq
  by_cases hc0 : code = 0
  · have HG := Lib.hid (show snB b = true ∧ qq = true ∧ rightS b = true by
      rcases HA.out with h | ⟨h1, h2, h3, -⟩
      · exact absurd hc0 h.ne
      · exact ⟨h1, h2, h3⟩)
    subst hc0
    have HOK := Lib.hid (Ok9.of HG.out.1)
    have HHH := Lib.hid (HH0.out HG.out.2.1)
    have q0 := HQ1.out.cell 0
    have q1 := HQ1.out.cell 1
    have q2 := HQ1.out.cell 2
    have lq := HQ1.out.lt
    simp only [List.size_toArray, List.length_cons, List.length_nil, Nat.reduceAdd, Nat.reduceLT, getElem?_pos, List.getElem_toArray, List.getElem_cons_zero, List.getElem_cons_succ] at q0 q1 q2
    go_wp2_with (first
      | (go_at_call 63; refine (at_r b p c h _ HL1.out HC.out HOK.out HHH.out).mono ?_; rintro e w2 ⟨p2, c2, out, rfl, h2, h3, h4, h5⟩; have H2 := Lib.hid h2; have H3 := Lib.hid h3; have H4 := Lib.hid h4; have H5 := Lib.hid h5; clear h2 h3 h4 h5)
      | (go_at_call 66; refine (held_r out p2 c2 _ H2.out H4.out).mono ?_; rintro e w3 ⟨v, rfl, h6, h7⟩; obtain ⟨p4, c4, rfl, h8, -⟩ := h6.at; have H7 := Lib.hid h7; have H8 := Lib.hid h8; clear h6 h7 h8; have HS := Lib.hid (at_some HG.out.2.2 h H3.out Prod.fst); obtain ⟨a, ha⟩ := HS.out; have HAA := Lib.hid ha; clear ha)
      | (go_at_call 65; refine (ends_q (out.map Prod.fst) p4 c4 _ a s1 s2 _ (List.length_map _) H8.out (by rw [List.length_map]; exact H4.out) HAA.out (by rw [(ends_same H3.out Prod.fst (fun z hz => (at_bd HOK.out hz).1) HAA.out).1]; have := HX.out; simpa using this) (by rw [(ends_same H3.out Prod.fst (fun z hz => (at_bd HOK.out hz).1) HAA.out).2]; have := HY.out; simpa using this)).mono ?_; rintro e w5 ⟨rfl, h9⟩; have HR5 := Lib.hid ((((HR1.out.bel H5.out).bel H7.out).bel h9)); have HB5 := Lib.hid (((HB1.out.trans (H5.out.mono HB1.out.size)).trans (H7.out.mono (HB1.out.trans (H5.out.mono HB1.out.size)).size)).trans (h9.mono ((HB1.out.trans (H5.out.mono HB1.out.size)).trans (H7.out.mono (HB1.out.trans (H5.out.mono HB1.out.size)).size)).size)); clear h9; have r0 := HR5.out.frozen 0; have r1 := HR5.out.frozen 1; have c0 := HR5.out.cell 0; have c1 := HR5.out.cell 1; have lr := HR5.out.lt; simp only [List.size_toArray, List.length_cons, List.length_nil, Nat.reduceAdd, Nat.reduceLT, getElem?_pos, List.getElem_toArray, List.getElem_cons_zero, List.getElem_cons_succ] at c0 c1))
    have hF := (HR5.out.set 0 (.int .i64 s1)).set 1 (.int .i64 s2)
    have t0 := Blk.cell hF 0
    have t1 := Blk.cell hF 1
    refine bodyPost_ret (v := .tuple #[.agg #[.int .i64 s1, .int .i64 s2], .int .i64 0]) ?_ ?_ ?_
    · simp [results, Tryd.results21, go_sem, c0, c1, lr]
    · rfl
    · exact ⟨rfl, (HB5.out.setCell (by simp) _).setCell (by simp) _⟩
  · have HC0 := Lib.hid hc0
    have hx0 : s1 = 0 := by have := HX.out; rw [if_neg HC0.out] at this; exact this.symm
    have hy0 : s2 = 0 := by have := HY.out; rw [if_neg HC0.out] at this; exact this.symm
    subst hx0 hy0
    have r0 := HR1.out.frozen 0
    have r1 := HR1.out.frozen 1
    have c0 := HR1.out.cell 0
    have c1 := HR1.out.cell 1
    have lr := HR1.out.lt
    simp only [List.size_toArray, List.length_cons, List.length_nil, Nat.reduceAdd, Nat.reduceLT, getElem?_pos, List.getElem_toArray, List.getElem_cons_zero, List.getElem_cons_succ] at c0 c1
    go_wp2_with fail
    refine bodyPost_ret (v := .tuple #[.agg #[.int .i64 0, .int .i64 0], .int .i64 code]) ?_ ?_ ?_
    · simp [results, Tryd.results21, go_sem, c0, c1, lr]
    · rfl
    · exact ⟨rfl, (HB1.out.setCell (by simp) _).setCell (by simp) _⟩
set_option maxRecDepth 100000 in
set_option maxHeartbeats 4000000 in
theorem Rate_r (b : Sn) (p : Option Addr) (c : Nat) (h code s1 s2 : Int) (w : World) (hl : NotesAt w p b.ns) (hc : SBc b p c) (ha : Asks b (inB h 60) code) (hx : (if code = 0 then minF Prod.snd 400 (atL b h) else 0) = s1) (hy : (if code = 0 then maxF Prod.snd 0 (atL b h) else 0) = s2) :
    Calls Tryd.prog 23 #[bV b p c, .int .i64 h] w fun e w' => e = .returned (.tuple #[.agg #[.int .i64 s1, .int .i64 s2], .int .i64 code]) ∧ Below w.heap.size w w' := by
  obtain ⟨qq, has⟩ : ∃ qq, inB h 60 = qq := ⟨_, rfl⟩
  rw [has] at ha
  have HH0 := Lib.hid (show qq = true → 0 ≤ h ∧ h ≤ 60 from fun e => by rw [e] at has; simpa [inB] using has)
  have HAS := Lib.hid has
  have HA := Lib.hid ha
  have HX := Lib.hid hx
  have HY := Lib.hid hy
  have HL := Lib.hid hl
  have HC := Lib.hid hc
  clear ha has hx hy hl hc
  go_enter Tryd.func23, Tryd.ntmps23
  go_upto_region 1 with fail
  generalize hW0 : (w.alloc _).alloc _ = W0
  have hB0 : Below w.heap.size w W0 := by rw [← hW0]; (repeat (first | (with_reducible exact Below.refl _ _) | (with_reducible assumption) | ((with_reducible refine below_ext_trans ?_ ?_ _); rotate_left; focus (((try dsimp only); repeat (first | omega | simp only [World.size_alloc, World.size_setCell, World.size_drew] | (with_reducible refine le_ext_of ?_) | (with_reducible refine le_ext_add ?_))); done)) | ((with_reducible refine Below.alloc ?_ ?_ _); rotate_left; focus (((try dsimp only); repeat (first | omega | simp only [World.size_alloc, World.size_setCell, World.size_drew] | (with_reducible refine le_ext_of ?_) | (with_reducible refine le_ext_add ?_))); done)) | ((with_reducible refine Below.setCell ?_ ?_ _); rotate_left; focus (((try dsimp only); repeat (first | omega | simp only [World.size_alloc, World.size_setCell, World.size_drew] | (with_reducible refine le_ext_of ?_) | (with_reducible refine le_ext_add ?_))); done)) | (with_reducible refine Below.drew ?_)))
  have hq0 : Blk W0 w.heap.size 26 #[.int .i64 b.lo, .int .i64 b.hi, .slice p b.ns.length c] := by rw [← hW0]; exact (Blk.new rfl).alloc _
  have hr0 : Blk W0 (w.heap.size + 1) 23 #[.int .i64 0, .int .i64 0] := by rw [← hW0]; exact Blk.new (by simp)
  have HB0 := Lib.hid hB0
  have HQ0 := Lib.hid hq0
  have HR0 := Lib.hid hr0
  have HL0 := Lib.hid (HL.out.below hB0)
  have q0 := hq0.cell 0
  have q1 := hq0.cell 1
  have q2 := hq0.cell 2
  have lq := hq0.lt
  simp only [List.size_toArray, List.length_cons, List.length_nil, Nat.reduceAdd, Nat.reduceLT, getElem?_pos, List.getElem_toArray, List.getElem_cons_zero, List.getElem_cons_succ] at q0 q1 q2
  clear hW0 hB0 hq0 hr0
  refine wp_region_ext (by kernel_rfl) (by kernel_rfl) ?_
  repeat (go_big_quiet_step (first | (go_at_call 38; exact quiet_same (Btw_r h 60 qq _ HAS.out)) | (go_at_call 62; exact quiet_ext (asked_c b p c qq code _ (HL0.out.below (by (repeat (first | (with_reducible exact Below.refl _ _) | (with_reducible assumption) | ((with_reducible refine below_ext_trans ?_ ?_ _); rotate_left; focus (((try dsimp only); repeat (first | omega | simp only [World.size_alloc, World.size_setCell, World.size_drew] | (with_reducible refine le_ext_of ?_) | (with_reducible refine le_ext_add ?_))); done)) | ((with_reducible refine Below.alloc ?_ ?_ _); rotate_left; focus (((try dsimp only); repeat (first | omega | simp only [World.size_alloc, World.size_setCell, World.size_drew] | (with_reducible refine le_ext_of ?_) | (with_reducible refine le_ext_add ?_))); done)) | ((with_reducible refine Below.setCell ?_ ?_ _); rotate_left; focus (((try dsimp only); repeat (first | omega | simp only [World.size_alloc, World.size_setCell, World.size_drew] | (with_reducible refine le_ext_of ?_) | (with_reducible refine le_ext_add ?_))); done)) | (with_reducible refine Below.drew ?_))))) HA.out))))
  (refine wpQuiet_nil ?_; rintro _ ⟨x, rfl⟩)
  generalize hW1 : ext W0 x = W1 at *
  have hB1 : Below W0.heap.size W0 W1 := by rw [← hW1]; exact below_ext _ _
  have HB1 := Lib.hid (HB0.out.trans (hB1.mono HB0.out.size))
  have HQ1 := Lib.hid (HQ0.out.bel hB1)
  have HR1 := Lib.hid (HR0.out.bel hB1)
  have HL1 := Lib.hid (HL0.out.below hB1)
  clear hW1 hB1 HB0 HQ0 HR0 HL0 q0 q1 q2 lq
  by_cases hc0 : code = 0
  · have HG := Lib.hid (show snB b = true ∧ qq = true ∧ rightS b = true by
      rcases HA.out with h | ⟨h1, h2, h3, -⟩
      · exact absurd hc0 h.ne
      · exact ⟨h1, h2, h3⟩)
    subst hc0
    have HOK := Lib.hid (Ok9.of HG.out.1)
    have HHH := Lib.hid (HH0.out HG.out.2.1)
    have q0 := HQ1.out.cell 0
    have q1 := HQ1.out.cell 1
    have q2 := HQ1.out.cell 2
    have lq := HQ1.out.lt
    simp only [List.size_toArray, List.length_cons, List.length_nil, Nat.reduceAdd, Nat.reduceLT, getElem?_pos, List.getElem_toArray, List.getElem_cons_zero, List.getElem_cons_succ] at q0 q1 q2
    go_wp2_with (first
      | (go_at_call 63; refine (at_r b p c h _ HL1.out HC.out HOK.out HHH.out).mono ?_; rintro e w2 ⟨p2, c2, out, rfl, h2, h3, h4, h5⟩; have H2 := Lib.hid h2; have H3 := Lib.hid h3; have H4 := Lib.hid h4; have H5 := Lib.hid h5; clear h2 h3 h4 h5)
      | (go_at_call 68; refine (rates_r out p2 c2 _ H2.out H4.out).mono ?_; rintro e w3 ⟨v, rfl, h6, h7⟩; obtain ⟨p4, c4, rfl, h8, -⟩ := h6.at; have H7 := Lib.hid h7; have H8 := Lib.hid h8; clear h6 h7 h8; have HS := Lib.hid (at_some HG.out.2.2 h H3.out Prod.snd); obtain ⟨a, ha⟩ := HS.out; have HAA := Lib.hid ha; clear ha)
      | (go_at_call 65; refine (ends_q (out.map Prod.snd) p4 c4 _ a s1 s2 _ (List.length_map _) H8.out (by rw [List.length_map]; exact H4.out) HAA.out (by rw [(ends_same H3.out Prod.snd (fun z hz => ⟨(at_bd HOK.out hz).2.1, by have := (at_bd HOK.out hz).2.2; omega⟩) HAA.out).1]; have := HX.out; simpa using this) (by rw [(ends_same H3.out Prod.snd (fun z hz => ⟨(at_bd HOK.out hz).2.1, by have := (at_bd HOK.out hz).2.2; omega⟩) HAA.out).2]; have := HY.out; simpa using this)).mono ?_; rintro e w5 ⟨rfl, h9⟩; have HR5 := Lib.hid ((((HR1.out.bel H5.out).bel H7.out).bel h9)); have HB5 := Lib.hid (((HB1.out.trans (H5.out.mono HB1.out.size)).trans (H7.out.mono (HB1.out.trans (H5.out.mono HB1.out.size)).size)).trans (h9.mono ((HB1.out.trans (H5.out.mono HB1.out.size)).trans (H7.out.mono (HB1.out.trans (H5.out.mono HB1.out.size)).size)).size)); clear h9; have r0 := HR5.out.frozen 0; have r1 := HR5.out.frozen 1; have c0 := HR5.out.cell 0; have c1 := HR5.out.cell 1; have lr := HR5.out.lt; simp only [List.size_toArray, List.length_cons, List.length_nil, Nat.reduceAdd, Nat.reduceLT, getElem?_pos, List.getElem_toArray, List.getElem_cons_zero, List.getElem_cons_succ] at c0 c1))
    have hF := (HR5.out.set 0 (.int .i64 s1)).set 1 (.int .i64 s2)
    have t0 := Blk.cell hF 0
    have t1 := Blk.cell hF 1
    refine bodyPost_ret (v := .tuple #[.agg #[.int .i64 s1, .int .i64 s2], .int .i64 0]) ?_ ?_ ?_
    · simp [results, Tryd.results23, go_sem, c0, c1, lr]
    · rfl
    · exact ⟨rfl, (HB5.out.setCell (by simp) _).setCell (by simp) _⟩
  · have HC0 := Lib.hid hc0
    have hx0 : s1 = 0 := by have := HX.out; rw [if_neg HC0.out] at this; exact this.symm
    have hy0 : s2 = 0 := by have := HY.out; rw [if_neg HC0.out] at this; exact this.symm
    subst hx0 hy0
    have r0 := HR1.out.frozen 0
    have r1 := HR1.out.frozen 1
    have c0 := HR1.out.cell 0
    have c1 := HR1.out.cell 1
    have lr := HR1.out.lt
    simp only [List.size_toArray, List.length_cons, List.length_nil, Nat.reduceAdd, Nat.reduceLT, getElem?_pos, List.getElem_toArray, List.getElem_cons_zero, List.getElem_cons_succ] at c0 c1
    go_wp2_with fail
    refine bodyPost_ret (v := .tuple #[.agg #[.int .i64 0, .int .i64 0], .int .i64 code]) ?_ ?_ ?_
    · simp [results, Tryd.results23, go_sem, c0, c1, lr]
    · rfl
    · exact ⟨rfl, (HB1.out.setCell (by simp) _).setCell (by simp) _⟩
end Go.Proofs.YtjjfpbjdcmkkhaaDoor

namespace Go.Proofs.YtjjfpbjdcmkkhaaDoor
open Go Go.RowKit Go.Shelf
attribute [local go_sem] Oper.semAt_some frozen_alloc_lt
set_option maxRecDepth 100000 in
set_option maxHeartbeats 4000000 in
theorem Can_r (b : Sn) (p : Option Addr) (c : Nat) (h m code : Int) (r : Bool) (w : World) (hl : NotesAt w p b.ns) (hc : SBc b p c) (ha : Asks b (inB h 60 && inB m 400) code) (hr : (if code = 0 then canB b h m else false) = r) :
    Calls Tryd.prog 19 #[bV b p c, .int .i64 h, .int .i64 m] w fun e w' => e = .returned (.tuple #[.bool r, .int .i64 code]) ∧ Below w.heap.size w w' := by
  obtain ⟨qa, has⟩ : ∃ qq, inB h 60 = qq := ⟨_, rfl⟩
  obtain ⟨qb, hbs⟩ : ∃ qq, inB m 400 = qq := ⟨_, rfl⟩
  rw [has, hbs] at ha
  have HH0 := Lib.hid (show qa = true → 0 ≤ h ∧ h ≤ 60 from fun e => by rw [e] at has; simpa [inB] using has)
  have HAS := Lib.hid has
  have HBS := Lib.hid hbs
  have HA := Lib.hid ha
  have HRR := Lib.hid hr
  have HL := Lib.hid hl
  have HC := Lib.hid hc
  clear ha has hbs hr hl hc
  go_enter Tryd.func19, Tryd.ntmps19
  go_upto_region 1 with fail
  generalize hW0 : w.alloc _ = W0
  have hB0 : Below w.heap.size w W0 := by rw [← hW0]; (repeat (first | (with_reducible exact Below.refl _ _) | (with_reducible assumption) | ((with_reducible refine below_ext_trans ?_ ?_ _); rotate_left; focus (((try dsimp only); repeat (first | omega | simp only [World.size_alloc, World.size_setCell, World.size_drew] | (with_reducible refine le_ext_of ?_) | (with_reducible refine le_ext_add ?_))); done)) | ((with_reducible refine Below.alloc ?_ ?_ _); rotate_left; focus (((try dsimp only); repeat (first | omega | simp only [World.size_alloc, World.size_setCell, World.size_drew] | (with_reducible refine le_ext_of ?_) | (with_reducible refine le_ext_add ?_))); done)) | ((with_reducible refine Below.setCell ?_ ?_ _); rotate_left; focus (((try dsimp only); repeat (first | omega | simp only [World.size_alloc, World.size_setCell, World.size_drew] | (with_reducible refine le_ext_of ?_) | (with_reducible refine le_ext_add ?_))); done)) | (with_reducible refine Below.drew ?_)))
  have hq0 : Blk W0 w.heap.size 26 #[.int .i64 b.lo, .int .i64 b.hi, .slice p b.ns.length c] := by rw [← hW0]; exact Blk.new rfl
  have HB0 := Lib.hid hB0
  have HQ0 := Lib.hid hq0
  have HL0 := Lib.hid (HL.out.below hB0)
  have q0 := hq0.cell 0
  have q1 := hq0.cell 1
  have q2 := hq0.cell 2
  have lq := hq0.lt
  simp only [List.size_toArray, List.length_cons, List.length_nil, Nat.reduceAdd, Nat.reduceLT, getElem?_pos, List.getElem_toArray, List.getElem_cons_zero, List.getElem_cons_succ] at q0 q1 q2
  clear hW0 hB0 hq0
  cases qa
  all_goals
    refine wp_region_ext (by kernel_rfl) (by kernel_rfl) ?_
    repeat (go_big_quiet_step (first
      | (go_at_call 38; exact quiet_same (Btw_r _ _ _ _ (by first | exact HAS.out | exact HBS.out)))
      | (go_at_call 62; exact quiet_ext (asked_c b p c _ code _ (HL0.out.below (by (repeat (first | (with_reducible exact Below.refl _ _) | (with_reducible assumption) | ((with_reducible refine below_ext_trans ?_ ?_ _); rotate_left; focus (((try dsimp only); repeat (first | omega | simp only [World.size_alloc, World.size_setCell, World.size_drew] | (with_reducible refine le_ext_of ?_) | (with_reducible refine le_ext_add ?_))); done)) | ((with_reducible refine Below.alloc ?_ ?_ _); rotate_left; focus (((try dsimp only); repeat (first | omega | simp only [World.size_alloc, World.size_setCell, World.size_drew] | (with_reducible refine le_ext_of ?_) | (with_reducible refine le_ext_add ?_))); done)) | ((with_reducible refine Below.setCell ?_ ?_ _); rotate_left; focus (((try dsimp only); repeat (first | omega | simp only [World.size_alloc, World.size_setCell, World.size_drew] | (with_reducible refine le_ext_of ?_) | (with_reducible refine le_ext_add ?_))); done)) | (with_reducible refine Below.drew ?_))))) HA.out))))
    (refine wpQuiet_nil ?_; rintro _ ⟨x, rfl⟩)
    generalize hW1 : ext W0 x = W1 at *
    have hB1 : Below W0.heap.size W0 W1 := by rw [← hW1]; exact below_ext _ _
    have HB1 := Lib.hid (HB0.out.trans (hB1.mono HB0.out.size))
    have HQ1 := Lib.hid (HQ0.out.bel hB1)
    have HL1 := Lib.hid (HL0.out.below hB1)
    clear hW1 hB1 HB0 HQ0 HL0 q0 q1 q2 lq
    by_cases hc0 : code = 0
    rotate_left
    · have hr0 : r = false := by have := HRR.out; rw [if_neg hc0] at this; exact this.symm
      subst hr0
      go_wp2_with fail
      refine bodyPost_ret (v := .tuple #[.bool false, .int .i64 code]) (by simp [results, Tryd.results19, go_sem]) rfl ?_
      exact ⟨rfl, HB1.out⟩
  · exfalso
    rcases HA.out with h | ⟨-, h2, -, -⟩
    · exact absurd hc0 h.ne
    · cases h2
  · have HG := Lib.hid (show snB b = true ∧ rightS b = true by
      rcases HA.out with h | ⟨h1, h2, h3, -⟩
      · exact absurd hc0 h.ne
      · exact ⟨h1, h3⟩)
    subst hc0
    have HOK := Lib.hid (Ok9.of HG.out.1)
    have HHH := Lib.hid (HH0.out rfl)
    have HRQ := Lib.hid (show canB b h m = r by have := HRR.out; simpa using this)
    clear HRR
    have q0 := HQ1.out.cell 0
    have q1 := HQ1.out.cell 1
    have q2 := HQ1.out.cell 2
    have lq := HQ1.out.lt
    simp only [List.size_toArray, List.length_cons, List.length_nil, Nat.reduceAdd, Nat.reduceLT, getElem?_pos, List.getElem_toArray, List.getElem_cons_zero, List.getElem_cons_succ] at q0 q1 q2
    go_upto_region 5 with (go_at_call 63; refine (at_r b p c h _ HL1.out HC.out HOK.out HHH.out).mono ?_; rintro e w2 ⟨p2, c2, l, rfl, h2, h3, h4, h5⟩; have H2 := Lib.hid h2; have H3 := Lib.hid h3; have H4 := Lib.hid h4; have H5 := Lib.hid h5; clear h2 h3 h4 h5)
    have HB2 := Lib.hid (HB1.out.trans (H5.out.mono HB1.out.size))
    generalize hM : l.length = M at *
    have HM := Lib.hid hM
    clear hM q0 q1 q2 lq HQ1 HL1 HB1 H5
    go_wp2_with fail
    go_loopw [10] (fun i wr => ∃ j : Nat, j ≤ M ∧ i = .int .i64 j ∧ wr = w2 ∧ Hid (∀ z ∈ l.take j, z.1 ≠ m)) (fun i _ => M - (intOf i).toNat)
    case atStart => exact ⟨0, by omega, rfl, by first | rfl | trivial, Lib.hid (fun z hz => by simp at hz)⟩
    case round =>
      obtain ⟨j, hj, rfl, rfl, HN⟩ := hrel
      by_cases hlt : j < M
      · obtain ⟨⟨y1, y2⟩, hy⟩ := get_some l j (by have := HM.out; omega)
        obtain ⟨bl, ol, hp, hbl, c0, c1⟩ := H2.out j _ hy
        subst hp
        dsimp only at c0 c1
        have j0 : (0 : Int) ≤ (j : Int) := by omega
        have j1 : (j : Int) < (M : Int) := by omega
        have hc : decide (j < M) = true := by simpa using hlt
        have HTK := Lib.hid (show l.take (j + 1) = l.take j ++ [(y1, y2)] by rw [List.take_add_one, hy]; rfl)
        have HYM := Lib.hid ((H3.out _).1 (List.mem_of_getElem? hy))
        have e1 : IntKind.i64.wrap ((j : Int) + 1) = ((j + 1 : Nat) : Int) := by rw [IntWalk.i64_in _ (by have := H4.out; omega)]; push_cast; rfl
        have HJ := Lib.hid hlt
        clear hy hlt
        by_cases he : y1 = m
        · have HR := Lib.hid (show r = true by
            rw [← HRQ.out]
            unfold canB
            exact List.any_eq_true.2 ⟨_, HYM.out, decide_eq_true he⟩)
          have HE := Lib.hid he
          have hd : (y1 == m) = true := by simpa using he
          clear he
          go_wp2_with fail
          refine bodyPost_ret (v := .tuple #[.bool true, .int .i64 0]) (by simp [results, Tryd.results19, go_sem]) rfl ?_
          exact ⟨by rw [HR.out], HB2.out⟩
        · have HN2 := Lib.hid (show ∀ z ∈ l.take (j + 1), z.1 ≠ m by
            rw [HTK.out]
            intro z hz
            rcases List.mem_append.1 hz with hz | hz
            · exact HN.out z hz
            · rw [List.mem_singleton.1 hz]; exact he)
          have hd : (y1 == m) = false := by simpa using he
          clear he
          go_wp2_with fail
          go_roundw
          case rel => exact ⟨j + 1, HJ.out, rfl, by first | rfl | trivial, HN2⟩
          case measure => have := HJ.out; simp [intOf]; omega
      · have hc : decide (j < M) = false := by simpa using hlt
        have HR := Lib.hid (show r = false by
          rw [← HRQ.out, Bool.eq_false_iff]
          intro hcan
          unfold canB at hcan
          obtain ⟨z, hz, e⟩ := List.any_eq_true.1 hcan
          rw [List.take_of_length_le (by have := HM.out; omega)] at HN
          exact HN.out z ((H3.out z).2 hz) (of_decide_eq_true e))
        clear hlt
        go_wp2_with fail
        refine bodyPost_ret (v := .tuple #[.bool false, .int .i64 0]) (by simp [results, Tryd.results19, go_sem]) rfl ?_
        exact ⟨by rw [HR.out], HB2.out⟩
end Go.Proofs.YtjjfpbjdcmkkhaaDoor

namespace Go.Proofs.YtjjfpbjdcmkkhaaDoor
open Go Go.RowKit Go.Shelf
/-- What is told of the hour at which a seine surely is empty. -/
def EmptyIs (b : Sn) (code n c : Int) : Prop := (¬ code = 0 ∧ n = 0 ∧ c = code) ∨ (code = 0 ∧ ((∃ k : Nat, k ≤ 60 ∧ topH b k = 0 ∧ (∀ j : Nat, j < k → topH b j ≠ 0) ∧ n = (k : Int) ∧ c = 0) ∨ ((∀ j : Nat, j ≤ 60 → topH b j ≠ 0) ∧ n = 0 ∧ c = 4)))
theorem EmptyIs.uniq {b : Sn} {code n c n' c' : Int} (h : EmptyIs b code n c) (h' : EmptyIs b code n' c') : n = n' ∧ c = c' := by
  rcases h with ⟨h0, h1, h2⟩ | ⟨h0, ⟨k, h1, h2, h3, h4, h5⟩ | ⟨h1, h2, h3⟩⟩ <;> rcases h' with ⟨k0, k1, k2⟩ | ⟨k0, ⟨k', k1, k2, k3, k4, k5⟩ | ⟨k1, k2, k3⟩⟩
  all_goals first
    | exact absurd k0 h0
    | exact absurd h0 k0
    | (exact ⟨by omega, by omega⟩)
    | skip
  · have : k = k' := by
      rcases Nat.lt_trichotomy k k' with h | h | h
      · exact absurd h2 (k3 k h)
      · exact h
      · exact absurd k2 (h3 k' h)
    subst this
    exact ⟨by omega, by omega⟩
  · exact absurd h2 (k1 k h1)
  · exact absurd k2 (h1 k' k1)
attribute [local go_sem] Oper.semAt_some frozen_alloc_lt
set_option maxRecDepth 100000 in
set_option maxHeartbeats 4000000 in
theorem Empty_r (b : Sn) (p : Option Addr) (c : Nat) (code : Int) (w : World) (hl : NotesAt w p b.ns) (hc : SBc b p c) (ha : Asks b true code) :
    Calls Tryd.prog 26 #[bV b p c] w fun e w' => ∃ n c', e = .returned (.tuple #[.int .i64 n, .int .i64 c']) ∧ EmptyIs b code n c' ∧ Below w.heap.size w w' := by
  have HA := Lib.hid ha
  have HL := Lib.hid hl
  have HC := Lib.hid hc
  clear ha hl hc
  go_enter Tryd.func26, Tryd.ntmps26
  go_upto_region 1 with fail
  generalize hW0 : w.alloc _ = W0
  have hB0 : Below w.heap.size w W0 := by rw [← hW0]; (repeat (first | (with_reducible exact Below.refl _ _) | (with_reducible assumption) | ((with_reducible refine below_ext_trans ?_ ?_ _); rotate_left; focus (((try dsimp only); repeat (first | omega | simp only [World.size_alloc, World.size_setCell, World.size_drew] | (with_reducible refine le_ext_of ?_) | (with_reducible refine le_ext_add ?_))); done)) | ((with_reducible refine Below.alloc ?_ ?_ _); rotate_left; focus (((try dsimp only); repeat (first | omega | simp only [World.size_alloc, World.size_setCell, World.size_drew] | (with_reducible refine le_ext_of ?_) | (with_reducible refine le_ext_add ?_))); done)) | ((with_reducible refine Below.setCell ?_ ?_ _); rotate_left; focus (((try dsimp only); repeat (first | omega | simp only [World.size_alloc, World.size_setCell, World.size_drew] | (with_reducible refine le_ext_of ?_) | (with_reducible refine le_ext_add ?_))); done)) | (with_reducible refine Below.drew ?_)))
  have hq0 : Blk W0 w.heap.size 26 #[.int .i64 b.lo, .int .i64 b.hi, .slice p b.ns.length c] := by rw [← hW0]; exact Blk.new rfl
  have HB0 := Lib.hid hB0
  have HQ0 := Lib.hid hq0
  have HL0 := Lib.hid (HL.out.below hB0)
  have q0 := hq0.cell 0
  have q1 := hq0.cell 1
  have q2 := hq0.cell 2
  have lq := hq0.lt
  simp only [List.size_toArray, List.length_cons, List.length_nil, Nat.reduceAdd, Nat.reduceLT, getElem?_pos, List.getElem_toArray, List.getElem_cons_zero, List.getElem_cons_succ] at q0 q1 q2
  clear hW0 hB0 hq0
  go_upto_region 2 with (go_at_call 62; refine (asked_c b p c true code _ (HL0.out.below (by (repeat (first | (with_reducible exact Below.refl _ _) | (with_reducible assumption) | ((with_reducible refine below_ext_trans ?_ ?_ _); rotate_left; focus (((try dsimp only); repeat (first | omega | simp only [World.size_alloc, World.size_setCell, World.size_drew] | (with_reducible refine le_ext_of ?_) | (with_reducible refine le_ext_add ?_))); done)) | ((with_reducible refine Below.alloc ?_ ?_ _); rotate_left; focus (((try dsimp only); repeat (first | omega | simp only [World.size_alloc, World.size_setCell, World.size_drew] | (with_reducible refine le_ext_of ?_) | (with_reducible refine le_ext_add ?_))); done)) | ((with_reducible refine Below.setCell ?_ ?_ _); rotate_left; focus (((try dsimp only); repeat (first | omega | simp only [World.size_alloc, World.size_setCell, World.size_drew] | (with_reducible refine le_ext_of ?_) | (with_reducible refine le_ext_add ?_))); done)) | (with_reducible refine Below.drew ?_))))) HA.out).mono ?_; rintro e w1 ⟨rfl, y, hw⟩; have HY := Lib.hid hw; clear hw)
  have hB1 : Below W0.heap.size W0 w1 := by rw [HY.out]; exact below_ext _ _
  have HB1 := Lib.hid (HB0.out.trans (hB1.mono HB0.out.size))
  have HQ1 := Lib.hid (HQ0.out.bel hB1)
  have HL1 := Lib.hid (HL0.out.below hB1)
  clear hB1 HB0 HQ0 HL0 q0 q1 q2 lq HY
  by_cases hc0 : code = 0
  rotate_left
  · have HE := Lib.hid hc0
    go_wp2_with fail
    refine bodyPost_ret (v := .tuple #[.int .i64 0, .int .i64 code]) (by simp [results, Tryd.results26, go_sem]) rfl ?_
    exact ⟨0, code, rfl, .inl ⟨HE.out, rfl, rfl⟩, HB1.out⟩
  · have HG := Lib.hid (show snB b = true ∧ rightS b = true by
      rcases HA.out with h | ⟨h1, h2, h3, -⟩
      · exact absurd hc0 h.ne
      · exact ⟨h1, h3⟩)
    subst hc0
    have HOK := Lib.hid (Ok9.of HG.out.1)
    go_wp2_with fail
    go_loopw [5] (fun i wr => ∃ k : Nat, k ≤ 61 ∧ i = .int .i64 k ∧ Hid (∀ j : Nat, j < k → topH b j ≠ 0) ∧ Hid (Below w1.heap.size w1 wr)) (fun i _ => 61 - (intOf i).toNat)
    case atStart => exact ⟨0, by omega, rfl, Lib.hid (fun j hj => by omega), Lib.hid (Below.refl _ _)⟩
    case round =>
      obtain ⟨k, hk, rfl, HN, HBr⟩ := hrel
      by_cases hlt : k < 61
      · have hk0 : (0 : Int) ≤ (k : Int) := by omega
        have hk1 : (k : Int) ≤ 60 := by omega
        have HQ2 := Lib.hid (HQ1.out.bel HBr.out)
        have HL2 := Lib.hid (HL1.out.below HBr.out)
        have q0 := HQ2.out.cell 0
        have q1 := HQ2.out.cell 1
        have q2 := HQ2.out.cell 2
        have lq := HQ2.out.lt
        simp only [List.size_toArray, List.length_cons, List.length_nil, Nat.reduceAdd, Nat.reduceLT, getElem?_pos, List.getElem_toArray, List.getElem_cons_zero, List.getElem_cons_succ] at q0 q1 q2
        obtain ⟨t, ht⟩ : ∃ t, topH b k = t := ⟨_, rfl⟩
        have HT := Lib.hid ht
        clear ht
        by_cases hz : t = 0
        · subst hz
          go_wp2_with (first
      | (go_at_call 63; refine (at_r b p c k _ HL2.out HC.out HOK.out ⟨hk0, hk1⟩).mono ?_; rintro e w2 ⟨p2, c2, out, rfl, h2, h3, h4, h5⟩; have H2 := Lib.hid h2; have H3 := Lib.hid h3; have H4 := Lib.hid h4; have H5 := Lib.hid h5; clear h2 h3 h4 h5)
      | (go_at_call 66; refine (held_r out p2 c2 _ H2.out H4.out).mono ?_; rintro e w3 ⟨v, rfl, h6, h7⟩; obtain ⟨p4, c4, rfl, h8, -⟩ := h6.at; have H7 := Lib.hid h7; have H8 := Lib.hid h8; clear h6 h7 h8; have HS := Lib.hid (at_some HG.out.2 k H3.out Prod.fst); obtain ⟨a, ha⟩ := HS.out; have HAA := Lib.hid ha; clear ha)
      | (go_at_call 65; refine (ends_q (out.map Prod.fst) p4 c4 _ a (minF Prod.fst 400 (atL b k)) 0 _ (List.length_map _) H8.out (by rw [List.length_map]; exact H4.out) HAA.out (ends_same H3.out Prod.fst (fun z hz => (at_bd HOK.out hz).1) HAA.out).1 ((ends_same H3.out Prod.fst (fun z hz => (at_bd HOK.out hz).1) HAA.out).2.trans HT.out)).mono ?_; rintro e w5 ⟨rfl, h9⟩; have H9 := Lib.hid h9; clear h9; have hf := field_top (minF Prod.fst 400 (atL b (k : Int))) 0 w5))
          have HBN := Lib.hid (((HBr.out.trans (H5.out.mono HBr.out.size)).trans (H7.out.mono (HBr.out.trans (H5.out.mono HBr.out.size)).size)).trans (H9.out.mono ((HBr.out.trans (H5.out.mono HBr.out.size)).trans (H7.out.mono (HBr.out.trans (H5.out.mono HBr.out.size)).size)).size))
          refine bodyPost_ret (v := .tuple #[.int .i64 k, .int .i64 0]) (by simp [results, Tryd.results26, go_sem]) rfl ?_
          exact ⟨k, 0, rfl, .inr ⟨rfl, .inl ⟨k, by omega, HT.out, HN.out, rfl, rfl⟩⟩, HB1.out.trans (HBN.out.mono HB1.out.size)⟩
        · have HZ := Lib.hid hz
          have hd : (t == 0) = false := by simpa using hz
          go_wp2_with (first
      | (go_at_call 63; refine (at_r b p c k _ HL2.out HC.out HOK.out ⟨hk0, hk1⟩).mono ?_; rintro e w2 ⟨p2, c2, out, rfl, h2, h3, h4, h5⟩; have H2 := Lib.hid h2; have H3 := Lib.hid h3; have H4 := Lib.hid h4; have H5 := Lib.hid h5; clear h2 h3 h4 h5)
      | (go_at_call 66; refine (held_r out p2 c2 _ H2.out H4.out).mono ?_; rintro e w3 ⟨v, rfl, h6, h7⟩; obtain ⟨p4, c4, rfl, h8, -⟩ := h6.at; have H7 := Lib.hid h7; have H8 := Lib.hid h8; clear h6 h7 h8; have HS := Lib.hid (at_some HG.out.2 k H3.out Prod.fst); obtain ⟨a, ha⟩ := HS.out; have HAA := Lib.hid ha; clear ha)
      | (go_at_call 65; refine (ends_q (out.map Prod.fst) p4 c4 _ a (minF Prod.fst 400 (atL b k)) t _ (List.length_map _) H8.out (by rw [List.length_map]; exact H4.out) HAA.out (ends_same H3.out Prod.fst (fun z hz => (at_bd HOK.out hz).1) HAA.out).1 ((ends_same H3.out Prod.fst (fun z hz => (at_bd HOK.out hz).1) HAA.out).2.trans HT.out)).mono ?_; rintro e w5 ⟨rfl, h9⟩; have H9 := Lib.hid h9; clear h9; have hf := field_top (minF Prod.fst 400 (atL b (k : Int))) t w5))
          have HBN := Lib.hid (((HBr.out.trans (H5.out.mono HBr.out.size)).trans (H7.out.mono (HBr.out.trans (H5.out.mono HBr.out.size)).size)).trans (H9.out.mono ((HBr.out.trans (H5.out.mono HBr.out.size)).trans (H7.out.mono (HBr.out.trans (H5.out.mono HBr.out.size)).size)).size))
          go_roundw
          case rel =>
            refine ⟨k + 1, by omega, by go_num, Lib.hid (fun j hj => ?_), HBN⟩
            rcases Nat.lt_or_ge j k with h1 | h1
            · exact HN.out j h1
            · obtain rfl : j = k := by omega
              rw [HT.out]; exact HZ.out
          case measure => simp [intOf]; omega
      · obtain rfl : k = 61 := by omega
        go_wp2_with fail
        refine bodyPost_ret (v := .tuple #[.int .i64 0, .int .i64 4]) (by simp [results, Tryd.results26, go_sem]) rfl ?_
        exact ⟨0, 4, rfl, .inr ⟨rfl, .inr ⟨fun j hj => HN.out j (by omega), rfl, rfl⟩⟩, HB1.out.trans (HBr.out.mono HB1.out.size)⟩
end Go.Proofs.YtjjfpbjdcmkkhaaDoor

namespace Go.Proofs.YtjjfpbjdcmkkhaaDoor
open Go Go.RowKit Go.Shelf
theorem aft_none (q : Int × Int) (n : Int) (hn : n = 0) : aftS q n = q := by
  subst hn; rfl
theorem endH_last (ns : List Nt) : endH 0 ns = lastN ns := by
  have := endH_take ns ns.length 0 (Nat.le_refl _)
  rw [List.take_length, pastF_zero] at this
  exact this
/-- Those behind all notes are those at the hour of the last one. -/
theorem all_at {b : Sn} (hok : Ok9 b) {z : Int × Int} : (∃ x ∈ startL b.lo b.hi, Leads 0 (b.ns.take b.ns.length) x z) ↔ z ∈ atL b (lastN b.ns) := by
  have h0 := (lastN_bd hok).1
  rw [at_leads hok h0, up_last hok (Int.le_refl _), List.drop_length]
  constructor
  · rintro ⟨x, hx, h⟩
    refine ⟨z, ⟨x, hx, h⟩, ?_, z, rfl⟩
    rw [List.take_length, endH_last]
    exact (aft_none z _ (by omega)).symm
  · rintro ⟨y, ⟨x, hx, h⟩, e, -⟩
    rw [List.take_length, endH_last, aft_none y _ (by omega)] at e
    subst e
    exact ⟨x, hx, h⟩
section
variable {o : Oper} {w : World} (ρ : Operand → Value)
theorem run_subC {t : Nat} {x y z : Int} (hop : o.op = .binOp .sub 3 (.const (.int .i64 x)) (.tmp t) 3) (hs : ρ (.const (.int .i64 x)) = .int .i64 x) (ht : ρ (.tmp t) = .int .i64 y) (hz : IntKind.i64.wrap (x - y) = z) : (execOp ρ o).run Tryd.prog w = .ok (.value (.int .i64 z)) w := by
  unfold execOp; simp [hop, hs, ht, go_sem, hz]
theorem run_field0R {t : Nat} {x y : Int} (hop : o.op = .field 96 (.tmp t) 0) (hs : ρ (.tmp t) = .agg #[.int .i64 x, .int .i64 y]) : (execOp ρ o).run Tryd.prog w = .ok (.value (.int .i64 x)) w := by
  unfold execOp; simp [hop, hs, Instr.field, run_underlying Tryd.underlying96, go_sem, part, asAgg]
theorem run_fR0 {g j t : Nat} (hop : o.op = .fieldAddr 96 (.tmp t) 0) (hs : ρ (.tmp t) = .pointer (some ⟨g, j, none⟩)) (hl : g < w.heap.size) : (execOp ρ o).run Tryd.prog w = .ok (.value (.pointer (some ⟨g, j, none⟩))) w := by
  unfold execOp; simp [hop, hs, go_sem, hl]
end
/-- What the operations leave that go through all notes. -/
def allR (B : Nat) (b : Sn) (p : Option Addr) (c : Nat) (fr : Int) (i : Nat) (u : Value) (w : World) : Prop :=
  match i with
  | 0 => u = .agg #[.int .i64 b.lo, .int .i64 b.hi, .slice p b.ns.length c]
  | 1 => ∃ q d, u = .slice q (startL b.lo b.hi).length d ∧ RsAt w q (startL b.lo b.hi)
  | 2 => u = .pointer (some ⟨B, 2, none⟩)
  | 3 => u = .slice p b.ns.length c
  | 4 => ∃ (q : Option Addr) (d : Nat) (out : List (Int × Int)), u = .tuple #[.slice q out.length d, .int .i64 fr] ∧ FstR b b.ns.length w q out
  | 5 => ∃ (q : Option Addr) (d : Nat) (out : List (Int × Int)), u = .tuple #[.slice q out.length d, .int .i64 fr] ∧ FstR b b.ns.length w q out
  | 6 => ∃ (q : Option Addr) (d : Nat) (out : List (Int × Int)), u = .slice q out.length d ∧ FstR b b.ns.length w q out
  | 7 => u = .int .i64 fr
  | 8 => ∃ (q : Option Addr) (d : Nat) (out : List (Int × Int)), u = .slice q out.length d ∧ FstR b b.ns.length w q out
  | _ => True
theorem allR_kept (B : Nat) (b : Sn) (p : Option Addr) (c : Nat) (fr : Int) : ∀ i, i < 9 → ∀ (u : Value) (w w' : World), allR B b p c fr i u w → Below w.heap.size w w' → allR B b p c fr i u w' := by
  intro i hi u w w' h hb
  match i, hi, h with
  | 0, _, h => exact h
  | 1, _, h => obtain ⟨q, d, h1, h2⟩ := h; exact ⟨q, d, h1, h2.below hb⟩
  | 2, _, h => exact h
  | 3, _, h => exact h
  | 4, _, h => obtain ⟨q, d, out, h1, h2⟩ := h; exact ⟨q, d, out, h1, h2.bel hb⟩
  | 5, _, h => obtain ⟨q, d, out, h1, h2⟩ := h; exact ⟨q, d, out, h1, h2.bel hb⟩
  | 6, _, h => obtain ⟨q, d, out, h1, h2⟩ := h; exact ⟨q, d, out, h1, h2.bel hb⟩
  | 7, _, h => exact h
  | 8, _, h => obtain ⟨q, d, out, h1, h2⟩ := h; exact ⟨q, d, out, h1, h2.bel hb⟩
  | k + 9, hk, _ => omega
/-- What the operations of a round leave that tells what a state still loses. -/
def lossR (v : Value) (q : Option Addr) (M d j bl ol : Nat) (y : Int × Int) (fr m : Int) (i : Nat) (u : Value) (w : World) : Prop :=
  match i with
  | 0 => u = v
  | 1 => u = .slice (some ⟨bl, ol, none⟩) M d
  | 2 => u = .int .i64 j
  | 3 => u = .pointer (some ⟨bl, ol + j * 2, none⟩)
  | 4 => u = .pointer (some ⟨bl, ol + j * 2, none⟩)
  | 5 => u = .int .i64 y.1
  | 6 => u = .slice (some ⟨bl, ol, none⟩) M d
  | 7 => u = .int .i64 j
  | 8 => u = .pointer (some ⟨bl, ol + j * 2, none⟩)
  | 9 => u = .agg #[.int .i64 y.1, .int .i64 y.2]
  | 10 => u = .int .i64 fr
  | 11 => u = .int .i64 (60 - fr)
  | 12 => u = .agg #[.int .i64 m, .int .i64 y.2]
  | 13 => u = .int .i64 m
  | 14 => u = .int .i64 (y.1 - m)
  | 15 => ∃ g, u = .slice (some ⟨g, 0, none⟩) 1 1 ∧ Blk w g 3 #[.int .i64 (y.1 - m)]
  | _ => True
theorem lossR_kept (v : Value) (q : Option Addr) (M d j bl ol : Nat) (y : Int × Int) (fr m : Int) : ∀ i, i < 16 → ∀ (u : Value) (w w' : World), lossR v q M d j bl ol y fr m i u w → Below w.heap.size w w' → lossR v q M d j bl ol y fr m i u w' := by
  intro i hi u w w' h hb
  match i, hi, h with
  | 0, _, h => exact h
  | 1, _, h => exact h
  | 2, _, h => exact h
  | 3, _, h => exact h
  | 4, _, h => exact h
  | 5, _, h => exact h
  | 6, _, h => exact h
  | 7, _, h => exact h
  | 8, _, h => exact h
  | 9, _, h => exact h
  | 10, _, h => exact h
  | 11, _, h => exact h
  | 12, _, h => exact h
  | 13, _, h => exact h
  | 14, _, h => exact h
  | 15, _, h => obtain ⟨g, h1, h2⟩ := h; exact ⟨g, h1, h2.bel hb⟩
  | k + 16, hk, _ => omega
attribute [local go_sem] Oper.semAt_some frozen_alloc_lt
set_option maxRecDepth 100000 in
set_option maxHeartbeats 8000000 in
theorem Saved_r (b : Sn) (p : Option Addr) (c : Nat) (code s1 s2 : Int) (w : World) (hl : NotesAt w p b.ns) (ha : Asks b true code) (hx : (if code = 0 then minF (savS (60 - lastN b.ns)) 400 (atL b (lastN b.ns)) else 0) = s1) (hy : (if code = 0 then maxF (savS (60 - lastN b.ns)) 0 (atL b (lastN b.ns)) else 0) = s2) :
    Calls Tryd.prog 28 #[bV b p c] w fun e w' => e = .returned (.tuple #[.agg #[.int .i64 s1, .int .i64 s2], .int .i64 code]) ∧ Below w.heap.size w w' := by
  have HA := Lib.hid ha
  have HX := Lib.hid hx
  have HY := Lib.hid hy
  have HL := Lib.hid hl
  clear ha hx hy hl
  go_enter Tryd.func28, Tryd.ntmps28
  go_upto_region 1 with fail
  generalize hW0 : (w.alloc _).alloc _ = W0
  have hB0 : Below w.heap.size w W0 := by rw [← hW0]; (repeat (first | (with_reducible exact Below.refl _ _) | (with_reducible assumption) | ((with_reducible refine below_ext_trans ?_ ?_ _); rotate_left; focus (((try dsimp only); repeat (first | omega | simp only [World.size_alloc, World.size_setCell, World.size_drew] | (with_reducible refine le_ext_of ?_) | (with_reducible refine le_ext_add ?_))); done)) | ((with_reducible refine Below.alloc ?_ ?_ _); rotate_left; focus (((try dsimp only); repeat (first | omega | simp only [World.size_alloc, World.size_setCell, World.size_drew] | (with_reducible refine le_ext_of ?_) | (with_reducible refine le_ext_add ?_))); done)) | ((with_reducible refine Below.setCell ?_ ?_ _); rotate_left; focus (((try dsimp only); repeat (first | omega | simp only [World.size_alloc, World.size_setCell, World.size_drew] | (with_reducible refine le_ext_of ?_) | (with_reducible refine le_ext_add ?_))); done)) | (with_reducible refine Below.drew ?_)))
  have hq0 : Blk W0 w.heap.size 26 #[.int .i64 b.lo, .int .i64 b.hi, .slice p b.ns.length c] := by rw [← hW0]; exact (Blk.new rfl).alloc _
  have hr0 : Blk W0 (w.heap.size + 1) 23 #[.int .i64 0, .int .i64 0] := by rw [← hW0]; exact Blk.new (by simp)
  have HB0 := Lib.hid hB0
  have HQ0 := Lib.hid hq0
  have HR0 := Lib.hid hr0
  have HL0 := Lib.hid (HL.out.below hB0)
  have q0 := hq0.cell 0
  have q1 := hq0.cell 1
  have q2 := hq0.cell 2
  have lq := hq0.lt
  simp only [List.size_toArray, List.length_cons, List.length_nil, Nat.reduceAdd, Nat.reduceLT, getElem?_pos, List.getElem_toArray, List.getElem_cons_zero, List.getElem_cons_succ] at q0 q1 q2
  clear hW0 hB0 hq0 hr0
  go_upto_region 2 with (go_at_call 62; refine (asked_c b p c true code _ (HL0.out.below (by (repeat (first | (with_reducible exact Below.refl _ _) | (with_reducible assumption) | ((with_reducible refine below_ext_trans ?_ ?_ _); rotate_left; focus (((try dsimp only); repeat (first | omega | simp only [World.size_alloc, World.size_setCell, World.size_drew] | (with_reducible refine le_ext_of ?_) | (with_reducible refine le_ext_add ?_))); done)) | ((with_reducible refine Below.alloc ?_ ?_ _); rotate_left; focus (((try dsimp only); repeat (first | omega | simp only [World.size_alloc, World.size_setCell, World.size_drew] | (with_reducible refine le_ext_of ?_) | (with_reducible refine le_ext_add ?_))); done)) | ((with_reducible refine Below.setCell ?_ ?_ _); rotate_left; focus (((try dsimp only); repeat (first | omega | simp only [World.size_alloc, World.size_setCell, World.size_drew] | (with_reducible refine le_ext_of ?_) | (with_reducible refine le_ext_add ?_))); done)) | (with_reducible refine Below.drew ?_))))) HA.out).mono ?_; rintro e w1 ⟨rfl, y, hw⟩; have HY0 := Lib.hid hw; clear hw)
  have hB1 : Below W0.heap.size W0 w1 := by rw [HY0.out]; exact below_ext _ _
  have HB1 := Lib.hid (HB0.out.trans (hB1.mono HB0.out.size))
  have HQ1 := Lib.hid (HQ0.out.bel hB1)
  have HR1 := Lib.hid (HR0.out.bel hB1)
  have HL1 := Lib.hid (HL0.out.below hB1)
  clear hB1 HB0 HQ0 HL0 HR0 q0 q1 q2 lq HY0
  by_cases hc0 : code = 0
  rotate_left
  · have HC0 := Lib.hid hc0
    have hx0 : s1 = 0 := by have := HX.out; rw [if_neg HC0.out] at this; exact this.symm
    have hy0 : s2 = 0 := by have := HY.out; rw [if_neg HC0.out] at this; exact this.symm
    subst hx0 hy0
    have r0 := HR1.out.frozen 0
    have r1 := HR1.out.frozen 1
    have c0 := HR1.out.cell 0
    have c1 := HR1.out.cell 1
    have lr := HR1.out.lt
    simp only [List.size_toArray, List.length_cons, List.length_nil, Nat.reduceAdd, Nat.reduceLT, getElem?_pos, List.getElem_toArray, List.getElem_cons_zero, List.getElem_cons_succ] at c0 c1
    go_wp2_with fail
    refine bodyPost_ret (v := .tuple #[.agg #[.int .i64 0, .int .i64 0], .int .i64 code]) ?_ ?_ ?_
    · simp [results, Tryd.results28, go_sem, c0, c1, lr]
    · rfl
    · exact ⟨rfl, (HB1.out.setCell (by simp) _).setCell (by simp) _⟩
  · have HG := Lib.hid (show snB b = true ∧ rightS b = true by
      rcases HA.out with h | ⟨h1, h2, h3, -⟩
      · exact absurd hc0 h.ne
      · exact ⟨h1, h3⟩)
    have HXX := Lib.hid (show minF (savS (60 - lastN b.ns)) 400 (atL b (lastN b.ns)) = s1 by have := HX.out; rw [if_pos hc0] at this; exact this)
    have HYY := Lib.hid (show maxF (savS (60 - lastN b.ns)) 0 (atL b (lastN b.ns)) = s2 by have := HY.out; rw [if_pos hc0] at this; exact this)
    subst hc0
    have hok := Ok9.of HG.out.1
    have HOK := Lib.hid hok
    have hsp : 0 ≤ b.lo ∧ b.lo ≤ b.hi ∧ b.hi ≤ 400 := by have := hok.span; unfold SpanOK at this; omega
    have hlen := hok.len
    obtain ⟨fr, hfr⟩ : ∃ fr, lastN b.ns = fr := ⟨_, rfl⟩
    have hfb : 0 ≤ fr ∧ fr ≤ 60 := by rw [← hfr]; exact lastN_bd hok
    have HFR := Lib.hid hfr
    have HCH := Lib.hid hok.chain
    clear HX HY hok hfr
    go_upto_region 4 with fail
    refine wp_region_flow_back 9 48 (allR w.heap.size b p c fr) (by kernel_rfl) (by kernel_rfl) rfl (allR_kept _ _ _ _ _) ?_ ?_
    · intro i hin a X g1 g2 g3 g4 g5 KK hKK
      have kX := HQ1.out.bel g5
      have hc2 := kX.cell 2
      match i, hin with
      | 0, _ => exact st_val rfl (wanted_none rfl) (run_lBookS _ rfl (g3 1 (by kernel_rfl)) kX) (hKK _ _ rfl (Below.refl _ _))
      | 1, _ =>
        refine st_call rfl rfl (wanted_none rfl) (sargs1 (g4 0 (by kernel_rfl))) (run_enter Tryd.func71 (by kernel_rfl) (by kernel_rfl) _) ?_
        refine (begun_r b p c X hsp.1 hsp.2.1 hsp.2.2).mono ?_
        rintro e w1 ⟨v, rfl, h1, x, rfl⟩
        obtain ⟨q, d, rfl, h2⟩ := h1.at
        exact ⟨_, rfl, hKK _ _ ⟨q, d, rfl, h2⟩ (below_ext _ x)⟩
      | 2, _ => exact st_val rfl (wanted_none rfl) (run_fBook1 _ rfl (g3 1 (by kernel_rfl)) kX.lt) (hKK _ _ rfl (Below.refl _ _))
      | 3, _ => exact st_val rfl (wanted_none rfl) (run_lNotes _ rfl (g4 2 (by kernel_rfl)) hc2) (hKK _ _ rfl (Below.refl _ _))
      | 4, _ =>
        obtain ⟨q, d, h1, h2⟩ := g4 1 (by kernel_rfl)
        refine st_call rfl rfl (wanted_none rfl) (argsC3 h1 (g4 3 (by kernel_rfl))) (run_enter Tryd.func70 (by kernel_rfl) (by kernel_rfl) _) ?_
        refine (through_n (startL b.lo b.hi) q d 0 (b.ns.take b.ns.length) p c 0 _ b.ns.length X rfl (by rw [List.take_length]) h2 (startL_bd hsp) (pow_le (by rw [List.take_length]; omega) (startL_len hsp)) (by omega) ((HL1.out.below g5).take _) (by rw [List.take_length]; exact HCH.out) (by rw [List.take_length]; omega)).mono ?_
        rintro e w1 ⟨q', d', out, rfl, h3, h4, h5, h6, h7⟩
        have e1 : endH 0 (b.ns.take b.ns.length) = fr := by rw [List.take_length, endH_last]; exact HFR.out
        have e2 : 0 + (b.ns.take b.ns.length).length = b.ns.length := by rw [List.take_length]; omega
        rw [e2] at h5
        exact ⟨_, rfl, hKK _ _ ⟨q', d', out, by rw [e1], h3, h4, h5, h6⟩ h7⟩
      | 5, _ =>
        obtain ⟨q, d, out, h1, h2⟩ := g4 4 (by kernel_rfl)
        exact st_move rfl rfl (wanted_none rfl) h1 (hKK _ _ ⟨q, d, out, rfl, h2⟩ (Below.refl _ _))
      | 6, _ =>
        obtain ⟨q, d, out, h1, h2⟩ := g4 5 (by kernel_rfl)
        exact st_val rfl (wanted_none rfl) (run_extractS _ rfl h1 rfl) (hKK _ _ ⟨q, d, out, rfl, h2⟩ (Below.refl _ _))
      | 7, _ =>
        obtain ⟨q, d, out, h1, h2⟩ := g4 5 (by kernel_rfl)
        exact st_val rfl (wanted_none rfl) (run_extractS _ rfl h1 rfl) (hKK _ _ rfl (Below.refl _ _))
      | 8, _ =>
        obtain ⟨q, d, out, h1, h2⟩ := g4 6 (by kernel_rfl)
        exact st_asgR rfl rfl (wanted_none rfl) h1 (hKK _ _ ⟨q, d, out, rfl, h2⟩ (Below.refl _ _))
      | k + 9, hk => omega
    intro vs W2 hvs hBW2
    have v0 : vs 0 = _ := hvs 0 (by omega)
    obtain ⟨q1, d1, v1, -⟩ := hvs 1 (by omega)
    have v2 : vs 2 = _ := hvs 2 (by omega)
    have v3 : vs 3 = _ := hvs 3 (by omega)
    obtain ⟨q6, d6, o6, v4, -⟩ := hvs 4 (by omega)
    obtain ⟨q7, d7, o7, v5, -⟩ := hvs 5 (by omega)
    obtain ⟨q8, d8, o8, v6, -⟩ := hvs 6 (by omega)
    have v7 : vs 7 = _ := hvs 7 (by omega)
    obtain ⟨q, d, l, v8, hF⟩ := hvs 8 (by omega)
    simp only [putAll, v0, v1, v2, v3, v4, v5, v6, v7, v8]
    clear v0 v1 v2 v3 v4 v5 v6 v7 v8 hvs
    simp only [dstOf, Act.put, List.getElem?_toArray, List.getElem?_cons_zero, List.getElem?_cons_succ, Option.bind_some, Option.getD_some, List.setIfInBounds_toArray, List.set_cons_succ, List.set_cons_zero, List.drop_succ_cons, List.drop_zero]
    have HF := Lib.hid hF
    have HB2 := Lib.hid (HB1.out.trans (hBW2.mono HB1.out.size))
    have HR2 := Lib.hid (HR1.out.bel hBW2)
    clear hBW2 hF HB1 HQ1 HR1 HL1
    have HMEM := Lib.hid (show ∀ z, z ∈ l ↔ z ∈ atL b (lastN b.ns) from fun z => (HF.out.2.1 z).trans (all_at HOK.out))
    have HNE := Lib.hid (at_some HG.out.2 (lastN b.ns) HMEM.out (savS (60 - lastN b.ns)))
    generalize hM : l.length = M
    have HM := Lib.hid hM
    clear hM
    go_wp2_with fail
    go_loopw [7, 8] (fun o i wr => ∃ j : Nat, j ≤ M ∧ i = .int .i64 j ∧ Hid (OwnInts wr W2.heap.size o ((l.take j).map (savS (60 - fr)))) ∧ Hid (Below W2.heap.size W2 wr)) (fun _ i _ => M - (intOf i).toNat)
    case atStart => exact ⟨0, by omega, rfl, Lib.hid (OwnInts.nil _ _), Lib.hid (Below.refl _ _)⟩
    case round =>
      obtain ⟨j, hj, rfl, HO, HBr⟩ := hrel
      by_cases hlt : j < M
      · obtain ⟨⟨y1, y2⟩, hy⟩ := get_some l j (by have := HM.out; omega)
        obtain ⟨bl, ol, hp, hbl, c0, c1⟩ := (HF.out.1.below HBr.out) j _ hy
        subst hp
        dsimp only at c0 c1
        have hyb := HF.out.2.2.1 _ (List.mem_of_getElem? hy)
        unfold StR at hyb
        dsimp only at hyb
        obtain ⟨z1, hz1⟩ : ∃ z1, (aftS (y1, y2) (60 - fr)).1 = z1 := ⟨_, rfl⟩
        have hzb : 0 ≤ z1 ∧ z1 ≤ 400 := by rw [← hz1]; exact (aftS_bd hyb.1 hyb.2.1).1
        have HTK := Lib.hid (show (l.take (j + 1)).map (savS (60 - fr)) = (l.take j).map (savS (60 - fr)) ++ [y1 - z1] by
          rw [List.take_add_one, hy, ← hz1]
          simp [savS])
        have hlm := HF.out.2.2.2
        have hmm := HM.out
        have j0 : (0 : Int) ≤ (j : Int) := by omega
        have j1 : (j : Int) < (M : Int) := by omega
        have HLO := Lib.hid (show ((l.take j).map (savS (60 - fr))).length ≤ 8700000000000 by rw [List.length_map]; have := List.length_take_le j l; omega)
        have e1 : IntKind.i64.wrap ((j : Int) + 1) = ((j + 1 : Nat) : Int) := by rw [IntWalk.i64_in _ (by omega)]; push_cast; rfl
        have hzr := HBr.out.size
        clear hlm hmm hy
        go_upto_region 9 with fail
        refine wp_region_flow_back 16 48 (lossR u7 (some ⟨bl, ol, none⟩) M d j bl ol (y1, y2) fr z1) (by kernel_rfl) (by kernel_rfl) rfl (lossR_kept _ _ _ _ _ _ _ _ _ _) ?_ ?_
        · intro i hin a X g1 g2 g3 g4 g5 KK hKK
          have e0 := (g5.cell (p := ⟨bl, ol + j * 2, none⟩) hbl).trans c0
          have e2 := (g5.cell (p := ⟨bl, ol + j * 2 + 1, none⟩) hbl).trans c1
          have hbX := Nat.lt_of_lt_of_le hbl g5.size
          match i, hin with
          | 0, _ => exact st_move rfl rfl (wanted_none rfl) (g3 7 (by kernel_rfl)) (hKK _ _ rfl (Below.refl _ _))
          | 1, _ => exact st_move rfl rfl (wanted_none rfl) (g3 5 (by kernel_rfl)) (hKK _ _ rfl (Below.refl _ _))
          | 2, _ => exact st_move rfl rfl (wanted_none rfl) (g3 8 (by kernel_rfl)) (hKK _ _ rfl (Below.refl _ _))
          | 3, _ => exact st_val rfl (wanted_none rfl) (run_atRst _ rfl (g4 1 (by kernel_rfl)) (g4 2 (by kernel_rfl)) hlt hbX) (hKK _ _ rfl (Below.refl _ _))
          | 4, _ => exact st_val rfl (wanted_none rfl) (run_fR0 _ rfl (g4 3 (by kernel_rfl)) hbX) (hKK _ _ rfl (Below.refl _ _))
          | 5, _ => exact st_val rfl (wanted_none rfl) (run_lNum _ rfl (g4 4 (by kernel_rfl)) e0) (hKK _ _ rfl (Below.refl _ _))
          | 6, _ => exact st_move rfl rfl (wanted_none rfl) (g3 5 (by kernel_rfl)) (hKK _ _ rfl (Below.refl _ _))
          | 7, _ => exact st_move rfl rfl (wanted_none rfl) (g3 8 (by kernel_rfl)) (hKK _ _ rfl (Below.refl _ _))
          | 8, _ => exact st_val rfl (wanted_none rfl) (run_atRst _ rfl (g4 6 (by kernel_rfl)) (g4 7 (by kernel_rfl)) hlt hbX) (hKK _ _ rfl (Below.refl _ _))
          | 9, _ => exact st_val rfl (wanted_none rfl) (run_lRst _ rfl (g4 8 (by kernel_rfl)) e0 e2) (hKK _ _ rfl (Below.refl _ _))
          | 10, _ => exact st_move rfl rfl (wanted_none rfl) (g3 6 (by kernel_rfl)) (hKK _ _ rfl (Below.refl _ _))
          | 11, _ => exact st_val rfl (wanted_none rfl) (run_subC _ rfl rfl (g4 10 (by kernel_rfl)) (IntWalk.i64_in _ (by omega))) (hKK _ _ rfl (Below.refl _ _))
          | 12, _ =>
            refine st_call rfl rfl (wanted_none rfl) (sargs2 (g4 9 (by kernel_rfl)) (g4 11 (by kernel_rfl))) (run_enter Tryd.func72 (by kernel_rfl) (by kernel_rfl) _) ?_
            refine (pass_r y1 y2 (60 - fr) z1 _ hyb.1 (by omega) (by omega) hz1).mono ?_
            rintro e w1 ⟨rfl, x, rfl⟩
            exact ⟨_, rfl, hKK _ _ rfl (below_ext _ x)⟩
          | 13, _ => exact st_val rfl (wanted_none rfl) (run_field0R _ rfl (g4 12 (by kernel_rfl))) (hKK _ _ rfl (Below.refl _ _))
          | 14, _ => exact st_val rfl (wanted_none rfl) (run_subN _ rfl (g4 5 (by kernel_rfl)) (g4 13 (by kernel_rfl)) (IntWalk.i64_in _ (by omega))) (hKK _ _ rfl (Below.refl _ _))
          | 15, _ => exact st_valw rfl (wanted_none rfl) (run_one _ rfl (g4 14 (by kernel_rfl))) (hKK _ _ ⟨_, rfl, Blk.new rfl⟩ ((Below.refl _ _).alloc (Nat.le_refl _) _))
          | k + 16, hk => omega
        intro vs W5 hvs hBW5
        have v0 : vs 0 = _ := hvs 0 (by omega)
        have v1 : vs 1 = _ := hvs 1 (by omega)
        have v2 : vs 2 = _ := hvs 2 (by omega)
        have v3 : vs 3 = _ := hvs 3 (by omega)
        have v4 : vs 4 = _ := hvs 4 (by omega)
        have v5 : vs 5 = _ := hvs 5 (by omega)
        have v6 : vs 6 = _ := hvs 6 (by omega)
        have v7 : vs 7 = _ := hvs 7 (by omega)
        have v8 : vs 8 = _ := hvs 8 (by omega)
        have v9 : vs 9 = _ := hvs 9 (by omega)
        have v10 : vs 10 = _ := hvs 10 (by omega)
        have v11 : vs 11 = _ := hvs 11 (by omega)
        have v12 : vs 12 = _ := hvs 12 (by omega)
        have v13 : vs 13 = _ := hvs 13 (by omega)
        have v14 : vs 14 = _ := hvs 14 (by omega)
        obtain ⟨g15, v15, hg15⟩ := hvs 15 (by omega)
        simp only [putAll, v0, v1, v2, v3, v4, v5, v6, v7, v8, v9, v10, v11, v12, v13, v14, v15]
        clear v0 v1 v2 v3 v4 v5 v6 v7 v8 v9 v10 v11 v12 v13 v14 v15 hvs
        simp only [dstOf, Act.put, List.getElem?_toArray, List.getElem?_cons_zero, List.getElem?_cons_succ, Option.bind_some, Option.getD_some, List.setIfInBounds_toArray, List.set_cons_succ, List.set_cons_zero, List.drop_succ_cons, List.drop_zero]
        have HB5 := Lib.hid (HBr.out.trans (hBW5.mono HBr.out.size))
        have HO5 := Lib.hid (HO.out.below hBW5)
        have HG5 := Lib.hid hg15
        have HZ5 := Lib.hid (show W2.heap.size ≤ W5.heap.size from HB5.out.size)
        clear hBW5 hg15 HBr HO c0 c1 hbl hzr hz1 hzb hyb
        obtain ⟨q9, cq9, e9, -⟩ := HO5.out.at
        subst e9
        go_wp2_with (at_builtin; refine wpList_append_nr rfl _ _ rfl W2.heap.size _ _ rfl HO5.out g15 (y1 - z1) rfl (HG5.out.cell 0) HLO.out HZ5.out ?_; intro v' w1 ho hg; have HO6 := Lib.hid ho; have HG6 := Lib.hid hg; clear ho hg)
        have HB6 := Lib.hid (Below.grown HB5.out HG6.out HZ5.out (fun j hj => (HO5.out.lt j hj).1))
        go_wp2_with fail
        go_roundw
        case rel => exact ⟨j + 1, hlt, rfl, by rw [HTK.out]; exact HO6, HB6⟩
        case measure => simp [intOf]; omega
      · have hc : decide (j < M) = false := by simpa using hlt
        have HE := Lib.hid (show l.take j = l from List.take_of_length_le (by have := HM.out; omega))
        clear hlt
        obtain ⟨q9, cq9, e9, h9, -⟩ := HO.out.at
        subst e9
        have HI := Lib.hid (show IntsAt wr q9 (l.map (savS (60 - lastN b.ns))) by rw [HFR.out]; rw [HE.out] at h9; exact h9)
        have HLN := Lib.hid (show (l.map (savS (60 - lastN b.ns))).length = ((l.take j).map (savS (60 - fr))).length by rw [List.length_map, List.length_map, HE.out])
        obtain ⟨a, ha⟩ := HNE.out
        have HAA := Lib.hid ha
        have HES := Lib.hid (ends_same HMEM.out (savS (60 - lastN b.ns)) (fun z hz => by
          have h1 := at_bd HOK.out hz
          unfold StR at h1
          have h2 := aftS_bd (n := 60 - lastN b.ns) h1.1 h1.2.1
          have h3 : (aftS z (60 - lastN b.ns)).1 ≤ z.1 := by
            unfold aftS
            dsimp only
            rw [afterH_eq h1.2.1 _ _ h1.1.1]
            have h4 : 0 ≤ (((60 - lastN b.ns).toNat : Int)) * z.2 := Int.mul_nonneg (by omega) h1.2.1
            omega
          unfold savS
          omega) ha)
        clear h9 ha
        go_wp2_with (go_at_call 65; refine (ends_q (l.map (savS (60 - lastN b.ns))) q9 cq9 _ a s1 s2 _ (by rw [HLN.out]; simp) HI.out (by rw [List.length_map]; exact HF.out.2.2.2) HAA.out (HES.out.1.trans HXX.out) (HES.out.2.trans HYY.out)).mono ?_; rintro e w5 ⟨rfl, h9⟩; have HR5 := Lib.hid ((HR2.out.bel HBr.out).bel h9); have HB5 := Lib.hid (HB2.out.trans ((HBr.out.trans (h9.mono HBr.out.size)).mono HB2.out.size)); clear h9; have r0 := HR5.out.frozen 0; have r1 := HR5.out.frozen 1; have c0 := HR5.out.cell 0; have c1 := HR5.out.cell 1; have lr := HR5.out.lt; simp only [List.size_toArray, List.length_cons, List.length_nil, Nat.reduceAdd, Nat.reduceLT, getElem?_pos, List.getElem_toArray, List.getElem_cons_zero, List.getElem_cons_succ] at c0 c1)
        have hF := (HR5.out.set 0 (.int .i64 s1)).set 1 (.int .i64 s2)
        have t0 := Blk.cell hF 0
        have t1 := Blk.cell hF 1
        refine bodyPost_ret (v := .tuple #[.agg #[.int .i64 s1, .int .i64 s2], .int .i64 0]) ?_ ?_ ?_
        · simp [results, Tryd.results28, go_sem, c0, c1, lr]
        · rfl
        · exact ⟨rfl, (HB5.out.setCell (by simp) _).setCell (by simp) _⟩
end Go.Proofs.YtjjfpbjdcmkkhaaDoor

