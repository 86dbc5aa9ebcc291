/- For the laws of package seine: the chapter's books in memory. -/
/- For the laws of package seine: the chapter's calls, each with its answer. -/
import Derived.Test.YtjjfpbjdcmkkhaaDoorQJa
import Derived.Test.YtjjfpbjdcmkkhaaDoorQNd
import Derived.Test.YtjjfpbjdcmkkhaaDoorQNf
import Derived.Test.YtjjfpbjdcmkkhaaDoorQNb
set_option linter.unusedSimpArgs false
set_option linter.unusedVariables false
namespace Go.Proofs.YtjjfpbjdcmkkhaaDoor
open Go Go.RowKit Go.Shelf
theorem wpList_app_none {ops : Array Oper} {rest : List Oper} {o : Oper} {a : Act} {Q : Exit → Act → World → Prop} {w : World} (hgd : o.guard = none) (s x : Operand)
    (ho : o.op = .call { callee := .builtin .append, args := #[s, x], argTypes := #[24, 24] })
    (g n cap : Nat) (hs : a.eval s = .slice (some ⟨g, 0, none⟩) n cap) (hn : n ≤ cap) (hx : a.eval x = .slice none 0 0)
    (h : wpList Tryd.prog ops Q rest (a.put o.dst (.slice (some ⟨g, 0, none⟩) n cap)) w) : wpList Tryd.prog ops Q (o :: rest) a w := by
  refine wpList_plain hgd fun K hK' => ?_
  have hr := run_append_none (ty := o.type) g n cap w hn
  unfold Oper.wp execOp
  simp only [ho, resolve, invoke, builtin, Sem.run_bind, Sem.run_pure, Result.andThen_ok, List.map_toArray, List.map_cons, List.map_nil, hs, hx, hr]
  exact hK' _ _ h
theorem wpList_app_notes {ops : Array Oper} {rest : List Oper} {o : Oper} {a : Act} {Q : Exit → Act → World → Prop} {w : World} (hgd : o.guard = none) (s x : Operand)
    (ho : o.op = .call { callee := .builtin .append, args := #[s, x], argTypes := #[24, 24] }) (B : Nat)
    (v : Value) (l : List Nt) (hs : a.eval s = v) (hown : OwnNs w B v l) (b o' c : Nat) (L : List Nt) (hx : a.eval x = .slice (some ⟨b, o', none⟩) L.length c) (hc : NotesAt w (some ⟨b, o', none⟩) L)
    (hl : l.length + L.length ≤ 1000) (hB : B ≤ w.heap.size)
    (h : ∀ v' w', OwnNs w' B v' (l ++ L) → w.grownBy w' v.ownBlock → wpList Tryd.prog ops Q rest (a.put o.dst v') w') : wpList Tryd.prog ops Q (o :: rest) a w := by
  obtain ⟨i0, hi, hz0, hz1, hz2⟩ := info_parts info_note
  refine wpList_append_own w hgd s x 24 ho B 38 i0 (.agg #[.int .i64 0, .int .i64 0, .int .i64 0, .int .i64 0]) 4 32 under_notes hi hz0 hz1 hz2 rfl (by decide) v l.length _ hs hown ⟨b, o', none⟩ L.length c (encNs L) hx (encNs_len L) hc.cells (encNs_one _) ?_ ?_ hB ?_
  · unfold maxLen; omega
  · omega
  · intro v' w' h1 h2 _
    refine h v' w' ?_ h2
    unfold OwnNs
    rw [encNs_append, List.length_append]
    exact h1
attribute [local go_sem] Oper.semAt_some frozen_alloc_lt
set_option maxHeartbeats 1000000 in
theorem note_any (k h lo hi : Int) (w : World) : Calls Tryd.prog 40 #[.int .i64 k, .int .i64 h, .agg #[.int .i64 lo, .int .i64 hi]] w fun e w' => e = .returned (.agg #[.int .i64 k, .int .i64 h, .int .i64 lo, .int .i64 hi]) ∧ ∃ x, w' = ext w x := by
  go_enter Tryd.func40, Tryd.ntmps40
  go_wp2
  refine bodyPost_ret (v := .agg #[.int .i64 k, .int .i64 h, .int .i64 lo, .int .i64 hi]) (by simp [results, Tryd.results40, go_sem]) rfl ⟨rfl, ?_⟩
  (exact ext_of (by (repeat (first | (with_reducible exact Below.refl _ _) | (with_reducible assumption) | ((with_reducible refine below_ext_trans ?_ ?_ _); rotate_left; focus (((try dsimp only); repeat (first | omega | simp only [World.size_alloc, World.size_setCell, World.size_drew] | (with_reducible refine le_ext_of ?_) | (with_reducible refine le_ext_add ?_))); done)) | ((with_reducible refine Below.alloc ?_ ?_ _); rotate_left; focus (((try dsimp only); repeat (first | omega | simp only [World.size_alloc, World.size_setCell, World.size_drew] | (with_reducible refine le_ext_of ?_) | (with_reducible refine le_ext_add ?_))); done)) | ((with_reducible refine Below.setCell ?_ ?_ _); rotate_left; focus (((try dsimp only); repeat (first | omega | simp only [World.size_alloc, World.size_setCell, World.size_drew] | (with_reducible refine le_ext_of ?_) | (with_reducible refine le_ext_add ?_))); done)) | (with_reducible refine Below.drew ?_)))))
/-- A book that lies where it was laid, its notes in memory of its own. -/
def BookAt (w : World) (B : Nat) (b : Sn) (e : Ending) (w' : World) : Prop := ∃ (g c : Nat), e = .returned (.agg #[.int .i64 b.lo, .int .i64 b.hi, .slice (some ⟨g, 0, none⟩) b.ns.length c]) ∧ OwnNs w' B (.slice (some ⟨g, 0, none⟩) b.ns.length c) b.ns ∧ ∃ x, w' = ext w x
set_option maxHeartbeats 1000000 in
theorem leaky_any (w : World) : Calls Tryd.prog 51 #[] w (BookAt w w.heap.size leakyW) := by
  go_enter Tryd.func51, Tryd.ntmps51
  go_wp2_with (first
    | (go_at_call 48; refine (To_any _ _ _).mono ?_; rintro e w1 ⟨rfl, y, rfl⟩)
    | (go_at_call 40; refine (note_any _ _ _ _ _).mono ?_; rintro e w1 ⟨rfl, y, rfl⟩))
  generalize hg : (ext _ _).heap.size = g
  have hgl : w.heap.size < g := by
    rw [← hg]
    refine Nat.lt_of_lt_of_le ?_ (below_ext _ _).size
    simp
  refine bodyPost_ret (v := .agg #[.int .i64 20, .int .i64 24, .slice (some ⟨g, 0, none⟩) 1 1]) ?_ rfl ⟨g, 1, rfl, (OwnNs.of_blk (g := g) (n := 1) (l := leakyW.ns) (Blk.new (by simp [hg])) rfl rfl (by decide)).mono (by omega), ?_⟩
  · simp [results, Tryd.results51, go_sem]
  · (exact ext_of (by (repeat (first | (with_reducible exact Below.refl _ _) | (with_reducible assumption) | ((with_reducible refine below_ext_trans ?_ ?_ _); rotate_left; focus (((try dsimp only); repeat (first | omega | simp only [World.size_alloc, World.size_setCell, World.size_drew] | (with_reducible refine le_ext_of ?_) | (with_reducible refine le_ext_add ?_))); done)) | ((with_reducible refine Below.alloc ?_ ?_ _); rotate_left; focus (((try dsimp only); repeat (first | omega | simp only [World.size_alloc, World.size_setCell, World.size_drew] | (with_reducible refine le_ext_of ?_) | (with_reducible refine le_ext_add ?_))); done)) | ((with_reducible refine Below.setCell ?_ ?_ _); rotate_left; focus (((try dsimp only); repeat (first | omega | simp only [World.size_alloc, World.size_setCell, World.size_drew] | (with_reducible refine le_ext_of ?_) | (with_reducible refine le_ext_add ?_))); done)) | (with_reducible refine Below.drew ?_)))))
set_option maxHeartbeats 1000000 in
theorem book_none (w : World) : Calls Tryd.prog 49 #[.slice none 0 0] w (BookAt w w.heap.size bookW) := by
  go_enter Tryd.func49, Tryd.ntmps49
  go_upto_region 2 with (first
    | (go_at_call 48; refine (To_any _ _ _).mono ?_; rintro e w1 ⟨rfl, y, rfl⟩)
    | (go_at_call 39; refine (Just_any _ _).mono ?_; rintro e w1 ⟨rfl, y, rfl⟩)
    | (go_at_call 40; refine (note_any _ _ _ _ _).mono ?_; rintro e w1 ⟨rfl, y, rfl⟩))
  generalize hW : (ext _ _).alloc _ = W
  generalize hg : (ext _ _).heap.size = g
  have hgl : w.heap.size < g := by
    rw [← hg]
    refine Nat.lt_of_lt_of_le ?_ (below_ext _ _).size
    simp
  have hB : Below w.heap.size w W := by rw [← hW]; (repeat (first | (with_reducible exact Below.refl _ _) | (with_reducible assumption) | ((with_reducible refine below_ext_trans ?_ ?_ _); rotate_left; focus (((try dsimp only); repeat (first | omega | simp only [World.size_alloc, World.size_setCell, World.size_drew] | (with_reducible refine le_ext_of ?_) | (with_reducible refine le_ext_add ?_))); done)) | ((with_reducible refine Below.alloc ?_ ?_ _); rotate_left; focus (((try dsimp only); repeat (first | omega | simp only [World.size_alloc, World.size_setCell, World.size_drew] | (with_reducible refine le_ext_of ?_) | (with_reducible refine le_ext_add ?_))); done)) | ((with_reducible refine Below.setCell ?_ ?_ _); rotate_left; focus (((try dsimp only); repeat (first | omega | simp only [World.size_alloc, World.size_setCell, World.size_drew] | (with_reducible refine le_ext_of ?_) | (with_reducible refine le_ext_add ?_))); done)) | (with_reducible refine Below.drew ?_)))
  have hb : Blk W w.heap.size 26 #[.int .i64 0, .int .i64 0, .slice none 0 0] := by rw [← hW]; exact ((Blk.new rfl).ext _).alloc _
  have hn : OwnNs W g (.slice (some ⟨g, 0, none⟩) 4 4) bookW.ns := by rw [← hW]; exact OwnNs.of_blk (Blk.new hg.symm) rfl rfl (by decide)
  have HB := Lib.hid hB
  have Hb := Lib.hid hb
  have HN := Lib.hid hn
  have hl := hb.lt
  have f0 := hb.frozen 0
  have f1 := hb.frozen 1
  have f2 := hb.frozen 2
  have c0 := hb.cell 0
  have c1 := hb.cell 1
  have c2 := hb.cell 2
  simp only [List.size_toArray, List.length_cons, List.length_nil, Nat.reduceAdd, Nat.reduceLT, getElem?_pos, List.getElem_toArray, List.getElem_cons_zero, List.getElem_cons_succ] at c0 c1 c2
  clear hW hg hB hb hn
  go_wp2_with (first
    | (go_at_call 48; refine (To_any _ _ _).mono ?_; rintro e w1 ⟨rfl, y, rfl⟩)
    | (at_builtin; refine wpList_app_none rfl _ _ rfl g 4 4 rfl (by decide) rfl ?_))
  have hB3 : Below w.heap.size w ((((ext W y).setCell ⟨w.heap.size, 0, none⟩ (.int .i64 100)).setCell ⟨w.heap.size, 1, none⟩ (.int .i64 110)).setCell ⟨w.heap.size, 2, none⟩ (.slice (some ⟨g, 0, none⟩) 4 4)) :=
    (((HB.out.trans ((below_ext W y).mono (by omega))).setCell (by dsimp only; omega) _).setCell (by dsimp only; omega) _).setCell (by dsimp only; omega) _
  have hne : ∀ X Y Z, ((((ext W y).setCell ⟨w.heap.size, 0, none⟩ X).setCell ⟨w.heap.size, 1, none⟩ Y).setCell ⟨w.heap.size, 2, none⟩ Z).heap[g]? = W.heap[g]? := fun X Y Z =>
    (Below.heap_setCell _ _ _ _ (by dsimp only; omega)).trans ((Below.heap_setCell _ _ _ _ (by dsimp only; omega)).trans ((Below.heap_setCell _ _ _ _ (by dsimp only; omega)).trans ((below_ext W y).block g (HN.out.lt g rfl).2)))
  have hbF := (((Hb.out.ext y).set 0 (.int .i64 100)).set 1 (.int .i64 110)).set 2 (.slice (some ⟨g, 0, none⟩) 4 4)
  have t0 := Blk.cell hbF 0
  have t1 := Blk.cell hbF 1
  have t2 := Blk.cell hbF 2
  refine bodyPost_ret (v := .agg #[.int .i64 100, .int .i64 110, .slice (some ⟨g, 0, none⟩) 4 4]) ?_ rfl ⟨g, 4, rfl, (HN.out.kept (fun g' hg' => ?_)).mono (by omega), ext_of hB3⟩
  · simp [results, Tryd.results49, go_sem, c0, c1, c2, hl]
  · obtain rfl : g = g' := by simpa [Value.ownBlock] using hg'
    exact hne _ _ _
theorem box_kept {W : World} {b g : Nat} {cs : Array Value} {n c : Nat} {w3 : World} (h : Blk W b 26 cs) (y : Grow W) (hg : (ext W y).grownBy w3 (Value.slice (some ⟨g, 0, none⟩) n c).ownBlock) (hl : b < g) : Blk w3 b 26 cs :=
  (hg.block b (Nat.lt_of_lt_of_le h.lt (below_ext W y).size) (fun e => by simp [Value.ownBlock] at e; omega)).trans (h.ext y)
theorem box_below {w W : World} {g : Nat} {n c : Nat} {w3 : World} (h : Below w.heap.size w W) (y : Grow W) (hg : (ext W y).grownBy w3 (Value.slice (some ⟨g, 0, none⟩) n c).ownBlock) (hl : w.heap.size < g) : Below w.heap.size w w3 :=
  (h.trans ((below_ext W y).mono h.size)).trans ⟨hg.os, hg.tape, hg.output, hg.size, fun k hk => hg.block k (Nat.lt_of_lt_of_le (Nat.lt_of_lt_of_le hk h.size) (below_ext W y).size) (fun e => by simp [Value.ownBlock] at e; omega)⟩
set_option maxHeartbeats 1000000 in
theorem book_more (b2 o2 cm : Nat) (L : List Nt) (w : World) (hL : NotesAt w (some ⟨b2, o2, none⟩) L) (hn : L.length ≤ 100) : Calls Tryd.prog 49 #[.slice (some ⟨b2, o2, none⟩) L.length cm] w (BookAt w w.heap.size ⟨100, 110, bookW.ns ++ L⟩) := by
  have HL := Lib.hid hL
  clear hL
  go_enter Tryd.func49, Tryd.ntmps49
  go_upto_region 2 with (first
    | (go_at_call 48; refine (To_any _ _ _).mono ?_; rintro e w1 ⟨rfl, y, rfl⟩)
    | (go_at_call 39; refine (Just_any _ _).mono ?_; rintro e w1 ⟨rfl, y, rfl⟩)
    | (go_at_call 40; refine (note_any _ _ _ _ _).mono ?_; rintro e w1 ⟨rfl, y, rfl⟩))
  generalize hW : (ext _ _).alloc _ = W
  generalize hg : (ext _ _).heap.size = g
  have hgl : w.heap.size < g := by
    rw [← hg]
    refine Nat.lt_of_lt_of_le ?_ (below_ext _ _).size
    simp
  have hB : Below w.heap.size w W := by rw [← hW]; (repeat (first | (with_reducible exact Below.refl _ _) | (with_reducible assumption) | ((with_reducible refine below_ext_trans ?_ ?_ _); rotate_left; focus (((try dsimp only); repeat (first | omega | simp only [World.size_alloc, World.size_setCell, World.size_drew] | (with_reducible refine le_ext_of ?_) | (with_reducible refine le_ext_add ?_))); done)) | ((with_reducible refine Below.alloc ?_ ?_ _); rotate_left; focus (((try dsimp only); repeat (first | omega | simp only [World.size_alloc, World.size_setCell, World.size_drew] | (with_reducible refine le_ext_of ?_) | (with_reducible refine le_ext_add ?_))); done)) | ((with_reducible refine Below.setCell ?_ ?_ _); rotate_left; focus (((try dsimp only); repeat (first | omega | simp only [World.size_alloc, World.size_setCell, World.size_drew] | (with_reducible refine le_ext_of ?_) | (with_reducible refine le_ext_add ?_))); done)) | (with_reducible refine Below.drew ?_)))
  have hb : Blk W w.heap.size 26 #[.int .i64 0, .int .i64 0, .slice none 0 0] := by rw [← hW]; exact ((Blk.new rfl).ext _).alloc _
  have hn : OwnNs W g (.slice (some ⟨g, 0, none⟩) 4 4) bookW.ns := by rw [← hW]; exact OwnNs.of_blk (Blk.new hg.symm) rfl rfl (by decide)
  have HB := Lib.hid hB
  have Hb := Lib.hid hb
  have HN := Lib.hid hn
  have hl := hb.lt
  have f0 := hb.frozen 0
  have f1 := hb.frozen 1
  have f2 := hb.frozen 2
  have c0 := hb.cell 0
  have c1 := hb.cell 1
  have c2 := hb.cell 2
  simp only [List.size_toArray, List.length_cons, List.length_nil, Nat.reduceAdd, Nat.reduceLT, getElem?_pos, List.getElem_toArray, List.getElem_cons_zero, List.getElem_cons_succ] at c0 c1 c2
  clear hW hg hB hb hn
  have HL2 := Lib.hid (HL.out.below HB.out)
  go_wp2_with (first
    | (go_at_call 48; refine (To_any _ _ _).mono ?_; rintro e w1 ⟨rfl, y, rfl⟩)
    | (at_builtin; refine wpList_app_notes rfl _ _ rfl (w.heap.size + 1) _ bookW.ns rfl (OwnNs.mono (HN.out.below (below_ext W y)) (by omega)) b2 o2 cm L rfl (HL2.out.below (below_ext W y)) (by simp; omega) (by have := (below_ext W y).size; omega) ?_; intro v' w3 hO hg3; obtain ⟨gn, cn, rfl, hcn⟩ := hO.form (by simp); have hb3 := box_kept Hb.out y hg3 hgl; have HO := Lib.hid hO; have HG3 := Lib.hid hg3; have Hb3 := Lib.hid hb3; have d0 := hb3.cell 0; have d1 := hb3.cell 1; have d2 := hb3.cell 2; have e0 := hb3.frozen 0; have e1 := hb3.frozen 1; have e2 := hb3.frozen 2; have e3 := hb3.lt; simp only [List.size_toArray, List.length_cons, List.length_nil, Nat.reduceAdd, Nat.reduceLT, getElem?_pos, List.getElem_toArray, List.getElem_cons_zero, List.getElem_cons_succ] at d0 d1 d2; clear hO hg3 hb3))
  have hB3 : Below w.heap.size w ((((w3).setCell ⟨w.heap.size, 0, none⟩ (.int .i64 100)).setCell ⟨w.heap.size, 1, none⟩ (.int .i64 110)).setCell ⟨w.heap.size, 2, none⟩ (.slice (some ⟨gn, 0, none⟩) (bookW.ns ++ L).length cn)) :=
    (((box_below HB.out y HG3.out hgl).setCell (by dsimp only; omega) _).setCell (by dsimp only; omega) _).setCell (by dsimp only; omega) _
  have hgn := (HO.out.lt gn rfl).1
  have hne : ∀ X Y Z, (((w3.setCell ⟨w.heap.size, 0, none⟩ X).setCell ⟨w.heap.size, 1, none⟩ Y).setCell ⟨w.heap.size, 2, none⟩ Z).heap[gn]? = w3.heap[gn]? := fun X Y Z =>
    (Below.heap_setCell _ _ _ _ (by dsimp only; omega)).trans ((Below.heap_setCell _ _ _ _ (by dsimp only; omega)).trans (Below.heap_setCell _ _ _ _ (by dsimp only; omega)))
  have hbF := ((Hb3.out.set 0 (.int .i64 100)).set 1 (.int .i64 110)).set 2 (.slice (some ⟨gn, 0, none⟩) (bookW.ns ++ L).length cn)
  have t0 := Blk.cell hbF 0
  have t1 := Blk.cell hbF 1
  have t2 := Blk.cell hbF 2
  refine bodyPost_ret (v := .agg #[.int .i64 100, .int .i64 110, .slice (some ⟨gn, 0, none⟩) (bookW.ns ++ L).length cn]) ?_ rfl ⟨gn, cn, rfl, (HO.out.kept (fun g' hg' => ?_)).mono (by omega), ext_of hB3⟩
  · simp [results, Tryd.results49, go_sem, d0, d1, d2, e3]
  · obtain rfl : gn = g' := by simpa [Value.ownBlock] using hg'
    exact hne _ _ _
theorem ext_alloc_ge {w : World} {o o2 : Obj} (y : Grow (w.alloc o)) : w.heap.size + 1 ≤ ((ext (w.alloc o) y).alloc o2).heap.size := by
  have hz := (below_ext (w.alloc o) y).size
  rw [World.size_alloc] at hz ⊢
  omega
set_option maxHeartbeats 1000000 in
theorem torn_any (w : World) : Calls Tryd.prog 50 #[] w (BookAt w w.heap.size tornW) := by
  go_enter Tryd.func50, Tryd.ntmps50
  go_wp2_with (first
    | (go_at_call 39; refine (Just_any _ _).mono ?_; rintro e w1 ⟨rfl, y, rfl⟩)
    | (go_at_call 40; refine (note_any _ _ _ _ _).mono ?_; rintro e w1 ⟨rfl, y, rfl⟩)
    | (go_at_call 49; refine (book_more _ 0 1 [⟨4, 30, 60, 60⟩] _ (notes_of_blk (Blk.new rfl) rfl (by decide)) (by decide)).mono ?_; rintro e w1 ⟨g, c, rfl, hO, y, hw1⟩; have hbT : Blk w1 w.heap.size 26 #[.int .i64 0, .int .i64 0, .slice none 0 0] := (by rw [hw1]; exact (((Blk.new rfl).ext _).alloc _).ext y); have HBT := Lib.hid (show Below w.heap.size w w1 by rw [hw1]; (repeat (first | (with_reducible exact Below.refl _ _) | (with_reducible assumption) | ((with_reducible refine below_ext_trans ?_ ?_ _); rotate_left; focus (((try dsimp only); repeat (first | omega | simp only [World.size_alloc, World.size_setCell, World.size_drew] | (with_reducible refine le_ext_of ?_) | (with_reducible refine le_ext_add ?_))); done)) | ((with_reducible refine Below.alloc ?_ ?_ _); rotate_left; focus (((try dsimp only); repeat (first | omega | simp only [World.size_alloc, World.size_setCell, World.size_drew] | (with_reducible refine le_ext_of ?_) | (with_reducible refine le_ext_add ?_))); done)) | ((with_reducible refine Below.setCell ?_ ?_ _); rotate_left; focus (((try dsimp only); repeat (first | omega | simp only [World.size_alloc, World.size_setCell, World.size_drew] | (with_reducible refine le_ext_of ?_) | (with_reducible refine le_ext_add ?_))); done)) | (with_reducible refine Below.drew ?_)))); have hO2 := OwnNs.mono (B' := w.heap.size + 1) hO (ext_alloc_ge _); have HO := Lib.hid hO2; have HbT := Lib.hid hbT; have d0 := hbT.cell 0; have d1 := hbT.cell 1; have d2 := hbT.cell 2; have e0 := hbT.frozen 0; have e1 := hbT.frozen 1; have e2 := hbT.frozen 2; have e3 := hbT.lt; simp only [List.size_toArray, List.length_cons, List.length_nil, Nat.reduceAdd, Nat.reduceLT, getElem?_pos, List.getElem_toArray, List.getElem_cons_zero, List.getElem_cons_succ] at d0 d1 d2; clear hO hO2 hbT hw1))
  have hgn := (HO.out.lt g rfl).1
  have hB3 : Below w.heap.size w (((w1.setCell ⟨w.heap.size, 0, none⟩ (.int .i64 100)).setCell ⟨w.heap.size, 1, none⟩ (.int .i64 110)).setCell ⟨w.heap.size, 2, none⟩ (.slice (some ⟨g, 0, none⟩) 5 c)) :=
    ((HBT.out.setCell (by dsimp only; omega) _).setCell (by dsimp only; omega) _).setCell (by dsimp only; omega) _
  have hne : ∀ X Y Z, (((w1.setCell ⟨w.heap.size, 0, none⟩ X).setCell ⟨w.heap.size, 1, none⟩ Y).setCell ⟨w.heap.size, 2, none⟩ Z).heap[g]? = w1.heap[g]? := fun X Y Z =>
    (Below.heap_setCell _ _ _ _ (by dsimp only; omega)).trans ((Below.heap_setCell _ _ _ _ (by dsimp only; omega)).trans (Below.heap_setCell _ _ _ _ (by dsimp only; omega)))
  have hbF := ((HbT.out.set 0 (.int .i64 100)).set 1 (.int .i64 110)).set 2 (.slice (some ⟨g, 0, none⟩) 5 c)
  have t0 := Blk.cell hbF 0
  have t1 := Blk.cell hbF 1
  have t2 := Blk.cell hbF 2
  refine bodyPost_ret (v := .agg #[.int .i64 100, .int .i64 110, .slice (some ⟨g, 0, none⟩) 5 c]) ?_ rfl ⟨g, c, rfl, (HO.out.kept (fun g' hg' => ?_)).mono (by omega), ext_of hB3⟩
  · simp [results, Tryd.results50, go_sem, d0, d1, d2, e3]
  · obtain rfl : g = g' := by simpa [Value.ownBlock] using hg'
    exact hne _ _ _
end Go.Proofs.YtjjfpbjdcmkkhaaDoor

namespace Go.Proofs.YtjjfpbjdcmkkhaaDoor
open Go Go.RowKit Go.Shelf
theorem sbk_of {w : World} {B g c : Nat} {b : Sn} (h : OwnNs w B (.slice (some ⟨g, 0, none⟩) b.ns.length c) b.ns) (hm : MM w) : SBk w b (some ⟨g, 0, none⟩) := ⟨h.notes, hm, h.ends.2.2⟩
theorem sbc_of {w : World} {B g c : Nat} {b : Sn} (h : OwnNs w B (.slice (some ⟨g, 0, none⟩) b.ns.length c) b.ns) : SBc b (some ⟨g, 0, none⟩) c := ⟨h.ends.2.1, fun a ha => by cases ha; exact ⟨g, 0, rfl⟩, fun e => by cases e⟩
abbrev bkV (b : Sn) (g c : Nat) : Value := .agg #[.int .i64 b.lo, .int .i64 b.hi, .slice (some ⟨g, 0, none⟩) b.ns.length c]
theorem Held_bk (B g c : Nat) (w : World) (hO : OwnNs w B (.slice (some ⟨g, 0, none⟩) bookW.ns.length c) bookW.ns) (hm : MM w) : Calls Tryd.prog 20 #[bkV bookW g c, .int .i64 10] w fun e w' => e = .returned (.tuple #[.agg #[.int .i64 66, .int .i64 74], .int .i64 0]) ∧ ∃ x, w' = ext w x :=
  (Held_all bookW _ c 10 0 w (sbk_of hO hm) (.inr ⟨book_okS, rfl, book_right, rfl⟩)).mono fun e w' ⟨h1, h2⟩ => by
    rcases h1 with ⟨h1, -⟩ | ⟨-, h1⟩
    · exact absurd rfl h1
    · rw [v_held10.1, v_held10.2] at h1; exact ⟨h1, ext_of h2⟩
theorem Rate_bk (B g c : Nat) (w : World) (hO : OwnNs w B (.slice (some ⟨g, 0, none⟩) bookW.ns.length c) bookW.ns) (hm : MM w) : Calls Tryd.prog 22 #[bkV bookW g c, .int .i64 8] w fun e w' => e = .returned (.tuple #[.agg #[.int .i64 2, .int .i64 3], .int .i64 0]) ∧ ∃ x, w' = ext w x :=
  (Rate_all bookW _ c 8 0 w (sbk_of hO hm) (.inr ⟨book_okS, rfl, book_right, rfl⟩)).mono fun e w' ⟨h1, h2⟩ => by
    rcases h1 with ⟨h1, -⟩ | ⟨-, h1⟩
    · exact absurd rfl h1
    · rw [v_rate8.1, v_rate8.2] at h1; exact ⟨h1, ext_of h2⟩
theorem Can_bk (B g c : Nat) (w : World) (hO : OwnNs w B (.slice (some ⟨g, 0, none⟩) bookW.ns.length c) bookW.ns) (hm : MM w) : Calls Tryd.prog 18 #[bkV bookW g c, .int .i64 20, .int .i64 50] w fun e w' => e = .returned (.tuple #[.bool true, .int .i64 0]) ∧ ∃ x, w' = ext w x :=
  (Can_all bookW _ c 20 50 0 w (sbk_of hO hm) (.inr ⟨book_okS, rfl, book_right, rfl⟩)).mono fun e w' ⟨h1, h2⟩ => by
    rcases h1 with ⟨h1, -⟩ | ⟨-, h1⟩
    · exact absurd rfl h1
    · rw [v_can] at h1; exact ⟨h1, ext_of h2⟩
theorem Fits_bk (B g c : Nat) (w : World) (hO : OwnNs w B (.slice (some ⟨g, 0, none⟩) bookW.ns.length c) bookW.ns) (hm : MM w) : Calls Tryd.prog 29 #[bkV bookW g c, .agg #[.int .i64 0, .int .i64 21, .int .i64 56, .int .i64 60]] w fun e w' => e = .returned (.tuple #[.bool false, .int .i64 0]) ∧ ∃ x, w' = ext w x :=
  (Fits_ok bookW _ c ⟨0, 21, 56, 60⟩ w (sbk_of hO hm) (sbc_of hO) book_okS (by kernel_rfl)).mono fun e w' ⟨h1, h2⟩ => by
    rw [v_fits] at h1; exact ⟨h1, ext_of h2⟩
theorem Wrong_tn (B g c : Nat) (w : World) (hO : OwnNs w B (.slice (some ⟨g, 0, none⟩) tornW.ns.length c) tornW.ns) (hm : MM w) : Calls Tryd.prog 31 #[bkV tornW g c] w fun e w' => ∃ (p : Option Addr) (k : Nat), e = .returned (.tuple #[.slice p 1 k, .int .i64 0]) ∧ IntsAt w' p [3] ∧ ∃ x, w' = ext w x :=
  (Wrong_ok tornW _ c w (sbk_of hO hm) torn_okS).mono fun e w' ⟨v, l, h1, h2, h3, h4, h5⟩ => by
    obtain rfl := torn_three h3 h4
    obtain ⟨p, k, rfl, hI, -⟩ := h2
    exact ⟨p, k, h1, hI, ext_of h5⟩
theorem Right_bk (B g c : Nat) (w : World) (hO : OwnNs w B (.slice (some ⟨g, 0, none⟩) bookW.ns.length c) bookW.ns) (hm : MM w) : Calls Tryd.prog 14 #[bkV bookW g c] w fun e w' => e = .returned (.tuple #[.bool true, .int .i64 0]) ∧ ∃ x, w' = ext w x :=
  (Right_ok bookW _ c w (sbk_of hO hm) book_okS).mono fun e w' ⟨h1, h2⟩ => by
    rw [book_right] at h1; exact ⟨h1, ext_of h2⟩
theorem Held_lk (B g c : Nat) (w : World) (hO : OwnNs w B (.slice (some ⟨g, 0, none⟩) leakyW.ns.length c) leakyW.ns) (hm : MM w) : Calls Tryd.prog 20 #[bkV leakyW g c, .int .i64 5] w fun e w' => e = .returned (.tuple #[.agg #[.int .i64 11, .int .i64 18], .int .i64 0]) ∧ ∃ x, w' = ext w x :=
  (Held_all leakyW _ c 5 0 w (sbk_of hO hm) (.inr ⟨leaky_okS, rfl, leaky_right, rfl⟩)).mono fun e w' ⟨h1, h2⟩ => by
    rcases h1 with ⟨h1, -⟩ | ⟨-, h1⟩
    · exact absurd rfl h1
    · rw [v_leaky5.1, v_leaky5.2] at h1; exact ⟨h1, ext_of h2⟩
theorem Saved_lk (B g c : Nat) (w : World) (hO : OwnNs w B (.slice (some ⟨g, 0, none⟩) leakyW.ns.length c) leakyW.ns) (hm : MM w) : Calls Tryd.prog 27 #[bkV leakyW g c] w fun e w' => e = .returned (.tuple #[.agg #[.int .i64 20, .int .i64 24], .int .i64 0]) ∧ ∃ x, w' = ext w x :=
  (Saved_yes leakyW _ c w (sbk_of hO hm) leaky_okS leaky_right).mono fun e w' ⟨h1, h2⟩ => by
    rw [v_savedl.1, v_savedl.2] at h1; exact ⟨h1, ext_of h2⟩
theorem Empty_lk (B g c : Nat) (w : World) (hO : OwnNs w B (.slice (some ⟨g, 0, none⟩) leakyW.ns.length c) leakyW.ns) (hm : MM w) : Calls Tryd.prog 25 #[bkV leakyW g c] w fun e w' => e = .returned (.tuple #[.int .i64 14, .int .i64 0]) ∧ ∃ x, w' = ext w x :=
  (Empty_yes leakyW _ c w (sbk_of hO hm) leaky_okS leaky_right).mono fun e w' ⟨h1, h2⟩ => by
    refine ⟨?_, ext_of h2⟩
    have hno : ∀ j : Nat, j < 14 → topH leakyW j ≠ 0 := fun j hj => by
      have := List.all_eq_true.1 v_empty.2 j (List.mem_range.2 hj)
      simpa using this
    rcases h1 with ⟨k, hk, h3, h4, h5⟩ | ⟨h3, h5⟩
    · have hk14 : k = 14 := by
        rcases Nat.lt_trichotomy k 14 with h | h | h
        · exact absurd h3 (hno k h)
        · exact h
        · exact absurd v_empty.1 (h4 14 h)
      subst hk14
      exact h5
    · exact absurd v_empty.1 (h3 14 (by omega))
end Go.Proofs.YtjjfpbjdcmkkhaaDoor

