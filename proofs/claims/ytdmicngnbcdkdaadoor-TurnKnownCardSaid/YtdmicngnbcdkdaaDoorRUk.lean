/- Contract of owners: all companies that can have the turn. -/
import Derived.Test.YtdmicngnbcdkdaaDoorRUa
import Derived.Test.YtdmicngnbcdkdaaDoorRTj
import Derived.Test.YtdmicngnbcdkdaaDoorRIt
import Derived.Test.YtdmicngnbcdkdaaDoorSh
import Derived.Deep.DeepCutAuto
import Derived.Deep.CutRange
import Derived.Lib.OwnBridge
import Derived.Lib.RowBridge
import Derived.Sort.OwnSortedInts
set_option linter.unusedSimpArgs false
set_option linter.unusedVariables false
namespace Go.Proofs.YtdmicngnbcdkdaaDoor
open Go Go.RowKit Go.Maps Go.Shelf

open Go.Sort in
theorem own_holds {w : World} {B : Nat} {v : Value} {l : List Int} (h : OwnInts w B v l) (hl : l ≠ []) : ∃ g c, v = .slice (some ⟨g, 0, none⟩) l.length c ∧ B ≤ g ∧ g < w.heap.size ∧ l.length ≤ c ∧ Holds (Value.int .i64) w g 0 l.toArray := by
  have hv : v ≠ .slice none 0 0 := by
    rintro rfl
    obtain ⟨p, c, h1, -, -⟩ := h.at
    simp only [Value.slice.injEq] at h1
    exact hl (List.length_eq_zero_iff.1 h1.2.1.symm)
  obtain ⟨g, c, rfl, hb, hg, hn, _, _, hH⟩ := Lib.holds_of_ownsRow (enc := Value.int .i64) h hv
  exact ⟨g, c, rfl, hb, hg, hn, hH⟩
open Go.Sort in
theorem grownBy_putI {w : World} {g n : Nat} (d : Array Int) : w.grownBy (putRow (Value.int .i64) (Sort.ahead w n) g 0 d) (some g) := by
  refine ⟨rfl, rfl, rfl, by simp, fun k hk hne => ?_⟩
  have : g ≠ k := fun e => hne (by rw [e])
  simp [putRow, mapBlock, Sort.ahead, Array.getElem?_modify, this]
open Go.Sort in
theorem ints_of_holds {w : World} {g : Nat} {L R : List Int} (h : Holds (Value.int .i64) w g 0 (L ++ R).toArray) (hg : g < w.heap.size) : IntsAt w (some ⟨g, 0, none⟩) L := by
  intro i x hx
  have hi := (List.getElem?_eq_some_iff.1 hx).1
  refine ⟨g, 0, rfl, hg, ?_⟩
  rw [(h i (by simp; omega)).1, getElem!_pos _ i (by simp; omega)]
  simp [List.getElem_append_left hi, (List.getElem?_eq_some_iff.1 hx).2]
open Go.Sort in
theorem sorted_holds {w w' : World} {g n : Nat} {os : Array Obj} {l : List Int} (h : Holds (Value.int .i64) w g 0 l.toArray) (hg : g < w.heap.size) (hw : w' = grow (putRow (Value.int .i64) (Sort.ahead w n) g 0 (l.mergeSort fun x y => decide (x ≤ y)).toArray) os) : Holds (Value.int .i64) w' g 0 (l.mergeSort fun x y => decide (x ≤ y)).toArray ∧ w.grownBy w' (some g) := by
  subst hw
  exact ⟨holds_grow _ _ os g 0 _ (by simpa [putRow, mapBlock, Sort.ahead] using hg) (holds_putRow _ _ g 0 _ _ (holds_ahead _ w n g 0 _ h) (by simp)), grownBy_sortedI _⟩
open Go.Sort in
theorem compacted_holds {w w' : World} {g n : Nat} {l : List Int} (h : Holds (Value.int .i64) w g 0 l.toArray) (hg : g < w.heap.size) (hw : w' = putRow (Value.int .i64) (Sort.ahead w n) g 0 (Lib.compact l ++ List.replicate (l.length - (Lib.compact l).length) 0).toArray) : IntsAt w' (some ⟨g, 0, none⟩) (Lib.compact l) ∧ w.grownBy w' (some g) := by
  subst hw
  have hc := Lib.compact_length_le l
  exact ⟨ints_of_holds (holds_putRow _ _ g 0 _ _ (holds_ahead _ w n g 0 _ h) (by simp; omega)) (by simpa [putRow, mapBlock, Sort.ahead] using hg), grownBy_putI _⟩
theorem setCell_heap (w : World) (b i k : Nat) (v : Value) (h : k ≠ b) : (w.setCell ⟨b, i, none⟩ v).heap[k]? = w.heap[k]? := Below.heap_setCell w ⟨b, i, none⟩ v k h
theorem Blk.inj1 {w : World} {g : Nat} {t t' : TypeId} {v v' : Value} (h : Blk w g t #[v]) (h' : Blk w g t' #[v']) : v = v' := by
  unfold Blk at h h'
  rw [h] at h'
  simp at h'
  exact h'.1
section
variable {n l : Nat} {P : Program} {ops : Array Oper} {Q : Exit → Act → World → Prop} {md : Region.Mode} {S : World → Prop}
/-- Two may come up. -/
theorem wpAnyHR_two {i i' : Nat} {o o' : Oper} {fuel : Nat} {listed : Array Bool} {a : Act} {w : World} (hr : Region.ready md ops listed = [i, i']) (ho : ops[i]? = some o) (ho' : ops[i']? = some o')
    (h : ∀ K : Act → World → Prop, (∀ a w, S w → wpAnyHR l n P md ops Q S fuel (listed.setIfInBounds i true) a w → K a w) → if Region.wanted o (yielded ops a.tmps) = true then Oper.wpIn (Fence.wide.inRound l) n P o a w K Q else (∀ f, o.about P w a.eval = some f → (Fence.wide.inRound l).fn f) ∧ K (a.put o.dst undef) w)
    (h' : ∀ K : Act → World → Prop, (∀ a w, S w → wpAnyHR l n P md ops Q S fuel (listed.setIfInBounds i' true) a w → K a w) → if Region.wanted o' (yielded ops a.tmps) = true then Oper.wpIn (Fence.wide.inRound l) n P o' a w K Q else (∀ f, o'.about P w a.eval = some f → (Fence.wide.inRound l).fn f) ∧ K (a.put o'.dst undef) w) :
    wpAnyHR l n P md ops Q S (fuel + 1) listed a w := by
  refine ⟨(fun h0 => by rw [hr] at h0; cases h0), fun j hj => ?_⟩
  rw [hr] at hj
  simp only [List.mem_cons, List.not_mem_nil, or_false] at hj
  rcases hj with rfl | rfl
  · exact wpOpIn_step ho (fun K' hK' => h K' (fun a w hS hx => hK' a w ⟨hS, hx⟩))
  · exact wpOpIn_step ho' (fun K' hK' => h' K' (fun a w hS hx => hK' a w ⟨hS, hx⟩))
end

theorem stepR_append_int {l' n : Nat} {ops : Array Oper} {o : Oper} {a : Act} {K : Act → World → Prop} {Q : Exit → Act → World → Prop} {E : Prop} {w : World} (hgd : o.guard = none) (s x : Operand)
    (ho : o.op = .call { callee := .builtin .append, args := #[s, x], argTypes := #[28, 28] }) (B : Nat)
    (v : Value) (l : List Int) (hs : a.eval s = v) (hown : OwnInts w B v l) (g : Nat) (y : Int) (hx : a.eval x = .slice (some ⟨g, 0, none⟩) 1 1) (hc : w.cell? ⟨g, 0, none⟩ = some (.int .i64 y))
    (hl : l.length ≤ 100000) (hB : B ≤ w.heap.size)
    (h : ∀ v' w', OwnInts w' B v' (l ++ [y]) → w.grownBy w' v.ownBlock → K (a.put o.dst v') w') :
    if Region.wanted o (yielded ops a.tmps) = true then Oper.wpIn (Fence.wide.inRound l') n Tryd.prog o a w K Q else E := by
  rw [if_pos (by simp [Region.wanted, hgd])]
  obtain ⟨i0, hi, hz0, hz1, hz2⟩ := info_parts info_int
  obtain ⟨v', w', hr, h2, h3, h4⟩ := run_append_own (P := Tryd.prog) w B 28 o.type 3 i0 (.int .i64 0) 1 8 under_ints hi hz0 hz1 hz2 rfl (by decide) v l.length _ hown ⟨g, 0, none⟩ 1 1 [.int .i64 y] rfl
    (fun j u hj => by
      match j, hj with
      | 0, hj => simp at hj; subst hj; simpa [Addr.add] using hc) (fun u hu => by simp at hu; subst hu; rfl) (by unfold maxLen; omega) (by omega) hB
  unfold Oper.wpIn
  refine ⟨fun _ _ => trivial, ?_⟩
  rw [Oper.semAt_plain _ _ _ (by intro c hc'; rw [ho] at hc'; cases hc')]
  unfold execOp
  simp only [ho, resolve, invoke, builtin, Sem.run_bind, Sem.run_pure, Result.andThen_ok, List.map_toArray, List.map_cons, List.map_nil, hs, hx, hr]
  refine h v' w' ?_ h3
  unfold OwnInts
  simpa using h2

/-- All companies of some turns, increasing, each once. -/
def ownersL (b : Bk) (st lo hi : Nat) : List Int := Lib.compact (((seg lo hi).map (fun t => ownf b.os st t)).mergeSort fun x y => decide (x ≤ y))
def SlicePost (w : World) (l : List Int) (e : Ending) (w' : World) : Prop := ∃ p c, e = .returned (.slice p l.length c) ∧ IntsAt w' p l ∧ ∃ x, w' = ext w x

attribute [local go_sem] Oper.semAt_some frozen_alloc_lt
set_option maxRecDepth 100000 in
set_option maxHeartbeats 4000000 in
theorem owners_any (h : Hd) (b : Bk) (B : Nat) (st : Nat) (m : Int) (w : World) (hk : CoveOK w h b B) (hst : st < b.os.length) (hm0 : 0 ≤ m) (hm : m < 1440) :
    Calls Tryd.prog 52 #[.agg #[.int .i64 b.n, .slice h.pb b.bs.length h.cb, .slice h.po b.os.length h.co, .slice h.ps b.ss.length h.cs, .int .i64 (kspec b.bs 2 0 0), .int .i64 (kspec b.bs 2 0 1), .int .i64 (kspec b.bs 2 0 2), .int .i64 (kspec b.bs 2 0 3), .int .i64 (kspec b.bs 2 0 4), .int .i64 (kspec b.bs 2 0 5), .int .i64 (kspec b.bs 2 0 6), .int .i64 (kspec b.bs 2 0 7), .map (some B)], .int .i64 st, .int .i64 m] w (SlicePost w (ownersL b st (cnt (lateL b.bs) m) (cnt (soonL b.bs) m))) := by
  refine (callsIn_wide (n := 9)).1 ?_
  have HK := Lib.hid hk
  clear hk
  refine callsIn_of_wp_marks Tryd.func52 rfl trivial ?_ rfl
  simp only [Tryd.ntmps52, List.size_toArray, List.length_cons, List.length_nil, Nat.reduceAdd, Nat.reduceSub, Array.replicate_succ, Array.replicate_zero, List.push_toArray, List.append_toArray, List.nil_append, List.cons_append]
  refine wpIn_wide.2 ?_
  go_upto_region 2 with fail
  generalize hW : (w.alloc _).alloc _ = W
  have hWB : Below w.heap.size w W := by rw [← hW]; (repeat (first | (with_reducible exact Below.refl _ _) | (with_reducible assumption) | ((with_reducible refine below_ext_trans ?_ ?_ _); rotate_left; focus (((try dsimp only); repeat (first | omega | simp only [World.size_alloc, World.size_setCell, World.size_drew] | (with_reducible refine le_ext_of ?_) | (with_reducible refine le_ext_add ?_))); done)) | ((with_reducible refine Below.alloc ?_ ?_ _); rotate_left; focus (((try dsimp only); repeat (first | omega | simp only [World.size_alloc, World.size_setCell, World.size_drew] | (with_reducible refine le_ext_of ?_) | (with_reducible refine le_ext_add ?_))); done)) | ((with_reducible refine Below.setCell ?_ ?_ _); rotate_left; focus (((try dsimp only); repeat (first | omega | simp only [World.size_alloc, World.size_setCell, World.size_drew] | (with_reducible refine le_ext_of ?_) | (with_reducible refine le_ext_add ?_))); done)) | (with_reducible refine Below.drew ?_)))
  have hWs : W.heap.size = w.heap.size + 2 := by rw [← hW]; simp
  have kb1 : Blk W w.heap.size 83 (cvcells h b B) := by rw [← hW]; exact (Blk.new rfl).alloc _
  have kb7 : Blk W (w.heap.size + 1) 28 #[.slice none 0 0] := by rw [← hW]; exact Blk.new (by simp)
  have kS : Hid (∀ w', Below W.heap.size W w' → w'.cell? ⟨w.heap.size, 4, none⟩ = some (.int .i64 (kspec b.bs 2 0 0)) ∧ w'.cell? ⟨w.heap.size, 5, none⟩ = some (.int .i64 (kspec b.bs 2 0 1)) ∧ w'.cell? ⟨w.heap.size, 6, none⟩ = some (.int .i64 (kspec b.bs 2 0 2)) ∧ w'.cell? ⟨w.heap.size, 7, none⟩ = some (.int .i64 (kspec b.bs 2 0 3)) ∧ w'.cell? ⟨w.heap.size, 8, none⟩ = some (.int .i64 (kspec b.bs 2 0 4)) ∧ w'.cell? ⟨w.heap.size, 9, none⟩ = some (.int .i64 (kspec b.bs 2 0 5)) ∧ w'.cell? ⟨w.heap.size, 10, none⟩ = some (.int .i64 (kspec b.bs 2 0 6)) ∧ w'.cell? ⟨w.heap.size, 11, none⟩ = some (.int .i64 (kspec b.bs 2 0 7))) := Lib.hid (fun w' hw => by
    have kb1' : Blk w' w.heap.size 83 (cvcells h b B) := (hw.block _ kb1.lt).trans kb1
    obtain ⟨d0, d1, d2, d3, d4, d5, d6, d7, d8, d9, d10, d11, d12⟩ := cvBlk kb1'
    exact ⟨d4, d5, d6, d7, d8, d9, d10, d11⟩)
  have HW := Lib.hid hWB
  have HWs := Lib.hid hWs
  have KB1 := Lib.hid kb1
  have KB7 := Lib.hid kb7
  clear hW hWB kb1 kb7 hWs
  go_cut [14] from 9 to 14 (fun s14 wx => ∃ b1 b2 b3 : Nat, s14 = .func (.func 87) #[] #[.pointer (some ⟨b1, 0, none⟩), .pointer (some ⟨b2, 0, none⟩), .pointer (some ⟨b3, 0, none⟩)] ∧ W.heap.size ≤ b1 ∧ W.heap.size ≤ b2 ∧ W.heap.size ≤ b3 ∧
      SpellBox wx b1 b2 b3 (kspec b.bs 2 0 0) (kspec b.bs 2 0 1) (kspec b.bs 2 0 2) (kspec b.bs 2 0 3) (kspec b.bs 2 0 4) (kspec b.bs 2 0 5) (kspec b.bs 2 0 6) (kspec b.bs 2 0 7) st m m ∧ Below W.heap.size W wx)
  case first =>
    go_region_held3 (fun w' => w'.cell? ⟨w.heap.size, 4, none⟩ = some (.int .i64 (kspec b.bs 2 0 0)) ∧ w'.cell? ⟨w.heap.size, 5, none⟩ = some (.int .i64 (kspec b.bs 2 0 1)) ∧ w'.cell? ⟨w.heap.size, 6, none⟩ = some (.int .i64 (kspec b.bs 2 0 2)) ∧ w'.cell? ⟨w.heap.size, 7, none⟩ = some (.int .i64 (kspec b.bs 2 0 3)) ∧ w'.cell? ⟨w.heap.size, 8, none⟩ = some (.int .i64 (kspec b.bs 2 0 4)) ∧ w'.cell? ⟨w.heap.size, 9, none⟩ = some (.int .i64 (kspec b.bs 2 0 5)) ∧ w'.cell? ⟨w.heap.size, 10, none⟩ = some (.int .i64 (kspec b.bs 2 0 6)) ∧ w'.cell? ⟨w.heap.size, 11, none⟩ = some (.int .i64 (kspec b.bs 2 0 7)))
      ((exact kS.out _ (by (repeat (first | (with_reducible exact Below.refl _ _) | (with_reducible assumption) | ((with_reducible refine below_ext_trans ?_ ?_ _); rotate_left; focus (((try dsimp only); repeat (first | omega | simp only [World.size_alloc, World.size_setCell, World.size_drew] | (with_reducible refine le_ext_of ?_) | (with_reducible refine le_ext_add ?_))); done)) | ((with_reducible refine Below.alloc ?_ ?_ _); rotate_left; focus (((try dsimp only); repeat (first | omega | simp only [World.size_alloc, World.size_setCell, World.size_drew] | (with_reducible refine le_ext_of ?_) | (with_reducible refine le_ext_add ?_))); done)) | ((with_reducible refine Below.setCell ?_ ?_ _); rotate_left; focus (((try dsimp only); repeat (first | omega | simp only [World.size_alloc, World.size_setCell, World.size_drew] | (with_reducible refine le_ext_of ?_) | (with_reducible refine le_ext_add ?_))); done)) | (with_reducible refine Below.drew ?_))))))
      (first
        | (go_at_call 50; refine (just_any _ _).mono ?_; rintro e w' ⟨rfl, y0, rfl⟩)
        | (go_at_call 70; refine (spells_any _ _ _ _ _ _ _ _ _ _ _ _).mono ?_; rintro e w' ⟨b1, b2, b3, rfl, hb1, hb2, hb3, hbox, y1, rfl⟩))
    all_goals (go_wp2_with fail; go_meet)
    all_goals
      refine ⟨b1, b2, b3, rfl, Nat.le_trans ?_ hb1, Nat.le_trans ?_ hb2, Nat.le_trans ?_ hb3, hbox, by (repeat (first | (with_reducible exact Below.refl _ _) | (with_reducible assumption) | ((with_reducible refine below_ext_trans ?_ ?_ _); rotate_left; focus (((try dsimp only); repeat (first | omega | simp only [World.size_alloc, World.size_setCell, World.size_drew] | (with_reducible refine le_ext_of ?_) | (with_reducible refine le_ext_add ?_))); done)) | ((with_reducible refine Below.alloc ?_ ?_ _); rotate_left; focus (((try dsimp only); repeat (first | omega | simp only [World.size_alloc, World.size_setCell, World.size_drew] | (with_reducible refine le_ext_of ?_) | (with_reducible refine le_ext_add ?_))); done)) | ((with_reducible refine Below.setCell ?_ ?_ _); rotate_left; focus (((try dsimp only); repeat (first | omega | simp only [World.size_alloc, World.size_setCell, World.size_drew] | (with_reducible refine le_ext_of ?_) | (with_reducible refine le_ext_add ?_))); done)) | (with_reducible refine Below.drew ?_)))⟩
      all_goals ((try dsimp only); repeat (first | omega | simp only [World.size_alloc, World.size_setCell, World.size_drew] | (with_reducible refine le_ext_of ?_) | (with_reducible refine le_ext_add ?_)))
  case rest =>
    obtain ⟨b1, b2, b3, rfl, hb1, hb2, hb3, hbox, hbel⟩ := hcut
    go_wp2_with fail
    obtain ⟨v1, v2, _⟩ := bookB_bounds HK.out.ok
    have hle : cnt [kspec b.bs 2 0 4, kspec b.bs 2 0 5, kspec b.bs 2 0 6, kspec b.bs 2 0 7] m ≤ cnt [kspec b.bs 2 0 0, kspec b.bs 2 0 1, kspec b.bs 2 0 2, kspec b.bs 2 0 3] m := cnt_late_soon _ v1 v2 m m (by omega)
    have hnb : cnt [kspec b.bs 2 0 0, kspec b.bs 2 0 1, kspec b.bs 2 0 2, kspec b.bs 2 0 3] m ≤ b.bs.length := cnt_soon_le _ v1 m (by omega)
    have hws := HWs.out
    have hzc := hbel.size
    have hq1 : Blk wc w.heap.size 83 (cvcells h b B) := (hbel.block _ KB1.out.lt).trans KB1.out
    have hq7 : Blk wc (w.heap.size + 1) 28 #[.slice none 0 0] := (hbel.block _ KB7.out.lt).trans KB7.out
    have hwc : Below w.heap.size w wc := HW.out.trans (hbel.mono (by omega))
    have hseq := spells1_in (9 - 1) b1 b2 b3 _ _ _ _ _ _ _ _ st m m (fun k => k = w.heap.size + 1 ∨ k = wc.heap.size + 1) wc hbox hle (fun k hk => by
      have := hbox.lt1; have := hbox.lt2; have := hbox.lt3; omega)
    have HNB := Lib.hid hnb
    have HLE := Lib.hid hle
    clear hbox hbel kS hle hnb v1 v2
    refine (wpIn_wide (n := 9)).1 ?_
    refine wpIn_rangeFunc_w (gf := 87) (lb := #[.pointer (some ⟨b1, 0, none⟩), .pointer (some ⟨b2, 0, none⟩), .pointer (some ⟨b3, 0, none⟩)]) rfl (enters_of Tryd.func87 (by kernel_rfl) rfl)
      (fun k => k = w.heap.size + 1) (fun k hk => by omega) hseq (Below.refl _ _) (fun _ => rfl)
      (fun n1 pre W' => ∃ v : Value, Blk W' w.heap.size 83 (cvcells h b B) ∧ Blk W' (w.heap.size + 1) 28 #[v] ∧ OwnInts W' n1 v (pre.map (fun t => ownf b.os st t)) ∧ Below w.heap.size w W')
      (fun _ _ _ _ => False)
      (fun n1 pre x a' W' => ∃ g : Nat, n1 ≤ g ∧ Blk W' g 103 #[.int .i64 st, .int .i64 x] ∧ (∀ v, Blk W' (w.heap.size + 1) 28 #[v] → ∀ j, v.ownBlock = some j → j < g) ∧ a' = { tmps := #[.agg (cvcells h b B), .int .i64 st, .int .i64 m, .pointer (some ⟨w.heap.size, 0, none⟩), undef, undef, .slice none 0 0, .pointer (some ⟨w.heap.size + 1, 0, none⟩), .pointer (some ⟨g, 0, none⟩), u9, u10, u11, u12, u13, .func (.func 87) #[] #[.pointer (some ⟨b1, 0, none⟩), .pointer (some ⟨b2, 0, none⟩), .pointer (some ⟨b3, 0, none⟩)], .agg #[.int .i64 st, .int .i64 x], undef, undef, undef, undef, undef, undef, undef, undef, undef, undef, undef], defers := [] })
      ?hI ?hIx ?hAx ?h0 ?hassign ?hbody ?hdone ?hstop
    case hI =>
      rintro n1 pre A C hn hA ⟨v, c1, c2, c3, c4⟩ hp
      exact ⟨v, (hp.block _ c1.lt (.inl (by omega))).trans c1, (hp.block _ c2.lt (.inl (by omega))).trans c2, c3.kept (fun g hg => hp.block g (c3.lt g hg).2 (.inr (c3.lt g hg).1)), c4.trans (hp.below (by omega) c4.size)⟩
    case hIx => exact fun _ _ _ _ _ _ _ h _ => h
    case hAx =>
      rintro n1 pre x a' A C hn hA ⟨g, hg, hk, hlo, rfl⟩ hp
      exact ⟨g, hg, (hp.block g hk.lt (.inr hg)).trans hk, fun v hv => hlo v ((hp.block _ (by omega) (.inl (by omega))).symm.trans hv), rfl⟩
    case h0 =>
      intro n1 W1 hb _ _
      exact ⟨_, (hb.block _ hq1.lt).trans hq1, (hb.block _ hq7.lt).trans hq7, OwnInts.nil _ _, hwc.trans (hb.mono hwc.size)⟩
    case hassign =>
      rintro l n1 pre x W' hn hz hsp ⟨v, c1, c2, c3, c4⟩
      have C1 := Lib.hid c1
      have C2 := Lib.hid c2
      have C3 := Lib.hid c3
      have C4 := Lib.hid c4
      clear c1 c2 c3 c4
      gi_wp2
      refine ⟨⟨v, C1.out.alloc _, C2.out.alloc _, C3.out.below (by (repeat (first | (with_reducible exact Below.refl _ _) | (with_reducible assumption) | ((with_reducible refine below_ext_trans ?_ ?_ _); rotate_left; focus (((try dsimp only); repeat (first | omega | simp only [World.size_alloc, World.size_setCell, World.size_drew] | (with_reducible refine le_ext_of ?_) | (with_reducible refine le_ext_add ?_))); done)) | ((with_reducible refine Below.alloc ?_ ?_ _); rotate_left; focus (((try dsimp only); repeat (first | omega | simp only [World.size_alloc, World.size_setCell, World.size_drew] | (with_reducible refine le_ext_of ?_) | (with_reducible refine le_ext_add ?_))); done)) | ((with_reducible refine Below.setCell ?_ ?_ _); rotate_left; focus (((try dsimp only); repeat (first | omega | simp only [World.size_alloc, World.size_setCell, World.size_drew] | (with_reducible refine le_ext_of ?_) | (with_reducible refine le_ext_add ?_))); done)) | (with_reducible refine Below.drew ?_)))), ?_⟩, ⟨W'.heap.size, hz, Blk.new rfl, fun v2 hv2 j hj => by rw [Blk.inj1 hv2 (C2.out.alloc _)] at hj; exact (C3.out.lt j hj).2, rfl⟩, by (repeat (first | (with_reducible exact Below.refl _ _) | (with_reducible assumption) | ((with_reducible refine below_ext_trans ?_ ?_ _); rotate_left; focus (((try dsimp only); repeat (first | omega | simp only [World.size_alloc, World.size_setCell, World.size_drew] | (with_reducible refine le_ext_of ?_) | (with_reducible refine le_ext_add ?_))); done)) | ((with_reducible refine Below.alloc ?_ ?_ _); rotate_left; focus (((try dsimp only); repeat (first | omega | simp only [World.size_alloc, World.size_setCell, World.size_drew] | (with_reducible refine le_ext_of ?_) | (with_reducible refine le_ext_add ?_))); done)) | ((with_reducible refine Below.setCell ?_ ?_ _); rotate_left; focus (((try dsimp only); repeat (first | omega | simp only [World.size_alloc, World.size_setCell, World.size_drew] | (with_reducible refine le_ext_of ?_) | (with_reducible refine le_ext_add ?_))); done)) | (with_reducible refine Below.drew ?_)))⟩
      have hB := C4.out
      have := hB.size
      (repeat (first | (with_reducible exact Below.refl _ _) | (with_reducible assumption) | ((with_reducible refine below_ext_trans ?_ ?_ _); rotate_left; focus (((try dsimp only); repeat (first | omega | simp only [World.size_alloc, World.size_setCell, World.size_drew] | (with_reducible refine le_ext_of ?_) | (with_reducible refine le_ext_add ?_))); done)) | ((with_reducible refine Below.alloc ?_ ?_ _); rotate_left; focus (((try dsimp only); repeat (first | omega | simp only [World.size_alloc, World.size_setCell, World.size_drew] | (with_reducible refine le_ext_of ?_) | (with_reducible refine le_ext_add ?_))); done)) | ((with_reducible refine Below.setCell ?_ ?_ _); rotate_left; focus (((try dsimp only); repeat (first | omega | simp only [World.size_alloc, World.size_setCell, World.size_drew] | (with_reducible refine le_ext_of ?_) | (with_reducible refine le_ext_add ?_))); done)) | (with_reducible refine Below.drew ?_)))
    case hbody =>
      rintro l n1 pre x a' W' hl hn hz hsp ⟨v, c1, c2, c3, c4⟩ ⟨g, hg, hk, hlo, rfl⟩
      have hvg := hlo v c2
      obtain ⟨p, q, rfl, -⟩ := c3.at
      gi_wp2_with fail
      have hin : st < 3 ∧ x < 5 ∧ inR b.os st x := by
        obtain ⟨hol, ho1, hbl, hn4, hrows⟩ := bookB_rows HK.out.ok
        obtain ⟨r, hr⟩ := get_some b.os st hst
        obtain ⟨hrl, _⟩ := hrows st r hr
        have hx : x ∈ seg (cnt [kspec b.bs 2 0 4, kspec b.bs 2 0 5, kspec b.bs 2 0 6, kspec b.bs 2 0 7] m) (cnt [kspec b.bs 2 0 0, kspec b.bs 2 0 1, kspec b.bs 2 0 2, kspec b.bs 2 0 3] m) := hsp.subset (by simp)
        have h2 := HNB.out
        simp only [seg, upto, List.mem_map, List.mem_range] at hx
        refine ⟨by omega, by omega, hst, ?_⟩
        rw [List.getD_eq_getElem?_getD, hr]
        show x < r.length
        omega
      obtain ⟨hs3, hx5, hinr⟩ := hin
      let S : World → Prop := fun w' => w'.cell? ⟨w.heap.size, 12, none⟩ = some (.map (some B)) ∧ w'.cell? ⟨g, 0, none⟩ = some (.int .i64 st) ∧ w'.cell? ⟨g, 1, none⟩ = some (.int .i64 x) ∧ OwnP w' B 15 (ownf b.os) (inR b.os)
      have hS : S W'.drew := by
        obtain ⟨d0, d1, d2, d3, d4, d5, d6, d7, d8, d9, d10, d11, d12⟩ := cvBlk c1
        exact ⟨d12, by rw [World.cell?_drew, hk.cell]; rfl, by rw [World.cell?_drew, hk.cell]; rfl, (HK.out.own.below c4).drew⟩
      refine wpIn_region_heldR (S := S) (by kernel_rfl) ?_
      refine wpAnyHR_take (i := 1) (v := .pointer (some ⟨w.heap.size, 12, none⟩)) (noDefer_spec (by kernel_rfl)) rfl (by kernel_rfl) (by kernel_rfl) (by kernel_rfl) (fun _ _ _ h => h) (Or.inl ⟨by rfl, fun w' hw => ?h1⟩) hS ?_
      case h1 => go_simp
      simp only [Act.put, List.getElem_toArray, List.getElem_cons_succ, List.getElem_cons_zero, List.setIfInBounds_toArray, List.set_cons_zero, List.set_cons_succ]
      refine wpAnyHR_take (i := 2) (v := .map (some B)) (noDefer_spec (by kernel_rfl)) rfl (by kernel_rfl) (by kernel_rfl) (by kernel_rfl) (fun _ _ _ h => h) (Or.inl ⟨by rfl, fun w' hw => ?h2⟩) hS ?_
      case h2 => obtain ⟨z1, z2, z3, z4⟩ := hw; go_simp
      simp only [Act.put, List.getElem_toArray, List.getElem_cons_succ, List.getElem_cons_zero, List.setIfInBounds_toArray, List.set_cons_zero, List.set_cons_succ]
      refine wpAnyHR_take (i := 3) (v := .agg #[.int .i64 st, .int .i64 x]) (noDefer_spec (by kernel_rfl)) rfl (by kernel_rfl) (by kernel_rfl) (by kernel_rfl) (fun _ _ _ h => h) (Or.inl ⟨by rfl, fun w' hw => ?h3⟩) hS ?_
      case h3 => obtain ⟨z1, z2, z3, z4⟩ := hw; go_simp
      simp only [Act.put, List.getElem_toArray, List.getElem_cons_succ, List.getElem_cons_zero, List.setIfInBounds_toArray, List.set_cons_zero, List.set_cons_succ]
      refine wpAnyHR_take (i := 4) (v := .int .i64 (ownf b.os st x)) (noDefer_spec (by kernel_rfl)) rfl (by kernel_rfl) (by kernel_rfl) (by kernel_rfl) (fun _ _ _ h => h) (Or.inl ⟨by rfl, fun w' hw => ?h4⟩) hS ?_
      case h4 =>
        have hL := hw.2.2.2.look st x hs3 hx5 hinr
        go_simp
      simp only [Act.put, List.getElem_toArray, List.getElem_cons_succ, List.getElem_cons_zero, List.setIfInBounds_toArray, List.set_cons_zero, List.set_cons_succ]
      rw [List.length_map] at c2 c3 hvg
      have hwn : w.heap.size + 4 ≤ W'.heap.size := by omega
      have hBw : B < w.heap.size := HK.out.own.lt
      have hll : (List.map (fun t => ownf b.os st t) pre).length ≤ 100000 := by
        have h1 := hsp.length_le
        have h2 := HNB.out
        have h3 := HK.out.ok
        obtain ⟨_, _, _, hn4, _⟩ := bookB_rows h3
        simp only [seg, upto, List.length_append, List.length_map, List.length_range, List.length_cons, List.length_nil] at h1 ⊢
        omega
      have t7c := c2.cell 0
      simp only [List.size_toArray, List.length_cons, List.length_nil, Nat.reduceAdd, Nat.reduceLT, getElem?_pos, List.getElem_toArray, List.getElem_cons_zero, List.getElem_cons_succ] at t7c
      have t7f := c2.frozen 0
      have hSX : ∀ X : World, X.heap[w.heap.size]? = W'.heap[w.heap.size]? → X.heap[g]? = W'.heap[g]? → X.heap[B]? = W'.heap[B]? → S X := by
        intro X e1 e2 e3
        obtain ⟨d0, d1, d2, d3, d4, d5, d6, d7, d8, d9, d10, d11, d12⟩ := cvBlk (show Blk X _ _ _ from e1.trans c1)
        have hk' : Blk X g 103 #[.int .i64 st, .int .i64 x] := e2.trans hk
        exact ⟨d12, by rw [hk'.cell]; rfl, by rw [hk'.cell]; rfl, (HK.out.own.below c4).of_heap e3⟩
      generalize hW1 : W'.alloc (Obj.cells #[Value.int IntKind.i64 (ownf b.os st x)] 3) = W1 at *
      have hB1 : Below W'.heap.size W' W1 := by rw [← hW1]; (repeat (first | (with_reducible exact Below.refl _ _) | (with_reducible assumption) | ((with_reducible refine below_ext_trans ?_ ?_ _); rotate_left; focus (((try dsimp only); repeat (first | omega | simp only [World.size_alloc, World.size_setCell, World.size_drew] | (with_reducible refine le_ext_of ?_) | (with_reducible refine le_ext_add ?_))); done)) | ((with_reducible refine Below.alloc ?_ ?_ _); rotate_left; focus (((try dsimp only); repeat (first | omega | simp only [World.size_alloc, World.size_setCell, World.size_drew] | (with_reducible refine le_ext_of ?_) | (with_reducible refine le_ext_add ?_))); done)) | ((with_reducible refine Below.setCell ?_ ?_ _); rotate_left; focus (((try dsimp only); repeat (first | omega | simp only [World.size_alloc, World.size_setCell, World.size_drew] | (with_reducible refine le_ext_of ?_) | (with_reducible refine le_ext_add ?_))); done)) | (with_reducible refine Below.drew ?_)))
      have hz1 : W1.heap.size = W'.heap.size + 1 := by rw [← hW1]; simp
      have nc : W1.drew.cell? ⟨W'.heap.size, 0, none⟩ = some (.int .i64 (ownf b.os st x)) := by
        have : Blk W1 W'.heap.size 3 #[.int .i64 (ownf b.os st x)] := by rw [← hW1]; exact Blk.new rfl
        rw [World.cell?_drew, this.cell]; rfl
      have o1 : OwnInts W1.drew n1 (.slice p pre.length q) (List.map (fun t => ownf b.os st t) pre) := c3.below (hB1.trans (by (repeat (first | (with_reducible exact Below.refl _ _) | (with_reducible assumption) | ((with_reducible refine below_ext_trans ?_ ?_ _); rotate_left; focus (((try dsimp only); repeat (first | omega | simp only [World.size_alloc, World.size_setCell, World.size_drew] | (with_reducible refine le_ext_of ?_) | (with_reducible refine le_ext_add ?_))); done)) | ((with_reducible refine Below.alloc ?_ ?_ _); rotate_left; focus (((try dsimp only); repeat (first | omega | simp only [World.size_alloc, World.size_setCell, World.size_drew] | (with_reducible refine le_ext_of ?_) | (with_reducible refine le_ext_add ?_))); done)) | ((with_reducible refine Below.setCell ?_ ?_ _); rotate_left; focus (((try dsimp only); repeat (first | omega | simp only [World.size_alloc, World.size_setCell, World.size_drew] | (with_reducible refine le_ext_of ?_) | (with_reducible refine le_ext_add ?_))); done)) | (with_reducible refine Below.drew ?_)))))
      have hn1 : n1 ≤ W1.drew.heap.size := by show n1 ≤ W1.heap.size; omega
      have hS1 : S W1.drew := hSX _ (hB1.block _ (by omega)) (hB1.block _ hk.lt) (hB1.block _ (by omega))
      have hG : ∀ w2, W1.drew.grownBy w2 (Value.slice p pre.length q).ownBlock → w2.heap[w.heap.size]? = W'.heap[w.heap.size]? ∧ w2.heap[w.heap.size + 1]? = W'.heap[w.heap.size + 1]? ∧ w2.heap[g]? = W'.heap[g]? ∧ w2.heap[B]? = W'.heap[B]? ∧ Below w.heap.size w w2 := by
        intro w2 g2
        have hne : ∀ k : Nat, k < n1 → some k ≠ (Value.slice p pre.length q).ownBlock := fun k hk1 e => by
          have := (c3.lt k e.symm).1; omega
        have hkl := hk.lt
        have q1 := g2.block w.heap.size (by show _ < W1.heap.size; omega) (hne _ (by omega))
        have q2 := g2.block (w.heap.size + 1) (by show _ < W1.heap.size; omega) (hne _ (by omega))
        have q3 := g2.block g (by show _ < W1.heap.size; omega) (fun e => by have := hvg g e.symm; omega)
        have q4 := g2.block B (by show _ < W1.heap.size; omega) (hne _ (by omega))
        refine ⟨q1.trans (hB1.block _ (by omega)), q2.trans (hB1.block _ (by omega)), q3.trans (hB1.block _ hk.lt), q4.trans (hB1.block _ (by omega)), ?_⟩
        refine Below.grown (w := W1.drew) ?_ g2 (by show _ ≤ W1.heap.size; omega) (fun k hk1 => by have := (c3.lt k hk1).1; omega)
        exact c4.trans ((hB1.mono (by omega)).trans (by (repeat (first | (with_reducible exact Below.refl _ _) | (with_reducible assumption) | ((with_reducible refine below_ext_trans ?_ ?_ _); rotate_left; focus (((try dsimp only); repeat (first | omega | simp only [World.size_alloc, World.size_setCell, World.size_drew] | (with_reducible refine le_ext_of ?_) | (with_reducible refine le_ext_add ?_))); done)) | ((with_reducible refine Below.alloc ?_ ?_ _); rotate_left; focus (((try dsimp only); repeat (first | omega | simp only [World.size_alloc, World.size_setCell, World.size_drew] | (with_reducible refine le_ext_of ?_) | (with_reducible refine le_ext_add ?_))); done)) | ((with_reducible refine Below.setCell ?_ ?_ _); rotate_left; focus (((try dsimp only); repeat (first | omega | simp only [World.size_alloc, World.size_setCell, World.size_drew] | (with_reducible refine le_ext_of ?_) | (with_reducible refine le_ext_add ?_))); done)) | (with_reducible refine Below.drew ?_)))))
      have hEnd : ∀ (w2 : World) (p' : Option Addr) (q' : Nat), W1.drew.grownBy w2 (Value.slice p pre.length q).ownBlock → OwnInts w2 n1 (.slice p' (List.map (fun t => ownf b.os st t) pre ++ [ownf b.os st x]).length q') (List.map (fun t => ownf b.os st t) pre ++ [ownf b.os st x]) →
          Spare (fun k => k = w.heap.size + 1) n1 W' (w2.setCell ⟨w.heap.size + 1, 0, none⟩ (.slice p' (pre.length + 1) q')) ∧
          ∃ v : Value, Blk (w2.setCell ⟨w.heap.size + 1, 0, none⟩ (.slice p' (pre.length + 1) q')) w.heap.size 83 (cvcells h b B) ∧ Blk (w2.setCell ⟨w.heap.size + 1, 0, none⟩ (.slice p' (pre.length + 1) q')) (w.heap.size + 1) 28 #[v] ∧ OwnInts (w2.setCell ⟨w.heap.size + 1, 0, none⟩ (.slice p' (pre.length + 1) q')) n1 v ((pre ++ [x]).map (fun t => ownf b.os st t)) ∧ Below w.heap.size w (w2.setCell ⟨w.heap.size + 1, 0, none⟩ (.slice p' (pre.length + 1) q')) := by
        intro w2 p' q' g2 o2
        obtain ⟨e1, e2, e3, e4, e5⟩ := hG w2 g2
        rw [List.length_append, List.length_map] at o2
        refine ⟨?_, .slice p' (pre.length + 1) q', ?_, ?_, ?_, ?_⟩
        · refine Spare.setCell (O := fun k => k = w.heap.size + 1) (b := w.heap.size + 1) (Spare.of_below ?_) (.inl rfl) 0 _
          refine Below.grown (w := W1.drew) ?_ g2 (by show _ ≤ W1.heap.size; omega) (fun k hk1 => (c3.lt k hk1).1)
          exact (hB1.mono (by omega)).trans (by (repeat (first | (with_reducible exact Below.refl _ _) | (with_reducible assumption) | ((with_reducible refine below_ext_trans ?_ ?_ _); rotate_left; focus (((try dsimp only); repeat (first | omega | simp only [World.size_alloc, World.size_setCell, World.size_drew] | (with_reducible refine le_ext_of ?_) | (with_reducible refine le_ext_add ?_))); done)) | ((with_reducible refine Below.alloc ?_ ?_ _); rotate_left; focus (((try dsimp only); repeat (first | omega | simp only [World.size_alloc, World.size_setCell, World.size_drew] | (with_reducible refine le_ext_of ?_) | (with_reducible refine le_ext_add ?_))); done)) | ((with_reducible refine Below.setCell ?_ ?_ _); rotate_left; focus (((try dsimp only); repeat (first | omega | simp only [World.size_alloc, World.size_setCell, World.size_drew] | (with_reducible refine le_ext_of ?_) | (with_reducible refine le_ext_add ?_))); done)) | (with_reducible refine Below.drew ?_))))
        · exact (show Blk w2 _ _ _ from e1.trans c1).setOther (by omega) 0 _
        · exact (show Blk w2 _ _ _ from e2.trans c2).set1
        · rw [List.map_append]
          refine o2.kept (fun k hk1 => setCell_heap w2 (w.heap.size + 1) 0 k _ ?_)
          have := (o2.lt k hk1).1
          omega
        · exact e5.trans (by (repeat (first | (with_reducible exact Below.refl _ _) | (with_reducible assumption) | ((with_reducible refine below_ext_trans ?_ ?_ _); rotate_left; focus (((try dsimp only); repeat (first | omega | simp only [World.size_alloc, World.size_setCell, World.size_drew] | (with_reducible refine le_ext_of ?_) | (with_reducible refine le_ext_add ?_))); done)) | ((with_reducible refine Below.alloc ?_ ?_ _); rotate_left; focus (((try dsimp only); repeat (first | omega | simp only [World.size_alloc, World.size_setCell, World.size_drew] | (with_reducible refine le_ext_of ?_) | (with_reducible refine le_ext_add ?_))); done)) | ((with_reducible refine Below.setCell ?_ ?_ _); rotate_left; focus (((try dsimp only); repeat (first | omega | simp only [World.size_alloc, World.size_setCell, World.size_drew] | (with_reducible refine le_ext_of ?_) | (with_reducible refine le_ext_add ?_))); done)) | (with_reducible refine Below.drew ?_))))
      refine wpAnyHR_two (i := 0) (i' := 5) (by kernel_rfl) rfl rfl (fun K HKK => ?_) (fun K HKK => ?_)
      · rw [if_pos (by rfl)]; unfold Oper.wpIn; refine ⟨fun _ _ => trivial, ?_⟩
        go_simp
        refine HKK _ _ hS ?_
        refine wpAnyHR_one (i := 5) (by kernel_rfl) rfl (fun K2 HK2 => ?_)
        rw [if_pos (by rfl)]; unfold Oper.wpIn; refine ⟨fun _ _ => trivial, ?_⟩
        go_simp
        refine HK2 _ _ hS1 ?_
        refine wpAnyHR_one (i := 6) (by kernel_rfl) rfl (fun K3 HK3 => ?_)
        refine stepR_append_int rfl (.tmp 16) (.tmp 21) rfl n1 _ _ rfl o1 W'.heap.size (ownf b.os st x) rfl nc hll hn1 ?_
        rintro v' w2 p1 p2
        obtain ⟨b1, b2, b3, b4, b5⟩ := hG w2 p2
        obtain ⟨p', q', rfl, -⟩ := p1.at
        refine HK3 _ _ (hSX w2 b1 b3 b4) ?_
        simp only [Act.put, List.getElem_toArray, List.getElem_cons_succ, List.getElem_cons_zero, List.setIfInBounds_toArray, List.set_cons_zero, List.set_cons_succ]
        refine wpAnyHR_one (i := 7) (by kernel_rfl) rfl (fun K4 HK4 => ?_)
        have y7 : w2.cell? ⟨w.heap.size + 1, 0, none⟩ = some (.slice p pre.length q) := by rw [World.cell?_of_block (a := ⟨w.heap.size + 1, 0, none⟩) b2]; exact t7c
        have y8 : w2.frozen? ⟨w.heap.size + 1, 0, none⟩ = false := by rw [World.frozen?_of_block (a := ⟨w.heap.size + 1, 0, none⟩) b2]; exact t7f
        rw [if_pos (by rfl)]; unfold Oper.wpIn; refine ⟨fun _ _ => trivial, ?_⟩
        go_simp
        refine HK4 _ _ (hSX _ ((setCell_heap w2 (w.heap.size + 1) 0 _ _ (by omega)).trans b1) ((setCell_heap w2 (w.heap.size + 1) 0 _ _ (by omega)).trans b3) ((setCell_heap w2 (w.heap.size + 1) 0 _ _ (by omega)).trans b4)) ?_
        refine wpAnyHR_done (by kernel_rfl) ?_ _
        exact (show Spare _ _ _ _ ∧ _ from hEnd w2 p' q' p2 p1)
      · rw [if_pos (by rfl)]; unfold Oper.wpIn; refine ⟨fun _ _ => trivial, ?_⟩
        go_simp
        refine HKK _ _ hS1 ?_
        refine wpAnyHR_one (i := 0) (by kernel_rfl) rfl (fun K2 HK2 => ?_)
        have t7d : W1.cell? ⟨w.heap.size + 1, 0, none⟩ = some (.slice p pre.length q) := (hB1.cell (p := ⟨w.heap.size + 1, 0, none⟩) (by show w.heap.size + 1 < W'.heap.size; omega)).trans t7c
        rw [if_pos (by rfl)]; unfold Oper.wpIn; refine ⟨fun _ _ => trivial, ?_⟩
        go_simp
        refine HK2 _ _ hS1 ?_
        refine wpAnyHR_one (i := 6) (by kernel_rfl) rfl (fun K3 HK3 => ?_)
        refine stepR_append_int rfl (.tmp 16) (.tmp 21) rfl n1 _ _ rfl o1 W'.heap.size (ownf b.os st x) rfl nc hll hn1 ?_
        rintro v' w2 p1 p2
        obtain ⟨b1, b2, b3, b4, b5⟩ := hG w2 p2
        obtain ⟨p', q', rfl, -⟩ := p1.at
        refine HK3 _ _ (hSX w2 b1 b3 b4) ?_
        simp only [Act.put, List.getElem_toArray, List.getElem_cons_succ, List.getElem_cons_zero, List.setIfInBounds_toArray, List.set_cons_zero, List.set_cons_succ]
        refine wpAnyHR_one (i := 7) (by kernel_rfl) rfl (fun K4 HK4 => ?_)
        have y7 : w2.cell? ⟨w.heap.size + 1, 0, none⟩ = some (.slice p pre.length q) := by rw [World.cell?_of_block (a := ⟨w.heap.size + 1, 0, none⟩) b2]; exact t7c
        have y8 : w2.frozen? ⟨w.heap.size + 1, 0, none⟩ = false := by rw [World.frozen?_of_block (a := ⟨w.heap.size + 1, 0, none⟩) b2]; exact t7f
        rw [if_pos (by rfl)]; unfold Oper.wpIn; refine ⟨fun _ _ => trivial, ?_⟩
        go_simp
        refine HK4 _ _ (hSX _ ((setCell_heap w2 (w.heap.size + 1) 0 _ _ (by omega)).trans b1) ((setCell_heap w2 (w.heap.size + 1) 0 _ _ (by omega)).trans b3) ((setCell_heap w2 (w.heap.size + 1) 0 _ _ (by omega)).trans b4)) ?_
        refine wpAnyHR_done (by kernel_rfl) ?_ _
        exact (show Spare _ _ _ _ ∧ _ from hEnd w2 p' q' p2 p1)
    case hdone =>
      rintro D n1 xs W' rfl hn hz rfl ⟨v, c1, c2, c3, c4⟩ hD
      have hne : List.map (fun t => ownf b.os st t) (seg (cnt [kspec b.bs 2 0 4, kspec b.bs 2 0 5, kspec b.bs 2 0 6, kspec b.bs 2 0 7] m) (cnt [kspec b.bs 2 0 0, kspec b.bs 2 0 1, kspec b.bs 2 0 2, kspec b.bs 2 0 3] m)) ≠ [] := by
        have := HLE.out
        intro e
        have e2 := congrArg List.length e
        simp only [seg, upto, List.length_map, List.length_range, List.length_nil] at e2
        omega
      have hD1 : (List.map (fun t => ownf b.os st t) (seg (cnt [kspec b.bs 2 0 4, kspec b.bs 2 0 5, kspec b.bs 2 0 6, kspec b.bs 2 0 7] m) (cnt [kspec b.bs 2 0 0, kspec b.bs 2 0 1, kspec b.bs 2 0 2, kspec b.bs 2 0 3] m))).length ≤ 100000 := by
        have h2 := HNB.out
        obtain ⟨_, _, _, hn4, _⟩ := bookB_rows HK.out.ok
        simp only [seg, upto, List.length_map, List.length_range]
        omega
      have HOL := Lib.hid (show ownersL b st (cnt (lateL b.bs) m) (cnt (soonL b.bs) m) = Lib.compact ((List.map (fun t => ownf b.os st t) (seg (cnt [kspec b.bs 2 0 4, kspec b.bs 2 0 5, kspec b.bs 2 0 6, kspec b.bs 2 0 7] m) (cnt [kspec b.bs 2 0 0, kspec b.bs 2 0 1, kspec b.bs 2 0 2, kspec b.bs 2 0 3] m))).mergeSort fun x y => decide (x ≤ y)) from rfl)
      generalize List.map (fun t => ownf b.os st t) (seg (cnt [kspec b.bs 2 0 4, kspec b.bs 2 0 5, kspec b.bs 2 0 6, kspec b.bs 2 0 7] m) (cnt [kspec b.bs 2 0 0, kspec b.bs 2 0 1, kspec b.bs 2 0 2, kspec b.bs 2 0 3] m)) = L at *
      obtain ⟨gb, q, rfl, hgn, hgz, hlq, hH⟩ := own_holds c3 hne
      have hsl : (L.mergeSort fun x y => decide (x ≤ y)).length = L.length := List.length_mergeSort _
      have hsort := Go.Proofs.Tryd.slices_Sort_int gb 0 q L W' hH hgz (by omega)
      have t7c := c2.cell 0
      simp only [List.size_toArray, List.length_cons, List.length_nil, Nat.reduceAdd, Nat.reduceLT, getElem?_pos, List.getElem_toArray, List.getElem_cons_zero, List.getElem_cons_succ] at t7c
      have hl7 := c2.lt
      have hgD : wc.heap.size ≠ gb := by omega
      have C4 := Lib.hid c4
      clear c1 c2 c3 c4 hq1 hq7 hseq
      go_wp2_with fail
      refine hsort.mono ?_
      rintro e w2 ⟨rfl, nn, os, hw2⟩
      obtain ⟨hH2, hg2⟩ := sorted_holds hH hgz hw2
      have t7d : w2.cell? ⟨w.heap.size + 1, 0, none⟩ = some (.slice (some ⟨gb, 0, none⟩) L.length q) := by rw [World.cell?_of_block (a := ⟨w.heap.size + 1, 0, none⟩) (hg2.block (w.heap.size + 1) hl7 (by intro e; have e := Option.some.inj e; omega))]; exact t7c
      have hcomp := Go.Proofs.Tryd.slices_Compact_int gb 0 q (L.mergeSort fun x y => decide (x ≤ y)) w2 hH2 (by omega) (by omega)
      rw [hsl] at hcomp
      have HG2 := Lib.hid hg2
      have HH2 := Lib.hid hH2
      clear hw2 hsort hg2 hH2 t7c
      go_wp2_with fail
      refine hcomp.mono ?_
      rintro e w3 ⟨rfl, n3, hw3⟩
      rw [← hsl] at hw3
      obtain ⟨hI3, hg3⟩ := compacted_holds HH2.out (Nat.lt_of_lt_of_le hgz HG2.out.size) hw3
      have HI3 := Lib.hid hI3
      have HG3 := Lib.hid hg3
      clear hw3 hcomp hI3 hg3
      go_wp2_with fail
      refine ⟨by simp, .inl ⟨_, _, rfl, run_takeDeferred (((HG3.out.block wc.heap.size (by have := HG2.out.size; omega) (by intro e; have e := Option.some.inj e; omega)).trans (HG2.out.block wc.heap.size (by omega) (by intro e; have e := Option.some.inj e; omega))).trans hD), ?_⟩⟩
      refine ⟨_, results_tmp rfl _ _ _, ?_⟩
      rw [HOL.out]
      refine ⟨some ⟨gb, 0, none⟩, q, rfl, ?_, ext_of ?_⟩
      · intro i y hy
        obtain ⟨b5, o5, h51, h52, h53⟩ := HI3.out i y hy
        cases h51
        refine ⟨gb, 0, rfl, by simpa using h52, ?_⟩
        rw [World.cell?_of_block (a := ⟨gb, 0 + i, none⟩) (World.putObj_heap_other (Ne.symm hgD))]
        exact h53
      · have hb2 : Below w.heap.size w w2 := Below.grown C4.out HG2.out C4.out.size (fun k hk => by have := Option.some.inj hk; omega)
        have hb3 : Below w.heap.size w w3 := Below.grown hb2 HG3.out hb2.size (fun k hk => by have := Option.some.inj hk; omega)
        exact hb3.trans ((Priv.putObj (n0 := w.heap.size) (n1 := wc.heap.size + 1) w3 (by omega) (by omega) _).below (Nat.le_refl _) hb3.size)
    case hstop =>
      intro D n1 c pre W' _ _ _ _ h _
      exact h.elim
end Go.Proofs.YtdmicngnbcdkdaaDoor

