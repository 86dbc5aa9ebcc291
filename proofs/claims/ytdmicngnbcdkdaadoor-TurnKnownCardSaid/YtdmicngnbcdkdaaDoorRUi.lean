/- Contract of wrong: the best list of shots that are unfair in one truth. -/
import Derived.Test.YtdmicngnbcdkdaaDoorRUh
import Derived.Test.YtdmicngnbcdkdaaDoorRUa
set_option linter.unusedSimpArgs false
set_option linter.unusedVariables false
namespace Go.Proofs.YtdmicngnbcdkdaaDoor
open Go Go.RowKit Go.Maps Go.Shelf

abbrev U (b : Bk) (v : List Int) : List Int := unfairL b v b.ss.length
/-- The best list of unfair shots of some truths, the one with all bounds as soon as they can be first. -/
def wrongOf (b : Bk) (pre : List (List Int)) : List Int := bestOf (U b (b.bs.map Prod.fst)) (pre.map (U b))
def wrongL (b : Bk) : List Int := wrongOf b (allT b)
theorem wrongOf_snoc (b : Bk) (pre : List (List Int)) (x : List Int) : wrongOf b (pre ++ [x]) = bestStep (wrongOf b pre) (U b x) := by simp [wrongOf, bestOf_snoc]
theorem wrongOf_done {b : Bk} {pre : List (List Int)} (hp : pre <+: allT b) (h : wrongOf b pre = []) : wrongL b = [] := by
  obtain ⟨zs, hz⟩ := hp
  unfold wrongL
  rw [← hz]
  unfold wrongOf at h ⊢
  rw [List.map_append, bestOf_append, h, bestOf_nil]
theorem wrongOf_len (b : Bk) (pre : List (List Int)) : (wrongOf b pre).length ≤ b.ss.length := by
  unfold wrongOf
  rcases bestOf_mem (U b (b.bs.map Prod.fst)) (pre.map (U b)) with h | h
  · rw [h]; exact unfairL_le _ _ _
  · obtain ⟨v, _, hv⟩ := List.mem_map.1 h
    rw [← hv]; exact unfairL_le _ _ _
theorem allT_len {b : Bk} {v : List Int} (h : v ∈ allT b) : v.length = b.bs.length := by
  have := ((mem_prodL (MS b) v).1 h).1
  simpa [MS] using this

/-- What the body keeps: the best list so far. -/
structure WI (w : World) (h : Hd) (b : Bk) (B : Nat) (r t3 : Nat) (l : List Int) (M : Nat → Prop) (A : World) : Prop where
  low : Below w.heap.size w A
  c : Blk A w.heap.size 83 (cvcells h b B)
  cM : ¬ M w.heap.size ∧ w.heap.size ≠ r
  tM : ¬ M t3 ∧ t3 ≠ r
  v : ∃ v, Blk A t3 28 #[v] ∧ OwnInts A (w.heap.size + 1) v l ∧ ∀ g, v.ownBlock = some g → ¬ M g ∧ g ≠ r ∧ g ≠ t3 ∧ g + 1 ≠ r
theorem WI.stable {w : World} {h : Hd} {b : Bk} {B r t3 : Nat} {l : List Int} {M M' : Nat → Prop} {A C : World} (k : WI w h b B r t3 l M A) (hlM : ∀ j, M j → w.heap.size ≤ j) (hr : w.heap.size ≤ r) (hp : PrivM (fun j => M j ∨ j = r) A C) (hM : ∀ j, M' j → M j ∨ A.heap.size ≤ j) :
    WI w h b B r t3 l M' C := by
  obtain ⟨low, c, cM, tM, v, hv, ho, hg⟩ := k
  have hno : ∀ j, j < A.heap.size → ¬ M j → j ≠ r → C.heap[j]? = A.heap[j]? := fun j hj h1 h2 => hp.block j hj (by rintro (h | h); exact h1 h; exact h2 h)
  have hno' : ∀ j, j < A.heap.size → ¬ M j → ¬ M' j := fun j hj h1 h2 => by
    rcases hM j h2 with h | h
    · exact h1 h
    · omega
  refine ⟨low.trans ⟨hp.os, hp.tape, hp.output, hp.size, fun j hj => hno j (by have := low.size; omega) (fun e => by have := hlM j e; omega) (by omega)⟩, (hno _ c.lt cM.1 cM.2).trans c, ⟨hno' _ c.lt cM.1, cM.2⟩, ⟨hno' _ hv.lt tM.1, tM.2⟩, v, (hno _ hv.lt tM.1 tM.2).trans hv, ho.kept (fun g hg' => ?_), fun g hg' => ?_⟩
  · obtain ⟨h1, h2, h3⟩ := hg g hg'
    exact hno g (ho.lt g hg').2 h1 h2
  · obtain ⟨h1, h2, h3⟩ := hg g hg'
    exact ⟨hno' g (ho.lt g hg').2 h1, h2, h3⟩

attribute [local go_sem] Oper.semAt_some frozen_alloc_lt
set_option maxRecDepth 100000 in
set_option maxHeartbeats 4000000 in
theorem wrong_any (h : Hd) (b : Bk) (B : Nat) (w : World) (hk : CoveOK w h b B) (hn : NB w) :
    Calls Tryd.prog 53 #[.agg #[.int .i64 b.n, .slice h.pb b.bs.length h.cb, .slice h.po b.os.length h.co, .slice h.ps b.ss.length h.cs, .int .i64 (kspec b.bs 2 0 0), .int .i64 (kspec b.bs 2 0 1), .int .i64 (kspec b.bs 2 0 2), .int .i64 (kspec b.bs 2 0 3), .int .i64 (kspec b.bs 2 0 4), .int .i64 (kspec b.bs 2 0 5), .int .i64 (kspec b.bs 2 0 6), .int .i64 (kspec b.bs 2 0 7), .map (some B)]] w (ListPost w (wrongL b)) := by
  refine (callsIn_wide (n := 9)).1 ?_
  have hss := bookB_ss hk.ok
  have HT := Lib.hid (show tl (b.bs.map Prod.fst) = [kspec b.bs 2 0 0, kspec b.bs 2 0 1, kspec b.bs 2 0 2, kspec b.bs 2 0 3] from (soon_tl b.bs).symm)
  have HK := Lib.hid hk
  have HN := Lib.hid hn
  clear hk hn
  refine callsIn_of_wp_marks Tryd.func53 rfl trivial ?_ rfl
  simp only [Tryd.ntmps53, List.size_toArray, List.length_cons, List.length_nil, Nat.reduceAdd, Nat.reduceSub, Array.replicate_succ, Array.replicate_zero, List.push_toArray, List.append_toArray, List.nil_append, List.cons_append]
  gi_wp2_with (first
    | (gi_at_call 73; refine (callsIn_wide.2 (unfair_any h b B (b.bs.map Prod.fst) _ _ _ _ _ (HK.out.below (by (repeat (first | (with_reducible exact Below.refl _ _) | (with_reducible assumption) | ((with_reducible refine below_ext_trans ?_ ?_ _); rotate_left; focus (((try dsimp only); repeat (first | omega | simp only [World.size_alloc, World.size_setCell, World.size_drew] | (with_reducible refine le_ext_of ?_) | (with_reducible refine le_ext_add ?_))); done)) | ((with_reducible refine Below.alloc ?_ ?_ _); rotate_left; focus (((try dsimp only); repeat (first | omega | simp only [World.size_alloc, World.size_setCell, World.size_drew] | (with_reducible refine le_ext_of ?_) | (with_reducible refine le_ext_add ?_))); done)) | ((with_reducible refine Below.setCell ?_ ?_ _); rotate_left; focus (((try dsimp only); repeat (first | omega | simp only [World.size_alloc, World.size_setCell, World.size_drew] | (with_reducible refine le_ext_of ?_) | (with_reducible refine le_ext_add ?_))); done)) | (with_reducible refine Below.drew ?_))))) (by simp) HT.out)).mono ?_; rintro e w' ⟨v3, rfl, ho, y, rfl⟩; obtain ⟨p3, q3, rfl, -⟩ := ho.at)
    | (gi_at_call 74; refine (callsIn_wide.2 (truths_any h b B _)).mono ?_; rintro e w' ⟨gt, rfl, hgt, hbt, z, rfl⟩))
  generalize hW1 : ext _ y = W1 at *
  have hbW1 : Below w.heap.size w W1 := by rw [← hW1]; (repeat (first | (with_reducible exact Below.refl _ _) | (with_reducible assumption) | ((with_reducible refine below_ext_trans ?_ ?_ _); rotate_left; focus (((try dsimp only); repeat (first | omega | simp only [World.size_alloc, World.size_setCell, World.size_drew] | (with_reducible refine le_ext_of ?_) | (with_reducible refine le_ext_add ?_))); done)) | ((with_reducible refine Below.alloc ?_ ?_ _); rotate_left; focus (((try dsimp only); repeat (first | omega | simp only [World.size_alloc, World.size_setCell, World.size_drew] | (with_reducible refine le_ext_of ?_) | (with_reducible refine le_ext_add ?_))); done)) | ((with_reducible refine Below.setCell ?_ ?_ _); rotate_left; focus (((try dsimp only); repeat (first | omega | simp only [World.size_alloc, World.size_setCell, World.size_drew] | (with_reducible refine le_ext_of ?_) | (with_reducible refine le_ext_add ?_))); done)) | (with_reducible refine Below.drew ?_)))
  have hzW1 : w.heap.size + 1 ≤ W1.heap.size := by rw [← hW1]; ((try dsimp only); repeat (first | omega | simp only [World.size_alloc, World.size_setCell, World.size_drew] | (with_reducible refine le_ext_of ?_) | (with_reducible refine le_ext_add ?_)))
  have hc1 : Blk W1 w.heap.size 83 (cvcells h b B) := by rw [← hW1]; exact Blk.ext (Blk.new rfl) y
  simp only [World.size_alloc] at ho
  clear hW1
  generalize ht3 : W1.heap.size = t3 at *
  generalize hW2 : W1.alloc _ = W2 at *
  have hb12 : Below W1.heap.size W1 W2 := by rw [← hW2]; (repeat (first | (with_reducible exact Below.refl _ _) | (with_reducible assumption) | ((with_reducible refine below_ext_trans ?_ ?_ _); rotate_left; focus (((try dsimp only); repeat (first | omega | simp only [World.size_alloc, World.size_setCell, World.size_drew] | (with_reducible refine le_ext_of ?_) | (with_reducible refine le_ext_add ?_))); done)) | ((with_reducible refine Below.alloc ?_ ?_ _); rotate_left; focus (((try dsimp only); repeat (first | omega | simp only [World.size_alloc, World.size_setCell, World.size_drew] | (with_reducible refine le_ext_of ?_) | (with_reducible refine le_ext_add ?_))); done)) | ((with_reducible refine Below.setCell ?_ ?_ _); rotate_left; focus (((try dsimp only); repeat (first | omega | simp only [World.size_alloc, World.size_setCell, World.size_drew] | (with_reducible refine le_ext_of ?_) | (with_reducible refine le_ext_add ?_))); done)) | (with_reducible refine Below.drew ?_)))
  have hz2 : W2.heap.size = t3 + 1 := by rw [← hW2]; simp [ht3]
  have hb3 : Blk W2 t3 28 #[.slice p3 (unfairL b (List.map Prod.fst b.bs) b.ss.length).length q3] := by rw [← hW2]; exact Blk.new ht3.symm
  have hb2R := below_ext W2 z
  have hzR : W2.heap.size ≤ (ext W2 z).heap.size := hb2R.size
  clear hW2
  generalize ext W2 z = R at *
  have hb1R : Below W1.heap.size W1 R := hb12.trans (hb2R.mono hb12.size)
  have hwR : Below w.heap.size w R := hbW1.trans (hb1R.mono (by omega))
  have hgl := hbt.lt
  have hWI : WI w h b B (R.heap.size + 1) t3 (wrongOf b []) (fun _ => False) R := by
    refine ⟨hwR, (hb1R.block _ hc1.lt).trans hc1, ⟨fun h => h, by omega⟩, ⟨fun h => h, by omega⟩, _, (hb2R.block _ hb3.lt).trans hb3, ?_, fun g hg => ⟨fun h => h, ?_⟩⟩
    · exact OwnInts.kept ho (fun g hg => hb1R.block g (ho.lt g hg).2)
    · have := (ho.lt g hg).2; omega
  have HWI := Lib.hid hWI
  have hseq := truths1_in h b B gt (fun j => j = t3 ∨ j = R.heap.size + 1) w R HK.out HN.out hwR hbt (fun j hj => by omega)
  clear ho hc1 hb3 hWI hb12 hb2R hb1R hwR hbW1
  refine wpIn_rangeFunc_m (gf := 90) (lb := #[.pointer (some ⟨gt, 0, none⟩)]) rfl (enters_of Tryd.func90 (by kernel_rfl) rfl)
    (fun j => j = t3) (fun j hj => by omega) hseq (Below.refl _ _) (fun _ => rfl)
    (fun M pre A => WI w h b B (R.heap.size + 1) t3 (wrongOf b pre) M A ∧ ∀ j, M j → w.heap.size ≤ j)
    (fun M c pre A => c = .exit 0 ∧ (WI w h b B (R.heap.size + 1) t3 (wrongOf b pre) M A ∧ ∀ j, M j → w.heap.size ≤ j) ∧ Hid (wrongOf b pre = []))
    (fun M pre x a' A => ∃ (g : Nat) (c0 c1 c2 c3 : Int), tl x = [c0, c1, c2, c3] ∧ ¬ M g ∧ g ≠ R.heap.size + 1 ∧ g ≠ t3 ∧ Blk A g 78 #[.int .i64 c0, .int .i64 c1, .int .i64 c2, .int .i64 c3] ∧ a' = { tmps := #[.agg (cvcells h b B), .pointer (some ⟨w.heap.size, 0, none⟩), .slice none 0 0, .pointer (some ⟨t3, 0, none⟩), .pointer (some ⟨g, 0, none⟩), undef, .agg (cvcells h b B), .pointer (some ⟨w.heap.size, 4, none⟩), .pointer (some ⟨w.heap.size, 4, none⟩), .agg #[.int .i64 (kspec b.bs 2 0 0), .int .i64 (kspec b.bs 2 0 1), .int .i64 (kspec b.bs 2 0 2), .int .i64 (kspec b.bs 2 0 3)], .slice p3 (unfairL b (List.map Prod.fst b.bs) b.ss.length).length q3, .agg (cvcells h b B), .func (.func 90) #[] #[.pointer (some ⟨gt, 0, none⟩)], .agg #[.int .i64 c0, .int .i64 c1, .int .i64 c2, .int .i64 c3], undef, undef, undef, undef, undef, undef, undef, undef, undef, undef, undef], defers := [] })
    ?hI ?hIx ?hAx ?h0 ?hassign ?hbody ?hdone ?hstop
  case hI =>
    rintro M M' pre A C ⟨i1, i2⟩ hp hM
    exact ⟨i1.stable i2 (by omega) hp hM, fun j hj => by
      rcases hM j hj with h | h
      · exact i2 j h
      · have := i1.low.size; omega⟩
  case hIx =>
    rintro c M M' pre A C ⟨i0, ⟨i1, i2⟩, i3⟩ hp hM
    exact ⟨i0, ⟨i1.stable i2 (by omega) hp hM, fun j hj => by
      rcases hM j hj with h | h
      · exact i2 j h
      · have := i1.low.size; omega⟩, i3⟩
  case hAx =>
    rintro M pre x a' A C ⟨g, c0, c1, c2, c3, a1, a2, a3, a4, a5, rfl⟩ hp
    exact ⟨g, c0, c1, c2, c3, a1, a2, a3, a4, (hp.block g a5.lt (by rintro (h | h); exact a2 h; exact a3 h)).trans a5, rfl⟩
  case h0 =>
    intro W1' hb hz
    exact ⟨HWI.out.stable (fun _ h => h.elim) (by omega) (PrivM.of_below hb) (fun _ h => h.elim), fun _ h => h.elim⟩
  case hassign =>
    intro m l M pre x W' hM hz hsp hi'
    obtain ⟨c0, c1, c2, c3, hc⟩ : ∃ c0 c1 c2 c3, tl x = [c0, c1, c2, c3] := ⟨_, _, _, _, rfl⟩
    rw [encT_of hc]
    have HI := Lib.hid hi'
    clear hi'
    gi_wp2
    refine ⟨⟨HI.out.1.stable HI.out.2 (by omega) (PrivM.of_below (by (repeat (first | (with_reducible exact Below.refl _ _) | (with_reducible assumption) | ((with_reducible refine below_ext_trans ?_ ?_ _); rotate_left; focus (((try dsimp only); repeat (first | omega | simp only [World.size_alloc, World.size_setCell, World.size_drew] | (with_reducible refine le_ext_of ?_) | (with_reducible refine le_ext_add ?_))); done)) | ((with_reducible refine Below.alloc ?_ ?_ _); rotate_left; focus (((try dsimp only); repeat (first | omega | simp only [World.size_alloc, World.size_setCell, World.size_drew] | (with_reducible refine le_ext_of ?_) | (with_reducible refine le_ext_add ?_))); done)) | ((with_reducible refine Below.setCell ?_ ?_ _); rotate_left; focus (((try dsimp only); repeat (first | omega | simp only [World.size_alloc, World.size_setCell, World.size_drew] | (with_reducible refine le_ext_of ?_) | (with_reducible refine le_ext_add ?_))); done)) | (with_reducible refine Below.drew ?_))))) (fun j hj => .inl hj), HI.out.2⟩, ⟨W'.heap.size, c0, c1, c2, c3, hc, fun h => by have := (hM _ h).2; omega, by omega, by omega, Blk.new rfl, rfl⟩, by (repeat (first | (with_reducible exact Below.refl _ _) | (with_reducible assumption) | ((with_reducible refine below_ext_trans ?_ ?_ _); rotate_left; focus (((try dsimp only); repeat (first | omega | simp only [World.size_alloc, World.size_setCell, World.size_drew] | (with_reducible refine le_ext_of ?_) | (with_reducible refine le_ext_add ?_))); done)) | ((with_reducible refine Below.alloc ?_ ?_ _); rotate_left; focus (((try dsimp only); repeat (first | omega | simp only [World.size_alloc, World.size_setCell, World.size_drew] | (with_reducible refine le_ext_of ?_) | (with_reducible refine le_ext_add ?_))); done)) | ((with_reducible refine Below.setCell ?_ ?_ _); rotate_left; focus (((try dsimp only); repeat (first | omega | simp only [World.size_alloc, World.size_setCell, World.size_drew] | (with_reducible refine le_ext_of ?_) | (with_reducible refine le_ext_add ?_))); done)) | (with_reducible refine Below.drew ?_)))⟩
  case hbody =>
    rintro m l M pre x a' W' hl hM hz hsp ⟨i1, i2⟩ ⟨g, c0, c1, c2, c3, a1, a2, a3, a4, a5, rfl⟩
    have hxl := allT_len (hsp.subset (show x ∈ pre ++ [x] by simp))
    have I2 := Lib.hid i2
    obtain ⟨low, c, cM, tM, v, hv, ho, hg⟩ := i1
    obtain ⟨p, q, rfl, hp⟩ := ho.at
    obtain ⟨d0, d1, d2, d3, d4, d5, d6, d7, d8, d9, d10, d11, d12⟩ := cvBlk c
    have t30 := hv.cell 0
    have t3f := hv.frozen 0
    have e0 := a5.cell 0
    have e1 := a5.cell 1
    have e2 := a5.cell 2
    have e3 := a5.cell 3
    simp only [List.size_toArray, List.length_cons, List.length_nil, Nat.reduceAdd, Nat.reduceLT, getElem?_pos, List.getElem_toArray, List.getElem_cons_zero, List.getElem_cons_succ] at t30 e0 e1 e2 e3
    have lc := c.lt
    have lt3 := hv.lt
    have lg := a5.lt
    have hwl := low.size
    have HKr := Lib.hid (HK.out.below low)
    have HXL := Lib.hid hxl
    have HA1 := Lib.hid a1
    have LOW := Lib.hid low
    have CB := Lib.hid c
    have HV := Lib.hid hv
    have HO := Lib.hid ho
    have HG := Lib.hid hg
    have HP := Lib.hid hp
    have HSP := Lib.hid hsp
    have HM := Lib.hid hM
    have hlen := wrongOf_len b pre
    have hlen2 := unfairL_le b x b.ss.length
    have HKEEP : Hid (∀ X, Below W'.heap.size W' X → SpareM (KeepM (fun j => j = t3) R.heap.size M) W' X) := Lib.hid (fun X hX => SpareM.of_below hX (fun j hj => by
      rcases hj with hj | hj
      · omega
      · exact (hM j hj).2))
    have htK : ¬ KeepM (fun j => j = t3) R.heap.size M t3 := fun hj => by
      rcases hj with hj | hj
      · exact hj.2 rfl
      · exact tM.1 hj
    have HTK := Lib.hid htK
    have HCM := Lib.hid cM
    have HTM := Lib.hid tM
    clear i2 c hv ho hg hp low a1 a2 a5 hxl hsp hM htK cM tM hseq
    by_cases hf : fewerB (unfairL b x b.ss.length) (wrongOf b pre) = true
    · have HW := Lib.hid (show wrongOf b (pre ++ [x]) = unfairL b x b.ss.length by rw [wrongOf_snoc, bestStep, if_pos hf])
      by_cases hE : unfairL b x b.ss.length = []
      · have hl0 : (((unfairL b x b.ss.length).length : Nat) : Int) = 0 := by rw [hE]; rfl
        have hl1 : ((((unfairL b x b.ss.length).length : Nat) : Int) == 0) = true := by rw [hl0]; rfl
        have HE := Lib.hid (HW.out.trans hE)
        clear hE hl0
        gi_wp2_with (first
          | (gi_at_call 73; refine (CallsIn.inRound _ (callsIn_wide.2 (unfair_any h b B x _ _ _ _ _ (HKr.out.below (by (repeat (first | (with_reducible exact Below.refl _ _) | (with_reducible assumption) | ((with_reducible refine below_ext_trans ?_ ?_ _); rotate_left; focus (((try dsimp only); repeat (first | omega | simp only [World.size_alloc, World.size_setCell, World.size_drew] | (with_reducible refine le_ext_of ?_) | (with_reducible refine le_ext_add ?_))); done)) | ((with_reducible refine Below.alloc ?_ ?_ _); rotate_left; focus (((try dsimp only); repeat (first | omega | simp only [World.size_alloc, World.size_setCell, World.size_drew] | (with_reducible refine le_ext_of ?_) | (with_reducible refine le_ext_add ?_))); done)) | ((with_reducible refine Below.setCell ?_ ?_ _); rotate_left; focus (((try dsimp only); repeat (first | omega | simp only [World.size_alloc, World.size_setCell, World.size_drew] | (with_reducible refine le_ext_of ?_) | (with_reducible refine le_ext_add ?_))); done)) | (with_reducible refine Below.drew ?_))))) HXL.out HA1.out))).mono ?_; rintro e wu ⟨v5, rfl, ho5, y5, hw⟩; have hBu : Below W'.heap.size W' wu := (by rw [hw]; (repeat (first | (with_reducible exact Below.refl _ _) | (with_reducible assumption) | ((with_reducible refine below_ext_trans ?_ ?_ _); rotate_left; focus (((try dsimp only); repeat (first | omega | simp only [World.size_alloc, World.size_setCell, World.size_drew] | (with_reducible refine le_ext_of ?_) | (with_reducible refine le_ext_add ?_))); done)) | ((with_reducible refine Below.alloc ?_ ?_ _); rotate_left; focus (((try dsimp only); repeat (first | omega | simp only [World.size_alloc, World.size_setCell, World.size_drew] | (with_reducible refine le_ext_of ?_) | (with_reducible refine le_ext_add ?_))); done)) | ((with_reducible refine Below.setCell ?_ ?_ _); rotate_left; focus (((try dsimp only); repeat (first | omega | simp only [World.size_alloc, World.size_setCell, World.size_drew] | (with_reducible refine le_ext_of ?_) | (with_reducible refine le_ext_add ?_))); done)) | (with_reducible refine Below.drew ?_)))); have HU := Lib.hid hBu; have u1 := (hBu.cell (p := ⟨t3, 0, none⟩) lt3).trans t30; have u3 := Nat.lt_of_lt_of_le lt3 hBu.size; obtain ⟨p5, q5, rfl, hp5⟩ := ho5.at; have HP5 := Lib.hid hp5.1; have HO5 := Lib.hid ho5; clear hw hBu hp5 ho5)
          | (gi_at_call 75; refine (CallsIn.inRound _ (callsIn_wide.2 (fewer_any p5 p q5 q _ _ _ HP5.out (HP.out.1.below HU.out) (by omega)))).mono ?_; rintro e wf ⟨rfl, y6, hw⟩; have hBf : Below wu.heap.size wu wf := (by rw [hw]; (repeat (first | (with_reducible exact Below.refl _ _) | (with_reducible assumption) | ((with_reducible refine below_ext_trans ?_ ?_ _); rotate_left; focus (((try dsimp only); repeat (first | omega | simp only [World.size_alloc, World.size_setCell, World.size_drew] | (with_reducible refine le_ext_of ?_) | (with_reducible refine le_ext_add ?_))); done)) | ((with_reducible refine Below.alloc ?_ ?_ _); rotate_left; focus (((try dsimp only); repeat (first | omega | simp only [World.size_alloc, World.size_setCell, World.size_drew] | (with_reducible refine le_ext_of ?_) | (with_reducible refine le_ext_add ?_))); done)) | ((with_reducible refine Below.setCell ?_ ?_ _); rotate_left; focus (((try dsimp only); repeat (first | omega | simp only [World.size_alloc, World.size_setCell, World.size_drew] | (with_reducible refine le_ext_of ?_) | (with_reducible refine le_ext_add ?_))); done)) | (with_reducible refine Below.drew ?_)))); have HF := Lib.hid hBf; have f1 := (hBf.cell (p := ⟨t3, 0, none⟩) u3).trans u1; have f2 := (hBf.frozen (p := ⟨t3, 0, none⟩) u3).trans ((HU.out.frozen (p := ⟨t3, 0, none⟩) lt3).trans t3f); have f3 := Nat.lt_of_lt_of_le u3 hBf.size; clear hw hBf))
        have hB2 : Below W'.heap.size W' wf := HU.out.trans (HF.out.mono HU.out.size)
        have hg5 : ∀ gg, (Value.slice p5 (unfairL b x b.ss.length).length q5).ownBlock = some gg → ¬ M gg ∧ gg ≠ R.heap.size + 1 ∧ gg ≠ t3 ∧ gg + 1 ≠ R.heap.size + 1 := fun gg h5 => by
          have h6 := (HO5.out.lt gg h5).1
          exact ⟨fun hm => by have := (HM.out gg hm).2; omega, by omega, by omega, by omega⟩
        have ho6 : OwnInts (wf.setCell ⟨t3, 0, none⟩ (.slice p5 (unfairL b x b.ss.length).length q5)) (w.heap.size + 1) (.slice p5 (unfairL b x b.ss.length).length q5) (unfairL b x b.ss.length) :=
          (HO5.out.mono (by omega)).kept (fun gg h5 => (Below.heap_setCell _ _ _ _ (hg5 gg h5).2.2.1).trans (HF.out.block gg (HO5.out.lt gg h5).2))
        have hX : SpareM (KeepM (fun j => j = t3) R.heap.size M) W' (wf.setCell ⟨t3, 0, none⟩ (.slice p5 (unfairL b x b.ss.length).length q5)) := (HKEEP.out wf hB2).trans (SpareM.setCell _ HTK.out 0 _)
        have hWI : WI w h b B (R.heap.size + 1) t3 (wrongOf b (pre ++ [x])) M (wf.setCell ⟨t3, 0, none⟩ (.slice p5 (unfairL b x b.ss.length).length q5)) := by
          rw [HW.out]
          exact ⟨(LOW.out.trans (hB2.mono hwl)).setCell (by dsimp only; omega) _, Blk.setOther ((hB2.block _ lc).trans CB.out) (by omega) 0 _, HCM.out, HTM.out, _, Blk.set1 ((hB2.block _ lt3).trans HV.out), ho6, hg5⟩
        exact (show SpareM _ _ _ ∧ _ from ⟨hX, rfl, ⟨hWI, I2.out⟩, HE⟩)
      · have hl1 : ((((unfairL b x b.ss.length).length : Nat) : Int) == 0) = false := by simpa using hE
        clear hE
        gi_wp2_with (first
          | (gi_at_call 73; refine (CallsIn.inRound _ (callsIn_wide.2 (unfair_any h b B x _ _ _ _ _ (HKr.out.below (by (repeat (first | (with_reducible exact Below.refl _ _) | (with_reducible assumption) | ((with_reducible refine below_ext_trans ?_ ?_ _); rotate_left; focus (((try dsimp only); repeat (first | omega | simp only [World.size_alloc, World.size_setCell, World.size_drew] | (with_reducible refine le_ext_of ?_) | (with_reducible refine le_ext_add ?_))); done)) | ((with_reducible refine Below.alloc ?_ ?_ _); rotate_left; focus (((try dsimp only); repeat (first | omega | simp only [World.size_alloc, World.size_setCell, World.size_drew] | (with_reducible refine le_ext_of ?_) | (with_reducible refine le_ext_add ?_))); done)) | ((with_reducible refine Below.setCell ?_ ?_ _); rotate_left; focus (((try dsimp only); repeat (first | omega | simp only [World.size_alloc, World.size_setCell, World.size_drew] | (with_reducible refine le_ext_of ?_) | (with_reducible refine le_ext_add ?_))); done)) | (with_reducible refine Below.drew ?_))))) HXL.out HA1.out))).mono ?_; rintro e wu ⟨v5, rfl, ho5, y5, hw⟩; have hBu : Below W'.heap.size W' wu := (by rw [hw]; (repeat (first | (with_reducible exact Below.refl _ _) | (with_reducible assumption) | ((with_reducible refine below_ext_trans ?_ ?_ _); rotate_left; focus (((try dsimp only); repeat (first | omega | simp only [World.size_alloc, World.size_setCell, World.size_drew] | (with_reducible refine le_ext_of ?_) | (with_reducible refine le_ext_add ?_))); done)) | ((with_reducible refine Below.alloc ?_ ?_ _); rotate_left; focus (((try dsimp only); repeat (first | omega | simp only [World.size_alloc, World.size_setCell, World.size_drew] | (with_reducible refine le_ext_of ?_) | (with_reducible refine le_ext_add ?_))); done)) | ((with_reducible refine Below.setCell ?_ ?_ _); rotate_left; focus (((try dsimp only); repeat (first | omega | simp only [World.size_alloc, World.size_setCell, World.size_drew] | (with_reducible refine le_ext_of ?_) | (with_reducible refine le_ext_add ?_))); done)) | (with_reducible refine Below.drew ?_)))); have HU := Lib.hid hBu; have u1 := (hBu.cell (p := ⟨t3, 0, none⟩) lt3).trans t30; have u3 := Nat.lt_of_lt_of_le lt3 hBu.size; obtain ⟨p5, q5, rfl, hp5⟩ := ho5.at; have HP5 := Lib.hid hp5.1; have HO5 := Lib.hid ho5; clear hw hBu hp5 ho5)
          | (gi_at_call 75; refine (CallsIn.inRound _ (callsIn_wide.2 (fewer_any p5 p q5 q _ _ _ HP5.out (HP.out.1.below HU.out) (by omega)))).mono ?_; rintro e wf ⟨rfl, y6, hw⟩; have hBf : Below wu.heap.size wu wf := (by rw [hw]; (repeat (first | (with_reducible exact Below.refl _ _) | (with_reducible assumption) | ((with_reducible refine below_ext_trans ?_ ?_ _); rotate_left; focus (((try dsimp only); repeat (first | omega | simp only [World.size_alloc, World.size_setCell, World.size_drew] | (with_reducible refine le_ext_of ?_) | (with_reducible refine le_ext_add ?_))); done)) | ((with_reducible refine Below.alloc ?_ ?_ _); rotate_left; focus (((try dsimp only); repeat (first | omega | simp only [World.size_alloc, World.size_setCell, World.size_drew] | (with_reducible refine le_ext_of ?_) | (with_reducible refine le_ext_add ?_))); done)) | ((with_reducible refine Below.setCell ?_ ?_ _); rotate_left; focus (((try dsimp only); repeat (first | omega | simp only [World.size_alloc, World.size_setCell, World.size_drew] | (with_reducible refine le_ext_of ?_) | (with_reducible refine le_ext_add ?_))); done)) | (with_reducible refine Below.drew ?_)))); have HF := Lib.hid hBf; have f1 := (hBf.cell (p := ⟨t3, 0, none⟩) u3).trans u1; have f2 := (hBf.frozen (p := ⟨t3, 0, none⟩) u3).trans ((HU.out.frozen (p := ⟨t3, 0, none⟩) lt3).trans t3f); have f3 := Nat.lt_of_lt_of_le u3 hBf.size; clear hw hBf))
        have hB2 : Below W'.heap.size W' wf := HU.out.trans (HF.out.mono HU.out.size)
        have hg5 : ∀ gg, (Value.slice p5 (unfairL b x b.ss.length).length q5).ownBlock = some gg → ¬ M gg ∧ gg ≠ R.heap.size + 1 ∧ gg ≠ t3 ∧ gg + 1 ≠ R.heap.size + 1 := fun gg h5 => by
          have h6 := (HO5.out.lt gg h5).1
          exact ⟨fun hm => by have := (HM.out gg hm).2; omega, by omega, by omega, by omega⟩
        have ho6 : OwnInts (wf.setCell ⟨t3, 0, none⟩ (.slice p5 (unfairL b x b.ss.length).length q5)) (w.heap.size + 1) (.slice p5 (unfairL b x b.ss.length).length q5) (unfairL b x b.ss.length) :=
          (HO5.out.mono (by omega)).kept (fun gg h5 => (Below.heap_setCell _ _ _ _ (hg5 gg h5).2.2.1).trans (HF.out.block gg (HO5.out.lt gg h5).2))
        have hX : SpareM (KeepM (fun j => j = t3) R.heap.size M) W' (wf.setCell ⟨t3, 0, none⟩ (.slice p5 (unfairL b x b.ss.length).length q5)) := (HKEEP.out wf hB2).trans (SpareM.setCell _ HTK.out 0 _)
        have hWI : WI w h b B (R.heap.size + 1) t3 (wrongOf b (pre ++ [x])) M (wf.setCell ⟨t3, 0, none⟩ (.slice p5 (unfairL b x b.ss.length).length q5)) := by
          rw [HW.out]
          exact ⟨(LOW.out.trans (hB2.mono hwl)).setCell (by dsimp only; omega) _, Blk.setOther ((hB2.block _ lc).trans CB.out) (by omega) 0 _, HCM.out, HTM.out, _, Blk.set1 ((hB2.block _ lt3).trans HV.out), ho6, hg5⟩
        exact (show SpareM _ _ _ ∧ _ from ⟨hX, hWI, I2.out⟩)
    · have HW := Lib.hid (show wrongOf b (pre ++ [x]) = wrongOf b pre by rw [wrongOf_snoc, bestStep, if_neg hf])
      have hf : fewerB (unfairL b x b.ss.length) (wrongOf b pre) = false := by simpa using hf
      by_cases hE : wrongOf b pre = []
      · have hl0 : (((wrongOf b pre).length : Nat) : Int) = 0 := by rw [hE]; rfl
        have hl1 : ((((wrongOf b pre).length : Nat) : Int) == 0) = true := by rw [hl0]; rfl
        have HE := Lib.hid (HW.out.trans hE)
        clear hE hl0
        gi_wp2_with (first
          | (gi_at_call 73; refine (CallsIn.inRound _ (callsIn_wide.2 (unfair_any h b B x _ _ _ _ _ (HKr.out.below (by (repeat (first | (with_reducible exact Below.refl _ _) | (with_reducible assumption) | ((with_reducible refine below_ext_trans ?_ ?_ _); rotate_left; focus (((try dsimp only); repeat (first | omega | simp only [World.size_alloc, World.size_setCell, World.size_drew] | (with_reducible refine le_ext_of ?_) | (with_reducible refine le_ext_add ?_))); done)) | ((with_reducible refine Below.alloc ?_ ?_ _); rotate_left; focus (((try dsimp only); repeat (first | omega | simp only [World.size_alloc, World.size_setCell, World.size_drew] | (with_reducible refine le_ext_of ?_) | (with_reducible refine le_ext_add ?_))); done)) | ((with_reducible refine Below.setCell ?_ ?_ _); rotate_left; focus (((try dsimp only); repeat (first | omega | simp only [World.size_alloc, World.size_setCell, World.size_drew] | (with_reducible refine le_ext_of ?_) | (with_reducible refine le_ext_add ?_))); done)) | (with_reducible refine Below.drew ?_))))) HXL.out HA1.out))).mono ?_; rintro e wu ⟨v5, rfl, ho5, y5, hw⟩; have hBu : Below W'.heap.size W' wu := (by rw [hw]; (repeat (first | (with_reducible exact Below.refl _ _) | (with_reducible assumption) | ((with_reducible refine below_ext_trans ?_ ?_ _); rotate_left; focus (((try dsimp only); repeat (first | omega | simp only [World.size_alloc, World.size_setCell, World.size_drew] | (with_reducible refine le_ext_of ?_) | (with_reducible refine le_ext_add ?_))); done)) | ((with_reducible refine Below.alloc ?_ ?_ _); rotate_left; focus (((try dsimp only); repeat (first | omega | simp only [World.size_alloc, World.size_setCell, World.size_drew] | (with_reducible refine le_ext_of ?_) | (with_reducible refine le_ext_add ?_))); done)) | ((with_reducible refine Below.setCell ?_ ?_ _); rotate_left; focus (((try dsimp only); repeat (first | omega | simp only [World.size_alloc, World.size_setCell, World.size_drew] | (with_reducible refine le_ext_of ?_) | (with_reducible refine le_ext_add ?_))); done)) | (with_reducible refine Below.drew ?_)))); have HU := Lib.hid hBu; have u1 := (hBu.cell (p := ⟨t3, 0, none⟩) lt3).trans t30; have u3 := Nat.lt_of_lt_of_le lt3 hBu.size; obtain ⟨p5, q5, rfl, hp5⟩ := ho5.at; have HP5 := Lib.hid hp5.1; have HO5 := Lib.hid ho5; clear hw hBu hp5 ho5)
          | (gi_at_call 75; refine (CallsIn.inRound _ (callsIn_wide.2 (fewer_any p5 p q5 q _ _ _ HP5.out (HP.out.1.below HU.out) (by omega)))).mono ?_; rintro e wf ⟨rfl, y6, hw⟩; have hBf : Below wu.heap.size wu wf := (by rw [hw]; (repeat (first | (with_reducible exact Below.refl _ _) | (with_reducible assumption) | ((with_reducible refine below_ext_trans ?_ ?_ _); rotate_left; focus (((try dsimp only); repeat (first | omega | simp only [World.size_alloc, World.size_setCell, World.size_drew] | (with_reducible refine le_ext_of ?_) | (with_reducible refine le_ext_add ?_))); done)) | ((with_reducible refine Below.alloc ?_ ?_ _); rotate_left; focus (((try dsimp only); repeat (first | omega | simp only [World.size_alloc, World.size_setCell, World.size_drew] | (with_reducible refine le_ext_of ?_) | (with_reducible refine le_ext_add ?_))); done)) | ((with_reducible refine Below.setCell ?_ ?_ _); rotate_left; focus (((try dsimp only); repeat (first | omega | simp only [World.size_alloc, World.size_setCell, World.size_drew] | (with_reducible refine le_ext_of ?_) | (with_reducible refine le_ext_add ?_))); done)) | (with_reducible refine Below.drew ?_)))); have HF := Lib.hid hBf; have f1 := (hBf.cell (p := ⟨t3, 0, none⟩) u3).trans u1; have f2 := (hBf.frozen (p := ⟨t3, 0, none⟩) u3).trans ((HU.out.frozen (p := ⟨t3, 0, none⟩) lt3).trans t3f); have f3 := Nat.lt_of_lt_of_le u3 hBf.size; clear hw hBf))
        have hB2 : Below W'.heap.size W' wf := HU.out.trans (HF.out.mono HU.out.size)
        have hX : SpareM (KeepM (fun j => j = t3) R.heap.size M) W' wf := HKEEP.out wf hB2
        have hWI : WI w h b B (R.heap.size + 1) t3 (wrongOf b (pre ++ [x])) M wf := by
          rw [HW.out]
          exact ⟨LOW.out.trans (hB2.mono hwl), (hB2.block _ lc).trans CB.out, HCM.out, HTM.out, _, (hB2.block _ lt3).trans HV.out, HO.out.below hB2, HG.out⟩
        exact (show SpareM _ _ _ ∧ _ from ⟨hX, rfl, ⟨hWI, I2.out⟩, HE⟩)
      · have hl1 : ((((wrongOf b pre).length : Nat) : Int) == 0) = false := by simpa using hE
        clear hE
        gi_wp2_with (first
          | (gi_at_call 73; refine (CallsIn.inRound _ (callsIn_wide.2 (unfair_any h b B x _ _ _ _ _ (HKr.out.below (by (repeat (first | (with_reducible exact Below.refl _ _) | (with_reducible assumption) | ((with_reducible refine below_ext_trans ?_ ?_ _); rotate_left; focus (((try dsimp only); repeat (first | omega | simp only [World.size_alloc, World.size_setCell, World.size_drew] | (with_reducible refine le_ext_of ?_) | (with_reducible refine le_ext_add ?_))); done)) | ((with_reducible refine Below.alloc ?_ ?_ _); rotate_left; focus (((try dsimp only); repeat (first | omega | simp only [World.size_alloc, World.size_setCell, World.size_drew] | (with_reducible refine le_ext_of ?_) | (with_reducible refine le_ext_add ?_))); done)) | ((with_reducible refine Below.setCell ?_ ?_ _); rotate_left; focus (((try dsimp only); repeat (first | omega | simp only [World.size_alloc, World.size_setCell, World.size_drew] | (with_reducible refine le_ext_of ?_) | (with_reducible refine le_ext_add ?_))); done)) | (with_reducible refine Below.drew ?_))))) HXL.out HA1.out))).mono ?_; rintro e wu ⟨v5, rfl, ho5, y5, hw⟩; have hBu : Below W'.heap.size W' wu := (by rw [hw]; (repeat (first | (with_reducible exact Below.refl _ _) | (with_reducible assumption) | ((with_reducible refine below_ext_trans ?_ ?_ _); rotate_left; focus (((try dsimp only); repeat (first | omega | simp only [World.size_alloc, World.size_setCell, World.size_drew] | (with_reducible refine le_ext_of ?_) | (with_reducible refine le_ext_add ?_))); done)) | ((with_reducible refine Below.alloc ?_ ?_ _); rotate_left; focus (((try dsimp only); repeat (first | omega | simp only [World.size_alloc, World.size_setCell, World.size_drew] | (with_reducible refine le_ext_of ?_) | (with_reducible refine le_ext_add ?_))); done)) | ((with_reducible refine Below.setCell ?_ ?_ _); rotate_left; focus (((try dsimp only); repeat (first | omega | simp only [World.size_alloc, World.size_setCell, World.size_drew] | (with_reducible refine le_ext_of ?_) | (with_reducible refine le_ext_add ?_))); done)) | (with_reducible refine Below.drew ?_)))); have HU := Lib.hid hBu; have u1 := (hBu.cell (p := ⟨t3, 0, none⟩) lt3).trans t30; have u3 := Nat.lt_of_lt_of_le lt3 hBu.size; obtain ⟨p5, q5, rfl, hp5⟩ := ho5.at; have HP5 := Lib.hid hp5.1; have HO5 := Lib.hid ho5; clear hw hBu hp5 ho5)
          | (gi_at_call 75; refine (CallsIn.inRound _ (callsIn_wide.2 (fewer_any p5 p q5 q _ _ _ HP5.out (HP.out.1.below HU.out) (by omega)))).mono ?_; rintro e wf ⟨rfl, y6, hw⟩; have hBf : Below wu.heap.size wu wf := (by rw [hw]; (repeat (first | (with_reducible exact Below.refl _ _) | (with_reducible assumption) | ((with_reducible refine below_ext_trans ?_ ?_ _); rotate_left; focus (((try dsimp only); repeat (first | omega | simp only [World.size_alloc, World.size_setCell, World.size_drew] | (with_reducible refine le_ext_of ?_) | (with_reducible refine le_ext_add ?_))); done)) | ((with_reducible refine Below.alloc ?_ ?_ _); rotate_left; focus (((try dsimp only); repeat (first | omega | simp only [World.size_alloc, World.size_setCell, World.size_drew] | (with_reducible refine le_ext_of ?_) | (with_reducible refine le_ext_add ?_))); done)) | ((with_reducible refine Below.setCell ?_ ?_ _); rotate_left; focus (((try dsimp only); repeat (first | omega | simp only [World.size_alloc, World.size_setCell, World.size_drew] | (with_reducible refine le_ext_of ?_) | (with_reducible refine le_ext_add ?_))); done)) | (with_reducible refine Below.drew ?_)))); have HF := Lib.hid hBf; have f1 := (hBf.cell (p := ⟨t3, 0, none⟩) u3).trans u1; have f2 := (hBf.frozen (p := ⟨t3, 0, none⟩) u3).trans ((HU.out.frozen (p := ⟨t3, 0, none⟩) lt3).trans t3f); have f3 := Nat.lt_of_lt_of_le u3 hBf.size; clear hw hBf))
        have hB2 : Below W'.heap.size W' wf := HU.out.trans (HF.out.mono HU.out.size)
        have hX : SpareM (KeepM (fun j => j = t3) R.heap.size M) W' wf := HKEEP.out wf hB2
        have hWI : WI w h b B (R.heap.size + 1) t3 (wrongOf b (pre ++ [x])) M wf := by
          rw [HW.out]
          exact ⟨LOW.out.trans (hB2.mono hwl), (hB2.block _ lc).trans CB.out, HCM.out, HTM.out, _, (hB2.block _ lt3).trans HV.out, HO.out.below hB2, HG.out⟩
        exact (show SpareM _ _ _ ∧ _ from ⟨hX, hWI, I2.out⟩)
  case hdone =>
    rintro D xs W' rfl hz rfl ⟨⟨low, c, cM, tM, v, hv, ho, hg⟩, i2⟩ hD
    obtain ⟨p, q, rfl, -⟩ := ho.at
    have t30 := hv.cell 0
    simp only [List.size_toArray, List.length_cons, List.length_nil, Nat.reduceAdd, Nat.reduceLT, getElem?_pos, List.getElem_toArray, List.getElem_cons_zero, List.getElem_cons_succ] at t30
    have lt3 := hv.lt
    have LOW := Lib.hid low
    have HO := Lib.hid ho
    have HG := Lib.hid hg
    clear low c cM tM hv ho hg i2 hseq
    gi_wp2_with fail
    refine ⟨by simp, .inl ⟨_, _, rfl, run_takeDeferred hD, ?_⟩⟩
    refine ⟨_, results_tmp rfl _ _ _, _, rfl, ?_, ext_of ?_⟩
    · exact (HO.out.mono (by omega)).kept (fun gg h5 => World.putObj_heap_other (by have := (HG.out gg h5).2.2.2; omega))
    · exact LOW.out.trans ((Priv.putObj (n0 := w.heap.size) (n1 := R.heap.size + 1) W' (by omega) (by omega) _).below (Nat.le_refl _) LOW.out.size)
  case hstop =>
    rintro D c pre W' rfl hz hsp ⟨rfl, ⟨⟨low, c, cM, tM, v, hv, ho, hg⟩, i2⟩, i3⟩ hD
    have hwl := wrongOf_done hsp i3.out
    have hw2 := i3.out
    obtain ⟨p, q, rfl, -⟩ := ho.at
    have t30 := hv.cell 0
    simp only [List.size_toArray, List.length_cons, List.length_nil, Nat.reduceAdd, Nat.reduceLT, getElem?_pos, List.getElem_toArray, List.getElem_cons_zero, List.getElem_cons_succ] at t30
    have lt3 := hv.lt
    have LOW := Lib.hid low
    have HO := Lib.hid ho
    have HG := Lib.hid hg
    have HE := Lib.hid (hw2.trans hwl.symm)
    clear low c cM tM hv ho hg i2 i3 hseq hw2 hwl
    gi_wp2_with fail
    refine ⟨by simp, .inl ⟨_, _, rfl, run_takeDeferred hD, ?_⟩⟩
    refine ⟨_, results_tmp rfl _ _ _, _, rfl, ?_, ext_of ?_⟩
    · rw [← HE.out]
      exact (HO.out.mono (by omega)).kept (fun gg h5 => World.putObj_heap_other (by have := (HG.out gg h5).2.2.2; omega))
    · exact LOW.out.trans ((Priv.putObj (n0 := w.heap.size) (n1 := R.heap.size + 1) W' (by omega) (by omega) _).below (Nat.le_refl _) LOW.out.size)
end Go.Proofs.YtdmicngnbcdkdaaDoor

