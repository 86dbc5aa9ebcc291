/- Contract of count: of each turn between two ones, of some, or of none. -/
/- Contracts of claims: a shot to be judged, and whether it is fair. -/
/- Contract of judge: in how many truths a shot is fair. -/
import Derived.Test.YtdmicngnbcdkdaaDoorRTi
set_option linter.unusedSimpArgs false
set_option linter.unusedVariables false
namespace Go.Proofs.YtdmicngnbcdkdaaDoor
open Go Go.RowKit Go.Shelf

/-- In how many of some turns something is so: 2 in each, 0 in none, 1 else. -/
def kindOf (ok : Nat → Bool) (l : List Nat) : Int := if l.all ok then 2 else if l.any ok then 1 else 0

attribute [local go_sem] Oper.semAt_some
set_option maxHeartbeats 4000000 in
theorem count_any (b1 b2 b3 : Nat) (s0 s1 s2 s3 l0 l1 l2 l3 st a b : Int) (f : FuncId) (fb : Array Value) (ok : Nat → Bool) (w : World)
    (hx : SpellBox w b1 b2 b3 s0 s1 s2 s3 l0 l1 l2 l3 st a b) (hle : cnt [l0, l1, l2, l3] a ≤ cnt [s0, s1, s2, s3] b)
    (hf : ∀ args w, (callFunc f args).run Tryd.prog w = .ok (.enter f args) w)
    (his : ∀ t : Nat, t ≤ cnt [s0, s1, s2, s3] b → ∀ W' : World, Below w.heap.size w W' → Calls Tryd.prog f (fb.push (.agg #[.int .i64 st, .int .i64 t])) W' fun e w' => e = .returned (.bool (ok t)) ∧ ∃ x, w' = ext W' x) :
    Calls Tryd.prog 76 #[.func (.func 87) #[] #[.pointer (some ⟨b1, 0, none⟩), .pointer (some ⟨b2, 0, none⟩), .pointer (some ⟨b3, 0, none⟩)], .func (.func f) fb #[]] w fun e w' =>
      e = .returned (.int .i64 (kindOf ok (seg (cnt [l0, l1, l2, l3] a) (cnt [s0, s1, s2, s3] b)))) ∧ ∃ x, w' = ext w x := by
  refine (callsIn_wide (n := 9)).1 ?_
  have HIS := Lib.hid his
  clear his
  have hhi4 : cnt [s0, s1, s2, s3] b ≤ 4 := cnt_le _ _
  refine callsIn_of_wp_marks Tryd.func76 rfl trivial ?_ rfl
  simp only [Tryd.ntmps76, List.size_toArray, List.length_cons, List.length_nil, Nat.reduceAdd, Nat.reduceSub, Array.replicate_succ, Array.replicate_zero, List.push_toArray, List.append_toArray, List.nil_append, List.cons_append]
  gi_wp2_with fail
  have hWB : Below w.heap.size w (((w.alloc (.cells #[.func (.func f) fb #[]] 111)).alloc (.cells #[.bool true] 4)).alloc (.cells #[.bool true] 4)) := by (repeat (first | (with_reducible exact Below.refl _ _) | (with_reducible assumption) | ((with_reducible refine below_ext_trans ?_ ?_ _); rotate_left; focus (((try dsimp only); repeat (first | omega | simp only [World.size_alloc, World.size_setCell, World.size_drew] | (with_reducible refine le_ext_of ?_) | (with_reducible refine le_ext_add ?_))); done)) | ((with_reducible refine Below.alloc ?_ ?_ _); rotate_left; focus (((try dsimp only); repeat (first | omega | simp only [World.size_alloc, World.size_setCell, World.size_drew] | (with_reducible refine le_ext_of ?_) | (with_reducible refine le_ext_add ?_))); done)) | ((with_reducible refine Below.setCell ?_ ?_ _); rotate_left; focus (((try dsimp only); repeat (first | omega | simp only [World.size_alloc, World.size_setCell, World.size_drew] | (with_reducible refine le_ext_of ?_) | (with_reducible refine le_ext_add ?_))); done)) | (with_reducible refine Below.drew ?_)))
  have hq3 : Blk (((w.alloc (.cells #[.func (.func f) fb #[]] 111)).alloc (.cells #[.bool true] 4)).alloc (.cells #[.bool true] 4)) w.heap.size 111 #[.func (.func f) fb #[]] := ((Blk.new rfl).alloc _).alloc _
  have hq5 : Blk (((w.alloc (.cells #[.func (.func f) fb #[]] 111)).alloc (.cells #[.bool true] 4)).alloc (.cells #[.bool true] 4)) (w.heap.size + 1) 4 #[.bool true] := (Blk.new (by simp)).alloc _
  have hq6 : Blk (((w.alloc (.cells #[.func (.func f) fb #[]] 111)).alloc (.cells #[.bool true] 4)).alloc (.cells #[.bool true] 4)) (w.heap.size + 1 + 1) 4 #[.bool true] := Blk.new (by simp)
  have hWs : (((w.alloc (.cells #[.func (.func f) fb #[]] 111)).alloc (.cells #[.bool true] 4)).alloc (.cells #[.bool true] 4)).heap.size = w.heap.size + 3 := by simp
  generalize (((w.alloc (.cells #[.func (.func f) fb #[]] 111)).alloc (.cells #[.bool true] 4)).alloc (.cells #[.bool true] 4)) = W at *
  generalize hlo : cnt [l0, l1, l2, l3] a = lo at *
  generalize hhi : cnt [s0, s1, s2, s3] b = hi at *
  have hseq := spells1_in (9 - 1) b1 b2 b3 s0 s1 s2 s3 l0 l1 l2 l3 st a b (fun k => (k = w.heap.size + 1 ∨ k = w.heap.size + 1 + 1) ∨ k = W.heap.size + 1) w hx (by rw [hlo, hhi]; exact hle) (fun k hk => by
    have := hx.lt1; have := hx.lt2; have := hx.lt3; omega)
  rw [hlo, hhi] at hseq
  refine wpIn_rangeFunc_w (gf := 87) (lb := #[.pointer (some ⟨b1, 0, none⟩), .pointer (some ⟨b2, 0, none⟩), .pointer (some ⟨b3, 0, none⟩)]) rfl (enters_of Tryd.func87 (by kernel_rfl) rfl)
    (fun k => k = w.heap.size + 1 ∨ k = w.heap.size + 1 + 1) (fun k hk => by omega) hseq hWB (fun _ => rfl)
    (fun n1 pre W' => Blk W' w.heap.size 111 #[.func (.func f) fb #[]] ∧ Blk W' (w.heap.size + 1) 4 #[.bool (pre.all ok)] ∧ Blk W' (w.heap.size + 1 + 1) 4 #[.bool (!pre.any ok)] ∧ Below w.heap.size w W')
    (fun _ _ _ _ => False)
    (fun n1 pre x a' W' => ∃ g : Nat, n1 ≤ g ∧ Blk W' g 103 #[.int .i64 st, .int .i64 x] ∧ a' = { tmps := #[.func (.func 87) #[] #[.pointer (some ⟨b1, 0, none⟩), .pointer (some ⟨b2, 0, none⟩), .pointer (some ⟨b3, 0, none⟩)], .func (.func f) fb #[], undef, .pointer (some ⟨w.heap.size, 0, none⟩), .int .i64 0, .pointer (some ⟨w.heap.size + 1, 0, none⟩), .pointer (some ⟨w.heap.size + 1 + 1, 0, none⟩), .pointer (some ⟨g, 0, none⟩), .func (.func 87) #[] #[.pointer (some ⟨b1, 0, none⟩), .pointer (some ⟨b2, 0, none⟩), .pointer (some ⟨b3, 0, none⟩)], .agg #[.int .i64 st, .int .i64 x], undef, undef, undef, undef, undef, undef, undef], defers := [] })
    ?hI ?hIx ?hAx ?h0 ?hassign ?hbody ?hdone ?hstop
  case hI =>
    rintro n1 pre A B hn hA ⟨c1, c2, c3, c4⟩ hp
    have := hWB.size
    exact ⟨(hp.block _ c1.lt (.inl (by omega))).trans c1, (hp.block _ c2.lt (.inl (by omega))).trans c2, (hp.block _ c3.lt (.inl (by omega))).trans c3, c4.trans (hp.below (by omega) c4.size)⟩
  case hIx => exact fun _ _ _ _ _ _ _ h _ => h
  case hAx =>
    rintro n1 pre x a' A B hn hA ⟨g, hg, hk, rfl⟩ hp
    exact ⟨g, hg, (hp.block g hk.lt (.inr hg)).trans hk, rfl⟩
  case h0 =>
    intro n1 W1 hb _ _
    exact ⟨(hb.block _ (by omega)).trans hq3, (hb.block _ (by omega)).trans hq5, (hb.block _ (by omega)).trans hq6, hWB.trans (hb.mono (by omega))⟩
  case hassign =>
    intro l n1 pre x W' hn hz hsp hi'
    gi_wp2
    exact ⟨⟨hi'.1.alloc _, hi'.2.1.alloc _, hi'.2.2.1.alloc _, hi'.2.2.2.alloc (hi'.2.2.2.size) _⟩, ⟨W'.heap.size, hz, Blk.new rfl, rfl⟩, (Below.refl _ _).alloc (Nat.le_refl _) _⟩
  case hbody =>
    rintro l n1 pre x a' W' hl hn hz hsp ⟨c1, c2, c3, c4⟩ ⟨g, hg, hk, rfl⟩
    have hx4 : x ≤ hi := by
      have h1 : x ∈ seg lo hi := hsp.subset (by simp)
      simp only [seg, upto, List.mem_map, List.mem_range] at h1
      omega
    have q3 := c1.cell 0
    have q5 := c2.cell 0
    have q6 := c3.cell 0
    have g5 := c2.frozen 0
    have g6 := c3.frozen 0
    have qg0 := hk.cell 0
    have qg1 := hk.cell 1
    simp only [List.size_toArray, List.length_cons, List.length_nil, Nat.reduceAdd, Nat.reduceLT, getElem?_pos, List.getElem_toArray, List.getElem_cons_zero, List.getElem_cons_succ] at q3 q5 q6 qg0 qg1
    have hl1 : w.heap.size + 1 < W'.heap.size := c2.lt
    have hl2 : w.heap.size + 1 + 1 < W'.heap.size := c3.lt
    have C1 := Lib.hid c1
    have C2 := Lib.hid c2
    have C3 := Lib.hid c3
    have C4 := Lib.hid c4
    clear c1 c2 c3 c4 hk hq3 hq5 hq6 hseq hWB
    by_cases hok : ok x = true
    · gi_wp2_with fail
      refine (CallsIn.inRound _ (callsIn_wide.2 (HIS.out x hx4 W' C4.out))).mono ?_
      rintro e w' ⟨rfl, y, rfl⟩
      gi_wp2_with fail
      refine (show Spare _ _ _ _ ∧ _ from ⟨?_, ?_, ?_, ?_, ?_⟩)
      · exact ((Spare.refl _ n1 W').ext hz y).setCell (.inl (.inr rfl)) 0 _
      · exact (C1.out.ext y).setOther (by omega) 0 _
      · have h1 := (C2.out.ext y).setOther (b := w.heap.size + 1 + 1) (by omega) 0 (.bool false)
        rw [List.all_append]; simpa [hok] using h1
      · have h1 := (C3.out.ext y).set 0 (.bool false)
        rw [List.any_append]; simpa [hok] using h1
      · have hB := C4.out
        (repeat (first | (with_reducible exact Below.refl _ _) | (with_reducible assumption) | ((with_reducible refine below_ext_trans ?_ ?_ _); rotate_left; focus (((try dsimp only); repeat (first | omega | simp only [World.size_alloc, World.size_setCell, World.size_drew] | (with_reducible refine le_ext_of ?_) | (with_reducible refine le_ext_add ?_))); done)) | ((with_reducible refine Below.alloc ?_ ?_ _); rotate_left; focus (((try dsimp only); repeat (first | omega | simp only [World.size_alloc, World.size_setCell, World.size_drew] | (with_reducible refine le_ext_of ?_) | (with_reducible refine le_ext_add ?_))); done)) | ((with_reducible refine Below.setCell ?_ ?_ _); rotate_left; focus (((try dsimp only); repeat (first | omega | simp only [World.size_alloc, World.size_setCell, World.size_drew] | (with_reducible refine le_ext_of ?_) | (with_reducible refine le_ext_add ?_))); done)) | (with_reducible refine Below.drew ?_)))
    · have hok : ok x = false := by simpa only [Bool.not_eq_true] using hok
      gi_wp2_with fail
      refine (CallsIn.inRound _ (callsIn_wide.2 (HIS.out x hx4 W' C4.out))).mono ?_
      rintro e w' ⟨rfl, y, rfl⟩
      gi_wp2_with fail
      refine (show Spare _ _ _ _ ∧ _ from ⟨?_, ?_, ?_, ?_, ?_⟩)
      · exact ((Spare.refl _ n1 W').ext hz y).setCell (.inl (.inl rfl)) 0 _
      · exact (C1.out.ext y).setOther (by omega) 0 _
      · have h1 := (C2.out.ext y).set 0 (.bool false)
        rw [List.all_append]; simpa [hok] using h1
      · have h1 := (C3.out.ext y).setOther (b := w.heap.size + 1) (by omega) 0 (.bool false)
        rw [List.any_append]; simpa [hok] using h1
      · have hB := C4.out
        (repeat (first | (with_reducible exact Below.refl _ _) | (with_reducible assumption) | ((with_reducible refine below_ext_trans ?_ ?_ _); rotate_left; focus (((try dsimp only); repeat (first | omega | simp only [World.size_alloc, World.size_setCell, World.size_drew] | (with_reducible refine le_ext_of ?_) | (with_reducible refine le_ext_add ?_))); done)) | ((with_reducible refine Below.alloc ?_ ?_ _); rotate_left; focus (((try dsimp only); repeat (first | omega | simp only [World.size_alloc, World.size_setCell, World.size_drew] | (with_reducible refine le_ext_of ?_) | (with_reducible refine le_ext_add ?_))); done)) | ((with_reducible refine Below.setCell ?_ ?_ _); rotate_left; focus (((try dsimp only); repeat (first | omega | simp only [World.size_alloc, World.size_setCell, World.size_drew] | (with_reducible refine le_ext_of ?_) | (with_reducible refine le_ext_add ?_))); done)) | (with_reducible refine Below.drew ?_)))
  case hdone =>
    rintro D n1 xs W' rfl hn hz rfl ⟨c1, c2, c3, c4⟩ hD
    have q5 := c2.cell 0
    have q6 := c3.cell 0
    simp only [List.size_toArray, List.length_cons, List.length_nil, Nat.reduceAdd, Nat.reduceLT, getElem?_pos, List.getElem_toArray, List.getElem_cons_zero, List.getElem_cons_succ] at q5 q6
    have C4 := Lib.hid c4
    clear c1 c2 c3 c4 hq3 hq5 hq6 hseq hWB
    have hd : Hid (∃ x, W'.putObj W.heap.size (.deferred none) = ext w x) := Lib.hid (ext_of (C4.out.trans ((Priv.putObj (n0 := w.heap.size) (n1 := W.heap.size + 1) W' (by omega) (by omega) _).below (Nat.le_refl _) C4.out.size)))
    by_cases hall : (seg lo hi).all ok = true
    · have H2 := Lib.hid (show kindOf ok (seg lo hi) = 2 by simp [kindOf, hall])
      gi_wp2_with fail
      refine ⟨by simp, .inl ⟨_, _, rfl, run_takeDeferred hD, ?_⟩⟩
      exact ⟨_, results_tmp rfl _ _ _, by rw [hlo, hhi, H2.out]; rfl, hd.out⟩
    · have hall : (seg lo hi).all ok = false := by simpa only [Bool.not_eq_true] using hall
      by_cases hany : (seg lo hi).any ok = true
      · have H2 := Lib.hid (show kindOf ok (seg lo hi) = 1 by rw [kindOf, hall, hany]; rfl)
        gi_wp2_with fail
        refine ⟨by simp, .inl ⟨_, _, rfl, run_takeDeferred hD, ?_⟩⟩
        exact ⟨_, results_tmp rfl _ _ _, by rw [hlo, hhi, H2.out]; rfl, hd.out⟩
      · have hany : (seg lo hi).any ok = false := by simpa only [Bool.not_eq_true] using hany
        have H2 := Lib.hid (show kindOf ok (seg lo hi) = 0 by rw [kindOf, hall, hany]; rfl)
        gi_wp2_with fail
        refine ⟨by simp, .inl ⟨_, _, rfl, run_takeDeferred hD, ?_⟩⟩
        exact ⟨_, results_tmp rfl _ _ _, by rw [hlo, hhi, H2.out]; rfl, hd.out⟩
  case hstop =>
    intro D n1 c pre W' _ _ _ _ h _
    exact h.elim
end Go.Proofs.YtdmicngnbcdkdaaDoor

namespace Go.Proofs.YtdmicngnbcdkdaaDoor
open Go Go.RowKit Go.Maps

set_option maxHeartbeats 1000000 in
theorem fair_any (os : List (List Int)) (sst co lo hi : Int) (B st t : Nat) (w : World) (hown : OwnP w B 15 (ownf os) (inR os)) (hs : st < 3) (ht : t < 5) (hin : inR os st t) :
    Calls Tryd.prog 78 #[.agg #[.int .i64 sst, .int .i64 co, .int .i64 lo, .int .i64 hi, .map (some B)], .agg #[.int .i64 st, .int .i64 t]] w fun e w' => e = .returned (.bool (ownf os st t == co)) ∧ ∃ x, w' = ext w x := by
  have hL : ∀ (A C : Obj) (x : Grow ((w.alloc A).alloc C)), (Instr.lookup 81 (.map (some B)) (.agg #[.int .i64 st, .int .i64 t]) false).run Tryd.prog (Go.Proofs.YtdmicngnbcdkdaaDoor.ext ((w.alloc A).alloc C) x) = .ok (.int .i64 (ownf os st t)) (Go.Proofs.YtdmicngnbcdkdaaDoor.ext ((w.alloc A).alloc C) x) :=
    fun A C x => (((hown.alloc A).alloc C).ext x).look st t hs ht hin
  go_enter Tryd.func78, Tryd.ntmps78
  go_wp2_with fail
  refine wp_region_ext (by kernel_rfl) (by kernel_rfl) ?_
  repeat (go_big_quiet_step (fail))
  (refine wpQuiet_nil ?_; rintro _ ⟨x, rfl⟩)
  go_wp2_with fail
  go_ret
  exact ⟨rfl, by (exact ext_of (by (repeat (first | (with_reducible exact Below.refl _ _) | (with_reducible assumption) | ((with_reducible refine below_ext_trans ?_ ?_ _); rotate_left; focus (((try dsimp only); repeat (first | omega | simp only [World.size_alloc, World.size_setCell, World.size_drew] | (with_reducible refine le_ext_of ?_) | (with_reducible refine le_ext_add ?_))); done)) | ((with_reducible refine Below.alloc ?_ ?_ _); rotate_left; focus (((try dsimp only); repeat (first | omega | simp only [World.size_alloc, World.size_setCell, World.size_drew] | (with_reducible refine le_ext_of ?_) | (with_reducible refine le_ext_add ?_))); done)) | ((with_reducible refine Below.setCell ?_ ?_ _); rotate_left; focus (((try dsimp only); repeat (first | omega | simp only [World.size_alloc, World.size_setCell, World.size_drew] | (with_reducible refine le_ext_of ?_) | (with_reducible refine le_ext_add ?_))); done)) | (with_reducible refine Below.drew ?_)))))⟩

/-- What a cove leans on lies in a world. -/
structure CoveOK (w : World) (h : Hd) (b : Bk) (B : Nat) : Prop where
  bk : BkAt w h b
  ok : bookB b = true
  own : OwnP w B 15 (ownf b.os) (inR b.os)
theorem CoveOK.below {w w' : World} {h : Hd} {b : Bk} {B : Nat} (k : CoveOK w h b B) (hb : Below w.heap.size w w') : CoveOK w' h b B := ⟨k.bk.below hb, k.ok, k.own.below hb⟩

set_option maxHeartbeats 1000000 in
theorem claim_any (h : Hd) (b : Bk) (B : Nat) (i : Nat) (s : Shot) (w : World) (hk : CoveOK w h b B) (hi : b.ss[i]? = some s) :
    Calls Tryd.prog 77 #[.agg #[.int .i64 b.n, .slice h.pb b.bs.length h.cb, .slice h.po b.os.length h.co, .slice h.ps b.ss.length h.cs, .int .i64 (kspec b.bs 2 0 0), .int .i64 (kspec b.bs 2 0 1), .int .i64 (kspec b.bs 2 0 2), .int .i64 (kspec b.bs 2 0 3), .int .i64 (kspec b.bs 2 0 4), .int .i64 (kspec b.bs 2 0 5), .int .i64 (kspec b.bs 2 0 6), .int .i64 (kspec b.bs 2 0 7), .map (some B)], .int .i64 i] w fun e w' => e = .returned (.agg #[.int .i64 s.st, .int .i64 s.co, .int .i64 s.lo, .int .i64 s.hi, .map (some B)]) ∧ ∃ x, w' = ext w x := by
  obtain ⟨bb, o, hp, hlt, c0, c1, c2, c3⟩ := hk.bk.ss i s hi
  have hil : (i : Int) < (b.ss.length : Int) := by
    have := (List.getElem?_eq_some_iff.1 hi).1; omega
  have hi0 : (0 : Int) ≤ (i : Int) := by omega
  obtain ⟨h_pb, h_cb, h_po, h_co, h_ps, h_cs⟩ := h
  dsimp only at hp
  subst hp
  have hl1 : bb ≤ w.heap.size := by omega
  have hl2 : bb ≤ w.heap.size + 1 := by omega
  have hl3 : bb < w.heap.size + 1 + 1 := by omega
  have hl4 : bb < w.heap.size + 1 := by omega
  clear hk
  go_enter Tryd.func77, Tryd.ntmps77
  go_wp2_with fail
  refine wp_region_ext_tail 9 (by kernel_rfl) (by kernel_rfl) ?_
  simp only [List.take_succ_cons, List.take_zero, List.drop_succ_cons, List.drop_zero]
  repeat (go_big_quiet_step (fail))
  (refine wpQuiet_nil ?_; rintro _ ⟨x, rfl⟩)
  go_wp2_with fail
  refine bodyPost_ret (v := .agg #[.int .i64 s.st, .int .i64 s.co, .int .i64 s.lo, .int .i64 s.hi, .map (some B)]) (by simp [results, Tryd.results77, go_sem]) rfl ⟨rfl, ?_⟩
  (exact ext_of (by (repeat (first | (with_reducible exact Below.refl _ _) | (with_reducible assumption) | ((with_reducible refine below_ext_trans ?_ ?_ _); rotate_left; focus (((try dsimp only); repeat (first | omega | simp only [World.size_alloc, World.size_setCell, World.size_drew] | (with_reducible refine le_ext_of ?_) | (with_reducible refine le_ext_add ?_))); done)) | ((with_reducible refine Below.alloc ?_ ?_ _); rotate_left; focus (((try dsimp only); repeat (first | omega | simp only [World.size_alloc, World.size_setCell, World.size_drew] | (with_reducible refine le_ext_of ?_) | (with_reducible refine le_ext_add ?_))); done)) | ((with_reducible refine Below.setCell ?_ ?_ _); rotate_left; focus (((try dsimp only); repeat (first | omega | simp only [World.size_alloc, World.size_setCell, World.size_drew] | (with_reducible refine le_ext_of ?_) | (with_reducible refine le_ext_add ?_))); done)) | (with_reducible refine Below.drew ?_)))))

set_option maxHeartbeats 1000000 in
theorem moment_any (h : Hd) (b : Bk) (B : Nat) (i : Nat) (s : Shot) (w : World) (hk : CoveOK w h b B) (hi : b.ss[i]? = some s) :
    Calls Tryd.prog 61 #[.agg #[.int .i64 b.n, .slice h.pb b.bs.length h.cb, .slice h.po b.os.length h.co, .slice h.ps b.ss.length h.cs, .int .i64 (kspec b.bs 2 0 0), .int .i64 (kspec b.bs 2 0 1), .int .i64 (kspec b.bs 2 0 2), .int .i64 (kspec b.bs 2 0 3), .int .i64 (kspec b.bs 2 0 4), .int .i64 (kspec b.bs 2 0 5), .int .i64 (kspec b.bs 2 0 6), .int .i64 (kspec b.bs 2 0 7), .map (some B)], .int .i64 i] w fun e w' => e = .returned (.agg #[.int .i64 s.lo, .int .i64 s.hi]) ∧ ∃ x, w' = ext w x := by
  obtain ⟨bb, o, hp, hlt, c0, c1, c2, c3⟩ := hk.bk.ss i s hi
  have hil : (i : Int) < (b.ss.length : Int) := by
    have := (List.getElem?_eq_some_iff.1 hi).1; omega
  have hi0 : (0 : Int) ≤ (i : Int) := by omega
  obtain ⟨h_pb, h_cb, h_po, h_co, h_ps, h_cs⟩ := h
  dsimp only at hp
  subst hp
  have hl1 : bb ≤ w.heap.size := by omega
  have hl2 : bb ≤ w.heap.size + 1 := by omega
  have hl3 : bb < w.heap.size + 1 + 1 := by omega
  have hl4 : bb < w.heap.size + 1 := by omega
  clear hk
  go_enter Tryd.func61, Tryd.ntmps61
  go_wp2_with fail
  refine bodyPost_ret (v := .agg #[.int .i64 s.lo, .int .i64 s.hi]) (by simp [results, Tryd.results61, go_sem]) rfl ⟨rfl, ?_⟩
  (exact ext_of (by (repeat (first | (with_reducible exact Below.refl _ _) | (with_reducible assumption) | ((with_reducible refine below_ext_trans ?_ ?_ _); rotate_left; focus (((try dsimp only); repeat (first | omega | simp only [World.size_alloc, World.size_setCell, World.size_drew] | (with_reducible refine le_ext_of ?_) | (with_reducible refine le_ext_add ?_))); done)) | ((with_reducible refine Below.alloc ?_ ?_ _); rotate_left; focus (((try dsimp only); repeat (first | omega | simp only [World.size_alloc, World.size_setCell, World.size_drew] | (with_reducible refine le_ext_of ?_) | (with_reducible refine le_ext_add ?_))); done)) | ((with_reducible refine Below.setCell ?_ ?_ _); rotate_left; focus (((try dsimp only); repeat (first | omega | simp only [World.size_alloc, World.size_setCell, World.size_drew] | (with_reducible refine le_ext_of ?_) | (with_reducible refine le_ext_add ?_))); done)) | (with_reducible refine Below.drew ?_)))))
end Go.Proofs.YtdmicngnbcdkdaaDoor

namespace Go.Proofs.YtdmicngnbcdkdaaDoor
open Go Go.RowKit Go.Maps

set_option maxHeartbeats 4000000 in
theorem judge_any (h : Hd) (b : Bk) (B : Nat) (i st : Nat) (s : Shot) (s0 s1 s2 s3 l0 l1 l2 l3 : Int) (w : World) (hk : CoveOK w h b B) (hi : b.ss[i]? = some s) (hst : s.st = st)
    (hle : cnt [l0, l1, l2, l3] s.lo ≤ cnt [s0, s1, s2, s3] s.hi) (hnb : cnt [s0, s1, s2, s3] s.hi ≤ b.bs.length) (hso : st < b.os.length) :
    Calls Tryd.prog 55 #[.agg #[.int .i64 b.n, .slice h.pb b.bs.length h.cb, .slice h.po b.os.length h.co, .slice h.ps b.ss.length h.cs, .int .i64 (kspec b.bs 2 0 0), .int .i64 (kspec b.bs 2 0 1), .int .i64 (kspec b.bs 2 0 2), .int .i64 (kspec b.bs 2 0 3), .int .i64 (kspec b.bs 2 0 4), .int .i64 (kspec b.bs 2 0 5), .int .i64 (kspec b.bs 2 0 6), .int .i64 (kspec b.bs 2 0 7), .map (some B)], .int .i64 i, .agg #[.int .i64 s0, .int .i64 s1, .int .i64 s2, .int .i64 s3, .int .i64 l0, .int .i64 l1, .int .i64 l2, .int .i64 l3]] w fun e w' =>
      e = .returned (.int .i64 (kindOf (fun t => ownf b.os st t == s.co) (seg (cnt [l0, l1, l2, l3] s.lo) (cnt [s0, s1, s2, s3] s.hi)))) ∧ ∃ x, w' = ext w x := by
  obtain ⟨hol, ho1, hbl, hn4, hrows⟩ := bookB_rows hk.ok
  have HIN : Hid (∀ t : Nat, t ≤ cnt [s0, s1, s2, s3] s.hi → st < 3 ∧ t < 5 ∧ inR b.os st t) := Lib.hid (fun t ht => by
    obtain ⟨r, hr⟩ := get_some b.os st hso
    obtain ⟨hrl, _⟩ := hrows st r hr
    refine ⟨by omega, by omega, hso, ?_⟩
    rw [List.getD_eq_getElem?_getD, hr]
    show t < r.length
    omega)
  obtain ⟨bb, o, hp, hlt, c0, c1, c2, c3⟩ := hk.bk.ss i s hi
  rw [hst] at c0
  have hil : (i : Int) < (b.ss.length : Int) := by
    have := (List.getElem?_eq_some_iff.1 hi).1; omega
  have hi0 : (0 : Int) ≤ (i : Int) := by omega
  have HI := Lib.hid hi
  have HLE := Lib.hid hle
  obtain ⟨h_pb, h_cb, h_po, h_co, h_ps, h_cs⟩ := h
  dsimp only at hp
  subst hp
  clear hrows hi hst c1 c2 c3 hle
  go_enter Tryd.func55, Tryd.ntmps55
  go_wp2_with fail
  generalize hW : (w.alloc _).alloc _ = W
  have hWB : Below w.heap.size w W := by rw [← hW]; (repeat (first | (with_reducible exact Below.refl _ _) | (with_reducible assumption) | ((with_reducible refine below_ext_trans ?_ ?_ _); rotate_left; focus (((try dsimp only); repeat (first | omega | simp only [World.size_alloc, World.size_setCell, World.size_drew] | (with_reducible refine le_ext_of ?_) | (with_reducible refine le_ext_add ?_))); done)) | ((with_reducible refine Below.alloc ?_ ?_ _); rotate_left; focus (((try dsimp only); repeat (first | omega | simp only [World.size_alloc, World.size_setCell, World.size_drew] | (with_reducible refine le_ext_of ?_) | (with_reducible refine le_ext_add ?_))); done)) | ((with_reducible refine Below.setCell ?_ ?_ _); rotate_left; focus (((try dsimp only); repeat (first | omega | simp only [World.size_alloc, World.size_setCell, World.size_drew] | (with_reducible refine le_ext_of ?_) | (with_reducible refine le_ext_add ?_))); done)) | (with_reducible refine Below.drew ?_)))
  have hWs : W.heap.size = w.heap.size + 2 := by rw [← hW]; simp
  have kb1 : Blk W w.heap.size 83 #[.int .i64 b.n, .slice h_pb b.bs.length h_cb, .slice h_po b.os.length h_co, .slice (some ⟨bb, o, none⟩) b.ss.length h_cs, .int .i64 (kspec b.bs 2 0 0), .int .i64 (kspec b.bs 2 0 1), .int .i64 (kspec b.bs 2 0 2), .int .i64 (kspec b.bs 2 0 3), .int .i64 (kspec b.bs 2 0 4), .int .i64 (kspec b.bs 2 0 5), .int .i64 (kspec b.bs 2 0 6), .int .i64 (kspec b.bs 2 0 7), .map (some B)] := by rw [← hW]; exact (Blk.new rfl).alloc _
  have kb2 : Blk W (w.heap.size + 1) 80 #[.int .i64 s0, .int .i64 s1, .int .i64 s2, .int .i64 s3, .int .i64 l0, .int .i64 l1, .int .i64 l2, .int .i64 l3] := by rw [← hW]; exact Blk.new (by simp)
  have c0' : W.cell? ⟨bb, o + i * 4, none⟩ = some (.int .i64 st) := by rw [hWB.cell (p := ⟨bb, o + i * 4, none⟩) hlt]; exact c0
  have kS : Hid (∀ w', Below W.heap.size W w' → w'.cell? ⟨w.heap.size, 0, none⟩ = some (.int .i64 b.n) ∧ w'.cell? ⟨w.heap.size, 1, none⟩ = some (.slice h_pb b.bs.length h_cb) ∧ w'.cell? ⟨w.heap.size, 2, none⟩ = some (.slice h_po b.os.length h_co) ∧ w'.cell? ⟨w.heap.size, 3, none⟩ = some (.slice (some ⟨bb, o, none⟩) b.ss.length h_cs) ∧ w'.cell? ⟨w.heap.size, 4, none⟩ = some (.int .i64 (kspec b.bs 2 0 0)) ∧ w'.cell? ⟨w.heap.size, 5, none⟩ = some (.int .i64 (kspec b.bs 2 0 1)) ∧ w'.cell? ⟨w.heap.size, 6, none⟩ = some (.int .i64 (kspec b.bs 2 0 2)) ∧ w'.cell? ⟨w.heap.size, 7, none⟩ = some (.int .i64 (kspec b.bs 2 0 3)) ∧ w'.cell? ⟨w.heap.size, 8, none⟩ = some (.int .i64 (kspec b.bs 2 0 4)) ∧ w'.cell? ⟨w.heap.size, 9, none⟩ = some (.int .i64 (kspec b.bs 2 0 5)) ∧ w'.cell? ⟨w.heap.size, 10, none⟩ = some (.int .i64 (kspec b.bs 2 0 6)) ∧ w'.cell? ⟨w.heap.size, 11, none⟩ = some (.int .i64 (kspec b.bs 2 0 7)) ∧ w'.cell? ⟨w.heap.size, 12, none⟩ = some (.map (some B)) ∧ w'.cell? ⟨w.heap.size + 1, 0, none⟩ = some (.int .i64 s0) ∧ w'.cell? ⟨w.heap.size + 1, 1, none⟩ = some (.int .i64 s1) ∧ w'.cell? ⟨w.heap.size + 1, 2, none⟩ = some (.int .i64 s2) ∧ w'.cell? ⟨w.heap.size + 1, 3, none⟩ = some (.int .i64 s3) ∧ w'.cell? ⟨w.heap.size + 1, 4, none⟩ = some (.int .i64 l0) ∧ w'.cell? ⟨w.heap.size + 1, 5, none⟩ = some (.int .i64 l1) ∧ w'.cell? ⟨w.heap.size + 1, 6, none⟩ = some (.int .i64 l2) ∧ w'.cell? ⟨w.heap.size + 1, 7, none⟩ = some (.int .i64 l3) ∧ w'.cell? ⟨bb, o + i * 4, none⟩ = some (.int .i64 st)) := Lib.hid (fun w' hw => by
    have kb1' : Blk w' w.heap.size 83 #[.int .i64 b.n, .slice h_pb b.bs.length h_cb, .slice h_po b.os.length h_co, .slice (some ⟨bb, o, none⟩) b.ss.length h_cs, .int .i64 (kspec b.bs 2 0 0), .int .i64 (kspec b.bs 2 0 1), .int .i64 (kspec b.bs 2 0 2), .int .i64 (kspec b.bs 2 0 3), .int .i64 (kspec b.bs 2 0 4), .int .i64 (kspec b.bs 2 0 5), .int .i64 (kspec b.bs 2 0 6), .int .i64 (kspec b.bs 2 0 7), .map (some B)] := (hw.block _ kb1.lt).trans kb1
    have kb2' : Blk w' (w.heap.size + 1) 80 #[.int .i64 s0, .int .i64 s1, .int .i64 s2, .int .i64 s3, .int .i64 l0, .int .i64 l1, .int .i64 l2, .int .i64 l3] := (hw.block _ kb2.lt).trans kb2
    refine ⟨?_, ?_, ?_, ?_, ?_, ?_, ?_, ?_, ?_, ?_, ?_, ?_, ?_, ?_, ?_, ?_, ?_, ?_, ?_, ?_, ?_, ?_⟩
    all_goals first
      | (rw [kb1'.cell]; rfl)
      | (rw [kb2'.cell]; rfl)
      | (rw [hw.cell (p := ⟨bb, o + i * 4, none⟩) (by dsimp only; omega)]; exact c0'))
  have hkW := hk.below hWB
  have HK := Lib.hid hkW
  have HW := Lib.hid hWB
  have hbW : bb < W.heap.size := by omega
  clear hk hkW c0 hWB kb1 kb2 hW c0'
  go_region_held3 (fun w' => w'.cell? ⟨w.heap.size, 0, none⟩ = some (.int .i64 b.n) ∧ w'.cell? ⟨w.heap.size, 1, none⟩ = some (.slice h_pb b.bs.length h_cb) ∧ w'.cell? ⟨w.heap.size, 2, none⟩ = some (.slice h_po b.os.length h_co) ∧ w'.cell? ⟨w.heap.size, 3, none⟩ = some (.slice (some ⟨bb, o, none⟩) b.ss.length h_cs) ∧ w'.cell? ⟨w.heap.size, 4, none⟩ = some (.int .i64 (kspec b.bs 2 0 0)) ∧ w'.cell? ⟨w.heap.size, 5, none⟩ = some (.int .i64 (kspec b.bs 2 0 1)) ∧ w'.cell? ⟨w.heap.size, 6, none⟩ = some (.int .i64 (kspec b.bs 2 0 2)) ∧ w'.cell? ⟨w.heap.size, 7, none⟩ = some (.int .i64 (kspec b.bs 2 0 3)) ∧ w'.cell? ⟨w.heap.size, 8, none⟩ = some (.int .i64 (kspec b.bs 2 0 4)) ∧ w'.cell? ⟨w.heap.size, 9, none⟩ = some (.int .i64 (kspec b.bs 2 0 5)) ∧ w'.cell? ⟨w.heap.size, 10, none⟩ = some (.int .i64 (kspec b.bs 2 0 6)) ∧ w'.cell? ⟨w.heap.size, 11, none⟩ = some (.int .i64 (kspec b.bs 2 0 7)) ∧ w'.cell? ⟨w.heap.size, 12, none⟩ = some (.map (some B)) ∧ w'.cell? ⟨w.heap.size + 1, 0, none⟩ = some (.int .i64 s0) ∧ w'.cell? ⟨w.heap.size + 1, 1, none⟩ = some (.int .i64 s1) ∧ w'.cell? ⟨w.heap.size + 1, 2, none⟩ = some (.int .i64 s2) ∧ w'.cell? ⟨w.heap.size + 1, 3, none⟩ = some (.int .i64 s3) ∧ w'.cell? ⟨w.heap.size + 1, 4, none⟩ = some (.int .i64 l0) ∧ w'.cell? ⟨w.heap.size + 1, 5, none⟩ = some (.int .i64 l1) ∧ w'.cell? ⟨w.heap.size + 1, 6, none⟩ = some (.int .i64 l2) ∧ w'.cell? ⟨w.heap.size + 1, 7, none⟩ = some (.int .i64 l3) ∧ w'.cell? ⟨bb, o + i * 4, none⟩ = some (.int .i64 st))
    ((exact kS.out _ (by (repeat (first | (with_reducible exact Below.refl _ _) | (with_reducible assumption) | ((with_reducible refine below_ext_trans ?_ ?_ _); rotate_left; focus (((try dsimp only); repeat (first | omega | simp only [World.size_alloc, World.size_setCell, World.size_drew] | (with_reducible refine le_ext_of ?_) | (with_reducible refine le_ext_add ?_))); done)) | ((with_reducible refine Below.alloc ?_ ?_ _); rotate_left; focus (((try dsimp only); repeat (first | omega | simp only [World.size_alloc, World.size_setCell, World.size_drew] | (with_reducible refine le_ext_of ?_) | (with_reducible refine le_ext_add ?_))); done)) | ((with_reducible refine Below.setCell ?_ ?_ _); rotate_left; focus (((try dsimp only); repeat (first | omega | simp only [World.size_alloc, World.size_setCell, World.size_drew] | (with_reducible refine le_ext_of ?_) | (with_reducible refine le_ext_add ?_))); done)) | (with_reducible refine Below.drew ?_))))))
    (first
      | (go_at_call 61; refine (moment_any _ b B i s _ (HK.out.below (by (repeat (first | (with_reducible exact Below.refl _ _) | (with_reducible assumption) | ((with_reducible refine below_ext_trans ?_ ?_ _); rotate_left; focus (((try dsimp only); repeat (first | omega | simp only [World.size_alloc, World.size_setCell, World.size_drew] | (with_reducible refine le_ext_of ?_) | (with_reducible refine le_ext_add ?_))); done)) | ((with_reducible refine Below.alloc ?_ ?_ _); rotate_left; focus (((try dsimp only); repeat (first | omega | simp only [World.size_alloc, World.size_setCell, World.size_drew] | (with_reducible refine le_ext_of ?_) | (with_reducible refine le_ext_add ?_))); done)) | ((with_reducible refine Below.setCell ?_ ?_ _); rotate_left; focus (((try dsimp only); repeat (first | omega | simp only [World.size_alloc, World.size_setCell, World.size_drew] | (with_reducible refine le_ext_of ?_) | (with_reducible refine le_ext_add ?_))); done)) | (with_reducible refine Below.drew ?_))))) HI.out).mono ?_; rintro e w' ⟨rfl, y1, rfl⟩)
      | (go_at_call 70; refine (spells_any _ _ _ _ _ _ _ _ _ _ _ _).mono ?_; rintro e w' ⟨g1, g2, g3, rfl, hg1, hg2, hg3, hsx, y2, rfl⟩)
      | (go_at_call 77; refine (claim_any _ b B i s _ (HK.out.below (by (repeat (first | (with_reducible exact Below.refl _ _) | (with_reducible assumption) | ((with_reducible refine below_ext_trans ?_ ?_ _); rotate_left; focus (((try dsimp only); repeat (first | omega | simp only [World.size_alloc, World.size_setCell, World.size_drew] | (with_reducible refine le_ext_of ?_) | (with_reducible refine le_ext_add ?_))); done)) | ((with_reducible refine Below.alloc ?_ ?_ _); rotate_left; focus (((try dsimp only); repeat (first | omega | simp only [World.size_alloc, World.size_setCell, World.size_drew] | (with_reducible refine le_ext_of ?_) | (with_reducible refine le_ext_add ?_))); done)) | ((with_reducible refine Below.setCell ?_ ?_ _); rotate_left; focus (((try dsimp only); repeat (first | omega | simp only [World.size_alloc, World.size_setCell, World.size_drew] | (with_reducible refine le_ext_of ?_) | (with_reducible refine le_ext_add ?_))); done)) | (with_reducible refine Below.drew ?_))))) HI.out).mono ?_; rintro e w' ⟨rfl, y3, rfl⟩)
      | (go_at_call 76; refine (count_any _ _ _ _ _ _ _ _ _ _ _ _ _ _ _ _ (fun t => ownf b.os st t == s.co) _ (hsx.below (by exact below_ext _ y3)) HLE.out (enters_of Tryd.func78 (by kernel_rfl) rfl) (fun t ht W' hW' => by obtain ⟨q1, q2, q3⟩ := HIN.out t ht; exact fair_any b.os _ _ _ _ B st t W' (HK.out.own.below (Below.trans (by (repeat (first | (with_reducible exact Below.refl _ _) | (with_reducible assumption) | ((with_reducible refine below_ext_trans ?_ ?_ _); rotate_left; focus (((try dsimp only); repeat (first | omega | simp only [World.size_alloc, World.size_setCell, World.size_drew] | (with_reducible refine le_ext_of ?_) | (with_reducible refine le_ext_add ?_))); done)) | ((with_reducible refine Below.alloc ?_ ?_ _); rotate_left; focus (((try dsimp only); repeat (first | omega | simp only [World.size_alloc, World.size_setCell, World.size_drew] | (with_reducible refine le_ext_of ?_) | (with_reducible refine le_ext_add ?_))); done)) | ((with_reducible refine Below.setCell ?_ ?_ _); rotate_left; focus (((try dsimp only); repeat (first | omega | simp only [World.size_alloc, World.size_setCell, World.size_drew] | (with_reducible refine le_ext_of ?_) | (with_reducible refine le_ext_add ?_))); done)) | (with_reducible refine Below.drew ?_)))) (hW'.mono (by ((try dsimp only); repeat (first | omega | simp only [World.size_alloc, World.size_setCell, World.size_drew] | (with_reducible refine le_ext_of ?_) | (with_reducible refine le_ext_add ?_))))))) q1 q2 q3)).mono ?_; rintro e w' ⟨rfl, y4, rfl⟩))
  go_wp2_with fail
  go_ret
  exact ⟨rfl, ext_of (HW.out.trans (Below.mono (B := W.heap.size) (by (repeat (first | (with_reducible exact Below.refl _ _) | (with_reducible assumption) | ((with_reducible refine below_ext_trans ?_ ?_ _); rotate_left; focus (((try dsimp only); repeat (first | omega | simp only [World.size_alloc, World.size_setCell, World.size_drew] | (with_reducible refine le_ext_of ?_) | (with_reducible refine le_ext_add ?_))); done)) | ((with_reducible refine Below.alloc ?_ ?_ _); rotate_left; focus (((try dsimp only); repeat (first | omega | simp only [World.size_alloc, World.size_setCell, World.size_drew] | (with_reducible refine le_ext_of ?_) | (with_reducible refine le_ext_add ?_))); done)) | ((with_reducible refine Below.setCell ?_ ?_ _); rotate_left; focus (((try dsimp only); repeat (first | omega | simp only [World.size_alloc, World.size_setCell, World.size_drew] | (with_reducible refine le_ext_of ?_) | (with_reducible refine le_ext_add ?_))); done)) | (with_reducible refine Below.drew ?_)))) (by omega)))⟩
end Go.Proofs.YtdmicngnbcdkdaaDoor

