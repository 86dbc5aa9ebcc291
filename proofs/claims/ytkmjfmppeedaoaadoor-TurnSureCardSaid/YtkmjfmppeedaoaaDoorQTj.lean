/- Contract of count: of each turn between two ones, of some, or of none. -/
import Derived.Test.YtkmjfmppeedaoaaDoorQTi
set_option linter.unusedSimpArgs false
set_option linter.unusedVariables false
namespace Go.Proofs.YtkmjfmppeedaoaaDoor
open Go Go.RowKit Go.Shelf

/-- In how many of some turns something is so: 2 in each, 0 in none, 1 else. -/
def kindOf (ok : Nat → Bool) (l : List Nat) : Int := if l.all ok then 2 else if l.any ok then 1 else 0

attribute [local go_sem] Oper.semAt_some
set_option maxHeartbeats 4000000 in
theorem count_any (b1 b2 b3 : Nat) (s0 s1 s2 s3 l0 l1 l2 l3 st a b : Int) (f : FuncId) (fb : Array Value) (ok : Nat → Bool) (w : World)
    (hx : SpellBox w b1 b2 b3 s0 s1 s2 s3 l0 l1 l2 l3 st a b) (hle : cnt [l0, l1, l2, l3] a ≤ cnt [s0, s1, s2, s3] b)
    (hf : ∀ args w, (callFunc f args).run Tryd.prog w = .ok (.enter f args) w)
    (his : ∀ t : Nat, t ≤ cnt [s0, s1, s2, s3] b → ∀ W' : World, Below w.heap.size w W' → Calls Tryd.prog f (fb.push (.agg #[.int .i64 st, .int .i64 t])) W' fun e w' => e = .returned (.bool (ok t)) ∧ ∃ x, w' = ext W' x) :
    Calls Tryd.prog 76 #[.func (.func 87) #[] #[.pointer (some ⟨b1, 0, none⟩), .pointer (some ⟨b2, 0, none⟩), .pointer (some ⟨b3, 0, none⟩)], .func (.func f) fb #[]] w fun e w' =>
      e = .returned (.int .i64 (kindOf ok (seg (cnt [l0, l1, l2, l3] a) (cnt [s0, s1, s2, s3] b)))) ∧ ∃ x, w' = ext w x := by
  refine (callsIn_wide (n := 9)).1 ?_
  have HIS := Lib.hid his
  clear his
  have hhi4 : cnt [s0, s1, s2, s3] b ≤ 4 := cnt_le _ _
  refine callsIn_of_wp_marks Tryd.func76 rfl trivial ?_ rfl
  simp only [Tryd.ntmps76, List.size_toArray, List.length_cons, List.length_nil, Nat.reduceAdd, Nat.reduceSub, Array.replicate_succ, Array.replicate_zero, List.push_toArray, List.append_toArray, List.nil_append, List.cons_append]
  gi_wp2_with fail
  have hWB : Below w.heap.size w (((w.alloc (.cells #[.func (.func f) fb #[]] 111)).alloc (.cells #[.bool true] 4)).alloc (.cells #[.bool true] 4)) := by (repeat (first | (with_reducible exact Below.refl _ _) | (with_reducible assumption) | ((with_reducible refine below_ext_trans ?_ ?_ _); rotate_left; focus (((try dsimp only); repeat (first | omega | simp only [World.size_alloc, World.size_setCell, World.size_drew] | (with_reducible refine le_ext_of ?_) | (with_reducible refine le_ext_add ?_))); done)) | ((with_reducible refine Below.alloc ?_ ?_ _); rotate_left; focus (((try dsimp only); repeat (first | omega | simp only [World.size_alloc, World.size_setCell, World.size_drew] | (with_reducible refine le_ext_of ?_) | (with_reducible refine le_ext_add ?_))); done)) | ((with_reducible refine Below.setCell ?_ ?_ _); rotate_left; focus (((try dsimp only); repeat (first | omega | simp only [World.size_alloc, World.size_setCell, World.size_drew] | (with_reducible refine le_ext_of ?_) | (with_reducible refine le_ext_add ?_))); done)) | (with_reducible refine Below.drew ?_)))
  have hq3 : Blk (((w.alloc (.cells #[.func (.func f) fb #[]] 111)).alloc (.cells #[.bool true] 4)).alloc (.cells #[.bool true] 4)) w.heap.size 111 #[.func (.func f) fb #[]] := ((Blk.new rfl).alloc _).alloc _
  have hq5 : Blk (((w.alloc (.cells #[.func (.func f) fb #[]] 111)).alloc (.cells #[.bool true] 4)).alloc (.cells #[.bool true] 4)) (w.heap.size + 1) 4 #[.bool true] := (Blk.new (by simp)).alloc _
  have hq6 : Blk (((w.alloc (.cells #[.func (.func f) fb #[]] 111)).alloc (.cells #[.bool true] 4)).alloc (.cells #[.bool true] 4)) (w.heap.size + 1 + 1) 4 #[.bool true] := Blk.new (by simp)
  have hWs : (((w.alloc (.cells #[.func (.func f) fb #[]] 111)).alloc (.cells #[.bool true] 4)).alloc (.cells #[.bool true] 4)).heap.size = w.heap.size + 3 := by simp
  generalize (((w.alloc (.cells #[.func (.func f) fb #[]] 111)).alloc (.cells #[.bool true] 4)).alloc (.cells #[.bool true] 4)) = W at *
  generalize hlo : cnt [l0, l1, l2, l3] a = lo at *
  generalize hhi : cnt [s0, s1, s2, s3] b = hi at *
  have hseq := spells1_in (9 - 1) b1 b2 b3 s0 s1 s2 s3 l0 l1 l2 l3 st a b (fun k => (k = w.heap.size + 1 ∨ k = w.heap.size + 1 + 1) ∨ k = W.heap.size + 1) w hx (by rw [hlo, hhi]; exact hle) (fun k hk => by
    have := hx.lt1; have := hx.lt2; have := hx.lt3; omega)
  rw [hlo, hhi] at hseq
  refine wpIn_rangeFunc_w (gf := 87) (lb := #[.pointer (some ⟨b1, 0, none⟩), .pointer (some ⟨b2, 0, none⟩), .pointer (some ⟨b3, 0, none⟩)]) rfl (enters_of Tryd.func87 (by kernel_rfl) rfl)
    (fun k => k = w.heap.size + 1 ∨ k = w.heap.size + 1 + 1) (fun k hk => by omega) hseq hWB (fun _ => rfl)
    (fun n1 pre W' => Blk W' w.heap.size 111 #[.func (.func f) fb #[]] ∧ Blk W' (w.heap.size + 1) 4 #[.bool (pre.all ok)] ∧ Blk W' (w.heap.size + 1 + 1) 4 #[.bool (!pre.any ok)] ∧ Below w.heap.size w W')
    (fun _ _ _ _ => False)
    (fun n1 pre x a' W' => ∃ g : Nat, n1 ≤ g ∧ Blk W' g 103 #[.int .i64 st, .int .i64 x] ∧ a' = { tmps := #[.func (.func 87) #[] #[.pointer (some ⟨b1, 0, none⟩), .pointer (some ⟨b2, 0, none⟩), .pointer (some ⟨b3, 0, none⟩)], .func (.func f) fb #[], undef, .pointer (some ⟨w.heap.size, 0, none⟩), .int .i64 0, .pointer (some ⟨w.heap.size + 1, 0, none⟩), .pointer (some ⟨w.heap.size + 1 + 1, 0, none⟩), .pointer (some ⟨g, 0, none⟩), .func (.func 87) #[] #[.pointer (some ⟨b1, 0, none⟩), .pointer (some ⟨b2, 0, none⟩), .pointer (some ⟨b3, 0, none⟩)], .agg #[.int .i64 st, .int .i64 x], undef, undef, undef, undef, undef, undef, undef], defers := [] })
    ?hI ?hIx ?hAx ?h0 ?hassign ?hbody ?hdone ?hstop
  case hI =>
    rintro n1 pre A B hn hA ⟨c1, c2, c3, c4⟩ hp
    have := hWB.size
    exact ⟨(hp.block _ c1.lt (.inl (by omega))).trans c1, (hp.block _ c2.lt (.inl (by omega))).trans c2, (hp.block _ c3.lt (.inl (by omega))).trans c3, c4.trans (hp.below (by omega) c4.size)⟩
  case hIx => exact fun _ _ _ _ _ _ _ h _ => h
  case hAx =>
    rintro n1 pre x a' A B hn hA ⟨g, hg, hk, rfl⟩ hp
    exact ⟨g, hg, (hp.block g hk.lt (.inr hg)).trans hk, rfl⟩
  case h0 =>
    intro n1 W1 hb _ _
    exact ⟨(hb.block _ (by omega)).trans hq3, (hb.block _ (by omega)).trans hq5, (hb.block _ (by omega)).trans hq6, hWB.trans (hb.mono (by omega))⟩
  case hassign =>
    intro l n1 pre x W' hn hz hsp hi'
    gi_wp2
    exact ⟨⟨hi'.1.alloc _, hi'.2.1.alloc _, hi'.2.2.1.alloc _, hi'.2.2.2.alloc (hi'.2.2.2.size) _⟩, ⟨W'.heap.size, hz, Blk.new rfl, rfl⟩, (Below.refl _ _).alloc (Nat.le_refl _) _⟩
  case hbody =>
    rintro l n1 pre x a' W' hl hn hz hsp ⟨c1, c2, c3, c4⟩ ⟨g, hg, hk, rfl⟩
    have hx4 : x ≤ hi := by
      have h1 : x ∈ seg lo hi := hsp.subset (by simp)
      simp only [seg, upto, List.mem_map, List.mem_range] at h1
      omega
    have q3 := c1.cell 0
    have q5 := c2.cell 0
    have q6 := c3.cell 0
    have g5 := c2.frozen 0
    have g6 := c3.frozen 0
    have qg0 := hk.cell 0
    have qg1 := hk.cell 1
    simp only [List.size_toArray, List.length_cons, List.length_nil, Nat.reduceAdd, Nat.reduceLT, getElem?_pos, List.getElem_toArray, List.getElem_cons_zero, List.getElem_cons_succ] at q3 q5 q6 qg0 qg1
    have hl1 : w.heap.size + 1 < W'.heap.size := c2.lt
    have hl2 : w.heap.size + 1 + 1 < W'.heap.size := c3.lt
    have C1 := Lib.hid c1
    have C2 := Lib.hid c2
    have C3 := Lib.hid c3
    have C4 := Lib.hid c4
    clear c1 c2 c3 c4 hk hq3 hq5 hq6 hseq hWB
    by_cases hok : ok x = true
    · gi_wp2_with fail
      refine (CallsIn.inRound _ (callsIn_wide.2 (HIS.out x hx4 W' C4.out))).mono ?_
      rintro e w' ⟨rfl, y, rfl⟩
      gi_wp2_with fail
      refine (show Spare _ _ _ _ ∧ _ from ⟨?_, ?_, ?_, ?_, ?_⟩)
      · exact ((Spare.refl _ n1 W').ext hz y).setCell (.inl (.inr rfl)) 0 _
      · exact (C1.out.ext y).setOther (by omega) 0 _
      · have h1 := (C2.out.ext y).setOther (b := w.heap.size + 1 + 1) (by omega) 0 (.bool false)
        rw [List.all_append]; simpa [hok] using h1
      · have h1 := (C3.out.ext y).set 0 (.bool false)
        rw [List.any_append]; simpa [hok] using h1
      · have hB := C4.out
        (repeat (first | (with_reducible exact Below.refl _ _) | (with_reducible assumption) | ((with_reducible refine below_ext_trans ?_ ?_ _); rotate_left; focus (((try dsimp only); repeat (first | omega | simp only [World.size_alloc, World.size_setCell, World.size_drew] | (with_reducible refine le_ext_of ?_) | (with_reducible refine le_ext_add ?_))); done)) | ((with_reducible refine Below.alloc ?_ ?_ _); rotate_left; focus (((try dsimp only); repeat (first | omega | simp only [World.size_alloc, World.size_setCell, World.size_drew] | (with_reducible refine le_ext_of ?_) | (with_reducible refine le_ext_add ?_))); done)) | ((with_reducible refine Below.setCell ?_ ?_ _); rotate_left; focus (((try dsimp only); repeat (first | omega | simp only [World.size_alloc, World.size_setCell, World.size_drew] | (with_reducible refine le_ext_of ?_) | (with_reducible refine le_ext_add ?_))); done)) | (with_reducible refine Below.drew ?_)))
    · have hok : ok x = false := by simpa only [Bool.not_eq_true] using hok
      gi_wp2_with fail
      refine (CallsIn.inRound _ (callsIn_wide.2 (HIS.out x hx4 W' C4.out))).mono ?_
      rintro e w' ⟨rfl, y, rfl⟩
      gi_wp2_with fail
      refine (show Spare _ _ _ _ ∧ _ from ⟨?_, ?_, ?_, ?_, ?_⟩)
      · exact ((Spare.refl _ n1 W').ext hz y).setCell (.inl (.inl rfl)) 0 _
      · exact (C1.out.ext y).setOther (by omega) 0 _
      · have h1 := (C2.out.ext y).set 0 (.bool false)
        rw [List.all_append]; simpa [hok] using h1
      · have h1 := (C3.out.ext y).setOther (b := w.heap.size + 1) (by omega) 0 (.bool false)
        rw [List.any_append]; simpa [hok] using h1
      · have hB := C4.out
        (repeat (first | (with_reducible exact Below.refl _ _) | (with_reducible assumption) | ((with_reducible refine below_ext_trans ?_ ?_ _); rotate_left; focus (((try dsimp only); repeat (first | omega | simp only [World.size_alloc, World.size_setCell, World.size_drew] | (with_reducible refine le_ext_of ?_) | (with_reducible refine le_ext_add ?_))); done)) | ((with_reducible refine Below.alloc ?_ ?_ _); rotate_left; focus (((try dsimp only); repeat (first | omega | simp only [World.size_alloc, World.size_setCell, World.size_drew] | (with_reducible refine le_ext_of ?_) | (with_reducible refine le_ext_add ?_))); done)) | ((with_reducible refine Below.setCell ?_ ?_ _); rotate_left; focus (((try dsimp only); repeat (first | omega | simp only [World.size_alloc, World.size_setCell, World.size_drew] | (with_reducible refine le_ext_of ?_) | (with_reducible refine le_ext_add ?_))); done)) | (with_reducible refine Below.drew ?_)))
  case hdone =>
    rintro D n1 xs W' rfl hn hz rfl ⟨c1, c2, c3, c4⟩ hD
    have q5 := c2.cell 0
    have q6 := c3.cell 0
    simp only [List.size_toArray, List.length_cons, List.length_nil, Nat.reduceAdd, Nat.reduceLT, getElem?_pos, List.getElem_toArray, List.getElem_cons_zero, List.getElem_cons_succ] at q5 q6
    have C4 := Lib.hid c4
    clear c1 c2 c3 c4 hq3 hq5 hq6 hseq hWB
    have hd : Hid (∃ x, W'.putObj W.heap.size (.deferred none) = ext w x) := Lib.hid (ext_of (C4.out.trans ((Priv.putObj (n0 := w.heap.size) (n1 := W.heap.size + 1) W' (by omega) (by omega) _).below (Nat.le_refl _) C4.out.size)))
    by_cases hall : (seg lo hi).all ok = true
    · have H2 := Lib.hid (show kindOf ok (seg lo hi) = 2 by simp [kindOf, hall])
      gi_wp2_with fail
      refine ⟨by simp, .inl ⟨_, _, rfl, run_takeDeferred hD, ?_⟩⟩
      exact ⟨_, results_tmp rfl _ _ _, by rw [hlo, hhi, H2.out]; rfl, hd.out⟩
    · have hall : (seg lo hi).all ok = false := by simpa only [Bool.not_eq_true] using hall
      by_cases hany : (seg lo hi).any ok = true
      · have H2 := Lib.hid (show kindOf ok (seg lo hi) = 1 by rw [kindOf, hall, hany]; rfl)
        gi_wp2_with fail
        refine ⟨by simp, .inl ⟨_, _, rfl, run_takeDeferred hD, ?_⟩⟩
        exact ⟨_, results_tmp rfl _ _ _, by rw [hlo, hhi, H2.out]; rfl, hd.out⟩
      · have hany : (seg lo hi).any ok = false := by simpa only [Bool.not_eq_true] using hany
        have H2 := Lib.hid (show kindOf ok (seg lo hi) = 0 by rw [kindOf, hall, hany]; rfl)
        gi_wp2_with fail
        refine ⟨by simp, .inl ⟨_, _, rfl, run_takeDeferred hD, ?_⟩⟩
        exact ⟨_, results_tmp rfl _ _ _, by rw [hlo, hhi, H2.out]; rfl, hd.out⟩
  case hstop =>
    intro D n1 c pre W' _ _ _ _ h _
    exact h.elim
end Go.Proofs.YtkmjfmppeedaoaaDoor

