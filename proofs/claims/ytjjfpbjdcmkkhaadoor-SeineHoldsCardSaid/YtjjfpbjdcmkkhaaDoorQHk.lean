/- The reference: held, rates. -/
/- The reference: ends. -/
import Derived.Test.YtjjfpbjdcmkkhaaDoorQHh
import Derived.Test.YtjjfpbjdcmkkhaaDoorQJk
import Derived.Deep.QuietTactic
import Derived.BigQuiet
set_option linter.unusedSimpArgs false
set_option linter.unusedVariables false
namespace Go.Proofs.YtjjfpbjdcmkkhaaDoor
open Go Go.RowKit Go.Shelf
theorem info_nr : (Tryd.prog.info? 3).map (fun i => (i.zero, i.size, i.bytes)) = some (some (.int .i64 0), 1, 8) := by kernel_rfl
theorem under_nrs : Tryd.prog.underlying 44 = some (.slice 3) := by kernel_rfl
theorem wpList_append_nr {ops : Array Oper} {rest : List Oper} {o : Oper} {a : Act} {Q : Exit → Act → World → Prop} {w : World} (hgd : o.guard = none) (s x : Operand)
    (ho : o.op = .call { callee := .builtin .append, args := #[s, x], argTypes := #[44, 44] }) (B : Nat)
    (v : Value) (l : List Int) (hs : a.eval s = v) (hown : OwnInts w B v l) (g : Nat) (y : Int) (hx : a.eval x = .slice (some ⟨g, 0, none⟩) 1 1) (hc : w.cell? ⟨g, 0, none⟩ = some (.int .i64 y))
    (hl : l.length ≤ 8700000000000) (hB : B ≤ w.heap.size)
    (h : ∀ v' w', OwnInts w' B v' (l ++ [y]) → w.grownBy w' v.ownBlock → wpList Tryd.prog ops Q rest (a.put o.dst v') w') : wpList Tryd.prog ops Q (o :: rest) a w := by
  obtain ⟨i0, hi, hz0, hz1, hz2⟩ := info_parts info_nr
  refine wpList_append_own w hgd s x 44 ho B 3 i0 (.int .i64 0) 1 8 under_nrs hi hz0 hz1 hz2 rfl (by decide) v l.length _ hs hown ⟨g, 0, none⟩ 1 1 [.int .i64 y] hx rfl ?_ ?_ ?_ ?_ hB ?_
  · intro j u hj
    match j, hj with
    | 0, hj => simp at hj; subst hj; simpa [Addr.add] using hc
    | n + 1, hj => simp at hj
  · intro u hu
    simp at hu; subst hu; rfl
  · unfold maxLen; omega
  · omega
  · intro v' w' h1 h2 _
    refine h v' w' ?_ h2
    unfold OwnInts
    rw [List.map_append, List.length_append]
    exact h1
attribute [local go_sem] Oper.semAt_some frozen_alloc_lt
set_option maxHeartbeats 4000000 in
theorem held_r (l : List (Int × Int)) (p : Option Addr) (c : Nat) (w : World) (hl : RsAt w p l) (hn : l.length ≤ 8000000000000) :
    Calls Tryd.prog 66 #[.slice p l.length c] w fun e w' => ∃ v, e = .returned v ∧ OwnInts w' w.heap.size v (l.map Prod.fst) ∧ Below w.heap.size w w' := by
  have HL := Lib.hid hl
  clear hl
  go_enter Tryd.func66, Tryd.ntmps66
  generalize hN : l.length = N at *
  have HN := Lib.hid hN
  clear hN
  go_wp2_with fail
  go_loopw [3, 4] (fun o i wr => ∃ k : Nat, k ≤ N ∧ i = .int .i64 k ∧ Hid (OwnInts wr w.heap.size o ((l.take k).map Prod.fst)) ∧ Hid (Below w.heap.size w wr)) (fun _ i _ => N - (intOf i).toNat)
  case atStart => exact ⟨0, by omega, rfl, Lib.hid (OwnInts.nil _ _), Lib.hid (Below.refl _ _)⟩
  case round =>
    obtain ⟨k, hk, rfl, HO, HB⟩ := hrel
    by_cases hlt : k < N
    · obtain ⟨⟨x, r⟩, hst⟩ := get_some l k (by have := HN.out; omega)
      obtain ⟨bl, ol, hp, hbl, c0, c1⟩ := (HL.out.below HB.out) k _ hst
      subst hp
      dsimp only at c0
      have HTK := Lib.hid (show (l.take (k + 1)).map Prod.fst = (l.take k).map Prod.fst ++ [x] by rw [List.take_add_one, hst]; simp)
      have k0 : (0 : Int) ≤ (k : Int) := by omega
      have k1 : (k : Int) < (N : Int) := by omega
      have HLN := Lib.hid (show ((l.take k).map Prod.fst).length ≤ 8700000000000 by rw [List.length_map]; have := List.length_take_le k l; omega)
      have hzr := HB.out.size
      have e1 : IntKind.i64.wrap ((k : Int) + 1) = ((k + 1 : Nat) : Int) := by rw [IntWalk.i64_in _ (by omega)]; push_cast; rfl
      clear c1 hst
      obtain ⟨q7, cq7, e7, -⟩ := HO.out.at
      subst e7
      go_wp2_with (at_builtin; refine wpList_append_nr rfl _ _ rfl w.heap.size _ _ rfl (HO.out.below ((Below.refl _ _).alloc (Nat.le_refl _) _)) wr.heap.size x rfl ((Blk.new rfl).cell 0) HLN.out (by simp; omega) ?_; intro v' w1 ho hg; have HO4 := Lib.hid ho; have HG4 := Lib.hid hg; clear ho hg)
      have HB4 := Lib.hid (Below.grown (w := wr.alloc (.cells #[.int .i64 x] 3)) (HB.out.alloc hzr _) HG4.out (by simp; omega) (fun j hj => (HO.out.lt j hj).1))
      go_wp2_with fail
      go_roundw
      case rel => exact ⟨k + 1, by omega, rfl, by rw [HTK.out]; exact HO4, HB4⟩
      case measure => simp [intOf]; omega
    · have hc : decide (k < N) = false := by simpa using hlt
      have HE := Lib.hid (show (l.take k).map Prod.fst = l.map Prod.fst by rw [List.take_of_length_le (by have := HN.out; omega)])
      clear hlt
      obtain ⟨q7, cq7, e7, -⟩ := HO.out.at
      subst e7
      go_wp2_with fail
      go_ret
      exact ⟨_, rfl, by rw [← HE.out]; exact HO.out, HB.out⟩
set_option maxHeartbeats 4000000 in
theorem rates_r (l : List (Int × Int)) (p : Option Addr) (c : Nat) (w : World) (hl : RsAt w p l) (hn : l.length ≤ 8000000000000) :
    Calls Tryd.prog 68 #[.slice p l.length c] w fun e w' => ∃ v, e = .returned v ∧ OwnInts w' w.heap.size v (l.map Prod.snd) ∧ Below w.heap.size w w' := by
  have HL := Lib.hid hl
  clear hl
  go_enter Tryd.func68, Tryd.ntmps68
  generalize hN : l.length = N at *
  have HN := Lib.hid hN
  clear hN
  go_wp2_with fail
  go_loopw [3, 4] (fun o i wr => ∃ k : Nat, k ≤ N ∧ i = .int .i64 k ∧ Hid (OwnInts wr w.heap.size o ((l.take k).map Prod.snd)) ∧ Hid (Below w.heap.size w wr)) (fun _ i _ => N - (intOf i).toNat)
  case atStart => exact ⟨0, by omega, rfl, Lib.hid (OwnInts.nil _ _), Lib.hid (Below.refl _ _)⟩
  case round =>
    obtain ⟨k, hk, rfl, HO, HB⟩ := hrel
    by_cases hlt : k < N
    · obtain ⟨⟨x, r⟩, hst⟩ := get_some l k (by have := HN.out; omega)
      obtain ⟨bl, ol, hp, hbl, c0, c1⟩ := (HL.out.below HB.out) k _ hst
      subst hp
      dsimp only at c1
      have HTK := Lib.hid (show (l.take (k + 1)).map Prod.snd = (l.take k).map Prod.snd ++ [r] by rw [List.take_add_one, hst]; simp)
      have k0 : (0 : Int) ≤ (k : Int) := by omega
      have k1 : (k : Int) < (N : Int) := by omega
      have HLN := Lib.hid (show ((l.take k).map Prod.snd).length ≤ 8700000000000 by rw [List.length_map]; have := List.length_take_le k l; omega)
      have hzr := HB.out.size
      have e1 : IntKind.i64.wrap ((k : Int) + 1) = ((k + 1 : Nat) : Int) := by rw [IntWalk.i64_in _ (by omega)]; push_cast; rfl
      clear c0 hst
      obtain ⟨q7, cq7, e7, -⟩ := HO.out.at
      subst e7
      go_wp2_with (at_builtin; refine wpList_append_nr rfl _ _ rfl w.heap.size _ _ rfl (HO.out.below ((Below.refl _ _).alloc (Nat.le_refl _) _)) wr.heap.size r rfl ((Blk.new rfl).cell 0) HLN.out (by simp; omega) ?_; intro v' w1 ho hg; have HO4 := Lib.hid ho; have HG4 := Lib.hid hg; clear ho hg)
      have HB4 := Lib.hid (Below.grown (w := wr.alloc (.cells #[.int .i64 r] 3)) (HB.out.alloc hzr _) HG4.out (by simp; omega) (fun j hj => (HO.out.lt j hj).1))
      go_wp2_with fail
      go_roundw
      case rel => exact ⟨k + 1, by omega, rfl, by rw [HTK.out]; exact HO4, HB4⟩
      case measure => simp [intOf]; omega
    · have hc : decide (k < N) = false := by simpa using hlt
      have HE := Lib.hid (show (l.take k).map Prod.snd = l.map Prod.snd by rw [List.take_of_length_le (by have := HN.out; omega)])
      clear hlt
      obtain ⟨q7, cq7, e7, -⟩ := HO.out.at
      subst e7
      go_wp2_with fail
      go_ret
      exact ⟨_, rfl, by rw [← HE.out]; exact HO.out, HB.out⟩
end Go.Proofs.YtjjfpbjdcmkkhaaDoor

namespace Go.Proofs.YtjjfpbjdcmkkhaaDoor
open Go Go.RowKit Go.Shelf
def mnI (a : Int) (l : List Int) : Int := l.foldl (fun m z => min m z) a
def mxI (a : Int) (l : List Int) : Int := l.foldl (fun m z => max m z) a
theorem mnI_snoc (a : Int) (l : List Int) (z : Int) : mnI a (l ++ [z]) = min (mnI a l) z := by simp [mnI, List.foldl_append]
theorem mxI_snoc (a : Int) (l : List Int) (z : Int) : mxI a (l ++ [z]) = max (mxI a l) z := by simp [mxI, List.foldl_append]
attribute [local go_sem] Oper.semAt_some frozen_alloc_lt
set_option maxHeartbeats 4000000 in
theorem ends_r (l : List Int) (p : Option Addr) (c : Nat) (a : Int) (w : World) (hl : IntsAt w p l) (hn : l.length ≤ 8000000000000) (ha : l[0]? = some a) :
    Calls Tryd.prog 65 #[.slice p l.length c] w fun e w' => e = .returned (.agg #[.int .i64 (mnI a l), .int .i64 (mxI a l)]) ∧ Below w.heap.size w w' := by
  have HL := Lib.hid hl
  have HA := Lib.hid ha
  obtain ⟨bl, ol, hp, hbl, c0⟩ := hl 0 a ha
  subst hp
  simp only [Nat.add_zero] at c0
  have hlen : 0 < l.length := (List.getElem?_eq_some_iff.1 ha).1
  have hl0 : (0 : Int) < (l.length : Int) := by omega
  clear hl ha hlen
  go_enter Tryd.func65, Tryd.ntmps65
  go_upto_region 2 with (go_at_call 39; refine (Just_any _ _).mono ?_; rintro e w1 ⟨rfl, y, rfl⟩)
  have k2 := (Blk.new (w := w) (t := 23) (cs := #[.int .i64 0, .int .i64 0]) rfl).ext y
  have hB1 : Below w.heap.size w (ext (w.alloc (.cells #[.int .i64 0, .int .i64 0] 23)) y) := by (repeat (first | (with_reducible exact Below.refl _ _) | (with_reducible assumption) | ((with_reducible refine below_ext_trans ?_ ?_ _); rotate_left; focus (((try dsimp only); repeat (first | omega | simp only [World.size_alloc, World.size_setCell, World.size_drew] | (with_reducible refine le_ext_of ?_) | (with_reducible refine le_ext_add ?_))); done)) | ((with_reducible refine Below.alloc ?_ ?_ _); rotate_left; focus (((try dsimp only); repeat (first | omega | simp only [World.size_alloc, World.size_setCell, World.size_drew] | (with_reducible refine le_ext_of ?_) | (with_reducible refine le_ext_add ?_))); done)) | ((with_reducible refine Below.setCell ?_ ?_ _); rotate_left; focus (((try dsimp only); repeat (first | omega | simp only [World.size_alloc, World.size_setCell, World.size_drew] | (with_reducible refine le_ext_of ?_) | (with_reducible refine le_ext_add ?_))); done)) | (with_reducible refine Below.drew ?_)))
  have k2l := k2.lt
  generalize ext _ y = V at *
  have hB2 : Below w.heap.size w (V.alloc (.cells #[.int .i64 a, .int .i64 a] 23)) := hB1.alloc hB1.size _
  have k2' := k2.alloc (.cells #[.int .i64 a, .int .i64 a] 23)
  have k3 : Blk (V.alloc (.cells #[.int .i64 a, .int .i64 a] 23)) V.heap.size 23 #[.int .i64 a, .int .i64 a] := Blk.new rfl
  obtain ⟨g3, hg3⟩ : ∃ g3, V.heap.size = g3 := ⟨_, rfl⟩
  rw [hg3] at k3 k2l ⊢
  generalize V.alloc _ = W at *
  have HB := Lib.hid hB2
  have K2 := Lib.hid k2'
  have K3 := Lib.hid k3
  generalize hN : l.length = N at *
  have HN := Lib.hid hN
  clear hN hB1 hB2 k2 k2' k3 hg3 c0 hl0
  go_wp2_with fail
  go_loopw [4] (fun i wr => ∃ k : Nat, k ≤ N ∧ i = .int .i64 k ∧ Hid (Blk wr g3 23 #[.int .i64 (mnI a (l.take k)), .int .i64 (mxI a (l.take k))]) ∧ Hid (Blk wr w.heap.size 23 #[.int .i64 0, .int .i64 0]) ∧ Hid (Below w.heap.size w wr)) (fun i _ => N - (intOf i).toNat)
  case atStart => exact ⟨0, by omega, rfl, K3, K2, HB⟩
  case round =>
    clear K2 K3 HB
    obtain ⟨k, hk, rfl, K3, K2, HB⟩ := hrel
    have d0 := K3.out.cell 0
    have d1 := K3.out.cell 1
    simp only [List.size_toArray, List.length_cons, List.length_nil, Nat.reduceAdd, Nat.reduceLT, getElem?_pos, List.getElem_toArray, List.getElem_cons_zero, List.getElem_cons_succ] at d0 d1
    have l3 := K3.out.lt
    by_cases hlt : k < N
    · obtain ⟨x, hx⟩ := get_some l k (by have := HN.out; omega)
      obtain ⟨b', o', hp, hbx, cx⟩ := (HL.out.below HB.out) k x hx
      cases hp
      have HTK := Lib.hid (show l.take (k + 1) = l.take k ++ [x] by rw [List.take_add_one, hx]; rfl)
      have k0 : (0 : Int) ≤ (k : Int) := by omega
      have k1 : (k : Int) < (N : Int) := by omega
      have e1 : IntKind.i64.wrap ((k : Int) + 1) = ((k + 1 : Nat) : Int) := by rw [IntWalk.i64_in _ (by omega)]; push_cast; rfl
      clear hx
      generalize hmn : mnI a (l.take k) = mn at *
      generalize hmx : mxI a (l.take k) = mx at *
      have HMN := Lib.hid hmn
      have HMX := Lib.hid hmx
      clear hmn hmx
      go_upto_region 5 with fail
      refine wp_region_ext_tail 15 (by kernel_rfl) (by kernel_rfl) ?_
      simp only [List.take_succ_cons, List.take_zero, List.drop_succ_cons, List.drop_zero]
      repeat (go_big_quiet_step (fail))
      go_big_quiet_step ((go_at_call 48; exact quiet_ext (To_any _ _ _)))
      repeat (go_big_quiet_step (fail))
      refine wpQuiet_nil ?_
      rintro W3 ⟨x3, hW3⟩
      have hB3 : Below wr.heap.size wr W3 := by rw [hW3]; exact below_ext _ _
      have K3' := Lib.hid (K3.out.bel hB3)
      have K2' := Lib.hid (K2.out.bel hB3)
      have HB' := Lib.hid (HB.out.trans (hB3.mono HB.out.size))
      have f0 := K3'.out.frozen 0
      have f1 := K3'.out.frozen 1
      have l3' := K3'.out.lt
      have c0 := K3'.out.cell 0
      have c1 := K3'.out.cell 1
      simp only [List.size_toArray, List.length_cons, List.length_nil, Nat.reduceAdd, Nat.reduceLT, getElem?_pos, List.getElem_toArray, List.getElem_cons_zero, List.getElem_cons_succ] at c0 c1
      clear hW3 hB3 d0 d1 l3 cx hbx
      have HM1 := Lib.hid (show (if x < mn then x else mn) = min mn x by split <;> omega)
      have HM2 := Lib.hid (show (if mx < x then x else mx) = max mx x by split <;> omega)
      go_wp2_with fail
      go_roundw
      case rel => exact ⟨k + 1, by omega, rfl, Lib.hid (by rw [HTK.out, mnI_snoc, mxI_snoc, HMN.out, HMX.out, HM1.out, HM2.out]; simpa using (K3'.out.set 0 (.int .i64 (min mn x))).set 1 (.int .i64 (max mx x))), Lib.hid ((K2'.out.setOther (by omega) _ _).setOther (by omega) _ _), Lib.hid ((HB'.out.setCell (by show w.heap.size ≤ g3; omega) _).setCell (by show w.heap.size ≤ g3; omega) _)⟩
      case measure => simp [intOf]; omega
    · have hc : decide (k < N) = false := by simpa using hlt
      have hc2 : decide ((k : Int) < (N : Int)) = false := by simp; omega
      have f0 := K2.out.frozen 0
      have f1 := K2.out.frozen 1
      have l2 := K2.out.lt
      have c0 := K2.out.cell 0
      have c1 := K2.out.cell 1
      simp only [List.size_toArray, List.length_cons, List.length_nil, Nat.reduceAdd, Nat.reduceLT, getElem?_pos, List.getElem_toArray, List.getElem_cons_zero, List.getElem_cons_succ] at c0 c1
      have HE := Lib.hid (show l.take k = l from List.take_of_length_le (by have := HN.out; omega))
      clear hlt
      go_wp2_with fail
      have hF := (K2.out.set 0 (.int .i64 (mnI a (l.take k)))).set 1 (.int .i64 (mxI a (l.take k)))
      have t0 := Blk.cell hF 0
      have t1 := Blk.cell hF 1
      refine bodyPost_ret (v := .agg #[.int .i64 (mnI a (l.take k)), .int .i64 (mxI a (l.take k))]) ?_ ?_ ?_
      · simp [results, Tryd.results65, go_sem, c0, c1, l2]
      · rfl
      · exact ⟨by rw [HE.out], (HB.out.setCell (by simp) _).setCell (by simp) _⟩
end Go.Proofs.YtjjfpbjdcmkkhaaDoor

