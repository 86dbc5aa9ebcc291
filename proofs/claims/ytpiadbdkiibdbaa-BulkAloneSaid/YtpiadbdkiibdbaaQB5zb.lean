/- Contracts of package bulk: the fewest counts without which all lots can be true, once it is known what measures hold. Written by gen_b5zb.py. -/
import Derived.Test.YtpiadbdkiibdbaaQB5za
set_option linter.unusedSimpArgs false
set_option linter.unusedVariables false
namespace Go.Proofs.Ytpiadbdkiibdbaa
open Go Go.RowKit Go.Shelf
theorem list_of_own {w : World} {B : Nat} {v : Value} {l : List Int} (h : w.ownsRow B 3 1 v l.length (encZ l)) : ListAt w.heap.size w v l := by
  obtain ⟨h1, h2⟩ := id h
  rcases h2 with ⟨h2, h3⟩ | ⟨g, cap, cur, rfl, hg, hh, hn, hm, hs, ht⟩
  · obtain rfl := List.eq_nil_of_length_eq_zero h3
    subst h2
    exact ListAt.nil (Nat.le_refl _)
  · have hlt := (Array.getElem?_eq_some_iff.1 hh).1
    refine ⟨_, cap, rfl, fun i x hx => ⟨g, 0, rfl, hlt, ?_⟩, hn, fun a ha => ?_, fun e => (by cases e), Nat.le_refl _⟩
    · have hi := (List.getElem?_eq_some_iff.1 hx).1
      rw [Nat.zero_add, h.cellAt i (by simpa using hi)]
      simp [encZ, hx]
    · cases ha; exact ⟨⟨g, 0, rfl⟩, hlt⟩

/-- The numbers of the counts of one lot that must be left out. -/
def fcO (b : Ck) (m : Ms) (i : Nat) : List Int :=
  match b.ls[i]? with
  | some t => (fkL b m t).map fun x => (i : Int) * 3 + x
  | none => []
/-- .. of the first lots, of all. -/
def fcN (b : Ck) (m : Ms) (k : Nat) : List Int := (List.range k).flatMap (fcO b m)
def fcL (b : Ck) (m : Ms) : List Int := fcN b m b.ls.length
theorem fcN_succ (b : Ck) (m : Ms) (k : Nat) : fcN b m (k + 1) = fcN b m k ++ fcO b m k := by
  unfold fcN
  rw [List.range_succ, List.flatMap_append, List.flatMap_cons, List.flatMap_nil, List.append_nil]
theorem fkL_bd (b : Ck) (m : Ms) (t : Lt) : (fkL b m t).length ≤ 2 ∧ ∀ x ∈ fkL b m t, 0 ≤ x ∧ x ≤ 2 := by
  unfold fkL
  repeat' split
  all_goals simp
theorem fcN_len (b : Ck) (m : Ms) : ∀ k, (fcN b m k).length ≤ 2 * k
  | 0 => by simp [fcN]
  | k + 1 => by
    have h := fcN_len b m k
    rw [fcN_succ, List.length_append]
    have : (fcO b m k).length ≤ 2 := by
      unfold fcO
      split
      · rw [List.length_map]; exact (fkL_bd _ _ _).1
      · simp
    omega
theorem ownBlock_len (p : Option Addr) (n m c d : Nat) : (Value.slice p n c).ownBlock = (Value.slice p m d).ownBlock := by cases p <;> rfl
attribute [local go_sem] Oper.semAt_some frozen_alloc_lt
set_option maxRecDepth 100000 in
set_option maxHeartbeats 8000000 in
theorem falseCounts_any (b : Ck) (p : Option Addr) (c : Nat) (m : Ms) (w : World) (hm : MsOK m) (hb : BkOK b) (hcb : CB w b p) :
    Calls Try.prog 102 #[stV b p c m] w fun e w' => ∃ v, e = .returned v ∧ ListAt w'.heap.size w' v (fcL b m) ∧ (∀ a n k, v = .slice (some a) n k → w.heap.size ≤ a.block) ∧ ∃ x, w' = ext w x := by
  have HM := Lib.hid hm
  have HBO := Lib.hid hb
  have HCW := Lib.hid hcb
  obtain ⟨n, hn⟩ : ∃ n, b.ls.length = n := ⟨_, rfl⟩
  have hn4 : n ≤ 4 := by rw [← hn]; exact hb.n
  have HN := Lib.hid hn
  obtain ⟨sv, hsv⟩ : ∃ v, stV b p c m = v := ⟨_, rfl⟩
  have HK := Lib.hid (show ∀ (t : Lt) (w : World), LtOK b t → Calls Try.prog 120 #[.agg #[.int .i64 b.l0, .int .i64 b.u0, .int .i64 b.l1, .int .i64 b.u1, .int .i64 b.l2, .int .i64 b.u2, .int .i64 b.e0, .int .i64 b.e1, .int .i64 b.e2, .slice p n c, .int .i64 m.a, .int .i64 m.b, .int .i64 m.c], ltV t] w fun e w' => ∃ v, e = .returned v ∧ ListAt w'.heap.size w' v (fkL b m t) ∧ (∀ a n k, v = .slice (some a) n k → w.heap.size ≤ a.block) ∧ ∃ x, w' = ext w x from fun t w ht => by rw [← hn]; exact falseKinds_any b p c m t w HM.out ht)
  clear hm hb hcb hsv
  unfold stV
  rw [hn]
  clear hn
  go_enter Try.func102, Try.ntmps102
  go_upto_region 1 with fail
  generalize hV : World.alloc _ _ = V
  have hBV : Below w.heap.size w V := by rw [← hV]; (exact belA)
  have kc : Blk V w.heap.size 113 #[.int .i64 b.l0, .int .i64 b.u0, .int .i64 b.l1, .int .i64 b.u1, .int .i64 b.l2, .int .i64 b.u2, .int .i64 b.e0, .int .i64 b.e1, .int .i64 b.e2, .slice p n c, .int .i64 m.a, .int .i64 m.b, .int .i64 m.c] := by rw [← hV]; exact Blk.new rfl
  have HBV := Lib.hid hBV
  have KC := Lib.hid kc
  have lc := kc.lt
  have hzV := hBV.size
  have c9 := Blk.cell kc 9
  simp only [List.size_toArray, List.length_cons, List.length_nil, Nat.reduceAdd, Nat.reduceLT, getElem?_pos, List.getElem_toArray, List.getElem_cons_zero, List.getElem_cons_succ] at c9
  clear hV hBV kc
  go_wp2_with fail
  clear c9
  go_loopw [3, 13] (fun u3 i wr => ∃ (k n1 d : Nat) (r : Option Addr), k ≤ n ∧ i = .int .i64 k ∧ u3 = .slice r n1 d ∧ Hid (Below V.heap.size V wr) ∧ Hid (OwnInts wr V.heap.size (.slice r n1 d) (fcN b m k))) (fun _ i _ => n - (intOf i).toNat)
  case atStart => exact ⟨0, 0, 0, none, by omega, rfl, rfl, Lib.hid (Below.refl _ _), Lib.hid (OwnInts.nil _ _)⟩
  case round =>
    obtain ⟨WO, rfl⟩ : ∃ WO : World, WO = wr := ⟨_, rfl⟩
    obtain ⟨k, n1, d, r, hk, rfl, rfl, HB, HO⟩ := hrel
    by_cases hlt : k < n
    · obtain ⟨s, hs⟩ := get_some b.ls k (by rw [HN.out]; exact hlt)
      obtain ⟨b1, oo, rfl, hb1, t0, t1, t2, t3, t4⟩ := lots_cells ((HCW.out.bel (HBV.out.trans (HB.out.mono hzV))).ls) hs
      have HS := Lib.hid hs
      have k0 : (0 : Int) ≤ (k : Int) := by omega
      have k1 : (k : Int) < (n : Int) := by omega
      have hzB := HB.out.size
      have kg := KC.out.bel HB.out
      obtain ⟨e0, e1, e2, e3, e4, e5, e6, e7, e8, e9, e10, e11, e12⟩ := Blk.c13 kg
      have lg := kg.lt
      have HLt := Lib.hid (HBO.out.ok s (List.mem_of_getElem? hs))
      have HFO := Lib.hid (show fcO b m k = (fkL b m s).map fun x => (k : Int) * 3 + x by unfold fcO; rw [hs])
      have HWk := Lib.hid (wrap_num k (by omega))
      clear hs kg
      go_wp2_with (go_at_call 120; refine (HK.out s _ HLt.out).mono ?_; rintro e w2 ⟨v, rfl, hv, hnew, z, hw⟩; have HB2 := Lib.hid (show Below WO.heap.size WO w2 by rw [hw]; (exact belA)); obtain ⟨q, d2, rfl, hI, -, hlq, -⟩ := id hv; have HNQ := Lib.hid (show ∀ a, q = some a → WO.heap.size ≤ a.block ∧ a.block < w2.heap.size from fun a e => ⟨by have h := hnew a _ _ (by rw [e]); simp at h; omega, (hlq a e).2⟩); clear hnew hlq; have HI := Lib.hid hI; clear hw hv hI)
      clear e0 e1 e2 e3 e4 e5 e6 e7 e8 e9 e10 e11 e12 t0 t1 t2 t3 t4 lg k0 k1
      obtain ⟨kn, hkn⟩ : ∃ x, (fkL b m s).length = x := ⟨_, rfl⟩
      have HKN := Lib.hid hkn
      have hkn2 : kn ≤ 2 := by rw [← hkn]; exact (fkL_bd b m s).1
      rw [hkn]
      clear hkn
      have hz2 := HB2.out.size
      have HO2 := Lib.hid (HO.out.below HB2.out)
      go_loopw [3, 22] (fun u3 i wx => ∃ (j n2 d3 : Nat) (r3 : Option Addr), j ≤ kn ∧ i = .int .i64 j ∧ u3 = .slice r3 n2 d3 ∧ Hid (Below V.heap.size V wx) ∧ Hid (IntsAt wx q (fkL b m s)) ∧ w2.heap.size ≤ wx.heap.size ∧ Hid (∀ g, (Value.slice r3 n2 d3).ownBlock = some g → g < WO.heap.size ∨ w2.heap.size ≤ g) ∧ Hid (OwnInts wx V.heap.size (.slice r3 n2 d3) (fcN b m k ++ ((fkL b m s).take j).map fun x => (k : Int) * 3 + x))) (fun _ i _ => kn - (intOf i).toNat)
      case atStart => exact ⟨0, n1, d, r, by omega, rfl, rfl, Lib.hid (HB.out.trans (HB2.out.mono hzB)), HI, Nat.le_refl _, Lib.hid (fun g e => .inl (HO.out.lt g e).2), by simpa using HO2⟩
      case round =>
        obtain ⟨j, n2, d3, r3, hj, rfl, rfl, HBx, HIx, hzx2, HGx, HOx⟩ := hrel
        have hzx := HBx.out.size
        by_cases hjt : j < kn
        · obtain ⟨x, hx⟩ := get_some (fkL b m s) j (by rw [HKN.out]; exact hjt)
          obtain ⟨b2, o2, rfl, hb2, hc2⟩ := HIx.out j x hx
          have hxb := (fkL_bd b m s).2 x (List.mem_of_getElem? hx)
          have HX := Lib.hid hx
          have j0 : (0 : Int) ≤ (j : Int) := by omega
          have j1 : (j : Int) < (kn : Int) := by omega
          have e1 : wrap64 ((k : Int) * 3) = (k : Int) * 3 := by unfold wrap64; omega
          have e2 : wrap64 ((k : Int) * 3 + x) = (k : Int) * 3 + x := by unfold wrap64; omega
          have HWj := Lib.hid (wrap_num j (by omega))
          clear hx
          go_wp2_with (at_builtin; refine wpList_of_wpOp (i := 6) rfl ?_; refine st_app_int rfl rfl _ _ rfl V.heap.size _ _ rfl (HOx.out.below ((Below.refl _ _).alloc (Nat.le_refl _) _)) wr.heap.size ((k : Int) * 3 + x) rfl (Blk.new rfl) (by have := fcN_len b m k; have := HKN.out; simp; omega) (by simp; omega) ?_; intro v' w3 ho hg hfr; have HFR := Lib.hid hfr; clear hfr; obtain ⟨q3, c3, rfl, -⟩ := ho.at; have HO3 := Lib.hid ho; have HG3 := Lib.hid hg; clear ho hg)
          have hown := fun g e => HOx.out.lt g e
          have HB3 := Lib.hid (show Below V.heap.size V w3 from Below.grown (w := wr.alloc _) (HBx.out.alloc hzx _) HG3.out (by simp; omega) (fun g e => (hown g e).1))
          go_roundw
          case rel => exact ⟨j + 1, _, c3, q3, by omega, by first | go_num | (rw [HWj.out]), rfl, HB3, Lib.hid (fun i z hz => by
              obtain ⟨b', o', e', hb', hc'⟩ := HIx.out i z hz
              have hq := HNQ.out _ e'
              dsimp only at hq
              have hh : w3.heap[b']? = wr.heap[b']? := (HG3.out.block b' (by simp; omega) (fun e => by rcases HGx.out b' e.symm with h | h <;> omega)).trans (heap_alloc_old wr _ hb')
              refine ⟨b', o', e', ?_, ?_⟩
              · have := HG3.out.size; simp at this; omega
              · rw [World.cell?_of_block (a := ⟨b', o' + i, none⟩) hh]; exact hc'), (by have := HG3.out.size; simp at this; omega), Lib.hid (fun g e => by
              rcases HFR.out g ((ownBlock_len _ _ _ _ _).trans e) with h | h
              · exact HGx.out g h
              · simp at h; exact .inr (by omega)), Lib.hid (by
              have h := HO3.out
              rw [List.append_assoc] at h
              rw [List.take_add_one, HX.out]
              simpa using h)⟩
          case measure => simp [intOf]; omega
        · obtain rfl : j = kn := by omega
          go_wp2_with fail
          go_roundw
          case rel => exact ⟨k + 1, n2, d3, r3, by omega, by first | go_num | (rw [HWk.out]), rfl, HBx, Lib.hid (by
              have h := HOx.out
              rw [List.take_of_length_le (by rw [HKN.out]; exact Nat.le_refl _), ← HFO.out, ← fcN_succ] at h
              exact h)⟩
          case measure => simp [intOf]; omega
    · obtain rfl : k = n := by omega
      go_wp2_with fail
      go_ret
      refine ⟨_, rfl, ?_, (fun a n k e => by cases e; have := (HO.out.lt a.block rfl).1; omega), ext_of (HBV.out.trans (HB.out.mono hzV))⟩
      unfold fcL
      rw [HN.out]
      exact list_of_own HO.out
end Go.Proofs.Ytpiadbdkiibdbaa

