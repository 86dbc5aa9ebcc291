/- Contract of the reference's hangs. -/
import Derived.Test.YteocjggepjpecaaGreatDoorQGd
set_option linter.unusedSimpArgs false
set_option linter.unusedVariables false
namespace Go.Proofs.YteocjggepjpecaaGreatDoor
open Go Go.RowKit

theorem IntsAt.put {w : World} {g k : Nat} {v : List Int} (h : IntsAt w (some ⟨g, 0, none⟩) v) (x : Int) (hk : k < v.length) (hf : w.frozen? ⟨g, k, none⟩ = false) : IntsAt (w.setCell ⟨g, k, none⟩ (.int .i64 x)) (some ⟨g, 0, none⟩) (v.set k x) := fun i y hy => by
  have hi := (List.getElem?_eq_some_iff.1 hy).1
  rw [List.length_set] at hi
  obtain ⟨z, hz⟩ := get_some v i hi
  obtain ⟨b, o, e, hb, hc⟩ := h i z hz
  cases e
  refine ⟨g, 0, rfl, by simpa using hb, ?_⟩
  rw [Nat.zero_add] at hc ⊢
  by_cases e : i = k
  · subst e
    rw [List.getElem?_set_self hk] at hy
    cases hy
    simp [go_sem, hc]
  · rw [List.getElem?_set_ne (Ne.symm e)] at hy
    rw [hz] at hy
    cases hy
    simp [go_sem, hc, e]
theorem wpList_append_ints {ops : Array Oper} {rest : List Oper} {o : Oper} {a : Act} {Q : Exit → Act → World → Prop} {w : World} (hgd : o.guard = none) (s x : Operand)
    (ho : o.op = .call { callee := .builtin .append, args := #[s, x], argTypes := #[34, 34] }) (B : Nat)
    (v : Value) (l L : List Int) (hs : a.eval s = v) (hown : OwnInts w B v l) (g m c : Nat) (hm : L.length = m) (hx : a.eval x = .slice (some ⟨g, 0, none⟩) m c) (hc : IntsAt w (some ⟨g, 0, none⟩) L)
    (hl : l.length + m ≤ 100000) (hB : B ≤ w.heap.size)
    (h : ∀ v' w', OwnInts w' B v' (l ++ L) → w.grownBy w' v.ownBlock → wpList Tryz.prog ops Q rest (a.put o.dst v') w') : wpList Tryz.prog ops Q (o :: rest) a w := by
  obtain ⟨i0, hi, hz0, hz1, hz2⟩ := info_parts info_int
  subst hm
  refine wpList_append_own w hgd s x 34 ho B 3 i0 (.int .i64 0) 1 8 under_ints hi hz0 hz1 hz2 rfl (by decide) v l.length _ hs hown ⟨g, 0, none⟩ L.length c (L.map (Value.int .i64)) hx (by simp) hc.cells (ints_oneCell _ _) ?_ ?_ hB ?_
  · unfold maxLen; omega
  · omega
  · intro v' w' h1 h2 _
    refine h v' w' ?_ h2
    unfold OwnInts
    simpa using h1
attribute [local go_sem] Oper.semAt_some frozen_alloc_lt
/-- Whether a shot is fair alike at a minute, whichever of two minutes the bound has. -/
def diffB (b : Bk) (st k : Nat) (co : Int) (v : List Int) (n m : Int) : Bool := (ownf b.os st (cnt v m) == co) != (ownf b.os st (cnt (v.set k n) m) == co)
theorem any_no {α : Type} {f : α → Bool} {l : List α} {x : α} (h : l.any f = false) (hx : f x = false) : (l ++ [x]).any f = false := by simp only [List.any_append, h, List.any_cons, hx, List.any_nil, Bool.or_false]
theorem any_yes {α : Type} {f : α → Bool} {l m : List α} {x : α} (hp : l ++ [x] <+: m) (hx : f x = true) : m.any f = true := by
  obtain ⟨z, rfl⟩ := hp
  simp [List.any_append, hx]
theorem wrap_mid {l nn : Int} {j : Nat} (h : l + (j : Int) = nn) (h0 : 0 ≤ l) (h1 : nn ≤ 2000) : wrap64 (nn + 1) = l + ((j + 1 : Nat) : Int) := by unfold wrap64; omega
theorem less_mid {l h0 : Int} {j : Nat} (h1 : l + (j : Int) ≤ h0) : (h0 + 1 - intOf (Value.int .i64 (l + ((j + 1 : Nat) : Int)))).toNat < (h0 + 1 - intOf (Value.int .i64 (l + (j : Int)))).toNat := by
  simp only [intOf]; omega
set_option maxRecDepth 100000 in
set_option maxHeartbeats 2000000 in
theorem rhangs_any (h : Hd) (b : Bk) (hv : bookB b = true) (st k : Nat) (co lo hi : Int) (w : World) (hb : BkAt w h b) (hso : st < b.os.length) (hm : Mom lo hi) (hk : k < b.bs.length) :
    Calls Tryz.prog 56 #[.agg #[.int .i64 b.n, .slice h.pb b.bs.length h.cb, .slice h.po b.os.length h.co, .slice h.ps b.ss.length h.cs], .agg #[.int .i64 st, .int .i64 co, .int .i64 lo, .int .i64 hi], .int .i64 k] w
      fun e w' => e = .returned (.bool ((allT b).any (hangT b st k ⟨st, co, lo, hi⟩))) ∧ ∃ x, w' = ext w x := by
  obtain ⟨m0, m1, m2, m3, m4, m5⟩ := hm
  have hlen := goOn_len hv 0 []
  rw [goOn_all] at hlen
  obtain ⟨⟨l0, h0⟩, hsk⟩ := get_some b.bs k hk
  obtain ⟨-, -, hch⟩ := bookB_bounds hv
  have hmk := chain_mom hch _ (List.mem_of_getElem? hsk)
  unfold Mom at hmk
  dsimp only at hmk
  obtain ⟨q0, q1, q2, q3, q4, q5⟩ := hmk
  have HLEN := Lib.hid hlen
  have HBK := Lib.hid hb
  have HSK := Lib.hid hsk
  have hT : ∀ v, hangT b st k ⟨st, co, lo, hi⟩ v = (mins l0 h0).any fun n => (mins lo hi).any (diffB b st k co v n) := fun v => by
    unfold hangT
    rw [hsk]
    rfl
  have HT := Lib.hid hT
  have k0 : (0 : Int) ≤ (k : Int) := by omega
  have k1 : (k : Int) < (b.bs.length : Int) := by omega
  clear hb hlen hch hT
  obtain ⟨pb, cb, po, co', ps, cs⟩ := h
  dsimp only
  obtain ⟨b0, o0, hpb, hb0, c1, c2⟩ := HBK.out.bs _ _ hsk
  dsimp only at hpb c1 c2
  subst hpb
  clear hsk
  go_enter Tryz.func56, Tryz.ntmps56
  go_upto_region 2 with (go_at_call 33; refine (truths_r ⟨some ⟨b0, o0, none⟩, cb, po, co', ps, cs⟩ b hv b.bs.length 0 [] (w.heap.size + 1 + 1) 0 _ rfl (by omega) (HBK.out.bs.below (by (repeat (first | (with_reducible exact Below.refl _ _) | (with_reducible assumption) | ((with_reducible refine below_ext_trans ?_ ?_ _); rotate_left; focus (((try dsimp only); repeat (first | omega | simp only [World.size_alloc, World.size_setCell, World.size_drew] | (with_reducible refine le_ext_of ?_) | (with_reducible refine le_ext_add ?_))); done)) | ((with_reducible refine Below.alloc ?_ ?_ _); rotate_left; focus (((try dsimp only); repeat (first | omega | simp only [World.size_alloc, World.size_setCell, World.size_drew] | (with_reducible refine le_ext_of ?_) | (with_reducible refine le_ext_add ?_))); done)) | ((with_reducible refine Below.setCell ?_ ?_ _); rotate_left; focus (((try dsimp only); repeat (first | omega | simp only [World.size_alloc, World.size_setCell, World.size_drew] | (with_reducible refine le_ext_of ?_) | (with_reducible refine le_ext_add ?_))); done)) | (with_reducible refine Below.drew ?_))))) (fun i x hx => by simp at hx) ⟨#[], Blk.new (by simp)⟩).mono ?_; rintro e w1 ⟨gL, cL, rfl, hL, y, rfl⟩)
  generalize hW : ext _ y = W at *
  have hB : Below w.heap.size w W := by rw [← hW]; (repeat (first | (with_reducible exact Below.refl _ _) | (with_reducible assumption) | ((with_reducible refine below_ext_trans ?_ ?_ _); rotate_left; focus (((try dsimp only); repeat (first | omega | simp only [World.size_alloc, World.size_setCell, World.size_drew] | (with_reducible refine le_ext_of ?_) | (with_reducible refine le_ext_add ?_))); done)) | ((with_reducible refine Below.alloc ?_ ?_ _); rotate_left; focus (((try dsimp only); repeat (first | omega | simp only [World.size_alloc, World.size_setCell, World.size_drew] | (with_reducible refine le_ext_of ?_) | (with_reducible refine le_ext_add ?_))); done)) | ((with_reducible refine Below.setCell ?_ ?_ _); rotate_left; focus (((try dsimp only); repeat (first | omega | simp only [World.size_alloc, World.size_setCell, World.size_drew] | (with_reducible refine le_ext_of ?_) | (with_reducible refine le_ext_add ?_))); done)) | (with_reducible refine Below.drew ?_)))
  have kb : Blk W w.heap.size 26 #[.int .i64 b.n, .slice (some ⟨b0, o0, none⟩) b.bs.length cb, .slice po b.os.length co', .slice ps b.ss.length cs] := by rw [← hW]; exact (((Blk.new rfl).alloc _).alloc _).ext y
  have ks : Blk W (w.heap.size + 1) 73 #[.int .i64 st, .int .i64 co, .int .i64 lo, .int .i64 hi] := by rw [← hW]; exact ((Blk.new (by simp)).alloc _).ext y
  rw [goOn_all] at hL ⊢
  have HB := Lib.hid hB
  have HKB := Lib.hid kb
  have HKS := Lib.hid ks
  have HL := Lib.hid hL
  have HBW := Lib.hid (HBK.out.below hB)
  have HC1 := Lib.hid ((hB.cell (p := ⟨b0, o0 + k * 2, none⟩) hb0).trans c1)
  have HC2 := Lib.hid ((hB.cell (p := ⟨b0, o0 + k * 2 + 1, none⟩) hb0).trans c2)
  have HB0 := Lib.hid (Nat.lt_of_lt_of_le hb0 hB.size)
  clear hW hB kb ks hL c1 c2 hb0
  generalize hN : (allT b).length = N at *
  have HN := Lib.hid hN
  clear hN
  go_upto_region 3 with fail
  go_loopw [8] (fun i wr => ∃ r : Nat, r ≤ N ∧ i = .int .i64 r ∧ Hid (((allT b).take r).any (hangT b st k ⟨st, co, lo, hi⟩) = false) ∧ Hid (Below W.heap.size W wr)) (fun i _ => N - (intOf i).toNat)
  case atStart => exact ⟨0, by omega, rfl, Lib.hid rfl, Lib.hid (Below.refl _ _)⟩
  case round =>
    obtain ⟨r, hr, rfl, HX, HBr⟩ := hrel
    by_cases hlt : r < N
    · obtain ⟨v, hv'⟩ := get_some (allT b) r (by have := HN.out; omega)
      have hvl := allT_len (List.mem_of_getElem? hv')
      have hL := HL.out.below HBr.out
      obtain ⟨hgl, q, c, hq, htq, hIq⟩ := hL.get hv'
      have HTK := Lib.hid (show (allT b).take (r + 1) = (allT b).take r ++ [v] by rw [List.take_add_one, hv']; rfl)
      have HPRE := Lib.hid (show (allT b).take r ++ [v] <+: allT b by rw [← HTK.out]; exact List.take_prefix _ _)
      have HQ := Lib.hid hIq
      have HVL := Lib.hid hvl
      have HTQ := Lib.hid htq
      clear hvl
      have HK2 := Lib.hid (HKB.out.bel HBr.out)
      have HS2 := Lib.hid (HKS.out.bel HBr.out)
      have hc1 := (HBr.out.cell (p := ⟨b0, o0 + k * 2, none⟩) HB0.out).trans HC1.out
      have hb01 := Nat.lt_of_lt_of_le HB0.out HBr.out.size
      have d1 := HK2.out.cell 1
      simp only [List.size_toArray, List.length_cons, List.length_nil, Nat.reduceAdd, Nat.reduceLT, getElem?_pos, List.getElem_toArray, List.getElem_cons_zero, List.getElem_cons_succ] at d1
      have hl1 : w.heap.size < wr.heap.size := HK2.out.lt
      have r0 : (0 : Int) ≤ (r : Int) := by omega
      have r1 : (r : Int) < (N : Int) := by omega
      have HR1 := Lib.hid (show r + 1 ≤ N from hlt)
      clear hv' hIq htq hL hr hlt
      generalize hvn : v.length = n at *
      have HVN := Lib.hid hvn
      clear hvn
      go_upto_region 6 with fail
      clear d1 hc1
      have HQ2 := Lib.hid hq
      clear hq
      generalize wr = w5 at *
      go_loopw [9] (fun i wt => ∃ j : Nat, (j : Int) ≤ h0 - l0 + 1 ∧ i = .int .i64 (l0 + j) ∧ Hid ((mupto l0 j).any (fun n => (mins lo hi).any (diffB b st k co v n)) = false) ∧ Hid (Below w5.heap.size w5 wt)) (fun i _ => (h0 + 1 - intOf i).toNat)
      case atStart => exact ⟨0, by omega, by simp, Lib.hid rfl, Lib.hid (Below.refl _ _)⟩
      case round =>
        obtain ⟨j, hj, rfl, HX', HBt⟩ := hrel
        have HK3 := Lib.hid (HK2.out.bel HBt.out)
        have HS3 := Lib.hid (HS2.out.bel HBt.out)
        have d1 := HK3.out.cell 1
        simp only [List.size_toArray, List.length_cons, List.length_nil, Nat.reduceAdd, Nat.reduceLT, getElem?_pos, List.getElem_toArray, List.getElem_cons_zero, List.getElem_cons_succ] at d1
        have e2 := HS3.out.cell 2
        simp only [List.size_toArray, List.length_cons, List.length_nil, Nat.reduceAdd, Nat.reduceLT, getElem?_pos, List.getElem_toArray, List.getElem_cons_zero, List.getElem_cons_succ] at e2
        have hl1' : w.heap.size < wr.heap.size := HK3.out.lt
        have hl2' : w.heap.size + 1 < wr.heap.size := HS3.out.lt
        have HBr5 := Lib.hid (HBr.out.trans (HBt.out.mono HBr.out.size))
        have hc2 := (HBr5.out.cell (p := ⟨b0, o0 + k * 2 + 1, none⟩) HB0.out).trans HC2.out
        have hb01' := Nat.lt_of_lt_of_le HB0.out HBr5.out.size
        have hgl' : gL < wr.heap.size := Nat.lt_of_lt_of_le hgl HBt.out.size
        have hq' := (HBt.out.cell (p := ⟨gL, r, none⟩) hgl).trans HQ2.out
        have HQ3 := Lib.hid (HQ.out.below HBt.out)
        by_cases hle : l0 + (j : Int) ≤ h0
        · have HN8 := Lib.hid (show ([] : List Int).length + n ≤ 100000 by have := HVL.out; have := (bookB_bounds hv).1; simp; omega)
          go_upto_region 9 with (at_builtin; refine wpList_append_ints rfl _ _ rfl wr.heap.size (.slice (some ⟨wr.heap.size, 0, none⟩) 0 0) [] v rfl (OwnInts.of_blk (n := 0) (Blk.new rfl) rfl rfl (by simp)) q n c HVN.out rfl (HQ3.out.below ((Below.refl _ _).alloc (Nat.le_refl _) _)) HN8.out (by simp) ?_; intro v' w' ho hg)
          have hB6 : Below wr.heap.size wr w' := Below.grown ((Below.refl _ _).alloc (Nat.le_refl _) _) hg (by simp) (fun jj hjj => by cases hjj; exact Nat.le_refl _)
          rw [List.nil_append] at ho
          obtain ⟨gm, cm, rfl, hgm, htm, him, hfm⟩ : ∃ gm cm : Nat, v' = .slice (some ⟨gm, 0, none⟩) n cm ∧ wr.heap.size ≤ gm ∧ Typed w' gm ∧ IntsAt w' (some ⟨gm, 0, none⟩) v ∧ ∀ jj, w'.frozen? ⟨gm, jj, none⟩ = false := by
            obtain ⟨p9, c9, e9, hp9, -⟩ := ho.at
            rcases ho.2 with ⟨h1, h2⟩ | ⟨g9, cap, cur, rfl, hg9, hh9, _⟩
            · have := HVL.out; have := HVN.out; omega
            · cases e9
              exact ⟨g9, _, by rw [HVN.out], hg9, ⟨cur, hh9⟩, hp9, fun jj => frozen_of_row _ _ _ _ _ hh9⟩
          have hkv : k < v.length := by have := HVL.out; have := HVN.out; omega
          have hkn : (k : Int) < (n : Int) := by have := HVL.out; omega
          have him2 := him.put (l0 + (j : Int)) hkv (hfm k)
          have hgl6 := htm.lt
          obtain ⟨z0, hz0⟩ := get_some v k hkv
          obtain ⟨bz, oz, ez, -, hcz⟩ := him k z0 hz0
          cases ez
          rw [Nat.zero_add] at hcz
          have hfk := hfm k
          have HIM := Lib.hid him2
          have HB6 := Lib.hid hB6
          have HZ6 := hB6.size
          have hl1'' : w.heap.size < w'.heap.size := by omega
          have hl2'' : w.heap.size + 1 < w'.heap.size := by omega
          have HSV := Lib.hid (show (v.set k (l0 + (j : Int))).length = n by rw [List.length_set]; exact HVN.out)
          clear him him2 htm hfm hg ho hB6 hz0 d1 e2 hc2 hq'
          have e2' := (HB6.out.cell (p := ⟨w.heap.size + 1, 2, none⟩) hl2').trans (HS3.out.cell 2)
          simp only [List.size_toArray, List.length_cons, List.length_nil, Nat.reduceAdd, Nat.reduceLT, getElem?_pos, List.getElem_toArray, List.getElem_cons_zero, List.getElem_cons_succ] at e2'
          have hgne : w.heap.size + 1 ≠ gm := by omega
          have hgne' : gm ≠ w.heap.size + 1 := by omega
          go_upto_region 11 with fail
          generalize hW6 : w'.setCell _ _ = W6 at *
          have hB7 : Below wr.heap.size wr W6 := by rw [← hW6]; exact HB6.out.setCell (by simpa using hgm) _
          have HB7 := Lib.hid hB7
          have HIM2 : Hid (IntsAt W6 (some ⟨gm, 0, none⟩) (v.set k (l0 + (j : Int)))) := Lib.hid (by first | exact HIM.out | (rw [← hW6]; exact HIM.out))
          have hz7 := hB7.size
          clear hW6 hB7 e2' hcz hfk HIM hgl6 HZ6
          have HDJ := Lib.hid (show mupto l0 (j + 1) = mupto l0 j ++ [l0 + (j : Int)] from (mupto_snoc l0 j).symm)
          have HDP := Lib.hid (show mupto l0 j ++ [l0 + (j : Int)] <+: mins l0 h0 by rw [mupto_snoc]; exact mupto_prefix l0 (j + 1) _ (by omega))
          generalize hnn : l0 + (j : Int) = nn at *
          have HNN := Lib.hid hnn
          clear hnn
          generalize wr = w7 at *
          go_loopw [11] (fun i wu => ∃ a : Nat, (a : Int) ≤ hi - lo + 1 ∧ i = .int .i64 (lo + a) ∧ Hid ((mupto lo a).any (diffB b st k co v nn) = false) ∧ Hid (Below W6.heap.size W6 wu)) (fun i _ => (hi + 1 - intOf i).toNat)
          case atStart => exact ⟨0, by omega, by simp, Lib.hid rfl, Lib.hid (Below.refl _ _)⟩
          case round =>
            obtain ⟨a, ha, rfl, HX3, HBu⟩ := hrel
            have HBc := Lib.hid (HB7.out.trans (HBu.out.mono HB7.out.size))
            have HK4 := Lib.hid (HK3.out.bel HBc.out)
            have HS4 := Lib.hid (HS3.out.bel HBc.out)
            have d0 := HK4.out.cell 0
            have d1 := HK4.out.cell 1
            have d2 := HK4.out.cell 2
            have d3 := HK4.out.cell 3
            have e0 := HS4.out.cell 0
            have e1 := HS4.out.cell 1
            have e2 := HS4.out.cell 2
            have e3 := HS4.out.cell 3
            simp only [List.size_toArray, List.length_cons, List.length_nil, Nat.reduceAdd, Nat.reduceLT, getElem?_pos, List.getElem_toArray, List.getElem_cons_zero, List.getElem_cons_succ] at d0 d1 d2 d3 e0 e1 e2 e3
            have hl1'' : w.heap.size < wr.heap.size := HK4.out.lt
            have hl2'' : w.heap.size + 1 < wr.heap.size := HS4.out.lt
            have hgl'' : gL < wr.heap.size := Nat.lt_of_lt_of_le hgl' HBc.out.size
            have hq'' := (HBc.out.cell (p := ⟨gL, r, none⟩) hgl').trans ((HBt.out.cell (p := ⟨gL, r, none⟩) hgl).trans HQ2.out)
            have HQ4 := Lib.hid (HQ3.out.below HBc.out)
            have HIM4 := Lib.hid (HIM2.out.below HBu.out)
            have HBB := Lib.hid (HBW.out.below (HBr5.out.trans (HBc.out.mono HBr5.out.size)))
            by_cases hle3 : lo + (a : Int) ≤ hi
            · obtain ⟨res1, hres1⟩ : ∃ r, (ownf b.os st (cnt v (lo + (a : Int))) == co) = r := ⟨_, rfl⟩
              obtain ⟨res2, hres2⟩ : ∃ r, (ownf b.os st (cnt (v.set k nn) (lo + (a : Int))) == co) = r := ⟨_, rfl⟩
              have HD := Lib.hid (show diffB b st k co v nn (lo + (a : Int)) = (res1 != res2) by unfold diffB; rw [hres1, hres2])
              have HR1' := Lib.hid hres1
              have HR2' := Lib.hid hres2
              have HMP := Lib.hid (show mupto lo a ++ [lo + (a : Int)] <+: mins lo hi by rw [mupto_snoc]; exact mupto_prefix lo (a + 1) _ (by omega))
              have HMS := Lib.hid (show mupto lo (a + 1) = mupto lo a ++ [lo + (a : Int)] from (mupto_snoc lo a).symm)
              clear hres1 hres2
              go_upto_region 13 with fail
              refine wp_region_ext (by kernel_rfl) (by kernel_rfl) ?_
              repeat (go_big_quiet_step (fail))
              go_big_quiet_step ((go_at_call 82; exact quiet_ext (right_eq ⟨some ⟨b0, o0, none⟩, cb, po, co', ps, cs⟩ b hv co lo hi st q c n v (lo + (a : Int)) res1 _ HR1'.out (HBB.out.below (below_ext _ _)) hso (HQ4.out.below (below_ext _ _)) HVN.out HVL.out)))
              repeat (go_big_quiet_step (fail))
              go_big_quiet_step ((go_at_call 82; exact quiet_ext (right_eq ⟨some ⟨b0, o0, none⟩, cb, po, co', ps, cs⟩ b hv co lo hi st gm cm n (v.set k nn) (lo + (a : Int)) res2 _ HR2'.out (HBB.out.below (below_ext _ _)) hso (HIM4.out.below (below_ext _ _)) HSV.out HVL.out)))
              repeat (go_big_quiet_step (fail))
              refine wpQuiet_nil ?_
              rintro wz ⟨z, hz⟩
              have hBz : Below wr.heap.size wr wz := by rw [hz]; (repeat (first | (with_reducible exact Below.refl _ _) | (with_reducible assumption) | ((with_reducible refine below_ext_trans ?_ ?_ _); rotate_left; focus (((try dsimp only); repeat (first | omega | simp only [World.size_alloc, World.size_setCell, World.size_drew] | (with_reducible refine le_ext_of ?_) | (with_reducible refine le_ext_add ?_))); done)) | ((with_reducible refine Below.alloc ?_ ?_ _); rotate_left; focus (((try dsimp only); repeat (first | omega | simp only [World.size_alloc, World.size_setCell, World.size_drew] | (with_reducible refine le_ext_of ?_) | (with_reducible refine le_ext_add ?_))); done)) | ((with_reducible refine Below.setCell ?_ ?_ _); rotate_left; focus (((try dsimp only); repeat (first | omega | simp only [World.size_alloc, World.size_setCell, World.size_drew] | (with_reducible refine le_ext_of ?_) | (with_reducible refine le_ext_add ?_))); done)) | (with_reducible refine Below.drew ?_)))
              have HBZ := Lib.hid (HBu.out.trans (hBz.mono HBu.out.size))
              have HBZ2 := Lib.hid (HBc.out.trans (hBz.mono HBc.out.size))
              clear hz hBz d0 d1 d2 d3 e0 e1 e2 e3 hq''
              have HYES := Lib.hid (show res1 ≠ res2 → (allT b).any (hangT b st k ⟨st, co, lo, hi⟩) = true from fun hd => any_yes HPRE.out (by rw [HT.out]; exact any_yes HDP.out (any_yes HMP.out (by rw [HD.out]; cases res1 <;> cases res2 <;> simp_all))))
              have HNO := Lib.hid (show res1 = res2 → (mupto lo (a + 1)).any (diffB b st k co v nn) = false from fun hd => by rw [HMS.out]; exact any_no HX3.out (by rw [HD.out, hd]; cases res2 <;> rfl))
              have HEND := Lib.hid (show Below w.heap.size w wz from HB.out.trans ((HBr5.out.trans (HBZ2.out.mono HBr5.out.size)).mono HB.out.size))
              cases res1 <;> cases res2
              all_goals
                go_wp2_with fail
              · go_roundw
                case rel => exact ⟨a + 1, by omega, by go_num, Lib.hid (HNO.out rfl), HBZ⟩
                case measure => simp [intOf]; omega
              · go_ret
                exact ⟨by rw [HYES.out (by decide)]; rfl, ext_of HEND.out⟩
              · go_ret
                exact ⟨by rw [HYES.out (by decide)]; rfl, ext_of HEND.out⟩
              · go_roundw
                case rel => exact ⟨a + 1, by omega, by go_num, Lib.hid (HNO.out rfl), HBZ⟩
                case measure => simp [intOf]; omega
            · have hjm : (hi - lo + 1).toNat = a := by omega
              have HN1 := Lib.hid (show (mupto l0 (j + 1)).any (fun n => (mins lo hi).any (diffB b st k co v n)) = false by
                rw [HDJ.out]
                refine any_no HX'.out ?_
                unfold mins; rw [hjm]; exact HX3.out)
              have HBF := Lib.hid (HBt.out.trans (HBc.out.mono HBt.out.size))
              clear d0 d1 d2 d3 e0 e1 hq''
              have HW2 := Lib.hid (wrap_mid HNN.out q0 (by omega))
              have HJ2 := Lib.hid (show ((j + 1 : Nat) : Int) ≤ h0 - l0 + 1 by have := HNN.out; omega)
              have HJ3 := Lib.hid (show l0 + (j : Int) ≤ h0 by have := HNN.out; omega)
              go_wp2_with fail
              rw [HW2.out]
              exact ⟨⟨j + 1, HJ2.out, rfl, HN1, HBF⟩, less_mid HJ3.out⟩
        · have hjm : (h0 - l0 + 1).toNat = j := by omega
          have HN1 := Lib.hid (show ((allT b).take (r + 1)).any (hangT b st k ⟨st, co, lo, hi⟩) = false by
            rw [HTK.out]
            refine any_no HX.out ?_
            rw [HT.out]; unfold mins; rw [hjm]; exact HX'.out)
          have HBF := Lib.hid (HBr.out.trans (HBt.out.mono HBr.out.size))
          have HWN := Lib.hid (wrap_num r (by have := HLEN.out; have := HR1.out; omega))
          go_wp2_with fail
          rw [HWN.out]
          exact ⟨⟨r + 1, HR1.out, rfl, HN1, HBF⟩, less_num N r HR1.out⟩
    · obtain rfl : r = N := by omega
      have HF := Lib.hid (show (allT b).any (hangT b st k ⟨st, co, lo, hi⟩) = false by
        have h1 := HX.out
        rw [List.take_of_length_le (by rw [HN.out]; exact Nat.le_refl _)] at h1
        exact h1)
      go_wp2_with fail
      go_ret
      exact ⟨by rw [HF.out]; rfl, ext_of (HB.out.trans (HBr.out.mono HB.out.size))⟩
end Go.Proofs.YteocjggepjpecaaGreatDoor

