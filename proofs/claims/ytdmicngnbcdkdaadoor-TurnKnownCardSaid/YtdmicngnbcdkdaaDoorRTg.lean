/- Contract of newCove. -/
import Derived.Test.YtdmicngnbcdkdaaDoorRTf
import Derived.Deep.DeepCutAuto
import Derived.Carry
set_option linter.unusedSimpArgs false
set_option linter.unusedVariables false
namespace Go.Proofs.YtdmicngnbcdkdaaDoor
open Go Go.RowKit Go.Maps

def NewPost (w : World) (h : Hd) (b : Bk) (e : Ending) (w' : World) : Prop :=
  ∃ B : Nat, e = .returned (.agg #[.int .i64 b.n, .slice h.pb b.bs.length h.cb, .slice h.po b.os.length h.co, .slice h.ps b.ss.length h.cs, .int .i64 (kspec b.bs 2 0 0), .int .i64 (kspec b.bs 2 0 1), .int .i64 (kspec b.bs 2 0 2), .int .i64 (kspec b.bs 2 0 3), .int .i64 (kspec b.bs 2 0 4), .int .i64 (kspec b.bs 2 0 5), .int .i64 (kspec b.bs 2 0 6), .int .i64 (kspec b.bs 2 0 7), .map (some B)]) ∧ w.heap.size ≤ B ∧ OwnP w' B 15 (ownf b.os) (inR b.os) ∧ ∃ x, w' = ext w x

theorem bookB_rows {b : Bk} (hv : bookB b = true) : b.os.length ≤ 3 ∧ 1 ≤ b.os.length ∧ b.bs.length ≤ 4 ∧ b.n ≤ 4 ∧ ∀ (k : Nat) (r : List Int), b.os[k]? = some r → r.length = b.bs.length + 1 ∧ ∀ (t : Nat) (c : Int), r[t]? = some c → 0 ≤ c ∧ c < b.n := by
  simp only [bookB, boundsB, ordersB, Bool.and_eq_true, decide_eq_true_eq] at hv
  obtain ⟨⟨⟨⟨hn1, hn4⟩, hb4, -⟩, ⟨ho1, ho3⟩, hall⟩, -⟩ := hv
  refine ⟨ho3, ho1, hb4, hn4, fun k r hr => ?_⟩
  have := List.all_eq_true.1 hall r (List.mem_of_getElem? hr)
  simp only [orderB, Bool.and_eq_true, decide_eq_true_eq] at this
  refine ⟨this.1, fun t c hc => ?_⟩
  exact of_isN (List.all_eq_true.1 this.2 c (List.mem_of_getElem? hc))

set_option maxHeartbeats 4000000 in
theorem newCove_any (h : Hd) (b : Bk) (w : World) (hb : BkAt w h b) (hv : bookB b = true) (hn : NB w) :
    Calls Tryd.prog 66 #[.agg #[.int .i64 b.n, .slice h.pb b.bs.length h.cb, .slice h.po b.os.length h.co, .slice h.ps b.ss.length h.cs]] w (NewPost w h b) := by
  go_enter Tryd.func66, Tryd.ntmps66
  go_upto_region 1 with fail
  generalize hW : ((w.alloc _).alloc _) = W
  have hWs : W.heap.size = w.heap.size + 2 := by rw [← hW]; simp
  have hWB : Below w.heap.size w W := by rw [← hW]; (repeat (first | (with_reducible exact Below.refl _ _) | (with_reducible assumption) | ((with_reducible refine below_ext_trans ?_ ?_ _); rotate_left; focus (((try dsimp only); repeat (first | omega | simp only [World.size_alloc, World.size_setCell, World.size_drew] | (with_reducible refine le_ext_of ?_) | (with_reducible refine le_ext_add ?_))); done)) | ((with_reducible refine Below.alloc ?_ ?_ _); rotate_left; focus (((try dsimp only); repeat (first | omega | simp only [World.size_alloc, World.size_setCell, World.size_drew] | (with_reducible refine le_ext_of ?_) | (with_reducible refine le_ext_add ?_))); done)) | ((with_reducible refine Below.setCell ?_ ?_ _); rotate_left; focus (((try dsimp only); repeat (first | omega | simp only [World.size_alloc, World.size_setCell, World.size_drew] | (with_reducible refine le_ext_of ?_) | (with_reducible refine le_ext_add ?_))); done)) | (with_reducible refine Below.drew ?_)))
  have hbox : ∀ j : Nat, W.cell? ⟨w.heap.size, j, none⟩ = (#[Value.int .i64 b.n, .slice h.pb b.bs.length h.cb, .slice h.po b.os.length h.co, .slice h.ps b.ss.length h.cs] : Array Value)[j]? := by
    intro j
    have e1 : Below (w.heap.size + 1) (w.alloc (.cells #[.int .i64 b.n, .slice h.pb b.bs.length h.cb, .slice h.po b.os.length h.co, .slice h.ps b.ss.length h.cs] 26)) W := by rw [← hW]; (repeat (first | (with_reducible exact Below.refl _ _) | (with_reducible assumption) | ((with_reducible refine below_ext_trans ?_ ?_ _); rotate_left; focus (((try dsimp only); repeat (first | omega | simp only [World.size_alloc, World.size_setCell, World.size_drew] | (with_reducible refine le_ext_of ?_) | (with_reducible refine le_ext_add ?_))); done)) | ((with_reducible refine Below.alloc ?_ ?_ _); rotate_left; focus (((try dsimp only); repeat (first | omega | simp only [World.size_alloc, World.size_setCell, World.size_drew] | (with_reducible refine le_ext_of ?_) | (with_reducible refine le_ext_add ?_))); done)) | ((with_reducible refine Below.setCell ?_ ?_ _); rotate_left; focus (((try dsimp only); repeat (first | omega | simp only [World.size_alloc, World.size_setCell, World.size_drew] | (with_reducible refine le_ext_of ?_) | (with_reducible refine le_ext_add ?_))); done)) | (with_reducible refine Below.drew ?_)))
    rw [e1.cell (p := ⟨w.heap.size, j, none⟩) (by simp), new_cell _ _ _ _ _ rfl]
  have x0 := hbox 0
  have x1 := hbox 1
  have x2 := hbox 2
  have x3 := hbox 3
  simp at x0 x1 x2 x3
  have hl4 : (b.bs.length : Int) ≤ 4 := by simp [bookB, boundsB] at hv; omega
  have hz : w.heap.size < W.heap.size := by omega
  have hz1 : w.heap.size ≤ W.heap.size := by omega
  have hz2 : w.heap.size + 1 < W.heap.size := by omega
  have HW := Lib.hid hW
  have HWs := Lib.hid hWs
  have HWB := Lib.hid hWB
  have HV := Lib.hid hv
  clear hW hWs hbox hWB hv
  go_cut [3] (fun s3 wx => NewCut w W h b s3 wx)
  case first =>
    have kS : Hid (∀ w', Below W.heap.size W w' → w'.cell? ⟨w.heap.size, 0, none⟩ = some (.int .i64 b.n) ∧ w'.cell? ⟨w.heap.size, 1, none⟩ = some (.slice h.pb b.bs.length h.cb) ∧ w'.cell? ⟨w.heap.size, 2, none⟩ = some (.slice h.po b.os.length h.co) ∧ w'.cell? ⟨w.heap.size, 3, none⟩ = some (.slice h.ps b.ss.length h.cs)) := Lib.hid (fun w' hw => by
      refine ⟨?_, ?_, ?_, ?_⟩ <;> (rw [hw.cell (p := ⟨w.heap.size, _, none⟩) hz]; assumption))
    have hmm := @run_makeMap Tryd.prog
    have hsb := hb.bs.below HWB.out
    have hnb := hn.below HWB.out
    go_region_held3 (fun w' => w'.cell? ⟨w.heap.size, 0, none⟩ = some (.int .i64 b.n) ∧ w'.cell? ⟨w.heap.size, 1, none⟩ = some (.slice h.pb b.bs.length h.cb) ∧ w'.cell? ⟨w.heap.size, 2, none⟩ = some (.slice h.po b.os.length h.co) ∧ w'.cell? ⟨w.heap.size, 3, none⟩ = some (.slice h.ps b.ss.length h.cs))
      ((exact kS.out _ (by (repeat (first | (with_reducible exact Below.refl _ _) | (with_reducible assumption) | ((with_reducible refine below_ext_trans ?_ ?_ _); rotate_left; focus (((try dsimp only); repeat (first | omega | simp only [World.size_alloc, World.size_setCell, World.size_drew] | (with_reducible refine le_ext_of ?_) | (with_reducible refine le_ext_add ?_))); done)) | ((with_reducible refine Below.alloc ?_ ?_ _); rotate_left; focus (((try dsimp only); repeat (first | omega | simp only [World.size_alloc, World.size_setCell, World.size_drew] | (with_reducible refine le_ext_of ?_) | (with_reducible refine le_ext_add ?_))); done)) | ((with_reducible refine Below.setCell ?_ ?_ _); rotate_left; focus (((try dsimp only); repeat (first | omega | simp only [World.size_alloc, World.size_setCell, World.size_drew] | (with_reducible refine le_ext_of ?_) | (with_reducible refine le_ext_add ?_))); done)) | (with_reducible refine Below.drew ?_))))))
      (first | (go_at_call 86; refine (knownOf_any _ _ _ _ (hsb.below (by (repeat (first | (with_reducible exact Below.refl _ _) | (with_reducible assumption) | ((with_reducible refine below_ext_trans ?_ ?_ _); rotate_left; focus (((try dsimp only); repeat (first | omega | simp only [World.size_alloc, World.size_setCell, World.size_drew] | (with_reducible refine le_ext_of ?_) | (with_reducible refine le_ext_add ?_))); done)) | ((with_reducible refine Below.alloc ?_ ?_ _); rotate_left; focus (((try dsimp only); repeat (first | omega | simp only [World.size_alloc, World.size_setCell, World.size_drew] | (with_reducible refine le_ext_of ?_) | (with_reducible refine le_ext_add ?_))); done)) | ((with_reducible refine Below.setCell ?_ ?_ _); rotate_left; focus (((try dsimp only); repeat (first | omega | simp only [World.size_alloc, World.size_setCell, World.size_drew] | (with_reducible refine le_ext_of ?_) | (with_reducible refine le_ext_add ?_))); done)) | (with_reducible refine Below.drew ?_))))) hl4 (hnb.below (by (repeat (first | (with_reducible exact Below.refl _ _) | (with_reducible assumption) | ((with_reducible refine below_ext_trans ?_ ?_ _); rotate_left; focus (((try dsimp only); repeat (first | omega | simp only [World.size_alloc, World.size_setCell, World.size_drew] | (with_reducible refine le_ext_of ?_) | (with_reducible refine le_ext_add ?_))); done)) | ((with_reducible refine Below.alloc ?_ ?_ _); rotate_left; focus (((try dsimp only); repeat (first | omega | simp only [World.size_alloc, World.size_setCell, World.size_drew] | (with_reducible refine le_ext_of ?_) | (with_reducible refine le_ext_add ?_))); done)) | ((with_reducible refine Below.setCell ?_ ?_ _); rotate_left; focus (((try dsimp only); repeat (first | omega | simp only [World.size_alloc, World.size_setCell, World.size_drew] | (with_reducible refine le_ext_of ?_) | (with_reducible refine le_ext_add ?_))); done)) | (with_reducible refine Below.drew ?_)))))).mono ?_; rintro e w' ⟨rfl, x, rfl⟩))
    all_goals (go_wp2_with fail; go_meet)
    · exact newCut1 HWs.out x
    · exact newCut2 HWs.out x
    · exact newCut3 HWs.out x
    · exact newCut4 HWs.out x
    · exact newCut5 HWs.out x
    · exact newCut6 HWs.out x
  case rest =>
    obtain ⟨g, B, rfl, hC, hg, hB, hne, own, hbel⟩ := hcut
    obtain ⟨hol, ho1, hbl, hn4, hrows⟩ := bookB_rows HV.out
    have y2 : wc.cell? ⟨w.heap.size, 2, none⟩ = some (.slice h.po b.os.length h.co) := by rw [hbel.cell (p := ⟨w.heap.size, 2, none⟩) (by dsimp only; omega)]; exact x2
    have HROWS := Lib.hid hrows
    have HHH : Hid (CoveAt wc g B h b ∧ OwnP wc B (5 * 0) (ownf b.os) (upTo b.os 0 0) ∧ Below (w.heap.size + 2) W wc) := by
      refine Lib.hid ⟨hC, ?_, hbel⟩
      obtain ⟨D, h1, h2, h3⟩ := own
      exact ⟨D, h1, h2, fun s t _ _ hu => by unfold upTo at hu; omega⟩
    have hol' : (b.os.length : Int) ≤ 3 := by omega
    clear hrows hC hbel own x0 x1 x2 x3 hz hz1 hz2
    go_wp2_with fail
    go_loopw [4, 5, 6, 7, 17] (fun _ _ _ _ q wr => ∃ k : Nat, k ≤ b.os.length ∧ q = .int .i64 k ∧ Hid (CoveAt wr g B h b ∧ OwnP wr B (5 * k) (ownf b.os) (upTo b.os k 0) ∧ Below (w.heap.size + 2) W wr)) (fun _ _ _ _ q _ => b.os.length - (intOf q).toNat)
    case atStart => exact ⟨0, by omega, rfl, HHH⟩
    case round =>
      clear HHH y2
      obtain ⟨k, hk, rfl, HK⟩ := hrel
      by_cases hlt : k < b.os.length
      · obtain ⟨r, hr⟩ := get_some b.os k hlt
        obtain ⟨hrl, hrc⟩ := HROWS.out k r hr
        have hBW : Below w.heap.size w wr := HWB.out.trans (HK.out.2.2.mono (by omega))
        obtain ⟨b1, o1, hpo, hb1w, q1, c1, d1, hq1⟩ := hb.os k r hr
        rw [← hBW.cell (p := ⟨b1, o1 + k, none⟩) hb1w] at d1
        have hb1 : b1 < wr.heap.size := Nat.lt_of_lt_of_le hb1w hBW.size
        have HR := Lib.hid hr
        have HRC := Lib.hid hrc
        have hrl5 : (r.length : Int) ≤ 5 := by omega
        have HBW := Lib.hid hBW
        clear hr hrc hBW hrl
        obtain ⟨h_pb, h_cb, h_po, h_co, h_ps, h_cs⟩ := h
        dsimp only at hpo
        subst hpo
        go_wp2_with fail
        go_loopw [6, 7, 24] (fun _ _ q wr => ∃ j : Nat, j ≤ r.length ∧ q = .int .i64 j ∧ Hid (CoveAt wr g B ⟨h_pb, h_cb, some ⟨b1, o1, none⟩, h_co, h_ps, h_cs⟩ b ∧ OwnP wr B (5 * k + j) (ownf b.os) (upTo b.os k j) ∧ Below (w.heap.size + 2) W wr)) (fun _ _ q _ => r.length - (intOf q).toNat)
        case atStart => exact ⟨0, by omega, rfl, HK⟩
        case round =>
          clear HK d1 HBW
          obtain ⟨j, hj, rfl, HK⟩ := hrel
          by_cases hjl : j < r.length
          · obtain ⟨c, hc⟩ := get_some r j hjl
            obtain ⟨c0, cn⟩ := HRC.out j c hc
            have hBW : Below w.heap.size w wr := HWB.out.trans (HK.out.2.2.mono (by omega))
            obtain ⟨b2, o2, rfl, hb2, d2⟩ := (hq1.below hBW) j c hc
            have cwf : (Lit.int .i64 c).wf = true := WalkArith.wf_i64 (by omega)
            obtain ⟨D, h1, hm, h3⟩ := HK.out.2.1
            have d12 := HK.out.1.e12
            have HB := Lib.hid hBW
            have HM := Lib.hid hm
            have H3 := Lib.hid h3
            have hk3 : k < 3 := by omega
            have hj5 : j < 5 := by omega
            have HC := Lib.hid hc
            clear hBW hm h3 hc
            go_wp2_with (at_mapUpdate; refine wpList_mapUpdate_own _ rfl _ _ _ 81 rfl 103 3 spell_law Tryd.underlying81 _ B (5 * k + j) _ rfl h1 (by unfold maxLen; omega) _ _ (keyl k j) rfl rfl (keyl_of k j hk3 hj5) (.lit (.int .i64 c)) [] (plainElem_int Tryd.underlying3 cwf) ?_; intro w1 hown1 hgrow1)
            go_roundw
            case rel =>
              refine ⟨j + 1, by omega, by go_num, Lib.hid ⟨HK.out.1.of_heap hgrow1.size (hgrow1.block g HK.out.1.lt (by intro e; cases e; exact hne rfl)), OwnP.put hk3 hj5 (ownf_get HR.out HC.out).symm hown1 HM.out H3.out ?_, HK.out.2.2.grown hgrow1 ?_ ?_⟩⟩
              · intro s' t' hu; unfold upTo at *; rcases hu with hu | hu <;> omega
              · have := HK.out.2.2.size; have := HWs.out; omega
              · intro k' e; cases e; omega
            case measure => simp [intOf]; omega
          · obtain rfl : j = r.length := by omega
            have HN : Hid (CoveAt wr g B ⟨h_pb, h_cb, some ⟨b1, o1, none⟩, h_co, h_ps, h_cs⟩ b ∧ OwnP wr B (5 * (k + 1)) (ownf b.os) (upTo b.os (k + 1) 0) ∧ Below (w.heap.size + 2) W wr) := by
              obtain ⟨e1, ⟨D, h1, hm, h3⟩, e3⟩ := HK.out
              refine Lib.hid ⟨e1, ⟨D, h1.mono (by omega), hm, fun s t hs ht hu => h3 s t hs ht ?_⟩, e3⟩
              unfold upTo at *
              rcases hu with ⟨u1, u2⟩ | ⟨u1, u2⟩
              · by_cases hsk : s = k
                · subst hsk
                  rw [List.getD_eq_getElem?_getD, HR.out] at u2
                  exact .inr ⟨rfl, u2⟩
                · exact .inl ⟨by omega, u2⟩
              · omega
            go_wp2_with fail
            go_roundw
            case rel => exact ⟨k + 1, by omega, by go_num, HN⟩
            case measure => simp [intOf]; omega
      · obtain rfl : k = b.os.length := by omega
        have hres : Blk wr (w.heap.size + 1) 83 #[.int .i64 0, .slice none 0 0, .slice none 0 0, .slice none 0 0, .int .i64 0, .int .i64 0, .int .i64 0, .int .i64 0, .int .i64 0, .int .i64 0, .int .i64 0, .int .i64 0, .map none] := by
          have hk := HK.out.2.2.block (w.heap.size + 1) (by omega)
          unfold Blk
          rw [hk, ← HW.out]
          exact Blk.new (by simp)
        have hC := HK.out.1
        have hz3 : w.heap.size + 1 < wr.heap.size := hres.lt
        have hz4 : w.heap.size < wr.heap.size := by omega
        have e0 := hC.e0
        have e1 := hC.e1
        have e2 := hC.e2
        have e3 := hC.e3
        have e4 := hC.e4
        have e5 := hC.e5
        have e6 := hC.e6
        have e7 := hC.e7
        have e8 := hC.e8
        have e9 := hC.e9
        have e10 := hC.e10
        have e11 := hC.e11
        have e12 := hC.e12
        have r0 := hres.cell 0
        have f0 := hres.frozen 0
        have r1 := hres.cell 1
        have f1 := hres.frozen 1
        have r2 := hres.cell 2
        have f2 := hres.frozen 2
        have r3 := hres.cell 3
        have f3 := hres.frozen 3
        have r4 := hres.cell 4
        have f4 := hres.frozen 4
        have r5 := hres.cell 5
        have f5 := hres.frozen 5
        have r6 := hres.cell 6
        have f6 := hres.frozen 6
        have r7 := hres.cell 7
        have f7 := hres.frozen 7
        have r8 := hres.cell 8
        have f8 := hres.frozen 8
        have r9 := hres.cell 9
        have f9 := hres.frozen 9
        have r10 := hres.cell 10
        have f10 := hres.frozen 10
        have r11 := hres.cell 11
        have f11 := hres.frozen 11
        have r12 := hres.cell 12
        have f12 := hres.frozen 12
        simp only [List.size_toArray, List.length_cons, List.length_nil, Nat.reduceAdd, Nat.reduceLT, getElem?_pos, List.getElem_toArray, List.getElem_cons_zero, List.getElem_cons_succ] at r0 r1 r2 r3 r4 r5 r6 r7 r8 r9 r10 r11 r12
        have hgl := hC.lt
        have hg1 : ¬ (w.heap.size + 1 = g) := by omega
        have hg2 : ¬ (g = w.heap.size + 1) := by omega
        have HRES := Lib.hid hres
        clear hC hres
        go_wp2_with fail
        refine bodyPost_ret (v := .agg #[.int .i64 b.n, .slice h.pb b.bs.length h.cb, .slice h.po b.os.length h.co, .slice h.ps b.ss.length h.cs, .int .i64 (kspec b.bs 2 0 0), .int .i64 (kspec b.bs 2 0 1), .int .i64 (kspec b.bs 2 0 2), .int .i64 (kspec b.bs 2 0 3), .int .i64 (kspec b.bs 2 0 4), .int .i64 (kspec b.bs 2 0 5), .int .i64 (kspec b.bs 2 0 6), .int .i64 (kspec b.bs 2 0 7), .map (some B)]) ?_ rfl ?_
        · simp [results, Tryd.results66, go_sem, r0, r1, r2, r3, r4, r5, r6, r7, r8, r9, r10, r11, r12]
        · refine ⟨B, rfl, by omega, ?_, ?_⟩
          · exact own13 (HK.out.2.1.weaken (by omega) (fun s t hu => .inl ⟨hu.1, hu.2⟩)) (by omega)
          · exact ext_of (bel13 (HWB.out.trans (HK.out.2.2.mono (by omega))) (by omega))
end Go.Proofs.YtdmicngnbcdkdaaDoor

