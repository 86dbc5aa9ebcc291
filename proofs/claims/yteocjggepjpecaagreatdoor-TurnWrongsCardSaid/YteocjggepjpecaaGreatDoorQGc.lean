/- Contract of the reference's truths: all true minutes of the bounds, from a bound on. -/
import Derived.Test.YteocjggepjpecaaGreatDoorQGa
import Derived.Test.YteocjggepjpecaaGreatDoorQUh
import Derived.Test.YteocjggepjpecaaGreatDoorQUg
import Derived.Test.YteocjggepjpecaaGreatDoorQVk
import Derived.Test.YteocjggepjpecaaGreatDoorQZe0
set_option linter.unusedSimpArgs false
set_option linter.unusedVariables false
namespace Go.Proofs.YteocjggepjpecaaGreatDoor
open Go Go.RowKit

def RowsPost (w : World) (L : List (List Int)) (e : Ending) (w' : World) : Prop := ∃ g c : Nat, e = .returned (.slice (some ⟨g, 0, none⟩) L.length c) ∧ RowsIn w' (some ⟨g, 0, none⟩) L ∧ ∃ x, w' = ext w x
theorem sum_const {α : Type} (l : List α) (n : Nat) : (l.map (fun _ => n)).sum = l.length * n := by
  induction l with
  | nil => simp
  | cons a l ih => simp [Nat.succ_mul]; omega
theorem prodL_len : ∀ (ls : List (List Int)) (n : Nat), ls.length ≤ n → (∀ l ∈ ls, l.length ≤ 11) → (prodL ls).length ≤ 11 ^ n
  | [], n, _, _ => by simp [prodL]; exact Nat.one_le_pow _ _ (by decide)
  | l :: ls, 0, h, _ => by simp at h
  | l :: ls, n + 1, h, hl => by
    have ih := prodL_len ls n (by simpa using h) (fun x hx => hl x (by simp [hx]))
    have h1 := hl l (by simp)
    have e : (prodL (l :: ls)).length = l.length * (prodL ls).length := by
      simp only [prodL, List.length_flatMap, List.length_map]
      exact sum_const l _
    rw [e, Nat.pow_succ, Nat.mul_comm (11 ^ n)]
    exact Nat.mul_le_mul h1 ih
theorem mins_len {lo hi : Int} (h : hi - lo ≤ 10) : (mins lo hi).length ≤ 11 := by simp [mins, mupto]; omega
theorem goOn_len {b : Bk} (hv : bookB b = true) (k : Nat) (v : List Int) : (goOn b k v).length ≤ 14641 := by
  obtain ⟨h4, _, hch⟩ := bookB_bounds hv
  unfold goOn
  rw [List.length_map]
  refine prodL_len _ 4 (by simp [MS]; omega) (fun l hl => ?_)
  have hl := List.mem_of_mem_drop hl
  unfold MS at hl
  obtain ⟨s, hs, rfl⟩ := List.mem_map.1 hl
  have hm := chain_mom hch s hs
  unfold Mom at hm
  exact mins_len (by omega)
theorem prodL_ne : ∀ (ls : List (List Int)), (∀ l ∈ ls, l ≠ []) → prodL ls ≠ []
  | [], _ => by simp [prodL]
  | l :: ls, h => by
    have ih := prodL_ne ls (fun x hx => h x (by simp [hx]))
    have h1 := h l (by simp)
    obtain ⟨a, l', rfl⟩ := List.exists_cons_of_ne_nil h1
    obtain ⟨c, r, e⟩ := List.exists_cons_of_ne_nil ih
    simp [prodL, e]
theorem goOn_ne {b : Bk} (hv : bookB b = true) (k : Nat) (v : List Int) : goOn b k v ≠ [] := by
  obtain ⟨h4, _, hch⟩ := bookB_bounds hv
  unfold goOn
  intro hc
  refine prodL_ne ((MS b).drop k) (fun l hl => ?_) (List.map_eq_nil_iff.1 hc)
  have hl := List.mem_of_mem_drop hl
  unfold MS at hl
  obtain ⟨s, hs, rfl⟩ := List.mem_map.1 hl
  have hm := chain_mom hch s hs
  unfold Mom at hm
  intro hc
  have : (mins s.1 s.2).length = 0 := by rw [hc]; rfl
  simp [mins, mupto] at this
  omega
theorem OwnRows.off {w : World} {B : Nat} {v : Value} {L : List (List Int)} (h : OwnRows w B v L) {g : Nat} {t : TypeId} {cs : Array Value} (k : Blk w g t cs) (ht : t ≠ 34) : some g ≠ v.ownBlock := fun hc => by
  obtain ⟨xs, h1, _⟩ := h
  rcases h1.2 with ⟨hv, _⟩ | ⟨g', cap, cur2, hv, hg, hh, _⟩
  · rw [hv] at hc; cases hc
  · rw [hv] at hc
    cases hc
    have k' := k
    unfold Blk at k'
    rw [hh] at k'
    simp at k'
    exact ht k'.2.symm
/-- What the operations of a round leave. -/
def roundR (b : Bk) (q bk : Value) (g n c : Nat) (v : List Int) (x : Int) (i : Nat) (u : Value) (w : World) : Prop :=
  match i with
  | 0 => u = q
  | 1 => u = bk
  | 2 => u = .slice (some ⟨g, 0, none⟩) n c
  | 3 => u = .int .i64 x
  | 4 => ∃ g2 c2 : Nat, u = .slice (some ⟨g2, 0, none⟩) (n + 1) c2 ∧ IntsAt w (some ⟨g2, 0, none⟩) (v ++ [x]) ∧ Typed w g2
  | 5 => ∃ g2 c2 : Nat, u = .slice (some ⟨g2, 0, none⟩) (goOn b (n + 1) (v ++ [x])).length c2 ∧ RowsIn w (some ⟨g2, 0, none⟩) (goOn b (n + 1) (v ++ [x]))
  | _ => True
theorem roundR_kept (b : Bk) (q bk : Value) (g n c : Nat) (v : List Int) (x : Int) : ∀ (i : Nat), i < 6 → ∀ (u : Value) (w w' : World), roundR b q bk g n c v x i u w → Below w.heap.size w w' → roundR b q bk g n c v x i u w' := by
  intro i hi u w w' h hb
  match i, hi with
  | 0, _ => exact h
  | 1, _ => exact h
  | 2, _ => exact h
  | 3, _ => exact h
  | 4, _ => obtain ⟨g2, c2, h1, h2, h3⟩ := h; exact ⟨g2, c2, h1, h2.below hb, h3.below hb⟩
  | 5, _ => obtain ⟨g2, c2, h1, h2⟩ := h; exact ⟨g2, c2, h1, h2.below hb⟩
  | k + 6, hk => omega
attribute [local go_sem] Oper.semAt_some frozen_alloc_lt
set_option maxRecDepth 100000 in
set_option maxHeartbeats 1000000 in
theorem truths_r (h : Hd) (b : Bk) (hv : bookB b = true) : ∀ (d n : Nat) (v : List Int) (g c : Nat) (w : World), v.length = n → n + d = b.bs.length → SpansAt w h.pb b.bs → IntsAt w (some ⟨g, 0, none⟩) v → Typed w g →
    Calls Tryz.prog 33 #[.agg #[.int .i64 b.n, .slice h.pb b.bs.length h.cb, .slice h.po b.os.length h.co, .slice h.ps b.ss.length h.cs], .slice (some ⟨g, 0, none⟩) n c] w (RowsPost w (goOn b n v)) := by
  intro d
  induction d with
  | zero =>
    intro n v g c w hn hd hs hi ht
    have he : (((n : Nat) : Int) == (b.bs.length : Int)) = true := by simp; omega
    have HL := Lib.hid (show goOn b n v = [v] by rw [show n = b.bs.length by omega]; exact goOn_end b v)
    have HI := Lib.hid hi
    have HT := Lib.hid ht
    have HN := Lib.hid hn
    clear hs hi ht hd hn
    go_enter Tryz.func33, Tryz.ntmps33
    go_wp2_with fail
    generalize hW : (w.alloc _).alloc _ = W
    have hB : Below w.heap.size w W := by rw [← hW]; (repeat (first | (with_reducible exact Below.refl _ _) | (with_reducible assumption) | ((with_reducible refine below_ext_trans ?_ ?_ _); rotate_left; focus (((try dsimp only); repeat (first | omega | simp only [World.size_alloc, World.size_setCell, World.size_drew] | (with_reducible refine le_ext_of ?_) | (with_reducible refine le_ext_add ?_))); done)) | ((with_reducible refine Below.alloc ?_ ?_ _); rotate_left; focus (((try dsimp only); repeat (first | omega | simp only [World.size_alloc, World.size_setCell, World.size_drew] | (with_reducible refine le_ext_of ?_) | (with_reducible refine le_ext_add ?_))); done)) | ((with_reducible refine Below.setCell ?_ ?_ _); rotate_left; focus (((try dsimp only); repeat (first | omega | simp only [World.size_alloc, World.size_setCell, World.size_drew] | (with_reducible refine le_ext_of ?_) | (with_reducible refine le_ext_add ?_))); done)) | (with_reducible refine Below.drew ?_)))
    have k1 : Blk W (w.heap.size + 1) 34 #[.slice (some ⟨g, 0, none⟩) n c] := by rw [← hW]; exact Blk.new (by simp)
    refine bodyPost_ret (v := .slice (some ⟨w.heap.size + 1, 0, none⟩) 1 1) (by simp [results, Tryz.results33, go_sem]) rfl ?_
    rw [HL.out]
    refine ⟨w.heap.size + 1, 1, rfl, fun i r hr => ?_, ext_of hB⟩
    match i, hr with
    | 0, hr =>
      simp at hr; subst hr
      exact ⟨_, _, rfl, k1.lt, g, c, by rw [Nat.zero_add, k1.cell 0, HN.out]; rfl, HT.out.below hB, HI.out.below hB⟩
  | succ d ih =>
    intro n v g c w hn hd hs hi ht
    have he : (((n : Nat) : Int) == (b.bs.length : Int)) = false := by simp; omega
    have hk : n < b.bs.length := by omega
    obtain ⟨⟨lo, hi'⟩, hsk⟩ := get_some b.bs n hk
    obtain ⟨-, -, hch⟩ := bookB_bounds hv
    have hm := chain_mom hch _ (List.mem_of_getElem? hsk)
    unfold Mom at hm
    dsimp only at hm
    obtain ⟨m0, m1, m2, m3, m4, m5⟩ := hm
    have h4 := (bookB_bounds hv).1
    obtain ⟨pb, cb, po, co, ps, cs⟩ := h
    dsimp only at hs ih ⊢
    obtain ⟨b0, o0, rfl, hb0, c1, c2⟩ := hs _ _ hsk
    dsimp only at c1 c2
    have k1 : ((n : Nat) : Int) < (b.bs.length : Int) := by omega
    have HL := Lib.hid (goOn_step b n v lo hi' hsk)
    have HI := Lib.hid hi
    have HT := Lib.hid ht
    have HS := Lib.hid hs
    have IH := Lib.hid ih
    have HN := Lib.hid hn
    clear hs hi ht ih hsk hch hn
    go_enter Tryz.func33, Tryz.ntmps33
    go_wp2_with fail
    generalize hW : ((w.alloc _).alloc _).alloc _ = W
    have hB : Below w.heap.size w W := by rw [← hW]; (repeat (first | (with_reducible exact Below.refl _ _) | (with_reducible assumption) | ((with_reducible refine below_ext_trans ?_ ?_ _); rotate_left; focus (((try dsimp only); repeat (first | omega | simp only [World.size_alloc, World.size_setCell, World.size_drew] | (with_reducible refine le_ext_of ?_) | (with_reducible refine le_ext_add ?_))); done)) | ((with_reducible refine Below.alloc ?_ ?_ _); rotate_left; focus (((try dsimp only); repeat (first | omega | simp only [World.size_alloc, World.size_setCell, World.size_drew] | (with_reducible refine le_ext_of ?_) | (with_reducible refine le_ext_add ?_))); done)) | ((with_reducible refine Below.setCell ?_ ?_ _); rotate_left; focus (((try dsimp only); repeat (first | omega | simp only [World.size_alloc, World.size_setCell, World.size_drew] | (with_reducible refine le_ext_of ?_) | (with_reducible refine le_ext_add ?_))); done)) | (with_reducible refine Below.drew ?_)))
    have kb : Blk W w.heap.size 26 #[.int .i64 b.n, .slice (some ⟨b0, o0, none⟩) b.bs.length cb, .slice po b.os.length co, .slice ps b.ss.length cs] := by rw [← hW]; exact ((Blk.new rfl).alloc _).alloc _
    have kr : Blk W (w.heap.size + 1) 34 #[] := by rw [← hW]; exact (Blk.new (by simp)).alloc _
    have ks : Blk W (w.heap.size + 1 + 1) 29 #[.int .i64 lo, .int .i64 hi'] := by rw [← hW]; exact Blk.new (by simp)
    have ho : OwnRows W (w.heap.size + 1) (.slice (some ⟨w.heap.size + 1, 0, none⟩) 0 0) [] := ⟨[], ⟨by simp, .inr ⟨_, 0, #[], rfl, Nat.le_refl _, kr, by simp, by unfold maxLen; omega, by simp, by simp⟩⟩, rfl, fun i u r hu hr => by simp at hr⟩
    have HB := Lib.hid hB
    have HKB := Lib.hid kb
    have HO := Lib.hid ho
    have HKS := Lib.hid ks
    have hz : w.heap.size + 2 < W.heap.size := ks.lt
    clear hW hB kb kr ks ho c1 c2
    go_loopw [5, 7] (fun q i wr => ∃ j : Nat, (j : Int) ≤ hi' - lo + 1 ∧ i = .int .i64 (lo + j) ∧ Hid (OwnRows wr (w.heap.size + 1) q (goOns b n v (mupto lo j))) ∧ Hid (Below (w.heap.size + 1) W wr) ∧ Hid (Blk wr (w.heap.size + 1 + 1) 29 #[.int .i64 lo, .int .i64 hi'])) (fun _ i _ => (hi' + 1 - intOf i).toNat)
    case atStart => exact ⟨0, by omega, by simp, HO, Lib.hid (Below.refl _ _), HKS⟩
    case round =>
      obtain ⟨j, hj, rfl, HOr, HBr, HKr⟩ := hrel
      have hB2 : Below w.heap.size w wr := HB.out.trans (HBr.out.mono (Nat.le_succ _))
      have kb2 : Blk wr w.heap.size 26 #[.int .i64 b.n, .slice (some ⟨b0, o0, none⟩) b.bs.length cb, .slice po b.os.length co, .slice ps b.ss.length cs] := (HBr.out.block _ (by omega)).trans HKB.out
      have d0 := kb2.cell 0
      have d1 := kb2.cell 1
      have d2 := kb2.cell 2
      have d3 := kb2.cell 3
      have e0 := HKr.out.cell 0
      have e1 := HKr.out.cell 1
      simp only [List.size_toArray, List.length_cons, List.length_nil, Nat.reduceAdd, Nat.reduceLT, getElem?_pos, List.getElem_toArray, List.getElem_cons_zero, List.getElem_cons_succ] at d0 d1 d2 d3 e0 e1
      have hl1 : w.heap.size < wr.heap.size := kb2.lt
      have hl2 : w.heap.size + 1 + 1 < wr.heap.size := HKr.out.lt
      have HB2 := Lib.hid hB2
      have KB2 := Lib.hid kb2
      have j0 : (0 : Int) ≤ (j : Int) := by omega
      clear kb2 hB2
      by_cases hlt : lo + (j : Int) ≤ hi'
      · have hlen : (goOns b n v (mupto lo j)).length + (goOn b (n + 1) (v ++ [lo + (j : Int)])).length ≤ 14641 := by
          have h1 := goOn_len hv n v
          rw [HL.out] at h1
          have h2 := (goOns_prefix b n v (mupto_prefix lo (j + 1) (hi' - lo + 1).toNat (by omega))).length_le
          rw [← mupto_snoc, goOns_snoc, List.length_append] at h2
          unfold mins at h1
          omega
        have HLEN := Lib.hid hlen
        clear hlen
        have HN1 := Lib.hid (show (n : Int) ≤ 1000 by omega)
        have HND := Lib.hid (show n + 1 + d = b.bs.length by omega)
        have HN2 := Lib.hid (show (v ++ [lo + (j : Int)]).length = n + 1 by simp [HN.out])
        go_upto_region 8 with fail
        refine wp_region_flow_back 6 39 (roundR b u5 (.agg #[.int .i64 b.n, .slice (some ⟨b0, o0, none⟩) b.bs.length cb, .slice po b.os.length co, .slice ps b.ss.length cs]) g n c v (lo + (j : Int))) (by kernel_rfl) (by kernel_rfl) rfl (roundR_kept _ _ _ _ _ _ _ _) ?_ ?_
        · intro i hin a X h1 h2 h3 h4 h5 KK hKK
          match i, hin with
          | 0, _ => exact st_move rfl rfl (wanted_none rfl) (h3 5 (by kernel_rfl)) (hKK _ _ rfl (Below.refl _ _))
          | 1, _ => exact st_val rfl (wanted_none rfl) (run_book _ rfl (h3 2 (by kernel_rfl)) (KB2.out.bel h5)) (hKK _ _ rfl (Below.refl _ _))
          | 2, _ => exact st_move rfl rfl (wanted_none rfl) (h3 1 (by kernel_rfl)) (hKK _ _ rfl (Below.refl _ _))
          | 3, _ => exact st_move rfl rfl (wanted_none rfl) (h3 7 (by kernel_rfl)) (hKK _ _ rfl (Below.refl _ _))
          | 4, _ =>
            have hX := HB2.out.trans (h5.mono HB2.out.size)
            refine st_call rfl rfl (wanted_none rfl) (args2 (h4 2 (by kernel_rfl)) (h4 3 (by kernel_rfl))) (run_enter Tryz.func68 (by kernel_rfl) (by kernel_rfl) _) ?_
            refine (And_len g 0 c n v (lo + (j : Int)) _ HN.out (HI.out.below hX) (Nat.lt_of_lt_of_le HT.out.lt hX.size) HN1.out).mono ?_
            rintro e w1 ⟨g2, c2, rfl, hi2, ht2, y, rfl⟩
            exact ⟨_, rfl, hKK _ _ ⟨g2, c2, rfl, hi2, ht2⟩ (below_ext _ _)⟩
          | 5, _ =>
            have hX := HB2.out.trans (h5.mono HB2.out.size)
            obtain ⟨g2, c2, hv2, hi2, ht2⟩ := h4 4 (by kernel_rfl)
            refine st_call rfl rfl (wanted_none rfl) (args2 (h4 1 (by kernel_rfl)) hv2) (run_enter Tryz.func33 (by kernel_rfl) (by kernel_rfl) _) ?_
            refine (IH.out (n + 1) _ g2 c2 _ HN2.out HND.out (HS.out.below hX) hi2 ht2).mono ?_
            rintro e w1 ⟨g3, c3, rfl, hr3, y, rfl⟩
            exact ⟨_, rfl, hKK _ _ ⟨g3, c3, rfl, hr3⟩ (below_ext _ _)⟩
          | k + 6, hk => omega
        intro vs W2 hvs hBW
        have v0 : vs 0 = _ := hvs 0 (by omega)
        have v1 : vs 1 = _ := hvs 1 (by omega)
        have v2 : vs 2 = _ := hvs 2 (by omega)
        have v3 : vs 3 = _ := hvs 3 (by omega)
        obtain ⟨g4, c4, v4, -, -⟩ := hvs 4 (by omega)
        obtain ⟨g5, c5, v5, hr5⟩ := hvs 5 (by omega)
        simp only [putAll, v0, v1, v2, v3, v4, v5]
        clear v0 v1 v2 v3 v4 v5 hvs
        simp only [dstOf, Act.put, List.getElem?_toArray, List.getElem?_cons_zero, List.getElem?_cons_succ, Option.bind_some, Option.getD_some, List.setIfInBounds_toArray, List.set_cons_succ, List.set_cons_zero, List.drop_succ_cons, List.drop_zero]
        have HR5 := Lib.hid hr5
        have HO2 := Lib.hid (HOr.out.kept hBW)
        have HK2 := Lib.hid (HKr.out.bel hBW)
        have HBW := Lib.hid hBW
        have hzW := hBW.size
        have HLE := Lib.hid (show (goOns b n v (mupto lo j)).length + (goOn b (n + 1) (v ++ [lo + (j : Int)])).length ≤ 100000 by have := HLEN.out; omega)
        have HLB := Lib.hid (show w.heap.size + 1 ≤ W2.heap.size by omega)
        clear hr5 hBW HLEN d0 d1 d2 d3 e0 e1
        generalize hLq : (goOn b (n + 1) (v ++ [lo + (j : Int)])).length = Lq at *
        go_wp2_with (at_builtin; refine wpList_append_rows rfl _ _ rfl (w.heap.size + 1) _ _ (goOn b (n + 1) (v ++ [lo + (j : Int)])) rfl HO2.out g5 0 Lq c5 hLq rfl HR5.out (by rw [hLq]; exact HLE.out) HLB.out ?_)
        intro v' w' ho' hg'
        have hne := HO2.out.off HK2.out (by decide)
        have hks : Blk w' (w.heap.size + 1 + 1) 29 #[.int .i64 lo, .int .i64 hi'] := (hg'.block _ HK2.out.lt hne).trans HK2.out
        have hB3 : Below (w.heap.size + 1) W w' := Below.grown (HBr.out.trans (HBW.out.mono (by omega))) hg' HLB.out (fun jj hjj => (HO2.out.lt jj hjj).1)
        have HO3 := Lib.hid ho'
        have HK3 := Lib.hid hks
        have HB3 := Lib.hid hB3
        clear ho' hks hB3 hg' hne
        go_wp2_with fail
        go_roundw
        case rel => exact ⟨j + 1, by omega, by go_num, by rw [← mupto_snoc, goOns_snoc]; exact HO3, HB3, HK3⟩
        case measure => simp [intOf]; omega
      · have hjm : (hi' - lo + 1).toNat = j := by omega
        have HLL := Lib.hid (show goOn b n v = goOns b n v (mupto lo j) by rw [HL.out]; unfold mins; rw [hjm])
        go_wp2_with fail
        obtain ⟨p, c9, rfl, hr9⟩ := HOr.out.at
        have hne := goOn_ne hv n v
        rw [HLL.out] at hne
        obtain ⟨r0, L0, hL0⟩ := List.exists_cons_of_ne_nil hne
        obtain ⟨bx, ox, rfl, -⟩ := hr9 0 r0 (by rw [hL0]; rfl)
        have hox : ox = 0 := by
          obtain ⟨xs, h1, _⟩ := HOr.out
          rcases h1.2 with ⟨h2, _⟩ | ⟨g', cap, cur, e, _⟩
          · cases h2
          · cases e; rfl
        subst hox
        rw [← HLL.out] at hr9
        refine bodyPost_ret (v := .slice (some ⟨bx, 0, none⟩) (goOns b n v (mupto lo j)).length c9) (by simp [results, Tryz.results33, go_sem]) rfl ?_
        exact ⟨bx, c9, by rw [HLL.out], hr9, ext_of HB2.out⟩
end Go.Proofs.YteocjggepjpecaaGreatDoor

