/- Contract of the reference's Known: a copy of a book, of which the minute of a bound is known. -/
/- Contract of the reference's Learn. -/
import Derived.Test.YteocjggepjpecaaGreatDoorQYv
import Derived.Test.YteocjggepjpecaaGreatDoorQWa
import Derived.Test.YteocjggepjpecaaGreatDoorQGg
import Derived.Test.YteocjggepjpecaaGreatDoorQAf
import Derived.Test.YteocjggepjpecaaGreatDoorQZe0
import Derived.Test.YteocjggepjpecaaGreatDoorQGl
import Derived.Test.YteocjggepjpecaaGreatDoorQFl
set_option linter.unusedSimpArgs false
set_option linter.unusedVariables false
namespace Go.Proofs.YteocjggepjpecaaGreatDoor
open Go Go.RowKit

attribute [local go_sem] Oper.semAt_some frozen_alloc_lt
set_option maxRecDepth 100000 in
set_option maxHeartbeats 4000000 in
theorem rKnown_new (h : Hd) (b : Bk) (k : Nat) (v : Int) (w : World) (hb : BkAt w h b) (hk : k < b.bs.length) (h4 : b.bs.length ≤ 4) :
    Calls Tryz.prog 63 #[.agg #[.int .i64 b.n, .slice h.pb b.bs.length h.cb, .slice h.po b.os.length h.co, .slice h.ps b.ss.length h.cs], .int .i64 k, .int .i64 v] w fun e w' => ∃ g2 c2 : Nat, e = .returned (.agg #[.int .i64 b.n, .slice (some ⟨g2, 0, none⟩) b.bs.length c2, .slice h.po b.os.length h.co, .slice h.ps b.ss.length h.cs]) ∧ w.heap.size ≤ g2 ∧ SpansAt w' (some ⟨g2, 0, none⟩) (b.bs.set k (v, v)) ∧ b.bs.length ≤ c2 ∧ ∃ x, w' = ext w x := by
  obtain ⟨pb, cb, po, co, ps, cs⟩ := h
  dsimp only
  obtain ⟨⟨lo, hi⟩, hsk⟩ := get_some b.bs k hk
  obtain ⟨bb, o, hpb, hbb, q0, q1⟩ := hb.bs k _ hsk
  dsimp only at hpb
  subst hpb
  have HB := Lib.hid hb
  have bb1 : bb < w.heap.size + 1 := by omega
  have bb2 : bb < w.heap.size + 1 + 1 := by omega
  have bb3 : bb < w.heap.size + 1 + 1 + 1 := by omega
  clear hb
  go_enter Tryz.func63, Tryz.ntmps63
  go_upto_region 2 with fail
  generalize hW : ((w.alloc _).alloc _).alloc _ = W0
  have hWB : Below w.heap.size w W0 := by rw [← hW]; (repeat (first | (with_reducible exact Below.refl _ _) | (with_reducible assumption) | ((with_reducible refine below_ext_trans ?_ ?_ _); rotate_left; focus (((try dsimp only); repeat (first | omega | simp only [World.size_alloc, World.size_setCell, World.size_drew] | (with_reducible refine le_ext_of ?_) | (with_reducible refine le_ext_add ?_))); done)) | ((with_reducible refine Below.alloc ?_ ?_ _); rotate_left; focus (((try dsimp only); repeat (first | omega | simp only [World.size_alloc, World.size_setCell, World.size_drew] | (with_reducible refine le_ext_of ?_) | (with_reducible refine le_ext_add ?_))); done)) | ((with_reducible refine Below.setCell ?_ ?_ _); rotate_left; focus (((try dsimp only); repeat (first | omega | simp only [World.size_alloc, World.size_setCell, World.size_drew] | (with_reducible refine le_ext_of ?_) | (with_reducible refine le_ext_add ?_))); done)) | (with_reducible refine Below.drew ?_)))
  have hWs : W0.heap.size = w.heap.size + 1 + 1 + 1 := by rw [← hW]; simp
  have kB : Blk W0 w.heap.size 26 #[.int .i64 b.n, .slice (some ⟨bb, o, none⟩) b.bs.length cb, .slice po b.os.length co, .slice ps b.ss.length cs] := by rw [← hW]; exact ((Blk.new rfl).alloc _).alloc _
  have kR : Blk W0 (w.heap.size + 1) 26 #[.int .i64 0, .slice none 0 0, .slice none 0 0, .slice none 0 0] := by rw [← hW]; exact (Blk.new (by simp)).alloc _
  have kX : Blk W0 (w.heap.size + 1 + 1) 26 #[.int .i64 b.n, .slice (some ⟨bb, o, none⟩) b.bs.length cb, .slice po b.os.length co, .slice ps b.ss.length cs] := by rw [← hW]; exact Blk.new (by simp)
  have d0 := kB.cell 0
  have d1 := kB.cell 1
  have d2 := kB.cell 2
  have d3 := kB.cell 3
  have x0 := kX.cell 0
  have x1 := kX.cell 1
  have x2 := kX.cell 2
  have x3 := kX.cell 3
  have xf := kX.frozen 1
  have r0 := kR.cell 0
  have r1 := kR.cell 1
  have r2 := kR.cell 2
  have r3 := kR.cell 3
  simp only [List.size_toArray, List.length_cons, List.length_nil, Nat.reduceAdd, Nat.reduceLT, getElem?_pos, List.getElem_toArray, List.getElem_cons_zero, List.getElem_cons_succ] at d0 d1 d2 d3 x0 x1 x2 x3 r0 r1 r2 r3
  have HWB := Lib.hid hWB
  have kl := kB.lt
  have kxl := kX.lt
  have krl := kR.lt
  clear hW hWB
  have HC : Hid (∀ w', Below W0.heap.size W0 w' → ∀ j u, (encSpans b.bs)[j]? = some u → w'.cell? ((⟨bb, o, none⟩ : Addr).add j) = some u) := Lib.hid (fun w' hw j u hj => by rw [addr_add]; exact SpansAt.enc ((HB.out.bs.below HWB.out).below hw) j u hj)
  go_upto_region 3 with (at_builtin; refine wpList_append_spans rfl _ _ rfl W0.heap.size (.slice (some ⟨w.heap.size + 1 + 1 + 1, 0, none⟩) 0 0) 0 [] b.bs rfl (OwnSpans.of_blk (g := w.heap.size + 1 + 1 + 1) (Blk.new hWs.symm) rfl rfl (by simp) |>.mono (by omega)) rfl ⟨bb, o, none⟩ b.bs.length cb rfl rfl (HC.out _ (by (repeat (first | (with_reducible exact Below.refl _ _) | (with_reducible assumption) | ((with_reducible refine below_ext_trans ?_ ?_ _); rotate_left; focus (((try dsimp only); repeat (first | omega | simp only [World.size_alloc, World.size_setCell, World.size_drew] | (with_reducible refine le_ext_of ?_) | (with_reducible refine le_ext_add ?_))); done)) | ((with_reducible refine Below.alloc ?_ ?_ _); rotate_left; focus (((try dsimp only); repeat (first | omega | simp only [World.size_alloc, World.size_setCell, World.size_drew] | (with_reducible refine le_ext_of ?_) | (with_reducible refine le_ext_add ?_))); done)) | ((with_reducible refine Below.setCell ?_ ?_ _); rotate_left; focus (((try dsimp only); repeat (first | omega | simp only [World.size_alloc, World.size_setCell, World.size_drew] | (with_reducible refine le_ext_of ?_) | (with_reducible refine le_ext_add ?_))); done)) | (with_reducible refine Below.drew ?_))))) (by simp; omega) (by ((try dsimp only); repeat (first | omega | simp only [World.size_alloc, World.size_setCell, World.size_drew] | (with_reducible refine le_ext_of ?_) | (with_reducible refine le_ext_add ?_)))) ?_; intro v' w1 ho hg; have hB1 : Below W0.heap.size W0 w1 := Below.grown (w := W0.alloc (.cells #[] 29)) (by (repeat (first | (with_reducible exact Below.refl _ _) | (with_reducible assumption) | ((with_reducible refine below_ext_trans ?_ ?_ _); rotate_left; focus (((try dsimp only); repeat (first | omega | simp only [World.size_alloc, World.size_setCell, World.size_drew] | (with_reducible refine le_ext_of ?_) | (with_reducible refine le_ext_add ?_))); done)) | ((with_reducible refine Below.alloc ?_ ?_ _); rotate_left; focus (((try dsimp only); repeat (first | omega | simp only [World.size_alloc, World.size_setCell, World.size_drew] | (with_reducible refine le_ext_of ?_) | (with_reducible refine le_ext_add ?_))); done)) | ((with_reducible refine Below.setCell ?_ ?_ _); rotate_left; focus (((try dsimp only); repeat (first | omega | simp only [World.size_alloc, World.size_setCell, World.size_drew] | (with_reducible refine le_ext_of ?_) | (with_reducible refine le_ext_add ?_))); done)) | (with_reducible refine Below.drew ?_)))) hg (by ((try dsimp only); repeat (first | omega | simp only [World.size_alloc, World.size_setCell, World.size_drew] | (with_reducible refine le_ext_of ?_) | (with_reducible refine le_ext_add ?_)))) (fun j hj => by simp [Value.ownBlock] at hj; omega); have y1 := (hB1.cell (p := ⟨w.heap.size + 1 + 1, 1, none⟩) kxl).trans x1; have yf := (hB1.frozen (p := ⟨w.heap.size + 1 + 1, 1, none⟩) kxl).trans xf; have yl := Nat.lt_of_lt_of_le kxl hB1.size; obtain ⟨p2, c2, hv2, -⟩ := ho.at; rw [List.nil_append] at ho hv2; subst hv2; have HO := Lib.hid ho; have HB1 := Lib.hid hB1; clear ho hg hB1)
  obtain ⟨g2, cap, cur, e2, hg2, hh2, hn2, hm2, hs2, ht2⟩ : ∃ (g cap : Nat) (cur : Array Value), Value.slice p2 b.bs.length c2 = .slice (some ⟨g, 0, none⟩) b.bs.length cap ∧ W0.heap.size ≤ g ∧ w1.heap[g]? = some (.cells cur 29 (0, 0)) ∧ b.bs.length ≤ cap ∧ cap ≤ maxLen ∧ cur.size = cap * 2 ∧ cur.toList.take (b.bs.length * 2) = encSpans b.bs := by
    obtain ⟨h1, h2⟩ := HO.out
    rcases h2 with ⟨h2, _⟩ | ⟨g, cap, cur, e, hg, hh, hn, hm, hs, ht⟩
    · exfalso; simp only [Value.slice.injEq] at h2; omega
    · exact ⟨g, cap, cur, e, hg, hh, hn, hm, hs, ht⟩
  simp only [Value.slice.injEq] at e2
  obtain ⟨rfl, -, rfl⟩ := e2
  have hg3 : g2 < w1.heap.size := by
    have := (Array.getElem?_eq_some_iff.1 hh2).1; exact this
  obtain ⟨v0, v1⟩ := encSpans_get b.bs k _ hsk
  dsimp only at v0 v1
  have hin : ∀ j u, (encSpans b.bs)[j]? = some u → w1.cell? ⟨g2, j, none⟩ = some u := fun j u hj => by
    have hlt := (List.getElem?_eq_some_iff.1 hj).1
    rw [encSpans_len] at hlt
    rw [← ht2, List.getElem?_take_of_lt (by omega)] at hj
    simp [World.cell?, hh2]
    simpa using hj
  have g0 := hin _ _ v0
  have g1 := hin _ _ v1
  have f0 := frozen_of_row w1 g2 (k * 2) cur _ hh2
  have f1 := frozen_of_row w1 g2 (k * 2 + 1) cur _ hh2
  have hne : g2 ≠ w.heap.size + 1 + 1 := by omega
  have hne' : w.heap.size + 1 + 1 ≠ g2 := by omega
  have k0 : (0 : Int) ≤ (k : Int) := by omega
  have k1 : (k : Int) < (b.bs.length : Int) := by omega
  refine wp_region_ext_tail 6 (by kernel_rfl) (by kernel_rfl) ?_
  simp only [List.take_succ_cons, List.take_zero, List.drop_succ_cons, List.drop_zero]
  repeat (go_big_quiet_step (fail))
  go_big_quiet_step ((go_at_call 34; exact quiet_ext (Just_any _ _)))
  repeat (go_big_quiet_step (fail))
  refine wpQuiet_nil ?_
  rintro W3 ⟨x3, hW3⟩
  have kX1 : Blk w1 (w.heap.size + 1 + 1) _ _ := (HB1.out.block _ kxl).trans kX
  have kR1 : Blk w1 (w.heap.size + 1) _ _ := (HB1.out.block _ krl).trans kR
  have kX2 : Blk (w1.setCell ⟨w.heap.size + 1 + 1, 1, none⟩ (.slice (some ⟨g2, 0, none⟩) b.bs.length c2)) (w.heap.size + 1 + 1) 26 #[.int .i64 b.n, .slice (some ⟨g2, 0, none⟩) b.bs.length c2, .slice po b.os.length co, .slice ps b.ss.length cs] := heap_setCell_same w1 _ _ _ _ _ kX1
  have kR2 := kR1.setOther (show w.heap.size + 1 ≠ w.heap.size + 1 + 1 by omega) 1 (.slice (some ⟨g2, 0, none⟩) b.bs.length c2)
  have kG2 : Blk (w1.setCell ⟨w.heap.size + 1 + 1, 1, none⟩ (.slice (some ⟨g2, 0, none⟩) b.bs.length c2)) g2 29 cur := Blk.setOther hh2 hne _ _
  have hB3 := below_ext _ x3
  rw [← hW3] at hB3
  have kX3 : Blk W3 _ _ _ := (hB3.block _ kX2.lt).trans kX2
  have kR3 : Blk W3 _ _ _ := (hB3.block _ kR2.lt).trans kR2
  have kG3 : Blk W3 g2 29 cur := (hB3.block _ kG2.lt).trans kG2
  have hX3 : Below w.heap.size w W3 := by
    rw [hW3]
    have hB := HWB.out.trans (HB1.out.mono HWB.out.size)
    (repeat (first | (with_reducible exact Below.refl _ _) | (with_reducible assumption) | ((with_reducible refine below_ext_trans ?_ ?_ _); rotate_left; focus (((try dsimp only); repeat (first | omega | simp only [World.size_alloc, World.size_setCell, World.size_drew] | (with_reducible refine le_ext_of ?_) | (with_reducible refine le_ext_add ?_))); done)) | ((with_reducible refine Below.alloc ?_ ?_ _); rotate_left; focus (((try dsimp only); repeat (first | omega | simp only [World.size_alloc, World.size_setCell, World.size_drew] | (with_reducible refine le_ext_of ?_) | (with_reducible refine le_ext_add ?_))); done)) | ((with_reducible refine Below.setCell ?_ ?_ _); rotate_left; focus (((try dsimp only); repeat (first | omega | simp only [World.size_alloc, World.size_setCell, World.size_drew] | (with_reducible refine le_ext_of ?_) | (with_reducible refine le_ext_add ?_))); done)) | (with_reducible refine Below.drew ?_)))
  have hcs := cur.size
  have n0 : cur[k * 2]? = some (.int .i64 lo) := by rw [← kG3.cell]; exact (hB3.cell (p := ⟨g2, k * 2, none⟩) kG2.lt).trans ((kG2.cell _).trans ((Blk.cell hh2 _).symm.trans g0))
  have n1 : cur[k * 2 + 1]? = some (.int .i64 hi) := by rw [← kG3.cell]; exact (hB3.cell (p := ⟨g2, k * 2 + 1, none⟩) kG2.lt).trans ((kG2.cell _).trans ((Blk.cell hh2 _).symm.trans g1))
  clear hW3 hB3 kX2 kR2 kG2 kX1 kR1 d0 d1 d2 d3 x0 x1 x2 x3 xf r0 r1 r2 r3 kl kxl krl f0 f1 g0 g1 y1 yf yl hin v0 v1 HC
  have x0 := kX3.cell 0
  have x1 := kX3.cell 1
  have x2 := kX3.cell 2
  have x3 := kX3.cell 3
  have r0 := kR3.cell 0
  have r1 := kR3.cell 1
  have r2 := kR3.cell 2
  have r3 := kR3.cell 3
  have s0 := kR3.frozen 0
  have s1 := kR3.frozen 1
  have s2 := kR3.frozen 2
  have s3 := kR3.frozen 3
  have g0 := (kG3.cell (k * 2)).trans n0
  have g1 := (kG3.cell (k * 2 + 1)).trans n1
  have f0 := kG3.frozen (k * 2)
  have f1 := kG3.frozen (k * 2 + 1)
  simp only [List.size_toArray, List.length_cons, List.length_nil, Nat.reduceAdd, Nat.reduceLT, getElem?_pos, List.getElem_toArray, List.getElem_cons_zero, List.getElem_cons_succ] at x0 x1 x2 x3 r0 r1 r2 r3
  have xl := kX3.lt
  have rl := kR3.lt
  have gl := kG3.lt
  have hne2 : g2 ≠ w.heap.size + 1 := by omega
  have hne2' : w.heap.size + 1 ≠ g2 := by omega
  have KX3 := Lib.hid kX3
  have KR3 := Lib.hid kR3
  have KG3 := Lib.hid kG3
  have HX3 := Lib.hid hX3
  have HT := Lib.hid ht2
  clear kX3 kR3 kG3 hX3 ht2
  go_wp2_with fail
  refine bodyPost_ret (v := .agg #[.int .i64 b.n, .slice (some ⟨g2, 0, none⟩) b.bs.length c2, .slice po b.os.length co, .slice ps b.ss.length cs]) (by simp [results, Tryz.results63, go_sem, r0, r1, r2, r3, s0, s1, s2, s3, rl, hne2, hne2', f0, f1, g0, g1, gl]) rfl ?_
  have kGF := (((((KG3.out.set (k * 2) (.int .i64 v)).set (k * 2 + 1) (.int .i64 v)).setOther hne2 0 (.int .i64 b.n)).setOther hne2 1 (.slice (some ⟨g2, 0, none⟩) b.bs.length c2)).setOther hne2 2 (.slice po b.os.length co)).setOther hne2 3 (.slice ps b.ss.length cs)
  have hF : Below w.heap.size w ((((((W3.setCell ⟨g2, k * 2, none⟩ (.int .i64 v)).setCell ⟨g2, k * 2 + 1, none⟩ (.int .i64 v)).setCell ⟨w.heap.size + 1, 0, none⟩ (.int .i64 b.n)).setCell ⟨w.heap.size + 1, 1, none⟩ (.slice (some ⟨g2, 0, none⟩) b.bs.length c2)).setCell ⟨w.heap.size + 1, 2, none⟩ (.slice po b.os.length co)).setCell ⟨w.heap.size + 1, 3, none⟩ (.slice ps b.ss.length cs)) := by
    have hB := HX3.out
    (repeat (first | (with_reducible exact Below.refl _ _) | (with_reducible assumption) | ((with_reducible refine below_ext_trans ?_ ?_ _); rotate_left; focus (((try dsimp only); repeat (first | omega | simp only [World.size_alloc, World.size_setCell, World.size_drew] | (with_reducible refine le_ext_of ?_) | (with_reducible refine le_ext_add ?_))); done)) | ((with_reducible refine Below.alloc ?_ ?_ _); rotate_left; focus (((try dsimp only); repeat (first | omega | simp only [World.size_alloc, World.size_setCell, World.size_drew] | (with_reducible refine le_ext_of ?_) | (with_reducible refine le_ext_add ?_))); done)) | ((with_reducible refine Below.setCell ?_ ?_ _); rotate_left; focus (((try dsimp only); repeat (first | omega | simp only [World.size_alloc, World.size_setCell, World.size_drew] | (with_reducible refine le_ext_of ?_) | (with_reducible refine le_ext_add ?_))); done)) | (with_reducible refine Below.drew ?_)))
  refine ⟨g2, c2, rfl, by omega, fun i s hs => ?_, hn2, ext_of hF⟩
  have hcl : k * 2 + 1 < cur.size := (Array.getElem?_eq_some_iff.1 n1).1
  refine ⟨g2, 0, rfl, kGF.lt, ?_, ?_⟩
  all_goals rw [Nat.zero_add, kGF.cell]
  all_goals
    by_cases e : i = k
    · subst e
      have e2 : s = (v, v) := by
        have h9 : (b.bs.set i (v, v))[i]? = some s := hs
        rw [List.getElem?_set_self hk] at h9
        exact (Option.some.inj h9).symm
      subst e2
      simp [Array.getElem?_setIfInBounds]
      try omega
    · have h9 : (b.bs.set k (v, v))[i]? = some s := hs
      rw [List.getElem?_set_ne (Ne.symm e)] at h9
      obtain ⟨u0, u1⟩ := encSpans_get b.bs i s h9
      have hil := (List.getElem?_eq_some_iff.1 h9).1
      rw [← HT.out, List.getElem?_take_of_lt (by omega)] at u0 u1
      simp only [Array.getElem?_setIfInBounds]
      rw [if_neg (by omega), if_neg (by omega)]
      first
        | simpa using u0
        | simpa using u1
theorem rKnown_any (h : Hd) (b : Bk) (k : Nat) (v : Int) (w : World) (hb : BkAt w h b) (hk : k < b.bs.length) (h4 : b.bs.length ≤ 4) :
    Calls Tryz.prog 63 #[.agg #[.int .i64 b.n, .slice h.pb b.bs.length h.cb, .slice h.po b.os.length h.co, .slice h.ps b.ss.length h.cs], .int .i64 k, .int .i64 v] w (BkPost w (knownBk b k v)) :=
  (rKnown_new h b k v w hb hk h4).mono fun e w' ⟨g2, c2, he, _, hs, hc, x, hx⟩ => by
    subst hx
    exact ⟨⟨some ⟨g2, 0, none⟩, c2, h.po, h.co, h.ps, h.cs⟩, by simpa [knownBk] using he, ⟨hs, hb.os.ext x, hb.ss.ext x⟩, by simpa [knownBk] using hc, _, rfl⟩
end Go.Proofs.YteocjggepjpecaaGreatDoor

namespace Go.Proofs.YteocjggepjpecaaGreatDoor
open Go Go.RowKit

/-- The first of the least so far, and how many shots it leaves. -/
def blS (b : Bk) : Nat → Int × Int
  | 0 => (-1, 0)
  | k + 1 => if (blS b k).1 < 0 ∨ wk b k < (blS b k).2 then ((k : Int), wk b k) else blS b k
theorem blS_win {b : Bk} (h4 : b.bs.length ≤ 4) : ∀ k, 0 < k → k ≤ b.bs.length → blS b k = (((winN (fun i j => decide ((lkL b).getD i 0 < (lkL b).getD j 0)) k : Nat) : Int), wk b (winN (fun i j => decide ((lkL b).getD i 0 < (lkL b).getD j 0)) k))
  | k + 1, _, hk => by
    rw [winN_succ]
    unfold blS winStep
    rcases Nat.eq_zero_or_pos k with rfl | hp
    · rw [if_pos (by left; simp [blS])]
      simp [winN]
    · have ih := blS_win h4 k hp (by omega)
      have hl := winN_lt (fun i j => decide ((lkL b).getD i 0 < (lkL b).getD j 0)) k hp
      rw [ih]
      generalize winN (fun i j => decide ((lkL b).getD i 0 < (lkL b).getD j 0)) k = q at *
      by_cases h : wk b k < wk b q
      · have e : (fun i j => decide ((lkL b).getD i 0 < (lkL b).getD j 0)) k q = true := by
          show decide _ = true
          rw [lk_wk h4 (show k < b.bs.length by omega), lk_wk h4 (show q < b.bs.length by omega)]; simpa using h
        rw [if_pos (.inr h), if_pos e]
      · have e : ¬ (fun i j => decide ((lkL b).getD i 0 < (lkL b).getD j 0)) k q = true := by
          show ¬ decide _ = true
          rw [lk_wk h4 (show k < b.bs.length by omega), lk_wk h4 (show q < b.bs.length by omega)]; simpa using h
        rw [if_neg (by dsimp only; omega), if_neg e]
theorem learn_bl {b : Bk} (h4 : b.bs.length ≤ 4) (hn : 0 < b.bs.length) : (blS b b.bs.length).1 = (learnN b : Int) := by
  rw [blS_win h4 _ hn (Nat.le_refl _)]; rfl
theorem rfairX (p1 p2 p3 : Option Addr) (c1 c2 c3 l1 l2 l3 : Nat) (n : Int) (X : Bk) (hv : bookB X = true) (st : Nat) (co lo hi K : Int) (w : World) (hb : BkAt w ⟨p1, c1, p2, c2, p3, c3⟩ X) (hso : st < X.os.length) (hm : Mom lo hi) (hK : fairR X st ⟨st, co, lo, hi⟩ = K)
    (e0 : X.n = n) (e1 : X.bs.length = l1) (e2 : X.os.length = l2) (e3 : X.ss.length = l3) :
    Calls Tryz.prog 54 #[.agg #[.int .i64 n, .slice p1 l1 c1, .slice p2 l2 c2, .slice p3 l3 c3], .agg #[.int .i64 st, .int .i64 co, .int .i64 lo, .int .i64 hi]] w
      fun e w' => e = .returned (.int .i64 K) ∧ ∃ x, w' = ext w x := by
  subst hK e0 e1 e2 e3; exact rfair_any ⟨p1, c1, p2, c2, p3, c3⟩ X hv st co lo hi w hb hso hm
theorem run_eqi {o : Oper} {w : World} {s : Nat} {x y : Int} (ρ : Operand → Value) (hop : o.op = .binOp .eql 3 (.tmp s) (.const (.int .i64 y)) 3) (hs : ρ (.tmp s) = .int .i64 x) (hc : ρ (.const (.int .i64 y)) = .int .i64 y := by rfl) :
    (execOp ρ o).run Tryz.prog w = .ok (.value (.bool (x == y))) w := by
  unfold execOp
  simp [hop, hs, hc, go_sem]
theorem rsl_shots {o : Oper} {w : World} {g j s : Nat} {p : Option Addr} {n c : Nat} (ρ : Operand → Value) (hop : o.op = .load 24 (.tmp s)) (hs : ρ (.tmp s) = .pointer (some ⟨g, j, none⟩)) (k : w.cell? ⟨g, j, none⟩ = some (.slice p n c)) :
    (execOp ρ o).run Tryz.prog w = .ok (.value (.slice p n c)) w := by
  unfold execOp
  simp [hop, hs, go_sem, k]
theorem rat_shot {o : Oper} {w : World} {g j s u n c k : Nat} (ρ : Operand → Value) (hop : o.op = .indexAddr 24 (.tmp s) (.tmp u)) (h1 : ρ (.tmp s) = .slice (some ⟨g, j, none⟩) n c) (h2 : ρ (.tmp u) = .int .i64 k) (hk : k < n) (hl : g < w.heap.size) :
    (execOp ρ o).run Tryz.prog w = .ok (.value (.pointer (some ⟨g, j + k * 4, none⟩))) w := by
  have k0 : (0 : Int) ≤ (k : Int) := by omega
  have k1 : (k : Int) < (n : Int) := by omega
  unfold execOp
  simp [hop, h1, h2, go_sem, hl, k0, k1]
theorem rload_shot {o : Oper} {w : World} {g j s : Nat} {x y z u : Int} (ρ : Operand → Value) (hop : o.op = .load 73 (.tmp s)) (hs : ρ (.tmp s) = .pointer (some ⟨g, j, none⟩)) (k0 : w.cell? ⟨g, j, none⟩ = some (.int .i64 x)) (k1 : w.cell? ⟨g, j + 1, none⟩ = some (.int .i64 y)) (k2 : w.cell? ⟨g, j + 2, none⟩ = some (.int .i64 z)) (k3 : w.cell? ⟨g, j + 3, none⟩ = some (.int .i64 u)) :
    (execOp ρ o).run Tryz.prog w = .ok (.value (.agg #[.int .i64 x, .int .i64 y, .int .i64 z, .int .i64 u])) w := by
  unfold execOp
  simp [hop, hs, go_sem, k0, k1, k2, k3]
/-- What the operations leave that look at a shot once a bound is known. -/
def learnR (n : Int) (pb po ps : Option Addr) (cb co' cs lb lo' ls : Nat) (gB bb o : Nat) (bsX : List (Int × Int)) (k : Nat) (x : Int) (i : Nat) (st : Nat) (co lo hi K : Int) (j : Nat) (v : Value) (w : World) : Prop :=
  match j with
  | 0 => v = .agg #[.int .i64 n, .slice pb lb cb, .slice po lo' co', .slice ps ls cs]
  | 1 => v = .int .i64 k
  | 2 => v = .int .i64 x
  | 3 => ∃ g2 c2 : Nat, v = .agg #[.int .i64 n, .slice (some ⟨g2, 0, none⟩) lb c2, .slice po lo' co', .slice ps ls cs] ∧ SpansAt w (some ⟨g2, 0, none⟩) bsX
  | 4 => v = .pointer (some ⟨gB, 3, none⟩)
  | 5 => v = .slice ps ls cs
  | 6 => v = .int .i64 i
  | 7 => v = .pointer (some ⟨bb, o + i * 4, none⟩)
  | 8 => v = .agg #[.int .i64 st, .int .i64 co, .int .i64 lo, .int .i64 hi]
  | 9 => v = .int .i64 K
  | _ => True
theorem learnR_kept (n : Int) (pb po ps : Option Addr) (cb co' cs lb lo' ls : Nat) (gB bb o : Nat) (bsX : List (Int × Int)) (k : Nat) (x : Int) (i : Nat) (st : Nat) (co lo hi K : Int) : ∀ (j : Nat), j < 10 → ∀ (u : Value) (w w' : World), learnR n pb po ps cb co' cs lb lo' ls gB bb o bsX k x i st co lo hi K j u w → Below w.heap.size w w' → learnR n pb po ps cb co' cs lb lo' ls gB bb o bsX k x i st co lo hi K j u w' := by
  intro j hj u w w' h hb
  rcases (show j = 0 ∨ j = 1 ∨ j = 2 ∨ j = 3 ∨ j = 4 ∨ j = 5 ∨ j = 6 ∨ j = 7 ∨ j = 8 ∨ j = 9 by omega) with e | e | e | e | e | e | e | e | e | e
  all_goals subst e
  all_goals first
    | exact h
    | (obtain ⟨g2, c2, h1, h2⟩ := h; exact ⟨g2, c2, h1, h2.below hb⟩)
attribute [local go_sem] Oper.semAt_some frozen_alloc_lt
set_option maxHeartbeats 1000000 in
theorem rLearn_bad (h : Hd) (b : Bk) (w : World) (hb : BkAt w h b) (hv : bookB b = false) :
    Calls Tryz.prog 26 #[.agg #[.int .i64 b.n, .slice h.pb b.bs.length h.cb, .slice h.po b.os.length h.co, .slice h.ps b.ss.length h.cs]] w fun e w' => e = .returned (.tuple #[.int .i64 0, .int .i64 20]) ∧ ∃ x, w' = ext w x := by
  have HB := Lib.hid hb
  have HV := Lib.hid (show (if bookB b then (0 : Int) else 20) = 20 by rw [hv]; rfl)
  clear hb
  go_enter Tryz.func26, Tryz.ntmps26
  go_wp2_with (go_at_call 9; refine (Check_eq h b 20 _ (HB.out.below (by (repeat (first | (with_reducible exact Below.refl _ _) | (with_reducible assumption) | ((with_reducible refine below_ext_trans ?_ ?_ _); rotate_left; focus (((try dsimp only); repeat (first | omega | simp only [World.size_alloc, World.size_setCell, World.size_drew] | (with_reducible refine le_ext_of ?_) | (with_reducible refine le_ext_add ?_))); done)) | ((with_reducible refine Below.alloc ?_ ?_ _); rotate_left; focus (((try dsimp only); repeat (first | omega | simp only [World.size_alloc, World.size_setCell, World.size_drew] | (with_reducible refine le_ext_of ?_) | (with_reducible refine le_ext_add ?_))); done)) | ((with_reducible refine Below.setCell ?_ ?_ _); rotate_left; focus (((try dsimp only); repeat (first | omega | simp only [World.size_alloc, World.size_setCell, World.size_drew] | (with_reducible refine le_ext_of ?_) | (with_reducible refine le_ext_add ?_))); done)) | (with_reducible refine Below.drew ?_))))) HV.out).mono ?_; rintro e w1 ⟨rfl, y, rfl⟩)
  go_ret2
  exact ⟨rfl, by (exact ext_of (by (repeat (first | (with_reducible exact Below.refl _ _) | (with_reducible assumption) | ((with_reducible refine below_ext_trans ?_ ?_ _); rotate_left; focus (((try dsimp only); repeat (first | omega | simp only [World.size_alloc, World.size_setCell, World.size_drew] | (with_reducible refine le_ext_of ?_) | (with_reducible refine le_ext_add ?_))); done)) | ((with_reducible refine Below.alloc ?_ ?_ _); rotate_left; focus (((try dsimp only); repeat (first | omega | simp only [World.size_alloc, World.size_setCell, World.size_drew] | (with_reducible refine le_ext_of ?_) | (with_reducible refine le_ext_add ?_))); done)) | ((with_reducible refine Below.setCell ?_ ?_ _); rotate_left; focus (((try dsimp only); repeat (first | omega | simp only [World.size_alloc, World.size_setCell, World.size_drew] | (with_reducible refine le_ext_of ?_) | (with_reducible refine le_ext_add ?_))); done)) | (with_reducible refine Below.drew ?_)))))⟩
set_option maxHeartbeats 1000000 in
theorem rLearn_none (h : Hd) (b : Bk) (w : World) (hb : BkAt w h b) (hv : bookB b = true) (hne : b.bs = []) :
    Calls Tryz.prog 26 #[.agg #[.int .i64 b.n, .slice h.pb b.bs.length h.cb, .slice h.po b.os.length h.co, .slice h.ps b.ss.length h.cs]] w fun e w' => e = .returned (.tuple #[.int .i64 0, .int .i64 4]) ∧ ∃ x, w' = ext w x := by
  have HB := Lib.hid hb
  have HV := Lib.hid (show (if bookB b then (0 : Int) else 20) = 0 by rw [hv]; rfl)
  have h0 : ((b.bs.length : Int) == 0) = true := by simp [hne]
  clear hb hne
  go_enter Tryz.func26, Tryz.ntmps26
  go_wp2_with (go_at_call 9; refine (Check_eq h b 0 _ (HB.out.below (by (repeat (first | (with_reducible exact Below.refl _ _) | (with_reducible assumption) | ((with_reducible refine below_ext_trans ?_ ?_ _); rotate_left; focus (((try dsimp only); repeat (first | omega | simp only [World.size_alloc, World.size_setCell, World.size_drew] | (with_reducible refine le_ext_of ?_) | (with_reducible refine le_ext_add ?_))); done)) | ((with_reducible refine Below.alloc ?_ ?_ _); rotate_left; focus (((try dsimp only); repeat (first | omega | simp only [World.size_alloc, World.size_setCell, World.size_drew] | (with_reducible refine le_ext_of ?_) | (with_reducible refine le_ext_add ?_))); done)) | ((with_reducible refine Below.setCell ?_ ?_ _); rotate_left; focus (((try dsimp only); repeat (first | omega | simp only [World.size_alloc, World.size_setCell, World.size_drew] | (with_reducible refine le_ext_of ?_) | (with_reducible refine le_ext_add ?_))); done)) | (with_reducible refine Below.drew ?_))))) HV.out).mono ?_; rintro e w1 ⟨rfl, y, rfl⟩)
  go_ret2
  exact ⟨rfl, by (exact ext_of (by (repeat (first | (with_reducible exact Below.refl _ _) | (with_reducible assumption) | ((with_reducible refine below_ext_trans ?_ ?_ _); rotate_left; focus (((try dsimp only); repeat (first | omega | simp only [World.size_alloc, World.size_setCell, World.size_drew] | (with_reducible refine le_ext_of ?_) | (with_reducible refine le_ext_add ?_))); done)) | ((with_reducible refine Below.alloc ?_ ?_ _); rotate_left; focus (((try dsimp only); repeat (first | omega | simp only [World.size_alloc, World.size_setCell, World.size_drew] | (with_reducible refine le_ext_of ?_) | (with_reducible refine le_ext_add ?_))); done)) | ((with_reducible refine Below.setCell ?_ ?_ _); rotate_left; focus (((try dsimp only); repeat (first | omega | simp only [World.size_alloc, World.size_setCell, World.size_drew] | (with_reducible refine le_ext_of ?_) | (with_reducible refine le_ext_add ?_))); done)) | (with_reducible refine Below.drew ?_)))))⟩
set_option maxRecDepth 100000 in
set_option maxHeartbeats 4000000 in
theorem rLearn_yes (h : Hd) (b : Bk) (w : World) (hb : BkAt w h b) (hv : bookB b = true) (hne : b.bs ≠ []) :
    Calls Tryz.prog 26 #[.agg #[.int .i64 b.n, .slice h.pb b.bs.length h.cb, .slice h.po b.os.length h.co, .slice h.ps b.ss.length h.cs]] w fun e w' => e = .returned (.tuple #[.int .i64 (learnN b), .int .i64 0]) ∧ ∃ x, w' = ext w x := by
  obtain ⟨pb, cb, po, co', ps, cs⟩ := h
  dsimp only
  have h4 := (bookB_bounds hv).1
  have hch := (bookB_bounds hv).2.2
  have h5 := bookB_ss hv
  have hn0 : 0 < b.bs.length := List.length_pos_iff.2 hne
  have HFIN := Lib.hid (learn_bl h4 hn0)
  have hz : ((b.bs.length : Int) == 0) = false := by simp; omega
  have HB := Lib.hid hb
  have HV := Lib.hid (show (if bookB b then (0 : Int) else 20) = 0 by rw [hv]; rfl)
  clear hb hne
  go_enter Tryz.func26, Tryz.ntmps26
  go_upto_region 4 with (go_at_call 9; refine (Check_eq ⟨pb, cb, po, co', ps, cs⟩ b 0 _ (HB.out.below (by (repeat (first | (with_reducible exact Below.refl _ _) | (with_reducible assumption) | ((with_reducible refine below_ext_trans ?_ ?_ _); rotate_left; focus (((try dsimp only); repeat (first | omega | simp only [World.size_alloc, World.size_setCell, World.size_drew] | (with_reducible refine le_ext_of ?_) | (with_reducible refine le_ext_add ?_))); done)) | ((with_reducible refine Below.alloc ?_ ?_ _); rotate_left; focus (((try dsimp only); repeat (first | omega | simp only [World.size_alloc, World.size_setCell, World.size_drew] | (with_reducible refine le_ext_of ?_) | (with_reducible refine le_ext_add ?_))); done)) | ((with_reducible refine Below.setCell ?_ ?_ _); rotate_left; focus (((try dsimp only); repeat (first | omega | simp only [World.size_alloc, World.size_setCell, World.size_drew] | (with_reducible refine le_ext_of ?_) | (with_reducible refine le_ext_add ?_))); done)) | (with_reducible refine Below.drew ?_))))) HV.out).mono ?_; rintro e w1 ⟨rfl, yy, rfl⟩)
  generalize hW : ext _ yy = W
  have hB : Below w.heap.size w W := by rw [← hW]; (repeat (first | (with_reducible exact Below.refl _ _) | (with_reducible assumption) | ((with_reducible refine below_ext_trans ?_ ?_ _); rotate_left; focus (((try dsimp only); repeat (first | omega | simp only [World.size_alloc, World.size_setCell, World.size_drew] | (with_reducible refine le_ext_of ?_) | (with_reducible refine le_ext_add ?_))); done)) | ((with_reducible refine Below.alloc ?_ ?_ _); rotate_left; focus (((try dsimp only); repeat (first | omega | simp only [World.size_alloc, World.size_setCell, World.size_drew] | (with_reducible refine le_ext_of ?_) | (with_reducible refine le_ext_add ?_))); done)) | ((with_reducible refine Below.setCell ?_ ?_ _); rotate_left; focus (((try dsimp only); repeat (first | omega | simp only [World.size_alloc, World.size_setCell, World.size_drew] | (with_reducible refine le_ext_of ?_) | (with_reducible refine le_ext_add ?_))); done)) | (with_reducible refine Below.drew ?_)))
  have kb : Blk W w.heap.size 26 #[.int .i64 b.n, .slice pb b.bs.length cb, .slice po b.os.length co', .slice ps b.ss.length cs] := by rw [← hW]; exact (Blk.new rfl).ext yy
  have HBW := Lib.hid (HB.out.below hB)
  have HWB := Lib.hid hB
  have KB := Lib.hid kb
  have d1 := kb.cell 1
  simp only [List.size_toArray, List.length_cons, List.length_nil, Nat.reduceAdd, Nat.reduceLT, getElem?_pos, List.getElem_toArray, List.getElem_cons_zero, List.getElem_cons_succ] at d1
  have hl1 := kb.lt
  clear hW hB kb HB
  go_upto_region 8 with fail
  clear d1 hl1 hz
  go_loopw [5, 6, 7] (fun u v i wr => ∃ (k : Nat) (x y : Int), k ≤ b.bs.length ∧ i = .int .i64 k ∧ u = .int .i64 x ∧ v = .int .i64 y ∧ Hid (blS b k = (x, y)) ∧ Hid (Below W.heap.size W wr)) (fun _ _ i _ => b.bs.length - (intOf i).toNat)
  case atStart => exact ⟨0, -1, 0, by omega, rfl, rfl, rfl, Lib.hid rfl, Lib.hid (Below.refl _ _)⟩
  case round =>
    obtain ⟨k, x, y, hk, rfl, rfl, rfl, HX, HBr⟩ := hrel
    have HK1 := Lib.hid (KB.out.bel HBr.out)
    have d1 := HK1.out.cell 1
    simp only [List.size_toArray, List.length_cons, List.length_nil, Nat.reduceAdd, Nat.reduceLT, getElem?_pos, List.getElem_toArray, List.getElem_cons_zero, List.getElem_cons_succ] at d1
    have hl1 : w.heap.size < wr.heap.size := HK1.out.lt
    by_cases hlt : k < b.bs.length
    · obtain ⟨⟨lo, hi⟩, hsk⟩ := get_some b.bs k hlt
      have hmk := chain_mom hch _ (List.mem_of_getElem? hsk)
      unfold Mom at hmk
      dsimp only at hmk
      obtain ⟨q0, q1, q2, q3, q4, q5⟩ := hmk
      obtain ⟨b0, o0, hpb, hb0, c1, c2⟩ := HBW.out.bs _ _ hsk
      dsimp only at hpb c1 c2
      subst hpb
      have HWK := Lib.hid (show wk b k = worst b k (mins lo hi) by unfold wk; rw [hsk])
      have HSK := Lib.hid hsk
      have HC := Lib.hid (And.intro hb0 (And.intro c1 c2))
      have c1 := (HBr.out.cell (p := ⟨b0, o0 + k * 2, none⟩) HC.out.1).trans c1
      have hb0 := Nat.lt_of_lt_of_le HC.out.1 HBr.out.size
      have k0 : (0 : Int) ≤ (k : Int) := by omega
      have k1 : (k : Int) < (b.bs.length : Int) := by omega
      have HWN := Lib.hid (wrap_num k (by omega))
      have HK9 := Lib.hid (show k + 1 ≤ b.bs.length from hlt)
      clear hsk c2
      go_upto_region 12 with fail
      clear d1 hl1 c1 hb0
      generalize wr = w5 at *
      go_loopw [8, 9] (fun u i wt => ∃ (j : Nat) (z : Int), (j : Int) ≤ hi - lo + 1 ∧ i = .int .i64 (lo + j) ∧ u = .int .i64 z ∧ Hid (worst b k (mupto lo j) = z) ∧ Hid (Below w5.heap.size w5 wt)) (fun _ i _ => (hi + 1 - intOf i).toNat)
      case atStart => exact ⟨0, 0, by omega, by simp, rfl, Lib.hid rfl, Lib.hid (Below.refl _ _)⟩
      case round =>
        obtain ⟨j, z, hj, rfl, rfl, HZ, HBt⟩ := hrel
        have HBrt := Lib.hid (HBr.out.trans (HBt.out.mono HBr.out.size))
        have HK2 := Lib.hid (HK1.out.bel HBt.out)
        have d1 := HK2.out.cell 1
        simp only [List.size_toArray, List.length_cons, List.length_nil, Nat.reduceAdd, Nat.reduceLT, getElem?_pos, List.getElem_toArray, List.getElem_cons_zero, List.getElem_cons_succ] at d1
        have hl1 : w.heap.size < wr.heap.size := HK2.out.lt
        have c2 := (HBrt.out.cell (p := ⟨b0, o0 + k * 2 + 1, none⟩) HC.out.1).trans HC.out.2.2
        have hb0 := Nat.lt_of_lt_of_le HC.out.1 HBrt.out.size
        by_cases hle : lo + (j : Int) ≤ hi
        · have HMS := Lib.hid (show mupto lo (j + 1) = mupto lo j ++ [lo + (j : Int)] from (mupto_snoc lo j).symm)
          have HW2 := Lib.hid (wrap_mid (l := lo) (j := j) rfl q0 (by omega))
          have HJ2 := Lib.hid (show ((j + 1 : Nat) : Int) ≤ hi - lo + 1 by omega)
          have HJ3 := Lib.hid hle
          have hv' := known_ok hv HSK.out (show lo ≤ lo + (j : Int) by omega) hle
          have HV2 := Lib.hid hv'
          have HSETK := Lib.hid (setB_known (b := b) (k := k) (lo + (j : Int)) hlt)
          have HWS := Lib.hid (worst_snoc b k (mupto lo j) (lo + (j : Int)))
          have HUM := Lib.hid (show undM b k (lo + (j : Int)) = (undN (knownBk b k (lo + (j : Int))) b.ss.length : Int) by unfold undM; rw [HSETK.out])
          clear hv' hj
          generalize hxx : lo + (j : Int) = xx at *
          have HXX := Lib.hid hxx
          clear hxx
          go_upto_region 16 with fail
          clear d1 hl1 c2 hb0
          generalize wr = w6 at *
          go_loopw [10, 11] (fun u i wu => ∃ (i' n : Nat), i' ≤ b.ss.length ∧ n ≤ i' ∧ i = .int .i64 i' ∧ u = .int .i64 n ∧ Hid (undN (knownBk b k xx) i' = n) ∧ Hid (Below w6.heap.size w6 wu)) (fun _ i _ => b.ss.length - (intOf i).toNat)
          case atStart => exact ⟨0, 0, by omega, by omega, rfl, rfl, Lib.hid rfl, Lib.hid (Below.refl _ _)⟩
          case round =>
            obtain ⟨i, n, hi', hn', rfl, rfl, HU, HBu⟩ := hrel
            have HBrtu := Lib.hid (HBrt.out.trans (HBu.out.mono HBrt.out.size))
            have HK3 := Lib.hid (HK2.out.bel HBu.out)
            have d3 := HK3.out.cell 3
            simp only [List.size_toArray, List.length_cons, List.length_nil, Nat.reduceAdd, Nat.reduceLT, getElem?_pos, List.getElem_toArray, List.getElem_cons_zero, List.getElem_cons_succ] at d3
            have hl1 : w.heap.size < wr.heap.size := HK3.out.lt
            by_cases his : i < b.ss.length
            · obtain ⟨⟨st', co, slo, shi⟩, hss⟩ := get_some b.ss i his
              obtain ⟨hst, -, hm⟩ := bookB_shot hv hss
              dsimp only at hst hm
              obtain ⟨st, rfl⟩ := Int.eq_ofNat_of_zero_le hst.1
              have hso : st < b.os.length := by omega
              have HBWu := Lib.hid (HBW.out.below HBrtu.out)
              obtain ⟨bb, o, hps, hbb, e1, e2, e3, e4⟩ := HBWu.out.ss i _ hss
              dsimp only at hps e1 e2 e3 e4
              obtain ⟨K, hK⟩ : ∃ K, fairR (knownBk b k xx) st ⟨st, co, slo, shi⟩ = K := ⟨_, rfl⟩
              have hK2 : kindOf (fun t => ownf (knownBk b k xx).os st t == co) (seg (cnt (lateL (knownBk b k xx).bs) slo) (cnt (soonL (knownBk b k xx).bs) shi)) = K := (fair_same HV2.out (b := knownBk b k xx) (i := i) (s := ⟨st, co, slo, shi⟩) hss).symm.trans hK
              have HUN := Lib.hid (undN_next (X := knownBk b k xx) (i := i) (K := K) (undB_kind (X := knownBk b k xx) (s := ⟨st, co, slo, shi⟩) hss rfl hK2))
              have HKK := Lib.hid hK
              have HM := Lib.hid hm
              have HE := Lib.hid (And.intro hbb (And.intro e1 (And.intro e2 (And.intro e3 e4))))
              have HPS := Lib.hid hps
              have HWI := Lib.hid (wrap_num i (by omega))
              have HWN2 := Lib.hid (wrap_num n (by omega))
              have HI1 := Lib.hid (show i + 1 ≤ b.ss.length from his)
              clear hss hst hm hps hbb e1 e2 e3 e4 hK hK2
              go_upto_region 18 with fail
              clear d3 hl1
              refine wp_region_flow_back 10 77 (learnR b.n (some ⟨b0, o0, none⟩) po ps cb co' cs b.bs.length b.os.length b.ss.length w.heap.size bb o (b.bs.set k (xx, xx)) k xx i st co slo shi K) (by kernel_rfl) (by kernel_rfl) rfl (learnR_kept _ _ _ _ _ _ _ _ _ _ _ _ _ _ _ _ _ _ _ _ _ _) ?_ ?_
              · intro j' hin a X g1 g2 g3 g4 g5 KK hKK
                have hRP : BkAt X ⟨some ⟨b0, o0, none⟩, cb, po, co', ps, cs⟩ b := HBWu.out.below g5
                match j', hin with
                | 0, _ => exact st_val rfl (wanted_none rfl) (run_book _ rfl (g3 1 (by kernel_rfl)) (HK3.out.bel g5)) (hKK _ _ rfl (Below.refl _ _))
                | 1, _ => exact st_move rfl rfl (wanted_none rfl) (g3 7 (by kernel_rfl)) (hKK _ _ rfl (Below.refl _ _))
                | 2, _ => exact st_move rfl rfl (wanted_none rfl) (g3 9 (by kernel_rfl)) (hKK _ _ rfl (Below.refl _ _))
                | 3, _ =>
                  refine st_call rfl rfl (wanted_none rfl) (args3' (g4 0 (by kernel_rfl)) (g4 1 (by kernel_rfl)) (g4 2 (by kernel_rfl))) (run_enter Tryz.func63 (by kernel_rfl) (by kernel_rfl) _) ?_
                  refine (rKnown_new ⟨some ⟨b0, o0, none⟩, cb, po, co', ps, cs⟩ b k xx _ hRP hlt h4).mono ?_
                  rintro e w1 ⟨g2', c2', rfl, -, hS, -, y1, rfl⟩
                  exact ⟨_, rfl, hKK _ _ ⟨g2', c2', rfl, hS⟩ (below_ext _ _)⟩
                | 4, _ => exact st_val rfl (wanted_none rfl) (run_shots _ rfl (g3 1 (by kernel_rfl)) (HK3.out.bel g5).lt) (hKK _ _ rfl (Below.refl _ _))
                | 5, _ => exact st_val rfl (wanted_none rfl) (rsl_shots _ rfl (g4 4 (by kernel_rfl)) (((HK3.out.bel g5).cell 3).trans rfl)) (hKK _ _ rfl (Below.refl _ _))
                | 6, _ => exact st_move rfl rfl (wanted_none rfl) (g3 11 (by kernel_rfl)) (hKK _ _ rfl (Below.refl _ _))
                | 7, _ => exact st_val rfl (wanted_none rfl) (rat_shot (g := bb) (j := o) (k := i) _ rfl ((g4 5 (by kernel_rfl)).trans (by rw [HPS.out])) (g4 6 (by kernel_rfl)) his (Nat.lt_of_lt_of_le HE.out.1 g5.size)) (hKK _ _ rfl (Below.refl _ _))
                | 8, _ => exact st_val rfl (wanted_none rfl) (rload_shot _ rfl (g4 7 (by kernel_rfl)) ((g5.cell (p := ⟨bb, o + i * 4, none⟩) HE.out.1).trans HE.out.2.1) ((g5.cell (p := ⟨bb, o + i * 4 + 1, none⟩) HE.out.1).trans HE.out.2.2.1) ((g5.cell (p := ⟨bb, o + i * 4 + 2, none⟩) HE.out.1).trans HE.out.2.2.2.1) ((g5.cell (p := ⟨bb, o + i * 4 + 3, none⟩) HE.out.1).trans HE.out.2.2.2.2)) (hKK _ _ rfl (Below.refl _ _))
                | 9, _ =>
                  obtain ⟨g2', c2', e3, hS⟩ := g4 3 (by kernel_rfl)
                  refine st_call rfl rfl (wanted_none rfl) (args2 e3 (g4 8 (by kernel_rfl))) (run_enter Tryz.func54 (by kernel_rfl) (by kernel_rfl) _) ?_
                  refine (rfairX (some ⟨g2', 0, none⟩) po ps c2' co' cs _ _ _ _ (knownBk b k xx) HV2.out st co slo shi K _ ⟨hS, hRP.os, hRP.ss⟩ hso HM.out HKK.out rfl (by simp [knownBk]) rfl rfl).mono ?_
                  rintro e w1 ⟨rfl, y1, rfl⟩
                  exact ⟨_, rfl, hKK _ _ rfl (below_ext _ _)⟩
                | k' + 10, hk' => omega
              intro vs W2 hvs hBW
              have v0 : vs 0 = _ := hvs 0 (by omega)
              have v1 : vs 1 = _ := hvs 1 (by omega)
              have v2 : vs 2 = _ := hvs 2 (by omega)
              obtain ⟨g2', c2', v3, -⟩ := hvs 3 (by omega)
              have v4 : vs 4 = _ := hvs 4 (by omega)
              have v5 : vs 5 = _ := hvs 5 (by omega)
              have v6 : vs 6 = _ := hvs 6 (by omega)
              have v7 : vs 7 = _ := hvs 7 (by omega)
              have v8 : vs 8 = _ := hvs 8 (by omega)
              have v9 : vs 9 = _ := hvs 9 (by omega)
              simp only [putAll, v0, v1, v2, v3, v4, v5, v6, v7, v8, v9]
              clear v0 v1 v2 v3 v4 v5 v6 v7 v8 v9 hvs
              simp only [dstOf, Act.put, List.getElem?_toArray, List.getElem?_cons_zero, List.getElem?_cons_succ, Option.bind_some, Option.getD_some, List.setIfInBounds_toArray, List.set_cons_succ, List.set_cons_zero, List.drop_succ_cons, List.drop_zero]
              have HBE := Lib.hid (HBu.out.trans (hBW.mono HBu.out.size))
              clear hBW
              by_cases hK1 : K = 1
              · have HU2 := Lib.hid (show undN (knownBk b k xx) (i + 1) = n + 1 by rw [HUN.out, HU.out, if_pos hK1])
                have hk1 : (K == 1) = true := by simp [hK1]
                clear hK1
                go_wp2_with fail
                try rw [HWI.out]
                exact ⟨⟨i + 1, n + 1, HI1.out, by omega, rfl, by first | rfl | rw [HWN2.out], HU2, HBE⟩, less_num _ i HI1.out⟩
              · have HU2 := Lib.hid (show undN (knownBk b k xx) (i + 1) = n by rw [HUN.out, HU.out, if_neg hK1, Nat.add_zero])
                have hk1 : (K == 1) = false := by simp [hK1]
                clear hK1
                go_wp2_with fail
                try rw [HWI.out]
                exact ⟨⟨i + 1, n, HI1.out, by omega, rfl, rfl, HU2, HBE⟩, less_num _ i HI1.out⟩
            · obtain rfl : i = b.ss.length := by omega
              have HZ2 := Lib.hid (show worst b k (mupto lo (j + 1)) = max z (n : Int) by rw [HMS.out, HWS.out, HZ.out, HUM.out, HU.out])
              have HBF := Lib.hid (HBt.out.trans (HBu.out.mono HBt.out.size))
              have HXL := Lib.hid (show hi + 1 - xx ≤ hi + 1 - xx by omega)
              go_wp2_with fail
              try rw [HW2.out]
              exact ⟨⟨j + 1, max z (n : Int), HJ2.out, rfl, rfl, HZ2, HBF⟩, by have := HXX.out; subst this; exact less_mid HJ3.out⟩
        · have hjm : (hi - lo + 1).toNat = j := by omega
          have HWZ := Lib.hid (show wk b k = z by rw [HWK.out]; unfold mins; rw [hjm]; exact HZ.out)
          by_cases hx : x < 0
          · have HS := Lib.hid (show blS b (k + 1) = ((k : Int), z) by unfold blS; rw [HX.out, if_pos (.inl hx), HWZ.out])
            have hx1 : decide (x < 0) = true := by simpa using hx
            go_wp2_with fail
            try rw [HWN.out]
            exact ⟨⟨k + 1, k, z, HK9.out, rfl, rfl, rfl, HS, HBrt⟩, less_num _ k HK9.out⟩
          · have hx1 : decide (x < 0) = false := by simpa using hx
            by_cases hzy : z < y
            · have HS := Lib.hid (show blS b (k + 1) = ((k : Int), z) by unfold blS; rw [HX.out, HWZ.out, if_pos (.inr hzy)])
              have hx2 : decide (z < y) = true := by simpa using hzy
              go_wp2_with fail
              try rw [HWN.out]
              exact ⟨⟨k + 1, k, z, HK9.out, rfl, rfl, rfl, HS, HBrt⟩, less_num _ k HK9.out⟩
            · have HS := Lib.hid (show blS b (k + 1) = (x, y) by unfold blS; rw [HX.out, HWZ.out, if_neg (by dsimp only; omega)])
              have hx2 : decide (z < y) = false := by simpa using hzy
              go_wp2_with fail
              try rw [HWN.out]
              exact ⟨⟨k + 1, x, y, HK9.out, rfl, rfl, rfl, HS, HBrt⟩, less_num _ k HK9.out⟩
    · obtain rfl : k = b.bs.length := by omega
      have HE := Lib.hid (show x = (learnN b : Int) by rw [← HFIN.out, HX.out])
      have HEND := Lib.hid (HWB.out.trans (HBr.out.mono HWB.out.size))
      go_wp2_with fail
      go_ret2
      exact ⟨by first | (rw [HE.out]; done) | (rw [HE.out]; rfl), ext_of HEND.out⟩
end Go.Proofs.YteocjggepjpecaaGreatDoor

