/- Contract of known: a copy of a book, of which the minute of a bound is known. -/
/- Contract of only: a copy of a book, of which the minute of a shot is known. -/
/- Place, where a number is not in the list; Set and Place of lists told by length. -/
import Derived.Test.YtmnbfjphndgmnaaDoorQYv
import Derived.Test.YtmnbfjphndgmnaaDoorQWa
import Derived.Test.YtmnbfjphndgmnaaDoorQYp
import Derived.Test.YtmnbfjphndgmnaaDoorQYa
set_option linter.unusedSimpArgs false
set_option linter.unusedVariables false
namespace Go.Proofs.YtmnbfjphndgmnaaDoor
open Go Go.RowKit

attribute [local go_sem] Oper.semAt_some frozen_alloc_lt
set_option maxRecDepth 100000 in
set_option maxHeartbeats 4000000 in
theorem known_new (h : Hd) (b : Bk) (k : Nat) (v : Int) (w : World) (hb : BkAt w h b) (hk : k < b.bs.length) (h4 : b.bs.length ≤ 4) :
    Calls Tryd.prog 30 #[.agg #[.int .i64 b.n, .slice h.pb b.bs.length h.cb, .slice h.po b.os.length h.co, .slice h.ps b.ss.length h.cs], .int .i64 k, .int .i64 v] w fun e w' => ∃ g2 c2 : Nat, e = .returned (.agg #[.int .i64 b.n, .slice (some ⟨g2, 0, none⟩) b.bs.length c2, .slice h.po b.os.length h.co, .slice h.ps b.ss.length h.cs]) ∧ w.heap.size ≤ g2 ∧ SpansAt w' (some ⟨g2, 0, none⟩) (b.bs.set k (v, v)) ∧ b.bs.length ≤ c2 ∧ ∃ x, w' = ext w x := by
  obtain ⟨pb, cb, po, co, ps, cs⟩ := h
  dsimp only
  obtain ⟨⟨lo, hi⟩, hsk⟩ := get_some b.bs k hk
  obtain ⟨bb, o, hpb, hbb, q0, q1⟩ := hb.bs k _ hsk
  dsimp only at hpb
  subst hpb
  have HB := Lib.hid hb
  have bb1 : bb < w.heap.size + 1 := by omega
  have bb2 : bb < w.heap.size + 1 + 1 := by omega
  have bb3 : bb < w.heap.size + 1 + 1 + 1 := by omega
  clear hb
  go_enter Tryd.func30, Tryd.ntmps30
  go_upto_region 2 with fail
  generalize hW : ((w.alloc _).alloc _).alloc _ = W0
  have hWB : Below w.heap.size w W0 := by rw [← hW]; (repeat (first | (with_reducible exact Below.refl _ _) | (with_reducible assumption) | ((with_reducible refine below_ext_trans ?_ ?_ _); rotate_left; focus (((try dsimp only); repeat (first | omega | simp only [World.size_alloc, World.size_setCell, World.size_drew] | (with_reducible refine le_ext_of ?_) | (with_reducible refine le_ext_add ?_))); done)) | ((with_reducible refine Below.alloc ?_ ?_ _); rotate_left; focus (((try dsimp only); repeat (first | omega | simp only [World.size_alloc, World.size_setCell, World.size_drew] | (with_reducible refine le_ext_of ?_) | (with_reducible refine le_ext_add ?_))); done)) | ((with_reducible refine Below.setCell ?_ ?_ _); rotate_left; focus (((try dsimp only); repeat (first | omega | simp only [World.size_alloc, World.size_setCell, World.size_drew] | (with_reducible refine le_ext_of ?_) | (with_reducible refine le_ext_add ?_))); done)) | (with_reducible refine Below.drew ?_)))
  have hWs : W0.heap.size = w.heap.size + 1 + 1 + 1 := by rw [← hW]; simp
  have kB : Blk W0 w.heap.size 26 #[.int .i64 b.n, .slice (some ⟨bb, o, none⟩) b.bs.length cb, .slice po b.os.length co, .slice ps b.ss.length cs] := by rw [← hW]; exact ((Blk.new rfl).alloc _).alloc _
  have kR : Blk W0 (w.heap.size + 1) 26 #[.int .i64 0, .slice none 0 0, .slice none 0 0, .slice none 0 0] := by rw [← hW]; exact (Blk.new (by simp)).alloc _
  have kX : Blk W0 (w.heap.size + 1 + 1) 26 #[.int .i64 b.n, .slice (some ⟨bb, o, none⟩) b.bs.length cb, .slice po b.os.length co, .slice ps b.ss.length cs] := by rw [← hW]; exact Blk.new (by simp)
  have d0 := kB.cell 0
  have d1 := kB.cell 1
  have d2 := kB.cell 2
  have d3 := kB.cell 3
  have x0 := kX.cell 0
  have x1 := kX.cell 1
  have x2 := kX.cell 2
  have x3 := kX.cell 3
  have xf := kX.frozen 1
  have r0 := kR.cell 0
  have r1 := kR.cell 1
  have r2 := kR.cell 2
  have r3 := kR.cell 3
  simp only [List.size_toArray, List.length_cons, List.length_nil, Nat.reduceAdd, Nat.reduceLT, getElem?_pos, List.getElem_toArray, List.getElem_cons_zero, List.getElem_cons_succ] at d0 d1 d2 d3 x0 x1 x2 x3 r0 r1 r2 r3
  have HWB := Lib.hid hWB
  have kl := kB.lt
  have kxl := kX.lt
  have krl := kR.lt
  clear hW hWB
  have HC : Hid (∀ w', Below W0.heap.size W0 w' → ∀ j u, (encSpans b.bs)[j]? = some u → w'.cell? ((⟨bb, o, none⟩ : Addr).add j) = some u) := Lib.hid (fun w' hw j u hj => by rw [addr_add]; exact SpansAt.enc ((HB.out.bs.below HWB.out).below hw) j u hj)
  go_upto_region 3 with (at_builtin; refine wpList_append_spans rfl _ _ rfl W0.heap.size (.slice (some ⟨w.heap.size + 1 + 1 + 1, 0, none⟩) 0 0) 0 [] b.bs rfl (OwnSpans.of_blk (g := w.heap.size + 1 + 1 + 1) (Blk.new hWs.symm) rfl rfl (by simp) |>.mono (by omega)) rfl ⟨bb, o, none⟩ b.bs.length cb rfl rfl (HC.out _ (by (repeat (first | (with_reducible exact Below.refl _ _) | (with_reducible assumption) | ((with_reducible refine below_ext_trans ?_ ?_ _); rotate_left; focus (((try dsimp only); repeat (first | omega | simp only [World.size_alloc, World.size_setCell, World.size_drew] | (with_reducible refine le_ext_of ?_) | (with_reducible refine le_ext_add ?_))); done)) | ((with_reducible refine Below.alloc ?_ ?_ _); rotate_left; focus (((try dsimp only); repeat (first | omega | simp only [World.size_alloc, World.size_setCell, World.size_drew] | (with_reducible refine le_ext_of ?_) | (with_reducible refine le_ext_add ?_))); done)) | ((with_reducible refine Below.setCell ?_ ?_ _); rotate_left; focus (((try dsimp only); repeat (first | omega | simp only [World.size_alloc, World.size_setCell, World.size_drew] | (with_reducible refine le_ext_of ?_) | (with_reducible refine le_ext_add ?_))); done)) | (with_reducible refine Below.drew ?_))))) (by simp; omega) (by ((try dsimp only); repeat (first | omega | simp only [World.size_alloc, World.size_setCell, World.size_drew] | (with_reducible refine le_ext_of ?_) | (with_reducible refine le_ext_add ?_)))) ?_; intro v' w1 ho hg; have hB1 : Below W0.heap.size W0 w1 := Below.grown (w := W0.alloc (.cells #[] 33)) (by (repeat (first | (with_reducible exact Below.refl _ _) | (with_reducible assumption) | ((with_reducible refine below_ext_trans ?_ ?_ _); rotate_left; focus (((try dsimp only); repeat (first | omega | simp only [World.size_alloc, World.size_setCell, World.size_drew] | (with_reducible refine le_ext_of ?_) | (with_reducible refine le_ext_add ?_))); done)) | ((with_reducible refine Below.alloc ?_ ?_ _); rotate_left; focus (((try dsimp only); repeat (first | omega | simp only [World.size_alloc, World.size_setCell, World.size_drew] | (with_reducible refine le_ext_of ?_) | (with_reducible refine le_ext_add ?_))); done)) | ((with_reducible refine Below.setCell ?_ ?_ _); rotate_left; focus (((try dsimp only); repeat (first | omega | simp only [World.size_alloc, World.size_setCell, World.size_drew] | (with_reducible refine le_ext_of ?_) | (with_reducible refine le_ext_add ?_))); done)) | (with_reducible refine Below.drew ?_)))) hg (by ((try dsimp only); repeat (first | omega | simp only [World.size_alloc, World.size_setCell, World.size_drew] | (with_reducible refine le_ext_of ?_) | (with_reducible refine le_ext_add ?_)))) (fun j hj => by simp [Value.ownBlock] at hj; omega); have y1 := (hB1.cell (p := ⟨w.heap.size + 1 + 1, 1, none⟩) kxl).trans x1; have yf := (hB1.frozen (p := ⟨w.heap.size + 1 + 1, 1, none⟩) kxl).trans xf; have yl := Nat.lt_of_lt_of_le kxl hB1.size; obtain ⟨p2, c2, hv2, -⟩ := ho.at; rw [List.nil_append] at ho hv2; subst hv2; have HO := Lib.hid ho; have HB1 := Lib.hid hB1; clear ho hg hB1)
  obtain ⟨g2, cap, cur, e2, hg2, hh2, hn2, hm2, hs2, ht2⟩ : ∃ (g cap : Nat) (cur : Array Value), Value.slice p2 b.bs.length c2 = .slice (some ⟨g, 0, none⟩) b.bs.length cap ∧ W0.heap.size ≤ g ∧ w1.heap[g]? = some (.cells cur 33 (0, 0)) ∧ b.bs.length ≤ cap ∧ cap ≤ maxLen ∧ cur.size = cap * 2 ∧ cur.toList.take (b.bs.length * 2) = encSpans b.bs := by
    obtain ⟨h1, h2⟩ := HO.out
    rcases h2 with ⟨h2, _⟩ | ⟨g, cap, cur, e, hg, hh, hn, hm, hs, ht⟩
    · exfalso; simp only [Value.slice.injEq] at h2; omega
    · exact ⟨g, cap, cur, e, hg, hh, hn, hm, hs, ht⟩
  simp only [Value.slice.injEq] at e2
  obtain ⟨rfl, -, rfl⟩ := e2
  have hg3 : g2 < w1.heap.size := by
    have := (Array.getElem?_eq_some_iff.1 hh2).1; exact this
  obtain ⟨v0, v1⟩ := encSpans_get b.bs k _ hsk
  dsimp only at v0 v1
  have hin : ∀ j u, (encSpans b.bs)[j]? = some u → w1.cell? ⟨g2, j, none⟩ = some u := fun j u hj => by
    have hlt := (List.getElem?_eq_some_iff.1 hj).1
    rw [encSpans_len] at hlt
    rw [← ht2, List.getElem?_take_of_lt (by omega)] at hj
    simp [World.cell?, hh2]
    simpa using hj
  have g0 := hin _ _ v0
  have g1 := hin _ _ v1
  have f0 := frozen_of_row w1 g2 (k * 2) cur _ hh2
  have f1 := frozen_of_row w1 g2 (k * 2 + 1) cur _ hh2
  have hne : g2 ≠ w.heap.size + 1 + 1 := by omega
  have hne' : w.heap.size + 1 + 1 ≠ g2 := by omega
  have k0 : (0 : Int) ≤ (k : Int) := by omega
  have k1 : (k : Int) < (b.bs.length : Int) := by omega
  refine wp_region_ext_tail 6 (by kernel_rfl) (by kernel_rfl) ?_
  simp only [List.take_succ_cons, List.take_zero, List.drop_succ_cons, List.drop_zero]
  repeat (go_big_quiet_step (fail))
  go_big_quiet_step ((go_at_call 42; exact quiet_ext (Just_any _ _)))
  repeat (go_big_quiet_step (fail))
  refine wpQuiet_nil ?_
  rintro W3 ⟨x3, hW3⟩
  have kX1 : Blk w1 (w.heap.size + 1 + 1) _ _ := (HB1.out.block _ kxl).trans kX
  have kR1 : Blk w1 (w.heap.size + 1) _ _ := (HB1.out.block _ krl).trans kR
  have kX2 : Blk (w1.setCell ⟨w.heap.size + 1 + 1, 1, none⟩ (.slice (some ⟨g2, 0, none⟩) b.bs.length c2)) (w.heap.size + 1 + 1) 26 #[.int .i64 b.n, .slice (some ⟨g2, 0, none⟩) b.bs.length c2, .slice po b.os.length co, .slice ps b.ss.length cs] := heap_setCell_same w1 _ _ _ _ _ kX1
  have kR2 := kR1.setOther (show w.heap.size + 1 ≠ w.heap.size + 1 + 1 by omega) 1 (.slice (some ⟨g2, 0, none⟩) b.bs.length c2)
  have kG2 : Blk (w1.setCell ⟨w.heap.size + 1 + 1, 1, none⟩ (.slice (some ⟨g2, 0, none⟩) b.bs.length c2)) g2 33 cur := Blk.setOther hh2 hne _ _
  have hB3 := below_ext _ x3
  rw [← hW3] at hB3
  have kX3 : Blk W3 _ _ _ := (hB3.block _ kX2.lt).trans kX2
  have kR3 : Blk W3 _ _ _ := (hB3.block _ kR2.lt).trans kR2
  have kG3 : Blk W3 g2 33 cur := (hB3.block _ kG2.lt).trans kG2
  have hX3 : Below w.heap.size w W3 := by
    rw [hW3]
    have hB := HWB.out.trans (HB1.out.mono HWB.out.size)
    (repeat (first | (with_reducible exact Below.refl _ _) | (with_reducible assumption) | ((with_reducible refine below_ext_trans ?_ ?_ _); rotate_left; focus (((try dsimp only); repeat (first | omega | simp only [World.size_alloc, World.size_setCell, World.size_drew] | (with_reducible refine le_ext_of ?_) | (with_reducible refine le_ext_add ?_))); done)) | ((with_reducible refine Below.alloc ?_ ?_ _); rotate_left; focus (((try dsimp only); repeat (first | omega | simp only [World.size_alloc, World.size_setCell, World.size_drew] | (with_reducible refine le_ext_of ?_) | (with_reducible refine le_ext_add ?_))); done)) | ((with_reducible refine Below.setCell ?_ ?_ _); rotate_left; focus (((try dsimp only); repeat (first | omega | simp only [World.size_alloc, World.size_setCell, World.size_drew] | (with_reducible refine le_ext_of ?_) | (with_reducible refine le_ext_add ?_))); done)) | (with_reducible refine Below.drew ?_)))
  have hcs := cur.size
  have n0 : cur[k * 2]? = some (.int .i64 lo) := by rw [← kG3.cell]; exact (hB3.cell (p := ⟨g2, k * 2, none⟩) kG2.lt).trans ((kG2.cell _).trans ((Blk.cell hh2 _).symm.trans g0))
  have n1 : cur[k * 2 + 1]? = some (.int .i64 hi) := by rw [← kG3.cell]; exact (hB3.cell (p := ⟨g2, k * 2 + 1, none⟩) kG2.lt).trans ((kG2.cell _).trans ((Blk.cell hh2 _).symm.trans g1))
  clear hW3 hB3 kX2 kR2 kG2 kX1 kR1 d0 d1 d2 d3 x0 x1 x2 x3 xf r0 r1 r2 r3 kl kxl krl f0 f1 g0 g1 y1 yf yl hin v0 v1 HC
  have x0 := kX3.cell 0
  have x1 := kX3.cell 1
  have x2 := kX3.cell 2
  have x3 := kX3.cell 3
  have r0 := kR3.cell 0
  have r1 := kR3.cell 1
  have r2 := kR3.cell 2
  have r3 := kR3.cell 3
  have s0 := kR3.frozen 0
  have s1 := kR3.frozen 1
  have s2 := kR3.frozen 2
  have s3 := kR3.frozen 3
  have g0 := (kG3.cell (k * 2)).trans n0
  have g1 := (kG3.cell (k * 2 + 1)).trans n1
  have f0 := kG3.frozen (k * 2)
  have f1 := kG3.frozen (k * 2 + 1)
  simp only [List.size_toArray, List.length_cons, List.length_nil, Nat.reduceAdd, Nat.reduceLT, getElem?_pos, List.getElem_toArray, List.getElem_cons_zero, List.getElem_cons_succ] at x0 x1 x2 x3 r0 r1 r2 r3
  have xl := kX3.lt
  have rl := kR3.lt
  have gl := kG3.lt
  have hne2 : g2 ≠ w.heap.size + 1 := by omega
  have hne2' : w.heap.size + 1 ≠ g2 := by omega
  have KX3 := Lib.hid kX3
  have KR3 := Lib.hid kR3
  have KG3 := Lib.hid kG3
  have HX3 := Lib.hid hX3
  have HT := Lib.hid ht2
  clear kX3 kR3 kG3 hX3 ht2
  go_wp2_with fail
  refine bodyPost_ret (v := .agg #[.int .i64 b.n, .slice (some ⟨g2, 0, none⟩) b.bs.length c2, .slice po b.os.length co, .slice ps b.ss.length cs]) (by simp [results, Tryd.results30, go_sem, r0, r1, r2, r3, s0, s1, s2, s3, rl, hne2, hne2', f0, f1, g0, g1, gl]) rfl ?_
  have kGF := (((((KG3.out.set (k * 2) (.int .i64 v)).set (k * 2 + 1) (.int .i64 v)).setOther hne2 0 (.int .i64 b.n)).setOther hne2 1 (.slice (some ⟨g2, 0, none⟩) b.bs.length c2)).setOther hne2 2 (.slice po b.os.length co)).setOther hne2 3 (.slice ps b.ss.length cs)
  have hF : Below w.heap.size w ((((((W3.setCell ⟨g2, k * 2, none⟩ (.int .i64 v)).setCell ⟨g2, k * 2 + 1, none⟩ (.int .i64 v)).setCell ⟨w.heap.size + 1, 0, none⟩ (.int .i64 b.n)).setCell ⟨w.heap.size + 1, 1, none⟩ (.slice (some ⟨g2, 0, none⟩) b.bs.length c2)).setCell ⟨w.heap.size + 1, 2, none⟩ (.slice po b.os.length co)).setCell ⟨w.heap.size + 1, 3, none⟩ (.slice ps b.ss.length cs)) := by
    have hB := HX3.out
    (repeat (first | (with_reducible exact Below.refl _ _) | (with_reducible assumption) | ((with_reducible refine below_ext_trans ?_ ?_ _); rotate_left; focus (((try dsimp only); repeat (first | omega | simp only [World.size_alloc, World.size_setCell, World.size_drew] | (with_reducible refine le_ext_of ?_) | (with_reducible refine le_ext_add ?_))); done)) | ((with_reducible refine Below.alloc ?_ ?_ _); rotate_left; focus (((try dsimp only); repeat (first | omega | simp only [World.size_alloc, World.size_setCell, World.size_drew] | (with_reducible refine le_ext_of ?_) | (with_reducible refine le_ext_add ?_))); done)) | ((with_reducible refine Below.setCell ?_ ?_ _); rotate_left; focus (((try dsimp only); repeat (first | omega | simp only [World.size_alloc, World.size_setCell, World.size_drew] | (with_reducible refine le_ext_of ?_) | (with_reducible refine le_ext_add ?_))); done)) | (with_reducible refine Below.drew ?_)))
  refine ⟨g2, c2, rfl, by omega, fun i s hs => ?_, hn2, ext_of hF⟩
  have hcl : k * 2 + 1 < cur.size := (Array.getElem?_eq_some_iff.1 n1).1
  refine ⟨g2, 0, rfl, kGF.lt, ?_, ?_⟩
  all_goals rw [Nat.zero_add, kGF.cell]
  all_goals
    by_cases e : i = k
    · subst e
      have e2 : s = (v, v) := by
        have h9 : (b.bs.set i (v, v))[i]? = some s := hs
        rw [List.getElem?_set_self hk] at h9
        exact (Option.some.inj h9).symm
      subst e2
      simp [Array.getElem?_setIfInBounds]
      try omega
    · have h9 : (b.bs.set k (v, v))[i]? = some s := hs
      rw [List.getElem?_set_ne (Ne.symm e)] at h9
      obtain ⟨u0, u1⟩ := encSpans_get b.bs i s h9
      have hil := (List.getElem?_eq_some_iff.1 h9).1
      rw [← HT.out, List.getElem?_take_of_lt (by omega)] at u0 u1
      simp only [Array.getElem?_setIfInBounds]
      rw [if_neg (by omega), if_neg (by omega)]
      first
        | simpa using u0
        | simpa using u1
theorem known_any (h : Hd) (b : Bk) (k : Nat) (v : Int) (w : World) (hb : BkAt w h b) (hk : k < b.bs.length) (h4 : b.bs.length ≤ 4) :
    Calls Tryd.prog 30 #[.agg #[.int .i64 b.n, .slice h.pb b.bs.length h.cb, .slice h.po b.os.length h.co, .slice h.ps b.ss.length h.cs], .int .i64 k, .int .i64 v] w (BkPost w (knownBk b k v)) :=
  (known_new h b k v w hb hk h4).mono fun e w' ⟨g2, c2, he, _, hs, hc, x, hx⟩ => by
    subst hx
    exact ⟨⟨some ⟨g2, 0, none⟩, c2, h.po, h.co, h.ps, h.cs⟩, by simpa [knownBk] using he, ⟨hs, hb.os.ext x, hb.ss.ext x⟩, by simpa [knownBk] using hc, _, rfl⟩
end Go.Proofs.YtmnbfjphndgmnaaDoor

namespace Go.Proofs.YtmnbfjphndgmnaaDoor
open Go Go.RowKit

theorem wpList_append_shots {ops : Array Oper} {rest : List Oper} {o : Oper} {a : Act} {Q : Exit → Act → World → Prop} {w : World} (hgd : o.guard = none) (s x : Operand)
    (ho : o.op = .call { callee := .builtin .append, args := #[s, x], argTypes := #[24, 24] }) (B : Nat)
    (v : Value) (n : Nat) (l L : List Shot) (hs : a.eval s = v) (hown : OwnShots w B v l) (hln : l.length = n) (ad : Addr) (m c : Nat) (hm : L.length = m) (hx : a.eval x = .slice (some ad) m c) (hc : ∀ j u, (encShots L)[j]? = some u → w.cell? (ad.add j) = some u)
    (hl : l.length + L.length ≤ 100000) (hB : B ≤ w.heap.size)
    (h : ∀ v' w', OwnShots w' B v' (l ++ L) → w.grownBy w' v.ownBlock → wpList Tryd.prog ops Q rest (a.put o.dst v') w') : wpList Tryd.prog ops Q (o :: rest) a w := by
  obtain ⟨i0, hi, hz0, hz1, hz2⟩ := info_parts info_shot
  subst hm hln
  refine wpList_append_own w hgd s x 24 ho B 46 i0 (.agg #[.int .i64 0, .int .i64 0, .int .i64 0, .int .i64 0]) 4 32 under_shots hi hz0 hz1 hz2 rfl (by decide) v l.length _ hs hown ad L.length c (encShots L) hx (encShots_len L) hc (encShots_one L) ?_ ?_ hB ?_
  · unfold maxLen; omega
  · omega
  · intro v' w' h1 h2 _
    refine h v' w' ?_ h2
    unfold OwnShots
    rw [encShots_append, List.length_append]
    exact h1

attribute [local go_sem] Oper.semAt_some frozen_alloc_lt
set_option maxRecDepth 100000 in
set_option maxHeartbeats 4000000 in
theorem only_new (h : Hd) (b : Bk) (k : Nat) (v : Int) (w : World) (hb : BkAt w h b) (hk : k < b.ss.length) (h5 : b.ss.length ≤ 5) :
    Calls Tryd.prog 28 #[.agg #[.int .i64 b.n, .slice h.pb b.bs.length h.cb, .slice h.po b.os.length h.co, .slice h.ps b.ss.length h.cs], .int .i64 k, .int .i64 v] w fun e w' => ∃ g2 c2 : Nat, e = .returned (.agg #[.int .i64 b.n, .slice h.pb b.bs.length h.cb, .slice h.po b.os.length h.co, .slice (some ⟨g2, 0, none⟩) b.ss.length c2]) ∧ w.heap.size ≤ g2 ∧ ShotsAt w' (some ⟨g2, 0, none⟩) (onlyBk b k v).ss ∧ ∃ x, w' = ext w x := by
  obtain ⟨pb, cb, po, co, ps, cs⟩ := h
  dsimp only
  obtain ⟨s, hsk⟩ := get_some b.ss k hk
  obtain ⟨bb, o, hps, hbb, -, -, -, -⟩ := hb.ss k _ hsk
  dsimp only at hps
  subst hps
  have HB := Lib.hid hb
  have bb1 : bb < w.heap.size + 1 := by omega
  have bb2 : bb < w.heap.size + 1 + 1 := by omega
  have bb3 : bb < w.heap.size + 1 + 1 + 1 := by omega
  clear hb
  go_enter Tryd.func28, Tryd.ntmps28
  go_upto_region 2 with fail
  generalize hW : ((w.alloc _).alloc _).alloc _ = W0
  have hWB : Below w.heap.size w W0 := by rw [← hW]; (repeat (first | (with_reducible exact Below.refl _ _) | (with_reducible assumption) | ((with_reducible refine below_ext_trans ?_ ?_ _); rotate_left; focus (((try dsimp only); repeat (first | omega | simp only [World.size_alloc, World.size_setCell, World.size_drew] | (with_reducible refine le_ext_of ?_) | (with_reducible refine le_ext_add ?_))); done)) | ((with_reducible refine Below.alloc ?_ ?_ _); rotate_left; focus (((try dsimp only); repeat (first | omega | simp only [World.size_alloc, World.size_setCell, World.size_drew] | (with_reducible refine le_ext_of ?_) | (with_reducible refine le_ext_add ?_))); done)) | ((with_reducible refine Below.setCell ?_ ?_ _); rotate_left; focus (((try dsimp only); repeat (first | omega | simp only [World.size_alloc, World.size_setCell, World.size_drew] | (with_reducible refine le_ext_of ?_) | (with_reducible refine le_ext_add ?_))); done)) | (with_reducible refine Below.drew ?_)))
  have hWs : W0.heap.size = w.heap.size + 1 + 1 + 1 := by rw [← hW]; simp
  have kB : Blk W0 w.heap.size 26 #[.int .i64 b.n, .slice pb b.bs.length cb, .slice po b.os.length co, .slice (some ⟨bb, o, none⟩) b.ss.length cs] := by rw [← hW]; exact ((Blk.new rfl).alloc _).alloc _
  have kR : Blk W0 (w.heap.size + 1) 26 #[.int .i64 0, .slice none 0 0, .slice none 0 0, .slice none 0 0] := by rw [← hW]; exact (Blk.new (by simp)).alloc _
  have kX : Blk W0 (w.heap.size + 1 + 1) 26 #[.int .i64 b.n, .slice pb b.bs.length cb, .slice po b.os.length co, .slice (some ⟨bb, o, none⟩) b.ss.length cs] := by rw [← hW]; exact Blk.new (by simp)
  have d0 := kB.cell 0
  have d1 := kB.cell 1
  have d2 := kB.cell 2
  have d3 := kB.cell 3
  have x0 := kX.cell 0
  have x1 := kX.cell 1
  have x2 := kX.cell 2
  have x3 := kX.cell 3
  have xf := kX.frozen 3
  have r0 := kR.cell 0
  have r1 := kR.cell 1
  have r2 := kR.cell 2
  have r3 := kR.cell 3
  simp only [List.size_toArray, List.length_cons, List.length_nil, Nat.reduceAdd, Nat.reduceLT, getElem?_pos, List.getElem_toArray, List.getElem_cons_zero, List.getElem_cons_succ] at d0 d1 d2 d3 x0 x1 x2 x3 r0 r1 r2 r3
  have HWB := Lib.hid hWB
  have kl := kB.lt
  have kxl := kX.lt
  have krl := kR.lt
  clear hW hWB
  have HC : Hid (∀ w', Below W0.heap.size W0 w' → ∀ j u, (encShots b.ss)[j]? = some u → w'.cell? ((⟨bb, o, none⟩ : Addr).add j) = some u) := Lib.hid (fun w' hw => ShotsAt.enc ((HB.out.ss.below HWB.out).below hw))
  go_upto_region 3 with (at_builtin; refine wpList_append_shots rfl _ _ rfl W0.heap.size (.slice (some ⟨w.heap.size + 1 + 1 + 1, 0, none⟩) 0 0) 0 [] b.ss rfl (OwnShots.of_blk (g := w.heap.size + 1 + 1 + 1) (Blk.new hWs.symm) rfl rfl (by simp) |>.mono (by omega)) rfl ⟨bb, o, none⟩ b.ss.length cs rfl rfl (HC.out _ (by (repeat (first | (with_reducible exact Below.refl _ _) | (with_reducible assumption) | ((with_reducible refine below_ext_trans ?_ ?_ _); rotate_left; focus (((try dsimp only); repeat (first | omega | simp only [World.size_alloc, World.size_setCell, World.size_drew] | (with_reducible refine le_ext_of ?_) | (with_reducible refine le_ext_add ?_))); done)) | ((with_reducible refine Below.alloc ?_ ?_ _); rotate_left; focus (((try dsimp only); repeat (first | omega | simp only [World.size_alloc, World.size_setCell, World.size_drew] | (with_reducible refine le_ext_of ?_) | (with_reducible refine le_ext_add ?_))); done)) | ((with_reducible refine Below.setCell ?_ ?_ _); rotate_left; focus (((try dsimp only); repeat (first | omega | simp only [World.size_alloc, World.size_setCell, World.size_drew] | (with_reducible refine le_ext_of ?_) | (with_reducible refine le_ext_add ?_))); done)) | (with_reducible refine Below.drew ?_))))) (by simp; omega) (by ((try dsimp only); repeat (first | omega | simp only [World.size_alloc, World.size_setCell, World.size_drew] | (with_reducible refine le_ext_of ?_) | (with_reducible refine le_ext_add ?_)))) ?_; intro v' w1 ho hg; have hB1 : Below W0.heap.size W0 w1 := Below.grown (w := W0.alloc (.cells #[] 46)) (by (repeat (first | (with_reducible exact Below.refl _ _) | (with_reducible assumption) | ((with_reducible refine below_ext_trans ?_ ?_ _); rotate_left; focus (((try dsimp only); repeat (first | omega | simp only [World.size_alloc, World.size_setCell, World.size_drew] | (with_reducible refine le_ext_of ?_) | (with_reducible refine le_ext_add ?_))); done)) | ((with_reducible refine Below.alloc ?_ ?_ _); rotate_left; focus (((try dsimp only); repeat (first | omega | simp only [World.size_alloc, World.size_setCell, World.size_drew] | (with_reducible refine le_ext_of ?_) | (with_reducible refine le_ext_add ?_))); done)) | ((with_reducible refine Below.setCell ?_ ?_ _); rotate_left; focus (((try dsimp only); repeat (first | omega | simp only [World.size_alloc, World.size_setCell, World.size_drew] | (with_reducible refine le_ext_of ?_) | (with_reducible refine le_ext_add ?_))); done)) | (with_reducible refine Below.drew ?_)))) hg (by ((try dsimp only); repeat (first | omega | simp only [World.size_alloc, World.size_setCell, World.size_drew] | (with_reducible refine le_ext_of ?_) | (with_reducible refine le_ext_add ?_)))) (fun j hj => by simp [Value.ownBlock] at hj; omega); have y1 := (hB1.cell (p := ⟨w.heap.size + 1 + 1, 3, none⟩) kxl).trans x3; have yf := (hB1.frozen (p := ⟨w.heap.size + 1 + 1, 3, none⟩) kxl).trans xf; have yl := Nat.lt_of_lt_of_le kxl hB1.size; obtain ⟨p2, c2, hv2, -⟩ := ho.at; rw [List.nil_append] at ho hv2; subst hv2; have HO := Lib.hid ho; have HB1 := Lib.hid hB1; clear ho hg hB1)
  obtain ⟨g2, cap, cur, e2, hg2, hh2, hn2, hm2, hs2, ht2⟩ : ∃ (g cap : Nat) (cur : Array Value), Value.slice p2 b.ss.length c2 = .slice (some ⟨g, 0, none⟩) b.ss.length cap ∧ W0.heap.size ≤ g ∧ w1.heap[g]? = some (.cells cur 46 (0, 0)) ∧ b.ss.length ≤ cap ∧ cap ≤ maxLen ∧ cur.size = cap * 4 ∧ cur.toList.take (b.ss.length * 4) = encShots b.ss := by
    obtain ⟨h1, h2⟩ := HO.out
    rcases h2 with ⟨h2, _⟩ | ⟨g, cap, cur, e, hg, hh, hn, hm, hs, ht⟩
    · exfalso; simp only [Value.slice.injEq] at h2; omega
    · exact ⟨g, cap, cur, e, hg, hh, hn, hm, hs, ht⟩
  simp only [Value.slice.injEq] at e2
  obtain ⟨rfl, -, rfl⟩ := e2
  have hg3 : g2 < w1.heap.size := (Array.getElem?_eq_some_iff.1 hh2).1
  obtain ⟨-, -, v0, v1⟩ := encShots_get b.ss k _ hsk
  have hin : ∀ j u, (encShots b.ss)[j]? = some u → w1.cell? ⟨g2, j, none⟩ = some u := fun j u hj => by
    have hlt := (List.getElem?_eq_some_iff.1 hj).1
    rw [encShots_len] at hlt
    rw [← ht2, List.getElem?_take_of_lt (by omega)] at hj
    simp [World.cell?, hh2]
    simpa using hj
  have g0 := hin _ _ v0
  have g1 := hin _ _ v1
  have f0 := frozen_of_row w1 g2 (k * 4 + 2) cur _ hh2
  have f1 := frozen_of_row w1 g2 (k * 4 + 3) cur _ hh2
  have hne : g2 ≠ w.heap.size + 1 + 1 := by omega
  have hne' : w.heap.size + 1 + 1 ≠ g2 := by omega
  have k0 : (0 : Int) ≤ (k : Int) := by omega
  have k1 : (k : Int) < (b.ss.length : Int) := by omega
  refine wp_region_ext_tail 7 (by kernel_rfl) (by kernel_rfl) ?_
  simp only [List.take_succ_cons, List.take_zero, List.drop_succ_cons, List.drop_zero]
  repeat (go_big_quiet_step (fail))
  go_big_quiet_step ((go_at_call 42; exact quiet_ext (Just_any _ _)))
  repeat (go_big_quiet_step (fail))
  refine wpQuiet_nil ?_
  rintro W3 ⟨x3, hW3⟩
  have kX1 : Blk w1 (w.heap.size + 1 + 1) _ _ := (HB1.out.block _ kxl).trans kX
  have kR1 : Blk w1 (w.heap.size + 1) _ _ := (HB1.out.block _ krl).trans kR
  have kX2 : Blk (w1.setCell ⟨w.heap.size + 1 + 1, 3, none⟩ (.slice (some ⟨g2, 0, none⟩) b.ss.length c2)) (w.heap.size + 1 + 1) 26 #[.int .i64 b.n, .slice pb b.bs.length cb, .slice po b.os.length co, .slice (some ⟨g2, 0, none⟩) b.ss.length c2] := heap_setCell_same w1 _ _ _ _ _ kX1
  have kR2 := kR1.setOther (show w.heap.size + 1 ≠ w.heap.size + 1 + 1 by omega) 3 (.slice (some ⟨g2, 0, none⟩) b.ss.length c2)
  have kG2 : Blk (w1.setCell ⟨w.heap.size + 1 + 1, 3, none⟩ (.slice (some ⟨g2, 0, none⟩) b.ss.length c2)) g2 46 cur := Blk.setOther hh2 hne _ _
  have hB3 := below_ext _ x3
  rw [← hW3] at hB3
  have kX3 : Blk W3 _ _ _ := (hB3.block _ kX2.lt).trans kX2
  have kR3 : Blk W3 _ _ _ := (hB3.block _ kR2.lt).trans kR2
  have kG3 : Blk W3 g2 46 cur := (hB3.block _ kG2.lt).trans kG2
  have hX3 : Below w.heap.size w W3 := by
    rw [hW3]
    have hB := HWB.out.trans (HB1.out.mono HWB.out.size)
    (repeat (first | (with_reducible exact Below.refl _ _) | (with_reducible assumption) | ((with_reducible refine below_ext_trans ?_ ?_ _); rotate_left; focus (((try dsimp only); repeat (first | omega | simp only [World.size_alloc, World.size_setCell, World.size_drew] | (with_reducible refine le_ext_of ?_) | (with_reducible refine le_ext_add ?_))); done)) | ((with_reducible refine Below.alloc ?_ ?_ _); rotate_left; focus (((try dsimp only); repeat (first | omega | simp only [World.size_alloc, World.size_setCell, World.size_drew] | (with_reducible refine le_ext_of ?_) | (with_reducible refine le_ext_add ?_))); done)) | ((with_reducible refine Below.setCell ?_ ?_ _); rotate_left; focus (((try dsimp only); repeat (first | omega | simp only [World.size_alloc, World.size_setCell, World.size_drew] | (with_reducible refine le_ext_of ?_) | (with_reducible refine le_ext_add ?_))); done)) | (with_reducible refine Below.drew ?_)))
  have n0 : cur[k * 4 + 2]? = some (.int .i64 s.lo) := by rw [← kG3.cell]; exact (hB3.cell (p := ⟨g2, k * 4 + 2, none⟩) kG2.lt).trans ((kG2.cell _).trans ((Blk.cell hh2 _).symm.trans g0))
  have n1 : cur[k * 4 + 3]? = some (.int .i64 s.hi) := by rw [← kG3.cell]; exact (hB3.cell (p := ⟨g2, k * 4 + 3, none⟩) kG2.lt).trans ((kG2.cell _).trans ((Blk.cell hh2 _).symm.trans g1))
  clear hW3 hB3 kX2 kR2 kG2 kX1 kR1 d0 d1 d2 d3 x0 x1 x2 xf r0 r1 r2 r3 kl kxl krl f0 f1 g0 g1 y1 yf yl hin v0 v1 HC
  have x0 := kX3.cell 0
  have x1 := kX3.cell 1
  have x2 := kX3.cell 2
  have x3 := kX3.cell 3
  have r0 := kR3.cell 0
  have r1 := kR3.cell 1
  have r2 := kR3.cell 2
  have r3 := kR3.cell 3
  have s0 := kR3.frozen 0
  have s1 := kR3.frozen 1
  have s2 := kR3.frozen 2
  have s3 := kR3.frozen 3
  have g0 := (kG3.cell (k * 4 + 2)).trans n0
  have g1 := (kG3.cell (k * 4 + 3)).trans n1
  have f0 := kG3.frozen (k * 4 + 2)
  have f1 := kG3.frozen (k * 4 + 3)
  simp only [List.size_toArray, List.length_cons, List.length_nil, Nat.reduceAdd, Nat.reduceLT, getElem?_pos, List.getElem_toArray, List.getElem_cons_zero, List.getElem_cons_succ] at x0 x1 x2 x3 r0 r1 r2 r3
  have xl := kX3.lt
  have rl := kR3.lt
  have gl := kG3.lt
  have hne2 : g2 ≠ w.heap.size + 1 := by omega
  have hne2' : w.heap.size + 1 ≠ g2 := by omega
  have KX3 := Lib.hid kX3
  have KR3 := Lib.hid kR3
  have KG3 := Lib.hid kG3
  have HX3 := Lib.hid hX3
  have HT := Lib.hid ht2
  clear kX3 kR3 kG3 hX3 ht2
  go_wp2_with fail
  refine bodyPost_ret (v := .agg #[.int .i64 b.n, .slice pb b.bs.length cb, .slice po b.os.length co, .slice (some ⟨g2, 0, none⟩) b.ss.length c2]) (by simp [results, Tryd.results28, go_sem, r0, r1, r2, r3, s0, s1, s2, s3, rl, hne2, hne2', f0, f1, g0, g1, gl]) rfl ?_
  have kGF := (((((KG3.out.set (k * 4 + 2) (.int .i64 v)).set (k * 4 + 3) (.int .i64 v)).setOther hne2 0 (.int .i64 b.n)).setOther hne2 1 (.slice pb b.bs.length cb)).setOther hne2 2 (.slice po b.os.length co)).setOther hne2 3 (.slice (some ⟨g2, 0, none⟩) b.ss.length c2)
  have hF : Below w.heap.size w ((((((W3.setCell ⟨g2, k * 4 + 2, none⟩ (.int .i64 v)).setCell ⟨g2, k * 4 + 3, none⟩ (.int .i64 v)).setCell ⟨w.heap.size + 1, 0, none⟩ (.int .i64 b.n)).setCell ⟨w.heap.size + 1, 1, none⟩ (.slice pb b.bs.length cb)).setCell ⟨w.heap.size + 1, 2, none⟩ (.slice po b.os.length co)).setCell ⟨w.heap.size + 1, 3, none⟩ (.slice (some ⟨g2, 0, none⟩) b.ss.length c2)) := by
    have hB := HX3.out
    (repeat (first | (with_reducible exact Below.refl _ _) | (with_reducible assumption) | ((with_reducible refine below_ext_trans ?_ ?_ _); rotate_left; focus (((try dsimp only); repeat (first | omega | simp only [World.size_alloc, World.size_setCell, World.size_drew] | (with_reducible refine le_ext_of ?_) | (with_reducible refine le_ext_add ?_))); done)) | ((with_reducible refine Below.alloc ?_ ?_ _); rotate_left; focus (((try dsimp only); repeat (first | omega | simp only [World.size_alloc, World.size_setCell, World.size_drew] | (with_reducible refine le_ext_of ?_) | (with_reducible refine le_ext_add ?_))); done)) | ((with_reducible refine Below.setCell ?_ ?_ _); rotate_left; focus (((try dsimp only); repeat (first | omega | simp only [World.size_alloc, World.size_setCell, World.size_drew] | (with_reducible refine le_ext_of ?_) | (with_reducible refine le_ext_add ?_))); done)) | (with_reducible refine Below.drew ?_)))
  refine ⟨g2, c2, rfl, by omega, fun i u hu => ?_, ext_of hF⟩
  have hcl : k * 4 + 3 < cur.size := (Array.getElem?_eq_some_iff.1 n1).1
  refine ⟨g2, 0, rfl, kGF.lt, ?_⟩
  rw [Nat.zero_add, kGF.cell, kGF.cell, kGF.cell, kGF.cell]
  have es : b.ss.getD k ⟨0, 0, 0, 0⟩ = s := by simp [List.getD_eq_getElem?_getD, hsk]
  have old : ∀ i t, b.ss[i]? = some t → cur[i * 4]? = some (.int .i64 t.st) ∧ cur[i * 4 + 1]? = some (.int .i64 t.co) ∧ cur[i * 4 + 2]? = some (.int .i64 t.lo) ∧ cur[i * 4 + 3]? = some (.int .i64 t.hi) := fun i t ht => by
    obtain ⟨u0, u1, u2, u3⟩ := encShots_get b.ss i t ht
    have hil := (List.getElem?_eq_some_iff.1 ht).1
    rw [← HT.out, List.getElem?_take_of_lt (by omega)] at u0 u1 u2 u3
    exact ⟨by simpa using u0, by simpa using u1, by simpa using u2, by simpa using u3⟩
  by_cases e : i = k
  · subst e
    have e2 : u = ⟨s.st, s.co, v, v⟩ := by
      have h9 : (b.ss.set i _)[i]? = some u := hu
      rw [List.getElem?_set_self hk, es] at h9
      exact (Option.some.inj h9).symm
    subst e2
    obtain ⟨a0, a1, -, -⟩ := old i s hsk
    simp only [Array.getElem?_setIfInBounds, Array.size_setIfInBounds]
    refine ⟨?_, ?_, ?_, ?_⟩
    · rw [if_neg (by omega), if_neg (by omega)]; exact a0
    · rw [if_neg (by omega), if_neg (by omega)]; exact a1
    · rw [if_neg (by omega), if_pos trivial, if_pos (by omega)]
    · rw [if_pos trivial, if_pos (by omega)]
  · have h9 : (b.ss.set k _)[i]? = some u := hu
    rw [List.getElem?_set_ne (Ne.symm e)] at h9
    obtain ⟨a0, a1, a2, a3⟩ := old i u h9
    simp only [Array.getElem?_setIfInBounds, Array.size_setIfInBounds]
    refine ⟨?_, ?_, ?_, ?_⟩
    · rw [if_neg (by omega), if_neg (by omega)]; exact a0
    · rw [if_neg (by omega), if_neg (by omega)]; exact a1
    · rw [if_neg (by omega), if_neg (by omega)]; exact a2
    · rw [if_neg (by omega), if_neg (by omega)]; exact a3
theorem only_any (h : Hd) (b : Bk) (k : Nat) (v : Int) (w : World) (hb : BkAt w h b) (hk : k < b.ss.length) (h5 : b.ss.length ≤ 5) (hcap : b.bs.length ≤ h.cb) :
    Calls Tryd.prog 28 #[.agg #[.int .i64 b.n, .slice h.pb b.bs.length h.cb, .slice h.po b.os.length h.co, .slice h.ps b.ss.length h.cs], .int .i64 k, .int .i64 v] w (BkPost w (onlyBk b k v)) :=
  (only_new h b k v w hb hk h5).mono fun e w' ⟨g2, c2, he, _, hs, x, hx⟩ => by
    subst hx
    exact ⟨⟨h.pb, h.cb, h.po, h.co, some ⟨g2, 0, none⟩, c2⟩, by simpa [onlyBk] using he, ⟨hb.bs.ext x, hb.os.ext x, hs⟩, by simpa [onlyBk] using hcap, _, rfl⟩
end Go.Proofs.YtmnbfjphndgmnaaDoor

namespace Go.Proofs.YtmnbfjphndgmnaaDoor
open Go Go.RowKit

set_option maxHeartbeats 1000000 in
theorem Place_no (p : Option Addr) (c : Nat) (l : List Int) (x : Int) (w : World) (hl : IntsAt w p l) (hb : (l.length : Int) ≤ 1000) (hx : x ∉ l) :
    Calls Tryd.prog 20 #[.slice p l.length c, .int .i64 x] w fun e w' => e = .returned (.int .i64 (-1)) ∧ w = w' := by
  have H0 := Lib.hid hx
  clear hx
  go_enter Tryd.func20, Tryd.ntmps20
  go_wp2_with fail
  go_loop [5] (fun i => ∃ k : Nat, k ≤ l.length ∧ i = .int .i64 k) (fun i => l.length - (intOf i).toNat)
  case atStart => exact ⟨0, by omega, rfl⟩
  case round =>
    obtain ⟨k, hk, rfl⟩ := hrel
    by_cases hlt : k < l.length
    · obtain ⟨y, hy⟩ := get_some l k hlt
      obtain ⟨b1, o1, rfl, hb1, c1⟩ := hl k y hy
      have hxy : (y == x) = false := by
        cases hc : (y == x) with
        | false => rfl
        | true => exact absurd (by rw [← eq_of_beq hc]; exact List.mem_of_getElem? hy) H0.out
      clear hy
      go_wp2_with fail
      go_round
      case rel => exact ⟨k + 1, by omega, by go_num⟩
      case measure => simp [intOf]; omega
    · go_wp2_with fail
      go_ret
      exact ⟨rfl, rfl⟩
theorem Place_none (p : Option Addr) (c : Nat) (l : List Int) (n : Nat) (x : Int) (w : World) (hl : IntsAt w p l) (hb : (l.length : Int) ≤ 1000) (hx : x ∉ l) (hn : l.length = n) :
    Calls Tryd.prog 20 #[.slice p n c, .int .i64 x] w fun e w' => e = .returned (.int .i64 (-1)) ∧ w = w' := by
  subst hn; exact Place_no p c l x w hl hb hx
end Go.Proofs.YtmnbfjphndgmnaaDoor

