/- Contract of hangs. -/
import Derived.Test.YtdmicngnbcdkdaaDoorRTj
import Derived.Test.YtdmicngnbcdkdaaDoorRTq
import Derived.Test.YtdmicngnbcdkdaaDoorRIt
import Derived.Test.YtdmicngnbcdkdaaDoorRUa
import Derived.Deep.DeepCutAuto
import Derived.Deep.CutRange
set_option linter.unusedSimpArgs false
set_option linter.unusedVariables false
namespace Go.Proofs.YtdmicngnbcdkdaaDoor
open Go Go.RowKit Go.Maps

theorem blk_new1 {w : World} {o : Obj} {cs : Array Value} {t : TypeId} : Blk ((w.alloc o).alloc (.cells cs t)) (w.heap.size + 1) t cs := Blk.new (by simp)
/-- The two copies of what is soonest. -/
def TwoCut (W : World) (b : Bk) (s7 s8 : Value) (wx : World) : Prop :=
  ∃ g1 g2 : Nat, s7 = .pointer (some ⟨g1, 0, none⟩) ∧ s8 = .pointer (some ⟨g2, 0, none⟩) ∧
    Blk wx g1 78 #[.int .i64 (kspec b.bs 2 0 0), .int .i64 (kspec b.bs 2 0 1), .int .i64 (kspec b.bs 2 0 2), .int .i64 (kspec b.bs 2 0 3)] ∧
    Blk wx g2 78 #[.int .i64 (kspec b.bs 2 0 0), .int .i64 (kspec b.bs 2 0 1), .int .i64 (kspec b.bs 2 0 2), .int .i64 (kspec b.bs 2 0 3)] ∧
    g1 ≠ g2 ∧ W.heap.size ≤ g1 ∧ W.heap.size ≤ g2 ∧ Below W.heap.size W wx

/-- The cell j of what is soonest, but latest of the bound k. -/
def ltc (b : Bk) (k j : Nat) : Int := if j = k then kspec b.bs 2 0 (4 + k) else kspec b.bs 2 0 j

theorem ltc_tl (b : Bk) (k : Nat) (h4 : b.bs.length ≤ 4) (hk : k < b.bs.length) : ∃ v : List Int, v.length = b.bs.length ∧ [ltc b k 0, ltc b k 1, ltc b k 2, ltc b k 3] = tl v := by
  refine ⟨(b.bs.map Prod.fst).set k ((b.bs.map Prod.snd).getD k 1440), by simp, ?_⟩
  have hk4 : k = 0 ∨ k = 1 ∨ k = 2 ∨ k = 3 := by omega
  rcases four b.bs h4 with e | ⟨x, e⟩ | ⟨x, y, e⟩ | ⟨x, y, z, e⟩ | ⟨x, y, z, u, e⟩ <;> rw [e] at hk <;> simp only [List.length_nil, List.length_cons] at hk <;> rcases hk4 with rfl | rfl | rfl | rfl <;> first
    | omega
    | simp [ltc, e, tl, kspec2, padv]
def okB (b : Bk) (st : Nat) (s : Shot) (t : Nat) : Bool := ownf b.os st t == s.co
/-- Does the company at a minute hang on a bound? -/
def hdB (b : Bk) (st k : Nat) (s : Shot) (m : Int) : Bool := okB b st s (cnt (soonL b.bs) m) != okB b st s (cnt [ltc b k 0, ltc b k 1, ltc b k 2, ltc b k 3] m)
def hangB (b : Bk) (st k : Nat) (s : Shot) : Bool := (mins s.lo s.hi).any (hdB b st k s)
theorem mem_mins {lo hi m : Int} (h : m ∈ mins lo hi) : lo ≤ m ∧ m ≤ hi := by
  simp only [mins, mupto, List.mem_map, List.mem_range] at h
  omega

attribute [local go_sem] Oper.semAt_some
set_option maxHeartbeats 4000000 in
theorem hangs_any (h : Hd) (b : Bk) (B : Nat) (i st k : Nat) (s : Shot) (w : World) (hk : CoveOK w h b B) (hi : b.ss[i]? = some s) (hst : s.st = st) (hkb : k < b.bs.length) :
    Calls Tryd.prog 56 #[.agg #[.int .i64 b.n, .slice h.pb b.bs.length h.cb, .slice h.po b.os.length h.co, .slice h.ps b.ss.length h.cs, .int .i64 (kspec b.bs 2 0 0), .int .i64 (kspec b.bs 2 0 1), .int .i64 (kspec b.bs 2 0 2), .int .i64 (kspec b.bs 2 0 3), .int .i64 (kspec b.bs 2 0 4), .int .i64 (kspec b.bs 2 0 5), .int .i64 (kspec b.bs 2 0 6), .int .i64 (kspec b.bs 2 0 7), .map (some B)], .int .i64 i, .int .i64 k] w fun e w' => e = .returned (.bool (hangB b st k s)) ∧ ∃ x, w' = ext w x := by
  obtain ⟨bb, o, hp, hlt, c0, c1, c2, c3⟩ := hk.bk.ss i s hi
  rw [hst] at c0
  have hil : (i : Int) < (b.ss.length : Int) := by
    have := (List.getElem?_eq_some_iff.1 hi).1; omega
  have hi0 : (0 : Int) ≤ (i : Int) := by omega
  have HI := Lib.hid hi
  have HKw := Lib.hid hk
  obtain ⟨h_pb, h_cb, h_po, h_co, h_ps, h_cs⟩ := h
  dsimp only at hp
  subst hp
  clear c1 c2 c3 hi
  refine (callsIn_wide (n := 9)).1 ?_
  refine callsIn_of_wp_marks Tryd.func56 rfl trivial ?_ rfl
  simp only [Tryd.ntmps56, List.size_toArray, List.length_cons, List.length_nil, Nat.reduceAdd, Nat.reduceSub, Array.replicate_succ, Array.replicate_zero, List.push_toArray, List.append_toArray, List.nil_append, List.cons_append]
  refine wpIn_wide.2 ?_
  go_upto_region 1 with fail
  generalize hW : (w.alloc _).alloc _ = W
  have hWB : Below w.heap.size w W := by rw [← hW]; (repeat (first | (with_reducible exact Below.refl _ _) | (with_reducible assumption) | ((with_reducible refine below_ext_trans ?_ ?_ _); rotate_left; focus (((try dsimp only); repeat (first | omega | simp only [World.size_alloc, World.size_setCell, World.size_drew] | (with_reducible refine le_ext_of ?_) | (with_reducible refine le_ext_add ?_))); done)) | ((with_reducible refine Below.alloc ?_ ?_ _); rotate_left; focus (((try dsimp only); repeat (first | omega | simp only [World.size_alloc, World.size_setCell, World.size_drew] | (with_reducible refine le_ext_of ?_) | (with_reducible refine le_ext_add ?_))); done)) | ((with_reducible refine Below.setCell ?_ ?_ _); rotate_left; focus (((try dsimp only); repeat (first | omega | simp only [World.size_alloc, World.size_setCell, World.size_drew] | (with_reducible refine le_ext_of ?_) | (with_reducible refine le_ext_add ?_))); done)) | (with_reducible refine Below.drew ?_)))
  have hWs : W.heap.size = w.heap.size + 2 := by rw [← hW]; simp
  have kb1 : Blk W w.heap.size 83 #[.int .i64 b.n, .slice h_pb b.bs.length h_cb, .slice h_po b.os.length h_co, .slice (some ⟨bb, o, none⟩) b.ss.length h_cs, .int .i64 (kspec b.bs 2 0 0), .int .i64 (kspec b.bs 2 0 1), .int .i64 (kspec b.bs 2 0 2), .int .i64 (kspec b.bs 2 0 3), .int .i64 (kspec b.bs 2 0 4), .int .i64 (kspec b.bs 2 0 5), .int .i64 (kspec b.bs 2 0 6), .int .i64 (kspec b.bs 2 0 7), .map (some B)] := by rw [← hW]; exact (Blk.new rfl).alloc _
  have kS : Hid (∀ w', Below W.heap.size W w' → w'.cell? ⟨w.heap.size, 4, none⟩ = some (.int .i64 (kspec b.bs 2 0 0)) ∧ w'.cell? ⟨w.heap.size, 5, none⟩ = some (.int .i64 (kspec b.bs 2 0 1)) ∧ w'.cell? ⟨w.heap.size, 6, none⟩ = some (.int .i64 (kspec b.bs 2 0 2)) ∧ w'.cell? ⟨w.heap.size, 7, none⟩ = some (.int .i64 (kspec b.bs 2 0 3))) := Lib.hid (fun w' hw => by
    have kb1' := (hw.block _ kb1.lt).trans kb1
    have kb1' : Blk w' w.heap.size 83 #[.int .i64 b.n, .slice h_pb b.bs.length h_cb, .slice h_po b.os.length h_co, .slice (some ⟨bb, o, none⟩) b.ss.length h_cs, .int .i64 (kspec b.bs 2 0 0), .int .i64 (kspec b.bs 2 0 1), .int .i64 (kspec b.bs 2 0 2), .int .i64 (kspec b.bs 2 0 3), .int .i64 (kspec b.bs 2 0 4), .int .i64 (kspec b.bs 2 0 5), .int .i64 (kspec b.bs 2 0 6), .int .i64 (kspec b.bs 2 0 7), .map (some B)] := kb1'
    refine ⟨?_, ?_, ?_, ?_⟩ <;> (rw [kb1'.cell]; rfl))
  have HK := Lib.hid (hk.below hWB)
  have HW := Lib.hid hWB
  have HWs := Lib.hid hWs
  have KB1 := Lib.hid kb1
  have kb6 : Blk W (w.heap.size + 1) 4 #[.bool false] := by rw [← hW]; exact Blk.new (by simp)
  have KB6 := Lib.hid kb6
  clear hW hk hWB kb1 kb6 hWs
  go_cut [7, 8] from 12 to 17 (fun s7 s8 wx => TwoCut W b s7 s8 wx)
  case first =>
    go_region_held3 (fun w' => w'.cell? ⟨w.heap.size, 4, none⟩ = some (.int .i64 (kspec b.bs 2 0 0)) ∧ w'.cell? ⟨w.heap.size, 5, none⟩ = some (.int .i64 (kspec b.bs 2 0 1)) ∧ w'.cell? ⟨w.heap.size, 6, none⟩ = some (.int .i64 (kspec b.bs 2 0 2)) ∧ w'.cell? ⟨w.heap.size, 7, none⟩ = some (.int .i64 (kspec b.bs 2 0 3)))
      ((exact kS.out _ (by (repeat (first | (with_reducible exact Below.refl _ _) | (with_reducible assumption) | ((with_reducible refine below_ext_trans ?_ ?_ _); rotate_left; focus (((try dsimp only); repeat (first | omega | simp only [World.size_alloc, World.size_setCell, World.size_drew] | (with_reducible refine le_ext_of ?_) | (with_reducible refine le_ext_add ?_))); done)) | ((with_reducible refine Below.alloc ?_ ?_ _); rotate_left; focus (((try dsimp only); repeat (first | omega | simp only [World.size_alloc, World.size_setCell, World.size_drew] | (with_reducible refine le_ext_of ?_) | (with_reducible refine le_ext_add ?_))); done)) | ((with_reducible refine Below.setCell ?_ ?_ _); rotate_left; focus (((try dsimp only); repeat (first | omega | simp only [World.size_alloc, World.size_setCell, World.size_drew] | (with_reducible refine le_ext_of ?_) | (with_reducible refine le_ext_add ?_))); done)) | (with_reducible refine Below.drew ?_))))))
      (fail)
    all_goals (go_wp2_with fail; go_meet)
    · exact ⟨_, _, rfl, rfl, ((Blk.new rfl).alloc _).drew, (Blk.new (by simp)).drew, by omega, by omega, by omega, by (repeat (first | (with_reducible exact Below.refl _ _) | (with_reducible assumption) | ((with_reducible refine below_ext_trans ?_ ?_ _); rotate_left; focus (((try dsimp only); repeat (first | omega | simp only [World.size_alloc, World.size_setCell, World.size_drew] | (with_reducible refine le_ext_of ?_) | (with_reducible refine le_ext_add ?_))); done)) | ((with_reducible refine Below.alloc ?_ ?_ _); rotate_left; focus (((try dsimp only); repeat (first | omega | simp only [World.size_alloc, World.size_setCell, World.size_drew] | (with_reducible refine le_ext_of ?_) | (with_reducible refine le_ext_add ?_))); done)) | ((with_reducible refine Below.setCell ?_ ?_ _); rotate_left; focus (((try dsimp only); repeat (first | omega | simp only [World.size_alloc, World.size_setCell, World.size_drew] | (with_reducible refine le_ext_of ?_) | (with_reducible refine le_ext_add ?_))); done)) | (with_reducible refine Below.drew ?_)))⟩
    · exact ⟨_, _, rfl, rfl, (Blk.new (by simp)).drew, ((Blk.new rfl).alloc _).drew, by omega, by omega, by omega, by (repeat (first | (with_reducible exact Below.refl _ _) | (with_reducible assumption) | ((with_reducible refine below_ext_trans ?_ ?_ _); rotate_left; focus (((try dsimp only); repeat (first | omega | simp only [World.size_alloc, World.size_setCell, World.size_drew] | (with_reducible refine le_ext_of ?_) | (with_reducible refine le_ext_add ?_))); done)) | ((with_reducible refine Below.alloc ?_ ?_ _); rotate_left; focus (((try dsimp only); repeat (first | omega | simp only [World.size_alloc, World.size_setCell, World.size_drew] | (with_reducible refine le_ext_of ?_) | (with_reducible refine le_ext_add ?_))); done)) | ((with_reducible refine Below.setCell ?_ ?_ _); rotate_left; focus (((try dsimp only); repeat (first | omega | simp only [World.size_alloc, World.size_setCell, World.size_drew] | (with_reducible refine le_ext_of ?_) | (with_reducible refine le_ext_add ?_))); done)) | (with_reducible refine Below.drew ?_)))⟩
  case rest =>
    obtain ⟨g1, g2, rfl, rfl, hb1, hb2, hne, hg1, hg2, hbel⟩ := hcut
    have kb1 : Blk wc w.heap.size 83 #[.int .i64 b.n, .slice h_pb b.bs.length h_cb, .slice h_po b.os.length h_co, .slice (some ⟨bb, o, none⟩) b.ss.length h_cs, .int .i64 (kspec b.bs 2 0 0), .int .i64 (kspec b.bs 2 0 1), .int .i64 (kspec b.bs 2 0 2), .int .i64 (kspec b.bs 2 0 3), .int .i64 (kspec b.bs 2 0 4), .int .i64 (kspec b.bs 2 0 5), .int .i64 (kspec b.bs 2 0 6), .int .i64 (kspec b.bs 2 0 7), .map (some B)] := (hbel.block _ KB1.out.lt).trans KB1.out
    have hws := HWs.out
    go_upto_region 2 with fail
    go_cut [8] from 18 to 24 (fun s8 wx => s8 = .pointer (some ⟨g2, 0, none⟩) ∧ Blk wx g1 78 #[.int .i64 (kspec b.bs 2 0 0), .int .i64 (kspec b.bs 2 0 1), .int .i64 (kspec b.bs 2 0 2), .int .i64 (kspec b.bs 2 0 3)] ∧ Blk wx g2 78 #[.int .i64 (ltc b k 0), .int .i64 (ltc b k 1), .int .i64 (ltc b k 2), .int .i64 (ltc b k 3)] ∧ Below W.heap.size W wx)
    case first =>
      have f2 := hb2.frozen 0
      have f21 := hb2.frozen 1
      have f22 := hb2.frozen 2
      have f23 := hb2.frozen 3
      have hl2 := hb2.lt
      have hl1 := kb1.lt
      have c20 := hb2.cell 0
      have c21 := hb2.cell 1
      have c22 := hb2.cell 2
      have c23 := hb2.cell 3
      have c8 := kb1.cell 8
      have c9 := kb1.cell 9
      have c10 := kb1.cell 10
      have c11 := kb1.cell 11
      simp only [List.size_toArray, List.length_cons, List.length_nil, Nat.reduceAdd, Nat.reduceLT, getElem?_pos, List.getElem_toArray, List.getElem_cons_zero, List.getElem_cons_succ] at c8 c9 c10 c11 c20 c21 c22 c23
      have hk4 : k < 4 := by
        have := (bookB_rows HK.out.ok).2.2.1
        omega
      have HB1 := Lib.hid hb1
      have HB2 := Lib.hid hb2
      have HBEL := Lib.hid hbel
      clear hb1 hb2 hbel kb1
      rcases (by omega : k = 0 ∨ k = 1 ∨ k = 2 ∨ k = 3) with rfl | rfl | rfl | rfl
      all_goals (go_wp2_with fail; go_meet)
      · have hB := HBEL.out
        refine ⟨rfl, HB1.out.setOther hne _ _, ?_, by (repeat (first | (with_reducible exact Below.refl _ _) | (with_reducible assumption) | ((with_reducible refine below_ext_trans ?_ ?_ _); rotate_left; focus (((try dsimp only); repeat (first | omega | simp only [World.size_alloc, World.size_setCell, World.size_drew] | (with_reducible refine le_ext_of ?_) | (with_reducible refine le_ext_add ?_))); done)) | ((with_reducible refine Below.alloc ?_ ?_ _); rotate_left; focus (((try dsimp only); repeat (first | omega | simp only [World.size_alloc, World.size_setCell, World.size_drew] | (with_reducible refine le_ext_of ?_) | (with_reducible refine le_ext_add ?_))); done)) | ((with_reducible refine Below.setCell ?_ ?_ _); rotate_left; focus (((try dsimp only); repeat (first | omega | simp only [World.size_alloc, World.size_setCell, World.size_drew] | (with_reducible refine le_ext_of ?_) | (with_reducible refine le_ext_add ?_))); done)) | (with_reducible refine Below.drew ?_)))⟩
        have h1 := HB2.out.set 0 (.int .i64 (kspec b.bs 2 0 4))
        simpa [ltc] using h1
      · have hB := HBEL.out
        refine ⟨rfl, HB1.out.setOther hne _ _, ?_, by (repeat (first | (with_reducible exact Below.refl _ _) | (with_reducible assumption) | ((with_reducible refine below_ext_trans ?_ ?_ _); rotate_left; focus (((try dsimp only); repeat (first | omega | simp only [World.size_alloc, World.size_setCell, World.size_drew] | (with_reducible refine le_ext_of ?_) | (with_reducible refine le_ext_add ?_))); done)) | ((with_reducible refine Below.alloc ?_ ?_ _); rotate_left; focus (((try dsimp only); repeat (first | omega | simp only [World.size_alloc, World.size_setCell, World.size_drew] | (with_reducible refine le_ext_of ?_) | (with_reducible refine le_ext_add ?_))); done)) | ((with_reducible refine Below.setCell ?_ ?_ _); rotate_left; focus (((try dsimp only); repeat (first | omega | simp only [World.size_alloc, World.size_setCell, World.size_drew] | (with_reducible refine le_ext_of ?_) | (with_reducible refine le_ext_add ?_))); done)) | (with_reducible refine Below.drew ?_)))⟩
        have h1 := HB2.out.set 1 (.int .i64 (kspec b.bs 2 0 5))
        simpa [ltc] using h1
      · have hB := HBEL.out
        refine ⟨rfl, HB1.out.setOther hne _ _, ?_, by (repeat (first | (with_reducible exact Below.refl _ _) | (with_reducible assumption) | ((with_reducible refine below_ext_trans ?_ ?_ _); rotate_left; focus (((try dsimp only); repeat (first | omega | simp only [World.size_alloc, World.size_setCell, World.size_drew] | (with_reducible refine le_ext_of ?_) | (with_reducible refine le_ext_add ?_))); done)) | ((with_reducible refine Below.alloc ?_ ?_ _); rotate_left; focus (((try dsimp only); repeat (first | omega | simp only [World.size_alloc, World.size_setCell, World.size_drew] | (with_reducible refine le_ext_of ?_) | (with_reducible refine le_ext_add ?_))); done)) | ((with_reducible refine Below.setCell ?_ ?_ _); rotate_left; focus (((try dsimp only); repeat (first | omega | simp only [World.size_alloc, World.size_setCell, World.size_drew] | (with_reducible refine le_ext_of ?_) | (with_reducible refine le_ext_add ?_))); done)) | (with_reducible refine Below.drew ?_)))⟩
        have h1 := HB2.out.set 2 (.int .i64 (kspec b.bs 2 0 6))
        simpa [ltc] using h1
      · have hB := HBEL.out
        refine ⟨rfl, HB1.out.setOther hne _ _, ?_, by (repeat (first | (with_reducible exact Below.refl _ _) | (with_reducible assumption) | ((with_reducible refine below_ext_trans ?_ ?_ _); rotate_left; focus (((try dsimp only); repeat (first | omega | simp only [World.size_alloc, World.size_setCell, World.size_drew] | (with_reducible refine le_ext_of ?_) | (with_reducible refine le_ext_add ?_))); done)) | ((with_reducible refine Below.alloc ?_ ?_ _); rotate_left; focus (((try dsimp only); repeat (first | omega | simp only [World.size_alloc, World.size_setCell, World.size_drew] | (with_reducible refine le_ext_of ?_) | (with_reducible refine le_ext_add ?_))); done)) | ((with_reducible refine Below.setCell ?_ ?_ _); rotate_left; focus (((try dsimp only); repeat (first | omega | simp only [World.size_alloc, World.size_setCell, World.size_drew] | (with_reducible refine le_ext_of ?_) | (with_reducible refine le_ext_add ?_))); done)) | (with_reducible refine Below.drew ?_)))⟩
        have h1 := HB2.out.set 3 (.int .i64 (kspec b.bs 2 0 7))
        simpa [ltc] using h1
    case rest =>
      obtain ⟨rfl, hb1', hb2', hbel'⟩ := hcut
      clear hb1 hb2 hbel kb1 kS
      have kb1 := (hbel'.block _ KB1.out.lt).trans KB1.out
      have kb1 : Blk wc w.heap.size 83 #[.int .i64 b.n, .slice h_pb b.bs.length h_cb, .slice h_po b.os.length h_co, .slice (some ⟨bb, o, none⟩) b.ss.length h_cs, .int .i64 (kspec b.bs 2 0 0), .int .i64 (kspec b.bs 2 0 1), .int .i64 (kspec b.bs 2 0 2), .int .i64 (kspec b.bs 2 0 3), .int .i64 (kspec b.bs 2 0 4), .int .i64 (kspec b.bs 2 0 5), .int .i64 (kspec b.bs 2 0 6), .int .i64 (kspec b.bs 2 0 7), .map (some B)] := kb1
      have c0' : wc.cell? ⟨bb, o + i * 4, none⟩ = some (.int .i64 st) := by
        rw [hbel'.cell (p := ⟨bb, o + i * 4, none⟩) (by dsimp only; omega), HW.out.cell (p := ⟨bb, o + i * 4, none⟩) hlt]; exact c0
      have kS : Hid (∀ w', Below wc.heap.size wc w' → w'.cell? ⟨w.heap.size, 0, none⟩ = some (.int .i64 b.n) ∧ w'.cell? ⟨w.heap.size, 1, none⟩ = some (.slice h_pb b.bs.length h_cb) ∧ w'.cell? ⟨w.heap.size, 2, none⟩ = some (.slice h_po b.os.length h_co) ∧ w'.cell? ⟨w.heap.size, 3, none⟩ = some (.slice (some ⟨bb, o, none⟩) b.ss.length h_cs) ∧ w'.cell? ⟨w.heap.size, 4, none⟩ = some (.int .i64 (kspec b.bs 2 0 0)) ∧ w'.cell? ⟨w.heap.size, 5, none⟩ = some (.int .i64 (kspec b.bs 2 0 1)) ∧ w'.cell? ⟨w.heap.size, 6, none⟩ = some (.int .i64 (kspec b.bs 2 0 2)) ∧ w'.cell? ⟨w.heap.size, 7, none⟩ = some (.int .i64 (kspec b.bs 2 0 3)) ∧ w'.cell? ⟨w.heap.size, 8, none⟩ = some (.int .i64 (kspec b.bs 2 0 4)) ∧ w'.cell? ⟨w.heap.size, 9, none⟩ = some (.int .i64 (kspec b.bs 2 0 5)) ∧ w'.cell? ⟨w.heap.size, 10, none⟩ = some (.int .i64 (kspec b.bs 2 0 6)) ∧ w'.cell? ⟨w.heap.size, 11, none⟩ = some (.int .i64 (kspec b.bs 2 0 7)) ∧ w'.cell? ⟨w.heap.size, 12, none⟩ = some (.map (some B)) ∧ w'.cell? ⟨bb, o + i * 4, none⟩ = some (.int .i64 st)) := Lib.hid (fun w' hw => by
        have kb1' : Blk w' w.heap.size 83 #[.int .i64 b.n, .slice h_pb b.bs.length h_cb, .slice h_po b.os.length h_co, .slice (some ⟨bb, o, none⟩) b.ss.length h_cs, .int .i64 (kspec b.bs 2 0 0), .int .i64 (kspec b.bs 2 0 1), .int .i64 (kspec b.bs 2 0 2), .int .i64 (kspec b.bs 2 0 3), .int .i64 (kspec b.bs 2 0 4), .int .i64 (kspec b.bs 2 0 5), .int .i64 (kspec b.bs 2 0 6), .int .i64 (kspec b.bs 2 0 7), .map (some B)] := (hw.block _ kb1.lt).trans kb1
        refine ⟨?_, ?_, ?_, ?_, ?_, ?_, ?_, ?_, ?_, ?_, ?_, ?_, ?_, ?_⟩
        all_goals first
          | (rw [kb1'.cell]; rfl)
          | (rw [hw.cell (p := ⟨bb, o + i * 4, none⟩) (by have := hbel'.size; dsimp only; omega)]; exact c0'))
      have HK2 := Lib.hid (HK.out.below hbel')
      have HBEL := Lib.hid hbel'
      have HB1 := Lib.hid hb1'
      have HB2 := Lib.hid hb2'
      have hws2 := hbel'.size
      clear kb1 c0' hb1' hb2' hbel'
      go_upto_region 3 with fail
      go_cut [9, 10] from 25 to 35 (fun s9 s10 wx => ∃ g3 g4 : Nat, s9 = .pointer (some ⟨g3, 0, none⟩) ∧ s10 = .pointer (some ⟨g4, 0, none⟩) ∧ Blk wx g3 3 #[.int .i64 st] ∧ Blk wx g4 111 #[.func (.func 78) #[.agg #[.int .i64 st, .int .i64 s.co, .int .i64 s.lo, .int .i64 s.hi, .map (some B)]] #[]] ∧ wc.heap.size ≤ g3 ∧ wc.heap.size ≤ g4 ∧ g3 ≠ g4 ∧ Below wc.heap.size wc wx)
      case first =>
        go_region_held3 (fun w' => w'.cell? ⟨w.heap.size, 0, none⟩ = some (.int .i64 b.n) ∧ w'.cell? ⟨w.heap.size, 1, none⟩ = some (.slice h_pb b.bs.length h_cb) ∧ w'.cell? ⟨w.heap.size, 2, none⟩ = some (.slice h_po b.os.length h_co) ∧ w'.cell? ⟨w.heap.size, 3, none⟩ = some (.slice (some ⟨bb, o, none⟩) b.ss.length h_cs) ∧ w'.cell? ⟨w.heap.size, 4, none⟩ = some (.int .i64 (kspec b.bs 2 0 0)) ∧ w'.cell? ⟨w.heap.size, 5, none⟩ = some (.int .i64 (kspec b.bs 2 0 1)) ∧ w'.cell? ⟨w.heap.size, 6, none⟩ = some (.int .i64 (kspec b.bs 2 0 2)) ∧ w'.cell? ⟨w.heap.size, 7, none⟩ = some (.int .i64 (kspec b.bs 2 0 3)) ∧ w'.cell? ⟨w.heap.size, 8, none⟩ = some (.int .i64 (kspec b.bs 2 0 4)) ∧ w'.cell? ⟨w.heap.size, 9, none⟩ = some (.int .i64 (kspec b.bs 2 0 5)) ∧ w'.cell? ⟨w.heap.size, 10, none⟩ = some (.int .i64 (kspec b.bs 2 0 6)) ∧ w'.cell? ⟨w.heap.size, 11, none⟩ = some (.int .i64 (kspec b.bs 2 0 7)) ∧ w'.cell? ⟨w.heap.size, 12, none⟩ = some (.map (some B)) ∧ w'.cell? ⟨bb, o + i * 4, none⟩ = some (.int .i64 st))
          ((exact kS.out _ (by (repeat (first | (with_reducible exact Below.refl _ _) | (with_reducible assumption) | ((with_reducible refine below_ext_trans ?_ ?_ _); rotate_left; focus (((try dsimp only); repeat (first | omega | simp only [World.size_alloc, World.size_setCell, World.size_drew] | (with_reducible refine le_ext_of ?_) | (with_reducible refine le_ext_add ?_))); done)) | ((with_reducible refine Below.alloc ?_ ?_ _); rotate_left; focus (((try dsimp only); repeat (first | omega | simp only [World.size_alloc, World.size_setCell, World.size_drew] | (with_reducible refine le_ext_of ?_) | (with_reducible refine le_ext_add ?_))); done)) | ((with_reducible refine Below.setCell ?_ ?_ _); rotate_left; focus (((try dsimp only); repeat (first | omega | simp only [World.size_alloc, World.size_setCell, World.size_drew] | (with_reducible refine le_ext_of ?_) | (with_reducible refine le_ext_add ?_))); done)) | (with_reducible refine Below.drew ?_))))))
          ((go_at_call 77; refine (claim_any _ b B i s _ (HK2.out.below (by (repeat (first | (with_reducible exact Below.refl _ _) | (with_reducible assumption) | ((with_reducible refine below_ext_trans ?_ ?_ _); rotate_left; focus (((try dsimp only); repeat (first | omega | simp only [World.size_alloc, World.size_setCell, World.size_drew] | (with_reducible refine le_ext_of ?_) | (with_reducible refine le_ext_add ?_))); done)) | ((with_reducible refine Below.alloc ?_ ?_ _); rotate_left; focus (((try dsimp only); repeat (first | omega | simp only [World.size_alloc, World.size_setCell, World.size_drew] | (with_reducible refine le_ext_of ?_) | (with_reducible refine le_ext_add ?_))); done)) | ((with_reducible refine Below.setCell ?_ ?_ _); rotate_left; focus (((try dsimp only); repeat (first | omega | simp only [World.size_alloc, World.size_setCell, World.size_drew] | (with_reducible refine le_ext_of ?_) | (with_reducible refine le_ext_add ?_))); done)) | (with_reducible refine Below.drew ?_))))) HI.out).mono ?_; rintro e w' ⟨rfl, y3, rfl⟩))
        all_goals (go_wp2_with fail; go_meet)
        all_goals refine ⟨_, _, rfl, rfl, ?_, ?_, by ((try dsimp only); repeat (first | omega | simp only [World.size_alloc, World.size_setCell, World.size_drew] | (with_reducible refine le_ext_of ?_) | (with_reducible refine le_ext_add ?_))), by ((try dsimp only); repeat (first | omega | simp only [World.size_alloc, World.size_setCell, World.size_drew] | (with_reducible refine le_ext_of ?_) | (with_reducible refine le_ext_add ?_))), ?_, by (repeat (first | (with_reducible exact Below.refl _ _) | (with_reducible assumption) | ((with_reducible refine below_ext_trans ?_ ?_ _); rotate_left; focus (((try dsimp only); repeat (first | omega | simp only [World.size_alloc, World.size_setCell, World.size_drew] | (with_reducible refine le_ext_of ?_) | (with_reducible refine le_ext_add ?_))); done)) | ((with_reducible refine Below.alloc ?_ ?_ _); rotate_left; focus (((try dsimp only); repeat (first | omega | simp only [World.size_alloc, World.size_setCell, World.size_drew] | (with_reducible refine le_ext_of ?_) | (with_reducible refine le_ext_add ?_))); done)) | ((with_reducible refine Below.setCell ?_ ?_ _); rotate_left; focus (((try dsimp only); repeat (first | omega | simp only [World.size_alloc, World.size_setCell, World.size_drew] | (with_reducible refine le_ext_of ?_) | (with_reducible refine le_ext_add ?_))); done)) | (with_reducible refine Below.drew ?_)))⟩
        all_goals first
          | omega
          | (have h1 := y3.ok.size; unfold ext; simp only [World.size_alloc, World.size_drew, ne_eq] at h1 ⊢; omega)
          | exact Blk.new (by simp)
          | exact (Blk.new rfl).alloc _
          | exact ((((Blk.new rfl).drew).ext y3).set 0 _).alloc _
          | (refine Blk.set1 (v0 := .int .i64 0) ?_; refine Blk.setOther ?_ (by omega) 0 _; exact Blk.ext (Blk.drew blk_new1) y3)
          | (refine Blk.set1 (v0 := .nilFunc) ?_; refine Blk.setOther ?_ (by omega) 0 _; exact Blk.ext (Blk.drew blk_new1) y3)
          | (refine Blk.set1 (v0 := .int .i64 0) ?_; refine Blk.setOther ?_ (by omega) 0 _; exact Blk.ext (Blk.drew ((Blk.new rfl).alloc _)) y3)
          | (refine Blk.set1 (v0 := .nilFunc) ?_; refine Blk.setOther ?_ (by omega) 0 _; exact Blk.ext (Blk.drew ((Blk.new rfl).alloc _)) y3)
          | (refine Blk.setOther ?_ (by omega) 0 _; refine Blk.set1 (v0 := .int .i64 0) ?_; exact Blk.ext (Blk.drew blk_new1) y3)
          | (refine Blk.setOther ?_ (by omega) 0 _; refine Blk.set1 (v0 := .nilFunc) ?_; exact Blk.ext (Blk.drew blk_new1) y3)
          | (refine Blk.setOther ?_ (by omega) 0 _; refine Blk.set1 (v0 := .int .i64 0) ?_; exact Blk.ext (Blk.drew ((Blk.new rfl).alloc _)) y3)
          | (refine Blk.setOther ?_ (by omega) 0 _; refine Blk.set1 (v0 := .nilFunc) ?_; exact Blk.ext (Blk.drew ((Blk.new rfl).alloc _)) y3)
      case rest =>
        obtain ⟨g3, g4, rfl, rfl, hb3, hb4, hg3, hg4, hne2, hbel⟩ := hcut
        have kS' := kS.out _ hbel
        obtain ⟨d0, d1, d2, d3, d4, d5, d6, d7, d8, d9, d10, d11, d12, -⟩ := kS'
        have hwlt : w.heap.size < wc.heap.size := by have := hbel.size; omega
        have HK3 := Lib.hid (HK2.out.below hbel)
        have HBEL3 := Lib.hid hbel
        have HB3 := Lib.hid hb3
        have HB4 := Lib.hid hb4
        clear hb3 hb4 hbel kS
        go_wp2_with (first
          | (go_at_call 61; refine (moment_any _ b B i s _ HK3.out HI.out).mono ?_; rintro e w' ⟨rfl, y4, rfl⟩)
          | (go_at_call 79; refine (minutes_any _ _ _).mono ?_; rintro e w' ⟨gm, rfl, hgm, hbm, y5, rfl⟩))
        have hMom := (bookB_shot HK.out.ok HI.out).2.2
        simp only [ext_ext] at hbm
        generalize hWW : ext _ (y4.comp y5) = W2 at *
        have hb2w := HBEL3.out.trans (show Below _ _ W2 from by rw [← hWW]; exact (below_ext _ _).mono HBEL3.out.size)
        have hs1 := HBEL.out.size
        have hs2 := hb2w.size
        have hs3 := HWs.out
        have hwW2 : Below w.heap.size w W2 := HW.out.trans ((HBEL.out.trans (hb2w.mono hs1)).mono (by omega))
        have p1 : Blk W2 g1 78 #[.int .i64 (kspec b.bs 2 0 0), .int .i64 (kspec b.bs 2 0 1), .int .i64 (kspec b.bs 2 0 2), .int .i64 (kspec b.bs 2 0 3)] := (hb2w.block _ HB1.out.lt).trans HB1.out
        have p2 : Blk W2 g2 78 #[.int .i64 (ltc b k 0), .int .i64 (ltc b k 1), .int .i64 (ltc b k 2), .int .i64 (ltc b k 3)] := (hb2w.block _ HB2.out.lt).trans HB2.out
        have p3 : Blk W2 g3 3 #[.int .i64 st] := by rw [← hWW]; exact HB3.out.ext _
        have p4 : Blk W2 g4 111 #[.func (.func 78) #[.agg #[.int .i64 st, .int .i64 s.co, .int .i64 s.lo, .int .i64 s.hi, .map (some B)]] #[]] := by rw [← hWW]; exact HB4.out.ext _
        have p6 : Blk W2 (w.heap.size + 1) 4 #[.bool false] := ((HBEL.out.trans (hb2w.mono hs1)).block _ (by omega)).trans KB6.out
        have l1 := p1.lt
        have l2 := p2.lt
        have l3 := p3.lt
        have l4 := p4.lt
        have l6 := p6.lt
        have hgm1 : w.heap.size + 1 < gm := by
          have := HBEL3.out.size
          have h1 := y4.ok.size
          unfold ext at hgm
          omega
        have HKW := Lib.hid (HK.out.below ((HBEL.out.trans (hb2w.mono hs1))))
        clear hWW
        have hseq := minutes1_in (9 - 1) gm s.lo s.hi (fun k' => k' = w.heap.size + 1 ∨ k' = W2.heap.size + 1) W2 hbm hMom (fun k' hk' => by have := hbm.lt; omega)
        refine (wpIn_wide (n := 9)).1 ?_
        refine wpIn_rangeFunc_w (gf := 95) (lb := #[.pointer (some ⟨gm, 0, none⟩)]) rfl (enters_of Tryd.func95 (by kernel_rfl) rfl)
          (fun k' => k' = w.heap.size + 1) (fun k' hk' => by omega) hseq (Below.refl _ _) (fun _ => rfl)
          (fun n1 pre W' => Blk W' g1 78 #[.int .i64 (kspec b.bs 2 0 0), .int .i64 (kspec b.bs 2 0 1), .int .i64 (kspec b.bs 2 0 2), .int .i64 (kspec b.bs 2 0 3)] ∧ Blk W' g2 78 #[.int .i64 (ltc b k 0), .int .i64 (ltc b k 1), .int .i64 (ltc b k 2), .int .i64 (ltc b k 3)] ∧ Blk W' g3 3 #[.int .i64 st] ∧ Blk W' g4 111 #[.func (.func 78) #[.agg #[.int .i64 st, .int .i64 s.co, .int .i64 s.lo, .int .i64 s.hi, .map (some B)]] #[]] ∧ Blk W' (w.heap.size + 1) 4 #[.bool false] ∧ Below w.heap.size w W' ∧ Hid (pre.any (hdB b st k s) = false))
          (fun n1 c pre W' => c = .ret ∧ Blk W' (w.heap.size + 1) 4 #[.bool true] ∧ Below w.heap.size w W' ∧ Hid (pre.any (hdB b st k s) = true))
          (fun n1 pre x a' W' => a' = { tmps := #[.agg #[.int .i64 b.n, .slice h_pb b.bs.length h_cb, .slice h_po b.os.length h_co, .slice (some ⟨bb, o, none⟩) b.ss.length h_cs, .int .i64 (kspec b.bs 2 0 0), .int .i64 (kspec b.bs 2 0 1), .int .i64 (kspec b.bs 2 0 2), .int .i64 (kspec b.bs 2 0 3), .int .i64 (kspec b.bs 2 0 4), .int .i64 (kspec b.bs 2 0 5), .int .i64 (kspec b.bs 2 0 6), .int .i64 (kspec b.bs 2 0 7), .map (some B)], .int .i64 i, .int .i64 k, .pointer (some ⟨w.heap.size, 0, none⟩), undef, undef, .pointer (some ⟨w.heap.size + 1, 0, none⟩), .pointer (some ⟨g1, 0, none⟩), .pointer (some ⟨g2, 0, none⟩), .pointer (some ⟨g3, 0, none⟩), .pointer (some ⟨g4, 0, none⟩), .int .i64 x, u12, u13, u14, u15, u16, u17, u18, u19, u20, u21, u22, u23, u24, u25, u26, u27, u28, u29, u30, u31, u32, u33, u34, u35, .agg #[.int .i64 b.n, .slice h_pb b.bs.length h_cb, .slice h_po b.os.length h_co, .slice (some ⟨bb, o, none⟩) b.ss.length h_cs, .int .i64 (kspec b.bs 2 0 0), .int .i64 (kspec b.bs 2 0 1), .int .i64 (kspec b.bs 2 0 2), .int .i64 (kspec b.bs 2 0 3), .int .i64 (kspec b.bs 2 0 4), .int .i64 (kspec b.bs 2 0 5), .int .i64 (kspec b.bs 2 0 6), .int .i64 (kspec b.bs 2 0 7), .map (some B)], .int .i64 i, .agg #[.int .i64 s.lo, .int .i64 s.hi], .func (.func 95) #[] #[.pointer (some ⟨gm, 0, none⟩)], .int .i64 x, undef, undef, undef, undef, undef, undef, undef, undef, undef, undef, undef, undef, undef, undef, undef], defers := [] })
          ?hI ?hIx ?hAx ?h0 ?hassign ?hbody ?hdone ?hstop
        case hI =>
          rintro n1 pre A C hn hA ⟨c1, c2, c3, c4, c5, c6, c7⟩ hp
          exact ⟨(hp.block _ c1.lt (.inl (by omega))).trans c1, (hp.block _ c2.lt (.inl (by omega))).trans c2, (hp.block _ c3.lt (.inl (by omega))).trans c3, (hp.block _ c4.lt (.inl (by omega))).trans c4, (hp.block _ c5.lt (.inl (by omega))).trans c5, c6.trans (hp.below (by omega) c6.size), c7⟩
        case hIx =>
          rintro n1 c pre A C hn hA ⟨c0, c5, c6, c7⟩ hp
          exact ⟨c0, (hp.block _ c5.lt (.inl (by omega))).trans c5, c6.trans (hp.below (by omega) c6.size), c7⟩
        case hAx => rintro n1 pre x a' A C hn hA rfl hp; rfl
        case h0 =>
          intro n1 W1 hb _ _
          exact ⟨(hb.block _ p1.lt).trans p1, (hb.block _ p2.lt).trans p2, (hb.block _ p3.lt).trans p3, (hb.block _ p4.lt).trans p4, (hb.block _ p6.lt).trans p6, hwW2.trans (hb.mono hwW2.size), Lib.hid rfl⟩
        case hassign =>
          intro l n1 pre x W' hn hz hsp hi'
          exact wpIn_assign ⟨hi', by simp [go_sem, Act.put, Act.eval], Below.refl _ _⟩
        case hbody =>
          rintro l n1 pre x a' W' hl hn hz hsp ⟨c1, c2, c3, c4, c5, c6, c7⟩ rfl
          have hxm := mem_mins (hsp.subset (show x ∈ pre ++ [x] by simp))
          obtain ⟨hol, ho1, hbl, hn4, hrows⟩ := bookB_rows HKw.out.ok
          obtain ⟨⟨hst0, hst1⟩, -, hmm⟩ := bookB_shot HKw.out.ok HI.out
          unfold Mom at hmm
          have HKr := Lib.hid (HKw.out.below c6)
          have HF : Hid (∀ t : Nat, t ≤ b.bs.length → ∀ y, Calls Tryd.prog 78 #[.agg #[.int .i64 st, .int .i64 s.co, .int .i64 s.lo, .int .i64 s.hi, .map (some B)], .agg #[.int .i64 st, .int .i64 t]] (ext W' y) fun e w' => e = .returned (.bool (okB b st s t)) ∧ ∃ x, w' = ext (ext W' y) x) := Lib.hid (fun t ht y =>
            fair_any b.os st s.co s.lo s.hi B st t _ (HKr.out.own.ext y) (by omega) (by omega) ⟨by omega, by
              obtain ⟨r, hr⟩ := get_some b.os st (by omega)
              obtain ⟨hrl, _⟩ := hrows st r hr
              rw [List.getD_eq_getElem?_getD, hr]
              show t < r.length
              omega⟩)
          have ht1 : cnt [kspec b.bs 2 0 0, kspec b.bs 2 0 1, kspec b.bs 2 0 2, kspec b.bs 2 0 3] x ≤ b.bs.length := cnt_soon_le b.bs hbl x (by omega)
          have ht2 : cnt [ltc b k 0, ltc b k 1, ltc b k 2, ltc b k 3] x ≤ b.bs.length := by
            obtain ⟨v', h1, h2⟩ := ltc_tl b k hbl hkb
            rw [h2, ← h1]
            exact cnt_tl_le v' (by omega) x (by omega)
          have HT1 := Lib.hid ht1
          have HT2 := Lib.hid ht2
          have e10 := c1.cell 0
          have e11 := c1.cell 1
          have e12 := c1.cell 2
          have e13 := c1.cell 3
          have e20 := c2.cell 0
          have e21 := c2.cell 1
          have e22 := c2.cell 2
          have e23 := c2.cell 3
          have e30 := c3.cell 0
          have e40 := c4.cell 0
          have e60 := c5.cell 0
          have f60 := c5.frozen 0
          simp only [List.size_toArray, List.length_cons, List.length_nil, Nat.reduceAdd, Nat.reduceLT, getElem?_pos, List.getElem_toArray, List.getElem_cons_zero, List.getElem_cons_succ] at e10 e11 e12 e13 e20 e21 e22 e23 e30 e40 e60
          have k1 := c1.lt
          have k2 := c2.lt
          have k3 := c3.lt
          have k4 := c4.lt
          have k6 := c5.lt
          have C1 := Lib.hid c1
          have C2 := Lib.hid c2
          have C3 := Lib.hid c3
          have C4 := Lib.hid c4
          have C5 := Lib.hid c5
          have C6 := Lib.hid c6
          have hw6 := c6.size
          clear c1 c2 c3 c4 c5 c6 hrows ht1 ht2 hseq hsp hxm hmm hst0 hst1 hol ho1 hbl hn4
          have HP := Lib.hid (show (pre ++ [x]).any (hdB b st k s) = (okB b st s (cnt [kspec b.bs 2 0 0, kspec b.bs 2 0 1, kspec b.bs 2 0 2, kspec b.bs 2 0 3] x) != okB b st s (cnt [ltc b k 0, ltc b k 1, ltc b k 2, ltc b k 3] x)) by rw [List.any_append, c7.out]; simp [hdB, soonL])
          clear c7
          rcases hx1 : okB b st s (cnt [kspec b.bs 2 0 0, kspec b.bs 2 0 1, kspec b.bs 2 0 2, kspec b.bs 2 0 3] x) with _ | _ <;> rcases hx2 : okB b st s (cnt [ltc b k 0, ltc b k 1, ltc b k 2, ltc b k 3] x) with _ | _
          all_goals
            replace HP := Lib.hid (HP.out.trans (by rw [hx1, hx2]))
            gi_wp2_with fail
            refine wpIn_region_ext (by kernel_rfl) (by kernel_rfl) (by kernel_rfl) ?_
            repeat (gi_big_quiet_step (first | (gi_at_call 67; exact CallsIn.inRound _ (callsIn_wide.2 (quiet_ext (turn_any _ _ _ _ _ _)))) | (gi_at_call 78; exact CallsIn.inRound _ (callsIn_wide.2 (quiet_ext (HF.out _ (by first | exact HT1.out | exact HT2.out) _))))))
            refine wpQuietIn_nil ?_
            rintro _ ⟨y, rfl⟩
            gi_wp2_with fail
          · refine (show Spare _ _ _ _ ∧ _ from ⟨(Spare.refl _ n1 W').ext hz y, C1.out.ext y, C2.out.ext y, C3.out.ext y, C4.out.ext y, C5.out.ext y, ?_, Lib.hid (HP.out.trans rfl)⟩)
            have hB := C6.out
            (repeat (first | (with_reducible exact Below.refl _ _) | (with_reducible assumption) | ((with_reducible refine below_ext_trans ?_ ?_ _); rotate_left; focus (((try dsimp only); repeat (first | omega | simp only [World.size_alloc, World.size_setCell, World.size_drew] | (with_reducible refine le_ext_of ?_) | (with_reducible refine le_ext_add ?_))); done)) | ((with_reducible refine Below.alloc ?_ ?_ _); rotate_left; focus (((try dsimp only); repeat (first | omega | simp only [World.size_alloc, World.size_setCell, World.size_drew] | (with_reducible refine le_ext_of ?_) | (with_reducible refine le_ext_add ?_))); done)) | ((with_reducible refine Below.setCell ?_ ?_ _); rotate_left; focus (((try dsimp only); repeat (first | omega | simp only [World.size_alloc, World.size_setCell, World.size_drew] | (with_reducible refine le_ext_of ?_) | (with_reducible refine le_ext_add ?_))); done)) | (with_reducible refine Below.drew ?_)))
          · refine (show Spare _ _ _ _ ∧ _ from ⟨Spare.setCell (O := fun k' => k' = w.heap.size + 1) ((Spare.refl _ n1 W').ext hz y) (.inl rfl) 0 _, rfl, Blk.set1 (C5.out.ext y), ?_, Lib.hid (HP.out.trans rfl)⟩)
            have hB := C6.out
            (repeat (first | (with_reducible exact Below.refl _ _) | (with_reducible assumption) | ((with_reducible refine below_ext_trans ?_ ?_ _); rotate_left; focus (((try dsimp only); repeat (first | omega | simp only [World.size_alloc, World.size_setCell, World.size_drew] | (with_reducible refine le_ext_of ?_) | (with_reducible refine le_ext_add ?_))); done)) | ((with_reducible refine Below.alloc ?_ ?_ _); rotate_left; focus (((try dsimp only); repeat (first | omega | simp only [World.size_alloc, World.size_setCell, World.size_drew] | (with_reducible refine le_ext_of ?_) | (with_reducible refine le_ext_add ?_))); done)) | ((with_reducible refine Below.setCell ?_ ?_ _); rotate_left; focus (((try dsimp only); repeat (first | omega | simp only [World.size_alloc, World.size_setCell, World.size_drew] | (with_reducible refine le_ext_of ?_) | (with_reducible refine le_ext_add ?_))); done)) | (with_reducible refine Below.drew ?_)))
          · refine (show Spare _ _ _ _ ∧ _ from ⟨Spare.setCell (O := fun k' => k' = w.heap.size + 1) ((Spare.refl _ n1 W').ext hz y) (.inl rfl) 0 _, rfl, Blk.set1 (C5.out.ext y), ?_, Lib.hid (HP.out.trans rfl)⟩)
            have hB := C6.out
            (repeat (first | (with_reducible exact Below.refl _ _) | (with_reducible assumption) | ((with_reducible refine below_ext_trans ?_ ?_ _); rotate_left; focus (((try dsimp only); repeat (first | omega | simp only [World.size_alloc, World.size_setCell, World.size_drew] | (with_reducible refine le_ext_of ?_) | (with_reducible refine le_ext_add ?_))); done)) | ((with_reducible refine Below.alloc ?_ ?_ _); rotate_left; focus (((try dsimp only); repeat (first | omega | simp only [World.size_alloc, World.size_setCell, World.size_drew] | (with_reducible refine le_ext_of ?_) | (with_reducible refine le_ext_add ?_))); done)) | ((with_reducible refine Below.setCell ?_ ?_ _); rotate_left; focus (((try dsimp only); repeat (first | omega | simp only [World.size_alloc, World.size_setCell, World.size_drew] | (with_reducible refine le_ext_of ?_) | (with_reducible refine le_ext_add ?_))); done)) | (with_reducible refine Below.drew ?_)))
          · refine (show Spare _ _ _ _ ∧ _ from ⟨(Spare.refl _ n1 W').ext hz y, C1.out.ext y, C2.out.ext y, C3.out.ext y, C4.out.ext y, C5.out.ext y, ?_, Lib.hid (HP.out.trans rfl)⟩)
            have hB := C6.out
            (repeat (first | (with_reducible exact Below.refl _ _) | (with_reducible assumption) | ((with_reducible refine below_ext_trans ?_ ?_ _); rotate_left; focus (((try dsimp only); repeat (first | omega | simp only [World.size_alloc, World.size_setCell, World.size_drew] | (with_reducible refine le_ext_of ?_) | (with_reducible refine le_ext_add ?_))); done)) | ((with_reducible refine Below.alloc ?_ ?_ _); rotate_left; focus (((try dsimp only); repeat (first | omega | simp only [World.size_alloc, World.size_setCell, World.size_drew] | (with_reducible refine le_ext_of ?_) | (with_reducible refine le_ext_add ?_))); done)) | ((with_reducible refine Below.setCell ?_ ?_ _); rotate_left; focus (((try dsimp only); repeat (first | omega | simp only [World.size_alloc, World.size_setCell, World.size_drew] | (with_reducible refine le_ext_of ?_) | (with_reducible refine le_ext_add ?_))); done)) | (with_reducible refine Below.drew ?_)))
        case hdone =>
          rintro D n1 xs W' rfl hn hz rfl ⟨c1, c2, c3, c4, c5, c6, c7⟩ hD
          have e60 := c5.cell 0
          have f60 := c5.frozen 0
          simp only [List.size_toArray, List.length_cons, List.length_nil, Nat.reduceAdd, Nat.reduceLT, getElem?_pos, List.getElem_toArray, List.getElem_cons_zero, List.getElem_cons_succ] at e60
          have k6 := c5.lt
          have C5 := Lib.hid c5
          have C6 := Lib.hid c6
          have C7 := Lib.hid c7
          clear c1 c2 c3 c4 c5 c6 c7 hseq
          go_wp2_with fail
          have hD2 : (W'.setCell ⟨w.heap.size + 1, 0, none⟩ (.bool false)).heap[W2.heap.size]? = some (.deferred (some [])) := (Below.heap_setCell _ _ _ _ (by dsimp only; omega)).trans hD
          refine ⟨by simp, .inl ⟨_, _, rfl, run_takeDeferred hD2, ?_⟩⟩
          have hf : Blk ((W'.setCell ⟨w.heap.size + 1, 0, none⟩ (.bool false)).putObj W2.heap.size (.deferred none)) (w.heap.size + 1) 4 #[.bool false] := (World.putObj_heap_other (by omega)).trans (Blk.set1 C5.out)
          have hb : Below w.heap.size w ((W'.setCell ⟨w.heap.size + 1, 0, none⟩ (.bool false)).putObj W2.heap.size (.deferred none)) :=
            ((C6.out).setCell (by dsimp only; omega) _).trans ((Priv.putObj (n0 := w.heap.size) (n1 := W2.heap.size + 1) _ (by omega) (by omega) _).below (Nat.le_refl _) (by rw [World.size_setCell]; exact C6.out.size))
          generalize (W'.setCell ⟨w.heap.size + 1, 0, none⟩ (.bool false)).putObj W2.heap.size (.deferred none) = F at *
          have r0 := hf.cell 0
          have rl := hf.lt
          simp only [List.size_toArray, List.length_cons, List.length_nil, Nat.reduceAdd, Nat.reduceLT, getElem?_pos, List.getElem_toArray, List.getElem_cons_zero, List.getElem_cons_succ] at r0
          exact ⟨.bool false, by simp [results, Tryd.results56, go_sem, r0, rl], by rw [hangB, C7.out], ext_of hb⟩
        case hstop =>
          rintro D n1 c pre W' rfl hn hz hsp ⟨rfl, c5, c6, c7⟩ hD
          have k6 := c5.lt
          have hall : hangB b st k s = true := by
            obtain ⟨m, hm, hm2⟩ := List.any_eq_true.1 c7.out
            exact List.any_eq_true.2 ⟨m, hsp.subset hm, hm2⟩
          have HALL := Lib.hid hall
          clear hseq hall c7
          gi_wp2_with fail
          refine ⟨by simp, .inl ⟨_, _, rfl, run_takeDeferred hD, ?_⟩⟩
          have hf : Blk (W'.putObj W2.heap.size (.deferred none)) (w.heap.size + 1) 4 #[.bool true] := (World.putObj_heap_other (by omega)).trans c5
          have hb : Below w.heap.size w (W'.putObj W2.heap.size (.deferred none)) :=
            c6.trans ((Priv.putObj (n0 := w.heap.size) (n1 := W2.heap.size + 1) _ (by omega) (by omega) _).below (Nat.le_refl _) c6.size)
          generalize W'.putObj W2.heap.size (.deferred none) = F at *
          have r0 := hf.cell 0
          have rl := hf.lt
          simp only [List.size_toArray, List.length_cons, List.length_nil, Nat.reduceAdd, Nat.reduceLT, getElem?_pos, List.getElem_toArray, List.getElem_cons_zero, List.getElem_cons_succ] at r0
          exact ⟨.bool true, by simp [results, Tryd.results56, go_sem, r0, rl], by rw [HALL.out], ext_of hb⟩
end Go.Proofs.YtdmicngnbcdkdaaDoor

