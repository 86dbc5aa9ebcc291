/- Contract of First. -/
/- The iterator over the minutes that one can be. -/
import Derived.Test.YtdmicngnbcdkdaaDoorRTp
import Derived.Test.YtdmicngnbcdkdaaDoorRTi
set_option linter.unusedSimpArgs false
set_option linter.unusedVariables false
namespace Go.Proofs.YtdmicngnbcdkdaaDoor
open Go Go.RowKit Go.Maps

set_option maxHeartbeats 4000000 in
theorem First_yes (h : Hd) (b : Bk) (i j : Nat) (s t : Shot) (w : World) (hb : BkAt w h b) (hv : bookB b = true) (hn : NB w) (hi : b.ss[i]? = some s) (hj : b.ss[j]? = some t) (hij : i ≠ j) :
    Calls Tryd.prog 37 #[.agg #[.int .i64 b.n, .slice h.pb b.bs.length h.cb, .slice h.po b.os.length h.co, .slice h.ps b.ss.length h.cs], .int .i64 i, .int .i64 j] w fun e w' => e = .returned (.tuple #[.int .i64 (befores (s.lo, s.hi) (t.lo, t.hi)), .int .i64 0]) ∧ ∃ x, w' = ext w x := by
  have hq : isN i b.ss.length = true := isN_yes (by have := (List.getElem?_eq_some_iff.1 hi).1; omega)
  have hq2 : isN j b.ss.length = true := isN_yes (by have := (List.getElem?_eq_some_iff.1 hj).1; omega)
  have hq3 : ((i : Int) == (j : Int)) = false := by simp; omega
  have hq4 : ((i : Int) != (j : Int)) = true := by simp; omega
  have HI := Lib.hid hi
  have HJ := Lib.hid hj
  clear hi hj hij
  go_enter Tryd.func37, Tryd.ntmps37
  go_upto_region 1 with fail
  generalize hW : w.alloc _ = W
  have hWB : Below w.heap.size w W := by rw [← hW]; (repeat (first | (with_reducible exact Below.refl _ _) | (with_reducible assumption) | ((with_reducible refine below_ext_trans ?_ ?_ _); rotate_left; focus (((try dsimp only); repeat (first | omega | simp only [World.size_alloc, World.size_setCell, World.size_drew] | (with_reducible refine le_ext_of ?_) | (with_reducible refine le_ext_add ?_))); done)) | ((with_reducible refine Below.alloc ?_ ?_ _); rotate_left; focus (((try dsimp only); repeat (first | omega | simp only [World.size_alloc, World.size_setCell, World.size_drew] | (with_reducible refine le_ext_of ?_) | (with_reducible refine le_ext_add ?_))); done)) | ((with_reducible refine Below.setCell ?_ ?_ _); rotate_left; focus (((try dsimp only); repeat (first | omega | simp only [World.size_alloc, World.size_setCell, World.size_drew] | (with_reducible refine le_ext_of ?_) | (with_reducible refine le_ext_add ?_))); done)) | (with_reducible refine Below.drew ?_)))
  have hWs : W.heap.size = w.heap.size + 1 := by rw [← hW]; simp
  have kb1 : Blk W w.heap.size 26 #[.int .i64 b.n, .slice h.pb b.bs.length h.cb, .slice h.po b.os.length h.co, .slice h.ps b.ss.length h.cs] := by rw [← hW]; exact Blk.new rfl
  have kS : Hid (∀ w', Below W.heap.size W w' → w'.cell? ⟨w.heap.size, 0, none⟩ = some (.int .i64 b.n) ∧ w'.cell? ⟨w.heap.size, 1, none⟩ = some (.slice h.pb b.bs.length h.cb) ∧ w'.cell? ⟨w.heap.size, 2, none⟩ = some (.slice h.po b.os.length h.co) ∧ w'.cell? ⟨w.heap.size, 3, none⟩ = some (.slice h.ps b.ss.length h.cs)) := Lib.hid (fun w' hw => by
    have kb1' : Blk w' w.heap.size 26 #[.int .i64 b.n, .slice h.pb b.bs.length h.cb, .slice h.po b.os.length h.co, .slice h.ps b.ss.length h.cs] := (hw.block _ kb1.lt).trans kb1
    refine ⟨?_, ?_, ?_, ?_⟩ <;> (rw [kb1'.cell]; rfl))
  have HB := Lib.hid (hb.below hWB)
  have HN := Lib.hid (hn.below hWB)
  have HW := Lib.hid hWB
  have HWs := Lib.hid hWs
  clear hW hb hn hWB kb1 hWs
  go_cut [8, 9] (fun s8 s9 wx => OpenCut W h b s8 s9 wx)
  case first =>
    go_region_held3 (fun w' => w'.cell? ⟨w.heap.size, 0, none⟩ = some (.int .i64 b.n) ∧ w'.cell? ⟨w.heap.size, 1, none⟩ = some (.slice h.pb b.bs.length h.cb) ∧ w'.cell? ⟨w.heap.size, 2, none⟩ = some (.slice h.po b.os.length h.co) ∧ w'.cell? ⟨w.heap.size, 3, none⟩ = some (.slice h.ps b.ss.length h.cs))
      ((exact kS.out _ (by (repeat (first | (with_reducible exact Below.refl _ _) | (with_reducible assumption) | ((with_reducible refine below_ext_trans ?_ ?_ _); rotate_left; focus (((try dsimp only); repeat (first | omega | simp only [World.size_alloc, World.size_setCell, World.size_drew] | (with_reducible refine le_ext_of ?_) | (with_reducible refine le_ext_add ?_))); done)) | ((with_reducible refine Below.alloc ?_ ?_ _); rotate_left; focus (((try dsimp only); repeat (first | omega | simp only [World.size_alloc, World.size_setCell, World.size_drew] | (with_reducible refine le_ext_of ?_) | (with_reducible refine le_ext_add ?_))); done)) | ((with_reducible refine Below.setCell ?_ ?_ _); rotate_left; focus (((try dsimp only); repeat (first | omega | simp only [World.size_alloc, World.size_setCell, World.size_drew] | (with_reducible refine le_ext_of ?_) | (with_reducible refine le_ext_add ?_))); done)) | (with_reducible refine Below.drew ?_))))))
      (first
        | (go_at_call 54; refine (isShot_any _ _ _ _ _ _ _ _ _ _ _ _).mono ?_; rintro e w' ⟨rfl, y0, rfl⟩)
        | (go_at_call 47; refine (open_yes _ _ _ (HB.out.below (by (repeat (first | (with_reducible exact Below.refl _ _) | (with_reducible assumption) | ((with_reducible refine below_ext_trans ?_ ?_ _); rotate_left; focus (((try dsimp only); repeat (first | omega | simp only [World.size_alloc, World.size_setCell, World.size_drew] | (with_reducible refine le_ext_of ?_) | (with_reducible refine le_ext_add ?_))); done)) | ((with_reducible refine Below.alloc ?_ ?_ _); rotate_left; focus (((try dsimp only); repeat (first | omega | simp only [World.size_alloc, World.size_setCell, World.size_drew] | (with_reducible refine le_ext_of ?_) | (with_reducible refine le_ext_add ?_))); done)) | ((with_reducible refine Below.setCell ?_ ?_ _); rotate_left; focus (((try dsimp only); repeat (first | omega | simp only [World.size_alloc, World.size_setCell, World.size_drew] | (with_reducible refine le_ext_of ?_) | (with_reducible refine le_ext_add ?_))); done)) | (with_reducible refine Below.drew ?_))))) hv (HN.out.below (by (repeat (first | (with_reducible exact Below.refl _ _) | (with_reducible assumption) | ((with_reducible refine below_ext_trans ?_ ?_ _); rotate_left; focus (((try dsimp only); repeat (first | omega | simp only [World.size_alloc, World.size_setCell, World.size_drew] | (with_reducible refine le_ext_of ?_) | (with_reducible refine le_ext_add ?_))); done)) | ((with_reducible refine Below.alloc ?_ ?_ _); rotate_left; focus (((try dsimp only); repeat (first | omega | simp only [World.size_alloc, World.size_setCell, World.size_drew] | (with_reducible refine le_ext_of ?_) | (with_reducible refine le_ext_add ?_))); done)) | ((with_reducible refine Below.setCell ?_ ?_ _); rotate_left; focus (((try dsimp only); repeat (first | omega | simp only [World.size_alloc, World.size_setCell, World.size_drew] | (with_reducible refine le_ext_of ?_) | (with_reducible refine le_ext_add ?_))); done)) | (with_reducible refine Below.drew ?_)))))).mono ?_; rintro e w' ⟨B, rfl, hok, y, rfl⟩))
    all_goals (go_wp2_with fail; go_meet)
    · exact openCutA (by (repeat (first | (with_reducible exact Below.refl _ _) | (with_reducible assumption) | ((with_reducible refine below_ext_trans ?_ ?_ _); rotate_left; focus (((try dsimp only); repeat (first | omega | simp only [World.size_alloc, World.size_setCell, World.size_drew] | (with_reducible refine le_ext_of ?_) | (with_reducible refine le_ext_add ?_))); done)) | ((with_reducible refine Below.alloc ?_ ?_ _); rotate_left; focus (((try dsimp only); repeat (first | omega | simp only [World.size_alloc, World.size_setCell, World.size_drew] | (with_reducible refine le_ext_of ?_) | (with_reducible refine le_ext_add ?_))); done)) | ((with_reducible refine Below.setCell ?_ ?_ _); rotate_left; focus (((try dsimp only); repeat (first | omega | simp only [World.size_alloc, World.size_setCell, World.size_drew] | (with_reducible refine le_ext_of ?_) | (with_reducible refine le_ext_add ?_))); done)) | (with_reducible refine Below.drew ?_)))) hok
    · exact openCutB HB.out _ (Blk.new rfl) (by (repeat (first | (with_reducible exact Below.refl _ _) | (with_reducible assumption) | ((with_reducible refine below_ext_trans ?_ ?_ _); rotate_left; focus (((try dsimp only); repeat (first | omega | simp only [World.size_alloc, World.size_setCell, World.size_drew] | (with_reducible refine le_ext_of ?_) | (with_reducible refine le_ext_add ?_))); done)) | ((with_reducible refine Below.alloc ?_ ?_ _); rotate_left; focus (((try dsimp only); repeat (first | omega | simp only [World.size_alloc, World.size_setCell, World.size_drew] | (with_reducible refine le_ext_of ?_) | (with_reducible refine le_ext_add ?_))); done)) | ((with_reducible refine Below.setCell ?_ ?_ _); rotate_left; focus (((try dsimp only); repeat (first | omega | simp only [World.size_alloc, World.size_setCell, World.size_drew] | (with_reducible refine le_ext_of ?_) | (with_reducible refine le_ext_add ?_))); done)) | (with_reducible refine Below.drew ?_)))) (by ((try dsimp only); repeat (first | omega | simp only [World.size_alloc, World.size_setCell, World.size_drew] | (with_reducible refine le_ext_of ?_) | (with_reducible refine le_ext_add ?_)))) hok
    · exact openCutB HB.out _ (Blk.new rfl) (by (repeat (first | (with_reducible exact Below.refl _ _) | (with_reducible assumption) | ((with_reducible refine below_ext_trans ?_ ?_ _); rotate_left; focus (((try dsimp only); repeat (first | omega | simp only [World.size_alloc, World.size_setCell, World.size_drew] | (with_reducible refine le_ext_of ?_) | (with_reducible refine le_ext_add ?_))); done)) | ((with_reducible refine Below.alloc ?_ ?_ _); rotate_left; focus (((try dsimp only); repeat (first | omega | simp only [World.size_alloc, World.size_setCell, World.size_drew] | (with_reducible refine le_ext_of ?_) | (with_reducible refine le_ext_add ?_))); done)) | ((with_reducible refine Below.setCell ?_ ?_ _); rotate_left; focus (((try dsimp only); repeat (first | omega | simp only [World.size_alloc, World.size_setCell, World.size_drew] | (with_reducible refine le_ext_of ?_) | (with_reducible refine le_ext_add ?_))); done)) | (with_reducible refine Below.drew ?_)))) (by ((try dsimp only); repeat (first | omega | simp only [World.size_alloc, World.size_setCell, World.size_drew] | (with_reducible refine le_ext_of ?_) | (with_reducible refine le_ext_add ?_)))) hok
    · exact openCutB HB.out _ ((Blk.new rfl).drew) (by (repeat (first | (with_reducible exact Below.refl _ _) | (with_reducible assumption) | ((with_reducible refine below_ext_trans ?_ ?_ _); rotate_left; focus (((try dsimp only); repeat (first | omega | simp only [World.size_alloc, World.size_setCell, World.size_drew] | (with_reducible refine le_ext_of ?_) | (with_reducible refine le_ext_add ?_))); done)) | ((with_reducible refine Below.alloc ?_ ?_ _); rotate_left; focus (((try dsimp only); repeat (first | omega | simp only [World.size_alloc, World.size_setCell, World.size_drew] | (with_reducible refine le_ext_of ?_) | (with_reducible refine le_ext_add ?_))); done)) | ((with_reducible refine Below.setCell ?_ ?_ _); rotate_left; focus (((try dsimp only); repeat (first | omega | simp only [World.size_alloc, World.size_setCell, World.size_drew] | (with_reducible refine le_ext_of ?_) | (with_reducible refine le_ext_add ?_))); done)) | (with_reducible refine Below.drew ?_)))) (by ((try dsimp only); repeat (first | omega | simp only [World.size_alloc, World.size_setCell, World.size_drew] | (with_reducible refine le_ext_of ?_) | (with_reducible refine le_ext_add ?_)))) hok
  case rest =>
    obtain ⟨g, B, rfl, rfl, hC, hOK, hg, hbel⟩ := hcut
    have hgl := hC.lt
    have e0 := hC.e0
    have e1 := hC.e1
    have e2 := hC.e2
    have e3 := hC.e3
    have e4 := hC.e4
    have e5 := hC.e5
    have e6 := hC.e6
    have e7 := hC.e7
    have e8 := hC.e8
    have e9 := hC.e9
    have e10 := hC.e10
    have e11 := hC.e11
    have e12 := hC.e12
    have HBEL := Lib.hid hbel
    have HOK := Lib.hid hOK
    clear hC hOK hbel kS
    go_wp2_with fail
    refine wp_region_ext (by kernel_rfl) (by kernel_rfl) ?_
    repeat (go_big_quiet_step (fail))
    go_big_quiet_step ((go_at_call 61; exact quiet_ext (moment_any h b B i s _ (HOK.out.below (by (repeat (first | (with_reducible exact Below.refl _ _) | (with_reducible assumption) | ((with_reducible refine below_ext_trans ?_ ?_ _); rotate_left; focus (((try dsimp only); repeat (first | omega | simp only [World.size_alloc, World.size_setCell, World.size_drew] | (with_reducible refine le_ext_of ?_) | (with_reducible refine le_ext_add ?_))); done)) | ((with_reducible refine Below.alloc ?_ ?_ _); rotate_left; focus (((try dsimp only); repeat (first | omega | simp only [World.size_alloc, World.size_setCell, World.size_drew] | (with_reducible refine le_ext_of ?_) | (with_reducible refine le_ext_add ?_))); done)) | ((with_reducible refine Below.setCell ?_ ?_ _); rotate_left; focus (((try dsimp only); repeat (first | omega | simp only [World.size_alloc, World.size_setCell, World.size_drew] | (with_reducible refine le_ext_of ?_) | (with_reducible refine le_ext_add ?_))); done)) | (with_reducible refine Below.drew ?_))))) HI.out)))
    repeat (go_big_quiet_step (fail))
    go_big_quiet_step ((go_at_call 61; exact quiet_ext (moment_any h b B j t _ (HOK.out.below (by (repeat (first | (with_reducible exact Below.refl _ _) | (with_reducible assumption) | ((with_reducible refine below_ext_trans ?_ ?_ _); rotate_left; focus (((try dsimp only); repeat (first | omega | simp only [World.size_alloc, World.size_setCell, World.size_drew] | (with_reducible refine le_ext_of ?_) | (with_reducible refine le_ext_add ?_))); done)) | ((with_reducible refine Below.alloc ?_ ?_ _); rotate_left; focus (((try dsimp only); repeat (first | omega | simp only [World.size_alloc, World.size_setCell, World.size_drew] | (with_reducible refine le_ext_of ?_) | (with_reducible refine le_ext_add ?_))); done)) | ((with_reducible refine Below.setCell ?_ ?_ _); rotate_left; focus (((try dsimp only); repeat (first | omega | simp only [World.size_alloc, World.size_setCell, World.size_drew] | (with_reducible refine le_ext_of ?_) | (with_reducible refine le_ext_add ?_))); done)) | (with_reducible refine Below.drew ?_))))) HJ.out)))
    go_big_quiet_step ((go_at_call 62; exact quiet_ext (before_any _ _ _ _ _)))
    repeat (go_big_quiet_step (fail))
    (refine wpQuiet_nil ?_; rintro _ ⟨x, rfl⟩)
    go_wp2_with fail
    go_ret2
    refine ⟨rfl, ?_⟩
    have hwc : Below w.heap.size w wc := HW.out.trans (HBEL.out.mono HW.out.size)
    exact ext_of (below_ext_trans hwc hwc.size x)
end Go.Proofs.YtdmicngnbcdkdaaDoor

namespace Go.Proofs.YtdmicngnbcdkdaaDoor
open Go Go.RowKit Go.Shelf

def MinutesPost (w : World) (a b : Int) (e : Ending) (w' : World) : Prop :=
  ∃ g : Nat, e = .returned (.func (.func 95) #[] #[.pointer (some ⟨g, 0, none⟩)]) ∧ w.heap.size ≤ g ∧ Blk w' g 88 #[.int .i64 a, .int .i64 b] ∧ ∃ x, w' = ext w x
theorem minutes_any (a b : Int) (w : World) : Calls Tryd.prog 79 #[.agg #[.int .i64 a, .int .i64 b]] w (MinutesPost w a b) := by
  go_enter Tryd.func79, Tryd.ntmps79
  go_wp2
  go_ret
  exact ⟨w.heap.size, rfl, Nat.le_refl _, Blk.new rfl, by (exact ext_of (by (repeat (first | (with_reducible exact Below.refl _ _) | (with_reducible assumption) | ((with_reducible refine below_ext_trans ?_ ?_ _); rotate_left; focus (((try dsimp only); repeat (first | omega | simp only [World.size_alloc, World.size_setCell, World.size_drew] | (with_reducible refine le_ext_of ?_) | (with_reducible refine le_ext_add ?_))); done)) | ((with_reducible refine Below.alloc ?_ ?_ _); rotate_left; focus (((try dsimp only); repeat (first | omega | simp only [World.size_alloc, World.size_setCell, World.size_drew] | (with_reducible refine le_ext_of ?_) | (with_reducible refine le_ext_add ?_))); done)) | ((with_reducible refine Below.setCell ?_ ?_ _); rotate_left; focus (((try dsimp only); repeat (first | omega | simp only [World.size_alloc, World.size_setCell, World.size_drew] | (with_reducible refine le_ext_of ?_) | (with_reducible refine le_ext_add ?_))); done)) | (with_reducible refine Below.drew ?_)))))⟩

/-- The first k minutes from one on. -/
def mupto (a : Int) (k : Nat) : List Int := (List.range k).map (fun (j : Nat) => a + (j : Int))
def mins (a b : Int) : List Int := mupto a (b - a + 1).toNat
theorem mupto_snoc (a : Int) (k : Nat) : mupto a k ++ [a + (k : Int)] = mupto a (k + 1) := by simp [mupto, List.range_succ]
theorem mupto_prefix (a : Int) (k k' : Nat) (h : k ≤ k') : mupto a k <+: mupto a k' := by
  unfold mupto
  refine List.IsPrefix.map _ ?_
  refine ⟨(List.range (k' - k)).map (fun (x : Nat) => k + x), ?_⟩
  rw [← List.range_add]
  congr 1; omega
abbrev encMin (m : Int) : Array Value := #[.int .i64 m]

attribute [local go_sem] Oper.semAt_some
set_option maxHeartbeats 4000000 in
theorem minutes1_in (n g : Nat) (a b : Int) (O : Nat → Prop) (w : World) (hk : Blk w g 88 #[.int .i64 a, .int .i64 b]) (hm : Mom a b) (hO : ∀ k, O k → k ≠ g) :
    SeqW n Tryd.prog 95 #[.pointer (some ⟨g, 0, none⟩)] encMin O (fun xs => xs = mins a b) (fun pre => pre <+: mins a b) w := by
  intro l J Jx W hW hOW hJ hJx hY h0
  have hkW : Blk W g 88 #[.int .i64 a, .int .i64 b] := (hW.block g hk.lt).trans hk
  have hgl := hkW.lt
  unfold Mom at hm
  have H0 : Hid (J W.heap.size (mupto a 0) W) := Lib.hid (show J W.heap.size [] W from h0 W (Below.refl _ _))
  have HY := Lib.hid hY
  have HO := Lib.hid hO
  obtain ⟨m1, m2, m3, m4, m5, m6⟩ := hm
  obtain ⟨d, hd⟩ : ∃ d : Nat, b = a + (d : Int) := ⟨(b - a).toNat, by omega⟩
  have hmins : mins a b = mupto a (d + 1) := by unfold mins; congr 1; omega
  rw [hmins] at HY ⊢
  subst hd
  have q0 := hkW.cell 0
  have q1 := hkW.cell 1
  simp only [List.size_toArray, List.length_cons, List.length_nil, Nat.reduceAdd, Nat.reduceLT, getElem?_pos, List.getElem_toArray, List.getElem_cons_zero, List.getElem_cons_succ] at q0 q1
  have HREL : Hid (J W.heap.size (mupto a 0) W ∧ Blk W g 88 #[.int .i64 a, .int .i64 (a + (d : Int))] ∧ W.heap.size ≤ W.heap.size) := Lib.hid ⟨H0.out, hkW, Nat.le_refl _⟩
  have hsub : IntKind.i64.wrap (a + (d : Int) - a + 1) = (d : Int) + 1 := by
    rw [show a + (d : Int) - a + 1 = (d : Int) + 1 by omega]
    exact IntWalk.i64_in _ (by omega)
  obtain ⟨n1, hn1⟩ : ∃ n1, n1 = W.heap.size := ⟨_, rfl⟩
  have HREL : Hid (J n1 (mupto a 0) W ∧ Blk W g 88 #[.int .i64 a, .int .i64 (a + (d : Int))] ∧ n1 ≤ W.heap.size) := by rw [hn1]; exact HREL
  have HN := Lib.hid hn1
  have HGL := Lib.hid (show g < n1 by omega)
  clear hW hOW hJ hJx hY h0 hO hkW hk hn1 H0
  refine callsIn_of_wp Tryd.func95 rfl trivial ?_ rfl
  simp only [Tryd.ntmps95, List.size_toArray, List.length_cons, List.length_nil, Nat.reduceAdd, Nat.reduceSub, Array.replicate_succ, Array.replicate_zero, List.push_toArray, List.append_toArray, List.nil_append, List.cons_append]
  gi_wp2_with fail
  clear q0 q1
  gi_loopw [3, 10, 12, 13, 14, 15, 16, 17, 18, 19, 20] (fun _ i _ _ _ _ _ _ _ _ _ wr => ∃ k : Nat, k ≤ d + 1 ∧ i = .int .i64 k ∧ Hid (J n1 (mupto a k) wr ∧ Blk wr g 88 #[.int .i64 a, .int .i64 (a + (d : Int))] ∧ n1 ≤ wr.heap.size)) (fun _ i _ _ _ _ _ _ _ _ _ _ => d + 1 - (intOf i).toNat)
  case atStart => exact ⟨0, by omega, rfl, HREL⟩
  case round =>
    clear HREL
    obtain ⟨k, hk, rfl, HR⟩ := hrel
    by_cases hlt : k < d + 1
    · have hlt' : (k : Int) < (d : Int) + 1 := by omega
      have hlt2 : (k : Int) ≤ (d : Int) := by omega
      obtain ⟨fn, tmps, assign, body, hy, hR⟩ := HY.out n1 (mupto a k) (a + (k : Int)) wr (by have := HN.out; omega) HR.out.2.2 (by rw [mupto_snoc]; exact mupto_prefix a _ _ (by omega)) HR.out.1
      dsimp only [encMin] at hy
      have q0 := HR.out.2.1.cell 0
      simp only [List.size_toArray, List.length_cons, List.length_nil, Nat.reduceAdd, Nat.reduceLT, getElem?_pos, List.getElem_toArray, List.getElem_cons_zero, List.getElem_cons_succ] at q0
      gi_wp2_with fail
      refine hR.mono ?_
      rintro e B (⟨rfl, hJB, hS⟩ | ⟨rfl, hJB, hS⟩)
      · have HS := Lib.hid hS
        have HJB := Lib.hid hJB
        clear hS hJB hy hR q0
        gi_wp2_with fail
        go_roundw
        case rel =>
          refine ⟨k + 1, by omega, by go_num, Lib.hid ⟨by have := HJB.out; rw [mupto_snoc] at this; exact this, (HS.out.block g HGL.out (fun e => HO.out g e rfl)).trans HR.out.2.1, Nat.le_trans HR.out.2.2 HS.out.size⟩⟩
        case measure => simp [intOf]; omega
      · gi_wp2_with fail
        refine bodyPost_ret (results_none rfl _ _ _) rfl ?_
        exact ⟨⟨_, rfl⟩, n1, by have := HN.out; omega, Nat.le_trans HR.out.2.2 hS.size, .inr ⟨_, by rw [mupto_snoc]; exact mupto_prefix a _ _ (by omega), hJB⟩⟩
    · have hge : ¬ ((k : Int) < (d : Int) + 1) := by omega
      gi_wp2_with fail
      go_end0
      obtain rfl : k = d + 1 := by omega
      exact ⟨⟨_, rfl⟩, n1, by have := HN.out; omega, HR.out.2.2, .inl HR.out.1⟩
end Go.Proofs.YtdmicngnbcdkdaaDoor

