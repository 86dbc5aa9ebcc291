/- Contracts of claims: a shot to be judged, and whether it is fair. -/
/- Contract of judge: in how many truths a shot is fair. -/
import Derived.Test.YtkmjfmppeedaoaaDoorQTj
set_option linter.unusedSimpArgs false
set_option linter.unusedVariables false
namespace Go.Proofs.YtkmjfmppeedaoaaDoor
open Go Go.RowKit Go.Maps

set_option maxHeartbeats 1000000 in
theorem fair_any (os : List (List Int)) (sst co lo hi : Int) (B st t : Nat) (w : World) (hown : OwnP w B 15 (ownf os) (inR os)) (hs : st < 3) (ht : t < 5) (hin : inR os st t) :
    Calls Tryd.prog 78 #[.agg #[.int .i64 sst, .int .i64 co, .int .i64 lo, .int .i64 hi, .map (some B)], .agg #[.int .i64 st, .int .i64 t]] w fun e w' => e = .returned (.bool (ownf os st t == co)) ∧ ∃ x, w' = ext w x := by
  have hL : ∀ (A C : Obj) (x : Grow ((w.alloc A).alloc C)), (Instr.lookup 81 (.map (some B)) (.agg #[.int .i64 st, .int .i64 t]) false).run Tryd.prog (Go.Proofs.YtkmjfmppeedaoaaDoor.ext ((w.alloc A).alloc C) x) = .ok (.int .i64 (ownf os st t)) (Go.Proofs.YtkmjfmppeedaoaaDoor.ext ((w.alloc A).alloc C) x) :=
    fun A C x => (((hown.alloc A).alloc C).ext x).look st t hs ht hin
  go_enter Tryd.func78, Tryd.ntmps78
  go_wp2_with fail
  refine wp_region_ext (by kernel_rfl) (by kernel_rfl) ?_
  repeat (go_big_quiet_step (fail))
  (refine wpQuiet_nil ?_; rintro _ ⟨x, rfl⟩)
  go_wp2_with fail
  go_ret
  exact ⟨rfl, by (exact ext_of (by (repeat (first | (with_reducible exact Below.refl _ _) | (with_reducible assumption) | ((with_reducible refine below_ext_trans ?_ ?_ _); rotate_left; focus (((try dsimp only); repeat (first | omega | simp only [World.size_alloc, World.size_setCell, World.size_drew] | (with_reducible refine le_ext_of ?_) | (with_reducible refine le_ext_add ?_))); done)) | ((with_reducible refine Below.alloc ?_ ?_ _); rotate_left; focus (((try dsimp only); repeat (first | omega | simp only [World.size_alloc, World.size_setCell, World.size_drew] | (with_reducible refine le_ext_of ?_) | (with_reducible refine le_ext_add ?_))); done)) | ((with_reducible refine Below.setCell ?_ ?_ _); rotate_left; focus (((try dsimp only); repeat (first | omega | simp only [World.size_alloc, World.size_setCell, World.size_drew] | (with_reducible refine le_ext_of ?_) | (with_reducible refine le_ext_add ?_))); done)) | (with_reducible refine Below.drew ?_)))))⟩

/-- What a cove leans on lies in a world. -/
structure CoveOK (w : World) (h : Hd) (b : Bk) (B : Nat) : Prop where
  bk : BkAt w h b
  ok : bookB b = true
  own : OwnP w B 15 (ownf b.os) (inR b.os)
theorem CoveOK.below {w w' : World} {h : Hd} {b : Bk} {B : Nat} (k : CoveOK w h b B) (hb : Below w.heap.size w w') : CoveOK w' h b B := ⟨k.bk.below hb, k.ok, k.own.below hb⟩

set_option maxHeartbeats 1000000 in
theorem claim_any (h : Hd) (b : Bk) (B : Nat) (i : Nat) (s : Shot) (w : World) (hk : CoveOK w h b B) (hi : b.ss[i]? = some s) :
    Calls Tryd.prog 77 #[.agg #[.int .i64 b.n, .slice h.pb b.bs.length h.cb, .slice h.po b.os.length h.co, .slice h.ps b.ss.length h.cs, .int .i64 (kspec b.bs 2 0 0), .int .i64 (kspec b.bs 2 0 1), .int .i64 (kspec b.bs 2 0 2), .int .i64 (kspec b.bs 2 0 3), .int .i64 (kspec b.bs 2 0 4), .int .i64 (kspec b.bs 2 0 5), .int .i64 (kspec b.bs 2 0 6), .int .i64 (kspec b.bs 2 0 7), .map (some B)], .int .i64 i] w fun e w' => e = .returned (.agg #[.int .i64 s.st, .int .i64 s.co, .int .i64 s.lo, .int .i64 s.hi, .map (some B)]) ∧ ∃ x, w' = ext w x := by
  obtain ⟨bb, o, hp, hlt, c0, c1, c2, c3⟩ := hk.bk.ss i s hi
  have hil : (i : Int) < (b.ss.length : Int) := by
    have := (List.getElem?_eq_some_iff.1 hi).1; omega
  have hi0 : (0 : Int) ≤ (i : Int) := by omega
  obtain ⟨h_pb, h_cb, h_po, h_co, h_ps, h_cs⟩ := h
  dsimp only at hp
  subst hp
  have hl1 : bb ≤ w.heap.size := by omega
  have hl2 : bb ≤ w.heap.size + 1 := by omega
  have hl3 : bb < w.heap.size + 1 + 1 := by omega
  have hl4 : bb < w.heap.size + 1 := by omega
  clear hk
  go_enter Tryd.func77, Tryd.ntmps77
  go_wp2_with fail
  refine wp_region_ext_tail 9 (by kernel_rfl) (by kernel_rfl) ?_
  simp only [List.take_succ_cons, List.take_zero, List.drop_succ_cons, List.drop_zero]
  repeat (go_big_quiet_step (fail))
  (refine wpQuiet_nil ?_; rintro _ ⟨x, rfl⟩)
  go_wp2_with fail
  refine bodyPost_ret (v := .agg #[.int .i64 s.st, .int .i64 s.co, .int .i64 s.lo, .int .i64 s.hi, .map (some B)]) (by simp [results, Tryd.results77, go_sem]) rfl ⟨rfl, ?_⟩
  (exact ext_of (by (repeat (first | (with_reducible exact Below.refl _ _) | (with_reducible assumption) | ((with_reducible refine below_ext_trans ?_ ?_ _); rotate_left; focus (((try dsimp only); repeat (first | omega | simp only [World.size_alloc, World.size_setCell, World.size_drew] | (with_reducible refine le_ext_of ?_) | (with_reducible refine le_ext_add ?_))); done)) | ((with_reducible refine Below.alloc ?_ ?_ _); rotate_left; focus (((try dsimp only); repeat (first | omega | simp only [World.size_alloc, World.size_setCell, World.size_drew] | (with_reducible refine le_ext_of ?_) | (with_reducible refine le_ext_add ?_))); done)) | ((with_reducible refine Below.setCell ?_ ?_ _); rotate_left; focus (((try dsimp only); repeat (first | omega | simp only [World.size_alloc, World.size_setCell, World.size_drew] | (with_reducible refine le_ext_of ?_) | (with_reducible refine le_ext_add ?_))); done)) | (with_reducible refine Below.drew ?_)))))

set_option maxHeartbeats 1000000 in
theorem moment_any (h : Hd) (b : Bk) (B : Nat) (i : Nat) (s : Shot) (w : World) (hk : CoveOK w h b B) (hi : b.ss[i]? = some s) :
    Calls Tryd.prog 61 #[.agg #[.int .i64 b.n, .slice h.pb b.bs.length h.cb, .slice h.po b.os.length h.co, .slice h.ps b.ss.length h.cs, .int .i64 (kspec b.bs 2 0 0), .int .i64 (kspec b.bs 2 0 1), .int .i64 (kspec b.bs 2 0 2), .int .i64 (kspec b.bs 2 0 3), .int .i64 (kspec b.bs 2 0 4), .int .i64 (kspec b.bs 2 0 5), .int .i64 (kspec b.bs 2 0 6), .int .i64 (kspec b.bs 2 0 7), .map (some B)], .int .i64 i] w fun e w' => e = .returned (.agg #[.int .i64 s.lo, .int .i64 s.hi]) ∧ ∃ x, w' = ext w x := by
  obtain ⟨bb, o, hp, hlt, c0, c1, c2, c3⟩ := hk.bk.ss i s hi
  have hil : (i : Int) < (b.ss.length : Int) := by
    have := (List.getElem?_eq_some_iff.1 hi).1; omega
  have hi0 : (0 : Int) ≤ (i : Int) := by omega
  obtain ⟨h_pb, h_cb, h_po, h_co, h_ps, h_cs⟩ := h
  dsimp only at hp
  subst hp
  have hl1 : bb ≤ w.heap.size := by omega
  have hl2 : bb ≤ w.heap.size + 1 := by omega
  have hl3 : bb < w.heap.size + 1 + 1 := by omega
  have hl4 : bb < w.heap.size + 1 := by omega
  clear hk
  go_enter Tryd.func61, Tryd.ntmps61
  go_wp2_with fail
  refine bodyPost_ret (v := .agg #[.int .i64 s.lo, .int .i64 s.hi]) (by simp [results, Tryd.results61, go_sem]) rfl ⟨rfl, ?_⟩
  (exact ext_of (by (repeat (first | (with_reducible exact Below.refl _ _) | (with_reducible assumption) | ((with_reducible refine below_ext_trans ?_ ?_ _); rotate_left; focus (((try dsimp only); repeat (first | omega | simp only [World.size_alloc, World.size_setCell, World.size_drew] | (with_reducible refine le_ext_of ?_) | (with_reducible refine le_ext_add ?_))); done)) | ((with_reducible refine Below.alloc ?_ ?_ _); rotate_left; focus (((try dsimp only); repeat (first | omega | simp only [World.size_alloc, World.size_setCell, World.size_drew] | (with_reducible refine le_ext_of ?_) | (with_reducible refine le_ext_add ?_))); done)) | ((with_reducible refine Below.setCell ?_ ?_ _); rotate_left; focus (((try dsimp only); repeat (first | omega | simp only [World.size_alloc, World.size_setCell, World.size_drew] | (with_reducible refine le_ext_of ?_) | (with_reducible refine le_ext_add ?_))); done)) | (with_reducible refine Below.drew ?_)))))
end Go.Proofs.YtkmjfmppeedaoaaDoor

namespace Go.Proofs.YtkmjfmppeedaoaaDoor
open Go Go.RowKit Go.Maps

set_option maxHeartbeats 4000000 in
theorem judge_any (h : Hd) (b : Bk) (B : Nat) (i st : Nat) (s : Shot) (s0 s1 s2 s3 l0 l1 l2 l3 : Int) (w : World) (hk : CoveOK w h b B) (hi : b.ss[i]? = some s) (hst : s.st = st)
    (hle : cnt [l0, l1, l2, l3] s.lo ≤ cnt [s0, s1, s2, s3] s.hi) (hnb : cnt [s0, s1, s2, s3] s.hi ≤ b.bs.length) (hso : st < b.os.length) :
    Calls Tryd.prog 55 #[.agg #[.int .i64 b.n, .slice h.pb b.bs.length h.cb, .slice h.po b.os.length h.co, .slice h.ps b.ss.length h.cs, .int .i64 (kspec b.bs 2 0 0), .int .i64 (kspec b.bs 2 0 1), .int .i64 (kspec b.bs 2 0 2), .int .i64 (kspec b.bs 2 0 3), .int .i64 (kspec b.bs 2 0 4), .int .i64 (kspec b.bs 2 0 5), .int .i64 (kspec b.bs 2 0 6), .int .i64 (kspec b.bs 2 0 7), .map (some B)], .int .i64 i, .agg #[.int .i64 s0, .int .i64 s1, .int .i64 s2, .int .i64 s3, .int .i64 l0, .int .i64 l1, .int .i64 l2, .int .i64 l3]] w fun e w' =>
      e = .returned (.int .i64 (kindOf (fun t => ownf b.os st t == s.co) (seg (cnt [l0, l1, l2, l3] s.lo) (cnt [s0, s1, s2, s3] s.hi)))) ∧ ∃ x, w' = ext w x := by
  obtain ⟨hol, ho1, hbl, hn4, hrows⟩ := bookB_rows hk.ok
  have HIN : Hid (∀ t : Nat, t ≤ cnt [s0, s1, s2, s3] s.hi → st < 3 ∧ t < 5 ∧ inR b.os st t) := Lib.hid (fun t ht => by
    obtain ⟨r, hr⟩ := get_some b.os st hso
    obtain ⟨hrl, _⟩ := hrows st r hr
    refine ⟨by omega, by omega, hso, ?_⟩
    rw [List.getD_eq_getElem?_getD, hr]
    show t < r.length
    omega)
  obtain ⟨bb, o, hp, hlt, c0, c1, c2, c3⟩ := hk.bk.ss i s hi
  rw [hst] at c0
  have hil : (i : Int) < (b.ss.length : Int) := by
    have := (List.getElem?_eq_some_iff.1 hi).1; omega
  have hi0 : (0 : Int) ≤ (i : Int) := by omega
  have HI := Lib.hid hi
  have HLE := Lib.hid hle
  obtain ⟨h_pb, h_cb, h_po, h_co, h_ps, h_cs⟩ := h
  dsimp only at hp
  subst hp
  clear hrows hi hst c1 c2 c3 hle
  go_enter Tryd.func55, Tryd.ntmps55
  go_wp2_with fail
  generalize hW : (w.alloc _).alloc _ = W
  have hWB : Below w.heap.size w W := by rw [← hW]; (repeat (first | (with_reducible exact Below.refl _ _) | (with_reducible assumption) | ((with_reducible refine below_ext_trans ?_ ?_ _); rotate_left; focus (((try dsimp only); repeat (first | omega | simp only [World.size_alloc, World.size_setCell, World.size_drew] | (with_reducible refine le_ext_of ?_) | (with_reducible refine le_ext_add ?_))); done)) | ((with_reducible refine Below.alloc ?_ ?_ _); rotate_left; focus (((try dsimp only); repeat (first | omega | simp only [World.size_alloc, World.size_setCell, World.size_drew] | (with_reducible refine le_ext_of ?_) | (with_reducible refine le_ext_add ?_))); done)) | ((with_reducible refine Below.setCell ?_ ?_ _); rotate_left; focus (((try dsimp only); repeat (first | omega | simp only [World.size_alloc, World.size_setCell, World.size_drew] | (with_reducible refine le_ext_of ?_) | (with_reducible refine le_ext_add ?_))); done)) | (with_reducible refine Below.drew ?_)))
  have hWs : W.heap.size = w.heap.size + 2 := by rw [← hW]; simp
  have kb1 : Blk W w.heap.size 83 #[.int .i64 b.n, .slice h_pb b.bs.length h_cb, .slice h_po b.os.length h_co, .slice (some ⟨bb, o, none⟩) b.ss.length h_cs, .int .i64 (kspec b.bs 2 0 0), .int .i64 (kspec b.bs 2 0 1), .int .i64 (kspec b.bs 2 0 2), .int .i64 (kspec b.bs 2 0 3), .int .i64 (kspec b.bs 2 0 4), .int .i64 (kspec b.bs 2 0 5), .int .i64 (kspec b.bs 2 0 6), .int .i64 (kspec b.bs 2 0 7), .map (some B)] := by rw [← hW]; exact (Blk.new rfl).alloc _
  have kb2 : Blk W (w.heap.size + 1) 80 #[.int .i64 s0, .int .i64 s1, .int .i64 s2, .int .i64 s3, .int .i64 l0, .int .i64 l1, .int .i64 l2, .int .i64 l3] := by rw [← hW]; exact Blk.new (by simp)
  have c0' : W.cell? ⟨bb, o + i * 4, none⟩ = some (.int .i64 st) := by rw [hWB.cell (p := ⟨bb, o + i * 4, none⟩) hlt]; exact c0
  have kS : Hid (∀ w', Below W.heap.size W w' → w'.cell? ⟨w.heap.size, 0, none⟩ = some (.int .i64 b.n) ∧ w'.cell? ⟨w.heap.size, 1, none⟩ = some (.slice h_pb b.bs.length h_cb) ∧ w'.cell? ⟨w.heap.size, 2, none⟩ = some (.slice h_po b.os.length h_co) ∧ w'.cell? ⟨w.heap.size, 3, none⟩ = some (.slice (some ⟨bb, o, none⟩) b.ss.length h_cs) ∧ w'.cell? ⟨w.heap.size, 4, none⟩ = some (.int .i64 (kspec b.bs 2 0 0)) ∧ w'.cell? ⟨w.heap.size, 5, none⟩ = some (.int .i64 (kspec b.bs 2 0 1)) ∧ w'.cell? ⟨w.heap.size, 6, none⟩ = some (.int .i64 (kspec b.bs 2 0 2)) ∧ w'.cell? ⟨w.heap.size, 7, none⟩ = some (.int .i64 (kspec b.bs 2 0 3)) ∧ w'.cell? ⟨w.heap.size, 8, none⟩ = some (.int .i64 (kspec b.bs 2 0 4)) ∧ w'.cell? ⟨w.heap.size, 9, none⟩ = some (.int .i64 (kspec b.bs 2 0 5)) ∧ w'.cell? ⟨w.heap.size, 10, none⟩ = some (.int .i64 (kspec b.bs 2 0 6)) ∧ w'.cell? ⟨w.heap.size, 11, none⟩ = some (.int .i64 (kspec b.bs 2 0 7)) ∧ w'.cell? ⟨w.heap.size, 12, none⟩ = some (.map (some B)) ∧ w'.cell? ⟨w.heap.size + 1, 0, none⟩ = some (.int .i64 s0) ∧ w'.cell? ⟨w.heap.size + 1, 1, none⟩ = some (.int .i64 s1) ∧ w'.cell? ⟨w.heap.size + 1, 2, none⟩ = some (.int .i64 s2) ∧ w'.cell? ⟨w.heap.size + 1, 3, none⟩ = some (.int .i64 s3) ∧ w'.cell? ⟨w.heap.size + 1, 4, none⟩ = some (.int .i64 l0) ∧ w'.cell? ⟨w.heap.size + 1, 5, none⟩ = some (.int .i64 l1) ∧ w'.cell? ⟨w.heap.size + 1, 6, none⟩ = some (.int .i64 l2) ∧ w'.cell? ⟨w.heap.size + 1, 7, none⟩ = some (.int .i64 l3) ∧ w'.cell? ⟨bb, o + i * 4, none⟩ = some (.int .i64 st)) := Lib.hid (fun w' hw => by
    have kb1' : Blk w' w.heap.size 83 #[.int .i64 b.n, .slice h_pb b.bs.length h_cb, .slice h_po b.os.length h_co, .slice (some ⟨bb, o, none⟩) b.ss.length h_cs, .int .i64 (kspec b.bs 2 0 0), .int .i64 (kspec b.bs 2 0 1), .int .i64 (kspec b.bs 2 0 2), .int .i64 (kspec b.bs 2 0 3), .int .i64 (kspec b.bs 2 0 4), .int .i64 (kspec b.bs 2 0 5), .int .i64 (kspec b.bs 2 0 6), .int .i64 (kspec b.bs 2 0 7), .map (some B)] := (hw.block _ kb1.lt).trans kb1
    have kb2' : Blk w' (w.heap.size + 1) 80 #[.int .i64 s0, .int .i64 s1, .int .i64 s2, .int .i64 s3, .int .i64 l0, .int .i64 l1, .int .i64 l2, .int .i64 l3] := (hw.block _ kb2.lt).trans kb2
    refine ⟨?_, ?_, ?_, ?_, ?_, ?_, ?_, ?_, ?_, ?_, ?_, ?_, ?_, ?_, ?_, ?_, ?_, ?_, ?_, ?_, ?_, ?_⟩
    all_goals first
      | (rw [kb1'.cell]; rfl)
      | (rw [kb2'.cell]; rfl)
      | (rw [hw.cell (p := ⟨bb, o + i * 4, none⟩) (by dsimp only; omega)]; exact c0'))
  have hkW := hk.below hWB
  have HK := Lib.hid hkW
  have HW := Lib.hid hWB
  have hbW : bb < W.heap.size := by omega
  clear hk hkW c0 hWB kb1 kb2 hW c0'
  go_region_held3 (fun w' => w'.cell? ⟨w.heap.size, 0, none⟩ = some (.int .i64 b.n) ∧ w'.cell? ⟨w.heap.size, 1, none⟩ = some (.slice h_pb b.bs.length h_cb) ∧ w'.cell? ⟨w.heap.size, 2, none⟩ = some (.slice h_po b.os.length h_co) ∧ w'.cell? ⟨w.heap.size, 3, none⟩ = some (.slice (some ⟨bb, o, none⟩) b.ss.length h_cs) ∧ w'.cell? ⟨w.heap.size, 4, none⟩ = some (.int .i64 (kspec b.bs 2 0 0)) ∧ w'.cell? ⟨w.heap.size, 5, none⟩ = some (.int .i64 (kspec b.bs 2 0 1)) ∧ w'.cell? ⟨w.heap.size, 6, none⟩ = some (.int .i64 (kspec b.bs 2 0 2)) ∧ w'.cell? ⟨w.heap.size, 7, none⟩ = some (.int .i64 (kspec b.bs 2 0 3)) ∧ w'.cell? ⟨w.heap.size, 8, none⟩ = some (.int .i64 (kspec b.bs 2 0 4)) ∧ w'.cell? ⟨w.heap.size, 9, none⟩ = some (.int .i64 (kspec b.bs 2 0 5)) ∧ w'.cell? ⟨w.heap.size, 10, none⟩ = some (.int .i64 (kspec b.bs 2 0 6)) ∧ w'.cell? ⟨w.heap.size, 11, none⟩ = some (.int .i64 (kspec b.bs 2 0 7)) ∧ w'.cell? ⟨w.heap.size, 12, none⟩ = some (.map (some B)) ∧ w'.cell? ⟨w.heap.size + 1, 0, none⟩ = some (.int .i64 s0) ∧ w'.cell? ⟨w.heap.size + 1, 1, none⟩ = some (.int .i64 s1) ∧ w'.cell? ⟨w.heap.size + 1, 2, none⟩ = some (.int .i64 s2) ∧ w'.cell? ⟨w.heap.size + 1, 3, none⟩ = some (.int .i64 s3) ∧ w'.cell? ⟨w.heap.size + 1, 4, none⟩ = some (.int .i64 l0) ∧ w'.cell? ⟨w.heap.size + 1, 5, none⟩ = some (.int .i64 l1) ∧ w'.cell? ⟨w.heap.size + 1, 6, none⟩ = some (.int .i64 l2) ∧ w'.cell? ⟨w.heap.size + 1, 7, none⟩ = some (.int .i64 l3) ∧ w'.cell? ⟨bb, o + i * 4, none⟩ = some (.int .i64 st))
    ((exact kS.out _ (by (repeat (first | (with_reducible exact Below.refl _ _) | (with_reducible assumption) | ((with_reducible refine below_ext_trans ?_ ?_ _); rotate_left; focus (((try dsimp only); repeat (first | omega | simp only [World.size_alloc, World.size_setCell, World.size_drew] | (with_reducible refine le_ext_of ?_) | (with_reducible refine le_ext_add ?_))); done)) | ((with_reducible refine Below.alloc ?_ ?_ _); rotate_left; focus (((try dsimp only); repeat (first | omega | simp only [World.size_alloc, World.size_setCell, World.size_drew] | (with_reducible refine le_ext_of ?_) | (with_reducible refine le_ext_add ?_))); done)) | ((with_reducible refine Below.setCell ?_ ?_ _); rotate_left; focus (((try dsimp only); repeat (first | omega | simp only [World.size_alloc, World.size_setCell, World.size_drew] | (with_reducible refine le_ext_of ?_) | (with_reducible refine le_ext_add ?_))); done)) | (with_reducible refine Below.drew ?_))))))
    (first
      | (go_at_call 61; refine (moment_any _ b B i s _ (HK.out.below (by (repeat (first | (with_reducible exact Below.refl _ _) | (with_reducible assumption) | ((with_reducible refine below_ext_trans ?_ ?_ _); rotate_left; focus (((try dsimp only); repeat (first | omega | simp only [World.size_alloc, World.size_setCell, World.size_drew] | (with_reducible refine le_ext_of ?_) | (with_reducible refine le_ext_add ?_))); done)) | ((with_reducible refine Below.alloc ?_ ?_ _); rotate_left; focus (((try dsimp only); repeat (first | omega | simp only [World.size_alloc, World.size_setCell, World.size_drew] | (with_reducible refine le_ext_of ?_) | (with_reducible refine le_ext_add ?_))); done)) | ((with_reducible refine Below.setCell ?_ ?_ _); rotate_left; focus (((try dsimp only); repeat (first | omega | simp only [World.size_alloc, World.size_setCell, World.size_drew] | (with_reducible refine le_ext_of ?_) | (with_reducible refine le_ext_add ?_))); done)) | (with_reducible refine Below.drew ?_))))) HI.out).mono ?_; rintro e w' ⟨rfl, y1, rfl⟩)
      | (go_at_call 70; refine (spells_any _ _ _ _ _ _ _ _ _ _ _ _).mono ?_; rintro e w' ⟨g1, g2, g3, rfl, hg1, hg2, hg3, hsx, y2, rfl⟩)
      | (go_at_call 77; refine (claim_any _ b B i s _ (HK.out.below (by (repeat (first | (with_reducible exact Below.refl _ _) | (with_reducible assumption) | ((with_reducible refine below_ext_trans ?_ ?_ _); rotate_left; focus (((try dsimp only); repeat (first | omega | simp only [World.size_alloc, World.size_setCell, World.size_drew] | (with_reducible refine le_ext_of ?_) | (with_reducible refine le_ext_add ?_))); done)) | ((with_reducible refine Below.alloc ?_ ?_ _); rotate_left; focus (((try dsimp only); repeat (first | omega | simp only [World.size_alloc, World.size_setCell, World.size_drew] | (with_reducible refine le_ext_of ?_) | (with_reducible refine le_ext_add ?_))); done)) | ((with_reducible refine Below.setCell ?_ ?_ _); rotate_left; focus (((try dsimp only); repeat (first | omega | simp only [World.size_alloc, World.size_setCell, World.size_drew] | (with_reducible refine le_ext_of ?_) | (with_reducible refine le_ext_add ?_))); done)) | (with_reducible refine Below.drew ?_))))) HI.out).mono ?_; rintro e w' ⟨rfl, y3, rfl⟩)
      | (go_at_call 76; refine (count_any _ _ _ _ _ _ _ _ _ _ _ _ _ _ _ _ (fun t => ownf b.os st t == s.co) _ (hsx.below (by exact below_ext _ y3)) HLE.out (enters_of Tryd.func78 (by kernel_rfl) rfl) (fun t ht W' hW' => by obtain ⟨q1, q2, q3⟩ := HIN.out t ht; exact fair_any b.os _ _ _ _ B st t W' (HK.out.own.below (Below.trans (by (repeat (first | (with_reducible exact Below.refl _ _) | (with_reducible assumption) | ((with_reducible refine below_ext_trans ?_ ?_ _); rotate_left; focus (((try dsimp only); repeat (first | omega | simp only [World.size_alloc, World.size_setCell, World.size_drew] | (with_reducible refine le_ext_of ?_) | (with_reducible refine le_ext_add ?_))); done)) | ((with_reducible refine Below.alloc ?_ ?_ _); rotate_left; focus (((try dsimp only); repeat (first | omega | simp only [World.size_alloc, World.size_setCell, World.size_drew] | (with_reducible refine le_ext_of ?_) | (with_reducible refine le_ext_add ?_))); done)) | ((with_reducible refine Below.setCell ?_ ?_ _); rotate_left; focus (((try dsimp only); repeat (first | omega | simp only [World.size_alloc, World.size_setCell, World.size_drew] | (with_reducible refine le_ext_of ?_) | (with_reducible refine le_ext_add ?_))); done)) | (with_reducible refine Below.drew ?_)))) (hW'.mono (by ((try dsimp only); repeat (first | omega | simp only [World.size_alloc, World.size_setCell, World.size_drew] | (with_reducible refine le_ext_of ?_) | (with_reducible refine le_ext_add ?_))))))) q1 q2 q3)).mono ?_; rintro e w' ⟨rfl, y4, rfl⟩))
  go_wp2_with fail
  go_ret
  exact ⟨rfl, ext_of (HW.out.trans (Below.mono (B := W.heap.size) (by (repeat (first | (with_reducible exact Below.refl _ _) | (with_reducible assumption) | ((with_reducible refine below_ext_trans ?_ ?_ _); rotate_left; focus (((try dsimp only); repeat (first | omega | simp only [World.size_alloc, World.size_setCell, World.size_drew] | (with_reducible refine le_ext_of ?_) | (with_reducible refine le_ext_add ?_))); done)) | ((with_reducible refine Below.alloc ?_ ?_ _); rotate_left; focus (((try dsimp only); repeat (first | omega | simp only [World.size_alloc, World.size_setCell, World.size_drew] | (with_reducible refine le_ext_of ?_) | (with_reducible refine le_ext_add ?_))); done)) | ((with_reducible refine Below.setCell ?_ ?_ _); rotate_left; focus (((try dsimp only); repeat (first | omega | simp only [World.size_alloc, World.size_setCell, World.size_drew] | (with_reducible refine le_ext_of ?_) | (with_reducible refine le_ext_add ?_))); done)) | (with_reducible refine Below.drew ?_)))) (by omega)))⟩
end Go.Proofs.YtkmjfmppeedaoaaDoor

