/- Contract of open. -/
/- Contract of Turn. -/
/- What is known of bounds, as plain numbers. -/
import Derived.Test.YtdmicngnbcdkdaaDoorRTj
import Derived.Deep.DeepCutAuto
import Derived.Test.YtdmicngnbcdkdaaDoorRTe
set_option linter.unusedSimpArgs false
set_option linter.unusedVariables false
namespace Go.Proofs.YtdmicngnbcdkdaaDoor
open Go Go.RowKit Go.Maps

theorem open_bad (h : Hd) (b : Bk) (q : Bool) (w : World) (hb : BkAt w h b) (hv : bookB b = false) :
    Calls Tryd.prog 47 #[.agg #[.int .i64 b.n, .slice h.pb b.bs.length h.cb, .slice h.po b.os.length h.co, .slice h.ps b.ss.length h.cs], .bool q] w fun e w' => e = .returned (.tuple #[.agg #[.int .i64 0, .slice none 0 0, .slice none 0 0, .slice none 0 0, .int .i64 0, .int .i64 0, .int .i64 0, .int .i64 0, .int .i64 0, .int .i64 0, .int .i64 0, .int .i64 0, .map none], .int .i64 20]) ∧ ∃ x, w' = ext w x := by
  go_enter Tryd.func47, Tryd.ntmps47
  go_wp2_with (go_at_call 43; refine (Check_no _ _ _ (hb.below (by (repeat (first | (with_reducible exact Below.refl _ _) | (with_reducible assumption) | ((with_reducible refine below_ext_trans ?_ ?_ _); rotate_left; focus (((try dsimp only); repeat (first | omega | simp only [World.size_alloc, World.size_setCell, World.size_drew] | (with_reducible refine le_ext_of ?_) | (with_reducible refine le_ext_add ?_))); done)) | ((with_reducible refine Below.alloc ?_ ?_ _); rotate_left; focus (((try dsimp only); repeat (first | omega | simp only [World.size_alloc, World.size_setCell, World.size_drew] | (with_reducible refine le_ext_of ?_) | (with_reducible refine le_ext_add ?_))); done)) | ((with_reducible refine Below.setCell ?_ ?_ _); rotate_left; focus (((try dsimp only); repeat (first | omega | simp only [World.size_alloc, World.size_setCell, World.size_drew] | (with_reducible refine le_ext_of ?_) | (with_reducible refine le_ext_add ?_))); done)) | (with_reducible refine Below.drew ?_))))) hv).mono ?_; rintro e w' ⟨rfl, y, rfl⟩)
  refine bodyPost_ret (v := .tuple #[.agg #[.int .i64 0, .slice none 0 0, .slice none 0 0, .slice none 0 0, .int .i64 0, .int .i64 0, .int .i64 0, .int .i64 0, .int .i64 0, .int .i64 0, .int .i64 0, .int .i64 0, .map none], .int .i64 20]) (by simp [results, Tryd.results47, go_sem]) rfl ⟨rfl, ?_⟩
  (exact ext_of (by (repeat (first | (with_reducible exact Below.refl _ _) | (with_reducible assumption) | ((with_reducible refine below_ext_trans ?_ ?_ _); rotate_left; focus (((try dsimp only); repeat (first | omega | simp only [World.size_alloc, World.size_setCell, World.size_drew] | (with_reducible refine le_ext_of ?_) | (with_reducible refine le_ext_add ?_))); done)) | ((with_reducible refine Below.alloc ?_ ?_ _); rotate_left; focus (((try dsimp only); repeat (first | omega | simp only [World.size_alloc, World.size_setCell, World.size_drew] | (with_reducible refine le_ext_of ?_) | (with_reducible refine le_ext_add ?_))); done)) | ((with_reducible refine Below.setCell ?_ ?_ _); rotate_left; focus (((try dsimp only); repeat (first | omega | simp only [World.size_alloc, World.size_setCell, World.size_drew] | (with_reducible refine le_ext_of ?_) | (with_reducible refine le_ext_add ?_))); done)) | (with_reducible refine Below.drew ?_)))))

theorem open_ask (h : Hd) (b : Bk) (w : World) (hb : BkAt w h b) (hv : bookB b = true) :
    Calls Tryd.prog 47 #[.agg #[.int .i64 b.n, .slice h.pb b.bs.length h.cb, .slice h.po b.os.length h.co, .slice h.ps b.ss.length h.cs], .bool false] w fun e w' => e = .returned (.tuple #[.agg #[.int .i64 0, .slice none 0 0, .slice none 0 0, .slice none 0 0, .int .i64 0, .int .i64 0, .int .i64 0, .int .i64 0, .int .i64 0, .int .i64 0, .int .i64 0, .int .i64 0, .map none], .int .i64 21]) ∧ ∃ x, w' = ext w x := by
  go_enter Tryd.func47, Tryd.ntmps47
  go_wp2_with (go_at_call 43; refine (Check_yes _ _ _ (hb.below (by (repeat (first | (with_reducible exact Below.refl _ _) | (with_reducible assumption) | ((with_reducible refine below_ext_trans ?_ ?_ _); rotate_left; focus (((try dsimp only); repeat (first | omega | simp only [World.size_alloc, World.size_setCell, World.size_drew] | (with_reducible refine le_ext_of ?_) | (with_reducible refine le_ext_add ?_))); done)) | ((with_reducible refine Below.alloc ?_ ?_ _); rotate_left; focus (((try dsimp only); repeat (first | omega | simp only [World.size_alloc, World.size_setCell, World.size_drew] | (with_reducible refine le_ext_of ?_) | (with_reducible refine le_ext_add ?_))); done)) | ((with_reducible refine Below.setCell ?_ ?_ _); rotate_left; focus (((try dsimp only); repeat (first | omega | simp only [World.size_alloc, World.size_setCell, World.size_drew] | (with_reducible refine le_ext_of ?_) | (with_reducible refine le_ext_add ?_))); done)) | (with_reducible refine Below.drew ?_))))) hv).mono ?_; rintro e w' ⟨rfl, y, rfl⟩)
  refine bodyPost_ret (v := .tuple #[.agg #[.int .i64 0, .slice none 0 0, .slice none 0 0, .slice none 0 0, .int .i64 0, .int .i64 0, .int .i64 0, .int .i64 0, .int .i64 0, .int .i64 0, .int .i64 0, .int .i64 0, .map none], .int .i64 21]) (by simp [results, Tryd.results47, go_sem]) rfl ⟨rfl, ?_⟩
  (exact ext_of (by (repeat (first | (with_reducible exact Below.refl _ _) | (with_reducible assumption) | ((with_reducible refine below_ext_trans ?_ ?_ _); rotate_left; focus (((try dsimp only); repeat (first | omega | simp only [World.size_alloc, World.size_setCell, World.size_drew] | (with_reducible refine le_ext_of ?_) | (with_reducible refine le_ext_add ?_))); done)) | ((with_reducible refine Below.alloc ?_ ?_ _); rotate_left; focus (((try dsimp only); repeat (first | omega | simp only [World.size_alloc, World.size_setCell, World.size_drew] | (with_reducible refine le_ext_of ?_) | (with_reducible refine le_ext_add ?_))); done)) | ((with_reducible refine Below.setCell ?_ ?_ _); rotate_left; focus (((try dsimp only); repeat (first | omega | simp only [World.size_alloc, World.size_setCell, World.size_drew] | (with_reducible refine le_ext_of ?_) | (with_reducible refine le_ext_add ?_))); done)) | (with_reducible refine Below.drew ?_)))))

def OpenPost (w : World) (h : Hd) (b : Bk) (e : Ending) (w' : World) : Prop :=
  ∃ B : Nat, e = .returned (.tuple #[.agg #[.int .i64 b.n, .slice h.pb b.bs.length h.cb, .slice h.po b.os.length h.co, .slice h.ps b.ss.length h.cs, .int .i64 (kspec b.bs 2 0 0), .int .i64 (kspec b.bs 2 0 1), .int .i64 (kspec b.bs 2 0 2), .int .i64 (kspec b.bs 2 0 3), .int .i64 (kspec b.bs 2 0 4), .int .i64 (kspec b.bs 2 0 5), .int .i64 (kspec b.bs 2 0 6), .int .i64 (kspec b.bs 2 0 7), .map (some B)], .int .i64 0]) ∧ CoveOK w' h b B ∧ ∃ x, w' = ext w x
set_option maxHeartbeats 1000000 in
theorem open_yes (h : Hd) (b : Bk) (w : World) (hb : BkAt w h b) (hv : bookB b = true) (hn : NB w) :
    Calls Tryd.prog 47 #[.agg #[.int .i64 b.n, .slice h.pb b.bs.length h.cb, .slice h.po b.os.length h.co, .slice h.ps b.ss.length h.cs], .bool true] w (OpenPost w h b) := by
  go_enter Tryd.func47, Tryd.ntmps47
  go_wp2_with (first | (go_at_call 43; refine (Check_yes _ _ _ (hb.below (by (repeat (first | (with_reducible exact Below.refl _ _) | (with_reducible assumption) | ((with_reducible refine below_ext_trans ?_ ?_ _); rotate_left; focus (((try dsimp only); repeat (first | omega | simp only [World.size_alloc, World.size_setCell, World.size_drew] | (with_reducible refine le_ext_of ?_) | (with_reducible refine le_ext_add ?_))); done)) | ((with_reducible refine Below.alloc ?_ ?_ _); rotate_left; focus (((try dsimp only); repeat (first | omega | simp only [World.size_alloc, World.size_setCell, World.size_drew] | (with_reducible refine le_ext_of ?_) | (with_reducible refine le_ext_add ?_))); done)) | ((with_reducible refine Below.setCell ?_ ?_ _); rotate_left; focus (((try dsimp only); repeat (first | omega | simp only [World.size_alloc, World.size_setCell, World.size_drew] | (with_reducible refine le_ext_of ?_) | (with_reducible refine le_ext_add ?_))); done)) | (with_reducible refine Below.drew ?_))))) hv).mono ?_; rintro e w' ⟨rfl, y, rfl⟩) | (go_at_call 66; refine (newCove_any _ _ _ (hb.below (by (repeat (first | (with_reducible exact Below.refl _ _) | (with_reducible assumption) | ((with_reducible refine below_ext_trans ?_ ?_ _); rotate_left; focus (((try dsimp only); repeat (first | omega | simp only [World.size_alloc, World.size_setCell, World.size_drew] | (with_reducible refine le_ext_of ?_) | (with_reducible refine le_ext_add ?_))); done)) | ((with_reducible refine Below.alloc ?_ ?_ _); rotate_left; focus (((try dsimp only); repeat (first | omega | simp only [World.size_alloc, World.size_setCell, World.size_drew] | (with_reducible refine le_ext_of ?_) | (with_reducible refine le_ext_add ?_))); done)) | ((with_reducible refine Below.setCell ?_ ?_ _); rotate_left; focus (((try dsimp only); repeat (first | omega | simp only [World.size_alloc, World.size_setCell, World.size_drew] | (with_reducible refine le_ext_of ?_) | (with_reducible refine le_ext_add ?_))); done)) | (with_reducible refine Below.drew ?_))))) hv (hn.below (by (repeat (first | (with_reducible exact Below.refl _ _) | (with_reducible assumption) | ((with_reducible refine below_ext_trans ?_ ?_ _); rotate_left; focus (((try dsimp only); repeat (first | omega | simp only [World.size_alloc, World.size_setCell, World.size_drew] | (with_reducible refine le_ext_of ?_) | (with_reducible refine le_ext_add ?_))); done)) | ((with_reducible refine Below.alloc ?_ ?_ _); rotate_left; focus (((try dsimp only); repeat (first | omega | simp only [World.size_alloc, World.size_setCell, World.size_drew] | (with_reducible refine le_ext_of ?_) | (with_reducible refine le_ext_add ?_))); done)) | ((with_reducible refine Below.setCell ?_ ?_ _); rotate_left; focus (((try dsimp only); repeat (first | omega | simp only [World.size_alloc, World.size_setCell, World.size_drew] | (with_reducible refine le_ext_of ?_) | (with_reducible refine le_ext_add ?_))); done)) | (with_reducible refine Below.drew ?_)))))).mono ?_; rintro e w' ⟨B, rfl, hB, hown, z, rfl⟩))
  have hB2 : w.heap.size + 2 ≤ B := by
    refine Nat.le_trans ?_ hB
    ((try dsimp only); repeat (first | omega | simp only [World.size_alloc, World.size_setCell, World.size_drew] | (with_reducible refine le_ext_of ?_) | (with_reducible refine le_ext_add ?_)))
  refine bodyPost_ret (v := .tuple #[.agg #[.int .i64 b.n, .slice h.pb b.bs.length h.cb, .slice h.po b.os.length h.co, .slice h.ps b.ss.length h.cs, .int .i64 (kspec b.bs 2 0 0), .int .i64 (kspec b.bs 2 0 1), .int .i64 (kspec b.bs 2 0 2), .int .i64 (kspec b.bs 2 0 3), .int .i64 (kspec b.bs 2 0 4), .int .i64 (kspec b.bs 2 0 5), .int .i64 (kspec b.bs 2 0 6), .int .i64 (kspec b.bs 2 0 7), .map (some B)], .int .i64 0]) (by simp [results, Tryd.results47, go_sem]) rfl ⟨B, rfl, ⟨hb.below (by (repeat (first | (with_reducible exact Below.refl _ _) | (with_reducible assumption) | ((with_reducible refine below_ext_trans ?_ ?_ _); rotate_left; focus (((try dsimp only); repeat (first | omega | simp only [World.size_alloc, World.size_setCell, World.size_drew] | (with_reducible refine le_ext_of ?_) | (with_reducible refine le_ext_add ?_))); done)) | ((with_reducible refine Below.alloc ?_ ?_ _); rotate_left; focus (((try dsimp only); repeat (first | omega | simp only [World.size_alloc, World.size_setCell, World.size_drew] | (with_reducible refine le_ext_of ?_) | (with_reducible refine le_ext_add ?_))); done)) | ((with_reducible refine Below.setCell ?_ ?_ _); rotate_left; focus (((try dsimp only); repeat (first | omega | simp only [World.size_alloc, World.size_setCell, World.size_drew] | (with_reducible refine le_ext_of ?_) | (with_reducible refine le_ext_add ?_))); done)) | (with_reducible refine Below.drew ?_)))), hv, own13 hown (by omega)⟩, ?_⟩
  (exact ext_of (by (repeat (first | (with_reducible exact Below.refl _ _) | (with_reducible assumption) | ((with_reducible refine below_ext_trans ?_ ?_ _); rotate_left; focus (((try dsimp only); repeat (first | omega | simp only [World.size_alloc, World.size_setCell, World.size_drew] | (with_reducible refine le_ext_of ?_) | (with_reducible refine le_ext_add ?_))); done)) | ((with_reducible refine Below.alloc ?_ ?_ _); rotate_left; focus (((try dsimp only); repeat (first | omega | simp only [World.size_alloc, World.size_setCell, World.size_drew] | (with_reducible refine le_ext_of ?_) | (with_reducible refine le_ext_add ?_))); done)) | ((with_reducible refine Below.setCell ?_ ?_ _); rotate_left; focus (((try dsimp only); repeat (first | omega | simp only [World.size_alloc, World.size_setCell, World.size_drew] | (with_reducible refine le_ext_of ?_) | (with_reducible refine le_ext_add ?_))); done)) | (with_reducible refine Below.drew ?_)))))
end Go.Proofs.YtdmicngnbcdkdaaDoor

namespace Go.Proofs.YtdmicngnbcdkdaaDoor
open Go Go.RowKit Go.Maps

/-- What stands behind the statement that opens a book: the cove in a block of its own, and no error. -/
def OpenCut (W : World) (h : Hd) (b : Bk) (s6 s7 : Value) (wx : World) : Prop :=
  ∃ g B : Nat, s6 = .pointer (some ⟨g, 0, none⟩) ∧ s7 = .int .i64 0 ∧ CoveAt wx g B h b ∧ CoveOK wx h b B ∧ W.heap.size ≤ g ∧ Below W.heap.size W wx

theorem own_ne {w : World} {g B N : Nat} {t : TypeId} {cs : Array Value} {f p} (h1 : Blk w g t cs) (h2 : OwnP w B N f p) : B ≠ g := by
  rintro rfl
  obtain ⟨D, ⟨es, clock, h3, _⟩, _⟩ := h2
  have h1' : w.heap[B]? = some (.cells cs t (0, 0)) := h1
  rw [h1'] at h3
  cases h3
theorem openCutA {W X : World} {h : Hd} {b : Bk} {B : Nat} (hX : Below W.heap.size W X) (hok : CoveOK X h b B) : OpenCut W h b (.pointer (some ⟨X.heap.size, 0, none⟩)) (.int .i64 0) (X.alloc (.cells #[.int .i64 b.n, .slice h.pb b.bs.length h.cb, .slice h.po b.os.length h.co, .slice h.ps b.ss.length h.cs, .int .i64 (kspec b.bs 2 0 0), .int .i64 (kspec b.bs 2 0 1), .int .i64 (kspec b.bs 2 0 2), .int .i64 (kspec b.bs 2 0 3), .int .i64 (kspec b.bs 2 0 4), .int .i64 (kspec b.bs 2 0 5), .int .i64 (kspec b.bs 2 0 6), .int .i64 (kspec b.bs 2 0 7), .map (some B)] 83)) :=
  ⟨X.heap.size, B, rfl, rfl, CoveAt.of_blk (Blk.new rfl) rfl, hok.below ((Below.refl _ _).alloc (Nat.le_refl _) _), hX.size, hX.alloc hX.size _⟩
theorem openCutB {W Z : World} {h : Hd} {b : Bk} {B g : Nat} (hb : BkAt W h b) (y : Grow Z) (hz : Blk Z g 83 #[.int .i64 0, .slice none 0 0, .slice none 0 0, .slice none 0 0, .int .i64 0, .int .i64 0, .int .i64 0, .int .i64 0, .int .i64 0, .int .i64 0, .int .i64 0, .int .i64 0, .map none]) (hZ : Below W.heap.size W Z) (hg : W.heap.size ≤ g) (hok : CoveOK (ext Z y) h b B) :
    OpenCut W h b (.pointer (some ⟨g, 0, none⟩)) (.int .i64 0) ((((((((((((((ext Z y).setCell ⟨g, 0, none⟩ (.int .i64 b.n)).setCell ⟨g, 1, none⟩ (.slice h.pb b.bs.length h.cb)).setCell ⟨g, 2, none⟩ (.slice h.po b.os.length h.co)).setCell ⟨g, 3, none⟩ (.slice h.ps b.ss.length h.cs)).setCell ⟨g, 4, none⟩ (.int .i64 (kspec b.bs 2 0 0))).setCell ⟨g, 5, none⟩ (.int .i64 (kspec b.bs 2 0 1))).setCell ⟨g, 6, none⟩ (.int .i64 (kspec b.bs 2 0 2))).setCell ⟨g, 7, none⟩ (.int .i64 (kspec b.bs 2 0 3))).setCell ⟨g, 8, none⟩ (.int .i64 (kspec b.bs 2 0 4))).setCell ⟨g, 9, none⟩ (.int .i64 (kspec b.bs 2 0 5))).setCell ⟨g, 10, none⟩ (.int .i64 (kspec b.bs 2 0 6))).setCell ⟨g, 11, none⟩ (.int .i64 (kspec b.bs 2 0 7))).setCell ⟨g, 12, none⟩ (.map (some (B)))) := by
  have hne := own_ne (hz.ext y) hok.own
  have hbel := bel13 (n := W.heap.size) (W := W) (X := ext Z y) (g := g) (B := B) (h := h) (b := b) (below_ext_trans hZ hZ.size y) hg
  exact ⟨g, B, rfl, rfl, blk13 (hz.ext y), ⟨hb.below hbel, hok.ok, own13 hok.own hne⟩, hg, hbel⟩

set_option maxHeartbeats 4000000 in
theorem Turn_yes (h : Hd) (b : Bk) (m : Int) (w : World) (hb : BkAt w h b) (hv : bookB b = true) (hn : NB w) (hm : isN m 1440 = true) :
    Calls Tryd.prog 15 #[.agg #[.int .i64 b.n, .slice h.pb b.bs.length h.cb, .slice h.po b.os.length h.co, .slice h.ps b.ss.length h.cs], .int .i64 m] w fun e w' => e = .returned (.tuple #[.agg #[.int .i64 (cnt [kspec b.bs 2 0 4, kspec b.bs 2 0 5, kspec b.bs 2 0 6, kspec b.bs 2 0 7] m), .int .i64 (cnt [kspec b.bs 2 0 0, kspec b.bs 2 0 1, kspec b.bs 2 0 2, kspec b.bs 2 0 3] m)], .int .i64 0]) ∧ ∃ x, w' = ext w x := by
  go_enter Tryd.func15, Tryd.ntmps15
  go_upto_region 1 with fail
  generalize hW : (w.alloc _).alloc _ = W
  have hWB : Below w.heap.size w W := by rw [← hW]; (repeat (first | (with_reducible exact Below.refl _ _) | (with_reducible assumption) | ((with_reducible refine below_ext_trans ?_ ?_ _); rotate_left; focus (((try dsimp only); repeat (first | omega | simp only [World.size_alloc, World.size_setCell, World.size_drew] | (with_reducible refine le_ext_of ?_) | (with_reducible refine le_ext_add ?_))); done)) | ((with_reducible refine Below.alloc ?_ ?_ _); rotate_left; focus (((try dsimp only); repeat (first | omega | simp only [World.size_alloc, World.size_setCell, World.size_drew] | (with_reducible refine le_ext_of ?_) | (with_reducible refine le_ext_add ?_))); done)) | ((with_reducible refine Below.setCell ?_ ?_ _); rotate_left; focus (((try dsimp only); repeat (first | omega | simp only [World.size_alloc, World.size_setCell, World.size_drew] | (with_reducible refine le_ext_of ?_) | (with_reducible refine le_ext_add ?_))); done)) | (with_reducible refine Below.drew ?_)))
  have hWs : W.heap.size = w.heap.size + 2 := by rw [← hW]; simp
  have kb1 : Blk W w.heap.size 26 #[.int .i64 b.n, .slice h.pb b.bs.length h.cb, .slice h.po b.os.length h.co, .slice h.ps b.ss.length h.cs] := by rw [← hW]; exact (Blk.new rfl).alloc _
  have kb2 : Blk W (w.heap.size + 1) 33 #[.int .i64 0, .int .i64 0] := by rw [← hW]; exact Blk.new (by simp)
  have kS : Hid (∀ w', Below W.heap.size W w' → w'.cell? ⟨w.heap.size, 0, none⟩ = some (.int .i64 b.n) ∧ w'.cell? ⟨w.heap.size, 1, none⟩ = some (.slice h.pb b.bs.length h.cb) ∧ w'.cell? ⟨w.heap.size, 2, none⟩ = some (.slice h.po b.os.length h.co) ∧ w'.cell? ⟨w.heap.size, 3, none⟩ = some (.slice h.ps b.ss.length h.cs)) := Lib.hid (fun w' hw => by
    have kb1' : Blk w' w.heap.size 26 #[.int .i64 b.n, .slice h.pb b.bs.length h.cb, .slice h.po b.os.length h.co, .slice h.ps b.ss.length h.cs] := (hw.block _ kb1.lt).trans kb1
    refine ⟨?_, ?_, ?_, ?_⟩ <;> (rw [kb1'.cell]; rfl))
  have HB := Lib.hid (hb.below hWB)
  have HN := Lib.hid (hn.below hWB)
  have HW := Lib.hid hWB
  have KB2 := Lib.hid kb2
  have HWs := Lib.hid hWs
  clear hW hb hn hWB kb1 kb2 hWs
  go_cut [6, 7] (fun s6 s7 wx => OpenCut W h b s6 s7 wx)
  case first =>
    go_region_held3 (fun w' => w'.cell? ⟨w.heap.size, 0, none⟩ = some (.int .i64 b.n) ∧ w'.cell? ⟨w.heap.size, 1, none⟩ = some (.slice h.pb b.bs.length h.cb) ∧ w'.cell? ⟨w.heap.size, 2, none⟩ = some (.slice h.po b.os.length h.co) ∧ w'.cell? ⟨w.heap.size, 3, none⟩ = some (.slice h.ps b.ss.length h.cs))
      ((exact kS.out _ (by (repeat (first | (with_reducible exact Below.refl _ _) | (with_reducible assumption) | ((with_reducible refine below_ext_trans ?_ ?_ _); rotate_left; focus (((try dsimp only); repeat (first | omega | simp only [World.size_alloc, World.size_setCell, World.size_drew] | (with_reducible refine le_ext_of ?_) | (with_reducible refine le_ext_add ?_))); done)) | ((with_reducible refine Below.alloc ?_ ?_ _); rotate_left; focus (((try dsimp only); repeat (first | omega | simp only [World.size_alloc, World.size_setCell, World.size_drew] | (with_reducible refine le_ext_of ?_) | (with_reducible refine le_ext_add ?_))); done)) | ((with_reducible refine Below.setCell ?_ ?_ _); rotate_left; focus (((try dsimp only); repeat (first | omega | simp only [World.size_alloc, World.size_setCell, World.size_drew] | (with_reducible refine le_ext_of ?_) | (with_reducible refine le_ext_add ?_))); done)) | (with_reducible refine Below.drew ?_))))))
      (first
        | (go_at_call 48; refine (isMinute_any _ _).mono ?_; rintro e w' ⟨rfl, rfl⟩)
        | (go_at_call 47; refine (open_yes _ _ _ (HB.out.below (by (repeat (first | (with_reducible exact Below.refl _ _) | (with_reducible assumption) | ((with_reducible refine below_ext_trans ?_ ?_ _); rotate_left; focus (((try dsimp only); repeat (first | omega | simp only [World.size_alloc, World.size_setCell, World.size_drew] | (with_reducible refine le_ext_of ?_) | (with_reducible refine le_ext_add ?_))); done)) | ((with_reducible refine Below.alloc ?_ ?_ _); rotate_left; focus (((try dsimp only); repeat (first | omega | simp only [World.size_alloc, World.size_setCell, World.size_drew] | (with_reducible refine le_ext_of ?_) | (with_reducible refine le_ext_add ?_))); done)) | ((with_reducible refine Below.setCell ?_ ?_ _); rotate_left; focus (((try dsimp only); repeat (first | omega | simp only [World.size_alloc, World.size_setCell, World.size_drew] | (with_reducible refine le_ext_of ?_) | (with_reducible refine le_ext_add ?_))); done)) | (with_reducible refine Below.drew ?_))))) hv (HN.out.below (by (repeat (first | (with_reducible exact Below.refl _ _) | (with_reducible assumption) | ((with_reducible refine below_ext_trans ?_ ?_ _); rotate_left; focus (((try dsimp only); repeat (first | omega | simp only [World.size_alloc, World.size_setCell, World.size_drew] | (with_reducible refine le_ext_of ?_) | (with_reducible refine le_ext_add ?_))); done)) | ((with_reducible refine Below.alloc ?_ ?_ _); rotate_left; focus (((try dsimp only); repeat (first | omega | simp only [World.size_alloc, World.size_setCell, World.size_drew] | (with_reducible refine le_ext_of ?_) | (with_reducible refine le_ext_add ?_))); done)) | ((with_reducible refine Below.setCell ?_ ?_ _); rotate_left; focus (((try dsimp only); repeat (first | omega | simp only [World.size_alloc, World.size_setCell, World.size_drew] | (with_reducible refine le_ext_of ?_) | (with_reducible refine le_ext_add ?_))); done)) | (with_reducible refine Below.drew ?_)))))).mono ?_; rintro e w' ⟨B, rfl, hok, y, rfl⟩))
    all_goals (go_wp2_with fail; go_meet)
    · exact openCutA (by (repeat (first | (with_reducible exact Below.refl _ _) | (with_reducible assumption) | ((with_reducible refine below_ext_trans ?_ ?_ _); rotate_left; focus (((try dsimp only); repeat (first | omega | simp only [World.size_alloc, World.size_setCell, World.size_drew] | (with_reducible refine le_ext_of ?_) | (with_reducible refine le_ext_add ?_))); done)) | ((with_reducible refine Below.alloc ?_ ?_ _); rotate_left; focus (((try dsimp only); repeat (first | omega | simp only [World.size_alloc, World.size_setCell, World.size_drew] | (with_reducible refine le_ext_of ?_) | (with_reducible refine le_ext_add ?_))); done)) | ((with_reducible refine Below.setCell ?_ ?_ _); rotate_left; focus (((try dsimp only); repeat (first | omega | simp only [World.size_alloc, World.size_setCell, World.size_drew] | (with_reducible refine le_ext_of ?_) | (with_reducible refine le_ext_add ?_))); done)) | (with_reducible refine Below.drew ?_)))) hok
    all_goals exact openCutB HB.out y ((Blk.new rfl).drew) (by (repeat (first | (with_reducible exact Below.refl _ _) | (with_reducible assumption) | ((with_reducible refine below_ext_trans ?_ ?_ _); rotate_left; focus (((try dsimp only); repeat (first | omega | simp only [World.size_alloc, World.size_setCell, World.size_drew] | (with_reducible refine le_ext_of ?_) | (with_reducible refine le_ext_add ?_))); done)) | ((with_reducible refine Below.alloc ?_ ?_ _); rotate_left; focus (((try dsimp only); repeat (first | omega | simp only [World.size_alloc, World.size_setCell, World.size_drew] | (with_reducible refine le_ext_of ?_) | (with_reducible refine le_ext_add ?_))); done)) | ((with_reducible refine Below.setCell ?_ ?_ _); rotate_left; focus (((try dsimp only); repeat (first | omega | simp only [World.size_alloc, World.size_setCell, World.size_drew] | (with_reducible refine le_ext_of ?_) | (with_reducible refine le_ext_add ?_))); done)) | (with_reducible refine Below.drew ?_)))) (by omega) hok
  case rest =>
    obtain ⟨g, B, rfl, rfl, hC, hOK, hg, hbel⟩ := hcut
    have hgl := hC.lt
    have kb2 : Blk wc (w.heap.size + 1) 33 #[.int .i64 0, .int .i64 0] := (hbel.block _ (by have := HWs.out; omega)).trans KB2.out
    have r0 := kb2.cell 0
    have r1 := kb2.cell 1
    have f0 := kb2.frozen 0
    have f1 := kb2.frozen 1
    simp only [List.size_toArray, List.length_cons, List.length_nil, Nat.reduceAdd, Nat.reduceLT, getElem?_pos, List.getElem_toArray, List.getElem_cons_zero, List.getElem_cons_succ] at r0 r1
    have hl1 := kb2.lt
    have e4 := hC.e4
    have e5 := hC.e5
    have e6 := hC.e6
    have e7 := hC.e7
    have e8 := hC.e8
    have e9 := hC.e9
    have e10 := hC.e10
    have e11 := hC.e11
    have HBEL := Lib.hid hbel
    clear hC hOK hbel kb2 kS
    go_wp2_with fail
    refine wp_region_ext_tail 5 (by kernel_rfl) (by kernel_rfl) ?_
    simp only [List.take_succ_cons, List.take_zero, List.drop_succ_cons, List.drop_zero]
    repeat (go_big_quiet_step (first | (go_at_call 50; exact quiet_ext (just_any _ _)) | (go_at_call 49; exact quiet_ext (turns_any _ _ _ _ _ _ _ _ _ _ _))))
    (refine wpQuiet_nil ?_; rintro _ ⟨x, rfl⟩)
    go_wp2_with fail
    refine bodyPost_ret (v := .tuple #[.agg #[.int .i64 (cnt [kspec b.bs 2 0 4, kspec b.bs 2 0 5, kspec b.bs 2 0 6, kspec b.bs 2 0 7] m), .int .i64 (cnt [kspec b.bs 2 0 0, kspec b.bs 2 0 1, kspec b.bs 2 0 2, kspec b.bs 2 0 3] m)], .int .i64 0]) (by simp [results, Tryd.results15, go_sem, r0, r1, hl1]) rfl ⟨rfl, ?_⟩
    have hwc : Below w.heap.size w wc := HW.out.trans (HBEL.out.mono HW.out.size)
    (exact ext_of (by (repeat (first | (with_reducible exact Below.refl _ _) | (with_reducible assumption) | ((with_reducible refine below_ext_trans ?_ ?_ _); rotate_left; focus (((try dsimp only); repeat (first | omega | simp only [World.size_alloc, World.size_setCell, World.size_drew] | (with_reducible refine le_ext_of ?_) | (with_reducible refine le_ext_add ?_))); done)) | ((with_reducible refine Below.alloc ?_ ?_ _); rotate_left; focus (((try dsimp only); repeat (first | omega | simp only [World.size_alloc, World.size_setCell, World.size_drew] | (with_reducible refine le_ext_of ?_) | (with_reducible refine le_ext_add ?_))); done)) | ((with_reducible refine Below.setCell ?_ ?_ _); rotate_left; focus (((try dsimp only); repeat (first | omega | simp only [World.size_alloc, World.size_setCell, World.size_drew] | (with_reducible refine le_ext_of ?_) | (with_reducible refine le_ext_add ?_))); done)) | (with_reducible refine Below.drew ?_)))))
end Go.Proofs.YtdmicngnbcdkdaaDoor

namespace Go.Proofs.YtdmicngnbcdkdaaDoor
open Go Go.RowKit

def soonL (l : List (Int × Int)) : List Int := [kspec l 2 0 0, kspec l 2 0 1, kspec l 2 0 2, kspec l 2 0 3]
def lateL (l : List (Int × Int)) : List Int := [kspec l 2 0 4, kspec l 2 0 5, kspec l 2 0 6, kspec l 2 0 7]

/-- The bounds that a minute is past, counted one by one. -/
theorem cnt_cons (t : Int) (l : List Int) (m : Int) : cnt (t :: l) m = (if t ≤ m then 1 else 0) + cnt l m := by
  unfold cnt
  by_cases h : t ≤ m <;> simp [List.filter_cons, h]; omega
theorem cnt_nil (m : Int) : cnt [] m = 0 := rfl

theorem kspec2 (l : List (Int × Int)) (j : Nat) (hj : j < 8) : kspec l 2 0 j = padv l (j / 4) (j % 4) := by
  unfold kspec; rw [if_pos (.inl (by omega))]
theorem soon_eq (l : List (Int × Int)) : soonL l = [(l.map Prod.fst).getD 0 1440, (l.map Prod.fst).getD 1 1440, (l.map Prod.fst).getD 2 1440, (l.map Prod.fst).getD 3 1440] := by
  simp [soonL, kspec2, padv]
theorem late_eq (l : List (Int × Int)) : lateL l = [(l.map Prod.snd).getD 0 1440, (l.map Prod.snd).getD 1 1440, (l.map Prod.snd).getD 2 1440, (l.map Prod.snd).getD 3 1440] := by
  simp [lateL, kspec2, padv]

/-- The four cases of a list of at most four. -/
theorem four {α : Type} (l : List α) (h : l.length ≤ 4) : l = [] ∨ (∃ a, l = [a]) ∨ (∃ a b, l = [a, b]) ∨ (∃ a b c, l = [a, b, c]) ∨ ∃ a b c d, l = [a, b, c, d] := by
  match l, h with
  | [], _ => exact .inl rfl
  | [a], _ => exact .inr (.inl ⟨a, rfl⟩)
  | [a, b], _ => exact .inr (.inr (.inl ⟨a, b, rfl⟩))
  | [a, b, c], _ => exact .inr (.inr (.inr (.inl ⟨a, b, c, rfl⟩)))
  | [a, b, c, d], _ => exact .inr (.inr (.inr (.inr ⟨a, b, c, d, rfl⟩)))
  | _ :: _ :: _ :: _ :: _ :: _, h => simp at h

theorem chain_facts {p : Int} {l : List (Int × Int)} (h : chainB p l = true) : ∀ s ∈ l, s.1 ≤ s.2 := by
  induction l generalizing p with
  | nil => simp
  | cons s l ih =>
    simp only [chainB, Bool.and_eq_true, decide_eq_true_eq] at h
    intro x hx
    rcases List.mem_cons.1 hx with rfl | hx
    · have := momB_iff.1 h.1.1; unfold Mom at this; omega
    · exact ih h.2 x hx

/-- What is past at the latest is past at the soonest, at a minute that is no sooner. -/
theorem cnt_late_soon (l : List (Int × Int)) (h4 : l.length ≤ 4) (hs : ∀ s ∈ l, s.1 ≤ s.2) (a b : Int) (hab : a ≤ b) : cnt (lateL l) a ≤ cnt (soonL l) b := by
  rw [soon_eq, late_eq]
  rcases four l h4 with rfl | ⟨x, rfl⟩ | ⟨x, y, rfl⟩ | ⟨x, y, z, rfl⟩ | ⟨x, y, z, u, rfl⟩ <;> simp only [List.mem_cons, List.not_mem_nil, or_false, forall_eq_or_imp, forall_eq] at hs <;> simp only [List.map_cons, List.map_nil, List.getD_cons_zero, List.getD_cons_succ, List.getD_nil, cnt_cons, cnt_nil] <;> (repeat' split) <;> omega
theorem cnt_soon_le (l : List (Int × Int)) (h4 : l.length ≤ 4) (b : Int) (hb : b < 1440) : cnt (soonL l) b ≤ l.length := by
  rw [soon_eq]
  rcases four l h4 with rfl | ⟨x, rfl⟩ | ⟨x, y, rfl⟩ | ⟨x, y, z, rfl⟩ | ⟨x, y, z, u, rfl⟩ <;> simp only [List.map_cons, List.map_nil, List.getD_cons_zero, List.getD_cons_succ, List.getD_nil, cnt_cons, cnt_nil, List.length_cons, List.length_nil] <;> (repeat' split) <;> omega

/-- What a valid book's shots are. -/
theorem bookB_shot {b : Bk} (hv : bookB b = true) {i : Nat} {s : Shot} (hi : b.ss[i]? = some s) : (0 ≤ s.st ∧ s.st < b.os.length) ∧ (0 ≤ s.co ∧ s.co < b.n) ∧ Mom s.lo s.hi := by
  simp only [bookB, shotsB, Bool.and_eq_true] at hv
  have := List.all_eq_true.1 hv.2.2 s (List.mem_of_getElem? hi)
  simp only [shotB, Bool.and_eq_true] at this
  exact ⟨of_isN this.1.1, of_isN this.1.2, momB_iff.1 this.2⟩
theorem bookB_bounds {b : Bk} (hv : bookB b = true) : b.bs.length ≤ 4 ∧ (∀ s ∈ b.bs, s.1 ≤ s.2) ∧ chainB (-1) b.bs = true := by
  simp only [bookB, boundsB, Bool.and_eq_true, decide_eq_true_eq] at hv
  exact ⟨hv.1.1.2.1, chain_facts hv.1.1.2.2, hv.1.1.2.2⟩
end Go.Proofs.YtdmicngnbcdkdaaDoor

