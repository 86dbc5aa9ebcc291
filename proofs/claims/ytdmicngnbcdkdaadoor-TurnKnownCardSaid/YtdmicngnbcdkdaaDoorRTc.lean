/- Contracts of package turn: orders, shots, the whole book. -/
/- Contracts of package turn: shots, the whole book, Check. -/
import Derived.Test.YtdmicngnbcdkdaaDoorRTa
set_option linter.unusedSimpArgs false
set_option linter.unusedVariables false
namespace Go.Proofs.YtdmicngnbcdkdaaDoor
open Go Go.RowKit

theorem IntsAt.alloc {w : World} {p : Option Addr} {l : List Int} (h : IntsAt w p l) (o : Obj) : IntsAt (w.alloc o) p l := by
  obtain ⟨x, hx⟩ := ext_of ((Below.refl w.heap.size w).alloc (Nat.le_refl _) o)
  rw [hx]; exact h.ext x
def orderB (n : Int) (m : Nat) (o : List Int) : Bool := decide (o.length = m + 1) && o.all (fun c => isN c n)
def ordersB (n : Int) (m : Nat) (os : List (List Int)) : Bool := decide (1 ≤ os.length ∧ os.length ≤ 3) && os.all (orderB n m)
set_option maxHeartbeats 2000000 in
theorem validOrders_any (n : Int) (pb po ps : Option Addr) (nb cb co ns cs : Nat) (os : List (List Int)) (w : World) (hnb : (nb : Int) ≤ 4) (ho : RowsAt w po os) :
    Calls Tryd.prog 84 #[.agg #[.int .i64 n, .slice pb nb cb, .slice po os.length co, .slice ps ns cs]] w fun e w' => e = .returned (.bool (ordersB n nb os)) ∧ ∃ x, w' = ext w x := by
  by_cases h1 : (os.length : Int) < 1
  · have H := Lib.hid (show ordersB n nb os = false by simp [ordersB]; omega)
    go_enter Tryd.func84, Tryd.ntmps84
    go_wp2_with fail
    go_ret
    exact ⟨by rw [H.out]; rfl, by (exact ext_of (by (repeat (first | (with_reducible exact Below.refl _ _) | (with_reducible assumption) | ((with_reducible refine below_ext_trans ?_ ?_ _); rotate_left; focus (((try dsimp only); repeat (first | omega | simp only [World.size_alloc, World.size_setCell, World.size_drew] | (with_reducible refine le_ext_of ?_) | (with_reducible refine le_ext_add ?_))); done)) | ((with_reducible refine Below.alloc ?_ ?_ _); rotate_left; focus (((try dsimp only); repeat (first | omega | simp only [World.size_alloc, World.size_setCell, World.size_drew] | (with_reducible refine le_ext_of ?_) | (with_reducible refine le_ext_add ?_))); done)) | ((with_reducible refine Below.setCell ?_ ?_ _); rotate_left; focus (((try dsimp only); repeat (first | omega | simp only [World.size_alloc, World.size_setCell, World.size_drew] | (with_reducible refine le_ext_of ?_) | (with_reducible refine le_ext_add ?_))); done)) | (with_reducible refine Below.drew ?_)))))⟩
  · by_cases h3 : (3 : Int) < os.length
    · have H := Lib.hid (show ordersB n nb os = false by simp [ordersB]; omega)
      go_enter Tryd.func84, Tryd.ntmps84
      go_wp2_with fail
      go_ret
      exact ⟨by rw [H.out]; rfl, by (exact ext_of (by (repeat (first | (with_reducible exact Below.refl _ _) | (with_reducible assumption) | ((with_reducible refine below_ext_trans ?_ ?_ _); rotate_left; focus (((try dsimp only); repeat (first | omega | simp only [World.size_alloc, World.size_setCell, World.size_drew] | (with_reducible refine le_ext_of ?_) | (with_reducible refine le_ext_add ?_))); done)) | ((with_reducible refine Below.alloc ?_ ?_ _); rotate_left; focus (((try dsimp only); repeat (first | omega | simp only [World.size_alloc, World.size_setCell, World.size_drew] | (with_reducible refine le_ext_of ?_) | (with_reducible refine le_ext_add ?_))); done)) | ((with_reducible refine Below.setCell ?_ ?_ _); rotate_left; focus (((try dsimp only); repeat (first | omega | simp only [World.size_alloc, World.size_setCell, World.size_drew] | (with_reducible refine le_ext_of ?_) | (with_reducible refine le_ext_add ?_))); done)) | (with_reducible refine Below.drew ?_)))))⟩
    · have H := Lib.hid (show ordersB n nb os = (os.drop 0).all (orderB n nb) by simp [ordersB]; omega)
      have h1' : (1 : Int) ≤ os.length := by omega
      have h3' : (os.length : Int) ≤ 3 := by omega
      clear h1 h3
      go_enter Tryd.func84, Tryd.ntmps84
      go_wp2_with fail
      go_loop [6, 20] (fun _ i => ∃ k : Nat, k ≤ os.length ∧ i = .int .i64 k ∧ Hid (ordersB n nb os = (os.drop k).all (orderB n nb))) (fun _ i => os.length - (intOf i).toNat)
      case atStart => exact ⟨0, by omega, rfl, H⟩
      case round =>
        obtain ⟨k, hk, rfl, H⟩ := hrel
        by_cases hlt : k < os.length
        · obtain ⟨r, hr⟩ := get_some os k hlt
          obtain ⟨b, o, rfl, hb, q, c, c1, hq⟩ := ho k r hr
          have HS := Lib.hid (show ordersB n nb os = (orderB n nb r && (os.drop (k + 1)).all (orderB n nb)) by have := H.out; rw [drop_of_get hr] at this; exact this)
          clear hr H
          by_cases hrl : r.length = nb + 1
          · have hl2 : ((r.length : Int) == (nb : Int) + 1) = true := by simp; omega
            have hrl' : (r.length : Int) ≤ 5 := by omega
            have HS := Lib.hid (show ordersB n nb os = (r.all (fun c => isN c n) && (os.drop (k + 1)).all (orderB n nb)) by rw [HS.out]; simp [orderB, hrl])
            clear hrl
            go_wp2_with fail
            go_loop [33] (fun i => ∃ j : Nat, j ≤ r.length ∧ i = .int .i64 j ∧ Hid (r.all (fun c => isN c n) = (r.drop j).all (fun c => isN c n))) (fun i => r.length - (intOf i).toNat)
            case atStart => exact ⟨0, by omega, rfl, rfl⟩
            case round =>
              obtain ⟨j, hj, rfl, HJ⟩ := hrel
              by_cases hjl : j < r.length
              · obtain ⟨z, hz⟩ := get_some r j hjl
                obtain ⟨b2, o2, rfl, hb2, c2⟩ := hq j z hz
                have HZ := Lib.hid (show r.all (fun c => isN c n) = (isN z n && (r.drop (j + 1)).all (fun c => isN c n)) by have := HJ.out; rw [drop_of_get hz] at this; exact this)
                clear hz HJ
                by_cases hzn : isN z n = true
                · have HZ2 := Lib.hid (show r.all (fun c => isN c n) = (r.drop (j + 1)).all (fun c => isN c n) by rw [HZ.out, hzn]; simp)
                  clear HZ
                  go_wp2_with (go_at_call 59; refine (isNumber_any _ _ _).mono ?_; rintro e w' ⟨rfl, rfl⟩)
                  go_round
                  case rel => exact ⟨j + 1, by omega, by go_num, HZ2⟩
                  case measure => simp [intOf]; omega
                · have hzn : isN z n = false := by simpa using hzn
                  have HZ2 := Lib.hid (show ordersB n nb os = false by rw [HS.out, HZ.out, hzn]; simp)
                  clear HZ
                  go_wp2_with (go_at_call 59; refine (isNumber_any _ _ _).mono ?_; rintro e w' ⟨rfl, rfl⟩)
                  go_ret
                  exact ⟨by rw [HZ2.out]; rfl, by (exact ext_of (by (repeat (first | (with_reducible exact Below.refl _ _) | (with_reducible assumption) | ((with_reducible refine below_ext_trans ?_ ?_ _); rotate_left; focus (((try dsimp only); repeat (first | omega | simp only [World.size_alloc, World.size_setCell, World.size_drew] | (with_reducible refine le_ext_of ?_) | (with_reducible refine le_ext_add ?_))); done)) | ((with_reducible refine Below.alloc ?_ ?_ _); rotate_left; focus (((try dsimp only); repeat (first | omega | simp only [World.size_alloc, World.size_setCell, World.size_drew] | (with_reducible refine le_ext_of ?_) | (with_reducible refine le_ext_add ?_))); done)) | ((with_reducible refine Below.setCell ?_ ?_ _); rotate_left; focus (((try dsimp only); repeat (first | omega | simp only [World.size_alloc, World.size_setCell, World.size_drew] | (with_reducible refine le_ext_of ?_) | (with_reducible refine le_ext_add ?_))); done)) | (with_reducible refine Below.drew ?_)))))⟩
              · have HZ2 := Lib.hid (show ordersB n nb os = (os.drop (k + 1)).all (orderB n nb) by rw [HS.out, HJ.out, List.drop_eq_nil_of_le (by omega : r.length ≤ j)]; simp)
                go_wp2_with fail
                go_round
                case rel => exact ⟨k + 1, by omega, by go_num, HZ2⟩
                case measure => simp [intOf]; omega
          · have hl2 : ((r.length : Int) == (nb : Int) + 1) = false := by simp; omega
            have H3 := Lib.hid (show ordersB n nb os = false by rw [HS.out]; simp [orderB, hrl])
            clear HS hrl
            go_wp2_with fail
            go_ret
            exact ⟨by rw [H3.out]; rfl, by (exact ext_of (by (repeat (first | (with_reducible exact Below.refl _ _) | (with_reducible assumption) | ((with_reducible refine below_ext_trans ?_ ?_ _); rotate_left; focus (((try dsimp only); repeat (first | omega | simp only [World.size_alloc, World.size_setCell, World.size_drew] | (with_reducible refine le_ext_of ?_) | (with_reducible refine le_ext_add ?_))); done)) | ((with_reducible refine Below.alloc ?_ ?_ _); rotate_left; focus (((try dsimp only); repeat (first | omega | simp only [World.size_alloc, World.size_setCell, World.size_drew] | (with_reducible refine le_ext_of ?_) | (with_reducible refine le_ext_add ?_))); done)) | ((with_reducible refine Below.setCell ?_ ?_ _); rotate_left; focus (((try dsimp only); repeat (first | omega | simp only [World.size_alloc, World.size_setCell, World.size_drew] | (with_reducible refine le_ext_of ?_) | (with_reducible refine le_ext_add ?_))); done)) | (with_reducible refine Below.drew ?_)))))⟩
        · go_wp2_with fail
          go_ret
          exact ⟨by rw [H.out, List.drop_eq_nil_of_le (by omega)]; rfl, by (exact ext_of (by (repeat (first | (with_reducible exact Below.refl _ _) | (with_reducible assumption) | ((with_reducible refine below_ext_trans ?_ ?_ _); rotate_left; focus (((try dsimp only); repeat (first | omega | simp only [World.size_alloc, World.size_setCell, World.size_drew] | (with_reducible refine le_ext_of ?_) | (with_reducible refine le_ext_add ?_))); done)) | ((with_reducible refine Below.alloc ?_ ?_ _); rotate_left; focus (((try dsimp only); repeat (first | omega | simp only [World.size_alloc, World.size_setCell, World.size_drew] | (with_reducible refine le_ext_of ?_) | (with_reducible refine le_ext_add ?_))); done)) | ((with_reducible refine Below.setCell ?_ ?_ _); rotate_left; focus (((try dsimp only); repeat (first | omega | simp only [World.size_alloc, World.size_setCell, World.size_drew] | (with_reducible refine le_ext_of ?_) | (with_reducible refine le_ext_add ?_))); done)) | (with_reducible refine Below.drew ?_)))))⟩
end Go.Proofs.YtdmicngnbcdkdaaDoor

namespace Go.Proofs.YtdmicngnbcdkdaaDoor
open Go Go.RowKit

theorem ShotsAt.below {w w' : World} {p : Option Addr} {l : List Shot} (h : ShotsAt w p l) (hb : Below w.heap.size w w') : ShotsAt w' p l := by
  obtain ⟨x, rfl⟩ := ext_of hb; exact h.ext x
theorem SpansAt.below {w w' : World} {p : Option Addr} {l : List (Int × Int)} (h : SpansAt w p l) (hb : Below w.heap.size w w') : SpansAt w' p l := by
  obtain ⟨x, rfl⟩ := ext_of hb; exact h.ext x
theorem IntsAt.below {w w' : World} {p : Option Addr} {l : List Int} (h : IntsAt w p l) (hb : Below w.heap.size w w') : IntsAt w' p l := by
  obtain ⟨x, rfl⟩ := ext_of hb; exact h.ext x
theorem RowsAt.below {w w' : World} {p : Option Addr} {l : List (List Int)} (h : RowsAt w p l) (hb : Below w.heap.size w w') : RowsAt w' p l := by
  obtain ⟨x, rfl⟩ := ext_of hb; exact h.ext x

def shotB (n : Int) (no : Nat) (s : Shot) : Bool := isN s.st no && isN s.co n && momB s.lo s.hi
def shotsB (n : Int) (no : Nat) (ss : List Shot) : Bool := decide (ss.length ≤ 5) && ss.all (shotB n no)
set_option maxHeartbeats 2000000 in
theorem validShots_any (n : Int) (pb po ps : Option Addr) (nb cb no co cs : Nat) (ss : List Shot) (w : World) (hs : ShotsAt w ps ss) :
    Calls Tryd.prog 85 #[.agg #[.int .i64 n, .slice pb nb cb, .slice po no co, .slice ps ss.length cs]] w fun e w' => e = .returned (.bool (shotsB n no ss)) ∧ ∃ x, w' = ext w x := by
  by_cases h5 : (5 : Int) < ss.length
  · have H := Lib.hid (show shotsB n no ss = false by simp [shotsB]; omega)
    go_enter Tryd.func85, Tryd.ntmps85
    go_wp2_with fail
    go_ret
    exact ⟨by rw [H.out]; rfl, by (exact ext_of (by (repeat (first | (with_reducible exact Below.refl _ _) | (with_reducible assumption) | ((with_reducible refine below_ext_trans ?_ ?_ _); rotate_left; focus (((try dsimp only); repeat (first | omega | simp only [World.size_alloc, World.size_setCell, World.size_drew] | (with_reducible refine le_ext_of ?_) | (with_reducible refine le_ext_add ?_))); done)) | ((with_reducible refine Below.alloc ?_ ?_ _); rotate_left; focus (((try dsimp only); repeat (first | omega | simp only [World.size_alloc, World.size_setCell, World.size_drew] | (with_reducible refine le_ext_of ?_) | (with_reducible refine le_ext_add ?_))); done)) | ((with_reducible refine Below.setCell ?_ ?_ _); rotate_left; focus (((try dsimp only); repeat (first | omega | simp only [World.size_alloc, World.size_setCell, World.size_drew] | (with_reducible refine le_ext_of ?_) | (with_reducible refine le_ext_add ?_))); done)) | (with_reducible refine Below.drew ?_)))))⟩
  · have H := Lib.hid (show shotsB n no ss = (ss.drop 0).all (shotB n no) by simp [shotsB]; omega)
    have h5' : (ss.length : Int) ≤ 5 := by omega
    clear h5
    go_enter Tryd.func85, Tryd.ntmps85
    go_wp2_with fail
    go_loopw [12] (fun i wr => ∃ k : Nat, k ≤ ss.length ∧ i = .int .i64 k ∧ Hid (shotsB n no ss = (ss.drop k).all (shotB n no)) ∧
        Below (w.heap.size + 1) (w.alloc (.cells #[.int .i64 n, .slice pb nb cb, .slice po no co, .slice ps ss.length cs] 26)) wr) (fun i _ => ss.length - (intOf i).toNat)
    case atStart => exact ⟨0, by omega, rfl, H, Below.refl _ _⟩
    case round =>
      obtain ⟨k, hk, rfl, H, hB⟩ := hrel
      have hz : w.heap.size < wr.heap.size := by have := hB.size; simp at this; omega
      have hz' : w.heap.size ≤ wr.heap.size := by omega
      have hB' : Below w.heap.size w wr := ((Below.refl _ _).alloc (Nat.le_refl _) _).trans (hB.mono (by omega))
      have d0 : wr.cell? ⟨w.heap.size, 0, none⟩ = some (.int .i64 n) := by rw [hB.cell (p := ⟨w.heap.size, 0, none⟩) (by simp)]; simp
      have d1 : wr.cell? ⟨w.heap.size, 1, none⟩ = some (.slice pb nb cb) := by rw [hB.cell (p := ⟨w.heap.size, 1, none⟩) (by simp)]; simp
      have d2 : wr.cell? ⟨w.heap.size, 2, none⟩ = some (.slice po no co) := by rw [hB.cell (p := ⟨w.heap.size, 2, none⟩) (by simp)]; simp
      have d3 : wr.cell? ⟨w.heap.size, 3, none⟩ = some (.slice ps ss.length cs) := by rw [hB.cell (p := ⟨w.heap.size, 3, none⟩) (by simp)]; simp
      have HB := Lib.hid hB
      have HB' := Lib.hid hB'
      clear hB hB'
      by_cases hlt : k < ss.length
      · obtain ⟨⟨st, c0, lo, hi⟩, hr⟩ := get_some ss k hlt
        obtain ⟨b, o, rfl, hb, c1, c2, c3, c4⟩ := (hs.below HB'.out) k _ hr
        dsimp only at c1 c2 c3 c4
        have HS := Lib.hid (show shotsB n no ss = (isN st no && isN c0 n && momB lo hi && (ss.drop (k + 1)).all (shotB n no)) by have := H.out; rw [drop_of_get hr] at this; exact this)
        clear hr H
        by_cases g1 : isN st no = true
        · by_cases g2 : isN c0 n = true
          · by_cases g3 : Mom lo hi
            · have HZ := Lib.hid (show shotsB n no ss = (ss.drop (k + 1)).all (shotB n no) by rw [HS.out, g1, g2, momB_iff.2 g3]; simp)
              clear HS
              go_wp2_with (first | (go_at_call 51; refine (isStation_any _ _ _ _ _ _ _ _ _ _ _ _).mono ?_; rintro e w' ⟨rfl, y, rfl⟩) | (go_at_call 59; refine (isNumber_any _ _ _).mono ?_; rintro e w' ⟨rfl, rfl⟩) | (go_at_call 99; refine (valid_yes _ _ _ g3).mono ?_; rintro e w' ⟨rfl, y, rfl⟩))
              go_roundw
              case rel => exact ⟨k + 1, by omega, by go_num, HZ, by have hB := HB.out; (repeat (first | (with_reducible exact Below.refl _ _) | (with_reducible assumption) | ((with_reducible refine below_ext_trans ?_ ?_ _); rotate_left; focus (((try dsimp only); repeat (first | omega | simp only [World.size_alloc, World.size_setCell, World.size_drew] | (with_reducible refine le_ext_of ?_) | (with_reducible refine le_ext_add ?_))); done)) | ((with_reducible refine Below.alloc ?_ ?_ _); rotate_left; focus (((try dsimp only); repeat (first | omega | simp only [World.size_alloc, World.size_setCell, World.size_drew] | (with_reducible refine le_ext_of ?_) | (with_reducible refine le_ext_add ?_))); done)) | ((with_reducible refine Below.setCell ?_ ?_ _); rotate_left; focus (((try dsimp only); repeat (first | omega | simp only [World.size_alloc, World.size_setCell, World.size_drew] | (with_reducible refine le_ext_of ?_) | (with_reducible refine le_ext_add ?_))); done)) | (with_reducible refine Below.drew ?_)))⟩
              case measure => simp [intOf]; omega
            · have HZ := Lib.hid (show shotsB n no ss = false by rw [HS.out, momB_no.2 g3]; simp)
              clear HS
              go_wp2_with (first | (go_at_call 51; refine (isStation_any _ _ _ _ _ _ _ _ _ _ _ _).mono ?_; rintro e w' ⟨rfl, y, rfl⟩) | (go_at_call 59; refine (isNumber_any _ _ _).mono ?_; rintro e w' ⟨rfl, rfl⟩) | (go_at_call 99; refine (valid_no _ _ _ g3).mono ?_; rintro e w' ⟨rfl, y, rfl⟩))
              go_ret
              exact ⟨by rw [HZ.out]; rfl, ext_of (by have hB := HB'.out; (repeat (first | (with_reducible exact Below.refl _ _) | (with_reducible assumption) | ((with_reducible refine below_ext_trans ?_ ?_ _); rotate_left; focus (((try dsimp only); repeat (first | omega | simp only [World.size_alloc, World.size_setCell, World.size_drew] | (with_reducible refine le_ext_of ?_) | (with_reducible refine le_ext_add ?_))); done)) | ((with_reducible refine Below.alloc ?_ ?_ _); rotate_left; focus (((try dsimp only); repeat (first | omega | simp only [World.size_alloc, World.size_setCell, World.size_drew] | (with_reducible refine le_ext_of ?_) | (with_reducible refine le_ext_add ?_))); done)) | ((with_reducible refine Below.setCell ?_ ?_ _); rotate_left; focus (((try dsimp only); repeat (first | omega | simp only [World.size_alloc, World.size_setCell, World.size_drew] | (with_reducible refine le_ext_of ?_) | (with_reducible refine le_ext_add ?_))); done)) | (with_reducible refine Below.drew ?_))))⟩
          · have g2 : isN c0 n = false := by simpa using g2
            have HZ := Lib.hid (show shotsB n no ss = false by rw [HS.out, g2]; simp)
            clear HS
            go_wp2_with (first | (go_at_call 51; refine (isStation_any _ _ _ _ _ _ _ _ _ _ _ _).mono ?_; rintro e w' ⟨rfl, y, rfl⟩) | (go_at_call 59; refine (isNumber_any _ _ _).mono ?_; rintro e w' ⟨rfl, rfl⟩))
            go_ret
            exact ⟨by rw [HZ.out]; rfl, ext_of (by have hB := HB'.out; (repeat (first | (with_reducible exact Below.refl _ _) | (with_reducible assumption) | ((with_reducible refine below_ext_trans ?_ ?_ _); rotate_left; focus (((try dsimp only); repeat (first | omega | simp only [World.size_alloc, World.size_setCell, World.size_drew] | (with_reducible refine le_ext_of ?_) | (with_reducible refine le_ext_add ?_))); done)) | ((with_reducible refine Below.alloc ?_ ?_ _); rotate_left; focus (((try dsimp only); repeat (first | omega | simp only [World.size_alloc, World.size_setCell, World.size_drew] | (with_reducible refine le_ext_of ?_) | (with_reducible refine le_ext_add ?_))); done)) | ((with_reducible refine Below.setCell ?_ ?_ _); rotate_left; focus (((try dsimp only); repeat (first | omega | simp only [World.size_alloc, World.size_setCell, World.size_drew] | (with_reducible refine le_ext_of ?_) | (with_reducible refine le_ext_add ?_))); done)) | (with_reducible refine Below.drew ?_))))⟩
        · have g1 : isN st no = false := by simpa using g1
          have HZ := Lib.hid (show shotsB n no ss = false by rw [HS.out, g1]; simp)
          clear HS
          go_wp2_with (first | (go_at_call 51; refine (isStation_any _ _ _ _ _ _ _ _ _ _ _ _).mono ?_; rintro e w' ⟨rfl, y, rfl⟩) | (go_at_call 59; refine (isNumber_any _ _ _).mono ?_; rintro e w' ⟨rfl, rfl⟩))
          go_ret
          exact ⟨by rw [HZ.out]; rfl, ext_of (by have hB := HB'.out; (repeat (first | (with_reducible exact Below.refl _ _) | (with_reducible assumption) | ((with_reducible refine below_ext_trans ?_ ?_ _); rotate_left; focus (((try dsimp only); repeat (first | omega | simp only [World.size_alloc, World.size_setCell, World.size_drew] | (with_reducible refine le_ext_of ?_) | (with_reducible refine le_ext_add ?_))); done)) | ((with_reducible refine Below.alloc ?_ ?_ _); rotate_left; focus (((try dsimp only); repeat (first | omega | simp only [World.size_alloc, World.size_setCell, World.size_drew] | (with_reducible refine le_ext_of ?_) | (with_reducible refine le_ext_add ?_))); done)) | ((with_reducible refine Below.setCell ?_ ?_ _); rotate_left; focus (((try dsimp only); repeat (first | omega | simp only [World.size_alloc, World.size_setCell, World.size_drew] | (with_reducible refine le_ext_of ?_) | (with_reducible refine le_ext_add ?_))); done)) | (with_reducible refine Below.drew ?_))))⟩
      · go_wp2_with fail
        go_ret
        exact ⟨by rw [H.out, List.drop_eq_nil_of_le (by omega)]; rfl, ext_of HB'.out⟩

/-- A book as data. -/
structure Bk where
  n : Int
  bs : List (Int × Int)
  os : List (List Int)
  ss : List Shot
structure Hd where
  pb : Option Addr
  cb : Nat
  po : Option Addr
  co : Nat
  ps : Option Addr
  cs : Nat
def bookB (b : Bk) : Bool := decide (1 ≤ b.n ∧ b.n ≤ 4) && boundsB b.bs && ordersB b.n b.bs.length b.os && shotsB b.n b.os.length b.ss
structure BkAt (w : World) (h : Hd) (b : Bk) : Prop where
  bs : SpansAt w h.pb b.bs
  os : RowsAt w h.po b.os
  ss : ShotsAt w h.ps b.ss
theorem BkAt.below {w w' : World} {h : Hd} {b : Bk} (k : BkAt w h b) (hb : Below w.heap.size w w') : BkAt w' h b := ⟨k.bs.below hb, k.os.below hb, k.ss.below hb⟩
abbrev bkv (h : Hd) (b : Bk) : Value := .agg #[.int .i64 b.n, .slice h.pb b.bs.length h.cb, .slice h.po b.os.length h.co, .slice h.ps b.ss.length h.cs]

set_option maxHeartbeats 2000000 in
theorem validBook_any (h : Hd) (b : Bk) (w : World) (hb : BkAt w h b) :
    Calls Tryd.prog 65 #[.agg #[.int .i64 b.n, .slice h.pb b.bs.length h.cb, .slice h.po b.os.length h.co, .slice h.ps b.ss.length h.cs]] w fun e w' => e = .returned (.bool (bookB b)) ∧ ∃ x, w' = ext w x := by
  obtain ⟨n, bs, os, ss⟩ := b
  obtain ⟨pb, cb, po, co, ps, cs⟩ := h
  obtain ⟨hbs, hos, hss⟩ := hb
  dsimp only at hbs hos hss ⊢
  by_cases g1 : 1 ≤ n
  · by_cases g2 : n ≤ 4
    · by_cases g3 : boundsB bs = true
      · have hl : (bs.length : Int) ≤ 4 := by simp [boundsB] at g3; omega
        by_cases g4 : ordersB n bs.length os = true
        · have HZ := Lib.hid (show bookB ⟨n, bs, os, ss⟩ = shotsB n os.length ss by simp [bookB, g1, g2, g3, g4])
          go_enter Tryd.func65, Tryd.ntmps65
          go_wp2_with (first | (go_at_call 83; refine (validBounds_any _ _ _ _ (hbs.below (by (repeat (first | (with_reducible exact Below.refl _ _) | (with_reducible assumption) | ((with_reducible refine below_ext_trans ?_ ?_ _); rotate_left; focus (((try dsimp only); repeat (first | omega | simp only [World.size_alloc, World.size_setCell, World.size_drew] | (with_reducible refine le_ext_of ?_) | (with_reducible refine le_ext_add ?_))); done)) | ((with_reducible refine Below.alloc ?_ ?_ _); rotate_left; focus (((try dsimp only); repeat (first | omega | simp only [World.size_alloc, World.size_setCell, World.size_drew] | (with_reducible refine le_ext_of ?_) | (with_reducible refine le_ext_add ?_))); done)) | ((with_reducible refine Below.setCell ?_ ?_ _); rotate_left; focus (((try dsimp only); repeat (first | omega | simp only [World.size_alloc, World.size_setCell, World.size_drew] | (with_reducible refine le_ext_of ?_) | (with_reducible refine le_ext_add ?_))); done)) | (with_reducible refine Below.drew ?_)))))).mono ?_; rintro e w' ⟨rfl, y, rfl⟩) | (go_at_call 84; refine (validOrders_any _ _ _ _ _ _ _ _ _ _ _ hl (hos.below (by (repeat (first | (with_reducible exact Below.refl _ _) | (with_reducible assumption) | ((with_reducible refine below_ext_trans ?_ ?_ _); rotate_left; focus (((try dsimp only); repeat (first | omega | simp only [World.size_alloc, World.size_setCell, World.size_drew] | (with_reducible refine le_ext_of ?_) | (with_reducible refine le_ext_add ?_))); done)) | ((with_reducible refine Below.alloc ?_ ?_ _); rotate_left; focus (((try dsimp only); repeat (first | omega | simp only [World.size_alloc, World.size_setCell, World.size_drew] | (with_reducible refine le_ext_of ?_) | (with_reducible refine le_ext_add ?_))); done)) | ((with_reducible refine Below.setCell ?_ ?_ _); rotate_left; focus (((try dsimp only); repeat (first | omega | simp only [World.size_alloc, World.size_setCell, World.size_drew] | (with_reducible refine le_ext_of ?_) | (with_reducible refine le_ext_add ?_))); done)) | (with_reducible refine Below.drew ?_)))))).mono ?_; rintro e w' ⟨rfl, y, rfl⟩) | (go_at_call 85; refine (validShots_any _ _ _ _ _ _ _ _ _ _ _ (hss.below (by (repeat (first | (with_reducible exact Below.refl _ _) | (with_reducible assumption) | ((with_reducible refine below_ext_trans ?_ ?_ _); rotate_left; focus (((try dsimp only); repeat (first | omega | simp only [World.size_alloc, World.size_setCell, World.size_drew] | (with_reducible refine le_ext_of ?_) | (with_reducible refine le_ext_add ?_))); done)) | ((with_reducible refine Below.alloc ?_ ?_ _); rotate_left; focus (((try dsimp only); repeat (first | omega | simp only [World.size_alloc, World.size_setCell, World.size_drew] | (with_reducible refine le_ext_of ?_) | (with_reducible refine le_ext_add ?_))); done)) | ((with_reducible refine Below.setCell ?_ ?_ _); rotate_left; focus (((try dsimp only); repeat (first | omega | simp only [World.size_alloc, World.size_setCell, World.size_drew] | (with_reducible refine le_ext_of ?_) | (with_reducible refine le_ext_add ?_))); done)) | (with_reducible refine Below.drew ?_)))))).mono ?_; rintro e w' ⟨rfl, y, rfl⟩))
          go_ret
          exact ⟨by rw [HZ.out]; rfl, by (exact ext_of (by (repeat (first | (with_reducible exact Below.refl _ _) | (with_reducible assumption) | ((with_reducible refine below_ext_trans ?_ ?_ _); rotate_left; focus (((try dsimp only); repeat (first | omega | simp only [World.size_alloc, World.size_setCell, World.size_drew] | (with_reducible refine le_ext_of ?_) | (with_reducible refine le_ext_add ?_))); done)) | ((with_reducible refine Below.alloc ?_ ?_ _); rotate_left; focus (((try dsimp only); repeat (first | omega | simp only [World.size_alloc, World.size_setCell, World.size_drew] | (with_reducible refine le_ext_of ?_) | (with_reducible refine le_ext_add ?_))); done)) | ((with_reducible refine Below.setCell ?_ ?_ _); rotate_left; focus (((try dsimp only); repeat (first | omega | simp only [World.size_alloc, World.size_setCell, World.size_drew] | (with_reducible refine le_ext_of ?_) | (with_reducible refine le_ext_add ?_))); done)) | (with_reducible refine Below.drew ?_)))))⟩
        · have g4 : ordersB n bs.length os = false := by simpa using g4
          have HZ := Lib.hid (show bookB ⟨n, bs, os, ss⟩ = false by simp [bookB, g1, g2, g3, g4])
          go_enter Tryd.func65, Tryd.ntmps65
          go_wp2_with (first | (go_at_call 83; refine (validBounds_any _ _ _ _ (hbs.below (by (repeat (first | (with_reducible exact Below.refl _ _) | (with_reducible assumption) | ((with_reducible refine below_ext_trans ?_ ?_ _); rotate_left; focus (((try dsimp only); repeat (first | omega | simp only [World.size_alloc, World.size_setCell, World.size_drew] | (with_reducible refine le_ext_of ?_) | (with_reducible refine le_ext_add ?_))); done)) | ((with_reducible refine Below.alloc ?_ ?_ _); rotate_left; focus (((try dsimp only); repeat (first | omega | simp only [World.size_alloc, World.size_setCell, World.size_drew] | (with_reducible refine le_ext_of ?_) | (with_reducible refine le_ext_add ?_))); done)) | ((with_reducible refine Below.setCell ?_ ?_ _); rotate_left; focus (((try dsimp only); repeat (first | omega | simp only [World.size_alloc, World.size_setCell, World.size_drew] | (with_reducible refine le_ext_of ?_) | (with_reducible refine le_ext_add ?_))); done)) | (with_reducible refine Below.drew ?_)))))).mono ?_; rintro e w' ⟨rfl, y, rfl⟩) | (go_at_call 84; refine (validOrders_any _ _ _ _ _ _ _ _ _ _ _ hl (hos.below (by (repeat (first | (with_reducible exact Below.refl _ _) | (with_reducible assumption) | ((with_reducible refine below_ext_trans ?_ ?_ _); rotate_left; focus (((try dsimp only); repeat (first | omega | simp only [World.size_alloc, World.size_setCell, World.size_drew] | (with_reducible refine le_ext_of ?_) | (with_reducible refine le_ext_add ?_))); done)) | ((with_reducible refine Below.alloc ?_ ?_ _); rotate_left; focus (((try dsimp only); repeat (first | omega | simp only [World.size_alloc, World.size_setCell, World.size_drew] | (with_reducible refine le_ext_of ?_) | (with_reducible refine le_ext_add ?_))); done)) | ((with_reducible refine Below.setCell ?_ ?_ _); rotate_left; focus (((try dsimp only); repeat (first | omega | simp only [World.size_alloc, World.size_setCell, World.size_drew] | (with_reducible refine le_ext_of ?_) | (with_reducible refine le_ext_add ?_))); done)) | (with_reducible refine Below.drew ?_)))))).mono ?_; rintro e w' ⟨rfl, y, rfl⟩))
          go_ret
          exact ⟨by rw [HZ.out]; rfl, by (exact ext_of (by (repeat (first | (with_reducible exact Below.refl _ _) | (with_reducible assumption) | ((with_reducible refine below_ext_trans ?_ ?_ _); rotate_left; focus (((try dsimp only); repeat (first | omega | simp only [World.size_alloc, World.size_setCell, World.size_drew] | (with_reducible refine le_ext_of ?_) | (with_reducible refine le_ext_add ?_))); done)) | ((with_reducible refine Below.alloc ?_ ?_ _); rotate_left; focus (((try dsimp only); repeat (first | omega | simp only [World.size_alloc, World.size_setCell, World.size_drew] | (with_reducible refine le_ext_of ?_) | (with_reducible refine le_ext_add ?_))); done)) | ((with_reducible refine Below.setCell ?_ ?_ _); rotate_left; focus (((try dsimp only); repeat (first | omega | simp only [World.size_alloc, World.size_setCell, World.size_drew] | (with_reducible refine le_ext_of ?_) | (with_reducible refine le_ext_add ?_))); done)) | (with_reducible refine Below.drew ?_)))))⟩
      · have g3 : boundsB bs = false := by simpa using g3
        have HZ := Lib.hid (show bookB ⟨n, bs, os, ss⟩ = false by simp [bookB, g3])
        go_enter Tryd.func65, Tryd.ntmps65
        go_wp2_with (first | (go_at_call 83; refine (validBounds_any _ _ _ _ (hbs.below (by (repeat (first | (with_reducible exact Below.refl _ _) | (with_reducible assumption) | ((with_reducible refine below_ext_trans ?_ ?_ _); rotate_left; focus (((try dsimp only); repeat (first | omega | simp only [World.size_alloc, World.size_setCell, World.size_drew] | (with_reducible refine le_ext_of ?_) | (with_reducible refine le_ext_add ?_))); done)) | ((with_reducible refine Below.alloc ?_ ?_ _); rotate_left; focus (((try dsimp only); repeat (first | omega | simp only [World.size_alloc, World.size_setCell, World.size_drew] | (with_reducible refine le_ext_of ?_) | (with_reducible refine le_ext_add ?_))); done)) | ((with_reducible refine Below.setCell ?_ ?_ _); rotate_left; focus (((try dsimp only); repeat (first | omega | simp only [World.size_alloc, World.size_setCell, World.size_drew] | (with_reducible refine le_ext_of ?_) | (with_reducible refine le_ext_add ?_))); done)) | (with_reducible refine Below.drew ?_)))))).mono ?_; rintro e w' ⟨rfl, y, rfl⟩))
        go_ret
        exact ⟨by rw [HZ.out]; rfl, by (exact ext_of (by (repeat (first | (with_reducible exact Below.refl _ _) | (with_reducible assumption) | ((with_reducible refine below_ext_trans ?_ ?_ _); rotate_left; focus (((try dsimp only); repeat (first | omega | simp only [World.size_alloc, World.size_setCell, World.size_drew] | (with_reducible refine le_ext_of ?_) | (with_reducible refine le_ext_add ?_))); done)) | ((with_reducible refine Below.alloc ?_ ?_ _); rotate_left; focus (((try dsimp only); repeat (first | omega | simp only [World.size_alloc, World.size_setCell, World.size_drew] | (with_reducible refine le_ext_of ?_) | (with_reducible refine le_ext_add ?_))); done)) | ((with_reducible refine Below.setCell ?_ ?_ _); rotate_left; focus (((try dsimp only); repeat (first | omega | simp only [World.size_alloc, World.size_setCell, World.size_drew] | (with_reducible refine le_ext_of ?_) | (with_reducible refine le_ext_add ?_))); done)) | (with_reducible refine Below.drew ?_)))))⟩
    · have g2' : decide (n ≤ 4) = false := by simpa using g2
      have HZ := Lib.hid (show bookB ⟨n, bs, os, ss⟩ = false by simp [bookB, g2])
      go_enter Tryd.func65, Tryd.ntmps65
      go_wp2_with fail
      go_ret
      exact ⟨by rw [HZ.out]; rfl, by (exact ext_of (by (repeat (first | (with_reducible exact Below.refl _ _) | (with_reducible assumption) | ((with_reducible refine below_ext_trans ?_ ?_ _); rotate_left; focus (((try dsimp only); repeat (first | omega | simp only [World.size_alloc, World.size_setCell, World.size_drew] | (with_reducible refine le_ext_of ?_) | (with_reducible refine le_ext_add ?_))); done)) | ((with_reducible refine Below.alloc ?_ ?_ _); rotate_left; focus (((try dsimp only); repeat (first | omega | simp only [World.size_alloc, World.size_setCell, World.size_drew] | (with_reducible refine le_ext_of ?_) | (with_reducible refine le_ext_add ?_))); done)) | ((with_reducible refine Below.setCell ?_ ?_ _); rotate_left; focus (((try dsimp only); repeat (first | omega | simp only [World.size_alloc, World.size_setCell, World.size_drew] | (with_reducible refine le_ext_of ?_) | (with_reducible refine le_ext_add ?_))); done)) | (with_reducible refine Below.drew ?_)))))⟩
  · have g1' : decide (1 ≤ n) = false := by simpa using g1
    have HZ := Lib.hid (show bookB ⟨n, bs, os, ss⟩ = false by simp [bookB, g1])
    go_enter Tryd.func65, Tryd.ntmps65
    go_wp2_with fail
    go_ret
    exact ⟨by rw [HZ.out]; rfl, by (exact ext_of (by (repeat (first | (with_reducible exact Below.refl _ _) | (with_reducible assumption) | ((with_reducible refine below_ext_trans ?_ ?_ _); rotate_left; focus (((try dsimp only); repeat (first | omega | simp only [World.size_alloc, World.size_setCell, World.size_drew] | (with_reducible refine le_ext_of ?_) | (with_reducible refine le_ext_add ?_))); done)) | ((with_reducible refine Below.alloc ?_ ?_ _); rotate_left; focus (((try dsimp only); repeat (first | omega | simp only [World.size_alloc, World.size_setCell, World.size_drew] | (with_reducible refine le_ext_of ?_) | (with_reducible refine le_ext_add ?_))); done)) | ((with_reducible refine Below.setCell ?_ ?_ _); rotate_left; focus (((try dsimp only); repeat (first | omega | simp only [World.size_alloc, World.size_setCell, World.size_drew] | (with_reducible refine le_ext_of ?_) | (with_reducible refine le_ext_add ?_))); done)) | (with_reducible refine Below.drew ?_)))))⟩

set_option maxHeartbeats 400000 in
theorem Check_yes (h : Hd) (b : Bk) (w : World) (hb : BkAt w h b) (hv : bookB b = true) :
    Calls Tryd.prog 43 #[.agg #[.int .i64 b.n, .slice h.pb b.bs.length h.cb, .slice h.po b.os.length h.co, .slice h.ps b.ss.length h.cs]] w fun e w' => e = .returned (.int .i64 0) ∧ ∃ x, w' = ext w x := by
  go_enter Tryd.func43, Tryd.ntmps43
  go_wp2_with (go_at_call 65; refine (validBook_any _ _ _ (hb.below (by (repeat (first | (with_reducible exact Below.refl _ _) | (with_reducible assumption) | ((with_reducible refine below_ext_trans ?_ ?_ _); rotate_left; focus (((try dsimp only); repeat (first | omega | simp only [World.size_alloc, World.size_setCell, World.size_drew] | (with_reducible refine le_ext_of ?_) | (with_reducible refine le_ext_add ?_))); done)) | ((with_reducible refine Below.alloc ?_ ?_ _); rotate_left; focus (((try dsimp only); repeat (first | omega | simp only [World.size_alloc, World.size_setCell, World.size_drew] | (with_reducible refine le_ext_of ?_) | (with_reducible refine le_ext_add ?_))); done)) | ((with_reducible refine Below.setCell ?_ ?_ _); rotate_left; focus (((try dsimp only); repeat (first | omega | simp only [World.size_alloc, World.size_setCell, World.size_drew] | (with_reducible refine le_ext_of ?_) | (with_reducible refine le_ext_add ?_))); done)) | (with_reducible refine Below.drew ?_)))))).mono ?_; rintro e w' ⟨rfl, y, rfl⟩)
  go_ret
  exact ⟨rfl, by (exact ext_of (by (repeat (first | (with_reducible exact Below.refl _ _) | (with_reducible assumption) | ((with_reducible refine below_ext_trans ?_ ?_ _); rotate_left; focus (((try dsimp only); repeat (first | omega | simp only [World.size_alloc, World.size_setCell, World.size_drew] | (with_reducible refine le_ext_of ?_) | (with_reducible refine le_ext_add ?_))); done)) | ((with_reducible refine Below.alloc ?_ ?_ _); rotate_left; focus (((try dsimp only); repeat (first | omega | simp only [World.size_alloc, World.size_setCell, World.size_drew] | (with_reducible refine le_ext_of ?_) | (with_reducible refine le_ext_add ?_))); done)) | ((with_reducible refine Below.setCell ?_ ?_ _); rotate_left; focus (((try dsimp only); repeat (first | omega | simp only [World.size_alloc, World.size_setCell, World.size_drew] | (with_reducible refine le_ext_of ?_) | (with_reducible refine le_ext_add ?_))); done)) | (with_reducible refine Below.drew ?_)))))⟩
set_option maxHeartbeats 400000 in
theorem Check_no (h : Hd) (b : Bk) (w : World) (hb : BkAt w h b) (hv : bookB b = false) :
    Calls Tryd.prog 43 #[.agg #[.int .i64 b.n, .slice h.pb b.bs.length h.cb, .slice h.po b.os.length h.co, .slice h.ps b.ss.length h.cs]] w fun e w' => e = .returned (.int .i64 20) ∧ ∃ x, w' = ext w x := by
  go_enter Tryd.func43, Tryd.ntmps43
  go_wp2_with (go_at_call 65; refine (validBook_any _ _ _ (hb.below (by (repeat (first | (with_reducible exact Below.refl _ _) | (with_reducible assumption) | ((with_reducible refine below_ext_trans ?_ ?_ _); rotate_left; focus (((try dsimp only); repeat (first | omega | simp only [World.size_alloc, World.size_setCell, World.size_drew] | (with_reducible refine le_ext_of ?_) | (with_reducible refine le_ext_add ?_))); done)) | ((with_reducible refine Below.alloc ?_ ?_ _); rotate_left; focus (((try dsimp only); repeat (first | omega | simp only [World.size_alloc, World.size_setCell, World.size_drew] | (with_reducible refine le_ext_of ?_) | (with_reducible refine le_ext_add ?_))); done)) | ((with_reducible refine Below.setCell ?_ ?_ _); rotate_left; focus (((try dsimp only); repeat (first | omega | simp only [World.size_alloc, World.size_setCell, World.size_drew] | (with_reducible refine le_ext_of ?_) | (with_reducible refine le_ext_add ?_))); done)) | (with_reducible refine Below.drew ?_)))))).mono ?_; rintro e w' ⟨rfl, y, rfl⟩)
  go_ret
  exact ⟨rfl, by (exact ext_of (by (repeat (first | (with_reducible exact Below.refl _ _) | (with_reducible assumption) | ((with_reducible refine below_ext_trans ?_ ?_ _); rotate_left; focus (((try dsimp only); repeat (first | omega | simp only [World.size_alloc, World.size_setCell, World.size_drew] | (with_reducible refine le_ext_of ?_) | (with_reducible refine le_ext_add ?_))); done)) | ((with_reducible refine Below.alloc ?_ ?_ _); rotate_left; focus (((try dsimp only); repeat (first | omega | simp only [World.size_alloc, World.size_setCell, World.size_drew] | (with_reducible refine le_ext_of ?_) | (with_reducible refine le_ext_add ?_))); done)) | ((with_reducible refine Below.setCell ?_ ?_ _); rotate_left; focus (((try dsimp only); repeat (first | omega | simp only [World.size_alloc, World.size_setCell, World.size_drew] | (with_reducible refine le_ext_of ?_) | (with_reducible refine le_ext_add ?_))); done)) | (with_reducible refine Below.drew ?_)))))⟩
end Go.Proofs.YtdmicngnbcdkdaaDoor

