/- TurnTrue's walk. -/
import Derived.Test.YtmnbfjphndgmnaaDoorQYr
import Derived.Test.YtmnbfjphndgmnaaDoorQYa
import Derived.Test.YtmnbfjphndgmnaaDoorQVd
import Derived.Test.YtmnbfjphndgmnaaDoorQTp
set_option linter.unusedSimpArgs false
set_option linter.unusedVariables false
namespace Go.Proofs.YtmnbfjphndgmnaaDoor
open Go Go.RowKit

theorem Fair_eq (h : Hd) (b : Bk) (i st : Nat) (s : Shot) (K : Int) (w : World) (hb : BkAt w h b) (hv : bookB b = true) (hn : NB w) (hi : b.ss[i]? = some s) (hst : s.st = st) (hK : kindOf (fun t => ownf b.os st t == s.co) (seg (cnt (lateL b.bs) s.lo) (cnt (soonL b.bs) s.hi)) = K) :
    Calls Tryd.prog 22 #[.agg #[.int .i64 b.n, .slice h.pb b.bs.length h.cb, .slice h.po b.os.length h.co, .slice h.ps b.ss.length h.cs], .int .i64 i] w fun e w' => e = .returned (.tuple #[.int .i64 K, .int .i64 0]) ∧ ∃ x, w' = ext w x := by
  subst hK; exact Fair_yes h b i st s w hb hv hn hi hst
theorem Wrong_eq (h : Hd) (b : Bk) (n : Nat) (w : World) (hb : BkAt w h b) (hv : bookB b = true) (hn : NB w) (hl : (wrongL b).length = n) :
    Calls Tryd.prog 21 #[.agg #[.int .i64 b.n, .slice h.pb b.bs.length h.cb, .slice h.po b.os.length h.co, .slice h.ps b.ss.length h.cs]] w fun e w' => ∃ p c, e = .returned (.tuple #[.slice p n c, .int .i64 0]) ∧ ∃ x, w' = ext w x := by
  subst hl
  exact (Wrong_yes h b w hb hv hn).mono fun e w' ⟨p, c, he, _, hx⟩ => ⟨p, c, he, hx⟩
theorem truly_eq (h : Hd) (b : Bk) (st : Nat) (m : Int) (pi : Option Addr) (ci : Nat) (bits : List Int) (n : Nat) (I : Int) (k : Nat) (w : World) (hb : BkAt w h b) (hv : bookB b = true) (hst : st < b.os.length) (hi : IntsAt w pi bits) (hbl : (bits.length : Int) ≤ 9223372036854775807) (hn : bits.length = n) (hI : ownf b.os st (cnt (vOf b bits) m) = I) (hk : cnt (vOf b bits) m = k) :
    Calls Tryd.prog 17 #[.agg #[.int .i64 b.n, .slice h.pb b.bs.length h.cb, .slice h.po b.os.length h.co, .slice h.ps b.ss.length h.cs], .int .i64 st, .int .i64 m, .slice pi n ci] w fun e w' => e = .returned (.tuple #[.int .i64 I, .int .i64 k]) ∧ ∃ x, w' = ext w x := by
  subst hn hI hk; exact truly_any h b st m pi ci bits w hb hv hst hi hbl
theorem Place_eq (p : Option Addr) (c : Nat) (l : List Int) (n : Nat) (x : Int) (w : World) (hl : IntsAt w p l) (hb : (l.length : Int) ≤ 1000) (hx : x ∈ l) (hn : l.length = n) :
    Calls Tryd.prog 20 #[.slice p n c, .int .i64 x] w (AtPlace l x w) := by
  subst hn; exact Place_yes p c l x w hl hb hx
theorem Pick_eq2 (p : Option Addr) (c : Nat) (l : List Int) (m : Nat) (n v : Int) (w : World) (hl : IntsAt w p l) (hb : (l.length : Int) ≤ 9223372036854775807) (hm : l.length = m) (hv : pickI l n = v) : Calls Tryd.prog 24 #[.slice p m c, .int .i64 n] w fun e w' => e = .returned (.int .i64 v) ∧ ∃ x, w' = ext w x := by
  subst hm; exact Pick_eq p c l n v w hl hb hv

set_option maxRecDepth 100000 in
set_option maxHeartbeats 4000000 in
theorem TurnTrue_bad (h : Hd) (b : Bk) (n0 n1 : Int) (pi : Option Addr) (ci nb : Nat) (w : World) (hb : BkAt w h b) (hv : bookB b = false) (hn : NB w) :
    Calls Tryd.prog 3 #[.agg #[.int .i64 b.n, .slice h.pb b.bs.length h.cb, .slice h.po b.os.length h.co, .slice h.ps b.ss.length h.cs], .agg #[.int .i64 n0, .int .i64 n1], .slice pi nb ci] w fun e w' => e = .returned (.bool true) ∧ ∃ x, w' = ext w x := by
  have HB := Lib.hid hb
  have HN := Lib.hid hn
  clear hb hn
  go_enter Tryd.func3, Tryd.ntmps3
  go_wp2_with (first
    | (go_at_call 12; refine (sound_no h b _ (HB.out.below (by (repeat (first | (with_reducible exact Below.refl _ _) | (with_reducible assumption) | ((with_reducible refine below_ext_trans ?_ ?_ _); rotate_left; focus (((try dsimp only); repeat (first | omega | simp only [World.size_alloc, World.size_setCell, World.size_drew] | (with_reducible refine le_ext_of ?_) | (with_reducible refine le_ext_add ?_))); done)) | ((with_reducible refine Below.alloc ?_ ?_ _); rotate_left; focus (((try dsimp only); repeat (first | omega | simp only [World.size_alloc, World.size_setCell, World.size_drew] | (with_reducible refine le_ext_of ?_) | (with_reducible refine le_ext_add ?_))); done)) | ((with_reducible refine Below.setCell ?_ ?_ _); rotate_left; focus (((try dsimp only); repeat (first | omega | simp only [World.size_alloc, World.size_setCell, World.size_drew] | (with_reducible refine le_ext_of ?_) | (with_reducible refine le_ext_add ?_))); done)) | (with_reducible refine Below.drew ?_))))) hv).mono ?_; rintro e w1 ⟨rfl, y1, rfl⟩)
    | (go_at_call 13; refine (shot_any _ (HN.out.below (by (repeat (first | (with_reducible exact Below.refl _ _) | (with_reducible assumption) | ((with_reducible refine below_ext_trans ?_ ?_ _); rotate_left; focus (((try dsimp only); repeat (first | omega | simp only [World.size_alloc, World.size_setCell, World.size_drew] | (with_reducible refine le_ext_of ?_) | (with_reducible refine le_ext_add ?_))); done)) | ((with_reducible refine Below.alloc ?_ ?_ _); rotate_left; focus (((try dsimp only); repeat (first | omega | simp only [World.size_alloc, World.size_setCell, World.size_drew] | (with_reducible refine le_ext_of ?_) | (with_reducible refine le_ext_add ?_))); done)) | ((with_reducible refine Below.setCell ?_ ?_ _); rotate_left; focus (((try dsimp only); repeat (first | omega | simp only [World.size_alloc, World.size_setCell, World.size_drew] | (with_reducible refine le_ext_of ?_) | (with_reducible refine le_ext_add ?_))); done)) | (with_reducible refine Below.drew ?_)))))).mono ?_; rintro e w1 ⟨rfl, y, rfl⟩))
  go_ret
  exact ⟨rfl, by (exact ext_of (by (repeat (first | (with_reducible exact Below.refl _ _) | (with_reducible assumption) | ((with_reducible refine below_ext_trans ?_ ?_ _); rotate_left; focus (((try dsimp only); repeat (first | omega | simp only [World.size_alloc, World.size_setCell, World.size_drew] | (with_reducible refine le_ext_of ?_) | (with_reducible refine le_ext_add ?_))); done)) | ((with_reducible refine Below.alloc ?_ ?_ _); rotate_left; focus (((try dsimp only); repeat (first | omega | simp only [World.size_alloc, World.size_setCell, World.size_drew] | (with_reducible refine le_ext_of ?_) | (with_reducible refine le_ext_add ?_))); done)) | ((with_reducible refine Below.setCell ?_ ?_ _); rotate_left; focus (((try dsimp only); repeat (first | omega | simp only [World.size_alloc, World.size_setCell, World.size_drew] | (with_reducible refine le_ext_of ?_) | (with_reducible refine le_ext_add ?_))); done)) | (with_reducible refine Below.drew ?_)))))⟩

set_option maxRecDepth 100000 in
set_option maxHeartbeats 8000000 in
theorem TurnTrue_yes (h : Hd) (b : Bk) (n0 n1 : Int) (pi : Option Addr) (ci nb : Nat) (bits : List Int) (w : World) (hb : BkAt w h b) (hv : bookB b = true) (hn : NB w) (hin : IntsAt w pi bits) (hbl : (bits.length : Int) ≤ 9223372036854775807) (hnb : bits.length = nb)
    (st : Nat) (m : Int) (lo hi n k nw : Nat) (I : Int) (L : List Int) (hst : n0 % (b.os.length : Int) = (st : Int)) (hsl : st < b.os.length) (hm : n1 % 1440 = m) (hm0 : 0 ≤ m) (hm1 : m < 1440)
    (hlo : cnt (b.bs.map Prod.snd) m = lo) (hhi : cnt (b.bs.map Prod.fst) m = hi) (hlk : lo ≤ k) (hkh : k ≤ hi) (hhb : hi ≤ b.bs.length) (hL : ownersL b st lo hi = L) (hln : L.length = n) (hk : cnt (vOf b bits) m = k) (hI : ownf b.os st k = I) (hnw : (wrongL b).length = nw) :
    Calls Tryd.prog 3 #[.agg #[.int .i64 b.n, .slice h.pb b.bs.length h.cb, .slice h.po b.os.length h.co, .slice h.ps b.ss.length h.cs], .agg #[.int .i64 n0, .int .i64 n1], .slice pi nb ci] w fun e w' => e = .returned (.bool true) ∧ ∃ x, w' = ext w x := by
  obtain ⟨pb, cb, po, co, ps, cs⟩ := h
  dsimp only
  obtain ⟨⟨ho1, ho3⟩, -⟩ := bookB_orders hv
  have h4 := (bookB_bounds hv).1
  have hs5 := bookB_ss hv
  have hn5 := bookB_n hv
  have HN5 := Lib.hid hn5
  have HRI := Lib.hid (show risesB b.n 0 L = true by rw [← hL]; exact ownersL_rises hv hsl hhb)
  have HLL := Lib.hid (show (L.length : Int) ≤ 1000 by rw [← hL]; have := ownersL_len b st lo hi; omega)
  have HIN := Lib.hid (show I ∈ L by rw [← hL, ← hI]; exact mem_ownersL.2 ⟨k, hlk, hkh, rfl⟩)
  have HK := Lib.hid hk
  have HI := Lib.hid (show ownf b.os st (cnt (vOf b bits) m) = I by rw [hk]; exact hI)
  have HNW := Lib.hid hnw
  have HWL := Lib.hid (show nw ≤ unfN b bits b.ss.length by rw [← hnw]; exact wrong_le hv bits)
  have HBI := Lib.hid hin
  have HBL := Lib.hid hbl
  have HNBL := Lib.hid hnb
  have HB := Lib.hid hb
  have HN := Lib.hid hn
  have HV := Lib.hid hv
  have HST := Lib.hid hst
  have HSL := Lib.hid hsl
  have HM := Lib.hid hm
  have HLO := Lib.hid hlo
  have HHI := Lib.hid hhi
  have HL := Lib.hid hL
  have HLN := Lib.hid hln
  have HM0 := Lib.hid hm0
  have HM1 := Lib.hid hm1
  have HO1 := Lib.hid (show 1 ≤ (b.os.length : Int) ∧ (b.os.length : Int) ≤ 1000000 by omega)
  have hlk' : (lo : Int) ≤ (k : Int) := by omega
  have hkh' : (k : Int) ≤ (hi : Int) := by omega
  clear hb hn hv hst hsl hm hlo hhi hL hln hk hI hnw hin hbl hnb hlk hkh hn5
  go_enter Tryd.func3, Tryd.ntmps3
  go_upto_region 3 with (go_at_call 12; refine (sound_yes ⟨pb, cb, po, co, ps, cs⟩ b _ (HB.out.below (by (repeat (first | (with_reducible exact Below.refl _ _) | (with_reducible assumption) | ((with_reducible refine below_ext_trans ?_ ?_ _); rotate_left; focus (((try dsimp only); repeat (first | omega | simp only [World.size_alloc, World.size_setCell, World.size_drew] | (with_reducible refine le_ext_of ?_) | (with_reducible refine le_ext_add ?_))); done)) | ((with_reducible refine Below.alloc ?_ ?_ _); rotate_left; focus (((try dsimp only); repeat (first | omega | simp only [World.size_alloc, World.size_setCell, World.size_drew] | (with_reducible refine le_ext_of ?_) | (with_reducible refine le_ext_add ?_))); done)) | ((with_reducible refine Below.setCell ?_ ?_ _); rotate_left; focus (((try dsimp only); repeat (first | omega | simp only [World.size_alloc, World.size_setCell, World.size_drew] | (with_reducible refine le_ext_of ?_) | (with_reducible refine le_ext_add ?_))); done)) | (with_reducible refine Below.drew ?_))))) HV.out).mono ?_; rintro e w1 ⟨rfl, y1, rfl⟩)
  refine wp_region_ext (by kernel_rfl) (by kernel_rfl) ?_
  repeat (go_big_quiet_step (fail))
  go_big_quiet_step ((go_at_call 14; exact quiet_ext (Wheel_eq n0 _ st _ HO1.out HST.out)))
  repeat (go_big_quiet_step (fail))
  go_big_quiet_step ((go_at_call 14; exact quiet_ext (Wheel_eq n1 1440 m _ ⟨by omega, by omega⟩ HM.out)))
  repeat (go_big_quiet_step (fail))
  (refine wpQuiet_nil ?_; rintro _ ⟨x, rfl⟩)
  go_upto_region 5 with (go_at_call 15; refine (Turn_eq ⟨pb, cb, po, co, ps, cs⟩ b m lo hi _ (HB.out.below (by (repeat (first | (with_reducible exact Below.refl _ _) | (with_reducible assumption) | ((with_reducible refine below_ext_trans ?_ ?_ _); rotate_left; focus (((try dsimp only); repeat (first | omega | simp only [World.size_alloc, World.size_setCell, World.size_drew] | (with_reducible refine le_ext_of ?_) | (with_reducible refine le_ext_add ?_))); done)) | ((with_reducible refine Below.alloc ?_ ?_ _); rotate_left; focus (((try dsimp only); repeat (first | omega | simp only [World.size_alloc, World.size_setCell, World.size_drew] | (with_reducible refine le_ext_of ?_) | (with_reducible refine le_ext_add ?_))); done)) | ((with_reducible refine Below.setCell ?_ ?_ _); rotate_left; focus (((try dsimp only); repeat (first | omega | simp only [World.size_alloc, World.size_setCell, World.size_drew] | (with_reducible refine le_ext_of ?_) | (with_reducible refine le_ext_add ?_))); done)) | (with_reducible refine Below.drew ?_))))) HV.out (HN.out.below (by (repeat (first | (with_reducible exact Below.refl _ _) | (with_reducible assumption) | ((with_reducible refine below_ext_trans ?_ ?_ _); rotate_left; focus (((try dsimp only); repeat (first | omega | simp only [World.size_alloc, World.size_setCell, World.size_drew] | (with_reducible refine le_ext_of ?_) | (with_reducible refine le_ext_add ?_))); done)) | ((with_reducible refine Below.alloc ?_ ?_ _); rotate_left; focus (((try dsimp only); repeat (first | omega | simp only [World.size_alloc, World.size_setCell, World.size_drew] | (with_reducible refine le_ext_of ?_) | (with_reducible refine le_ext_add ?_))); done)) | ((with_reducible refine Below.setCell ?_ ?_ _); rotate_left; focus (((try dsimp only); repeat (first | omega | simp only [World.size_alloc, World.size_setCell, World.size_drew] | (with_reducible refine le_ext_of ?_) | (with_reducible refine le_ext_add ?_))); done)) | (with_reducible refine Below.drew ?_))))) HM0.out HM1.out HLO.out HHI.out).mono ?_; rintro e w1 ⟨rfl, y2, rfl⟩)
  generalize hW : (ext ((w.alloc _).alloc _) _).alloc _ = W
  generalize hg : (ext ((w.alloc _).alloc _) _).heap.size = g7
  have hWB : Below w.heap.size w W := by rw [← hW]; (repeat (first | (with_reducible exact Below.refl _ _) | (with_reducible assumption) | ((with_reducible refine below_ext_trans ?_ ?_ _); rotate_left; focus (((try dsimp only); repeat (first | omega | simp only [World.size_alloc, World.size_setCell, World.size_drew] | (with_reducible refine le_ext_of ?_) | (with_reducible refine le_ext_add ?_))); done)) | ((with_reducible refine Below.alloc ?_ ?_ _); rotate_left; focus (((try dsimp only); repeat (first | omega | simp only [World.size_alloc, World.size_setCell, World.size_drew] | (with_reducible refine le_ext_of ?_) | (with_reducible refine le_ext_add ?_))); done)) | ((with_reducible refine Below.setCell ?_ ?_ _); rotate_left; focus (((try dsimp only); repeat (first | omega | simp only [World.size_alloc, World.size_setCell, World.size_drew] | (with_reducible refine le_ext_of ?_) | (with_reducible refine le_ext_add ?_))); done)) | (with_reducible refine Below.drew ?_)))
  have kb : Blk W w.heap.size 26 #[.int .i64 b.n, .slice pb b.bs.length cb, .slice po b.os.length co, .slice ps b.ss.length cs] := by rw [← hW]; exact (((Blk.new rfl).alloc _).ext _).alloc _
  have k7 : Blk W g7 33 #[.int .i64 lo, .int .i64 hi] := by rw [← hW]; exact Blk.new hg.symm
  have d0 := kb.cell 0
  have d1 := kb.cell 1
  have d2 := kb.cell 2
  have d3 := kb.cell 3
  have e0 := k7.cell 0
  have e1 := k7.cell 1
  simp only [List.size_toArray, List.length_cons, List.length_nil, Nat.reduceAdd, Nat.reduceLT, getElem?_pos, List.getElem_toArray, List.getElem_cons_zero, List.getElem_cons_succ] at d0 d1 d2 d3 e0 e1
  have kl := kb.lt
  have k7l := k7.lt
  have HBW := Lib.hid (HB.out.below hWB)
  have HNW2 := Lib.hid (HN.out.below hWB)
  have HBIW := Lib.hid (HBI.out.below hWB)
  have HWB := Lib.hid hWB
  have KB := Lib.hid kb
  have K7 := Lib.hid k7
  clear hW hWB kb k7 hg HB HN HBI
  go_upto_region 6 with (go_at_call 16; refine (Owners_eq ⟨pb, cb, po, co, ps, cs⟩ b st m lo hi L n _ (HBW.out.below (by (repeat (first | (with_reducible exact Below.refl _ _) | (with_reducible assumption) | ((with_reducible refine below_ext_trans ?_ ?_ _); rotate_left; focus (((try dsimp only); repeat (first | omega | simp only [World.size_alloc, World.size_setCell, World.size_drew] | (with_reducible refine le_ext_of ?_) | (with_reducible refine le_ext_add ?_))); done)) | ((with_reducible refine Below.alloc ?_ ?_ _); rotate_left; focus (((try dsimp only); repeat (first | omega | simp only [World.size_alloc, World.size_setCell, World.size_drew] | (with_reducible refine le_ext_of ?_) | (with_reducible refine le_ext_add ?_))); done)) | ((with_reducible refine Below.setCell ?_ ?_ _); rotate_left; focus (((try dsimp only); repeat (first | omega | simp only [World.size_alloc, World.size_setCell, World.size_drew] | (with_reducible refine le_ext_of ?_) | (with_reducible refine le_ext_add ?_))); done)) | (with_reducible refine Below.drew ?_))))) HV.out (HNW2.out.below (by (repeat (first | (with_reducible exact Below.refl _ _) | (with_reducible assumption) | ((with_reducible refine below_ext_trans ?_ ?_ _); rotate_left; focus (((try dsimp only); repeat (first | omega | simp only [World.size_alloc, World.size_setCell, World.size_drew] | (with_reducible refine le_ext_of ?_) | (with_reducible refine le_ext_add ?_))); done)) | ((with_reducible refine Below.alloc ?_ ?_ _); rotate_left; focus (((try dsimp only); repeat (first | omega | simp only [World.size_alloc, World.size_setCell, World.size_drew] | (with_reducible refine le_ext_of ?_) | (with_reducible refine le_ext_add ?_))); done)) | ((with_reducible refine Below.setCell ?_ ?_ _); rotate_left; focus (((try dsimp only); repeat (first | omega | simp only [World.size_alloc, World.size_setCell, World.size_drew] | (with_reducible refine le_ext_of ?_) | (with_reducible refine le_ext_add ?_))); done)) | (with_reducible refine Below.drew ?_))))) HSL.out HM0.out HM1.out HLO.out HHI.out HL.out HLN.out).mono ?_; rintro e w1 ⟨p, c, rfl, hI, y3, rfl⟩; (try simp only [ext_ext] at hI); have HOI := Lib.hid hI; clear hI)
  have hB2 : Below W.heap.size W (ext W y3) := below_ext W y3
  clear d0 d1 d2 d3 e0 e1
  generalize ext W y3 = W2 at *
  have kb2 := KB.out.bel hB2
  have k72 := K7.out.bel hB2
  have d0 := kb2.cell 0
  have d1 := kb2.cell 1
  have d2 := kb2.cell 2
  have d3 := kb2.cell 3
  have e0 := k72.cell 0
  have e1 := k72.cell 1
  simp only [List.size_toArray, List.length_cons, List.length_nil, Nat.reduceAdd, Nat.reduceLT, getElem?_pos, List.getElem_toArray, List.getElem_cons_zero, List.getElem_cons_succ] at d0 d1 d2 d3 e0 e1
  clear kl k7l
  have kl := kb2.lt
  have k7l := k72.lt
  have HB2 := Lib.hid (HBW.out.below hB2)
  have HN2 := Lib.hid (HNW2.out.below hB2)
  have HBI2 := Lib.hid (HBIW.out.below hB2)
  have HW2 := Lib.hid (HWB.out.trans (hB2.mono HWB.out.size))
  have KB2 := Lib.hid kb2
  clear kb2 k72 hB2 KB K7 HBW HNW2 HBIW HWB
  go_upto_region 7 with (go_at_call 17; refine (truly_eq ⟨pb, cb, po, co, ps, cs⟩ b st m pi ci bits nb I k _ (HB2.out.below (by (repeat (first | (with_reducible exact Below.refl _ _) | (with_reducible assumption) | ((with_reducible refine below_ext_trans ?_ ?_ _); rotate_left; focus (((try dsimp only); repeat (first | omega | simp only [World.size_alloc, World.size_setCell, World.size_drew] | (with_reducible refine le_ext_of ?_) | (with_reducible refine le_ext_add ?_))); done)) | ((with_reducible refine Below.alloc ?_ ?_ _); rotate_left; focus (((try dsimp only); repeat (first | omega | simp only [World.size_alloc, World.size_setCell, World.size_drew] | (with_reducible refine le_ext_of ?_) | (with_reducible refine le_ext_add ?_))); done)) | ((with_reducible refine Below.setCell ?_ ?_ _); rotate_left; focus (((try dsimp only); repeat (first | omega | simp only [World.size_alloc, World.size_setCell, World.size_drew] | (with_reducible refine le_ext_of ?_) | (with_reducible refine le_ext_add ?_))); done)) | (with_reducible refine Below.drew ?_))))) HV.out HSL.out (HBI2.out.below (by (repeat (first | (with_reducible exact Below.refl _ _) | (with_reducible assumption) | ((with_reducible refine below_ext_trans ?_ ?_ _); rotate_left; focus (((try dsimp only); repeat (first | omega | simp only [World.size_alloc, World.size_setCell, World.size_drew] | (with_reducible refine le_ext_of ?_) | (with_reducible refine le_ext_add ?_))); done)) | ((with_reducible refine Below.alloc ?_ ?_ _); rotate_left; focus (((try dsimp only); repeat (first | omega | simp only [World.size_alloc, World.size_setCell, World.size_drew] | (with_reducible refine le_ext_of ?_) | (with_reducible refine le_ext_add ?_))); done)) | ((with_reducible refine Below.setCell ?_ ?_ _); rotate_left; focus (((try dsimp only); repeat (first | omega | simp only [World.size_alloc, World.size_setCell, World.size_drew] | (with_reducible refine le_ext_of ?_) | (with_reducible refine le_ext_add ?_))); done)) | (with_reducible refine Below.drew ?_))))) HBL.out HNBL.out HI.out HK.out).mono ?_; rintro e w1 ⟨rfl, y4, rfl⟩)
  go_upto_region 9 with (first
    | (go_at_call 18; refine (Holds_yes _ _ _ _ (by assumption) (by assumption)).mono ?_; rintro e w1 ⟨rfl, y5, rfl⟩)
    | (go_at_call 19; refine (Rises_ext p c L n b.n _ HLN.out (HOI.out.below (by (repeat (first | (with_reducible exact Below.refl _ _) | (with_reducible assumption) | ((with_reducible refine below_ext_trans ?_ ?_ _); rotate_left; focus (((try dsimp only); repeat (first | omega | simp only [World.size_alloc, World.size_setCell, World.size_drew] | (with_reducible refine le_ext_of ?_) | (with_reducible refine le_ext_add ?_))); done)) | ((with_reducible refine Below.alloc ?_ ?_ _); rotate_left; focus (((try dsimp only); repeat (first | omega | simp only [World.size_alloc, World.size_setCell, World.size_drew] | (with_reducible refine le_ext_of ?_) | (with_reducible refine le_ext_add ?_))); done)) | ((with_reducible refine Below.setCell ?_ ?_ _); rotate_left; focus (((try dsimp only); repeat (first | omega | simp only [World.size_alloc, World.size_setCell, World.size_drew] | (with_reducible refine le_ext_of ?_) | (with_reducible refine le_ext_add ?_))); done)) | (with_reducible refine Below.drew ?_))))) HLL.out (by have := HN5.out; omega) (by have := HN5.out; omega) HRI.out).mono ?_; rintro e w1 ⟨rfl, y6, rfl⟩)
    | (go_at_call 20; refine (Place_eq p c L n I _ (HOI.out.below (by (repeat (first | (with_reducible exact Below.refl _ _) | (with_reducible assumption) | ((with_reducible refine below_ext_trans ?_ ?_ _); rotate_left; focus (((try dsimp only); repeat (first | omega | simp only [World.size_alloc, World.size_setCell, World.size_drew] | (with_reducible refine le_ext_of ?_) | (with_reducible refine le_ext_add ?_))); done)) | ((with_reducible refine Below.alloc ?_ ?_ _); rotate_left; focus (((try dsimp only); repeat (first | omega | simp only [World.size_alloc, World.size_setCell, World.size_drew] | (with_reducible refine le_ext_of ?_) | (with_reducible refine le_ext_add ?_))); done)) | ((with_reducible refine Below.setCell ?_ ?_ _); rotate_left; focus (((try dsimp only); repeat (first | omega | simp only [World.size_alloc, World.size_setCell, World.size_drew] | (with_reducible refine le_ext_of ?_) | (with_reducible refine le_ext_add ?_))); done)) | (with_reducible refine Below.drew ?_))))) HLL.out HIN.out HLN.out).mono ?_; rintro e w1 ⟨kk, hkk, rfl, rfl⟩; clear hkk; have hkk0 : (0 : Int) ≤ (kk : Int) := by omega))
  go_upto_region 10 with (go_at_call 21; refine (Wrong_eq ⟨pb, cb, po, co, ps, cs⟩ b nw _ (HB2.out.below (by (repeat (first | (with_reducible exact Below.refl _ _) | (with_reducible assumption) | ((with_reducible refine below_ext_trans ?_ ?_ _); rotate_left; focus (((try dsimp only); repeat (first | omega | simp only [World.size_alloc, World.size_setCell, World.size_drew] | (with_reducible refine le_ext_of ?_) | (with_reducible refine le_ext_add ?_))); done)) | ((with_reducible refine Below.alloc ?_ ?_ _); rotate_left; focus (((try dsimp only); repeat (first | omega | simp only [World.size_alloc, World.size_setCell, World.size_drew] | (with_reducible refine le_ext_of ?_) | (with_reducible refine le_ext_add ?_))); done)) | ((with_reducible refine Below.setCell ?_ ?_ _); rotate_left; focus (((try dsimp only); repeat (first | omega | simp only [World.size_alloc, World.size_setCell, World.size_drew] | (with_reducible refine le_ext_of ?_) | (with_reducible refine le_ext_add ?_))); done)) | (with_reducible refine Below.drew ?_))))) HV.out (HN2.out.below (by (repeat (first | (with_reducible exact Below.refl _ _) | (with_reducible assumption) | ((with_reducible refine below_ext_trans ?_ ?_ _); rotate_left; focus (((try dsimp only); repeat (first | omega | simp only [World.size_alloc, World.size_setCell, World.size_drew] | (with_reducible refine le_ext_of ?_) | (with_reducible refine le_ext_add ?_))); done)) | ((with_reducible refine Below.alloc ?_ ?_ _); rotate_left; focus (((try dsimp only); repeat (first | omega | simp only [World.size_alloc, World.size_setCell, World.size_drew] | (with_reducible refine le_ext_of ?_) | (with_reducible refine le_ext_add ?_))); done)) | ((with_reducible refine Below.setCell ?_ ?_ _); rotate_left; focus (((try dsimp only); repeat (first | omega | simp only [World.size_alloc, World.size_setCell, World.size_drew] | (with_reducible refine le_ext_of ?_) | (with_reducible refine le_ext_add ?_))); done)) | (with_reducible refine Below.drew ?_))))) HNW.out).mono ?_; rintro e w1 ⟨pw, cw, rfl, y7, rfl⟩)
  generalize hW3 : ext W2 _ = W3
  have hB3 : Below W2.heap.size W2 W3 := by rw [← hW3]; (repeat (first | (with_reducible exact Below.refl _ _) | (with_reducible assumption) | ((with_reducible refine below_ext_trans ?_ ?_ _); rotate_left; focus (((try dsimp only); repeat (first | omega | simp only [World.size_alloc, World.size_setCell, World.size_drew] | (with_reducible refine le_ext_of ?_) | (with_reducible refine le_ext_add ?_))); done)) | ((with_reducible refine Below.alloc ?_ ?_ _); rotate_left; focus (((try dsimp only); repeat (first | omega | simp only [World.size_alloc, World.size_setCell, World.size_drew] | (with_reducible refine le_ext_of ?_) | (with_reducible refine le_ext_add ?_))); done)) | ((with_reducible refine Below.setCell ?_ ?_ _); rotate_left; focus (((try dsimp only); repeat (first | omega | simp only [World.size_alloc, World.size_setCell, World.size_drew] | (with_reducible refine le_ext_of ?_) | (with_reducible refine le_ext_add ?_))); done)) | (with_reducible refine Below.drew ?_)))
  clear hW3 d0 d1 d2 d3 e0 e1 kl k7l
  have kb3 := KB2.out.bel hB3
  have HB3 := Lib.hid (HB2.out.below hB3)
  have HN3 := Lib.hid (HN2.out.below hB3)
  have HBI3 := Lib.hid (HBI2.out.below hB3)
  have HW3 := Lib.hid (HW2.out.trans (hB3.mono HW2.out.size))
  have KB3 := Lib.hid kb3
  clear kb3 hB3 KB2 HB2 HN2 HBI2 HW2 hkk0 HOI
  go_wp2_with fail
  go_loopw [17, 18] (fun u i wr => ∃ j : Nat, j ≤ b.ss.length ∧ i = .int .i64 j ∧ u = .int .i64 (unfN b bits j) ∧ ∃ x, wr = ext W3 x) (fun _ i _ => b.ss.length - (intOf i).toNat)
  case atStart => exact ⟨0, by omega, rfl, rfl, ext_of (Below.refl _ _)⟩
  case round =>
    obtain ⟨j, hj, rfl, rfl, x0, rfl⟩ := hrel
    have hB4 : Below W3.heap.size W3 (ext W3 x0) := below_ext W3 x0
    generalize hW4 : ext W3 x0 = W4 at *
    clear hW4
    have kb4 := KB3.out.bel hB4
    have d0 := kb4.cell 0
    have d1 := kb4.cell 1
    have d2 := kb4.cell 2
    have d3 := kb4.cell 3
    simp only [List.size_toArray, List.length_cons, List.length_nil, Nat.reduceAdd, Nat.reduceLT, getElem?_pos, List.getElem_toArray, List.getElem_cons_zero, List.getElem_cons_succ] at d0 d1 d2 d3
    have kl := kb4.lt
    have HB4 := Lib.hid (HB3.out.below hB4)
    have HN4 := Lib.hid (HN3.out.below hB4)
    have HBI4 := Lib.hid (HBI3.out.below hB4)
    have HW4 := Lib.hid (HW3.out.trans (hB4.mono HW3.out.size))
    have HX4 := Lib.hid hB4
    have KB4 := Lib.hid kb4
    clear kb4 hB4
    have hul := unfN_le b bits j
    by_cases hlt : j < b.ss.length
    · obtain ⟨s, hs⟩ := get_some b.ss j hlt
      obtain ⟨bb, o, hps, hbb, q0, q1, q2, q3⟩ := HB4.out.ss j s hs
      dsimp only at hps
      subst hps
      obtain ⟨⟨g0, g1⟩, -, gm⟩ := bookB_shot HV.out hs
      unfold Mom at gm
      have SB := Lib.hid (show 0 ≤ s.lo ∧ s.lo ≤ s.hi ∧ s.hi ≤ 100000 by omega)
      obtain ⟨st2, est⟩ := Int.eq_ofNat_of_zero_le g0
      rw [est] at q0 g1
      have hsl2 : st2 < b.os.length := by omega
      obtain ⟨K, hK⟩ : ∃ K, kindOf (fun t => ownf b.os st2 t == s.co) (seg (cnt (lateL b.bs) s.lo) (cnt (soonL b.bs) s.hi)) = K := ⟨_, rfl⟩
      have hkind := shot_kind HV.out bits hs est hK
      obtain ⟨P, hP⟩ : ∃ P, pickI bits ((j : Int) + 3) = P := ⟨_, rfl⟩
      obtain ⟨x, hx⟩ : ∃ x, someI s.lo s.hi P = x := ⟨_, rfl⟩
      obtain ⟨k2, hk2⟩ : ∃ k2, cnt (vOf b bits) x = k2 := ⟨_, rfl⟩
      obtain ⟨J, hJ⟩ : ∃ J, ownf b.os st2 (cnt (vOf b bits) x) = J := ⟨_, rfl⟩
      have hit : itOf b bits j s = J := by unfold itOf; rw [est, hP, hx]; exact hJ
      rw [hit] at hkind
      have HNX : Hid (unfN b bits (j + 1) = unfN b bits j + if (J == s.co) then 0 else 1) := Lib.hid (by
        rw [unfN_succ]
        have e : unfT b bits j = !(J == s.co) := by unfold unfT; rw [hs]; show (!(itOf b bits j s == s.co)) = _; rw [hit]
        rw [e]
        cases (J == s.co) <;> rfl)
      have HS := Lib.hid hs
      have EST := Lib.hid est
      have HSL2 := Lib.hid hsl2
      have HKK := Lib.hid hK
      have HKIND := Lib.hid hkind
      have HP := Lib.hid hP
      have HX := Lib.hid hx
      have HK2 := Lib.hid hk2
      have HJ := Lib.hid hJ
      have j0 : (0 : Int) ≤ (j : Int) := by omega
      have j1 : (j : Int) < (b.ss.length : Int) := by omega
      have bb1 : bb < W4.heap.size + 1 := by omega
      have w3 : IntKind.i64.wrap ((j : Int) + 3) = (j : Int) + 3 := IntWalk.i64_in _ (by omega)
      clear hs est hsl2 hK hkind hP hx hk2 hJ hit g0 g1 gm
      go_upto_region 16 with (go_at_call 22; refine (Fair_eq ⟨pb, cb, po, co, some ⟨bb, o, none⟩, cs⟩ b j st2 s K _ (HB4.out.below (by (repeat (first | (with_reducible exact Below.refl _ _) | (with_reducible assumption) | ((with_reducible refine below_ext_trans ?_ ?_ _); rotate_left; focus (((try dsimp only); repeat (first | omega | simp only [World.size_alloc, World.size_setCell, World.size_drew] | (with_reducible refine le_ext_of ?_) | (with_reducible refine le_ext_add ?_))); done)) | ((with_reducible refine Below.alloc ?_ ?_ _); rotate_left; focus (((try dsimp only); repeat (first | omega | simp only [World.size_alloc, World.size_setCell, World.size_drew] | (with_reducible refine le_ext_of ?_) | (with_reducible refine le_ext_add ?_))); done)) | ((with_reducible refine Below.setCell ?_ ?_ _); rotate_left; focus (((try dsimp only); repeat (first | omega | simp only [World.size_alloc, World.size_setCell, World.size_drew] | (with_reducible refine le_ext_of ?_) | (with_reducible refine le_ext_add ?_))); done)) | (with_reducible refine Below.drew ?_))))) HV.out (HN4.out.below (by (repeat (first | (with_reducible exact Below.refl _ _) | (with_reducible assumption) | ((with_reducible refine below_ext_trans ?_ ?_ _); rotate_left; focus (((try dsimp only); repeat (first | omega | simp only [World.size_alloc, World.size_setCell, World.size_drew] | (with_reducible refine le_ext_of ?_) | (with_reducible refine le_ext_add ?_))); done)) | ((with_reducible refine Below.alloc ?_ ?_ _); rotate_left; focus (((try dsimp only); repeat (first | omega | simp only [World.size_alloc, World.size_setCell, World.size_drew] | (with_reducible refine le_ext_of ?_) | (with_reducible refine le_ext_add ?_))); done)) | ((with_reducible refine Below.setCell ?_ ?_ _); rotate_left; focus (((try dsimp only); repeat (first | omega | simp only [World.size_alloc, World.size_setCell, World.size_drew] | (with_reducible refine le_ext_of ?_) | (with_reducible refine le_ext_add ?_))); done)) | (with_reducible refine Below.drew ?_))))) HS.out EST.out HKK.out).mono ?_; rintro e w1 ⟨rfl, y8, rfl⟩)
      generalize hW5 : ext (W4.alloc _) _ = W5
      have hB5 : Below W4.heap.size W4 W5 := by rw [← hW5]; (repeat (first | (with_reducible exact Below.refl _ _) | (with_reducible assumption) | ((with_reducible refine below_ext_trans ?_ ?_ _); rotate_left; focus (((try dsimp only); repeat (first | omega | simp only [World.size_alloc, World.size_setCell, World.size_drew] | (with_reducible refine le_ext_of ?_) | (with_reducible refine le_ext_add ?_))); done)) | ((with_reducible refine Below.alloc ?_ ?_ _); rotate_left; focus (((try dsimp only); repeat (first | omega | simp only [World.size_alloc, World.size_setCell, World.size_drew] | (with_reducible refine le_ext_of ?_) | (with_reducible refine le_ext_add ?_))); done)) | ((with_reducible refine Below.setCell ?_ ?_ _); rotate_left; focus (((try dsimp only); repeat (first | omega | simp only [World.size_alloc, World.size_setCell, World.size_drew] | (with_reducible refine le_ext_of ?_) | (with_reducible refine le_ext_add ?_))); done)) | (with_reducible refine Below.drew ?_)))
      have k19 : Blk W5 W4.heap.size 46 #[.int .i64 st2, .int .i64 s.co, .int .i64 s.lo, .int .i64 s.hi] := by rw [← hW5]; exact (Blk.new rfl).ext _
      have kb5 := KB4.out.bel hB5
      clear hW5 d0 d1 d2 d3 kl q0 q1 q2 q3 bb1 hbb
      have d0 := kb5.cell 0
      have d1 := kb5.cell 1
      have d2 := kb5.cell 2
      have d3 := kb5.cell 3
      have r0 := k19.cell 0
      have r1 := k19.cell 1
      have r2 := k19.cell 2
      have r3 := k19.cell 3
      simp only [List.size_toArray, List.length_cons, List.length_nil, Nat.reduceAdd, Nat.reduceLT, getElem?_pos, List.getElem_toArray, List.getElem_cons_zero, List.getElem_cons_succ] at d0 d1 d2 d3 r0 r1 r2 r3
      have kl := kb5.lt
      have k19l := k19.lt
      have HB5 := Lib.hid (HB4.out.below hB5)
      have HBI5 := Lib.hid (HBI4.out.below hB5)
      have HX5 := Lib.hid (HX4.out.trans (hB5.mono HX4.out.size))
      clear kb5 k19 hB5 HB4 HN4 HBI4 HW4 HX4 KB4
      refine wp_region_ext (by kernel_rfl) (by kernel_rfl) ?_
      repeat (go_big_quiet_step (fail))
      go_big_quiet_step ((go_at_call 24; exact quiet_ext (Pick_eq2 pi ci bits nb _ P _ (HBI5.out.below (by (repeat (first | (with_reducible exact Below.refl _ _) | (with_reducible assumption) | ((with_reducible refine below_ext_trans ?_ ?_ _); rotate_left; focus (((try dsimp only); repeat (first | omega | simp only [World.size_alloc, World.size_setCell, World.size_drew] | (with_reducible refine le_ext_of ?_) | (with_reducible refine le_ext_add ?_))); done)) | ((with_reducible refine Below.alloc ?_ ?_ _); rotate_left; focus (((try dsimp only); repeat (first | omega | simp only [World.size_alloc, World.size_setCell, World.size_drew] | (with_reducible refine le_ext_of ?_) | (with_reducible refine le_ext_add ?_))); done)) | ((with_reducible refine Below.setCell ?_ ?_ _); rotate_left; focus (((try dsimp only); repeat (first | omega | simp only [World.size_alloc, World.size_setCell, World.size_drew] | (with_reducible refine le_ext_of ?_) | (with_reducible refine le_ext_add ?_))); done)) | (with_reducible refine Below.drew ?_))))) HBL.out HNBL.out HP.out)))
      repeat (go_big_quiet_step (fail))
      go_big_quiet_step ((go_at_call 23; exact quiet_ext (Some_eq' s.lo s.hi P x _ SB.out HX.out)))
      repeat (go_big_quiet_step (fail))
      go_big_quiet_step ((go_at_call 17; exact quiet_ext (truly_eq ⟨pb, cb, po, co, some ⟨bb, o, none⟩, cs⟩ b st2 x pi ci bits nb J k2 _ (HB5.out.below (by (repeat (first | (with_reducible exact Below.refl _ _) | (with_reducible assumption) | ((with_reducible refine below_ext_trans ?_ ?_ _); rotate_left; focus (((try dsimp only); repeat (first | omega | simp only [World.size_alloc, World.size_setCell, World.size_drew] | (with_reducible refine le_ext_of ?_) | (with_reducible refine le_ext_add ?_))); done)) | ((with_reducible refine Below.alloc ?_ ?_ _); rotate_left; focus (((try dsimp only); repeat (first | omega | simp only [World.size_alloc, World.size_setCell, World.size_drew] | (with_reducible refine le_ext_of ?_) | (with_reducible refine le_ext_add ?_))); done)) | ((with_reducible refine Below.setCell ?_ ?_ _); rotate_left; focus (((try dsimp only); repeat (first | omega | simp only [World.size_alloc, World.size_setCell, World.size_drew] | (with_reducible refine le_ext_of ?_) | (with_reducible refine le_ext_add ?_))); done)) | (with_reducible refine Below.drew ?_))))) HV.out HSL2.out (HBI5.out.below (by (repeat (first | (with_reducible exact Below.refl _ _) | (with_reducible assumption) | ((with_reducible refine below_ext_trans ?_ ?_ _); rotate_left; focus (((try dsimp only); repeat (first | omega | simp only [World.size_alloc, World.size_setCell, World.size_drew] | (with_reducible refine le_ext_of ?_) | (with_reducible refine le_ext_add ?_))); done)) | ((with_reducible refine Below.alloc ?_ ?_ _); rotate_left; focus (((try dsimp only); repeat (first | omega | simp only [World.size_alloc, World.size_setCell, World.size_drew] | (with_reducible refine le_ext_of ?_) | (with_reducible refine le_ext_add ?_))); done)) | ((with_reducible refine Below.setCell ?_ ?_ _); rotate_left; focus (((try dsimp only); repeat (first | omega | simp only [World.size_alloc, World.size_setCell, World.size_drew] | (with_reducible refine le_ext_of ?_) | (with_reducible refine le_ext_add ?_))); done)) | (with_reducible refine Below.drew ?_))))) HBL.out HNBL.out HJ.out HK2.out)))
      repeat (go_big_quiet_step (fail))
      (refine wpQuiet_nil ?_; rintro _ ⟨x, rfl⟩)
      go_upto_region 17 with fail
      rcases HKIND.out with ⟨rfl, hne⟩ | rfl | ⟨rfl, he⟩
      · clear HKIND
        have hne2 : ¬ J = s.co := by simpa using hne
        have HU := Lib.hid (show unfN b bits (j + 1) = unfN b bits j + 1 by rw [HNX.out, hne]; rfl)
        generalize unfN b bits j = u at *
        go_wp2_with (go_at_call 25; refine (Between_yes _ _ _ _ (by omega) (by omega)).mono ?_; rintro e w1 ⟨rfl, rfl⟩)
        go_roundw
        case rel => exact ⟨j + 1, by omega, by go_num, by rw [HU.out]; go_num, ext_of (below_ext_trans HX5.out HX5.out.size _)⟩
        case measure => simp [intOf]; omega
      · clear HKIND
        cases hc : (J == s.co) with
        | false =>
          have hne := hc
          clear hc
          have hne2 : ¬ J = s.co := by simpa using hne
          have HU := Lib.hid (show unfN b bits (j + 1) = unfN b bits j + 1 by rw [HNX.out, hne]; rfl)
          generalize unfN b bits j = u at *
          go_wp2_with (go_at_call 25; refine (Between_yes _ _ _ _ (by omega) (by omega)).mono ?_; rintro e w1 ⟨rfl, rfl⟩)
          go_roundw
          case rel => exact ⟨j + 1, by omega, by go_num, by rw [HU.out]; go_num, ext_of (below_ext_trans HX5.out HX5.out.size _)⟩
          case measure => simp [intOf]; omega
        | true =>
          have he := hc
          clear hc
          have hje : J = s.co := eq_of_beq he
          have HU := Lib.hid (show unfN b bits (j + 1) = unfN b bits j by rw [HNX.out, he]; rfl)
          generalize unfN b bits j = u at *
          clear he
          subst hje
          go_wp2_with (go_at_call 25; refine (Between_yes _ _ _ _ (by omega) (by omega)).mono ?_; rintro e w1 ⟨rfl, rfl⟩)
          go_roundw
          case rel => exact ⟨j + 1, by omega, by go_num, by rw [HU.out], ext_of (below_ext_trans HX5.out HX5.out.size _)⟩
          case measure => simp [intOf]; omega
      · clear HKIND
        have hje : J = s.co := eq_of_beq he
        have HU := Lib.hid (show unfN b bits (j + 1) = unfN b bits j by rw [HNX.out, he]; rfl)
        generalize unfN b bits j = u at *
        clear he
        subst hje
        go_wp2_with (go_at_call 25; refine (Between_yes _ _ _ _ (by omega) (by omega)).mono ?_; rintro e w1 ⟨rfl, rfl⟩)
        go_roundw
        case rel => exact ⟨j + 1, by omega, by go_num, by rw [HU.out], ext_of (below_ext_trans HX5.out HX5.out.size _)⟩
        case measure => simp [intOf]; omega
    · obtain rfl : j = b.ss.length := by omega
      have hwl := HWL.out
      go_wp2_with (go_at_call 13; refine (shot_any _ (HN4.out.below (by (repeat (first | (with_reducible exact Below.refl _ _) | (with_reducible assumption) | ((with_reducible refine below_ext_trans ?_ ?_ _); rotate_left; focus (((try dsimp only); repeat (first | omega | simp only [World.size_alloc, World.size_setCell, World.size_drew] | (with_reducible refine le_ext_of ?_) | (with_reducible refine le_ext_add ?_))); done)) | ((with_reducible refine Below.alloc ?_ ?_ _); rotate_left; focus (((try dsimp only); repeat (first | omega | simp only [World.size_alloc, World.size_setCell, World.size_drew] | (with_reducible refine le_ext_of ?_) | (with_reducible refine le_ext_add ?_))); done)) | ((with_reducible refine Below.setCell ?_ ?_ _); rotate_left; focus (((try dsimp only); repeat (first | omega | simp only [World.size_alloc, World.size_setCell, World.size_drew] | (with_reducible refine le_ext_of ?_) | (with_reducible refine le_ext_add ?_))); done)) | (with_reducible refine Below.drew ?_)))))).mono ?_; rintro e w1 ⟨rfl, y, rfl⟩)
      go_ret
      exact ⟨rfl, by have hB := HW4.out; (exact ext_of (by (repeat (first | (with_reducible exact Below.refl _ _) | (with_reducible assumption) | ((with_reducible refine below_ext_trans ?_ ?_ _); rotate_left; focus (((try dsimp only); repeat (first | omega | simp only [World.size_alloc, World.size_setCell, World.size_drew] | (with_reducible refine le_ext_of ?_) | (with_reducible refine le_ext_add ?_))); done)) | ((with_reducible refine Below.alloc ?_ ?_ _); rotate_left; focus (((try dsimp only); repeat (first | omega | simp only [World.size_alloc, World.size_setCell, World.size_drew] | (with_reducible refine le_ext_of ?_) | (with_reducible refine le_ext_add ?_))); done)) | ((with_reducible refine Below.setCell ?_ ?_ _); rotate_left; focus (((try dsimp only); repeat (first | omega | simp only [World.size_alloc, World.size_setCell, World.size_drew] | (with_reducible refine le_ext_of ?_) | (with_reducible refine le_ext_add ?_))); done)) | (with_reducible refine Below.drew ?_)))))⟩

theorem TurnTrue_any (h : Hd) (b : Bk) (n0 n1 : Int) (pi : Option Addr) (bits : List Int) (ci : Nat) (w : World) (hb : BkAt w h b) (hi : IntsAt w pi bits) (hbl : (bits.length : Int) ≤ 9223372036854775807) (hn : NB w) :
    Calls Tryd.prog 3 #[.agg #[.int .i64 b.n, .slice h.pb b.bs.length h.cb, .slice h.po b.os.length h.co, .slice h.ps b.ss.length h.cs], .agg #[.int .i64 n0, .int .i64 n1], .slice pi bits.length ci] w fun e w' => e = .returned (.bool true) ∧ ∃ x, w' = ext w x := by
  cases hv : bookB b with
  | false => exact TurnTrue_bad h b n0 n1 pi ci _ w hb hv hn
  | true =>
    obtain ⟨⟨ho1, ho3⟩, -⟩ := bookB_orders hv
    obtain ⟨h4, hs, -⟩ := bookB_bounds hv
    have hi0 := Int.emod_nonneg n0 (show (b.os.length : Int) ≠ 0 by omega)
    have hi1 := Int.emod_lt_of_pos n0 (show 0 < (b.os.length : Int) by omega)
    have hm0 := Int.emod_nonneg n1 (show (1440 : Int) ≠ 0 by omega)
    have hm1 := Int.emod_lt_of_pos n1 (show (0 : Int) < 1440 by omega)
    obtain ⟨st, est⟩ := Int.eq_ofNat_of_zero_le hi0
    have hle := vOf_between hv bits (n1 % 1440)
    have hhb := cnt_le (b.bs.map Prod.fst) (n1 % 1440)
    exact TurnTrue_yes h b n0 n1 pi ci _ bits w hb hv hn hi hbl rfl st _ _ _ _ _ _ _ _ est (by omega) rfl hm0 hm1 rfl rfl hle.1 hle.2 (by simpa using hhb) rfl rfl rfl rfl rfl
end Go.Proofs.YtmnbfjphndgmnaaDoor

