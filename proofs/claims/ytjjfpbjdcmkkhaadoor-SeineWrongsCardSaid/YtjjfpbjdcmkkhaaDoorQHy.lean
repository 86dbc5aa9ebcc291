/- The reference: Wrong. -/
/- The walk of SeineWrongs. -/
import Derived.Test.YtjjfpbjdcmkkhaaDoorQHv
import Derived.Test.YtjjfpbjdcmkkhaaDoorQJe
set_option linter.unusedSimpArgs false
set_option linter.unusedVariables false
namespace Go.Proofs.YtjjfpbjdcmkkhaaDoor
open Go Go.RowKit Go.Shelf
theorem Fewer_q (p q : Option Addr) (c d : Nat) (l m : List Int) (n k : Nat) (r : Bool) (w : World) (hl : IntsAt w p l) (hm : IntsAt w q m) (hb : (n : Int) ≤ 1000) (e1 : l.length = n) (e2 : m.length = k) (hr : fewerB l m = r) :
    Calls Tryd.prog 47 #[.slice p n c, .slice q k d] w fun e w' => e = .returned (.bool r) ∧ ∃ x, w' = ext w x := by
  subst hr; exact Fewer_eq p q c d l m n k w hl hm hb e1 e2
theorem Bits_n (s m n : Nat) (L : List Int) (w : World) (hs : s < 256) (hm : m ≤ 8) (hL : bitsL s m = L) (hn : L.length = n) : Calls Tryd.prog 46 #[.int .i64 s, .int .i64 m] w fun e w' => ∃ p c, e = .returned (.slice p n c) ∧ IntsAt w' p L ∧ ∃ x, w' = ext w x := by
  subst hn hL; exact Bits_eq s m w hs hm
theorem wrap_numR (s : Nat) (h : s < 1000) : wrap64 ((s : Int) + 1) = ((s + 1 : Nat) : Int) := by unfold wrap64; omega
attribute [local go_sem] Oper.semAt_some frozen_alloc_lt
set_option maxHeartbeats 1000000 in
theorem RWrong_bad (b : Sn) (p : Option Addr) (c : Nat) (w : World) (hl : NotesAt w p b.ns) (hv : snB b = false) :
    Calls Tryd.prog 32 #[bV b p c] w fun e w' => e = .returned (.tuple #[.slice none 0 0, .int .i64 30]) ∧ Below w.heap.size w w' := by
  have HL := Lib.hid hl
  have HV := Lib.hid hv
  clear hl hv
  go_enter Tryd.func32, Tryd.ntmps32
  go_wp2_with (go_at_call 17; refine (Check_code b p c false _ (HL.out.below (by (repeat (first | (with_reducible exact Below.refl _ _) | (with_reducible assumption) | ((with_reducible refine below_ext_trans ?_ ?_ _); rotate_left; focus (((try dsimp only); repeat (first | omega | simp only [World.size_alloc, World.size_setCell, World.size_drew] | (with_reducible refine le_ext_of ?_) | (with_reducible refine le_ext_add ?_))); done)) | ((with_reducible refine Below.alloc ?_ ?_ _); rotate_left; focus (((try dsimp only); repeat (first | omega | simp only [World.size_alloc, World.size_setCell, World.size_drew] | (with_reducible refine le_ext_of ?_) | (with_reducible refine le_ext_add ?_))); done)) | ((with_reducible refine Below.setCell ?_ ?_ _); rotate_left; focus (((try dsimp only); repeat (first | omega | simp only [World.size_alloc, World.size_setCell, World.size_drew] | (with_reducible refine le_ext_of ?_) | (with_reducible refine le_ext_add ?_))); done)) | (with_reducible refine Below.drew ?_))))) HV.out).mono ?_; rintro e w1 ⟨rfl, y, rfl⟩)
  refine bodyPost_ret (v := .tuple #[.slice none 0 0, .int .i64 30]) (by simp [results, Tryd.results32, go_sem]) rfl ⟨rfl, ?_⟩
  (repeat (first | (with_reducible exact Below.refl _ _) | (with_reducible assumption) | ((with_reducible refine below_ext_trans ?_ ?_ _); rotate_left; focus (((try dsimp only); repeat (first | omega | simp only [World.size_alloc, World.size_setCell, World.size_drew] | (with_reducible refine le_ext_of ?_) | (with_reducible refine le_ext_add ?_))); done)) | ((with_reducible refine Below.alloc ?_ ?_ _); rotate_left; focus (((try dsimp only); repeat (first | omega | simp only [World.size_alloc, World.size_setCell, World.size_drew] | (with_reducible refine le_ext_of ?_) | (with_reducible refine le_ext_add ?_))); done)) | ((with_reducible refine Below.setCell ?_ ?_ _); rotate_left; focus (((try dsimp only); repeat (first | omega | simp only [World.size_alloc, World.size_setCell, World.size_drew] | (with_reducible refine le_ext_of ?_) | (with_reducible refine le_ext_add ?_))); done)) | (with_reducible refine Below.drew ?_)))
set_option maxRecDepth 100000 in
set_option maxHeartbeats 4000000 in
theorem RWrong_ok (b : Sn) (p0 : Option Addr) (c0 : Nat) (L0 : List Int) (w : World) (hb : NotesAt w p0 b.ns) (hv : snB b = true) (hw : WrongIs b L0) :
    Calls Tryd.prog 32 #[bV b p0 c0] w fun e w' => ∃ p c, e = .returned (.tuple #[.slice p L0.length c, .int .i64 0]) ∧ IntsAt w' p L0 ∧ Below w.heap.size w w' := by
  have hok := Ok9.of hv
  have h8 : b.ns.length ≤ 8 := by
    have := hv
    rw [snB_head] at this
    unfold headS at this
    simp only [Bool.and_eq_true, decide_eq_true_eq] at this
    exact this.1.2
  have hsp : b.lo ≤ b.hi := by have := hok.span; unfold SpanOK at this; omega
  have HB := Lib.hid hb
  have HV := Lib.hid hv
  have HOK := Lib.hid hok
  have HW0 := Lib.hid hw
  have HINI := Lib.hid (WInv.start (b := b) hsp)
  clear hb hv hok hw hsp
  have m0 : (0 : Int) ≤ (b.ns.length : Int) := by omega
  have m1 : (b.ns.length : Int) < 64 := by omega
  have hp1 := Nat.two_pow_pos b.ns.length
  have hp2 : (2 ^ b.ns.length : Nat) ≤ 256 := by have := Nat.pow_le_pow_right (show 0 < 2 by omega) h8; omega
  have hc0 : ((2 : Int) ^ b.ns.length) = ((2 ^ b.ns.length : Nat) : Int) := by simp
  obtain ⟨P, hP⟩ : ∃ P, 2 ^ b.ns.length = P := ⟨_, rfl⟩
  have HPP := Lib.hid hP
  rw [hP] at HINI hp1 hp2 hc0
  have hw1 : wrap64 ((2 : Int) ^ b.ns.length) = (P : Int) := by rw [hc0]; unfold wrap64; omega
  have HW1 := Lib.hid hw1
  have HW2 := Lib.hid (show wrap64 ((P : Int) - 1) = ((P - 1 : Nat) : Int) by unfold wrap64; omega)
  have HP1 := Lib.hid (show (P : Int) - 1 = ((P - 1 : Nat) : Int) by omega)
  clear hc0 hP
  go_enter Tryd.func32, Tryd.ntmps32
  go_upto_region 5 with (go_at_call 17; refine (Check_code b p0 c0 true _ (HB.out.below (by (repeat (first | (with_reducible exact Below.refl _ _) | (with_reducible assumption) | ((with_reducible refine below_ext_trans ?_ ?_ _); rotate_left; focus (((try dsimp only); repeat (first | omega | simp only [World.size_alloc, World.size_setCell, World.size_drew] | (with_reducible refine le_ext_of ?_) | (with_reducible refine le_ext_add ?_))); done)) | ((with_reducible refine Below.alloc ?_ ?_ _); rotate_left; focus (((try dsimp only); repeat (first | omega | simp only [World.size_alloc, World.size_setCell, World.size_drew] | (with_reducible refine le_ext_of ?_) | (with_reducible refine le_ext_add ?_))); done)) | ((with_reducible refine Below.setCell ?_ ?_ _); rotate_left; focus (((try dsimp only); repeat (first | omega | simp only [World.size_alloc, World.size_setCell, World.size_drew] | (with_reducible refine le_ext_of ?_) | (with_reducible refine le_ext_add ?_))); done)) | (with_reducible refine Below.drew ?_))))) HV.out).mono ?_; rintro e w1 ⟨rfl, y, rfl⟩)
  generalize hV : ext _ y = V
  have hB : Below w.heap.size w V := by rw [← hV]; (repeat (first | (with_reducible exact Below.refl _ _) | (with_reducible assumption) | ((with_reducible refine below_ext_trans ?_ ?_ _); rotate_left; focus (((try dsimp only); repeat (first | omega | simp only [World.size_alloc, World.size_setCell, World.size_drew] | (with_reducible refine le_ext_of ?_) | (with_reducible refine le_ext_add ?_))); done)) | ((with_reducible refine Below.alloc ?_ ?_ _); rotate_left; focus (((try dsimp only); repeat (first | omega | simp only [World.size_alloc, World.size_setCell, World.size_drew] | (with_reducible refine le_ext_of ?_) | (with_reducible refine le_ext_add ?_))); done)) | ((with_reducible refine Below.setCell ?_ ?_ _); rotate_left; focus (((try dsimp only); repeat (first | omega | simp only [World.size_alloc, World.size_setCell, World.size_drew] | (with_reducible refine le_ext_of ?_) | (with_reducible refine le_ext_add ?_))); done)) | (with_reducible refine Below.drew ?_)))
  have kb : Blk V w.heap.size 26 #[.int .i64 b.lo, .int .i64 b.hi, .slice p0 b.ns.length c0] := by rw [← hV]; exact (Blk.new rfl).ext y
  have HBV := Lib.hid (HB.out.below hB)
  have HVB := Lib.hid hB
  have KB := Lib.hid kb
  clear hV hB kb HB
  go_upto_region 6 with (go_at_call 46; (try rw [HW1.out]); (first | rw [HW2.out] | rw [HP1.out]); refine (Bits_n (P - 1) b.ns.length _ (bitsL (P - 1) b.ns.length) _ (by omega) h8 rfl rfl).mono ?_; rintro e w1 ⟨p1, c1, rfl, hI0, y1, rfl⟩; have HI0 := Lib.hid hI0; clear hI0)
  generalize hW : ext V y1 = W at *
  have hBW : Below V.heap.size V W := by rw [← hW]; (repeat (first | (with_reducible exact Below.refl _ _) | (with_reducible assumption) | ((with_reducible refine below_ext_trans ?_ ?_ _); rotate_left; focus (((try dsimp only); repeat (first | omega | simp only [World.size_alloc, World.size_setCell, World.size_drew] | (with_reducible refine le_ext_of ?_) | (with_reducible refine le_ext_add ?_))); done)) | ((with_reducible refine Below.alloc ?_ ?_ _); rotate_left; focus (((try dsimp only); repeat (first | omega | simp only [World.size_alloc, World.size_setCell, World.size_drew] | (with_reducible refine le_ext_of ?_) | (with_reducible refine le_ext_add ?_))); done)) | ((with_reducible refine Below.setCell ?_ ?_ _); rotate_left; focus (((try dsimp only); repeat (first | omega | simp only [World.size_alloc, World.size_setCell, World.size_drew] | (with_reducible refine le_ext_of ?_) | (with_reducible refine le_ext_add ?_))); done)) | (with_reducible refine Below.drew ?_)))
  have HBW := Lib.hid (HBV.out.below hBW)
  have HWB := Lib.hid (HVB.out.trans (hBW.mono HVB.out.size))
  have KW := Lib.hid (KB.out.bel hBW)
  clear hW hBW HBV HVB KB
  go_wp2_with fail
  go_loopw [6, 7] (fun v i wr => ∃ (s n c : Nat) (p : Option Addr) (best : List Int), s ≤ P ∧ i = .int .i64 s ∧ v = .slice p n c ∧ Hid (best.length = n) ∧ Hid (IntsAt wr p best) ∧ Hid (WInv b s best) ∧ Hid (Below W.heap.size W wr)) (fun _ i _ => P - (intOf i).toNat)
  case atStart => exact ⟨0, _, _, _, _, by omega, rfl, rfl, Lib.hid rfl, HI0, HINI, Lib.hid (Below.refl _ _)⟩
  case round =>
    obtain ⟨s, n, c, p, best, hs, rfl, rfl, HN, HI, HWI, HBr⟩ := hrel
    by_cases hlt : s < P
    · have HK := Lib.hid (KW.out.bel HBr.out)
      have HBR := Lib.hid (HBW.out.below HBr.out)
      obtain ⟨L2, hL2⟩ : ∃ L2, bitsL s b.ns.length = L2 := ⟨_, rfl⟩
      obtain ⟨n2, hn2⟩ : ∃ n2, L2.length = n2 := ⟨_, rfl⟩
      have hle := bitsL_le s b.ns.length
      rw [hL2, hn2] at hle
      obtain ⟨q1, hq1⟩ : ∃ q1, fewerB L2 best = q1 := ⟨_, rfl⟩
      obtain ⟨q2, hq2⟩ : ∃ q2, canW b s = q2 := ⟨_, rfl⟩
      have HL2 := Lib.hid hL2
      have HN2 := Lib.hid hn2
      have HQ1 := Lib.hid hq1
      have HQ2 := Lib.hid hq2
      have HWN := Lib.hid (wrap_numR s (by omega))
      have HS1 := Lib.hid (show s + 1 ≤ P from hlt)
      have hs256 : s < 256 := by omega
      have hd : decide ((s : Int) < (P : Int)) = true := by simpa using hlt
      clear hL2 hn2 hq1 hq2
      go_upto_region 10 with (go_at_call 46; refine (Bits_n s b.ns.length n2 L2 _ (by omega) h8 HL2.out HN2.out).mono ?_; rintro e w1 ⟨p2, c2, rfl, hI2, y2, rfl⟩; have HI2 := Lib.hid hI2; clear hI2)
      generalize hY : ext wr y2 = Y at *
      have hBY : Below wr.heap.size wr Y := by rw [← hY]; (repeat (first | (with_reducible exact Below.refl _ _) | (with_reducible assumption) | ((with_reducible refine below_ext_trans ?_ ?_ _); rotate_left; focus (((try dsimp only); repeat (first | omega | simp only [World.size_alloc, World.size_setCell, World.size_drew] | (with_reducible refine le_ext_of ?_) | (with_reducible refine le_ext_add ?_))); done)) | ((with_reducible refine Below.alloc ?_ ?_ _); rotate_left; focus (((try dsimp only); repeat (first | omega | simp only [World.size_alloc, World.size_setCell, World.size_drew] | (with_reducible refine le_ext_of ?_) | (with_reducible refine le_ext_add ?_))); done)) | ((with_reducible refine Below.setCell ?_ ?_ _); rotate_left; focus (((try dsimp only); repeat (first | omega | simp only [World.size_alloc, World.size_setCell, World.size_drew] | (with_reducible refine le_ext_of ?_) | (with_reducible refine le_ext_add ?_))); done)) | (with_reducible refine Below.drew ?_)))
      have HBY := Lib.hid (HBr.out.trans (hBY.mono HBr.out.size))
      have HIY := Lib.hid (HI.out.below hBY)
      have HKY := Lib.hid (HK.out.bel hBY)
      have HBRY := Lib.hid (HBR.out.below hBY)
      clear hY hBY HBr HI HK HBR
      have hl := HKY.out.lt
      have d0 := HKY.out.cell 0
      have d1 := HKY.out.cell 1
      have d2 := HKY.out.cell 2
      simp only [List.size_toArray, List.length_cons, List.length_nil, Nat.reduceAdd, Nat.reduceLT, getElem?_pos, List.getElem_toArray, List.getElem_cons_zero, List.getElem_cons_succ] at d0 d1 d2
      cases q1
      · have HE := Lib.hid (show WInv b (s + 1) best from HWI.out.keep (fun _ => by rw [HL2.out]; exact HQ1.out))
        go_wp2_with (go_at_call 47; refine (Fewer_q p2 p c2 c L2 best n2 n false _ HI2.out HIY.out (by omega) HN2.out HN.out HQ1.out).mono ?_; rintro e w1 ⟨rfl, y3, rfl⟩)
        try rw [HWN.out]
        exact ⟨⟨s + 1, n, c, p, best, HS1.out, rfl, rfl, HN, Lib.hid (HIY.out.below (below_ext _ _)), HE, Lib.hid (HBY.out.trans (Below.mono (below_ext _ _) HBY.out.size))⟩, less_num P s HS1.out⟩
      · have HOW := Lib.hid (show Ok9 (woutS b L2 b.ns.length) from (wout_ok HOK.out L2 b.ns.length (Nat.le_refl _)).1)
        have HQ3 := Lib.hid (show rightS (woutS b L2 b.ns.length) = q2 by rw [← HL2.out]; exact HQ2.out)
        cases q2
        · have HE := Lib.hid (show WInv b (s + 1) best from HWI.out.keep (fun e => by rw [HQ2.out] at e; cases e))
          go_wp2_with (first
            | (go_at_call 47; refine (Fewer_q p2 p c2 c L2 best n2 n true _ HI2.out HIY.out (by omega) HN2.out HN.out HQ1.out).mono ?_; rintro e w1 ⟨rfl, y3, rfl⟩)
            | (go_at_call 77; refine (Without_r b p0 c0 s L2 _ (HBRY.out.below (below_ext _ _)) h8 hs256 HL2.out).mono ?_; rintro e w1 ⟨p3, c3, rfl, h3, y4, rfl⟩; have H3 := Lib.hid h3; clear h3)
            | (go_at_call 55; refine (right_code (woutS b L2 b.ns.length) p3 c3 false _ H3.out.notes HOW.out HQ3.out).mono ?_; rintro e w1 ⟨rfl, y5, rfl⟩))
          try rw [HWN.out]
          have hz : Below Y.heap.size Y (ext Y (y3.comp y4)) := below_ext _ _
          have HZ := Lib.hid (hz.trans ((below_ext _ y5).mono hz.size))
          clear hz
          exact ⟨⟨s + 1, n, c, p, best, HS1.out, rfl, rfl, HN, Lib.hid (HIY.out.below HZ.out), HE, Lib.hid (HBY.out.trans (Below.mono HZ.out HBY.out.size))⟩, less_num P s HS1.out⟩
        · have HE := Lib.hid (show WInv b (s + 1) L2 by rw [← HL2.out]; exact HWI.out.take (by rw [HPP.out]; exact HS1.out) HQ2.out (by rw [HL2.out]; exact HQ1.out))
          go_wp2_with (first
            | (go_at_call 47; refine (Fewer_q p2 p c2 c L2 best n2 n true _ HI2.out HIY.out (by omega) HN2.out HN.out HQ1.out).mono ?_; rintro e w1 ⟨rfl, y3, rfl⟩)
            | (go_at_call 77; refine (Without_r b p0 c0 s L2 _ (HBRY.out.below (below_ext _ _)) h8 hs256 HL2.out).mono ?_; rintro e w1 ⟨p3, c3, rfl, h3, y4, rfl⟩; have H3 := Lib.hid h3; clear h3)
            | (go_at_call 55; refine (right_code (woutS b L2 b.ns.length) p3 c3 true _ H3.out.notes HOW.out HQ3.out).mono ?_; rintro e w1 ⟨rfl, y5, rfl⟩))
          try rw [HWN.out]
          have hz : Below Y.heap.size Y (ext Y (y3.comp y4)) := below_ext _ _
          have HZ := Lib.hid (hz.trans ((below_ext _ y5).mono hz.size))
          clear hz
          exact ⟨⟨s + 1, n2, c2, p2, L2, HS1.out, rfl, rfl, HN2, Lib.hid (HI2.out.below HZ.out), HE, Lib.hid (HBY.out.trans (Below.mono HZ.out HBY.out.size))⟩, less_num P s HS1.out⟩
    · obtain rfl : s = P := by omega
      have hd : decide ((s : Int) < (s : Int)) = false := by simp
      have HEND := Lib.hid (HWB.out.trans (HBr.out.mono HWB.out.size))
      have HSA := Lib.hid (show best = L0 from WInv.same HOK.out (by rw [HPP.out]; exact HWI.out) HW0.out)
      have HN3 := Lib.hid (show L0.length = n by rw [← HSA.out]; exact HN.out)
      have HI3 := Lib.hid (show IntsAt wr p L0 by rw [← HSA.out]; exact HI.out)
      go_wp2_with fail
      go_ret2
      exact ⟨p, c, by first | (rw [HN3.out]; done) | (rw [HN3.out]; rfl), HI3.out, HEND.out⟩
end Go.Proofs.YtjjfpbjdcmkkhaaDoor

namespace Go.Proofs.YtjjfpbjdcmkkhaaDoor
open Go Go.RowKit Go.Shelf
theorem wrong_w (b : Sn) (p : Option Addr) (c : Nat) (w : World) (hk : SBk w b p) (hv : snB b = true) :
    Calls Tryd.prog 31 #[bV b p c] w fun e w' => ∃ (pw : Option Addr) (l : List Int) (nl cw : Nat), e = .returned (.tuple #[.slice pw nl cw, .int .i64 0]) ∧ l.length = nl ∧ IntsAt w' pw l ∧ WrongIs b l ∧ ∃ x, w' = ext w x :=
  (Wrong_ok b p c w hk hv).mono (by
    rintro e w' ⟨v, l, h1, ⟨pw, cw, h2, h3, -⟩, h4, h5, h6⟩
    exact ⟨pw, l, _, cw, by rw [h1, h2], rfl, h3, ⟨h4, h5⟩, ext_of h6⟩)
theorem rwrong_w (b : Sn) (p0 : Option Addr) (c0 : Nat) (L0 : List Int) (n : Nat) (w : World) (hb : NotesAt w p0 b.ns) (hv : snB b = true) (hw : WrongIs b L0) (hn : L0.length = n) :
    Calls Tryd.prog 32 #[bV b p0 c0] w fun e w' => ∃ p c, e = .returned (.tuple #[.slice p n c, .int .i64 0]) ∧ IntsAt w' p L0 ∧ ∃ x, w' = ext w x := by
  subst hn
  exact (RWrong_ok b p0 c0 L0 w hb hv hw).mono fun e w' ⟨p, c, h1, h2, h3⟩ => ⟨p, c, h1, h2, ext_of h3⟩
theorem same_q (p q : Option Addr) (c d : Nat) (l : List Int) (n : Nat) (w : World) (hn : l.length = n) (hl : IntsAt w p l) (hm : IntsAt w q l) (hb : (l.length : Int) ≤ 1000) :
    Calls Tryd.prog 33 #[.slice p n c, .slice q n d] w fun e w' => e = .returned (.bool true) ∧ ∃ x, w' = ext w x := by
  subst hn
  exact (Same_any p q c d l l w hl hm hb hb).mono fun e w' ⟨he, hx⟩ => ⟨by rw [he]; simp, hx⟩
attribute [local go_sem] Oper.semAt_some frozen_alloc_lt
set_option maxRecDepth 100000 in
set_option maxHeartbeats 4000000 in
theorem SeineWrongs_any (b : Sn) (p : Option Addr) (c : Nat) (w : World) (hk : SBk w b p) (_hc : SBc b p c) :
    Calls Tryd.prog 5 #[bV b p c] w fun e w' => e = .returned (.bool true) ∧ ∃ x, w' = ext w x := by
  have HK := Lib.hid hk
  clear hk
  cases hv : snB b
  · have HV := Lib.hid hv
    clear hv
    go_enter Tryd.func5, Tryd.ntmps5
    go_upto_region 2 with (go_at_call 31; refine (Wrong_bad b p c _ (HK.out.bel (by (repeat (first | (with_reducible exact Below.refl _ _) | (with_reducible assumption) | ((with_reducible refine below_ext_trans ?_ ?_ _); rotate_left; focus (((try dsimp only); repeat (first | omega | simp only [World.size_alloc, World.size_setCell, World.size_drew] | (with_reducible refine le_ext_of ?_) | (with_reducible refine le_ext_add ?_))); done)) | ((with_reducible refine Below.alloc ?_ ?_ _); rotate_left; focus (((try dsimp only); repeat (first | omega | simp only [World.size_alloc, World.size_setCell, World.size_drew] | (with_reducible refine le_ext_of ?_) | (with_reducible refine le_ext_add ?_))); done)) | ((with_reducible refine Below.setCell ?_ ?_ _); rotate_left; focus (((try dsimp only); repeat (first | omega | simp only [World.size_alloc, World.size_setCell, World.size_drew] | (with_reducible refine le_ext_of ?_) | (with_reducible refine le_ext_add ?_))); done)) | (with_reducible refine Below.drew ?_))))) HV.out).mono ?_; rintro e wu ⟨rfl, hwb⟩; obtain ⟨y, rfl⟩ := ext_of hwb; clear hwb)
    generalize hX : ext _ y = X1 at *
    have hB1 : Below w.heap.size w X1 := by rw [← hX]; (repeat (first | (with_reducible exact Below.refl _ _) | (with_reducible assumption) | ((with_reducible refine below_ext_trans ?_ ?_ _); rotate_left; focus (((try dsimp only); repeat (first | omega | simp only [World.size_alloc, World.size_setCell, World.size_drew] | (with_reducible refine le_ext_of ?_) | (with_reducible refine le_ext_add ?_))); done)) | ((with_reducible refine Below.alloc ?_ ?_ _); rotate_left; focus (((try dsimp only); repeat (first | omega | simp only [World.size_alloc, World.size_setCell, World.size_drew] | (with_reducible refine le_ext_of ?_) | (with_reducible refine le_ext_add ?_))); done)) | ((with_reducible refine Below.setCell ?_ ?_ _); rotate_left; focus (((try dsimp only); repeat (first | omega | simp only [World.size_alloc, World.size_setCell, World.size_drew] | (with_reducible refine le_ext_of ?_) | (with_reducible refine le_ext_add ?_))); done)) | (with_reducible refine Below.drew ?_)))
    have Kb := Lib.hid (show Blk X1 w.heap.size 26 #[.int .i64 b.lo, .int .i64 b.hi, .slice p b.ns.length c] by rw [← hX]; exact (Blk.new rfl).ext y)
    have HB1 := Lib.hid hB1
    clear hX hB1
    have q0 := Kb.out.cell 0
    have q1 := Kb.out.cell 1
    have q2 := Kb.out.cell 2
    have lb := Kb.out.lt
    simp only [List.size_toArray, List.length_cons, List.length_nil, Nat.reduceAdd, Nat.reduceLT, getElem?_pos, List.getElem_toArray, List.getElem_cons_zero, List.getElem_cons_succ] at q0 q1 q2
    go_upto_region 3 with (go_at_call 32; refine (RWrong_bad b p c _ ((HK.out.bel HB1.out).nt) HV.out).mono ?_; rintro e wu ⟨rfl, hwb⟩; have HWB := Lib.hid hwb; clear hwb)
    have HB2 := Lib.hid (HB1.out.trans (HWB.out.mono HB1.out.size))
    clear q0 q1 q2 lb HB1 HWB Kb
    go_wp2_with (first
      | (go_at_call 33; refine (same_q none none 0 0 [] 0 _ rfl (fun i x hx => by simp at hx) (fun i x hx => by simp at hx) (by simp)).mono ?_; rintro e w1 ⟨rfl, y, rfl⟩)
      | (go_at_call 24; refine (sounded_any _ ((HK.out.mm.below HB2.out).below (below_ext _ _))).mono ?_; rintro e w1 ⟨rfl, y2, rfl⟩))
    go_ret
    exact ⟨rfl, ext_of (HB2.out.trans ((below_ext _ _).mono HB2.out.size))⟩
  · have HV := Lib.hid hv
    have HOK := Lib.hid (Ok9.of hv)
    clear hv
    go_enter Tryd.func5, Tryd.ntmps5
    go_upto_region 2 with (go_at_call 31; refine (wrong_w b p c _ (HK.out.bel (by (repeat (first | (with_reducible exact Below.refl _ _) | (with_reducible assumption) | ((with_reducible refine below_ext_trans ?_ ?_ _); rotate_left; focus (((try dsimp only); repeat (first | omega | simp only [World.size_alloc, World.size_setCell, World.size_drew] | (with_reducible refine le_ext_of ?_) | (with_reducible refine le_ext_add ?_))); done)) | ((with_reducible refine Below.alloc ?_ ?_ _); rotate_left; focus (((try dsimp only); repeat (first | omega | simp only [World.size_alloc, World.size_setCell, World.size_drew] | (with_reducible refine le_ext_of ?_) | (with_reducible refine le_ext_add ?_))); done)) | ((with_reducible refine Below.setCell ?_ ?_ _); rotate_left; focus (((try dsimp only); repeat (first | omega | simp only [World.size_alloc, World.size_setCell, World.size_drew] | (with_reducible refine le_ext_of ?_) | (with_reducible refine le_ext_add ?_))); done)) | (with_reducible refine Below.drew ?_))))) HV.out).mono ?_; rintro e wu ⟨pw, l, nl, cw, rfl, hnl, hI, hWr, y, rfl⟩; have HI := Lib.hid hI; have HNL := Lib.hid hnl; have HWR := Lib.hid hWr; clear hI hnl hWr)
    generalize hX : ext _ y = X1 at *
    have hB1 : Below w.heap.size w X1 := by rw [← hX]; (repeat (first | (with_reducible exact Below.refl _ _) | (with_reducible assumption) | ((with_reducible refine below_ext_trans ?_ ?_ _); rotate_left; focus (((try dsimp only); repeat (first | omega | simp only [World.size_alloc, World.size_setCell, World.size_drew] | (with_reducible refine le_ext_of ?_) | (with_reducible refine le_ext_add ?_))); done)) | ((with_reducible refine Below.alloc ?_ ?_ _); rotate_left; focus (((try dsimp only); repeat (first | omega | simp only [World.size_alloc, World.size_setCell, World.size_drew] | (with_reducible refine le_ext_of ?_) | (with_reducible refine le_ext_add ?_))); done)) | ((with_reducible refine Below.setCell ?_ ?_ _); rotate_left; focus (((try dsimp only); repeat (first | omega | simp only [World.size_alloc, World.size_setCell, World.size_drew] | (with_reducible refine le_ext_of ?_) | (with_reducible refine le_ext_add ?_))); done)) | (with_reducible refine Below.drew ?_)))
    have Kb := Lib.hid (show Blk X1 w.heap.size 26 #[.int .i64 b.lo, .int .i64 b.hi, .slice p b.ns.length c] by rw [← hX]; exact (Blk.new rfl).ext y)
    have HB1 := Lib.hid hB1
    clear hX hB1
    have q0 := Kb.out.cell 0
    have q1 := Kb.out.cell 1
    have q2 := Kb.out.cell 2
    have lb := Kb.out.lt
    simp only [List.size_toArray, List.length_cons, List.length_nil, Nat.reduceAdd, Nat.reduceLT, getElem?_pos, List.getElem_toArray, List.getElem_cons_zero, List.getElem_cons_succ] at q0 q1 q2
    go_upto_region 3 with (go_at_call 32; refine (rwrong_w b p c l nl _ ((HK.out.bel HB1.out).nt) HV.out HWR.out HNL.out).mono ?_; rintro e wu ⟨p2, c2, rfl, hI2, y2, rfl⟩; have HI2 := Lib.hid hI2; clear hI2)
    have HI1 := Lib.hid (HI.out.below (below_ext _ y2))
    generalize hX : ext X1 y2 = X2 at *
    have hB2 : Below X1.heap.size X1 X2 := by rw [← hX]; exact below_ext _ _
    have HB2 := Lib.hid (HB1.out.trans (hB2.mono HB1.out.size))
    have HLL := Lib.hid (show (l.length : Int) ≤ 1000 by
      have hin := wrong_inn HOK.out HWR.out
      have h1 := idxL_self (k := b.ns.length) hin.2 hin.1
      have h2 := idxL_len l b.ns.length
      rw [h1] at h2
      have := HOK.out.len
      omega)
    clear q0 q1 q2 lb HB1 Kb hX hB2
    go_wp2_with (first
      | (go_at_call 33; refine (same_q pw p2 cw c2 l nl _ HNL.out HI1.out HI2.out HLL.out).mono ?_; rintro e w1 ⟨rfl, y, rfl⟩)
      | (go_at_call 24; refine (sounded_any _ ((HK.out.mm.below HB2.out).below (below_ext _ _))).mono ?_; rintro e w1 ⟨rfl, y3, rfl⟩))
    go_ret
    exact ⟨rfl, ext_of (HB2.out.trans ((below_ext _ _).mono HB2.out.size))⟩
end Go.Proofs.YtjjfpbjdcmkkhaaDoor

