/- TurnHangs' walk: no book, no shots, and a shot that hangs on no bound. -/
import Derived.Test.YtmnbfjphndgmnaaDoorQZe
import Derived.Test.YtmnbfjphndgmnaaDoorQZa
import Derived.Test.YtmnbfjphndgmnaaDoorQYt
import Derived.Test.YtmnbfjphndgmnaaDoorQVe
set_option linter.unusedSimpArgs false
set_option linter.unusedVariables false
namespace Go.Proofs.YtmnbfjphndgmnaaDoor
open Go Go.RowKit

theorem Hangs_eq (h : Hd) (b : Bk) (i st : Nat) (s : Shot) (L : List Int) (n : Nat) (w : World) (hb : BkAt w h b) (hv : bookB b = true) (hn : NB w) (hi : b.ss[i]? = some s) (hst : s.st = st) (hL : hangsTo b st s b.bs.length = L) (hl : L.length = n) :
    Calls Tryd.prog 29 #[.agg #[.int .i64 b.n, .slice h.pb b.bs.length h.cb, .slice h.po b.os.length h.co, .slice h.ps b.ss.length h.cs], .int .i64 i] w (OneList w L n) := by
  subst hl hL; exact Hangs_yes h b i st s w hb hv hn hi hst

theorem only_eq (h : Hd) (b : Bk) (k : Nat) (v : Int) (w : World) (hb : BkAt w h b) (hk : k < b.ss.length) (h5 : b.ss.length ≤ 5) (hcap : b.bs.length ≤ h.cb) :
    Calls Tryd.prog 28 #[.agg #[.int .i64 b.n, .slice h.pb b.bs.length h.cb, .slice h.po b.os.length h.co, .slice h.ps b.ss.length h.cs], .int .i64 k, .int .i64 v] w fun e w' => ∃ p1 c1 p2 c2 p3 c3, e = .returned (.agg #[.int .i64 b.n, .slice p1 b.bs.length c1, .slice p2 b.os.length c2, .slice p3 b.ss.length c3]) ∧ BkAt w' ⟨p1, c1, p2, c2, p3, c3⟩ (onlyBk b k v) ∧ b.bs.length ≤ c1 ∧ ∃ x, w' = ext w x :=
  (only_any h b k v w hb hk h5 hcap).mono fun e w' ⟨h2, he, hb2, hc2, hx⟩ => by
    obtain ⟨p1, c1, p2, c2, p3, c3⟩ := h2
    have e3 : (onlyBk b k v).ss.length = b.ss.length := by simp [onlyBk]
    have he' : e = .returned (.agg #[.int .i64 b.n, .slice p1 b.bs.length c1, .slice p2 b.os.length c2, .slice p3 (onlyBk b k v).ss.length c3]) := he
    rw [e3] at he'
    exact ⟨p1, c1, p2, c2, p3, c3, he', hb2, hc2, hx⟩
theorem Fair_len (p1 p2 p3 : Option Addr) (c1 c2 c3 l1 l2 l3 : Nat) (n : Int) (b : Bk) (i st : Nat) (s : Shot) (K : Int) (w : World) (hb : BkAt w ⟨p1, c1, p2, c2, p3, c3⟩ b) (hv : bookB b = true) (hn : NB w) (hi : b.ss[i]? = some s) (hst : s.st = st) (hK : kindOf (fun t => ownf b.os st t == s.co) (seg (cnt (lateL b.bs) s.lo) (cnt (soonL b.bs) s.hi)) = K)
    (e0 : b.n = n) (e1 : b.bs.length = l1) (e2 : b.os.length = l2) (e3 : b.ss.length = l3) :
    Calls Tryd.prog 22 #[.agg #[.int .i64 n, .slice p1 l1 c1, .slice p2 l2 c2, .slice p3 l3 c3], .int .i64 i] w fun e w' => e = .returned (.tuple #[.int .i64 K, .int .i64 0]) ∧ ∃ x, w' = ext w x := by
  subst e0 e1 e2 e3; exact Fair_eq ⟨p1, c1, p2, c2, p3, c3⟩ b i st s K w hb hv hn hi hst hK
theorem Hangs_len (p1 p2 p3 : Option Addr) (c1 c2 c3 l1 l2 l3 : Nat) (m : Int) (b : Bk) (i st : Nat) (s : Shot) (L : List Int) (n : Nat) (w : World) (hb : BkAt w ⟨p1, c1, p2, c2, p3, c3⟩ b) (hv : bookB b = true) (hn : NB w) (hi : b.ss[i]? = some s) (hst : s.st = st) (hL : hangsTo b st s b.bs.length = L) (hl : L.length = n)
    (e0 : b.n = m) (e1 : b.bs.length = l1) (e2 : b.os.length = l2) (e3 : b.ss.length = l3) :
    Calls Tryd.prog 29 #[.agg #[.int .i64 m, .slice p1 l1 c1, .slice p2 l2 c2, .slice p3 l3 c3], .int .i64 i] w (OneList w L n) := by
  subst e0 e1 e2 e3; exact Hangs_eq ⟨p1, c1, p2, c2, p3, c3⟩ b i st s L n w hb hv hn hi hst hL hl

set_option maxRecDepth 100000 in
set_option maxHeartbeats 4000000 in
theorem TurnHangs_bad (h : Hd) (b : Bk) (n0 n1 : Int) (w : World) (hb : BkAt w h b) (hv : bookB b = false) (hn : NB w) :
    Calls Tryd.prog 5 #[.agg #[.int .i64 b.n, .slice h.pb b.bs.length h.cb, .slice h.po b.os.length h.co, .slice h.ps b.ss.length h.cs], .agg #[.int .i64 n0, .int .i64 n1]] w fun e w' => e = .returned (.bool true) ∧ ∃ x, w' = ext w x := by
  have HB := Lib.hid hb
  have HN := Lib.hid hn
  clear hb hn
  go_enter Tryd.func5, Tryd.ntmps5
  go_wp2_with (first
    | (go_at_call 12; refine (sound_no h b _ (HB.out.below (by (repeat (first | (with_reducible exact Below.refl _ _) | (with_reducible assumption) | ((with_reducible refine below_ext_trans ?_ ?_ _); rotate_left; focus (((try dsimp only); repeat (first | omega | simp only [World.size_alloc, World.size_setCell, World.size_drew] | (with_reducible refine le_ext_of ?_) | (with_reducible refine le_ext_add ?_))); done)) | ((with_reducible refine Below.alloc ?_ ?_ _); rotate_left; focus (((try dsimp only); repeat (first | omega | simp only [World.size_alloc, World.size_setCell, World.size_drew] | (with_reducible refine le_ext_of ?_) | (with_reducible refine le_ext_add ?_))); done)) | ((with_reducible refine Below.setCell ?_ ?_ _); rotate_left; focus (((try dsimp only); repeat (first | omega | simp only [World.size_alloc, World.size_setCell, World.size_drew] | (with_reducible refine le_ext_of ?_) | (with_reducible refine le_ext_add ?_))); done)) | (with_reducible refine Below.drew ?_))))) hv).mono ?_; rintro e w1 ⟨rfl, y1, rfl⟩)
    | (go_at_call 13; refine (shot_any _ (HN.out.below (by (repeat (first | (with_reducible exact Below.refl _ _) | (with_reducible assumption) | ((with_reducible refine below_ext_trans ?_ ?_ _); rotate_left; focus (((try dsimp only); repeat (first | omega | simp only [World.size_alloc, World.size_setCell, World.size_drew] | (with_reducible refine le_ext_of ?_) | (with_reducible refine le_ext_add ?_))); done)) | ((with_reducible refine Below.alloc ?_ ?_ _); rotate_left; focus (((try dsimp only); repeat (first | omega | simp only [World.size_alloc, World.size_setCell, World.size_drew] | (with_reducible refine le_ext_of ?_) | (with_reducible refine le_ext_add ?_))); done)) | ((with_reducible refine Below.setCell ?_ ?_ _); rotate_left; focus (((try dsimp only); repeat (first | omega | simp only [World.size_alloc, World.size_setCell, World.size_drew] | (with_reducible refine le_ext_of ?_) | (with_reducible refine le_ext_add ?_))); done)) | (with_reducible refine Below.drew ?_)))))).mono ?_; rintro e w1 ⟨rfl, y, rfl⟩))
  go_ret
  exact ⟨rfl, by (exact ext_of (by (repeat (first | (with_reducible exact Below.refl _ _) | (with_reducible assumption) | ((with_reducible refine below_ext_trans ?_ ?_ _); rotate_left; focus (((try dsimp only); repeat (first | omega | simp only [World.size_alloc, World.size_setCell, World.size_drew] | (with_reducible refine le_ext_of ?_) | (with_reducible refine le_ext_add ?_))); done)) | ((with_reducible refine Below.alloc ?_ ?_ _); rotate_left; focus (((try dsimp only); repeat (first | omega | simp only [World.size_alloc, World.size_setCell, World.size_drew] | (with_reducible refine le_ext_of ?_) | (with_reducible refine le_ext_add ?_))); done)) | ((with_reducible refine Below.setCell ?_ ?_ _); rotate_left; focus (((try dsimp only); repeat (first | omega | simp only [World.size_alloc, World.size_setCell, World.size_drew] | (with_reducible refine le_ext_of ?_) | (with_reducible refine le_ext_add ?_))); done)) | (with_reducible refine Below.drew ?_)))))⟩
set_option maxRecDepth 100000 in
set_option maxHeartbeats 4000000 in
theorem TurnHangs_few (h : Hd) (b : Bk) (n0 n1 : Int) (w : World) (hb : BkAt w h b) (hv : bookB b = true) (hn : NB w) (hs : b.ss.length = 0) :
    Calls Tryd.prog 5 #[.agg #[.int .i64 b.n, .slice h.pb b.bs.length h.cb, .slice h.po b.os.length h.co, .slice h.ps b.ss.length h.cs], .agg #[.int .i64 n0, .int .i64 n1]] w fun e w' => e = .returned (.bool true) ∧ ∃ x, w' = ext w x := by
  obtain ⟨pb, cb, po, co, ps, cs⟩ := h
  dsimp only
  have HB := Lib.hid hb
  have HN := Lib.hid hn
  have hl0 : (b.ss.length : Int) = 0 := by omega
  have HV := Lib.hid hv
  clear hb hn hv hs
  go_enter Tryd.func5, Tryd.ntmps5
  go_upto_region 2 with (go_at_call 12; refine (sound_yes ⟨pb, cb, po, co, ps, cs⟩ b _ (HB.out.below (by (repeat (first | (with_reducible exact Below.refl _ _) | (with_reducible assumption) | ((with_reducible refine below_ext_trans ?_ ?_ _); rotate_left; focus (((try dsimp only); repeat (first | omega | simp only [World.size_alloc, World.size_setCell, World.size_drew] | (with_reducible refine le_ext_of ?_) | (with_reducible refine le_ext_add ?_))); done)) | ((with_reducible refine Below.alloc ?_ ?_ _); rotate_left; focus (((try dsimp only); repeat (first | omega | simp only [World.size_alloc, World.size_setCell, World.size_drew] | (with_reducible refine le_ext_of ?_) | (with_reducible refine le_ext_add ?_))); done)) | ((with_reducible refine Below.setCell ?_ ?_ _); rotate_left; focus (((try dsimp only); repeat (first | omega | simp only [World.size_alloc, World.size_setCell, World.size_drew] | (with_reducible refine le_ext_of ?_) | (with_reducible refine le_ext_add ?_))); done)) | (with_reducible refine Below.drew ?_))))) HV.out).mono ?_; rintro e w1 ⟨rfl, y1, rfl⟩)
  go_wp2_with (go_at_call 13; refine (shot_any _ (HN.out.below (by (repeat (first | (with_reducible exact Below.refl _ _) | (with_reducible assumption) | ((with_reducible refine below_ext_trans ?_ ?_ _); rotate_left; focus (((try dsimp only); repeat (first | omega | simp only [World.size_alloc, World.size_setCell, World.size_drew] | (with_reducible refine le_ext_of ?_) | (with_reducible refine le_ext_add ?_))); done)) | ((with_reducible refine Below.alloc ?_ ?_ _); rotate_left; focus (((try dsimp only); repeat (first | omega | simp only [World.size_alloc, World.size_setCell, World.size_drew] | (with_reducible refine le_ext_of ?_) | (with_reducible refine le_ext_add ?_))); done)) | ((with_reducible refine Below.setCell ?_ ?_ _); rotate_left; focus (((try dsimp only); repeat (first | omega | simp only [World.size_alloc, World.size_setCell, World.size_drew] | (with_reducible refine le_ext_of ?_) | (with_reducible refine le_ext_add ?_))); done)) | (with_reducible refine Below.drew ?_)))))).mono ?_; rintro e w1 ⟨rfl, y, rfl⟩)
  go_ret
  exact ⟨rfl, by (exact ext_of (by (repeat (first | (with_reducible exact Below.refl _ _) | (with_reducible assumption) | ((with_reducible refine below_ext_trans ?_ ?_ _); rotate_left; focus (((try dsimp only); repeat (first | omega | simp only [World.size_alloc, World.size_setCell, World.size_drew] | (with_reducible refine le_ext_of ?_) | (with_reducible refine le_ext_add ?_))); done)) | ((with_reducible refine Below.alloc ?_ ?_ _); rotate_left; focus (((try dsimp only); repeat (first | omega | simp only [World.size_alloc, World.size_setCell, World.size_drew] | (with_reducible refine le_ext_of ?_) | (with_reducible refine le_ext_add ?_))); done)) | ((with_reducible refine Below.setCell ?_ ?_ _); rotate_left; focus (((try dsimp only); repeat (first | omega | simp only [World.size_alloc, World.size_setCell, World.size_drew] | (with_reducible refine le_ext_of ?_) | (with_reducible refine le_ext_add ?_))); done)) | (with_reducible refine Below.drew ?_)))))⟩
set_option maxRecDepth 100000 in
set_option maxHeartbeats 8000000 in
theorem TurnHangs_yes (h : Hd) (b : Bk) (n0 n1 : Int) (w : World) (hb : BkAt w h b) (hv : bookB b = true) (hn : NB w) (hcap : b.bs.length ≤ h.cb) (k st nw nt : Nat) (s : Shot) (x K : Int) (L T : List Int)
    (hk : b.ss[k]? = some s) (hst : s.st = st) (ek : n0 % (b.ss.length : Int) = (k : Int)) (ex : someI s.lo s.hi n1 = x) (hx0 : s.lo ≤ x) (hx1 : x ≤ s.hi)
    (hL : hangsTo b st s b.bs.length = L) (hln : L.length = nw) (hT : hangsTo b st ⟨s.st, s.co, x, x⟩ b.bs.length = T) (hnt : T.length = nt)
    (hK : kindOf (fun t => ownf b.os st t == s.co) (seg (cnt (lateL b.bs) x) (cnt (soonL b.bs) x)) = K)
    (hcase : (T = [] ∧ K ≠ 1) ∨ ∃ k0 : Nat, k0 < b.bs.length ∧ T = [(k0 : Int)] ∧ K = 1 ∧ cnt (b.bs.map Prod.snd) x = k0 ∧ cnt (b.bs.map Prod.fst) x = k0 + 1 ∧ (okB b st s k0 != okB b st s (k0 + 1)) = true) :
    Calls Tryd.prog 5 #[.agg #[.int .i64 b.n, .slice h.pb b.bs.length h.cb, .slice h.po b.os.length h.co, .slice h.ps b.ss.length h.cs], .agg #[.int .i64 n0, .int .i64 n1]] w fun e w' => e = .returned (.bool true) ∧ ∃ x, w' = ext w x := by
  obtain ⟨pb, cb, po, co, ps, cs⟩ := h
  dsimp only at hcap ⊢
  have hs5 := bookB_ss hv
  have h4 := (bookB_bounds hv).1
  obtain ⟨-, -, ms⟩ := bookB_shot hv hk
  unfold Mom at ms
  have SB := Lib.hid (show 0 ≤ s.lo ∧ s.lo ≤ s.hi ∧ s.hi ≤ 100000 by omega)
  have hkl := (List.getElem?_eq_some_iff.1 hk).1
  have hl0 : ¬ (b.ss.length : Int) = 0 := by omega
  have HL1 := Lib.hid (show 1 ≤ (b.ss.length : Int) ∧ (b.ss.length : Int) ≤ 1000000 by omega)
  obtain ⟨bb, o, hps, hbb, q0, q1, q2, q3⟩ := hb.ss k s hk
  dsimp only at hps
  subst hps
  have k0 : (0 : Int) ≤ (k : Int) := by omega
  have k1 : (k : Int) < (b.ss.length : Int) := by omega
  have bb1 : bb < w.heap.size + 1 := by omega
  have bb2 : bb < w.heap.size + 1 + 1 := by omega
  have HXV := Lib.hid (only_ok hv hk hx0 hx1)
  have HXG := Lib.hid (only_get (x := x) hk)
  have HRI := Lib.hid (show risesB b.bs.length 0 L = true by rw [← hL]; exact hangsTo_rises _ _ _ _)
  have HLL := Lib.hid (show (L.length : Int) ≤ 1000 by rw [← hL]; have := hangsTo_le b st s b.bs.length; omega)
  have HX01 := Lib.hid (And.intro hx0 hx1)
  have HB := Lib.hid hb
  have HN := Lib.hid hn
  have HV := Lib.hid hv
  have HKG := Lib.hid hk
  have HST := Lib.hid hst
  have EK := Lib.hid ek
  have EX := Lib.hid ex
  have HL := Lib.hid hL
  have HLN := Lib.hid hln
  have HT := Lib.hid hT
  have HK := Lib.hid hK
  have HCS := Lib.hid hcase
  have HNT := Lib.hid hnt
  clear hb hn hv hk hst ek ex hL hln hT hK hcase hnt ms q0 q1 hx0 hx1
  go_enter Tryd.func5, Tryd.ntmps5
  go_upto_region 4 with (first
    | (go_at_call 12; refine (sound_yes ⟨pb, cb, po, co, some ⟨bb, o, none⟩, cs⟩ b _ (HB.out.below (by (repeat (first | (with_reducible exact Below.refl _ _) | (with_reducible assumption) | ((with_reducible refine below_ext_trans ?_ ?_ _); rotate_left; focus (((try dsimp only); repeat (first | omega | simp only [World.size_alloc, World.size_setCell, World.size_drew] | (with_reducible refine le_ext_of ?_) | (with_reducible refine le_ext_add ?_))); done)) | ((with_reducible refine Below.alloc ?_ ?_ _); rotate_left; focus (((try dsimp only); repeat (first | omega | simp only [World.size_alloc, World.size_setCell, World.size_drew] | (with_reducible refine le_ext_of ?_) | (with_reducible refine le_ext_add ?_))); done)) | ((with_reducible refine Below.setCell ?_ ?_ _); rotate_left; focus (((try dsimp only); repeat (first | omega | simp only [World.size_alloc, World.size_setCell, World.size_drew] | (with_reducible refine le_ext_of ?_) | (with_reducible refine le_ext_add ?_))); done)) | (with_reducible refine Below.drew ?_))))) HV.out).mono ?_; rintro e w1 ⟨rfl, y1, rfl⟩)
    | (go_at_call 14; refine (Wheel_eq n0 _ k _ HL1.out EK.out).mono ?_; rintro e w1 ⟨rfl, y1, rfl⟩))
  refine wp_region_ext (by kernel_rfl) (by kernel_rfl) ?_
  repeat (go_big_quiet_step (fail))
  go_big_quiet_step ((go_at_call 23; exact quiet_ext (Some_eq' s.lo s.hi n1 x _ SB.out EX.out)))
  repeat (go_big_quiet_step (fail))
  refine wpQuiet_nil ?_
  rintro W ⟨xw, hW⟩
  have hWB : Below w.heap.size w W := by rw [hW]; (repeat (first | (with_reducible exact Below.refl _ _) | (with_reducible assumption) | ((with_reducible refine below_ext_trans ?_ ?_ _); rotate_left; focus (((try dsimp only); repeat (first | omega | simp only [World.size_alloc, World.size_setCell, World.size_drew] | (with_reducible refine le_ext_of ?_) | (with_reducible refine le_ext_add ?_))); done)) | ((with_reducible refine Below.alloc ?_ ?_ _); rotate_left; focus (((try dsimp only); repeat (first | omega | simp only [World.size_alloc, World.size_setCell, World.size_drew] | (with_reducible refine le_ext_of ?_) | (with_reducible refine le_ext_add ?_))); done)) | ((with_reducible refine Below.setCell ?_ ?_ _); rotate_left; focus (((try dsimp only); repeat (first | omega | simp only [World.size_alloc, World.size_setCell, World.size_drew] | (with_reducible refine le_ext_of ?_) | (with_reducible refine le_ext_add ?_))); done)) | (with_reducible refine Below.drew ?_)))
  have kb : Blk W w.heap.size 26 #[.int .i64 b.n, .slice pb b.bs.length cb, .slice po b.os.length co, .slice (some ⟨bb, o, none⟩) b.ss.length cs] := by
    rw [hW]
    first
      | exact (((Blk.new rfl).alloc _).ext _).ext _
      | exact ((Blk.new rfl).alloc _).ext _
  clear hW q2 q3 hbb bb1 bb2
  have d0 := kb.cell 0
  have d1 := kb.cell 1
  have d2 := kb.cell 2
  have d3 := kb.cell 3
  simp only [List.size_toArray, List.length_cons, List.length_nil, Nat.reduceAdd, Nat.reduceLT, getElem?_pos, List.getElem_toArray, List.getElem_cons_zero, List.getElem_cons_succ] at d0 d1 d2 d3
  have kl := kb.lt
  have HBW := Lib.hid (HB.out.below hWB)
  have HNW := Lib.hid (HN.out.below hWB)
  have HWB := Lib.hid hWB
  have KB := Lib.hid kb
  clear hWB kb HB HN
  go_upto_region 6 with (go_at_call 28; refine (only_eq ⟨pb, cb, po, co, some ⟨bb, o, none⟩, cs⟩ b k x _ (HBW.out.below (by (repeat (first | (with_reducible exact Below.refl _ _) | (with_reducible assumption) | ((with_reducible refine below_ext_trans ?_ ?_ _); rotate_left; focus (((try dsimp only); repeat (first | omega | simp only [World.size_alloc, World.size_setCell, World.size_drew] | (with_reducible refine le_ext_of ?_) | (with_reducible refine le_ext_add ?_))); done)) | ((with_reducible refine Below.alloc ?_ ?_ _); rotate_left; focus (((try dsimp only); repeat (first | omega | simp only [World.size_alloc, World.size_setCell, World.size_drew] | (with_reducible refine le_ext_of ?_) | (with_reducible refine le_ext_add ?_))); done)) | ((with_reducible refine Below.setCell ?_ ?_ _); rotate_left; focus (((try dsimp only); repeat (first | omega | simp only [World.size_alloc, World.size_setCell, World.size_drew] | (with_reducible refine le_ext_of ?_) | (with_reducible refine le_ext_add ?_))); done)) | (with_reducible refine Below.drew ?_))))) hkl hs5 hcap).mono ?_; rintro e w1 ⟨p1, c1, p2, c2, p3, c3, rfl, hb2, hc2, y2, rfl⟩)
  obtain ⟨X, eX⟩ : ∃ X, X = onlyBk b k x := ⟨_, rfl⟩
  rw [← eX] at hb2 HXV HXG
  have E0 := Lib.hid (show X.n = b.n by rw [eX]; rfl)
  have E1 := Lib.hid (show X.bs.length = b.bs.length by rw [eX]; rfl)
  have E2 := Lib.hid (show X.os.length = b.os.length by rw [eX]; rfl)
  have E3 := Lib.hid (show X.ss.length = b.ss.length by rw [eX]; simp [onlyBk])
  have EX2 := Lib.hid eX
  have HKX := Lib.hid (show kindOf (fun t => ownf X.os st t == s.co) (seg (cnt (lateL X.bs) x) (cnt (soonL X.bs) x)) = K by rw [eX]; exact HK.out)
  have HTX := Lib.hid (show hangsTo X st ⟨s.st, s.co, x, x⟩ X.bs.length = T by rw [eX]; exact HT.out)
  clear eX
  generalize hW3 : (ext W y2).alloc _ = W3
  generalize hg : (ext W y2).heap.size = gx
  have hB3 : Below W.heap.size W W3 := by rw [← hW3]; (repeat (first | (with_reducible exact Below.refl _ _) | (with_reducible assumption) | ((with_reducible refine below_ext_trans ?_ ?_ _); rotate_left; focus (((try dsimp only); repeat (first | omega | simp only [World.size_alloc, World.size_setCell, World.size_drew] | (with_reducible refine le_ext_of ?_) | (with_reducible refine le_ext_add ?_))); done)) | ((with_reducible refine Below.alloc ?_ ?_ _); rotate_left; focus (((try dsimp only); repeat (first | omega | simp only [World.size_alloc, World.size_setCell, World.size_drew] | (with_reducible refine le_ext_of ?_) | (with_reducible refine le_ext_add ?_))); done)) | ((with_reducible refine Below.setCell ?_ ?_ _); rotate_left; focus (((try dsimp only); repeat (first | omega | simp only [World.size_alloc, World.size_setCell, World.size_drew] | (with_reducible refine le_ext_of ?_) | (with_reducible refine le_ext_add ?_))); done)) | (with_reducible refine Below.drew ?_)))
  have hX3 : Below (ext W y2).heap.size (ext W y2) W3 := by rw [← hW3]; (repeat (first | (with_reducible exact Below.refl _ _) | (with_reducible assumption) | ((with_reducible refine below_ext_trans ?_ ?_ _); rotate_left; focus (((try dsimp only); repeat (first | omega | simp only [World.size_alloc, World.size_setCell, World.size_drew] | (with_reducible refine le_ext_of ?_) | (with_reducible refine le_ext_add ?_))); done)) | ((with_reducible refine Below.alloc ?_ ?_ _); rotate_left; focus (((try dsimp only); repeat (first | omega | simp only [World.size_alloc, World.size_setCell, World.size_drew] | (with_reducible refine le_ext_of ?_) | (with_reducible refine le_ext_add ?_))); done)) | ((with_reducible refine Below.setCell ?_ ?_ _); rotate_left; focus (((try dsimp only); repeat (first | omega | simp only [World.size_alloc, World.size_setCell, World.size_drew] | (with_reducible refine le_ext_of ?_) | (with_reducible refine le_ext_add ?_))); done)) | (with_reducible refine Below.drew ?_)))
  have kx : Blk W3 gx 26 #[.int .i64 b.n, .slice p1 b.bs.length c1, .slice p2 b.os.length c2, .slice p3 b.ss.length c3] := by rw [← hW3]; exact Blk.new hg.symm
  have HX3 := Lib.hid (hb2.below hX3)
  clear hb2 hX3 hg d0 d1 d2 d3 kl
  have kb3 := KB.out.bel hB3
  have HB3 := Lib.hid (HBW.out.below hB3)
  have HN3 := Lib.hid (HNW.out.below hB3)
  have HW3 := Lib.hid (HWB.out.trans (hB3.mono HWB.out.size))
  have d0 := kb3.cell 0
  have d1 := kb3.cell 1
  have d2 := kb3.cell 2
  have d3 := kb3.cell 3
  have x0 := kx.cell 0
  have x1 := kx.cell 1
  have x2 := kx.cell 2
  have x3 := kx.cell 3
  simp only [List.size_toArray, List.length_cons, List.length_nil, Nat.reduceAdd, Nat.reduceLT, getElem?_pos, List.getElem_toArray, List.getElem_cons_zero, List.getElem_cons_succ] at d0 d1 d2 d3 x0 x1 x2 x3
  have kl := kb3.lt
  have xl := kx.lt
  have KB3 := Lib.hid kb3
  have KX3 := Lib.hid kx
  clear hW3 hB3 kb3 kx KB HBW HNW HWB
  go_upto_region 7 with (go_at_call 22; refine (Fair_len p1 p2 p3 c1 c2 c3 _ _ _ _ X k st ⟨s.st, s.co, x, x⟩ K _ (HX3.out.below (by (repeat (first | (with_reducible exact Below.refl _ _) | (with_reducible assumption) | ((with_reducible refine below_ext_trans ?_ ?_ _); rotate_left; focus (((try dsimp only); repeat (first | omega | simp only [World.size_alloc, World.size_setCell, World.size_drew] | (with_reducible refine le_ext_of ?_) | (with_reducible refine le_ext_add ?_))); done)) | ((with_reducible refine Below.alloc ?_ ?_ _); rotate_left; focus (((try dsimp only); repeat (first | omega | simp only [World.size_alloc, World.size_setCell, World.size_drew] | (with_reducible refine le_ext_of ?_) | (with_reducible refine le_ext_add ?_))); done)) | ((with_reducible refine Below.setCell ?_ ?_ _); rotate_left; focus (((try dsimp only); repeat (first | omega | simp only [World.size_alloc, World.size_setCell, World.size_drew] | (with_reducible refine le_ext_of ?_) | (with_reducible refine le_ext_add ?_))); done)) | (with_reducible refine Below.drew ?_))))) HXV.out (HN3.out.below (by (repeat (first | (with_reducible exact Below.refl _ _) | (with_reducible assumption) | ((with_reducible refine below_ext_trans ?_ ?_ _); rotate_left; focus (((try dsimp only); repeat (first | omega | simp only [World.size_alloc, World.size_setCell, World.size_drew] | (with_reducible refine le_ext_of ?_) | (with_reducible refine le_ext_add ?_))); done)) | ((with_reducible refine Below.alloc ?_ ?_ _); rotate_left; focus (((try dsimp only); repeat (first | omega | simp only [World.size_alloc, World.size_setCell, World.size_drew] | (with_reducible refine le_ext_of ?_) | (with_reducible refine le_ext_add ?_))); done)) | ((with_reducible refine Below.setCell ?_ ?_ _); rotate_left; focus (((try dsimp only); repeat (first | omega | simp only [World.size_alloc, World.size_setCell, World.size_drew] | (with_reducible refine le_ext_of ?_) | (with_reducible refine le_ext_add ?_))); done)) | (with_reducible refine Below.drew ?_))))) HXG.out HST.out HKX.out E0.out E1.out E2.out E3.out).mono ?_; rintro e w1 ⟨rfl, y3, rfl⟩)
  go_upto_region 8 with (go_at_call 29; refine (Hangs_len p1 p2 p3 c1 c2 c3 _ _ _ _ X k st ⟨s.st, s.co, x, x⟩ T nt _ (HX3.out.below (by (repeat (first | (with_reducible exact Below.refl _ _) | (with_reducible assumption) | ((with_reducible refine below_ext_trans ?_ ?_ _); rotate_left; focus (((try dsimp only); repeat (first | omega | simp only [World.size_alloc, World.size_setCell, World.size_drew] | (with_reducible refine le_ext_of ?_) | (with_reducible refine le_ext_add ?_))); done)) | ((with_reducible refine Below.alloc ?_ ?_ _); rotate_left; focus (((try dsimp only); repeat (first | omega | simp only [World.size_alloc, World.size_setCell, World.size_drew] | (with_reducible refine le_ext_of ?_) | (with_reducible refine le_ext_add ?_))); done)) | ((with_reducible refine Below.setCell ?_ ?_ _); rotate_left; focus (((try dsimp only); repeat (first | omega | simp only [World.size_alloc, World.size_setCell, World.size_drew] | (with_reducible refine le_ext_of ?_) | (with_reducible refine le_ext_add ?_))); done)) | (with_reducible refine Below.drew ?_))))) HXV.out (HN3.out.below (by (repeat (first | (with_reducible exact Below.refl _ _) | (with_reducible assumption) | ((with_reducible refine below_ext_trans ?_ ?_ _); rotate_left; focus (((try dsimp only); repeat (first | omega | simp only [World.size_alloc, World.size_setCell, World.size_drew] | (with_reducible refine le_ext_of ?_) | (with_reducible refine le_ext_add ?_))); done)) | ((with_reducible refine Below.alloc ?_ ?_ _); rotate_left; focus (((try dsimp only); repeat (first | omega | simp only [World.size_alloc, World.size_setCell, World.size_drew] | (with_reducible refine le_ext_of ?_) | (with_reducible refine le_ext_add ?_))); done)) | ((with_reducible refine Below.setCell ?_ ?_ _); rotate_left; focus (((try dsimp only); repeat (first | omega | simp only [World.size_alloc, World.size_setCell, World.size_drew] | (with_reducible refine le_ext_of ?_) | (with_reducible refine le_ext_add ?_))); done)) | (with_reducible refine Below.drew ?_))))) HXG.out HST.out HTX.out HNT.out E0.out E1.out E2.out E3.out).mono ?_; rintro e w1 ⟨pt, ct, rfl, hIt, y4, rfl⟩; (try simp only [ext_ext] at hIt); have HIT := Lib.hid hIt; clear hIt)
  have hB4 : Below W3.heap.size W3 (ext W3 (y3.comp y4)) := below_ext _ _
  generalize ext W3 (y3.comp y4) = W4 at *
  have kb4 := KB3.out.bel hB4
  have kx4 := KX3.out.bel hB4
  have HB4 := Lib.hid (HB3.out.below hB4)
  have HX4 := Lib.hid (HX3.out.below hB4)
  have HN4 := Lib.hid (HN3.out.below hB4)
  have HW4 := Lib.hid (HW3.out.trans (hB4.mono HW3.out.size))
  clear d0 d1 d2 d3 x0 x1 x2 x3 kl xl
  have d0 := kb4.cell 0
  have d1 := kb4.cell 1
  have d2 := kb4.cell 2
  have d3 := kb4.cell 3
  simp only [List.size_toArray, List.length_cons, List.length_nil, Nat.reduceAdd, Nat.reduceLT, getElem?_pos, List.getElem_toArray, List.getElem_cons_zero, List.getElem_cons_succ] at d0 d1 d2 d3
  have kl := kb4.lt
  have KB4 := Lib.hid kb4
  have KX4 := Lib.hid kx4
  clear hB4 kb4 kx4 KB3 KX3 HB3 HX3 HN3 HW3
  go_upto_region 9 with (go_at_call 29; refine (Hangs_eq ⟨pb, cb, po, co, some ⟨bb, o, none⟩, cs⟩ b k st s L nw _ (HB4.out.below (by (repeat (first | (with_reducible exact Below.refl _ _) | (with_reducible assumption) | ((with_reducible refine below_ext_trans ?_ ?_ _); rotate_left; focus (((try dsimp only); repeat (first | omega | simp only [World.size_alloc, World.size_setCell, World.size_drew] | (with_reducible refine le_ext_of ?_) | (with_reducible refine le_ext_add ?_))); done)) | ((with_reducible refine Below.alloc ?_ ?_ _); rotate_left; focus (((try dsimp only); repeat (first | omega | simp only [World.size_alloc, World.size_setCell, World.size_drew] | (with_reducible refine le_ext_of ?_) | (with_reducible refine le_ext_add ?_))); done)) | ((with_reducible refine Below.setCell ?_ ?_ _); rotate_left; focus (((try dsimp only); repeat (first | omega | simp only [World.size_alloc, World.size_setCell, World.size_drew] | (with_reducible refine le_ext_of ?_) | (with_reducible refine le_ext_add ?_))); done)) | (with_reducible refine Below.drew ?_))))) HV.out (HN4.out.below (by (repeat (first | (with_reducible exact Below.refl _ _) | (with_reducible assumption) | ((with_reducible refine below_ext_trans ?_ ?_ _); rotate_left; focus (((try dsimp only); repeat (first | omega | simp only [World.size_alloc, World.size_setCell, World.size_drew] | (with_reducible refine le_ext_of ?_) | (with_reducible refine le_ext_add ?_))); done)) | ((with_reducible refine Below.alloc ?_ ?_ _); rotate_left; focus (((try dsimp only); repeat (first | omega | simp only [World.size_alloc, World.size_setCell, World.size_drew] | (with_reducible refine le_ext_of ?_) | (with_reducible refine le_ext_add ?_))); done)) | ((with_reducible refine Below.setCell ?_ ?_ _); rotate_left; focus (((try dsimp only); repeat (first | omega | simp only [World.size_alloc, World.size_setCell, World.size_drew] | (with_reducible refine le_ext_of ?_) | (with_reducible refine le_ext_add ?_))); done)) | (with_reducible refine Below.drew ?_))))) HKG.out HST.out HL.out HLN.out).mono ?_; rintro e w1 ⟨pl, cl, rfl, hIl, y5, rfl⟩; (try simp only [ext_ext] at hIl); have HIL := Lib.hid hIl; clear hIl)
  have hB5 : Below W4.heap.size W4 (ext W4 y5) := below_ext _ _
  generalize ext W4 y5 = W5 at *
  have kb5 := KB4.out.bel hB5
  have kx5 := KX4.out.bel hB5
  have HB5 := Lib.hid (HB4.out.below hB5)
  have HX5 := Lib.hid (HX4.out.below hB5)
  have HN5 := Lib.hid (HN4.out.below hB5)
  have HIT5 := Lib.hid (HIT.out.below hB5)
  have HW5 := Lib.hid (HW4.out.trans (hB5.mono HW4.out.size))
  clear d0 d1 d2 d3 kl
  have d0 := kb5.cell 0
  have d1 := kb5.cell 1
  have d2 := kb5.cell 2
  have d3 := kb5.cell 3
  simp only [List.size_toArray, List.length_cons, List.length_nil, Nat.reduceAdd, Nat.reduceLT, getElem?_pos, List.getElem_toArray, List.getElem_cons_zero, List.getElem_cons_succ] at d0 d1 d2 d3
  have kl := kb5.lt
  have KB5 := Lib.hid kb5
  have KX5 := Lib.hid kx5
  clear hB5 kb5 kx5 KB4 KX4 HB4 HX4 HN4 HW4 HIT
  rcases HCS.out with ⟨rfl, hK1⟩ | ⟨k0, hk0, rfl, rfl, hc1, hc2', hd⟩
  · obtain rfl : nt = 0 := HNT.out.symm
    have hK2 : (K == 1) = false := by simpa using hK1
    go_wp2_with (first
      | (go_at_call 19; refine (Rises_ext pl cl L nw _ _ HLN.out (HIL.out.below (by (repeat (first | (with_reducible exact Below.refl _ _) | (with_reducible assumption) | ((with_reducible refine below_ext_trans ?_ ?_ _); rotate_left; focus (((try dsimp only); repeat (first | omega | simp only [World.size_alloc, World.size_setCell, World.size_drew] | (with_reducible refine le_ext_of ?_) | (with_reducible refine le_ext_add ?_))); done)) | ((with_reducible refine Below.alloc ?_ ?_ _); rotate_left; focus (((try dsimp only); repeat (first | omega | simp only [World.size_alloc, World.size_setCell, World.size_drew] | (with_reducible refine le_ext_of ?_) | (with_reducible refine le_ext_add ?_))); done)) | ((with_reducible refine Below.setCell ?_ ?_ _); rotate_left; focus (((try dsimp only); repeat (first | omega | simp only [World.size_alloc, World.size_setCell, World.size_drew] | (with_reducible refine le_ext_of ?_) | (with_reducible refine le_ext_add ?_))); done)) | (with_reducible refine Below.drew ?_))))) HLL.out (by omega) (by omega) HRI.out).mono ?_; rintro e w1 ⟨rfl, y6, rfl⟩)
      | (go_at_call 13; refine (shot_any _ (HN5.out.below (by (repeat (first | (with_reducible exact Below.refl _ _) | (with_reducible assumption) | ((with_reducible refine below_ext_trans ?_ ?_ _); rotate_left; focus (((try dsimp only); repeat (first | omega | simp only [World.size_alloc, World.size_setCell, World.size_drew] | (with_reducible refine le_ext_of ?_) | (with_reducible refine le_ext_add ?_))); done)) | ((with_reducible refine Below.alloc ?_ ?_ _); rotate_left; focus (((try dsimp only); repeat (first | omega | simp only [World.size_alloc, World.size_setCell, World.size_drew] | (with_reducible refine le_ext_of ?_) | (with_reducible refine le_ext_add ?_))); done)) | ((with_reducible refine Below.setCell ?_ ?_ _); rotate_left; focus (((try dsimp only); repeat (first | omega | simp only [World.size_alloc, World.size_setCell, World.size_drew] | (with_reducible refine le_ext_of ?_) | (with_reducible refine le_ext_add ?_))); done)) | (with_reducible refine Below.drew ?_)))))).mono ?_; rintro e w1 ⟨rfl, y7, rfl⟩))
    go_ret
    exact ⟨rfl, by have hB := HW5.out; (exact ext_of (by (repeat (first | (with_reducible exact Below.refl _ _) | (with_reducible assumption) | ((with_reducible refine below_ext_trans ?_ ?_ _); rotate_left; focus (((try dsimp only); repeat (first | omega | simp only [World.size_alloc, World.size_setCell, World.size_drew] | (with_reducible refine le_ext_of ?_) | (with_reducible refine le_ext_add ?_))); done)) | ((with_reducible refine Below.alloc ?_ ?_ _); rotate_left; focus (((try dsimp only); repeat (first | omega | simp only [World.size_alloc, World.size_setCell, World.size_drew] | (with_reducible refine le_ext_of ?_) | (with_reducible refine le_ext_add ?_))); done)) | ((with_reducible refine Below.setCell ?_ ?_ _); rotate_left; focus (((try dsimp only); repeat (first | omega | simp only [World.size_alloc, World.size_setCell, World.size_drew] | (with_reducible refine le_ext_of ?_) | (with_reducible refine le_ext_add ?_))); done)) | (with_reducible refine Below.drew ?_)))))⟩
  · obtain rfl : nt = 1 := HNT.out.symm
    have HC1 := Lib.hid hc1
    have HC2 := Lib.hid hc2'
    have HD := Lib.hid hd
    clear hc1 hc2' hd
    obtain ⟨bt, ot, rfl, hbt, ct0⟩ := HIT5.out 0 _ rfl
    rw [Nat.add_zero] at ct0
    have HMEM := Lib.hid (show (k0 : Int) ∈ L by
      have h1 : (k0 : Int) ∈ hangsTo b st ⟨s.st, s.co, x, x⟩ b.bs.length := by rw [HT.out]; simp
      obtain ⟨j, j1, j2, j3⟩ := mem_hangsTo.1 h1
      rw [← HL.out]
      exact mem_hangsTo.2 ⟨j, j1, hangs_wide st (s := s) (t := ⟨s.st, s.co, x, x⟩) rfl HX01.out.1 HX01.out.2 rfl rfl j2, j3⟩)
    obtain ⟨lo, hi, K1, K2, hbk, hlx, hxh, hv1, hv2, hK1, hK2, hKK⟩ := known_ends HV.out HKG.out HX01.out.1 HX01.out.2 HST.out hk0 HC1.out HC2.out HD.out
    rw [← EX2.out] at hv1 hv2 hK1 hK2
    have HV1 := Lib.hid hv1
    have HV2 := Lib.hid hv2
    have HK1 := Lib.hid hK1
    have HK2 := Lib.hid hK2
    have HKK := Lib.hid hKK
    obtain ⟨bb1, o1, hpb, hb1, qlo, qhi⟩ := HB5.out.bs k0 _ hbk
    dsimp only at hpb qlo qhi
    subst hpb
    have HA5 := Lib.hid hb1
    have HLO5 := Lib.hid qlo
    have HHI5 := Lib.hid qhi
    have h4b := h4
    clear hv1 hv2 hK1 hK2 hKK hbk qlo qhi hb1
    go_upto_region 14 with (go_at_call 19; refine (Rises_ext pl cl L nw _ _ HLN.out (HIL.out.below (by (repeat (first | (with_reducible exact Below.refl _ _) | (with_reducible assumption) | ((with_reducible refine below_ext_trans ?_ ?_ _); rotate_left; focus (((try dsimp only); repeat (first | omega | simp only [World.size_alloc, World.size_setCell, World.size_drew] | (with_reducible refine le_ext_of ?_) | (with_reducible refine le_ext_add ?_))); done)) | ((with_reducible refine Below.alloc ?_ ?_ _); rotate_left; focus (((try dsimp only); repeat (first | omega | simp only [World.size_alloc, World.size_setCell, World.size_drew] | (with_reducible refine le_ext_of ?_) | (with_reducible refine le_ext_add ?_))); done)) | ((with_reducible refine Below.setCell ?_ ?_ _); rotate_left; focus (((try dsimp only); repeat (first | omega | simp only [World.size_alloc, World.size_setCell, World.size_drew] | (with_reducible refine le_ext_of ?_) | (with_reducible refine le_ext_add ?_))); done)) | (with_reducible refine Below.drew ?_))))) HLL.out (by omega) (by omega) HRI.out).mono ?_; rintro e w1 ⟨rfl, y6, rfl⟩)
    go_upto_region 16 with (go_at_call 20; refine (Place_eq pl cl L nw k0 _ (HIL.out.below (by (repeat (first | (with_reducible exact Below.refl _ _) | (with_reducible assumption) | ((with_reducible refine below_ext_trans ?_ ?_ _); rotate_left; focus (((try dsimp only); repeat (first | omega | simp only [World.size_alloc, World.size_setCell, World.size_drew] | (with_reducible refine le_ext_of ?_) | (with_reducible refine le_ext_add ?_))); done)) | ((with_reducible refine Below.alloc ?_ ?_ _); rotate_left; focus (((try dsimp only); repeat (first | omega | simp only [World.size_alloc, World.size_setCell, World.size_drew] | (with_reducible refine le_ext_of ?_) | (with_reducible refine le_ext_add ?_))); done)) | ((with_reducible refine Below.setCell ?_ ?_ _); rotate_left; focus (((try dsimp only); repeat (first | omega | simp only [World.size_alloc, World.size_setCell, World.size_drew] | (with_reducible refine le_ext_of ?_) | (with_reducible refine le_ext_add ?_))); done)) | (with_reducible refine Below.drew ?_))))) HLL.out HMEM.out HLN.out).mono ?_; rintro e w1 ⟨kk, hkk, rfl, rfl⟩; clear hkk; have hkk0 : (0 : Int) ≤ (kk : Int) := by omega)
    clear d0 d1 d2 d3 kl ct0 hbt
    have hB6 : Below W5.heap.size W5 (ext W5 y6) := by (repeat (first | (with_reducible exact Below.refl _ _) | (with_reducible assumption) | ((with_reducible refine below_ext_trans ?_ ?_ _); rotate_left; focus (((try dsimp only); repeat (first | omega | simp only [World.size_alloc, World.size_setCell, World.size_drew] | (with_reducible refine le_ext_of ?_) | (with_reducible refine le_ext_add ?_))); done)) | ((with_reducible refine Below.alloc ?_ ?_ _); rotate_left; focus (((try dsimp only); repeat (first | omega | simp only [World.size_alloc, World.size_setCell, World.size_drew] | (with_reducible refine le_ext_of ?_) | (with_reducible refine le_ext_add ?_))); done)) | ((with_reducible refine Below.setCell ?_ ?_ _); rotate_left; focus (((try dsimp only); repeat (first | omega | simp only [World.size_alloc, World.size_setCell, World.size_drew] | (with_reducible refine le_ext_of ?_) | (with_reducible refine le_ext_add ?_))); done)) | (with_reducible refine Below.drew ?_)))
    generalize ext W5 y6 = W6 at *
    have kb6 := KB5.out.bel hB6
    have kx6 := KX5.out.bel hB6
    have HB6 := Lib.hid (HB5.out.below hB6)
    have HX6 := Lib.hid (HX5.out.below hB6)
    have HN6 := Lib.hid (HN5.out.below hB6)
    have HW6 := Lib.hid (HW5.out.trans (hB6.mono HW5.out.size))
    have HA6 := Lib.hid (Nat.lt_of_lt_of_le HA5.out hB6.size)
    have HC6 := Lib.hid (fun y => (show ∀ y, W6.cell? ⟨bb1, y, none⟩ = W5.cell? ⟨bb1, y, none⟩ from fun y => hB6.cell (p := ⟨bb1, y, none⟩) HA5.out) y)
    have HLO6 := Lib.hid ((HC6.out _).trans HLO5.out)
    have HHI6 := Lib.hid ((HC6.out _).trans HHI5.out)
    have KB6 := Lib.hid kb6
    have KX6 := Lib.hid kx6
    clear hB6 kb6 kx6 KB5 KX5 HB5 HX5 HN5 HW5 HA5 HC6 HLO5 HHI5
    refine wp_region_flow_back 15 177 (endF (.agg #[.int .i64 b.n, .slice p1 b.bs.length c1, .slice p2 b.os.length c2, .slice p3 b.ss.length c3]) (.slice (some ⟨bb1, o1, none⟩) b.bs.length cb) b.n b.bs.length b.os.length b.ss.length k0 k w.heap.size 0 bb1 (o1 + k0 * 2) lo K1 (knownBk X k0 lo)) (by kernel_rfl) (by kernel_rfl) rfl (endF_kept _ _ _ _ _ _ _ _ _ _ _ _ _ _ _) ?_ ?_
    · intro i hin a W h1 h2 h3 h4 h5 KK hKK
      rcases (show i = 0 ∨ i = 1 ∨ i = 2 ∨ i = 3 ∨ i = 4 ∨ i = 5 ∨ i = 6 ∨ i = 7 ∨ i = 8 ∨ i = 9 ∨ i = 10 ∨ i = 11 ∨ i = 12 ∨ i = 13 ∨ i = 14 by omega) with hi0 | hi0 | hi0 | hi0 | hi0 | hi0 | hi0 | hi0 | hi0 | hi0 | hi0 | hi0 | hi0 | hi0 | hi0
      · subst hi0
        exact st_val rfl (wanted_none rfl) (run_book _ rfl (h3 7 (by kernel_rfl)) ((h5.block _ KX6.out.lt).trans KX6.out)) (hKK _ _ rfl (Below.refl _ _))
      · subst hi0
        exact st_move rfl rfl (wanted_none rfl) (h3 14 (by kernel_rfl)) (hKK _ _ rfl (Below.refl _ _))
      · subst hi0
        exact st_val rfl (wanted_none rfl) (run_bounds _ rfl (h3 2 (by kernel_rfl)) (Nat.lt_of_lt_of_le KB6.out.lt h5.size)) (hKK _ _ rfl (Below.refl _ _))
      · subst hi0
        have kb := (h5.block _ KB6.out.lt).trans KB6.out
        exact st_val rfl (wanted_none rfl) (run_slice _ rfl (h4 2 (by kernel_rfl)) (Blk.cell kb 1)) (hKK _ _ rfl (Below.refl _ _))
      · subst hi0
        exact st_move rfl rfl (wanted_none rfl) (h3 14 (by kernel_rfl)) (hKK _ _ rfl (Below.refl _ _))
      · subst hi0
        exact st_val rfl (wanted_none rfl) (run_at _ rfl (h4 3 (by kernel_rfl)) (h4 4 (by kernel_rfl)) hk0 (Nat.lt_of_lt_of_le HA6.out h5.size)) (hKK _ _ rfl (Below.refl _ _))
      · subst hi0
        exact st_val rfl (wanted_none rfl) (run_low _ rfl (h4 5 (by kernel_rfl)) (Nat.lt_of_lt_of_le HA6.out h5.size)) (hKK _ _ rfl (Below.refl _ _))
      · subst hi0
        exact st_val rfl (wanted_none rfl) (run_num _ rfl (h4 6 (by kernel_rfl)) ((h5.cell (p := ⟨bb1, o1 + k0 * 2, none⟩) HA6.out).trans HLO6.out)) (hKK _ _ rfl (Below.refl _ _))
      · subst hi0
        refine st_call rfl rfl (wanted_none rfl) (args3' (h4 0 (by kernel_rfl)) (h4 1 (by kernel_rfl)) (h4 7 (by kernel_rfl))) (run_enter Tryd.func30 (by kernel_rfl) (by kernel_rfl) _) ?_
        refine (known_len p1 p2 p3 c1 c2 c3 _ _ _ _ X k0 lo _ (HX6.out.below h5) (by rw [E1.out]; exact hk0) (by rw [E1.out]; exact h4b) E0.out E1.out E2.out E3.out).mono ?_
        rintro e w1 ⟨q1, d1', q2, d2', q3, d3', rfl, hbk, -, y9, rfl⟩
        exact ⟨_, rfl, hKK _ _ ⟨q1, d1', q2, d2', q3, d3', rfl, hbk⟩ (below_ext _ _)⟩
      · subst hi0
        exact st_move rfl rfl (wanted_none rfl) (h3 5 (by kernel_rfl)) (hKK _ _ rfl (Below.refl _ _))
      · subst hi0
        obtain ⟨q1, d1', q2, d2', q3, d3', hu, hbk⟩ := h4 8 (by kernel_rfl)
        refine st_call rfl rfl (wanted_none rfl) (args2 hu (h4 9 (by kernel_rfl))) (run_enter Tryd.func22 (by kernel_rfl) (by kernel_rfl) _) ?_
        refine (Fair_len q1 q2 q3 d1' d2' d3' _ _ _ _ (knownBk X k0 lo) k st ⟨s.st, s.co, x, x⟩ K1 _ hbk HV1.out (HN6.out.below h5) HXG.out HST.out HK1.out E0.out (by simp [knownBk, E1.out]) E2.out E3.out).mono ?_
        rintro e w1 ⟨rfl, y9, rfl⟩
        exact ⟨_, rfl, hKK _ _ rfl (below_ext _ _)⟩
      · subst hi0
        exact st_move rfl rfl (wanted_none rfl) (h4 10 (by kernel_rfl)) (hKK _ _ rfl (Below.refl _ _))
      · subst hi0
        exact st_val rfl (wanted_none rfl) (run_part _ rfl (h4 11 (by kernel_rfl)) rfl) (hKK _ _ rfl (Below.refl _ _))
      · subst hi0
        exact st_val rfl (wanted_none rfl) (run_part _ rfl (h4 11 (by kernel_rfl)) rfl) (hKK _ _ rfl (Below.refl _ _))
      · subst hi0
        exact st_val rfl (wanted_none rfl) (run_to _ rfl (h4 12 (by kernel_rfl))) (hKK _ _ rfl (Below.refl _ _))
    intro vs W7 hvs hB7
    have v0 : vs 0 = _ := hvs 0 (by omega)
    have v1 : vs 1 = _ := hvs 1 (by omega)
    have v2 : vs 2 = _ := hvs 2 (by omega)
    have v3 : vs 3 = _ := hvs 3 (by omega)
    have v4 : vs 4 = _ := hvs 4 (by omega)
    have v5 : vs 5 = _ := hvs 5 (by omega)
    have v6 : vs 6 = _ := hvs 6 (by omega)
    have v7 : vs 7 = _ := hvs 7 (by omega)
    obtain ⟨r1, s1, r2, s2, r3, s3, v8, -⟩ := hvs 8 (by omega)
    have v9 : vs 9 = _ := hvs 9 (by omega)
    have v10 : vs 10 = _ := hvs 10 (by omega)
    have v11 : vs 11 = _ := hvs 11 (by omega)
    have v12 : vs 12 = _ := hvs 12 (by omega)
    have v13 : vs 13 = _ := hvs 13 (by omega)
    have v14 : vs 14 = _ := hvs 14 (by omega)
    simp only [putAll, v0, v1, v2, v3, v4, v5, v6, v7, v8, v9, v10, v11, v12, v13, v14]
    clear v0 v1 v2 v3 v4 v5 v6 v7 v8 v9 v10 v11 v12 v13 v14 hvs
    simp only [dstOf, Act.put, List.getElem?_toArray, List.getElem?_cons_zero, List.getElem?_cons_succ, Option.bind_some, Option.getD_some, List.setIfInBounds_toArray, List.set_cons_succ, List.set_cons_zero, List.drop_succ_cons, List.drop_zero]
    have kb7 := KB6.out.bel hB7
    have kx7 := KX6.out.bel hB7
    have HB7 := Lib.hid (HB6.out.below hB7)
    have HX7 := Lib.hid (HX6.out.below hB7)
    have HN7 := Lib.hid (HN6.out.below hB7)
    have HW7 := Lib.hid (HW6.out.trans (hB7.mono HW6.out.size))
    have HA7 := Lib.hid (Nat.lt_of_lt_of_le HA6.out hB7.size)
    have HC7 := Lib.hid (fun y => (show ∀ y, W7.cell? ⟨bb1, y, none⟩ = W6.cell? ⟨bb1, y, none⟩ from fun y => hB7.cell (p := ⟨bb1, y, none⟩) HA6.out) y)
    have HLO7 := Lib.hid ((HC7.out _).trans HLO6.out)
    have HHI7 := Lib.hid ((HC7.out _).trans HHI6.out)
    have KB7 := Lib.hid kb7
    have KX7 := Lib.hid kx7
    clear hB7 kb7 kx7 KB6 KX6 HB6 HX6 HN6 HW6 HA6 HC7 HLO6 HHI6

    go_upto_region 17 with fail
    refine wp_region_flow_back 15 177 (endF (.agg #[.int .i64 b.n, .slice p1 b.bs.length c1, .slice p2 b.os.length c2, .slice p3 b.ss.length c3]) (.slice (some ⟨bb1, o1, none⟩) b.bs.length cb) b.n b.bs.length b.os.length b.ss.length k0 k w.heap.size 1 bb1 (o1 + k0 * 2) hi K2 (knownBk X k0 hi)) (by kernel_rfl) (by kernel_rfl) rfl (endF_kept _ _ _ _ _ _ _ _ _ _ _ _ _ _ _) ?_ ?_
    · intro i hin a W h1 h2 h3 h4 h5 KK hKK
      rcases (show i = 0 ∨ i = 1 ∨ i = 2 ∨ i = 3 ∨ i = 4 ∨ i = 5 ∨ i = 6 ∨ i = 7 ∨ i = 8 ∨ i = 9 ∨ i = 10 ∨ i = 11 ∨ i = 12 ∨ i = 13 ∨ i = 14 by omega) with hi0 | hi0 | hi0 | hi0 | hi0 | hi0 | hi0 | hi0 | hi0 | hi0 | hi0 | hi0 | hi0 | hi0 | hi0
      · subst hi0
        exact st_val rfl (wanted_none rfl) (run_book _ rfl (h3 7 (by kernel_rfl)) ((h5.block _ KX7.out.lt).trans KX7.out)) (hKK _ _ rfl (Below.refl _ _))
      · subst hi0
        exact st_move rfl rfl (wanted_none rfl) (h3 14 (by kernel_rfl)) (hKK _ _ rfl (Below.refl _ _))
      · subst hi0
        exact st_val rfl (wanted_none rfl) (run_bounds _ rfl (h3 2 (by kernel_rfl)) (Nat.lt_of_lt_of_le KB7.out.lt h5.size)) (hKK _ _ rfl (Below.refl _ _))
      · subst hi0
        have kb := (h5.block _ KB7.out.lt).trans KB7.out
        exact st_val rfl (wanted_none rfl) (run_slice _ rfl (h4 2 (by kernel_rfl)) (Blk.cell kb 1)) (hKK _ _ rfl (Below.refl _ _))
      · subst hi0
        exact st_move rfl rfl (wanted_none rfl) (h3 14 (by kernel_rfl)) (hKK _ _ rfl (Below.refl _ _))
      · subst hi0
        exact st_val rfl (wanted_none rfl) (run_at _ rfl (h4 3 (by kernel_rfl)) (h4 4 (by kernel_rfl)) hk0 (Nat.lt_of_lt_of_le HA7.out h5.size)) (hKK _ _ rfl (Below.refl _ _))
      · subst hi0
        exact st_val rfl (wanted_none rfl) (run_high _ rfl (h4 5 (by kernel_rfl)) (Nat.lt_of_lt_of_le HA7.out h5.size)) (hKK _ _ rfl (Below.refl _ _))
      · subst hi0
        exact st_val rfl (wanted_none rfl) (run_num _ rfl (h4 6 (by kernel_rfl)) ((h5.cell (p := ⟨bb1, o1 + k0 * 2 + 1, none⟩) HA7.out).trans HHI7.out)) (hKK _ _ rfl (Below.refl _ _))
      · subst hi0
        refine st_call rfl rfl (wanted_none rfl) (args3' (h4 0 (by kernel_rfl)) (h4 1 (by kernel_rfl)) (h4 7 (by kernel_rfl))) (run_enter Tryd.func30 (by kernel_rfl) (by kernel_rfl) _) ?_
        refine (known_len p1 p2 p3 c1 c2 c3 _ _ _ _ X k0 hi _ (HX7.out.below h5) (by rw [E1.out]; exact hk0) (by rw [E1.out]; exact h4b) E0.out E1.out E2.out E3.out).mono ?_
        rintro e w1 ⟨q1, d1', q2, d2', q3, d3', rfl, hbk, -, y9, rfl⟩
        exact ⟨_, rfl, hKK _ _ ⟨q1, d1', q2, d2', q3, d3', rfl, hbk⟩ (below_ext _ _)⟩
      · subst hi0
        exact st_move rfl rfl (wanted_none rfl) (h3 5 (by kernel_rfl)) (hKK _ _ rfl (Below.refl _ _))
      · subst hi0
        obtain ⟨q1, d1', q2, d2', q3, d3', hu, hbk⟩ := h4 8 (by kernel_rfl)
        refine st_call rfl rfl (wanted_none rfl) (args2 hu (h4 9 (by kernel_rfl))) (run_enter Tryd.func22 (by kernel_rfl) (by kernel_rfl) _) ?_
        refine (Fair_len q1 q2 q3 d1' d2' d3' _ _ _ _ (knownBk X k0 hi) k st ⟨s.st, s.co, x, x⟩ K2 _ hbk HV2.out (HN7.out.below h5) HXG.out HST.out HK2.out E0.out (by simp [knownBk, E1.out]) E2.out E3.out).mono ?_
        rintro e w1 ⟨rfl, y9, rfl⟩
        exact ⟨_, rfl, hKK _ _ rfl (below_ext _ _)⟩
      · subst hi0
        exact st_move rfl rfl (wanted_none rfl) (h4 10 (by kernel_rfl)) (hKK _ _ rfl (Below.refl _ _))
      · subst hi0
        exact st_val rfl (wanted_none rfl) (run_part _ rfl (h4 11 (by kernel_rfl)) rfl) (hKK _ _ rfl (Below.refl _ _))
      · subst hi0
        exact st_val rfl (wanted_none rfl) (run_part _ rfl (h4 11 (by kernel_rfl)) rfl) (hKK _ _ rfl (Below.refl _ _))
      · subst hi0
        exact st_val rfl (wanted_none rfl) (run_to _ rfl (h4 12 (by kernel_rfl))) (hKK _ _ rfl (Below.refl _ _))
    intro vs W8 hvs hB8
    have v0 : vs 0 = _ := hvs 0 (by omega)
    have v1 : vs 1 = _ := hvs 1 (by omega)
    have v2 : vs 2 = _ := hvs 2 (by omega)
    have v3 : vs 3 = _ := hvs 3 (by omega)
    have v4 : vs 4 = _ := hvs 4 (by omega)
    have v5 : vs 5 = _ := hvs 5 (by omega)
    have v6 : vs 6 = _ := hvs 6 (by omega)
    have v7 : vs 7 = _ := hvs 7 (by omega)
    obtain ⟨r1, s1, r2, s2, r3, s3, v8, -⟩ := hvs 8 (by omega)
    have v9 : vs 9 = _ := hvs 9 (by omega)
    have v10 : vs 10 = _ := hvs 10 (by omega)
    have v11 : vs 11 = _ := hvs 11 (by omega)
    have v12 : vs 12 = _ := hvs 12 (by omega)
    have v13 : vs 13 = _ := hvs 13 (by omega)
    have v14 : vs 14 = _ := hvs 14 (by omega)
    simp only [putAll, v0, v1, v2, v3, v4, v5, v6, v7, v8, v9, v10, v11, v12, v13, v14]
    clear v0 v1 v2 v3 v4 v5 v6 v7 v8 v9 v10 v11 v12 v13 v14 hvs
    simp only [dstOf, Act.put, List.getElem?_toArray, List.getElem?_cons_zero, List.getElem?_cons_succ, Option.bind_some, Option.getD_some, List.setIfInBounds_toArray, List.set_cons_succ, List.set_cons_zero, List.drop_succ_cons, List.drop_zero]
    have kb8 := KB7.out.bel hB8
    have kx8 := KX7.out.bel hB8
    have HB8 := Lib.hid (HB7.out.below hB8)
    have HX8 := Lib.hid (HX7.out.below hB8)
    have HN8 := Lib.hid (HN7.out.below hB8)
    have HW8 := Lib.hid (HW7.out.trans (hB8.mono HW7.out.size))
    have HA8 := Lib.hid (Nat.lt_of_lt_of_le HA7.out hB8.size)
    have HC8 := Lib.hid (fun y => (show ∀ y, W8.cell? ⟨bb1, y, none⟩ = W7.cell? ⟨bb1, y, none⟩ from fun y => hB8.cell (p := ⟨bb1, y, none⟩) HA7.out) y)
    have HLO8 := Lib.hid ((HC8.out _).trans HLO7.out)
    have HHI8 := Lib.hid ((HC8.out _).trans HHI7.out)
    have KB8 := Lib.hid kb8
    have KX8 := Lib.hid kx8
    clear hB8 kb8 kx8 KB7 KX7 HB7 HX7 HN7 HW7 HA7 HC8 HLO7 HHI7

    have d0 := KB8.out.cell 0
    have d1 := KB8.out.cell 1
    have d2 := KB8.out.cell 2
    have d3 := KB8.out.cell 3
    simp only [List.size_toArray, List.length_cons, List.length_nil, Nat.reduceAdd, Nat.reduceLT, getElem?_pos, List.getElem_toArray, List.getElem_cons_zero, List.getElem_cons_succ] at d0 d1 d2 d3
    have kl := KB8.out.lt
    have ha8 := HA8.out
    have c8 := HLO8.out
    have c9 := HHI8.out
    have i0 : (0 : Int) ≤ (k0 : Int) := by omega
    have i1 : (k0 : Int) < (b.bs.length : Int) := by omega
    rcases HKK.out with ⟨rfl, rfl⟩ | ⟨rfl, rfl⟩
    all_goals
      go_wp2_with (go_at_call 13; refine (shot_any _ (HN8.out.below (by (repeat (first | (with_reducible exact Below.refl _ _) | (with_reducible assumption) | ((with_reducible refine below_ext_trans ?_ ?_ _); rotate_left; focus (((try dsimp only); repeat (first | omega | simp only [World.size_alloc, World.size_setCell, World.size_drew] | (with_reducible refine le_ext_of ?_) | (with_reducible refine le_ext_add ?_))); done)) | ((with_reducible refine Below.alloc ?_ ?_ _); rotate_left; focus (((try dsimp only); repeat (first | omega | simp only [World.size_alloc, World.size_setCell, World.size_drew] | (with_reducible refine le_ext_of ?_) | (with_reducible refine le_ext_add ?_))); done)) | ((with_reducible refine Below.setCell ?_ ?_ _); rotate_left; focus (((try dsimp only); repeat (first | omega | simp only [World.size_alloc, World.size_setCell, World.size_drew] | (with_reducible refine le_ext_of ?_) | (with_reducible refine le_ext_add ?_))); done)) | (with_reducible refine Below.drew ?_)))))).mono ?_; rintro e w1 ⟨rfl, y7, rfl⟩)
      go_ret
      exact ⟨rfl, by have hB := HW8.out; (exact ext_of (by (repeat (first | (with_reducible exact Below.refl _ _) | (with_reducible assumption) | ((with_reducible refine below_ext_trans ?_ ?_ _); rotate_left; focus (((try dsimp only); repeat (first | omega | simp only [World.size_alloc, World.size_setCell, World.size_drew] | (with_reducible refine le_ext_of ?_) | (with_reducible refine le_ext_add ?_))); done)) | ((with_reducible refine Below.alloc ?_ ?_ _); rotate_left; focus (((try dsimp only); repeat (first | omega | simp only [World.size_alloc, World.size_setCell, World.size_drew] | (with_reducible refine le_ext_of ?_) | (with_reducible refine le_ext_add ?_))); done)) | ((with_reducible refine Below.setCell ?_ ?_ _); rotate_left; focus (((try dsimp only); repeat (first | omega | simp only [World.size_alloc, World.size_setCell, World.size_drew] | (with_reducible refine le_ext_of ?_) | (with_reducible refine le_ext_add ?_))); done)) | (with_reducible refine Below.drew ?_)))))⟩

theorem TurnHangs_any (h : Hd) (b : Bk) (n0 n1 : Int) (w : World) (hb : BkAt w h b) (hn : NB w) (hcap : b.bs.length ≤ h.cb) :
    Calls Tryd.prog 5 #[.agg #[.int .i64 b.n, .slice h.pb b.bs.length h.cb, .slice h.po b.os.length h.co, .slice h.ps b.ss.length h.cs], .agg #[.int .i64 n0, .int .i64 n1]] w fun e w' => e = .returned (.bool true) ∧ ∃ x, w' = ext w x := by
  cases hv : bookB b with
  | false => exact TurnHangs_bad h b n0 n1 w hb hv hn
  | true =>
    by_cases hs : b.ss.length = 0
    · exact TurnHangs_few h b n0 n1 w hb hv hn hs
    · have hi0 := Int.emod_nonneg n0 (show (b.ss.length : Int) ≠ 0 by omega)
      have hi1 := Int.emod_lt_of_pos n0 (show 0 < (b.ss.length : Int) by omega)
      obtain ⟨k, ek⟩ := Int.eq_ofNat_of_zero_le hi0
      obtain ⟨s, hk⟩ := get_some b.ss k (by omega)
      obtain ⟨⟨g0, -⟩, -, ms⟩ := bookB_shot hv hk
      unfold Mom at ms
      obtain ⟨st, est⟩ := Int.eq_ofNat_of_zero_le g0
      have hx := someI_bd (n := n1) (show s.lo ≤ s.hi by omega)
      have h4 := (bookB_bounds hv).1
      have hc := hangs_known hv st (s := ⟨s.st, s.co, someI s.lo s.hi n1, someI s.lo s.hi n1⟩) (x := someI s.lo s.hi n1) rfl rfl (by omega)
      have eK : kindOf (fun t => ownf b.os st t == s.co) (seg (cnt (lateL b.bs) (someI s.lo s.hi n1)) (cnt (soonL b.bs) (someI s.lo s.hi n1))) = kindOf (okB b st ⟨s.st, s.co, someI s.lo s.hi n1, someI s.lo s.hi n1⟩) (seg (cnt (b.bs.map Prod.snd) (someI s.lo s.hi n1)) (cnt (b.bs.map Prod.fst) (someI s.lo s.hi n1))) := by
        rw [late_tl, soon_tl, cnt_tl _ (by simpa using h4) _ (by omega), cnt_tl _ (by simpa using h4) _ (by omega)]
        rfl
      refine TurnHangs_yes h b n0 n1 w hb hv hn hcap k st _ _ s _ _ _ _ hk est ek rfl hx.1 hx.2 rfl rfl rfl rfl eK ?_
      rcases hc with ⟨h1, h2⟩ | ⟨k0, h1, h2, h3, h5, h6, h7⟩
      · exact .inl ⟨h1, h2⟩
      · exact .inr ⟨k0, h1, h2, h3, h5, h6, h7⟩
end Go.Proofs.YtmnbfjphndgmnaaDoor

