/- TurnSure's walk. -/
import Derived.Test.YtmnbfjphndgmnaaDoorQYu
import Derived.Test.YtmnbfjphndgmnaaDoorQYa
import Derived.Test.YtmnbfjphndgmnaaDoorQVe
import Derived.Test.YtmnbfjphndgmnaaDoorQWe
import Derived.Test.YtmnbfjphndgmnaaDoorQYp
import Derived.Test.YtmnbfjphndgmnaaDoorQFl
set_option linter.unusedSimpArgs false
set_option linter.unusedVariables false
namespace Go.Proofs.YtmnbfjphndgmnaaDoor
open Go Go.RowKit

theorem Sure_eq (h : Hd) (b : Bk) (st : Nat) (co : Int) (L : List (Int × Int)) (n : Nat) (w : World) (hb : BkAt w h b) (hv : bookB b = true) (hn : NB w) (hst : st < b.os.length) (hc0 : 0 ≤ co) (hc1 : co < b.n) (hL : runsTo (onlyAt b st co) 1440 = L) (hl : L.length = n) :
    Calls Tryd.prog 34 #[.agg #[.int .i64 b.n, .slice h.pb b.bs.length h.cb, .slice h.po b.os.length h.co, .slice h.ps b.ss.length h.cs], .int .i64 st, .int .i64 co] w fun e w' => ∃ p c, e = .returned (.tuple #[.slice p n c, .int .i64 0]) ∧ SpansAt w' p L ∧ ∃ x, w' = ext w x := by
  subst hl hL; exact Sure_yes h b st co w hb hv hn hst hc0 hc1
theorem Holds_no1 (a b n : Int) (w : World) (h1 : n < a) : Calls Tryd.prog 18 #[.agg #[.int .i64 a, .int .i64 b], .int .i64 n] w fun e w' => e = .returned (.bool false) ∧ ∃ x, w' = ext w x := by
  have h1' : decide (a ≤ n) = false := by simp; omega
  clear h1
  go_enter Tryd.func18, Tryd.ntmps18
  go_wp2
  go_ret
  exact ⟨rfl, by (exact ext_of (by (repeat (first | (with_reducible exact Below.refl _ _) | (with_reducible assumption) | ((with_reducible refine below_ext_trans ?_ ?_ _); rotate_left; focus (((try dsimp only); repeat (first | omega | simp only [World.size_alloc, World.size_setCell, World.size_drew] | (with_reducible refine le_ext_of ?_) | (with_reducible refine le_ext_add ?_))); done)) | ((with_reducible refine Below.alloc ?_ ?_ _); rotate_left; focus (((try dsimp only); repeat (first | omega | simp only [World.size_alloc, World.size_setCell, World.size_drew] | (with_reducible refine le_ext_of ?_) | (with_reducible refine le_ext_add ?_))); done)) | ((with_reducible refine Below.setCell ?_ ?_ _); rotate_left; focus (((try dsimp only); repeat (first | omega | simp only [World.size_alloc, World.size_setCell, World.size_drew] | (with_reducible refine le_ext_of ?_) | (with_reducible refine le_ext_add ?_))); done)) | (with_reducible refine Below.drew ?_)))))⟩
theorem Holds_no2 (a b n : Int) (w : World) (h0 : a ≤ n) (h1 : b < n) : Calls Tryd.prog 18 #[.agg #[.int .i64 a, .int .i64 b], .int .i64 n] w fun e w' => e = .returned (.bool false) ∧ ∃ x, w' = ext w x := by
  have h1' : decide (n ≤ b) = false := by simp; omega
  clear h1
  go_enter Tryd.func18, Tryd.ntmps18
  go_wp2
  go_ret
  exact ⟨rfl, by (exact ext_of (by (repeat (first | (with_reducible exact Below.refl _ _) | (with_reducible assumption) | ((with_reducible refine below_ext_trans ?_ ?_ _); rotate_left; focus (((try dsimp only); repeat (first | omega | simp only [World.size_alloc, World.size_setCell, World.size_drew] | (with_reducible refine le_ext_of ?_) | (with_reducible refine le_ext_add ?_))); done)) | ((with_reducible refine Below.alloc ?_ ?_ _); rotate_left; focus (((try dsimp only); repeat (first | omega | simp only [World.size_alloc, World.size_setCell, World.size_drew] | (with_reducible refine le_ext_of ?_) | (with_reducible refine le_ext_add ?_))); done)) | ((with_reducible refine Below.setCell ?_ ?_ _); rotate_left; focus (((try dsimp only); repeat (first | omega | simp only [World.size_alloc, World.size_setCell, World.size_drew] | (with_reducible refine le_ext_of ?_) | (with_reducible refine le_ext_add ?_))); done)) | (with_reducible refine Below.drew ?_)))))⟩
theorem Holds_any (a b n : Int) (w : World) : Calls Tryd.prog 18 #[.agg #[.int .i64 a, .int .i64 b], .int .i64 n] w fun e w' => e = .returned (.bool (decide (a ≤ n) && decide (n ≤ b))) ∧ ∃ x, w' = ext w x := by
  by_cases h1 : a ≤ n
  · by_cases h2 : n ≤ b
    · exact (Holds_yes a b n w h1 h2).mono fun e w' ⟨he, hx⟩ => ⟨by rw [he]; simp [h1, h2], hx⟩
    · exact (Holds_no2 a b n w h1 (by omega)).mono fun e w' ⟨he, hx⟩ => ⟨by rw [he]; simp [h2], hx⟩
  · exact (Holds_no1 a b n w (by omega)).mono fun e w' ⟨he, hx⟩ => ⟨by rw [he]; simp [h1], hx⟩
theorem Same_eq (p q : Option Addr) (c d : Nat) (l m : List Int) (n k : Nat) (r : Bool) (w : World) (hl : IntsAt w p l) (hm : IntsAt w q m) (hb : (l.length : Int) ≤ 1000) (hb2 : (m.length : Int) ≤ 1000) (hn : l.length = n) (hk : m.length = k) (hr : decide (l = m) = r) :
    Calls Tryd.prog 36 #[.slice p n c, .slice q k d] w fun e w' => e = .returned (.bool r) ∧ ∃ x, w' = ext w x := by
  subst hn hk hr; exact Same_any p q c d l m w hl hm hb hb2
theorem ints_one (W : World) (x : Int) (t : TypeId) : IntsAt (W.alloc (.cells #[.int .i64 x] t)) (some ⟨W.heap.size, 0, none⟩) [x] := fun i y hy => by
  cases i with
  | zero =>
    simp at hy
    subst hy
    exact ⟨W.heap.size, 0, rfl, by simp, by rw [World.cell?_alloc_new]; rfl⟩
  | succ i => simp at hy
/-- Of each minute it is told whether nobody else can have the turn. -/
theorem at_minute {b : Bk} (hv : bookB b = true) {st : Nat} (co : Int) (hst : st < b.os.length) {t : Int} (h0 : 0 ≤ t) (h1 : t < 1440) :
    ∃ (lo hi n : Nat) (L : List Int), cnt (b.bs.map Prod.snd) t = lo ∧ cnt (b.bs.map Prod.fst) t = hi ∧ ownersL b st lo hi = L ∧ L.length = n ∧ (L.length : Int) ≤ 1000 ∧ decide (L = [co]) = onlyAt b st co t.toNat := by
  obtain ⟨h4, hs, -⟩ := bookB_bounds hv
  have hle := cnt_late_soon b.bs h4 hs t t (by omega)
  have h5 := cnt_le (b.bs.map Prod.fst) t
  have h6 : (b.bs.map Prod.fst).length = b.bs.length := by simp
  rw [late_tl, soon_tl, cnt_tl _ (by simpa using h4) _ h1, cnt_tl _ (by simpa using h4) _ h1] at hle
  refine ⟨_, _, _, _, rfl, rfl, rfl, rfl, ?_, ?_⟩
  · have := ownersL_len b st (cnt (b.bs.map Prod.snd) t) (cnt (b.bs.map Prod.fst) t)
    omega
  · rw [only_owner hle]
    unfold onlyAt
    have e : ((t.toNat : Nat) : Int) = t := by omega
    rw [e, late_tl, soon_tl, cnt_tl _ (by simpa using h4) _ h1, cnt_tl _ (by simpa using h4) _ h1]

theorem args3 {a : Act} {s t u : Nat} {x y z : Value} (h1 : a.tmps.getD s undef = x) (h2 : a.tmps.getD t undef = y) (h3 : a.tmps.getD u undef = z) : (#[Operand.tmp s, Operand.tmp t, Operand.tmp u]).map a.eval = #[x, y, z] := by
  simp only [List.map_toArray, List.map_cons, List.map_nil, Act.eval, h1, h2, h3]
theorem run_load_bk {o : Oper} {w : World} {g s : Nat} {x y z u : Value} (ρ : Operand → Value) (hop : o.op = .load 26 (.tmp s)) (hs : ρ (.tmp s) = .pointer (some ⟨g, 0, none⟩)) (k : Blk w g 26 #[x, y, z, u]) :
    (execOp ρ o).run Tryd.prog w = .ok (.value (.agg #[x, y, z, u])) w := by
  have c0 := k.cell 0
  have c1 := k.cell 1
  have c2 := k.cell 2
  have c3 := k.cell 3
  simp only [List.size_toArray, List.length_cons, List.length_nil, Nat.reduceAdd, Nat.reduceLT, getElem?_pos, List.getElem_toArray, List.getElem_cons_zero, List.getElem_cons_succ] at c0 c1 c2 c3
  unfold execOp
  simp [hop, hs, go_sem, c0, c1, c2, c3]
theorem run_load_int {o : Oper} {w : World} {g j s : Nat} {x : Int} (ρ : Operand → Value) (hop : o.op = .load 3 (.tmp s)) (hs : ρ (.tmp s) = .pointer (some ⟨g, j, none⟩)) (k : w.cell? ⟨g, j, none⟩ = some (.int .i64 x)) :
    (execOp ρ o).run Tryd.prog w = .ok (.value (.int .i64 x)) w := by
  unfold execOp
  simp [hop, hs, go_sem, k]
theorem run_extract {o : Oper} {w : World} {s i : Nat} {x y v : Value} (ρ : Operand → Value) (hop : o.op = .extract (.tmp s) i) (hs : ρ (.tmp s) = .tuple #[x, y]) (hv : #[x, y][i]? = some v) :
    (execOp ρ o).run Tryd.prog w = .ok (.value v) w := by
  unfold execOp
  simp [hop, hs, go_sem, hv]
theorem run_index0 {o : Oper} {w : World} {g s u : Nat} (ρ : Operand → Value) (hop : o.op = .indexAddr 28 (.tmp s) (.tmp u)) (h1 : ρ (.tmp s) = .slice (some ⟨g, 0, none⟩) 4 4) (h2 : ρ (.tmp u) = .int .i64 0) :
    (execOp ρ o).run Tryd.prog w = .ok (.value (.pointer (some ⟨g, 0, none⟩))) w := by
  unfold execOp
  simp [hop, h1, h2, go_sem]
theorem run_index1 {o : Oper} {w : World} {g s u : Nat} (ρ : Operand → Value) (hop : o.op = .indexAddr 28 (.tmp s) (.tmp u)) (h1 : ρ (.tmp s) = .slice (some ⟨g, 0, none⟩) 4 4) (h2 : ρ (.tmp u) = .int .i64 1) :
    (execOp ρ o).run Tryd.prog w = .ok (.value (.pointer (some ⟨g, 1, none⟩))) w := by
  unfold execOp
  simp [hop, h1, h2, go_sem]
theorem run_index2 {o : Oper} {w : World} {g s u : Nat} (ρ : Operand → Value) (hop : o.op = .indexAddr 28 (.tmp s) (.tmp u)) (h1 : ρ (.tmp s) = .slice (some ⟨g, 0, none⟩) 4 4) (h2 : ρ (.tmp u) = .int .i64 2) :
    (execOp ρ o).run Tryd.prog w = .ok (.value (.pointer (some ⟨g, 2, none⟩))) w := by
  unfold execOp
  simp [hop, h1, h2, go_sem]
theorem run_index3 {o : Oper} {w : World} {g s u : Nat} (ρ : Operand → Value) (hop : o.op = .indexAddr 28 (.tmp s) (.tmp u)) (h1 : ρ (.tmp s) = .slice (some ⟨g, 0, none⟩) 4 4) (h2 : ρ (.tmp u) = .int .i64 3) :
    (execOp ρ o).run Tryd.prog w = .ok (.value (.pointer (some ⟨g, 3, none⟩))) w := by
  unfold execOp
  simp [hop, h1, h2, go_sem]
theorem run_assign {o : Oper} {w : World} {s : Nat} {v : Value} (ρ : Operand → Value) (hop : o.op = .assign (.tmp s)) (hs : ρ (.tmp s) = v) :
    (execOp ρ o).run Tryd.prog w = .ok (.value v) w := by
  unfold execOp
  simp [hop, hs, go_sem]
/-- What the operations leave by which a minute at an end of a run is looked at. -/
def endR (bk : Value) (st g5 j : Nat) (J E : Int) (L : List Int) (nx : Nat) (i : Nat) (v : Value) (w : World) : Prop :=
  match i with
  | 0 => v = bk
  | 1 => v = .int .i64 st
  | 2 => v = .slice (some ⟨g5, 0, none⟩) 4 4
  | 3 => v = .int .i64 J
  | 4 => v = .pointer (some ⟨g5, j, none⟩)
  | 5 => v = .int .i64 E
  | 6 => ∃ p c, v = .tuple #[.slice p nx c, .int .i64 0] ∧ IntsAt w p L
  | 7 => ∃ p c, v = .tuple #[.slice p nx c, .int .i64 0] ∧ IntsAt w p L
  | 8 => ∃ p c, v = .slice p nx c ∧ IntsAt w p L
  | 9 => v = .int .i64 0
  | 10 => ∃ p c, v = .slice p nx c ∧ IntsAt w p L
  | _ => True
theorem endR_kept (bk : Value) (st g5 j : Nat) (J E : Int) (L : List Int) (nx : Nat) : ∀ (i : Nat), i < 11 → ∀ (v : Value) (w w' : World), endR bk st g5 j J E L nx i v w → Below w.heap.size w w' → endR bk st g5 j J E L nx i v w' := by
  intro i hi v w w' h hb
  rcases (show i = 0 ∨ i = 1 ∨ i = 2 ∨ i = 3 ∨ i = 4 ∨ i = 5 ∨ i = 6 ∨ i = 7 ∨ i = 8 ∨ i = 9 ∨ i = 10 by omega) with hi0 | hi0 | hi0 | hi0 | hi0 | hi0 | hi0 | hi0 | hi0 | hi0 | hi0
  all_goals subst hi0
  all_goals first
    | exact h
    | (obtain ⟨p, c, h1, h2⟩ := h; exact ⟨p, c, h1, h2.below hb⟩)

set_option maxRecDepth 100000 in
set_option maxHeartbeats 4000000 in
theorem TurnSure_bad (h : Hd) (b : Bk) (n0 n1 n2 : Int) (w : World) (hb : BkAt w h b) (hv : bookB b = false) (hn : NB w) :
    Calls Tryd.prog 8 #[.agg #[.int .i64 b.n, .slice h.pb b.bs.length h.cb, .slice h.po b.os.length h.co, .slice h.ps b.ss.length h.cs], .agg #[.int .i64 n0, .int .i64 n1, .int .i64 n2]] w fun e w' => e = .returned (.bool true) ∧ ∃ x, w' = ext w x := by
  have HB := Lib.hid hb
  have HN := Lib.hid hn
  clear hb hn
  go_enter Tryd.func8, Tryd.ntmps8
  go_wp2_with (first
    | (go_at_call 12; refine (sound_no h b _ (HB.out.below (by (repeat (first | (with_reducible exact Below.refl _ _) | (with_reducible assumption) | ((with_reducible refine below_ext_trans ?_ ?_ _); rotate_left; focus (((try dsimp only); repeat (first | omega | simp only [World.size_alloc, World.size_setCell, World.size_drew] | (with_reducible refine le_ext_of ?_) | (with_reducible refine le_ext_add ?_))); done)) | ((with_reducible refine Below.alloc ?_ ?_ _); rotate_left; focus (((try dsimp only); repeat (first | omega | simp only [World.size_alloc, World.size_setCell, World.size_drew] | (with_reducible refine le_ext_of ?_) | (with_reducible refine le_ext_add ?_))); done)) | ((with_reducible refine Below.setCell ?_ ?_ _); rotate_left; focus (((try dsimp only); repeat (first | omega | simp only [World.size_alloc, World.size_setCell, World.size_drew] | (with_reducible refine le_ext_of ?_) | (with_reducible refine le_ext_add ?_))); done)) | (with_reducible refine Below.drew ?_))))) hv).mono ?_; rintro e w1 ⟨rfl, y1, rfl⟩)
    | (go_at_call 13; refine (shot_any _ (HN.out.below (by (repeat (first | (with_reducible exact Below.refl _ _) | (with_reducible assumption) | ((with_reducible refine below_ext_trans ?_ ?_ _); rotate_left; focus (((try dsimp only); repeat (first | omega | simp only [World.size_alloc, World.size_setCell, World.size_drew] | (with_reducible refine le_ext_of ?_) | (with_reducible refine le_ext_add ?_))); done)) | ((with_reducible refine Below.alloc ?_ ?_ _); rotate_left; focus (((try dsimp only); repeat (first | omega | simp only [World.size_alloc, World.size_setCell, World.size_drew] | (with_reducible refine le_ext_of ?_) | (with_reducible refine le_ext_add ?_))); done)) | ((with_reducible refine Below.setCell ?_ ?_ _); rotate_left; focus (((try dsimp only); repeat (first | omega | simp only [World.size_alloc, World.size_setCell, World.size_drew] | (with_reducible refine le_ext_of ?_) | (with_reducible refine le_ext_add ?_))); done)) | (with_reducible refine Below.drew ?_)))))).mono ?_; rintro e w1 ⟨rfl, y, rfl⟩))
  go_ret
  exact ⟨rfl, by (exact ext_of (by (repeat (first | (with_reducible exact Below.refl _ _) | (with_reducible assumption) | ((with_reducible refine below_ext_trans ?_ ?_ _); rotate_left; focus (((try dsimp only); repeat (first | omega | simp only [World.size_alloc, World.size_setCell, World.size_drew] | (with_reducible refine le_ext_of ?_) | (with_reducible refine le_ext_add ?_))); done)) | ((with_reducible refine Below.alloc ?_ ?_ _); rotate_left; focus (((try dsimp only); repeat (first | omega | simp only [World.size_alloc, World.size_setCell, World.size_drew] | (with_reducible refine le_ext_of ?_) | (with_reducible refine le_ext_add ?_))); done)) | ((with_reducible refine Below.setCell ?_ ?_ _); rotate_left; focus (((try dsimp only); repeat (first | omega | simp only [World.size_alloc, World.size_setCell, World.size_drew] | (with_reducible refine le_ext_of ?_) | (with_reducible refine le_ext_add ?_))); done)) | (with_reducible refine Below.drew ?_)))))⟩

set_option maxRecDepth 100000 in
set_option maxHeartbeats 16000000 in
theorem TurnSure_yes (h : Hd) (b : Bk) (n0 n1 n2 : Int) (w : World) (hb : BkAt w h b) (hv : bookB b = true) (hn : NB w)
    (st n : Nat) (co m : Int) (L : List (Int × Int)) (hst : n0 % (b.os.length : Int) = (st : Int)) (hsl : st < b.os.length) (hco : n1 % b.n = co) (hc0 : 0 ≤ co) (hc1 : co < b.n) (hm : n2 % 1440 = m) (hm0 : 0 ≤ m) (hm1 : m < 1440)
    (hL : runsTo (onlyAt b st co) 1440 = L) (hln : L.length = n) :
    Calls Tryd.prog 8 #[.agg #[.int .i64 b.n, .slice h.pb b.bs.length h.cb, .slice h.po b.os.length h.co, .slice h.ps b.ss.length h.cs], .agg #[.int .i64 n0, .int .i64 n1, .int .i64 n2]] w fun e w' => e = .returned (.bool true) ∧ ∃ x, w' = ext w x := by
  obtain ⟨pb, cb, po, co', ps, cs⟩ := h
  dsimp only
  obtain ⟨⟨ho1, ho3⟩, -⟩ := bookB_orders hv
  have h4 := (bookB_bounds hv).1
  have hn5 := bookB_n hv
  have hfew : (n : Int) ≤ (b.bs.length : Int) + 1 := by have := runs_few hv st co; rw [hL] at this; omega
  have HRUN : Hid (RunsOK (onlyAt b st co) 1440 L) := Lib.hid (by rw [← hL]; exact runs_ok _ _)
  have HB := Lib.hid hb
  have HN := Lib.hid hn
  have HV := Lib.hid hv
  have HST := Lib.hid hst
  have HSL := Lib.hid hsl
  have HCO := Lib.hid hco
  have HC0 := Lib.hid hc0
  have HC1 := Lib.hid hc1
  have HM := Lib.hid hm
  have HL := Lib.hid hL
  have HLN := Lib.hid hln
  have HM0 := Lib.hid hm0
  have HM1 := Lib.hid hm1
  have HO1 := Lib.hid (show 1 ≤ (b.os.length : Int) ∧ (b.os.length : Int) ≤ 1000000 by omega)
  have HN1 := Lib.hid (show 1 ≤ b.n ∧ b.n ≤ 1000000 by omega)
  clear hb hn hv hst hsl hco hm hL hln hc0 hc1 hn5
  go_enter Tryd.func8, Tryd.ntmps8
  go_upto_region 3 with (go_at_call 12; refine (sound_yes ⟨pb, cb, po, co', ps, cs⟩ b _ (HB.out.below (by (repeat (first | (with_reducible exact Below.refl _ _) | (with_reducible assumption) | ((with_reducible refine below_ext_trans ?_ ?_ _); rotate_left; focus (((try dsimp only); repeat (first | omega | simp only [World.size_alloc, World.size_setCell, World.size_drew] | (with_reducible refine le_ext_of ?_) | (with_reducible refine le_ext_add ?_))); done)) | ((with_reducible refine Below.alloc ?_ ?_ _); rotate_left; focus (((try dsimp only); repeat (first | omega | simp only [World.size_alloc, World.size_setCell, World.size_drew] | (with_reducible refine le_ext_of ?_) | (with_reducible refine le_ext_add ?_))); done)) | ((with_reducible refine Below.setCell ?_ ?_ _); rotate_left; focus (((try dsimp only); repeat (first | omega | simp only [World.size_alloc, World.size_setCell, World.size_drew] | (with_reducible refine le_ext_of ?_) | (with_reducible refine le_ext_add ?_))); done)) | (with_reducible refine Below.drew ?_))))) HV.out).mono ?_; rintro e w1 ⟨rfl, y1, rfl⟩)
  refine wp_region_ext (by kernel_rfl) (by kernel_rfl) ?_
  repeat (go_big_quiet_step (fail))
  go_big_quiet_step ((go_at_call 14; exact quiet_ext (Wheel_eq n0 _ st _ HO1.out HST.out)))
  repeat (go_big_quiet_step (fail))
  go_big_quiet_step ((go_at_call 14; exact quiet_ext (Wheel_eq n1 b.n co _ HN1.out HCO.out)))
  repeat (go_big_quiet_step (fail))
  go_big_quiet_step ((go_at_call 14; exact quiet_ext (Wheel_eq n2 1440 m _ ⟨by omega, by omega⟩ HM.out)))
  repeat (go_big_quiet_step (fail))
  refine wpQuiet_nil ?_
  rintro W ⟨x, hW⟩
  have hWB : Below w.heap.size w W := by rw [hW]; (repeat (first | (with_reducible exact Below.refl _ _) | (with_reducible assumption) | ((with_reducible refine below_ext_trans ?_ ?_ _); rotate_left; focus (((try dsimp only); repeat (first | omega | simp only [World.size_alloc, World.size_setCell, World.size_drew] | (with_reducible refine le_ext_of ?_) | (with_reducible refine le_ext_add ?_))); done)) | ((with_reducible refine Below.alloc ?_ ?_ _); rotate_left; focus (((try dsimp only); repeat (first | omega | simp only [World.size_alloc, World.size_setCell, World.size_drew] | (with_reducible refine le_ext_of ?_) | (with_reducible refine le_ext_add ?_))); done)) | ((with_reducible refine Below.setCell ?_ ?_ _); rotate_left; focus (((try dsimp only); repeat (first | omega | simp only [World.size_alloc, World.size_setCell, World.size_drew] | (with_reducible refine le_ext_of ?_) | (with_reducible refine le_ext_add ?_))); done)) | (with_reducible refine Below.drew ?_)))
  have kb : Blk W w.heap.size 26 #[.int .i64 b.n, .slice pb b.bs.length cb, .slice po b.os.length co', .slice ps b.ss.length cs] := by rw [hW]; exact (((Blk.new rfl).alloc _).ext _).ext _
  have d0 := kb.cell 0
  have d1 := kb.cell 1
  have d2 := kb.cell 2
  have d3 := kb.cell 3
  simp only [List.size_toArray, List.length_cons, List.length_nil, Nat.reduceAdd, Nat.reduceLT, getElem?_pos, List.getElem_toArray, List.getElem_cons_zero, List.getElem_cons_succ] at d0 d1 d2 d3
  have kl := kb.lt
  have HBW := Lib.hid (HB.out.below hWB)
  have HNW := Lib.hid (HN.out.below hWB)
  have HWB := Lib.hid hWB
  have KB := Lib.hid kb
  clear hW hWB kb HB HN
  go_upto_region 5 with (go_at_call 34; refine (Sure_eq ⟨pb, cb, po, co', ps, cs⟩ b st co L n _ (HBW.out.below (by (repeat (first | (with_reducible exact Below.refl _ _) | (with_reducible assumption) | ((with_reducible refine below_ext_trans ?_ ?_ _); rotate_left; focus (((try dsimp only); repeat (first | omega | simp only [World.size_alloc, World.size_setCell, World.size_drew] | (with_reducible refine le_ext_of ?_) | (with_reducible refine le_ext_add ?_))); done)) | ((with_reducible refine Below.alloc ?_ ?_ _); rotate_left; focus (((try dsimp only); repeat (first | omega | simp only [World.size_alloc, World.size_setCell, World.size_drew] | (with_reducible refine le_ext_of ?_) | (with_reducible refine le_ext_add ?_))); done)) | ((with_reducible refine Below.setCell ?_ ?_ _); rotate_left; focus (((try dsimp only); repeat (first | omega | simp only [World.size_alloc, World.size_setCell, World.size_drew] | (with_reducible refine le_ext_of ?_) | (with_reducible refine le_ext_add ?_))); done)) | (with_reducible refine Below.drew ?_))))) HV.out (HNW.out.below (by (repeat (first | (with_reducible exact Below.refl _ _) | (with_reducible assumption) | ((with_reducible refine below_ext_trans ?_ ?_ _); rotate_left; focus (((try dsimp only); repeat (first | omega | simp only [World.size_alloc, World.size_setCell, World.size_drew] | (with_reducible refine le_ext_of ?_) | (with_reducible refine le_ext_add ?_))); done)) | ((with_reducible refine Below.alloc ?_ ?_ _); rotate_left; focus (((try dsimp only); repeat (first | omega | simp only [World.size_alloc, World.size_setCell, World.size_drew] | (with_reducible refine le_ext_of ?_) | (with_reducible refine le_ext_add ?_))); done)) | ((with_reducible refine Below.setCell ?_ ?_ _); rotate_left; focus (((try dsimp only); repeat (first | omega | simp only [World.size_alloc, World.size_setCell, World.size_drew] | (with_reducible refine le_ext_of ?_) | (with_reducible refine le_ext_add ?_))); done)) | (with_reducible refine Below.drew ?_))))) HSL.out HC0.out HC1.out HL.out HLN.out).mono ?_; rintro e w1 ⟨p, c, rfl, hI, y2, rfl⟩)
  have hB2 : Below W.heap.size W (ext W y2) := below_ext W y2
  clear d0 d1 d2 d3 kl
  generalize ext W y2 = W2 at *
  have kb2 := KB.out.bel hB2
  have d0 := kb2.cell 0
  have d1 := kb2.cell 1
  have d2 := kb2.cell 2
  have d3 := kb2.cell 3
  simp only [List.size_toArray, List.length_cons, List.length_nil, Nat.reduceAdd, Nat.reduceLT, getElem?_pos, List.getElem_toArray, List.getElem_cons_zero, List.getElem_cons_succ] at d0 d1 d2 d3
  have kl := kb2.lt
  have HB2 := Lib.hid (HBW.out.below hB2)
  have HN2 := Lib.hid (HNW.out.below hB2)
  have HW2 := Lib.hid (HWB.out.trans (hB2.mono HWB.out.size))
  have HSP := Lib.hid hI
  have KB2 := Lib.hid kb2
  clear kb2 hB2 KB HBW HNW HWB hI
  have hgt : ¬ ((b.bs.length : Int) + 1 < (n : Int)) := by omega
  have hwr : IntKind.i64.wrap ((b.bs.length : Int) + 1) = (b.bs.length : Int) + 1 := IntWalk.i64_in _ (by omega)
  go_wp2_with fail
  clear d0 d1 d2 d3 kl hgt hwr
  go_loopw [10, 11, 12] (fun u v i wr => ∃ (k : Nat) (z : Int) (q : Bool), k ≤ n ∧ i = .int .i64 k ∧ u = .bool q ∧ v = .int .i64 z ∧ -2 ≤ z ∧ z ≤ 1439 ∧ Hid (∀ r, L[k]? = some r → z + 2 ≤ r.1) ∧ Hid (q = (L.take k).any fun r => decide (r.1 ≤ m) && decide (m ≤ r.2)) ∧ ∃ x, wr = ext W2 x) (fun _ _ i _ => n - (intOf i).toNat)
  case atStart => exact ⟨0, -2, false, by omega, rfl, rfl, rfl, by omega, by omega, Lib.hid (fun r hr => by have := HRUN.out.bd r (List.mem_of_getElem? hr); omega), Lib.hid rfl, ext_of (Below.refl _ _)⟩
  case round =>
    obtain ⟨k, z, q, hk, rfl, rfl, rfl, hz0, hz1, HZ, HQ, x0, rfl⟩ := hrel
    have hB3 : Below W2.heap.size W2 (ext W2 x0) := below_ext W2 x0
    generalize ext W2 x0 = W3 at *
    have kb3 := KB2.out.bel hB3
    have d0 := kb3.cell 0
    have d1 := kb3.cell 1
    have d2 := kb3.cell 2
    have d3 := kb3.cell 3
    simp only [List.size_toArray, List.length_cons, List.length_nil, Nat.reduceAdd, Nat.reduceLT, getElem?_pos, List.getElem_toArray, List.getElem_cons_zero, List.getElem_cons_succ] at d0 d1 d2 d3
    have kl := kb3.lt
    have HB3 := Lib.hid (HB2.out.below hB3)
    have HN3 := Lib.hid (HN2.out.below hB3)
    have HX3 := Lib.hid hB3
    have HSP3 := Lib.hid (HSP.out.below hB3)
    have KB3 := Lib.hid kb3
    clear kb3 hB3
    by_cases hlt : k < n
    · obtain ⟨⟨lo, hi⟩, hr⟩ := get_some L k (by rw [HLN.out]; exact hlt)
      obtain ⟨g, o, rfl, hgl, c0, c1⟩ := HSP3.out k _ hr
      dsimp only at c0 c1
      obtain ⟨l0, l1, l2⟩ := HRUN.out.bd _ (List.mem_of_getElem? hr)
      dsimp only at l0 l1 l2
      have hzl := HZ.out _ hr
      dsimp only at hzl
      have HR := Lib.hid hr
      clear hr
      have k0 : (0 : Int) ≤ (k : Int) := by omega
      have k1 : (k : Int) < (n : Int) := by omega
      cases q with
      | false =>
        obtain ⟨q2, hq2⟩ : ∃ q2, (decide (lo ≤ m) && decide (m ≤ hi)) = q2 := ⟨_, rfl⟩
        go_upto_region 15 with (first
          | (go_at_call 35; refine (Sane_yes _ _ _ _ _ (by omega) (by omega) (by omega)).mono ?_; rintro e w1 ⟨rfl, y3, rfl⟩)
          | (go_at_call 18; refine (Holds_any _ _ _ _).mono ?_; rw [hq2]; rintro e w1 ⟨rfl, y4, rfl⟩))
        obtain HQ2 : Hid (q2 = (L.take (k + 1)).any fun r => decide (r.1 ≤ m) && decide (m ≤ r.2)) := Lib.hid (by
          obtain ⟨hkl, her⟩ := List.getElem?_eq_some_iff.1 HR.out
          rw [List.take_succ_eq_append_getElem hkl, List.any_append, ← HQ.out, her]
          simp; exact hq2.symm)
        clear HQ HZ
        refine wp_region_ext_tail 22 (by kernel_rfl) (by kernel_rfl) ?_
        simp only [List.take_succ_cons, List.take_zero, List.drop_succ_cons, List.drop_zero]
        repeat (go_big_quiet_step (fail))
        refine wpQuiet_nil ?_
        rintro W4 ⟨x4, hW4⟩
        have hB4 : Below W3.heap.size W3 W4 := by rw [hW4]; (repeat (first | (with_reducible exact Below.refl _ _) | (with_reducible assumption) | ((with_reducible refine below_ext_trans ?_ ?_ _); rotate_left; focus (((try dsimp only); repeat (first | omega | simp only [World.size_alloc, World.size_setCell, World.size_drew] | (with_reducible refine le_ext_of ?_) | (with_reducible refine le_ext_add ?_))); done)) | ((with_reducible refine Below.alloc ?_ ?_ _); rotate_left; focus (((try dsimp only); repeat (first | omega | simp only [World.size_alloc, World.size_setCell, World.size_drew] | (with_reducible refine le_ext_of ?_) | (with_reducible refine le_ext_add ?_))); done)) | ((with_reducible refine Below.setCell ?_ ?_ _); rotate_left; focus (((try dsimp only); repeat (first | omega | simp only [World.size_alloc, World.size_setCell, World.size_drew] | (with_reducible refine le_ext_of ?_) | (with_reducible refine le_ext_add ?_))); done)) | (with_reducible refine Below.drew ?_)))
        clear hW4 d0 d1 d2 d3 kl c0 c1 hgl
        have kb4 := KB3.out.bel hB4
        have HB4 := Lib.hid (HB3.out.below hB4)
        have HN4 := Lib.hid (HN3.out.below hB4)
        have HX4 := Lib.hid (HX3.out.trans (hB4.mono HX3.out.size))
        clear hB4
        go_wp2_with fail
        generalize hW5 : W4.alloc _ = W5
        generalize hg5 : W4.heap.size = g5
        have k5 : Blk W5 g5 3 #[.int .i64 lo, .int .i64 hi, .int .i64 (lo - 1), .int .i64 (hi + 1)] := by rw [← hW5]; exact Blk.new hg5.symm
        have hB5 : Below W4.heap.size W4 W5 := by rw [← hW5]; (repeat (first | (with_reducible exact Below.refl _ _) | (with_reducible assumption) | ((with_reducible refine below_ext_trans ?_ ?_ _); rotate_left; focus (((try dsimp only); repeat (first | omega | simp only [World.size_alloc, World.size_setCell, World.size_drew] | (with_reducible refine le_ext_of ?_) | (with_reducible refine le_ext_add ?_))); done)) | ((with_reducible refine Below.alloc ?_ ?_ _); rotate_left; focus (((try dsimp only); repeat (first | omega | simp only [World.size_alloc, World.size_setCell, World.size_drew] | (with_reducible refine le_ext_of ?_) | (with_reducible refine le_ext_add ?_))); done)) | ((with_reducible refine Below.setCell ?_ ?_ _); rotate_left; focus (((try dsimp only); repeat (first | omega | simp only [World.size_alloc, World.size_setCell, World.size_drew] | (with_reducible refine le_ext_of ?_) | (with_reducible refine le_ext_add ?_))); done)) | (with_reducible refine Below.drew ?_)))
        have KB5 := Lib.hid (kb4.bel hB5)
        have HB5 := Lib.hid (HB4.out.below hB5)
        have HN5 := Lib.hid (HN4.out.below hB5)
        have HX5 := Lib.hid (HX4.out.trans (hB5.mono HX4.out.size))
        have K5 := Lib.hid k5
        clear hW5 hg5 k5 hB5 kb4
        go_loopw [14] (fun i wr => ∃ j : Int, 0 ≤ j ∧ j ≤ 4 ∧ i = .int .i64 j ∧ ∃ x, wr = ext W5 x) (fun i _ => 4 - (intOf i).toNat)
        case atStart => exact ⟨0, by omega, by omega, rfl, ext_of (Below.refl _ _)⟩
        case round =>
          obtain ⟨j, hj0, hj4, rfl, x5, rfl⟩ := hrel
          have hB6 : Below W5.heap.size W5 (ext W5 x5) := below_ext W5 x5
          generalize ext W5 x5 = W6 at *
          have kb6 := KB5.out.bel hB6
          have k56 := K5.out.bel hB6
          have d0 := kb6.cell 0
          have d1 := kb6.cell 1
          have d2 := kb6.cell 2
          have d3 := kb6.cell 3
          have r0 := k56.cell 0
          have r1 := k56.cell 1
          have r2 := k56.cell 2
          have r3 := k56.cell 3
          simp only [List.size_toArray, List.length_cons, List.length_nil, Nat.reduceAdd, Nat.reduceLT, getElem?_pos, List.getElem_toArray, List.getElem_cons_zero, List.getElem_cons_succ] at d0 d1 d2 d3 r0 r1 r2 r3
          have kl := kb6.lt
          have k5l := k56.lt
          have HB6 := Lib.hid (HB5.out.below hB6)
          have HN6 := Lib.hid (HN5.out.below hB6)
          have HX6 := Lib.hid hB6
          have KB6 := Lib.hid kb6
          have K56 := Lib.hid k56
          clear kb6 k56 hB6
          have hj : j = 0 ∨ j = 1 ∨ j = 2 ∨ j = 3 ∨ j = 4 := by omega
          rcases hj with rfl | rfl | rfl | rfl | rfl
          · go_upto_region 20 with (go_at_call 25; refine (Between_yes _ _ _ _ (by omega) (by omega)).mono ?_; rintro e w1 ⟨rfl, rfl⟩)
            obtain ⟨lo', hi', nx, Lx, e1, e2, e3, e4, e5, e6⟩ := at_minute HV.out co HSL.out (t := lo) (by omega) (by omega)
            have HF := Lib.hid (show decide (Lx = [co]) = true by rw [e6]; exact HRUN.out.yes _ (List.mem_of_getElem? HR.out) lo.toNat (by dsimp only; omega) (by dsimp only; omega))
            have E1 := Lib.hid e1
            have E2 := Lib.hid e2
            have E3 := Lib.hid e3
            have E4 := Lib.hid e4
            have E5 := Lib.hid e5
            clear e1 e2 e3 e4 e5 e6
            clear d0 d1 d2 d3 r0 r1 r2 r3 kl k5l
            refine wp_region_flow_back 11 160 (endR (.agg #[.int .i64 b.n, .slice pb b.bs.length cb, .slice po b.os.length co', .slice ps b.ss.length cs]) st g5 0 0 (lo) Lx nx) (by kernel_rfl) (by kernel_rfl) rfl (endR_kept _ _ _ _ _ _ _ _) ?_ ?_
            · intro i hin a W h1 h2 h3 h4 h5 K hK
              rcases (show i = 0 ∨ i = 1 ∨ i = 2 ∨ i = 3 ∨ i = 4 ∨ i = 5 ∨ i = 6 ∨ i = 7 ∨ i = 8 ∨ i = 9 ∨ i = 10 by omega) with hi0 | hi0 | hi0 | hi0 | hi0 | hi0 | hi0 | hi0 | hi0 | hi0 | hi0
              · subst hi0
                exact st_val rfl (wanted_none rfl) (run_load_bk _ rfl (h3 2 (by kernel_rfl)) ((h5.block _ KB6.out.lt).trans KB6.out)) (hK _ _ rfl (Below.refl _ _))
              · subst hi0
                exact st_move rfl rfl (wanted_none rfl) (h3 5 (by kernel_rfl)) (hK _ _ rfl (Below.refl _ _))
              · subst hi0
                exact st_move rfl rfl (wanted_none rfl) (h3 13 (by kernel_rfl)) (hK _ _ rfl (Below.refl _ _))
              · subst hi0
                exact st_move rfl rfl (wanted_none rfl) (h3 14 (by kernel_rfl)) (hK _ _ rfl (Below.refl _ _))
              · subst hi0
                exact st_val rfl (wanted_none rfl) (run_index0 _ rfl (h4 2 (by kernel_rfl)) (h4 3 (by kernel_rfl))) (hK _ _ rfl (Below.refl _ _))
              · subst hi0
                have k6 : Blk W g5 3 #[.int .i64 lo, .int .i64 hi, .int .i64 (lo - 1), .int .i64 (hi + 1)] := (h5.block _ K56.out.lt).trans K56.out
                exact st_val rfl (wanted_none rfl) (run_load_int _ rfl (h4 4 (by kernel_rfl)) (k6.cell 0)) (hK _ _ rfl (Below.refl _ _))
              · subst hi0
                refine st_call rfl rfl (wanted_none rfl) (args3 (h4 0 (by kernel_rfl)) (h4 1 (by kernel_rfl)) (h4 5 (by kernel_rfl))) (run_enter Tryd.func16 (by kernel_rfl) (by kernel_rfl) _) ?_
                refine (Owners_eq ⟨pb, cb, po, co', ps, cs⟩ b st (lo) lo' hi' Lx nx _ (HB6.out.below h5) HV.out (HN6.out.below h5) HSL.out (by omega) (by omega) E1.out E2.out E3.out E4.out).mono ?_
                rintro e w1 ⟨p5, c5, rfl, hI5, y5, rfl⟩
                exact ⟨_, rfl, hK _ _ ⟨p5, c5, rfl, hI5⟩ (below_ext _ _)⟩
              · subst hi0
                obtain ⟨p5, c5, e, hI⟩ := h4 6 (by kernel_rfl)
                exact st_move rfl rfl (wanted_none rfl) e (hK _ _ ⟨p5, c5, rfl, hI⟩ (Below.refl _ _))
              · subst hi0
                obtain ⟨p5, c5, e, hI⟩ := h4 7 (by kernel_rfl)
                exact st_val rfl (wanted_none rfl) (run_extract _ rfl e rfl) (hK _ _ ⟨p5, c5, rfl, hI⟩ (Below.refl _ _))
              · subst hi0
                obtain ⟨p5, c5, e, hI⟩ := h4 7 (by kernel_rfl)
                exact st_val rfl (wanted_none rfl) (run_extract _ rfl e rfl) (hK _ _ rfl (Below.refl _ _))
              · subst hi0
                obtain ⟨p5, c5, e, hI⟩ := h4 8 (by kernel_rfl)
                exact st_val rfl (wanted_none rfl) (run_assign _ rfl e) (hK _ _ ⟨p5, c5, rfl, hI⟩ (Below.refl _ _))
            intro vs W7 hvs hB7
            have v0 : vs 0 = _ := hvs 0 (by omega)
            have v1 : vs 1 = _ := hvs 1 (by omega)
            have v2 : vs 2 = _ := hvs 2 (by omega)
            have v3 : vs 3 = _ := hvs 3 (by omega)
            have v4 : vs 4 = _ := hvs 4 (by omega)
            have v5 : vs 5 = _ := hvs 5 (by omega)
            obtain ⟨p6, c6, v6, -⟩ := hvs 6 (by omega)
            obtain ⟨p7, c7, v7, -⟩ := hvs 7 (by omega)
            obtain ⟨p8, c8, v8, -⟩ := hvs 8 (by omega)
            have v9 : vs 9 = _ := hvs 9 (by omega)
            obtain ⟨p5, c5, v10, hI5⟩ := hvs 10 (by omega)
            have HI5 := Lib.hid hI5
            have HN7 := Lib.hid (HN6.out.below hB7)
            have HX7 := Lib.hid (HX6.out.trans (hB7.mono HX6.out.size))
            simp only [putAll, v0, v1, v2, v3, v4, v5, v6, v7, v8, v9, v10]
            clear v0 v1 v2 v3 v4 v5 v6 v7 v8 v9 v10 hvs hB7 hI5
            simp only [dstOf, Act.put, List.getElem?_toArray, List.getElem?_cons_zero, List.getElem?_cons_succ, Option.bind_some, Option.getD_some, List.setIfInBounds_toArray, List.set_cons_succ, List.set_cons_zero, List.drop_succ_cons, List.drop_zero]
            go_upto_region 21 with fail
            go_wp2_with (go_at_call 36; refine (Same_eq p5 _ c5 _ Lx [co] nx 1 true _ (HI5.out.below (by (repeat (first | (with_reducible exact Below.refl _ _) | (with_reducible assumption) | ((with_reducible refine below_ext_trans ?_ ?_ _); rotate_left; focus (((try dsimp only); repeat (first | omega | simp only [World.size_alloc, World.size_setCell, World.size_drew] | (with_reducible refine le_ext_of ?_) | (with_reducible refine le_ext_add ?_))); done)) | ((with_reducible refine Below.alloc ?_ ?_ _); rotate_left; focus (((try dsimp only); repeat (first | omega | simp only [World.size_alloc, World.size_setCell, World.size_drew] | (with_reducible refine le_ext_of ?_) | (with_reducible refine le_ext_add ?_))); done)) | ((with_reducible refine Below.setCell ?_ ?_ _); rotate_left; focus (((try dsimp only); repeat (first | omega | simp only [World.size_alloc, World.size_setCell, World.size_drew] | (with_reducible refine le_ext_of ?_) | (with_reducible refine le_ext_add ?_))); done)) | (with_reducible refine Below.drew ?_))))) (ints_one _ _ _) E5.out (by simp) E4.out rfl HF.out).mono ?_; rintro e w1 ⟨rfl, y8, rfl⟩)
            go_roundw
            case rel => exact ⟨1, by omega, by omega, rfl, by refine ext_of (HX7.out.trans (Below.mono ?_ HX7.out.size)); (repeat (first | (with_reducible exact Below.refl _ _) | (with_reducible assumption) | ((with_reducible refine below_ext_trans ?_ ?_ _); rotate_left; focus (((try dsimp only); repeat (first | omega | simp only [World.size_alloc, World.size_setCell, World.size_drew] | (with_reducible refine le_ext_of ?_) | (with_reducible refine le_ext_add ?_))); done)) | ((with_reducible refine Below.alloc ?_ ?_ _); rotate_left; focus (((try dsimp only); repeat (first | omega | simp only [World.size_alloc, World.size_setCell, World.size_drew] | (with_reducible refine le_ext_of ?_) | (with_reducible refine le_ext_add ?_))); done)) | ((with_reducible refine Below.setCell ?_ ?_ _); rotate_left; focus (((try dsimp only); repeat (first | omega | simp only [World.size_alloc, World.size_setCell, World.size_drew] | (with_reducible refine le_ext_of ?_) | (with_reducible refine le_ext_add ?_))); done)) | (with_reducible refine Below.drew ?_)))⟩
            case measure => simp [intOf]
          · go_upto_region 20 with (go_at_call 25; refine (Between_yes _ _ _ _ (by omega) (by omega)).mono ?_; rintro e w1 ⟨rfl, rfl⟩)
            obtain ⟨lo', hi', nx, Lx, e1, e2, e3, e4, e5, e6⟩ := at_minute HV.out co HSL.out (t := hi) (by omega) (by omega)
            have HF := Lib.hid (show decide (Lx = [co]) = true by rw [e6]; exact HRUN.out.yes _ (List.mem_of_getElem? HR.out) hi.toNat (by dsimp only; omega) (by dsimp only; omega))
            have E1 := Lib.hid e1
            have E2 := Lib.hid e2
            have E3 := Lib.hid e3
            have E4 := Lib.hid e4
            have E5 := Lib.hid e5
            clear e1 e2 e3 e4 e5 e6
            clear d0 d1 d2 d3 r0 r1 r2 r3 kl k5l
            refine wp_region_flow_back 11 160 (endR (.agg #[.int .i64 b.n, .slice pb b.bs.length cb, .slice po b.os.length co', .slice ps b.ss.length cs]) st g5 1 1 (hi) Lx nx) (by kernel_rfl) (by kernel_rfl) rfl (endR_kept _ _ _ _ _ _ _ _) ?_ ?_
            · intro i hin a W h1 h2 h3 h4 h5 K hK
              rcases (show i = 0 ∨ i = 1 ∨ i = 2 ∨ i = 3 ∨ i = 4 ∨ i = 5 ∨ i = 6 ∨ i = 7 ∨ i = 8 ∨ i = 9 ∨ i = 10 by omega) with hi0 | hi0 | hi0 | hi0 | hi0 | hi0 | hi0 | hi0 | hi0 | hi0 | hi0
              · subst hi0
                exact st_val rfl (wanted_none rfl) (run_load_bk _ rfl (h3 2 (by kernel_rfl)) ((h5.block _ KB6.out.lt).trans KB6.out)) (hK _ _ rfl (Below.refl _ _))
              · subst hi0
                exact st_move rfl rfl (wanted_none rfl) (h3 5 (by kernel_rfl)) (hK _ _ rfl (Below.refl _ _))
              · subst hi0
                exact st_move rfl rfl (wanted_none rfl) (h3 13 (by kernel_rfl)) (hK _ _ rfl (Below.refl _ _))
              · subst hi0
                exact st_move rfl rfl (wanted_none rfl) (h3 14 (by kernel_rfl)) (hK _ _ rfl (Below.refl _ _))
              · subst hi0
                exact st_val rfl (wanted_none rfl) (run_index1 _ rfl (h4 2 (by kernel_rfl)) (h4 3 (by kernel_rfl))) (hK _ _ rfl (Below.refl _ _))
              · subst hi0
                have k6 : Blk W g5 3 #[.int .i64 lo, .int .i64 hi, .int .i64 (lo - 1), .int .i64 (hi + 1)] := (h5.block _ K56.out.lt).trans K56.out
                exact st_val rfl (wanted_none rfl) (run_load_int _ rfl (h4 4 (by kernel_rfl)) (k6.cell 1)) (hK _ _ rfl (Below.refl _ _))
              · subst hi0
                refine st_call rfl rfl (wanted_none rfl) (args3 (h4 0 (by kernel_rfl)) (h4 1 (by kernel_rfl)) (h4 5 (by kernel_rfl))) (run_enter Tryd.func16 (by kernel_rfl) (by kernel_rfl) _) ?_
                refine (Owners_eq ⟨pb, cb, po, co', ps, cs⟩ b st (hi) lo' hi' Lx nx _ (HB6.out.below h5) HV.out (HN6.out.below h5) HSL.out (by omega) (by omega) E1.out E2.out E3.out E4.out).mono ?_
                rintro e w1 ⟨p5, c5, rfl, hI5, y5, rfl⟩
                exact ⟨_, rfl, hK _ _ ⟨p5, c5, rfl, hI5⟩ (below_ext _ _)⟩
              · subst hi0
                obtain ⟨p5, c5, e, hI⟩ := h4 6 (by kernel_rfl)
                exact st_move rfl rfl (wanted_none rfl) e (hK _ _ ⟨p5, c5, rfl, hI⟩ (Below.refl _ _))
              · subst hi0
                obtain ⟨p5, c5, e, hI⟩ := h4 7 (by kernel_rfl)
                exact st_val rfl (wanted_none rfl) (run_extract _ rfl e rfl) (hK _ _ ⟨p5, c5, rfl, hI⟩ (Below.refl _ _))
              · subst hi0
                obtain ⟨p5, c5, e, hI⟩ := h4 7 (by kernel_rfl)
                exact st_val rfl (wanted_none rfl) (run_extract _ rfl e rfl) (hK _ _ rfl (Below.refl _ _))
              · subst hi0
                obtain ⟨p5, c5, e, hI⟩ := h4 8 (by kernel_rfl)
                exact st_val rfl (wanted_none rfl) (run_assign _ rfl e) (hK _ _ ⟨p5, c5, rfl, hI⟩ (Below.refl _ _))
            intro vs W7 hvs hB7
            have v0 : vs 0 = _ := hvs 0 (by omega)
            have v1 : vs 1 = _ := hvs 1 (by omega)
            have v2 : vs 2 = _ := hvs 2 (by omega)
            have v3 : vs 3 = _ := hvs 3 (by omega)
            have v4 : vs 4 = _ := hvs 4 (by omega)
            have v5 : vs 5 = _ := hvs 5 (by omega)
            obtain ⟨p6, c6, v6, -⟩ := hvs 6 (by omega)
            obtain ⟨p7, c7, v7, -⟩ := hvs 7 (by omega)
            obtain ⟨p8, c8, v8, -⟩ := hvs 8 (by omega)
            have v9 : vs 9 = _ := hvs 9 (by omega)
            obtain ⟨p5, c5, v10, hI5⟩ := hvs 10 (by omega)
            have HI5 := Lib.hid hI5
            have HN7 := Lib.hid (HN6.out.below hB7)
            have HX7 := Lib.hid (HX6.out.trans (hB7.mono HX6.out.size))
            simp only [putAll, v0, v1, v2, v3, v4, v5, v6, v7, v8, v9, v10]
            clear v0 v1 v2 v3 v4 v5 v6 v7 v8 v9 v10 hvs hB7 hI5
            simp only [dstOf, Act.put, List.getElem?_toArray, List.getElem?_cons_zero, List.getElem?_cons_succ, Option.bind_some, Option.getD_some, List.setIfInBounds_toArray, List.set_cons_succ, List.set_cons_zero, List.drop_succ_cons, List.drop_zero]
            go_upto_region 21 with fail
            go_wp2_with (go_at_call 36; refine (Same_eq p5 _ c5 _ Lx [co] nx 1 true _ (HI5.out.below (by (repeat (first | (with_reducible exact Below.refl _ _) | (with_reducible assumption) | ((with_reducible refine below_ext_trans ?_ ?_ _); rotate_left; focus (((try dsimp only); repeat (first | omega | simp only [World.size_alloc, World.size_setCell, World.size_drew] | (with_reducible refine le_ext_of ?_) | (with_reducible refine le_ext_add ?_))); done)) | ((with_reducible refine Below.alloc ?_ ?_ _); rotate_left; focus (((try dsimp only); repeat (first | omega | simp only [World.size_alloc, World.size_setCell, World.size_drew] | (with_reducible refine le_ext_of ?_) | (with_reducible refine le_ext_add ?_))); done)) | ((with_reducible refine Below.setCell ?_ ?_ _); rotate_left; focus (((try dsimp only); repeat (first | omega | simp only [World.size_alloc, World.size_setCell, World.size_drew] | (with_reducible refine le_ext_of ?_) | (with_reducible refine le_ext_add ?_))); done)) | (with_reducible refine Below.drew ?_))))) (ints_one _ _ _) E5.out (by simp) E4.out rfl HF.out).mono ?_; rintro e w1 ⟨rfl, y8, rfl⟩)
            go_roundw
            case rel => exact ⟨2, by omega, by omega, rfl, by refine ext_of (HX7.out.trans (Below.mono ?_ HX7.out.size)); (repeat (first | (with_reducible exact Below.refl _ _) | (with_reducible assumption) | ((with_reducible refine below_ext_trans ?_ ?_ _); rotate_left; focus (((try dsimp only); repeat (first | omega | simp only [World.size_alloc, World.size_setCell, World.size_drew] | (with_reducible refine le_ext_of ?_) | (with_reducible refine le_ext_add ?_))); done)) | ((with_reducible refine Below.alloc ?_ ?_ _); rotate_left; focus (((try dsimp only); repeat (first | omega | simp only [World.size_alloc, World.size_setCell, World.size_drew] | (with_reducible refine le_ext_of ?_) | (with_reducible refine le_ext_add ?_))); done)) | ((with_reducible refine Below.setCell ?_ ?_ _); rotate_left; focus (((try dsimp only); repeat (first | omega | simp only [World.size_alloc, World.size_setCell, World.size_drew] | (with_reducible refine le_ext_of ?_) | (with_reducible refine le_ext_add ?_))); done)) | (with_reducible refine Below.drew ?_)))⟩
            case measure => simp [intOf]
          · by_cases hw : 0 ≤ lo - 1
            · go_upto_region 20 with (go_at_call 25; refine (Between_yes _ _ _ _ (by omega) (by omega)).mono ?_; rintro e w1 ⟨rfl, rfl⟩)
              obtain ⟨lo', hi', nx, Lx, e1, e2, e3, e4, e5, e6⟩ := at_minute HV.out co HSL.out (t := lo - 1) (by omega) (by omega)
              have HF := Lib.hid (show decide (Lx = [co]) = false by rw [e6]; exact HRUN.out.pre _ (List.mem_of_getElem? HR.out) (lo - 1).toNat (by dsimp only; omega))
              have E1 := Lib.hid e1
              have E2 := Lib.hid e2
              have E3 := Lib.hid e3
              have E4 := Lib.hid e4
              have E5 := Lib.hid e5
              clear e1 e2 e3 e4 e5 e6
              clear d0 d1 d2 d3 r0 r1 r2 r3 kl k5l
              refine wp_region_flow_back 11 160 (endR (.agg #[.int .i64 b.n, .slice pb b.bs.length cb, .slice po b.os.length co', .slice ps b.ss.length cs]) st g5 2 2 (lo - 1) Lx nx) (by kernel_rfl) (by kernel_rfl) rfl (endR_kept _ _ _ _ _ _ _ _) ?_ ?_
              · intro i hin a W h1 h2 h3 h4 h5 K hK
                rcases (show i = 0 ∨ i = 1 ∨ i = 2 ∨ i = 3 ∨ i = 4 ∨ i = 5 ∨ i = 6 ∨ i = 7 ∨ i = 8 ∨ i = 9 ∨ i = 10 by omega) with hi0 | hi0 | hi0 | hi0 | hi0 | hi0 | hi0 | hi0 | hi0 | hi0 | hi0
                · subst hi0
                  exact st_val rfl (wanted_none rfl) (run_load_bk _ rfl (h3 2 (by kernel_rfl)) ((h5.block _ KB6.out.lt).trans KB6.out)) (hK _ _ rfl (Below.refl _ _))
                · subst hi0
                  exact st_move rfl rfl (wanted_none rfl) (h3 5 (by kernel_rfl)) (hK _ _ rfl (Below.refl _ _))
                · subst hi0
                  exact st_move rfl rfl (wanted_none rfl) (h3 13 (by kernel_rfl)) (hK _ _ rfl (Below.refl _ _))
                · subst hi0
                  exact st_move rfl rfl (wanted_none rfl) (h3 14 (by kernel_rfl)) (hK _ _ rfl (Below.refl _ _))
                · subst hi0
                  exact st_val rfl (wanted_none rfl) (run_index2 _ rfl (h4 2 (by kernel_rfl)) (h4 3 (by kernel_rfl))) (hK _ _ rfl (Below.refl _ _))
                · subst hi0
                  have k6 : Blk W g5 3 #[.int .i64 lo, .int .i64 hi, .int .i64 (lo - 1), .int .i64 (hi + 1)] := (h5.block _ K56.out.lt).trans K56.out
                  exact st_val rfl (wanted_none rfl) (run_load_int _ rfl (h4 4 (by kernel_rfl)) (k6.cell 2)) (hK _ _ rfl (Below.refl _ _))
                · subst hi0
                  refine st_call rfl rfl (wanted_none rfl) (args3 (h4 0 (by kernel_rfl)) (h4 1 (by kernel_rfl)) (h4 5 (by kernel_rfl))) (run_enter Tryd.func16 (by kernel_rfl) (by kernel_rfl) _) ?_
                  refine (Owners_eq ⟨pb, cb, po, co', ps, cs⟩ b st (lo - 1) lo' hi' Lx nx _ (HB6.out.below h5) HV.out (HN6.out.below h5) HSL.out (by omega) (by omega) E1.out E2.out E3.out E4.out).mono ?_
                  rintro e w1 ⟨p5, c5, rfl, hI5, y5, rfl⟩
                  exact ⟨_, rfl, hK _ _ ⟨p5, c5, rfl, hI5⟩ (below_ext _ _)⟩
                · subst hi0
                  obtain ⟨p5, c5, e, hI⟩ := h4 6 (by kernel_rfl)
                  exact st_move rfl rfl (wanted_none rfl) e (hK _ _ ⟨p5, c5, rfl, hI⟩ (Below.refl _ _))
                · subst hi0
                  obtain ⟨p5, c5, e, hI⟩ := h4 7 (by kernel_rfl)
                  exact st_val rfl (wanted_none rfl) (run_extract _ rfl e rfl) (hK _ _ ⟨p5, c5, rfl, hI⟩ (Below.refl _ _))
                · subst hi0
                  obtain ⟨p5, c5, e, hI⟩ := h4 7 (by kernel_rfl)
                  exact st_val rfl (wanted_none rfl) (run_extract _ rfl e rfl) (hK _ _ rfl (Below.refl _ _))
                · subst hi0
                  obtain ⟨p5, c5, e, hI⟩ := h4 8 (by kernel_rfl)
                  exact st_val rfl (wanted_none rfl) (run_assign _ rfl e) (hK _ _ ⟨p5, c5, rfl, hI⟩ (Below.refl _ _))
              intro vs W7 hvs hB7
              have v0 : vs 0 = _ := hvs 0 (by omega)
              have v1 : vs 1 = _ := hvs 1 (by omega)
              have v2 : vs 2 = _ := hvs 2 (by omega)
              have v3 : vs 3 = _ := hvs 3 (by omega)
              have v4 : vs 4 = _ := hvs 4 (by omega)
              have v5 : vs 5 = _ := hvs 5 (by omega)
              obtain ⟨p6, c6, v6, -⟩ := hvs 6 (by omega)
              obtain ⟨p7, c7, v7, -⟩ := hvs 7 (by omega)
              obtain ⟨p8, c8, v8, -⟩ := hvs 8 (by omega)
              have v9 : vs 9 = _ := hvs 9 (by omega)
              obtain ⟨p5, c5, v10, hI5⟩ := hvs 10 (by omega)
              have HI5 := Lib.hid hI5
              have HN7 := Lib.hid (HN6.out.below hB7)
              have HX7 := Lib.hid (HX6.out.trans (hB7.mono HX6.out.size))
              simp only [putAll, v0, v1, v2, v3, v4, v5, v6, v7, v8, v9, v10]
              clear v0 v1 v2 v3 v4 v5 v6 v7 v8 v9 v10 hvs hB7 hI5
              simp only [dstOf, Act.put, List.getElem?_toArray, List.getElem?_cons_zero, List.getElem?_cons_succ, Option.bind_some, Option.getD_some, List.setIfInBounds_toArray, List.set_cons_succ, List.set_cons_zero, List.drop_succ_cons, List.drop_zero]
              go_upto_region 21 with fail
              go_wp2_with (go_at_call 36; refine (Same_eq p5 _ c5 _ Lx [co] nx 1 false _ (HI5.out.below (by (repeat (first | (with_reducible exact Below.refl _ _) | (with_reducible assumption) | ((with_reducible refine below_ext_trans ?_ ?_ _); rotate_left; focus (((try dsimp only); repeat (first | omega | simp only [World.size_alloc, World.size_setCell, World.size_drew] | (with_reducible refine le_ext_of ?_) | (with_reducible refine le_ext_add ?_))); done)) | ((with_reducible refine Below.alloc ?_ ?_ _); rotate_left; focus (((try dsimp only); repeat (first | omega | simp only [World.size_alloc, World.size_setCell, World.size_drew] | (with_reducible refine le_ext_of ?_) | (with_reducible refine le_ext_add ?_))); done)) | ((with_reducible refine Below.setCell ?_ ?_ _); rotate_left; focus (((try dsimp only); repeat (first | omega | simp only [World.size_alloc, World.size_setCell, World.size_drew] | (with_reducible refine le_ext_of ?_) | (with_reducible refine le_ext_add ?_))); done)) | (with_reducible refine Below.drew ?_))))) (ints_one _ _ _) E5.out (by simp) E4.out rfl HF.out).mono ?_; rintro e w1 ⟨rfl, y8, rfl⟩)
              go_roundw
              case rel => exact ⟨3, by omega, by omega, rfl, by refine ext_of (HX7.out.trans (Below.mono ?_ HX7.out.size)); (repeat (first | (with_reducible exact Below.refl _ _) | (with_reducible assumption) | ((with_reducible refine below_ext_trans ?_ ?_ _); rotate_left; focus (((try dsimp only); repeat (first | omega | simp only [World.size_alloc, World.size_setCell, World.size_drew] | (with_reducible refine le_ext_of ?_) | (with_reducible refine le_ext_add ?_))); done)) | ((with_reducible refine Below.alloc ?_ ?_ _); rotate_left; focus (((try dsimp only); repeat (first | omega | simp only [World.size_alloc, World.size_setCell, World.size_drew] | (with_reducible refine le_ext_of ?_) | (with_reducible refine le_ext_add ?_))); done)) | ((with_reducible refine Below.setCell ?_ ?_ _); rotate_left; focus (((try dsimp only); repeat (first | omega | simp only [World.size_alloc, World.size_setCell, World.size_drew] | (with_reducible refine le_ext_of ?_) | (with_reducible refine le_ext_add ?_))); done)) | (with_reducible refine Below.drew ?_)))⟩
              case measure => simp [intOf]
            · have hdec : decide ((0 : Int) ≤ lo - 1 ∧ lo - 1 ≤ 1439) = false := by simp; omega
              go_wp2_with (go_at_call 25; refine (Between_any _ _ _ _).mono ?_; rw [hdec]; rintro e w1 ⟨rfl, rfl⟩)
              go_roundw
              case rel => exact ⟨3, by omega, by omega, rfl, ext_of HX6.out⟩
              case measure => simp [intOf]
          · by_cases hw : hi + 1 ≤ 1439
            · go_upto_region 20 with (go_at_call 25; refine (Between_yes _ _ _ _ (by omega) (by omega)).mono ?_; rintro e w1 ⟨rfl, rfl⟩)
              obtain ⟨lo', hi', nx, Lx, e1, e2, e3, e4, e5, e6⟩ := at_minute HV.out co HSL.out (t := hi + 1) (by omega) (by omega)
              have HF := Lib.hid (show decide (Lx = [co]) = false by rw [e6]; exact HRUN.out.post _ (List.mem_of_getElem? HR.out) (hi + 1).toNat (by dsimp only; omega) (by omega))
              have E1 := Lib.hid e1
              have E2 := Lib.hid e2
              have E3 := Lib.hid e3
              have E4 := Lib.hid e4
              have E5 := Lib.hid e5
              clear e1 e2 e3 e4 e5 e6
              clear d0 d1 d2 d3 r0 r1 r2 r3 kl k5l
              refine wp_region_flow_back 11 160 (endR (.agg #[.int .i64 b.n, .slice pb b.bs.length cb, .slice po b.os.length co', .slice ps b.ss.length cs]) st g5 3 3 (hi + 1) Lx nx) (by kernel_rfl) (by kernel_rfl) rfl (endR_kept _ _ _ _ _ _ _ _) ?_ ?_
              · intro i hin a W h1 h2 h3 h4 h5 K hK
                rcases (show i = 0 ∨ i = 1 ∨ i = 2 ∨ i = 3 ∨ i = 4 ∨ i = 5 ∨ i = 6 ∨ i = 7 ∨ i = 8 ∨ i = 9 ∨ i = 10 by omega) with hi0 | hi0 | hi0 | hi0 | hi0 | hi0 | hi0 | hi0 | hi0 | hi0 | hi0
                · subst hi0
                  exact st_val rfl (wanted_none rfl) (run_load_bk _ rfl (h3 2 (by kernel_rfl)) ((h5.block _ KB6.out.lt).trans KB6.out)) (hK _ _ rfl (Below.refl _ _))
                · subst hi0
                  exact st_move rfl rfl (wanted_none rfl) (h3 5 (by kernel_rfl)) (hK _ _ rfl (Below.refl _ _))
                · subst hi0
                  exact st_move rfl rfl (wanted_none rfl) (h3 13 (by kernel_rfl)) (hK _ _ rfl (Below.refl _ _))
                · subst hi0
                  exact st_move rfl rfl (wanted_none rfl) (h3 14 (by kernel_rfl)) (hK _ _ rfl (Below.refl _ _))
                · subst hi0
                  exact st_val rfl (wanted_none rfl) (run_index3 _ rfl (h4 2 (by kernel_rfl)) (h4 3 (by kernel_rfl))) (hK _ _ rfl (Below.refl _ _))
                · subst hi0
                  have k6 : Blk W g5 3 #[.int .i64 lo, .int .i64 hi, .int .i64 (lo - 1), .int .i64 (hi + 1)] := (h5.block _ K56.out.lt).trans K56.out
                  exact st_val rfl (wanted_none rfl) (run_load_int _ rfl (h4 4 (by kernel_rfl)) (k6.cell 3)) (hK _ _ rfl (Below.refl _ _))
                · subst hi0
                  refine st_call rfl rfl (wanted_none rfl) (args3 (h4 0 (by kernel_rfl)) (h4 1 (by kernel_rfl)) (h4 5 (by kernel_rfl))) (run_enter Tryd.func16 (by kernel_rfl) (by kernel_rfl) _) ?_
                  refine (Owners_eq ⟨pb, cb, po, co', ps, cs⟩ b st (hi + 1) lo' hi' Lx nx _ (HB6.out.below h5) HV.out (HN6.out.below h5) HSL.out (by omega) (by omega) E1.out E2.out E3.out E4.out).mono ?_
                  rintro e w1 ⟨p5, c5, rfl, hI5, y5, rfl⟩
                  exact ⟨_, rfl, hK _ _ ⟨p5, c5, rfl, hI5⟩ (below_ext _ _)⟩
                · subst hi0
                  obtain ⟨p5, c5, e, hI⟩ := h4 6 (by kernel_rfl)
                  exact st_move rfl rfl (wanted_none rfl) e (hK _ _ ⟨p5, c5, rfl, hI⟩ (Below.refl _ _))
                · subst hi0
                  obtain ⟨p5, c5, e, hI⟩ := h4 7 (by kernel_rfl)
                  exact st_val rfl (wanted_none rfl) (run_extract _ rfl e rfl) (hK _ _ ⟨p5, c5, rfl, hI⟩ (Below.refl _ _))
                · subst hi0
                  obtain ⟨p5, c5, e, hI⟩ := h4 7 (by kernel_rfl)
                  exact st_val rfl (wanted_none rfl) (run_extract _ rfl e rfl) (hK _ _ rfl (Below.refl _ _))
                · subst hi0
                  obtain ⟨p5, c5, e, hI⟩ := h4 8 (by kernel_rfl)
                  exact st_val rfl (wanted_none rfl) (run_assign _ rfl e) (hK _ _ ⟨p5, c5, rfl, hI⟩ (Below.refl _ _))
              intro vs W7 hvs hB7
              have v0 : vs 0 = _ := hvs 0 (by omega)
              have v1 : vs 1 = _ := hvs 1 (by omega)
              have v2 : vs 2 = _ := hvs 2 (by omega)
              have v3 : vs 3 = _ := hvs 3 (by omega)
              have v4 : vs 4 = _ := hvs 4 (by omega)
              have v5 : vs 5 = _ := hvs 5 (by omega)
              obtain ⟨p6, c6, v6, -⟩ := hvs 6 (by omega)
              obtain ⟨p7, c7, v7, -⟩ := hvs 7 (by omega)
              obtain ⟨p8, c8, v8, -⟩ := hvs 8 (by omega)
              have v9 : vs 9 = _ := hvs 9 (by omega)
              obtain ⟨p5, c5, v10, hI5⟩ := hvs 10 (by omega)
              have HI5 := Lib.hid hI5
              have HN7 := Lib.hid (HN6.out.below hB7)
              have HX7 := Lib.hid (HX6.out.trans (hB7.mono HX6.out.size))
              simp only [putAll, v0, v1, v2, v3, v4, v5, v6, v7, v8, v9, v10]
              clear v0 v1 v2 v3 v4 v5 v6 v7 v8 v9 v10 hvs hB7 hI5
              simp only [dstOf, Act.put, List.getElem?_toArray, List.getElem?_cons_zero, List.getElem?_cons_succ, Option.bind_some, Option.getD_some, List.setIfInBounds_toArray, List.set_cons_succ, List.set_cons_zero, List.drop_succ_cons, List.drop_zero]
              go_upto_region 21 with fail
              go_wp2_with (go_at_call 36; refine (Same_eq p5 _ c5 _ Lx [co] nx 1 false _ (HI5.out.below (by (repeat (first | (with_reducible exact Below.refl _ _) | (with_reducible assumption) | ((with_reducible refine below_ext_trans ?_ ?_ _); rotate_left; focus (((try dsimp only); repeat (first | omega | simp only [World.size_alloc, World.size_setCell, World.size_drew] | (with_reducible refine le_ext_of ?_) | (with_reducible refine le_ext_add ?_))); done)) | ((with_reducible refine Below.alloc ?_ ?_ _); rotate_left; focus (((try dsimp only); repeat (first | omega | simp only [World.size_alloc, World.size_setCell, World.size_drew] | (with_reducible refine le_ext_of ?_) | (with_reducible refine le_ext_add ?_))); done)) | ((with_reducible refine Below.setCell ?_ ?_ _); rotate_left; focus (((try dsimp only); repeat (first | omega | simp only [World.size_alloc, World.size_setCell, World.size_drew] | (with_reducible refine le_ext_of ?_) | (with_reducible refine le_ext_add ?_))); done)) | (with_reducible refine Below.drew ?_))))) (ints_one _ _ _) E5.out (by simp) E4.out rfl HF.out).mono ?_; rintro e w1 ⟨rfl, y8, rfl⟩)
              go_roundw
              case rel => exact ⟨4, by omega, by omega, rfl, by refine ext_of (HX7.out.trans (Below.mono ?_ HX7.out.size)); (repeat (first | (with_reducible exact Below.refl _ _) | (with_reducible assumption) | ((with_reducible refine below_ext_trans ?_ ?_ _); rotate_left; focus (((try dsimp only); repeat (first | omega | simp only [World.size_alloc, World.size_setCell, World.size_drew] | (with_reducible refine le_ext_of ?_) | (with_reducible refine le_ext_add ?_))); done)) | ((with_reducible refine Below.alloc ?_ ?_ _); rotate_left; focus (((try dsimp only); repeat (first | omega | simp only [World.size_alloc, World.size_setCell, World.size_drew] | (with_reducible refine le_ext_of ?_) | (with_reducible refine le_ext_add ?_))); done)) | ((with_reducible refine Below.setCell ?_ ?_ _); rotate_left; focus (((try dsimp only); repeat (first | omega | simp only [World.size_alloc, World.size_setCell, World.size_drew] | (with_reducible refine le_ext_of ?_) | (with_reducible refine le_ext_add ?_))); done)) | (with_reducible refine Below.drew ?_)))⟩
              case measure => simp [intOf]
            · have hdec : decide ((0 : Int) ≤ hi + 1 ∧ hi + 1 ≤ 1439) = false := by simp; omega
              go_wp2_with (go_at_call 25; refine (Between_any _ _ _ _).mono ?_; rw [hdec]; rintro e w1 ⟨rfl, rfl⟩)
              go_roundw
              case rel => exact ⟨4, by omega, by omega, rfl, ext_of HX6.out⟩
              case measure => simp [intOf]
          · go_wp2_with fail
            go_roundw
            case rel => exact ⟨k + 1, hi, q2, by omega, by go_num, rfl, rfl, by omega, by omega, Lib.hid (fun r hr => by have h1 := List.pairwise_iff_getElem.1 HRUN.out.pair k (k + 1) (List.getElem?_eq_some_iff.1 HR.out).1 (List.getElem?_eq_some_iff.1 hr).1 (by omega); rw [(List.getElem?_eq_some_iff.1 HR.out).2, (List.getElem?_eq_some_iff.1 hr).2] at h1; exact h1), HQ2, ext_of (HX5.out.trans (HX6.out.mono HX5.out.size))⟩
            case measure => simp [intOf]; omega
      | true =>
        go_upto_region 15 with (go_at_call 35; refine (Sane_yes _ _ _ _ _ (by omega) (by omega) (by omega)).mono ?_; rintro e w1 ⟨rfl, y3, rfl⟩)
        obtain HQ2 : Hid (true = (L.take (k + 1)).any fun r => decide (r.1 ≤ m) && decide (m ≤ r.2)) := Lib.hid (by
          obtain ⟨hkl, her⟩ := List.getElem?_eq_some_iff.1 HR.out
          rw [List.take_succ_eq_append_getElem hkl, List.any_append, ← HQ.out, her]
          simp)
        clear HQ HZ
        refine wp_region_ext_tail 22 (by kernel_rfl) (by kernel_rfl) ?_
        simp only [List.take_succ_cons, List.take_zero, List.drop_succ_cons, List.drop_zero]
        repeat (go_big_quiet_step (fail))
        refine wpQuiet_nil ?_
        rintro W4 ⟨x4, hW4⟩
        have hB4 : Below W3.heap.size W3 W4 := by rw [hW4]; (repeat (first | (with_reducible exact Below.refl _ _) | (with_reducible assumption) | ((with_reducible refine below_ext_trans ?_ ?_ _); rotate_left; focus (((try dsimp only); repeat (first | omega | simp only [World.size_alloc, World.size_setCell, World.size_drew] | (with_reducible refine le_ext_of ?_) | (with_reducible refine le_ext_add ?_))); done)) | ((with_reducible refine Below.alloc ?_ ?_ _); rotate_left; focus (((try dsimp only); repeat (first | omega | simp only [World.size_alloc, World.size_setCell, World.size_drew] | (with_reducible refine le_ext_of ?_) | (with_reducible refine le_ext_add ?_))); done)) | ((with_reducible refine Below.setCell ?_ ?_ _); rotate_left; focus (((try dsimp only); repeat (first | omega | simp only [World.size_alloc, World.size_setCell, World.size_drew] | (with_reducible refine le_ext_of ?_) | (with_reducible refine le_ext_add ?_))); done)) | (with_reducible refine Below.drew ?_)))
        clear hW4 d0 d1 d2 d3 kl c0 c1 hgl
        have kb4 := KB3.out.bel hB4
        have HB4 := Lib.hid (HB3.out.below hB4)
        have HN4 := Lib.hid (HN3.out.below hB4)
        have HX4 := Lib.hid (HX3.out.trans (hB4.mono HX3.out.size))
        clear hB4
        go_wp2_with fail
        generalize hW5 : W4.alloc _ = W5
        generalize hg5 : W4.heap.size = g5
        have k5 : Blk W5 g5 3 #[.int .i64 lo, .int .i64 hi, .int .i64 (lo - 1), .int .i64 (hi + 1)] := by rw [← hW5]; exact Blk.new hg5.symm
        have hB5 : Below W4.heap.size W4 W5 := by rw [← hW5]; (repeat (first | (with_reducible exact Below.refl _ _) | (with_reducible assumption) | ((with_reducible refine below_ext_trans ?_ ?_ _); rotate_left; focus (((try dsimp only); repeat (first | omega | simp only [World.size_alloc, World.size_setCell, World.size_drew] | (with_reducible refine le_ext_of ?_) | (with_reducible refine le_ext_add ?_))); done)) | ((with_reducible refine Below.alloc ?_ ?_ _); rotate_left; focus (((try dsimp only); repeat (first | omega | simp only [World.size_alloc, World.size_setCell, World.size_drew] | (with_reducible refine le_ext_of ?_) | (with_reducible refine le_ext_add ?_))); done)) | ((with_reducible refine Below.setCell ?_ ?_ _); rotate_left; focus (((try dsimp only); repeat (first | omega | simp only [World.size_alloc, World.size_setCell, World.size_drew] | (with_reducible refine le_ext_of ?_) | (with_reducible refine le_ext_add ?_))); done)) | (with_reducible refine Below.drew ?_)))
        have KB5 := Lib.hid (kb4.bel hB5)
        have HB5 := Lib.hid (HB4.out.below hB5)
        have HN5 := Lib.hid (HN4.out.below hB5)
        have HX5 := Lib.hid (HX4.out.trans (hB5.mono HX4.out.size))
        have K5 := Lib.hid k5
        clear hW5 hg5 k5 hB5 kb4
        go_loopw [14] (fun i wr => ∃ j : Int, 0 ≤ j ∧ j ≤ 4 ∧ i = .int .i64 j ∧ ∃ x, wr = ext W5 x) (fun i _ => 4 - (intOf i).toNat)
        case atStart => exact ⟨0, by omega, by omega, rfl, ext_of (Below.refl _ _)⟩
        case round =>
          obtain ⟨j, hj0, hj4, rfl, x5, rfl⟩ := hrel
          have hB6 : Below W5.heap.size W5 (ext W5 x5) := below_ext W5 x5
          generalize ext W5 x5 = W6 at *
          have kb6 := KB5.out.bel hB6
          have k56 := K5.out.bel hB6
          have d0 := kb6.cell 0
          have d1 := kb6.cell 1
          have d2 := kb6.cell 2
          have d3 := kb6.cell 3
          have r0 := k56.cell 0
          have r1 := k56.cell 1
          have r2 := k56.cell 2
          have r3 := k56.cell 3
          simp only [List.size_toArray, List.length_cons, List.length_nil, Nat.reduceAdd, Nat.reduceLT, getElem?_pos, List.getElem_toArray, List.getElem_cons_zero, List.getElem_cons_succ] at d0 d1 d2 d3 r0 r1 r2 r3
          have kl := kb6.lt
          have k5l := k56.lt
          have HB6 := Lib.hid (HB5.out.below hB6)
          have HN6 := Lib.hid (HN5.out.below hB6)
          have HX6 := Lib.hid hB6
          have KB6 := Lib.hid kb6
          have K56 := Lib.hid k56
          clear kb6 k56 hB6
          have hj : j = 0 ∨ j = 1 ∨ j = 2 ∨ j = 3 ∨ j = 4 := by omega
          rcases hj with rfl | rfl | rfl | rfl | rfl
          · go_upto_region 20 with (go_at_call 25; refine (Between_yes _ _ _ _ (by omega) (by omega)).mono ?_; rintro e w1 ⟨rfl, rfl⟩)
            obtain ⟨lo', hi', nx, Lx, e1, e2, e3, e4, e5, e6⟩ := at_minute HV.out co HSL.out (t := lo) (by omega) (by omega)
            have HF := Lib.hid (show decide (Lx = [co]) = true by rw [e6]; exact HRUN.out.yes _ (List.mem_of_getElem? HR.out) lo.toNat (by dsimp only; omega) (by dsimp only; omega))
            have E1 := Lib.hid e1
            have E2 := Lib.hid e2
            have E3 := Lib.hid e3
            have E4 := Lib.hid e4
            have E5 := Lib.hid e5
            clear e1 e2 e3 e4 e5 e6
            clear d0 d1 d2 d3 r0 r1 r2 r3 kl k5l
            refine wp_region_flow_back 11 160 (endR (.agg #[.int .i64 b.n, .slice pb b.bs.length cb, .slice po b.os.length co', .slice ps b.ss.length cs]) st g5 0 0 (lo) Lx nx) (by kernel_rfl) (by kernel_rfl) rfl (endR_kept _ _ _ _ _ _ _ _) ?_ ?_
            · intro i hin a W h1 h2 h3 h4 h5 K hK
              rcases (show i = 0 ∨ i = 1 ∨ i = 2 ∨ i = 3 ∨ i = 4 ∨ i = 5 ∨ i = 6 ∨ i = 7 ∨ i = 8 ∨ i = 9 ∨ i = 10 by omega) with hi0 | hi0 | hi0 | hi0 | hi0 | hi0 | hi0 | hi0 | hi0 | hi0 | hi0
              · subst hi0
                exact st_val rfl (wanted_none rfl) (run_load_bk _ rfl (h3 2 (by kernel_rfl)) ((h5.block _ KB6.out.lt).trans KB6.out)) (hK _ _ rfl (Below.refl _ _))
              · subst hi0
                exact st_move rfl rfl (wanted_none rfl) (h3 5 (by kernel_rfl)) (hK _ _ rfl (Below.refl _ _))
              · subst hi0
                exact st_move rfl rfl (wanted_none rfl) (h3 13 (by kernel_rfl)) (hK _ _ rfl (Below.refl _ _))
              · subst hi0
                exact st_move rfl rfl (wanted_none rfl) (h3 14 (by kernel_rfl)) (hK _ _ rfl (Below.refl _ _))
              · subst hi0
                exact st_val rfl (wanted_none rfl) (run_index0 _ rfl (h4 2 (by kernel_rfl)) (h4 3 (by kernel_rfl))) (hK _ _ rfl (Below.refl _ _))
              · subst hi0
                have k6 : Blk W g5 3 #[.int .i64 lo, .int .i64 hi, .int .i64 (lo - 1), .int .i64 (hi + 1)] := (h5.block _ K56.out.lt).trans K56.out
                exact st_val rfl (wanted_none rfl) (run_load_int _ rfl (h4 4 (by kernel_rfl)) (k6.cell 0)) (hK _ _ rfl (Below.refl _ _))
              · subst hi0
                refine st_call rfl rfl (wanted_none rfl) (args3 (h4 0 (by kernel_rfl)) (h4 1 (by kernel_rfl)) (h4 5 (by kernel_rfl))) (run_enter Tryd.func16 (by kernel_rfl) (by kernel_rfl) _) ?_
                refine (Owners_eq ⟨pb, cb, po, co', ps, cs⟩ b st (lo) lo' hi' Lx nx _ (HB6.out.below h5) HV.out (HN6.out.below h5) HSL.out (by omega) (by omega) E1.out E2.out E3.out E4.out).mono ?_
                rintro e w1 ⟨p5, c5, rfl, hI5, y5, rfl⟩
                exact ⟨_, rfl, hK _ _ ⟨p5, c5, rfl, hI5⟩ (below_ext _ _)⟩
              · subst hi0
                obtain ⟨p5, c5, e, hI⟩ := h4 6 (by kernel_rfl)
                exact st_move rfl rfl (wanted_none rfl) e (hK _ _ ⟨p5, c5, rfl, hI⟩ (Below.refl _ _))
              · subst hi0
                obtain ⟨p5, c5, e, hI⟩ := h4 7 (by kernel_rfl)
                exact st_val rfl (wanted_none rfl) (run_extract _ rfl e rfl) (hK _ _ ⟨p5, c5, rfl, hI⟩ (Below.refl _ _))
              · subst hi0
                obtain ⟨p5, c5, e, hI⟩ := h4 7 (by kernel_rfl)
                exact st_val rfl (wanted_none rfl) (run_extract _ rfl e rfl) (hK _ _ rfl (Below.refl _ _))
              · subst hi0
                obtain ⟨p5, c5, e, hI⟩ := h4 8 (by kernel_rfl)
                exact st_val rfl (wanted_none rfl) (run_assign _ rfl e) (hK _ _ ⟨p5, c5, rfl, hI⟩ (Below.refl _ _))
            intro vs W7 hvs hB7
            have v0 : vs 0 = _ := hvs 0 (by omega)
            have v1 : vs 1 = _ := hvs 1 (by omega)
            have v2 : vs 2 = _ := hvs 2 (by omega)
            have v3 : vs 3 = _ := hvs 3 (by omega)
            have v4 : vs 4 = _ := hvs 4 (by omega)
            have v5 : vs 5 = _ := hvs 5 (by omega)
            obtain ⟨p6, c6, v6, -⟩ := hvs 6 (by omega)
            obtain ⟨p7, c7, v7, -⟩ := hvs 7 (by omega)
            obtain ⟨p8, c8, v8, -⟩ := hvs 8 (by omega)
            have v9 : vs 9 = _ := hvs 9 (by omega)
            obtain ⟨p5, c5, v10, hI5⟩ := hvs 10 (by omega)
            have HI5 := Lib.hid hI5
            have HN7 := Lib.hid (HN6.out.below hB7)
            have HX7 := Lib.hid (HX6.out.trans (hB7.mono HX6.out.size))
            simp only [putAll, v0, v1, v2, v3, v4, v5, v6, v7, v8, v9, v10]
            clear v0 v1 v2 v3 v4 v5 v6 v7 v8 v9 v10 hvs hB7 hI5
            simp only [dstOf, Act.put, List.getElem?_toArray, List.getElem?_cons_zero, List.getElem?_cons_succ, Option.bind_some, Option.getD_some, List.setIfInBounds_toArray, List.set_cons_succ, List.set_cons_zero, List.drop_succ_cons, List.drop_zero]
            go_upto_region 21 with fail
            go_wp2_with (go_at_call 36; refine (Same_eq p5 _ c5 _ Lx [co] nx 1 true _ (HI5.out.below (by (repeat (first | (with_reducible exact Below.refl _ _) | (with_reducible assumption) | ((with_reducible refine below_ext_trans ?_ ?_ _); rotate_left; focus (((try dsimp only); repeat (first | omega | simp only [World.size_alloc, World.size_setCell, World.size_drew] | (with_reducible refine le_ext_of ?_) | (with_reducible refine le_ext_add ?_))); done)) | ((with_reducible refine Below.alloc ?_ ?_ _); rotate_left; focus (((try dsimp only); repeat (first | omega | simp only [World.size_alloc, World.size_setCell, World.size_drew] | (with_reducible refine le_ext_of ?_) | (with_reducible refine le_ext_add ?_))); done)) | ((with_reducible refine Below.setCell ?_ ?_ _); rotate_left; focus (((try dsimp only); repeat (first | omega | simp only [World.size_alloc, World.size_setCell, World.size_drew] | (with_reducible refine le_ext_of ?_) | (with_reducible refine le_ext_add ?_))); done)) | (with_reducible refine Below.drew ?_))))) (ints_one _ _ _) E5.out (by simp) E4.out rfl HF.out).mono ?_; rintro e w1 ⟨rfl, y8, rfl⟩)
            go_roundw
            case rel => exact ⟨1, by omega, by omega, rfl, by refine ext_of (HX7.out.trans (Below.mono ?_ HX7.out.size)); (repeat (first | (with_reducible exact Below.refl _ _) | (with_reducible assumption) | ((with_reducible refine below_ext_trans ?_ ?_ _); rotate_left; focus (((try dsimp only); repeat (first | omega | simp only [World.size_alloc, World.size_setCell, World.size_drew] | (with_reducible refine le_ext_of ?_) | (with_reducible refine le_ext_add ?_))); done)) | ((with_reducible refine Below.alloc ?_ ?_ _); rotate_left; focus (((try dsimp only); repeat (first | omega | simp only [World.size_alloc, World.size_setCell, World.size_drew] | (with_reducible refine le_ext_of ?_) | (with_reducible refine le_ext_add ?_))); done)) | ((with_reducible refine Below.setCell ?_ ?_ _); rotate_left; focus (((try dsimp only); repeat (first | omega | simp only [World.size_alloc, World.size_setCell, World.size_drew] | (with_reducible refine le_ext_of ?_) | (with_reducible refine le_ext_add ?_))); done)) | (with_reducible refine Below.drew ?_)))⟩
            case measure => simp [intOf]
          · go_upto_region 20 with (go_at_call 25; refine (Between_yes _ _ _ _ (by omega) (by omega)).mono ?_; rintro e w1 ⟨rfl, rfl⟩)
            obtain ⟨lo', hi', nx, Lx, e1, e2, e3, e4, e5, e6⟩ := at_minute HV.out co HSL.out (t := hi) (by omega) (by omega)
            have HF := Lib.hid (show decide (Lx = [co]) = true by rw [e6]; exact HRUN.out.yes _ (List.mem_of_getElem? HR.out) hi.toNat (by dsimp only; omega) (by dsimp only; omega))
            have E1 := Lib.hid e1
            have E2 := Lib.hid e2
            have E3 := Lib.hid e3
            have E4 := Lib.hid e4
            have E5 := Lib.hid e5
            clear e1 e2 e3 e4 e5 e6
            clear d0 d1 d2 d3 r0 r1 r2 r3 kl k5l
            refine wp_region_flow_back 11 160 (endR (.agg #[.int .i64 b.n, .slice pb b.bs.length cb, .slice po b.os.length co', .slice ps b.ss.length cs]) st g5 1 1 (hi) Lx nx) (by kernel_rfl) (by kernel_rfl) rfl (endR_kept _ _ _ _ _ _ _ _) ?_ ?_
            · intro i hin a W h1 h2 h3 h4 h5 K hK
              rcases (show i = 0 ∨ i = 1 ∨ i = 2 ∨ i = 3 ∨ i = 4 ∨ i = 5 ∨ i = 6 ∨ i = 7 ∨ i = 8 ∨ i = 9 ∨ i = 10 by omega) with hi0 | hi0 | hi0 | hi0 | hi0 | hi0 | hi0 | hi0 | hi0 | hi0 | hi0
              · subst hi0
                exact st_val rfl (wanted_none rfl) (run_load_bk _ rfl (h3 2 (by kernel_rfl)) ((h5.block _ KB6.out.lt).trans KB6.out)) (hK _ _ rfl (Below.refl _ _))
              · subst hi0
                exact st_move rfl rfl (wanted_none rfl) (h3 5 (by kernel_rfl)) (hK _ _ rfl (Below.refl _ _))
              · subst hi0
                exact st_move rfl rfl (wanted_none rfl) (h3 13 (by kernel_rfl)) (hK _ _ rfl (Below.refl _ _))
              · subst hi0
                exact st_move rfl rfl (wanted_none rfl) (h3 14 (by kernel_rfl)) (hK _ _ rfl (Below.refl _ _))
              · subst hi0
                exact st_val rfl (wanted_none rfl) (run_index1 _ rfl (h4 2 (by kernel_rfl)) (h4 3 (by kernel_rfl))) (hK _ _ rfl (Below.refl _ _))
              · subst hi0
                have k6 : Blk W g5 3 #[.int .i64 lo, .int .i64 hi, .int .i64 (lo - 1), .int .i64 (hi + 1)] := (h5.block _ K56.out.lt).trans K56.out
                exact st_val rfl (wanted_none rfl) (run_load_int _ rfl (h4 4 (by kernel_rfl)) (k6.cell 1)) (hK _ _ rfl (Below.refl _ _))
              · subst hi0
                refine st_call rfl rfl (wanted_none rfl) (args3 (h4 0 (by kernel_rfl)) (h4 1 (by kernel_rfl)) (h4 5 (by kernel_rfl))) (run_enter Tryd.func16 (by kernel_rfl) (by kernel_rfl) _) ?_
                refine (Owners_eq ⟨pb, cb, po, co', ps, cs⟩ b st (hi) lo' hi' Lx nx _ (HB6.out.below h5) HV.out (HN6.out.below h5) HSL.out (by omega) (by omega) E1.out E2.out E3.out E4.out).mono ?_
                rintro e w1 ⟨p5, c5, rfl, hI5, y5, rfl⟩
                exact ⟨_, rfl, hK _ _ ⟨p5, c5, rfl, hI5⟩ (below_ext _ _)⟩
              · subst hi0
                obtain ⟨p5, c5, e, hI⟩ := h4 6 (by kernel_rfl)
                exact st_move rfl rfl (wanted_none rfl) e (hK _ _ ⟨p5, c5, rfl, hI⟩ (Below.refl _ _))
              · subst hi0
                obtain ⟨p5, c5, e, hI⟩ := h4 7 (by kernel_rfl)
                exact st_val rfl (wanted_none rfl) (run_extract _ rfl e rfl) (hK _ _ ⟨p5, c5, rfl, hI⟩ (Below.refl _ _))
              · subst hi0
                obtain ⟨p5, c5, e, hI⟩ := h4 7 (by kernel_rfl)
                exact st_val rfl (wanted_none rfl) (run_extract _ rfl e rfl) (hK _ _ rfl (Below.refl _ _))
              · subst hi0
                obtain ⟨p5, c5, e, hI⟩ := h4 8 (by kernel_rfl)
                exact st_val rfl (wanted_none rfl) (run_assign _ rfl e) (hK _ _ ⟨p5, c5, rfl, hI⟩ (Below.refl _ _))
            intro vs W7 hvs hB7
            have v0 : vs 0 = _ := hvs 0 (by omega)
            have v1 : vs 1 = _ := hvs 1 (by omega)
            have v2 : vs 2 = _ := hvs 2 (by omega)
            have v3 : vs 3 = _ := hvs 3 (by omega)
            have v4 : vs 4 = _ := hvs 4 (by omega)
            have v5 : vs 5 = _ := hvs 5 (by omega)
            obtain ⟨p6, c6, v6, -⟩ := hvs 6 (by omega)
            obtain ⟨p7, c7, v7, -⟩ := hvs 7 (by omega)
            obtain ⟨p8, c8, v8, -⟩ := hvs 8 (by omega)
            have v9 : vs 9 = _ := hvs 9 (by omega)
            obtain ⟨p5, c5, v10, hI5⟩ := hvs 10 (by omega)
            have HI5 := Lib.hid hI5
            have HN7 := Lib.hid (HN6.out.below hB7)
            have HX7 := Lib.hid (HX6.out.trans (hB7.mono HX6.out.size))
            simp only [putAll, v0, v1, v2, v3, v4, v5, v6, v7, v8, v9, v10]
            clear v0 v1 v2 v3 v4 v5 v6 v7 v8 v9 v10 hvs hB7 hI5
            simp only [dstOf, Act.put, List.getElem?_toArray, List.getElem?_cons_zero, List.getElem?_cons_succ, Option.bind_some, Option.getD_some, List.setIfInBounds_toArray, List.set_cons_succ, List.set_cons_zero, List.drop_succ_cons, List.drop_zero]
            go_upto_region 21 with fail
            go_wp2_with (go_at_call 36; refine (Same_eq p5 _ c5 _ Lx [co] nx 1 true _ (HI5.out.below (by (repeat (first | (with_reducible exact Below.refl _ _) | (with_reducible assumption) | ((with_reducible refine below_ext_trans ?_ ?_ _); rotate_left; focus (((try dsimp only); repeat (first | omega | simp only [World.size_alloc, World.size_setCell, World.size_drew] | (with_reducible refine le_ext_of ?_) | (with_reducible refine le_ext_add ?_))); done)) | ((with_reducible refine Below.alloc ?_ ?_ _); rotate_left; focus (((try dsimp only); repeat (first | omega | simp only [World.size_alloc, World.size_setCell, World.size_drew] | (with_reducible refine le_ext_of ?_) | (with_reducible refine le_ext_add ?_))); done)) | ((with_reducible refine Below.setCell ?_ ?_ _); rotate_left; focus (((try dsimp only); repeat (first | omega | simp only [World.size_alloc, World.size_setCell, World.size_drew] | (with_reducible refine le_ext_of ?_) | (with_reducible refine le_ext_add ?_))); done)) | (with_reducible refine Below.drew ?_))))) (ints_one _ _ _) E5.out (by simp) E4.out rfl HF.out).mono ?_; rintro e w1 ⟨rfl, y8, rfl⟩)
            go_roundw
            case rel => exact ⟨2, by omega, by omega, rfl, by refine ext_of (HX7.out.trans (Below.mono ?_ HX7.out.size)); (repeat (first | (with_reducible exact Below.refl _ _) | (with_reducible assumption) | ((with_reducible refine below_ext_trans ?_ ?_ _); rotate_left; focus (((try dsimp only); repeat (first | omega | simp only [World.size_alloc, World.size_setCell, World.size_drew] | (with_reducible refine le_ext_of ?_) | (with_reducible refine le_ext_add ?_))); done)) | ((with_reducible refine Below.alloc ?_ ?_ _); rotate_left; focus (((try dsimp only); repeat (first | omega | simp only [World.size_alloc, World.size_setCell, World.size_drew] | (with_reducible refine le_ext_of ?_) | (with_reducible refine le_ext_add ?_))); done)) | ((with_reducible refine Below.setCell ?_ ?_ _); rotate_left; focus (((try dsimp only); repeat (first | omega | simp only [World.size_alloc, World.size_setCell, World.size_drew] | (with_reducible refine le_ext_of ?_) | (with_reducible refine le_ext_add ?_))); done)) | (with_reducible refine Below.drew ?_)))⟩
            case measure => simp [intOf]
          · by_cases hw : 0 ≤ lo - 1
            · go_upto_region 20 with (go_at_call 25; refine (Between_yes _ _ _ _ (by omega) (by omega)).mono ?_; rintro e w1 ⟨rfl, rfl⟩)
              obtain ⟨lo', hi', nx, Lx, e1, e2, e3, e4, e5, e6⟩ := at_minute HV.out co HSL.out (t := lo - 1) (by omega) (by omega)
              have HF := Lib.hid (show decide (Lx = [co]) = false by rw [e6]; exact HRUN.out.pre _ (List.mem_of_getElem? HR.out) (lo - 1).toNat (by dsimp only; omega))
              have E1 := Lib.hid e1
              have E2 := Lib.hid e2
              have E3 := Lib.hid e3
              have E4 := Lib.hid e4
              have E5 := Lib.hid e5
              clear e1 e2 e3 e4 e5 e6
              clear d0 d1 d2 d3 r0 r1 r2 r3 kl k5l
              refine wp_region_flow_back 11 160 (endR (.agg #[.int .i64 b.n, .slice pb b.bs.length cb, .slice po b.os.length co', .slice ps b.ss.length cs]) st g5 2 2 (lo - 1) Lx nx) (by kernel_rfl) (by kernel_rfl) rfl (endR_kept _ _ _ _ _ _ _ _) ?_ ?_
              · intro i hin a W h1 h2 h3 h4 h5 K hK
                rcases (show i = 0 ∨ i = 1 ∨ i = 2 ∨ i = 3 ∨ i = 4 ∨ i = 5 ∨ i = 6 ∨ i = 7 ∨ i = 8 ∨ i = 9 ∨ i = 10 by omega) with hi0 | hi0 | hi0 | hi0 | hi0 | hi0 | hi0 | hi0 | hi0 | hi0 | hi0
                · subst hi0
                  exact st_val rfl (wanted_none rfl) (run_load_bk _ rfl (h3 2 (by kernel_rfl)) ((h5.block _ KB6.out.lt).trans KB6.out)) (hK _ _ rfl (Below.refl _ _))
                · subst hi0
                  exact st_move rfl rfl (wanted_none rfl) (h3 5 (by kernel_rfl)) (hK _ _ rfl (Below.refl _ _))
                · subst hi0
                  exact st_move rfl rfl (wanted_none rfl) (h3 13 (by kernel_rfl)) (hK _ _ rfl (Below.refl _ _))
                · subst hi0
                  exact st_move rfl rfl (wanted_none rfl) (h3 14 (by kernel_rfl)) (hK _ _ rfl (Below.refl _ _))
                · subst hi0
                  exact st_val rfl (wanted_none rfl) (run_index2 _ rfl (h4 2 (by kernel_rfl)) (h4 3 (by kernel_rfl))) (hK _ _ rfl (Below.refl _ _))
                · subst hi0
                  have k6 : Blk W g5 3 #[.int .i64 lo, .int .i64 hi, .int .i64 (lo - 1), .int .i64 (hi + 1)] := (h5.block _ K56.out.lt).trans K56.out
                  exact st_val rfl (wanted_none rfl) (run_load_int _ rfl (h4 4 (by kernel_rfl)) (k6.cell 2)) (hK _ _ rfl (Below.refl _ _))
                · subst hi0
                  refine st_call rfl rfl (wanted_none rfl) (args3 (h4 0 (by kernel_rfl)) (h4 1 (by kernel_rfl)) (h4 5 (by kernel_rfl))) (run_enter Tryd.func16 (by kernel_rfl) (by kernel_rfl) _) ?_
                  refine (Owners_eq ⟨pb, cb, po, co', ps, cs⟩ b st (lo - 1) lo' hi' Lx nx _ (HB6.out.below h5) HV.out (HN6.out.below h5) HSL.out (by omega) (by omega) E1.out E2.out E3.out E4.out).mono ?_
                  rintro e w1 ⟨p5, c5, rfl, hI5, y5, rfl⟩
                  exact ⟨_, rfl, hK _ _ ⟨p5, c5, rfl, hI5⟩ (below_ext _ _)⟩
                · subst hi0
                  obtain ⟨p5, c5, e, hI⟩ := h4 6 (by kernel_rfl)
                  exact st_move rfl rfl (wanted_none rfl) e (hK _ _ ⟨p5, c5, rfl, hI⟩ (Below.refl _ _))
                · subst hi0
                  obtain ⟨p5, c5, e, hI⟩ := h4 7 (by kernel_rfl)
                  exact st_val rfl (wanted_none rfl) (run_extract _ rfl e rfl) (hK _ _ ⟨p5, c5, rfl, hI⟩ (Below.refl _ _))
                · subst hi0
                  obtain ⟨p5, c5, e, hI⟩ := h4 7 (by kernel_rfl)
                  exact st_val rfl (wanted_none rfl) (run_extract _ rfl e rfl) (hK _ _ rfl (Below.refl _ _))
                · subst hi0
                  obtain ⟨p5, c5, e, hI⟩ := h4 8 (by kernel_rfl)
                  exact st_val rfl (wanted_none rfl) (run_assign _ rfl e) (hK _ _ ⟨p5, c5, rfl, hI⟩ (Below.refl _ _))
              intro vs W7 hvs hB7
              have v0 : vs 0 = _ := hvs 0 (by omega)
              have v1 : vs 1 = _ := hvs 1 (by omega)
              have v2 : vs 2 = _ := hvs 2 (by omega)
              have v3 : vs 3 = _ := hvs 3 (by omega)
              have v4 : vs 4 = _ := hvs 4 (by omega)
              have v5 : vs 5 = _ := hvs 5 (by omega)
              obtain ⟨p6, c6, v6, -⟩ := hvs 6 (by omega)
              obtain ⟨p7, c7, v7, -⟩ := hvs 7 (by omega)
              obtain ⟨p8, c8, v8, -⟩ := hvs 8 (by omega)
              have v9 : vs 9 = _ := hvs 9 (by omega)
              obtain ⟨p5, c5, v10, hI5⟩ := hvs 10 (by omega)
              have HI5 := Lib.hid hI5
              have HN7 := Lib.hid (HN6.out.below hB7)
              have HX7 := Lib.hid (HX6.out.trans (hB7.mono HX6.out.size))
              simp only [putAll, v0, v1, v2, v3, v4, v5, v6, v7, v8, v9, v10]
              clear v0 v1 v2 v3 v4 v5 v6 v7 v8 v9 v10 hvs hB7 hI5
              simp only [dstOf, Act.put, List.getElem?_toArray, List.getElem?_cons_zero, List.getElem?_cons_succ, Option.bind_some, Option.getD_some, List.setIfInBounds_toArray, List.set_cons_succ, List.set_cons_zero, List.drop_succ_cons, List.drop_zero]
              go_upto_region 21 with fail
              go_wp2_with (go_at_call 36; refine (Same_eq p5 _ c5 _ Lx [co] nx 1 false _ (HI5.out.below (by (repeat (first | (with_reducible exact Below.refl _ _) | (with_reducible assumption) | ((with_reducible refine below_ext_trans ?_ ?_ _); rotate_left; focus (((try dsimp only); repeat (first | omega | simp only [World.size_alloc, World.size_setCell, World.size_drew] | (with_reducible refine le_ext_of ?_) | (with_reducible refine le_ext_add ?_))); done)) | ((with_reducible refine Below.alloc ?_ ?_ _); rotate_left; focus (((try dsimp only); repeat (first | omega | simp only [World.size_alloc, World.size_setCell, World.size_drew] | (with_reducible refine le_ext_of ?_) | (with_reducible refine le_ext_add ?_))); done)) | ((with_reducible refine Below.setCell ?_ ?_ _); rotate_left; focus (((try dsimp only); repeat (first | omega | simp only [World.size_alloc, World.size_setCell, World.size_drew] | (with_reducible refine le_ext_of ?_) | (with_reducible refine le_ext_add ?_))); done)) | (with_reducible refine Below.drew ?_))))) (ints_one _ _ _) E5.out (by simp) E4.out rfl HF.out).mono ?_; rintro e w1 ⟨rfl, y8, rfl⟩)
              go_roundw
              case rel => exact ⟨3, by omega, by omega, rfl, by refine ext_of (HX7.out.trans (Below.mono ?_ HX7.out.size)); (repeat (first | (with_reducible exact Below.refl _ _) | (with_reducible assumption) | ((with_reducible refine below_ext_trans ?_ ?_ _); rotate_left; focus (((try dsimp only); repeat (first | omega | simp only [World.size_alloc, World.size_setCell, World.size_drew] | (with_reducible refine le_ext_of ?_) | (with_reducible refine le_ext_add ?_))); done)) | ((with_reducible refine Below.alloc ?_ ?_ _); rotate_left; focus (((try dsimp only); repeat (first | omega | simp only [World.size_alloc, World.size_setCell, World.size_drew] | (with_reducible refine le_ext_of ?_) | (with_reducible refine le_ext_add ?_))); done)) | ((with_reducible refine Below.setCell ?_ ?_ _); rotate_left; focus (((try dsimp only); repeat (first | omega | simp only [World.size_alloc, World.size_setCell, World.size_drew] | (with_reducible refine le_ext_of ?_) | (with_reducible refine le_ext_add ?_))); done)) | (with_reducible refine Below.drew ?_)))⟩
              case measure => simp [intOf]
            · have hdec : decide ((0 : Int) ≤ lo - 1 ∧ lo - 1 ≤ 1439) = false := by simp; omega
              go_wp2_with (go_at_call 25; refine (Between_any _ _ _ _).mono ?_; rw [hdec]; rintro e w1 ⟨rfl, rfl⟩)
              go_roundw
              case rel => exact ⟨3, by omega, by omega, rfl, ext_of HX6.out⟩
              case measure => simp [intOf]
          · by_cases hw : hi + 1 ≤ 1439
            · go_upto_region 20 with (go_at_call 25; refine (Between_yes _ _ _ _ (by omega) (by omega)).mono ?_; rintro e w1 ⟨rfl, rfl⟩)
              obtain ⟨lo', hi', nx, Lx, e1, e2, e3, e4, e5, e6⟩ := at_minute HV.out co HSL.out (t := hi + 1) (by omega) (by omega)
              have HF := Lib.hid (show decide (Lx = [co]) = false by rw [e6]; exact HRUN.out.post _ (List.mem_of_getElem? HR.out) (hi + 1).toNat (by dsimp only; omega) (by omega))
              have E1 := Lib.hid e1
              have E2 := Lib.hid e2
              have E3 := Lib.hid e3
              have E4 := Lib.hid e4
              have E5 := Lib.hid e5
              clear e1 e2 e3 e4 e5 e6
              clear d0 d1 d2 d3 r0 r1 r2 r3 kl k5l
              refine wp_region_flow_back 11 160 (endR (.agg #[.int .i64 b.n, .slice pb b.bs.length cb, .slice po b.os.length co', .slice ps b.ss.length cs]) st g5 3 3 (hi + 1) Lx nx) (by kernel_rfl) (by kernel_rfl) rfl (endR_kept _ _ _ _ _ _ _ _) ?_ ?_
              · intro i hin a W h1 h2 h3 h4 h5 K hK
                rcases (show i = 0 ∨ i = 1 ∨ i = 2 ∨ i = 3 ∨ i = 4 ∨ i = 5 ∨ i = 6 ∨ i = 7 ∨ i = 8 ∨ i = 9 ∨ i = 10 by omega) with hi0 | hi0 | hi0 | hi0 | hi0 | hi0 | hi0 | hi0 | hi0 | hi0 | hi0
                · subst hi0
                  exact st_val rfl (wanted_none rfl) (run_load_bk _ rfl (h3 2 (by kernel_rfl)) ((h5.block _ KB6.out.lt).trans KB6.out)) (hK _ _ rfl (Below.refl _ _))
                · subst hi0
                  exact st_move rfl rfl (wanted_none rfl) (h3 5 (by kernel_rfl)) (hK _ _ rfl (Below.refl _ _))
                · subst hi0
                  exact st_move rfl rfl (wanted_none rfl) (h3 13 (by kernel_rfl)) (hK _ _ rfl (Below.refl _ _))
                · subst hi0
                  exact st_move rfl rfl (wanted_none rfl) (h3 14 (by kernel_rfl)) (hK _ _ rfl (Below.refl _ _))
                · subst hi0
                  exact st_val rfl (wanted_none rfl) (run_index3 _ rfl (h4 2 (by kernel_rfl)) (h4 3 (by kernel_rfl))) (hK _ _ rfl (Below.refl _ _))
                · subst hi0
                  have k6 : Blk W g5 3 #[.int .i64 lo, .int .i64 hi, .int .i64 (lo - 1), .int .i64 (hi + 1)] := (h5.block _ K56.out.lt).trans K56.out
                  exact st_val rfl (wanted_none rfl) (run_load_int _ rfl (h4 4 (by kernel_rfl)) (k6.cell 3)) (hK _ _ rfl (Below.refl _ _))
                · subst hi0
                  refine st_call rfl rfl (wanted_none rfl) (args3 (h4 0 (by kernel_rfl)) (h4 1 (by kernel_rfl)) (h4 5 (by kernel_rfl))) (run_enter Tryd.func16 (by kernel_rfl) (by kernel_rfl) _) ?_
                  refine (Owners_eq ⟨pb, cb, po, co', ps, cs⟩ b st (hi + 1) lo' hi' Lx nx _ (HB6.out.below h5) HV.out (HN6.out.below h5) HSL.out (by omega) (by omega) E1.out E2.out E3.out E4.out).mono ?_
                  rintro e w1 ⟨p5, c5, rfl, hI5, y5, rfl⟩
                  exact ⟨_, rfl, hK _ _ ⟨p5, c5, rfl, hI5⟩ (below_ext _ _)⟩
                · subst hi0
                  obtain ⟨p5, c5, e, hI⟩ := h4 6 (by kernel_rfl)
                  exact st_move rfl rfl (wanted_none rfl) e (hK _ _ ⟨p5, c5, rfl, hI⟩ (Below.refl _ _))
                · subst hi0
                  obtain ⟨p5, c5, e, hI⟩ := h4 7 (by kernel_rfl)
                  exact st_val rfl (wanted_none rfl) (run_extract _ rfl e rfl) (hK _ _ ⟨p5, c5, rfl, hI⟩ (Below.refl _ _))
                · subst hi0
                  obtain ⟨p5, c5, e, hI⟩ := h4 7 (by kernel_rfl)
                  exact st_val rfl (wanted_none rfl) (run_extract _ rfl e rfl) (hK _ _ rfl (Below.refl _ _))
                · subst hi0
                  obtain ⟨p5, c5, e, hI⟩ := h4 8 (by kernel_rfl)
                  exact st_val rfl (wanted_none rfl) (run_assign _ rfl e) (hK _ _ ⟨p5, c5, rfl, hI⟩ (Below.refl _ _))
              intro vs W7 hvs hB7
              have v0 : vs 0 = _ := hvs 0 (by omega)
              have v1 : vs 1 = _ := hvs 1 (by omega)
              have v2 : vs 2 = _ := hvs 2 (by omega)
              have v3 : vs 3 = _ := hvs 3 (by omega)
              have v4 : vs 4 = _ := hvs 4 (by omega)
              have v5 : vs 5 = _ := hvs 5 (by omega)
              obtain ⟨p6, c6, v6, -⟩ := hvs 6 (by omega)
              obtain ⟨p7, c7, v7, -⟩ := hvs 7 (by omega)
              obtain ⟨p8, c8, v8, -⟩ := hvs 8 (by omega)
              have v9 : vs 9 = _ := hvs 9 (by omega)
              obtain ⟨p5, c5, v10, hI5⟩ := hvs 10 (by omega)
              have HI5 := Lib.hid hI5
              have HN7 := Lib.hid (HN6.out.below hB7)
              have HX7 := Lib.hid (HX6.out.trans (hB7.mono HX6.out.size))
              simp only [putAll, v0, v1, v2, v3, v4, v5, v6, v7, v8, v9, v10]
              clear v0 v1 v2 v3 v4 v5 v6 v7 v8 v9 v10 hvs hB7 hI5
              simp only [dstOf, Act.put, List.getElem?_toArray, List.getElem?_cons_zero, List.getElem?_cons_succ, Option.bind_some, Option.getD_some, List.setIfInBounds_toArray, List.set_cons_succ, List.set_cons_zero, List.drop_succ_cons, List.drop_zero]
              go_upto_region 21 with fail
              go_wp2_with (go_at_call 36; refine (Same_eq p5 _ c5 _ Lx [co] nx 1 false _ (HI5.out.below (by (repeat (first | (with_reducible exact Below.refl _ _) | (with_reducible assumption) | ((with_reducible refine below_ext_trans ?_ ?_ _); rotate_left; focus (((try dsimp only); repeat (first | omega | simp only [World.size_alloc, World.size_setCell, World.size_drew] | (with_reducible refine le_ext_of ?_) | (with_reducible refine le_ext_add ?_))); done)) | ((with_reducible refine Below.alloc ?_ ?_ _); rotate_left; focus (((try dsimp only); repeat (first | omega | simp only [World.size_alloc, World.size_setCell, World.size_drew] | (with_reducible refine le_ext_of ?_) | (with_reducible refine le_ext_add ?_))); done)) | ((with_reducible refine Below.setCell ?_ ?_ _); rotate_left; focus (((try dsimp only); repeat (first | omega | simp only [World.size_alloc, World.size_setCell, World.size_drew] | (with_reducible refine le_ext_of ?_) | (with_reducible refine le_ext_add ?_))); done)) | (with_reducible refine Below.drew ?_))))) (ints_one _ _ _) E5.out (by simp) E4.out rfl HF.out).mono ?_; rintro e w1 ⟨rfl, y8, rfl⟩)
              go_roundw
              case rel => exact ⟨4, by omega, by omega, rfl, by refine ext_of (HX7.out.trans (Below.mono ?_ HX7.out.size)); (repeat (first | (with_reducible exact Below.refl _ _) | (with_reducible assumption) | ((with_reducible refine below_ext_trans ?_ ?_ _); rotate_left; focus (((try dsimp only); repeat (first | omega | simp only [World.size_alloc, World.size_setCell, World.size_drew] | (with_reducible refine le_ext_of ?_) | (with_reducible refine le_ext_add ?_))); done)) | ((with_reducible refine Below.alloc ?_ ?_ _); rotate_left; focus (((try dsimp only); repeat (first | omega | simp only [World.size_alloc, World.size_setCell, World.size_drew] | (with_reducible refine le_ext_of ?_) | (with_reducible refine le_ext_add ?_))); done)) | ((with_reducible refine Below.setCell ?_ ?_ _); rotate_left; focus (((try dsimp only); repeat (first | omega | simp only [World.size_alloc, World.size_setCell, World.size_drew] | (with_reducible refine le_ext_of ?_) | (with_reducible refine le_ext_add ?_))); done)) | (with_reducible refine Below.drew ?_)))⟩
              case measure => simp [intOf]
            · have hdec : decide ((0 : Int) ≤ hi + 1 ∧ hi + 1 ≤ 1439) = false := by simp; omega
              go_wp2_with (go_at_call 25; refine (Between_any _ _ _ _).mono ?_; rw [hdec]; rintro e w1 ⟨rfl, rfl⟩)
              go_roundw
              case rel => exact ⟨4, by omega, by omega, rfl, ext_of HX6.out⟩
              case measure => simp [intOf]
          · go_wp2_with fail
            go_roundw
            case rel => exact ⟨k + 1, hi, true, by omega, by go_num, rfl, rfl, by omega, by omega, Lib.hid (fun r hr => by have h1 := List.pairwise_iff_getElem.1 HRUN.out.pair k (k + 1) (List.getElem?_eq_some_iff.1 HR.out).1 (List.getElem?_eq_some_iff.1 hr).1 (by omega); rw [(List.getElem?_eq_some_iff.1 HR.out).2, (List.getElem?_eq_some_iff.1 hr).2] at h1; exact h1), HQ2, ext_of (HX5.out.trans (HX6.out.mono HX5.out.size))⟩
            case measure => simp [intOf]; omega
    · obtain rfl : k = n := by omega
      obtain ⟨lo', hi', nx, Lx, e1, e2, e3, e4, e5, e6⟩ := at_minute HV.out co HSL.out (t := m) hm0 hm1
      have hq : decide (Lx = [co]) = q := by
        rw [e6, HQ.out, List.take_of_length_le (by rw [HLN.out]; exact Nat.le_refl _)]
        rw [Bool.eq_iff_iff, List.any_eq_true]
        constructor
        · intro h
          obtain ⟨r, hr, h1, h2⟩ := HRUN.out.all m.toNat (by omega) h
          exact ⟨r, hr, by simp; omega⟩
        · rintro ⟨r, hr, h⟩
          simp at h
          exact HRUN.out.yes r hr m.toNat (by omega) (by omega)
      have HF := Lib.hid hq
      have E1 := Lib.hid e1
      have E2 := Lib.hid e2
      have E3 := Lib.hid e3
      have E4 := Lib.hid e4
      have E5 := Lib.hid e5
      clear e1 e2 e3 e4 e5 e6 hq HQ
      go_upto_region 24 with (go_at_call 16; refine (Owners_eq ⟨pb, cb, po, co', ps, cs⟩ b st m lo' hi' Lx nx _ (HB3.out.below (by (repeat (first | (with_reducible exact Below.refl _ _) | (with_reducible assumption) | ((with_reducible refine below_ext_trans ?_ ?_ _); rotate_left; focus (((try dsimp only); repeat (first | omega | simp only [World.size_alloc, World.size_setCell, World.size_drew] | (with_reducible refine le_ext_of ?_) | (with_reducible refine le_ext_add ?_))); done)) | ((with_reducible refine Below.alloc ?_ ?_ _); rotate_left; focus (((try dsimp only); repeat (first | omega | simp only [World.size_alloc, World.size_setCell, World.size_drew] | (with_reducible refine le_ext_of ?_) | (with_reducible refine le_ext_add ?_))); done)) | ((with_reducible refine Below.setCell ?_ ?_ _); rotate_left; focus (((try dsimp only); repeat (first | omega | simp only [World.size_alloc, World.size_setCell, World.size_drew] | (with_reducible refine le_ext_of ?_) | (with_reducible refine le_ext_add ?_))); done)) | (with_reducible refine Below.drew ?_))))) HV.out (HN3.out.below (by (repeat (first | (with_reducible exact Below.refl _ _) | (with_reducible assumption) | ((with_reducible refine below_ext_trans ?_ ?_ _); rotate_left; focus (((try dsimp only); repeat (first | omega | simp only [World.size_alloc, World.size_setCell, World.size_drew] | (with_reducible refine le_ext_of ?_) | (with_reducible refine le_ext_add ?_))); done)) | ((with_reducible refine Below.alloc ?_ ?_ _); rotate_left; focus (((try dsimp only); repeat (first | omega | simp only [World.size_alloc, World.size_setCell, World.size_drew] | (with_reducible refine le_ext_of ?_) | (with_reducible refine le_ext_add ?_))); done)) | ((with_reducible refine Below.setCell ?_ ?_ _); rotate_left; focus (((try dsimp only); repeat (first | omega | simp only [World.size_alloc, World.size_setCell, World.size_drew] | (with_reducible refine le_ext_of ?_) | (with_reducible refine le_ext_add ?_))); done)) | (with_reducible refine Below.drew ?_))))) HSL.out hm0 hm1 E1.out E2.out E3.out E4.out).mono ?_; rintro e w1 ⟨p5, c5, rfl, hI5, y5, rfl⟩; have HI5 := Lib.hid hI5; clear hI5)
      go_wp2_with (first
        | (go_at_call 36; refine (Same_eq p5 _ c5 _ Lx [co] nx 1 q _ (HI5.out.below (by (repeat (first | (with_reducible exact Below.refl _ _) | (with_reducible assumption) | ((with_reducible refine below_ext_trans ?_ ?_ _); rotate_left; focus (((try dsimp only); repeat (first | omega | simp only [World.size_alloc, World.size_setCell, World.size_drew] | (with_reducible refine le_ext_of ?_) | (with_reducible refine le_ext_add ?_))); done)) | ((with_reducible refine Below.alloc ?_ ?_ _); rotate_left; focus (((try dsimp only); repeat (first | omega | simp only [World.size_alloc, World.size_setCell, World.size_drew] | (with_reducible refine le_ext_of ?_) | (with_reducible refine le_ext_add ?_))); done)) | ((with_reducible refine Below.setCell ?_ ?_ _); rotate_left; focus (((try dsimp only); repeat (first | omega | simp only [World.size_alloc, World.size_setCell, World.size_drew] | (with_reducible refine le_ext_of ?_) | (with_reducible refine le_ext_add ?_))); done)) | (with_reducible refine Below.drew ?_))))) (ints_one _ _ _) E5.out (by simp) E4.out rfl HF.out).mono ?_; rintro e w1 ⟨rfl, y8, rfl⟩)
        | (go_at_call 13; refine (shot_any _ (HN3.out.below (by (repeat (first | (with_reducible exact Below.refl _ _) | (with_reducible assumption) | ((with_reducible refine below_ext_trans ?_ ?_ _); rotate_left; focus (((try dsimp only); repeat (first | omega | simp only [World.size_alloc, World.size_setCell, World.size_drew] | (with_reducible refine le_ext_of ?_) | (with_reducible refine le_ext_add ?_))); done)) | ((with_reducible refine Below.alloc ?_ ?_ _); rotate_left; focus (((try dsimp only); repeat (first | omega | simp only [World.size_alloc, World.size_setCell, World.size_drew] | (with_reducible refine le_ext_of ?_) | (with_reducible refine le_ext_add ?_))); done)) | ((with_reducible refine Below.setCell ?_ ?_ _); rotate_left; focus (((try dsimp only); repeat (first | omega | simp only [World.size_alloc, World.size_setCell, World.size_drew] | (with_reducible refine le_ext_of ?_) | (with_reducible refine le_ext_add ?_))); done)) | (with_reducible refine Below.drew ?_)))))).mono ?_; rintro e w1 ⟨rfl, y9, rfl⟩))
      go_ret
      exact ⟨rfl, by have hB := HW2.out.trans (HX3.out.mono HW2.out.size); (exact ext_of (by (repeat (first | (with_reducible exact Below.refl _ _) | (with_reducible assumption) | ((with_reducible refine below_ext_trans ?_ ?_ _); rotate_left; focus (((try dsimp only); repeat (first | omega | simp only [World.size_alloc, World.size_setCell, World.size_drew] | (with_reducible refine le_ext_of ?_) | (with_reducible refine le_ext_add ?_))); done)) | ((with_reducible refine Below.alloc ?_ ?_ _); rotate_left; focus (((try dsimp only); repeat (first | omega | simp only [World.size_alloc, World.size_setCell, World.size_drew] | (with_reducible refine le_ext_of ?_) | (with_reducible refine le_ext_add ?_))); done)) | ((with_reducible refine Below.setCell ?_ ?_ _); rotate_left; focus (((try dsimp only); repeat (first | omega | simp only [World.size_alloc, World.size_setCell, World.size_drew] | (with_reducible refine le_ext_of ?_) | (with_reducible refine le_ext_add ?_))); done)) | (with_reducible refine Below.drew ?_)))))⟩

theorem TurnSure_any (h : Hd) (b : Bk) (n0 n1 n2 : Int) (w : World) (hb : BkAt w h b) (hn : NB w) :
    Calls Tryd.prog 8 #[.agg #[.int .i64 b.n, .slice h.pb b.bs.length h.cb, .slice h.po b.os.length h.co, .slice h.ps b.ss.length h.cs], .agg #[.int .i64 n0, .int .i64 n1, .int .i64 n2]] w fun e w' => e = .returned (.bool true) ∧ ∃ x, w' = ext w x := by
  cases hv : bookB b with
  | false => exact TurnSure_bad h b n0 n1 n2 w hb hv hn
  | true =>
    obtain ⟨⟨ho1, ho3⟩, -⟩ := bookB_orders hv
    have hn5 := bookB_n hv
    have hi0 := Int.emod_nonneg n0 (show (b.os.length : Int) ≠ 0 by omega)
    have hi1 := Int.emod_lt_of_pos n0 (show 0 < (b.os.length : Int) by omega)
    have hc0 := Int.emod_nonneg n1 (show b.n ≠ 0 by omega)
    have hc1 := Int.emod_lt_of_pos n1 (show 0 < b.n by omega)
    have hm0 := Int.emod_nonneg n2 (show (1440 : Int) ≠ 0 by omega)
    have hm1 := Int.emod_lt_of_pos n2 (show (0 : Int) < 1440 by omega)
    obtain ⟨st, est⟩ := Int.eq_ofNat_of_zero_le hi0
    exact TurnSure_yes h b n0 n1 n2 w hb hv hn st _ _ _ _ est (by omega) rfl hc0 hc1 rfl hm0 hm1 rfl rfl
end Go.Proofs.YtmnbfjphndgmnaaDoor

