/- The walk of SeineWrong. Written by gen_wrong3.py. -/
import Derived.Test.YtamknmgplhaciaaDoorQPj
import Derived.RegionTactic
import Derived.BigQuiet
set_option linter.unusedSimpArgs false
set_option linter.unusedVariables false
namespace Go.Proofs.YtamknmgplhaciaaDoor
open Go Go.RowKit Go.Shelf
theorem Wrong_is (b : Sn) (p : Option Addr) (c : Nat) (w : World) (hk : SBk w b p) (hv : snB b = true) :
    Calls Tryd.prog 31 #[bV b p c] w fun e w' => ∃ (pw : Option Addr) (l : List Int) (nl cw : Nat), e = .returned (.tuple #[.slice pw nl cw, .int .i64 0]) ∧ l.length = nl ∧ IntsAt w' pw l ∧ WrongIs b l ∧ ∃ x, w' = ext w x :=
  (Wrong_ok b p c w hk hv).mono (by
    rintro e w' ⟨v, l, h1, ⟨pw, cw, h2, h3, -⟩, h4, h5, h6⟩
    exact ⟨pw, l, _, cw, by rw [h1, h2], rfl, h3, ⟨h4, h5⟩, ext_of h6⟩)
theorem Right_m (b : Sn) (p : Option Addr) (c m : Nat) (q : Bool) (w : World) (hk : SBk w b p) (hv : snB b = true) (hr : rightS b = q) (hm : b.ns.length = m) :
    Calls Tryd.prog 14 #[.agg #[.int .i64 b.lo, .int .i64 b.hi, .slice p m c]] w fun e w' => e = .returned (.tuple #[.bool q, .int .i64 0]) ∧ ∃ x, w' = ext w x := by
  subst hm; exact Right_is b p c q w hk hv hr
theorem Rises_is (p : Option Addr) (c : Nat) (l : List Int) (nl : Nat) (below : Int) (w : World) (hl : IntsAt w p l) (hb : (l.length : Int) ≤ 1000) (h1 : 0 ≤ below) (h2 : below ≤ 100000) (hr : risesB below 0 l = true) (hn : l.length = nl) :
    Calls Tryd.prog 44 #[.slice p nl c, .int .i64 below] w fun e w' => e = .returned (.bool true) ∧ w = w' := by
  subst hn; exact Rises_yes p c l below w hl hb h1 h2 hr
theorem run_shl {o : Oper} {w : World} {s n : Nat} (ρ : Operand → Value) (hop : o.op = .binOp .shl 3 (.const (.int .i64 1)) (.tmp s) 3) (hs : ρ (.tmp s) = .int .i64 n) (hn : n ≤ 8) (hc : ρ (.const (.int .i64 1)) = .int .i64 1 := by rfl) :
    (execOp ρ o).run Tryd.prog w = .ok (.value (.int .i64 ((2 ^ n : Nat) : Int))) w := by
  unfold execOp
  rcases (show n = 0 ∨ n = 1 ∨ n = 2 ∨ n = 3 ∨ n = 4 ∨ n = 5 ∨ n = 6 ∨ n = 7 ∨ n = 8 by omega) with rfl | rfl | rfl | rfl | rfl | rfl | rfl | rfl | rfl <;> simp [hop, hs, hc, go_sem] <;> rfl
/-- The notes that can be wrong: a tucking, a sounding. -/
def kindL (ns : List Nt) : List Int := ((List.range ns.length).filter fun i => match ns[i]? with | some s => s.kind == 0 || s.kind == 4 | none => false).map Int.ofNat
theorem mem_kindL {ns : List Nt} {k : Nat} {s : Nt} (hs : ns[k]? = some s) : (k : Int) ∈ kindL ns ↔ s.kind = 0 ∨ s.kind = 4 := by
  have hk := (List.getElem?_eq_some_iff.1 hs).1
  unfold kindL
  rw [List.mem_map]
  constructor
  · rintro ⟨i, hi, e⟩
    have e' : i = k := Int.ofNat.inj e
    subst e'
    have := (List.mem_filter.1 hi).2
    rw [hs] at this
    simpa using this
  · intro h
    refine ⟨k, List.mem_filter.2 ⟨List.mem_range.2 hk, ?_⟩, rfl⟩
    rw [hs]
    simpa using h
theorem kind_right {b : Sn} (hok : Ok9 b) : rightS (woutS b (kindL b.ns) b.ns.length) = true :=
  never_wrong (wout_ok hok _ _ (Nat.le_refl _)).1 (fun s hs => by
    obtain ⟨i, h1, h2, h3⟩ := mem_woutN hs
    have := mt (mem_kindL h2).2 h3
    omega)
/-- What the operations leave that choose some notes. -/
def bitsR (n : Int) (gb : Nat) (ps : Option Addr) (ns cs z : Nat) (i : Nat) (u : Value) (w : World) : Prop :=
  match i with
  | 0 => u = .int .i64 n
  | 1 => u = .pointer (some ⟨gb, 2, none⟩)
  | 2 => u = .slice ps ns cs
  | 3 => u = .int .i64 ns
  | 4 => u = .int .i64 ((2 ^ ns : Nat) : Int)
  | 5 => u = .int .i64 z
  | 6 => u = .pointer (some ⟨gb, 2, none⟩)
  | 7 => u = .slice ps ns cs
  | 8 => u = .int .i64 ns
  | 9 => ∃ (L : List Int) (p : Option Addr) (c : Nat), u = .slice p L.length c ∧ IntsAt w p L ∧ L.Pairwise (· < ·) ∧ (∀ x ∈ L, 0 ≤ x ∧ x < (ns : Int)) ∧ L.length ≤ ns
  | _ => True
theorem bitsR_kept (n : Int) (gb : Nat) (ps : Option Addr) (ns cs z : Nat) : ∀ (i : Nat), i < 10 → ∀ (u : Value) (w w' : World), bitsR n gb ps ns cs z i u w → Below w.heap.size w w' → bitsR n gb ps ns cs z i u w' := by
  intro i hi u w w' h hb
  rcases (show i = 0 ∨ i = 1 ∨ i = 2 ∨ i = 3 ∨ i = 4 ∨ i = 5 ∨ i = 6 ∨ i = 7 ∨ i = 8 ∨ i = 9 by omega) with hi0 | hi0 | hi0 | hi0 | hi0 | hi0 | hi0 | hi0 | hi0 | hi0
  all_goals subst hi0
  all_goals first
    | exact h
    | (obtain ⟨L, p, c, h1, h2, h3, h4, h5⟩ := h; exact ⟨L, p, c, h1, h2.below hb, h3, h4, h5⟩)
attribute [local go_sem] Oper.semAt_some frozen_alloc_lt
set_option maxRecDepth 100000 in
set_option maxHeartbeats 4000000 in
theorem SeineWrong_bad (b : Sn) (p : Option Addr) (c : Nat) (n : Int) (w : World) (hk : SBk w b p) (hv : snB b = false) :
    Calls Tryd.prog 11 #[bV b p c, .int .i64 n] w fun e w' => e = .returned (.bool true) ∧ ∃ x, w' = ext w x := by
  have HK := Lib.hid hk
  clear hk
  go_enter Tryd.func11, Tryd.ntmps11
  go_upto_region 2 with (go_at_call 31; refine (Wrong_bad b p c _ (HK.out.bel (by (repeat (first | (with_reducible exact Below.refl _ _) | (with_reducible assumption) | ((with_reducible refine below_ext_trans ?_ ?_ _); rotate_left; focus (((try dsimp only); repeat (first | omega | simp only [World.size_alloc, World.size_setCell, World.size_drew] | (with_reducible refine le_ext_of ?_) | (with_reducible refine le_ext_add ?_))); done)) | ((with_reducible refine Below.alloc ?_ ?_ _); rotate_left; focus (((try dsimp only); repeat (first | omega | simp only [World.size_alloc, World.size_setCell, World.size_drew] | (with_reducible refine le_ext_of ?_) | (with_reducible refine le_ext_add ?_))); done)) | ((with_reducible refine Below.setCell ?_ ?_ _); rotate_left; focus (((try dsimp only); repeat (first | omega | simp only [World.size_alloc, World.size_setCell, World.size_drew] | (with_reducible refine le_ext_of ?_) | (with_reducible refine le_ext_add ?_))); done)) | (with_reducible refine Below.drew ?_))))) hv).mono ?_; rintro e wu ⟨rfl, hwb⟩; obtain ⟨y, rfl⟩ := ext_of hwb; clear hwb)
  go_wp2_with (first
    | (go_at_call 34; refine (sound_no b p c _ (HK.out.bel (by (repeat (first | (with_reducible exact Below.refl _ _) | (with_reducible assumption) | ((with_reducible refine below_ext_trans ?_ ?_ _); rotate_left; focus (((try dsimp only); repeat (first | omega | simp only [World.size_alloc, World.size_setCell, World.size_drew] | (with_reducible refine le_ext_of ?_) | (with_reducible refine le_ext_add ?_))); done)) | ((with_reducible refine Below.alloc ?_ ?_ _); rotate_left; focus (((try dsimp only); repeat (first | omega | simp only [World.size_alloc, World.size_setCell, World.size_drew] | (with_reducible refine le_ext_of ?_) | (with_reducible refine le_ext_add ?_))); done)) | ((with_reducible refine Below.setCell ?_ ?_ _); rotate_left; focus (((try dsimp only); repeat (first | omega | simp only [World.size_alloc, World.size_setCell, World.size_drew] | (with_reducible refine le_ext_of ?_) | (with_reducible refine le_ext_add ?_))); done)) | (with_reducible refine Below.drew ?_))))) hv).mono ?_; rintro e w1 ⟨rfl, y, rfl⟩)
    | (go_at_call 24; refine (sounded_any _ (HK.out.mm.below (by (repeat (first | (with_reducible exact Below.refl _ _) | (with_reducible assumption) | ((with_reducible refine below_ext_trans ?_ ?_ _); rotate_left; focus (((try dsimp only); repeat (first | omega | simp only [World.size_alloc, World.size_setCell, World.size_drew] | (with_reducible refine le_ext_of ?_) | (with_reducible refine le_ext_add ?_))); done)) | ((with_reducible refine Below.alloc ?_ ?_ _); rotate_left; focus (((try dsimp only); repeat (first | omega | simp only [World.size_alloc, World.size_setCell, World.size_drew] | (with_reducible refine le_ext_of ?_) | (with_reducible refine le_ext_add ?_))); done)) | ((with_reducible refine Below.setCell ?_ ?_ _); rotate_left; focus (((try dsimp only); repeat (first | omega | simp only [World.size_alloc, World.size_setCell, World.size_drew] | (with_reducible refine le_ext_of ?_) | (with_reducible refine le_ext_add ?_))); done)) | (with_reducible refine Below.drew ?_)))))).mono ?_; rintro e w1 ⟨rfl, y, rfl⟩))
  go_ret
  exact ⟨rfl, by (exact ext_of (by (repeat (first | (with_reducible exact Below.refl _ _) | (with_reducible assumption) | ((with_reducible refine below_ext_trans ?_ ?_ _); rotate_left; focus (((try dsimp only); repeat (first | omega | simp only [World.size_alloc, World.size_setCell, World.size_drew] | (with_reducible refine le_ext_of ?_) | (with_reducible refine le_ext_add ?_))); done)) | ((with_reducible refine Below.alloc ?_ ?_ _); rotate_left; focus (((try dsimp only); repeat (first | omega | simp only [World.size_alloc, World.size_setCell, World.size_drew] | (with_reducible refine le_ext_of ?_) | (with_reducible refine le_ext_add ?_))); done)) | ((with_reducible refine Below.setCell ?_ ?_ _); rotate_left; focus (((try dsimp only); repeat (first | omega | simp only [World.size_alloc, World.size_setCell, World.size_drew] | (with_reducible refine le_ext_of ?_) | (with_reducible refine le_ext_add ?_))); done)) | (with_reducible refine Below.drew ?_)))))⟩
set_option maxRecDepth 100000 in
set_option maxHeartbeats 16000000 in
theorem SeineWrong_yes (b : Sn) (p : Option Addr) (c : Nat) (n : Int) (r : Bool) (z : Nat) (w : World) (hk : SBk w b p) (hv : snB b = true) (hr : rightS b = r) (hz1 : 1 ≤ ((2 ^ b.ns.length : Nat) : Int) ∧ ((2 ^ b.ns.length : Nat) : Int) ≤ 1000000) (hz : n % ((2 ^ b.ns.length : Nat) : Int) = (z : Int)) (hz2 : z < 256) :
    Calls Tryd.prog 11 #[bV b p c, .int .i64 n] w fun e w' => e = .returned (.bool true) ∧ ∃ x, w' = ext w x := by
  have HK := Lib.hid hk
  have hok := Ok9.of hv
  have h8 := snB_len hv
  have hlen : b.ns.length ≤ 9 := hok.len
  have HV := Lib.hid hv
  have HR := Lib.hid hr
  have HZ := Lib.hid hz
  have HZ1 := Lib.hid hz1
  have HZ2 := Lib.hid hz2
  have HOK := Lib.hid hok
  clear hk hv hr hz hz1 hz2 hok
  go_enter Tryd.func11, Tryd.ntmps11
  go_upto_region 1 with fail
  generalize hX : w.alloc _ = W
  have hB : Below w.heap.size w W := by rw [← hX]; (repeat (first | (with_reducible exact Below.refl _ _) | (with_reducible assumption) | ((with_reducible refine below_ext_trans ?_ ?_ _); rotate_left; focus (((try dsimp only); repeat (first | omega | simp only [World.size_alloc, World.size_setCell, World.size_drew] | (with_reducible refine le_ext_of ?_) | (with_reducible refine le_ext_add ?_))); done)) | ((with_reducible refine Below.alloc ?_ ?_ _); rotate_left; focus (((try dsimp only); repeat (first | omega | simp only [World.size_alloc, World.size_setCell, World.size_drew] | (with_reducible refine le_ext_of ?_) | (with_reducible refine le_ext_add ?_))); done)) | ((with_reducible refine Below.setCell ?_ ?_ _); rotate_left; focus (((try dsimp only); repeat (first | omega | simp only [World.size_alloc, World.size_setCell, World.size_drew] | (with_reducible refine le_ext_of ?_) | (with_reducible refine le_ext_add ?_))); done)) | (with_reducible refine Below.drew ?_)))
  have Kb := Lib.hid (show Blk W w.heap.size 26 #[.int .i64 b.lo, .int .i64 b.hi, .slice p b.ns.length c] by rw [← hX]; exact Blk.new rfl)
  have HBW := Lib.hid hB
  have HK1 := Lib.hid (HK.out.bel hB)
  clear hX hB
  have qb0 := Kb.out.cell 0
  have qb1 := Kb.out.cell 1
  have qb2 := Kb.out.cell 2
  have lb := Kb.out.lt
  simp only [List.size_toArray, List.length_cons, List.length_nil, Nat.reduceAdd, Nat.reduceLT, getElem?_pos, List.getElem_toArray, List.getElem_cons_zero, List.getElem_cons_succ] at qb0 qb1 qb2
  go_upto_region 2 with (go_at_call 31; refine (Wrong_is b p c _ HK1.out HV.out).mono ?_; rintro e wu ⟨pw, l, nl, cw, rfl, hnl, hI, hWr, y, rfl⟩)
  generalize hX : ext W y = X0 at *
  have hBX : Below W.heap.size W X0 := by rw [← hX]; (repeat (first | (with_reducible exact Below.refl _ _) | (with_reducible assumption) | ((with_reducible refine below_ext_trans ?_ ?_ _); rotate_left; focus (((try dsimp only); repeat (first | omega | simp only [World.size_alloc, World.size_setCell, World.size_drew] | (with_reducible refine le_ext_of ?_) | (with_reducible refine le_ext_add ?_))); done)) | ((with_reducible refine Below.alloc ?_ ?_ _); rotate_left; focus (((try dsimp only); repeat (first | omega | simp only [World.size_alloc, World.size_setCell, World.size_drew] | (with_reducible refine le_ext_of ?_) | (with_reducible refine le_ext_add ?_))); done)) | ((with_reducible refine Below.setCell ?_ ?_ _); rotate_left; focus (((try dsimp only); repeat (first | omega | simp only [World.size_alloc, World.size_setCell, World.size_drew] | (with_reducible refine le_ext_of ?_) | (with_reducible refine le_ext_add ?_))); done)) | (with_reducible refine Below.drew ?_)))
  have HBX := Lib.hid (HBW.out.trans (hBX.mono HBW.out.size))
  have Nb := Lib.hid (show Blk X0 w.heap.size 26 #[.int .i64 b.lo, .int .i64 b.hi, .slice p b.ns.length c] from Kb.out.bel hBX)
  have HI := Lib.hid hI; have HNL := Lib.hid hnl; have HWR := Lib.hid hWr; clear hI hnl hWr; have HK2 := Lib.hid (HK1.out.bel hBX); clear HK1; have HK1 := HK2; clear HK2
  clear qb0 qb1 qb2 lb
  clear hX hBX HBW Kb
  have Kb := Nb
  clear Nb
  have HBX0 := HBX
  clear HBX
  have qb0 := Kb.out.cell 0
  have qb1 := Kb.out.cell 1
  have qb2 := Kb.out.cell 2
  have lb := Kb.out.lt
  simp only [List.size_toArray, List.length_cons, List.length_nil, Nat.reduceAdd, Nat.reduceLT, getElem?_pos, List.getElem_toArray, List.getElem_cons_zero, List.getElem_cons_succ] at qb0 qb1 qb2
  have hin := wrong_inn HOK.out HWR.out
  have hnl9 : l.length ≤ b.ns.length := by
    have h1 := idxL_self (k := b.ns.length) hin.2 hin.1
    have h2 := idxL_len l b.ns.length
    rw [h1] at h2
    exact h2
  have HLL := Lib.hid (show (l.length : Int) ≤ 1000 by omega)
  have HLN := Lib.hid (show (nl : Int) ≤ 1000 by have := HNL.out; omega)
  have HRI := Lib.hid (risesB_of l 0 hin.1 hin.2)
  have HVW := Lib.hid (wout_valid HV.out l)
  have HRW := Lib.hid (wrong_rest HOK.out HWR.out)
  have hz : ((nl : Int) == 0) = r := by
    have h1 := wrong_none HOK.out HWR.out
    have h2 := HNL.out
    have h3 := HR.out
    cases r with
    | true => have := h1.2 h3; simpa using (show (nl : Int) = 0 by omega)
    | false => simpa using (show ¬ (nl : Int) = 0 from fun c => by have := h1.1 (by omega); rw [h3] at this; cases this)
  have HZN := Lib.hid hz
  have hb1 : (0 : Int) ≤ (b.ns.length : Int) := by omega
  have hb2 : (b.ns.length : Int) ≤ 100000 := by omega
  clear hin hnl9 hz
  go_upto_region 4 with (go_at_call 34; refine (sound_yes b p c _ HK1.out HV.out).mono ?_; rintro e wu ⟨rfl, y, rfl⟩)
  generalize hX : ext X0 y = X1 at *
  have hBX : Below X0.heap.size X0 X1 := by rw [← hX]; (repeat (first | (with_reducible exact Below.refl _ _) | (with_reducible assumption) | ((with_reducible refine below_ext_trans ?_ ?_ _); rotate_left; focus (((try dsimp only); repeat (first | omega | simp only [World.size_alloc, World.size_setCell, World.size_drew] | (with_reducible refine le_ext_of ?_) | (with_reducible refine le_ext_add ?_))); done)) | ((with_reducible refine Below.alloc ?_ ?_ _); rotate_left; focus (((try dsimp only); repeat (first | omega | simp only [World.size_alloc, World.size_setCell, World.size_drew] | (with_reducible refine le_ext_of ?_) | (with_reducible refine le_ext_add ?_))); done)) | ((with_reducible refine Below.setCell ?_ ?_ _); rotate_left; focus (((try dsimp only); repeat (first | omega | simp only [World.size_alloc, World.size_setCell, World.size_drew] | (with_reducible refine le_ext_of ?_) | (with_reducible refine le_ext_add ?_))); done)) | (with_reducible refine Below.drew ?_)))
  have HBX := Lib.hid (HBX0.out.trans (hBX.mono HBX0.out.size))
  have Nb := Lib.hid (show Blk X1 w.heap.size 26 #[.int .i64 b.lo, .int .i64 b.hi, .slice p b.ns.length c] from Kb.out.bel hBX)
  have HK2 := Lib.hid (HK1.out.bel hBX); clear HK1; have HK1 := HK2; clear HK2; have HI2 := Lib.hid (HI.out.below hBX); clear HI; have HI := HI2; clear HI2
  clear qb0 qb1 qb2 lb
  clear hX hBX HBX0 Kb
  have Kb := Nb
  clear Nb
  have HBX1 := HBX
  clear HBX
  have qb0 := Kb.out.cell 0
  have qb1 := Kb.out.cell 1
  have qb2 := Kb.out.cell 2
  have lb := Kb.out.lt
  simp only [List.size_toArray, List.length_cons, List.length_nil, Nat.reduceAdd, Nat.reduceLT, getElem?_pos, List.getElem_toArray, List.getElem_cons_zero, List.getElem_cons_succ] at qb0 qb1 qb2
  go_upto_region 5 with (go_at_call 14; refine (Right_is b p c r _ HK1.out HV.out HR.out).mono ?_; rintro e wu ⟨rfl, y, rfl⟩)
  generalize hX : ext X1 y = X2 at *
  have hBX : Below X1.heap.size X1 X2 := by rw [← hX]; (repeat (first | (with_reducible exact Below.refl _ _) | (with_reducible assumption) | ((with_reducible refine below_ext_trans ?_ ?_ _); rotate_left; focus (((try dsimp only); repeat (first | omega | simp only [World.size_alloc, World.size_setCell, World.size_drew] | (with_reducible refine le_ext_of ?_) | (with_reducible refine le_ext_add ?_))); done)) | ((with_reducible refine Below.alloc ?_ ?_ _); rotate_left; focus (((try dsimp only); repeat (first | omega | simp only [World.size_alloc, World.size_setCell, World.size_drew] | (with_reducible refine le_ext_of ?_) | (with_reducible refine le_ext_add ?_))); done)) | ((with_reducible refine Below.setCell ?_ ?_ _); rotate_left; focus (((try dsimp only); repeat (first | omega | simp only [World.size_alloc, World.size_setCell, World.size_drew] | (with_reducible refine le_ext_of ?_) | (with_reducible refine le_ext_add ?_))); done)) | (with_reducible refine Below.drew ?_)))
  have HBX := Lib.hid (HBX1.out.trans (hBX.mono HBX1.out.size))
  have Nb := Lib.hid (show Blk X2 w.heap.size 26 #[.int .i64 b.lo, .int .i64 b.hi, .slice p b.ns.length c] from Kb.out.bel hBX)
  have HK2 := Lib.hid (HK1.out.bel hBX); clear HK1; have HK1 := HK2; clear HK2; have HI2 := Lib.hid (HI.out.below hBX); clear HI; have HI := HI2; clear HI2
  clear qb0 qb1 qb2 lb
  clear hX hBX HBX1 Kb
  have Kb := Nb
  clear Nb
  have HBX2 := HBX
  clear HBX
  have qb0 := Kb.out.cell 0
  have qb1 := Kb.out.cell 1
  have qb2 := Kb.out.cell 2
  have lb := Kb.out.lt
  simp only [List.size_toArray, List.length_cons, List.length_nil, Nat.reduceAdd, Nat.reduceLT, getElem?_pos, List.getElem_toArray, List.getElem_cons_zero, List.getElem_cons_succ] at qb0 qb1 qb2
  have hz := HZN.out
  go_upto_region 7 with (go_at_call 44; refine (Rises_is pw cw l nl _ _ HI.out HLL.out hb1 hb2 HRI.out HNL.out).mono ?_; rintro e w1 ⟨rfl, rfl⟩)
  clear hz hb1 hb2
  go_upto_region 8 with (first
      | (go_at_call 45; refine (without_any b p c pw cw nl l _ HK1.out hlen HI.out HLL.out HNL.out).mono ?_; rintro e wu ⟨p3, c3, rfl, hO, y1, rfl⟩; have HO := Lib.hid hO; clear hO)
      | (go_at_call 14; refine (Right_is (woutS b l b.ns.length) p3 c3 true _ (SBk.own HO.out (HK1.out.bel (below_ext _ _)).mm) HVW.out HRW.out).mono ?_; rintro e wu ⟨rfl, y2, rfl⟩))
  clear HO
  generalize hX : ext X2 _ = X3
  have hBX : Below X2.heap.size X2 X3 := by rw [← hX]; (repeat (first | (with_reducible exact Below.refl _ _) | (with_reducible assumption) | ((with_reducible refine below_ext_trans ?_ ?_ _); rotate_left; focus (((try dsimp only); repeat (first | omega | simp only [World.size_alloc, World.size_setCell, World.size_drew] | (with_reducible refine le_ext_of ?_) | (with_reducible refine le_ext_add ?_))); done)) | ((with_reducible refine Below.alloc ?_ ?_ _); rotate_left; focus (((try dsimp only); repeat (first | omega | simp only [World.size_alloc, World.size_setCell, World.size_drew] | (with_reducible refine le_ext_of ?_) | (with_reducible refine le_ext_add ?_))); done)) | ((with_reducible refine Below.setCell ?_ ?_ _); rotate_left; focus (((try dsimp only); repeat (first | omega | simp only [World.size_alloc, World.size_setCell, World.size_drew] | (with_reducible refine le_ext_of ?_) | (with_reducible refine le_ext_add ?_))); done)) | (with_reducible refine Below.drew ?_)))
  have HBX := Lib.hid (HBX2.out.trans (hBX.mono HBX2.out.size))
  have Nb := Lib.hid (show Blk X3 w.heap.size 26 #[.int .i64 b.lo, .int .i64 b.hi, .slice p b.ns.length c] from Kb.out.bel hBX)
  have HK2 := Lib.hid (HK1.out.bel hBX); clear HK1; have HK1 := HK2; clear HK2; have HI2 := Lib.hid (HI.out.below hBX); clear HI; have HI := HI2; clear HI2
  clear qb0 qb1 qb2 lb
  clear hX hBX HBX2 Kb
  have Kb := Nb
  clear Nb
  have HBX3 := HBX
  clear HBX
  have qb0 := Kb.out.cell 0
  have qb1 := Kb.out.cell 1
  have qb2 := Kb.out.cell 2
  have lb := Kb.out.lt
  simp only [List.size_toArray, List.length_cons, List.length_nil, Nat.reduceAdd, Nat.reduceLT, getElem?_pos, List.getElem_toArray, List.getElem_cons_zero, List.getElem_cons_succ] at qb0 qb1 qb2
  go_upto_region 12 with fail
  generalize hX : X3.alloc _ = V
  generalize hg : X3.heap.size = gx at *
  have hBX : Below gx X3 V := by rw [← hX, ← hg]; (repeat (first | (with_reducible exact Below.refl _ _) | (with_reducible assumption) | ((with_reducible refine below_ext_trans ?_ ?_ _); rotate_left; focus (((try dsimp only); repeat (first | omega | simp only [World.size_alloc, World.size_setCell, World.size_drew] | (with_reducible refine le_ext_of ?_) | (with_reducible refine le_ext_add ?_))); done)) | ((with_reducible refine Below.alloc ?_ ?_ _); rotate_left; focus (((try dsimp only); repeat (first | omega | simp only [World.size_alloc, World.size_setCell, World.size_drew] | (with_reducible refine le_ext_of ?_) | (with_reducible refine le_ext_add ?_))); done)) | ((with_reducible refine Below.setCell ?_ ?_ _); rotate_left; focus (((try dsimp only); repeat (first | omega | simp only [World.size_alloc, World.size_setCell, World.size_drew] | (with_reducible refine le_ext_of ?_) | (with_reducible refine le_ext_add ?_))); done)) | (with_reducible refine Below.drew ?_)))
  have HBV := Lib.hid (HBX3.out.trans (hBX.mono (by have := HBX3.out.size; omega)))
  have Nb := Lib.hid (show Blk V w.heap.size 26 #[.int .i64 b.lo, .int .i64 b.hi, .slice p b.ns.length c] from Kb.out.bel (by rw [hg]; exact hBX))
  have KX := Lib.hid (show Blk V gx 26 #[.int .i64 b.lo, .int .i64 b.hi, .slice none 0 0] by rw [← hX]; exact Blk.new hg.symm)
  have HK2 := Lib.hid (HK1.out.bel (by rw [hg]; exact hBX)); clear HK1; have HK1 := HK2; clear HK2
  have HGX := Lib.hid hg
  have HBP := Lib.hid hBX
  have HGB := Lib.hid (show w.heap.size < gx by have := lb; omega)
  have HVS := Lib.hid (show V.heap.size = gx + 1 by rw [← hX]; simp; omega)
  clear qb0 qb1 qb2 lb
  clear hX hBX hg HBX3 Kb
  have Kb := Nb
  clear Nb
  have HBV := HBV
  have qb0 := Kb.out.cell 0
  have qb1 := Kb.out.cell 1
  have qb2 := Kb.out.cell 2
  have lb := Kb.out.lt
  simp only [List.size_toArray, List.length_cons, List.length_nil, Nat.reduceAdd, Nat.reduceLT, getElem?_pos, List.getElem_toArray, List.getElem_cons_zero, List.getElem_cons_succ] at qb0 qb1 qb2
  go_wp2_with fail
  clear qb0 qb1 qb2 lb
  go_loopw [12] (fun i wr => ∃ (k : Nat) (q : Option Addr) (d m : Nat), k ≤ b.ns.length ∧ i = .int .i64 k ∧ Hid ((woutN b.ns (kindL b.ns) k).length = m) ∧ Hid (Blk wr gx 26 #[.int .i64 b.lo, .int .i64 b.hi, .slice q m d]) ∧ Hid (OwnNs wr (gx + 1) (.slice q m d) (woutN b.ns (kindL b.ns) k)) ∧ Hid (Below gx V wr)) (fun i _ => b.ns.length - (intOf i).toNat)
  case atStart => exact ⟨0, none, 0, 0, by omega, rfl, Lib.hid rfl, KX, Lib.hid (OwnNs.nil _ _), Lib.hid (Below.refl _ _)⟩
  case round =>
    obtain ⟨k, q, d, m, hk, rfl, HM, HX, HO, HBL⟩ := hrel
    have kb : Blk wr w.heap.size 26 #[.int .i64 b.lo, .int .i64 b.hi, .slice p b.ns.length c] := (HBL.out.block w.heap.size HGB.out).trans Kb.out
    have qb0 := kb.cell 0
    have qb1 := kb.cell 1
    have qb2 := kb.cell 2
    have lb := kb.lt
    simp only [List.size_toArray, List.length_cons, List.length_nil, Nat.reduceAdd, Nat.reduceLT, getElem?_pos, List.getElem_toArray, List.getElem_cons_zero, List.getElem_cons_succ] at qb0 qb1 qb2
    have xl := HX.out.lt
    have hbw : Below w.heap.size w wr := HBV.out.trans (HBL.out.mono (by have := HGB.out; omega))
    have HBR := Lib.hid hbw
    have KB2 := Lib.hid kb
    have hnt : NotesAt wr p b.ns := (HK.out.bel hbw).nt
    clear kb hbw
    by_cases hlt : k < b.ns.length
    · obtain ⟨s, hs⟩ := get_some b.ns k hlt
      have HS := Lib.hid hs
      have hk1 : (k : Int) < (b.ns.length : Int) := by omega
      have hk0 : (0 : Int) ≤ (k : Int) := by omega
      obtain ⟨bb1, o1, hps, hb1, q0, q1, q2, q3⟩ := hnt k s hs
      have hbb : bb1 < w.heap.size := by
        obtain ⟨b2, o2, e, h2, -⟩ := HK.out.nt k s hs
        rw [hps] at e
        cases e
        exact h2
      clear hs hnt
      rw [hps] at qb2
      by_cases hm : (k : Int) ∈ kindL b.ns
      · have HU := Lib.hid (woutN_in HS.out hm)
        have hkk := (mem_kindL HS.out).1 hm
        clear hm hps
        rcases hkk with hkk | hkk
        · have k0 : (s.kind != 0) = false := by simpa using hkk
          clear hkk
          go_wp2_with fail
          go_roundw
          case rel => exact ⟨k + 1, q, d, m, by omega, by go_num, by rw [HU.out]; exact HM, HX, by rw [HU.out]; exact HO, HBL⟩
          case measure => simp [intOf]; omega
        · have k0 : (s.kind != 0) = true := by rw [hkk]; rfl
          have k4 : (s.kind != 4) = false := by simpa using hkk
          clear hkk
          go_wp2_with fail
          go_roundw
          case rel => exact ⟨k + 1, q, d, m, by omega, by go_num, by rw [HU.out]; exact HM, HX, by rw [HU.out]; exact HO, HBL⟩
          case measure => simp [intOf]; omega
      · have HU := Lib.hid (woutN_out HS.out hm)
        have hkk := mt (mem_kindL HS.out).2 hm
        have k0 : (s.kind != 0) = true := by simpa using (show ¬ s.kind = 0 by omega)
        have k4 : (s.kind != 4) = true := by simpa using (show ¬ s.kind = 4 by omega)
        have HPS := Lib.hid hps
        clear hm hkk hps
        have HA := Lib.hid hb1
        have HQ := Lib.hid (And.intro q0 (And.intro q1 (And.intro q2 q3)))
        have hrow : ∀ g, (Value.slice q m d).ownBlock = some g → gx + 1 ≤ g := fun g hg => (HO.out.lt g hg).1
        have HROW := Lib.hid hrow
        have hml : (woutN b.ns (kindL b.ns) k).length ≤ 1000 := by have := woutN_len b.ns (kindL b.ns) k; omega
        clear hrow
        go_upto_region 17 with fail
        clear k0 k4 q0 q1 q2 q3 hb1
        have hGB := HGB.out
        refine wp_region_flow_backH 10 149 8 (Value.slice q m d).ownBlock (woutR gx w.heap.size bb1 (o1 + k * 4) b.ns.length c k q m d (some ⟨bb1, o1, none⟩) (woutN b.ns (kindL b.ns) k) s) (by kernel_rfl) (by kernel_rfl) rfl (by omega) (woutR_kept _ _ _ _ _ _ _ _ _ _ _ _ _) ?_ ?_ ?_
        · intro i hin hne f a W1 h1 h2 h3 h4 h5' h6' KK hKK
          have far : ∀ g', g' < wr.heap.size → g' ≤ gx → W1.heap[g']? = wr.heap[g']? := fun g' hg hg2 => h5'.block g' hg (fun e => by have := HROW.out g' e.symm; omega)
          rcases (show i = 0 ∨ i = 1 ∨ i = 2 ∨ i = 3 ∨ i = 4 ∨ i = 5 ∨ i = 6 ∨ i = 7 ∨ i = 9 by omega) with hi0 | hi0 | hi0 | hi0 | hi0 | hi0 | hi0 | hi0 | hi0
          · subst hi0
            exact st_val rfl (wanted_none rfl) (run_fBook1 _ rfl (h3 11 (by kernel_rfl)) (Nat.lt_of_lt_of_le HX.out.lt h5'.size)) (hKK _ _ rfl (Below.refl _ _))
          · subst hi0
            have kx : Blk W1 gx _ _ := (far gx HX.out.lt (by omega)).trans HX.out
            exact st_val rfl (wanted_none rfl) (run_lNotes _ rfl (h4 0 (by kernel_rfl)) (Blk.cell kx 2)) (hKK _ _ ⟨rfl, fun hf => HO.out.below (h6' hf)⟩ (Below.refl _ _))
          · subst hi0
            exact st_val rfl (wanted_none rfl) (run_fBook1 _ rfl (h3 2 (by kernel_rfl)) (Nat.lt_of_lt_of_le KB2.out.lt h5'.size)) (hKK _ _ rfl (Below.refl _ _))
          · subst hi0
            have kb : Blk W1 w.heap.size _ _ := (far w.heap.size KB2.out.lt (by omega)).trans KB2.out
            have c2 := Blk.cell kb 2
            simp only [List.size_toArray, List.length_cons, List.length_nil, Nat.reduceAdd, Nat.reduceLT, getElem?_pos, List.getElem_toArray, List.getElem_cons_zero, List.getElem_cons_succ, HPS.out] at c2
            exact st_val rfl (wanted_none rfl) (run_lNotes _ rfl (h4 2 (by kernel_rfl)) c2) (hKK _ _ rfl (Below.refl _ _))
          · subst hi0
            exact st_move rfl rfl (wanted_none rfl) (h3 12 (by kernel_rfl)) (hKK _ _ rfl (Below.refl _ _))
          · subst hi0
            exact st_val rfl (wanted_none rfl) (run_atNote _ rfl (h4 3 (by kernel_rfl)) (h4 4 (by kernel_rfl)) hlt (Nat.lt_of_lt_of_le HA.out h5'.size)) (hKK _ _ rfl (Below.refl _ _))
          · subst hi0
            have hc : ∀ j, W1.cell? ⟨bb1, j, none⟩ = wr.cell? ⟨bb1, j, none⟩ := fun j => World.cell?_of_block (a := ⟨bb1, j, none⟩) (far bb1 HA.out (by omega))
            exact st_val rfl (wanted_none rfl) (run_noteAt _ rfl (h4 5 (by kernel_rfl)) ((hc _).trans HQ.out.1) ((hc _).trans HQ.out.2.1) ((hc _).trans HQ.out.2.2.1) ((hc _).trans HQ.out.2.2.2)) (hKK _ _ rfl (Below.refl _ _))
          · subst hi0
            exact st_valw rfl (wanted_none rfl) (run_bsNote _ rfl (h4 6 (by kernel_rfl))) (hKK _ _ ⟨_, rfl, fun _ => Blk.new rfl⟩ ((Below.refl _ _).alloc (Nat.le_refl _) _))
          · subst hi0
            exact st_val rfl (wanted_none rfl) (run_fBook1 _ rfl (h3 11 (by kernel_rfl)) (Nat.lt_of_lt_of_le HX.out.lt h5'.size)) (hKK _ _ rfl (Below.refl _ _))
        · intro a W1 h1 h2 h3 h4 h5' KK hKK
          obtain ⟨e1, ho⟩ := h4 1 (by kernel_rfl)
          obtain ⟨q', e2, hq⟩ := h4 7 (by kernel_rfl)
          refine st_append_note rfl (wanted_none rfl) _ _ rfl (gx + 1) _ _ e1 (ho rfl) q' s e2 (hq rfl) hml (by have := HX.out.lt; have := h5'.size; omega) ?_
          intro v' w' h7 h8
          refine hKK _ _ ⟨rfl, h7⟩ (fun j u hj hr => ?_) h8
          rcases (show j = 0 ∨ j = 1 ∨ j = 2 ∨ j = 3 ∨ j = 4 ∨ j = 5 ∨ j = 6 ∨ j = 7 ∨ j = 8 ∨ j = 9 by omega) with hi0 | hi0 | hi0 | hi0 | hi0 | hi0 | hi0 | hi0 | hi0 | hi0
          all_goals subst hi0
          · exact hr
          · exact ⟨hr.1, fun hf => by cases hf⟩
          · exact hr
          · exact hr
          · exact hr
          · exact hr
          · exact hr
          · obtain ⟨q', e, _⟩ := hr; exact ⟨q', e, fun hf => by cases hf⟩
          · exact absurd hr.1 (by decide)
          · exact hr
        · intro vs W3 hvs hB3
          have v0 : vs 0 = _ := hvs 0 (by omega)
          have v1 : vs 1 = _ := (hvs 1 (by omega)).1
          have v2 : vs 2 = _ := hvs 2 (by omega)
          have v3 : vs 3 = _ := hvs 3 (by omega)
          have v4 : vs 4 = _ := hvs 4 (by omega)
          have v5 : vs 5 = _ := hvs 5 (by omega)
          have v6 : vs 6 = _ := hvs 6 (by omega)
          obtain ⟨q', v7, -⟩ := hvs 7 (by omega)
          have ho8 := (hvs 8 (by omega)).2
          obtain ⟨p', c', v8, -⟩ := ho8.at
          have v9 : vs 9 = _ := hvs 9 (by omega)
          rw [v8] at ho8
          obtain ⟨m', hm'⟩ : ∃ m', (woutN b.ns (kindL b.ns) k ++ [s]).length = m' := ⟨_, rfl⟩
          rw [hm'] at ho8 v8
          simp only [putAll, v0, v1, v2, v3, v4, v5, v6, v7, v8, v9]
          clear v0 v1 v2 v3 v4 v5 v6 v7 v8 v9 hvs
          simp only [dstOf, Act.put, List.getElem?_toArray, List.getElem?_cons_zero, List.getElem?_cons_succ, Option.bind_some, Option.getD_some, List.setIfInBounds_toArray, List.set_cons_succ, List.set_cons_zero, List.drop_succ_cons, List.drop_zero]
          have kx3 : Blk W3 gx 26 #[.int .i64 b.lo, .int .i64 b.hi, .slice q m d] := (hB3.block _ HX.out.lt (fun e => by have := HROW.out _ e.symm; omega)).trans HX.out
          have x2 := kx3.cell 2
          have f2 := kx3.frozen 2
          simp only [List.size_toArray, List.length_cons, List.length_nil, Nat.reduceAdd, Nat.reduceLT, getElem?_pos, List.getElem_toArray, List.getElem_cons_zero, List.getElem_cons_succ] at x2
          have xl3 := kx3.lt
          have hbl3 : Below gx V W3 := Below.grown HBL.out hB3 (by have := HX.out.lt; omega) (fun j hj => by have := HROW.out j hj; omega)
          have KX3 := Lib.hid kx3
          have HO8 := Lib.hid ho8
          have HM8 := Lib.hid hm'
          have HBL3 := Lib.hid hbl3
          clear kx3 ho8 hm' hbl3 hB3 hGB
          go_wp2_with fail
          go_roundw
          case rel => exact ⟨k + 1, p', c', m', by omega, by go_num, by rw [HU.out]; exact HM8, Lib.hid (by simpa using KX3.out.set 2 (.slice p' m' c')), by rw [HU.out]; exact Lib.hid (HO8.out.kept (fun g hg => by have := (HO8.out.lt g hg).1; exact Below.heap_setCell _ _ _ _ (by dsimp only; omega))), Lib.hid (HBL3.out.setCell (by dsimp only; omega) _)⟩
          case measure => simp [intOf]; omega
    · obtain rfl : k = b.ns.length := by omega
      clear hnt
      have x0 := HX.out.cell 0
      have x1 := HX.out.cell 1
      have x2 := HX.out.cell 2
      simp only [List.size_toArray, List.length_cons, List.length_nil, Nat.reduceAdd, Nat.reduceLT, getElem?_pos, List.getElem_toArray, List.getElem_cons_zero, List.getElem_cons_succ] at x0 x1 x2
      have hkx : SBk wr (woutS b (kindL b.ns) b.ns.length) q := SBk.own (B := gx + 1) (c := d) (by have h := HO.out; rw [← HM.out] at h; exact h) (HK.out.bel HBR.out).mm
      have HKX := Lib.hid hkx
      have HVK := Lib.hid (wout_valid HV.out (kindL b.ns))
      have HRK := Lib.hid (kind_right HOK.out)
      have HI3 := Lib.hid (HI.out.below (show Below X3.heap.size X3 wr by rw [HGX.out]; exact HBP.out.trans HBL.out))
      clear HI
      have HI := HI3
      clear HI3
      have HK1 := Lib.hid (HK.out.bel HBR.out)
      clear hkx HK1
      have HK1 := Lib.hid (HK.out.bel HBR.out)
      have HBwr := HBR
      have Kb2 := KB2
      clear HBR KB2 HX HO HBL Kb KX HBV
      have Kb := Kb2
      clear Kb2
      go_upto_region 19 with (go_at_call 14; refine (Right_m (woutS b (kindL b.ns) b.ns.length) q d m true _ HKX.out HVK.out HRK.out HM.out).mono ?_; rintro e wu ⟨rfl, y, rfl⟩)
      generalize hX : ext wr y = X20 at *
      have hBX : Below wr.heap.size wr X20 := by rw [← hX]; (repeat (first | (with_reducible exact Below.refl _ _) | (with_reducible assumption) | ((with_reducible refine below_ext_trans ?_ ?_ _); rotate_left; focus (((try dsimp only); repeat (first | omega | simp only [World.size_alloc, World.size_setCell, World.size_drew] | (with_reducible refine le_ext_of ?_) | (with_reducible refine le_ext_add ?_))); done)) | ((with_reducible refine Below.alloc ?_ ?_ _); rotate_left; focus (((try dsimp only); repeat (first | omega | simp only [World.size_alloc, World.size_setCell, World.size_drew] | (with_reducible refine le_ext_of ?_) | (with_reducible refine le_ext_add ?_))); done)) | ((with_reducible refine Below.setCell ?_ ?_ _); rotate_left; focus (((try dsimp only); repeat (first | omega | simp only [World.size_alloc, World.size_setCell, World.size_drew] | (with_reducible refine le_ext_of ?_) | (with_reducible refine le_ext_add ?_))); done)) | (with_reducible refine Below.drew ?_)))
      have HBX := Lib.hid (HBwr.out.trans (hBX.mono HBwr.out.size))
      have Nb := Lib.hid (show Blk X20 w.heap.size 26 #[.int .i64 b.lo, .int .i64 b.hi, .slice p b.ns.length c] from Kb.out.bel hBX)
      have HK2 := Lib.hid (HK1.out.bel hBX); clear HK1; have HK1 := HK2; clear HK2; have HI2 := Lib.hid (HI.out.below hBX); clear HI; have HI := HI2; clear HI2
      clear qb0 qb1 qb2 lb
      clear hX hBX HBwr Kb
      have Kb := Nb
      clear Nb
      have HBX20 := HBX
      clear HBX
      have qb0 := Kb.out.cell 0
      have qb1 := Kb.out.cell 1
      have qb2 := Kb.out.cell 2
      have lb := Kb.out.lt
      simp only [List.size_toArray, List.length_cons, List.length_nil, Nat.reduceAdd, Nat.reduceLT, getElem?_pos, List.getElem_toArray, List.getElem_cons_zero, List.getElem_cons_succ] at qb0 qb1 qb2
      go_upto_region 21 with fail
      refine wp_region_flow_back 10 149 (bitsR n w.heap.size p b.ns.length c z) (by kernel_rfl) (by kernel_rfl) rfl (bitsR_kept _ _ _ _ _ _) ?_ ?_
      · intro i hin a X h1 h2 h3 h4 h5 KK hKK
        rcases (show i = 0 ∨ i = 1 ∨ i = 2 ∨ i = 3 ∨ i = 4 ∨ i = 5 ∨ i = 6 ∨ i = 7 ∨ i = 8 ∨ i = 9 by omega) with hi0 | hi0 | hi0 | hi0 | hi0 | hi0 | hi0 | hi0 | hi0 | hi0
        · subst hi0
          exact st_move rfl rfl (wanted_none rfl) (h3 1 (by kernel_rfl)) (hKK _ _ rfl (Below.refl _ _))
        · subst hi0
          exact st_val rfl (wanted_none rfl) (run_fBook1 _ rfl (h3 2 (by kernel_rfl)) (Nat.lt_of_lt_of_le Kb.out.lt h5.size)) (hKK _ _ rfl (Below.refl _ _))
        · subst hi0
          exact st_val rfl (wanted_none rfl) (run_lNotes _ rfl (h4 1 (by kernel_rfl)) (Blk.cell (Kb.out.bel h5) 2)) (hKK _ _ rfl (Below.refl _ _))
        · subst hi0
          exact st_val rfl (wanted_none rfl) (run_lenNotes _ rfl (h4 2 (by kernel_rfl))) (hKK _ _ rfl (Below.refl _ _))
        · subst hi0
          exact st_val rfl (wanted_none rfl) (run_shl _ rfl (h4 3 (by kernel_rfl)) h8) (hKK _ _ rfl (Below.refl _ _))
        · subst hi0
          refine st_call rfl rfl (wanted_none rfl) (args2 (h4 0 (by kernel_rfl)) (h4 4 (by kernel_rfl))) (run_enter Tryd.func37 (by kernel_rfl) (by kernel_rfl) _) ?_
          refine (Wheel_eq n _ z _ HZ1.out HZ.out).mono ?_
          rintro e w1 ⟨rfl, y9, rfl⟩
          exact ⟨_, rfl, hKK _ _ rfl (below_ext _ _)⟩
        · subst hi0
          exact st_val rfl (wanted_none rfl) (run_fBook1 _ rfl (h3 2 (by kernel_rfl)) (Nat.lt_of_lt_of_le Kb.out.lt h5.size)) (hKK _ _ rfl (Below.refl _ _))
        · subst hi0
          exact st_val rfl (wanted_none rfl) (run_lNotes _ rfl (h4 6 (by kernel_rfl)) (Blk.cell (Kb.out.bel h5) 2)) (hKK _ _ rfl (Below.refl _ _))
        · subst hi0
          exact st_val rfl (wanted_none rfl) (run_lenNotes _ rfl (h4 7 (by kernel_rfl))) (hKK _ _ rfl (Below.refl _ _))
        · subst hi0
          refine st_call rfl rfl (wanted_none rfl) (args2 (h4 5 (by kernel_rfl)) (h4 8 (by kernel_rfl))) (run_enter Tryd.func46 (by kernel_rfl) (by kernel_rfl) _) ?_
          refine (Bits_any z b.ns.length _ HZ2.out h8).mono ?_
          rintro e w1 ⟨L2, p2, c2, rfl, hI2, hP2, hR2, hl2, y9, rfl⟩
          exact ⟨_, rfl, hKK _ _ ⟨L2, p2, c2, rfl, hI2, hP2, hR2, hl2⟩ (below_ext _ _)⟩
      intro vs Z hvs hB6
      have v0 : vs 0 = _ := hvs 0 (by omega)
      have v1 : vs 1 = _ := hvs 1 (by omega)
      have v2 : vs 2 = _ := hvs 2 (by omega)
      have v3 : vs 3 = _ := hvs 3 (by omega)
      have v4 : vs 4 = _ := hvs 4 (by omega)
      have v5 : vs 5 = _ := hvs 5 (by omega)
      have v6 : vs 6 = _ := hvs 6 (by omega)
      have v7 : vs 7 = _ := hvs 7 (by omega)
      have v8 : vs 8 = _ := hvs 8 (by omega)
      obtain ⟨L2, p2, c2, v9, hI2, hP2, hR2, hl2⟩ := hvs 9 (by omega)
      obtain ⟨m2, hm2⟩ : ∃ m2, L2.length = m2 := ⟨_, rfl⟩
      rw [hm2] at v9
      simp only [putAll, v0, v1, v2, v3, v4, v5, v6, v7, v8, v9]
      clear v0 v1 v2 v3 v4 v5 v6 v7 v8 v9 hvs
      simp only [dstOf, Act.put, List.getElem?_toArray, List.getElem?_cons_zero, List.getElem?_cons_succ, Option.bind_some, Option.getD_some, List.setIfInBounds_toArray, List.set_cons_succ, List.set_cons_zero, List.drop_succ_cons, List.drop_zero]
      have HM2 := Lib.hid hm2
      have HI2 := Lib.hid hI2
      have HP2 := Lib.hid hP2
      have HR2 := Lib.hid hR2
      have HL2 := Lib.hid (show (L2.length : Int) ≤ 1000 by omega)
      have HM2L := Lib.hid (show (m2 : Int) ≤ 1000 by omega)
      have hBX := hB6
      clear hm2 hI2 hP2 hR2 hl2 hB6
      have HBZ := Lib.hid (HBX20.out.trans (hBX.mono HBX20.out.size))
      have Nb := Lib.hid (show Blk Z w.heap.size 26 #[.int .i64 b.lo, .int .i64 b.hi, .slice p b.ns.length c] from Kb.out.bel hBX)
      have HK2 := Lib.hid (HK1.out.bel hBX); clear HK1; have HK1 := HK2; clear HK2
      have HI3 := Lib.hid (HI.out.below hBX); clear HI; have HI := HI3; clear HI3
      clear qb0 qb1 qb2 lb
      clear hBX HBX20 Kb
      have Kb := Nb
      clear Nb
      have qb0 := Kb.out.cell 0
      have qb1 := Kb.out.cell 1
      have qb2 := Kb.out.cell 2
      have lb := Kb.out.lt
      simp only [List.size_toArray, List.length_cons, List.length_nil, Nat.reduceAdd, Nat.reduceLT, getElem?_pos, List.getElem_toArray, List.getElem_cons_zero, List.getElem_cons_succ] at qb0 qb1 qb2
      cases hf : fewerB L2 l with
      | false =>
        go_upto_region 23 with (go_at_call 47; refine (Fewer_eq p2 pw c2 cw L2 l m2 nl _ HI2.out HI.out HM2L.out HM2.out HNL.out).mono ?_; rw [hf]; rintro e wu ⟨rfl, y, rfl⟩)
        generalize hX : ext Z y = X40 at *
        have hBX : Below Z.heap.size Z X40 := by rw [← hX]; (repeat (first | (with_reducible exact Below.refl _ _) | (with_reducible assumption) | ((with_reducible refine below_ext_trans ?_ ?_ _); rotate_left; focus (((try dsimp only); repeat (first | omega | simp only [World.size_alloc, World.size_setCell, World.size_drew] | (with_reducible refine le_ext_of ?_) | (with_reducible refine le_ext_add ?_))); done)) | ((with_reducible refine Below.alloc ?_ ?_ _); rotate_left; focus (((try dsimp only); repeat (first | omega | simp only [World.size_alloc, World.size_setCell, World.size_drew] | (with_reducible refine le_ext_of ?_) | (with_reducible refine le_ext_add ?_))); done)) | ((with_reducible refine Below.setCell ?_ ?_ _); rotate_left; focus (((try dsimp only); repeat (first | omega | simp only [World.size_alloc, World.size_setCell, World.size_drew] | (with_reducible refine le_ext_of ?_) | (with_reducible refine le_ext_add ?_))); done)) | (with_reducible refine Below.drew ?_)))
        have HBX := Lib.hid (HBZ.out.trans (hBX.mono HBZ.out.size))
        have Nb := Lib.hid (show Blk X40 w.heap.size 26 #[.int .i64 b.lo, .int .i64 b.hi, .slice p b.ns.length c] from Kb.out.bel hBX)
        have HK2 := Lib.hid (HK1.out.bel hBX); clear HK1; have HK1 := HK2; clear HK2; have HI4 := Lib.hid (HI.out.below hBX); clear HI; have HI := HI4; clear HI4
        clear qb0 qb1 qb2 lb
        clear hX hBX HBZ Kb
        have Kb := Nb
        clear Nb
        have HBX40 := HBX
        clear HBX
        have qb0 := Kb.out.cell 0
        have qb1 := Kb.out.cell 1
        have qb2 := Kb.out.cell 2
        have lb := Kb.out.lt
        simp only [List.size_toArray, List.length_cons, List.length_nil, Nat.reduceAdd, Nat.reduceLT, getElem?_pos, List.getElem_toArray, List.getElem_cons_zero, List.getElem_cons_succ] at qb0 qb1 qb2
        go_wp2_with (go_at_call 24; refine (sounded_any _ (HK1.out.mm.below (by (repeat (first | (with_reducible exact Below.refl _ _) | (with_reducible assumption) | ((with_reducible refine below_ext_trans ?_ ?_ _); rotate_left; focus (((try dsimp only); repeat (first | omega | simp only [World.size_alloc, World.size_setCell, World.size_drew] | (with_reducible refine le_ext_of ?_) | (with_reducible refine le_ext_add ?_))); done)) | ((with_reducible refine Below.alloc ?_ ?_ _); rotate_left; focus (((try dsimp only); repeat (first | omega | simp only [World.size_alloc, World.size_setCell, World.size_drew] | (with_reducible refine le_ext_of ?_) | (with_reducible refine le_ext_add ?_))); done)) | ((with_reducible refine Below.setCell ?_ ?_ _); rotate_left; focus (((try dsimp only); repeat (first | omega | simp only [World.size_alloc, World.size_setCell, World.size_drew] | (with_reducible refine le_ext_of ?_) | (with_reducible refine le_ext_add ?_))); done)) | (with_reducible refine Below.drew ?_)))))).mono ?_; rintro e w1 ⟨rfl, y, rfl⟩)
        go_ret
        exact ⟨rfl, ext_of (HBX40.out.trans (Below.mono (show Below X40.heap.size X40 _ by (repeat (first | (with_reducible exact Below.refl _ _) | (with_reducible assumption) | ((with_reducible refine below_ext_trans ?_ ?_ _); rotate_left; focus (((try dsimp only); repeat (first | omega | simp only [World.size_alloc, World.size_setCell, World.size_drew] | (with_reducible refine le_ext_of ?_) | (with_reducible refine le_ext_add ?_))); done)) | ((with_reducible refine Below.alloc ?_ ?_ _); rotate_left; focus (((try dsimp only); repeat (first | omega | simp only [World.size_alloc, World.size_setCell, World.size_drew] | (with_reducible refine le_ext_of ?_) | (with_reducible refine le_ext_add ?_))); done)) | ((with_reducible refine Below.setCell ?_ ?_ _); rotate_left; focus (((try dsimp only); repeat (first | omega | simp only [World.size_alloc, World.size_setCell, World.size_drew] | (with_reducible refine le_ext_of ?_) | (with_reducible refine le_ext_add ?_))); done)) | (with_reducible refine Below.drew ?_)))) HBX40.out.size))⟩
      | true =>
        go_upto_region 24 with (go_at_call 47; refine (Fewer_eq p2 pw c2 cw L2 l m2 nl _ HI2.out HI.out HM2L.out HM2.out HNL.out).mono ?_; rw [hf]; rintro e wu ⟨rfl, y, rfl⟩)
        generalize hX : ext Z y = X40 at *
        have hBX : Below Z.heap.size Z X40 := by rw [← hX]; (repeat (first | (with_reducible exact Below.refl _ _) | (with_reducible assumption) | ((with_reducible refine below_ext_trans ?_ ?_ _); rotate_left; focus (((try dsimp only); repeat (first | omega | simp only [World.size_alloc, World.size_setCell, World.size_drew] | (with_reducible refine le_ext_of ?_) | (with_reducible refine le_ext_add ?_))); done)) | ((with_reducible refine Below.alloc ?_ ?_ _); rotate_left; focus (((try dsimp only); repeat (first | omega | simp only [World.size_alloc, World.size_setCell, World.size_drew] | (with_reducible refine le_ext_of ?_) | (with_reducible refine le_ext_add ?_))); done)) | ((with_reducible refine Below.setCell ?_ ?_ _); rotate_left; focus (((try dsimp only); repeat (first | omega | simp only [World.size_alloc, World.size_setCell, World.size_drew] | (with_reducible refine le_ext_of ?_) | (with_reducible refine le_ext_add ?_))); done)) | (with_reducible refine Below.drew ?_)))
        have HBX := Lib.hid (HBZ.out.trans (hBX.mono HBZ.out.size))
        have Nb := Lib.hid (show Blk X40 w.heap.size 26 #[.int .i64 b.lo, .int .i64 b.hi, .slice p b.ns.length c] from Kb.out.bel hBX)
        have HK2 := Lib.hid (HK1.out.bel hBX); clear HK1; have HK1 := HK2; clear HK2; have HI4 := Lib.hid (HI.out.below hBX); clear HI; have HI := HI4; clear HI4; have HI5 := Lib.hid (HI2.out.below hBX); clear HI2; have HI2 := HI5; clear HI5
        clear qb0 qb1 qb2 lb
        clear hX hBX HBZ Kb
        have Kb := Nb
        clear Nb
        have HBX40 := HBX
        clear HBX
        have qb0 := Kb.out.cell 0
        have qb1 := Kb.out.cell 1
        have qb2 := Kb.out.cell 2
        have lb := Kb.out.lt
        simp only [List.size_toArray, List.length_cons, List.length_nil, Nat.reduceAdd, Nat.reduceLT, getElem?_pos, List.getElem_toArray, List.getElem_cons_zero, List.getElem_cons_succ] at qb0 qb1 qb2
        have HVO := Lib.hid (wout_valid HV.out L2)
        have HRO := Lib.hid (wrong_less HOK.out HWR.out HP2.out HR2.out hf)
        clear hf
        go_upto_region 25 with (first
      | (go_at_call 45; refine (without_any b p c p2 c2 m2 L2 _ HK1.out hlen HI2.out HL2.out HM2.out).mono ?_; rintro e wu ⟨p3, c3, rfl, hO, y1, rfl⟩; have HO := Lib.hid hO; clear hO)
      | (go_at_call 14; refine (Right_is (woutS b L2 b.ns.length) p3 c3 false _ (SBk.own HO.out (HK1.out.bel (below_ext _ _)).mm) HVO.out HRO.out).mono ?_; rintro e wu ⟨rfl, y2, rfl⟩))
        clear HO
        generalize hX : ext X40 _ = X41
        have hBX : Below X40.heap.size X40 X41 := by rw [← hX]; (repeat (first | (with_reducible exact Below.refl _ _) | (with_reducible assumption) | ((with_reducible refine below_ext_trans ?_ ?_ _); rotate_left; focus (((try dsimp only); repeat (first | omega | simp only [World.size_alloc, World.size_setCell, World.size_drew] | (with_reducible refine le_ext_of ?_) | (with_reducible refine le_ext_add ?_))); done)) | ((with_reducible refine Below.alloc ?_ ?_ _); rotate_left; focus (((try dsimp only); repeat (first | omega | simp only [World.size_alloc, World.size_setCell, World.size_drew] | (with_reducible refine le_ext_of ?_) | (with_reducible refine le_ext_add ?_))); done)) | ((with_reducible refine Below.setCell ?_ ?_ _); rotate_left; focus (((try dsimp only); repeat (first | omega | simp only [World.size_alloc, World.size_setCell, World.size_drew] | (with_reducible refine le_ext_of ?_) | (with_reducible refine le_ext_add ?_))); done)) | (with_reducible refine Below.drew ?_)))
        have HBX := Lib.hid (HBX40.out.trans (hBX.mono HBX40.out.size))
        have Nb := Lib.hid (show Blk X41 w.heap.size 26 #[.int .i64 b.lo, .int .i64 b.hi, .slice p b.ns.length c] from Kb.out.bel hBX)
        have HK2 := Lib.hid (HK1.out.bel hBX); clear HK1; have HK1 := HK2; clear HK2
        clear qb0 qb1 qb2 lb
        clear hX hBX HBX40 Kb
        have Kb := Nb
        clear Nb
        have HBX41 := HBX
        clear HBX
        have qb0 := Kb.out.cell 0
        have qb1 := Kb.out.cell 1
        have qb2 := Kb.out.cell 2
        have lb := Kb.out.lt
        simp only [List.size_toArray, List.length_cons, List.length_nil, Nat.reduceAdd, Nat.reduceLT, getElem?_pos, List.getElem_toArray, List.getElem_cons_zero, List.getElem_cons_succ] at qb0 qb1 qb2
        go_wp2_with (go_at_call 24; refine (sounded_any _ (HK1.out.mm.below (by (repeat (first | (with_reducible exact Below.refl _ _) | (with_reducible assumption) | ((with_reducible refine below_ext_trans ?_ ?_ _); rotate_left; focus (((try dsimp only); repeat (first | omega | simp only [World.size_alloc, World.size_setCell, World.size_drew] | (with_reducible refine le_ext_of ?_) | (with_reducible refine le_ext_add ?_))); done)) | ((with_reducible refine Below.alloc ?_ ?_ _); rotate_left; focus (((try dsimp only); repeat (first | omega | simp only [World.size_alloc, World.size_setCell, World.size_drew] | (with_reducible refine le_ext_of ?_) | (with_reducible refine le_ext_add ?_))); done)) | ((with_reducible refine Below.setCell ?_ ?_ _); rotate_left; focus (((try dsimp only); repeat (first | omega | simp only [World.size_alloc, World.size_setCell, World.size_drew] | (with_reducible refine le_ext_of ?_) | (with_reducible refine le_ext_add ?_))); done)) | (with_reducible refine Below.drew ?_)))))).mono ?_; rintro e w1 ⟨rfl, y, rfl⟩)
        go_ret
        exact ⟨rfl, ext_of (HBX41.out.trans (Below.mono (show Below X41.heap.size X41 _ by (repeat (first | (with_reducible exact Below.refl _ _) | (with_reducible assumption) | ((with_reducible refine below_ext_trans ?_ ?_ _); rotate_left; focus (((try dsimp only); repeat (first | omega | simp only [World.size_alloc, World.size_setCell, World.size_drew] | (with_reducible refine le_ext_of ?_) | (with_reducible refine le_ext_add ?_))); done)) | ((with_reducible refine Below.alloc ?_ ?_ _); rotate_left; focus (((try dsimp only); repeat (first | omega | simp only [World.size_alloc, World.size_setCell, World.size_drew] | (with_reducible refine le_ext_of ?_) | (with_reducible refine le_ext_add ?_))); done)) | ((with_reducible refine Below.setCell ?_ ?_ _); rotate_left; focus (((try dsimp only); repeat (first | omega | simp only [World.size_alloc, World.size_setCell, World.size_drew] | (with_reducible refine le_ext_of ?_) | (with_reducible refine le_ext_add ?_))); done)) | (with_reducible refine Below.drew ?_)))) HBX41.out.size))⟩
theorem SeineWrong_any (b : Sn) (p : Option Addr) (c : Nat) (n : Int) (w : World) (hk : SBk w b p) (_hc : SBc b p c) :
    Calls Tryd.prog 11 #[bV b p c, .int .i64 n] w fun e w' => e = .returned (.bool true) ∧ ∃ x, w' = ext w x := by
  cases hv : snB b with
  | false => exact SeineWrong_bad b p c n w hk hv
  | true =>
    have h8 := snB_len hv
    have hp0 : 0 < 2 ^ b.ns.length := Nat.two_pow_pos _
    have hp1 : 2 ^ b.ns.length ≤ 2 ^ 8 := Nat.pow_le_pow_right (by omega) h8
    have h0 : (0 : Int) ≤ n % ((2 ^ b.ns.length : Nat) : Int) := Int.emod_nonneg _ (by omega)
    have h1 : n % ((2 ^ b.ns.length : Nat) : Int) < ((2 ^ b.ns.length : Nat) : Int) := Int.emod_lt_of_pos _ (by omega)
    obtain ⟨z, hz⟩ := Int.eq_ofNat_of_zero_le h0
    exact SeineWrong_yes b p c n _ z w hk hv rfl ⟨by omega, by omega⟩ hz (by omega)
end Go.Proofs.YtamknmgplhaciaaDoor

