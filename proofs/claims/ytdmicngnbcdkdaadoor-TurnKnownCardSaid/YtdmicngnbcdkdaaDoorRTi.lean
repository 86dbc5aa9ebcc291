/- The iterator over the turns of a station: its maker, and its contract. -/
import Derived.Test.YtdmicngnbcdkdaaDoorRIt
import Derived.Test.YtdmicngnbcdkdaaDoorRTg
import Derived.Sort.CutIn
import Derived.Shelf.Abstract
import Derived.Shelf.RegionOpen
set_option linter.unusedSimpArgs false
set_option linter.unusedVariables false
namespace Go.Proofs.YtdmicngnbcdkdaaDoor
open Go Go.RowKit Go.Shelf

/-- What an iterator over turns has captured lies where it was laid. -/
structure SpellBox (w : World) (b1 b2 b3 : Nat) (s0 s1 s2 s3 l0 l1 l2 l3 st a b : Int) : Prop where
  lt1 : b1 < w.heap.size
  lt2 : b2 < w.heap.size
  lt3 : b3 < w.heap.size
  k0 : w.cell? ⟨b1, 0, none⟩ = some (.int .i64 s0)
  k1 : w.cell? ⟨b1, 1, none⟩ = some (.int .i64 s1)
  k2 : w.cell? ⟨b1, 2, none⟩ = some (.int .i64 s2)
  k3 : w.cell? ⟨b1, 3, none⟩ = some (.int .i64 s3)
  k4 : w.cell? ⟨b1, 4, none⟩ = some (.int .i64 l0)
  k5 : w.cell? ⟨b1, 5, none⟩ = some (.int .i64 l1)
  k6 : w.cell? ⟨b1, 6, none⟩ = some (.int .i64 l2)
  k7 : w.cell? ⟨b1, 7, none⟩ = some (.int .i64 l3)
  m0 : w.cell? ⟨b2, 0, none⟩ = some (.int .i64 a)
  m1 : w.cell? ⟨b2, 1, none⟩ = some (.int .i64 b)
  t0 : w.cell? ⟨b3, 0, none⟩ = some (.int .i64 st)
theorem SpellBox.below {w w' : World} {b1 b2 b3 : Nat} {s0 s1 s2 s3 l0 l1 l2 l3 st a b : Int} (h : SpellBox w b1 b2 b3 s0 s1 s2 s3 l0 l1 l2 l3 st a b) (hb : Below w.heap.size w w') : SpellBox w' b1 b2 b3 s0 s1 s2 s3 l0 l1 l2 l3 st a b := by
  obtain ⟨lt1, lt2, lt3, k0, k1, k2, k3, k4, k5, k6, k7, m0, m1, t0⟩ := h
  refine ⟨Nat.lt_of_lt_of_le lt1 hb.size, Nat.lt_of_lt_of_le lt2 hb.size, Nat.lt_of_lt_of_le lt3 hb.size, ?_, ?_, ?_, ?_, ?_, ?_, ?_, ?_, ?_, ?_, ?_⟩
  all_goals first
    | (rw [hb.cell (p := ⟨b1, _, none⟩) lt1]; assumption)
    | (rw [hb.cell (p := ⟨b2, _, none⟩) lt2]; assumption)
    | (rw [hb.cell (p := ⟨b3, _, none⟩) lt3]; assumption)

def SpellsPost (w : World) (s0 s1 s2 s3 l0 l1 l2 l3 st a b : Int) (e : Ending) (w' : World) : Prop :=
  ∃ b1 b2 b3 : Nat, e = .returned (.func (.func 87) #[] #[.pointer (some ⟨b1, 0, none⟩), .pointer (some ⟨b2, 0, none⟩), .pointer (some ⟨b3, 0, none⟩)]) ∧
    w.heap.size ≤ b1 ∧ w.heap.size ≤ b2 ∧ w.heap.size ≤ b3 ∧ SpellBox w' b1 b2 b3 s0 s1 s2 s3 l0 l1 l2 l3 st a b ∧ ∃ x, w' = ext w x
theorem spells_any (s0 s1 s2 s3 l0 l1 l2 l3 st a b : Int) (w : World) :
    Calls Tryd.prog 70 #[.agg #[.int .i64 s0, .int .i64 s1, .int .i64 s2, .int .i64 s3, .int .i64 l0, .int .i64 l1, .int .i64 l2, .int .i64 l3], .int .i64 st, .agg #[.int .i64 a, .int .i64 b]] w (SpellsPost w s0 s1 s2 s3 l0 l1 l2 l3 st a b) := by
  go_enter Tryd.func70, Tryd.ntmps70
  go_wp2
  go_ret
  refine ⟨w.heap.size, w.heap.size + 1 + 1, w.heap.size + 1, rfl, by omega, by omega, by omega, ?_, by (exact ext_of (by (repeat (first | (with_reducible exact Below.refl _ _) | (with_reducible assumption) | ((with_reducible refine below_ext_trans ?_ ?_ _); rotate_left; focus (((try dsimp only); repeat (first | omega | simp only [World.size_alloc, World.size_setCell, World.size_drew] | (with_reducible refine le_ext_of ?_) | (with_reducible refine le_ext_add ?_))); done)) | ((with_reducible refine Below.alloc ?_ ?_ _); rotate_left; focus (((try dsimp only); repeat (first | omega | simp only [World.size_alloc, World.size_setCell, World.size_drew] | (with_reducible refine le_ext_of ?_) | (with_reducible refine le_ext_add ?_))); done)) | ((with_reducible refine Below.setCell ?_ ?_ _); rotate_left; focus (((try dsimp only); repeat (first | omega | simp only [World.size_alloc, World.size_setCell, World.size_drew] | (with_reducible refine le_ext_of ?_) | (with_reducible refine le_ext_add ?_))); done)) | (with_reducible refine Below.drew ?_)))))⟩
  constructor <;> simp [go_sem]

/-- The turns from one to another one, as they are handed to yield. -/
def upto (lo t : Nat) : List Nat := (List.range (t - lo)).map (· + lo)
def seg (lo hi : Nat) : List Nat := upto lo (hi + 1)
theorem upto_snoc (lo t : Nat) (h : lo ≤ t) : upto lo t ++ [t] = upto lo (t + 1) := by
  unfold upto
  rw [show t + 1 - lo = (t - lo) + 1 by omega, List.range_succ, List.map_append]
  simp; omega
theorem upto_prefix (lo t t' : Nat) (h : t ≤ t') : upto lo t <+: upto lo t' := by
  unfold upto
  refine List.IsPrefix.map _ ?_
  refine ⟨(List.range (t' - lo - (t - lo))).map (t - lo + ·), ?_⟩
  rw [← List.range_add]
  congr 1; omega
theorem upto_self (lo : Nat) : upto lo lo = [] := by simp [upto]
abbrev encSp (st : Int) (t : Nat) : Array Value := #[.agg #[.int .i64 st, .int .i64 t]]

attribute [local go_sem] Oper.semAt_some
set_option maxHeartbeats 4000000 in
theorem spells1_in (n : Nat) (b1 b2 b3 : Nat) (s0 s1 s2 s3 l0 l1 l2 l3 st a b : Int) (O : Nat → Prop) (w : World)
    (hx : SpellBox w b1 b2 b3 s0 s1 s2 s3 l0 l1 l2 l3 st a b) (hle : cnt [l0, l1, l2, l3] a ≤ cnt [s0, s1, s2, s3] b) (hO : ∀ k, O k → k ≠ b1 ∧ k ≠ b2 ∧ k ≠ b3) :
    SeqW n Tryd.prog 87 #[.pointer (some ⟨b1, 0, none⟩), .pointer (some ⟨b2, 0, none⟩), .pointer (some ⟨b3, 0, none⟩)] (encSp st) O (fun xs => xs = seg (cnt [l0, l1, l2, l3] a) (cnt [s0, s1, s2, s3] b)) (fun pre => pre <+: seg (cnt [l0, l1, l2, l3] a) (cnt [s0, s1, s2, s3] b)) w := by
  intro l J Jx W hW hOW hJ hJx hY h0
  have hx := hx.below hW
  obtain ⟨lt1, lt2, lt3, k0, k1, k2, k3, k4, k5, k6, k7, m0, m1, t0⟩ := hx
  have HJ := Lib.hid hJ
  have HJx := Lib.hid hJx
  have HY := Lib.hid hY
  have H0 := Lib.hid h0
  have HO := Lib.hid hO
  have HOW := Lib.hid hOW
  have HW := Lib.hid hW
  have hhi4 : cnt [s0, s1, s2, s3] b ≤ 4 := cnt_le _ _
  generalize hlo : cnt [l0, l1, l2, l3] a = lo at *
  generalize hhi : cnt [s0, s1, s2, s3] b = hi at *
  have HLO := Lib.hid hlo
  have HHI := Lib.hid hhi
  clear hJ hJx hY h0 hO hOW hW hlo hhi hx
  refine callsIn_of_wp Tryd.func87 rfl trivial ?_ rfl
  simp only [Tryd.ntmps87, List.size_toArray, List.length_cons, List.length_nil, Nat.reduceAdd, Nat.reduceSub, Array.replicate_succ, Array.replicate_zero, List.push_toArray, List.append_toArray, List.nil_append, List.cons_append]
  gi_wp2_with (gi_at_call 49; refine (callsIn_wide.2 (turns_any _ _ _ _ _ _ _ _ _ _ _)).mono ?_; rintro e w' ⟨rfl, x, rfl⟩)
  rw [HLO.out, HHI.out]
  clear HLO HHI k0 k1 k2 k3 k4 k5 k6 k7 m0 m1
  have hz : W.heap.size ≤ (ext W x).heap.size := (below_ext W x).size
  have c0 : ((ext W x).alloc (.cells #[.int .i64 lo, .int .i64 hi] 33)).cell? ⟨(ext W x).heap.size, 0, none⟩ = some (.int .i64 lo) := by rw [new_cell _ _ _ _ _ rfl]; rfl
  have c1 : ((ext W x).alloc (.cells #[.int .i64 lo, .int .i64 hi] 33)).cell? ⟨(ext W x).heap.size, 1, none⟩ = some (.int .i64 hi) := by rw [new_cell _ _ _ _ _ rfl]; rfl
  have hB2 : Below W.heap.size W ((ext W x).alloc (.cells #[.int .i64 lo, .int .i64 hi] 33)) := by (repeat (first | (with_reducible exact Below.refl _ _) | (with_reducible assumption) | ((with_reducible refine below_ext_trans ?_ ?_ _); rotate_left; focus (((try dsimp only); repeat (first | omega | simp only [World.size_alloc, World.size_setCell, World.size_drew] | (with_reducible refine le_ext_of ?_) | (with_reducible refine le_ext_add ?_))); done)) | ((with_reducible refine Below.alloc ?_ ?_ _); rotate_left; focus (((try dsimp only); repeat (first | omega | simp only [World.size_alloc, World.size_setCell, World.size_drew] | (with_reducible refine le_ext_of ?_) | (with_reducible refine le_ext_add ?_))); done)) | ((with_reducible refine Below.setCell ?_ ?_ _); rotate_left; focus (((try dsimp only); repeat (first | omega | simp only [World.size_alloc, World.size_setCell, World.size_drew] | (with_reducible refine le_ext_of ?_) | (with_reducible refine le_ext_add ?_))); done)) | (with_reducible refine Below.drew ?_)))
  have hs2 : (ext W x).heap.size < ((ext W x).alloc (.cells #[.int .i64 lo, .int .i64 hi] 33)).heap.size := by simp
  generalize (ext W x).alloc (.cells #[.int .i64 lo, .int .i64 hi] 33) = W2 at *
  generalize (ext W x).heap.size = r at *
  have t0 : W2.cell? ⟨b3, 0, none⟩ = some (.int .i64 st) := by rw [hB2.cell (p := ⟨b3, 0, none⟩) lt3]; exact t0
  have hb3 : b3 < W2.heap.size := Nat.lt_of_lt_of_le lt3 hB2.size
  have hb3' : b3 ≤ W2.heap.size := by omega
  have hs2' : r ≤ W2.heap.size := by omega
  have HB2 := Lib.hid hB2
  clear hB2
  gi_cut [6, 7] from 11 (fun u6 u7 wx => ∃ g6 g7 : Nat, u6 = .pointer (some ⟨g6, 0, none⟩) ∧ u7 = .pointer (some ⟨g7, 0, none⟩) ∧ g6 ≠ g7 ∧ W.heap.size ≤ g6 ∧ W.heap.size ≤ g7 ∧ Blk wx g6 103 #[.int .i64 st, .int .i64 lo] ∧ Blk wx g7 103 #[.int .i64 st, .int .i64 hi] ∧ Below W.heap.size W wx)
  case first =>
    gi_region
    all_goals (gi_wp2_with fail; gi_meet)
    · have hsz := HB2.out.size
      exact ⟨W2.heap.size, W2.heap.size + 1, rfl, rfl, by omega, by omega, by omega, ((Blk.new rfl).alloc _).drew, (Blk.new (by simp)).drew, by have hB := HB2.out; (repeat (first | (with_reducible exact Below.refl _ _) | (with_reducible assumption) | ((with_reducible refine below_ext_trans ?_ ?_ _); rotate_left; focus (((try dsimp only); repeat (first | omega | simp only [World.size_alloc, World.size_setCell, World.size_drew] | (with_reducible refine le_ext_of ?_) | (with_reducible refine le_ext_add ?_))); done)) | ((with_reducible refine Below.alloc ?_ ?_ _); rotate_left; focus (((try dsimp only); repeat (first | omega | simp only [World.size_alloc, World.size_setCell, World.size_drew] | (with_reducible refine le_ext_of ?_) | (with_reducible refine le_ext_add ?_))); done)) | ((with_reducible refine Below.setCell ?_ ?_ _); rotate_left; focus (((try dsimp only); repeat (first | omega | simp only [World.size_alloc, World.size_setCell, World.size_drew] | (with_reducible refine le_ext_of ?_) | (with_reducible refine le_ext_add ?_))); done)) | (with_reducible refine Below.drew ?_)))⟩
    · have hsz := HB2.out.size
      exact ⟨W2.heap.size + 1, W2.heap.size, rfl, rfl, by omega, by omega, by omega, (Blk.new (by simp)).drew, ((Blk.new rfl).alloc _).drew, by have hB := HB2.out; (repeat (first | (with_reducible exact Below.refl _ _) | (with_reducible assumption) | ((with_reducible refine below_ext_trans ?_ ?_ _); rotate_left; focus (((try dsimp only); repeat (first | omega | simp only [World.size_alloc, World.size_setCell, World.size_drew] | (with_reducible refine le_ext_of ?_) | (with_reducible refine le_ext_add ?_))); done)) | ((with_reducible refine Below.alloc ?_ ?_ _); rotate_left; focus (((try dsimp only); repeat (first | omega | simp only [World.size_alloc, World.size_setCell, World.size_drew] | (with_reducible refine le_ext_of ?_) | (with_reducible refine le_ext_add ?_))); done)) | ((with_reducible refine Below.setCell ?_ ?_ _); rotate_left; focus (((try dsimp only); repeat (first | omega | simp only [World.size_alloc, World.size_setCell, World.size_drew] | (with_reducible refine le_ext_of ?_) | (with_reducible refine le_ext_add ?_))); done)) | (with_reducible refine Below.drew ?_)))⟩
  case rest =>
    obtain ⟨g6, g7, rfl, rfl, hne, hg6, hg7, k6, k7, hbw⟩ := hcut
    have hl6 := k6.lt
    have hl7 := k7.lt
    have Heq : ∀ (c d e f : Int) (w : World), (Go.binOp .neq 103 (.agg #[.int .i64 c, .int .i64 d]) (.agg #[.int .i64 e, .int .i64 f])).run Tryd.prog w = .ok (.bool (!(c == e && d == f))) w := fun c d e f w => by
      by_cases h1 : c = e <;> by_cases h2 : d = f <;> simp [go_sem, h1, h2]
    have HEQ := Lib.hid Heq
    clear Heq
    have hwn : W.heap.size ≤ wc.heap.size := hbw.size
    obtain ⟨n1, hn1⟩ : ∃ n1, wc.heap.size = n1 := ⟨_, rfl⟩
    rw [hn1] at hl6 hl7 hwn
    have HREL : Hid (J n1 (upto lo lo) wc ∧ Blk wc g6 103 #[.int .i64 st, .int .i64 lo] ∧ Blk wc g7 103 #[.int .i64 st, .int .i64 hi] ∧ n1 ≤ wc.heap.size) := Lib.hid ⟨by rw [upto_self, ← hn1]; exact H0.out wc hbw, k6, k7, by omega⟩
    clear k6 k7 hbw hn1
    gi_wp2_with fail
    gi_loopw [19, 20, 21, 22, 23, 24, 25, 26, 27, 28, 29, 30] (fun _ _ _ _ _ _ _ _ _ _ _ _ wr => ∃ t : Nat, lo ≤ t ∧ t ≤ hi ∧ Hid (J n1 (upto lo t) wr ∧ Blk wr g6 103 #[.int .i64 st, .int .i64 t] ∧ Blk wr g7 103 #[.int .i64 st, .int .i64 hi] ∧ n1 ≤ wr.heap.size))
      (fun _ _ _ _ _ _ _ _ _ _ _ _ wr => hi - (match wr.cell? ⟨g6, 1, none⟩ with | some (.int _ q) => q.toNat | _ => 0))
    case atStart => exact ⟨lo, by omega, hle, HREL⟩
    case round =>
      clear HREL
      obtain ⟨t, ht1, ht2, HR⟩ := hrel
      obtain ⟨fn, tmps, assign, body, hy, hR⟩ := HY.out n1 (upto lo t) t wr hwn HR.out.2.2.2 (by rw [upto_snoc lo t ht1]; exact upto_prefix lo (t + 1) (hi + 1) (by omega)) HR.out.1
      dsimp only [encSp] at hy
      have a0 := HR.out.2.1.cell 0
      have a1 := HR.out.2.1.cell 1
      simp only [List.size_toArray, List.length_cons, List.length_nil, Nat.reduceAdd, Nat.reduceLT, getElem?_pos, List.getElem_toArray, List.getElem_cons_zero, List.getElem_cons_succ] at a0 a1
      gi_wp2_with fail
      refine hR.mono ?_
      rintro e B (⟨rfl, hJB, hS⟩ | ⟨rfl, hJB, hS⟩)
      · have b6 : Blk B g6 103 #[.int .i64 st, .int .i64 t] := (hS.block g6 hl6 (fun h => by have := HOW.out _ h; omega)).trans HR.out.2.1
        have b7 : Blk B g7 103 #[.int .i64 st, .int .i64 hi] := (hS.block g7 hl7 (fun h => by have := HOW.out _ h; omega)).trans HR.out.2.2.1
        have hzB : n1 ≤ B.heap.size := Nat.le_trans HR.out.2.2.2 hS.size
        have d0 := b6.cell 0
        have d1 := b6.cell 1
        have f1 := b6.frozen 1
        have d2 := b7.cell 0
        have d3 := b7.cell 1
        simp only [List.size_toArray, List.length_cons, List.length_nil, Nat.reduceAdd, Nat.reduceLT, getElem?_pos, List.getElem_toArray, List.getElem_cons_zero, List.getElem_cons_succ] at d0 d1 d2 d3
        have B6 := Lib.hid b6
        have B7 := Lib.hid b7
        have HS := Lib.hid hS
        have HJB := Lib.hid hJB
        have heq := HEQ.out st t st hi
        clear b6 b7 hS hJB a0 a1 hy hR
        by_cases hth : t = hi
        · have ht' : ((t : Int) == (hi : Int)) = true := by simp [hth]
          gi_wp2_with fail
          go_end0
          subst hth
          exact ⟨⟨_, rfl⟩, n1, hwn, hzB, .inl ⟨_, rfl, by have := HJB.out; rw [upto_snoc lo t ht1] at this; exact this⟩⟩
        · have ht' : ((t : Int) == (hi : Int)) = false := by simp; omega
          gi_wp2_with fail
          have hcast : ((t : Int) + 1) = ((t + 1 : Nat) : Int) := by omega
          have e6 : Blk (B.setCell ⟨g6, 1, none⟩ (.int .i64 ((t : Int) + 1))) g6 103 #[.int .i64 st, .int .i64 (t + 1 : Nat)] := by
            have := B6.out.set 1 (.int .i64 ((t : Int) + 1))
            rw [hcast] at this ⊢
            exact this
          refine ⟨⟨t + 1, by omega, by omega, Lib.hid ⟨?_, e6, B7.out.setOther (Ne.symm hne) _ _, by rw [World.size_setCell]; exact hzB⟩⟩, ?_⟩
          · have := HJB.out
            rw [upto_snoc lo t ht1] at this
            exact HJ.out n1 _ B _ hwn hzB this (Priv.setCell B hg6 hl6 1 _)
          · have c1 := e6.cell 1
            have c2 := HR.out.2.1.cell 1
            simp only [List.size_toArray, List.length_cons, List.length_nil, Nat.reduceAdd, Nat.reduceLT, getElem?_pos, List.getElem_toArray, List.getElem_cons_zero, List.getElem_cons_succ] at c1 c2
            rw [c1, c2]
            simp only [Int.toNat_natCast]
            omega
      · gi_wp2_with fail
        go_end0
        exact ⟨⟨_, rfl⟩, n1, hwn, Nat.le_trans HR.out.2.2.2 hS.size, .inr ⟨_, by rw [upto_snoc lo t ht1]; exact upto_prefix lo (t + 1) (hi + 1) (by omega), hJB⟩⟩
end Go.Proofs.YtdmicngnbcdkdaaDoor

