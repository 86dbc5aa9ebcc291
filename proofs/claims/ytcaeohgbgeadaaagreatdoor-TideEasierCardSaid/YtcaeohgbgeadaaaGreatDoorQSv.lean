/- Package seine: is there a truth; which states are asked for at an hour. -/
/- Package seine: the states at an hour: the iterator's maker. -/
/- Package seine: the states at an hour. -/
import Derived.Test.YtcaeohgbgeadaaaGreatDoorQSu
set_option linter.unusedSimpArgs false
set_option linter.unusedVariables false
namespace Go.Proofs.YtcaeohgbgeadaaaGreatDoor
open Go Go.RowKit Go.Shelf

theorem setF_none {l : List (Int × Int)} (hl : ∀ st ∈ l, StB st) : (∀ a c, InI a → InI c → setF l a c = none) ↔ l = [] := by
  constructor
  · intro h
    cases l with
    | nil => rfl
    | cons z l =>
      have hz := hl z (by simp)
      have := h z.1 z.2 hz.i1 hz.i2
      simp [setF] at this
  · rintro rfl a c _ _; simp [setF]
attribute [local go_sem] Oper.semAt_some frozen_alloc_lt
set_option maxHeartbeats 2000000 in
theorem tright_any (lo hi : Int) (p : Option Addr) (N c : Nat) (kd : Kd) (Bb : Nat) (L : List (Int × Int)) (tl : List (List (Int × Int))) (w : World) (h : TAt w Bb N (L :: tl)) (hl : ∀ st ∈ L, StB st) :
    Calls Tryz.prog 100 #[.agg (talC lo hi p N c kd Bb)] w fun e w' => e = .returned (.bool (decide (L ≠ []))) ∧ ∃ x, w' = ext w x := by
  obtain ⟨cs, hB, hcs, htl⟩ := h
  obtain ⟨M, n, hc, hm⟩ := htl 0 L rfl
  have hcell : w.cell? ⟨Bb, 0, none⟩ = some (.map (some M)) := by rw [hB.cell]; exact hc
  have hBl := hB.lt
  have hN0 : (0 : Int) < ((N + 1 : Nat) : Int) := by omega
  have hN1 : (0 : Int) < (N : Int) + 1 := by omega
  have HM := Lib.hid hm
  have hlen : ∀ x : Grow w, ∃ m : Nat, m ≤ n ∧ (Builtin.len_ #[179] 3 #[.map (some M)]).run Tryz.prog (ext w x) = .ok (.int .i64 m) (ext w x) ∧ (m = 0 ↔ L = []) := fun x => by
    obtain ⟨m, h1, h2, h3⟩ := MapAt.len (HM.out.below (below_ext w x)) key_state Tryz.underlying179 3
    exact ⟨m, h1, h2, h3.trans (setF_none hl)⟩
  obtain ⟨x, hx⟩ := ext_of (w := w) (w' := w.alloc (.cells (talC lo hi p N c kd Bb) 122)) belA
  obtain ⟨m, h1, h2, h3⟩ := hlen x
  rw [← hx] at h2
  have h4 : decide ((0 : Int) < (m : Int)) = decide (L ≠ []) := by
    by_cases hL : L = []
    · have := h3.2 hL; simp [hL, this]
    · have : m ≠ 0 := fun e => hL (h3.1 e)
      simp [hL]; omega
  have H4 := Lib.hid h4
  clear hm hB hlen hx htl h3 h4
  unfold talC at *
  go_enter Tryz.func100, Tryz.ntmps100
  go_wp2_with fail
  go_ret
  refine ⟨?_, by (exact ext_of (by (exact belA)))⟩
  rw [← H4.out]; simp
theorem heldN_any (h r : Int) (w : World) : Calls Tryz.prog 135 #[.agg #[.int .i64 h, .int .i64 r]] w fun e w' => e = .returned (.int .i64 h) ∧ ∃ x, w' = ext w x := by
  go_enter Tryz.func135, Tryz.ntmps135
  go_wp2_with fail
  go_ret
  exact ⟨rfl, by (exact ext_of (by (exact belA)))⟩
theorem rateN_any (h r : Int) (w : World) : Calls Tryz.prog 164 #[.agg #[.int .i64 h, .int .i64 r]] w fun e w' => e = .returned (.int .i64 r) ∧ ∃ x, w' = ext w x := by
  go_enter Tryz.func164, Tryz.ntmps164
  go_wp2_with fail
  go_ret
  exact ⟨rfl, by (exact ext_of (by (exact belA)))⟩
theorem field_held (x y : Int) (w : World) : (Instr.field 169 (.agg #[.int .i64 x, .int .i64 y]) 0).run Tryz.prog w = .ok (.int .i64 x) w := by
  simp [Instr.field, run_underlying Tryz.underlying169, go_sem, part, asAgg]
/-- How many baskets mending saves in some hours. -/
def savS (n : Int) (s : Int × Int) : Int := s.1 - (aftS s n).1
set_option maxHeartbeats 1000000 in
set_option maxRecDepth 100000 in
theorem savedN_any (h r : Int) (n g : Nat) (w : World) (h0 : 0 ≤ h ∧ h ≤ 400) (r0 : 0 ≤ r ∧ r ≤ 1000) (hn : n ≤ 60) (k : Blk w g 3 #[.int .i64 n]) : Calls Tryz.prog 144 #[.agg #[.int .i64 h, .int .i64 r], .pointer (some ⟨g, 0, none⟩)] w fun e w' => e = .returned (.int .i64 (savS n (h, r))) ∧ ∃ x, w' = ext w x := by
  have c0 := k.cell 0
  have l0 := k.lt
  simp only [List.size_toArray, List.length_cons, List.length_nil, Nat.reduceAdd, Nat.reduceLT, getElem?_pos, List.getElem_toArray, List.getElem_cons_zero, List.getElem_cons_succ] at c0
  have l1 : g < w.heap.size + 1 := by omega
  have l2 : g ≤ w.heap.size := by omega
  have hb := afterH_bd r0.1 n h h0.1
  have hsv : savS n (h, r) = h - afterH r n h := by simp [savS, aftS]
  have hw : wrap64 (h - afterH r n h) = h - afterH r n h := by unfold wrap64; omega
  rw [hsv]
  have hfield := field_held
  clear k hsv
  go_enter Tryz.func144, Tryz.ntmps144
  go_upto_region 1 with fail
  refine wp_region_ext (by kernel_rfl) (by kernel_rfl) ?_
  repeat (go_big_quiet_step (first | (go_at_call 145; exact quiet_ext (after_any h r n _ r0 (by omega) h0.1 (by omega)))))
  (refine wpQuiet_nil ?_; rintro _ ⟨x, rfl⟩)
  go_wp2_with fail
  go_ret
  exact ⟨rfl, by (exact ext_of (by (exact belA)))⟩
end Go.Proofs.YtcaeohgbgeadaaaGreatDoor

namespace Go.Proofs.YtcaeohgbgeadaaaGreatDoor
open Go Go.RowKit Go.Shelf

/-- How many notes there are up to an hour. -/
def upN (ns : List Nt) (h : Int) : Nat := (ns.takeWhile fun s => decide (s.hour ≤ h)).length
theorem upN_le (ns : List Nt) (h : Int) : upN ns h ≤ ns.length := by unfold upN; exact (List.takeWhile_prefix _).length_le
theorem upN_at {ns : List Nt} {h : Int} {k : Nat} (h1 : ∀ i s, i < k → ns[i]? = some s → s.hour ≤ h) (hk : k ≤ ns.length) (h2 : ∀ s, ns[k]? = some s → ¬ s.hour ≤ h) : upN ns h = k := by
  unfold upN
  induction ns generalizing k with
  | nil => simp at hk; simp [hk]
  | cons a l ih =>
    cases k with
    | zero =>
      have := h2 a rfl
      rw [List.takeWhile_cons_of_neg (by simpa using this)]; rfl
    | succ k =>
      have ha := h1 0 a (by omega) rfl
      rw [List.takeWhile_cons_of_pos (by simpa using ha), List.length_cons, ih (k := k) (fun i s hi hs => h1 (i + 1) s (by omega) (by simpa using hs)) (by simpa using hk) (fun s hs => h2 s (by simpa using hs))]
/-- The hours since the last note before one. -/
def sinN (ns : List Nt) (h : Int) : Int := h - pastN ns (upN ns h)
attribute [local go_sem] Oper.semAt_some frozen_alloc_lt
set_option maxHeartbeats 4000000 in
theorem at_any (b : Sn) (p : Option Addr) (c : Nat) (kd : Kd) (Bb : Nat) (h : Int) (w : World) (hl : NotesAt w p b.ns) (hok : Ok9 b) (hh : 0 ≤ h ∧ h ≤ 60) :
    Calls Tryz.prog 137 #[.agg (talC b.lo b.hi p b.ns.length c kd Bb), .int .i64 h] w fun e w' => ∃ bt bp bs : Nat, e = .returned (.func (.func 174) #[] #[.pointer (some ⟨bt, 0, none⟩), .pointer (some ⟨bp, 0, none⟩), .pointer (some ⟨bs, 0, none⟩)]) ∧ w.heap.size ≤ bt ∧ w.heap.size ≤ bp ∧ w.heap.size ≤ bs ∧
      Blk w' bt 122 (talC b.lo b.hi p b.ns.length c kd Bb) ∧ Blk w' bp 3 #[.int .i64 (upN b.ns h)] ∧ Blk w' bs 3 #[.int .i64 (sinN b.ns h)] ∧ Below w.heap.size w w' := by
  have hlen := hok.len
  have HL := Lib.hid hl
  clear hl
  unfold talC
  go_enter Tryz.func137, Tryz.ntmps137
  go_upto_region 2 with fail
  generalize hW0 : ((w.alloc _).alloc _).alloc _ = W0
  have hB0 : Below w.heap.size w W0 := by rw [← hW0]; (exact belA)
  have hz0 : W0.heap.size = w.heap.size + 3 := by rw [← hW0]; simp
  have ht0 : Blk W0 w.heap.size 122 (talC b.lo b.hi p b.ns.length c kd Bb) := by rw [← hW0]; exact ((Blk.new rfl).alloc _).alloc _
  have hp0 : Blk W0 (w.heap.size + 1) 3 #[.int .i64 ((0 : Nat) : Int)] := by rw [← hW0]; exact (Blk.new (by simp)).alloc _
  have hs0 : Blk W0 (w.heap.size + 2) 3 #[.int .i64 (h - pastN b.ns 0)] := by rw [← hW0]; simp only [pastN, Int.sub_zero]; exact Blk.new (by simp)
  have HT0 := Lib.hid ht0
  have HP0 := Lib.hid hp0
  have HS0 := Lib.hid hs0
  have HB0 := Lib.hid hB0
  clear hW0 hB0 ht0 hp0 hs0
  go_wp2_with fail
  go_loopw [8] (fun _ wr => ∃ k : Nat, k ≤ b.ns.length ∧ (∀ i s, i < k → b.ns[i]? = some s → s.hour ≤ h) ∧ Hid (Blk wr w.heap.size 122 (talC b.lo b.hi p b.ns.length c kd Bb)) ∧ Hid (Blk wr (w.heap.size + 1) 3 #[.int .i64 (k : Nat)]) ∧ Hid (Blk wr (w.heap.size + 2) 3 #[.int .i64 (h - pastN b.ns k)]) ∧ Hid (Below w.heap.size w wr))
    (fun _ wr => b.ns.length - (match wr.cell? ⟨w.heap.size + 1, 0, none⟩ with | some (.int _ q) => q.toNat | _ => 0))
  case atStart => exact ⟨0, by omega, fun i s hi => by omega, HT0, HP0, HS0, HB0⟩
  case round =>
    obtain ⟨k, hk, hlow, HT, HP, HS, HB⟩ := hrel
    have t2 := HT.out.cell 2
    have p0 := HP.out.cell 0
    have q0 := HS.out.cell 0
    have fp := HP.out.frozen 0
    have fs := HS.out.frozen 0
    have lt := HT.out.lt
    have lp := HP.out.lt
    have ls := HS.out.lt
    simp only [List.size_toArray, List.length_cons, List.length_nil, Nat.reduceAdd, Nat.reduceLT, getElem?_pos, List.getElem_toArray, List.getElem_cons_zero, List.getElem_cons_succ] at t2 p0 q0
    have hk0 : (0 : Int) ≤ (k : Int) := by omega
    by_cases hlt : k < b.ns.length
    · obtain ⟨s, hs⟩ := get_some b.ns k hlt
      obtain ⟨bb, o, hp, hb, c1, c2, c3, c4⟩ := (HL.out.below HB.out) k s hs
      subst hp
      have hkl : (k : Int) < (b.ns.length : Int) := by omega
      have HW := Lib.hid (wrap_num k (by omega))
      obtain ⟨-, hsh, -⟩ := hok.nt hs
      have hw : wrap64 (h - s.hour) = h - s.hour := by unfold wrap64; omega
      have hne1 : ¬ w.heap.size + 2 = w.heap.size + 1 := by omega
      have hne2 : ¬ w.heap.size + 1 = w.heap.size + 2 := by omega
      by_cases hle : s.hour ≤ h
      · have HPN := Lib.hid (show pastN b.ns (k + 1) = s.hour by simp [pastN, hs])
        have hlow2 : ∀ i t, i < k + 1 → b.ns[i]? = some t → t.hour ≤ h := fun i t hi ht => by
          rcases Nat.lt_or_ge i k with h1 | h1
          · exact hlow i t h1 ht
          · have : i = k := by omega
            subst this
            rw [hs] at ht
            cases ht
            exact hle
        have HLOW := Lib.hid hlow2
        clear hlow hlow2 hs hsh
        go_wp2_with fail
        refine ⟨⟨k + 1, by omega, HLOW.out, Lib.hid ((HT.out.setOther (by omega) _ _).setOther (by omega) _ _), Lib.hid ?_, Lib.hid ?_, Lib.hid ((HB.out.setCell (by simp; omega) _).setCell (by simp) _)⟩, ?_⟩
        · have := (HP.out.setOther (show w.heap.size + 1 ≠ w.heap.size + 1 + 1 by omega) 0 (.int .i64 (h - s.hour))).set 0 (.int .i64 ((k : Int) + 1))
          rw [show ((k + 1 : Nat) : Int) = (k : Int) + 1 by omega]
          exact this
        · rw [HPN.out]
          exact (HS.out.set 0 (.int .i64 (h - s.hour))).setOther (by omega) _ _
        · have h1 := (HP.out.setOther (show w.heap.size + 1 ≠ w.heap.size + 1 + 1 by omega) 0 (.int .i64 (h - s.hour))).set 0 (.int .i64 ((k : Int) + 1))
          have h2 := h1.cell 0
          have h3 : ((#[Value.int .i64 (k : Int)] : Array Value).setIfInBounds 0 (.int .i64 ((k : Int) + 1)))[0]? = some (.int .i64 ((k : Int) + 1)) := rfl
          rw [h2, h3, p0]
          dsimp only
          rw [show ((k : Int) + 1).toNat = k + 1 from by omega, show ((k : Int)).toNat = k from Int.toNat_natCast k]
          omega
      · have HU := Lib.hid (upN_at (k := k) hlow hk (fun t ht => by rw [hs] at ht; cases ht; exact hle))
        clear hlow hs hsh
        go_wp2_with fail
        go_ret
        refine ⟨w.heap.size, w.heap.size + 1, w.heap.size + 2, rfl, by omega, by omega, by omega, HT.out, by rw [HU.out]; exact HP.out, by unfold sinN; rw [HU.out]; exact HS.out, HB.out⟩
    · have hge : ¬ (k : Int) < (b.ns.length : Int) := by omega
      have HU := Lib.hid (upN_at (k := k) hlow hk (fun t ht => by have := (List.getElem?_eq_some_iff.1 ht).1; omega))
      clear hlow
      go_wp2_with fail
      go_ret
      refine ⟨w.heap.size, w.heap.size + 1, w.heap.size + 2, rfl, by omega, by omega, by omega, HT.out, by rw [HU.out]; exact HP.out, by unfold sinN; rw [HU.out]; exact HS.out, HB.out⟩
end Go.Proofs.YtcaeohgbgeadaaaGreatDoor

namespace Go.Proofs.YtcaeohgbgeadaaaGreatDoor
open Go Go.RowKit Go.Shelf

/-- The states some hours later. -/
def latL (L : List (Int × Int)) (n : Int) : List (Int × Int) := L.map (aftS · n)
/-- What an iterator over the states at an hour has captured. -/
structure AtBox (w : World) (lo hi : Int) (p : Option Addr) (N c : Nat) (kd : Kd) (Bb bt bp bs k n : Nat) (tl : List (List (Int × Int))) : Prop where
  t : Blk w bt 122 (talC lo hi p N c kd Bb)
  p : Blk w bp 3 #[.int .i64 k]
  s : Blk w bs 3 #[.int .i64 n]
  l : TAt w Bb N tl
theorem AtBox.bel {w w' : World} {lo hi : Int} {p : Option Addr} {N c : Nat} {kd : Kd} {Bb bt bp bs k n : Nat} {tl : List (List (Int × Int))} (h : AtBox w lo hi p N c kd Bb bt bp bs k n tl) (hb : Below w.heap.size w w') : AtBox w' lo hi p N c kd Bb bt bp bs k n tl := ⟨h.t.bel hb, h.p.bel hb, h.s.bel hb, h.l.bel hb⟩
theorem PrivM.tail {O : Nat → Prop} {A B C : World} {r : Nat} (h : PrivM O A B) (hg : B.grownBy C (some r)) (hr : A.heap.size ≤ r) : PrivM O A C :=
  ⟨hg.os.trans h.os, hg.tape.trans h.tape, hg.output.trans h.output, Nat.le_trans h.size hg.size, fun j hj hn => (hg.block j (Nat.lt_of_lt_of_le hj h.size) (fun e => by simp at e; omega)).trans (h.block j hj hn)⟩
theorem PrivM.ext {O : Nat → Prop} {A B C : World} (h : PrivM O A B) (hb : Below B.heap.size B C) : PrivM O A C := h.trans (PrivM.of_below hb)
attribute [local go_sem] Oper.semAt_some frozen_alloc_lt
set_option maxHeartbeats 4000000 in
theorem at1_gen (lo hi : Int) (p : Option Addr) (N c : Nat) (kd : Kd) (Bb bt bp bs k n : Nat) (tl : List (List (Int × Int))) (L : List (Int × Int)) (O : Nat → Prop) (w : World) (hx : AtBox w lo hi p N c kd Bb bt bp bs k n tl) (hL : tl[k]? = some L) (hkN : k ≤ N) (hst : ∀ st ∈ L, StB st) (hn : n ≤ 60) (hbs : ¬ O bs) (hOM : ∀ M nm, StAt w M nm L → ¬ O M) :
    Seq0 Tryz.prog 174 #[] #[.pointer (some ⟨bt, 0, none⟩), .pointer (some ⟨bp, 0, none⟩), .pointer (some ⟨bs, 0, none⟩)] encS O (fun xs => ∀ z, z ∈ xs ↔ z ∈ latL L n) (fun pre => ∀ z ∈ pre, z ∈ latL L n) w := by
  intro m l J Jx W hW hOW hJ hJx hY h0'
  have hxW := hx.bel hW
  obtain ⟨ht, hp, hs, cs, hB, hcs, htl⟩ := hxW
  obtain ⟨M, nm, hc, hm⟩ := htl k L hL
  have hlM' : M < w.heap.size ∧ ¬ O M := by
    obtain ⟨cs2, hB2, -, htl2⟩ := hx.l
    obtain ⟨M2, nm2, hc2, hm2⟩ := htl2 k L hL
    have e1 := (hW.block _ hB2.lt).trans hB2
    unfold Blk at hB
    rw [hB] at e1
    simp only [Option.some.injEq, Obj.cells.injEq] at e1
    rw [e1.1, hc2] at hc
    simp at hc
    rw [← hc]; exact ⟨hm2.lt, hOM _ _ hm2⟩
  have hlM := hlM'.1
  have ht8 := ht.cell 8
  have hp0 := hp.cell 0
  have hs0 := hs.cell 0
  simp only [List.size_toArray, List.length_cons, List.length_nil, Nat.reduceAdd, Nat.reduceLT, getElem?_pos, List.getElem_toArray, List.getElem_cons_zero, List.getElem_cons_succ] at ht8 hp0 hs0
  have hcell : W.cell? ⟨Bb, k, none⟩ = some (.map (some M)) := by rw [hB.cell]; exact hc
  have lB := hB.lt
  have lt := ht.lt
  have lp := hp.lt
  have ls := hs.lt
  have lsw := hx.s.lt
  have hWz := hW.size
  obtain ⟨W1, left, cnt, hrun, hit, hleft, hg, hz, hcn⟩ := MapAt.range hm key_state Tryz.underlying179
  have hk0 : (0 : Int) ≤ (k : Int) := by omega
  have hk1 : (k : Int) < ((N + 1 : Nat) : Int) := by omega
  have hk2 : (k : Int) < (N : Int) + 1 := by omega
  have HJ := Lib.hid hJ
  have HJx := Lib.hid hJx
  have HY := Lib.hid hY
  have HOW := Lib.hid hOW
  have HO := Lib.hid (show ¬ O bs ∧ ¬ O M from ⟨hbs, hlM'.2⟩)
  have HS := Lib.hid hs
  have HREL : Hid (J [] W1 ∧ IterAt Tryz.prog 169 W1 M W.heap.size nm (setF L) left cnt ∧ PrivM O W W1 ∧ (∀ z ∈ L, left z.1 z.2 = true ∨ aftS z n ∈ ([] : List (Int × Int))) ∧ (∀ z ∈ ([] : List (Int × Int)), z ∈ latL L n)) :=
    Lib.hid ⟨hJ _ _ _ h0' (Nat.le_refl _) (Below.of_grown0 hg (Nat.le_refl _)), hit, PrivM.of_below (Below.of_grown0 hg (Nat.le_refl _)), fun z hz => .inl (by rw [hleft _ _ (hst z hz).i1 (hst z hz).i2, setF_isSome]; simpa using hz), by simp⟩
  clear hJ hJx hY h0' hOW hW hbs hOM hlM' ht hp hs hB hcs htl hc hm hit hleft hg hz hcn hx
  refine callsIn_of_wp Tryz.func174 rfl trivial ?_ rfl
  simp only [Tryz.ntmps174, List.size_toArray, List.length_cons, List.length_nil, Nat.reduceAdd, Nat.reduceSub, Array.replicate_succ, Array.replicate_zero, List.push_toArray, List.append_toArray, List.nil_append, List.cons_append]
  gi_wp2_with fail
  clear hrun hcell ht8 hp0 hs0
  gi_loopw [5] (fun _ wr => ∃ (left : Int → Int → Bool) (cnt : Nat) (pre : List (Int × Int)), Hid (J pre wr ∧ IterAt Tryz.prog 169 wr M W.heap.size nm (setF L) left cnt ∧ PrivM O W wr ∧ (∀ z ∈ L, left z.1 z.2 = true ∨ aftS z n ∈ pre) ∧ (∀ z ∈ pre, z ∈ latL L n)))
    (fun _ wr => wr.rangeLeft M W.heap.size)
  case atStart => exact ⟨left, cnt, [], HREL⟩
  case round =>
    clear HREL
    obtain ⟨left, cnt, pre, HR⟩ := hrel
    rcases HR.out.2.1.next key_state 0 with ⟨e0, e1, hnx⟩ | ⟨x, y, v, w1, cnt', hx, hy, hlxy, hfv, hnx, hit1, hlt, hg1, hz1, hen⟩
    · have hS : ∀ z, z ∈ pre ↔ z ∈ latL L n := fun z => ⟨HR.out.2.2.2.2 z, fun hz => by
        obtain ⟨q, hq, rfl⟩ := List.mem_map.1 hz
        rcases HR.out.2.2.2.1 q hq with h1 | h1
        · rw [e1 _ _ (hst q hq).i1 (hst q hq).i2] at h1; cases h1
        · exact h1⟩
      clear e1
      gi_wp2_with fail
      go_end0
      exact ⟨⟨_, rfl⟩, HR.out.2.2.1, .inl ⟨pre, hS, HR.out.1⟩⟩
    · obtain ⟨hmem, rfl⟩ := setF_some hfv
      obtain ⟨hx4, hy4⟩ := hst _ hmem
      dsimp only at hx4 hy4
      have hrz := HR.out.2.1.lt
      have hMr := HR.out.2.1.ne
      have hWr : W.heap.size ≤ wr.heap.size := HR.out.2.2.1.size
      have hP1 : PrivM O W w1 := HR.out.2.2.1.tail hg1 (Nat.le_refl _)
      have hBr : Below W.heap.size wr w1 := Below.of_grown1 hg1 hWr (Nat.le_refl _)
      have hs1 : Blk w1 bs 3 #[.int .i64 n] := (hP1.block _ ls HO.out.1).trans HS.out
      have c0 := hs1.cell 0
      have l1 := hs1.lt
      simp only [List.size_toArray, List.length_cons, List.length_nil, Nat.reduceAdd, Nat.reduceLT, getElem?_pos, List.getElem_toArray, List.getElem_cons_zero, List.getElem_cons_succ] at c0
      have haft : aftS (x, y) n = (afterH y n x, y) := by simp [aftS]
      have hlw1 : W.heap.size < w1.heap.size := by omega
      have hlM1 : M < W.heap.size := by omega
      have HJ1 := Lib.hid (HJ.out _ _ _ HR.out.1 hWr hBr)
      have HP1 := Lib.hid hP1
      have HIT1 := Lib.hid hit1
      clear hP1 hBr hs1 hit1 hg1 hz1 hrz hMr lsw
      unfold key2 at hnx hen
      have hmemP : aftS (x, y) n ∈ latL L n := List.mem_map.2 ⟨_, hmem, rfl⟩
      have HSP := Lib.hid (show ∀ z ∈ pre ++ [aftS (x, y) n], z ∈ latL L n from fun z hz => by
        rcases List.mem_append.1 hz with h | h
        · exact HR.out.2.2.2.2 z h
        · rw [List.mem_singleton.1 h]; exact hmemP)
      gi_wp2_with (gi_at_call 145; refine (callsIn_wide.2 (after_any x y n _ hy4 (by omega) hx4.1 (by omega))).mono ?_; rintro e w2 ⟨rfl, y0, rfl⟩; obtain ⟨fn, tmps, assign, body, hyy, hR⟩ := HY.out _ pre (aftS (x, y) n) (ext (w1.alloc (.cells #[.int .i64 x, .int .i64 y] 169)) y0) (by have := (below_ext (w1.alloc (.cells #[.int .i64 x, .int .i64 y] 169)) y0).size; rw [World.size_alloc] at this; omega) HSP.out (HJ.out _ _ _ HJ1.out (by omega) belA); rw [haft] at hyy; dsimp only [encS, key2] at hyy)
      have HB2 := Lib.hid (show Below w1.heap.size w1 (ext (w1.alloc (.cells #[.int .i64 x, .int .i64 y] 169)) y0) by (exact belA))
      generalize hA : ext _ y0 = A at *
      refine hR.mono ?_
      rintro e B (⟨rfl, hJB, hSB⟩ | ⟨rfl, hJB, hSB⟩)
      · have hzA := HB2.out.size
        have hitB : IterAt Tryz.prog 169 B M W.heap.size nm (setF L) (fun x_1 y_1 => left x_1 y_1 && !(decide (x_1 = x) && decide (y_1 = y))) cnt' :=
          (HIT1.out.below (m := w1.heap.size) (by omega) (by omega) HB2.out).of_heap (hSB.block _ (by omega) HO.out.2) (hSB.block _ (by omega) (fun e => by have := HOW.out _ e; omega))
        have HPB := Lib.hid ((HP1.out.ext HB2.out).trans hSB)
        have HITB := Lib.hid hitB
        have HJB := Lib.hid hJB
        have hlt2 : B.rangeLeft M W.heap.size < wr.rangeLeft M W.heap.size := by
          rw [hitB.left_eq, HR.out.2.1.left_eq]; exact hlt
        clear hJB hSB hyy hR hitB hA
        gi_wp2_with fail
        go_roundw
        case rel =>
          refine ⟨_, cnt', pre ++ [aftS (x, y) n], Lib.hid ⟨HJB.out, HITB.out, HPB.out, ?_, HSP.out⟩⟩
          intro z hz
          rcases HR.out.2.2.2.1 z hz with h1 | h1
          · by_cases he : z = (x, y)
            · subst he; exact .inr (by simp)
            · refine .inl ?_
              rw [h1]
              simp only [Bool.true_and, Bool.not_eq_true', Bool.and_eq_false_iff, decide_eq_false_iff_not]
              by_cases h2 : z.1 = x
              · exact .inr (fun h3 => he (Prod.ext h2 h3))
              · exact .inl h2
          · exact .inr (List.mem_append_left _ h1)
        case measure => exact hlt2
      · have HPB := Lib.hid ((HP1.out.ext HB2.out).trans hSB)
        have HJB := Lib.hid hJB
        clear hJB hSB hyy hR hA
        gi_wp2_with fail
        refine bodyPost_ret (results_none rfl _ _ _) rfl ?_
        exact ⟨⟨_, rfl⟩, HPB.out, .inr ⟨_, HSP.out, HJB.out⟩⟩
theorem at1_in (lo hi : Int) (p : Option Addr) (N c : Nat) (kd : Kd) (Bb bt bp bs k n : Nat) (tl : List (List (Int × Int))) (L : List (Int × Int)) (O : Nat → Prop) (w : World) (hx : AtBox w lo hi p N c kd Bb bt bp bs k n tl) (hL : tl[k]? = some L) (hkN : k ≤ N) (hst : ∀ st ∈ L, StB st) (hn : n ≤ 60) (hO : ∀ k, O k → w.heap.size ≤ k) :
    Seq0 Tryz.prog 174 #[] #[.pointer (some ⟨bt, 0, none⟩), .pointer (some ⟨bp, 0, none⟩), .pointer (some ⟨bs, 0, none⟩)] encS O (fun xs => ∀ z, z ∈ xs ↔ z ∈ latL L n) (fun pre => ∀ z ∈ pre, z ∈ latL L n) w :=
  at1_gen lo hi p N c kd Bb bt bp bs k n tl L O w hx hL hkN hst hn (fun e => by have := hO _ e; have := hx.s.lt; omega) (fun M nm hm e => by have := hO _ e; have := hm.lt; omega)
end Go.Proofs.YtcaeohgbgeadaaaGreatDoor

