/- Package seine: the least and the greatest of what mending saves. -/
/- Package seine: what is held, lost and saved by a tale. -/
import Derived.Test.YtcaeohgbgeadaaaGreatDoorQSy
set_option linter.unusedSimpArgs false
set_option linter.unusedVariables false
namespace Go.Proofs.YtcaeohgbgeadaaaGreatDoor
open Go Go.RowKit Go.Shelf
attribute [local go_sem] Oper.semAt_some frozen_alloc_lt
set_option maxRecDepth 100000 in
set_option maxHeartbeats 4000000 in
theorem spanSaved_any (lo hi : Int) (p : Option Addr) (N c : Nat) (kd : Kd) (Bb bt bp bs k n : Nat) (tl : List (List (Int × Int))) (L : List (Int × Int)) (q g : Nat) (w : World) (hx : AtBox w lo hi p N c kd Bb bt bp bs k n tl) (hL : tl[k]? = some L) (hkN : k ≤ N) (hst : ∀ st ∈ L, StB st) (hn : n ≤ 60) (hq : q ≤ 60) (hgq : Blk w g 3 #[.int .i64 q]) :
    Calls Tryz.prog 136 #[.agg #[.func (.func 144) #[] #[.pointer (some ⟨g, 0, none⟩)]], .func (.func 174) #[] #[.pointer (some ⟨bt, 0, none⟩), .pointer (some ⟨bp, 0, none⟩), .pointer (some ⟨bs, 0, none⟩)]] w fun e w' => e = .returned (.agg #[.int .i64 (minF (savS q) 400 (latL L n)), .int .i64 (maxF (savS q) 0 (latL L n))]) ∧ Below w.heap.size w w' := by
  refine (callsIn_wide (n := 9)).1 ?_
  refine callsIn_of_wp_marks Tryz.func136 rfl trivial ?_ rfl
  simp only [Tryz.ntmps136, List.size_toArray, List.length_cons, List.length_nil, Nat.reduceAdd, Nat.reduceSub, Array.replicate_succ, Array.replicate_zero, List.push_toArray, List.append_toArray, List.nil_append, List.cons_append]
  refine wpIn_wide.2 ?_
  go_upto_region 2 with fail
  generalize hW0 : ((w.alloc _).alloc _).alloc _ = W0
  have hB0 : Below w.heap.size w W0 := by rw [← hW0]; (exact belA)
  have hz0 : W0.heap.size = w.heap.size + 3 := by rw [← hW0]; simp
  have hq0 : Blk W0 w.heap.size 172 #[.func (.func 144) #[] #[.pointer (some ⟨g, 0, none⟩)]] := by rw [← hW0]; exact ((Blk.new rfl).alloc _).alloc _
  have hr0 : Blk W0 (w.heap.size + 1) 23 #[.int .i64 0, .int .i64 0] := by rw [← hW0]; exact (Blk.new (by simp)).alloc _
  have hs0 : Blk W0 (w.heap.size + 2) 23 #[.int .i64 (minF (savS q) 400 []), .int .i64 (maxF (savS q) 0 [])] := by rw [← hW0]; exact Blk.new (by simp)
  clear hW0
  have hseq := at1_in lo hi p N c kd Bb bt bp bs k n tl L (fun j => j = w.heap.size + 2 ∨ j = W0.heap.size + 1) w hx hL hkN hst hn (fun j hj => by omega)
  have HB0 := Lib.hid hB0
  have HQ0 := Lib.hid hq0
  have HR0 := Lib.hid hr0
  have HS0 := Lib.hid hs0
  have hgw := hgq.lt
  have HG0 := Lib.hid (hgq.bel hB0)
  clear hB0 hq0 hr0 hs0
  go_wp2_with fail
  refine (wpIn_wide (n := 9)).1 ?_
  refine wpIn_rangeFunc_0 (gf := 174) (fb := #[]) (lb := #[.pointer (some ⟨bt, 0, none⟩), .pointer (some ⟨bp, 0, none⟩), .pointer (some ⟨bs, 0, none⟩)]) rfl (enters_of Tryz.func174 (by kernel_rfl) rfl)
    (fun j => j = w.heap.size + 2) (fun j hj => by omega) hseq HB0.out (fun _ => rfl)
    (fun pre A => Blk A w.heap.size 172 #[.func (.func 144) #[] #[.pointer (some ⟨g, 0, none⟩)]] ∧ Blk A (w.heap.size + 2) 23 #[.int .i64 (minF (savS q) 400 pre), .int .i64 (maxF (savS q) 0 pre)] ∧ Blk A g 3 #[.int .i64 q])
    (fun c pre A => False)
    (fun pre z a' A => ∃ (g6 : Nat) (u8 : Value), W0.heap.size + 2 ≤ g6 ∧ Blk A g6 169 #[.int .i64 z.1, .int .i64 z.2] ∧ a' = { tmps := #[.agg #[.func (.func 144) #[] #[.pointer (some ⟨g, 0, none⟩)]], .func (.func 174) #[] #[.pointer (some ⟨bt, 0, none⟩), .pointer (some ⟨bp, 0, none⟩), .pointer (some ⟨bs, 0, none⟩)], .pointer (some ⟨w.heap.size, 0, none⟩), undef, .pointer (some ⟨w.heap.size + 1, 0, none⟩), .pointer (some ⟨w.heap.size + 1 + 1, 0, none⟩), .pointer (some ⟨g6, 0, none⟩), undef, u8, .func (.func 174) #[] #[.pointer (some ⟨bt, 0, none⟩), .pointer (some ⟨bp, 0, none⟩), .pointer (some ⟨bs, 0, none⟩)], .agg #[.int .i64 z.1, .int .i64 z.2], undef, undef, undef, undef, undef, undef, undef, undef, undef, undef, undef, undef, undef, undef, undef, undef], defers := [] })
    ?hI ?hIx ?hAx ?h0 ?hassign ?hbody ?hdone ?hstop
  case hI =>
    rintro pre A C ⟨j1, j2, j3⟩ hz hp
    exact ⟨(hp.block _ (by omega)).trans j1, (hp.block _ (by omega)).trans j2, (hp.block _ (by omega)).trans j3⟩
  case hIx => rintro c pre A C h; exact h.elim
  case hAx =>
    rintro pre z a' A C ⟨g, u8, h1, h2, rfl⟩ hp
    exact ⟨g, u8, h1, (hp.block _ h2.lt (by omega)).trans h2, rfl⟩
  case h0 =>
    intro W6 hb6
    exact ⟨(hb6.block _ (by omega)).trans HQ0.out, (hb6.block _ (by omega)).trans HS0.out, (hb6.block _ (by omega)).trans HG0.out⟩
  case hassign =>
    intro m l' pre z W' hz hsp hi'
    clear hseq
    dsimp only [encS, key2]
    gi_wp2_with fail
    exact ⟨⟨W'.heap.size, _, hz, Blk.new rfl, rfl⟩, by (exact belA)⟩
  case hbody =>
    rintro m l' pre z a' W' hz hpx ⟨j1, j2, j3⟩ ⟨g6, u8, hgz, hbg, rfl⟩
    have hzB := latL_B hst z (hpx z (by simp))
    have hmn := minF_snoc (savS q) 400 pre z
    have hmx := maxF_snoc (savS q) 0 pre z
    generalize minF (savS q) 400 pre = mn at *
    generalize maxF (savS q) 0 pre = mx at *
    obtain ⟨x, y⟩ := z
    dsimp only at hbg ⊢
    have c0 := j1.cell 0
    have e0 := j2.cell 0
    have e1 := j2.cell 1
    have d0 := hbg.cell 0
    have d1 := hbg.cell 1
    have f0 := j2.frozen 0
    have f1 := j2.frozen 1
    have l0 := j1.lt
    have l1 := j2.lt
    have l2 := hbg.lt
    simp only [List.size_toArray, List.length_cons, List.length_nil, Nat.reduceAdd, Nat.reduceLT, getElem?_pos, List.getElem_toArray, List.getElem_cons_zero, List.getElem_cons_succ] at c0 d0 d1 e0 e1
    have J1 := Lib.hid j1
    have J2 := Lib.hid j2
    have J3 := Lib.hid j3
    clear hseq j1 j2 j3 hbg hpx
    gi_wp2_with (first
      | (gi_at_call 144; refine (CallsIn.inRound _ (callsIn_wide.2 (savedN_any _ _ q g _ hzB.1 hzB.2 hq J3.out))).mono ?_; rintro e w2 ⟨rfl, y1, hw2⟩; have HW2 := Lib.hid (show Below W'.heap.size W' w2 by rw [hw2]; exact below_ext _ _); have e0 := (HW2.out.cell (p := ⟨w.heap.size + 2, 0, none⟩) l1).trans e0; have l3 : w.heap.size + 2 < w2.heap.size := (by have := HW2.out.size; omega); clear hw2)
      | (gi_at_call 173; refine (CallsIn.inRound _ (callsIn_wide.2 (least_one mn _ _ _ (Blk.new rfl)))).mono ?_; rintro e w3 ⟨rfl, y2, hw3⟩; have HW3 := Lib.hid (show Below W'.heap.size W' w3 by rw [hw3]; have hB := HW2.out; have := hB.size; (exact belA)); have e0 := (HW3.out.cell (p := ⟨w.heap.size + 2, 0, none⟩) l1).trans (J2.out.cell 0); have e1 := (HW3.out.cell (p := ⟨w.heap.size + 2, 1, none⟩) l1).trans (J2.out.cell 1); have f0 := (HW3.out.frozen (p := ⟨w.heap.size + 2, 0, none⟩) l1).trans (J2.out.frozen 0); have f1 := (HW3.out.frozen (p := ⟨w.heap.size + 2, 1, none⟩) l1).trans (J2.out.frozen 1); simp only [List.size_toArray, List.length_cons, List.length_nil, Nat.reduceAdd, Nat.reduceLT, getElem?_pos, List.getElem_toArray, List.getElem_cons_zero, List.getElem_cons_succ] at e0 e1; have l4 : w.heap.size + 2 < w3.heap.size := (by have := HW3.out.size; omega); clear hw3))
    all_goals
      refine ⟨privM_set (O := fun j => j = w.heap.size + 2) (privM_set (O := fun j => j = w.heap.size + 2) (PrivM.of_below HW3.out) rfl _ _) rfl _ _, ((J1.out.bel HW3.out).setOther (by omega) _ _).setOther (by omega) _ _, ?_, ((J3.out.bel HW3.out).setOther (by omega) _ _).setOther (by omega) _ _⟩
      have hfin := ((J2.out.bel HW3.out).set 0 (.int .i64 (min mn ((savS q) (x, y))))).set 1 (.int .i64 (max mx ((savS q) (x, y))))
      rw [hmn, hmx]
      first
        | (rw [show max mx ((savS q) (x, y)) = (savS q) (x, y) by omega] at hfin ⊢; exact hfin)
        | (rw [show max mx ((savS q) (x, y)) = mx by omega] at hfin ⊢; exact hfin)
  case hdone =>
    rintro D xs W' rfl hz hS ⟨j1, j2, -⟩ hp hD'
    rw [minF_congr _ _ hS, maxF_congr _ _ hS] at j2
    obtain ⟨mn, hmn⟩ : ∃ m, minF (savS q) 400 (latL L n) = m := ⟨_, rfl⟩
    obtain ⟨mx, hmx⟩ : ∃ m, maxF (savS q) 0 (latL L n) = m := ⟨_, rfl⟩
    rw [hmn, hmx] at j2
    have HMN := Lib.hid hmn
    have HMX := Lib.hid hmx
    clear hmn hmx
    have hrW := (hp.block _ HR0.out.lt (by omega)).trans HR0.out
    have HRW := Lib.hid (show Blk W' (w.heap.size + 1) 23 _ from hrW)
    have e0 := j2.cell 0
    have e1 := j2.cell 1
    have r0 := Blk.cell hrW 0
    have r1 := Blk.cell hrW 1
    have f0 := Blk.frozen hrW 0
    have f1 := Blk.frozen hrW 1
    have l1 := j2.lt
    have l2 := Blk.lt hrW
    simp only [List.size_toArray, List.length_cons, List.length_nil, Nat.reduceAdd, Nat.reduceLT, getElem?_pos, List.getElem_toArray, List.getElem_cons_zero, List.getElem_cons_succ] at e0 e1 r0 r1
    have HPV := Lib.hid hp
    have HD := Lib.hid hD'
    clear j1 j2 hrW hp hD' hseq hS
    gi_wp2_with fail
    go_wp2_with fail
    have hF : Blk ((W'.setCell ⟨w.heap.size + 1, 0, none⟩ (.int .i64 mn)).setCell ⟨w.heap.size + 1, 1, none⟩ (.int .i64 mx)) (w.heap.size + 1) 23 #[.int .i64 mn, .int .i64 mx] := (HRW.out.set 0 _).set 1 _
    have hBF : Below w.heap.size W' ((W'.setCell ⟨w.heap.size + 1, 0, none⟩ (.int .i64 mn)).setCell ⟨w.heap.size + 1, 1, none⟩ (.int .i64 mx)) := ((Below.refl _ _).setCell (by simp) _).setCell (by simp) _
    have hDF : ((W'.setCell ⟨w.heap.size + 1, 0, none⟩ (.int .i64 mn)).setCell ⟨w.heap.size + 1, 1, none⟩ (.int .i64 mx)).heap[W0.heap.size]? = some (.deferred (some [])) :=
      (Below.heap_setCell _ _ _ _ (by dsimp only; omega)).trans ((Below.heap_setCell _ _ _ _ (by dsimp only; omega)).trans HD.out)
    generalize (W'.setCell ⟨w.heap.size + 1, 0, none⟩ (.int .i64 mn)).setCell ⟨w.heap.size + 1, 1, none⟩ (.int .i64 mx) = F at *
    refine ⟨by simp, .inl ⟨_, _, rfl, run_takeDeferred hDF, ?_⟩⟩
    have hG : Blk (F.putObj W0.heap.size (.deferred none)) (w.heap.size + 1) 23 #[.int .i64 mn, .int .i64 mx] := (World.putObj_heap_other (by omega)).trans hF
    have t0 := hG.cell 0
    have t1 := hG.cell 1
    simp only [List.size_toArray, List.length_cons, List.length_nil, Nat.reduceAdd, Nat.reduceLT, getElem?_pos, List.getElem_toArray, List.getElem_cons_zero, List.getElem_cons_succ] at t0 t1
    refine ⟨.agg #[.int .i64 mn, .int .i64 mx], ?_, by rw [HMN.out, HMX.out], ?_⟩
    · simp [results, Tryz.results136, go_sem, t0, t1]
    · have hBW : Below w.heap.size W0 W' := HPV.out.below (by omega) (fun j hj => by omega)
      exact HB0.out.trans (hBW.trans (hBF.trans (below_putObj _ (by omega) _)))
  case hstop =>
    rintro D c pre W' rfl hz hSp h hp hD'
    exact h.elim
end Go.Proofs.YtcaeohgbgeadaaaGreatDoor

namespace Go.Proofs.YtcaeohgbgeadaaaGreatDoor
open Go Go.RowKit Go.Shelf

theorem tlL_len {ns : List Nt} : ∀ (j k : Nat) (l : List (Int × Int)), k + j = ns.length → (tlL ns j k l).length = j + 1
  | 0, _, _, _ => rfl
  | j + 1, k, l, h => by
    obtain ⟨s, hs⟩ := get_some ns k (by omega)
    rw [tlL_step hs, List.length_cons, tlL_len j (k + 1) _ (by omega)]
theorem leadL_sub {ns : List Nt} {k : Nat} {s : Nt} {l ot : List (Int × Int)} {z : Int × Int} (h : z ∈ leadL ns k s l ot) : z ∈ l := (List.mem_filter.1 h).1
theorem tlL_K {b : Sn} (hok : Ok9 b) : ∀ (j k : Nat) (l : List (Int × Int)), k + j = b.ns.length → (∀ st ∈ l, StK k st) → ∀ (i : Nat) (L : List (Int × Int)), (tlL b.ns j k l)[i]? = some L → ∀ st ∈ L, StK (k + i) st
  | 0, k, l, _, hl, i, L, hL => by
    cases i with
    | zero => simp [tlL] at hL; subst hL; simpa using hl
    | succ i => simp [tlL] at hL
  | j + 1, k, l, hkj, hl, i, L, hL => by
    obtain ⟨s, hs⟩ := get_some b.ns k (by omega)
    rw [tlL_step hs] at hL
    cases i with
    | zero =>
      simp only [List.getElem?_cons_zero, Option.some.injEq] at hL
      subst hL
      intro st h
      exact hl st (leadL_sub h)
    | succ i =>
      rw [List.getElem?_cons_succ] at hL
      have := tlL_K hok j (k + 1) _ (by omega) (rchL_K hok hs hl) i L hL
      intro st h
      have h2 := this st h
      rwa [show k + 1 + i = k + (i + 1) by omega] at h2
theorem talL_len {b : Sn} : (talL b).length = b.ns.length + 1 := tlL_len _ _ _ (by omega)
theorem talL_K {b : Sn} (hok : Ok9 b) {i : Nat} {L : List (Int × Int)} (h : (talL b)[i]? = some L) : ∀ st ∈ L, StK i st := by
  have := tlL_K hok b.ns.length 0 _ (by omega) (startL_K ⟨hok.span.1, hok.span.2.2.2.1⟩) i L h
  simpa using this
theorem talL_B {b : Sn} (hok : Ok9 b) {i : Nat} {L : List (Int × Int)} (h : (talL b)[i]? = some L) : ∀ st ∈ L, StB st := fun st hst => by
  have h1 := (List.getElem?_eq_some_iff.1 h).1
  rw [talL_len] at h1
  have := hok.len
  exact (talL_K hok h st hst).b (by omega)
/-- The states behind some notes. -/
def behN (b : Sn) (k : Nat) : List (Int × Int) := (talL b).getD k []
theorem behN_at {b : Sn} {k : Nat} (hk : k ≤ b.ns.length) : (talL b)[k]? = some (behN b k) := by
  have : k < (talL b).length := by rw [talL_len]; omega
  simp [behN, this]
/-- All states at an hour. -/
def atL (b : Sn) (h : Int) : List (Int × Int) := latL (behN b (upN b.ns h)) (sinN b.ns h)
theorem mem_tw {α : Type} {p : α → Bool} {z : α} : ∀ {l : List α}, z ∈ l.takeWhile p → p z = true
  | [], h => by simp at h
  | a :: l, h => by
    by_cases ha : p a = true
    · rw [List.takeWhile_cons_of_pos ha] at h
      rcases List.mem_cons.1 h with rfl | h
      · exact ha
      · exact mem_tw h
    · rw [List.takeWhile_cons_of_neg ha] at h; simp at h
theorem sinN_bd {b : Sn} (hok : Ok9 b) {h : Int} (h0 : 0 ≤ h) : 0 ≤ sinN b.ns h ∧ sinN b.ns h ≤ h := by
  unfold sinN
  have hle := upN_le b.ns h
  obtain ⟨k, hk⟩ : ∃ k, upN b.ns h = k := ⟨_, rfl⟩
  rw [hk] at hle ⊢
  cases k with
  | zero => simp [pastN]; omega
  | succ k =>
    obtain ⟨s, hs⟩ := get_some b.ns k (by omega)
    obtain ⟨-, h2, -⟩ := hok.nt hs
    have h3 : s.hour ≤ h := by
      have hp := List.takeWhile_prefix (p := fun s : Nt => decide (s.hour ≤ h)) (l := b.ns)
      have hlt : k < (b.ns.takeWhile fun s => decide (s.hour ≤ h)).length := by unfold upN at hk; omega
      obtain ⟨t, ht⟩ := get_some (b.ns.takeWhile fun s => decide (s.hour ≤ h)) k hlt
      have : t = s := by
        obtain ⟨r, hr⟩ := hp
        rw [← hr, List.getElem?_append_left hlt] at hs
        rw [ht] at hs; exact Option.some.inj hs
      subst this
      have hm := List.mem_of_getElem? ht
      have := mem_tw hm
      simpa using this
    simp [pastN, hs]
    omega
theorem wrap_id {a : Int} (h0 : -1000000 ≤ a) (h1 : a ≤ 1000000) : wrap64 a = a := by unfold wrap64; omega
/-- A tale's list lies where it was laid, and all that its book leans on. -/
structure TOK (w : World) (b : Sn) (p : Option Addr) (Bb : Nat) : Prop where
  nt : NotesAt w p b.ns
  ok : Ok9 b
  tl : TAt w Bb b.ns.length (talL b)
theorem TOK.bel {w w' : World} {b : Sn} {p : Option Addr} {Bb : Nat} (h : TOK w b p Bb) (hb : Below w.heap.size w w') : TOK w' b p Bb := ⟨h.nt.below hb, h.ok, h.tl.bel hb⟩
attribute [local go_sem] Oper.semAt_some frozen_alloc_lt
set_option maxRecDepth 100000 in
set_option maxHeartbeats 2000000 in
theorem theld_any (b : Sn) (p : Option Addr) (c : Nat) (kd : Kd) (Bb : Nat) (h : Int) (w : World) (ht : TOK w b p Bb) (hh : 0 ≤ h ∧ h ≤ 60) :
    Calls Tryz.prog 95 #[.agg (talC b.lo b.hi p b.ns.length c kd Bb), .int .i64 h] w fun e w' => e = .returned (.agg #[.int .i64 (minF Prod.fst 400 (atL b h)), .int .i64 (maxF Prod.fst 0 (atL b h))]) ∧ Below w.heap.size w w' := by
  have hle := upN_le b.ns h
  have hL := behN_at hle
  have hst := talL_B ht.ok hL
  have hbd := sinN_bd ht.ok hh.1
  obtain ⟨n, hn⟩ : ∃ n : Nat, sinN b.ns h = n := ⟨(sinN b.ns h).toNat, by omega⟩
  unfold atL
  rw [hn]
  have HT := Lib.hid ht
  have HN := Lib.hid hn
  have hn60 : n ≤ 60 := by omega
  clear ht hbd hn
  unfold talC
  go_enter Tryz.func95, Tryz.ntmps95
  go_upto_region 1 with fail
  generalize hW0 : (w.alloc _).alloc _ = W0
  have hB0 : Below w.heap.size w W0 := by rw [← hW0]; (exact belA)
  have hz0 : W0.heap.size = w.heap.size + 2 := by rw [← hW0]; simp
  have ht0 : Blk W0 w.heap.size 122 (talC b.lo b.hi p b.ns.length c kd Bb) := by rw [← hW0]; exact (Blk.new rfl).alloc _
  have hr0 : Blk W0 (w.heap.size + 1) 23 #[.int .i64 0, .int .i64 0] := by rw [← hW0]; exact Blk.new (by simp)
  have q0 := ht0.cell 0
  have q1 := ht0.cell 1
  have q2 := ht0.cell 2
  have q3 := ht0.cell 3
  have q4 := ht0.cell 4
  have q5 := ht0.cell 5
  have q6 := ht0.cell 6
  have q7 := ht0.cell 7
  have q8 := ht0.cell 8
  simp only [List.size_toArray, List.length_cons, List.length_nil, Nat.reduceAdd, Nat.reduceLT, getElem?_pos, List.getElem_toArray, List.getElem_cons_zero, List.getElem_cons_succ] at q0 q1 q2 q3 q4 q5 q6 q7 q8
  have HB0 := Lib.hid hB0
  have HR0 := Lib.hid hr0
  clear hW0 hB0 ht0 hr0
  go_wp2_with (first
    | (go_at_call 137; refine (at_any b p c kd Bb h _ (HT.out.nt.below HB0.out) HT.out.ok hh).mono ?_; rintro e w1 ⟨bt, bp, bs, rfl, k1, k2, k3, k4, k5, k6, k7⟩; rw [HN.out] at k6; have HW1 := Lib.hid k7; have HX := Lib.hid (show AtBox w1 b.lo b.hi p b.ns.length c kd Bb bt bp bs (upN b.ns h) n (talL b) from ⟨k4, k5, k6, (HT.out.tl.bel HB0.out).bel k7⟩); clear k4 k5 k6 k7)
    | (go_at_call 136; refine (spanHeld_any b.lo b.hi p b.ns.length c kd Bb bt bp bs (upN b.ns h) n (talL b) (behN b (upN b.ns h)) w1 HX.out hL hle hst hn60).mono ?_; rintro e w2 ⟨rfl, k8⟩; have HR2 := Lib.hid ((HR0.out.bel HW1.out).bel k8); have HW2 := Lib.hid (HB0.out.trans ((HW1.out.mono HB0.out.size).trans (k8.mono (by have := HB0.out.size; have := HW1.out.size; omega)))); have r0 := HR2.out.cell 0; have r1 := HR2.out.cell 1; have f0 := HR2.out.frozen 0; have f1 := HR2.out.frozen 1; have lr := HR2.out.lt; simp only [List.size_toArray, List.length_cons, List.length_nil, Nat.reduceAdd, Nat.reduceLT, getElem?_pos, List.getElem_toArray, List.getElem_cons_zero, List.getElem_cons_succ] at r0 r1; clear k8))
  have hF := (HR2.out.set 0 (.int .i64 (minF Prod.fst 400 (latL (behN b (upN b.ns h)) n)))).set 1 (.int .i64 (maxF Prod.fst 0 (latL (behN b (upN b.ns h)) n)))
  have t0 := Blk.cell hF 0
  have t1 := Blk.cell hF 1
  refine bodyPost_ret (v := .agg #[.int .i64 (minF Prod.fst 400 (latL (behN b (upN b.ns h)) n)), .int .i64 (maxF Prod.fst 0 (latL (behN b (upN b.ns h)) n))]) ?_ rfl ⟨rfl, ?_⟩
  · simp [results, Tryz.results95, go_sem, r0, r1, lr]
  · exact (HW2.out.setCell (by simp) _).setCell (by simp) _
end Go.Proofs.YtcaeohgbgeadaaaGreatDoor

