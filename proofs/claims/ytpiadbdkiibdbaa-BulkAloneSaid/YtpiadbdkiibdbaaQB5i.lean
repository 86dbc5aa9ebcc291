/- Contracts of package bulk: can all counts of a lot, of all lots be right? Written by gen_b5i.py. -/
/- Contracts of package bulk: is something so of each lot; isTrue. Written by gen_b5j.py. -/
import Derived.Test.YtpiadbdkiibdbaaQB5h
set_option linter.unusedSimpArgs false
set_option linter.unusedVariables false
namespace Go.Proofs.Ytpiadbdkiibdbaa
open Go Go.RowKit Go.Shelf
attribute [local go_sem] Oper.semAt_some frozen_alloc_lt
/-- What is known of a lot of a valid book, and of the book. -/
structure LtOK (b : Ck) (t : Lt) : Prop where
  er : ∀ i, 0 ≤ b.err i ∧ b.err i ≤ 9
  tl : ∀ i, -1 ≤ t.told i ∧ t.told i ≤ 40
  ws : 0 ≤ t.wl ∧ t.wl ≤ t.wh ∧ t.wh ≤ 20
def LoadsPost (b : Ck) (p : Option Addr) (c : Nat) (m : Ms) (t : Lt) (w : World) (e : Ending) (w' : World) : Prop :=
  ∃ gs gl : Nat, e = .returned (.func (.func 133) #[] #[.pointer (some ⟨gs, 0, none⟩), .pointer (some ⟨gl, 0, none⟩)]) ∧ (w.heap.size ≤ gs ∧ w.heap.size ≤ gl) ∧ Blk w' gs 113 (stcs b p c m) ∧ Blk w' gl 62 (ltcs t) ∧ ∃ x, w' = ext w x
theorem loads_any (b : Ck) (p : Option Addr) (c : Nat) (m : Ms) (t : Lt) (w : World) : Calls Try.prog 132 #[stV b p c m, ltV t] w (LoadsPost b p c m t w) := by
  unfold stV ltV
  go_enter Try.func132, Try.ntmps132
  go_wp2
  go_ret
  exact ⟨w.heap.size, w.heap.size + 1, rfl, ⟨by omega, by omega⟩, (Blk.new rfl).alloc _, Blk.new (by simp), by (exact ext_of (by (exact belA)))⟩
set_option maxRecDepth 100000 in
set_option maxHeartbeats 8000000 in
theorem canBe_any (b : Ck) (p : Option Addr) (c : Nat) (m : Ms) (t : Lt) (q : Bool) (w : World) (hm : MsOK m) (ht : LtOK b t) (hq : canB b m t = q) :
    Calls Try.prog 126 #[stV b p c m, ltV t] w fun e w' => e = .returned (.bool q) ∧ ∃ x, w' = ext w x := by
  refine (callsIn_wide (n := 9)).1 ?_
  have HQ := Lib.hid hq
  clear hq
  refine callsIn_of_wp_marks Try.func126 rfl trivial ?_ rfl
  simp only [Try.ntmps126, List.size_toArray, List.length_cons, List.length_nil, Nat.reduceAdd, Nat.reduceSub, Array.replicate_succ, Array.replicate_zero, List.push_toArray, List.append_toArray, List.nil_append, List.cons_append]
  refine wpIn_wide.2 ?_
  unfold stV ltV
  go_upto_region 1 with fail
  generalize hW0 : World.alloc _ _ = W0
  have hB0 : Below w.heap.size w W0 := by rw [← hW0]; (exact belA)
  have hz0 : W0.heap.size = w.heap.size + 3 := by rw [← hW0]; simp
  have k1 : Blk W0 w.heap.size 113 (stcs b p c m) := by rw [← hW0]; exact ((Blk.new rfl).alloc _).alloc _
  have k2 : Blk W0 (w.heap.size + 1) 62 (ltcs t) := by rw [← hW0]; exact (Blk.new (by simp)).alloc _
  have k3 : Blk W0 (w.heap.size + 2) 4 #[.bool false] := by rw [← hW0]; exact Blk.new (by simp)
  have HB0 := Lib.hid hB0
  have K3 := Lib.hid k3
  unfold stcs at k1
  unfold ltcs at k2
  obtain ⟨s0, s1, s2, s3, s4, s5, s6, s7, s8, s9, s10, s11, s12⟩ := Blk.c13 k1
  obtain ⟨t0, t1, t2, t3, t4⟩ := Blk.c5 k2
  have ls := k1.lt
  have lt := k2.lt
  have hz0' := hz0
  clear hW0 hB0 k1 k2 k3 hz0
  have HZ0 := Lib.hid hz0'
  clear hz0'
  go_wp2_with (go_at_call 132; refine (loads_any b p c m t _).mono ?_; rintro e w2 ⟨gs, gl, rfl, hge, ks, kl, y, hw⟩; have HB2 := Lib.hid (show Below W0.heap.size W0 w2 by rw [hw]; (exact belA)); have KS := Lib.hid ks; have KL := Lib.hid kl; have HGE := Lib.hid hge; clear hw ks kl hge)
  clear s0 s1 s2 s3 s4 s5 s6 s7 s8 s9 s10 s11 s12 ls t0 t1 t2 t3 t4 lt
  have hsz : w.heap.size + 3 ≤ w2.heap.size := by have := HB2.out.size; have := HZ0.out; omega
  have HB3 := Lib.hid (HB0.out.trans (HB2.out.mono HB0.out.size))
  have K3' := Lib.hid (K3.out.bel HB2.out)
  have hseq := loads1_in b p c m t gs gl (fun j => j = w.heap.size + 2 ∨ j = w2.heap.size + 1) w2 KS.out KL.out (fun j hj => by
    have h1 := HGE.out; have h2 := HZ0.out; have h3 := KS.out.lt; have h4 := KL.out.lt
    rcases hj with rfl | rfl <;> exact ⟨by omega, by omega⟩) hm ht.er ht.tl ht.ws
  refine (wpIn_wide (n := 9)).1 ?_
  refine wpIn_rangeFunc_0 (gf := 133) (fb := #[]) (lb := #[.pointer (some ⟨gs, 0, none⟩), .pointer (some ⟨gl, 0, none⟩)]) rfl (enters_of Try.func133 (by kernel_rfl) rfl)
    (fun j => j = w.heap.size + 2) (fun j hj => by omega) hseq (Below.refl _ _) (fun _ => rfl)
    (fun pre A => pre = [] ∧ Below w.heap.size w A ∧ Blk A (w.heap.size + 2) 4 #[.bool false])
    (fun cc pre A => cc = .ret ∧ pre ≠ [] ∧ Below w.heap.size w A ∧ Blk A (w.heap.size + 2) 4 #[.bool true])
    (fun pre x a' A => ∃ u8 : Value, a' = { tmps := #[.agg #[.int .i64 b.l0, .int .i64 b.u0, .int .i64 b.l1, .int .i64 b.u1, .int .i64 b.l2, .int .i64 b.u2, .int .i64 b.e0, .int .i64 b.e1, .int .i64 b.e2, .slice p b.ls.length c, .int .i64 m.a, .int .i64 m.b, .int .i64 m.c], .agg #[.int .i64 t.t0, .int .i64 t.t1, .int .i64 t.t2, .int .i64 t.wl, .int .i64 t.wh], .pointer (some ⟨w.heap.size, 0, none⟩), .pointer (some ⟨w.heap.size + 1, 0, none⟩), .pointer (some ⟨w.heap.size + 2, 0, none⟩), .agg #[.int .i64 b.l0, .int .i64 b.u0, .int .i64 b.l1, .int .i64 b.u1, .int .i64 b.l2, .int .i64 b.u2, .int .i64 b.e0, .int .i64 b.e1, .int .i64 b.e2, .slice p b.ls.length c, .int .i64 m.a, .int .i64 m.b, .int .i64 m.c], .agg #[.int .i64 t.t0, .int .i64 t.t1, .int .i64 t.t2, .int .i64 t.wl, .int .i64 t.wh], .func (.func 133) #[] #[.pointer (some ⟨gs, 0, none⟩), .pointer (some ⟨gl, 0, none⟩)], u8], defers := [] })
    ?hI ?hIx ?hAx ?h0 ?hassign ?hbody ?hdone ?hstop
  case hI =>
    rintro pre A C ⟨j0, j1, j2⟩ hz hp
    exact ⟨j0, j1.trans (hp.mono (by omega)), (hp.block _ (by omega)).trans j2⟩
  case hIx =>
    rintro cc pre A C ⟨rfl, j0, j1, j2⟩ hz hp
    exact ⟨rfl, j0, j1.trans (hp.mono (by omega)), (hp.block _ (by omega)).trans j2⟩
  case hAx => rintro pre x a' A C ⟨u8, rfl⟩ hp; exact ⟨u8, rfl⟩
  case h0 =>
    intro W6 hb6
    exact ⟨rfl, HB3.out.trans (hb6.mono (by omega)), (hb6.block _ (by omega)).trans K3'.out⟩
  case hassign =>
    intro mm l' pre z W' hz hsp hi'
    clear hseq
    gi_wp2_with fail
    exact ⟨⟨_, by simp [encL]; rfl⟩, Below.refl _ _⟩
  case hbody =>
    rintro mm l' pre x a' W' hz hpx ⟨rfl, j1, j2⟩ ⟨u8, rfl⟩
    have J1 := Lib.hid j1
    have J2 := Lib.hid j2
    have c0 := Blk.c1 j2
    have f0 := j2.frozen 0
    have l2 := j2.lt
    clear j1 j2 hseq
    gi_wp2_with fail
    exact ⟨PrivM.setCell (M := fun j => j = w.heap.size + 2) _ rfl _ _, rfl, by simp, J1.out.setCell (by dsimp only; omega) _, by simpa using J2.out.set 0 (.bool true)⟩
  case hdone =>
    rintro D xs W' rfl hz rfl ⟨j0, j1, j2⟩ hp hD'
    have J1 := Lib.hid j1
    have J2 := Lib.hid j2
    have HD := Lib.hid hD'
    have HF := Lib.hid (show q = false by rw [← HQ.out]; unfold canB; rw [j0]; rfl)
    have c0 := Blk.c1 j2
    have f0 := j2.frozen 0
    have l2 := j2.lt
    clear j0 j1 j2 hp hseq hD'
    gi_wp2_with fail
    go_wp2_with fail
    rw [show w.heap.size + 1 + 1 = w.heap.size + 2 from rfl]
    have hF : Blk (W'.setCell ⟨w.heap.size + 2, 0, none⟩ (.bool false)) (w.heap.size + 2) 4 #[.bool false] := by simpa using J2.out.set 0 (.bool false)
    have hBF := J1.out.setCell (p := ⟨w.heap.size + 2, 0, none⟩) (by dsimp only; omega) (.bool false)
    have hDF : (W'.setCell ⟨w.heap.size + 2, 0, none⟩ (.bool false)).heap[w2.heap.size]? = some (.deferred (some [])) :=
      (Below.heap_setCell _ _ _ _ (by dsimp only; omega)).trans HD.out
    generalize W'.setCell ⟨w.heap.size + 2, 0, none⟩ (.bool false) = F at *
    refine ⟨by simp, .inl ⟨_, _, rfl, run_takeDeferred hDF, ?_⟩⟩
    have hG : Blk (F.putObj w2.heap.size (.deferred none)) (w.heap.size + 2) 4 #[.bool false] := (World.putObj_heap_other (by omega)).trans hF
    have t0 := Blk.c1 hG
    refine ⟨.bool false, ?_, by rw [HF.out], ext_of ?_⟩
    · simp [results, Try.results126, go_sem, t0]
    · exact hBF.trans (below_putObj _ (by omega) _)
  case hstop =>
    rintro D cc pre W' rfl hz hSp ⟨rfl, j0, j1, j2⟩ hp hD'
    have J1 := Lib.hid j1
    have J2 := Lib.hid j2
    have HD := Lib.hid hD'
    have HT := Lib.hid (show q = true by
      rw [← HQ.out]; unfold canB
      rw [Bool.not_eq_true', List.isEmpty_eq_false_iff_exists_mem]
      obtain ⟨x, hx⟩ := List.exists_mem_of_ne_nil _ j0
      exact ⟨x, hSp.subset hx⟩)
    clear j0 j1 j2 hp hseq hD'
    gi_wp2_with fail
    rw [show w.heap.size + 1 + 1 = w.heap.size + 2 from rfl]
    refine ⟨by simp, .inl ⟨_, _, rfl, run_takeDeferred HD.out, ?_⟩⟩
    have hG : Blk (W'.putObj w2.heap.size (.deferred none)) (w.heap.size + 2) 4 #[.bool true] := (World.putObj_heap_other (by omega)).trans J2.out
    have t0 := Blk.c1 hG
    refine ⟨.bool true, ?_, by rw [HT.out], ext_of ?_⟩
    · simp [results, Try.results126, go_sem, t0]
    · exact J1.out.trans (below_putObj _ (by omega) _)
end Go.Proofs.Ytpiadbdkiibdbaa

namespace Go.Proofs.Ytpiadbdkiibdbaa
open Go Go.RowKit Go.Shelf
attribute [local go_sem] Oper.semAt_some frozen_alloc_lt
set_option maxRecDepth 100000 in
set_option maxHeartbeats 4000000 in
theorem ofEach_any (b : Ck) (p : Option Addr) (c : Nat) (m : Ms) (p2 : Option Addr) (c2 : Nat) (l : List Lt) (q : Bool) (w : World) (hm : MsOK m) (hb : ∀ t ∈ l, LtOK b t) (hl : LotsAt w p2 l) (h4 : l.length ≤ 4) (hq : l.all (canB b m) = q) :
    Calls Try.prog 125 #[.slice p2 l.length c2, .func (.func 126) #[stV b p c m] #[]] w fun e w' => e = .returned (.bool q) ∧ ∃ x, w' = ext w x := by
  have HQ := Lib.hid hq
  have HL := Lib.hid hl
  have HM := Lib.hid hm
  have HO := Lib.hid hb
  clear hq hl hm hb
  obtain ⟨sv, hsv⟩ : ∃ v, stV b p c m = v := ⟨_, rfl⟩
  have HC := Lib.hid (show ∀ (s : Lt) (v : Bool) (w : World), LtOK b s → canB b m s = v → Calls Try.prog 126 #[sv, ltV s] w fun e w' => e = .returned (.bool v) ∧ ∃ x, w' = ext w x from fun s v w h1 h2 => hsv ▸ canBe_any b p c m s v w HM.out h1 h2)
  rw [hsv]
  clear hsv
  obtain ⟨n, hn⟩ : ∃ n, l.length = n := ⟨_, rfl⟩
  have HN := Lib.hid hn
  rw [hn] at h4 ⊢
  clear hn
  go_enter Try.func125, Try.ntmps125
  go_upto_region 2 with fail
  go_loopw [6, 9] (fun _ i wr => ∃ k : Nat, k ≤ n ∧ i = .int .i64 k ∧ Hid (∀ (j : Nat) (s : Lt), j < k → l[j]? = some s → canB b m s = true) ∧ Hid (Below w.heap.size w wr)) (fun _ i _ => n - (intOf i).toNat)
  case atStart => exact ⟨0, by omega, rfl, Lib.hid (fun j s hj => by omega), Lib.hid (Below.refl _ _)⟩
  case round =>
    obtain ⟨k, hk, rfl, HK, HB⟩ := hrel
    by_cases hlt : k < n
    · obtain ⟨s, hs⟩ := get_some l k (by rw [HN.out]; exact hlt)
      obtain ⟨b1, o1, rfl, hb1, c0, c1, c2, c3, c4⟩ := lots_cells (HL.out.below HB.out) hs
      obtain ⟨v, hv⟩ : ∃ v, canB b m s = v := ⟨_, rfl⟩
      have HV := Lib.hid hv
      have HS := Lib.hid hs
      have k0 : (0 : Int) ≤ (k : Int) := by omega
      have k1 : (k : Int) < (n : Int) := by omega
      have HW := Lib.hid (wrap_num k (by omega))
      clear hv hs
      cases v
      · go_wp2_with (go_at_call 126; refine (HC.out s _ _ (HO.out s (List.mem_of_getElem? HS.out)) HV.out).mono ?_; rintro e w' ⟨rfl, y, rfl⟩)
        go_ret
        refine ⟨?_, ext_of (HB.out.trans (Below.mono belA HB.out.size))⟩
        rw [← HQ.out]
        have : l.all (canB b m) = false := by
          rw [List.all_eq_false]
          exact ⟨s, List.mem_of_getElem? HS.out, by rw [HV.out]; decide⟩
        rw [this]; rfl
      · go_wp2_with (go_at_call 126; refine (HC.out s _ _ (HO.out s (List.mem_of_getElem? HS.out)) HV.out).mono ?_; rintro e w' ⟨rfl, y, hw⟩; have HB' := Lib.hid (show Below w.heap.size w w' by rw [hw]; exact HB.out.trans (Below.mono belA HB.out.size)); clear hw)
        go_roundw
        case rel => exact ⟨k + 1, by omega, by first | go_num | (rw [HW.out]), Lib.hid (fun j t hj ht => by
          rcases Nat.lt_succ_iff_lt_or_eq.1 hj with h | h
          · exact HK.out j t h ht
          · subst h; rw [HS.out] at ht; cases ht; exact HV.out), HB'⟩
        case measure => simp [intOf]; omega
    · obtain rfl : k = n := by omega
      go_wp2_with fail
      go_ret
      refine ⟨?_, ext_of HB.out⟩
      rw [← HQ.out]
      have : l.all (canB b m) = true := by
        rw [List.all_eq_true]
        intro s hs
        obtain ⟨j, hj, rfl⟩ := List.mem_iff_getElem.1 hs
        exact HK.out j _ (by rw [← HN.out]; exact hj) (List.getElem?_eq_getElem hj)
      rw [this]; rfl
/-- What is known of a book whose lots are valid. -/
structure BkOK (b : Ck) : Prop where
  ok : ∀ t ∈ b.ls, LtOK b t
  n : b.ls.length ≤ 4
set_option maxRecDepth 100000 in
set_option maxHeartbeats 4000000 in
theorem isTrue_any (b : Ck) (p : Option Addr) (c : Nat) (m : Ms) (q : Bool) (w : World) (hm : MsOK m) (hb : BkOK b) (hl : LotsAt w p b.ls) (hq : trueM b m = q) :
    Calls Try.prog 110 #[stV b p c m] w fun e w' => e = .returned (.bool q) ∧ ∃ x, w' = ext w x := by
  have HQ := Lib.hid hq
  have HL := Lib.hid hl
  have HM := Lib.hid hm
  have HO := Lib.hid hb
  clear hq hl hm hb
  unfold stV
  go_enter Try.func110, Try.ntmps110
  go_upto_region 1 with fail
  generalize hW : w.alloc _ = W
  have HB := Lib.hid (show Below w.heap.size w W by rw [← hW]; (exact belA))
  have kb : Blk W w.heap.size 113 (stcs b p c m) := by rw [← hW]; exact Blk.new rfl
  unfold stcs at kb
  obtain ⟨c0, c1, c2, c3, c4, c5, c6, c7, c8, c9, c10, c11, c12⟩ := Blk.c13 kb
  have lb := kb.lt
  clear hW kb
  go_wp2_with (go_at_call 125; refine (ofEach_any b p c m p c b.ls q _ HM.out HO.out.ok (HL.out.below HB.out) HO.out.n HQ.out).mono ?_; rintro e w' ⟨rfl, y, rfl⟩)
  go_ret
  exact ⟨rfl, ext_of (HB.out.trans ((below_ext _ _).mono HB.out.size))⟩
end Go.Proofs.Ytpiadbdkiibdbaa

