/- Package bulk: the iterator over the numbers of a span (none, if its ends are not in order). -/
/- Contracts of package bulk: is a count right? Written by gen_b5f.py. -/
import Derived.Test.YtpiadbdkiibdbaaQB5d
import Derived.Test.YtpiadbdkiibdbaaQIt
import Derived.Test.YtpiadbdkiibdbaaQStp
import Derived.Sort.CutIn
import Derived.Shelf.Abstract
import Derived.Shelf.RegionOpen
import Derived.BigQuiet
set_option linter.unusedSimpArgs false
set_option linter.unusedVariables false
namespace Go.Proofs.Ytpiadbdkiibdbaa
open Go Go.RowKit Go.Shelf

def NumsPost (w : World) (a b : Int) (e : Ending) (w' : World) : Prop :=
  ∃ g : Nat, e = .returned (.func (.func 129) #[] #[.pointer (some ⟨g, 0, none⟩)]) ∧ w.heap.size ≤ g ∧ Blk w' g 23 #[.int .i64 a, .int .i64 b] ∧ ∃ x, w' = ext w x
theorem numbers_any (a b : Int) (w : World) : Calls Try.prog 117 #[.agg #[.int .i64 a, .int .i64 b]] w (NumsPost w a b) := by
  go_enter Try.func117, Try.ntmps117
  go_wp2
  go_ret
  exact ⟨w.heap.size, rfl, Nat.le_refl _, Blk.new rfl, by (exact ext_of (by (exact belA)))⟩

abbrev encI (m : Int) : Array Value := #[.int .i64 m]

attribute [local go_sem] Oper.semAt_some
set_option maxHeartbeats 4000000 in
theorem numbers1_none (g : Nat) (a b : Int) (O : Nat → Prop) (w : World) (hk : Blk w g 23 #[.int .i64 a, .int .i64 b]) (h0a : 0 ≤ a ∧ a ≤ 100000) (hab : ¬ a ≤ b) (hb : -100000 ≤ b ∧ b ≤ 100000) :
    Seq0 Try.prog 129 #[] #[.pointer (some ⟨g, 0, none⟩)] encI O (fun xs => xs = numsL a b) (fun pre => pre <+: numsL a b) w := by
  intro n l J Jx W hW hOW hJ hJx hY h0
  have hkW : Blk W g 23 #[.int .i64 a, .int .i64 b] := (hW.block g hk.lt).trans hk
  have hgl := hkW.lt
  have hnums : numsL a b = [] := by unfold numsL; rw [show (b - a + 1).toNat = 0 by omega]; rfl
  have HNU := Lib.hid hnums
  have H0 := Lib.hid (show J [] W from h0)
  obtain ⟨q0, q1⟩ := Blk.c2 hkW
  have e1 : IntKind.i64.wrap (b - a) = b - a := IntWalk.i64_in _ (by omega)
  have e2 : IntKind.i64.wrap (b - a + 1) = b - a + 1 := IntWalk.i64_in _ (by omega)
  have e3 : decide ((0 : Int) < b - a + 1) = false := decide_eq_false (by omega)
  clear hW hOW hJ hJx hY h0 hkW hk hnums hab
  refine callsIn_of_wp Try.func129 rfl trivial ?_ rfl
  simp only [Try.ntmps129, List.size_toArray, List.length_cons, List.length_nil, Nat.reduceAdd, Nat.reduceSub, Array.replicate_succ, Array.replicate_zero, List.push_toArray, List.append_toArray, List.nil_append, List.cons_append]
  gi_wp2_with fail
  gi_loopw [3, 10, 12, 13, 14, 15, 16, 17, 18, 19, 20] (fun _ i _ _ _ _ _ _ _ _ _ wr => i = .int .i64 0 ∧ wr = W) (fun _ i _ _ _ _ _ _ _ _ _ _ => 0)
  case atStart => exact ⟨rfl, rfl⟩
  case round =>
    obtain ⟨rfl, rfl⟩ := hrel
    gi_wp2_with fail
    go_end0
    exact ⟨⟨_, rfl⟩, PrivM.refl _ _, .inl ⟨[], HNU.out.symm, H0.out⟩⟩
set_option maxHeartbeats 4000000 in
theorem numbers1_some (g : Nat) (a b : Int) (O : Nat → Prop) (w : World) (hk : Blk w g 23 #[.int .i64 a, .int .i64 b]) (h0a : 0 ≤ a ∧ a ≤ 100000) (hab : a ≤ b) (hb : -100000 ≤ b ∧ b ≤ 100000) (hO : ∀ k, O k → k ≠ g) :
    Seq0 Try.prog 129 #[] #[.pointer (some ⟨g, 0, none⟩)] encI O (fun xs => xs = numsL a b) (fun pre => pre <+: numsL a b) w := by
  intro n l J Jx W hW hOW hJ hJx hY h0
  have hkW : Blk W g 23 #[.int .i64 a, .int .i64 b] := (hW.block g hk.lt).trans hk
  have hgl := hkW.lt
  have H0 : Hid (J (nupto a 0) W) := Lib.hid (show J [] W from h0)
  have HY := Lib.hid hY
  have HO := Lib.hid hO
  obtain ⟨d, hd⟩ : ∃ d : Nat, b = a + (d : Int) := ⟨(b - a).toNat, by omega⟩
  have hnums : numsL a b = nupto a (d + 1) := by unfold numsL; congr 1; omega
  rw [hnums] at HY ⊢
  subst hd
  have q0 := hkW.cell 0
  have q1 := hkW.cell 1
  simp only [List.size_toArray, List.length_cons, List.length_nil, Nat.reduceAdd, Nat.reduceLT, getElem?_pos, List.getElem_toArray, List.getElem_cons_zero, List.getElem_cons_succ] at q0 q1
  have HREL : Hid (J (nupto a 0) W ∧ Blk W g 23 #[.int .i64 a, .int .i64 (a + (d : Int))] ∧ PrivM O W W) := Lib.hid ⟨H0.out, hkW, PrivM.refl _ _⟩
  have hsub : IntKind.i64.wrap (a + (d : Int) - a + 1) = (d : Int) + 1 := by
    rw [show a + (d : Int) - a + 1 = (d : Int) + 1 by omega]
    exact IntWalk.i64_in _ (by omega)
  have HGL := Lib.hid hgl
  clear hW hOW hJ hJx hY h0 hO hkW hk H0
  refine callsIn_of_wp Try.func129 rfl trivial ?_ rfl
  simp only [Try.ntmps129, List.size_toArray, List.length_cons, List.length_nil, Nat.reduceAdd, Nat.reduceSub, Array.replicate_succ, Array.replicate_zero, List.push_toArray, List.append_toArray, List.nil_append, List.cons_append]
  gi_wp2_with fail
  clear q0 q1
  gi_loopw [3, 10, 12, 13, 14, 15, 16, 17, 18, 19, 20] (fun _ i _ _ _ _ _ _ _ _ _ wr => ∃ k : Nat, k ≤ d + 1 ∧ i = .int .i64 k ∧ Hid (J (nupto a k) wr ∧ Blk wr g 23 #[.int .i64 a, .int .i64 (a + (d : Int))] ∧ PrivM O W wr)) (fun _ i _ _ _ _ _ _ _ _ _ _ => d + 1 - (intOf i).toNat)
  case atStart => exact ⟨0, by omega, rfl, HREL⟩
  case round =>
    clear HREL
    obtain ⟨k, hk, rfl, HR⟩ := hrel
    by_cases hlt : k < d + 1
    · have hlt' : (k : Int) < (d : Int) + 1 := by omega
      have hlt2 : (k : Int) ≤ (d : Int) := by omega
      obtain ⟨fn, tmps, assign, body, hy, hR⟩ := HY.out _ (nupto a k) (a + (k : Int)) wr HR.out.2.2.size (by rw [nupto_snoc]; exact nupto_prefix a _ _ (by omega)) HR.out.1
      dsimp only [encI] at hy
      have q0 := HR.out.2.1.cell 0
      simp only [List.size_toArray, List.length_cons, List.length_nil, Nat.reduceAdd, Nat.reduceLT, getElem?_pos, List.getElem_toArray, List.getElem_cons_zero, List.getElem_cons_succ] at q0
      gi_wp2_with fail
      refine hR.mono ?_
      rintro e B (⟨rfl, hJB, hS⟩ | ⟨rfl, hJB, hS⟩)
      · have HS := Lib.hid hS
        have HJB := Lib.hid hJB
        clear hS hJB hy hR q0
        gi_wp2_with fail
        go_roundw
        case rel =>
          refine ⟨k + 1, by omega, by go_num, Lib.hid ⟨by have := HJB.out; rw [nupto_snoc] at this; exact this, (HS.out.block g (by have := HR.out.2.2.size; have := HGL.out; omega) (fun e => HO.out g e rfl)).trans HR.out.2.1, HR.out.2.2.trans HS.out⟩⟩
        case measure => simp [intOf]; omega
      · gi_wp2_with fail
        refine bodyPost_ret (results_none rfl _ _ _) rfl ?_
        exact ⟨⟨_, rfl⟩, HR.out.2.2.trans hS, .inr ⟨_, by rw [nupto_snoc]; exact nupto_prefix a _ _ (by omega), hJB⟩⟩
    · have hge : ¬ ((k : Int) < (d : Int) + 1) := by omega
      gi_wp2_with fail
      go_end0
      obtain rfl : k = d + 1 := by omega
      exact ⟨⟨_, rfl⟩, HR.out.2.2, .inl HR.out.1⟩
theorem numbers1_in (g : Nat) (a b : Int) (O : Nat → Prop) (w : World) (hk : Blk w g 23 #[.int .i64 a, .int .i64 b]) (h0a : 0 ≤ a ∧ a ≤ 100000) (hb : -100000 ≤ b ∧ b ≤ 100000) (hO : ∀ k, O k → k ≠ g) :
    Seq0 Try.prog 129 #[] #[.pointer (some ⟨g, 0, none⟩)] encI O (fun xs => xs = numsL a b) (fun pre => pre <+: numsL a b) w := by
  by_cases hab : a ≤ b
  · exact numbers1_some g a b O w hk h0a hab hb hO
  · exact numbers1_none g a b O w hk h0a hab hb
end Go.Proofs.Ytpiadbdkiibdbaa

namespace Go.Proofs.Ytpiadbdkiibdbaa
open Go Go.RowKit
/-- A store as a value: a book, and what measures hold. -/
def stV (b : Ck) (p : Option Addr) (c : Nat) (m : Ms) : Value := .agg #[.int .i64 b.l0, .int .i64 b.u0, .int .i64 b.l1, .int .i64 b.u1, .int .i64 b.l2, .int .i64 b.u2, .int .i64 b.e0, .int .i64 b.e1, .int .i64 b.e2, .slice p b.ls.length c, .int .i64 m.a, .int .i64 m.b, .int .i64 m.c]
def stcs (b : Ck) (p : Option Addr) (c : Nat) (m : Ms) : Array Value := #[.int .i64 b.l0, .int .i64 b.u0, .int .i64 b.l1, .int .i64 b.u1, .int .i64 b.l2, .int .i64 b.u2, .int .i64 b.e0, .int .i64 b.e1, .int .i64 b.e2, .slice p b.ls.length c, .int .i64 m.a, .int .i64 m.b, .int .i64 m.c]
def ltcs (t : Lt) : Array Value := #[.int .i64 t.t0, .int .i64 t.t1, .int .i64 t.t2, .int .i64 t.wl, .int .i64 t.wh]
def ldV (l : Int × Int) : Value := .agg #[.int .i64 l.1, .int .i64 l.2]
attribute [local go_sem] Oper.semAt_some frozen_alloc_lt
set_option maxRecDepth 100000 in
set_option maxHeartbeats 4000000 in
theorem agrees0 (b : Ck) (p : Option Addr) (c : Nat) (m : Ms) (t : Lt) (l : Int × Int) (q : Bool) (w : World) (hm : MsOK m) (h1 : 0 ≤ l.1 ∧ l.1 ≤ 100000) (h2 : 0 ≤ l.2 ∧ l.2 ≤ 100000) (he : 0 ≤ b.e0 ∧ b.e0 ≤ 9) (ht : -1 ≤ t.t0 ∧ t.t0 ≤ 40) (hq : agreeB t.t0 b.e0 (cntI m 0 l) = q) :
    Calls Try.prog 134 #[stV b p c m, ltV t, .int .i64 0, ldV l] w fun e w' => e = .returned (.bool q) ∧ ∃ x, w' = ext w x := by
  have HM := Lib.hid hm
  have e1 : IntKind.i64.wrap (t.t0 - b.e0) = t.t0 - b.e0 := IntWalk.i64_in _ (by omega)
  have e2 : IntKind.i64.wrap (t.t0 + b.e0) = t.t0 + b.e0 := IntWalk.i64_in _ (by omega)
  unfold stV ltV ldV
  by_cases hn : t.t0 = -1
  · have HQ := Lib.hid (show q = true by rw [← hq]; unfold agreeB; rw [decide_eq_true hn]; rfl)
    have d1 : (t.t0 == -1) = true := by simpa using hn
    have d2 : decide (t.t0 = -1) = true := by simpa using hn
    clear hn hq
    go_enter Try.func134, Try.ntmps134
    go_wp2_with fail
    go_ret
    exact ⟨by rw [HQ.out]; rfl, by (exact ext_of (by (exact belA)))⟩
  · have HQ := Lib.hid (show inV (cntI m 0 l) (t.t0 - b.e0) (t.t0 + b.e0) = q by rw [← hq]; unfold agreeB; rw [decide_eq_false hn]; rfl)
    have d1 : (t.t0 == -1) = false := by simpa using hn
    have d2 : decide (t.t0 = -1) = false := by simpa using hn
    clear hn hq
    go_enter Try.func134, Try.ntmps134
    go_upto_region 4 with fail
    refine wp_region_ext (by kernel_rfl) (by kernel_rfl) ?_
    repeat (go_big_quiet_step (first
      | (go_at_call 98; exact quiet_ext (count_any m 0 l _ HM.out (by decide) h1 h2))
      | (go_at_call 89; exact quiet_ext ((bWithin_eq _ _ _ _ _ HQ.out).mono fun _ _ ⟨u1, u2⟩ => ⟨u1, by rw [← u2]; exact ext_of (Below.refl _ _)⟩))))
    (refine wpQuiet_nil ?_; rintro _ ⟨x, rfl⟩)
    go_wp2_with fail
    go_ret
    exact ⟨rfl, by (exact ext_of (by (exact belA)))⟩
set_option maxRecDepth 100000 in
set_option maxHeartbeats 4000000 in
theorem agrees1 (b : Ck) (p : Option Addr) (c : Nat) (m : Ms) (t : Lt) (l : Int × Int) (q : Bool) (w : World) (hm : MsOK m) (h1 : 0 ≤ l.1 ∧ l.1 ≤ 100000) (h2 : 0 ≤ l.2 ∧ l.2 ≤ 100000) (he : 0 ≤ b.e1 ∧ b.e1 ≤ 9) (ht : -1 ≤ t.t1 ∧ t.t1 ≤ 40) (hq : agreeB t.t1 b.e1 (cntI m 1 l) = q) :
    Calls Try.prog 134 #[stV b p c m, ltV t, .int .i64 1, ldV l] w fun e w' => e = .returned (.bool q) ∧ ∃ x, w' = ext w x := by
  have HM := Lib.hid hm
  have e1 : IntKind.i64.wrap (t.t1 - b.e1) = t.t1 - b.e1 := IntWalk.i64_in _ (by omega)
  have e2 : IntKind.i64.wrap (t.t1 + b.e1) = t.t1 + b.e1 := IntWalk.i64_in _ (by omega)
  unfold stV ltV ldV
  by_cases hn : t.t1 = -1
  · have HQ := Lib.hid (show q = true by rw [← hq]; unfold agreeB; rw [decide_eq_true hn]; rfl)
    have d1 : (t.t1 == -1) = true := by simpa using hn
    have d2 : decide (t.t1 = -1) = true := by simpa using hn
    clear hn hq
    go_enter Try.func134, Try.ntmps134
    go_wp2_with fail
    go_ret
    exact ⟨by rw [HQ.out]; rfl, by (exact ext_of (by (exact belA)))⟩
  · have HQ := Lib.hid (show inV (cntI m 1 l) (t.t1 - b.e1) (t.t1 + b.e1) = q by rw [← hq]; unfold agreeB; rw [decide_eq_false hn]; rfl)
    have d1 : (t.t1 == -1) = false := by simpa using hn
    have d2 : decide (t.t1 = -1) = false := by simpa using hn
    clear hn hq
    go_enter Try.func134, Try.ntmps134
    go_upto_region 4 with fail
    refine wp_region_ext (by kernel_rfl) (by kernel_rfl) ?_
    repeat (go_big_quiet_step (first
      | (go_at_call 98; exact quiet_ext (count_any m 1 l _ HM.out (by decide) h1 h2))
      | (go_at_call 89; exact quiet_ext ((bWithin_eq _ _ _ _ _ HQ.out).mono fun _ _ ⟨u1, u2⟩ => ⟨u1, by rw [← u2]; exact ext_of (Below.refl _ _)⟩))))
    (refine wpQuiet_nil ?_; rintro _ ⟨x, rfl⟩)
    go_wp2_with fail
    go_ret
    exact ⟨rfl, by (exact ext_of (by (exact belA)))⟩
set_option maxRecDepth 100000 in
set_option maxHeartbeats 4000000 in
theorem agrees2 (b : Ck) (p : Option Addr) (c : Nat) (m : Ms) (t : Lt) (l : Int × Int) (q : Bool) (w : World) (hm : MsOK m) (h1 : 0 ≤ l.1 ∧ l.1 ≤ 100000) (h2 : 0 ≤ l.2 ∧ l.2 ≤ 100000) (he : 0 ≤ b.e2 ∧ b.e2 ≤ 9) (ht : -1 ≤ t.t2 ∧ t.t2 ≤ 40) (hq : agreeB t.t2 b.e2 (cntI m 2 l) = q) :
    Calls Try.prog 134 #[stV b p c m, ltV t, .int .i64 2, ldV l] w fun e w' => e = .returned (.bool q) ∧ ∃ x, w' = ext w x := by
  have HM := Lib.hid hm
  have e1 : IntKind.i64.wrap (t.t2 - b.e2) = t.t2 - b.e2 := IntWalk.i64_in _ (by omega)
  have e2 : IntKind.i64.wrap (t.t2 + b.e2) = t.t2 + b.e2 := IntWalk.i64_in _ (by omega)
  unfold stV ltV ldV
  by_cases hn : t.t2 = -1
  · have HQ := Lib.hid (show q = true by rw [← hq]; unfold agreeB; rw [decide_eq_true hn]; rfl)
    have d1 : (t.t2 == -1) = true := by simpa using hn
    have d2 : decide (t.t2 = -1) = true := by simpa using hn
    clear hn hq
    go_enter Try.func134, Try.ntmps134
    go_wp2_with fail
    go_ret
    exact ⟨by rw [HQ.out]; rfl, by (exact ext_of (by (exact belA)))⟩
  · have HQ := Lib.hid (show inV (cntI m 2 l) (t.t2 - b.e2) (t.t2 + b.e2) = q by rw [← hq]; unfold agreeB; rw [decide_eq_false hn]; rfl)
    have d1 : (t.t2 == -1) = false := by simpa using hn
    have d2 : decide (t.t2 = -1) = false := by simpa using hn
    clear hn hq
    go_enter Try.func134, Try.ntmps134
    go_upto_region 4 with fail
    refine wp_region_ext (by kernel_rfl) (by kernel_rfl) ?_
    repeat (go_big_quiet_step (first
      | (go_at_call 98; exact quiet_ext (count_any m 2 l _ HM.out (by decide) h1 h2))
      | (go_at_call 89; exact quiet_ext ((bWithin_eq _ _ _ _ _ HQ.out).mono fun _ _ ⟨u1, u2⟩ => ⟨u1, by rw [← u2]; exact ext_of (Below.refl _ _)⟩))))
    (refine wpQuiet_nil ?_; rintro _ ⟨x, rfl⟩)
    go_wp2_with fail
    go_ret
    exact ⟨rfl, by (exact ext_of (by (exact belA)))⟩
theorem agrees2n (b : Ck) (p : Option Addr) (c : Nat) (m : Ms) (t : Lt) (x y : Int) (q : Bool) (w : World) (hm : MsOK m) (h1 : 0 ≤ x ∧ x ≤ 100000) (h2 : 0 ≤ y ∧ y ≤ 100000) (he : 0 ≤ b.err 2 ∧ b.err 2 ≤ 9) (ht : -1 ≤ t.told 2 ∧ t.told 2 ≤ 40) (hq : agreeB t.t2 b.e2 (cntI m 2 (x, y)) = q) :
    Calls Try.prog 134 #[stV b p c m, ltV t, .int .i64 2, .agg #[.int .i64 x, .int .i64 y]] w fun e w' => e = .returned (.bool q) ∧ ∃ x, w' = ext w x := agrees2 b p c m t (x, y) q w hm h1 h2 he ht hq
theorem agreesN (b : Ck) (p : Option Addr) (c : Nat) (m : Ms) (t : Lt) (k : Nat) (x y : Int) (q : Bool) (w : World) (hk : k < 3) (hm : MsOK m) (h1 : 0 ≤ x ∧ x ≤ 100000) (h2 : 0 ≤ y ∧ y ≤ 100000) (he : 0 ≤ b.err k ∧ b.err k ≤ 9) (ht : -1 ≤ t.told k ∧ t.told k ≤ 40) (hq : agreeB (t.told k) (b.err k) (cntI m k (x, y)) = q) :
    Calls Try.prog 134 #[stV b p c m, ltV t, .int .i64 k, .agg #[.int .i64 x, .int .i64 y]] w fun e w' => e = .returned (.bool q) ∧ ∃ x, w' = ext w x := by
  rcases (show k = 0 ∨ k = 1 ∨ k = 2 by omega) with rfl | rfl | rfl
  · exact agrees0 b p c m t (x, y) q w hm h1 h2 he ht hq
  · exact agrees1 b p c m t (x, y) q w hm h1 h2 he ht hq
  · exact agrees2 b p c m t (x, y) q w hm h1 h2 he ht hq
end Go.Proofs.Ytpiadbdkiibdbaa

