/- Package seine: a claim is right; the hours between two notes; the hour of the last one; a claim. -/
/- Package seine: the hour of the last note; a note and the state before it. -/
import Derived.Test.YtcaeohgbgeadaaaGreatDoorQSi
import Derived.Laws.StructEq
import Derived.ChangeKeysEq
set_option linter.unusedSimpArgs false
set_option linter.unusedVariables false
namespace Go.Proofs.YtcaeohgbgeadaaaGreatDoor
open Go Go.RowKit

/-- Is a note of a kind right with a number, by what is held before it? -/
def rightB (k h m : Int) : Bool := if k = 0 then decide (m ≤ h) else if k = 4 then decide (m = h) else true
abbrev clmC (s : Nt) (h r : Int) : Array Value := #[.int .i64 s.kind, .int .i64 s.hour, .int .i64 s.lo, .int .i64 s.hi, .int .i64 h, .int .i64 r]
attribute [local go_sem] Oper.semAt_some frozen_alloc_lt
theorem right_any (s : Nt) (h r m : Int) (w : World) (hk : 0 ≤ s.kind ∧ s.kind ≤ 4) : Calls Tryz.prog 193 #[.agg (clmC s h r), .int .i64 m] w fun e w' => e = .returned (.bool (rightB s.kind h m)) ∧ ∃ x, w' = ext w x := by
  obtain ⟨kd, hr, lo, hi⟩ := s
  dsimp only [clmC] at *
  rcases (show kd = 0 ∨ kd = 1 ∨ kd = 2 ∨ kd = 3 ∨ kd = 4 by omega) with rfl | rfl | rfl | rfl | rfl
  all_goals
    go_enter Tryz.func193, Tryz.ntmps193
    go_wp2
    go_ret
    exact ⟨by simp [rightB] <;> rfl, by (exact ext_of (by (repeat (first | (with_reducible exact Below.refl _ _) | (with_reducible assumption) | ((with_reducible refine below_ext_trans ?_ ?_ _); rotate_left; focus (((try dsimp only); repeat (first | omega | simp only [World.size_alloc, World.size_setCell, World.size_drew] | (with_reducible refine le_ext_of ?_) | (with_reducible refine le_ext_add ?_))); done)) | ((with_reducible refine Below.alloc ?_ ?_ _); rotate_left; focus (((try dsimp only); repeat (first | omega | simp only [World.size_alloc, World.size_setCell, World.size_drew] | (with_reducible refine le_ext_of ?_) | (with_reducible refine le_ext_add ?_))); done)) | ((with_reducible refine Below.setCell ?_ ?_ _); rotate_left; focus (((try dsimp only); repeat (first | omega | simp only [World.size_alloc, World.size_setCell, World.size_drew] | (with_reducible refine le_ext_of ?_) | (with_reducible refine le_ext_add ?_))); done)) | (with_reducible refine Below.drew ?_)))))⟩

/-- A catch's book, with a note more at most. -/
structure Ok9 (b : Sn) : Prop where
  span : SpanOK b.lo b.hi 400
  chain : chainN 0 b.ns = true
  len : b.ns.length ≤ 9
theorem Ok9.of {b : Sn} (h : snB b = true) : Ok9 b := by
  simp only [snB, notesB, Bool.and_eq_true, decide_eq_true_eq] at h
  exact ⟨spanB_iff.1 h.1, h.2.2, by omega⟩
theorem Ok9.nt {b : Sn} (h : Ok9 b) {k : Nat} {s : Nt} (hs : b.ns[k]? = some s) : (0 ≤ s.kind ∧ s.kind ≤ 4) ∧ (0 ≤ s.hour ∧ s.hour ≤ 60) ∧ SpanOK s.lo s.hi (mostOf s.kind) := ntB_facts (chainN_all h.chain s (List.mem_of_getElem? hs))
theorem Ok9.kinds {b : Sn} (h : Ok9 b) : kindsOK b.ns := fun s hs => (ntB_facts (chainN_all h.chain s hs)).1
/-- Notes are in order. -/
theorem chainN_sorted {past : Int} : ∀ {l : List Nt}, chainN past l = true → ∀ {k : Nat} {s : Nt}, l[k]? = some s → past ≤ s.hour ∧ (∀ t, l[k + 1]? = some t → s.hour ≤ t.hour)
  | [], _, k, s, hs => by simp at hs
  | a :: l, h, k, s, hs => by
    simp only [chainN, Bool.and_eq_true, decide_eq_true_eq] at h
    cases k with
    | zero =>
      simp only [List.getElem?_cons_zero, Option.some.injEq] at hs
      subst hs
      refine ⟨h.1.2, fun t ht => ?_⟩
      rw [List.getElem?_cons_succ] at ht
      exact (chainN_sorted h.2 ht).1
    | succ k =>
      rw [List.getElem?_cons_succ] at hs
      obtain ⟨h1, h2⟩ := chainN_sorted h.2 hs
      exact ⟨by have := h.1.2; omega, fun t ht => h2 t (by rwa [List.getElem?_cons_succ] at ht)⟩
/-- How many hours pass between a note and the one before it. -/
def gapN (l : List Nt) (k : Nat) : Int := (match l[k]? with | some s => s.hour | none => 0) - pastN l k
theorem gapN_at {l : List Nt} {k : Nat} {s : Nt} (h : l[k]? = some s) : gapN l k = s.hour - pastN l k := by simp [gapN, h]
theorem Ok9.gap {b : Sn} (h : Ok9 b) {k : Nat} {s : Nt} (hs : b.ns[k]? = some s) : 0 ≤ gapN b.ns k ∧ gapN b.ns k ≤ 60 := by
  rw [gapN_at hs]
  obtain ⟨-, h2, -⟩ := h.nt hs
  cases k with
  | zero => simp [pastN]; omega
  | succ k =>
    obtain ⟨t, ht⟩ := get_some b.ns k (by have := (List.getElem?_eq_some_iff.1 hs).1; omega)
    have h3 := (chainN_sorted h.chain ht).2 s hs
    obtain ⟨-, h4, -⟩ := h.nt ht
    simp [pastN, ht]
    omega
set_option maxHeartbeats 1000000 in
theorem since_any (b : Sn) (p : Option Addr) (c : Nat) (kd : Kd) (k : Nat) (s : Nt) (w : World) (hl : NotesAt w p b.ns) (hok : Ok9 b) (hs : b.ns[k]? = some s) :
    Calls Tryz.prog 187 #[.agg (catC b.lo b.hi p b.ns.length c kd), .int .i64 k] w fun e w' => e = .returned (.int .i64 (gapN b.ns k)) ∧ ∃ x, w' = ext w x := by
  rw [gapN_at hs]
  have hlen := hok.len
  have hkl : (k : Int) < (b.ns.length : Int) := by have := (List.getElem?_eq_some_iff.1 hs).1; omega
  obtain ⟨bb, o, rfl, hb, c1, c2, c3, c4⟩ := hl k s hs
  obtain ⟨-, h2, -⟩ := hok.nt hs
  have hk0 : (0 : Int) ≤ (k : Int) := by omega
  have hl1 : bb ≤ w.heap.size := by omega
  cases k with
  | zero =>
    simp only [Nat.zero_mul, Nat.add_zero] at c1 c2 c3 c4
    have hkl : (0 : Int) < (b.ns.length : Int) := by simpa using hkl
    clear hl hok hs hk0
    unfold catC
    go_enter Tryz.func187, Tryz.ntmps187
    go_wp2_with fail
    go_ret
    exact ⟨by simp [pastN], by (exact ext_of (by (repeat (first | (with_reducible exact Below.refl _ _) | (with_reducible assumption) | ((with_reducible refine below_ext_trans ?_ ?_ _); rotate_left; focus (((try dsimp only); repeat (first | omega | simp only [World.size_alloc, World.size_setCell, World.size_drew] | (with_reducible refine le_ext_of ?_) | (with_reducible refine le_ext_add ?_))); done)) | ((with_reducible refine Below.alloc ?_ ?_ _); rotate_left; focus (((try dsimp only); repeat (first | omega | simp only [World.size_alloc, World.size_setCell, World.size_drew] | (with_reducible refine le_ext_of ?_) | (with_reducible refine le_ext_add ?_))); done)) | ((with_reducible refine Below.setCell ?_ ?_ _); rotate_left; focus (((try dsimp only); repeat (first | omega | simp only [World.size_alloc, World.size_setCell, World.size_drew] | (with_reducible refine le_ext_of ?_) | (with_reducible refine le_ext_add ?_))); done)) | (with_reducible refine Below.drew ?_)))))⟩
  | succ k =>
    obtain ⟨t, ht⟩ := get_some b.ns k (by have := (List.getElem?_eq_some_iff.1 hs).1; omega)
    obtain ⟨bb', o', e1, hb', d1, d2, d3, d4⟩ := hl k t ht
    simp only [Option.some.injEq, Addr.mk.injEq, and_true] at e1
    obtain ⟨rfl, rfl⟩ := e1
    obtain ⟨-, h4, -⟩ := hok.nt ht
    have HP := Lib.hid (show pastN b.ns (k + 1) = t.hour by simp [pastN, ht])
    obtain ⟨j, hj⟩ : ∃ j, j = k + 1 := ⟨_, rfl⟩
    rw [← hj] at hkl hk0 c1 c2 c3 c4 HP ⊢
    have hn1 : wrap64 ((j : Int) - 1) = (k : Int) := by unfold wrap64; omega
    have hz : ((j : Int) == 0) = false := by simp; omega
    have hk2 : (0 : Int) ≤ (k : Int) := by omega
    have hk3 : (k : Int) < (b.ns.length : Int) := by omega
    have hw : wrap64 (s.hour - t.hour) = s.hour - t.hour := by unfold wrap64; omega
    have hn2 : (j : Int) - 1 = (k : Int) := by omega
    clear hl hok hs ht hj
    unfold catC
    go_enter Tryz.func187, Tryz.ntmps187
    go_upto_region 3 with fail
    refine wp_region_ext (by kernel_rfl) (by kernel_rfl) ?_
    repeat (go_big_quiet_step (fail))
    (refine wpQuiet_nil ?_; rintro _ ⟨x, rfl⟩)
    go_wp2_with fail
    go_ret
    exact ⟨by rw [HP.out]; rfl, by (exact ext_of (by (repeat (first | (with_reducible exact Below.refl _ _) | (with_reducible assumption) | ((with_reducible refine below_ext_trans ?_ ?_ _); rotate_left; focus (((try dsimp only); repeat (first | omega | simp only [World.size_alloc, World.size_setCell, World.size_drew] | (with_reducible refine le_ext_of ?_) | (with_reducible refine le_ext_add ?_))); done)) | ((with_reducible refine Below.alloc ?_ ?_ _); rotate_left; focus (((try dsimp only); repeat (first | omega | simp only [World.size_alloc, World.size_setCell, World.size_drew] | (with_reducible refine le_ext_of ?_) | (with_reducible refine le_ext_add ?_))); done)) | ((with_reducible refine Below.setCell ?_ ?_ _); rotate_left; focus (((try dsimp only); repeat (first | omega | simp only [World.size_alloc, World.size_setCell, World.size_drew] | (with_reducible refine le_ext_of ?_) | (with_reducible refine le_ext_add ?_))); done)) | (with_reducible refine Below.drew ?_)))))⟩
end Go.Proofs.YtcaeohgbgeadaaaGreatDoor

namespace Go.Proofs.YtcaeohgbgeadaaaGreatDoor
open Go Go.RowKit

/-- The hour of the last note, or 0. -/
def lastN (l : List Nt) : Int := pastN l l.length
theorem under_kinds : Tryz.prog.underlying 117 = some (.array 5 3) := by kernel_rfl
theorem kinds_eql (k : Kd) (w : World) : (Go.binOp .eql 117 (.agg #[.int .i64 k.a, .int .i64 k.b, .int .i64 k.c, .int .i64 k.d, .int .i64 k.e]) (.agg #[.int .i64 0, .int .i64 0, .int .i64 0, .int .i64 0, .int .i64 0])).run Tryz.prog w = .ok (.bool (k.a == 0 && (k.b == 0 && (k.c == 0 && (k.d == 0 && k.e == 0))))) w := by
  obtain ⟨a, b, c, d, e⟩ := k
  obtain ⟨i, hi⟩ : ∃ i, Tryz.prog.info? 3 = some i := Option.isSome_iff_exists.1 (by kernel_rfl)
  have hc : Tryz.prog.cellsOf 3 = 1 := by kernel_rfl
  rw [run_eql_struct, show (10000 : Nat) = 9999 + 1 from rfl, run_equalIn_array w 9999 _ _ under_kinds hi, hc, show List.range 5 = [0, 1, 2, 3, 4] from rfl]
  by_cases h1 : a = 0 <;> by_cases h2 : b = 0 <;> by_cases h3 : c = 0 <;> by_cases h4 : d = 0 <;> by_cases h5 : e = 0 <;> simp [go_sem, Op.eqItems, h1, h2, h3, h4, h5]
attribute [local go_sem] Oper.semAt_some frozen_alloc_lt
set_option maxHeartbeats 1000000 in
theorem last_any (b : Sn) (p : Option Addr) (c : Nat) (kd : Kd) (w : World) (hl : NotesAt w p b.ns) (hok : Ok9 b) (hkd : kd.ok b.ns.length) :
    Calls Tryz.prog 143 #[.agg (catC b.lo b.hi p b.ns.length c kd)] w fun e w' => e = .returned (.int .i64 (lastN b.ns)) ∧ ∃ x, w' = ext w x := by
  have hlen := hok.len
  have he := fun w => kinds_eql kd w
  cases hns : b.ns with
  | nil =>
    obtain ⟨x0, x1, x2, x3, x4⟩ := kd
    obtain ⟨g0, g1, g2, g3, g4, g5⟩ := hkd
    rw [hns] at g5
    dsimp only [List.length_nil] at g0 g1 g2 g3 g4 g5
    replace he : ∀ w, (Go.binOp .eql 117 (.agg #[.int .i64 x0, .int .i64 x1, .int .i64 x2, .int .i64 x3, .int .i64 x4]) (.agg #[.int .i64 0, .int .i64 0, .int .i64 0, .int .i64 0, .int .i64 0])).run Tryz.prog w = .ok (.bool true) w := fun w => by rw [he w]; congr 2; simp; omega
    clear g0 g1 g2 g3 g4 g5 hl hok hlen
    unfold catC
    go_enter Tryz.func143, Tryz.ntmps143
    go_wp2_with fail
    go_ret
    exact ⟨rfl, by (exact ext_of (by (repeat (first | (with_reducible exact Below.refl _ _) | (with_reducible assumption) | ((with_reducible refine below_ext_trans ?_ ?_ _); rotate_left; focus (((try dsimp only); repeat (first | omega | simp only [World.size_alloc, World.size_setCell, World.size_drew] | (with_reducible refine le_ext_of ?_) | (with_reducible refine le_ext_add ?_))); done)) | ((with_reducible refine Below.alloc ?_ ?_ _); rotate_left; focus (((try dsimp only); repeat (first | omega | simp only [World.size_alloc, World.size_setCell, World.size_drew] | (with_reducible refine le_ext_of ?_) | (with_reducible refine le_ext_add ?_))); done)) | ((with_reducible refine Below.setCell ?_ ?_ _); rotate_left; focus (((try dsimp only); repeat (first | omega | simp only [World.size_alloc, World.size_setCell, World.size_drew] | (with_reducible refine le_ext_of ?_) | (with_reducible refine le_ext_add ?_))); done)) | (with_reducible refine Below.drew ?_)))))⟩
  | cons s0 l0 =>
    have hkl : b.ns.length = l0.length + 1 := by rw [hns]; rfl
    obtain ⟨t, ht⟩ := get_some b.ns l0.length (by omega)
    obtain ⟨bb, o, rfl, hb, c1, c2, c3, c4⟩ := hl _ t ht
    have HP := Lib.hid (show lastN b.ns = t.hour by unfold lastN; rw [hkl]; simp only [pastN, ht])
    rw [← hns]
    obtain ⟨n, hn⟩ : ∃ n, n = b.ns.length := ⟨_, rfl⟩
    obtain ⟨k, hk⟩ : ∃ k, k = l0.length := ⟨_, rfl⟩
    rw [← hk] at hkl c1 c2 c3 c4
    have hn1 : wrap64 ((b.ns.length : Int) - 1) = (k : Int) := by unfold wrap64; omega
    have hn2 : (b.ns.length : Int) - 1 = (k : Int) := by omega
    have hn3 : wrap64 (k : Int) = (k : Int) := by unfold wrap64; omega
    have hk2 : (0 : Int) ≤ (k : Int) := by omega
    have hk3 : (k : Int) < (b.ns.length : Int) := by omega
    replace he : ∀ w, (Go.binOp .eql 117 (.agg #[.int .i64 kd.a, .int .i64 kd.b, .int .i64 kd.c, .int .i64 kd.d, .int .i64 kd.e]) (.agg #[.int .i64 0, .int .i64 0, .int .i64 0, .int .i64 0, .int .i64 0])).run Tryz.prog w = .ok (.bool false) w := fun w => by
      obtain ⟨g0, g1, g2, g3, g4, g5⟩ := hkd
      rw [he w]; congr 2; simp; omega
    clear hkd hl hok hlen ht hns hk hkl hn
    unfold catC
    go_enter Tryz.func143, Tryz.ntmps143
    go_wp2_with fail
    go_ret
    exact ⟨by rw [HP.out]; rfl, by (exact ext_of (by (repeat (first | (with_reducible exact Below.refl _ _) | (with_reducible assumption) | ((with_reducible refine below_ext_trans ?_ ?_ _); rotate_left; focus (((try dsimp only); repeat (first | omega | simp only [World.size_alloc, World.size_setCell, World.size_drew] | (with_reducible refine le_ext_of ?_) | (with_reducible refine le_ext_add ?_))); done)) | ((with_reducible refine Below.alloc ?_ ?_ _); rotate_left; focus (((try dsimp only); repeat (first | omega | simp only [World.size_alloc, World.size_setCell, World.size_drew] | (with_reducible refine le_ext_of ?_) | (with_reducible refine le_ext_add ?_))); done)) | ((with_reducible refine Below.setCell ?_ ?_ _); rotate_left; focus (((try dsimp only); repeat (first | omega | simp only [World.size_alloc, World.size_setCell, World.size_drew] | (with_reducible refine le_ext_of ?_) | (with_reducible refine le_ext_add ?_))); done)) | (with_reducible refine Below.drew ?_)))))⟩
/-- A state some hours later. -/
def aftS (s : Int × Int) (n : Int) : Int × Int := (afterH s.2 n.toNat s.1, s.2)
/-- What is so before a note. -/
def befS (l : List Nt) (k : Nat) (s : Int × Int) : Int × Int := aftS s (gapN l k)
theorem befS_eq (l : List Nt) (k : Nat) (h r : Int) : befS l k (h, r) = (afterH r (gapN l k).toNat h, r) := rfl
set_option maxHeartbeats 1000000 in
theorem claim_any (b : Sn) (p : Option Addr) (c : Nat) (kd : Kd) (k : Nat) (s : Nt) (h r : Int) (w : World) (hl : NotesAt w p b.ns) (hok : Ok9 b) (hs : b.ns[k]? = some s) (h0 : 0 ≤ h ∧ h ≤ 400) (r0 : 0 ≤ r ∧ r ≤ 1000) :
    Calls Tryz.prog 175 #[.agg (catC b.lo b.hi p b.ns.length c kd), .int .i64 k, .agg #[.int .i64 h, .int .i64 r]] w fun e w' => e = .returned (.agg (clmC s (befS b.ns k (h, r)).1 (befS b.ns k (h, r)).2)) ∧ ∃ x, w' = ext w x := by
  obtain ⟨bb, o, hp, hb, c1, c2, c3, c4⟩ := hl k s hs
  have hg := hok.gap hs
  have hkl : (k : Int) < (b.ns.length : Int) := by have := (List.getElem?_eq_some_iff.1 hs).1; omega
  have hk0 : (0 : Int) ≤ (k : Int) := by omega
  have hl1 : bb ≤ w.heap.size := by omega
  have hl2 : bb ≤ w.heap.size + 1 := by omega
  have hl3 : bb < w.heap.size + 1 + 1 := by omega
  have hl4 : bb < w.heap.size + 1 := by omega
  rw [befS_eq]
  obtain ⟨n, hn⟩ : ∃ n : Nat, gapN b.ns k = n := ⟨(gapN b.ns k).toNat, by omega⟩
  rw [hn]
  have hn60 : n ≤ 60 := by omega
  have HS := Lib.hid (fun (w : World) (h1 : NotesAt w p b.ns) => by have := since_any b p c kd k s w h1 hok hs; rw [hn] at this; exact this)
  have HL := Lib.hid hl
  subst hp
  clear hg hl hok hs hn
  unfold catC at *
  go_enter Tryz.func175, Tryz.ntmps175
  go_upto_region 1 with fail
  refine wp_region_ext_tail 12 (by kernel_rfl) (by kernel_rfl) ?_
  simp only [List.take_succ_cons, List.take_zero, List.drop_succ_cons, List.drop_zero]
  repeat (go_big_quiet_step (first | (go_at_call 187; exact quiet_ext (HS.out _ (HL.out.below (by (repeat (first | (with_reducible exact Below.refl _ _) | (with_reducible assumption) | ((with_reducible refine below_ext_trans ?_ ?_ _); rotate_left; focus (((try dsimp only); repeat (first | omega | simp only [World.size_alloc, World.size_setCell, World.size_drew] | (with_reducible refine le_ext_of ?_) | (with_reducible refine le_ext_add ?_))); done)) | ((with_reducible refine Below.alloc ?_ ?_ _); rotate_left; focus (((try dsimp only); repeat (first | omega | simp only [World.size_alloc, World.size_setCell, World.size_drew] | (with_reducible refine le_ext_of ?_) | (with_reducible refine le_ext_add ?_))); done)) | ((with_reducible refine Below.setCell ?_ ?_ _); rotate_left; focus (((try dsimp only); repeat (first | omega | simp only [World.size_alloc, World.size_setCell, World.size_drew] | (with_reducible refine le_ext_of ?_) | (with_reducible refine le_ext_add ?_))); done)) | (with_reducible refine Below.drew ?_))))))) | (go_at_call 145; exact quiet_ext (after_any h r n _ r0 (by omega) h0.1 (by omega)))))
  (refine wpQuiet_nil ?_; rintro _ ⟨x, rfl⟩)
  go_wp2_with fail
  refine bodyPost_ret (v := .agg (clmC s (afterH r n h) r)) (by simp [results, Tryz.results175, go_sem, clmC]) rfl ⟨rfl, ?_⟩
  (exact ext_of (by (repeat (first | (with_reducible exact Below.refl _ _) | (with_reducible assumption) | ((with_reducible refine below_ext_trans ?_ ?_ _); rotate_left; focus (((try dsimp only); repeat (first | omega | simp only [World.size_alloc, World.size_setCell, World.size_drew] | (with_reducible refine le_ext_of ?_) | (with_reducible refine le_ext_add ?_))); done)) | ((with_reducible refine Below.alloc ?_ ?_ _); rotate_left; focus (((try dsimp only); repeat (first | omega | simp only [World.size_alloc, World.size_setCell, World.size_drew] | (with_reducible refine le_ext_of ?_) | (with_reducible refine le_ext_add ?_))); done)) | ((with_reducible refine Below.setCell ?_ ?_ _); rotate_left; focus (((try dsimp only); repeat (first | omega | simp only [World.size_alloc, World.size_setCell, World.size_drew] | (with_reducible refine le_ext_of ?_) | (with_reducible refine le_ext_add ?_))); done)) | (with_reducible refine Below.drew ?_)))))
end Go.Proofs.YtcaeohgbgeadaaaGreatDoor

