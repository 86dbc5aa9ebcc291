/- For the laws of package seine: sound. -/
/- For the laws of package seine: its functions, by what they answer. -/
import Derived.Test.YtjjfpbjdcmkkhaaDoorQJe
import Derived.Deep.DeepCutAuto
import Derived.Test.YtjjfpbjdcmkkhaaDoorQPa
import Derived.Test.YtjjfpbjdcmkkhaaDoorQNa
set_option linter.unusedSimpArgs false
set_option linter.unusedVariables false
namespace Go.Proofs.YtjjfpbjdcmkkhaaDoor
open Go Go.RowKit Go.Shelf
attribute [local go_sem] Oper.semAt_some frozen_alloc_lt
set_option maxRecDepth 100000 in
set_option maxHeartbeats 2000000 in
theorem sound_no (b : Sn) (p : Option Addr) (c : Nat) (w : World) (hk : SBk w b p) (hv : snB b = false) :
    Calls Tryd.prog 34 #[.agg #[.int .i64 b.lo, .int .i64 b.hi, .slice p b.ns.length c]] w fun e w' => e = .returned (.bool false) ∧ ∃ x, w' = ext w x := by
  have HK := Lib.hid hk
  clear hk
  go_enter Tryd.func34, Tryd.ntmps34
  go_wp2_with (go_at_call 16; refine (Check_eq b p c false _ (HK.out.bel (by (repeat (first | (with_reducible exact Below.refl _ _) | (with_reducible assumption) | ((with_reducible refine below_ext_trans ?_ ?_ _); rotate_left; focus (((try dsimp only); repeat (first | omega | simp only [World.size_alloc, World.size_setCell, World.size_drew] | (with_reducible refine le_ext_of ?_) | (with_reducible refine le_ext_add ?_))); done)) | ((with_reducible refine Below.alloc ?_ ?_ _); rotate_left; focus (((try dsimp only); repeat (first | omega | simp only [World.size_alloc, World.size_setCell, World.size_drew] | (with_reducible refine le_ext_of ?_) | (with_reducible refine le_ext_add ?_))); done)) | ((with_reducible refine Below.setCell ?_ ?_ _); rotate_left; focus (((try dsimp only); repeat (first | omega | simp only [World.size_alloc, World.size_setCell, World.size_drew] | (with_reducible refine le_ext_of ?_) | (with_reducible refine le_ext_add ?_))); done)) | (with_reducible refine Below.drew ?_))))) hv).mono ?_; rintro e w' ⟨rfl, y, rfl⟩)
  refine wp_loop_rounds 1 ?_
  rw [rounds_succ]
  go_wp2_with fail
  go_ret
  exact ⟨rfl, by (exact ext_of (by (repeat (first | (with_reducible exact Below.refl _ _) | (with_reducible assumption) | ((with_reducible refine below_ext_trans ?_ ?_ _); rotate_left; focus (((try dsimp only); repeat (first | omega | simp only [World.size_alloc, World.size_setCell, World.size_drew] | (with_reducible refine le_ext_of ?_) | (with_reducible refine le_ext_add ?_))); done)) | ((with_reducible refine Below.alloc ?_ ?_ _); rotate_left; focus (((try dsimp only); repeat (first | omega | simp only [World.size_alloc, World.size_setCell, World.size_drew] | (with_reducible refine le_ext_of ?_) | (with_reducible refine le_ext_add ?_))); done)) | ((with_reducible refine Below.setCell ?_ ?_ _); rotate_left; focus (((try dsimp only); repeat (first | omega | simp only [World.size_alloc, World.size_setCell, World.size_drew] | (with_reducible refine le_ext_of ?_) | (with_reducible refine le_ext_add ?_))); done)) | (with_reducible refine Below.drew ?_)))))⟩
set_option maxRecDepth 100000 in
set_option maxHeartbeats 2000000 in
theorem sound_yes (b : Sn) (p : Option Addr) (c : Nat) (w : World) (hk : SBk w b p) (hv : snB b = true) :
    Calls Tryd.prog 34 #[.agg #[.int .i64 b.lo, .int .i64 b.hi, .slice p b.ns.length c]] w fun e w' => e = .returned (.bool true) ∧ ∃ x, w' = ext w x := by
  have hok := Ok9.of hv
  have HK := Lib.hid hk
  obtain ⟨s1, s2, s3, s4, s5, s6⟩ := hok.span
  have hn8 : (b.ns.length : Int) ≤ 8 := by
    simp only [snB, notesB, Bool.and_eq_true, decide_eq_true_eq] at hv
    omega
  have HOK := Lib.hid hok
  have HV := Lib.hid hv
  have HNT := Lib.hid hk.nt
  clear hk hok hv
  go_enter Tryd.func34, Tryd.ntmps34
  go_wp2_with (first
    | (go_at_call 16; refine (Check_eq b p c true _ (HK.out.bel (by (repeat (first | (with_reducible exact Below.refl _ _) | (with_reducible assumption) | ((with_reducible refine below_ext_trans ?_ ?_ _); rotate_left; focus (((try dsimp only); repeat (first | omega | simp only [World.size_alloc, World.size_setCell, World.size_drew] | (with_reducible refine le_ext_of ?_) | (with_reducible refine le_ext_add ?_))); done)) | ((with_reducible refine Below.alloc ?_ ?_ _); rotate_left; focus (((try dsimp only); repeat (first | omega | simp only [World.size_alloc, World.size_setCell, World.size_drew] | (with_reducible refine le_ext_of ?_) | (with_reducible refine le_ext_add ?_))); done)) | ((with_reducible refine Below.setCell ?_ ?_ _); rotate_left; focus (((try dsimp only); repeat (first | omega | simp only [World.size_alloc, World.size_setCell, World.size_drew] | (with_reducible refine le_ext_of ?_) | (with_reducible refine le_ext_add ?_))); done)) | (with_reducible refine Below.drew ?_))))) HV.out).mono ?_; rintro e w' ⟨rfl, y, rfl⟩)
    | (go_at_call 41; refine (Sane_yes _ _ _ _ _ (by assumption) (by assumption) (by assumption)).mono ?_; rintro e w' ⟨rfl, y, rfl⟩))
  go_loopw [3, 4, 5] (fun s q i wr => ∃ k : Nat, k ≤ b.ns.length ∧ i = .int .i64 k ∧ s = .bool true ∧ q = .int .i64 (pastN b.ns k) ∧ ∃ x, wr = ext (w.alloc (.cells #[.int .i64 b.lo, .int .i64 b.hi, .slice p b.ns.length c] 26)) x) (fun _ _ i _ => b.ns.length - (intOf i).toNat)
  case atStart => exact ⟨0, by omega, rfl, rfl, rfl, _, rfl⟩
  case round =>
    obtain ⟨k, hk, rfl, rfl, rfl, x, rfl⟩ := hrel
    by_cases hlt : k < b.ns.length
    · obtain ⟨s, hsk⟩ := get_some b.ns k hlt
      obtain ⟨bb, o, rfl, hbb, q1, q2, q3, q4⟩ := HNT.out k s hsk
      obtain ⟨⟨k1, k2⟩, ⟨m1, m2⟩, ⟨t1, t2, t3, t4, t5, t6⟩⟩ := HOK.out.nt hsk
      have hgap := (HOK.out.gap hsk).1
      rw [gapN_at hsk] at hgap
      have hpast : pastN b.ns k ≤ s.hour := by omega
      have hmost : mostOf s.kind ≤ 400 := by unfold mostOf; split <;> (try split) <;> omega
      have t7 : s.hi ≤ 400 := by omega
      have hnext : pastN b.ns (k + 1) = s.hour := by simp [pastN, hsk]
      have hbb' : bb < w.heap.size + 1 := by omega
      have k30 : (0 : Int) ≤ (k : Int) := by omega
      have k31 : (k : Int) < (b.ns.length : Int) := by omega
      clear hsk hgap hmost t6
      go_wp2_with (first
        | (go_at_call 38; refine (Between_yes _ _ _ _ (by assumption) (by assumption)).mono ?_; rintro e w' ⟨rfl, rfl⟩)
        | (go_at_call 41; refine (Sane_yes _ _ _ _ _ (by assumption) (by assumption) (by assumption)).mono ?_; rintro e w' ⟨rfl, y, rfl⟩))
      go_roundw
      case rel => exact ⟨k + 1, by omega, by go_num, rfl, by rw [hnext], by (exact ext_of (by (repeat (first | (with_reducible exact Below.refl _ _) | (with_reducible assumption) | ((with_reducible refine below_ext_trans ?_ ?_ _); rotate_left; focus (((try dsimp only); repeat (first | omega | simp only [World.size_alloc, World.size_setCell, World.size_drew] | (with_reducible refine le_ext_of ?_) | (with_reducible refine le_ext_add ?_))); done)) | ((with_reducible refine Below.alloc ?_ ?_ _); rotate_left; focus (((try dsimp only); repeat (first | omega | simp only [World.size_alloc, World.size_setCell, World.size_drew] | (with_reducible refine le_ext_of ?_) | (with_reducible refine le_ext_add ?_))); done)) | ((with_reducible refine Below.setCell ?_ ?_ _); rotate_left; focus (((try dsimp only); repeat (first | omega | simp only [World.size_alloc, World.size_setCell, World.size_drew] | (with_reducible refine le_ext_of ?_) | (with_reducible refine le_ext_add ?_))); done)) | (with_reducible refine Below.drew ?_)))))⟩
      case measure => simp [intOf]; omega
    · go_wp2_with fail
      go_ret
      exact ⟨rfl, by (exact ext_of (by (repeat (first | (with_reducible exact Below.refl _ _) | (with_reducible assumption) | ((with_reducible refine below_ext_trans ?_ ?_ _); rotate_left; focus (((try dsimp only); repeat (first | omega | simp only [World.size_alloc, World.size_setCell, World.size_drew] | (with_reducible refine le_ext_of ?_) | (with_reducible refine le_ext_add ?_))); done)) | ((with_reducible refine Below.alloc ?_ ?_ _); rotate_left; focus (((try dsimp only); repeat (first | omega | simp only [World.size_alloc, World.size_setCell, World.size_drew] | (with_reducible refine le_ext_of ?_) | (with_reducible refine le_ext_add ?_))); done)) | ((with_reducible refine Below.setCell ?_ ?_ _); rotate_left; focus (((try dsimp only); repeat (first | omega | simp only [World.size_alloc, World.size_setCell, World.size_drew] | (with_reducible refine le_ext_of ?_) | (with_reducible refine le_ext_add ?_))); done)) | (with_reducible refine Below.drew ?_)))))⟩
end Go.Proofs.YtjjfpbjdcmkkhaaDoor

namespace Go.Proofs.YtjjfpbjdcmkkhaaDoor
open Go Go.RowKit Go.Shelf
abbrev bV (b : Sn) (p : Option Addr) (c : Nat) : Value := .agg #[.int .i64 b.lo, .int .i64 b.hi, .slice p b.ns.length c]
theorem aerr_false {b : Sn} (hv : snB b = true) (hr : rightS b = false) : AErr b true 32 := .inr (.inr ⟨hv, rfl, hr, rfl⟩)
theorem inB_hh {h m : Int} (hh : 0 ≤ h ∧ h ≤ m) : inB h m = true := by simp [inB, hh.1, hh.2]
theorem Held_no (b : Sn) (p : Option Addr) (c : Nat) (h : Int) (w : World) (hk : SBk w b p) (hv : snB b = true) (hr : rightS b = false) (hh : 0 ≤ h ∧ h ≤ 60) :
    Calls Tryd.prog 20 #[bV b p c, .int .i64 h] w fun e w' => e = .returned (.tuple #[.agg #[.int .i64 0, .int .i64 0], .int .i64 32]) ∧ ∃ x, w' = ext w x :=
  (Held_all b p c h 32 w hk (.inl (by rw [inB_hh hh]; exact aerr_false hv hr))).mono fun e w' ⟨h1, h2⟩ => by
    rcases h1 with ⟨-, h1⟩ | ⟨h1, -⟩
    · exact ⟨h1, ext_of h2⟩
    · cases h1
theorem Held_is (b : Sn) (p : Option Addr) (c : Nat) (h lo hi : Int) (w : World) (hk : SBk w b p) (hv : snB b = true) (hr : rightS b = true) (hh : 0 ≤ h ∧ h ≤ 60) (h1 : minF Prod.fst 400 (atL b h) = lo) (h2 : maxF Prod.fst 0 (atL b h) = hi) :
    Calls Tryd.prog 20 #[bV b p c, .int .i64 h] w fun e w' => e = .returned (.tuple #[.agg #[.int .i64 lo, .int .i64 hi], .int .i64 0]) ∧ ∃ x, w' = ext w x :=
  (Held_all b p c h 0 w hk (.inr ⟨hv, inB_hh hh, hr, rfl⟩)).mono fun e w' ⟨h3, h4⟩ => by
    rcases h3 with ⟨h3, -⟩ | ⟨-, h3⟩
    · exact absurd rfl h3
    · rw [h1, h2] at h3; exact ⟨h3, ext_of h4⟩
theorem Rate_no (b : Sn) (p : Option Addr) (c : Nat) (h : Int) (w : World) (hk : SBk w b p) (hv : snB b = true) (hr : rightS b = false) (hh : 0 ≤ h ∧ h ≤ 60) :
    Calls Tryd.prog 22 #[bV b p c, .int .i64 h] w fun e w' => e = .returned (.tuple #[.agg #[.int .i64 0, .int .i64 0], .int .i64 32]) ∧ ∃ x, w' = ext w x :=
  (Rate_all b p c h 32 w hk (.inl (by rw [inB_hh hh]; exact aerr_false hv hr))).mono fun e w' ⟨h1, h2⟩ => by
    rcases h1 with ⟨-, h1⟩ | ⟨h1, -⟩
    · exact ⟨h1, ext_of h2⟩
    · cases h1
theorem Rate_is (b : Sn) (p : Option Addr) (c : Nat) (h lo hi : Int) (w : World) (hk : SBk w b p) (hv : snB b = true) (hr : rightS b = true) (hh : 0 ≤ h ∧ h ≤ 60) (h1 : minF Prod.snd 400 (atL b h) = lo) (h2 : maxF Prod.snd 0 (atL b h) = hi) :
    Calls Tryd.prog 22 #[bV b p c, .int .i64 h] w fun e w' => e = .returned (.tuple #[.agg #[.int .i64 lo, .int .i64 hi], .int .i64 0]) ∧ ∃ x, w' = ext w x :=
  (Rate_all b p c h 0 w hk (.inr ⟨hv, inB_hh hh, hr, rfl⟩)).mono fun e w' ⟨h3, h4⟩ => by
    rcases h3 with ⟨h3, -⟩ | ⟨-, h3⟩
    · exact absurd rfl h3
    · rw [h1, h2] at h3; exact ⟨h3, ext_of h4⟩
theorem Can_no (b : Sn) (p : Option Addr) (c : Nat) (h m : Int) (w : World) (hk : SBk w b p) (hv : snB b = true) (hr : rightS b = false) (hh : 0 ≤ h ∧ h ≤ 60) (hm : 0 ≤ m ∧ m ≤ 400) :
    Calls Tryd.prog 18 #[bV b p c, .int .i64 h, .int .i64 m] w fun e w' => e = .returned (.tuple #[.bool false, .int .i64 32]) ∧ ∃ x, w' = ext w x :=
  (Can_all b p c h m 32 w hk (.inl (by rw [inB_hh hh, inB_hh hm]; exact aerr_false hv hr))).mono fun e w' ⟨h1, h2⟩ => by
    rcases h1 with ⟨-, h1⟩ | ⟨h1, -⟩
    · exact ⟨h1, ext_of h2⟩
    · cases h1
theorem Can_is (b : Sn) (p : Option Addr) (c : Nat) (h m : Int) (q : Bool) (w : World) (hk : SBk w b p) (hv : snB b = true) (hr : rightS b = true) (hh : 0 ≤ h ∧ h ≤ 60) (hm : 0 ≤ m ∧ m ≤ 400) (h1 : canB b h m = q) :
    Calls Tryd.prog 18 #[bV b p c, .int .i64 h, .int .i64 m] w fun e w' => e = .returned (.tuple #[.bool q, .int .i64 0]) ∧ ∃ x, w' = ext w x :=
  (Can_all b p c h m 0 w hk (.inr ⟨hv, by rw [inB_hh hh, inB_hh hm]; rfl, hr, rfl⟩)).mono fun e w' ⟨h3, h4⟩ => by
    rcases h3 with ⟨h3, -⟩ | ⟨-, h3⟩
    · exact absurd rfl h3
    · rw [h1] at h3; exact ⟨h3, ext_of h4⟩
theorem Right_is (b : Sn) (p : Option Addr) (c : Nat) (q : Bool) (w : World) (hk : SBk w b p) (hv : snB b = true) (hr : rightS b = q) :
    Calls Tryd.prog 14 #[bV b p c] w fun e w' => e = .returned (.tuple #[.bool q, .int .i64 0]) ∧ ∃ x, w' = ext w x :=
  (Right_ok b p c w hk hv).mono fun e w' ⟨h1, h2⟩ => by rw [hr] at h1; exact ⟨h1, ext_of h2⟩
theorem Empty_no (b : Sn) (p : Option Addr) (c : Nat) (w : World) (hk : SBk w b p) (hv : snB b = true) (hr : rightS b = false) :
    Calls Tryd.prog 25 #[bV b p c] w fun e w' => e = .returned (.tuple #[.int .i64 0, .int .i64 32]) ∧ ∃ x, w' = ext w x :=
  (Empty_err b p c 32 w hk (aerr_false hv hr)).mono fun e w' ⟨h1, h2⟩ => ⟨h1, ext_of h2⟩
/-- The first hour at which nothing is held any more, or none. -/
theorem emptyN (b : Sn) : (∃ k : Nat, k ≤ 60 ∧ topH b k = 0 ∧ ∀ j : Nat, j < k → topH b j ≠ 0) ∨ ∀ j : Nat, j ≤ 60 → topH b j ≠ 0 := by
  have key : ∀ n : Nat, (∃ k : Nat, k < n ∧ topH b k = 0 ∧ ∀ j : Nat, j < k → topH b j ≠ 0) ∨ ∀ j : Nat, j < n → topH b j ≠ 0 := by
    intro n
    induction n with
    | zero => exact .inr (fun j hj => by omega)
    | succ n ih =>
      rcases ih with ⟨k, h1, h2, h3⟩ | h
      · exact .inl ⟨k, by omega, h2, h3⟩
      · by_cases h0 : topH b n = 0
        · exact .inl ⟨n, by omega, h0, h⟩
        · refine .inr (fun j hj => ?_)
          by_cases e : j = n
          · subst e; exact h0
          · exact h j (by omega)
  rcases key 61 with ⟨k, h1, h2, h3⟩ | h
  · exact .inl ⟨k, by omega, h2, h3⟩
  · exact .inr (fun j hj => h j (by omega))
theorem Empty_at (b : Sn) (p : Option Addr) (c : Nat) (k : Nat) (w : World) (hk : SBk w b p) (hv : snB b = true) (hr : rightS b = true) (h0 : k ≤ 60) (h1 : topH b k = 0) (h2 : ∀ j : Nat, j < k → topH b j ≠ 0) :
    Calls Tryd.prog 25 #[bV b p c] w fun e w' => e = .returned (.tuple #[.int .i64 k, .int .i64 0]) ∧ ∃ x, w' = ext w x :=
  (Empty_yes b p c w hk hv hr).mono fun e w' ⟨h3, h4⟩ => by
    refine ⟨?_, ext_of h4⟩
    rcases h3 with ⟨j, hj, h5, h6, h7⟩ | ⟨h5, -⟩
    · have : j = k := by
        rcases Nat.lt_trichotomy j k with h | h | h
        · exact absurd h5 (h2 j h)
        · exact h
        · exact absurd h1 (h6 k h)
      subst this; exact h7
    · exact absurd h1 (h5 k h0)
theorem Empty_non (b : Sn) (p : Option Addr) (c : Nat) (w : World) (hk : SBk w b p) (hv : snB b = true) (hr : rightS b = true) (h0 : ∀ j : Nat, j ≤ 60 → topH b j ≠ 0) :
    Calls Tryd.prog 25 #[bV b p c] w fun e w' => e = .returned (.tuple #[.int .i64 0, .int .i64 4]) ∧ ∃ x, w' = ext w x :=
  (Empty_yes b p c w hk hv hr).mono fun e w' ⟨h3, h4⟩ => by
    refine ⟨?_, ext_of h4⟩
    rcases h3 with ⟨j, hj, h5, -, -⟩ | ⟨-, h5⟩
    · exact absurd h5 (h0 j hj)
    · exact h5
theorem Saved_no (b : Sn) (p : Option Addr) (c : Nat) (w : World) (hk : SBk w b p) (hv : snB b = true) (hr : rightS b = false) :
    Calls Tryd.prog 27 #[bV b p c] w fun e w' => e = .returned (.tuple #[.agg #[.int .i64 0, .int .i64 0], .int .i64 32]) ∧ ∃ x, w' = ext w x :=
  (Saved_err b p c 32 w hk (aerr_false hv hr)).mono fun e w' ⟨h1, h2⟩ => ⟨h1, ext_of h2⟩
theorem Saved_is (b : Sn) (p : Option Addr) (c : Nat) (lo hi : Int) (w : World) (hk : SBk w b p) (hv : snB b = true) (hr : rightS b = true) (h1 : minF (savS (60 - lastN b.ns)) 400 (atL b (lastN b.ns)) = lo) (h2 : maxF (savS (60 - lastN b.ns)) 0 (atL b (lastN b.ns)) = hi) :
    Calls Tryd.prog 27 #[bV b p c] w fun e w' => e = .returned (.tuple #[.agg #[.int .i64 lo, .int .i64 hi], .int .i64 0]) ∧ ∃ x, w' = ext w x :=
  (Saved_yes b p c w hk hv hr).mono fun e w' ⟨h3, h4⟩ => by rw [h1, h2] at h3; exact ⟨h3, ext_of h4⟩
theorem Wheel_eq (n m r : Int) (w : World) (hm : 1 ≤ m ∧ m ≤ 1000000) (hr : n % m = r) : Calls Tryd.prog 37 #[.int .i64 n, .int .i64 m] w fun e w' => e = .returned (.int .i64 r) ∧ ∃ x, w' = ext w x := by
  subst hr; exact Wheel_any n m w hm.1 hm.2
theorem SBk.ext' {w : World} {b : Sn} {p : Option Addr} (h : SBk w b p) (x : Grow w) : SBk (ext w x) b p := h.bel (below_ext w x)
end Go.Proofs.YtjjfpbjdcmkkhaaDoor

