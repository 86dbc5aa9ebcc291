/- For the laws of package bulk: sound; small functions of huerref00. Written by gen_b6e.py. -/
/- For the laws of package bulk: filled, alone. Written by gen_b6f.py. -/
/- For the laws of package bulk, plainly: books of one lot; a lot that was not counted. -/
import Derived.Test.YtpiadbdkiibdbaaQB6d
set_option linter.unusedSimpArgs false
set_option linter.unusedVariables false
namespace Go.Proofs.Ytpiadbdkiibdbaa
open Go Go.RowKit Go.Shelf
attribute [local go_sem] Oper.semAt_some frozen_alloc_lt
set_option maxRecDepth 100000 in
set_option maxHeartbeats 2000000 in
theorem bsound_no (b : Ck) (p : Option Addr) (c : Nat) (w : World) (hk : CB w b p) (hv : cellV b = false) :
    Calls Try.prog 36 #[ckV b p c] w fun e w' => e = .returned (.bool false) ∧ ∃ x, w' = ext w x := by
  have HK := Lib.hid hk
  have HV := Lib.hid hv
  clear hk hv
  unfold ckV
  go_enter Try.func36, Try.ntmps36
  go_wp2_with (go_at_call 16; refine (bCheck_any b p c false _ (HK.out.bel belA) HV.out).mono ?_; rintro e w' ⟨rfl, y, rfl⟩)
  refine wp_loop_rounds 4 ?_
  iterate 4 (rw [rounds_succ]; go_wp2_with fail)
  refine wp_loop_rounds 1 ?_
  rw [rounds_succ]
  go_wp2_with fail
  go_ret
  exact ⟨rfl, by (exact ext_of (by (exact belA)))⟩
set_option maxRecDepth 100000 in
set_option maxHeartbeats 4000000 in
theorem bsound_yes (b : Ck) (p : Option Addr) (c : Nat) (w : World) (hk : CB w b p) (hv : cellV b = true) :
    Calls Try.prog 36 #[ckV b p c] w fun e w' => e = .returned (.bool true) ∧ ∃ x, w' = ext w x := by
  obtain ⟨⟨⟨a1, a2, a3, a4⟩, ⟨a5, a6, a7, a8⟩, a9, a10, a11, a12⟩, ⟨⟨b1, b2⟩, ⟨b3, b4⟩, b5, b6⟩, hn, hall⟩ := cell_parts hv
  have HK := Lib.hid hk
  have HV := Lib.hid hv
  have HL := Lib.hid hk.ls
  have HA := Lib.hid hall
  have hl1 : (b.ls.length : Int) ≤ 4 := by omega
  clear hk hv hall a4 a8 a12
  unfold ckV
  go_enter Try.func36, Try.ntmps36
  go_wp2_with (go_at_call 16; refine (bCheck_any b p c true _ (HK.out.bel belA) HV.out).mono ?_; rintro e w' ⟨rfl, y, rfl⟩)
  refine wp_loop_rounds 4 ?_
  iterate 4 (rw [rounds_succ]; go_wp2_with (first
    | (go_at_call 45; refine (Between_yes _ _ _ _ (by assumption) (by assumption)).mono ?_; rintro e w' ⟨rfl, rfl⟩)
    | (go_at_call 61; refine (Sane_yes _ _ _ _ _ (by assumption) (by assumption) (by assumption)).mono ?_; rintro e w' ⟨rfl, y, rfl⟩)))
  go_loopw [3, 5] (fun s i wr => ∃ k : Nat, k ≤ b.ls.length ∧ i = .int .i64 k ∧ s = .bool true ∧ ∃ x, wr = ext (w.alloc (.cells #[.int .i64 b.l0, .int .i64 b.u0, .int .i64 b.l1, .int .i64 b.u1, .int .i64 b.l2, .int .i64 b.u2, .int .i64 b.e0, .int .i64 b.e1, .int .i64 b.e2, .slice p b.ls.length c] 28)) x) (fun _ i _ => b.ls.length - (intOf i).toNat)
  case atStart => exact ⟨0, by omega, rfl, rfl, _, rfl⟩
  case round =>
    obtain ⟨k, hk, rfl, rfl, x, rfl⟩ := hrel
    by_cases hlt : k < b.ls.length
    · obtain ⟨s, hsk⟩ := get_some b.ls k hlt
      obtain ⟨bb, o, rfl, hbb, q1, q2, q3, q4, q5⟩ := HL.out k s hsk
      obtain ⟨⟨⟨s1, s2⟩, ⟨s3, s4⟩, s5, s6⟩, s7, s8, s9, -⟩ := lot_parts (HA.out s (List.mem_of_getElem? hsk))
      have hbb' : bb < w.heap.size + 1 := by omega
      have k30 : (0 : Int) ≤ (k : Int) := by omega
      have k31 : (k : Int) < (b.ls.length : Int) := by omega
      clear hsk
      go_wp2_with (first
        | (go_at_call 61; refine (Sane_yes _ _ _ _ _ (by assumption) (by assumption) (by assumption)).mono ?_; rintro e w' ⟨rfl, y, rfl⟩))
      refine wp_loop_rounds 4 ?_
      iterate 4 (rw [rounds_succ]; go_wp2_with (first
        | (go_at_call 45; refine (Between_yes _ _ _ _ (by assumption) (by assumption)).mono ?_; rintro e w' ⟨rfl, rfl⟩)))
      go_roundw
      case rel => exact ⟨k + 1, by omega, by go_num, rfl, by (exact ext_of (by (exact belA)))⟩
      case measure => simp [intOf]; omega
    · go_wp2_with fail
      go_ret
      exact ⟨rfl, by (exact ext_of (by (exact belA)))⟩
theorem bsound_any (b : Ck) (p : Option Addr) (c : Nat) (q : Bool) (w : World) (hk : CB w b p) (hq : cellV b = q) :
    Calls Try.prog 36 #[ckV b p c] w fun e w' => e = .returned (.bool q) ∧ ∃ x, w' = ext w x := by
  cases q
  · exact bsound_no b p c w hk hq
  · exact bsound_yes b p c w hk hq
end Go.Proofs.Ytpiadbdkiibdbaa

namespace Go.Proofs.Ytpiadbdkiibdbaa
open Go Go.RowKit Go.Shelf
attribute [local go_sem] Oper.semAt_some frozen_alloc_lt
theorem enoughI_eq {f h k : Int} (hh : 1 ≤ h) (h1 : f ≤ k * h) (h2 : (k - 1) * h < f) : enoughI f h = k := by
  have e1 := (enoughI_le (f := f) (n := k) hh).2 h1
  have e2 : ¬ enoughI f h ≤ k - 1 := fun h3 => by
    have := (enoughI_le (f := f) (n := k - 1) hh).1 h3
    omega
  omega
set_option maxRecDepth 100000 in
set_option maxHeartbeats 2000000 in
theorem filled_any (f h : Int) (w : World) (hf : 0 ≤ f ∧ f ≤ 100000) (hh : 1 ≤ h ∧ h ≤ 9) :
    Calls Try.prog 51 #[.int .i64 f, .int .i64 h] w fun e w' => e = .returned (.int .i64 (enoughI f h)) ∧ ∃ x, w' = ext w x := by
  go_enter Try.func51, Try.ntmps51
  go_wp2_with fail
  go_loopw [0, 5] (fun y n wr => ∃ a k : Int, y = .int .i64 a ∧ n = .int .i64 k ∧ 0 ≤ k ∧ k ≤ 100000 ∧ a + k ≤ f ∧ -h < a ∧ Hid (a = f - k * h) ∧ wr = w) (fun y _ _ => (intOf y).toNat)
  case atStart => exact ⟨f, 0, rfl, rfl, by omega, by omega, by omega, by omega, Lib.hid (by simp), rfl⟩
  case round =>
    obtain ⟨a, k, rfl, rfl, k0, k1, k2, k3, HA, rfl⟩ := hrel
    by_cases hlt : 0 < a
    · go_wp2_with fail
      go_roundw
      case rel => exact ⟨a - h, k + 1, by go_num, by go_num, by omega, by omega, by omega, by omega, Lib.hid (by rw [HA.out, Int.add_mul]; omega), by first | rfl | trivial⟩
      case measure => simp [intOf]; omega
    · have H := Lib.hid (show enoughI f h = k from enoughI_eq hh.1 (by have := HA.out; omega) (by rw [Int.sub_mul]; have := HA.out; omega))
      clear HA
      go_wp2_with fail
      go_ret
      exact ⟨ret_int (by rw [H.out]), ext_of (Below.refl _ _)⟩
def Ck.one (b : Ck) (t : Lt) : Ck := { b with ls := [t] }
set_option maxRecDepth 100000 in
set_option maxHeartbeats 2000000 in
theorem alone_any (b : Ck) (p : Option Addr) (c : Nat) (i : Nat) (t : Lt) (w : World) (hk : CB w b p) (hi : b.ls[i]? = some t) (hl : (b.ls.length : Int) ≤ 1000) :
    Calls Try.prog 41 #[ckV b p c, .int .i64 i] w fun e w' => ∃ g, e = .returned (ckV (b.one t) (some ⟨g, 0, none⟩) 1) ∧ w.heap.size ≤ g ∧ Blk w' g 62 (ltcs t) ∧ ∃ x, w' = ext w x := by
  obtain ⟨bb, o, rfl, hbb, q1, q2, q3, q4, q5⟩ := lots_cells hk.ls hi
  have i0 : (0 : Int) ≤ (i : Int) := by omega
  have i1 : (i : Int) < (b.ls.length : Int) := by
    have := (List.getElem?_eq_some_iff.1 hi).1
    omega
  have l1 : bb < w.heap.size + 1 := by omega
  have l2 : bb < w.heap.size + 2 := by omega
  have l3 : bb < w.heap.size + 3 := by omega
  clear hk hi
  unfold ckV
  go_enter Try.func41, Try.ntmps41
  go_wp2_with fail
  refine bodyPost_ret (v := ckV (b.one t) (some ⟨w.heap.size + 1 + 1 + 1, 0, none⟩) 1) (by simp [results, Try.results41, go_sem, ckV, Ck.one]) rfl ⟨_, rfl, by omega, Blk.new (by simp), ext_of belA⟩
theorem one_lots {w : World} {g : Nat} {b : Ck} {t : Lt} (h : Blk w g 62 (ltcs t)) : CB w (b.one t) (some ⟨g, 0, none⟩) := ⟨fun i s hs => by
  refine ⟨g, 0, rfl, h.lt, ?_⟩
  simp only [Nat.zero_add]
  match i, hs with
  | 0, hs => cases hs; exact ⟨h.cell 0, h.cell 1, h.cell 2, h.cell 3, h.cell 4⟩
  | i + 1, hs => simp [Ck.one] at hs, fun a ha => by cases ha; exact h.lt⟩
end Go.Proofs.Ytpiadbdkiibdbaa

namespace Go.Proofs.Ytpiadbdkiibdbaa
open Go Go.RowKit
/-- A book of one lot: its truths are what measures hold, with a load of the lot. -/
theorem one_true {b : Ck} {t : Lt} {m : Ms} {L : List (Int × Int)} : TrueIs (b.one t) m L ↔ MsIn b m ∧ ∃ l, L = [l] ∧ LoadIs b m t l := by
  constructor
  · rintro ⟨h1, h2, h3⟩
    refine ⟨h1, ?_⟩
    match L, h2 with
    | [l], _ =>
      have := h3 0 t l rfl rfl
      exact ⟨l, rfl, this.fish, this.waste, this.c0, this.c1, this.c2⟩
  · rintro ⟨h1, l, rfl, h⟩
    refine ⟨h1, rfl, fun i s x hs hx => ?_⟩
    match i, hs, hx with
    | 0, hs, hx => cases hs; cases hx; exact ⟨h.fish, h.waste, h.c0, h.c1, h.c2⟩
    | i + 1, hs, _ => simp [Ck.one] at hs
theorem one_ends {b : Ck} {t : Lt} {q : Qs} {lo hi : Int} (h1 : ∃ m l, MsIn b m ∧ LoadIs b m t l ∧ q.num m l = lo) (h2 : ∃ m l, MsIn b m ∧ LoadIs b m t l ∧ q.num m l = hi) (h3 : ∀ m l, MsIn b m → LoadIs b m t l → lo ≤ q.num m l ∧ q.num m l ≤ hi) : EndsC (b.one t) (gSum q 0 1) lo hi := by
  have e : ∀ m l, gSum q 0 1 m [l] = q.num m l := fun m l => by simp [gSum]
  obtain ⟨m1, l1, a1, a2, a3⟩ := h1
  obtain ⟨m2, l2, b1, b2, b3⟩ := h2
  refine ⟨⟨m1, [l1], one_true.2 ⟨a1, l1, rfl, a2⟩, by rw [e, a3]⟩, ⟨m2, [l2], one_true.2 ⟨b1, l2, rfl, b2⟩, by rw [e, b3]⟩, fun m L h => ?_⟩
  obtain ⟨c1, l, rfl, c2⟩ := one_true.1 h
  rw [e]
  exact h3 m l c1 c2
/-- A lot that was not counted. -/
def Lt.bare (t : Lt) : Lt := ⟨-1, -1, -1, t.wl, t.wh⟩
theorem bare_load {b : Ck} {m : Ms} {t : Lt} {l : Int × Int} : LoadIs b m t.bare l ↔ (0 ≤ l.1 ∧ l.1 ≤ 400) ∧ t.wl ≤ l.1 - l.2 ∧ l.1 - l.2 ≤ t.wh ∧ l.1 - l.2 ≤ l.1 := by
  have ag : ∀ e n, agreeB (-1) e n = true := fun e n => by simp [agreeB]
  constructor
  · intro h; exact ⟨h.fish, h.waste⟩
  · rintro ⟨h1, h2⟩; exact ⟨h1, h2, ag _ _, ag _ _, ag _ _⟩
theorem one_cell {b : Ck} {t : Lt} (hv : cellV b = true) (ht : lotV t = true) : cellV (b.one t) = true := by
  unfold cellV at *
  rw [Bool.and_eq_true] at *
  refine ⟨hv.1, ?_⟩
  unfold lotsV
  simp [Ck.one, ht]
theorem bare_lot {t : Lt} (ht : lotV t = true) : lotV t.bare = true := by
  unfold lotV at *
  simp only [Bool.and_eq_true] at *
  exact ⟨⟨⟨rfl, rfl⟩, rfl⟩, ht.2⟩
theorem bare_right {b : Ck} {t : Lt} (hv : cellV b = true) (ht : lotV t = true) : rightC (b.one t.bare) = true := by
  obtain ⟨⟨⟨a1, a2, a3, a4⟩, ⟨a5, a6, a7, a8⟩, a9, a10, a11, a12⟩, -⟩ := cell_parts hv
  obtain ⟨-, s7, s8, s9, -⟩ := lot_parts ht
  exact rightC_iff.2 ⟨⟨b.l0, b.l1, b.l2⟩, _, one_true.2 ⟨⟨⟨Int.le_refl _, a2⟩, ⟨Int.le_refl _, a6⟩, ⟨Int.le_refl _, a10⟩⟩, (400, 400 - t.wl), rfl, bare_load.2 (by dsimp only; omega)⟩⟩
theorem bare_open {b : Ck} {t : Lt} (hv : cellV b = true) (ht : lotV t = true) : openE (b.one t.bare) true = 0 := by
  unfold openE
  rw [one_cell hv (bare_lot ht), bare_right hv ht]
  rfl
theorem bare_fish {b : Ck} {t : Lt} (hv : cellV b = true) (ht : lotV t = true) : EndsC (b.one t.bare) (gSum .fish 0 1) t.wl 400 := by
  obtain ⟨⟨⟨a1, a2, a3, a4⟩, ⟨a5, a6, a7, a8⟩, a9, a10, a11, a12⟩, -⟩ := cell_parts hv
  obtain ⟨-, s7, s8, s9, -⟩ := lot_parts ht
  have hm : MsIn b ⟨b.l0, b.l1, b.l2⟩ := ⟨⟨Int.le_refl _, a2⟩, ⟨Int.le_refl _, a6⟩, ⟨Int.le_refl _, a10⟩⟩
  refine one_ends ⟨_, (t.wl, 0), hm, bare_load.2 (by dsimp only; omega), rfl⟩ ⟨_, (400, 400 - t.wl), hm, bare_load.2 (by dsimp only; omega), rfl⟩ fun m l _ hl => ?_
  have := bare_load.1 hl
  show _ ≤ l.1 ∧ l.1 ≤ _
  omega
theorem bare_packed {b : Ck} {t : Lt} (hv : cellV b = true) (ht : lotV t = true) : EndsC (b.one t.bare) (gSum .packed 0 1) 0 (400 - t.wl) := by
  obtain ⟨⟨⟨a1, a2, a3, a4⟩, ⟨a5, a6, a7, a8⟩, a9, a10, a11, a12⟩, -⟩ := cell_parts hv
  obtain ⟨-, s7, s8, s9, -⟩ := lot_parts ht
  have hm : MsIn b ⟨b.l0, b.l1, b.l2⟩ := ⟨⟨Int.le_refl _, a2⟩, ⟨Int.le_refl _, a6⟩, ⟨Int.le_refl _, a10⟩⟩
  refine one_ends ⟨_, (t.wl, 0), hm, bare_load.2 (by dsimp only; omega), rfl⟩ ⟨_, (400, 400 - t.wl), hm, bare_load.2 (by dsimp only; omega), rfl⟩ fun m l _ hl => ?_
  have := bare_load.1 hl
  show _ ≤ l.2 ∧ l.2 ≤ _
  omega
theorem bare_rows {b : Ck} {t : Lt} (hv : cellV b = true) (ht : lotV t = true) : EndsC (b.one t.bare) (gSum (.count 1) 0 1) (enoughI t.wl b.u1) (enoughI 400 b.l1) := by
  obtain ⟨⟨⟨a1, a2, a3, a4⟩, ⟨a5, a6, a7, a8⟩, a9, a10, a11, a12⟩, -⟩ := cell_parts hv
  obtain ⟨-, s7, s8, s9, -⟩ := lot_parts ht
  refine one_ends ⟨⟨b.l0, b.u1, b.l2⟩, (t.wl, 0), ⟨⟨Int.le_refl _, a2⟩, ⟨a6, Int.le_refl _⟩, ⟨Int.le_refl _, a10⟩⟩, bare_load.2 (by dsimp only; omega), rfl⟩ ⟨⟨b.l0, b.l1, b.l2⟩, (400, 400 - t.wl), ⟨⟨Int.le_refl _, a2⟩, ⟨Int.le_refl _, a6⟩, ⟨Int.le_refl _, a10⟩⟩, bare_load.2 (by dsimp only; omega), rfl⟩ fun m l hm hl => ?_
  have h := bare_load.1 hl
  obtain ⟨-, ⟨m1, m2⟩, -⟩ := hm
  show _ ≤ enoughI l.1 m.b ∧ enoughI l.1 m.b ≤ _
  exact ⟨Int.le_trans (enoughI_mono (by omega) (by omega)) (enoughI_anti (by omega) (by omega) m2), Int.le_trans (enoughI_mono (by omega) (by omega)) (enoughI_anti (by omega) (by omega) m1)⟩
theorem bare_casks {b : Ck} {t : Lt} (hv : cellV b = true) (ht : lotV t = true) : EndsC (b.one t.bare) (gSum (.count 2) 0 1) 0 (enoughI (400 - t.wl) b.l2) := by
  obtain ⟨⟨⟨a1, a2, a3, a4⟩, ⟨a5, a6, a7, a8⟩, a9, a10, a11, a12⟩, -⟩ := cell_parts hv
  obtain ⟨-, s7, s8, s9, -⟩ := lot_parts ht
  have hm : MsIn b ⟨b.l0, b.l1, b.l2⟩ := ⟨⟨Int.le_refl _, a2⟩, ⟨Int.le_refl _, a6⟩, ⟨Int.le_refl _, a10⟩⟩
  refine one_ends ⟨_, (t.wl, 0), hm, bare_load.2 (by dsimp only; omega), enoughI_eq (f := 0) (k := 0) a9 (by simp) (by show (0 - 1) * b.l2 < 0; omega)⟩ ⟨_, (400, 400 - t.wl), hm, bare_load.2 (by dsimp only; omega), rfl⟩ fun m l hm hl => ?_
  have h := bare_load.1 hl
  obtain ⟨-, -, m1, m2⟩ := hm
  show _ ≤ enoughI l.2 m.c ∧ enoughI l.2 m.c ≤ _
  exact ⟨enoughI_nonneg (by omega) (by omega), Int.le_trans (enoughI_mono (by omega) (show l.2 ≤ 400 - t.wl by omega)) (enoughI_anti (by omega) (by omega) m1)⟩
theorem Blk.ne {w : World} {g g' : Nat} {t t' : TypeId} {cs cs' : Array Value} (h : Blk w g t cs) (h' : Blk w g' t' cs') (ht : t ≠ t') : g ≠ g' := by
  rintro rfl
  have := h.symm.trans h'
  injection this with this
  injection this with h1 h2
  exact ht h2
end Go.Proofs.Ytpiadbdkiibdbaa

