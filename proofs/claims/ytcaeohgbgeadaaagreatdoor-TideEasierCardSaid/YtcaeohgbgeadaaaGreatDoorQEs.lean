/- For the laws of package tide: Bits, exactly (as in Hv); drawn. -/
import Derived.Test.YtcaeohgbgeadaaaGreatDoorQEq
import Derived.Test.YtcaeohgbgeadaaaGreatDoorQFl
set_option linter.unusedSimpArgs false
set_option linter.unusedVariables false
namespace Go.Proofs.YtcaeohgbgeadaaaGreatDoor
open Go Go.RowKit Go.Shelf
theorem bit_fact : ∀ s : Nat, s < 256 → ∀ n : Nat, n < 8 → (((s : Int) / 2 ^ n).tmod 2 == 1) = s.testBit n := by decide +kernel
set_option maxHeartbeats 1000000 in
theorem Bit_eq (s n : Nat) (q : Bool) (w : World) (hs : s < 256) (hn : n < 8) (hq : s.testBit n = q) : Calls Tryz.prog 42 #[.int .i64 s, .int .i64 n] w fun e w' => e = .returned (.bool q) ∧ w = w' := by
  subst hq
  have n0 : (0 : Int) ≤ (n : Int) := by omega
  have n1 : (n : Int) < 64 := by omega
  have H := Lib.hid (bit_fact s hs n hn)
  go_enter Tryz.func42, Tryz.ntmps42
  go_wp2
  go_ret
  exact ⟨by rw [← H.out]; rfl, rfl⟩
/-- The numbers of a set. -/
def bitsL (s m : Nat) : List Int := ((List.range m).filter (fun k => s.testBit k)).map (fun (k : Nat) => (k : Int))
theorem bitsL_yes {s k : Nat} (h : s.testBit k = true) : bitsL s (k + 1) = bitsL s k ++ [(k : Int)] := by simp [bitsL, List.range_succ, List.filter_append, h]
theorem bitsL_no {s k : Nat} (h : s.testBit k = false) : bitsL s (k + 1) = bitsL s k := by simp [bitsL, List.range_succ, List.filter_append, h]
theorem bitsL_le (s m : Nat) : (bitsL s m).length ≤ m := by
  unfold bitsL
  rw [List.length_map]
  exact Nat.le_trans (List.length_filter_le _ _) (by simp)
theorem mem_bitsL {s m : Nat} {x : Int} : x ∈ bitsL s m ↔ ∃ k : Nat, k < m ∧ s.testBit k = true ∧ x = (k : Int) := by
  unfold bitsL
  rw [List.mem_map]
  constructor
  · rintro ⟨k, hk, rfl⟩
    rw [List.mem_filter, List.mem_range] at hk
    exact ⟨k, hk.1, hk.2, rfl⟩
  · rintro ⟨k, h1, h2, rfl⟩
    exact ⟨k, List.mem_filter.2 ⟨List.mem_range.2 h1, h2⟩, rfl⟩
theorem bitsL_rises (s m : Nat) : (bitsL s m).Pairwise (· < ·) := by
  unfold bitsL
  rw [List.pairwise_map]
  exact (List.pairwise_lt_range.sublist List.filter_sublist).imp (fun {a c} h => by omega)
theorem bitsL_at {s m k : Nat} (hk : k < m) : ((k : Int) ∈ bitsL s m) ↔ s.testBit k = true := by
  rw [mem_bitsL]
  exact ⟨fun ⟨j, _, h2, h3⟩ => by rw [show k = j by omega]; exact h2, fun h => ⟨k, hk, h, rfl⟩⟩
def BitsPost (w : World) (L : List Int) (e : Ending) (w' : World) : Prop := ∃ (p : Option Addr) (c : Nat), e = .returned (.slice p L.length c) ∧ IntsAt w' p L ∧ ∃ x, w' = ext w x
attribute [local go_sem] Oper.semAt_some frozen_alloc_lt
set_option maxHeartbeats 4000000 in
theorem Bits_eq (s m : Nat) (w : World) (hs : s < 256) (hm : m ≤ 8) : Calls Tryz.prog 87 #[.int .i64 s, .int .i64 m] w (BitsPost w (bitsL s m)) := by
  go_enter Tryz.func87, Tryz.ntmps87
  go_wp2_with fail
  generalize hW : w.alloc _ = W
  have hWB : Below w.heap.size w W := by rw [← hW]; (exact belA)
  have ho : OwnInts W w.heap.size (.slice (some ⟨w.heap.size, 0, none⟩) 0 0) [] := by rw [← hW]; exact OwnInts.of_blk (Blk.new rfl) rfl rfl (by simp)
  have HW := Lib.hid hWB
  have HO0 := Lib.hid ho
  have hWs : w.heap.size ≤ W.heap.size := hWB.size
  clear hW hWB ho
  go_loopw [5, 6] (fun v i wr => ∃ k : Nat, k ≤ m ∧ i = .int .i64 k ∧ Hid (OwnInts wr w.heap.size v (bitsL s k)) ∧ Hid (Below w.heap.size w wr)) (fun _ i _ => m - (intOf i).toNat)
  case atStart => exact ⟨0, by omega, rfl, HO0, HW⟩
  case round =>
    obtain ⟨k, hk, rfl, HO, HB⟩ := hrel
    have hzr : w.heap.size ≤ wr.heap.size := HB.out.size
    by_cases hlt : k < m
    · have hle := bitsL_le s k
      cases hq : s.testBit k
      · have HU := Lib.hid (bitsL_no hq)
        have HQ := Lib.hid hq
        clear hq
        go_wp2_with (go_at_call 42; refine (Bit_eq s k false _ hs (by omega) HQ.out).mono ?_; rintro e w1 ⟨rfl, rfl⟩)
        go_roundw
        case rel => exact ⟨k + 1, by omega, by go_num, by rw [HU.out]; exact HO, HB⟩
        case measure => simp [intOf]; omega
      · have HU := Lib.hid (bitsL_yes hq)
        have HQ := Lib.hid hq
        clear hq
        go_wp2_with (first
          | (go_at_call 42; refine (Bit_eq s k true _ hs (by omega) HQ.out).mono ?_; rintro e w1 ⟨rfl, rfl⟩)
          | (at_builtin; refine wpList_append_int rfl _ _ rfl w.heap.size _ _ rfl (HO.out.below ((Below.refl _ _).alloc (Nat.le_refl _) _)) wr.heap.size (k : Int) rfl (by simp [go_sem]) (by omega) (by ((try dsimp only); repeat (first | omega | simp only [World.size_alloc, World.size_setCell, World.size_drew] | (with_reducible refine le_ext_of ?_) | (with_reducible refine le_ext_add ?_)))) ?_; intro v' w1 ho hg))
        have HO' := Lib.hid ho
        have hB2 : Below w.heap.size w w1 := by
          have hB := HB.out
          refine Below.grown (w := wr.alloc (.cells #[.int .i64 (k : Int)] 3)) belA hg (by ((try dsimp only); repeat (first | omega | simp only [World.size_alloc, World.size_setCell, World.size_drew] | (with_reducible refine le_ext_of ?_) | (with_reducible refine le_ext_add ?_)))) ?_
          intro j hj
          exact (HO.out.lt j hj).1
        have HB2 := Lib.hid hB2
        clear ho hg hB2
        go_wp2_with fail
        go_roundw
        case rel => exact ⟨k + 1, by omega, by go_num, by rw [HU.out]; exact HO', HB2⟩
        case measure => simp [intOf]; omega
    · obtain rfl : k = m := by omega
      obtain ⟨p, c, rfl, hI, -⟩ := HO.out.at
      go_wp2_with fail
      go_ret
      exact ⟨p, c, rfl, hI, ext_of HB.out⟩
/-- The hour of a tide by its number. -/
def hourT (ts : List Lw) (x : Int) : Int := match ts[x.toNat]? with | some s => s.hour | none => 0
/-- Can a tide be put behind those of a plan? -/
def canT (b : Tk) (pl : List Int) (x : Int) : Bool := decide ((pl.length : Int) < b.most) && (match pl.getLast? with | none => true | some y => decide (hourT b.ts y + b.rest ≤ hourT b.ts x))
/-- The first tides of a list that can follow each other, gone through so far. -/
def drawT (b : Tk) (L : List Int) : Nat → List Int
  | 0 => []
  | k + 1 => match L[k]? with
    | some x => if canT b (drawT b L k) x then drawT b L k ++ [x] else drawT b L k
    | none => drawT b L k
theorem drawT_yes {b : Tk} {L : List Int} {k : Nat} {x : Int} (h : L[k]? = some x) (hc : canT b (drawT b L k) x = true) : drawT b L (k + 1) = drawT b L k ++ [x] := by
  conv => lhs; unfold drawT
  simp [h, hc]
theorem drawT_no {b : Tk} {L : List Int} {k : Nat} {x : Int} (h : L[k]? = some x) (hc : canT b (drawT b L k) x = false) : drawT b L (k + 1) = drawT b L k := by
  conv => lhs; unfold drawT
  simp [h, hc]
theorem hourT_at {ts : List Lw} {k : Nat} {s : Lw} (h : ts[k]? = some s) : hourT ts (k : Int) = s.hour := by
  unfold hourT; simp [h]
theorem drawT_plan {b : Tk} {L : List Int} (hv : validB b = true) (hP : L.Pairwise (· < ·)) (hR : ∀ x ∈ L, 0 ≤ x ∧ x < (b.ts.length : Int)) :
    ∀ k, planB b.ts b.most b.rest (drawT b L k) = true ∧ (∀ x ∈ drawT b L k, ∃ i, i < k ∧ L[i]? = some x) ∧ (drawT b L k).length ≤ k
  | 0 => ⟨plan_nil (of_validB hv).2.2.2.2.1.1, fun x hx => by simp [drawT] at hx, by simp [drawT]⟩
  | k + 1 => by
    obtain ⟨h1, h2, h3⟩ := drawT_plan hv hP hR k
    obtain ⟨-, hch, -, -, -, hr, -⟩ := of_validB hv
    cases hx : L[k]? with
    | none =>
      have e : drawT b L (k + 1) = drawT b L k := by conv => lhs; unfold drawT
                                                     simp [hx]
      rw [e]
      exact ⟨h1, fun x h => (h2 x h).imp fun i hi => ⟨by omega, hi.2⟩, by omega⟩
    | some x =>
      cases hc : canT b (drawT b L k) x with
      | false =>
        rw [drawT_no hx hc]
        exact ⟨h1, fun x h => (h2 x h).imp fun i hi => ⟨by omega, hi.2⟩, by omega⟩
      | true =>
        rw [drawT_yes hx hc]
        have hxm := List.mem_of_getElem? hx
        obtain ⟨x0, x1⟩ := hR x hxm
        have hlt : ∀ a ∈ drawT b L k, a < x := fun a ha => by
          obtain ⟨i, hi, he⟩ := h2 a ha
          obtain ⟨hi1, rfl⟩ := List.getElem?_eq_some_iff.1 he
          obtain ⟨hk1, rfl⟩ := List.getElem?_eq_some_iff.1 hx
          exact List.pairwise_iff_getElem.1 hP i k hi1 hk1 hi
        unfold canT at hc
        simp only [Bool.and_eq_true, decide_eq_true_eq] at hc
        obtain ⟨hc1, hc2⟩ := hc
        have hf : ∀ a ∈ drawT b L k, followsB b.ts b.rest a x = true := fun a ha => by
          obtain ⟨i, hi, he⟩ := h2 a ha
          obtain ⟨a0, a1⟩ := hR a (List.mem_of_getElem? he)
          obtain ⟨an, rfl⟩ := Int.eq_ofNat_of_zero_le a0
          obtain ⟨xn, rfl⟩ := Int.eq_ofNat_of_zero_le x0
          obtain ⟨s, hs⟩ := get_some b.ts an (by omega)
          obtain ⟨t, ht⟩ := get_some b.ts xn (by omega)
          rw [followsB_at b.rest hs ht]
          have hax := hlt _ ha
          have hl : (drawT b L k).getLast? ≠ none := by
            rw [Ne, List.getLast?_eq_none_iff]
            intro e; rw [e] at ha; simp at ha
          obtain ⟨y, hy⟩ := Option.ne_none_iff_exists'.1 hl
          rw [hy] at hc2
          have hym := List.mem_of_getLast? hy
          obtain ⟨j, hj, hje⟩ := h2 y hym
          obtain ⟨y0, y1⟩ := hR y (List.mem_of_getElem? hje)
          obtain ⟨yn, rfl⟩ := Int.eq_ofNat_of_zero_le y0
          obtain ⟨u, hu⟩ := get_some b.ts yn (by omega)
          simp only [decide_eq_true_eq] at hc2
          rw [hourT_at hu, hourT_at ht] at hc2
          have hay : (an : Int) ≤ yn := by
            have hpw := plan_inc hr h1
            obtain ⟨l', hl'⟩ := List.getLast?_eq_some_iff.1 hy
            rw [hl'] at hpw ha
            rcases List.mem_append.1 ha with h | h
            · have := (List.pairwise_append.1 hpw).2.2 _ h _ (List.mem_singleton.2 rfl)
              omega
            · simp at h; omega
          have hhs : s.hour ≤ u.hour := by
            rcases Nat.lt_or_ge an yn with h | h
            · have := chainT_lt hch h hs hu; omega
            · obtain rfl : an = yn := by omega
              rw [hs] at hu; cases hu; omega
          simp only [Bool.and_eq_true, decide_eq_true_eq]
          exact ⟨hax, by omega⟩
        refine ⟨(plan_snoc hr).2 ⟨h1, hc1, ⟨x0, x1⟩, hf⟩, fun z hz => ?_, by simp; omega⟩
        rcases List.mem_append.1 hz with h | h
        · exact (h2 z h).imp fun i hi => ⟨by omega, hi.2⟩
        · simp only [List.mem_singleton] at h; subst h; exact ⟨k, by omega, hx⟩
section
variable {o : Oper} {w : World} {t g j : Nat} {ρ : Operand → Value}
theorem run_fTides (hop : o.op = .fieldAddr 29 (.tmp t) 2) (hs : ρ (.tmp t) = .pointer (some ⟨g, 0, none⟩)) (hl : g < w.heap.size) : (execOp ρ o).run Tryz.prog w = .ok (.value (.pointer (some ⟨g, 4, none⟩))) w := by
  unfold execOp; simp [hop, hs, go_sem, hl]
theorem run_lTides {x : Value} (hop : o.op = .load 27 (.tmp t)) (hs : ρ (.tmp t) = .pointer (some ⟨g, j, none⟩)) (c0 : w.cell? ⟨g, j, none⟩ = some x) : (execOp ρ o).run Tryz.prog w = .ok (.value x) w := by
  unfold execOp; simp [hop, hs, go_sem, c0]
theorem run_lenTides {p : Option Addr} {n c : Nat} (hop : o.op = .call { callee := .builtin .len, args := #[.tmp t], argTypes := #[27] }) (hs : ρ (.tmp t) = .slice p n c) : (execOp ρ o).run Tryz.prog w = .ok (.value (.int .i64 n)) w := by
  unfold execOp; simp [hop, hs, go_sem, resolve, invoke]
theorem run_shl {s n : Nat} (hop : o.op = .binOp .shl 3 (.const (.int .i64 1)) (.tmp s) 3) (hs : ρ (.tmp s) = .int .i64 n) (hn : n ≤ 8) (hc : ρ (.const (.int .i64 1)) = .int .i64 1 := by rfl) :
    (execOp ρ o).run Tryz.prog w = .ok (.value (.int .i64 ((2 ^ n : Nat) : Int))) w := by
  unfold execOp
  rcases (show n = 0 ∨ n = 1 ∨ n = 2 ∨ n = 3 ∨ n = 4 ∨ n = 5 ∨ n = 6 ∨ n = 7 ∨ n = 8 by omega) with rfl | rfl | rfl | rfl | rfl | rfl | rfl | rfl | rfl <;> simp [hop, hs, hc, go_sem] <;> rfl
end
theorem Wheel_eq (n m r : Int) (w : World) (hm : 1 ≤ m ∧ m ≤ 1000000) (hr : n % m = r) : Calls Tryz.prog 45 #[.int .i64 n, .int .i64 m] w fun e w' => e = .returned (.int .i64 r) ∧ ∃ x, w' = ext w x := by
  subst hr; exact Wheel_any n m w hm.1 hm.2
def bitsR (n : Int) (gb : Nat) (ps : Option Addr) (ns cs z : Nat) (i : Nat) (u : Value) (w : World) : Prop :=
  match i with
  | 0 => u = .int .i64 n
  | 1 => u = .pointer (some ⟨gb, 4, none⟩)
  | 2 => u = .slice ps ns cs
  | 3 => u = .int .i64 ns
  | 4 => u = .int .i64 ((2 ^ ns : Nat) : Int)
  | 5 => u = .int .i64 z
  | 6 => u = .pointer (some ⟨gb, 4, none⟩)
  | 7 => u = .slice ps ns cs
  | 8 => u = .int .i64 ns
  | 9 => ∃ (p : Option Addr) (c : Nat), u = .slice p (bitsL z ns).length c ∧ IntsAt w p (bitsL z ns)
  | _ => True
theorem bitsR_kept (n : Int) (gb : Nat) (ps : Option Addr) (ns cs z : Nat) : ∀ (i : Nat), i < 10 → ∀ (u : Value) (w w' : World), bitsR n gb ps ns cs z i u w → Below w.heap.size w w' → bitsR n gb ps ns cs z i u w' := by
  intro i hi u w w' h hb
  rcases (show i = 0 ∨ i = 1 ∨ i = 2 ∨ i = 3 ∨ i = 4 ∨ i = 5 ∨ i = 6 ∨ i = 7 ∨ i = 8 ∨ i = 9 by omega) with hi0 | hi0 | hi0 | hi0 | hi0 | hi0 | hi0 | hi0 | hi0 | hi0
  all_goals subst hi0
  all_goals first
    | exact h
    | (obtain ⟨p, c, h1, h2⟩ := h; exact ⟨p, c, h1, h2.below hb⟩)
def DrawnPost (b : Tk) (L : List Int) (w : World) (e : Ending) (w' : World) : Prop := ∃ v, e = .returned v ∧ OwnInts w' w.heap.size v (drawT b L L.length) ∧ ∃ x, w' = ext w x
attribute [local go_sem] Oper.semAt_some frozen_alloc_lt
set_option maxRecDepth 100000 in
set_option maxHeartbeats 8000000 in
theorem drawn_any (b : Tk) (p : Tp) (n : Int) (z : Nat) (w : World) (hk : TB w b p) (hv : validB b = true) (hz : n % ((2 ^ b.ts.length : Nat) : Int) = (z : Int)) :
    Calls Tryz.prog 37 #[tv b p, .int .i64 n] w (DrawnPost b (bitsL z b.ts.length) w) := by
  obtain ⟨np, nc, tp, tc⟩ := p
  obtain ⟨⟨hn1, hn2⟩, hch, hlen, -, ⟨hm1, hm2⟩, ⟨hr1, hr2⟩⟩ := of_validB hv
  have h64 : 1 ≤ 2 ^ b.ts.length ∧ 2 ^ b.ts.length ≤ 64 := by
    refine ⟨Nat.one_le_two_pow, ?_⟩
    exact Nat.le_trans (Nat.pow_le_pow_right (by omega) hlen) (by decide)
  have hz2 : z < 256 := by
    have := Int.emod_lt_of_pos n (show (0 : Int) < ((2 ^ b.ts.length : Nat) : Int) by omega)
    omega
  have HZ := Lib.hid hz
  have HZ1 := Lib.hid (show (1 : Int) ≤ ((2 ^ b.ts.length : Nat) : Int) ∧ ((2 ^ b.ts.length : Nat) : Int) ≤ 1000000 by omega)
  have HZ2 := Lib.hid hz2
  have h8 : b.ts.length ≤ 8 := by omega
  have HL := Lib.hid (show LowsAt w tp b.ts from hk.ts)
  have HC := Lib.hid hch
  have HD := Lib.hid (drawT_plan (b := b) (L := bitsL z b.ts.length) hv (bitsL_rises _ _) (fun x hx => by obtain ⟨k, h1, -, rfl⟩ := mem_bitsL.1 hx; omega))
  have HX := Lib.hid (fun (x : Int) (hx : x ∈ bitsL z b.ts.length) => (mem_bitsL.1 hx : ∃ k : Nat, _))
  have HLE := bitsL_le z b.ts.length
  clear hk hv hz hz2 h64 hch
  unfold tv
  dsimp only
  go_enter Tryz.func37, Tryz.ntmps37
  go_upto_region 1 with fail
  generalize hW : w.alloc _ = W
  have hB : Below w.heap.size w W := by rw [← hW]; (exact belA)
  have kb : Blk W w.heap.size 29 #[.int .i64 b.q.lo, .int .i64 b.q.hi, .slice np b.q.ns.length nc, .int .i64 b.now, .slice tp b.ts.length tc, .int .i64 b.glo, .int .i64 b.ghi, .int .i64 b.most, .int .i64 b.rest] := by rw [← hW]; exact Blk.new rfl
  have HB := Lib.hid hB
  have Kb := Lib.hid kb
  clear hW hB kb
  refine wp_region_flow_back 10 69 (bitsR n w.heap.size tp b.ts.length tc z) (by kernel_rfl) (by kernel_rfl) rfl (bitsR_kept _ _ _ _ _ _) ?_ ?_
  · intro i hin a X h1 h2 h3 h4 h5 KK hKK
    rcases (show i = 0 ∨ i = 1 ∨ i = 2 ∨ i = 3 ∨ i = 4 ∨ i = 5 ∨ i = 6 ∨ i = 7 ∨ i = 8 ∨ i = 9 by omega) with hi0 | hi0 | hi0 | hi0 | hi0 | hi0 | hi0 | hi0 | hi0 | hi0
    · subst hi0
      exact st_move rfl rfl (wanted_none rfl) (h3 1 (by kernel_rfl)) (hKK _ _ rfl (Below.refl _ _))
    · subst hi0
      exact st_val rfl (wanted_none rfl) (run_fTides rfl (h3 2 (by kernel_rfl)) (Nat.lt_of_lt_of_le Kb.out.lt h5.size)) (hKK _ _ rfl (Below.refl _ _))
    · subst hi0
      exact st_val rfl (wanted_none rfl) (run_lTides rfl (h4 1 (by kernel_rfl)) (Blk.cell (Kb.out.bel h5) 4)) (hKK _ _ rfl (Below.refl _ _))
    · subst hi0
      exact st_val rfl (wanted_none rfl) (run_lenTides rfl (h4 2 (by kernel_rfl))) (hKK _ _ rfl (Below.refl _ _))
    · subst hi0
      exact st_val rfl (wanted_none rfl) (run_shl rfl (h4 3 (by kernel_rfl)) h8) (hKK _ _ rfl (Below.refl _ _))
    · subst hi0
      refine st_call rfl rfl (wanted_none rfl) (args2 (h4 0 (by kernel_rfl)) (h4 4 (by kernel_rfl))) (run_enter Tryz.func45 (by kernel_rfl) (by kernel_rfl) _) ?_
      refine (Wheel_eq n _ z _ HZ1.out HZ.out).mono ?_
      rintro e w1 ⟨rfl, y9, rfl⟩
      exact ⟨_, rfl, hKK _ _ rfl (below_ext _ _)⟩
    · subst hi0
      exact st_val rfl (wanted_none rfl) (run_fTides rfl (h3 2 (by kernel_rfl)) (Nat.lt_of_lt_of_le Kb.out.lt h5.size)) (hKK _ _ rfl (Below.refl _ _))
    · subst hi0
      exact st_val rfl (wanted_none rfl) (run_lTides rfl (h4 6 (by kernel_rfl)) (Blk.cell (Kb.out.bel h5) 4)) (hKK _ _ rfl (Below.refl _ _))
    · subst hi0
      exact st_val rfl (wanted_none rfl) (run_lenTides rfl (h4 7 (by kernel_rfl))) (hKK _ _ rfl (Below.refl _ _))
    · subst hi0
      refine st_call rfl rfl (wanted_none rfl) (args2 (h4 5 (by kernel_rfl)) (h4 8 (by kernel_rfl))) (run_enter Tryz.func87 (by kernel_rfl) (by kernel_rfl) _) ?_
      refine (Bits_eq z b.ts.length _ HZ2.out h8).mono ?_
      rintro e w1 ⟨p2, c2, rfl, hI2, y9, rfl⟩
      exact ⟨_, rfl, hKK _ _ ⟨p2, c2, rfl, hI2⟩ (below_ext _ _)⟩
  intro vs Z hvs hB6
  have v0 : vs 0 = _ := hvs 0 (by omega)
  have v1 : vs 1 = _ := hvs 1 (by omega)
  have v2 : vs 2 = _ := hvs 2 (by omega)
  have v3 : vs 3 = _ := hvs 3 (by omega)
  have v4 : vs 4 = _ := hvs 4 (by omega)
  have v5 : vs 5 = _ := hvs 5 (by omega)
  have v6 : vs 6 = _ := hvs 6 (by omega)
  have v7 : vs 7 = _ := hvs 7 (by omega)
  have v8 : vs 8 = _ := hvs 8 (by omega)
  obtain ⟨p2, c2, v9, hI2⟩ := hvs 9 (by omega)
  obtain ⟨L, hL⟩ : ∃ L, bitsL z b.ts.length = L := ⟨_, rfl⟩
  rw [hL] at v9 hI2 HD HX HLE ⊢
  obtain ⟨m2, hm2⟩ : ∃ m2, L.length = m2 := ⟨_, rfl⟩
  rw [hm2] at v9 HLE
  simp only [putAll, v0, v1, v2, v3, v4, v5, v6, v7, v8, v9]
  clear v0 v1 v2 v3 v4 v5 v6 v7 v8 v9 hvs
  simp only [dstOf, Act.put, List.getElem?_toArray, List.getElem?_cons_zero, List.getElem?_cons_succ, Option.bind_some, Option.getD_some, List.setIfInBounds_toArray, List.set_cons_succ, List.set_cons_zero, List.drop_succ_cons, List.drop_zero]
  have HI2 := Lib.hid hI2
  have HM2 := Lib.hid hm2
  have HBZ := Lib.hid (HB.out.trans (hB6.mono HB.out.size))
  have KZ := Lib.hid (Kb.out.bel hB6)
  have HLZ := Lib.hid (HL.out.below HBZ.out)
  clear HZ HZ1 HZ2
  generalize ((2 ^ b.ts.length : Nat) : Int) = N2
  have HLL := Lib.hid hL
  clear hI2 hm2 hB6 HB Kb HL hL
  go_upto_region 4 with fail
  generalize hW : Z.alloc _ = W
  have hWB : Below Z.heap.size Z W := by rw [← hW]; (exact belA)
  have ho : OwnInts W Z.heap.size (.slice (some ⟨Z.heap.size, 0, none⟩) 0 0) [] := by rw [← hW]; exact OwnInts.of_blk (Blk.new rfl) rfl rfl (by simp)
  have HW := Lib.hid hWB
  have HO0 := Lib.hid ho
  clear hW hWB ho
  go_loopw [6, 7] (fun v i wr => ∃ k : Nat, k ≤ m2 ∧ i = .int .i64 k ∧ Hid (OwnInts wr Z.heap.size v (drawT b L k)) ∧ Hid (Below Z.heap.size Z wr)) (fun _ i _ => m2 - (intOf i).toNat)
  case atStart => exact ⟨0, by omega, rfl, HO0, HW⟩
  case round =>
    clear HO0 HW
    obtain ⟨k, hk, rfl, HO, HBR⟩ := hrel
    have hzr0 : Z.heap.size ≤ wr.heap.size := HBR.out.size
    by_cases hlt : k < m2
    · obtain ⟨x, hx⟩ := get_some L k (by rw [HM2.out]; exact hlt)
      obtain ⟨xn, hxn, -, rfl⟩ := HX.out x (List.mem_of_getElem? hx)
      obtain ⟨hD1, hD2, hD3⟩ := HD.out k
      obtain ⟨pl, hpl⟩ : ∃ pl, drawT b L k = pl := ⟨_, rfl⟩
      rw [hpl] at hD1 hD2 hD3 HO
      have HPL := Lib.hid hpl
      obtain ⟨g2, o2, rfl, hg2, q2⟩ := (HI2.out.below HBR.out) k _ hx
      have kb := KZ.out.bel HBR.out
      obtain ⟨d0, d1, d2, d3, d4, d5, d6, d7, d8⟩ := Blk.c9 kb
      have lb := kb.lt
      obtain ⟨s, hs⟩ := get_some b.ts xn hxn
      obtain ⟨bb, o, rfl, hbb, e1, -, -⟩ := (HLZ.out.below HBR.out) xn s hs
      have hsh := (chainT_get2 HC.out hs)
      obtain ⟨pp, cc, rfl, hIp, -⟩ := HO.out.at
      obtain ⟨n, hn⟩ : ∃ n, pl.length = n := ⟨_, rfl⟩
      rw [hn] at HO hD3
      rw [hn]
      have HN := Lib.hid hn
      have HS := Lib.hid hs
      have hn6 : pl.length ≤ 8 := by omega
      have k0 : (0 : Int) ≤ (k : Int) := by omega
      have k1 : (k : Int) < (m2 : Int) := by omega
      have x0 : (0 : Int) ≤ (xn : Int) := by omega
      have x1 : (xn : Int) < (b.ts.length : Int) := by omega
      clear kb hpl hs
      by_cases hmost : (n : Int) < b.most
      · have hd0 : decide ((n : Int) < b.most) = true := by simpa using hmost
        cases hlast : pl.getLast? with
        | none =>
          have hpe : pl = [] := List.getLast?_eq_none_iff.1 hlast
          have hn0 : n = 0 := by rw [← hn, hpe]; rfl
          have HCAN := Lib.hid (show canT b pl xn = true by unfold canT; rw [hlast, HN.out]; simpa using hmost)
          have hne : decide ((n : Int) = 0) = true := by simp; omega
          have hne2 : ((n : Int) == 0) = true := by simp; omega
          clear hlast hpe hn0 hn
          go_upto_region 6 with fail
          refine wp_region_ext (by kernel_rfl) (by kernel_rfl) ?_
          repeat (go_big_quiet_step (fail))
          (refine wpQuiet_nil ?_; rintro _ ⟨x, rfl⟩)
          clear d0 d1 d2 d3 d4 d5 d6 d7 d8 lb q2 e1
          generalize hWE : ext wr _ = W1
          have HB1 := Lib.hid (show Below Z.heap.size Z W1 by rw [← hWE]; exact HBR.out.trans ((below_ext _ _).mono HBR.out.size))
          have HO1 := Lib.hid (show OwnInts W1 Z.heap.size (.slice pp n cc) pl by rw [← hWE]; exact HO.out.below (below_ext _ _))
          clear hWE HO HBR
          have hzr : Z.heap.size ≤ W1.heap.size := HB1.out.size
          obtain ⟨_, _, eq2, hg2', q2⟩ := (HI2.out.below HB1.out) k _ hx
          cases eq2
          go_wp2_with (at_builtin; refine wpList_append_int rfl _ _ rfl Z.heap.size _ _ rfl (HO1.out.below ((Below.refl _ _).alloc (Nat.le_refl _) _)) W1.heap.size (xn : Int) rfl (by simp [go_sem]) (by omega) (by ((try dsimp only); repeat (first | omega | simp only [World.size_alloc, World.size_setCell, World.size_drew] | (with_reducible refine le_ext_of ?_) | (with_reducible refine le_ext_add ?_)))) ?_; intro v' w1 ho hg)
          have HO2 := Lib.hid ho
          have hB2 : Below Z.heap.size Z w1 := by
            have hB := HB1.out
            refine Below.grown (w := W1.alloc (.cells #[.int .i64 (xn : Int)] 3)) belA hg (by ((try dsimp only); repeat (first | omega | simp only [World.size_alloc, World.size_setCell, World.size_drew] | (with_reducible refine le_ext_of ?_) | (with_reducible refine le_ext_add ?_)))) ?_
            intro j hj
            exact (HO1.out.lt j hj).1
          have HB2 := Lib.hid hB2
          clear ho hg hB2
          go_wp2_with fail
          go_roundw
          case rel => exact ⟨k + 1, by omega, by go_num, Lib.hid (by rw [drawT_yes hx (by rw [HPL.out]; exact HCAN.out), HPL.out]; exact HO2.out), HB2⟩
          case measure => simp [intOf]; omega
        | some y =>
          obtain ⟨l', hl'⟩ := List.getLast?_eq_some_iff.1 hlast
          obtain ⟨i, hi, hie⟩ := hD2 y (List.mem_of_getLast? hlast)
          obtain ⟨yn, hyn, -, rfl⟩ := HX.out y (List.mem_of_getElem? hie)
          obtain ⟨u, hu⟩ := get_some b.ts yn hyn
          obtain ⟨_, _, eu, -, f1, -, -⟩ := (HLZ.out.below HBR.out) yn u hu
          cases eu
          have huh := (chainT_get2 HC.out hu)
          obtain ⟨j, hj⟩ : ∃ j, l'.length = j := ⟨_, rfl⟩
          have hnj : n = j + 1 := by rw [← hn, hl', ← hj]; simp
          obtain ⟨gp, op, rfl, hgp, q3⟩ := hIp j (yn : Int) (by rw [hl', ← hj]; simp)
          have w1 : IntKind.i64.wrap ((n : Int) - 1) = (j : Int) := by rw [IntWalk.i64_in _ (by omega)]; omega
          have w2 : wrap64 ((n : Int) - 1) = (j : Int) := by unfold wrap64; omega
          have w3 : IntKind.i64.wrap (u.hour + b.rest) = u.hour + b.rest := IntWalk.i64_in _ (by omega)
          have w4 : wrap64 (u.hour + b.rest) = u.hour + b.rest := by unfold wrap64; omega
          have j0 : (0 : Int) ≤ (j : Int) := by omega
          have j1 : (j : Int) < (n : Int) := by omega
          have y0 : (0 : Int) ≤ (yn : Int) := by omega
          have y1 : (yn : Int) < (b.ts.length : Int) := by omega
          have hne : decide ((n : Int) = 0) = false := by simp; omega
          have hne2 : ((n : Int) == 0) = false := by simp; omega
          by_cases hfol : u.hour + b.rest ≤ s.hour
          · have hd1 : decide (u.hour + b.rest ≤ s.hour) = true := by simpa using hfol
            have hd2 : decide (s.hour ≥ u.hour + b.rest) = true := by simpa using hfol
            have HCAN := Lib.hid (show canT b pl xn = true by unfold canT; rw [hlast, HN.out]; dsimp only; rw [hourT_at hu, hourT_at HS.out, hd1]; simpa using hmost)
            clear hlast hl' hie hu hsh huh hnj
            go_upto_region 6 with fail
            refine wp_region_ext (by kernel_rfl) (by kernel_rfl) ?_
            repeat (go_big_quiet_step (fail))
            (refine wpQuiet_nil ?_; rintro _ ⟨x, rfl⟩)
            clear f1 q3 w1 w2 w3 w4 d0 d1 d2 d3 d4 d5 d6 d7 d8 lb q2 e1
            generalize hWE : ext wr _ = W1
            have HB1 := Lib.hid (show Below Z.heap.size Z W1 by rw [← hWE]; exact HBR.out.trans ((below_ext _ _).mono HBR.out.size))
            have HO1 := Lib.hid (show OwnInts W1 Z.heap.size (.slice (some ⟨gp, op, none⟩) n cc) pl by rw [← hWE]; exact HO.out.below (below_ext _ _))
            clear hWE HO HBR
            have hzr : Z.heap.size ≤ W1.heap.size := HB1.out.size
            obtain ⟨_, _, eq2, hg2', q2⟩ := (HI2.out.below HB1.out) k _ hx
            cases eq2
            go_wp2_with (at_builtin; refine wpList_append_int rfl _ _ rfl Z.heap.size _ _ rfl (HO1.out.below ((Below.refl _ _).alloc (Nat.le_refl _) _)) W1.heap.size (xn : Int) rfl (by simp [go_sem]) (by omega) (by ((try dsimp only); repeat (first | omega | simp only [World.size_alloc, World.size_setCell, World.size_drew] | (with_reducible refine le_ext_of ?_) | (with_reducible refine le_ext_add ?_)))) ?_; intro v' w1 ho hg)
            have HO2 := Lib.hid ho
            have hB2 : Below Z.heap.size Z w1 := by
              have hB := HB1.out
              refine Below.grown (w := W1.alloc (.cells #[.int .i64 (xn : Int)] 3)) belA hg (by ((try dsimp only); repeat (first | omega | simp only [World.size_alloc, World.size_setCell, World.size_drew] | (with_reducible refine le_ext_of ?_) | (with_reducible refine le_ext_add ?_)))) ?_
              intro j hj
              exact (HO1.out.lt j hj).1
            have HB2 := Lib.hid hB2
            clear ho hg hB2
            go_wp2_with fail
            go_roundw
            case rel => exact ⟨k + 1, by omega, by go_num, Lib.hid (by rw [drawT_yes hx (by rw [HPL.out]; exact HCAN.out), HPL.out]; exact HO2.out), HB2⟩
            case measure => simp [intOf]; omega
          · have hd1 : decide (u.hour + b.rest ≤ s.hour) = false := by simpa using hfol
            have hd2 : decide (s.hour ≥ u.hour + b.rest) = false := by simpa using hfol
            have HCAN := Lib.hid (show canT b pl xn = false by unfold canT; rw [hlast, HN.out]; dsimp only; rw [hourT_at hu, hourT_at HS.out, hd1]; simp)
            clear hlast hl' hie hu hsh huh hnj
            go_upto_region 6 with fail
            refine wp_region_ext (by kernel_rfl) (by kernel_rfl) ?_
            repeat (go_big_quiet_step (fail))
            (refine wpQuiet_nil ?_; rintro _ ⟨x, rfl⟩)
            clear f1 q3 w1 w2 w3 w4 d0 d1 d2 d3 d4 d5 d6 d7 d8 lb q2 e1
            generalize hWE : ext wr _ = W1
            have HB1 := Lib.hid (show Below Z.heap.size Z W1 by rw [← hWE]; exact HBR.out.trans ((below_ext _ _).mono HBR.out.size))
            have HO1 := Lib.hid (show OwnInts W1 Z.heap.size (.slice (some ⟨gp, op, none⟩) n cc) pl by rw [← hWE]; exact HO.out.below (below_ext _ _))
            clear hWE HO HBR
            have hzr : Z.heap.size ≤ W1.heap.size := HB1.out.size
            go_wp2_with fail
            go_roundw
            case rel => exact ⟨k + 1, by omega, by go_num, Lib.hid (by rw [drawT_no hx (by rw [HPL.out]; exact HCAN.out), HPL.out]; exact HO1.out), HB1⟩
            case measure => simp [intOf]; omega
      · have hd0 : decide ((n : Int) < b.most) = false := by simpa using hmost
        have HCAN := Lib.hid (show canT b pl xn = false by unfold canT; rw [HN.out, hd0]; rfl)
        go_upto_region 6 with fail
        refine wp_region_ext (by kernel_rfl) (by kernel_rfl) ?_
        repeat (go_big_quiet_step (fail))
        (refine wpQuiet_nil ?_; rintro _ ⟨x, rfl⟩)
        clear d0 d1 d2 d3 d4 d5 d6 d7 d8 lb q2 e1
        generalize hWE : ext wr _ = W1
        have HB1 := Lib.hid (show Below Z.heap.size Z W1 by rw [← hWE]; exact HBR.out.trans ((below_ext _ _).mono HBR.out.size))
        have HO1 := Lib.hid (show OwnInts W1 Z.heap.size (.slice pp n cc) pl by rw [← hWE]; exact HO.out.below (below_ext _ _))
        clear hWE HO HBR
        have hzr : Z.heap.size ≤ W1.heap.size := HB1.out.size
        go_wp2_with fail
        go_roundw
        case rel => exact ⟨k + 1, by omega, by go_num, Lib.hid (by rw [drawT_no hx (by rw [HPL.out]; exact HCAN.out), HPL.out]; exact HO1.out), HB1⟩
        case measure => simp [intOf]; omega
    · obtain rfl : k = m2 := by omega
      go_wp2_with fail
      go_ret
      refine ⟨_, rfl, ?_, ext_of (HBZ.out.trans (HBR.out.mono HBZ.out.size))⟩
      try rw [HLL.out]
      rw [HM2.out]
      exact HO.out.mono HBZ.out.size
end Go.Proofs.YtcaeohgbgeadaaaGreatDoor

