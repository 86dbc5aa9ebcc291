/- huerref00: lists of numbers; an append to numbers of a call's own. Cut out of Jk by gen_cutT.py. -/
/- huerref00 for tide: Pick, Place, Rises, Bit, Bits, Some. (Cut off from Ee.) -/
import Derived.Test.YtcaeohgbgeadaaaGreatDoorQPw
import Derived.OwnWalk
import Derived.OwnWalkIn
set_option linter.unusedSimpArgs false
set_option linter.unusedVariables false
namespace Go.Proofs.YtcaeohgbgeadaaaGreatDoor
open Go Go.RowKit
def OwnInts (w : World) (B : Nat) (v : Value) (l : List Int) : Prop := w.ownsRow B 3 1 v l.length (l.map (Value.int .i64))
theorem OwnInts.nil (w : World) (B : Nat) : OwnInts w B (.slice none 0 0) [] := World.ownsRow_nil _ _ _ _
theorem wpList_append_int {ops : Array Oper} {rest : List Oper} {o : Oper} {a : Act} {Q : Exit → Act → World → Prop} {w : World} (hgd : o.guard = none) (s x : Operand)
    (ho : o.op = .call { callee := .builtin .append, args := #[s, x], argTypes := #[30, 30] }) (B : Nat)
    (v : Value) (l : List Int) (hs : a.eval s = v) (hown : OwnInts w B v l) (g : Nat) (y : Int) (hx : a.eval x = .slice (some ⟨g, 0, none⟩) 1 1) (hc : w.cell? ⟨g, 0, none⟩ = some (.int .i64 y))
    (hl : l.length ≤ 100000) (hB : B ≤ w.heap.size)
    (h : ∀ v' w', OwnInts w' B v' (l ++ [y]) → w.grownBy w' v.ownBlock → wpList Tryz.prog ops Q rest (a.put o.dst v') w') : wpList Tryz.prog ops Q (o :: rest) a w := by
  obtain ⟨i0, hi, hz0, hz1, hz2⟩ := info_parts info_numT
  refine wpList_append_own w hgd s x 30 ho B 3 i0 (.int .i64 0) 1 8 under_numsT hi hz0 hz1 hz2 rfl (by decide) v l.length _ hs hown ⟨g, 0, none⟩ 1 1 [.int .i64 y] hx rfl ?_ ?_ ?_ ?_ hB ?_
  · intro j u hj
    match j, hj with
    | 0, hj => simp at hj; subst hj; simpa [Addr.add] using hc
  · intro u hu; simp at hu; subst hu; rfl
  · unfold maxLen; omega
  · omega
  · intro v' w' h1 h2 _
    refine h v' w' ?_ h2
    unfold OwnInts
    simpa using h1

theorem OwnInts.of_blk {w : World} {g : Nat} {l : List Int} {n : Nat} {cs : Array Value} (h : Blk w g 3 cs) (hn : n = l.length) (hc : cs = (l.map (Value.int .i64)).toArray) (hl : l.length ≤ 100000) : OwnInts w g (.slice (some ⟨g, 0, none⟩) n n) l := by
  subst hn hc
  refine ⟨by simp, .inr ⟨g, l.length, _, rfl, Nat.le_refl _, h, Nat.le_refl _, by unfold maxLen; omega, by simp, ?_⟩⟩
  rw [List.take_of_length_le (by simp)]
theorem OwnInts.kept {w w' : World} {B : Nat} {v : Value} {l : List Int} (h : OwnInts w B v l) (hb : ∀ g, v.ownBlock = some g → w'.heap[g]? = w.heap[g]?) : OwnInts w' B v l := by
  obtain ⟨h1, h2⟩ := h
  refine ⟨h1, ?_⟩
  rcases h2 with h2 | ⟨g, cap, cur, rfl, hg, hh, r⟩
  · exact .inl h2
  · exact .inr ⟨g, cap, cur, rfl, hg, (hb g rfl).trans hh, r⟩
theorem OwnInts.lt {w : World} {B : Nat} {v : Value} {l : List Int} (h : OwnInts w B v l) : ∀ g, v.ownBlock = some g → B ≤ g ∧ g < w.heap.size := World.ownsRow.lt h
theorem OwnInts.below {w w' : World} {B : Nat} {v : Value} {l : List Int} (h : OwnInts w B v l) (hb : Below w.heap.size w w') : OwnInts w' B v l := h.kept (fun g hg => hb.block g (h.lt g hg).2)
theorem OwnInts.at {w : World} {B : Nat} {v : Value} {l : List Int} (h : OwnInts w B v l) : ∃ p c, v = .slice p l.length c ∧ IntsAt w p l ∧ ∀ g o, p = some ⟨g, o, none⟩ → B ≤ g := by
  obtain ⟨h1, h2⟩ := h
  rcases h2 with ⟨h2, h3⟩ | ⟨g, cap, cur, rfl, hg, hh, hn, hm, hs, ht⟩
  · refine ⟨none, 0, by rw [h2, h3], fun i x hx => ?_, fun g o h => by cases h⟩
    have := (List.getElem?_eq_some_iff.1 hx).1
    omega
  · refine ⟨_, cap, rfl, fun i x hx => ⟨g, 0, rfl, (Array.getElem?_eq_some_iff.1 hh).1, ?_⟩, fun g' o e => by cases e; exact hg⟩
    have hi := (List.getElem?_eq_some_iff.1 hx).1
    have h4 := World.ownsRow.cellAt (w := w) (base := B) (e := 3) (size := 1) (g := g) (cap := cap) (n := l.length) (xs := l.map (Value.int .i64)) ⟨h1, .inr ⟨g, cap, cur, rfl, hg, hh, hn, hm, hs, ht⟩⟩ i (by omega)
    rw [Nat.zero_add, h4]
    simp [hx]
end Go.Proofs.YtcaeohgbgeadaaaGreatDoor

namespace Go.Proofs.YtcaeohgbgeadaaaGreatDoor
open Go Go.RowKit Go.Shelf
def risesB (below : Int) : Int → List Int → Bool
  | _, [] => true
  | y, x :: l => decide (y ≤ x) && decide (x < below) && risesB below (x + 1) l
theorem risesB_of {below : Int} : ∀ (l : List Int) (y : Int), (∀ x ∈ l, y ≤ x ∧ x < below) → l.Pairwise (· < ·) → risesB below y l = true
  | [], _, _, _ => rfl
  | x :: l, y, h, hp => by
    rw [List.pairwise_cons] at hp
    simp only [risesB, Bool.and_eq_true, decide_eq_true_eq]
    exact ⟨h x (by simp), risesB_of l (x + 1) (fun z hz => ⟨by have := hp.1 z hz; omega, (h z (by simp [hz])).2⟩) hp.2⟩

/-- The number of a list to which any number leads. -/
def pickI (l : List Int) (n : Int) : Int := if l.length < 1 then 0 else l.getD (n % (l.length : Int)).toNat 0
set_option maxHeartbeats 400000 in
theorem Wheel_big (n m : Int) (w : World) (hm : 1 ≤ m) (hm2 : m ≤ 9223372036854775807) : Calls Tryz.prog 45 #[.int .i64 n, .int .i64 m] w fun e w' => e = .returned (.int .i64 (n % m)) ∧ ∃ x, w' = ext w x := by
  by_cases h2 : m < 2
  · obtain rfl : m = 1 := by omega
    have H := Lib.hid (Int.emod_one n)
    clear hm hm2 h2
    go_enter Tryz.func45, Tryz.ntmps45
    go_wp2
    go_ret
    exact ⟨ret_int (by rw [H.out]), ext_of (Below.refl _ _)⟩
  · obtain ⟨H1, H2, H3, H4⟩ := tmod_cases n m (by omega)
    have H1 := Lib.hid H1
    have H2 := Lib.hid H2
    have h0 : ¬ m = 0 := by omega
    by_cases h : n.tmod m < 0
    all_goals
      go_enter Tryz.func45, Tryz.ntmps45
      go_wp2
      go_ret
      first
        | exact ⟨rfl, ext_of (Below.refl _ _)⟩
        | exact ⟨ret_int (H2.out (by assumption)), ext_of (Below.refl _ _)⟩
set_option maxHeartbeats 1000000 in
theorem Pick_any (p : Option Addr) (c : Nat) (l : List Int) (n : Int) (w : World) (hl : IntsAt w p l) (hb : (l.length : Int) ≤ 9223372036854775807) :
    Calls Tryz.prog 86 #[.slice p l.length c, .int .i64 n] w fun e w' => e = .returned (.int .i64 (pickI l n)) ∧ ∃ x, w' = ext w x := by
  by_cases h1 : (l.length : Int) < 1
  · have H := Lib.hid (show pickI l n = 0 by unfold pickI; rw [if_pos (by omega)])
    go_enter Tryz.func86, Tryz.ntmps86
    go_wp2_with fail
    go_ret
    exact ⟨ret_int (by rw [H.out]), ext_of (Below.refl _ _)⟩
  · have hi0 := Int.emod_nonneg n (show (l.length : Int) ≠ 0 by omega)
    have hi1 := Int.emod_lt_of_pos n (show 0 < (l.length : Int) by omega)
    obtain ⟨i, ei⟩ := Int.eq_ofNat_of_zero_le hi0
    obtain ⟨x, hx⟩ := get_some l i (by omega)
    obtain ⟨b, o, rfl, hb1, c1⟩ := hl i x hx
    have H := Lib.hid (show pickI l n = x by unfold pickI; rw [if_neg (by omega), ei, List.getD_eq_getElem?_getD]; simp [hx])
    have EI := Lib.hid ei
    have i0 : (0 : Int) ≤ (i : Int) := by omega
    have i1 : (i : Int) < (l.length : Int) := by omega
    have l1 : 1 ≤ (l.length : Int) := by omega
    clear hi0 hi1 ei hx
    go_enter Tryz.func86, Tryz.ntmps86
    go_wp2_with (go_at_call 45; refine (Wheel_big n _ _ l1 hb).mono ?_; rintro e w1 ⟨rfl, y, rfl⟩; rw [EI.out])
    go_ret
    exact ⟨ret_int (by rw [H.out]), by (exact ext_of (by (exact belA)))⟩
/-- The first place of a number in a list that has it. -/
def AtPlace (l : List Int) (x : Int) (w : World) (e : Ending) (w' : World) : Prop := ∃ k : Nat, l[k]? = some x ∧ e = .returned (.int .i64 k) ∧ w = w'
set_option maxHeartbeats 1000000 in
theorem Place_yes (p : Option Addr) (c : Nat) (l : List Int) (x : Int) (w : World) (hl : IntsAt w p l) (hb : (l.length : Int) ≤ 1000) (hx : x ∈ l) :
    Calls Tryz.prog 47 #[.slice p l.length c, .int .i64 x] w (AtPlace l x w) := by
  have H0 : Hid (x ∈ l.drop 0) := Lib.hid hx
  clear hx
  go_enter Tryz.func47, Tryz.ntmps47
  go_wp2_with fail
  go_loop [5] (fun i => ∃ k : Nat, k ≤ l.length ∧ i = .int .i64 k ∧ Hid (x ∈ l.drop k)) (fun i => l.length - (intOf i).toNat)
  case atStart => exact ⟨0, by omega, rfl, H0⟩
  case round =>
    clear H0
    obtain ⟨k, hk, rfl, H⟩ := hrel
    by_cases hlt : k < l.length
    · obtain ⟨y, hy⟩ := get_some l k hlt
      obtain ⟨b1, o1, rfl, hb1, c1⟩ := hl k y hy
      by_cases hxy : y = x
      · subst hxy
        have HY := Lib.hid hy
        clear hy H
        go_wp2_with fail
        go_ret
        exact ⟨k, HY.out, rfl, rfl⟩
      · have H2 := Lib.hid (show x ∈ l.drop (k + 1) by
          have := H.out
          rw [drop_of_get hy] at this
          rcases List.mem_cons.1 this with h | h
          · exact absurd h.symm hxy
          · exact h)
        have hyx : (y == x) = false := by simpa using hxy
        clear hy H hxy
        go_wp2_with fail
        go_round
        case rel => exact ⟨k + 1, by omega, by go_num, H2⟩
        case measure => simp [intOf]; omega
    · exact absurd H.out (by rw [List.drop_eq_nil_of_le (by omega)]; simp)
set_option maxHeartbeats 1000000 in
theorem Place_no (p : Option Addr) (c : Nat) (l : List Int) (x : Int) (w : World) (hl : IntsAt w p l) (hb : (l.length : Int) ≤ 1000) (hx : x ∉ l) :
    Calls Tryz.prog 47 #[.slice p l.length c, .int .i64 x] w fun e w' => e = .returned (.int .i64 (-1)) ∧ w = w' := by
  have H0 := Lib.hid hx
  clear hx
  go_enter Tryz.func47, Tryz.ntmps47
  go_wp2_with fail
  go_loop [5] (fun i => ∃ k : Nat, k ≤ l.length ∧ i = .int .i64 k) (fun i => l.length - (intOf i).toNat)
  case atStart => exact ⟨0, by omega, rfl⟩
  case round =>
    obtain ⟨k, hk, rfl⟩ := hrel
    by_cases hlt : k < l.length
    · obtain ⟨y, hy⟩ := get_some l k hlt
      obtain ⟨b1, o1, rfl, hb1, c1⟩ := hl k y hy
      have hxy : (y == x) = false := by
        cases hc : (y == x) with
        | false => rfl
        | true => exact absurd (by rw [← eq_of_beq hc]; exact List.mem_of_getElem? hy) H0.out
      clear hy
      go_wp2_with fail
      go_round
      case rel => exact ⟨k + 1, by omega, by go_num⟩
      case measure => simp [intOf]; omega
    · go_wp2_with fail
      go_ret
      exact ⟨rfl, rfl⟩
theorem Place_none (p : Option Addr) (c : Nat) (l : List Int) (n : Nat) (x : Int) (w : World) (hl : IntsAt w p l) (hb : (l.length : Int) ≤ 1000) (hx : x ∉ l) (hn : l.length = n) :
    Calls Tryz.prog 47 #[.slice p n c, .int .i64 x] w fun e w' => e = .returned (.int .i64 (-1)) ∧ w = w' := by
  subst hn; exact Place_no p c l x w hl hb hx
set_option maxHeartbeats 1000000 in
theorem Rises_yes (p : Option Addr) (c : Nat) (l : List Int) (below : Int) (w : World) (hl : IntsAt w p l) (hb : (l.length : Int) ≤ 1000) (h1 : 0 ≤ below) (h2 : below ≤ 100000) (hr : risesB below 0 l = true) :
    Calls Tryz.prog 38 #[.slice p l.length c, .int .i64 below] w fun e w' => e = .returned (.bool true) ∧ w = w' := by
  have H0 := Lib.hid hr
  clear hr
  go_enter Tryz.func38, Tryz.ntmps38
  go_wp2_with fail
  go_loop [5, 6] (fun y i => ∃ (k : Nat) (z : Int), k ≤ l.length ∧ 0 ≤ z ∧ z ≤ 100001 ∧ i = .int .i64 k ∧ y = .int .i64 z ∧ Hid (risesB below z (l.drop k) = true)) (fun _ i => l.length - (intOf i).toNat)
  case atStart => exact ⟨0, 0, by omega, by omega, by omega, rfl, rfl, H0⟩
  case round =>
    clear H0
    obtain ⟨k, z, hk, z0, z1, rfl, rfl, H⟩ := hrel
    by_cases hlt : k < l.length
    · obtain ⟨x, hx⟩ := get_some l k hlt
      obtain ⟨b1, o1, rfl, hb1, c1⟩ := hl k x hx
      have h3 := H.out
      rw [drop_of_get hx] at h3
      simp only [risesB, Bool.and_eq_true, decide_eq_true_eq] at h3
      obtain ⟨⟨h4, h5⟩, h6⟩ := h3
      have H2 := Lib.hid h6
      have h7 : x ≤ below - 1 := by omega
      clear h6 H hx
      go_wp2_with (go_at_call 50; refine (Between_yes _ _ _ _ (by assumption) (by assumption)).mono ?_; rintro e w' ⟨rfl, rfl⟩)
      go_round
      case rel => exact ⟨k + 1, x + 1, by omega, by omega, by omega, by go_num, rfl, H2⟩
      case measure => simp [intOf]; omega
    · go_wp2_with fail
      go_ret
      exact ⟨rfl, rfl⟩
set_option maxHeartbeats 1000000 in
theorem Bit_any (s n : Nat) (w : World) (hs : s < 256) (hn : n < 8) : Calls Tryz.prog 42 #[.int .i64 s, .int .i64 n] w fun e w' => ∃ q, e = .returned (.bool q) ∧ w = w' := by
  have n0 : (0 : Int) ≤ (n : Int) := by omega
  have n1 : (n : Int) < 64 := by omega
  go_enter Tryz.func42, Tryz.ntmps42
  go_wp2
  go_ret
  exact ⟨_, rfl, rfl⟩

/-- A list of numbers, in order, in memory of its own. -/
def RisesPost (w : World) (m : Nat) (e : Ending) (w' : World) : Prop := ∃ (L : List Int) (p : Option Addr) (c : Nat), e = .returned (.slice p L.length c) ∧ IntsAt w' p L ∧ L.Pairwise (· < ·) ∧ (∀ x ∈ L, 0 ≤ x ∧ x < (m : Int)) ∧ L.length ≤ m ∧ ∃ x, w' = ext w x
set_option maxHeartbeats 4000000 in
theorem Bits_any (s m : Nat) (w : World) (hs : s < 256) (hm : m ≤ 8) : Calls Tryz.prog 87 #[.int .i64 s, .int .i64 m] w (RisesPost w m) := by
  go_enter Tryz.func87, Tryz.ntmps87
  go_wp2_with fail
  generalize hW : w.alloc _ = W
  have hWB : Below w.heap.size w W := by rw [← hW]; (exact belA)
  have ho : OwnInts W w.heap.size (.slice (some ⟨w.heap.size, 0, none⟩) 0 0) [] := by rw [← hW]; exact OwnInts.of_blk (Blk.new rfl) rfl rfl (by simp)
  have HW := Lib.hid hWB
  have HO0 := Lib.hid ho
  have hWs : w.heap.size ≤ W.heap.size := hWB.size
  clear hW hWB ho
  go_loopw [5, 6] (fun v i wr => ∃ (k : Nat) (L : List Int), k ≤ m ∧ i = .int .i64 k ∧ L.length ≤ k ∧ Hid (OwnInts wr w.heap.size v L) ∧ Hid (L.Pairwise (· < ·)) ∧ Hid (∀ x ∈ L, 0 ≤ x ∧ x < (k : Int)) ∧ Hid (Below w.heap.size w wr)) (fun _ i _ => m - (intOf i).toNat)
  case atStart => exact ⟨0, [], by omega, rfl, by simp, HO0, Lib.hid List.Pairwise.nil, Lib.hid (by simp), HW⟩
  case round =>
    obtain ⟨k, L, hk, rfl, hl, HO, HP, HX, HB⟩ := hrel
    have hzr : w.heap.size ≤ wr.heap.size := HB.out.size
    by_cases hlt : k < m
    · go_upto_if 15 with (go_at_call 42; refine (Bit_any s k _ hs (by omega)).mono ?_; rintro e w1 ⟨q, rfl, rfl⟩)
      cases q with
      | true =>
        go_wp2_with (at_builtin; refine wpList_append_int rfl _ _ rfl w.heap.size _ _ rfl (HO.out.below ((Below.refl _ _).alloc (Nat.le_refl _) _)) wr.heap.size (k : Int) rfl (by simp [go_sem]) (by omega) (by ((try dsimp only); repeat (first | omega | simp only [World.size_alloc, World.size_setCell, World.size_drew] | (with_reducible refine le_ext_of ?_) | (with_reducible refine le_ext_add ?_)))) ?_; intro v' w1 ho hg)
        have HO' := Lib.hid ho
        have hB2 : Below w.heap.size w w1 := by
          have hB := HB.out
          refine Below.grown (w := wr.alloc (.cells #[.int .i64 (k : Int)] 3)) belA hg (by ((try dsimp only); repeat (first | omega | simp only [World.size_alloc, World.size_setCell, World.size_drew] | (with_reducible refine le_ext_of ?_) | (with_reducible refine le_ext_add ?_)))) ?_
          intro j hj
          exact (HO.out.lt j hj).1
        have HB2 := Lib.hid hB2
        clear ho hg hB2
        go_wp2_with fail
        go_roundw
        case rel => exact ⟨k + 1, L ++ [(k : Int)], by omega, by go_num, by simp; omega, HO', Lib.hid (List.pairwise_append.2 ⟨HP.out, by simp, fun a ha c hc => by simp at hc; subst hc; exact (HX.out a ha).2⟩), Lib.hid (fun x hx => by
          rcases List.mem_append.1 hx with h | h
          · have := HX.out x h; omega
          · simp at h; omega), HB2⟩
        case measure => simp [intOf]; omega
      | false =>
        go_wp2_with fail
        go_roundw
        case rel => exact ⟨k + 1, L, by omega, by go_num, by omega, HO, HP, Lib.hid (fun x hx => by have := HX.out x hx; omega), HB⟩
        case measure => simp [intOf]; omega
    · obtain rfl : k = m := by omega
      obtain ⟨p, c, rfl, hI, -⟩ := HO.out.at
      go_wp2_with fail
      go_ret
      exact ⟨L, p, c, rfl, hI, HP.out, HX.out, hl, ext_of HB.out⟩

set_option maxHeartbeats 1000000 in
/-- The number of a span to which any number leads. -/
theorem Some_any (lo hi n : Int) (w : World) (h0 : 0 ≤ lo) (h1 : lo ≤ hi) (h2 : hi ≤ 100000) : Calls Tryz.prog 49 #[.agg #[.int .i64 lo, .int .i64 hi], .int .i64 n] w fun e w' => e = .returned (.int .i64 (lo + n % (hi - lo + 1))) ∧ ∃ x, w' = ext w x := by
  have e1 : IntKind.i64.wrap (hi - lo) = hi - lo := IntWalk.i64_in _ (by omega)
  have e2 : IntKind.i64.wrap (hi - lo + 1) = hi - lo + 1 := IntWalk.i64_in _ (by omega)
  have hr0 : 0 ≤ n % (hi - lo + 1) := Int.emod_nonneg _ (by omega)
  have hr1 : n % (hi - lo + 1) < hi - lo + 1 := Int.emod_lt_of_pos _ (by omega)
  have e3 : IntKind.i64.wrap (lo + n % (hi - lo + 1)) = lo + n % (hi - lo + 1) := IntWalk.i64_in _ (by omega)
  have hm : 1 ≤ hi - lo + 1 ∧ hi - lo + 1 ≤ 1000000 := by omega
  clear h0 h1 h2 hr0 hr1
  go_enter Tryz.func49, Tryz.ntmps49
  go_wp2_with fail
  refine wp_region_ext (by kernel_rfl) (by kernel_rfl) ?_
  repeat (go_big_quiet_step ((go_at_call 45; exact quiet_ext (Wheel_any _ _ _ hm.1 hm.2))))
  (refine wpQuiet_nil ?_; rintro _ ⟨x, rfl⟩)
  go_wp2_with fail
  go_ret
  exact ⟨ret_int (by first | rfl | exact e3), by (exact ext_of (by (exact belA)))⟩
def someI (lo hi n : Int) : Int := lo + n % (hi - lo + 1)
theorem someI_bd {lo hi : Int} (h : lo ≤ hi) (n : Int) : lo ≤ someI lo hi n ∧ someI lo hi n ≤ hi := by
  have h1 : 0 ≤ n % (hi - lo + 1) := Int.emod_nonneg _ (by omega)
  have h2 : n % (hi - lo + 1) < hi - lo + 1 := Int.emod_lt_of_pos _ (by omega)
  unfold someI
  omega
theorem Some_is (lo hi n x : Int) (w : World) (h : 0 ≤ lo ∧ lo ≤ hi ∧ hi ≤ 100000) (hx : someI lo hi n = x) : Calls Tryz.prog 49 #[.agg #[.int .i64 lo, .int .i64 hi], .int .i64 n] w fun e w' => e = .returned (.int .i64 x) ∧ ∃ x, w' = ext w x := by
  subst hx; exact Some_any lo hi n w h.1 h.2.1 h.2.2
theorem Pick_is (p : Option Addr) (c : Nat) (l : List Int) (m : Nat) (n v : Int) (w : World) (hl : IntsAt w p l) (hb : (l.length : Int) ≤ 9223372036854775807) (hm : l.length = m) (hv : pickI l n = v) : Calls Tryz.prog 86 #[.slice p m c, .int .i64 n] w fun e w' => e = .returned (.int .i64 v) ∧ ∃ x, w' = ext w x := by
  subst hm hv; exact Pick_any p c l n w hl hb
theorem Place_is (p : Option Addr) (c : Nat) (l : List Int) (n : Nat) (x : Int) (w : World) (hl : IntsAt w p l) (hb : (l.length : Int) ≤ 1000) (hx : x ∈ l) (hn : l.length = n) :
    Calls Tryz.prog 47 #[.slice p n c, .int .i64 x] w (AtPlace l x w) := by
  subst hn; exact Place_yes p c l x w hl hb hx
end Go.Proofs.YtcaeohgbgeadaaaGreatDoor

