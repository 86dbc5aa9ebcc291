/- Contracts of Wrong on what is no book, of Bit, Bits, Sooner and Fewer. -/
/- Contract of without: a copy of a book without some of its shots. -/
/- Contract of without: the walk. -/
/- Plain facts: the shots that must be unfair, and what is left without some. -/
/- TurnWrong's walk. -/
import Derived.Test.YtmnbfjphndgmnaaDoorQZe
import Derived.Test.YtmnbfjphndgmnaaDoorQFh
import Derived.Test.YtmnbfjphndgmnaaDoorQWa
set_option linter.unusedSimpArgs false
set_option linter.unusedVariables false
namespace Go.Proofs.YtmnbfjphndgmnaaDoor
open Go Go.RowKit

set_option maxHeartbeats 4000000 in
theorem Wrong_bad (h : Hd) (b : Bk) (w : World) (hb : BkAt w h b) (hv : bookB b = false) :
    Calls Tryd.prog 21 #[.agg #[.int .i64 b.n, .slice h.pb b.bs.length h.cb, .slice h.po b.os.length h.co, .slice h.ps b.ss.length h.cs]] w fun e w' => e = .returned (.tuple #[.slice none 0 0, .int .i64 20]) ∧ ∃ x, w' = ext w x := by
  have HB := Lib.hid hb
  clear hb
  go_enter Tryd.func21, Tryd.ntmps21
  go_wp2_with (go_at_call 47; refine (open_bad _ _ _ _ (HB.out.below (by (repeat (first | (with_reducible exact Below.refl _ _) | (with_reducible assumption) | ((with_reducible refine below_ext_trans ?_ ?_ _); rotate_left; focus (((try dsimp only); repeat (first | omega | simp only [World.size_alloc, World.size_setCell, World.size_drew] | (with_reducible refine le_ext_of ?_) | (with_reducible refine le_ext_add ?_))); done)) | ((with_reducible refine Below.alloc ?_ ?_ _); rotate_left; focus (((try dsimp only); repeat (first | omega | simp only [World.size_alloc, World.size_setCell, World.size_drew] | (with_reducible refine le_ext_of ?_) | (with_reducible refine le_ext_add ?_))); done)) | ((with_reducible refine Below.setCell ?_ ?_ _); rotate_left; focus (((try dsimp only); repeat (first | omega | simp only [World.size_alloc, World.size_setCell, World.size_drew] | (with_reducible refine le_ext_of ?_) | (with_reducible refine le_ext_add ?_))); done)) | (with_reducible refine Below.drew ?_))))) hv).mono ?_; rintro e w' ⟨rfl, y, rfl⟩)
  go_ret2
  exact ⟨rfl, by (exact ext_of (by (repeat (first | (with_reducible exact Below.refl _ _) | (with_reducible assumption) | ((with_reducible refine below_ext_trans ?_ ?_ _); rotate_left; focus (((try dsimp only); repeat (first | omega | simp only [World.size_alloc, World.size_setCell, World.size_drew] | (with_reducible refine le_ext_of ?_) | (with_reducible refine le_ext_add ?_))); done)) | ((with_reducible refine Below.alloc ?_ ?_ _); rotate_left; focus (((try dsimp only); repeat (first | omega | simp only [World.size_alloc, World.size_setCell, World.size_drew] | (with_reducible refine le_ext_of ?_) | (with_reducible refine le_ext_add ?_))); done)) | ((with_reducible refine Below.setCell ?_ ?_ _); rotate_left; focus (((try dsimp only); repeat (first | omega | simp only [World.size_alloc, World.size_setCell, World.size_drew] | (with_reducible refine le_ext_of ?_) | (with_reducible refine le_ext_add ?_))); done)) | (with_reducible refine Below.drew ?_)))))⟩

set_option maxHeartbeats 1000000 in
theorem Bit_any (s n : Nat) (w : World) (hs : s < 32) (hn : n < 5) : Calls Tryd.prog 57 #[.int .i64 s, .int .i64 n] w fun e w' => ∃ q, e = .returned (.bool q) ∧ w = w' := by
  have n0 : (0 : Int) ≤ (n : Int) := by omega
  have n1 : (n : Int) < 64 := by omega
  go_enter Tryd.func57, Tryd.ntmps57
  go_wp2
  go_ret
  exact ⟨_, rfl, rfl⟩

/-- A list of numbers, in order, in memory of its own. -/
def RisesPost (w : World) (m : Nat) (e : Ending) (w' : World) : Prop := ∃ (L : List Int) (p : Option Addr) (c : Nat), e = .returned (.slice p L.length c) ∧ IntsAt w' p L ∧ L.Pairwise (· < ·) ∧ (∀ x ∈ L, 0 ≤ x ∧ x < (m : Int)) ∧ L.length ≤ m ∧ ∃ x, w' = ext w x
set_option maxHeartbeats 4000000 in
theorem Bits_any (s m : Nat) (w : World) (hs : s < 32) (hm : m ≤ 5) : Calls Tryd.prog 32 #[.int .i64 s, .int .i64 m] w (RisesPost w m) := by
  go_enter Tryd.func32, Tryd.ntmps32
  go_wp2_with fail
  generalize hW : w.alloc _ = W
  have hWB : Below w.heap.size w W := by rw [← hW]; (repeat (first | (with_reducible exact Below.refl _ _) | (with_reducible assumption) | ((with_reducible refine below_ext_trans ?_ ?_ _); rotate_left; focus (((try dsimp only); repeat (first | omega | simp only [World.size_alloc, World.size_setCell, World.size_drew] | (with_reducible refine le_ext_of ?_) | (with_reducible refine le_ext_add ?_))); done)) | ((with_reducible refine Below.alloc ?_ ?_ _); rotate_left; focus (((try dsimp only); repeat (first | omega | simp only [World.size_alloc, World.size_setCell, World.size_drew] | (with_reducible refine le_ext_of ?_) | (with_reducible refine le_ext_add ?_))); done)) | ((with_reducible refine Below.setCell ?_ ?_ _); rotate_left; focus (((try dsimp only); repeat (first | omega | simp only [World.size_alloc, World.size_setCell, World.size_drew] | (with_reducible refine le_ext_of ?_) | (with_reducible refine le_ext_add ?_))); done)) | (with_reducible refine Below.drew ?_)))
  have ho : OwnInts W w.heap.size (.slice (some ⟨w.heap.size, 0, none⟩) 0 0) [] := by rw [← hW]; exact OwnInts.of_blk (Blk.new rfl) rfl rfl (by simp)
  have HW := Lib.hid hWB
  have HO0 := Lib.hid ho
  have hWs : w.heap.size ≤ W.heap.size := hWB.size
  clear hW hWB ho
  go_loopw [5, 6] (fun v i wr => ∃ (k : Nat) (L : List Int), k ≤ m ∧ i = .int .i64 k ∧ L.length ≤ k ∧ Hid (OwnInts wr w.heap.size v L) ∧ Hid (L.Pairwise (· < ·)) ∧ Hid (∀ x ∈ L, 0 ≤ x ∧ x < (k : Int)) ∧ Hid (Below w.heap.size w wr)) (fun _ i _ => m - (intOf i).toNat)
  case atStart => exact ⟨0, [], by omega, rfl, by simp, HO0, Lib.hid List.Pairwise.nil, Lib.hid (by simp), HW⟩
  case round =>
    obtain ⟨k, L, hk, rfl, hl, HO, HP, HX, HB⟩ := hrel
    have hzr : w.heap.size ≤ wr.heap.size := HB.out.size
    by_cases hlt : k < m
    · go_upto_if 15 with (go_at_call 57; refine (Bit_any s k _ hs (by omega)).mono ?_; rintro e w1 ⟨q, rfl, rfl⟩)
      cases q with
      | true =>
        go_wp2_with (at_builtin; refine wpList_append_int rfl _ _ rfl w.heap.size _ _ rfl (HO.out.below ((Below.refl _ _).alloc (Nat.le_refl _) _)) wr.heap.size (k : Int) rfl (by simp [go_sem]) (by omega) (by ((try dsimp only); repeat (first | omega | simp only [World.size_alloc, World.size_setCell, World.size_drew] | (with_reducible refine le_ext_of ?_) | (with_reducible refine le_ext_add ?_)))) ?_; intro v' w1 ho hg)
        have HO' := Lib.hid ho
        have hB2 : Below w.heap.size w w1 := by
          have hB := HB.out
          refine Below.grown (w := wr.alloc (.cells #[.int .i64 (k : Int)] 3)) (by (repeat (first | (with_reducible exact Below.refl _ _) | (with_reducible assumption) | ((with_reducible refine below_ext_trans ?_ ?_ _); rotate_left; focus (((try dsimp only); repeat (first | omega | simp only [World.size_alloc, World.size_setCell, World.size_drew] | (with_reducible refine le_ext_of ?_) | (with_reducible refine le_ext_add ?_))); done)) | ((with_reducible refine Below.alloc ?_ ?_ _); rotate_left; focus (((try dsimp only); repeat (first | omega | simp only [World.size_alloc, World.size_setCell, World.size_drew] | (with_reducible refine le_ext_of ?_) | (with_reducible refine le_ext_add ?_))); done)) | ((with_reducible refine Below.setCell ?_ ?_ _); rotate_left; focus (((try dsimp only); repeat (first | omega | simp only [World.size_alloc, World.size_setCell, World.size_drew] | (with_reducible refine le_ext_of ?_) | (with_reducible refine le_ext_add ?_))); done)) | (with_reducible refine Below.drew ?_)))) hg (by ((try dsimp only); repeat (first | omega | simp only [World.size_alloc, World.size_setCell, World.size_drew] | (with_reducible refine le_ext_of ?_) | (with_reducible refine le_ext_add ?_)))) ?_
          intro j hj
          exact (HO.out.lt j hj).1
        have HB2 := Lib.hid hB2
        clear ho hg hB2
        go_wp2_with fail
        go_roundw
        case rel => exact ⟨k + 1, L ++ [(k : Int)], by omega, by go_num, by simp; omega, HO', Lib.hid (List.pairwise_append.2 ⟨HP.out, by simp, fun a ha c hc => by simp at hc; subst hc; exact (HX.out a ha).2⟩), Lib.hid (fun x hx => by
          rcases List.mem_append.1 hx with h | h
          · have := HX.out x h; omega
          · simp at h; omega), HB2⟩
        case measure => simp [intOf]; omega
      | false =>
        go_wp2_with fail
        go_roundw
        case rel => exact ⟨k + 1, L, by omega, by go_num, by omega, HO, HP, Lib.hid (fun x hx => by have := HX.out x hx; omega), HB⟩
        case measure => simp [intOf]; omega
    · obtain rfl : k = m := by omega
      obtain ⟨p, c, rfl, hI, -⟩ := HO.out.at
      go_wp2_with fail
      go_ret
      exact ⟨L, p, c, rfl, hI, HP.out, HX.out, hl, ext_of HB.out⟩

theorem lexB_same {l : List Int} : lexB l l = false := lexB_irrefl l
theorem lexB_part : ∀ {l m : List Int} {k : Nat} {a c : Int}, l.take k = m.take k → l[k]? = some a → m[k]? = some c → a ≠ c → lexB l m = decide (a < c)
  | x :: l, y :: m, 0, a, c, _, h1, h2, h3 => by
    simp at h1 h2; subst h1 h2
    simp [lexB, h3]
  | x :: l, y :: m, k + 1, a, c, h, h1, h2, h3 => by
    simp only [List.take_succ_cons, List.cons.injEq] at h
    obtain ⟨rfl, h⟩ := h
    simp [lexB, lexB_part h (by simpa using h1) (by simpa using h2) h3]
  | [], _, _, _, _, _, h1, _, _ => by simp at h1
  | _, [], _, _, _, _, _, h2, _ => by simp at h2
set_option maxHeartbeats 4000000 in
theorem Sooner_eq (p q : Option Addr) (c d : Nat) (l m : List Int) (n : Nat) (w : World) (hl : IntsAt w p l) (hm : IntsAt w q m) (hb : (n : Int) ≤ 1000) (e1 : l.length = n) (e2 : m.length = n) :
    Calls Tryd.prog 58 #[.slice p n c, .slice q n d] w fun e w' => e = .returned (.bool (lexB l m)) ∧ ∃ x, w' = ext w x := by
  have HL := Lib.hid hl
  have HM := Lib.hid hm
  have E1 := Lib.hid e1
  have E2 := Lib.hid e2
  clear hl hm e1 e2
  go_enter Tryd.func58, Tryd.ntmps58
  go_wp2_with fail
  go_loopw [5] (fun i wr => ∃ k : Nat, k ≤ n ∧ i = .int .i64 k ∧ Hid (l.take k = m.take k) ∧ ∃ x, wr = ext w x) (fun i _ => n - (intOf i).toNat)
  case atStart => exact ⟨0, by omega, rfl, Lib.hid (by simp), ext_of (Below.refl _ _)⟩
  case round =>
    obtain ⟨k, hk, rfl, HT, x, rfl⟩ := hrel
    by_cases hlt : k < n
    · obtain ⟨a, ha⟩ := get_some l k (by rw [E1.out]; exact hlt)
      obtain ⟨c2, hc⟩ := get_some m k (by rw [E2.out]; exact hlt)
      obtain ⟨b1, o1, rfl, hb1, q1⟩ := HL.out k a ha
      obtain ⟨b2, o2, rfl, hb2, q2⟩ := HM.out k c2 hc
      have hlt' : (k : Int) < (n : Int) := by omega
      have hk0 : (0 : Int) ≤ (k : Int) := by omega
      have HA := Lib.hid ha
      have HC := Lib.hid hc
      clear ha hc
      by_cases hac : a = c2
      · subst hac
        have HT2 := Lib.hid (show l.take (k + 1) = m.take (k + 1) by
          rw [List.take_add_one, List.take_add_one, HT.out, HA.out, HC.out])
        clear HT
        go_upto_region 2 with fail
        refine wp_region_ext (by kernel_rfl) (by kernel_rfl) ?_
        repeat (go_big_quiet_step (fail))
        (refine wpQuiet_nil ?_; rintro _ ⟨x, rfl⟩)
        go_wp2_with fail
        go_roundw
        case rel => exact ⟨k + 1, by omega, by go_num, HT2, by (exact ext_of (by (repeat (first | (with_reducible exact Below.refl _ _) | (with_reducible assumption) | ((with_reducible refine below_ext_trans ?_ ?_ _); rotate_left; focus (((try dsimp only); repeat (first | omega | simp only [World.size_alloc, World.size_setCell, World.size_drew] | (with_reducible refine le_ext_of ?_) | (with_reducible refine le_ext_add ?_))); done)) | ((with_reducible refine Below.alloc ?_ ?_ _); rotate_left; focus (((try dsimp only); repeat (first | omega | simp only [World.size_alloc, World.size_setCell, World.size_drew] | (with_reducible refine le_ext_of ?_) | (with_reducible refine le_ext_add ?_))); done)) | ((with_reducible refine Below.setCell ?_ ?_ _); rotate_left; focus (((try dsimp only); repeat (first | omega | simp only [World.size_alloc, World.size_setCell, World.size_drew] | (with_reducible refine le_ext_of ?_) | (with_reducible refine le_ext_add ?_))); done)) | (with_reducible refine Below.drew ?_)))))⟩
        case measure => simp [intOf]; omega
      · have hq : (a == c2) = false := by simpa using hac
        have HR := Lib.hid (lexB_part HT.out HA.out HC.out hac)
        have hkn : ((k : Int) == (n : Int)) = false := by simp; omega
        clear hac
        go_upto_region 2 with fail
        refine wp_region_ext (by kernel_rfl) (by kernel_rfl) ?_
        repeat (go_big_quiet_step (fail))
        (refine wpQuiet_nil ?_; rintro _ ⟨x, rfl⟩)
        go_upto_region 4 with fail
        refine wp_region_ext (by kernel_rfl) (by kernel_rfl) ?_
        repeat (go_big_quiet_step (fail))
        (refine wpQuiet_nil ?_; rintro _ ⟨x, rfl⟩)
        go_wp2_with fail
        go_ret
        exact ⟨by rw [HR.out]; rfl, by (exact ext_of (by (repeat (first | (with_reducible exact Below.refl _ _) | (with_reducible assumption) | ((with_reducible refine below_ext_trans ?_ ?_ _); rotate_left; focus (((try dsimp only); repeat (first | omega | simp only [World.size_alloc, World.size_setCell, World.size_drew] | (with_reducible refine le_ext_of ?_) | (with_reducible refine le_ext_add ?_))); done)) | ((with_reducible refine Below.alloc ?_ ?_ _); rotate_left; focus (((try dsimp only); repeat (first | omega | simp only [World.size_alloc, World.size_setCell, World.size_drew] | (with_reducible refine le_ext_of ?_) | (with_reducible refine le_ext_add ?_))); done)) | ((with_reducible refine Below.setCell ?_ ?_ _); rotate_left; focus (((try dsimp only); repeat (first | omega | simp only [World.size_alloc, World.size_setCell, World.size_drew] | (with_reducible refine le_ext_of ?_) | (with_reducible refine le_ext_add ?_))); done)) | (with_reducible refine Below.drew ?_)))))⟩
    · obtain rfl : k = n := by omega
      have HR := Lib.hid (show lexB l m = false by
        have h := HT.out
        rw [List.take_of_length_le (by rw [E1.out]; exact Nat.le_refl _), List.take_of_length_le (by rw [E2.out]; exact Nat.le_refl _)] at h
        rw [h]; exact lexB_irrefl _)
      go_upto_region 2 with fail
      refine wp_region_ext (by kernel_rfl) (by kernel_rfl) ?_
      repeat (go_big_quiet_step (fail))
      (refine wpQuiet_nil ?_; rintro _ ⟨x, rfl⟩)
      go_upto_region 4 with fail
      refine wp_region_ext (by kernel_rfl) (by kernel_rfl) ?_
      repeat (go_big_quiet_step (fail))
      (refine wpQuiet_nil ?_; rintro _ ⟨x, rfl⟩)
      go_wp2_with fail
      go_ret
      exact ⟨by rw [HR.out]; rfl, by (exact ext_of (by (repeat (first | (with_reducible exact Below.refl _ _) | (with_reducible assumption) | ((with_reducible refine below_ext_trans ?_ ?_ _); rotate_left; focus (((try dsimp only); repeat (first | omega | simp only [World.size_alloc, World.size_setCell, World.size_drew] | (with_reducible refine le_ext_of ?_) | (with_reducible refine le_ext_add ?_))); done)) | ((with_reducible refine Below.alloc ?_ ?_ _); rotate_left; focus (((try dsimp only); repeat (first | omega | simp only [World.size_alloc, World.size_setCell, World.size_drew] | (with_reducible refine le_ext_of ?_) | (with_reducible refine le_ext_add ?_))); done)) | ((with_reducible refine Below.setCell ?_ ?_ _); rotate_left; focus (((try dsimp only); repeat (first | omega | simp only [World.size_alloc, World.size_setCell, World.size_drew] | (with_reducible refine le_ext_of ?_) | (with_reducible refine le_ext_add ?_))); done)) | (with_reducible refine Below.drew ?_)))))⟩
set_option maxHeartbeats 1000000 in
theorem Fewer_eq (p q : Option Addr) (c d : Nat) (l m : List Int) (n k : Nat) (w : World) (hl : IntsAt w p l) (hm : IntsAt w q m) (hb : (n : Int) ≤ 1000) (e1 : l.length = n) (e2 : m.length = k) :
    Calls Tryd.prog 33 #[.slice p n c, .slice q k d] w fun e w' => e = .returned (.bool (fewerB l m)) ∧ ∃ x, w' = ext w x := by
  by_cases h1 : n < k
  · have HR := Lib.hid (show fewerB l m = true by unfold fewerB; rw [e1, e2]; simp [h1])
    have h2 : (n : Int) < (k : Int) := by omega
    clear hl hm
    go_enter Tryd.func33, Tryd.ntmps33
    go_wp2_with fail
    go_ret
    exact ⟨by rw [HR.out]; rfl, by (exact ext_of (by (repeat (first | (with_reducible exact Below.refl _ _) | (with_reducible assumption) | ((with_reducible refine below_ext_trans ?_ ?_ _); rotate_left; focus (((try dsimp only); repeat (first | omega | simp only [World.size_alloc, World.size_setCell, World.size_drew] | (with_reducible refine le_ext_of ?_) | (with_reducible refine le_ext_add ?_))); done)) | ((with_reducible refine Below.alloc ?_ ?_ _); rotate_left; focus (((try dsimp only); repeat (first | omega | simp only [World.size_alloc, World.size_setCell, World.size_drew] | (with_reducible refine le_ext_of ?_) | (with_reducible refine le_ext_add ?_))); done)) | ((with_reducible refine Below.setCell ?_ ?_ _); rotate_left; focus (((try dsimp only); repeat (first | omega | simp only [World.size_alloc, World.size_setCell, World.size_drew] | (with_reducible refine le_ext_of ?_) | (with_reducible refine le_ext_add ?_))); done)) | (with_reducible refine Below.drew ?_)))))⟩
  · by_cases h2 : n = k
    · subst h2
      have HR := Lib.hid (show fewerB l m = lexB l m by unfold fewerB; rw [e1, e2]; simp)
      have HL := Lib.hid hl
      have HM := Lib.hid hm
      clear hl hm h1
      go_enter Tryd.func33, Tryd.ntmps33
      go_wp2_with (go_at_call 58; refine (Sooner_eq p q c d l m n _ (HL.out.below (by (repeat (first | (with_reducible exact Below.refl _ _) | (with_reducible assumption) | ((with_reducible refine below_ext_trans ?_ ?_ _); rotate_left; focus (((try dsimp only); repeat (first | omega | simp only [World.size_alloc, World.size_setCell, World.size_drew] | (with_reducible refine le_ext_of ?_) | (with_reducible refine le_ext_add ?_))); done)) | ((with_reducible refine Below.alloc ?_ ?_ _); rotate_left; focus (((try dsimp only); repeat (first | omega | simp only [World.size_alloc, World.size_setCell, World.size_drew] | (with_reducible refine le_ext_of ?_) | (with_reducible refine le_ext_add ?_))); done)) | ((with_reducible refine Below.setCell ?_ ?_ _); rotate_left; focus (((try dsimp only); repeat (first | omega | simp only [World.size_alloc, World.size_setCell, World.size_drew] | (with_reducible refine le_ext_of ?_) | (with_reducible refine le_ext_add ?_))); done)) | (with_reducible refine Below.drew ?_))))) (HM.out.below (by (repeat (first | (with_reducible exact Below.refl _ _) | (with_reducible assumption) | ((with_reducible refine below_ext_trans ?_ ?_ _); rotate_left; focus (((try dsimp only); repeat (first | omega | simp only [World.size_alloc, World.size_setCell, World.size_drew] | (with_reducible refine le_ext_of ?_) | (with_reducible refine le_ext_add ?_))); done)) | ((with_reducible refine Below.alloc ?_ ?_ _); rotate_left; focus (((try dsimp only); repeat (first | omega | simp only [World.size_alloc, World.size_setCell, World.size_drew] | (with_reducible refine le_ext_of ?_) | (with_reducible refine le_ext_add ?_))); done)) | ((with_reducible refine Below.setCell ?_ ?_ _); rotate_left; focus (((try dsimp only); repeat (first | omega | simp only [World.size_alloc, World.size_setCell, World.size_drew] | (with_reducible refine le_ext_of ?_) | (with_reducible refine le_ext_add ?_))); done)) | (with_reducible refine Below.drew ?_))))) hb e1 e2).mono ?_; rintro e w1 ⟨rfl, y, rfl⟩)
      go_ret
      exact ⟨by rw [HR.out]; rfl, by (exact ext_of (by (repeat (first | (with_reducible exact Below.refl _ _) | (with_reducible assumption) | ((with_reducible refine below_ext_trans ?_ ?_ _); rotate_left; focus (((try dsimp only); repeat (first | omega | simp only [World.size_alloc, World.size_setCell, World.size_drew] | (with_reducible refine le_ext_of ?_) | (with_reducible refine le_ext_add ?_))); done)) | ((with_reducible refine Below.alloc ?_ ?_ _); rotate_left; focus (((try dsimp only); repeat (first | omega | simp only [World.size_alloc, World.size_setCell, World.size_drew] | (with_reducible refine le_ext_of ?_) | (with_reducible refine le_ext_add ?_))); done)) | ((with_reducible refine Below.setCell ?_ ?_ _); rotate_left; focus (((try dsimp only); repeat (first | omega | simp only [World.size_alloc, World.size_setCell, World.size_drew] | (with_reducible refine le_ext_of ?_) | (with_reducible refine le_ext_add ?_))); done)) | (with_reducible refine Below.drew ?_)))))⟩
    · have HR := Lib.hid (show fewerB l m = false by unfold fewerB; rw [e1, e2]; simp [h1, h2])
      have h3 : ¬ (n : Int) < (k : Int) := by omega
      have h4 : ((n : Int) == (k : Int)) = false := by simp; omega
      clear hl hm
      go_enter Tryd.func33, Tryd.ntmps33
      go_wp2_with fail
      go_ret
      exact ⟨by rw [HR.out]; rfl, by (exact ext_of (by (repeat (first | (with_reducible exact Below.refl _ _) | (with_reducible assumption) | ((with_reducible refine below_ext_trans ?_ ?_ _); rotate_left; focus (((try dsimp only); repeat (first | omega | simp only [World.size_alloc, World.size_setCell, World.size_drew] | (with_reducible refine le_ext_of ?_) | (with_reducible refine le_ext_add ?_))); done)) | ((with_reducible refine Below.alloc ?_ ?_ _); rotate_left; focus (((try dsimp only); repeat (first | omega | simp only [World.size_alloc, World.size_setCell, World.size_drew] | (with_reducible refine le_ext_of ?_) | (with_reducible refine le_ext_add ?_))); done)) | ((with_reducible refine Below.setCell ?_ ?_ _); rotate_left; focus (((try dsimp only); repeat (first | omega | simp only [World.size_alloc, World.size_setCell, World.size_drew] | (with_reducible refine le_ext_of ?_) | (with_reducible refine le_ext_add ?_))); done)) | (with_reducible refine Below.drew ?_)))))⟩
end Go.Proofs.YtmnbfjphndgmnaaDoor

namespace Go.Proofs.YtmnbfjphndgmnaaDoor
open Go Go.RowKit

/-- The first shots, without those of a list. -/
def woutL (ss : List Shot) (l : List Int) : Nat → List Shot
  | 0 => []
  | k + 1 => woutL ss l k ++ (match ss[k]? with | some s => if l.contains (k : Int) then [] else [s] | none => [])
theorem woutL_len (ss : List Shot) (l : List Int) : ∀ k, (woutL ss l k).length ≤ k
  | 0 => by simp [woutL]
  | k + 1 => by
    have := woutL_len ss l k
    unfold woutL
    rw [List.length_append]
    split
    · split <;> simp <;> omega
    · simp; omega
theorem woutL_in {ss : List Shot} {l : List Int} {k : Nat} {s : Shot} (h : ss[k]? = some s) (hm : (k : Int) ∈ l) : woutL ss l (k + 1) = woutL ss l k := by
  have : l.contains (k : Int) = true := by simpa using hm
  simp [woutL, h, hm]
theorem woutL_out {ss : List Shot} {l : List Int} {k : Nat} {s : Shot} (h : ss[k]? = some s) (hm : (k : Int) ∉ l) : woutL ss l (k + 1) = woutL ss l k ++ [s] := by
  simp [woutL, h, hm]

theorem st_append_shot {ops : Array Oper} {Q : Exit → Act → World → Prop} {i : Nat} {o : Oper} {K : Act → World → Prop} {a : Act} {w : World} (h : ops[i]? = some o) (hw : Region.wanted o (yielded ops a.tmps) = true) (s x : Operand)
    (ho : o.op = .call { callee := .builtin .append, args := #[s, x], argTypes := #[24, 24] }) (B : Nat)
    (v : Value) (l : List Shot) (hs : a.eval s = v) (hown : OwnShots w B v l) (g : Nat) (y : Shot) (hx : a.eval x = .slice (some ⟨g, 0, none⟩) 1 1) (hc : Blk w g 46 #[.int .i64 y.st, .int .i64 y.co, .int .i64 y.lo, .int .i64 y.hi])
    (hl : l.length ≤ 1000) (hB : B ≤ w.heap.size)
    (hK : ∀ v' w', OwnShots w' B v' (l ++ [y]) → w.grownBy w' v.ownBlock → K (a.put o.dst v') w') : wpOp Tryd.prog ops Q i K a w := by
  refine wpOp_want h hw ?_
  obtain ⟨i0, hi, hz0, hz1, hz2⟩ := info_parts info_shot
  refine wp_append_own w s x 24 ho B 46 i0 (.agg #[.int .i64 0, .int .i64 0, .int .i64 0, .int .i64 0]) 4 32 under_shots hi hz0 hz1 hz2 rfl (by decide) v l.length _ hs hown ⟨g, 0, none⟩ 1 1 (encShots [y]) hx rfl ?_ (encShots_one _) ?_ ?_ hB ?_
  · intro j u hj
    match j, hj with
    | 0, hj => simp [encShots] at hj; subst hj; simpa [Addr.add] using hc.cell 0
    | 1, hj => simp [encShots] at hj; subst hj; simpa [Addr.add] using hc.cell 1
    | 2, hj => simp [encShots] at hj; subst hj; simpa [Addr.add] using hc.cell 2
    | 3, hj => simp [encShots] at hj; subst hj; simpa [Addr.add] using hc.cell 3
    | n + 4, hj => simp [encShots] at hj
  · unfold maxLen; omega
  · omega
  · intro v' w' h1 h2 _
    refine hK v' w' ?_ h2
    unfold OwnShots
    rw [encShots_append, List.length_append]
    exact h1
theorem run_shot_at {o : Oper} {w : World} {g j s : Nat} {x y z u : Int} (ρ : Operand → Value) (hop : o.op = .load 46 (.tmp s)) (hs : ρ (.tmp s) = .pointer (some ⟨g, j, none⟩)) (k0 : w.cell? ⟨g, j, none⟩ = some (.int .i64 x)) (k1 : w.cell? ⟨g, j + 1, none⟩ = some (.int .i64 y)) (k2 : w.cell? ⟨g, j + 2, none⟩ = some (.int .i64 z)) (k3 : w.cell? ⟨g, j + 3, none⟩ = some (.int .i64 u)) :
    (execOp ρ o).run Tryd.prog w = .ok (.value (.agg #[.int .i64 x, .int .i64 y, .int .i64 z, .int .i64 u])) w := by
  unfold execOp
  simp [hop, hs, go_sem, k0, k1, k2, k3]
theorem run_bs_shot {o : Oper} {w : World} {s : Nat} {x y z u : Int} (ρ : Operand → Value) (hop : o.op = .buildSlice 24 1 #[(0, .tmp s)]) (h1 : ρ (.tmp s) = .agg #[.int .i64 x, .int .i64 y, .int .i64 z, .int .i64 u]) :
    (execOp ρ o).run Tryd.prog w = .ok (.value (.slice (some ⟨w.heap.size, 0, none⟩) 1 1)) (w.alloc (.cells #[.int .i64 x, .int .i64 y, .int .i64 z, .int .i64 u] 46)) := by
  unfold execOp
  simp [hop, h1, go_sem]
end Go.Proofs.YtmnbfjphndgmnaaDoor

namespace Go.Proofs.YtmnbfjphndgmnaaDoor
open Go Go.RowKit

/-- What the operations leave that append a shot. -/
def woutR (gx gb a j ns cs k : Nat) (p : Option Addr) (m c : Nat) (q1 : Option Addr) (L : List Shot) (s : Shot) (f : Bool) (i : Nat) (u : Value) (w : World) : Prop :=
  match i with
  | 0 => u = .pointer (some ⟨gx, 3, none⟩)
  | 1 => u = .slice p m c ∧ (f = false → OwnShots w (gx + 1) (.slice p m c) L)
  | 2 => u = .pointer (some ⟨gb, 3, none⟩)
  | 3 => u = .slice q1 ns cs
  | 4 => u = .int .i64 k
  | 5 => u = .pointer (some ⟨a, j, none⟩)
  | 6 => u = .agg #[.int .i64 s.st, .int .i64 s.co, .int .i64 s.lo, .int .i64 s.hi]
  | 7 => ∃ q, u = .slice (some ⟨q, 0, none⟩) 1 1 ∧ (f = false → Blk w q 46 #[.int .i64 s.st, .int .i64 s.co, .int .i64 s.lo, .int .i64 s.hi])
  | 8 => f = true ∧ OwnShots w (gx + 1) u (L ++ [s])
  | 9 => u = .pointer (some ⟨gx, 3, none⟩)
  | _ => True
theorem woutR_kept (gx gb a j ns cs k : Nat) (p : Option Addr) (m c : Nat) (q1 : Option Addr) (L : List Shot) (s : Shot) : ∀ (f : Bool) (i : Nat), i < 10 → ∀ (u : Value) (w w' : World), woutR gx gb a j ns cs k p m c q1 L s f i u w → Below w.heap.size w w' → woutR gx gb a j ns cs k p m c q1 L s f i u w' := by
  intro f i hi u w w' h hb
  rcases (show i = 0 ∨ i = 1 ∨ i = 2 ∨ i = 3 ∨ i = 4 ∨ i = 5 ∨ i = 6 ∨ i = 7 ∨ i = 8 ∨ i = 9 by omega) with hi0 | hi0 | hi0 | hi0 | hi0 | hi0 | hi0 | hi0 | hi0 | hi0
  all_goals subst hi0
  · exact h
  · exact ⟨h.1, fun hf => (h.2 hf).below hb⟩
  · exact h
  · exact h
  · exact h
  · exact h
  · exact h
  · obtain ⟨q, h1, h2⟩ := h; exact ⟨q, h1, fun hf => (h2 hf).bel hb⟩
  · exact ⟨h.1, h.2.below hb⟩
  · exact h
theorem run_shots' {o : Oper} {w : World} {g s : Nat} (ρ : Operand → Value) (hop : o.op = .fieldAddr 26 (.tmp s) 3) (hs : ρ (.tmp s) = .pointer (some ⟨g, 0, none⟩)) (hl : g < w.heap.size) :
    (execOp ρ o).run Tryd.prog w = .ok (.value (.pointer (some ⟨g, 3, none⟩))) w := run_shots ρ hop hs hl

attribute [local go_sem] Oper.semAt_some frozen_alloc_lt
set_option maxRecDepth 100000 in
set_option maxHeartbeats 8000000 in
theorem without_any (h : Hd) (b : Bk) (pl : Option Addr) (cl n : Nat) (l : List Int) (w : World) (hb : BkAt w h b) (h5 : b.ss.length ≤ 5) (hl : IntsAt w pl l) (hll : (l.length : Int) ≤ 1000) (hn : l.length = n) :
    Calls Tryd.prog 31 #[.agg #[.int .i64 b.n, .slice h.pb b.bs.length h.cb, .slice h.po b.os.length h.co, .slice h.ps b.ss.length h.cs], .slice pl n cl] w fun e w' => ∃ p3 c3, e = .returned (.agg #[.int .i64 b.n, .slice h.pb b.bs.length h.cb, .slice h.po b.os.length h.co, .slice p3 (woutL b.ss l b.ss.length).length c3]) ∧ ShotsAt w' p3 (woutL b.ss l b.ss.length) ∧ ∃ x, w' = ext w x := by
  obtain ⟨pb, cb, po, co, ps, cs⟩ := h
  dsimp only
  have HB := Lib.hid hb
  have HL := Lib.hid hl
  have HLL := Lib.hid hll
  have HN := Lib.hid hn
  clear hb hl hll hn
  go_enter Tryd.func31, Tryd.ntmps31
  go_upto_region 3 with fail
  generalize hW : (((w.alloc _).alloc _).alloc _).alloc _ = W
  obtain ⟨gb, egb⟩ : ∃ gb, w.heap.size = gb := ⟨_, rfl⟩
  have hWB : Below w.heap.size w W := by rw [← hW]; (repeat (first | (with_reducible exact Below.refl _ _) | (with_reducible assumption) | ((with_reducible refine below_ext_trans ?_ ?_ _); rotate_left; focus (((try dsimp only); repeat (first | omega | simp only [World.size_alloc, World.size_setCell, World.size_drew] | (with_reducible refine le_ext_of ?_) | (with_reducible refine le_ext_add ?_))); done)) | ((with_reducible refine Below.alloc ?_ ?_ _); rotate_left; focus (((try dsimp only); repeat (first | omega | simp only [World.size_alloc, World.size_setCell, World.size_drew] | (with_reducible refine le_ext_of ?_) | (with_reducible refine le_ext_add ?_))); done)) | ((with_reducible refine Below.setCell ?_ ?_ _); rotate_left; focus (((try dsimp only); repeat (first | omega | simp only [World.size_alloc, World.size_setCell, World.size_drew] | (with_reducible refine le_ext_of ?_) | (with_reducible refine le_ext_add ?_))); done)) | (with_reducible refine Below.drew ?_)))
  have hWs : W.heap.size = gb + 4 := by rw [← hW]; simp; omega
  have kb : Blk W gb 26 #[.int .i64 b.n, .slice pb b.bs.length cb, .slice po b.os.length co, .slice ps b.ss.length cs] := by rw [← hW]; exact (((Blk.new egb.symm).alloc _).alloc _).alloc _
  have kr : Blk W (gb + 1) 26 #[.int .i64 0, .slice none 0 0, .slice none 0 0, .slice none 0 0] := by rw [← hW]; exact ((Blk.new (by simp; omega)).alloc _).alloc _
  have kx : Blk W (gb + 2) 26 #[.int .i64 b.n, .slice pb b.bs.length cb, .slice po b.os.length co, .slice (some ⟨gb + 3, 0, none⟩) 0 0] := by rw [← hW, egb]; exact (Blk.new (by simp; omega)).alloc _
  have ho : OwnShots W (gb + 2 + 1) (.slice (some ⟨gb + 3, 0, none⟩) 0 0) [] := by rw [← hW]; exact OwnShots.of_blk (Blk.new (by simp; omega)) rfl rfl (by simp)
  have HWB := Lib.hid hWB
  have HWs := Lib.hid hWs
  have KB := Lib.hid kb
  have KR := Lib.hid kr
  have KX := Lib.hid kx
  have HO0 := Lib.hid ho
  have HE := Lib.hid egb
  rw [egb]
  clear hW hWB hWs kb kr kx ho egb
  go_wp2_with fail
  go_loopw [6] (fun i wr => ∃ (k : Nat) (p : Option Addr) (c m : Nat), k ≤ b.ss.length ∧ i = .int .i64 k ∧ Hid ((woutL b.ss l k).length = m) ∧ Hid (Blk wr (gb + 2) 26 #[.int .i64 b.n, .slice pb b.bs.length cb, .slice po b.os.length co, .slice p m c]) ∧ Hid (OwnShots wr (gb + 2 + 1) (.slice p m c) (woutL b.ss l k)) ∧ Hid (Below (gb + 2) W wr)) (fun i _ => b.ss.length - (intOf i).toNat)
  case atStart => exact ⟨0, some ⟨gb + 3, 0, none⟩, 0, 0, by omega, rfl, Lib.hid rfl, KX, HO0, Lib.hid (Below.refl _ _)⟩
  case round =>
    obtain ⟨k, p, c, m, hk, rfl, HM, HX, HO, HBL⟩ := hrel
    have kb : Blk wr gb 26 #[.int .i64 b.n, .slice pb b.bs.length cb, .slice po b.os.length co, .slice ps b.ss.length cs] := (HBL.out.block gb (by omega)).trans KB.out
    have d3 : wr.cell? ⟨gb, 3, none⟩ = some (.slice ps b.ss.length cs) := kb.cell 3
    have kl := kb.lt
    have xl := HX.out.lt
    have hbw : Below w.heap.size w wr := HWB.out.trans (HBL.out.mono (by have := HE.out; omega))
    have HBW := Lib.hid hbw
    have KB2 := Lib.hid kb
    clear kb hbw
    by_cases hlt : k < b.ss.length
    · obtain ⟨s, hs⟩ := get_some b.ss k hlt
      have HS := Lib.hid hs
      have hk1 : (k : Int) < (b.ss.length : Int) := by omega
      have hk0 : (0 : Int) ≤ (k : Int) := by omega
      clear hs
      by_cases hm : (k : Int) ∈ l
      · have HMM := Lib.hid hm
        have HU := Lib.hid (woutL_in HS.out hm)
        clear hm
        go_wp2_with (go_at_call 20; refine (Place_eq pl cl l n k _ ((HL.out.below HBW.out).below (by (repeat (first | (with_reducible exact Below.refl _ _) | (with_reducible assumption) | ((with_reducible refine below_ext_trans ?_ ?_ _); rotate_left; focus (((try dsimp only); repeat (first | omega | simp only [World.size_alloc, World.size_setCell, World.size_drew] | (with_reducible refine le_ext_of ?_) | (with_reducible refine le_ext_add ?_))); done)) | ((with_reducible refine Below.alloc ?_ ?_ _); rotate_left; focus (((try dsimp only); repeat (first | omega | simp only [World.size_alloc, World.size_setCell, World.size_drew] | (with_reducible refine le_ext_of ?_) | (with_reducible refine le_ext_add ?_))); done)) | ((with_reducible refine Below.setCell ?_ ?_ _); rotate_left; focus (((try dsimp only); repeat (first | omega | simp only [World.size_alloc, World.size_setCell, World.size_drew] | (with_reducible refine le_ext_of ?_) | (with_reducible refine le_ext_add ?_))); done)) | (with_reducible refine Below.drew ?_))))) HLL.out HMM.out HN.out).mono ?_; rintro e w1 ⟨kk, hkk, rfl, rfl⟩; clear hkk; have hkk0 : (0 : Int) ≤ (kk : Int) := by omega)
        go_roundw
        case rel => exact ⟨k + 1, p, c, m, by omega, by go_num, by rw [HU.out]; exact HM, HX, by rw [HU.out]; exact HO, HBL⟩
        case measure => simp [intOf]; omega
      · have HMM := Lib.hid hm
        have HU := Lib.hid (woutL_out HS.out hm)
        clear hm
        obtain ⟨bb1, o1, hps, hb1, q0, q1, q2, q3⟩ := (HB.out.below HBW.out).ss k _ HS.out
        dsimp only at hps
        subst hps
        have HA := Lib.hid hb1
        have HQ := Lib.hid (And.intro q0 (And.intro q1 (And.intro q2 q3)))
        have hbb : bb1 < gb := by
          obtain ⟨b2, o2, e, h2, -⟩ := HB.out.ss k _ HS.out
          cases e
          have := HE.out; omega
        have hrow : ∀ g, (Value.slice p m c).ownBlock = some g → gb + 2 + 1 ≤ g := fun g hg => (HO.out.lt g hg).1
        have HROW := Lib.hid hrow
        have hml : (woutL b.ss l k).length ≤ 1000 := by have := woutL_len b.ss l k; omega
        clear hb1 q0 q1 q2 q3 hrow
        go_upto_region 7 with (go_at_call 20; refine (Place_none pl cl l n k _ ((HL.out.below HBW.out).below (by (repeat (first | (with_reducible exact Below.refl _ _) | (with_reducible assumption) | ((with_reducible refine below_ext_trans ?_ ?_ _); rotate_left; focus (((try dsimp only); repeat (first | omega | simp only [World.size_alloc, World.size_setCell, World.size_drew] | (with_reducible refine le_ext_of ?_) | (with_reducible refine le_ext_add ?_))); done)) | ((with_reducible refine Below.alloc ?_ ?_ _); rotate_left; focus (((try dsimp only); repeat (first | omega | simp only [World.size_alloc, World.size_setCell, World.size_drew] | (with_reducible refine le_ext_of ?_) | (with_reducible refine le_ext_add ?_))); done)) | ((with_reducible refine Below.setCell ?_ ?_ _); rotate_left; focus (((try dsimp only); repeat (first | omega | simp only [World.size_alloc, World.size_setCell, World.size_drew] | (with_reducible refine le_ext_of ?_) | (with_reducible refine le_ext_add ?_))); done)) | (with_reducible refine Below.drew ?_))))) HLL.out HMM.out HN.out).mono ?_; rintro e w1 ⟨rfl, rfl⟩)
        refine wp_region_flow_backH 10 32 8 (Value.slice p m c).ownBlock (woutR (gb + 2) gb bb1 (o1 + k * 4) b.ss.length cs k p m c (some ⟨bb1, o1, none⟩) (woutL b.ss l k) s) (by kernel_rfl) (by kernel_rfl) rfl (by omega) (woutR_kept _ _ _ _ _ _ _ _ _ _ _ _ _) ?_ ?_ ?_
        · intro i hin hne f a W1 h1 h2 h3 h4 h5' h6' KK hKK
          have far : ∀ g', g' < wr.heap.size → g' ≤ gb + 2 → W1.heap[g']? = wr.heap[g']? := fun g' hg hg2 => h5'.block g' hg (fun e => by have := HROW.out g' e.symm; omega)
          rcases (show i = 0 ∨ i = 1 ∨ i = 2 ∨ i = 3 ∨ i = 4 ∨ i = 5 ∨ i = 6 ∨ i = 7 ∨ i = 9 by omega) with hi0 | hi0 | hi0 | hi0 | hi0 | hi0 | hi0 | hi0 | hi0
          · subst hi0
            exact st_val rfl (wanted_none rfl) (run_shots _ rfl (h3 5 (by kernel_rfl)) (Nat.lt_of_lt_of_le HX.out.lt h5'.size)) (hKK _ _ rfl (Below.refl _ _))
          · subst hi0
            have kx : Blk W1 (gb + 2) _ _ := (far (gb + 2) HX.out.lt (by omega)).trans HX.out
            exact st_val rfl (wanted_none rfl) (run_slice_shots _ rfl (h4 0 (by kernel_rfl)) (Blk.cell kx 3)) (hKK _ _ ⟨rfl, fun hf => HO.out.below (h6' hf)⟩ (Below.refl _ _))
          · subst hi0
            exact st_val rfl (wanted_none rfl) (run_shots _ rfl (h3 2 (by kernel_rfl)) (Nat.lt_of_lt_of_le KB2.out.lt h5'.size)) (hKK _ _ rfl (Below.refl _ _))
          · subst hi0
            have kb : Blk W1 gb _ _ := (far gb KB2.out.lt (by omega)).trans KB2.out
            exact st_val rfl (wanted_none rfl) (run_slice_shots _ rfl (h4 2 (by kernel_rfl)) (Blk.cell kb 3)) (hKK _ _ rfl (Below.refl _ _))
          · subst hi0
            exact st_move rfl rfl (wanted_none rfl) (h3 6 (by kernel_rfl)) (hKK _ _ rfl (Below.refl _ _))
          · subst hi0
            exact st_val rfl (wanted_none rfl) (run_at_shot _ rfl (h4 3 (by kernel_rfl)) (h4 4 (by kernel_rfl)) hlt (Nat.lt_of_lt_of_le HA.out h5'.size)) (hKK _ _ rfl (Below.refl _ _))
          · subst hi0
            have hc : ∀ j, W1.cell? ⟨bb1, j, none⟩ = wr.cell? ⟨bb1, j, none⟩ := fun j => World.cell?_of_block (a := ⟨bb1, j, none⟩) (far bb1 HA.out (by omega))
            exact st_val rfl (wanted_none rfl) (run_shot_at _ rfl (h4 5 (by kernel_rfl)) ((hc _).trans HQ.out.1) ((hc _).trans HQ.out.2.1) ((hc _).trans HQ.out.2.2.1) ((hc _).trans HQ.out.2.2.2)) (hKK _ _ rfl (Below.refl _ _))
          · subst hi0
            exact st_valw rfl (wanted_none rfl) (run_bs_shot _ rfl (h4 6 (by kernel_rfl))) (hKK _ _ ⟨_, rfl, fun _ => Blk.new rfl⟩ ((Below.refl _ _).alloc (Nat.le_refl _) _))
          · subst hi0
            exact st_val rfl (wanted_none rfl) (run_shots _ rfl (h3 5 (by kernel_rfl)) (Nat.lt_of_lt_of_le HX.out.lt h5'.size)) (hKK _ _ rfl (Below.refl _ _))
        · intro a W1 h1 h2 h3 h4 h5' KK hKK
          obtain ⟨e1, ho⟩ := h4 1 (by kernel_rfl)
          obtain ⟨q, e2, hq⟩ := h4 7 (by kernel_rfl)
          refine st_append_shot rfl (wanted_none rfl) _ _ rfl (gb + 2 + 1) _ _ e1 (ho rfl) q s e2 (hq rfl) hml (by have := HX.out.lt; have := h5'.size; omega) ?_
          intro v' w' h7 h8
          refine hKK _ _ ⟨rfl, h7⟩ (fun j u hj hr => ?_) h8
          rcases (show j = 0 ∨ j = 1 ∨ j = 2 ∨ j = 3 ∨ j = 4 ∨ j = 5 ∨ j = 6 ∨ j = 7 ∨ j = 8 ∨ j = 9 by omega) with hi0 | hi0 | hi0 | hi0 | hi0 | hi0 | hi0 | hi0 | hi0 | hi0
          all_goals subst hi0
          · exact hr
          · exact ⟨hr.1, fun hf => by cases hf⟩
          · exact hr
          · exact hr
          · exact hr
          · exact hr
          · exact hr
          · obtain ⟨q', e, _⟩ := hr; exact ⟨q', e, fun hf => by cases hf⟩
          · exact absurd hr.1 (by decide)
          · exact hr
        · intro vs W3 hvs hB3
          have v0 : vs 0 = _ := hvs 0 (by omega)
          have v1 : vs 1 = _ := (hvs 1 (by omega)).1
          have v2 : vs 2 = _ := hvs 2 (by omega)
          have v3 : vs 3 = _ := hvs 3 (by omega)
          have v4 : vs 4 = _ := hvs 4 (by omega)
          have v5 : vs 5 = _ := hvs 5 (by omega)
          have v6 : vs 6 = _ := hvs 6 (by omega)
          obtain ⟨q, v7, -⟩ := hvs 7 (by omega)
          have ho8 := (hvs 8 (by omega)).2
          obtain ⟨p', c', v8, -⟩ := ho8.at
          have v9 : vs 9 = _ := hvs 9 (by omega)
          rw [v8] at ho8
          obtain ⟨m', hm'⟩ : ∃ m', (woutL b.ss l k ++ [s]).length = m' := ⟨_, rfl⟩
          rw [hm'] at ho8 v8
          simp only [putAll, v0, v1, v2, v3, v4, v5, v6, v7, v8, v9]
          clear v0 v1 v2 v3 v4 v5 v6 v7 v8 v9 hvs
          simp only [dstOf, Act.put, List.getElem?_toArray, List.getElem?_cons_zero, List.getElem?_cons_succ, Option.bind_some, Option.getD_some, List.setIfInBounds_toArray, List.set_cons_succ, List.set_cons_zero, List.drop_succ_cons, List.drop_zero]
          have kx3 : Blk W3 (gb + 2) 26 #[.int .i64 b.n, .slice (pb) b.bs.length cb, .slice po b.os.length co, .slice p m c] := (hB3.block _ HX.out.lt (fun e => by have := HROW.out _ e.symm; omega)).trans HX.out
          have x3 := kx3.cell 3
          have f3 := kx3.frozen 3
          simp only [List.size_toArray, List.length_cons, List.length_nil, Nat.reduceAdd, Nat.reduceLT, getElem?_pos, List.getElem_toArray, List.getElem_cons_zero, List.getElem_cons_succ] at x3
          have xl3 := kx3.lt
          have hbl3 : Below (gb + 2) W W3 := Below.grown HBL.out hB3 (by have := HX.out.lt; omega) (fun j hj => by have := HROW.out j hj; omega)
          have KX3 := Lib.hid kx3
          have HO8 := Lib.hid ho8
          have HM8 := Lib.hid hm'
          have HBL3 := Lib.hid hbl3
          clear kx3 ho8 hm' hbl3 hB3
          go_wp2_with fail
          go_roundw
          case rel => exact ⟨k + 1, p', c', m', by omega, by go_num, by rw [HU.out]; exact HM8, Lib.hid (by simpa using KX3.out.set 3 (.slice p' m' c')), by rw [HU.out]; exact Lib.hid (HO8.out.kept (fun g hg => by have := (HO8.out.lt g hg).1; exact Below.heap_setCell _ _ _ _ (by dsimp only; omega))), Lib.hid (HBL3.out.setCell (by dsimp only; omega) _)⟩
          case measure => simp [intOf]; omega
    · obtain rfl : k = b.ss.length := by omega
      have kr : Blk wr (gb + 1) 26 #[.int .i64 0, .slice none 0 0, .slice none 0 0, .slice none 0 0] := (HBL.out.block (gb + 1) (by omega)).trans KR.out
      have x0 := HX.out.cell 0
      have x1 := HX.out.cell 1
      have x2 := HX.out.cell 2
      have x3 := HX.out.cell 3
      have r0 := kr.cell 0
      have r1 := kr.cell 1
      have r2 := kr.cell 2
      have r3 := kr.cell 3
      have s0 := kr.frozen 0
      have s1 := kr.frozen 1
      have s2 := kr.frozen 2
      have s3 := kr.frozen 3
      simp only [List.size_toArray, List.length_cons, List.length_nil, Nat.reduceAdd, Nat.reduceLT, getElem?_pos, List.getElem_toArray, List.getElem_cons_zero, List.getElem_cons_succ] at x0 x1 x2 x3 r0 r1 r2 r3
      have rl := kr.lt
      have KRR := Lib.hid kr
      clear kr
      obtain ⟨p', c', e, hsh⟩ := (show OwnShots (put4 wr (gb + 1) (.int .i64 b.n) (.slice pb b.bs.length cb) (.slice po b.os.length co) (.slice p m c)) (gb + 2 + 1) (.slice p m c) (woutL b.ss l b.ss.length) from HO.out.kept (fun g hg => by
        have h1 := (HO.out.lt g hg).1
        have e : ∀ (w : World) (i : Nat) (v : Value), (w.setCell ⟨gb + 1, i, none⟩ v).heap[g]? = w.heap[g]? := fun w i v => Below.heap_setCell _ _ _ _ (by dsimp only; omega)
        unfold put4
        rw [e, e, e, e])).at
      simp only [Value.slice.injEq] at e
      obtain ⟨rfl, em, rfl⟩ := e
      have HSH := Lib.hid hsh
      have EM := Lib.hid em
      clear hsh em
      go_wp2_with fail
      refine bodyPost_ret (v := .agg #[.int .i64 b.n, .slice pb b.bs.length cb, .slice po b.os.length co, .slice p m c]) (by simp [results, Tryd.results31, go_sem, r0, r1, r2, r3, s0, s1, s2, s3, rl]) rfl ?_
      refine ⟨p, c, by rw [EM.out], HSH.out, ext_of ?_⟩
      have hB := HBW.out
      have hE := HE.out
      show Below w.heap.size w ((((wr.setCell ⟨gb + 1, 0, none⟩ _).setCell ⟨gb + 1, 1, none⟩ _).setCell ⟨gb + 1, 2, none⟩ _).setCell ⟨gb + 1, 3, none⟩ _)
      (repeat (first | (with_reducible exact Below.refl _ _) | (with_reducible assumption) | ((with_reducible refine below_ext_trans ?_ ?_ _); rotate_left; focus (((try dsimp only); repeat (first | omega | simp only [World.size_alloc, World.size_setCell, World.size_drew] | (with_reducible refine le_ext_of ?_) | (with_reducible refine le_ext_add ?_))); done)) | ((with_reducible refine Below.alloc ?_ ?_ _); rotate_left; focus (((try dsimp only); repeat (first | omega | simp only [World.size_alloc, World.size_setCell, World.size_drew] | (with_reducible refine le_ext_of ?_) | (with_reducible refine le_ext_add ?_))); done)) | ((with_reducible refine Below.setCell ?_ ?_ _); rotate_left; focus (((try dsimp only); repeat (first | omega | simp only [World.size_alloc, World.size_setCell, World.size_drew] | (with_reducible refine le_ext_of ?_) | (with_reducible refine le_ext_add ?_))); done)) | (with_reducible refine Below.drew ?_)))
end Go.Proofs.YtmnbfjphndgmnaaDoor

namespace Go.Proofs.YtmnbfjphndgmnaaDoor
open Go Go.RowKit

def woutBk (b : Bk) (l : List Int) : Bk := { b with ss := woutL b.ss l b.ss.length }
theorem mem_wout {ss : List Shot} {l : List Int} {s : Shot} : ∀ {k : Nat}, s ∈ woutL ss l k → ∃ i, i < k ∧ ss[i]? = some s ∧ (i : Int) ∉ l
  | 0, h => by simp [woutL] at h
  | k + 1, h => by
    unfold woutL at h
    rcases List.mem_append.1 h with h | h
    · obtain ⟨i, h1, h2, h3⟩ := mem_wout h
      exact ⟨i, by omega, h2, h3⟩
    · cases hs : ss[k]? with
      | none => rw [hs] at h; simp at h
      | some t =>
        rw [hs] at h
        by_cases hm : (k : Int) ∈ l
        · simp [hm] at h
        · simp [hm] at h
          subst h
          exact ⟨k, by omega, hs, hm⟩
theorem in_wout {ss : List Shot} {l : List Int} {s : Shot} {i : Nat} (h : ss[i]? = some s) (hn : (i : Int) ∉ l) : ∀ {k : Nat}, i < k → s ∈ woutL ss l k
  | 0, hi => by omega
  | k + 1, hi => by
    unfold woutL
    rcases Nat.lt_succ_iff_lt_or_eq.1 hi with hi | rfl
    · exact List.mem_append_left _ (in_wout h hn hi)
    · rw [h]
      simp [hn]
theorem wout_ok {b : Bk} (hv : bookB b = true) (l : List Int) : bookB (woutBk b l) = true := by
  simp only [bookB, shotsB, Bool.and_eq_true, decide_eq_true_eq] at hv ⊢
  obtain ⟨⟨⟨ha, hb'⟩, hc⟩, hd, he⟩ := hv
  refine ⟨⟨⟨ha, hb'⟩, hc⟩, by have := woutL_len b.ss l b.ss.length; simp only [woutBk]; omega, ?_⟩
  rw [List.all_eq_true]
  intro t ht
  obtain ⟨i, _, h2, _⟩ := mem_wout ht
  exact List.all_eq_true.1 he t (List.mem_of_getElem? h2)
theorem wout_allT (b : Bk) (l : List Int) : allT (woutBk b l) = allT b := rfl
theorem U_nil {b : Bk} {l : List Int} {v : List Int} : U (woutBk b l) v = [] ↔ ∀ (i : Nat) (s : Shot), b.ss[i]? = some s → (i : Int) ∉ l → unfairB b v i = false := by
  unfold U unfairL
  rw [List.map_eq_nil_iff, List.filter_eq_nil_iff]
  constructor
  · intro h i s hs hn
    have hin : s ∈ (woutBk b l).ss := in_wout hs hn (List.getElem?_eq_some_iff.1 hs).1
    obtain ⟨j, hj, e⟩ := List.getElem_of_mem hin
    have h1 := h j (List.mem_range.2 hj)
    unfold unfairB at h1 ⊢
    rw [hs]
    rw [List.getElem?_eq_getElem hj, e] at h1
    have h2 : ¬ (jk b (tl v) (tl v) s == 0) = true := h1
    simpa using h2
  · intro h j hj
    have hj := List.mem_range.1 hj
    unfold unfairB
    rw [List.getElem?_eq_getElem hj]
    obtain ⟨i, _, h2, h3⟩ := mem_wout (List.getElem_mem hj)
    have h4 := h i _ h2 h3
    unfold unfairB at h4
    rw [h2] at h4
    dsimp only at h4 ⊢
    show ¬ (jk b (tl v) (tl v) (woutBk b l).ss[j] == 0) = true
    rw [h4]; simp
theorem mem_U {b : Bk} {v : List Int} {x : Int} : x ∈ U b v ↔ ∃ i : Nat, i < b.ss.length ∧ unfairB b v i = true ∧ x = (i : Int) := by
  unfold U unfairL
  rw [List.mem_map]
  constructor
  · rintro ⟨i, hi, rfl⟩
    rw [List.mem_filter, List.mem_range] at hi
    exact ⟨i, hi.1, hi.2, rfl⟩
  · rintro ⟨i, h1, h2, rfl⟩
    exact ⟨i, List.mem_filter.2 ⟨List.mem_range.2 h1, h2⟩, rfl⟩
theorem U_rises (b : Bk) (v : List Int) : (U b v).Pairwise (· < ·) := by
  unfold U unfairL
  rw [List.pairwise_map]
  exact (List.pairwise_lt_range.sublist List.filter_sublist).imp (fun {a c} h => by omega)
theorem wrong_rises {b : Bk} (hv : bookB b = true) : risesB (b.ss.length : Int) 0 (wrongL b) = true := by
  obtain ⟨v, _, h⟩ := wrong_of hv
  rw [h]
  refine risesB_of _ _ (fun x hx => ?_) (U_rises b v)
  obtain ⟨i, hi, _, rfl⟩ := mem_U.1 hx
  omega
theorem sub_sorted : ∀ {l m : List Int}, l.Pairwise (· < ·) → m.Pairwise (· < ·) → (∀ x ∈ l, x ∈ m) → l.Sublist m
  | [], m, _, _, _ => List.nil_sublist m
  | a :: l, [], _, _, h => by have := h a (by simp); simp at this
  | a :: l, c :: m, hl, hm, h => by
    rw [List.pairwise_cons] at hl hm
    by_cases e : a = c
    · subst e
      refine List.Sublist.cons_cons a (sub_sorted hl.2 hm.2 (fun x hx => ?_))
      rcases List.mem_cons.1 (h x (by simp [hx])) with rfl | h2
      · have := hl.1 x hx; omega
      · exact h2
    · have ha : a ∈ m := by
        rcases List.mem_cons.1 (h a (by simp)) with h2 | h2
        · exact absurd h2 e
        · exact h2
      refine List.Sublist.cons c (sub_sorted (List.pairwise_cons.2 hl) hm.2 (fun x hx => ?_))
      rcases List.mem_cons.1 hx with rfl | hx
      · exact ha
      · rcases List.mem_cons.1 (h x (by simp [hx])) with rfl | h2
        · have := hl.1 x hx; have := hm.1 a ha; omega
        · exact h2
/-- Without the shots that are told all can be fair together. -/
theorem wrong_rest {b : Bk} (hv : bookB b = true) : wrongL (woutBk b (wrongL b)) = [] := by
  obtain ⟨v, h1, h2⟩ := wrong_of hv
  have h3 : U (woutBk b (wrongL b)) v = [] := U_nil.2 (fun i s hs hn => by
    cases hu : unfairB b v i with
    | false => rfl
    | true => exact absurd (by rw [h2]; exact mem_U.2 ⟨i, (List.getElem?_eq_some_iff.1 hs).1, hu, rfl⟩) hn)
  have h4 := wrong_min (b := woutBk b (wrongL b)) (v := v) h1
  rw [h3] at h4
  exact List.length_eq_zero_iff.1 (by simpa using h4)
/-- Without others, that are fewer, or as many and before, they cannot. -/
theorem wrong_less {b : Bk} (hv : bookB b = true) {o : List Int} (ho : o.Pairwise (· < ·)) (hf : fewerB o (wrongL b) = true) : 0 < (wrongL (woutBk b o)).length := by
  rcases Nat.eq_zero_or_pos (wrongL (woutBk b o)).length with h0 | h0
  · exfalso
    obtain ⟨v, h1, h2⟩ := wrong_of (wout_ok hv o)
    rw [List.length_eq_zero_iff.1 h0] at h2
    have h3 := U_nil.1 h2.symm
    have hsub : (U b v).Sublist o := sub_sorted (U_rises b v) ho (fun x hx => by
      obtain ⟨i, hi, hu, rfl⟩ := mem_U.1 hx
      obtain ⟨s, hs⟩ := get_some b.ss i hi
      by_cases hm : (i : Int) ∈ o
      · exact hm
      · rw [h3 i s hs hm] at hu; cases hu)
    have hle := hsub.length_le
    have hb : fewerB (U b v) (wrongL b) = false := (bestOf_le (U b (b.bs.map Prod.fst)) ((allT b).map (U b))).2 _ (List.mem_map.2 ⟨_, (show v ∈ allT b from h1), rfl⟩)
    rcases Nat.lt_or_ge (U b v).length o.length with hl | hl
    · have : fewerB (U b v) (wrongL b) = true := by
        simp only [fewerB, Bool.or_eq_true, Bool.and_eq_true, decide_eq_true_eq] at hf ⊢
        left
        rcases hf with hf | hf <;> omega
      rw [hb] at this; cases this
    · have e := hsub.eq_of_length (by omega)
      rw [e, hf] at hb; cases hb
  · exact h0
theorem allT_ends {b : Bk} {v : List Int} (h : v ∈ allT b) (m : Int) : cnt (b.bs.map Prod.snd) m ≤ cnt v m ∧ cnt v m ≤ cnt (b.bs.map Prod.fst) m := by
  have hl := allT_len h
  unfold allT at h
  rw [mem_prodL] at h
  have hbd : ∀ (i : Nat) (x lo hi : Int), v[i]? = some x → b.bs[i]? = some (lo, hi) → lo ≤ x ∧ x ≤ hi := fun i x lo hi hx hb => by
    have := h.2 i x (mins lo hi) hx (by unfold MS; rw [List.getElem?_map, hb]; rfl)
    exact mem_mins this
  constructor
  · refine cnt_each _ _ (by simp [hl]) (fun i x y hx hy => ?_) m
    rw [List.getElem?_map, Option.map_eq_some_iff] at hx
    obtain ⟨⟨lo, hi⟩, hx, rfl⟩ := hx
    exact (hbd i y lo hi hy hx).2
  · refine cnt_each _ _ (by simp [hl]) (fun i x y hx hy => ?_) m
    rw [List.getElem?_map, Option.map_eq_some_iff] at hy
    obtain ⟨⟨lo, hi⟩, hy, rfl⟩ := hy
    exact (hbd i x lo hi hx hy).1
/-- A shot that is fair in no truth is told. -/
theorem wrong_none {b : Bk} (hv : bookB b = true) {k : Nat} {s : Shot} (hs : b.ss[k]? = some s) {st : Nat} (hst : s.st = st)
    (hK : kindOf (fun t => ownf b.os st t == s.co) (seg (cnt (lateL b.bs) s.lo) (cnt (soonL b.bs) s.hi)) = 0) : (k : Int) ∈ wrongL b := by
  obtain ⟨v, h1, h2⟩ := wrong_of hv
  rw [h2]
  refine mem_U.2 ⟨k, (List.getElem?_eq_some_iff.1 hs).1, ?_, rfl⟩
  obtain ⟨-, -, m1⟩ := bookB_shot hv hs
  unfold Mom at m1
  have h4 := (bookB_bounds hv).1
  have hl := allT_len h1
  unfold unfairB
  rw [hs]
  dsimp only
  unfold jk
  have e : s.st.toNat = st := by rw [hst]; rfl
  rw [e]
  have a1 : cnt (lateL b.bs) s.lo = cnt (b.bs.map Prod.snd) s.lo := by rw [late_tl]; exact cnt_tl _ (by simpa using h4) _ (by omega)
  have a2 : cnt (soonL b.bs) s.hi = cnt (b.bs.map Prod.fst) s.hi := by rw [soon_tl]; exact cnt_tl _ (by simpa using h4) _ (by omega)
  have a3 : cnt (tl v) s.lo = cnt v s.lo := cnt_tl _ (by omega) _ (by omega)
  have a4 : cnt (tl v) s.hi = cnt v s.hi := cnt_tl _ (by omega) _ (by omega)
  rw [a1, a2] at hK
  rw [a3, a4]
  have g1 := (allT_ends h1 s.lo).1
  have g2 := (allT_ends h1 s.hi).2
  have g3 := cnt_mono v s.lo s.hi (by omega)
  rw [kind_sub (m := seg (cnt (b.bs.map Prod.snd) s.lo) (cnt (b.bs.map Prod.fst) s.hi)) (x := cnt v s.lo) (mem_seg.2 ⟨Nat.le_refl _, g3⟩) (fun y hy => by rw [mem_seg] at hy; exact mem_seg.2 ⟨by omega, by omega⟩) (by rw [hK]; decide), hK]
  rfl
end Go.Proofs.YtmnbfjphndgmnaaDoor

namespace Go.Proofs.YtmnbfjphndgmnaaDoor
open Go Go.RowKit

theorem Wrong_list (p1 p2 p3 : Option Addr) (c1 c2 c3 l1 l2 l3 : Nat) (m : Int) (b : Bk) (L : List Int) (n : Nat) (w : World) (hb : BkAt w ⟨p1, c1, p2, c2, p3, c3⟩ b) (hv : bookB b = true) (hn : NB w) (hL : wrongL b = L) (hl : L.length = n)
    (e0 : b.n = m) (e1 : b.bs.length = l1) (e2 : b.os.length = l2) (e3 : b.ss.length = l3) :
    Calls Tryd.prog 21 #[.agg #[.int .i64 m, .slice p1 l1 c1, .slice p2 l2 c2, .slice p3 l3 c3]] w (OneList w L n) := by
  subst e0 e1 e2 e3 hl hL; exact Wrong_yes ⟨p1, c1, p2, c2, p3, c3⟩ b w hb hv hn
theorem run_len {o : Oper} {w : World} {s : Nat} {p : Option Addr} {n c : Nat} (ρ : Operand → Value) (hop : o.op = .call { callee := .builtin .len, args := #[.tmp s], argTypes := #[24] }) (hs : ρ (.tmp s) = .slice p n c) :
    (execOp ρ o).run Tryd.prog w = .ok (.value (.int .i64 n)) w := by
  unfold execOp
  simp [hop, hs, go_sem]
theorem run_shl {o : Oper} {w : World} {s n : Nat} (ρ : Operand → Value) (hop : o.op = .binOp .shl 3 (.const (.int .i64 1)) (.tmp s) 3) (hs : ρ (.tmp s) = .int .i64 n) (hn : n ≤ 5) (hc : ρ (.const (.int .i64 1)) = .int .i64 1 := by rfl) :
    (execOp ρ o).run Tryd.prog w = .ok (.value (.int .i64 ((2 ^ n : Nat) : Int))) w := by
  unfold execOp
  rcases (show n = 0 ∨ n = 1 ∨ n = 2 ∨ n = 3 ∨ n = 4 ∨ n = 5 by omega) with rfl | rfl | rfl | rfl | rfl | rfl <;> simp [hop, hs, hc, go_sem] <;> rfl
/-- What the operations leave that choose some shots. -/
def bitsR (n : Int) (gb : Nat) (ps : Option Addr) (ns cs z : Nat) (i : Nat) (u : Value) (w : World) : Prop :=
  match i with
  | 0 => u = .int .i64 n
  | 1 => u = .pointer (some ⟨gb, 3, none⟩)
  | 2 => u = .slice ps ns cs
  | 3 => u = .int .i64 ns
  | 4 => u = .int .i64 ((2 ^ ns : Nat) : Int)
  | 5 => u = .int .i64 z
  | 6 => u = .pointer (some ⟨gb, 3, none⟩)
  | 7 => u = .slice ps ns cs
  | 8 => u = .int .i64 ns
  | 9 => ∃ (L : List Int) (p : Option Addr) (c : Nat), u = .slice p L.length c ∧ IntsAt w p L ∧ L.Pairwise (· < ·) ∧ L.length ≤ ns
  | _ => True
theorem bitsR_kept (n : Int) (gb : Nat) (ps : Option Addr) (ns cs z : Nat) : ∀ (i : Nat), i < 10 → ∀ (u : Value) (w w' : World), bitsR n gb ps ns cs z i u w → Below w.heap.size w w' → bitsR n gb ps ns cs z i u w' := by
  intro i hi u w w' h hb
  rcases (show i = 0 ∨ i = 1 ∨ i = 2 ∨ i = 3 ∨ i = 4 ∨ i = 5 ∨ i = 6 ∨ i = 7 ∨ i = 8 ∨ i = 9 by omega) with hi0 | hi0 | hi0 | hi0 | hi0 | hi0 | hi0 | hi0 | hi0 | hi0
  all_goals subst hi0
  all_goals first
    | exact h
    | (obtain ⟨L, p, c, h1, h2, h3, h4⟩ := h; exact ⟨L, p, c, h1, h2.below hb, h3, h4⟩)

set_option maxRecDepth 100000 in
set_option maxHeartbeats 4000000 in
theorem TurnWrong_bad (h : Hd) (b : Bk) (n0 : Int) (w : World) (hb : BkAt w h b) (hv : bookB b = false) (hn : NB w) :
    Calls Tryd.prog 6 #[.agg #[.int .i64 b.n, .slice h.pb b.bs.length h.cb, .slice h.po b.os.length h.co, .slice h.ps b.ss.length h.cs], .int .i64 n0] w fun e w' => e = .returned (.bool true) ∧ ∃ x, w' = ext w x := by
  have HB := Lib.hid hb
  have HN := Lib.hid hn
  clear hb hn
  go_enter Tryd.func6, Tryd.ntmps6
  go_upto_region 2 with (go_at_call 21; refine (Wrong_bad h b _ (HB.out.below (by (repeat (first | (with_reducible exact Below.refl _ _) | (with_reducible assumption) | ((with_reducible refine below_ext_trans ?_ ?_ _); rotate_left; focus (((try dsimp only); repeat (first | omega | simp only [World.size_alloc, World.size_setCell, World.size_drew] | (with_reducible refine le_ext_of ?_) | (with_reducible refine le_ext_add ?_))); done)) | ((with_reducible refine Below.alloc ?_ ?_ _); rotate_left; focus (((try dsimp only); repeat (first | omega | simp only [World.size_alloc, World.size_setCell, World.size_drew] | (with_reducible refine le_ext_of ?_) | (with_reducible refine le_ext_add ?_))); done)) | ((with_reducible refine Below.setCell ?_ ?_ _); rotate_left; focus (((try dsimp only); repeat (first | omega | simp only [World.size_alloc, World.size_setCell, World.size_drew] | (with_reducible refine le_ext_of ?_) | (with_reducible refine le_ext_add ?_))); done)) | (with_reducible refine Below.drew ?_))))) hv).mono ?_; rintro e w1 ⟨rfl, y0, rfl⟩)
  go_upto_region 3 with (go_at_call 12; refine (sound_no h b _ (HB.out.below (by (repeat (first | (with_reducible exact Below.refl _ _) | (with_reducible assumption) | ((with_reducible refine below_ext_trans ?_ ?_ _); rotate_left; focus (((try dsimp only); repeat (first | omega | simp only [World.size_alloc, World.size_setCell, World.size_drew] | (with_reducible refine le_ext_of ?_) | (with_reducible refine le_ext_add ?_))); done)) | ((with_reducible refine Below.alloc ?_ ?_ _); rotate_left; focus (((try dsimp only); repeat (first | omega | simp only [World.size_alloc, World.size_setCell, World.size_drew] | (with_reducible refine le_ext_of ?_) | (with_reducible refine le_ext_add ?_))); done)) | ((with_reducible refine Below.setCell ?_ ?_ _); rotate_left; focus (((try dsimp only); repeat (first | omega | simp only [World.size_alloc, World.size_setCell, World.size_drew] | (with_reducible refine le_ext_of ?_) | (with_reducible refine le_ext_add ?_))); done)) | (with_reducible refine Below.drew ?_))))) hv).mono ?_; rintro e w1 ⟨rfl, y1, rfl⟩)
  go_wp2_with (go_at_call 13; refine (shot_any _ (HN.out.below (by (repeat (first | (with_reducible exact Below.refl _ _) | (with_reducible assumption) | ((with_reducible refine below_ext_trans ?_ ?_ _); rotate_left; focus (((try dsimp only); repeat (first | omega | simp only [World.size_alloc, World.size_setCell, World.size_drew] | (with_reducible refine le_ext_of ?_) | (with_reducible refine le_ext_add ?_))); done)) | ((with_reducible refine Below.alloc ?_ ?_ _); rotate_left; focus (((try dsimp only); repeat (first | omega | simp only [World.size_alloc, World.size_setCell, World.size_drew] | (with_reducible refine le_ext_of ?_) | (with_reducible refine le_ext_add ?_))); done)) | ((with_reducible refine Below.setCell ?_ ?_ _); rotate_left; focus (((try dsimp only); repeat (first | omega | simp only [World.size_alloc, World.size_setCell, World.size_drew] | (with_reducible refine le_ext_of ?_) | (with_reducible refine le_ext_add ?_))); done)) | (with_reducible refine Below.drew ?_)))))).mono ?_; rintro e w1 ⟨rfl, y, rfl⟩)
  go_ret
  exact ⟨rfl, by (exact ext_of (by (repeat (first | (with_reducible exact Below.refl _ _) | (with_reducible assumption) | ((with_reducible refine below_ext_trans ?_ ?_ _); rotate_left; focus (((try dsimp only); repeat (first | omega | simp only [World.size_alloc, World.size_setCell, World.size_drew] | (with_reducible refine le_ext_of ?_) | (with_reducible refine le_ext_add ?_))); done)) | ((with_reducible refine Below.alloc ?_ ?_ _); rotate_left; focus (((try dsimp only); repeat (first | omega | simp only [World.size_alloc, World.size_setCell, World.size_drew] | (with_reducible refine le_ext_of ?_) | (with_reducible refine le_ext_add ?_))); done)) | ((with_reducible refine Below.setCell ?_ ?_ _); rotate_left; focus (((try dsimp only); repeat (first | omega | simp only [World.size_alloc, World.size_setCell, World.size_drew] | (with_reducible refine le_ext_of ?_) | (with_reducible refine le_ext_add ?_))); done)) | (with_reducible refine Below.drew ?_)))))⟩

set_option maxRecDepth 100000 in
set_option maxHeartbeats 16000000 in
theorem TurnWrong_yes (h : Hd) (b : Bk) (n0 : Int) (w : World) (hb : BkAt w h b) (hv : bookB b = true) (hn : NB w) :
    Calls Tryd.prog 6 #[.agg #[.int .i64 b.n, .slice h.pb b.bs.length h.cb, .slice h.po b.os.length h.co, .slice h.ps b.ss.length h.cs], .int .i64 n0] w fun e w' => e = .returned (.bool true) ∧ ∃ x, w' = ext w x := by
  obtain ⟨pb, cb, po, co, ps, cs⟩ := h
  dsimp only
  have hs5 := bookB_ss hv
  obtain ⟨L, hL⟩ : ∃ L, wrongL b = L := ⟨_, rfl⟩
  obtain ⟨nw, hnw⟩ : ∃ nw, L.length = nw := ⟨_, rfl⟩
  have HLR := Lib.hid (show risesB (b.ss.length : Int) 0 L = true by rw [← hL]; exact wrong_rises hv)
  have HLL := Lib.hid (show (L.length : Int) ≤ 1000 by rw [← hL]; have := wrongOf_len b (allT b); unfold wrongL; omega)
  have hz0 : (0 : Int) ≤ n0 % ((2 ^ b.ss.length : Nat) : Int) := Int.emod_nonneg _ (by have := Nat.two_pow_pos b.ss.length; omega)
  have hz1 : n0 % ((2 ^ b.ss.length : Nat) : Int) < ((2 ^ b.ss.length : Nat) : Int) := Int.emod_lt_of_pos _ (by have := Nat.two_pow_pos b.ss.length; omega)
  have hpow : (2 ^ b.ss.length : Nat) ≤ 32 := by have := Nat.pow_le_pow_right (show 0 < 2 by omega) hs5; omega
  obtain ⟨z, ez⟩ := Int.eq_ofNat_of_zero_le hz0
  have HZ := Lib.hid ez
  have HZ1 := Lib.hid (show 1 ≤ ((2 ^ b.ss.length : Nat) : Int) ∧ ((2 ^ b.ss.length : Nat) : Int) ≤ 1000000 by have := Nat.two_pow_pos b.ss.length; omega)
  have HZ2 := Lib.hid (show z < 32 by omega)
  have HB := Lib.hid hb
  have HN := Lib.hid hn
  have HV := Lib.hid hv
  have HL := Lib.hid hL
  have HNW := Lib.hid hnw
  clear hb hn hv hL hnw hz0 hz1 hpow ez
  go_enter Tryd.func6, Tryd.ntmps6
  go_upto_region 1 with fail
  generalize hW1 : w.alloc _ = W1
  have hB1 : Below w.heap.size w W1 := by rw [← hW1]; (repeat (first | (with_reducible exact Below.refl _ _) | (with_reducible assumption) | ((with_reducible refine below_ext_trans ?_ ?_ _); rotate_left; focus (((try dsimp only); repeat (first | omega | simp only [World.size_alloc, World.size_setCell, World.size_drew] | (with_reducible refine le_ext_of ?_) | (with_reducible refine le_ext_add ?_))); done)) | ((with_reducible refine Below.alloc ?_ ?_ _); rotate_left; focus (((try dsimp only); repeat (first | omega | simp only [World.size_alloc, World.size_setCell, World.size_drew] | (with_reducible refine le_ext_of ?_) | (with_reducible refine le_ext_add ?_))); done)) | ((with_reducible refine Below.setCell ?_ ?_ _); rotate_left; focus (((try dsimp only); repeat (first | omega | simp only [World.size_alloc, World.size_setCell, World.size_drew] | (with_reducible refine le_ext_of ?_) | (with_reducible refine le_ext_add ?_))); done)) | (with_reducible refine Below.drew ?_)))
  have kb1 : Blk W1 w.heap.size 26 #[.int .i64 b.n, .slice pb b.bs.length cb, .slice po b.os.length co, .slice ps b.ss.length cs] := by rw [← hW1]; exact Blk.new rfl
  have HB1 := Lib.hid (HB.out.below hB1)
  have HN1 := Lib.hid (HN.out.below hB1)
  have HW1 := Lib.hid hB1
  have d0 := kb1.cell 0
  have d1 := kb1.cell 1
  have d2 := kb1.cell 2
  have d3 := kb1.cell 3
  simp only [List.size_toArray, List.length_cons, List.length_nil, Nat.reduceAdd, Nat.reduceLT, getElem?_pos, List.getElem_toArray, List.getElem_cons_zero, List.getElem_cons_succ] at d0 d1 d2 d3
  have kl := kb1.lt
  have KB1 := Lib.hid kb1
  clear hW1 hB1 kb1
  go_upto_region 2 with (go_at_call 21; refine (Wrong_list pb po ps cb co cs _ _ _ _ b L nw _ (HB1.out.below (by (repeat (first | (with_reducible exact Below.refl _ _) | (with_reducible assumption) | ((with_reducible refine below_ext_trans ?_ ?_ _); rotate_left; focus (((try dsimp only); repeat (first | omega | simp only [World.size_alloc, World.size_setCell, World.size_drew] | (with_reducible refine le_ext_of ?_) | (with_reducible refine le_ext_add ?_))); done)) | ((with_reducible refine Below.alloc ?_ ?_ _); rotate_left; focus (((try dsimp only); repeat (first | omega | simp only [World.size_alloc, World.size_setCell, World.size_drew] | (with_reducible refine le_ext_of ?_) | (with_reducible refine le_ext_add ?_))); done)) | ((with_reducible refine Below.setCell ?_ ?_ _); rotate_left; focus (((try dsimp only); repeat (first | omega | simp only [World.size_alloc, World.size_setCell, World.size_drew] | (with_reducible refine le_ext_of ?_) | (with_reducible refine le_ext_add ?_))); done)) | (with_reducible refine Below.drew ?_))))) HV.out (HN1.out.below (by (repeat (first | (with_reducible exact Below.refl _ _) | (with_reducible assumption) | ((with_reducible refine below_ext_trans ?_ ?_ _); rotate_left; focus (((try dsimp only); repeat (first | omega | simp only [World.size_alloc, World.size_setCell, World.size_drew] | (with_reducible refine le_ext_of ?_) | (with_reducible refine le_ext_add ?_))); done)) | ((with_reducible refine Below.alloc ?_ ?_ _); rotate_left; focus (((try dsimp only); repeat (first | omega | simp only [World.size_alloc, World.size_setCell, World.size_drew] | (with_reducible refine le_ext_of ?_) | (with_reducible refine le_ext_add ?_))); done)) | ((with_reducible refine Below.setCell ?_ ?_ _); rotate_left; focus (((try dsimp only); repeat (first | omega | simp only [World.size_alloc, World.size_setCell, World.size_drew] | (with_reducible refine le_ext_of ?_) | (with_reducible refine le_ext_add ?_))); done)) | (with_reducible refine Below.drew ?_))))) HL.out HNW.out rfl rfl rfl rfl).mono ?_; rintro e w1 ⟨pw, cw, rfl, hIw, y1, rfl⟩; (try simp only [ext_ext] at hIw); have HIW2 := Lib.hid hIw; clear hIw)
  have hB2 : Below W1.heap.size W1 (ext W1 y1) := by (repeat (first | (with_reducible exact Below.refl _ _) | (with_reducible assumption) | ((with_reducible refine below_ext_trans ?_ ?_ _); rotate_left; focus (((try dsimp only); repeat (first | omega | simp only [World.size_alloc, World.size_setCell, World.size_drew] | (with_reducible refine le_ext_of ?_) | (with_reducible refine le_ext_add ?_))); done)) | ((with_reducible refine Below.alloc ?_ ?_ _); rotate_left; focus (((try dsimp only); repeat (first | omega | simp only [World.size_alloc, World.size_setCell, World.size_drew] | (with_reducible refine le_ext_of ?_) | (with_reducible refine le_ext_add ?_))); done)) | ((with_reducible refine Below.setCell ?_ ?_ _); rotate_left; focus (((try dsimp only); repeat (first | omega | simp only [World.size_alloc, World.size_setCell, World.size_drew] | (with_reducible refine le_ext_of ?_) | (with_reducible refine le_ext_add ?_))); done)) | (with_reducible refine Below.drew ?_)))
  generalize ext W1 y1 = W2 at *
  have kb2 := KB1.out.bel hB2
  have HB2 := Lib.hid (HB1.out.below hB2)
  have HN2 := Lib.hid (HN1.out.below hB2)
  have HW2 := Lib.hid (HW1.out.trans (hB2.mono HW1.out.size))
  clear d0 d1 d2 d3 kl
  have d0 := kb2.cell 0
  have d1 := kb2.cell 1
  have d2 := kb2.cell 2
  have d3 := kb2.cell 3
  simp only [List.size_toArray, List.length_cons, List.length_nil, Nat.reduceAdd, Nat.reduceLT, getElem?_pos, List.getElem_toArray, List.getElem_cons_zero, List.getElem_cons_succ] at d0 d1 d2 d3
  have kl := kb2.lt
  have KB2 := Lib.hid kb2
  clear hB2 kb2 KB1 HB1 HN1 HW1
  go_upto_region 3 with (go_at_call 12; refine (sound_yes ⟨pb, cb, po, co, ps, cs⟩ b _ (HB2.out.below (by (repeat (first | (with_reducible exact Below.refl _ _) | (with_reducible assumption) | ((with_reducible refine below_ext_trans ?_ ?_ _); rotate_left; focus (((try dsimp only); repeat (first | omega | simp only [World.size_alloc, World.size_setCell, World.size_drew] | (with_reducible refine le_ext_of ?_) | (with_reducible refine le_ext_add ?_))); done)) | ((with_reducible refine Below.alloc ?_ ?_ _); rotate_left; focus (((try dsimp only); repeat (first | omega | simp only [World.size_alloc, World.size_setCell, World.size_drew] | (with_reducible refine le_ext_of ?_) | (with_reducible refine le_ext_add ?_))); done)) | ((with_reducible refine Below.setCell ?_ ?_ _); rotate_left; focus (((try dsimp only); repeat (first | omega | simp only [World.size_alloc, World.size_setCell, World.size_drew] | (with_reducible refine le_ext_of ?_) | (with_reducible refine le_ext_add ?_))); done)) | (with_reducible refine Below.drew ?_))))) HV.out).mono ?_; rintro e w1 ⟨rfl, y2, rfl⟩)
  go_upto_region 6 with (go_at_call 19; refine (Rises_ext pw cw L nw _ _ HNW.out (HIW2.out.below (by (repeat (first | (with_reducible exact Below.refl _ _) | (with_reducible assumption) | ((with_reducible refine below_ext_trans ?_ ?_ _); rotate_left; focus (((try dsimp only); repeat (first | omega | simp only [World.size_alloc, World.size_setCell, World.size_drew] | (with_reducible refine le_ext_of ?_) | (with_reducible refine le_ext_add ?_))); done)) | ((with_reducible refine Below.alloc ?_ ?_ _); rotate_left; focus (((try dsimp only); repeat (first | omega | simp only [World.size_alloc, World.size_setCell, World.size_drew] | (with_reducible refine le_ext_of ?_) | (with_reducible refine le_ext_add ?_))); done)) | ((with_reducible refine Below.setCell ?_ ?_ _); rotate_left; focus (((try dsimp only); repeat (first | omega | simp only [World.size_alloc, World.size_setCell, World.size_drew] | (with_reducible refine le_ext_of ?_) | (with_reducible refine le_ext_add ?_))); done)) | (with_reducible refine Below.drew ?_))))) HLL.out (by omega) (by omega) HLR.out).mono ?_; rintro e w1 ⟨rfl, y3, rfl⟩)
  try simp only [ext_ext]
  have hB3 : Below W2.heap.size W2 (ext W2 (y2.comp y3)) := by (repeat (first | (with_reducible exact Below.refl _ _) | (with_reducible assumption) | ((with_reducible refine below_ext_trans ?_ ?_ _); rotate_left; focus (((try dsimp only); repeat (first | omega | simp only [World.size_alloc, World.size_setCell, World.size_drew] | (with_reducible refine le_ext_of ?_) | (with_reducible refine le_ext_add ?_))); done)) | ((with_reducible refine Below.alloc ?_ ?_ _); rotate_left; focus (((try dsimp only); repeat (first | omega | simp only [World.size_alloc, World.size_setCell, World.size_drew] | (with_reducible refine le_ext_of ?_) | (with_reducible refine le_ext_add ?_))); done)) | ((with_reducible refine Below.setCell ?_ ?_ _); rotate_left; focus (((try dsimp only); repeat (first | omega | simp only [World.size_alloc, World.size_setCell, World.size_drew] | (with_reducible refine le_ext_of ?_) | (with_reducible refine le_ext_add ?_))); done)) | (with_reducible refine Below.drew ?_)))
  generalize ext W2 (y2.comp y3) = W3 at *
  have kb3 := KB2.out.bel hB3
  have HB3 := Lib.hid (HB2.out.below hB3)
  have HN3 := Lib.hid (HN2.out.below hB3)
  have HW3 := Lib.hid (HW2.out.trans (hB3.mono HW2.out.size))
  have HIW3 := Lib.hid (HIW2.out.below hB3)
  clear d0 d1 d2 d3 kl
  have d0 := kb3.cell 0
  have d1 := kb3.cell 1
  have d2 := kb3.cell 2
  have d3 := kb3.cell 3
  simp only [List.size_toArray, List.length_cons, List.length_nil, Nat.reduceAdd, Nat.reduceLT, getElem?_pos, List.getElem_toArray, List.getElem_cons_zero, List.getElem_cons_succ] at d0 d1 d2 d3
  have kl := kb3.lt
  have KB3 := Lib.hid kb3
  clear hB3 kb3 KB2 HB2 HN2 HW2 HIW2
  go_wp2_with fail
  go_loopw [7] (fun i wr => ∃ j : Nat, j ≤ b.ss.length ∧ i = .int .i64 j ∧ ∃ x, wr = ext W3 x) (fun i _ => b.ss.length - (intOf i).toNat)
  case atStart => exact ⟨0, by omega, rfl, ext_of (Below.refl _ _)⟩
  case round =>
    obtain ⟨j, hj, rfl, y4, rfl⟩ := hrel
    have HB34 := Lib.hid (below_ext W3 y4)
    have hB4 : Below W3.heap.size W3 (ext W3 y4) := by (repeat (first | (with_reducible exact Below.refl _ _) | (with_reducible assumption) | ((with_reducible refine below_ext_trans ?_ ?_ _); rotate_left; focus (((try dsimp only); repeat (first | omega | simp only [World.size_alloc, World.size_setCell, World.size_drew] | (with_reducible refine le_ext_of ?_) | (with_reducible refine le_ext_add ?_))); done)) | ((with_reducible refine Below.alloc ?_ ?_ _); rotate_left; focus (((try dsimp only); repeat (first | omega | simp only [World.size_alloc, World.size_setCell, World.size_drew] | (with_reducible refine le_ext_of ?_) | (with_reducible refine le_ext_add ?_))); done)) | ((with_reducible refine Below.setCell ?_ ?_ _); rotate_left; focus (((try dsimp only); repeat (first | omega | simp only [World.size_alloc, World.size_setCell, World.size_drew] | (with_reducible refine le_ext_of ?_) | (with_reducible refine le_ext_add ?_))); done)) | (with_reducible refine Below.drew ?_)))
    generalize ext W3 y4 = W4 at *
    have kb4 := KB3.out.bel hB4
    have HB4 := Lib.hid (HB3.out.below hB4)
    have HN4 := Lib.hid (HN3.out.below hB4)
    have HW4 := Lib.hid (HW3.out.trans (hB4.mono HW3.out.size))
    have HIW4 := Lib.hid (HIW3.out.below hB4)
    clear d0 d1 d2 d3 kl
    have d0 := kb4.cell 0
    have d1 := kb4.cell 1
    have d2 := kb4.cell 2
    have d3 := kb4.cell 3
    simp only [List.size_toArray, List.length_cons, List.length_nil, Nat.reduceAdd, Nat.reduceLT, getElem?_pos, List.getElem_toArray, List.getElem_cons_zero, List.getElem_cons_succ] at d0 d1 d2 d3
    have kl := kb4.lt
    have KB4 := Lib.hid kb4
    clear hB4 kb4 KB3 HB3 HN3 HW3 HIW3
    by_cases hlt : j < b.ss.length
    · obtain ⟨s, hs⟩ := get_some b.ss j hlt
      obtain ⟨⟨g0, -⟩, -, -⟩ := bookB_shot HV.out hs
      obtain ⟨st, est⟩ := Int.eq_ofNat_of_zero_le g0
      obtain ⟨K, hK⟩ : ∃ K, kindOf (fun u => ownf b.os st u == s.co) (seg (cnt (lateL b.bs) s.lo) (cnt (soonL b.bs) s.hi)) = K := ⟨_, rfl⟩
      have HK0 := Lib.hid (fun (h : K = 0) => show (j : Int) ∈ L by rw [← HL.out]; exact wrong_none HV.out hs est (by rw [hK]; exact h))
      have HK := Lib.hid hK
      have HS := Lib.hid hs
      have EST := Lib.hid est
      have j0 : (0 : Int) ≤ (j : Int) := by omega
      have j1 : (j : Int) < (b.ss.length : Int) := by omega
      clear hs g0 est hK
      go_upto_region 10 with (go_at_call 22; refine (Fair_len' pb po ps cb co cs _ _ _ _ b j st s K _ (HB4.out.below (by (repeat (first | (with_reducible exact Below.refl _ _) | (with_reducible assumption) | ((with_reducible refine below_ext_trans ?_ ?_ _); rotate_left; focus (((try dsimp only); repeat (first | omega | simp only [World.size_alloc, World.size_setCell, World.size_drew] | (with_reducible refine le_ext_of ?_) | (with_reducible refine le_ext_add ?_))); done)) | ((with_reducible refine Below.alloc ?_ ?_ _); rotate_left; focus (((try dsimp only); repeat (first | omega | simp only [World.size_alloc, World.size_setCell, World.size_drew] | (with_reducible refine le_ext_of ?_) | (with_reducible refine le_ext_add ?_))); done)) | ((with_reducible refine Below.setCell ?_ ?_ _); rotate_left; focus (((try dsimp only); repeat (first | omega | simp only [World.size_alloc, World.size_setCell, World.size_drew] | (with_reducible refine le_ext_of ?_) | (with_reducible refine le_ext_add ?_))); done)) | (with_reducible refine Below.drew ?_))))) HV.out (HN4.out.below (by (repeat (first | (with_reducible exact Below.refl _ _) | (with_reducible assumption) | ((with_reducible refine below_ext_trans ?_ ?_ _); rotate_left; focus (((try dsimp only); repeat (first | omega | simp only [World.size_alloc, World.size_setCell, World.size_drew] | (with_reducible refine le_ext_of ?_) | (with_reducible refine le_ext_add ?_))); done)) | ((with_reducible refine Below.alloc ?_ ?_ _); rotate_left; focus (((try dsimp only); repeat (first | omega | simp only [World.size_alloc, World.size_setCell, World.size_drew] | (with_reducible refine le_ext_of ?_) | (with_reducible refine le_ext_add ?_))); done)) | ((with_reducible refine Below.setCell ?_ ?_ _); rotate_left; focus (((try dsimp only); repeat (first | omega | simp only [World.size_alloc, World.size_setCell, World.size_drew] | (with_reducible refine le_ext_of ?_) | (with_reducible refine le_ext_add ?_))); done)) | (with_reducible refine Below.drew ?_))))) HS.out EST.out HK.out rfl rfl rfl rfl).mono ?_; rintro e w1 ⟨rfl, y5, rfl⟩)
      by_cases hK1 : K = 0
      · have HJL := Lib.hid (HK0.out hK1)
        clear HK HK0
        subst hK1
        go_wp2_with (go_at_call 20; refine (Place_eq pw cw L nw j _ (HIW4.out.below (by (repeat (first | (with_reducible exact Below.refl _ _) | (with_reducible assumption) | ((with_reducible refine below_ext_trans ?_ ?_ _); rotate_left; focus (((try dsimp only); repeat (first | omega | simp only [World.size_alloc, World.size_setCell, World.size_drew] | (with_reducible refine le_ext_of ?_) | (with_reducible refine le_ext_add ?_))); done)) | ((with_reducible refine Below.alloc ?_ ?_ _); rotate_left; focus (((try dsimp only); repeat (first | omega | simp only [World.size_alloc, World.size_setCell, World.size_drew] | (with_reducible refine le_ext_of ?_) | (with_reducible refine le_ext_add ?_))); done)) | ((with_reducible refine Below.setCell ?_ ?_ _); rotate_left; focus (((try dsimp only); repeat (first | omega | simp only [World.size_alloc, World.size_setCell, World.size_drew] | (with_reducible refine le_ext_of ?_) | (with_reducible refine le_ext_add ?_))); done)) | (with_reducible refine Below.drew ?_))))) HLL.out HJL.out HNW.out).mono ?_; rintro e w1 ⟨kk, hkk, rfl, rfl⟩; clear hkk; have hkk0 : (0 : Int) ≤ (kk : Int) := by omega)
        go_roundw
        case rel => exact ⟨j + 1, by omega, by go_num, by refine ext_of (HB34.out.trans (Below.mono ?_ HB34.out.size)); (repeat (first | (with_reducible exact Below.refl _ _) | (with_reducible assumption) | ((with_reducible refine below_ext_trans ?_ ?_ _); rotate_left; focus (((try dsimp only); repeat (first | omega | simp only [World.size_alloc, World.size_setCell, World.size_drew] | (with_reducible refine le_ext_of ?_) | (with_reducible refine le_ext_add ?_))); done)) | ((with_reducible refine Below.alloc ?_ ?_ _); rotate_left; focus (((try dsimp only); repeat (first | omega | simp only [World.size_alloc, World.size_setCell, World.size_drew] | (with_reducible refine le_ext_of ?_) | (with_reducible refine le_ext_add ?_))); done)) | ((with_reducible refine Below.setCell ?_ ?_ _); rotate_left; focus (((try dsimp only); repeat (first | omega | simp only [World.size_alloc, World.size_setCell, World.size_drew] | (with_reducible refine le_ext_of ?_) | (with_reducible refine le_ext_add ?_))); done)) | (with_reducible refine Below.drew ?_)))⟩
        case measure => simp [intOf]; omega
      · have hK2 : (K == 0) = false := by simpa using hK1
        go_wp2_with fail
        go_roundw
        case rel => exact ⟨j + 1, by omega, by go_num, by refine ext_of (HB34.out.trans (Below.mono ?_ HB34.out.size)); (repeat (first | (with_reducible exact Below.refl _ _) | (with_reducible assumption) | ((with_reducible refine below_ext_trans ?_ ?_ _); rotate_left; focus (((try dsimp only); repeat (first | omega | simp only [World.size_alloc, World.size_setCell, World.size_drew] | (with_reducible refine le_ext_of ?_) | (with_reducible refine le_ext_add ?_))); done)) | ((with_reducible refine Below.alloc ?_ ?_ _); rotate_left; focus (((try dsimp only); repeat (first | omega | simp only [World.size_alloc, World.size_setCell, World.size_drew] | (with_reducible refine le_ext_of ?_) | (with_reducible refine le_ext_add ?_))); done)) | ((with_reducible refine Below.setCell ?_ ?_ _); rotate_left; focus (((try dsimp only); repeat (first | omega | simp only [World.size_alloc, World.size_setCell, World.size_drew] | (with_reducible refine le_ext_of ?_) | (with_reducible refine le_ext_add ?_))); done)) | (with_reducible refine Below.drew ?_)))⟩
        case measure => simp [intOf]; omega
    · obtain rfl : j = b.ss.length := by omega
      have HRS := Lib.hid (show (wrongL (woutBk b L)).length = 0 by rw [← HL.out, wrong_rest HV.out]; rfl)
      obtain ⟨n3, hn3⟩ : ∃ n3, (woutL b.ss L b.ss.length).length = n3 := ⟨_, rfl⟩
      have HN3 := Lib.hid hn3
      go_upto_region 13 with (first
        | (go_at_call 31; refine (without_any ⟨pb, cb, po, co, ps, cs⟩ b pw cw nw L _ (HB4.out.below (by (repeat (first | (with_reducible exact Below.refl _ _) | (with_reducible assumption) | ((with_reducible refine below_ext_trans ?_ ?_ _); rotate_left; focus (((try dsimp only); repeat (first | omega | simp only [World.size_alloc, World.size_setCell, World.size_drew] | (with_reducible refine le_ext_of ?_) | (with_reducible refine le_ext_add ?_))); done)) | ((with_reducible refine Below.alloc ?_ ?_ _); rotate_left; focus (((try dsimp only); repeat (first | omega | simp only [World.size_alloc, World.size_setCell, World.size_drew] | (with_reducible refine le_ext_of ?_) | (with_reducible refine le_ext_add ?_))); done)) | ((with_reducible refine Below.setCell ?_ ?_ _); rotate_left; focus (((try dsimp only); repeat (first | omega | simp only [World.size_alloc, World.size_setCell, World.size_drew] | (with_reducible refine le_ext_of ?_) | (with_reducible refine le_ext_add ?_))); done)) | (with_reducible refine Below.drew ?_))))) hs5 (HIW4.out.below (by (repeat (first | (with_reducible exact Below.refl _ _) | (with_reducible assumption) | ((with_reducible refine below_ext_trans ?_ ?_ _); rotate_left; focus (((try dsimp only); repeat (first | omega | simp only [World.size_alloc, World.size_setCell, World.size_drew] | (with_reducible refine le_ext_of ?_) | (with_reducible refine le_ext_add ?_))); done)) | ((with_reducible refine Below.alloc ?_ ?_ _); rotate_left; focus (((try dsimp only); repeat (first | omega | simp only [World.size_alloc, World.size_setCell, World.size_drew] | (with_reducible refine le_ext_of ?_) | (with_reducible refine le_ext_add ?_))); done)) | ((with_reducible refine Below.setCell ?_ ?_ _); rotate_left; focus (((try dsimp only); repeat (first | omega | simp only [World.size_alloc, World.size_setCell, World.size_drew] | (with_reducible refine le_ext_of ?_) | (with_reducible refine le_ext_add ?_))); done)) | (with_reducible refine Below.drew ?_))))) HLL.out HNW.out).mono ?_; rintro e w1 ⟨p3, c3, rfl, hsh, y5, rfl⟩; rw [hn3]; have HSH := Lib.hid hsh; clear hsh)
        | (go_at_call 21; refine (Wrong_len pb po p3 cb co c3 _ _ _ _ (woutBk b L) 0 _ (⟨(HB4.out.below (by (repeat (first | (with_reducible exact Below.refl _ _) | (with_reducible assumption) | ((with_reducible refine below_ext_trans ?_ ?_ _); rotate_left; focus (((try dsimp only); repeat (first | omega | simp only [World.size_alloc, World.size_setCell, World.size_drew] | (with_reducible refine le_ext_of ?_) | (with_reducible refine le_ext_add ?_))); done)) | ((with_reducible refine Below.alloc ?_ ?_ _); rotate_left; focus (((try dsimp only); repeat (first | omega | simp only [World.size_alloc, World.size_setCell, World.size_drew] | (with_reducible refine le_ext_of ?_) | (with_reducible refine le_ext_add ?_))); done)) | ((with_reducible refine Below.setCell ?_ ?_ _); rotate_left; focus (((try dsimp only); repeat (first | omega | simp only [World.size_alloc, World.size_setCell, World.size_drew] | (with_reducible refine le_ext_of ?_) | (with_reducible refine le_ext_add ?_))); done)) | (with_reducible refine Below.drew ?_))))).bs, (HB4.out.below (by (repeat (first | (with_reducible exact Below.refl _ _) | (with_reducible assumption) | ((with_reducible refine below_ext_trans ?_ ?_ _); rotate_left; focus (((try dsimp only); repeat (first | omega | simp only [World.size_alloc, World.size_setCell, World.size_drew] | (with_reducible refine le_ext_of ?_) | (with_reducible refine le_ext_add ?_))); done)) | ((with_reducible refine Below.alloc ?_ ?_ _); rotate_left; focus (((try dsimp only); repeat (first | omega | simp only [World.size_alloc, World.size_setCell, World.size_drew] | (with_reducible refine le_ext_of ?_) | (with_reducible refine le_ext_add ?_))); done)) | ((with_reducible refine Below.setCell ?_ ?_ _); rotate_left; focus (((try dsimp only); repeat (first | omega | simp only [World.size_alloc, World.size_setCell, World.size_drew] | (with_reducible refine le_ext_of ?_) | (with_reducible refine le_ext_add ?_))); done)) | (with_reducible refine Below.drew ?_))))).os, HSH.out.below (by (repeat (first | (with_reducible exact Below.refl _ _) | (with_reducible assumption) | ((with_reducible refine below_ext_trans ?_ ?_ _); rotate_left; focus (((try dsimp only); repeat (first | omega | simp only [World.size_alloc, World.size_setCell, World.size_drew] | (with_reducible refine le_ext_of ?_) | (with_reducible refine le_ext_add ?_))); done)) | ((with_reducible refine Below.alloc ?_ ?_ _); rotate_left; focus (((try dsimp only); repeat (first | omega | simp only [World.size_alloc, World.size_setCell, World.size_drew] | (with_reducible refine le_ext_of ?_) | (with_reducible refine le_ext_add ?_))); done)) | ((with_reducible refine Below.setCell ?_ ?_ _); rotate_left; focus (((try dsimp only); repeat (first | omega | simp only [World.size_alloc, World.size_setCell, World.size_drew] | (with_reducible refine le_ext_of ?_) | (with_reducible refine le_ext_add ?_))); done)) | (with_reducible refine Below.drew ?_))))⟩) (wout_ok HV.out L) (HN4.out.below (by (repeat (first | (with_reducible exact Below.refl _ _) | (with_reducible assumption) | ((with_reducible refine below_ext_trans ?_ ?_ _); rotate_left; focus (((try dsimp only); repeat (first | omega | simp only [World.size_alloc, World.size_setCell, World.size_drew] | (with_reducible refine le_ext_of ?_) | (with_reducible refine le_ext_add ?_))); done)) | ((with_reducible refine Below.alloc ?_ ?_ _); rotate_left; focus (((try dsimp only); repeat (first | omega | simp only [World.size_alloc, World.size_setCell, World.size_drew] | (with_reducible refine le_ext_of ?_) | (with_reducible refine le_ext_add ?_))); done)) | ((with_reducible refine Below.setCell ?_ ?_ _); rotate_left; focus (((try dsimp only); repeat (first | omega | simp only [World.size_alloc, World.size_setCell, World.size_drew] | (with_reducible refine le_ext_of ?_) | (with_reducible refine le_ext_add ?_))); done)) | (with_reducible refine Below.drew ?_))))) HRS.out rfl rfl rfl HN3.out).mono ?_; rintro e w1 ⟨pr, cr, rfl, y6, rfl⟩))
      clear hn3 HSH HN3 HRS
      try simp only [ext_ext]
      have hB5 : Below W4.heap.size W4 (ext W4 (y5.comp y6)) := by (repeat (first | (with_reducible exact Below.refl _ _) | (with_reducible assumption) | ((with_reducible refine below_ext_trans ?_ ?_ _); rotate_left; focus (((try dsimp only); repeat (first | omega | simp only [World.size_alloc, World.size_setCell, World.size_drew] | (with_reducible refine le_ext_of ?_) | (with_reducible refine le_ext_add ?_))); done)) | ((with_reducible refine Below.alloc ?_ ?_ _); rotate_left; focus (((try dsimp only); repeat (first | omega | simp only [World.size_alloc, World.size_setCell, World.size_drew] | (with_reducible refine le_ext_of ?_) | (with_reducible refine le_ext_add ?_))); done)) | ((with_reducible refine Below.setCell ?_ ?_ _); rotate_left; focus (((try dsimp only); repeat (first | omega | simp only [World.size_alloc, World.size_setCell, World.size_drew] | (with_reducible refine le_ext_of ?_) | (with_reducible refine le_ext_add ?_))); done)) | (with_reducible refine Below.drew ?_)))
      generalize ext W4 (y5.comp y6) = W5 at *
      have kb5 := KB4.out.bel hB5
      have HB5 := Lib.hid (HB4.out.below hB5)
      have HN5 := Lib.hid (HN4.out.below hB5)
      have HW5 := Lib.hid (HW4.out.trans (hB5.mono HW4.out.size))
      have HIW5 := Lib.hid (HIW4.out.below hB5)
      clear d0 d1 d2 d3 kl
      have d0 := kb5.cell 0
      have d1 := kb5.cell 1
      have d2 := kb5.cell 2
      have d3 := kb5.cell 3
      simp only [List.size_toArray, List.length_cons, List.length_nil, Nat.reduceAdd, Nat.reduceLT, getElem?_pos, List.getElem_toArray, List.getElem_cons_zero, List.getElem_cons_succ] at d0 d1 d2 d3
      have kl := kb5.lt
      have KB5 := Lib.hid kb5
      clear hB5 kb5 KB4 HB4 HN4 HW4 HIW4
      refine wp_region_flow_back 10 117 (bitsR n0 w.heap.size ps b.ss.length cs z) (by kernel_rfl) (by kernel_rfl) rfl (bitsR_kept _ _ _ _ _ _) ?_ ?_
      · intro i hin a W h1 h2 h3 h4 h5 KK hKK
        rcases (show i = 0 ∨ i = 1 ∨ i = 2 ∨ i = 3 ∨ i = 4 ∨ i = 5 ∨ i = 6 ∨ i = 7 ∨ i = 8 ∨ i = 9 by omega) with hi0 | hi0 | hi0 | hi0 | hi0 | hi0 | hi0 | hi0 | hi0 | hi0
        · subst hi0
          exact st_move rfl rfl (wanted_none rfl) (h3 1 (by kernel_rfl)) (hKK _ _ rfl (Below.refl _ _))
        · subst hi0
          exact st_val rfl (wanted_none rfl) (run_shots _ rfl (h3 2 (by kernel_rfl)) (Nat.lt_of_lt_of_le KB5.out.lt h5.size)) (hKK _ _ rfl (Below.refl _ _))
        · subst hi0
          exact st_val rfl (wanted_none rfl) (run_slice_shots _ rfl (h4 1 (by kernel_rfl)) (Blk.cell (KB5.out.bel h5) 3)) (hKK _ _ rfl (Below.refl _ _))
        · subst hi0
          exact st_val rfl (wanted_none rfl) (run_len _ rfl (h4 2 (by kernel_rfl))) (hKK _ _ rfl (Below.refl _ _))
        · subst hi0
          exact st_val rfl (wanted_none rfl) (run_shl _ rfl (h4 3 (by kernel_rfl)) hs5) (hKK _ _ rfl (Below.refl _ _))
        · subst hi0
          refine st_call rfl rfl (wanted_none rfl) (args2 (h4 0 (by kernel_rfl)) (h4 4 (by kernel_rfl))) (run_enter Tryd.func14 (by kernel_rfl) (by kernel_rfl) _) ?_
          refine (Wheel_eq n0 _ z _ HZ1.out HZ.out).mono ?_
          rintro e w1 ⟨rfl, y9, rfl⟩
          exact ⟨_, rfl, hKK _ _ rfl (below_ext _ _)⟩
        · subst hi0
          exact st_val rfl (wanted_none rfl) (run_shots _ rfl (h3 2 (by kernel_rfl)) (Nat.lt_of_lt_of_le KB5.out.lt h5.size)) (hKK _ _ rfl (Below.refl _ _))
        · subst hi0
          exact st_val rfl (wanted_none rfl) (run_slice_shots _ rfl (h4 6 (by kernel_rfl)) (Blk.cell (KB5.out.bel h5) 3)) (hKK _ _ rfl (Below.refl _ _))
        · subst hi0
          exact st_val rfl (wanted_none rfl) (run_len _ rfl (h4 7 (by kernel_rfl))) (hKK _ _ rfl (Below.refl _ _))
        · subst hi0
          refine st_call rfl rfl (wanted_none rfl) (args2 (h4 5 (by kernel_rfl)) (h4 8 (by kernel_rfl))) (run_enter Tryd.func32 (by kernel_rfl) (by kernel_rfl) _) ?_
          refine (Bits_any z b.ss.length _ HZ2.out hs5).mono ?_
          rintro e w1 ⟨L2, p2, c2, rfl, hI2, hP2, -, hl2, y9, rfl⟩
          exact ⟨_, rfl, hKK _ _ ⟨L2, p2, c2, rfl, hI2, hP2, hl2⟩ (below_ext _ _)⟩
      intro vs W6 hvs hB6
      have v0 : vs 0 = _ := hvs 0 (by omega)
      have v1 : vs 1 = _ := hvs 1 (by omega)
      have v2 : vs 2 = _ := hvs 2 (by omega)
      have v3 : vs 3 = _ := hvs 3 (by omega)
      have v4 : vs 4 = _ := hvs 4 (by omega)
      have v5 : vs 5 = _ := hvs 5 (by omega)
      have v6 : vs 6 = _ := hvs 6 (by omega)
      have v7 : vs 7 = _ := hvs 7 (by omega)
      have v8 : vs 8 = _ := hvs 8 (by omega)
      obtain ⟨L2, p2, c2, v9, hI2, hP2, hl2⟩ := hvs 9 (by omega)
      simp only [putAll, v0, v1, v2, v3, v4, v5, v6, v7, v8, v9]
      clear v0 v1 v2 v3 v4 v5 v6 v7 v8 v9 hvs
      simp only [dstOf, Act.put, List.getElem?_toArray, List.getElem?_cons_zero, List.getElem?_cons_succ, Option.bind_some, Option.getD_some, List.setIfInBounds_toArray, List.set_cons_succ, List.set_cons_zero, List.drop_succ_cons, List.drop_zero]
      obtain ⟨m2, hm2⟩ : ∃ m2, L2.length = m2 := ⟨_, rfl⟩
      rw [hm2]
      have HM2 := Lib.hid hm2
      have HI6 := Lib.hid hI2
      have HP2 := Lib.hid hP2
      have hl2' : (L2.length : Int) ≤ 1000 := by omega
      have HL2L := Lib.hid hl2'
      have HM2L := Lib.hid (show (m2 : Int) ≤ 1000 by omega)
      clear hm2 hI2 hP2 hl2 hl2'
      have kb6 := KB5.out.bel hB6
      have HB6 := Lib.hid (HB5.out.below hB6)
      have HN6 := Lib.hid (HN5.out.below hB6)
      have HW6 := Lib.hid (HW5.out.trans (hB6.mono HW5.out.size))
      have HIW6 := Lib.hid (HIW5.out.below hB6)
      clear d0 d1 d2 d3 kl
      have d0 := kb6.cell 0
      have d1 := kb6.cell 1
      have d2 := kb6.cell 2
      have d3 := kb6.cell 3
      simp only [List.size_toArray, List.length_cons, List.length_nil, Nat.reduceAdd, Nat.reduceLT, getElem?_pos, List.getElem_toArray, List.getElem_cons_zero, List.getElem_cons_succ] at d0 d1 d2 d3
      have kl := kb6.lt
      have KB6 := Lib.hid kb6
      clear hB6 kb6 KB5 HB5 HN5 HW5 HIW5
      have HRO := Lib.hid (fun (h : fewerB L2 L = true) => show (0 : Int) < ((wrongL (woutBk b L2)).length : Int) by
        have := wrong_less HV.out HP2.out (by rw [HL.out]; exact h)
        omega)
      obtain ⟨n4, hn4⟩ : ∃ n4, (woutL b.ss L2 b.ss.length).length = n4 := ⟨_, rfl⟩
      have HN4' := Lib.hid hn4
      obtain ⟨nl, hnl⟩ : ∃ nl, (wrongL (woutBk b L2)).length = nl := ⟨_, rfl⟩
      have HNL := Lib.hid hnl
      rw [hnl] at HRO
      clear hnl
      go_upto_region 15 with (first
        | (go_at_call 31; refine (without_any ⟨pb, cb, po, co, ps, cs⟩ b p2 c2 m2 L2 _ (HB6.out.below (by (repeat (first | (with_reducible exact Below.refl _ _) | (with_reducible assumption) | ((with_reducible refine below_ext_trans ?_ ?_ _); rotate_left; focus (((try dsimp only); repeat (first | omega | simp only [World.size_alloc, World.size_setCell, World.size_drew] | (with_reducible refine le_ext_of ?_) | (with_reducible refine le_ext_add ?_))); done)) | ((with_reducible refine Below.alloc ?_ ?_ _); rotate_left; focus (((try dsimp only); repeat (first | omega | simp only [World.size_alloc, World.size_setCell, World.size_drew] | (with_reducible refine le_ext_of ?_) | (with_reducible refine le_ext_add ?_))); done)) | ((with_reducible refine Below.setCell ?_ ?_ _); rotate_left; focus (((try dsimp only); repeat (first | omega | simp only [World.size_alloc, World.size_setCell, World.size_drew] | (with_reducible refine le_ext_of ?_) | (with_reducible refine le_ext_add ?_))); done)) | (with_reducible refine Below.drew ?_))))) hs5 (HI6.out.below (by (repeat (first | (with_reducible exact Below.refl _ _) | (with_reducible assumption) | ((with_reducible refine below_ext_trans ?_ ?_ _); rotate_left; focus (((try dsimp only); repeat (first | omega | simp only [World.size_alloc, World.size_setCell, World.size_drew] | (with_reducible refine le_ext_of ?_) | (with_reducible refine le_ext_add ?_))); done)) | ((with_reducible refine Below.alloc ?_ ?_ _); rotate_left; focus (((try dsimp only); repeat (first | omega | simp only [World.size_alloc, World.size_setCell, World.size_drew] | (with_reducible refine le_ext_of ?_) | (with_reducible refine le_ext_add ?_))); done)) | ((with_reducible refine Below.setCell ?_ ?_ _); rotate_left; focus (((try dsimp only); repeat (first | omega | simp only [World.size_alloc, World.size_setCell, World.size_drew] | (with_reducible refine le_ext_of ?_) | (with_reducible refine le_ext_add ?_))); done)) | (with_reducible refine Below.drew ?_))))) HL2L.out HM2.out).mono ?_; rintro e w1 ⟨p4, c4, rfl, hsh, y7, rfl⟩; rw [hn4]; have HSH := Lib.hid hsh; clear hsh)
        | (go_at_call 21; refine (Wrong_len pb po p4 cb co c4 _ _ _ _ (woutBk b L2) nl _ (⟨(HB6.out.below (by (repeat (first | (with_reducible exact Below.refl _ _) | (with_reducible assumption) | ((with_reducible refine below_ext_trans ?_ ?_ _); rotate_left; focus (((try dsimp only); repeat (first | omega | simp only [World.size_alloc, World.size_setCell, World.size_drew] | (with_reducible refine le_ext_of ?_) | (with_reducible refine le_ext_add ?_))); done)) | ((with_reducible refine Below.alloc ?_ ?_ _); rotate_left; focus (((try dsimp only); repeat (first | omega | simp only [World.size_alloc, World.size_setCell, World.size_drew] | (with_reducible refine le_ext_of ?_) | (with_reducible refine le_ext_add ?_))); done)) | ((with_reducible refine Below.setCell ?_ ?_ _); rotate_left; focus (((try dsimp only); repeat (first | omega | simp only [World.size_alloc, World.size_setCell, World.size_drew] | (with_reducible refine le_ext_of ?_) | (with_reducible refine le_ext_add ?_))); done)) | (with_reducible refine Below.drew ?_))))).bs, (HB6.out.below (by (repeat (first | (with_reducible exact Below.refl _ _) | (with_reducible assumption) | ((with_reducible refine below_ext_trans ?_ ?_ _); rotate_left; focus (((try dsimp only); repeat (first | omega | simp only [World.size_alloc, World.size_setCell, World.size_drew] | (with_reducible refine le_ext_of ?_) | (with_reducible refine le_ext_add ?_))); done)) | ((with_reducible refine Below.alloc ?_ ?_ _); rotate_left; focus (((try dsimp only); repeat (first | omega | simp only [World.size_alloc, World.size_setCell, World.size_drew] | (with_reducible refine le_ext_of ?_) | (with_reducible refine le_ext_add ?_))); done)) | ((with_reducible refine Below.setCell ?_ ?_ _); rotate_left; focus (((try dsimp only); repeat (first | omega | simp only [World.size_alloc, World.size_setCell, World.size_drew] | (with_reducible refine le_ext_of ?_) | (with_reducible refine le_ext_add ?_))); done)) | (with_reducible refine Below.drew ?_))))).os, HSH.out.below (by (repeat (first | (with_reducible exact Below.refl _ _) | (with_reducible assumption) | ((with_reducible refine below_ext_trans ?_ ?_ _); rotate_left; focus (((try dsimp only); repeat (first | omega | simp only [World.size_alloc, World.size_setCell, World.size_drew] | (with_reducible refine le_ext_of ?_) | (with_reducible refine le_ext_add ?_))); done)) | ((with_reducible refine Below.alloc ?_ ?_ _); rotate_left; focus (((try dsimp only); repeat (first | omega | simp only [World.size_alloc, World.size_setCell, World.size_drew] | (with_reducible refine le_ext_of ?_) | (with_reducible refine le_ext_add ?_))); done)) | ((with_reducible refine Below.setCell ?_ ?_ _); rotate_left; focus (((try dsimp only); repeat (first | omega | simp only [World.size_alloc, World.size_setCell, World.size_drew] | (with_reducible refine le_ext_of ?_) | (with_reducible refine le_ext_add ?_))); done)) | (with_reducible refine Below.drew ?_))))⟩) (wout_ok HV.out L2) (HN6.out.below (by (repeat (first | (with_reducible exact Below.refl _ _) | (with_reducible assumption) | ((with_reducible refine below_ext_trans ?_ ?_ _); rotate_left; focus (((try dsimp only); repeat (first | omega | simp only [World.size_alloc, World.size_setCell, World.size_drew] | (with_reducible refine le_ext_of ?_) | (with_reducible refine le_ext_add ?_))); done)) | ((with_reducible refine Below.alloc ?_ ?_ _); rotate_left; focus (((try dsimp only); repeat (first | omega | simp only [World.size_alloc, World.size_setCell, World.size_drew] | (with_reducible refine le_ext_of ?_) | (with_reducible refine le_ext_add ?_))); done)) | ((with_reducible refine Below.setCell ?_ ?_ _); rotate_left; focus (((try dsimp only); repeat (first | omega | simp only [World.size_alloc, World.size_setCell, World.size_drew] | (with_reducible refine le_ext_of ?_) | (with_reducible refine le_ext_add ?_))); done)) | (with_reducible refine Below.drew ?_))))) HNL.out rfl rfl rfl HN4'.out).mono ?_; rintro e w1 ⟨pq, cq, rfl, y8, rfl⟩))
      clear hn4 HSH
      try simp only [ext_ext]
      have HI7 := Lib.hid (HI6.out.ext (y7.comp y8))
      clear HI6
      have hB7 : Below W6.heap.size W6 (ext W6 (y7.comp y8)) := by (repeat (first | (with_reducible exact Below.refl _ _) | (with_reducible assumption) | ((with_reducible refine below_ext_trans ?_ ?_ _); rotate_left; focus (((try dsimp only); repeat (first | omega | simp only [World.size_alloc, World.size_setCell, World.size_drew] | (with_reducible refine le_ext_of ?_) | (with_reducible refine le_ext_add ?_))); done)) | ((with_reducible refine Below.alloc ?_ ?_ _); rotate_left; focus (((try dsimp only); repeat (first | omega | simp only [World.size_alloc, World.size_setCell, World.size_drew] | (with_reducible refine le_ext_of ?_) | (with_reducible refine le_ext_add ?_))); done)) | ((with_reducible refine Below.setCell ?_ ?_ _); rotate_left; focus (((try dsimp only); repeat (first | omega | simp only [World.size_alloc, World.size_setCell, World.size_drew] | (with_reducible refine le_ext_of ?_) | (with_reducible refine le_ext_add ?_))); done)) | (with_reducible refine Below.drew ?_)))
      generalize ext W6 (y7.comp y8) = W7 at *
      have kb7 := KB6.out.bel hB7
      have HB7 := Lib.hid (HB6.out.below hB7)
      have HN7 := Lib.hid (HN6.out.below hB7)
      have HW7 := Lib.hid (HW6.out.trans (hB7.mono HW6.out.size))
      have HIW7 := Lib.hid (HIW6.out.below hB7)
      clear d0 d1 d2 d3 kl
      have d0 := kb7.cell 0
      have d1 := kb7.cell 1
      have d2 := kb7.cell 2
      have d3 := kb7.cell 3
      simp only [List.size_toArray, List.length_cons, List.length_nil, Nat.reduceAdd, Nat.reduceLT, getElem?_pos, List.getElem_toArray, List.getElem_cons_zero, List.getElem_cons_succ] at d0 d1 d2 d3
      have kl := kb7.lt
      have KB7 := Lib.hid kb7
      clear hB7 kb7 KB6 HB6 HN6 HW6 HIW6
      cases hf : fewerB L2 L with
      | true =>
        have h0 := HRO.out hf
        have HF := Lib.hid hf
        clear hf
        go_wp2_with (first
          | (go_at_call 33; refine (Fewer_eq p2 pw c2 cw L2 L m2 nw _ (HI7.out.below (by (repeat (first | (with_reducible exact Below.refl _ _) | (with_reducible assumption) | ((with_reducible refine below_ext_trans ?_ ?_ _); rotate_left; focus (((try dsimp only); repeat (first | omega | simp only [World.size_alloc, World.size_setCell, World.size_drew] | (with_reducible refine le_ext_of ?_) | (with_reducible refine le_ext_add ?_))); done)) | ((with_reducible refine Below.alloc ?_ ?_ _); rotate_left; focus (((try dsimp only); repeat (first | omega | simp only [World.size_alloc, World.size_setCell, World.size_drew] | (with_reducible refine le_ext_of ?_) | (with_reducible refine le_ext_add ?_))); done)) | ((with_reducible refine Below.setCell ?_ ?_ _); rotate_left; focus (((try dsimp only); repeat (first | omega | simp only [World.size_alloc, World.size_setCell, World.size_drew] | (with_reducible refine le_ext_of ?_) | (with_reducible refine le_ext_add ?_))); done)) | (with_reducible refine Below.drew ?_))))) (HIW7.out.below (by (repeat (first | (with_reducible exact Below.refl _ _) | (with_reducible assumption) | ((with_reducible refine below_ext_trans ?_ ?_ _); rotate_left; focus (((try dsimp only); repeat (first | omega | simp only [World.size_alloc, World.size_setCell, World.size_drew] | (with_reducible refine le_ext_of ?_) | (with_reducible refine le_ext_add ?_))); done)) | ((with_reducible refine Below.alloc ?_ ?_ _); rotate_left; focus (((try dsimp only); repeat (first | omega | simp only [World.size_alloc, World.size_setCell, World.size_drew] | (with_reducible refine le_ext_of ?_) | (with_reducible refine le_ext_add ?_))); done)) | ((with_reducible refine Below.setCell ?_ ?_ _); rotate_left; focus (((try dsimp only); repeat (first | omega | simp only [World.size_alloc, World.size_setCell, World.size_drew] | (with_reducible refine le_ext_of ?_) | (with_reducible refine le_ext_add ?_))); done)) | (with_reducible refine Below.drew ?_))))) HM2L.out HM2.out HNW.out).mono ?_; rw [HF.out]; rintro e w1 ⟨rfl, y9, rfl⟩)
          | (go_at_call 13; refine (shot_any _ (HN7.out.below (by (repeat (first | (with_reducible exact Below.refl _ _) | (with_reducible assumption) | ((with_reducible refine below_ext_trans ?_ ?_ _); rotate_left; focus (((try dsimp only); repeat (first | omega | simp only [World.size_alloc, World.size_setCell, World.size_drew] | (with_reducible refine le_ext_of ?_) | (with_reducible refine le_ext_add ?_))); done)) | ((with_reducible refine Below.alloc ?_ ?_ _); rotate_left; focus (((try dsimp only); repeat (first | omega | simp only [World.size_alloc, World.size_setCell, World.size_drew] | (with_reducible refine le_ext_of ?_) | (with_reducible refine le_ext_add ?_))); done)) | ((with_reducible refine Below.setCell ?_ ?_ _); rotate_left; focus (((try dsimp only); repeat (first | omega | simp only [World.size_alloc, World.size_setCell, World.size_drew] | (with_reducible refine le_ext_of ?_) | (with_reducible refine le_ext_add ?_))); done)) | (with_reducible refine Below.drew ?_)))))).mono ?_; rintro e w1 ⟨rfl, y, rfl⟩))
        go_ret
        exact ⟨rfl, by have hB := HW7.out; have hBs := hB.size; (exact ext_of (by (repeat (first | (with_reducible exact Below.refl _ _) | (with_reducible assumption) | ((with_reducible refine below_ext_trans ?_ ?_ _); rotate_left; focus (((try dsimp only); repeat (first | omega | simp only [World.size_alloc, World.size_setCell, World.size_drew] | (with_reducible refine le_ext_of ?_) | (with_reducible refine le_ext_add ?_))); done)) | ((with_reducible refine Below.alloc ?_ ?_ _); rotate_left; focus (((try dsimp only); repeat (first | omega | simp only [World.size_alloc, World.size_setCell, World.size_drew] | (with_reducible refine le_ext_of ?_) | (with_reducible refine le_ext_add ?_))); done)) | ((with_reducible refine Below.setCell ?_ ?_ _); rotate_left; focus (((try dsimp only); repeat (first | omega | simp only [World.size_alloc, World.size_setCell, World.size_drew] | (with_reducible refine le_ext_of ?_) | (with_reducible refine le_ext_add ?_))); done)) | (with_reducible refine Below.drew ?_)))))⟩
      | false =>
        have HF := Lib.hid hf
        clear hf
        go_wp2_with (first
          | (go_at_call 33; refine (Fewer_eq p2 pw c2 cw L2 L m2 nw _ (HI7.out.below (by (repeat (first | (with_reducible exact Below.refl _ _) | (with_reducible assumption) | ((with_reducible refine below_ext_trans ?_ ?_ _); rotate_left; focus (((try dsimp only); repeat (first | omega | simp only [World.size_alloc, World.size_setCell, World.size_drew] | (with_reducible refine le_ext_of ?_) | (with_reducible refine le_ext_add ?_))); done)) | ((with_reducible refine Below.alloc ?_ ?_ _); rotate_left; focus (((try dsimp only); repeat (first | omega | simp only [World.size_alloc, World.size_setCell, World.size_drew] | (with_reducible refine le_ext_of ?_) | (with_reducible refine le_ext_add ?_))); done)) | ((with_reducible refine Below.setCell ?_ ?_ _); rotate_left; focus (((try dsimp only); repeat (first | omega | simp only [World.size_alloc, World.size_setCell, World.size_drew] | (with_reducible refine le_ext_of ?_) | (with_reducible refine le_ext_add ?_))); done)) | (with_reducible refine Below.drew ?_))))) (HIW7.out.below (by (repeat (first | (with_reducible exact Below.refl _ _) | (with_reducible assumption) | ((with_reducible refine below_ext_trans ?_ ?_ _); rotate_left; focus (((try dsimp only); repeat (first | omega | simp only [World.size_alloc, World.size_setCell, World.size_drew] | (with_reducible refine le_ext_of ?_) | (with_reducible refine le_ext_add ?_))); done)) | ((with_reducible refine Below.alloc ?_ ?_ _); rotate_left; focus (((try dsimp only); repeat (first | omega | simp only [World.size_alloc, World.size_setCell, World.size_drew] | (with_reducible refine le_ext_of ?_) | (with_reducible refine le_ext_add ?_))); done)) | ((with_reducible refine Below.setCell ?_ ?_ _); rotate_left; focus (((try dsimp only); repeat (first | omega | simp only [World.size_alloc, World.size_setCell, World.size_drew] | (with_reducible refine le_ext_of ?_) | (with_reducible refine le_ext_add ?_))); done)) | (with_reducible refine Below.drew ?_))))) HM2L.out HM2.out HNW.out).mono ?_; rw [HF.out]; rintro e w1 ⟨rfl, y9, rfl⟩)
          | (go_at_call 13; refine (shot_any _ (HN7.out.below (by (repeat (first | (with_reducible exact Below.refl _ _) | (with_reducible assumption) | ((with_reducible refine below_ext_trans ?_ ?_ _); rotate_left; focus (((try dsimp only); repeat (first | omega | simp only [World.size_alloc, World.size_setCell, World.size_drew] | (with_reducible refine le_ext_of ?_) | (with_reducible refine le_ext_add ?_))); done)) | ((with_reducible refine Below.alloc ?_ ?_ _); rotate_left; focus (((try dsimp only); repeat (first | omega | simp only [World.size_alloc, World.size_setCell, World.size_drew] | (with_reducible refine le_ext_of ?_) | (with_reducible refine le_ext_add ?_))); done)) | ((with_reducible refine Below.setCell ?_ ?_ _); rotate_left; focus (((try dsimp only); repeat (first | omega | simp only [World.size_alloc, World.size_setCell, World.size_drew] | (with_reducible refine le_ext_of ?_) | (with_reducible refine le_ext_add ?_))); done)) | (with_reducible refine Below.drew ?_)))))).mono ?_; rintro e w1 ⟨rfl, y, rfl⟩))
        go_ret
        exact ⟨rfl, by have hB := HW7.out; have hBs := hB.size; (exact ext_of (by (repeat (first | (with_reducible exact Below.refl _ _) | (with_reducible assumption) | ((with_reducible refine below_ext_trans ?_ ?_ _); rotate_left; focus (((try dsimp only); repeat (first | omega | simp only [World.size_alloc, World.size_setCell, World.size_drew] | (with_reducible refine le_ext_of ?_) | (with_reducible refine le_ext_add ?_))); done)) | ((with_reducible refine Below.alloc ?_ ?_ _); rotate_left; focus (((try dsimp only); repeat (first | omega | simp only [World.size_alloc, World.size_setCell, World.size_drew] | (with_reducible refine le_ext_of ?_) | (with_reducible refine le_ext_add ?_))); done)) | ((with_reducible refine Below.setCell ?_ ?_ _); rotate_left; focus (((try dsimp only); repeat (first | omega | simp only [World.size_alloc, World.size_setCell, World.size_drew] | (with_reducible refine le_ext_of ?_) | (with_reducible refine le_ext_add ?_))); done)) | (with_reducible refine Below.drew ?_)))))⟩
theorem TurnWrong_any (h : Hd) (b : Bk) (n0 : Int) (w : World) (hb : BkAt w h b) (hn : NB w) :
    Calls Tryd.prog 6 #[.agg #[.int .i64 b.n, .slice h.pb b.bs.length h.cb, .slice h.po b.os.length h.co, .slice h.ps b.ss.length h.cs], .int .i64 n0] w fun e w' => e = .returned (.bool true) ∧ ∃ x, w' = ext w x := by
  cases hv : bookB b with
  | false => exact TurnWrong_bad h b n0 w hb hv hn
  | true => exact TurnWrong_yes h b n0 w hb hv hn
end Go.Proofs.YtmnbfjphndgmnaaDoor

