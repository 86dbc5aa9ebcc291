/- Package seine: the comparison of lists (cmp.Compare, slices.Compare, cmp.Or as in Ua); compare. -/
/- Package seine: a map from states to lists; wrong's offer. -/
import Derived.Test.YtjjfpbjdcmkkhaaDoorQNh
import Derived.Test.YtjjfpbjdcmkkhaaDoorQFh
set_option linter.unusedSimpArgs false
set_option linter.unusedVariables false
namespace Go.Proofs.YtjjfpbjdcmkkhaaDoor
open Go Go.RowKit

def cmpI (x y : Int) : Int := if x < y then -1 else if y < x then 1 else 0
theorem cmp_any (x y : Int) (w : World) : Calls Tryd.prog 111 #[.int .i64 x, .int .i64 y] w fun e w' => e = .returned (.int .i64 (cmpI x y)) ∧ w = w' := by
  by_cases h1 : x < y
  · have H := Lib.hid (show cmpI x y = -1 by simp [cmpI, h1])
    go_enter Tryd.func111, Tryd.ntmps111
    go_wp2
    go_ret
    exact ⟨ret_int H.out.symm, rfl⟩
  · by_cases h2 : y < x
    · have H := Lib.hid (show cmpI x y = 1 by simp [cmpI, h1, h2])
      have h3 : decide (x < y) = false := by simpa using h1
      clear h1
      go_enter Tryd.func111, Tryd.ntmps111
      go_wp2
      go_ret
      exact ⟨ret_int H.out.symm, rfl⟩
    · have H := Lib.hid (show cmpI x y = 0 by simp [cmpI, h1, h2])
      have h3 : decide (x < y) = false := by simpa using h1
      have h4 : decide (y < x) = false := by simpa using h2
      clear h1 h2
      go_enter Tryd.func111, Tryd.ntmps111
      go_wp2
      go_ret
      exact ⟨ret_int H.out.symm, rfl⟩
theorem cmpI_zero {x y : Int} (h : cmpI x y = 0) : x = y := by unfold cmpI at h; split at h; omega; split at h <;> omega
theorem cmpI_self (x : Int) : cmpI x x = 0 := by simp [cmpI]

def cmpL : List Int → List Int → Int
  | [], [] => 0
  | [], _ :: _ => -1
  | _ :: _, [] => 1
  | a :: l, b :: m => if cmpI a b = 0 then cmpL l m else cmpI a b
theorem cmpL_lex : ∀ l m, decide (cmpL l m < 0) = lexB l m
  | [], [] => rfl
  | [], _ :: _ => rfl
  | _ :: _, [] => rfl
  | a :: l, b :: m => by
    rw [cmpL, lexB, ← cmpL_lex l m]
    by_cases h1 : a < b
    · simp [cmpI, h1]
    · by_cases h2 : b < a
      · have : ¬ a = b := by omega
        simp [cmpI, h1, h2, this]
      · have : a = b := by omega
        simp [cmpI, this]

set_option maxHeartbeats 1000000 in
theorem compare_any (p q : Option Addr) (c d : Nat) (l m : List Int) (w : World) (hl : IntsAt w p l) (hm : IntsAt w q m) (hb : (l.length : Int) ≤ 1000) :
    Calls Tryd.prog 112 #[.slice p l.length c, .slice q m.length d] w fun e w' => e = .returned (.int .i64 (cmpL l m)) ∧ w = w' := by
  have H0 : Hid (cmpL l m = cmpL (l.drop 0) (m.drop 0)) := Lib.hid rfl
  go_enter Tryd.func112, Tryd.ntmps112
  go_wp2_with fail
  go_loop [4, 5, 6, 7, 8, 11] (fun _ _ _ _ _ i => ∃ k : Nat, k ≤ l.length ∧ k ≤ m.length ∧ i = .int .i64 k ∧ Hid (cmpL l m = cmpL (l.drop k) (m.drop k))) (fun _ _ _ _ _ i => l.length - (intOf i).toNat)
  case atStart => exact ⟨0, by omega, by omega, rfl, H0⟩
  case round =>
    clear H0
    obtain ⟨k, hk, hk2, rfl, H⟩ := hrel
    by_cases hlt : k < l.length
    · obtain ⟨x, hx⟩ := get_some l k hlt
      obtain ⟨b, o, rfl, hb1, c1⟩ := hl k x hx
      have HX := Lib.hid hx
      clear hx
      by_cases hlm : k < m.length
      · obtain ⟨y, hy⟩ := get_some m k hlm
        obtain ⟨b2, o2, rfl, hb2, c2⟩ := hm k y hy
        have HY := Lib.hid hy
        clear hy
        have hge : decide ((m.length : Int) ≤ (k : Int)) = false := by simp; omega
        have HS : Hid (cmpL l m = if cmpI x y = 0 then cmpL (l.drop (k + 1)) (m.drop (k + 1)) else cmpI x y) := Lib.hid (by rw [H.out, drop_of_get HX.out, drop_of_get HY.out]; rfl)
        clear H HX HY
        by_cases h0 : cmpI x y = 0
        · have HS2 := Lib.hid (show cmpL l m = cmpL (l.drop (k + 1)) (m.drop (k + 1)) by rw [HS.out, if_pos h0])
          clear HS
          go_wp2_with (go_at_call 111; refine (cmp_any _ _ _).mono ?_; rintro e w' ⟨rfl, rfl⟩)
          go_round
          case rel => exact ⟨k + 1, by omega, by omega, by go_num, HS2⟩
          case measure => simp [intOf]; omega
        · have HS2 := Lib.hid (show cmpL l m = cmpI x y by rw [HS.out, if_neg h0])
          clear HS
          have h0' : (cmpI x y == 0) = false := by simpa using h0
          have h0'' : (cmpI x y != 0) = true := by simpa using h0
          clear h0
          go_wp2_with (go_at_call 111; refine (cmp_any _ _ _).mono ?_; rintro e w' ⟨rfl, rfl⟩)
          go_ret
          exact ⟨ret_int HS2.out.symm, rfl⟩
      · have hge : (m.length : Int) ≤ (k : Int) := by omega
        have HS := Lib.hid (show cmpL l m = 1 by rw [H.out, drop_of_get HX.out, List.drop_eq_nil_of_le (show m.length ≤ k by omega)]; rfl)
        clear H HX
        go_wp2_with fail
        go_ret
        exact ⟨ret_int HS.out.symm, rfl⟩
    · have hle : l.length = k := by omega
      by_cases hlm : k < m.length
      · have HS := Lib.hid (show cmpL l m = -1 by
          obtain ⟨y, hy⟩ := get_some m k hlm
          rw [H.out, drop_of_get hy, List.drop_eq_nil_of_le (show l.length ≤ k by omega)]; rfl)
        have hc : decide (l.length < m.length) = true := by simp; omega
        clear H hle
        go_wp2_with fail
        go_ret
        exact ⟨ret_int HS.out.symm, rfl⟩
      · have HS := Lib.hid (show cmpL l m = 0 by
          rw [H.out, List.drop_eq_nil_of_le (show m.length ≤ k by omega), List.drop_eq_nil_of_le (show l.length ≤ k by omega)]; rfl)
        have hc : decide (l.length < m.length) = false := by simp; omega
        clear H hle
        go_wp2_with fail
        go_ret
        exact ⟨ret_int HS.out.symm, rfl⟩

def orL : List Int → Int
  | [] => 0
  | x :: l => if x = 0 then orL l else x
set_option maxHeartbeats 1000000 in
theorem or_any (p : Option Addr) (c : Nat) (l : List Int) (w : World) (hl : IntsAt w p l) (hb : (l.length : Int) ≤ 1000) :
    Calls Tryd.prog 110 #[.slice p l.length c] w fun e w' => e = .returned (.int .i64 (orL l)) ∧ w = w' := by
  have H0 : Hid (orL l = orL (l.drop 0)) := Lib.hid rfl
  go_enter Tryd.func110, Tryd.ntmps110
  go_wp2_with fail
  go_loop [2, 5, 8] (fun _ _ i => ∃ k : Nat, k ≤ l.length ∧ i = .int .i64 k ∧ Hid (orL l = orL (l.drop k))) (fun _ _ i => l.length - (intOf i).toNat)
  case atStart => exact ⟨0, by omega, rfl, H0⟩
  case round =>
    clear H0
    obtain ⟨k, hk, rfl, H⟩ := hrel
    by_cases hlt : k < l.length
    · obtain ⟨x, hx⟩ := get_some l k hlt
      obtain ⟨b, o, rfl, hb1, c1⟩ := hl k x hx
      have HS : Hid (orL l = if x = 0 then orL (l.drop (k + 1)) else x) := Lib.hid (by rw [H.out, drop_of_get hx]; rfl)
      clear hx H
      by_cases h0 : x = 0
      · have HS2 := Lib.hid (show orL l = orL (l.drop (k + 1)) by rw [HS.out, if_pos h0])
        clear HS
        subst h0
        go_wp2_with fail
        go_round
        case rel => exact ⟨k + 1, by omega, by go_num, HS2⟩
        case measure => simp [intOf]; omega
      · have HS2 := Lib.hid (show orL l = x by rw [HS.out, if_neg h0])
        clear HS
        have h0' : (x == 0) = false := by simpa using h0
        have h0'' : (x != 0) = true := by simpa using h0
        clear h0
        go_wp2_with fail
        go_ret
        exact ⟨ret_int HS2.out.symm, rfl⟩
    · have HS := Lib.hid (show orL l = 0 by rw [H.out, List.drop_eq_nil_of_le (by omega)]; rfl)
      clear H
      go_wp2_with fail
      go_ret
      exact ⟨ret_int HS.out.symm, rfl⟩

theorem fewer_cmp (l m : List Int) : decide (orL [cmpI l.length m.length, cmpL l m] < 0) = fewerB l m := by
  unfold fewerB
  rw [← cmpL_lex]
  by_cases h1 : l.length < m.length
  · have : (l.length : Int) < m.length := by omega
    simp [orL, cmpI, this, h1]
  · by_cases h2 : m.length < l.length
    · have a : ¬ (l.length : Int) < m.length := by omega
      have b : (m.length : Int) < l.length := by omega
      have c : ¬ l.length = m.length := by omega
      simp [orL, cmpI, a, b, h1, c]
    · have c : l.length = m.length := by omega
      have a : ¬ (l.length : Int) < m.length := by omega
      have b : ¬ (m.length : Int) < l.length := by omega
      simp only [orL, cmpI, a, b, h1, c]
      by_cases h : cmpL l m = 0 <;> simp [h]

theorem IntsAt.two {w : World} {b : Nat} {t : TypeId} {x y : Int} (h0 : w.cell? ⟨b, 0, none⟩ = some (.int .i64 x)) (h1 : w.cell? ⟨b, 1, none⟩ = some (.int .i64 y)) (hb : b < w.heap.size) : IntsAt w (some ⟨b, 0, none⟩) [x, y] := fun i z hz => by
  refine ⟨b, 0, rfl, hb, ?_⟩
  rcases i with _ | _ | i
  · simp at hz; subst hz; exact h0
  · simp at hz; subst hz; exact h1
  · simp at hz
/-- How two lists compare. -/
def cmpF (l m : List Int) : Int := orL [cmpI l.length m.length, cmpL l m]
set_option maxHeartbeats 1000000 in
theorem compareS_any (p q : Option Addr) (c d : Nat) (l m : List Int) (w : World) (hl : IntsAt w p l) (hm : IntsAt w q m) (hb : (l.length : Int) ≤ 1000) :
    Calls Tryd.prog 99 #[.slice p l.length c, .slice q m.length d] w fun e w' => e = .returned (.int .i64 (cmpF l m)) ∧ ∃ x, w' = ext w x := by
  go_enter Tryd.func99, Tryd.ntmps99
  go_wp2_with (first
    | (go_at_call 111; refine (cmp_any _ _ _).mono ?_; rintro e w' ⟨rfl, rfl⟩)
    | (go_at_call 112; refine (compare_any p q c d l m _ hl hm hb).mono ?_; rintro e w' ⟨rfl, rfl⟩)
    | (go_at_call 110; refine (or_any _ _ [cmpI l.length m.length, cmpL l m] _ (IntsAt.two (t := 3) (by simp [go_sem]) (by simp [go_sem]) (by simp)) (by simp)).mono ?_; rintro e w' ⟨rfl, rfl⟩))
  go_ret
  exact ⟨rfl, by (exact ext_of (by (repeat (first | (with_reducible exact Below.refl _ _) | (with_reducible assumption) | ((with_reducible refine below_ext_trans ?_ ?_ _); rotate_left; focus (((try dsimp only); repeat (first | omega | simp only [World.size_alloc, World.size_setCell, World.size_drew] | (with_reducible refine le_ext_of ?_) | (with_reducible refine le_ext_add ?_))); done)) | ((with_reducible refine Below.alloc ?_ ?_ _); rotate_left; focus (((try dsimp only); repeat (first | omega | simp only [World.size_alloc, World.size_setCell, World.size_drew] | (with_reducible refine le_ext_of ?_) | (with_reducible refine le_ext_add ?_))); done)) | ((with_reducible refine Below.setCell ?_ ?_ _); rotate_left; focus (((try dsimp only); repeat (first | omega | simp only [World.size_alloc, World.size_setCell, World.size_drew] | (with_reducible refine le_ext_of ?_) | (with_reducible refine le_ext_add ?_))); done)) | (with_reducible refine Below.drew ?_)))))⟩
theorem cmpF_neg (l m : List Int) : decide (cmpF l m < 0) = fewerB l m := fewer_cmp l m
end Go.Proofs.YtjjfpbjdcmkkhaaDoor

namespace Go.Proofs.YtjjfpbjdcmkkhaaDoor
open Go Go.RowKit Go.Shelf

/-- A list of numbers that lies in memory, below a block. -/
def ListAt (B : Nat) (w : World) (v : Value) (l : List Int) : Prop :=
  ∃ (p : Option Addr) (c : Nat), v = .slice p l.length c ∧ IntsAt w p l ∧ l.length ≤ c ∧ (∀ a, p = some a → (∃ b o, a = ⟨b, o, none⟩) ∧ a.block < B) ∧ (p = none → c = 0) ∧ B ≤ w.heap.size
theorem ListAt.below {B m : Nat} {w w' : World} {v : Value} {l : List Int} (h : ListAt B w v l) (hm : B ≤ m) (hb : Below m w w') : ListAt B w' v l := by
  obtain ⟨p, c, h1, h2, h3, h4, h5, h6⟩ := h
  refine ⟨p, c, h1, fun i x hi => ?_, h3, h4, h5, Nat.le_trans h6 hb.size⟩
  obtain ⟨b, o, e1, e2, e3⟩ := h2 i x hi
  have hbB := (h4 _ e1).2
  dsimp only at hbB
  refine ⟨b, o, e1, Nat.lt_of_lt_of_le e2 hb.size, ?_⟩
  rw [World.cell?_of_block (a := ⟨b, o + i, none⟩) (hb.block b (by omega))]
  exact e3
theorem ListAt.bel {B : Nat} {w w' : World} {v : Value} {l : List Int} (h : ListAt B w v l) (hb : Below w.heap.size w w') : ListAt B w' v l := by
  have hB : B ≤ w.heap.size := by obtain ⟨_, _, -, -, -, -, -, h6⟩ := h; exact h6
  exact h.below hB hb
theorem ListAt.mono {B B' : Nat} {w : World} {v : Value} {l : List Int} (h : ListAt B w v l) (hB : B ≤ B') (hw : B' ≤ w.heap.size) : ListAt B' w v l := by
  obtain ⟨p, c, h1, h2, h3, h4, h5, h6⟩ := h
  exact ⟨p, c, h1, h2, h3, fun a ha => ⟨(h4 a ha).1, Nat.lt_of_lt_of_le (h4 a ha).2 hB⟩, h5, hw⟩
theorem ListAt.nil {B : Nat} {w : World} (hB : B ≤ w.heap.size) : ListAt B w (.slice none 0 0) [] := ⟨none, 0, rfl, fun i x hi => by simp at hi, by simp, (fun a ha => by cases ha), (fun _ => rfl), hB⟩
/-- A list stays where no block of cells turns that is its own. -/
theorem ListAt.priv {B : Nat} {w w' : World} {v : Value} {l : List Int} {M : Nat} (h : ListAt B w v l) (hp : PrivM (fun k => k = M) w w') (hM : ∀ cs t fz, w.heap[M]? ≠ some (.cells cs t fz)) : ListAt B w' v l := by
  obtain ⟨p, c, h1, h2, h3, h4, h5, h6⟩ := h
  refine ⟨p, c, h1, fun i x hi => ?_, h3, h4, h5, Nat.le_trans h6 hp.size⟩
  obtain ⟨b, o, e1, e2, e3⟩ := h2 i x hi
  refine ⟨b, o, e1, Nat.lt_of_lt_of_le e2 hp.size, ?_⟩
  have hne : ¬ b = M := by
    rintro rfl
    unfold World.cell? at e3
    cases hb : w.heap[b]? with
    | none => simp [hb] at e3
    | some ob =>
      cases ob with
      | cells cs t fz => exact hM cs t fz hb
      | _ => simp [hb] at e3
  rw [World.cell?_of_block (a := ⟨b, o + i, none⟩) (hp.block b e2 hne)]
  exact e3
theorem MapAt.noCells {P : Program} {K : TypeId} {w : World} {b n : Nat} {f : Int → Int → Option Value} (h : MapAt P K w b n f) : ∀ cs t fz, w.heap[b]? ≠ some (.cells cs t fz) := by
  intro cs t fz e
  obtain ⟨D, ⟨es, clock, e1, _⟩, _⟩ := h
  rw [e] at e1; cases e1
/-- A map from states to lists. -/
def LMap (B : Nat) (w : World) (b n : Nat) (g : Int → Int → Option (List Int)) : Prop :=
  ∃ F, MapAt Tryd.prog 91 w b n F ∧ ∀ a c, InI a → InI c → match g a c with | none => F a c = none | some l => ∃ v, F a c = some v ∧ ListAt B w v l
theorem LMap.below {B m : Nat} {w w' : World} {b n : Nat} {g : Int → Int → Option (List Int)} (h : LMap B w b n g) (hm : B ≤ m) (hbm : b < m) (hb : Below m w w') : LMap B w' b n g := by
  obtain ⟨F, h1, h2⟩ := h
  refine ⟨F, h1.bel hbm hb, fun a c ha hc => ?_⟩
  have := h2 a c ha hc
  split at this
  · exact this
  · obtain ⟨v, e1, e2⟩ := this
    exact ⟨v, e1, e2.below hm hb⟩
theorem LMap.lt {B : Nat} {w : World} {b n : Nat} {g : Int → Int → Option (List Int)} (h : LMap B w b n g) : b < w.heap.size := by obtain ⟨F, h1, -⟩ := h; exact h1.lt
theorem LMap.bel {B : Nat} {w w' : World} {b n : Nat} {g : Int → Int → Option (List Int)} (h : LMap B w b n g) (hb : Below w.heap.size w w') : LMap B w' b n g := by
  obtain ⟨F, h1, h2⟩ := h
  refine ⟨F, h1.below hb, fun a c ha hc => ?_⟩
  have := h2 a c ha hc
  split at this
  · exact this
  · obtain ⟨v, e1, e2⟩ := this
    exact ⟨v, e1, e2.bel hb⟩
theorem LMap.mono {B B' : Nat} {w : World} {b n : Nat} {g : Int → Int → Option (List Int)} (h : LMap B w b n g) (hB : B ≤ B') (hw : B' ≤ w.heap.size) : LMap B' w b n g := by
  obtain ⟨F, h1, h2⟩ := h
  refine ⟨F, h1, fun a c ha hc => ?_⟩
  have := h2 a c ha hc
  split at this
  · exact this
  · obtain ⟨v, e1, e2⟩ := this
    exact ⟨v, e1, e2.mono hB hw⟩
/-- What an offer leaves. -/
def offG (g : Int → Int → Option (List Int)) (x y : Int) (l : List Int) : Int → Int → Option (List Int) := fun a c =>
  if a = x ∧ c = y then (match g a c with | none => some l | some l' => if fewerB l l' = true then some l else some l') else g a c
theorem zero_ints (w : World) : (zeroValue 44).run Tryd.prog w = .ok (.slice none 0 0) w := by kernel_rfl
/-- A map stays where only other maps and new blocks turn. -/
theorem LMap.priv {B : Nat} {w w' : World} {b n M : Nat} {g : Int → Int → Option (List Int)} (h : LMap B w b n g) (hp : PrivM (fun k => k = M) w w') (hb : b ≠ M) (hM : ∀ cs t fz, w.heap[M]? ≠ some (.cells cs t fz)) : LMap B w' b n g := by
  obtain ⟨F, h1, h2⟩ := h
  refine ⟨F, h1.of_heap (hp.block b h1.lt hb), fun a c ha hc => ?_⟩
  have := h2 a c ha hc
  split at this
  · exact this
  · obtain ⟨v, e1, e2⟩ := this
    exact ⟨v, e1, e2.priv hp hM⟩
/-- A store into such a map. -/
theorem LMap.put {B : Nat} {w w' : World} {b n : Nat} {F : Int → Int → Option Value} {g : Int → Int → Option (List Int)} (h1 : MapAt Tryd.prog 91 w b n F) (h2 : ∀ a c, InI a → InI c → match g a c with | none => F a c = none | some l => ∃ v, F a c = some v ∧ ListAt B w v l)
    {x y : Int} {v : Value} {l : List Int} (hv : ListAt B w v l) (h3 : MapAt Tryd.prog 91 w' b (n + 1) (upd F x y v)) (hg : w.grownBy w' (some b)) :
    LMap B w' b (n + 1) (fun a c => if a = x ∧ c = y then some l else g a c) := by
  have hp : PrivM (fun k => k = b) w w' := PrivM.of_grown hg
  refine ⟨_, h3, fun a c ha hc => ?_⟩
  by_cases hac : a = x ∧ c = y
  · simp only [hac, and_self, if_true, upd]
    exact ⟨v, rfl, hv.priv hp h1.noCells⟩
  · simp only [upd, if_neg hac]
    have := h2 a c ha hc
    split at this
    · exact this
    · obtain ⟨u, e1, e2⟩ := this
      exact ⟨u, e1, e2.priv hp h1.noCells⟩
attribute [local go_sem] Oper.semAt_some frozen_alloc_lt
set_option maxHeartbeats 2000000 in
theorem offer_none (B : Nat) (x y : Int) (v : Value) (l : List Int) (g6 M n : Nat) (g : Int → Int → Option (List Int)) (w : World) (hx : InI x) (hy : InI y) (hv : ListAt B w v l) (h6 : Blk w g6 122 #[.map (some M)]) (hm : LMap B w M n g) (hn : n ≤ 1000000000000) (hg : g x y = none) :
    Calls Tryd.prog 98 #[.agg #[.int .i64 x, .int .i64 y], v, .pointer (some ⟨g6, 0, none⟩)] w fun e w' => (∃ u, e = .returned u) ∧ LMap B w' M (n + 1) (offG g x y l) ∧ PrivM (fun k => k = M) w w' := by
  obtain ⟨F, hF, hR⟩ := hm
  have hFx := hR x y hx hy
  rw [hg] at hFx
  dsimp only at hFx
  have hoff : offG g x y l = fun a c => if a = x ∧ c = y then some l else g a c := by
    funext a c
    unfold offG
    by_cases hac : a = x ∧ c = y
    · obtain ⟨rfl, rfl⟩ := hac; simp [hg]
    · simp [hac]
  rw [hoff]
  have hlt6 := h6.lt
  have hne : ¬ g6 = w.heap.size := by omega
  have c6 := h6.cell 0
  simp only [List.size_toArray, List.length_cons, List.length_nil, Nat.reduceAdd, Nat.reduceLT, getElem?_pos, List.getElem_toArray, List.getElem_cons_zero, List.getElem_cons_succ] at c6
  have hF1 : MapAt Tryd.prog 91 (w.alloc (.cells #[.int .i64 x, .int .i64 y] 91)) M n F := hF.below ((Below.refl _ _).alloc (Nat.le_refl _) _)
  have hlk := hF1.lookOk key_state Tryd.underlying122 zero_ints hx hy
  rw [hFx] at hlk
  dsimp only [Option.getD_none, Option.isSome_none] at hlk
  unfold key2 at hlk
  have HV := Lib.hid hv
  have HF := Lib.hid hF
  have HR := Lib.hid hR
  clear hv h6 hR hF
  go_enter Tryd.func98, Tryd.ntmps98
  go_upto_region 3 with fail
  generalize hW : w.alloc _ = W at *
  have hB : Below w.heap.size w W := by rw [← hW]; (repeat (first | (with_reducible exact Below.refl _ _) | (with_reducible assumption) | ((with_reducible refine below_ext_trans ?_ ?_ _); rotate_left; focus (((try dsimp only); repeat (first | omega | simp only [World.size_alloc, World.size_setCell, World.size_drew] | (with_reducible refine le_ext_of ?_) | (with_reducible refine le_ext_add ?_))); done)) | ((with_reducible refine Below.alloc ?_ ?_ _); rotate_left; focus (((try dsimp only); repeat (first | omega | simp only [World.size_alloc, World.size_setCell, World.size_drew] | (with_reducible refine le_ext_of ?_) | (with_reducible refine le_ext_add ?_))); done)) | ((with_reducible refine Below.setCell ?_ ?_ _); rotate_left; focus (((try dsimp only); repeat (first | omega | simp only [World.size_alloc, World.size_setCell, World.size_drew] | (with_reducible refine le_ext_of ?_) | (with_reducible refine le_ext_add ?_))); done)) | (with_reducible refine Below.drew ?_)))
  have hs : Blk W w.heap.size 91 #[.int .i64 x, .int .i64 y] := by rw [← hW]; exact Blk.new rfl
  have h6' : W.cell? ⟨g6, 0, none⟩ = some (.map (some M)) := by rw [hB.cell (p := ⟨g6, 0, none⟩) hlt6]; exact c6
  obtain ⟨w3, hst, hm3, hg3⟩ := hF1.store key_state Tryd.underlying122 (by unfold maxLen; omega) hx hy v
  have hd0 := hs.cell 0
  have hd1 := hs.cell 1
  have ls := hs.lt
  simp only [List.size_toArray, List.length_cons, List.length_nil, Nat.reduceAdd, Nat.reduceLT, getElem?_pos, List.getElem_toArray, List.getElem_cons_zero, List.getElem_cons_succ] at hd0 hd1
  have HM3 := Lib.hid hm3
  have HG3 := Lib.hid hg3
  have HB := Lib.hid hB
  unfold key2 at hst
  clear hlk hW hm3 hg3 hB hs
  go_wp2_with fail
  go_end0
  refine ⟨⟨_, rfl⟩, LMap.put hF1 ?_ (HV.out.bel HB.out) HM3.out HG3.out, (PrivM.of_below HB.out).trans (PrivM.of_grown HG3.out)⟩
  intro a c ha hc
  have := HR.out a c ha hc
  split at this
  · exact this
  · obtain ⟨u, e1, e2⟩ := this
    exact ⟨u, e1, e2.bel HB.out⟩
set_option maxRecDepth 100000 in
set_option maxHeartbeats 2000000 in
theorem offer_some (B : Nat) (x y : Int) (v : Value) (l l' : List Int) (q : Bool) (g6 M n : Nat) (g : Int → Int → Option (List Int)) (w : World) (hx : InI x) (hy : InI y) (hv : ListAt B w v l) (hl : l.length ≤ 1000) (h6 : Blk w g6 122 #[.map (some M)]) (hm : LMap B w M n g) (hn : n ≤ 1000000000000) (hg : g x y = some l') (hq : fewerB l l' = q) :
    Calls Tryd.prog 98 #[.agg #[.int .i64 x, .int .i64 y], v, .pointer (some ⟨g6, 0, none⟩)] w fun e w' => (∃ u, e = .returned u) ∧ LMap B w' M (n + 1) (offG g x y l) ∧ PrivM (fun k => k = M) w w' := by
  obtain ⟨F, hF, hR⟩ := hm
  have hFx := hR x y hx hy
  rw [hg] at hFx
  obtain ⟨v', hFv, hv'⟩ := hFx
  have hcl := hF.noCells
  have hoff : offG g x y l = if q = true then (fun a c => if a = x ∧ c = y then some l else g a c) else g := by
    funext a c
    unfold offG
    by_cases hac : a = x ∧ c = y
    · obtain ⟨rfl, rfl⟩ := hac
      cases q <;> simp [hg, hq]
    · cases q <;> simp [hac]
  rw [hoff]
  have hlt6 := h6.lt
  have hne : ¬ g6 = w.heap.size := by omega
  have c6 := h6.cell 0
  simp only [List.size_toArray, List.length_cons, List.length_nil, Nat.reduceAdd, Nat.reduceLT, getElem?_pos, List.getElem_toArray, List.getElem_cons_zero, List.getElem_cons_succ] at c6
  have hF1 : MapAt Tryd.prog 91 (w.alloc (.cells #[.int .i64 x, .int .i64 y] 91)) M n F := hF.below ((Below.refl _ _).alloc (Nat.le_refl _) _)
  have hlk := hF1.lookOk key_state Tryd.underlying122 zero_ints hx hy
  rw [hFv] at hlk
  dsimp only [Option.getD_some, Option.isSome_some] at hlk
  unfold key2 at hlk
  have hcn : decide (cmpF l l' < 0) = q := by rw [cmpF_neg]; exact hq
  have HF := Lib.hid hF
  have HR := Lib.hid hR
  have HLM := Lib.hid (show LMap B w M n g from ⟨F, hF, hR⟩)
  obtain ⟨p1, c1, rfl, i1, -, -, -, -⟩ := id hv
  obtain ⟨p2, c2, rfl, i2, -, -, -, -⟩ := hv'
  have HV := Lib.hid hv
  have I1 := Lib.hid i1
  have I2 := Lib.hid i2
  have H6 := Lib.hid h6
  clear hv h6 hR hF i1 i2 hFv
  go_enter Tryd.func98, Tryd.ntmps98
  cases q with
  | false =>
    have hcf : decide (cmpF l l' < 0) = false := hcn
    go_wp2_with (go_at_call 99; refine (compareS_any p1 p2 c1 c2 l l' _ (I1.out.below (by (repeat (first | (with_reducible exact Below.refl _ _) | (with_reducible assumption) | ((with_reducible refine below_ext_trans ?_ ?_ _); rotate_left; focus (((try dsimp only); repeat (first | omega | simp only [World.size_alloc, World.size_setCell, World.size_drew] | (with_reducible refine le_ext_of ?_) | (with_reducible refine le_ext_add ?_))); done)) | ((with_reducible refine Below.alloc ?_ ?_ _); rotate_left; focus (((try dsimp only); repeat (first | omega | simp only [World.size_alloc, World.size_setCell, World.size_drew] | (with_reducible refine le_ext_of ?_) | (with_reducible refine le_ext_add ?_))); done)) | ((with_reducible refine Below.setCell ?_ ?_ _); rotate_left; focus (((try dsimp only); repeat (first | omega | simp only [World.size_alloc, World.size_setCell, World.size_drew] | (with_reducible refine le_ext_of ?_) | (with_reducible refine le_ext_add ?_))); done)) | (with_reducible refine Below.drew ?_))))) (I2.out.below (by (repeat (first | (with_reducible exact Below.refl _ _) | (with_reducible assumption) | ((with_reducible refine below_ext_trans ?_ ?_ _); rotate_left; focus (((try dsimp only); repeat (first | omega | simp only [World.size_alloc, World.size_setCell, World.size_drew] | (with_reducible refine le_ext_of ?_) | (with_reducible refine le_ext_add ?_))); done)) | ((with_reducible refine Below.alloc ?_ ?_ _); rotate_left; focus (((try dsimp only); repeat (first | omega | simp only [World.size_alloc, World.size_setCell, World.size_drew] | (with_reducible refine le_ext_of ?_) | (with_reducible refine le_ext_add ?_))); done)) | ((with_reducible refine Below.setCell ?_ ?_ _); rotate_left; focus (((try dsimp only); repeat (first | omega | simp only [World.size_alloc, World.size_setCell, World.size_drew] | (with_reducible refine le_ext_of ?_) | (with_reducible refine le_ext_add ?_))); done)) | (with_reducible refine Below.drew ?_))))) (by omega)).mono ?_; rintro e w1 ⟨rfl, y1, rfl⟩)
    go_end0
    have hB : Below w.heap.size w (ext (w.alloc (.cells #[.int .i64 x, .int .i64 y] 91)) y1) := by (repeat (first | (with_reducible exact Below.refl _ _) | (with_reducible assumption) | ((with_reducible refine below_ext_trans ?_ ?_ _); rotate_left; focus (((try dsimp only); repeat (first | omega | simp only [World.size_alloc, World.size_setCell, World.size_drew] | (with_reducible refine le_ext_of ?_) | (with_reducible refine le_ext_add ?_))); done)) | ((with_reducible refine Below.alloc ?_ ?_ _); rotate_left; focus (((try dsimp only); repeat (first | omega | simp only [World.size_alloc, World.size_setCell, World.size_drew] | (with_reducible refine le_ext_of ?_) | (with_reducible refine le_ext_add ?_))); done)) | ((with_reducible refine Below.setCell ?_ ?_ _); rotate_left; focus (((try dsimp only); repeat (first | omega | simp only [World.size_alloc, World.size_setCell, World.size_drew] | (with_reducible refine le_ext_of ?_) | (with_reducible refine le_ext_add ?_))); done)) | (with_reducible refine Below.drew ?_)))
    obtain ⟨F', e1, e2⟩ := HLM.out.bel hB
    exact ⟨⟨_, rfl⟩, ⟨F', e1.mono (by omega), e2⟩, PrivM.of_below hB⟩
  | true =>
    have hcf : decide (cmpF l l' < 0) = true := hcn
    go_upto_region 3 with (go_at_call 99; refine (compareS_any p1 p2 c1 c2 l l' _ (I1.out.below (by (repeat (first | (with_reducible exact Below.refl _ _) | (with_reducible assumption) | ((with_reducible refine below_ext_trans ?_ ?_ _); rotate_left; focus (((try dsimp only); repeat (first | omega | simp only [World.size_alloc, World.size_setCell, World.size_drew] | (with_reducible refine le_ext_of ?_) | (with_reducible refine le_ext_add ?_))); done)) | ((with_reducible refine Below.alloc ?_ ?_ _); rotate_left; focus (((try dsimp only); repeat (first | omega | simp only [World.size_alloc, World.size_setCell, World.size_drew] | (with_reducible refine le_ext_of ?_) | (with_reducible refine le_ext_add ?_))); done)) | ((with_reducible refine Below.setCell ?_ ?_ _); rotate_left; focus (((try dsimp only); repeat (first | omega | simp only [World.size_alloc, World.size_setCell, World.size_drew] | (with_reducible refine le_ext_of ?_) | (with_reducible refine le_ext_add ?_))); done)) | (with_reducible refine Below.drew ?_))))) (I2.out.below (by (repeat (first | (with_reducible exact Below.refl _ _) | (with_reducible assumption) | ((with_reducible refine below_ext_trans ?_ ?_ _); rotate_left; focus (((try dsimp only); repeat (first | omega | simp only [World.size_alloc, World.size_setCell, World.size_drew] | (with_reducible refine le_ext_of ?_) | (with_reducible refine le_ext_add ?_))); done)) | ((with_reducible refine Below.alloc ?_ ?_ _); rotate_left; focus (((try dsimp only); repeat (first | omega | simp only [World.size_alloc, World.size_setCell, World.size_drew] | (with_reducible refine le_ext_of ?_) | (with_reducible refine le_ext_add ?_))); done)) | ((with_reducible refine Below.setCell ?_ ?_ _); rotate_left; focus (((try dsimp only); repeat (first | omega | simp only [World.size_alloc, World.size_setCell, World.size_drew] | (with_reducible refine le_ext_of ?_) | (with_reducible refine le_ext_add ?_))); done)) | (with_reducible refine Below.drew ?_))))) (by omega)).mono ?_; rintro e w1 ⟨rfl, y1, rfl⟩)
    generalize hW : ext _ y1 = W
    have hB : Below w.heap.size w W := by rw [← hW]; (repeat (first | (with_reducible exact Below.refl _ _) | (with_reducible assumption) | ((with_reducible refine below_ext_trans ?_ ?_ _); rotate_left; focus (((try dsimp only); repeat (first | omega | simp only [World.size_alloc, World.size_setCell, World.size_drew] | (with_reducible refine le_ext_of ?_) | (with_reducible refine le_ext_add ?_))); done)) | ((with_reducible refine Below.alloc ?_ ?_ _); rotate_left; focus (((try dsimp only); repeat (first | omega | simp only [World.size_alloc, World.size_setCell, World.size_drew] | (with_reducible refine le_ext_of ?_) | (with_reducible refine le_ext_add ?_))); done)) | ((with_reducible refine Below.setCell ?_ ?_ _); rotate_left; focus (((try dsimp only); repeat (first | omega | simp only [World.size_alloc, World.size_setCell, World.size_drew] | (with_reducible refine le_ext_of ?_) | (with_reducible refine le_ext_add ?_))); done)) | (with_reducible refine Below.drew ?_)))
    have hs : Blk W w.heap.size 91 #[.int .i64 x, .int .i64 y] := by rw [← hW]; exact (Blk.new rfl).ext y1
    have h6' : W.cell? ⟨g6, 0, none⟩ = some (.map (some M)) := by rw [hB.cell (p := ⟨g6, 0, none⟩) hlt6]; exact c6
    have hFW : MapAt Tryd.prog 91 W M n F := HF.out.below hB
    obtain ⟨w3, hst, hm3, hg3⟩ := hFW.store key_state Tryd.underlying122 (by unfold maxLen; omega) hx hy (.slice p1 l.length c1)
    have hd0 := hs.cell 0
    have hd1 := hs.cell 1
    have ls := hs.lt
    simp only [List.size_toArray, List.length_cons, List.length_nil, Nat.reduceAdd, Nat.reduceLT, getElem?_pos, List.getElem_toArray, List.getElem_cons_zero, List.getElem_cons_succ] at hd0 hd1
    have HM3 := Lib.hid hm3
    have HG3 := Lib.hid hg3
    have HB := Lib.hid hB
    unfold key2 at hst
    clear hlk hW hm3 hg3 hB hs
    go_wp2_with fail
    go_end0
    refine ⟨⟨_, rfl⟩, LMap.put hFW ?_ (HV.out.bel HB.out) HM3.out HG3.out, (PrivM.of_below HB.out).trans (PrivM.of_grown HG3.out)⟩
    intro a c ha hc
    have := HR.out a c ha hc
    split at this
    · exact this
    · obtain ⟨u, e1, e2⟩ := this
      exact ⟨u, e1, e2.bel HB.out⟩
theorem offer_any (B : Nat) (x y : Int) (v : Value) (l : List Int) (g6 M n : Nat) (g : Int → Int → Option (List Int)) (w : World) (hx : InI x) (hy : InI y) (hv : ListAt B w v l) (hl : l.length ≤ 1000) (h6 : Blk w g6 122 #[.map (some M)]) (hm : LMap B w M n g) (hn : n ≤ 1000000000000) :
    Calls Tryd.prog 98 #[.agg #[.int .i64 x, .int .i64 y], v, .pointer (some ⟨g6, 0, none⟩)] w fun e w' => (∃ u, e = .returned u) ∧ LMap B w' M (n + 1) (offG g x y l) ∧ PrivM (fun k => k = M) w w' := by
  cases hg : g x y with
  | none => exact offer_none B x y v l g6 M n g w hx hy hv h6 hm hn hg
  | some l' => exact offer_some B x y v l l' _ g6 M n g w hx hy hv hl h6 hm hn hg rfl
end Go.Proofs.YtjjfpbjdcmkkhaaDoor

