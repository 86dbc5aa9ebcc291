/- Package seine: a claim is right; the hours between two notes; the hour of the last one; a claim. -/
/- Package seine: the iterator over the numbers of a span. -/
import Derived.Test.YtjjfpbjdcmkkhaaDoorQIs
import Derived.Test.YtjjfpbjdcmkkhaaDoorQSe
import Derived.Sort.CutIn
import Derived.Shelf.Abstract
import Derived.Shelf.RegionOpen
set_option linter.unusedSimpArgs false
set_option linter.unusedVariables false
namespace Go.Proofs.YtjjfpbjdcmkkhaaDoor
open Go Go.RowKit

/-- Is a note of a kind right with a number, by what is held before it? -/
def rightB (k h m : Int) : Bool := if k = 0 then decide (m ≤ h) else if k = 4 then decide (m = h) else true
abbrev clmC (s : Nt) (h r : Int) : Array Value := #[.int .i64 s.kind, .int .i64 s.hour, .int .i64 s.lo, .int .i64 s.hi, .int .i64 h, .int .i64 r]
attribute [local go_sem] Oper.semAt_some frozen_alloc_lt
theorem right_any (s : Nt) (h r m : Int) (w : World) (hk : 0 ≤ s.kind ∧ s.kind ≤ 4) : Calls Tryd.prog 119 #[.agg (clmC s h r), .int .i64 m] w fun e w' => e = .returned (.bool (rightB s.kind h m)) ∧ ∃ x, w' = ext w x := by
  obtain ⟨kd, hr, lo, hi⟩ := s
  dsimp only [clmC] at *
  rcases (show kd = 0 ∨ kd = 1 ∨ kd = 2 ∨ kd = 3 ∨ kd = 4 by omega) with rfl | rfl | rfl | rfl | rfl
  all_goals
    go_enter Tryd.func119, Tryd.ntmps119
    go_wp2
    go_ret
    exact ⟨by simp [rightB] <;> rfl, by (exact ext_of (by (repeat (first | (with_reducible exact Below.refl _ _) | (with_reducible assumption) | ((with_reducible refine below_ext_trans ?_ ?_ _); rotate_left; focus (((try dsimp only); repeat (first | omega | simp only [World.size_alloc, World.size_setCell, World.size_drew] | (with_reducible refine le_ext_of ?_) | (with_reducible refine le_ext_add ?_))); done)) | ((with_reducible refine Below.alloc ?_ ?_ _); rotate_left; focus (((try dsimp only); repeat (first | omega | simp only [World.size_alloc, World.size_setCell, World.size_drew] | (with_reducible refine le_ext_of ?_) | (with_reducible refine le_ext_add ?_))); done)) | ((with_reducible refine Below.setCell ?_ ?_ _); rotate_left; focus (((try dsimp only); repeat (first | omega | simp only [World.size_alloc, World.size_setCell, World.size_drew] | (with_reducible refine le_ext_of ?_) | (with_reducible refine le_ext_add ?_))); done)) | (with_reducible refine Below.drew ?_)))))⟩

/-- A catch's book, with a note more at most. -/
structure Ok9 (b : Sn) : Prop where
  span : SpanOK b.lo b.hi 400
  chain : chainN 0 b.ns = true
  len : b.ns.length ≤ 9
theorem Ok9.of {b : Sn} (h : snB b = true) : Ok9 b := by
  simp only [snB, notesB, Bool.and_eq_true, decide_eq_true_eq] at h
  exact ⟨spanB_iff.1 h.1, h.2.2, by omega⟩
theorem Ok9.nt {b : Sn} (h : Ok9 b) {k : Nat} {s : Nt} (hs : b.ns[k]? = some s) : (0 ≤ s.kind ∧ s.kind ≤ 4) ∧ (0 ≤ s.hour ∧ s.hour ≤ 60) ∧ SpanOK s.lo s.hi (mostOf s.kind) := ntB_facts (chainN_all h.chain s (List.mem_of_getElem? hs))
theorem Ok9.kinds {b : Sn} (h : Ok9 b) : kindsOK b.ns := fun s hs => (ntB_facts (chainN_all h.chain s hs)).1
/-- Notes are in order. -/
theorem chainN_sorted {past : Int} : ∀ {l : List Nt}, chainN past l = true → ∀ {k : Nat} {s : Nt}, l[k]? = some s → past ≤ s.hour ∧ (∀ t, l[k + 1]? = some t → s.hour ≤ t.hour)
  | [], _, k, s, hs => by simp at hs
  | a :: l, h, k, s, hs => by
    simp only [chainN, Bool.and_eq_true, decide_eq_true_eq] at h
    cases k with
    | zero =>
      simp only [List.getElem?_cons_zero, Option.some.injEq] at hs
      subst hs
      refine ⟨h.1.2, fun t ht => ?_⟩
      rw [List.getElem?_cons_succ] at ht
      exact (chainN_sorted h.2 ht).1
    | succ k =>
      rw [List.getElem?_cons_succ] at hs
      obtain ⟨h1, h2⟩ := chainN_sorted h.2 hs
      exact ⟨by have := h.1.2; omega, fun t ht => h2 t (by rwa [List.getElem?_cons_succ] at ht)⟩
/-- How many hours pass between a note and the one before it. -/
def gapN (l : List Nt) (k : Nat) : Int := (match l[k]? with | some s => s.hour | none => 0) - pastN l k
theorem gapN_at {l : List Nt} {k : Nat} {s : Nt} (h : l[k]? = some s) : gapN l k = s.hour - pastN l k := by simp [gapN, h]
theorem Ok9.gap {b : Sn} (h : Ok9 b) {k : Nat} {s : Nt} (hs : b.ns[k]? = some s) : 0 ≤ gapN b.ns k ∧ gapN b.ns k ≤ 60 := by
  rw [gapN_at hs]
  obtain ⟨-, h2, -⟩ := h.nt hs
  cases k with
  | zero => simp [pastN]; omega
  | succ k =>
    obtain ⟨t, ht⟩ := get_some b.ns k (by have := (List.getElem?_eq_some_iff.1 hs).1; omega)
    have h3 := (chainN_sorted h.chain ht).2 s hs
    obtain ⟨-, h4, -⟩ := h.nt ht
    simp [pastN, ht]
    omega
set_option maxHeartbeats 1000000 in
theorem since_any (b : Sn) (p : Option Addr) (c : Nat) (kd : Kd) (k : Nat) (s : Nt) (w : World) (hl : NotesAt w p b.ns) (hok : Ok9 b) (hs : b.ns[k]? = some s) :
    Calls Tryd.prog 113 #[.agg (catC b.lo b.hi p b.ns.length c kd), .int .i64 k] w fun e w' => e = .returned (.int .i64 (gapN b.ns k)) ∧ ∃ x, w' = ext w x := by
  rw [gapN_at hs]
  have hlen := hok.len
  have hkl : (k : Int) < (b.ns.length : Int) := by have := (List.getElem?_eq_some_iff.1 hs).1; omega
  obtain ⟨bb, o, rfl, hb, c1, c2, c3, c4⟩ := hl k s hs
  obtain ⟨-, h2, -⟩ := hok.nt hs
  have hk0 : (0 : Int) ≤ (k : Int) := by omega
  have hl1 : bb ≤ w.heap.size := by omega
  cases k with
  | zero =>
    simp only [Nat.zero_mul, Nat.add_zero] at c1 c2 c3 c4
    have hkl : (0 : Int) < (b.ns.length : Int) := by simpa using hkl
    clear hl hok hs hk0
    unfold catC
    go_enter Tryd.func113, Tryd.ntmps113
    go_wp2_with fail
    go_ret
    exact ⟨by simp [pastN], by (exact ext_of (by (repeat (first | (with_reducible exact Below.refl _ _) | (with_reducible assumption) | ((with_reducible refine below_ext_trans ?_ ?_ _); rotate_left; focus (((try dsimp only); repeat (first | omega | simp only [World.size_alloc, World.size_setCell, World.size_drew] | (with_reducible refine le_ext_of ?_) | (with_reducible refine le_ext_add ?_))); done)) | ((with_reducible refine Below.alloc ?_ ?_ _); rotate_left; focus (((try dsimp only); repeat (first | omega | simp only [World.size_alloc, World.size_setCell, World.size_drew] | (with_reducible refine le_ext_of ?_) | (with_reducible refine le_ext_add ?_))); done)) | ((with_reducible refine Below.setCell ?_ ?_ _); rotate_left; focus (((try dsimp only); repeat (first | omega | simp only [World.size_alloc, World.size_setCell, World.size_drew] | (with_reducible refine le_ext_of ?_) | (with_reducible refine le_ext_add ?_))); done)) | (with_reducible refine Below.drew ?_)))))⟩
  | succ k =>
    obtain ⟨t, ht⟩ := get_some b.ns k (by have := (List.getElem?_eq_some_iff.1 hs).1; omega)
    obtain ⟨bb', o', e1, hb', d1, d2, d3, d4⟩ := hl k t ht
    simp only [Option.some.injEq, Addr.mk.injEq, and_true] at e1
    obtain ⟨rfl, rfl⟩ := e1
    obtain ⟨-, h4, -⟩ := hok.nt ht
    have HP := Lib.hid (show pastN b.ns (k + 1) = t.hour by simp [pastN, ht])
    obtain ⟨j, hj⟩ : ∃ j, j = k + 1 := ⟨_, rfl⟩
    rw [← hj] at hkl hk0 c1 c2 c3 c4 HP ⊢
    have hn1 : wrap64 ((j : Int) - 1) = (k : Int) := by unfold wrap64; omega
    have hz : ((j : Int) == 0) = false := by simp; omega
    have hk2 : (0 : Int) ≤ (k : Int) := by omega
    have hk3 : (k : Int) < (b.ns.length : Int) := by omega
    have hw : wrap64 (s.hour - t.hour) = s.hour - t.hour := by unfold wrap64; omega
    have hn2 : (j : Int) - 1 = (k : Int) := by omega
    clear hl hok hs ht hj
    unfold catC
    go_enter Tryd.func113, Tryd.ntmps113
    go_upto_region 3 with fail
    refine wp_region_ext (by kernel_rfl) (by kernel_rfl) ?_
    repeat (go_big_quiet_step (fail))
    (refine wpQuiet_nil ?_; rintro _ ⟨x, rfl⟩)
    go_wp2_with fail
    go_ret
    exact ⟨by rw [HP.out]; rfl, by (exact ext_of (by (repeat (first | (with_reducible exact Below.refl _ _) | (with_reducible assumption) | ((with_reducible refine below_ext_trans ?_ ?_ _); rotate_left; focus (((try dsimp only); repeat (first | omega | simp only [World.size_alloc, World.size_setCell, World.size_drew] | (with_reducible refine le_ext_of ?_) | (with_reducible refine le_ext_add ?_))); done)) | ((with_reducible refine Below.alloc ?_ ?_ _); rotate_left; focus (((try dsimp only); repeat (first | omega | simp only [World.size_alloc, World.size_setCell, World.size_drew] | (with_reducible refine le_ext_of ?_) | (with_reducible refine le_ext_add ?_))); done)) | ((with_reducible refine Below.setCell ?_ ?_ _); rotate_left; focus (((try dsimp only); repeat (first | omega | simp only [World.size_alloc, World.size_setCell, World.size_drew] | (with_reducible refine le_ext_of ?_) | (with_reducible refine le_ext_add ?_))); done)) | (with_reducible refine Below.drew ?_)))))⟩
end Go.Proofs.YtjjfpbjdcmkkhaaDoor

namespace Go.Proofs.YtjjfpbjdcmkkhaaDoor
open Go Go.RowKit Go.Shelf

def NumsPost (w : World) (a b : Int) (e : Ending) (w' : World) : Prop :=
  ∃ g : Nat, e = .returned (.func (.func 122) #[] #[.pointer (some ⟨g, 0, none⟩)]) ∧ w.heap.size ≤ g ∧ Blk w' g 23 #[.int .i64 a, .int .i64 b] ∧ ∃ x, w' = ext w x
theorem numbers_any (a b : Int) (w : World) : Calls Tryd.prog 105 #[.agg #[.int .i64 a, .int .i64 b]] w (NumsPost w a b) := by
  go_enter Tryd.func105, Tryd.ntmps105
  go_wp2
  go_ret
  exact ⟨w.heap.size, rfl, Nat.le_refl _, Blk.new rfl, by (exact ext_of (by (repeat (first | (with_reducible exact Below.refl _ _) | (with_reducible assumption) | ((with_reducible refine below_ext_trans ?_ ?_ _); rotate_left; focus (((try dsimp only); repeat (first | omega | simp only [World.size_alloc, World.size_setCell, World.size_drew] | (with_reducible refine le_ext_of ?_) | (with_reducible refine le_ext_add ?_))); done)) | ((with_reducible refine Below.alloc ?_ ?_ _); rotate_left; focus (((try dsimp only); repeat (first | omega | simp only [World.size_alloc, World.size_setCell, World.size_drew] | (with_reducible refine le_ext_of ?_) | (with_reducible refine le_ext_add ?_))); done)) | ((with_reducible refine Below.setCell ?_ ?_ _); rotate_left; focus (((try dsimp only); repeat (first | omega | simp only [World.size_alloc, World.size_setCell, World.size_drew] | (with_reducible refine le_ext_of ?_) | (with_reducible refine le_ext_add ?_))); done)) | (with_reducible refine Below.drew ?_)))))⟩

/-- The first k numbers from one on. -/
def nupto (a : Int) (k : Nat) : List Int := (List.range k).map (fun (j : Nat) => a + (j : Int))
/-- The numbers of a span. -/
def numsL (a b : Int) : List Int := nupto a (b - a + 1).toNat
theorem nupto_snoc (a : Int) (k : Nat) : nupto a k ++ [a + (k : Int)] = nupto a (k + 1) := by simp [nupto, List.range_succ]
theorem nupto_prefix (a : Int) (k k' : Nat) (h : k ≤ k') : nupto a k <+: nupto a k' := by
  unfold nupto
  refine List.IsPrefix.map _ ?_
  refine ⟨(List.range (k' - k)).map (fun (x : Nat) => k + x), ?_⟩
  rw [← List.range_add]
  congr 1; omega
theorem mem_numsL {a b x : Int} : x ∈ numsL a b ↔ a ≤ x ∧ x ≤ b := by
  unfold numsL nupto
  simp only [List.mem_map, List.mem_range]
  constructor
  · rintro ⟨j, hj, rfl⟩; omega
  · rintro ⟨h1, h2⟩; exact ⟨(x - a).toNat, by omega, by omega⟩
abbrev encI (m : Int) : Array Value := #[.int .i64 m]

attribute [local go_sem] Oper.semAt_some
set_option maxHeartbeats 4000000 in
theorem numbers1_in (g : Nat) (a b : Int) (O : Nat → Prop) (w : World) (hk : Blk w g 23 #[.int .i64 a, .int .i64 b]) (h0a : 0 ≤ a) (hab : a ≤ b) (hb : b ≤ 100000) (hO : ∀ k, O k → k ≠ g) :
    Seq0 Tryd.prog 122 #[] #[.pointer (some ⟨g, 0, none⟩)] encI O (fun xs => xs = numsL a b) (fun pre => pre <+: numsL a b) w := by
  intro n l J Jx W hW hOW hJ hJx hY h0
  have hkW : Blk W g 23 #[.int .i64 a, .int .i64 b] := (hW.block g hk.lt).trans hk
  have hgl := hkW.lt
  have H0 : Hid (J (nupto a 0) W) := Lib.hid (show J [] W from h0)
  have HY := Lib.hid hY
  have HO := Lib.hid hO
  obtain ⟨d, hd⟩ : ∃ d : Nat, b = a + (d : Int) := ⟨(b - a).toNat, by omega⟩
  have hnums : numsL a b = nupto a (d + 1) := by unfold numsL; congr 1; omega
  rw [hnums] at HY ⊢
  subst hd
  have q0 := hkW.cell 0
  have q1 := hkW.cell 1
  simp only [List.size_toArray, List.length_cons, List.length_nil, Nat.reduceAdd, Nat.reduceLT, getElem?_pos, List.getElem_toArray, List.getElem_cons_zero, List.getElem_cons_succ] at q0 q1
  have HREL : Hid (J (nupto a 0) W ∧ Blk W g 23 #[.int .i64 a, .int .i64 (a + (d : Int))] ∧ PrivM O W W) := Lib.hid ⟨H0.out, hkW, PrivM.refl _ _⟩
  have hsub : IntKind.i64.wrap (a + (d : Int) - a + 1) = (d : Int) + 1 := by
    rw [show a + (d : Int) - a + 1 = (d : Int) + 1 by omega]
    exact IntWalk.i64_in _ (by omega)
  have HGL := Lib.hid hgl
  clear hW hOW hJ hJx hY h0 hO hkW hk H0
  refine callsIn_of_wp Tryd.func122 rfl trivial ?_ rfl
  simp only [Tryd.ntmps122, List.size_toArray, List.length_cons, List.length_nil, Nat.reduceAdd, Nat.reduceSub, Array.replicate_succ, Array.replicate_zero, List.push_toArray, List.append_toArray, List.nil_append, List.cons_append]
  gi_wp2_with fail
  clear q0 q1
  gi_loopw [3, 10, 12, 13, 14, 15, 16, 17, 18, 19, 20] (fun _ i _ _ _ _ _ _ _ _ _ wr => ∃ k : Nat, k ≤ d + 1 ∧ i = .int .i64 k ∧ Hid (J (nupto a k) wr ∧ Blk wr g 23 #[.int .i64 a, .int .i64 (a + (d : Int))] ∧ PrivM O W wr)) (fun _ i _ _ _ _ _ _ _ _ _ _ => d + 1 - (intOf i).toNat)
  case atStart => exact ⟨0, by omega, rfl, HREL⟩
  case round =>
    clear HREL
    obtain ⟨k, hk, rfl, HR⟩ := hrel
    by_cases hlt : k < d + 1
    · have hlt' : (k : Int) < (d : Int) + 1 := by omega
      have hlt2 : (k : Int) ≤ (d : Int) := by omega
      obtain ⟨fn, tmps, assign, body, hy, hR⟩ := HY.out _ (nupto a k) (a + (k : Int)) wr HR.out.2.2.size (by rw [nupto_snoc]; exact nupto_prefix a _ _ (by omega)) HR.out.1
      dsimp only [encI] at hy
      have q0 := HR.out.2.1.cell 0
      simp only [List.size_toArray, List.length_cons, List.length_nil, Nat.reduceAdd, Nat.reduceLT, getElem?_pos, List.getElem_toArray, List.getElem_cons_zero, List.getElem_cons_succ] at q0
      gi_wp2_with fail
      refine hR.mono ?_
      rintro e B (⟨rfl, hJB, hS⟩ | ⟨rfl, hJB, hS⟩)
      · have HS := Lib.hid hS
        have HJB := Lib.hid hJB
        clear hS hJB hy hR q0
        gi_wp2_with fail
        go_roundw
        case rel =>
          refine ⟨k + 1, by omega, by go_num, Lib.hid ⟨by have := HJB.out; rw [nupto_snoc] at this; exact this, (HS.out.block g (by have := HR.out.2.2.size; have := HGL.out; omega) (fun e => HO.out g e rfl)).trans HR.out.2.1, HR.out.2.2.trans HS.out⟩⟩
        case measure => simp [intOf]; omega
      · gi_wp2_with fail
        refine bodyPost_ret (results_none rfl _ _ _) rfl ?_
        exact ⟨⟨_, rfl⟩, HR.out.2.2.trans hS, .inr ⟨_, by rw [nupto_snoc]; exact nupto_prefix a _ _ (by omega), hJB⟩⟩
    · have hge : ¬ ((k : Int) < (d : Int) + 1) := by omega
      gi_wp2_with fail
      go_end0
      obtain rfl : k = d + 1 := by omega
      exact ⟨⟨_, rfl⟩, HR.out.2.2, .inl HR.out.1⟩
end Go.Proofs.YtjjfpbjdcmkkhaaDoor

