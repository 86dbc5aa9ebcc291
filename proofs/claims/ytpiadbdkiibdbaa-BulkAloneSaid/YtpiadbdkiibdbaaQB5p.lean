/- Package bulk, plainly: loads of a lot, truths of a book, and the ends of what is asked of them. -/
/- Contracts of package bulk: what is asked of a lot; sums. -/
/- The lists that ranges over functions leave behind, of calls that were put off: all of them empty. -/
/- An assignment inside a round. -/
import Derived.Test.YtpiadbdkiibdbaaQStp
import Derived.Test.YtpiadbdkiibdbaaQB5e
import Derived.Test.YtpiadbdkiibdbaaQIt
set_option linter.unusedSimpArgs false
set_option linter.unusedVariables false
namespace Go.Proofs.Ytpiadbdkiibdbaa
open Go Go.RowKit
theorem enoughI_mono {f g h : Int} (hh : 1 ≤ h) (hfg : f ≤ g) : enoughI f h ≤ enoughI g h := by
  unfold enoughI
  exact Int.ediv_le_ediv (by omega) (by omega)
theorem enoughI_le {f h n : Int} (hh : 1 ≤ h) : enoughI f h ≤ n ↔ f ≤ n * h := by
  unfold enoughI
  rw [← Int.lt_add_one_iff, Int.ediv_lt_iff_lt_mul (by omega), Int.add_mul]
  omega
theorem enoughI_anti {f h k : Int} (hf : 0 ≤ f) (hh : 1 ≤ h) (hk : h ≤ k) : enoughI f k ≤ enoughI f h := by
  rw [enoughI_le (by omega)]
  have h1 := (enoughI_le (f := f) (h := h) (n := enoughI f h) hh).1 (Int.le_refl _)
  have h0 : 0 ≤ enoughI f h := by
    unfold enoughI
    exact Int.ediv_nonneg (by omega) (by omega)
  exact Int.le_trans h1 (Int.mul_le_mul_of_nonneg_left hk h0)
theorem enoughI_nonneg {f h : Int} (hf : 0 ≤ f) (hh : 1 ≤ h) : 0 ≤ enoughI f h := by
  unfold enoughI
  exact Int.ediv_nonneg (by omega) (by omega)
theorem enoughI_self {f h : Int} (hf : 0 ≤ f) (hh : 1 ≤ h) : enoughI f h ≤ f := by
  rw [enoughI_le hh]
  have := Int.mul_le_mul_of_nonneg_left hh hf
  omega
/-- A load of a lot by which its counts are right. -/
structure LoadIs (b : Ck) (m : Ms) (t : Lt) (l : Int × Int) : Prop where
  fish : 0 ≤ l.1 ∧ l.1 ≤ 400
  waste : t.wl ≤ l.1 - l.2 ∧ l.1 - l.2 ≤ t.wh ∧ l.1 - l.2 ≤ l.1
  c0 : agreeB t.t0 b.e0 (cntI m 0 l) = true
  c1 : agreeB t.t1 b.e1 (cntI m 1 l) = true
  c2 : agreeB t.t2 b.e2 (cntI m 2 l) = true
theorem mem_loadF {b : Ck} {m : Ms} {t : Lt} {f : Int} {l : Int × Int} : l ∈ loadF b m t f ↔ l.1 = f ∧ (t.wl ≤ l.1 - l.2 ∧ l.1 - l.2 ≤ t.wh ∧ l.1 - l.2 ≤ l.1) ∧ agreeB t.t0 b.e0 (cntI m 0 l) = true ∧ agreeB t.t1 b.e1 (cntI m 1 l) = true ∧ agreeB t.t2 b.e2 (cntI m 2 l) = true := by
  obtain ⟨x, y⟩ := l
  unfold loadF
  constructor
  · intro h
    split at h
    · rename_i hc
      rw [Bool.and_eq_true] at hc
      simp only [List.mem_filter, List.mem_map, mem_numsL, Prod.mk.injEq] at h
      obtain ⟨⟨w, hw, rfl, rfl⟩, h2⟩ := h
      exact ⟨by first | rfl | trivial, by dsimp only; omega, hc.1, hc.2, h2⟩
    · simp at h
  · rintro ⟨rfl, hw, h0, h1, h2⟩
    dsimp only at *
    rw [if_pos (by rw [Bool.and_eq_true]; exact ⟨h0, h1⟩)]
    simp only [List.mem_filter, List.mem_map, mem_numsL, Prod.mk.injEq]
    exact ⟨⟨x - y, by omega, by first | rfl | trivial, by omega⟩, h2⟩
theorem mem_loadsL {b : Ck} {m : Ms} {t : Lt} {l : Int × Int} : l ∈ loadsL b m t ↔ LoadIs b m t l := by
  unfold loadsL
  rw [List.mem_flatMap]
  constructor
  · rintro ⟨f, hf, hl⟩
    obtain ⟨rfl, h1, h2, h3, h4⟩ := mem_loadF.1 hl
    exact ⟨mem_numsL.1 hf, h1, h2, h3, h4⟩
  · intro h
    exact ⟨l.1, mem_numsL.2 h.fish, mem_loadF.2 ⟨rfl, h.waste, h.c0, h.c1, h.c2⟩⟩
theorem canB_iff {b : Ck} {m : Ms} {t : Lt} : canB b m t = true ↔ ∃ l, LoadIs b m t l := by
  unfold canB
  rw [Bool.not_eq_true', List.isEmpty_eq_false_iff_exists_mem]
  exact exists_congr fun l => mem_loadsL
/-- Measures can hold so many. -/
def MsIn (b : Ck) (m : Ms) : Prop := (b.l0 ≤ m.a ∧ m.a ≤ b.u0) ∧ (b.l1 ≤ m.b ∧ m.b ≤ b.u1) ∧ (b.l2 ≤ m.c ∧ m.c ≤ b.u2)
theorem mem_storesL {b : Ck} {m : Ms} : m ∈ storesL b ↔ MsIn b m := by
  obtain ⟨x, y, z⟩ := m
  unfold storesL MsIn
  simp only [List.mem_flatMap, List.mem_map, mem_numsL, Ms.mk.injEq]
  constructor
  · rintro ⟨x, hx, y, hy, z, hz, rfl, rfl, rfl⟩
    exact ⟨hx, hy, hz⟩
  · rintro ⟨hx, hy, hz⟩
    exact ⟨x, hx, y, hy, z, hz, rfl, rfl, rfl⟩
/-- A truth of a book: what measures hold, and the load of each lot. -/
structure TrueIs (b : Ck) (m : Ms) (L : List (Int × Int)) : Prop where
  ms : MsIn b m
  len : L.length = b.ls.length
  ok : ∀ (i : Nat) (t : Lt) (l : Int × Int), b.ls[i]? = some t → L[i]? = some l → LoadIs b m t l
theorem choose_all {α β : Type} {R : α → β → Prop} : ∀ {l : List α}, (∀ a ∈ l, ∃ c, R a c) → ∃ L : List β, L.length = l.length ∧ ∀ (i : Nat) (a : α) (c : β), l[i]? = some a → L[i]? = some c → R a c
  | [], _ => ⟨[], rfl, fun i a c h => by simp at h⟩
  | a :: l, h => by
    obtain ⟨c, hc⟩ := h a (by simp)
    obtain ⟨L, h1, h2⟩ := choose_all (l := l) (fun x hx => h x (by simp [hx]))
    refine ⟨c :: L, by simp [h1], fun i x y hx hy => ?_⟩
    cases i with
    | zero => simp at hx hy; subst hx hy; exact hc
    | succ i => exact h2 i x y (by simpa using hx) (by simpa using hy)
theorem trueM_iff {b : Ck} {m : Ms} : trueM b m = true ↔ ∀ t ∈ b.ls, ∃ l, LoadIs b m t l := by
  unfold trueM
  rw [List.all_eq_true]
  exact forall_congr' fun t => imp_congr_right fun _ => canB_iff
theorem mem_truthsL {b : Ck} {m : Ms} : m ∈ truthsL b ↔ ∃ L, TrueIs b m L := by
  unfold truthsL
  rw [List.mem_filter, mem_storesL, trueM_iff]
  constructor
  · rintro ⟨h1, h2⟩
    obtain ⟨L, h3, h4⟩ := choose_all h2
    exact ⟨L, h1, h3, h4⟩
  · rintro ⟨L, h1, h2, h3⟩
    refine ⟨h1, fun t ht => ?_⟩
    obtain ⟨i, hi, rfl⟩ := List.mem_iff_getElem.1 ht
    exact ⟨L[i]'(by omega), h3 i _ _ (List.getElem?_eq_getElem hi) (List.getElem?_eq_getElem (by omega))⟩
def rightC (b : Ck) : Bool := !(truthsL b).isEmpty
theorem rightC_iff {b : Ck} : rightC b = true ↔ ∃ m L, TrueIs b m L := by
  unfold rightC
  rw [Bool.not_eq_true', List.isEmpty_eq_false_iff_exists_mem]
  exact exists_congr fun m => mem_truthsL
/-- The ends of what is asked of all truths. -/
structure EndsC (b : Ck) (g : Ms → List (Int × Int) → Int) (lo hi : Int) : Prop where
  low : ∃ m L, TrueIs b m L ∧ g m L = lo
  high : ∃ m L, TrueIs b m L ∧ g m L = hi
  all : ∀ m L, TrueIs b m L → lo ≤ g m L ∧ g m L ≤ hi
theorem EndsC.uniq {b : Ck} {g : Ms → List (Int × Int) → Int} {lo hi lo' hi' : Int} (h : EndsC b g lo hi) (h' : EndsC b g lo' hi') : lo = lo' ∧ hi = hi' := by
  obtain ⟨m1, L1, a1, a2⟩ := h.low
  obtain ⟨m2, L2, a3, a4⟩ := h.high
  obtain ⟨m3, L3, a5, a6⟩ := h'.low
  obtain ⟨m4, L4, a7, a8⟩ := h'.high
  have := h.all _ _ a5
  have := h.all _ _ a7
  have := h'.all _ _ a1
  have := h'.all _ _ a3
  omega
/-- The ends of what is asked of the loads of a lot. -/
structure EndsL (b : Ck) (m : Ms) (t : Lt) (g : Int × Int → Int) (lo hi : Int) : Prop where
  low : ∃ l, LoadIs b m t l ∧ g l = lo
  high : ∃ l, LoadIs b m t l ∧ g l = hi
  all : ∀ l, LoadIs b m t l → lo ≤ g l ∧ g l ≤ hi
/-- What can be asked of a lot. -/
inductive Qs where
  | fish
  | packed
  | count (k : Nat)
def Qs.num : Qs → Ms → Int × Int → Int
  | .fish, _, l => l.1
  | .packed, _, l => l.2
  | .count k, m, l => cntI m k l
end Go.Proofs.Ytpiadbdkiibdbaa

namespace Go.Proofs.Ytpiadbdkiibdbaa
open Go Go.RowKit
attribute [local go_sem] Oper.semAt_some frozen_alloc_lt
/-- A question, as a function value: which function it is, and what it holds. -/
def QAt (w : World) (f : FuncId) (lb : Array Value) : Qs → Prop
  | .fish => f = 92 ∧ lb = #[]
  | .packed => f = 96 ∧ lb = #[]
  | .count k => f = 97 ∧ k < 3 ∧ ∃ g : Nat, lb = #[.pointer (some ⟨g, 0, none⟩)] ∧ Blk w g 3 #[.int .i64 k]
theorem QAt.bel {w w' : World} {f : FuncId} {lb : Array Value} {q : Qs} (h : QAt w f lb q) (hb : Below w.heap.size w w') : QAt w' f lb q := by
  cases q with
  | fish => exact h
  | packed => exact h
  | count k => obtain ⟨h1, h2, g, h3, h4⟩ := h; exact ⟨h1, h2, g, h3, h4.bel hb⟩
def qsV (f : FuncId) (lb : Array Value) : Value := .agg #[.func (.func f) #[] lb]
theorem asksFish_any (w : World) : Calls Try.prog 68 #[] w fun e w' => ∃ f lb, e = .returned (qsV f lb) ∧ QAt w' f lb .fish ∧ ∃ x, w' = ext w x := by
  go_enter Try.func68, Try.ntmps68
  go_wp2
  refine bodyPost_ret (v := .agg #[.func (.func 92) #[] #[]]) (by simp [results, Try.results68, go_sem]) rfl ⟨_, _, rfl, ⟨rfl, rfl⟩, by (exact ext_of (by (exact belA)))⟩
theorem asksPacked_any (w : World) : Calls Try.prog 70 #[] w fun e w' => ∃ f lb, e = .returned (qsV f lb) ∧ QAt w' f lb .packed ∧ ∃ x, w' = ext w x := by
  go_enter Try.func70, Try.ntmps70
  go_wp2
  refine bodyPost_ret (v := .agg #[.func (.func 96) #[] #[]]) (by simp [results, Try.results70, go_sem]) rfl ⟨_, _, rfl, ⟨rfl, rfl⟩, by (exact ext_of (by (exact belA)))⟩
theorem asksCount_any (k : Nat) (hk : k < 3) (w : World) : Calls Try.prog 71 #[.int .i64 k] w fun e w' => ∃ f lb, e = .returned (qsV f lb) ∧ QAt w' f lb (.count k) ∧ ∃ x, w' = ext w x := by
  go_enter Try.func71, Try.ntmps71
  go_wp2
  refine bodyPost_ret (v := .agg #[.func (.func 97) #[] #[.pointer (some ⟨w.heap.size, 0, none⟩)]]) (by simp [results, Try.results71, go_sem]) rfl ⟨_, _, rfl, ⟨rfl, hk, _, rfl, ?_⟩, by (exact ext_of (by (exact belA)))⟩
  exact (Blk.new rfl).alloc _
theorem fishQ_any (m : Ms) (l : Int × Int) (w : World) : Calls Try.prog 92 #[msV m, ldV l] w fun e w' => e = .returned (.int .i64 l.1) ∧ ∃ x, w' = ext w x := by
  unfold msV ldV
  go_enter Try.func92, Try.ntmps92
  go_wp2
  go_ret
  exact ⟨rfl, by (exact ext_of (by (exact belA)))⟩
theorem packedQ_any (m : Ms) (l : Int × Int) (w : World) : Calls Try.prog 96 #[msV m, ldV l] w fun e w' => e = .returned (.int .i64 l.2) ∧ ∃ x, w' = ext w x := by
  unfold msV ldV
  go_enter Try.func96, Try.ntmps96
  go_wp2
  go_ret
  exact ⟨rfl, by (exact ext_of (by (exact belA)))⟩
set_option maxRecDepth 100000 in
theorem countQ_any (m : Ms) (l : Int × Int) (k g : Nat) (w : World) (hk : Blk w g 3 #[.int .i64 k]) (hk3 : k < 3) (hm : MsOK m) (h1 : 0 ≤ l.1 ∧ l.1 ≤ 100000) (h2 : 0 ≤ l.2 ∧ l.2 ≤ 100000) : Calls Try.prog 97 #[msV m, ldV l, .pointer (some ⟨g, 0, none⟩)] w fun e w' => e = .returned (.int .i64 (cntI m k l)) ∧ ∃ x, w' = ext w x := by
  have HM := Lib.hid hm
  have c0 := Blk.c1 hk
  have lg := hk.lt
  unfold msV ldV
  go_enter Try.func97, Try.ntmps97
  go_wp2_with (go_at_call 98; refine (count_any m k l _ HM.out hk3 h1 h2).mono ?_; rintro e w' ⟨rfl, y, rfl⟩)
  go_ret
  exact ⟨rfl, by (exact ext_of (by (exact belA)))⟩
/-- What is asked of a load. -/
theorem num_any (q : Qs) (f : FuncId) (lb : Array Value) (m : Ms) (l : Int × Int) (x : Int) (w : World) (hq : QAt w f lb q) (hm : MsOK m) (h1 : 0 ≤ l.1 ∧ l.1 ≤ 100000) (h2 : 0 ≤ l.2 ∧ l.2 ≤ 100000) (hx : q.num m l = x) :
    Calls Try.prog f (#[msV m, ldV l] ++ lb) w fun e w' => e = .returned (.int .i64 x) ∧ ∃ x, w' = ext w x := by
  subst hx
  cases q with
  | fish => obtain ⟨rfl, rfl⟩ := hq; exact fishQ_any m l w
  | packed => obtain ⟨rfl, rfl⟩ := hq; exact packedQ_any m l w
  | count k => obtain ⟨rfl, hk, g, rfl, hg⟩ := hq; exact countQ_any m l k g w hg hk hm h1 h2
theorem sum_bd : ∀ {l : List Int}, (∀ x ∈ l, 0 ≤ x ∧ x ≤ 100000) → 0 ≤ l.sum ∧ l.sum ≤ 100000 * (l.length : Int)
  | [], _ => by simp
  | a :: l, h => by
    have h1 := h a (by simp)
    have h2 := sum_bd (l := l) (fun x hx => h x (by simp [hx]))
    rw [List.sum_cons, List.length_cons]
    omega
set_option maxHeartbeats 1000000 in
theorem sum_any (p : Option Addr) (c : Nat) (l : List Int) (s : Int) (w : World) (hl : IntsAt w p l) (hb : ∀ x ∈ l, 0 ≤ x ∧ x ≤ 100000) (hn : l.length ≤ 100) (hs : l.sum = s) :
    Calls Try.prog 112 #[.slice p l.length c] w fun e w' => e = .returned (.int .i64 s) ∧ ∃ x, w' = ext w x := by
  have HS := Lib.hid hs
  have HB := Lib.hid hb
  clear hs hb
  go_enter Try.func112, Try.ntmps112
  go_wp2_with fail
  go_loopw [3, 5, 8] (fun t _ i wr => ∃ (k : Nat) (v : Int), k ≤ l.length ∧ i = .int .i64 k ∧ t = .int .i64 v ∧ Hid ((l.take k).sum = v) ∧ ∃ x, wr = ext w x) (fun _ _ i _ => l.length - (intOf i).toNat)
  case atStart => exact ⟨0, 0, by omega, rfl, rfl, Lib.hid rfl, ext_of (Below.refl _ _)⟩
  case round =>
    obtain ⟨k, v, hk, rfl, rfl, HV, x, rfl⟩ := hrel
    by_cases hlt : k < l.length
    · obtain ⟨t, ht⟩ := get_some l k hlt
      obtain ⟨b, o, rfl, hb', c1⟩ := hl.ext x k _ ht
      have htb := HB.out t (List.mem_of_getElem? ht)
      have hvb := sum_bd (l := l.take k) (fun y hy => HB.out y (List.mem_of_mem_take hy))
      rw [HV.out, List.length_take] at hvb
      have HN := Lib.hid (show (l.take (k + 1)).sum = v + t by rw [List.take_add_one, ht, Option.toList_some, List.sum_append, HV.out]; simp)
      have k0 : (0 : Int) ≤ (k : Int) := by omega
      have k1 : (k : Int) < (l.length : Int) := by omega
      have HW := Lib.hid (wrap_num k (by omega))
      have e1 : IntKind.i64.wrap (v + t) = v + t := IntWalk.i64_in _ (by omega)
      have e2 : wrap64 (v + t) = v + t := by unfold wrap64; omega
      clear ht
      go_wp2_with fail
      go_roundw
      case rel => exact ⟨k + 1, v + t, hlt, by first | go_num | (rw [HW.out]), rfl, HN, by (exact ext_of (by (exact belA)))⟩
      case measure => simp [intOf]; omega
    · obtain rfl : k = l.length := by omega
      have HZ := Lib.hid (show v = s by rw [← HV.out, List.take_length, HS.out])
      go_wp2_with fail
      go_ret
      exact ⟨by rw [HZ.out]; rfl, by (exact ext_of (by (exact belA)))⟩
end Go.Proofs.Ytpiadbdkiibdbaa

namespace Go.Proofs.Ytpiadbdkiibdbaa
open Go Go.RowKit

/-- A list that a range left behind, and that is empty. -/
def coll (D : Nat) : Deferred := { target := .collected D, args := #[] }
/-- The return of a call in which ranges over functions ran, if none of them put off a call: their lists are shut, one after another. -/
theorem leaves_coll {F : Fence} {n : Nat} {P : Program} {fn : Func} {tmps : Array Value} {R : Ending → World → Prop} : ∀ (Ds : List Nat) (w : World), Ds.Nodup → (∀ D ∈ Ds, w.heap[D]? = some (.deferred (some []))) →
    (∀ w' : World, w'.os = w.os → w'.tape = w.tape → w'.output = w.output → w'.heap.size = w.heap.size → (∀ k, k ∉ Ds → w'.heap[k]? = w.heap[k]?) → LeavesInM F n P fn tmps R [] .returning w') →
    LeavesInM F n P fn tmps R (Ds.map coll) .returning w
  | [], w, _, _, h => h w rfl rfl rfl rfl (fun _ _ => rfl)
  | D :: Ds, w, hnd, hD, h => by
    rw [List.nodup_cons] at hnd
    refine ⟨by simp, .inl ⟨D, w.putObj D (.deferred none), rfl, run_takeDeferred (hD D (by simp)), ?_⟩⟩
    refine leaves_coll Ds _ hnd.2 (fun k hk => (World.putObj_heap_other (by rintro rfl; exact hnd.1 hk)).trans (hD k (by simp [hk]))) ?_
    intro w' e1 e2 e3 e4 e5
    refine h w' e1 e2 e3 (e4.trans (World.putObj_size ..)) (fun k hk => ?_)
    simp only [List.mem_cons, not_or] at hk
    exact (e5 k hk.2).trans (World.putObj_heap_other hk.1)
/-- Empty lists that ranges left behind, from a block on. -/
structure Defs (n0 : Nat) (Ds : List Nat) (w : World) : Prop where
  nd : Ds.Nodup
  is : ∀ D ∈ Ds, w.heap[D]? = some (.deferred (some []))
  ge : ∀ D ∈ Ds, n0 ≤ D
theorem Defs.nil (n0 : Nat) (w : World) : Defs n0 [] w := ⟨List.nodup_nil, by simp, by simp⟩
theorem Defs.lt {n0 : Nat} {Ds : List Nat} {w : World} (h : Defs n0 Ds w) {D : Nat} (hD : D ∈ Ds) : D < w.heap.size := (Array.getElem?_eq_some_iff.1 (h.is D hD)).1
theorem Defs.privM {n0 : Nat} {Ds : List Nat} {w w' : World} {O : Nat → Prop} (h : Defs n0 Ds w) (hp : PrivM O w w') (hO : ∀ D ∈ Ds, ¬ O D) : Defs n0 Ds w' := ⟨h.nd, fun D hD => (hp.block D (h.lt hD) (hO D hD)).trans (h.is D hD), h.ge⟩
theorem Defs.below {n0 : Nat} {Ds : List Nat} {w w' : World} (h : Defs n0 Ds w) (hp : Below w.heap.size w w') : Defs n0 Ds w' := ⟨h.nd, fun D hD => (hp.block D (h.lt hD)).trans (h.is D hD), h.ge⟩
theorem Defs.cons {n0 D : Nat} {Ds : List Nat} {w : World} (h : Defs n0 Ds w) (hD : w.heap[D]? = some (.deferred (some []))) (hn : n0 ≤ D) (hne : D ∉ Ds) : Defs n0 (D :: Ds) w :=
  ⟨List.nodup_cons.2 ⟨hne, h.nd⟩, fun E hE => by rcases List.mem_cons.1 hE with rfl | hE; exact hD; exact h.is E hE, fun E hE => by rcases List.mem_cons.1 hE with rfl | hE; exact hn; exact h.ge E hE⟩
/-- The return. -/
theorem Defs.leave {F : Fence} {n : Nat} {P : Program} {fn : Func} {tmps : Array Value} {R : Ending → World → Prop} {n0 : Nat} {Ds : List Nat} {w : World} (h : Defs n0 Ds w) (hr : ∀ w' : World, Below n0 w w' → w'.heap.size = w.heap.size → (∀ k, k ∉ Ds → w'.heap[k]? = w.heap[k]?) → LeavesInM F n P fn tmps R [] .returning w') :
    LeavesInM F n P fn tmps R (Ds.map coll) .returning w :=
  leaves_coll Ds w h.nd h.is fun w' e1 e2 e3 e4 e5 => hr w' ⟨e1, e2, e3, Nat.le_of_eq e4.symm, fun k hk => e5 k (fun hD => by have := h.ge k hD; omega)⟩ e4 e5
end Go.Proofs.Ytpiadbdkiibdbaa

namespace Go.Proofs.Ytpiadbdkiibdbaa
open Go Go.RowKit
attribute [local go_sem] Oper.semAt_some
theorem wpIn_assign {F : Fence} {n : Nat} {P : Program} {id d s : Nat} {ty : TypeId} {pos : String} {Q : Exit → Act → World → Prop} {a : Act} {w : World} (h : Q .normal (a.put (some d) (a.eval (.tmp s))) w) :
    (Code.region id #[{ dst := some d, op := .assign (.tmp s), type := ty, pos := pos, after := #[], guard := none }] false).wpIn F n P Q a w := by
  refine wpIn_region_list ?_
  refine wpListIn_plain rfl fun K hK => ?_
  have h2 := hK _ _ h
  clear h hK
  unfold Oper.wpIn
  simp [go_sem, execOp, Oper.about]
  rw [Oper.semAt_plain _ _ _ (by intro c hc; cases hc)]
  simp [go_sem, execOp]
  simpa [Act.put, Act.eval, go_sem] using h2
theorem YieldAt.inR {F : Fence} {m : Nat} {P : Program} {l : Nat} {args : Array Value} {W : World} {R : Ending → World → Prop} (l' : Nat) (h : YieldAt F m P l args W R) : YieldAt (F.inRound l') m P l args W R := h
end Go.Proofs.Ytpiadbdkiibdbaa

