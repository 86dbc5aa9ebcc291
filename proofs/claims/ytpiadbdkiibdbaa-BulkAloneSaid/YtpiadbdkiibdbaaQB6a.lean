/- Package bulk, plainly: what is told of a book, computed. -/
import Derived.Test.YtpiadbdkiibdbaaQB5zi
set_option linter.unusedSimpArgs false
set_option linter.unusedVariables false
namespace Go.Proofs.Ytpiadbdkiibdbaa
open Go Go.RowKit
def lotLo (b : Ck) (m : Ms) (q : Qs) (t : Lt) : Int := lsF (q.num m) (endsOf (loadsL b m t))
def lotHi (b : Ck) (m : Ms) (q : Qs) (t : Lt) : Int := gtF (q.num m) (endsOf (loadsL b m t))
def sumLo (b : Ck) (q : Qs) (i0 n : Nat) (m : Ms) : Int := ((cutL b.ls i0 n).map (lotLo b m q)).sum
def sumHi (b : Ck) (q : Qs) (i0 n : Nat) (m : Ms) : Int := ((cutL b.ls i0 n).map (lotHi b m q)).sum
/-- The ends of what is asked of some lots, in all truths. -/
def ansV (b : Ck) (q : Qs) (i0 n : Nat) : Int × Int := (truthsL b).foldl (fun a m => (min a.1 (sumLo b q i0 n m), max a.2 (sumHi b q i0 n m))) (1600, 0)
def holdV (b : Ck) (k : Nat) : Int × Int := (truthsL b).foldl (fun a m => (min a.1 (m.at k), max a.2 (m.at k))) (9, 0)
theorem acc_fold {b : Ck} {g : Ms → List (Int × Int) → Int} {top : Int} (f1 f2 : Ms → Int) (h : ∀ m ∈ truthsL b, EndsM b g m (f1 m) (f2 m) ∧ f1 m ≤ top ∧ 0 ≤ f2 m) : ∀ (l pre : List Ms) (a : Int × Int), (∀ m ∈ l, m ∈ truthsL b) → AccOK b g top pre a.1 a.2 →
    AccOK b g top (pre ++ l) (l.foldl (fun a m => (min a.1 (f1 m), max a.2 (f2 m))) a).1 (l.foldl (fun a m => (min a.1 (f1 m), max a.2 (f2 m))) a).2
  | [], pre, a, _, ha => by rw [List.append_nil]; exact ha
  | m :: l, pre, a, hl, ha => by
    obtain ⟨h1, h2, h3⟩ := h m (hl m (by simp))
    have := acc_fold f1 f2 h l (pre ++ [m]) (min a.1 (f1 m), max a.2 (f2 m)) (fun x hx => hl x (by simp [hx])) (ha.step h1 h2 h3)
    rw [List.append_assoc] at this
    exact this
theorem lots_up {b : Ck} {m : Ms} {q : Qs} {i0 n : Nat} (hv : cellV b = true) (hq : ∀ k, q = .count k → k < 3) (hn : i0 + n ≤ b.ls.length) (hm : m ∈ truthsL b) :
    EndsUp b m q (cutL b.ls i0 n) n ((cutL b.ls i0 n).map (lotLo b m q)) ((cutL b.ls i0 n).map (lotHi b m q)) := by
  have hlen := cutL_len (l := b.ls) hn
  refine ⟨by rw [List.length_map, hlen], by rw [List.length_map, hlen], fun j t lo hi ht h1 h2 => ?_⟩
  rw [List.getElem?_map, ht] at h1 h2
  cases h1; cases h2
  have htb := cutL_sub t (List.mem_of_getElem? ht)
  have hmk := ms_ok (cell_holds hv) (truths_sub hm)
  have hc : canB b m t = true := canB_iff.2 (trueM_iff.1 (List.mem_filter.1 hm).2 t htb)
  have hok := (cell_bk hv).ok t htb
  refine ends_of b m t q _ hmk hq hc (fun l hl => ?_) (fun z => Iff.rfl)
  have hL := mem_loadsL.1 hl
  have := hL.fish
  have := hL.waste
  have := hok.ws
  omega
theorem ansV_ends {b : Ck} {q : Qs} {i0 n : Nat} (hv : cellV b = true) (hq : ∀ k, q = .count k → k < 3) (hn : i0 + n ≤ b.ls.length) (hr : rightC b = true) : EndsC b (gSum q i0 n) (ansV b q i0 n).1 (ansV b q i0 n).2 := by
  have := acc_fold (b := b) (g := gSum q i0 n) (top := 1600) (sumLo b q i0 n) (sumHi b q i0 n) (fun m hm => by
    have hu := lots_up (n := n) (i0 := i0) hv hq hn hm
    obtain ⟨b1, b2⟩ := hu.bd (ms_ok (cell_holds hv) (truths_sub hm)) (fun t ht => (cell_bk hv).ok t (cutL_sub t ht)) hq (by rw [cutL_len hn]; omega)
    have s1 := sum_up b1
    have s2 := sum_up b2
    have h4 := (cell_bk hv).n
    rw [hu.l1] at s1
    exact ⟨hu.ends hm hn, by show List.sum _ ≤ _; omega, s2.1⟩) (truthsL b) [] (1600, 0) (fun m h => h) (AccOK.start _ _ _)
  rw [List.nil_append] at this
  exact AccOK.ends this hr
theorem holdV_ends {b : Ck} {k : Nat} (hv : cellV b = true) (hr : rightC b = true) : EndsC b (fun m _ => m.at k) (holdV b k).1 (holdV b k).2 := by
  have := acc_fold (b := b) (g := fun m _ => m.at k) (top := 9) (fun m => m.at k) (fun m => m.at k) (fun m hm => by
    have := (ms_ok (cell_holds hv) (truths_sub hm)).at k
    exact ⟨endsM_at k hm, this.2, by omega⟩) (truthsL b) [] (9, 0) (fun m h => h) (AccOK.start _ _ _)
  rw [List.nil_append] at this
  exact AccOK.ends this hr
def worstV (b : Ck) (k : Nat) (l : List Int) : Int := l.foldl (fun v x => if rightC (knownC b k x) then max v ((ansV (knownC b k x) .fish 0 b.ls.length).2 - (ansV (knownC b k x) .fish 0 b.ls.length).1) else v) 0
theorem known_cell {b : Ck} (h : cellV b = true) {k : Nat} {v : Int} (hv : 1 ≤ v ∧ v ≤ 9) : cellV (knownC b k v) = true := by
  have hs : spanV v v 1 9 3 = true := by simp [spanV, inV]; omega
  unfold cellV at *
  rw [known_ls]
  rw [Bool.and_eq_true] at *
  refine ⟨?_, h.2⟩
  have h1 := h.1
  unfold measV at *
  unfold knownC
  split <;> simp only [Bool.and_eq_true] at * <;> simp [hs, h1]
theorem worstV_is {b : Ck} {k : Nat} (hv : cellV b = true) : ∀ (l pre : List Int) (v : Int), (∀ x ∈ l, 1 ≤ x ∧ x ≤ 9) → WorstIs b k pre v →
    WorstIs b k (pre ++ l) (l.foldl (fun v x => if rightC (knownC b k x) then max v ((ansV (knownC b k x) .fish 0 b.ls.length).2 - (ansV (knownC b k x) .fish 0 b.ls.length).1) else v) v)
  | [], pre, v, _, h => by rw [List.append_nil]; exact h
  | x :: l, pre, v, hl, h => by
    have hx := hl x (by simp)
    have hl' : ∀ y ∈ l, 1 ≤ y ∧ y ≤ 9 := fun y hy => hl y (by simp [hy])
    rw [List.foldl_cons]
    have step : WorstIs b k (pre ++ [x]) (if rightC (knownC b k x) then max v ((ansV (knownC b k x) .fish 0 b.ls.length).2 - (ansV (knownC b k x) .fish 0 b.ls.length).1) else v) := by
      by_cases hr : rightC (knownC b k x) = true
      · rw [if_pos hr]
        exact h.yes (ansV_ends (known_cell hv hx) (fun k e => by cases e) (by rw [known_ls]; omega) hr)
      · rw [if_neg hr]
        exact h.no (by simpa using hr)
    have := worstV_is hv l (pre ++ [x]) _ hl' step
    rw [List.append_assoc] at this
    exact this
theorem worstV_worst {b : Ck} {k : Nat} (hv : cellV b = true) {l : List Int} (hl : ∀ x ∈ l, 1 ≤ x ∧ x ≤ 9) : WorstIs b k l (worstV b k l) := by
  have := worstV_is (k := k) hv l [] 0 hl (WorstIs.start b k)
  rw [List.nil_append] at this
  exact this
/-- The chapter's books. -/
def bookC (x y : Int) : Ck := ⟨3, 4, 8, 9, 5, 6, 1, 0, 0, [⟨10, 4, 6, 1, 3⟩, ⟨x, y, 12, 0, 2⟩]⟩
theorem own_cell : cellV (bookC 20 (-1)) = true := by kernel_rfl
theorem rowed_cell : cellV (bookC 20 9) = true := by kernel_rfl
theorem false_cell : cellV (bookC 30 (-1)) = true := by kernel_rfl
theorem own_right : rightC (bookC 20 (-1)) = true := by kernel_rfl
theorem rowed_right : rightC (bookC 20 9) = true := by kernel_rfl
theorem own_fish0 : ansV (bookC 20 (-1)) .fish 0 1 = (27, 36) := by kernel_rfl
theorem own_packed1 : ansV (bookC 20 (-1)) .packed 1 1 = (56, 72) := by kernel_rfl
theorem own_count0 : ansV (bookC 20 (-1)) (.count 0) 0 1 = (9, 11) := by kernel_rfl
theorem own_total : ansV (bookC 20 (-1)) .fish 0 2 = (83, 110) := by kernel_rfl
theorem own_casks : ansV (bookC 20 (-1)) (.count 2) 0 2 = (18, 18) := by kernel_rfl
theorem own_holds0 : holdV (bookC 20 (-1)) 0 = (3, 4) := by kernel_rfl
theorem rowed_holds0 : holdV (bookC 20 9) 0 = (4, 4) := by kernel_rfl
theorem own_worst0 : worstV (bookC 20 (-1)) 0 (numsL 3 4) = 12 := by kernel_rfl
theorem own_worst1 : worstV (bookC 20 (-1)) 1 (numsL 8 9) = 26 := by kernel_rfl
theorem own_worst2 : worstV (bookC 20 (-1)) 2 (numsL 5 6) = 12 := by kernel_rfl
theorem false_wrong : wrongL (bookC 30 (-1)) = [3] := by kernel_rfl
theorem false_right : rightC (bookC 30 (-1)) = false := by kernel_rfl
theorem own_weigh {a w0 w1 w2 : Int} (h : WeighIs (bookC 20 (-1)) a w0 w1 w2) : a = 0 := by
  have nums_in : ∀ {lo hi : Int}, 1 ≤ lo → hi ≤ 9 → ∀ x ∈ numsL lo hi, 1 ≤ x ∧ x ≤ 9 := fun h1 h2 x hx => by
    have := mem_numsL.1 hx
    omega
  have e0 := h.k0.uniq (worstV_worst own_cell (nums_in (by decide) (by decide)))
  have e1 := h.k1.uniq (worstV_worst own_cell (nums_in (by decide) (by decide)))
  have e2 := h.k2.uniq (worstV_worst own_cell (nums_in (by decide) (by decide)))
  rw [show worstV (bookC 20 (-1)) 0 (numsL (bookC 20 (-1)).l0 (bookC 20 (-1)).u0) = 12 from own_worst0] at e0
  rw [show worstV (bookC 20 (-1)) 1 (numsL (bookC 20 (-1)).l1 (bookC 20 (-1)).u1) = 26 from own_worst1] at e1
  rw [show worstV (bookC 20 (-1)) 2 (numsL (bookC 20 (-1)).l2 (bookC 20 (-1)).u2) = 12 from own_worst2] at e2
  rw [h.is, e0, e1, e2]
  rfl
end Go.Proofs.Ytpiadbdkiibdbaa

