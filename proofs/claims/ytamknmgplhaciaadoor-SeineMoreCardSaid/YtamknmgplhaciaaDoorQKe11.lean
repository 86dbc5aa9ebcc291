/- The walk of SeineMore. Written by gen_more.py. -/
import Derived.Test.YtamknmgplhaciaaDoorQKe
import Derived.Test.YtamknmgplhaciaaDoorQKe4
import Derived.Test.YtamknmgplhaciaaDoorQKe7
import Derived.Test.YtamknmgplhaciaaDoorQKe9
set_option linter.unusedSimpArgs false
set_option linter.unusedVariables false
namespace Go.Proofs.YtamknmgplhaciaaDoor
open Go Go.RowKit Go.Shelf
attribute [local go_sem] Oper.semAt_some frozen_alloc_lt
theorem SeineMore_any (b : Sn) (p : Option Addr) (c : Nat) (s : Nt) (n : Int) (w : World) (hk : SBk w b p) (hc : SBc b p c) :
    Calls Tryd.prog 8 #[bV b p c, .agg (ntC s), .int .i64 n] w fun e w' => e = .returned (.bool true) ∧ ∃ x, w' = ext w x := by
  cases hv : snB b with
  | false => exact SeineMore_bad b p c s n w hk hv
  | true =>
  by_cases h8 : b.ns.length = 8
  · exact SeineMore_full b p c s n w hk hv h8
  cases hs : ntB s with
  | false => exact SeineMore_ask b p c s n w hk hc hv h8 _ hs rfl
  | true =>
  have hok := Ok9.of hv
  have hw := Ok9.with hv hs
  obtain ⟨-, h0, -⟩ := ntB_facts hs
  have hem : b.ns = [] ∨ ∃ (k : Nat) (t : Nt), b.ns.length = k + 1 ∧ b.ns[k]? = some t := by
    cases hl : b.ns.length with
    | zero => exact .inl (List.eq_nil_of_length_eq_zero hl)
    | succ k =>
      obtain ⟨t, ht⟩ := get_some b.ns k (by omega)
      exact .inr ⟨k, t, rfl, ht⟩
  cases hq : rightS (withS b s) with
  | false =>
    rcases hem with hem | ⟨k, t, hnk, ht⟩
    · exact SeineMore_no1 b p c s n w hk hc hv h8 _ hs hq rfl hem
    · exact SeineMore_no0 b p c s n w hk hc hv h8 _ hs hq rfl k t _ hnk ht rfl
  | true =>
  have hb1 : 0 ≤ n % 61 ∧ n % 61 ≤ 60 := by omega
  by_cases hk4 : s.kind = 4
  · have hr := more_right hok hw h0.1 (.inl hk4) hq
    have f1 := more_ends (G := Prod.fst) hok hw h0.1 (.inl hk4) (.inl hk4) (ends_held hok hr (n % 61)) (ends_held hw hq (n % 61))
    have f2 := more_ends (G := Prod.snd) hok hw h0.1 (.inl hk4) (.inl hk4) (ends_rate hok hr (n % 61)) (ends_rate hw hq (n % 61))
    have hkd : (s.kind != 4) = false := by simpa using hk4
    rcases hem with hem | ⟨k, t, hnk, ht⟩
    · exact SeineMore_snd1 b p c s n w hk hc hv h8 hs hq hr hem hkd _ _ _ _ _ _ _ _ _ hb1 rfl rfl rfl rfl rfl rfl rfl rfl f1 f2 rfl
    · exact SeineMore_snd0 b p c s n w hk hc hv h8 hs hq hr k t _ hnk ht rfl hkd _ _ _ _ _ _ _ _ _ hb1 rfl rfl rfl rfl rfl rfl rfl rfl f1 f2 rfl
  have hkd : (s.kind != 4) = true := by simpa using hk4
  by_cases hl : lastN b.ns ≤ s.hour
  · have hr := more_right hok hw h0.1 (.inr hl) hq
    by_cases h1 : s.hour < 1
    · have hh : decide (s.hour < 1) = true := by simpa using h1
      rcases hem with hem | ⟨k, t, hnk, ht⟩
      · exact SeineMore_nul1 b p c s n w hk hc hv h8 hs hq hr hem hkd hh _ rfl
      · rw [last_at hnk ht] at hl
        exact SeineMore_nul0 b p c s n w hk hc hv h8 hs hq hr k t _ hnk ht rfl hkd hh (by simpa using hl) _ rfl
    · have hh : decide (s.hour < 1) = false := by simpa using h1
      have g1 := Int.emod_nonneg n (show s.hour ≠ 0 by omega)
      have g2 := Int.emod_lt_of_pos n (show 0 < s.hour by omega)
      have f1 := more_ends (G := Prod.fst) hok hw h0.1 (.inr hl) (.inr g2) (ends_held hok hr (n % s.hour)) (ends_held hw hq (n % s.hour))
      have f2 := more_ends (G := Prod.snd) hok hw h0.1 (.inr hl) (.inr g2) (ends_rate hok hr (n % s.hour)) (ends_rate hw hq (n % s.hour))
      rcases hem with hem | ⟨k, t, hnk, ht⟩
      · exact SeineMore_end1 b p c s n w hk hc hv h8 hs hq hr hem hkd hh ⟨by omega, by omega⟩ _ rfl _ _ _ _ _ _ _ _ _ ⟨g1, by omega⟩ rfl rfl rfl rfl rfl rfl rfl rfl f1 f2 rfl
      · rw [last_at hnk ht] at hl
        exact SeineMore_end0 b p c s n w hk hc hv h8 hs hq hr k t _ hnk ht rfl hkd hh ⟨by omega, by omega⟩ (by simpa using hl) _ rfl _ _ _ _ _ _ _ _ _ ⟨g1, by omega⟩ rfl rfl rfl rfl rfl rfl rfl rfl f1 f2 rfl
  · rcases hem with hem | ⟨k, t, hnk, ht⟩
    · exact absurd (by rw [hem]; simpa [lastN, pastN] using h0.1) hl
    · rw [last_at hnk ht] at hl
      exact SeineMore_mid b p c s n w hk hc hv h8 _ hs hq rfl k t _ hnk ht rfl hkd (by simpa using hl)
end Go.Proofs.YtamknmgplhaciaaDoor

