/- The walk of SeineEnds, all cases. Written by gen_ends.py. -/
import Derived.Test.YtnckampdbbcehaaDoorQKc1
import Derived.Test.YtnckampdbbcehaaDoorQKc2
import Derived.Test.YtnckampdbbcehaaDoorQKc4
set_option linter.unusedSimpArgs false
set_option linter.unusedVariables false
namespace Go.Proofs.YtnckampdbbcehaaDoor
open Go Go.RowKit Go.Shelf
theorem SeineEnds_any (b : Sn) (p : Option Addr) (c : Nat) (n0 n1 : Int) (w : World) (hk : SBk w b p) (hc : SBc b p c) :
    Calls Tryd.prog 7 #[bV b p c, .agg #[.int .i64 n0, .int .i64 n1]] w fun e w' => e = .returned (.bool true) ∧ ∃ x, w' = ext w x := by
  cases hv : snB b with
  | false => exact SeineEnds_bad b p c n0 n1 w hk hv
  | true =>
    have hok := Ok9.of hv
    have b0 : 0 ≤ n0 % 61 ∧ n0 % 61 ≤ 60 := by omega
    have hsc : ∀ m : Int, 0 ≤ m → m ≤ 400 → rightS (withS b ⟨4, n0 % 61, m, m⟩) = canB b (n0 % 61) m := fun m h1 h2 => sounds_can hok b0.1 (Ok9.with hv (sound_note b0 ⟨h1, h2⟩))
    cases hr : rightS b with
    | false =>
      have hno : ∀ m : Int, canB b (n0 % 61) m = false := fun m => by
        cases hcm : canB b (n0 % 61) m with
        | false => rfl
        | true =>
          obtain ⟨f, hf, -⟩ := can_iff.1 hcm
          rw [rightS_iff.2 ⟨f, hf⟩] at hr
          cases hr
      exact SeineEnds_no b p c n0 n1 _ w hk hc hv rfl _ rfl hr (by rw [hsc _ (by omega) (by omega)]; exact hno _)
    | true =>
      have hE := ends_held hok hr (n0 % 61)
      have hR := ends_rate hok hr (n0 % 61)
      obtain ⟨l, hl⟩ : ∃ x, minF Prod.fst 400 (atL b (n0 % 61)) = x := ⟨_, rfl⟩
      obtain ⟨u, hu⟩ : ∃ x, maxF Prod.fst 0 (atL b (n0 % 61)) = x := ⟨_, rfl⟩
      obtain ⟨rl, hrl⟩ : ∃ x, minF Prod.snd 400 (atL b (n0 % 61)) = x := ⟨_, rfl⟩
      obtain ⟨ru, hru⟩ : ∃ x, maxF Prod.snd 0 (atL b (n0 % 61)) = x := ⟨_, rfl⟩
      rw [hl, hu] at hE
      rw [hrl, hru] at hR
      obtain ⟨f1, hf1, el⟩ := hE.low
      obtain ⟨f2, hf2, eu⟩ := hE.high
      obtain ⟨f3, hf3, erl⟩ := hR.low
      have a1 := (At_bd hok hf1 (n0 % 61)).1
      have a2 := (At_bd hok hf2 (n0 % 61)).1
      have a3 := (At_bd hok hf3 (n0 % 61)).2
      have a4 := hE.all f1 hf1
      have a5 := hR.all f3 hf3
      have hcl : canB b (n0 % 61) l = true := can_iff.2 ⟨f1, hf1, el⟩
      have hcu : canB b (n0 % 61) u = true := can_iff.2 ⟨f2, hf2, eu⟩
      have s1 : 0 ≤ l := by rw [← el]; exact a1.1
      have s3 : u ≤ 400 := by rw [← eu]; exact a2.2
      have s2 : l ≤ u := by omega
      have s4 : 0 ≤ rl := by rw [← erl]; exact a3.1
      have s5 : rl ≤ ru := by omega
      have hin : ∀ m : Int, canB b (n0 % 61) m = true → l ≤ m ∧ m ≤ u := fun m h => by
        obtain ⟨f, hf, e⟩ := can_iff.1 h
        have := hE.all f hf
        rw [e] at this
        exact this
      by_cases hq : n1.tmod 3 = 0
      · cases hcm : canB b (n0 % 61) (n1 % 401) with
        | true => exact SeineEnds_Bt b p c n0 n1 _ w hk hc hv rfl l u rl ru 0 _ hr hl hu hrl hru s1 s2 s3 s4 s5 hq rfl (by rw [hsc _ (by omega) (by omega)]; exact hcm) hcm hcl hcu (hin _ hcm).1 (hin _ hcm).2
        | false => exact SeineEnds_Bf b p c n0 n1 _ w hk hc hv rfl l u rl ru 0 _ hr hl hu hrl hru s1 s2 s3 s4 s5 hq rfl (by rw [hsc _ (by omega) (by omega)]; exact hcm) hcm hcl hcu
      · obtain ⟨d, hd⟩ : ∃ x, n1 % (u - l + 3) = x := ⟨_, rfl⟩
        cases hcm : canB b (n0 % 61) ((l + d - 1) % 401) with
        | true => exact SeineEnds_At b p c n0 n1 _ w hk hc hv rfl l u rl ru d _ hr hl hu hrl hru s1 s2 s3 s4 s5 hq hd rfl (by rw [hsc _ (by omega) (by omega)]; exact hcm) hcm hcl hcu (hin _ hcm).1 (hin _ hcm).2
        | false => exact SeineEnds_Af b p c n0 n1 _ w hk hc hv rfl l u rl ru d _ hr hl hu hrl hru s1 s2 s3 s4 s5 hq hd rfl (by rw [hsc _ (by omega) (by omega)]; exact hcm) hcm hcl hcu
end Go.Proofs.YtnckampdbbcehaaDoor

