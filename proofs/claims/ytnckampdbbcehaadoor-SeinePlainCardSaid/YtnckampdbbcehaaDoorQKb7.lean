/- The walk of SeinePlain, all cases. Written by gen_plain.py. -/
import Derived.Test.YtnckampdbbcehaaDoorQKb1
import Derived.Test.YtnckampdbbcehaaDoorQKb4
set_option linter.unusedSimpArgs false
set_option linter.unusedVariables false
namespace Go.Proofs.YtnckampdbbcehaaDoor
open Go Go.RowKit Go.Shelf
theorem SeinePlain_any (lo hi n0 n1 n2 : Int) (w : World) (hm : MM w) :
    Calls Tryd.prog 12 #[.agg #[.int .i64 lo, .int .i64 hi], .agg #[.int .i64 n0, .int .i64 n1, .int .i64 n2]] w fun e w' => e = .returned (.bool true) ∧ ∃ x, w' = ext w x := by
  cases hv : snB ⟨lo, hi, []⟩ with
  | false => exact SeinePlain_bad lo hi n0 n1 n2 w hm hv
  | true =>
    by_cases h1 : n2 % 401 ≤ hi
    · by_cases h2 : n0 % 61 < n1 % 61
      · by_cases h3 : hi = 0
        · exact SeinePlain_mtz lo hi n0 n1 n2 _ _ _ w hm rfl rfl rfl h1 h2 h3 hv
        · exact SeinePlain_mtZ lo hi n0 n1 n2 _ _ _ w hm rfl rfl rfl h1 h2 h3 hv
      · by_cases h3 : hi = 0
        · exact SeinePlain_mTz lo hi n0 n1 n2 _ _ _ w hm rfl rfl rfl h1 h2 h3 hv
        · exact SeinePlain_mTZ lo hi n0 n1 n2 _ _ _ w hm rfl rfl rfl h1 h2 h3 hv
    · by_cases h3 : hi = 0
      · exact SeinePlain_Mz lo hi n0 n1 n2 _ _ _ w hm rfl rfl rfl h1 h3 hv
      · exact SeinePlain_MZ lo hi n0 n1 n2 _ _ _ w hm rfl rfl rfl h1 h3 hv
end Go.Proofs.YtnckampdbbcehaaDoor

