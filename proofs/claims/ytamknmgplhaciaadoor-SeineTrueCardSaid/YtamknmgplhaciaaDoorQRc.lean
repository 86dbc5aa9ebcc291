/- How a list of numbers is read as an argument. -/
import Derived.Test.YtamknmgplhaciaaDoorQRa
set_option linter.unusedSimpArgs false
set_option linter.unusedVariables false
namespace Go.Proofs.YtamknmgplhaciaaDoor
open Go Go.RowKit Go.Joins Go.ChangeShapes Go.WideShapes Go.Deep
section
variable {H : Type} {enc : TypeId × Value → H} {w : World} {base : Nat}
set_option maxRecDepth 100000 in
theorem open_list {v : Value} {d : DataW H} {p : List MemPlace} {r : Reach} {b0 : Nat} (hv : Value.okWide Tryd.prog w r b0 44 v) (h : DataW.Trod enc Tryd.prog w base (fun _ => true) true 44 v d p) :
    ∃ (q : Option Addr) (l : List Int) (c : Nat), v = .slice q l.length c ∧ IntsAt w q l ∧ (l.length : Int) ≤ 9223372036854775807 := by
  obtain ⟨q, len, cap, rfl⟩ := okWide_slice (e := 3) (by kernel_rfl) hv
  obtain ⟨fuel, hf⟩ := h
  rcases open_ints (k := .i64) (e := 3) (by kernel_rfl) (by kernel_rfl) (by kernel_rfl) hf with ⟨h1, -⟩ | ⟨a, len', cap', zs, h1, -, hl, hm, hz, -, hcell, -⟩
  · have h2 : Value.slice q len cap = Value.slice none 0 0 := by simpa [Value.cells] using h1
    rw [h2]
    exact ⟨none, [], 0, rfl, fun i s hs => by simp at hs, by simp⟩
  · have h2 : Value.slice q len cap = Value.slice (some a) len' cap' := by simpa [Value.cells] using h1
    rw [h2]
    simp only [if_true] at hz
    have hlen : (zs.take len').length = len' := by simp; omega
    refine ⟨some a, zs.take len', cap', by rw [hlen], fun i x hx => ?_, ?_⟩
    · have hlt : i < (zs.take len').length := (List.getElem?_eq_some_iff.1 hx).1
      rw [hlen] at hlt
      have hx2 : zs[i]? = some x := by rw [List.getElem?_take_of_lt hlt] at hx; exact hx
      obtain ⟨ha, hb⟩ := spot_of (a := a) (by simpa [Addr.add] using hcell 0 (by omega))
      have hc := hcell i (by omega)
      rw [ha, add_of] at hc
      refine ⟨a.block, a.off, by rw [← ha], hb, ?_⟩
      rw [hc, List.getD_eq_getElem?_getD, hx2]; rfl
    · rw [hlen]
      have : maxLen ≤ 9223372036854775807 := by decide
      omega
end
end Go.Proofs.YtamknmgplhaciaaDoor

