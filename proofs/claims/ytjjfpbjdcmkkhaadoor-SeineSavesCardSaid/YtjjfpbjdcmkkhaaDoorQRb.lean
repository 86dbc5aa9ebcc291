/- For the rows of package seine's laws: a span, a note as arguments. -/
import Derived.Test.YtjjfpbjdcmkkhaaDoorQRa
set_option linter.unusedSimpArgs false
set_option linter.unusedVariables false
namespace Go.Proofs.YtjjfpbjdcmkkhaaDoor
open Go Go.RowKit Go.Joins Go.ChangeShapes Go.WideShapes Go.ChangeAt Go.Deep
section
variable {H : Type} {enc : TypeId × Value → H} {w : World} {base : Nat}
theorem u_snote : Tryd.prog.underlying 38 = some (.struct (Tryd.prog.fieldsOf 38)) := by kernel_rfl
set_option maxRecDepth 100000 in
theorem open_sspan {v : Value} {d : DataW H} {p : List MemPlace} {r : Reach} {b0 : Nat} (hv : Value.okWide Tryd.prog w r b0 23 v) (h : DataW.Trod enc Tryd.prog w base (fun _ => true) true 23 v d p) :
    ∃ lo hi : Int, v = .agg #[.int .i64 lo, .int .i64 hi] := by
  obtain ⟨cs, rfl, hsz, -⟩ := okWide_struct u_sspan hv
  have hc2 : Tryd.prog.cellsOf 23 = 2 := by kernel_rfl
  rw [hc2] at hsz
  obtain ⟨fuel, hf⟩ := h
  have hcs : (Value.agg cs).cells.toList = cs.toList := rfl
  rw [hcs] at hf
  match cs, hsz with
  | ⟨[c0, c1]⟩, _ =>
    obtain ⟨m3, y3, h3⟩ := struct_at u_sspan hf 0 ((Tryd.prog.fieldsOf 23)[0]!) 0 1 3 (by kernel_rfl) (by kernel_rfl) (by kernel_rfl) (by kernel_rfl)
    obtain ⟨m4, y4, h4⟩ := struct_at u_sspan hf 1 ((Tryd.prog.fieldsOf 23)[1]!) 1 1 3 (by kernel_rfl) (by kernel_rfl) (by kernel_rfl) (by kernel_rfl)
    simp only [List.drop_succ_cons, List.drop_zero, List.take_succ_cons, List.take_zero] at h3 h4
    obtain ⟨lo, rfl⟩ := open_num rfl h3
    obtain ⟨hi, rfl⟩ := open_num rfl h4
    exact ⟨lo, hi, rfl⟩
set_option maxRecDepth 100000 in
theorem open_snote {v : Value} {d : DataW H} {p : List MemPlace} {r : Reach} {b0 : Nat} (hv : Value.okWide Tryd.prog w r b0 38 v) (h : DataW.Trod enc Tryd.prog w base (fun _ => true) true 38 v d p) :
    ∃ s : Nt, v = .agg (ntC s) := by
  obtain ⟨cs, rfl, hsz, -⟩ := okWide_struct u_snote hv
  have hc4 : Tryd.prog.cellsOf 38 = 4 := by kernel_rfl
  rw [hc4] at hsz
  obtain ⟨fuel, hf⟩ := h
  have hcs : (Value.agg cs).cells.toList = cs.toList := rfl
  rw [hcs] at hf
  obtain ⟨a, b, c, d, e⟩ := open_note (by simpa using hsz) hf
  obtain ⟨l⟩ := cs
  simp only at e
  subst e
  exact ⟨⟨a, b, c, d⟩, rfl⟩
end
end Go.Proofs.YtjjfpbjdcmkkhaaDoor

