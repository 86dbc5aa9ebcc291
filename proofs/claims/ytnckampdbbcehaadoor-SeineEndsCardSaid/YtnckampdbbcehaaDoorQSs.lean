/- Package seine: all states at the hour 0. -/
import Derived.Test.YtnckampdbbcehaaDoorQSo
set_option linter.unusedSimpArgs false
set_option linter.unusedVariables false
namespace Go.Proofs.YtnckampdbbcehaaDoor
open Go Go.RowKit Go.Shelf

/-- All states at the hour 0, before all notes. -/
def startL (lo hi : Int) : List (Int × Int) := (numsL lo hi).map fun m => (m, 0)
attribute [local go_sem] Oper.semAt_some frozen_alloc_lt
set_option maxHeartbeats 4000000 in
theorem start_in (lo hi : Int) (p : Option Addr) (N c : Nat) (kd : Kd) (O : Nat → Prop) (w : World) (hsp : 0 ≤ lo ∧ lo ≤ hi ∧ hi ≤ 400) :
    Seq0 Tryd.prog 86 #[.agg (catC lo hi p N c kd)] #[] encS O (fun xs => xs = startL lo hi) (fun pre => pre <+: startL lo hi) w := by
  intro n l J Jx W hW hOW hJ hJx hY h0'
  have HJ := Lib.hid hJ
  have HJx := Lib.hid hJx
  have HY := Lib.hid hY
  have H0 := Lib.hid h0'
  have HOW := Lib.hid hOW
  clear hJ hJx hY h0' hOW hW
  refine callsIn_of_wp_marks Tryd.func86 rfl trivial ?_ rfl
  simp only [Tryd.ntmps86, List.size_toArray, List.length_cons, List.length_nil, Nat.reduceAdd, Nat.reduceSub, Array.replicate_succ, Array.replicate_zero, List.push_toArray, List.append_toArray, List.nil_append, List.cons_append]
  unfold catC
  gi_wp2_with (gi_at_call 105; refine (callsIn_wide.2 (numbers_any lo hi _)).mono ?_; rintro e w1 ⟨g, rfl, k1, k2, y, rfl⟩)
  generalize hW1 : ext _ y = W1 at *
  have hB1 : Below W.heap.size W W1 := by rw [← hW1]; (repeat (first | (with_reducible exact Below.refl _ _) | (with_reducible assumption) | ((with_reducible refine below_ext_trans ?_ ?_ _); rotate_left; focus (((try dsimp only); repeat (first | omega | simp only [World.size_alloc, World.size_setCell, World.size_drew] | (with_reducible refine le_ext_of ?_) | (with_reducible refine le_ext_add ?_))); done)) | ((with_reducible refine Below.alloc ?_ ?_ _); rotate_left; focus (((try dsimp only); repeat (first | omega | simp only [World.size_alloc, World.size_setCell, World.size_drew] | (with_reducible refine le_ext_of ?_) | (with_reducible refine le_ext_add ?_))); done)) | ((with_reducible refine Below.setCell ?_ ?_ _); rotate_left; focus (((try dsimp only); repeat (first | omega | simp only [World.size_alloc, World.size_setCell, World.size_drew] | (with_reducible refine le_ext_of ?_) | (with_reducible refine le_ext_add ?_))); done)) | (with_reducible refine Below.drew ?_)))
  have hyb : Blk W1 (W.heap.size + 1) 114 #[.func (.yield l) #[] #[]] := by rw [← hW1]; exact (Blk.new (by simp)).ext y
  have hgl := k2.lt
  have HB1 := Lib.hid hB1
  have HYB := Lib.hid hyb
  have hgz : W.heap.size ≤ g := by simp at k1; omega
  have hyl := hyb.lt
  have hseq := numbers1_in g lo hi (fun k => O k ∨ k = W1.heap.size + 1) W1 k2 hsp.1 hsp.2.1 (by omega) (fun k hk => by
    rcases hk with hk | hk
    · have := HOW.out k hk; omega
    · omega)
  clear hW1 hB1 hyb k1 k2
  refine wpIn_rangeFunc_0 (gf := 122) (fb := #[]) (lb := #[.pointer (some ⟨g, 0, none⟩)]) rfl (enters_of Tryd.func122 (by kernel_rfl) rfl)
    O (fun k hk => by have := HOW.out k hk; have := HB1.out.size; omega) hseq (Below.refl _ _) (fun _ => rfl)
    (fun pre A => J (pre.map fun m => (m, 0)) A ∧ Blk A (W.heap.size + 1) 114 #[.func (.yield l) #[] #[]])
    (fun c pre A => c = .ret ∧ Jx (pre.map fun m => (m, 0)) A)
    (fun pre x a' A => ∃ u5 u6 u7, a' = { tmps := #[.agg #[.int .i64 lo, .int .i64 hi, .slice p N c, .int .i64 kd.a, .int .i64 kd.b, .int .i64 kd.c, .int .i64 kd.d, .int .i64 kd.e], .func (.yield l) #[] #[], .pointer (some ⟨W.heap.size, 0, none⟩), .pointer (some ⟨W.heap.size + 1, 0, none⟩), .int .i64 x, u5, u6, u7, .func (.func 122) #[] #[.pointer (some ⟨g, 0, none⟩)], .int .i64 x, undef, undef, undef, undef, undef], defers := [] })
    ?hI ?hIx ?hAx ?h0 ?hassign ?hbody ?hdone ?hstop
  case hI =>
    rintro pre A C ⟨j1, j2⟩ hz hp
    exact ⟨HJ.out _ _ _ j1 (by omega) (hp.mono (by omega)), (hp.block _ (by omega)).trans j2⟩
  case hIx =>
    rintro c pre A C ⟨rfl, j1⟩ hz hp
    exact ⟨rfl, HJx.out _ _ _ j1 (by omega) (hp.mono (by omega))⟩
  case hAx => rintro pre x a' A C ⟨u5, u6, u7, rfl⟩ hp; exact ⟨u5, u6, u7, rfl⟩
  case h0 =>
    intro W3 hb3
    exact ⟨HJ.out _ _ _ H0.out (Nat.le_refl _) (HB1.out.trans (hb3.mono (by omega))), (hb3.block _ (by omega)).trans HYB.out⟩
  case hassign =>
    intro m l' pre x W' hz hsp hi'
    exact wpIn_assign ⟨⟨_, _, _, by simp [go_sem, Act.put, Act.eval]; exact ⟨rfl, rfl, rfl⟩⟩, Below.refl _ _⟩
  case hbody =>
    rintro m l' pre x a' W' hz hpx ⟨j1, j2⟩ ⟨u5, u6, u7, rfl⟩
    have HP := Lib.hid (show (pre.map fun m => ((m, 0) : Int × Int)) ++ [(x, 0)] <+: startL lo hi by have := hpx.map (fun m => ((m, 0) : Int × Int)); rwa [List.map_append] at this)
    have c0 := j2.cell 0
    have l0 := j2.lt
    simp only [List.size_toArray, List.length_cons, List.length_nil, Nat.reduceAdd, Nat.reduceLT, getElem?_pos, List.getElem_toArray, List.getElem_cons_zero, List.getElem_cons_succ] at c0
    have J1 := Lib.hid j1
    have J2 := Lib.hid j2
    clear hseq j1 j2
    obtain ⟨fn, tmps, assign, body, hy, hR⟩ := YieldAt.inR l' (HY.out _ (pre.map fun m => (m, 0)) (x, 0) W' (by have := HB1.out.size; omega) HP.out J1.out)
    dsimp only [encS, key2] at hy
    gi_wp2_with fail
    refine hR.mono ?_
    rintro e B (⟨rfl, hJB, hS⟩ | ⟨rfl, hJB, hS⟩)
    · have HS := Lib.hid hS
      have HJB := Lib.hid hJB
      clear hS hJB hy hR
      gi_wp2_with fail
      exact ⟨HS.out, by rw [List.map_append]; exact HJB.out, (HS.out.block _ (by omega) (fun e => by have := HOW.out _ e; omega)).trans J2.out⟩
    · have HS := Lib.hid hS
      have HJB := Lib.hid hJB
      clear hS hJB hy hR
      gi_wp2_with fail
      exact ⟨HS.out, rfl, by rw [List.map_append]; exact HJB.out⟩
  case hdone =>
    rintro D xs W' rfl hz rfl ⟨j1, j2⟩ hp hD'
    have J1 := Lib.hid j1
    have HPV := Lib.hid hp
    clear j1 j2 hp hseq
    gi_wp2_with fail
    refine ⟨by simp, .inl ⟨_, _, rfl, run_takeDeferred hD', ?_⟩⟩
    exact ⟨_, results_none rfl _ _ _, ⟨_, rfl⟩, HPV.out.shut HB1.out (by have := HB1.out.size; omega) _, .inl ⟨_, rfl, HJ.out _ _ _ J1.out (by have := HB1.out.size; omega) (below_putObj _ (by have := HB1.out.size; omega) _)⟩⟩
  case hstop =>
    rintro D c pre W' rfl hz hSp ⟨rfl, j1⟩ hp hD'
    have J1 := Lib.hid j1
    have HPV := Lib.hid hp
    clear j1 hp hseq
    gi_wp2_with fail
    refine ⟨by simp, .inl ⟨_, _, rfl, run_takeDeferred hD', ?_⟩⟩
    exact ⟨_, results_none rfl _ _ _, ⟨_, rfl⟩, HPV.out.shut HB1.out (by have := HB1.out.size; omega) _, .inr ⟨_, hSp.map _, HJx.out _ _ _ J1.out (by have := HB1.out.size; omega) (below_putObj _ (by have := HB1.out.size; omega) _)⟩⟩
end Go.Proofs.YtnckampdbbcehaaDoor

