/- Package seine: the values of a map, gathered into a slice (maps.Values' iterator, slices.AppendSeq, slices.Collect). -/
/- Package seine: slices.AppendSeq and slices.Collect over a map's values. -/
/- Package seine: the lists of all states, gathered, and the best of them. -/
import Derived.Test.YtjjfpbjdcmkkhaaDoorQNu
import Derived.Test.YtjjfpbjdcmkkhaaDoorQIt
import Derived.OwnWalkIn
import Derived.Maps.OwnIn
import Derived.Test.YtjjfpbjdcmkkhaaDoorQLc
set_option linter.unusedSimpArgs false
set_option linter.unusedVariables false
namespace Go.Proofs.YtjjfpbjdcmkkhaaDoor
open Go Go.RowKit Go.Maps Go.Shelf

abbrev Ent := (Int × Int) × Value
/-- Some entries of a map. -/
def ValsP (n : Nat) (F : Int → Int → Option Value) (xs : List Ent) : Prop := xs.length ≤ n ∧ ∀ q ∈ xs, (InI q.1.1 ∧ InI q.1.2) ∧ F q.1.1 q.1.2 = some q.2
/-- All of them. -/
def ValsS (n : Nat) (F : Int → Int → Option Value) (xs : List Ent) : Prop := ValsP n F xs ∧ ∀ a c v, InI a → InI c → F a c = some v → ((a, c), v) ∈ xs
attribute [local go_sem] Oper.semAt_some frozen_alloc_lt
set_option maxHeartbeats 4000000 in
theorem values1_in (Mb n g : Nat) (F : Int → Int → Option Value) (O : Nat → Prop) (w : World) (hM : MapAt Tryd.prog 91 w Mb n F) (hb : Blk w g 122 #[.map (some Mb)]) (hO : ∀ k, O k → k ≠ Mb ∧ k ≠ g) (hsl : ∀ a c v, InI a → InI c → F a c = some v → ∃ p m k, v = .slice p m k) :
    SeqM Tryd.prog 121 #[.pointer (some ⟨g, 0, none⟩)] (fun q : Ent => #[q.2]) O (ValsS n F) (ValsP n F) w := by
  intro N l J Jx W hW hOW hJ hJx hY hJ0
  have hMl := hM.lt
  have hgl := hb.lt
  have hMW : MapAt Tryd.prog 91 W Mb n F := hM.below hW
  have hbW := hb.bel hW
  have c0 := hbW.cell 0
  have lW := hbW.lt
  have hWz := hW.size
  simp only [List.size_toArray, List.length_cons, List.length_nil, Nat.reduceAdd, Nat.reduceLT, getElem?_pos, List.getElem_toArray, List.getElem_cons_zero, List.getElem_cons_succ] at c0
  obtain ⟨W1, left, cnt, hrun, hit, hleft, hg, hz, hcn⟩ := MapAt.range hMW key_state Tryd.underlying122
  have HJ := Lib.hid hJ
  have HJx := Lib.hid hJx
  have HY := Lib.hid hY
  have HSL := Lib.hid hsl
  have hOM : ¬ O Mb := fun h => (hO _ h).1 rfl
  have hOI : ¬ O W.heap.size := fun h => by have := hOW _ h; omega
  have HREL : Hid (J (fun k => k = W.heap.size) [] W1 ∧ IterAt Tryd.prog 91 W1 Mb W.heap.size n F left cnt ∧ W.heap.size ≤ W1.heap.size ∧ (∀ a c v, InI a → InI c → F a c = some v → left a c = true ∨ ((a, c), v) ∈ ([] : List Ent)) ∧ ValsP n F [] ∧ cnt ≤ n) :=
    Lib.hid ⟨hJ (fun _ => False) _ _ _ _ hJ0 (PrivM.of_below (Below.of_grown0 hg (Nat.le_refl _))) (fun k hk => .inr (by omega)), hit, hg.size, fun a c v ha hc hf => .inl (by rw [hleft _ _ ha hc, hf]; rfl), ⟨by simp, by simp⟩, hcn⟩
  clear hJ hJx hY hJ0 hOW hW hO hsl hit hleft hg hz hcn hM hb hMW hbW
  refine callsIn_of_wp Tryd.func121 rfl trivial ?_ rfl
  simp only [Tryd.ntmps121, List.size_toArray, List.length_cons, List.length_nil, Nat.reduceAdd, Nat.reduceSub, Array.replicate_succ, Array.replicate_zero, List.push_toArray, List.append_toArray, List.nil_append, List.cons_append]
  gi_wp2_with fail
  clear hrun c0
  gi_loopw [4] (fun _ wr => ∃ (left : Int → Int → Bool) (cnt : Nat) (pre : List Ent), Hid (J (fun k => k = W.heap.size) pre wr ∧ IterAt Tryd.prog 91 wr Mb W.heap.size n F left cnt ∧ W.heap.size ≤ wr.heap.size ∧ (∀ a c v, InI a → InI c → F a c = some v → left a c = true ∨ ((a, c), v) ∈ pre) ∧ ValsP n F pre ∧ pre.length + cnt ≤ n))
    (fun _ wr => wr.rangeLeft Mb W.heap.size)
  case atStart => exact ⟨left, cnt, [], Lib.hid (by simpa using HREL.out)⟩
  case round =>
    clear HREL
    obtain ⟨left, cnt, pre, HR⟩ := hrel
    rcases HR.out.2.1.next key_state 0 with ⟨e0, e1, hnx⟩ | ⟨x, y, v, w1, cnt', hx, hy, hlxy, hfv, hnx, hit1, hlt, hg1, hz1, hen⟩
    · have hS : ValsS n F pre := ⟨HR.out.2.2.2.2.1, fun a c v ha hc hf => by
        rcases HR.out.2.2.2.1 a c v ha hc hf with h1 | h1
        · rw [e1 _ _ ha hc] at h1; cases h1
        · exact h1⟩
      clear e1
      gi_wp2_with fail
      go_end0
      exact ⟨⟨_, rfl⟩, HR.out.2.2.1, .inl ⟨pre, hS, HJ.out _ _ _ _ _ HR.out.1 (PrivM.refl _ _) (fun _ h => h.elim)⟩⟩
    · obtain ⟨pv, mv, kv, rfl⟩ := HSL.out x y v hx hy hfv
      have hrz := HR.out.2.1.lt
      have hWr : W.heap.size ≤ wr.heap.size := HR.out.2.2.1
      have hP1 : PrivM (fun k => k = W.heap.size) wr w1 := PrivM.of_grown hg1
      have HJ1 := Lib.hid (HJ.out _ (fun k => k = W.heap.size) _ _ _ HR.out.1 (hP1.mono (fun k h => .inl h)) (fun k h => .inl h))
      have HSP := Lib.hid (show ValsP n F (pre ++ [((x, y), .slice pv mv kv)]) from ⟨by have := HR.out.2.2.2.2.2; simp; omega, fun q hq => by
        rcases List.mem_append.1 hq with h | h
        · exact HR.out.2.2.2.2.1.2 q h
        · rw [List.mem_singleton.1 h]; exact ⟨⟨hx, hy⟩, hfv⟩⟩)
      have hz1' := hg1.size
      have HIT1 := Lib.hid hit1
      clear hit1 hg1 hz1
      unfold key2 at hnx hen
      obtain ⟨fn, tmps, assign, body, hyy, hR⟩ := HY.out _ (fun k => k = W.heap.size) pre ((x, y), .slice pv mv kv) w1 (fun k hk => by subst hk; omega) (by omega) HSP.out HJ1.out
      gi_wp2_with fail
      refine hR.mono ?_
      rintro e B (⟨rfl, hJB, hSB⟩ | ⟨rfl, hJB, hSB⟩)
      · have hitB : IterAt Tryd.prog 91 B Mb W.heap.size n F (fun x_1 y_1 => left x_1 y_1 && !(decide (x_1 = x) && decide (y_1 = y))) cnt' :=
          HIT1.out.of_heap (hSB.block _ (.inl ⟨by omega, hOM⟩)) (hSB.block _ (.inr rfl))
        have HITB := Lib.hid hitB
        have HJB := Lib.hid hJB
        have hzB := hSB.size
        have hlt2 : B.rangeLeft Mb W.heap.size < wr.rangeLeft Mb W.heap.size := by
          rw [hitB.left_eq, HR.out.2.1.left_eq]; exact hlt
        clear hJB hSB hyy hR hitB
        gi_wp2_with fail
        go_roundw
        case rel =>
          refine ⟨_, cnt', pre ++ [((x, y), .slice pv mv kv)], Lib.hid ⟨HJB.out, HITB.out, by omega, ?_, HSP.out, by have := HR.out.2.2.2.2.2; simp; omega⟩⟩
          intro a c u ha hc hf
          rcases HR.out.2.2.2.1 a c u ha hc hf with h1 | h1
          · by_cases he : (a, c) = (x, y)
            · simp only [Prod.mk.injEq] at he
              obtain ⟨rfl, rfl⟩ := he
              rw [hfv] at hf; cases hf
              exact .inr (by simp)
            · refine .inl ?_
              rw [h1]
              simp only [Bool.true_and, Bool.not_eq_true', Bool.and_eq_false_iff, decide_eq_false_iff_not]
              by_cases h2 : a = x
              · exact .inr (fun h3 => he (by rw [h2, h3]))
              · exact .inl h2
          · exact .inr (List.mem_append_left _ h1)
        case measure => exact hlt2
      · have HJB := Lib.hid hJB
        have hzB := hSB.size
        clear hJB hSB hyy hR
        gi_wp2_with fail
        refine bodyPost_ret (results_none rfl _ _ _) rfl ?_
        exact ⟨⟨_, rfl⟩, by omega, .inr ⟨_, HSP.out, HJx.out _ _ _ _ _ HJB.out (PrivM.refl _ _) (fun _ h => h.elim)⟩⟩
end Go.Proofs.YtjjfpbjdcmkkhaaDoor

namespace Go.Proofs.YtjjfpbjdcmkkhaaDoor
open Go Go.RowKit Go.Maps Go.Shelf

theorem info_nums : (Tryd.prog.info? 44).map (fun i => (i.zero, i.size, i.bytes)) = some (some (.slice none 0 0), 1, 24) := by kernel_rfl
theorem under_rows : Tryd.prog.underlying 130 = some (.slice 44) := by kernel_rfl
/-- A slice of slices of a call's own. -/
def OwnVs (w : World) (B : Nat) (v : Value) (l : List Value) : Prop := w.ownsRow B 44 1 v l.length l
theorem OwnVs.kept {w w' : World} {B : Nat} {v : Value} {l : List Value} (h : OwnVs w B v l) (hb : ∀ g, v.ownBlock = some g → w'.heap[g]? = w.heap[g]?) : OwnVs w' B v l := by
  obtain ⟨h1, h2⟩ := h
  refine ⟨h1, ?_⟩
  rcases h2 with h2 | ⟨g, cap, cur, rfl, hg, hh, r⟩
  · exact .inl h2
  · exact .inr ⟨g, cap, cur, rfl, hg, (hb g rfl).trans hh, r⟩
theorem OwnVs.lt {w : World} {B : Nat} {v : Value} {l : List Value} (h : OwnVs w B v l) : ∀ g, v.ownBlock = some g → B ≤ g ∧ g < w.heap.size := World.ownsRow.lt h
theorem OwnVs.form {w : World} {B : Nat} {v : Value} {l : List Value} (h : OwnVs w B v l) : ∃ p c, v = .slice p l.length c := by
  obtain ⟨h1, h2⟩ := h
  rcases h2 with ⟨h2, h3⟩ | ⟨g, cap, cur, rfl, hg, hh, r⟩
  · exact ⟨none, 0, by rw [h2, h3]⟩
  · exact ⟨_, cap, rfl⟩
theorem OwnVs.nil (w : World) (B : Nat) : OwnVs w B (.slice none 0 0) [] := World.ownsRow_nil _ _ _ _
/-- What appends keep between two rounds. -/
structure GaI (w : World) (r : Nat) (l : List Value) (M : Nat → Prop) (A : World) : Prop where
  low : Below w.heap.size w A
  own : ∃ v, Blk A w.heap.size 130 #[v] ∧ OwnVs A (w.heap.size + 1) v l ∧ ∀ g, v.ownBlock = some g → ¬ M g ∧ g ≠ r ∧ g + 1 ≠ r
  M : ∀ j, M j → w.heap.size < j
theorem GaI.stable {w : World} {r : Nat} {l : List Value} {M M' : Nat → Prop} {A C : World} (k : GaI w r l M A) (hr : w.heap.size < r) (hp : PrivM (fun j => M j ∨ j = r) A C) (hM : ∀ j, M' j → M j ∨ A.heap.size ≤ j) : GaI w r l M' C := by
  obtain ⟨low, ⟨v, hv, ho, hg⟩, hlM⟩ := k
  have hno : ∀ j, j < A.heap.size → ¬ M j → j ≠ r → C.heap[j]? = A.heap[j]? := fun j hj h1 h2 => hp.block j hj (by rintro (h | h); exact h1 h; exact h2 h)
  have hno' : ∀ j, j < A.heap.size → ¬ M j → ¬ M' j := fun j hj h1 h2 => by
    rcases hM j h2 with h | h
    · exact h1 h
    · omega
  have hz := hv.lt
  refine ⟨low.trans ⟨hp.os, hp.tape, hp.output, hp.size, fun j hj => hno j (by have := low.size; omega) (fun e => by have := hlM j e; omega) (by omega)⟩, ⟨v, (hno _ hv.lt (fun e => by have := hlM _ e; omega) (by omega)).trans hv, ho.kept (fun g hg' => ?_), fun g hg' => ?_⟩, fun j hj => ?_⟩
  · obtain ⟨h1, h2, h3⟩ := hg g hg'
    exact hno g (ho.lt g hg').2 h1 h2
  · obtain ⟨h1, h2, h3⟩ := hg g hg'
    exact ⟨hno' g (ho.lt g hg').2 h1, h2, h3⟩
  · rcases hM j hj with h | h
    · exact hlM j h
    · omega
attribute [local go_sem] Oper.semAt_some frozen_alloc_lt
set_option maxHeartbeats 4000000 in
theorem appendSeq_any (Mb n g : Nat) (F : Int → Int → Option Value) (w : World) (hM : MapAt Tryd.prog 91 w Mb n F) (hb : Blk w g 122 #[.map (some Mb)]) (hsl : ∀ a c v, InI a → InI c → F a c = some v → ∃ p m k, v = .slice p m k) (hn : n ≤ 1000000000000) :
    Calls Tryd.prog 120 #[.slice none 0 0, .func (.func 121) #[] #[.pointer (some ⟨g, 0, none⟩)]] w fun e w' => ∃ (v : Value) (xs : List Ent), e = .returned v ∧ ValsS n F xs ∧ OwnVs w' (w.heap.size + 1) v (xs.map Prod.snd) ∧ Below w.heap.size w w' := by
  refine (callsIn_wide (n := 9)).1 ?_
  have hMl := hM.lt
  have hgl := hb.lt
  have HSL := Lib.hid hsl
  refine callsIn_of_wp_marks Tryd.func120 rfl trivial ?_ rfl
  simp only [Tryd.ntmps120, List.size_toArray, List.length_cons, List.length_nil, Nat.reduceAdd, Nat.reduceSub, Array.replicate_succ, Array.replicate_zero, List.push_toArray, List.append_toArray, List.nil_append, List.cons_append]
  gi_wp2_with fail
  generalize hW0 : w.alloc _ = W0
  have hB0 : Below w.heap.size w W0 := by rw [← hW0]; (repeat (first | (with_reducible exact Below.refl _ _) | (with_reducible assumption) | ((with_reducible refine below_ext_trans ?_ ?_ _); rotate_left; focus (((try dsimp only); repeat (first | omega | simp only [World.size_alloc, World.size_setCell, World.size_drew] | (with_reducible refine le_ext_of ?_) | (with_reducible refine le_ext_add ?_))); done)) | ((with_reducible refine Below.alloc ?_ ?_ _); rotate_left; focus (((try dsimp only); repeat (first | omega | simp only [World.size_alloc, World.size_setCell, World.size_drew] | (with_reducible refine le_ext_of ?_) | (with_reducible refine le_ext_add ?_))); done)) | ((with_reducible refine Below.setCell ?_ ?_ _); rotate_left; focus (((try dsimp only); repeat (first | omega | simp only [World.size_alloc, World.size_setCell, World.size_drew] | (with_reducible refine le_ext_of ?_) | (with_reducible refine le_ext_add ?_))); done)) | (with_reducible refine Below.drew ?_)))
  have hz0 : W0.heap.size = w.heap.size + 1 := by rw [← hW0]; simp
  have hx0 : Blk W0 w.heap.size 130 #[.slice none 0 0] := by rw [← hW0]; exact Blk.new rfl
  clear hW0
  have hM0 := hM.below hB0
  have hb0 := hb.bel hB0
  have hseq := values1_in Mb n g F (fun k => k = w.heap.size ∨ k = W0.heap.size + 1) W0 hM0 hb0 (fun k hk => by omega) HSL.out
  have HB0 := Lib.hid hB0
  have HX0 := Lib.hid hx0
  clear hB0 hx0 hM0 hb0 hM hb hsl
  refine wpIn_rangeFunc_m (gf := 121) (lb := #[.pointer (some ⟨g, 0, none⟩)]) rfl (enters_of Tryd.func121 (by kernel_rfl) rfl)
    (fun j => j = w.heap.size) (fun j hj => by omega) hseq (Below.refl _ _) (fun _ => rfl)
    (fun M pre A => GaI w (W0.heap.size + 1) (pre.map Prod.snd) M A)
    (fun M c pre A => False)
    (fun M pre x a' A => ∃ (u3 u6 u7 u8 u9 u10 u11 u12 : Value), a' = { tmps := #[.slice none 0 0, .func (.func 121) #[] #[.pointer (some ⟨g, 0, none⟩)], .pointer (some ⟨w.heap.size, 0, none⟩), u3, .slice none 0 0, x.2, u6, u7, u8, u9, u10, u11, u12], defers := [] })
    ?hI ?hIx ?hAx ?h0 ?hassign ?hbody ?hdone ?hstop
  case hI => exact fun M M' pre A C h hp hM => h.stable (by omega) hp hM
  case hIx => exact fun c M M' pre A C h => h.elim
  case hAx => exact fun M pre x a' A C h _ => h
  case h0 =>
    intro W1 hb1 hz1
    exact ⟨HB0.out.trans (hb1.mono (by omega)), ⟨_, HX0.out.bel hb1, OwnVs.nil _ _, fun g hg => by cases hg⟩, fun _ h => h.elim⟩
  case hassign =>
    intro m l M pre x W' hM hz hsp hi'
    exact wpIn_assign ⟨hi', ⟨_, _, _, _, _, _, _, _, by simp [go_sem, Act.put, Act.eval]; exact ⟨rfl, rfl, rfl, rfl, rfl, rfl, rfl, rfl⟩⟩, Below.refl _ _⟩
  case hbody =>
    rintro m l M pre x a' W' hl hM hz hsp ⟨low, ⟨v, hv, ho, hg⟩, hlM⟩ ⟨u3, u6, u7, u8, u9, u10, u11, u12, rfl⟩
    obtain ⟨pv, cv, hform⟩ := ho.form
    rw [List.length_map] at hform
    subst hform
    have hx := hsp.2 x (by simp)
    obtain ⟨px, mx, kx, hxs⟩ := HSL.out _ _ _ hx.1.1 hx.1.2 hx.2
    obtain ⟨key, xv⟩ := x
    dsimp only at hxs
    subst hxs
    have hpn : pre.length + 1 ≤ n := by have := hsp.1; simpa using this
    have t0 := hv.cell 0
    have tf := hv.frozen 0
    have tl := hv.lt
    simp only [List.size_toArray, List.length_cons, List.length_nil, Nat.reduceAdd, Nat.reduceLT, getElem?_pos, List.getElem_toArray, List.getElem_cons_zero, List.getElem_cons_succ] at t0
    have LOW := Lib.hid low
    have HV := Lib.hid hv
    have HO := Lib.hid ho
    have HG := Lib.hid hg
    have HM := Lib.hid hM
    have HLM := Lib.hid hlM
    obtain ⟨i0, hi, hi0, hi1, hi2⟩ := info_parts info_nums
    clear low hv ho hg hM hlM hseq hsp hx
    have HO2 : Hid (∀ o, (W'.alloc o).ownsRow (w.heap.size + 1) 44 1 (.slice pv pre.length cv) pre.length (pre.map Prod.snd)) := Lib.hid (fun o => by
      have h2 := OwnVs.kept HO.out (w' := W'.alloc o) (fun g hg => Below.heap_alloc _ _ _ (HO.out.lt g hg).2)
      unfold OwnVs at h2
      rwa [List.length_map] at h2)
    have HBOX : Hid (∀ o w3, (W'.alloc o).grownBy w3 (Value.slice pv pre.length cv).ownBlock → Blk w3 w.heap.size 130 #[.slice pv pre.length cv]) := Lib.hid (fun o w3 hg => (hg.block _ (by rw [World.size_alloc]; omega) (fun e => by have := (HO.out.lt _ e.symm).1; omega)).trans ((Below.heap_alloc _ _ _ tl).trans HV.out))
    have hc2 : pre.length + 1 ≤ maxLen := by unfold maxLen; omega
    have hc3 : (pre.length + 1) * 24 ≤ 140737488355328 := by omega
    have hc4 : ∀ o, w.heap.size + 1 ≤ (W'.alloc o).heap.size := fun o => by rw [World.size_alloc]; omega
    gi_wp2_with (gi_at_builtin; go_loud (refine wpListIn_append_own_at _ rfl _ _ 130 rfl (w.heap.size + 1) 44 i0 (.slice none 0 0) 1 24 under_rows hi hi0 hi1 hi2 rfl (by decide) _ _ _ rfl (HO2.out _) ⟨W'.heap.size, 0, none⟩ 1 1 [.slice px mx kx] rfl rfl (cell_one_new _ _ _) (by simp [Value.oneCell']) hc2 hc3 (hc4 _) ?_); intro v' w3 hown' hg3 hnil3 hat3; obtain ⟨gn, capn, rfl⟩ := ownsRow_succ hown'; have hb3 := HBOX.out _ _ hg3; have b0 := hb3.cell 0; have bf := hb3.frozen 0; have bl := hb3.lt; simp only [List.size_toArray, List.length_cons, List.length_nil, Nat.reduceAdd, Nat.reduceLT, getElem?_pos, List.getElem_toArray, List.getElem_cons_zero, List.getElem_cons_succ] at b0; have HOWN := Lib.hid hown'; have HG3 := Lib.hid hg3; have HAT := Lib.hid hat3; have HB3 := Lib.hid hb3; clear hown' hg3 hnil3 hat3 hb3)
    have hg3 : (W'.alloc (Obj.cells #[Value.slice px mx kx] 44)).grownBy w3 (Value.slice pv pre.length cv).ownBlock := HG3.out
    have hat : some gn = (Value.slice pv pre.length cv).ownBlock ∨ some gn = some (W'.heap.size + 1) := by
      have := HAT.out
      rw [World.size_alloc] at this
      exact this
    have hgn : ¬ M gn ∧ gn ≠ W0.heap.size + 1 ∧ gn + 1 ≠ W0.heap.size + 1 ∧ w.heap.size + 1 ≤ gn := by
      rcases hat with h | h
      · have h1 := HG.out gn h.symm
        exact ⟨h1.1, h1.2.1, h1.2.2, (HO.out.lt gn h.symm).1⟩
      · simp only [Option.some.injEq] at h
        exact ⟨fun hm => by have := (HM.out gn hm).2; omega, by omega, by omega, by omega⟩
    have hkeep : ∀ k, k < W'.heap.size → (Value.slice pv pre.length cv).ownBlock ≠ some k → w3.heap[k]? = W'.heap[k]? := fun k hk hne => (hg3.block k (by rw [World.size_alloc]; omega) (fun e => hne e.symm)).trans (Below.heap_alloc _ _ _ hk)
    have hz3 := hg3.size
    rw [World.size_alloc] at hz3
    have hlow3 : Below w.heap.size W' w3 := ⟨hg3.os, hg3.tape, hg3.output, by omega, fun k hk => hkeep k (by omega) (fun e => by have := (HO.out.lt _ e).1; omega)⟩
    have hset : ∀ k, k ≠ w.heap.size → (w3.setCell ⟨w.heap.size, 0, none⟩ (.slice (some ⟨gn, 0, none⟩) (pre.length + 1) capn)).heap[k]? = w3.heap[k]? := fun k hk => Below.heap_setCell _ _ _ _ (by dsimp only; exact hk)
    refine (show SpareM _ W' _ ∧ GaI w _ _ M _ from ⟨⟨hg3.os, hg3.tape, hg3.output, by rw [World.size_setCell]; omega, fun k hk => ?_⟩, (LOW.out.trans hlow3).setCell (by dsimp only; omega) _, ⟨_, HB3.out.set 0 _, ?_, ?_⟩, HLM.out⟩)
    · have h1 : k < W'.heap.size ∧ k ≠ w.heap.size ∧ (Value.slice pv pre.length cv).ownBlock ≠ some k := by
        rcases hk with ⟨hk1, hk2⟩ | hk
        · refine ⟨by omega, hk2, fun e => ?_⟩
          have h2 := HG.out k e
          have h3 := (HO.out.lt k e).1
          omega
        · exact ⟨(HM.out k hk).2, fun e => by have := HLM.out k hk; omega, fun e => (HG.out k e).1 hk⟩
      exact (hset k h1.2.1).trans (hkeep k h1.1 h1.2.2)
    · have h2 := HOWN.out
      have h3 : OwnVs w3 (w.heap.size + 1) (.slice (some ⟨gn, 0, none⟩) (pre.length + 1) capn) ((pre ++ [(key, Value.slice px mx kx)]).map Prod.snd) := by
        unfold OwnVs
        rw [List.length_map, List.length_append, List.map_append]
        exact h2
      exact h3.kept (fun g hg => hset g (by have := (h3.lt g hg).1; omega))
    · intro g hg
      obtain rfl : gn = g := by simpa [Value.ownBlock] using hg
      exact ⟨hgn.1, by rw [← hz0]; exact hgn.2.1, by rw [← hz0]; exact hgn.2.2.1⟩
  case hdone =>
    rintro D xs W' rfl hz hS ⟨low, ⟨v, hv, ho, hg⟩, hlM⟩ hD
    obtain ⟨pv, cv, rfl⟩ := ho.form
    have t0 := hv.cell 0
    have tl := hv.lt
    simp only [List.size_toArray, List.length_cons, List.length_nil, Nat.reduceAdd, Nat.reduceLT, getElem?_pos, List.getElem_toArray, List.getElem_cons_zero, List.getElem_cons_succ] at t0
    have LOW := Lib.hid low
    have HO := Lib.hid ho
    have HG := Lib.hid hg
    have HS := Lib.hid hS
    clear low hv ho hg hlM hseq hS
    gi_wp2_with fail
    refine ⟨by simp, .inl ⟨_, _, rfl, run_takeDeferred hD, ?_⟩⟩
    refine ⟨_, results_tmp rfl _ _ _, _, xs, rfl, HS.out, ?_, ?_⟩
    · have h3 := HO.out.kept (w' := W'.putObj W0.heap.size (.deferred none)) (fun gg h5 => World.putObj_heap_other (by have := (HG.out gg h5).2.2; omega))
      rw [List.length_map] at h3
      exact h3
    · exact LOW.out.trans ⟨rfl, rfl, rfl, by simp, fun k hk => World.putObj_heap_other (by omega)⟩
  case hstop =>
    rintro D c pre W' rfl hz hsp h hD
    exact h.elim
set_option maxHeartbeats 1000000 in
theorem collect_any (Mb n g : Nat) (F : Int → Int → Option Value) (w : World) (hM : MapAt Tryd.prog 91 w Mb n F) (hb : Blk w g 122 #[.map (some Mb)]) (hsl : ∀ a c v, InI a → InI c → F a c = some v → ∃ p m k, v = .slice p m k) (hn : n ≤ 1000000000000) :
    Calls Tryd.prog 103 #[.func (.func 121) #[] #[.pointer (some ⟨g, 0, none⟩)]] w fun e w' => ∃ (v : Value) (xs : List Ent), e = .returned v ∧ ValsS n F xs ∧ OwnVs w' (w.heap.size + 1) v (xs.map Prod.snd) ∧ Below w.heap.size w w' := by
  have HM := Lib.hid hM
  have HB := Lib.hid hb
  have HSL := Lib.hid hsl
  clear hM hb hsl
  go_enter Tryd.func103, Tryd.ntmps103
  go_wp2_with (go_at_call 120; refine (appendSeq_any Mb n g F _ HM.out HB.out HSL.out hn).mono ?_; rintro e w1 ⟨v, xs, rfl, h1, h2, h3⟩)
  go_ret
  exact ⟨_, xs, rfl, h1, h2, h3⟩
end Go.Proofs.YtjjfpbjdcmkkhaaDoor

namespace Go.Proofs.YtjjfpbjdcmkkhaaDoor
open Go Go.RowKit Go.Maps Go.Shelf

theorem rch_some {b : Sn} (hok : Ok9 b) : ∀ k, k ≤ b.ns.length → ∃ st l, Rch b k (st, l)
  | 0, _ => by
    obtain ⟨s1, s2, s3, s4, s5, s6⟩ := hok.span
    exact ⟨(b.lo, 0), [], List.mem_map.2 ⟨b.lo, mem_numsL.2 ⟨by omega, by omega⟩, rfl⟩, rfl⟩
  | k + 1, hk => by
    obtain ⟨st, l, h⟩ := rch_some hok k (by omega)
    obtain ⟨s, hs⟩ := get_some b.ns k (by omega)
    exact ⟨befS b.ns k st, l ++ [(k : Int)], s, (st, l), hs, h, by simp [offL]⟩
/-- The lists that are gathered. -/
structure Gath (b : Sn) (k n : Nat) (ls : List (List Int)) : Prop where
  mem : ∀ l ∈ ls, ∃ st, Rch b k (st, l)
  all : ∀ st l', Rch b k (st, l') → ∃ l ∈ ls, fewerB l' l = false
  len : ls.length ≤ n
theorem Gath.best {b : Sn} {k n : Nat} {l0 : List Int} {ls : List (List Int)} (h : Gath b k n (l0 :: ls)) : (∃ st, Rch b k (st, bestOf l0 ls)) ∧ ∀ st l', Rch b k (st, l') → fewerB l' (bestOf l0 ls) = false := by
  constructor
  · rcases bestOf_mem l0 ls with e | e
    · rw [e]; exact h.mem _ (by simp)
    · exact h.mem _ (List.mem_cons_of_mem _ e)
  · intro st l' hr
    obtain ⟨l, hl, h1⟩ := h.all st l' hr
    obtain ⟨h2, h3⟩ := bestOf_le l0 ls
    rcases List.mem_cons.1 hl with rfl | hl
    · exact fewerB_ge h1 h2
    · exact fewerB_ge h1 (h3 l hl)
theorem gathered {b : Sn} {k n1 : Nat} {f : Int → Int → Option (List Int)} {F : Int → Int → Option Value} {wr w4 w5 : World} {v5 : Value} {xs : List Ent} (hok : Ok9 b) (hk : k ≤ b.ns.length) (hbest : BestR b k f) (hSL : ∀ a c v, InI a → InI c → F a c = some v → ∃ l, f a c = some l ∧ ListAt wr.heap.size wr v l)
    (hFf : ∀ a c, InI a → InI c → match f a c with | none => F a c = none | some l => ∃ v, F a c = some v ∧ ListAt wr.heap.size wr v l)
    (hB4 : Below wr.heap.size wr w4) (hB5 : Below w4.heap.size w4 w5) (hS : ValsS n1 F xs) (hO : OwnVs w5 (w4.heap.size + 1) v5 (xs.map Prod.snd)) :
    ∃ (l0 : List Int) (ls : List (List Int)) (p : Option Addr) (c : Nat), Gath b k n1 (l0 :: ls) ∧ v5 = .slice p (l0 :: ls).length c ∧ LsAt wr.heap.size w5 p (l0 :: ls) := by
  obtain ⟨⟨hlen, hP⟩, hA⟩ := hS
  have hin : ∀ st l, Rch b k (st, l) → InI st.1 ∧ InI st.2 := fun st l hr => by
    obtain ⟨h1, -⟩ := Rch.bd hok k _ hr
    have := h1.b (by have := hok.len; omega)
    exact ⟨this.i1, this.i2⟩
  have hG : Gath b k n1 (xs.map fun q => (f q.1.1 q.1.2).getD []) := by
    refine ⟨fun l hl => ?_, fun st l' hr => ?_, by rw [List.length_map]; exact hlen⟩
    · obtain ⟨q, hq, rfl⟩ := List.mem_map.1 hl
      obtain ⟨⟨i1, i2⟩, hF⟩ := hP q hq
      obtain ⟨l2, h1, -⟩ := hSL _ _ _ i1 i2 hF
      rw [h1]
      exact ⟨_, (hbest.yes _ _ _ h1).1⟩
    · obtain ⟨i1, i2⟩ := hin st l' hr
      cases hf : f st.1 st.2 with
      | none => exact absurd hr (hbest.no _ _ hf l')
      | some l =>
        have h2 := hFf st.1 st.2 i1 i2
        rw [hf] at h2
        obtain ⟨v, h3, -⟩ := h2
        refine ⟨l, List.mem_map.2 ⟨((st.1, st.2), v), hA _ _ _ i1 i2 h3, by simp [hf]⟩, (hbest.yes _ _ _ hf).2 l' hr⟩
  have hL : ∀ (g cap : Nat), v5 = .slice (some ⟨g, 0, none⟩) xs.length cap → LsAt wr.heap.size w5 (some ⟨g, 0, none⟩) (xs.map fun q => (f q.1.1 q.1.2).getD []) := by
    intro g cap hv i l hi
    subst hv
    rw [List.getElem?_map] at hi
    obtain ⟨q, hq, rfl⟩ := Option.map_eq_some_iff.1 hi
    obtain ⟨⟨i1, i2⟩, hF⟩ := hP q (List.mem_of_getElem? hq)
    obtain ⟨l2, h1, h2⟩ := hSL _ _ _ i1 i2 hF
    have hlt := (hO.lt g rfl).2
    refine ⟨g, 0, q.2, rfl, hlt, ?_, ?_⟩
    · have h3 : w5.ownsRow (w4.heap.size + 1) 44 1 (.slice (some ⟨g, 0, none⟩) xs.length cap) xs.length (xs.map Prod.snd) := by
        have h4 := hO
        unfold OwnVs at h4
        rwa [List.length_map] at h4
      rw [Nat.zero_add, World.ownsRow.cellAt h3 i (by have := (List.getElem?_eq_some_iff.1 hq).1; omega), List.getElem?_map, hq]
      rfl
    · rw [h1]
      exact h2.bel (hB4.trans (hB5.mono hB4.size))
  cases hxs : xs.map (fun q => (f q.1.1 q.1.2).getD []) with
  | nil =>
    obtain ⟨st, l, hr⟩ := rch_some hok k hk
    obtain ⟨l2, h1, -⟩ := hG.all st l hr
    rw [hxs] at h1; simp at h1
  | cons l0 ls =>
    have hlx : (l0 :: ls).length = xs.length := by rw [← hxs, List.length_map]
    have hne : xs ≠ [] := by rintro rfl; simp at hlx
    obtain ⟨p, c, hv⟩ := hO.form
    obtain ⟨h1, h2⟩ := id hO
    rcases h2 with ⟨h2, h3⟩ | ⟨g, cap, cur, rfl, hg, hh, r⟩
    · rw [List.length_map] at h3
      exact absurd (List.eq_nil_of_length_eq_zero h3) hne
    · rw [List.length_map]
      have := hL g cap (by rw [List.length_map])
      rw [hxs] at this hG
      exact ⟨l0, ls, _, cap, hG, by rw [hlx], this⟩
/-- A list stays where only a call's deferred lists turn. -/
theorem ListAt.leave {B n0 : Nat} {Ds : List Nat} {w w' : World} {v : Value} {l : List Int} (h : ListAt B w v l) (hD : Defs n0 Ds w) (hz : w'.heap.size = w.heap.size) (hk : ∀ k, k ∉ Ds → w'.heap[k]? = w.heap[k]?) : ListAt B w' v l := by
  obtain ⟨p, c, h1, h2, h3, h4, h5, h6⟩ := h
  refine ⟨p, c, h1, fun i x hi => ?_, h3, h4, h5, by omega⟩
  obtain ⟨b, o, e1, e2, e3⟩ := h2 i x hi
  refine ⟨b, o, e1, by omega, ?_⟩
  have hne : b ∉ Ds := by
    intro hb
    have e4 := hD.is b hb
    simp [World.cell?, e4] at e3
  rw [World.cell?_of_block (a := ⟨b, o + i, none⟩) (hk b hne)]
  exact e3
end Go.Proofs.YtjjfpbjdcmkkhaaDoor

