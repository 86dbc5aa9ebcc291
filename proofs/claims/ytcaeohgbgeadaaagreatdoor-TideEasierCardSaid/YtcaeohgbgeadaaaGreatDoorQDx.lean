/- Package tide: the truths at the ends of what is known. -/
import Derived.Test.YtcaeohgbgeadaaaGreatDoorQDw
import Derived.Test.YtcaeohgbgeadaaaGreatDoorQSv
set_option linter.unusedSimpArgs false
set_option linter.unusedVariables false
namespace Go.Proofs.YtcaeohgbgeadaaaGreatDoor
open Go Go.RowKit Go.Shelf
abbrev encX (t : Tr) : Array Value := #[trv t]
/-- A truth at the ends, by what the seine is. -/
def trZ (h : Hl) (z : Int × Int) (c d : Bool) : Tr := ⟨z.1, z.2, roomT h.b.ts c 0, roomT h.b.ts c 1, roomT h.b.ts c 2, roomT h.b.ts c 3, roomT h.b.ts c 4, roomT h.b.ts c 5, endN d h.b.glo h.b.ghi⟩
theorem trZ_corn {h : Hl} {z : Int × Int} (hz : ∃ x y, z = netL h x y) (c d : Bool) : trZ h z c d ∈ corn h := by
  obtain ⟨x, y, rfl⟩ := hz
  exact mem_corn.2 ⟨x, y, c, d, rfl⟩
theorem LowsAt.priv {w W B : World} {p : Option Addr} {l : List Lw} {O : Nat → Prop} (h : LowsAt w p l) (hW : Below w.heap.size w W) (hp : PrivM O W B) (hO : ∀ k, O k → w.heap.size ≤ k) : LowsAt B p l :=
  h.below (hW.trans (hp.below hW.size hO))
section
variable {o : Oper} {w : World} {g j t s u : Nat} (ρ : Operand → Value)
theorem run_lNet {x y : Value} (hop : o.op = .load 141 (.tmp t)) (hs : ρ (.tmp t) = .pointer (some ⟨g, 0, none⟩)) (k : Blk w g 141 #[x, y]) : (execOp ρ o).run Tryz.prog w = .ok (.value (.agg #[x, y])) w := by
  obtain ⟨c0, c1⟩ := Blk.c2 k
  unfold execOp; simp [hop, hs, go_sem, c0, c1]
theorem run_lHl {h : Hl} {p : Tp} (hop : o.op = .load 87 (.tmp t)) (hs : ρ (.tmp t) = .pointer (some ⟨g, 0, none⟩)) (k : Blk w g 87 (hlcs h p)) : (execOp ρ o).run Tryz.prog w = .ok (.value (hlv h p)) w := by
  unfold hlcs at k
  obtain ⟨c0, c1, c2, c3, c4, c5, c6, c7, c8, c9, c10, c11, c12⟩ := Blk.c13 k
  unfold execOp hlv; simp [hop, hs, go_sem, c0, c1, c2, c3, c4, c5, c6, c7, c8, c9, c10, c11, c12]
theorem run_lE1 {x : Value} (hop : o.op = .load 152 (.tmp t)) (hs : ρ (.tmp t) = .pointer (some ⟨g, 0, none⟩)) (k : Blk w g 152 #[x]) : (execOp ρ o).run Tryz.prog w = .ok (.value (.agg #[x])) w := by
  have c0 := Blk.c1 k
  unfold execOp; simp [hop, hs, go_sem, c0]
theorem run_fLows (hop : o.op = .fieldAddr 81 (.tmp t) 0) (hs : ρ (.tmp t) = .pointer (some ⟨g, 0, none⟩)) (hl : g < w.heap.size) : (execOp ρ o).run Tryz.prog w = .ok (.value (.pointer (some ⟨g, 0, none⟩))) w := by
  unfold execOp; simp [hop, hs, go_sem, hl]
theorem run_fGale (hop : o.op = .fieldAddr 29 (.tmp t) 3) (hs : ρ (.tmp t) = .pointer (some ⟨g, 0, none⟩)) (hl : g < w.heap.size) : (execOp ρ o).run Tryz.prog w = .ok (.value (.pointer (some ⟨g, 5, none⟩))) w := by
  unfold execOp; simp [hop, hs, go_sem, hl]
theorem run_bTruth {h : Hl} {x y : Int} {c d : Bool} (hop : o.op = .build 145 #[(0, .tmp t), (1, .tmp s), (2, .tmp u)]) (h0 : ρ (.tmp t) = .agg #[.int .i64 x, .int .i64 y]) (h1 : ρ (.tmp s) = rmV h.b.ts c) (h2 : ρ (.tmp u) = .int .i64 (endN d h.b.glo h.b.ghi)) : (execOp ρ o).run Tryz.prog w = .ok (.value (trv (trZ h (x, y) c d))) w := by
  unfold execOp; simp [hop, h0, h1, h2, go_sem, rmV, trv, trZ]
end
/-- What region 10's operations leave. -/
def extR (gH gN gA gB l : Nat) (fa fb : Nat) (h : Hl) (p : Tp) (x y : Int) (c d : Bool) (i : Nat) (v : Value) (_w : World) : Prop :=
  match i with
  | 0 => v = .func (.yield l) #[] #[]
  | 1 => v = .agg #[.int .i64 x, .int .i64 y]
  | 2 => v = hlv h p
  | 3 => v = .agg #[.func (.func fa) #[] #[]]
  | 4 => v = rmV h.b.ts c
  | 5 => v = .pointer (some ⟨gB, 0, none⟩)
  | 6 => v = .func (.func fb) #[] #[]
  | 7 => v = .pointer (some ⟨gH, 0, none⟩)
  | 8 => v = .pointer (some ⟨gH, 0, none⟩)
  | 9 => v = .pointer (some ⟨gH, 5, none⟩)
  | 10 => v = .agg #[.int .i64 h.b.glo, .int .i64 h.b.ghi]
  | 11 => v = .int .i64 (endN d h.b.glo h.b.ghi)
  | 12 => v = trv (trZ h (x, y) c d)
  | _ => True
theorem extR_kept (gH gN gA gB l : Nat) (fa fb : Nat) (h : Hl) (p : Tp) (x y : Int) (c d : Bool) : ∀ (i : Nat), i < 13 → ∀ (v : Value) (w w' : World), extR gH gN gA gB l fa fb h p x y c d i v w → Below w.heap.size w w' → extR gH gN gA gB l fa fb h p x y c d i v w' := by
  intro i hi v w w' h hb
  match i, hi with
  | 0, _ => exact h
  | 1, _ => exact h
  | 2, _ => exact h
  | 3, _ => exact h
  | 4, _ => exact h
  | 5, _ => exact h
  | 6, _ => exact h
  | 7, _ => exact h
  | 8, _ => exact h
  | 9, _ => exact h
  | 10, _ => exact h
  | 11, _ => exact h
  | 12, _ => exact h
  | k + 13, hk => omega
/-- What holds all the while: what the caller's body keeps, the iterator over the nets, the haul. -/
structure ExI (J : List Tr → World → Prop) (O : Nat → Prop) (W : World) (r M nm : Nat) (h : Hl) (p : Tp) (L : List (Int × Int)) (left : Int → Int → Bool) (cnt : Nat) (pre : List Tr) (wr : World) : Prop where
  j : J pre wr
  it : IterAt Tryz.prog 141 wr M r nm (setF L) left cnt
  pr : PrivM O W wr
  hb : Blk wr W.heap.size 87 (hlcs h p)
  pm : ∀ t ∈ pre, t ∈ corn h
section
variable {J : List Tr → World → Prop} {O : Nat → Prop} {W : World} {r M nm : Nat} {h : Hl} {p : Tp} {L : List (Int × Int)} {left : Int → Int → Bool} {cnt : Nat} {pre : List Tr} {wr : World}
theorem IterAt.mlt (k : IterAt Tryz.prog 141 wr M r nm (setF L) left cnt) : M < wr.heap.size := k.map.lt
theorem ExI.bel (k : ExI J O W r M nm h p L left cnt pre wr) (hJ : Low W.heap.size J) {B : World} (hB : Below wr.heap.size wr B) : ExI J O W r M nm h p L left cnt pre B :=
  ⟨hJ _ _ _ k.j k.pr.size (hB.mono k.pr.size), k.it.below (m := wr.heap.size) (IterAt.mlt k.it) k.it.lt hB, k.pr.trans (PrivM.of_below hB), k.hb.bel hB, k.pm⟩
theorem ExI.yield (k : ExI J O W r M nm h p L left cnt pre wr) {B : World} {t : Tr} (hj : J (pre ++ [t]) B) (hp : PrivM O wr B) (hO : ∀ j, O j → j < W.heap.size) (hr : W.heap.size ≤ r) (hM : W.heap.size ≤ M) (ht : t ∈ corn h) : ExI J O W r M nm h p L left cnt (pre ++ [t]) B :=
  ⟨hj, k.it.of_heap (hp.block _ (IterAt.mlt k.it) (fun e => by have := hO _ e; omega)) (hp.block _ k.it.lt (fun e => by have := hO _ e; omega)), k.pr.trans hp, (hp.block _ k.hb.lt (fun e => by have := hO _ e; omega)).trans k.hb, fun u hu => by
    rcases List.mem_append.1 hu with h1 | h1
    · exact k.pm u h1
    · rw [List.mem_singleton.1 h1]; exact ht⟩
end
/-- Which truths of a net were gone through: all rooms before one, and of it so many gales. -/
def CornIn (h : Hl) (z : Int × Int) (pre : List Tr) (a m : Nat) : Prop := ∀ i j : Nat, (i < a ∨ (i = a ∧ j < m)) → j < 2 → trZ h z (i == 1) (j == 1) ∈ pre
theorem CornIn.nil (h : Hl) (z : Int × Int) (pre : List Tr) : CornIn h z pre 0 0 := fun i j h1 _ => by omega
theorem CornIn.put {h : Hl} {z : Int × Int} {pre : List Tr} {a m : Nat} (k : CornIn h z pre a m) : CornIn h z (pre ++ [trZ h z (a == 1) (m == 1)]) a (m + 1) := fun i j h1 h2 => by
  by_cases e : i = a ∧ j = m
  · obtain ⟨rfl, rfl⟩ := e; simp
  · exact List.mem_append_left _ (k i j (by omega) h2)
theorem CornIn.row {h : Hl} {z : Int × Int} {pre : List Tr} {a : Nat} (k : CornIn h z pre a 2) : CornIn h z pre (a + 1) 0 := fun i j h1 h2 => k i j (by omega) h2
theorem CornIn.all {h : Hl} {z : Int × Int} {pre : List Tr} (k : CornIn h z pre 2 0) (c d : Bool) : trZ h z c d ∈ pre := by
  have := k (if c then 1 else 0) (if d then 1 else 0) (by cases c <;> simp) (by cases d <;> simp)
  cases c <;> cases d <;> exact this
theorem netL_InI {h : Hl} (k : h.OK) (x y : Bool) : InI (netL h x y).1 ∧ InI (netL h x y).2 := by
  have h1 := k.hd
  have h2 := k.rt
  constructor
  · unfold netL; cases x <;> simp only [endN, Bool.false_eq_true, if_false, if_true] <;> exact inI (by omega) (by omega)
  · unfold netL; cases y <;> simp only [endN, Bool.false_eq_true, if_false, if_true] <;> exact inI (by omega) (by omega)
attribute [local go_sem] Oper.semAt_some frozen_alloc_lt
set_option maxRecDepth 100000 in
set_option maxHeartbeats 16000000 in
theorem extremes_in (h : Hl) (p : Tp) (hk : h.OK) (O : Nat → Prop) (w : World) (hl : LowsAt w p.tp h.b.ts) (hO : ∀ k, O k → w.heap.size ≤ k) :
    Seq0 Tryz.prog 115 #[hlv h p] #[] encX O (fun xs => ∀ t, t ∈ xs ↔ t ∈ corn h) (fun pre => ∀ t ∈ pre, t ∈ corn h) w := by
  intro n l J Jx W hW hOW hJ hJx hY h0'
  have hJY := hY
  clear hY
  have HJ := Lib.hid hJ
  have HJx := Lib.hid hJx
  have HY := Lib.hid hJY
  have H0 := Lib.hid h0'
  have HOW := Lib.hid hOW
  have HO := Lib.hid hO
  have HL := Lib.hid hl
  have HW := Lib.hid hW
  have HN := Lib.hid (netL_InI hk)
  have h6 := hk.ln
  clear hJ hJx hJY h0' hOW hO hl hW hk
  refine callsIn_of_wp Tryz.func115 rfl trivial ?_ rfl
  simp only [Tryz.ntmps115, List.size_toArray, List.length_cons, List.length_nil, Nat.reduceAdd, Nat.reduceSub, Array.replicate_succ, Array.replicate_zero, List.push_toArray, List.append_toArray, List.nil_append, List.cons_append]
  unfold hlv
  gi_wp2_with (gi_at_call 150; refine (callsIn_wide.2 (nets_any h p _ HN.out)).mono ?_; rintro e w1 ⟨M, L, rfl, hM, k3, hL, k5⟩; obtain ⟨W1, left, cnt, hrun, hit, hleft, hg, hz, hcn⟩ := MapAt.range k3 key_net Tryz.underlying187)
  clear hrun
  have hz0 : W.heap.size + 1 ≤ w1.heap.size := by have := k5.size; simpa using this
  have hMW : W.heap.size < M := by simp at hM; omega
  have hMr := k3.lt
  have hB0 : Below W.heap.size W w1 := ((Below.refl _ W).alloc (Nat.le_refl _) (.cells (hlcs h p) 87)).trans (k5.mono (by simp))
  have hB1 : Below W.heap.size W W1 := hB0.trans (Below.of_grown0 hg (by omega))
  have hH0 : Blk w1 W.heap.size 87 (hlcs h p) := (k5.block _ (by simp)).trans (Blk.new rfl)
  have hH1 : Blk W1 W.heap.size 87 (hlcs h p) := (hg.block _ (by omega) (by simp)).trans hH0
  have HREL : Hid (ExI J O W w1.heap.size M 4 h p L left cnt [] W1) := Lib.hid ⟨HJ.out _ _ _ H0.out (Nat.le_refl _) hB1, hit, PrivM.of_below hB1, hH1, by simp⟩
  have HLE := Lib.hid (fun (z : Int × Int) (hz : z ∈ L) => (show left z.1 z.2 = true by
    obtain ⟨x, y, rfl⟩ := (hL z).1 hz
    rw [hleft _ _ (HN.out x y).1 (HN.out x y).2, setF_isSome]; simpa using hz))
  have HLL := Lib.hid hL
  have hrW : W.heap.size ≤ w1.heap.size := by omega
  have hMWle : W.heap.size ≤ M := by omega
  clear hit hleft hg hz hcn hM k3 hL k5 hB0 hB1 hH0 hH1 hMr hMW hz0
  generalize w1.heap.size = r at *
  gi_loopw [12] (fun _ wr => ∃ (left : Int → Int → Bool) (cnt : Nat) (pre : List Tr), Hid (ExI J O W r M 4 h p L left cnt pre wr) ∧ Hid (∀ z ∈ L, left z.1 z.2 = true ∨ ∀ c d, trZ h z c d ∈ pre))
    (fun _ wr => wr.rangeLeft M r)
  case atStart => exact ⟨left, cnt, [], HREL, Lib.hid (fun z hz => .inl (HLE.out z hz))⟩
  case round =>
    clear HREL HLE
    obtain ⟨left, cnt, pre, HE, HLE⟩ := hrel
    rcases HE.out.it.next key_net 0 with ⟨e0, e1, hnx⟩ | ⟨x, y, v, w1, cnt', hx, hy, hlxy, hfv, hnx, hit1, hlt, hg1, hz1, hen⟩
    · have hS : ∀ t, t ∈ pre ↔ t ∈ corn h := fun t => ⟨HE.out.pm t, fun ht => by
        obtain ⟨a, b, c, d, rfl⟩ := mem_corn.1 ht
        have hz : netL h a b ∈ L := (HLL.out _).2 ⟨a, b, rfl⟩
        rcases HLE.out _ hz with h1 | h1
        · rw [e1 _ _ (HN.out a b).1 (HN.out a b).2] at h1; cases h1
        · exact h1 c d⟩
      clear e1
      gi_wp2_with fail
      go_end0
      exact ⟨⟨_, rfl⟩, HE.out.pr, .inl ⟨pre, hS, HE.out.j⟩⟩
    · obtain ⟨hmem, rfl⟩ := setF_some hfv
      have hzc := (HLL.out _).1 hmem
      have hrwr := HE.out.it.lt
      have hWr : W.heap.size ≤ wr.heap.size := HE.out.pr.size
      have hBr : Below W.heap.size wr w1 := Below.of_grown1 hg1 hWr hrW
      have HE1 : Hid (ExI J O W r M 4 h p L (fun x_1 y_1 => left x_1 y_1 && !(decide (x_1 = x) && decide (y_1 = y))) cnt' pre w1) :=
        Lib.hid ⟨HJ.out _ _ _ HE.out.j hWr hBr, hit1, HE.out.pr.tail hg1 hrW, (hg1.block _ HE.out.hb.lt (by have := HE.out.it.lt; simp only [ne_eq, Option.some.injEq]; intro e; subst e; exact absurd HE.out.hb (by obtain ⟨_, _, _, _, hri⟩ := HE.out.it.isIter; unfold Blk; rw [hri]; simp))).trans HE.out.hb, HE.out.pm⟩
      have HLE1 : Hid (∀ z ∈ L, z = (x, y) ∨ (left z.1 z.2 && !(decide (z.1 = x) && decide (z.2 = y))) = true ∨ ∀ c d, trZ h z c d ∈ pre) := Lib.hid (fun z hz => by
        by_cases he : z = (x, y)
        · exact .inl he
        · refine .inr ((HLE.out z hz).imp (fun h1 => ?_) id)
          rw [h1]
          simp only [Bool.true_and, Bool.not_eq_true', Bool.and_eq_false_iff, decide_eq_false_iff_not]
          by_cases h2 : z.1 = x
          · exact .inr (fun h3 => he (Prod.ext h2 h3))
          · exact .inl h2)
      have hmeas : cnt' < wr.rangeLeft M r := by rw [HE.out.it.left_eq]; exact hlt
      have HMEAS := Lib.hid hmeas
      have HZC := Lib.hid hzc
      clear hit1 hg1 hz1 hBr hrwr hlt hmeas HE HLE hzc hfv hlxy
      unfold key2 at hnx hen
      gi_wp2_with (gi_at_call 151; refine (callsIn_wide.2 (bothEnds_any _)).mono ?_; rintro e w2 ⟨rfl, y2, rfl⟩)
      clear hnx hen
      have hV : Below w1.heap.size w1 (ext (w1.alloc (.cells #[.int .i64 x, .int .i64 y] 141)) y2) := by (exact belA)
      have kN : Blk (ext (w1.alloc (.cells #[.int .i64 x, .int .i64 y] 141)) y2) w1.heap.size 141 #[.int .i64 x, .int .i64 y] := (Blk.new rfl).ext y2
      have HE2 := Lib.hid (HE1.out.bel HJ.out hV)
      have KN := Lib.hid kN
      have hgN : W.heap.size ≤ w1.heap.size := HE1.out.pr.size
      clear hV kN HE1
      generalize ext _ y2 = V at *
      generalize w1.heap.size = gN at *
      gi_loopw [17] (fun i wv => ∃ (k : Nat) (pre : List Tr), k ≤ 2 ∧ i = .int .i64 k ∧ Hid (ExI J O W r M 4 h p L (fun x_1 y_1 => left x_1 y_1 && !(decide (x_1 = x) && decide (y_1 = y))) cnt' pre wv) ∧ Hid (Blk wv gN 141 #[.int .i64 x, .int .i64 y]) ∧ Hid (CornIn h (x, y) pre k 0) ∧ Hid (∀ z ∈ L, z = (x, y) ∨ (left z.1 z.2 && !(decide (z.1 = x) && decide (z.2 = y))) = true ∨ ∀ c d, trZ h z c d ∈ pre))
        (fun i _ => 2 - (intOf i).toNat)
      case atStart => exact ⟨0, pre, by omega, rfl, HE2, KN, Lib.hid (CornIn.nil h (x, y) pre), HLE1⟩
      case round =>
        clear HE2 KN HLE1
        obtain ⟨k, pre, hk, rfl, HE, KN, HC, HLE⟩ := hrel
        by_cases hlt : k < 2
        · have hk01 : k = 0 ∨ k = 1 := by omega
          rcases hk01 with rfl | rfl
          · have hx0 := idxE0
            gi_wp2_with (gi_at_call 151; refine (callsIn_wide.2 (bothEnds_any _)).mono ?_; rintro e w2 ⟨rfl, y3, rfl⟩)
            clear hx0
            have hV : Below wr.heap.size wr (ext (wr.alloc (.cells #[.func (.func 160) #[] #[]] 152)) y3) := by (exact belA)
            have kA : Blk (ext (wr.alloc (.cells #[.func (.func 160) #[] #[]] 152)) y3) wr.heap.size 152 #[.func (.func 160) #[] #[]] := (Blk.new rfl).ext y3
            have HE2 := Lib.hid (HE.out.bel HJ.out hV)
            have KN2 := Lib.hid (KN.out.bel hV)
            have KA := Lib.hid kA
            have hgA : W.heap.size ≤ wr.heap.size := HE.out.pr.size
            clear hV kA HE KN
            generalize ext _ y3 = V3 at *
            generalize wr.heap.size = gA at *
            gi_loopw [21] (fun i wv => ∃ (k : Nat) (pre : List Tr), k ≤ 2 ∧ i = .int .i64 k ∧ Hid (ExI J O W r M 4 h p L (fun x_1 y_1 => left x_1 y_1 && !(decide (x_1 = x) && decide (y_1 = y))) cnt' pre wv) ∧ Hid (Blk wv gN 141 #[.int .i64 x, .int .i64 y]) ∧ Hid (Blk wv gA 152 #[.func (.func 160) #[] #[]]) ∧ Hid (CornIn h (x, y) pre 0 k) ∧ Hid (∀ z ∈ L, z = (x, y) ∨ (left z.1 z.2 && !(decide (z.1 = x) && decide (z.2 = y))) = true ∨ ∀ c d, trZ h z c d ∈ pre))
              (fun i _ => 2 - (intOf i).toNat)
            case atStart => exact ⟨0, pre, by omega, rfl, HE2, KN2, KA, HC, HLE⟩
            case round =>
              clear HE2 KN2 KA HC HLE
              obtain ⟨m, pre, hm, rfl, HE, KN, KA, HC, HLE⟩ := hrel
              by_cases hlt2 : m < 2
              · have hm01 : m = 0 ∨ m = 1 := by omega
                rcases hm01 with rfl | rfl
                · have hx0 := idxE0
                  gi_wp2_with fail
                  clear hx0
                  have hV : Below wr.heap.size wr (wr.alloc (.cells #[.func (.func 160) #[] #[]] 152)) := by (exact belA)
                  have kB : Blk (wr.alloc (.cells #[.func (.func 160) #[] #[]] 152)) wr.heap.size 152 #[.func (.func 160) #[] #[]] := Blk.new rfl
                  have HE2 := Lib.hid (HE.out.bel HJ.out hV)
                  have KN2 := Lib.hid (KN.out.bel hV)
                  have KA2 := Lib.hid (KA.out.bel hV)
                  have KB := Lib.hid kB
                  clear hV kB HE KN KA
                  generalize wr.alloc _ = V4 at *
                  generalize wr.heap.size = gB at *
                  have kH := HE2.out.hb
                  have hLA := HL.out.priv HW.out HE2.out.pr HO.out
                  refine wpIn_region_flow_back 13 41 (extR W.heap.size gN gA gB l (160) (160) h p x y false false) free_wide rfl (by kernel_rfl) (by kernel_rfl) rfl (extR_kept _ _ _ _ _ _ _ _ _ _ _ _ _) ?_ ?_
                  · intro i hin a2 X g1 g2 g3 g4 g5 KK hKK
                    have kX := kH.bel g5
                    match i, hin with
                    | 0, _ => exact st_move rfl rfl (wanted_none rfl) (g3 1 (by kernel_rfl)) (hKK _ _ rfl (Below.refl _ _))
                    | 1, _ => exact st_val rfl (wanted_none rfl) (run_lNet _ rfl (g3 4 (by kernel_rfl)) (KN2.out.bel g5)) (hKK _ _ rfl (Below.refl _ _))
                    | 2, _ => exact st_val rfl (wanted_none rfl) (run_lHl _ rfl (g3 2 (by kernel_rfl)) kX) (hKK _ _ rfl (Below.refl _ _))
                    | 3, _ => exact st_val rfl (wanted_none rfl) (run_lE1 _ rfl (g3 6 (by kernel_rfl)) (KA2.out.bel g5)) (hKK _ _ rfl (Below.refl _ _))
                    | 4, _ =>
                      refine st_call rfl rfl (wanted_none rfl) (sargs2 (g4 2 (by kernel_rfl)) (g4 3 (by kernel_rfl))) (run_enter Tryz.func123 (by kernel_rfl) (by kernel_rfl) _) ?_
                      refine (lets_any h p false _ (hLA.below g5) h6).mono ?_
                      rintro e w1 ⟨rfl, y, rfl⟩
                      exact ⟨_, rfl, hKK _ _ rfl (below_ext _ _)⟩
                    | 5, _ => exact st_val rfl (wanted_none rfl) (run_fEnd _ rfl (g3 8 (by kernel_rfl)) (KB.out.bel g5).lt) (hKK _ _ rfl (Below.refl _ _))
                    | 6, _ => exact st_val rfl (wanted_none rfl) (run_lEnd _ rfl (g4 5 (by kernel_rfl)) (((KB.out.bel g5).cell 0).trans rfl)) (hKK _ _ rfl (Below.refl _ _))
                    | 7, _ => exact st_val rfl (wanted_none rfl) (run_fHl0 _ rfl (g3 2 (by kernel_rfl)) kX.lt) (hKK _ _ rfl (Below.refl _ _))
                    | 8, _ => exact st_val rfl (wanted_none rfl) (run_fLows _ rfl (g4 7 (by kernel_rfl)) kX.lt) (hKK _ _ rfl (Below.refl _ _))
                    | 9, _ => exact st_val rfl (wanted_none rfl) (run_fGale _ rfl (g4 8 (by kernel_rfl)) kX.lt) (hKK _ _ rfl (Below.refl _ _))
                    | 10, _ => exact st_val rfl (wanted_none rfl) (run_lSpan _ rfl (g4 9 (by kernel_rfl)) ((kX.cell 5).trans rfl) ((kX.cell 6).trans rfl)) (hKK _ _ rfl (Below.refl _ _))
                    | 11, _ =>
                      refine st_callv rfl rfl (wanted_none rfl) (g4 6 (by kernel_rfl)) (sargsv1 (g4 10 (by kernel_rfl))) (run_enter Tryz.func160 (by kernel_rfl) (by kernel_rfl) _) ?_
                      refine (lowEnd1_any _ _ _).mono ?_
                      rintro e w1 ⟨rfl, y, rfl⟩
                      exact ⟨_, rfl, hKK _ _ rfl (below_ext _ _)⟩
                    | 12, _ => exact st_val rfl (wanted_none rfl) (run_bTruth (h := h) (c := false) (d := false) _ rfl (g4 1 (by kernel_rfl)) (g4 4 (by kernel_rfl)) (g4 11 (by kernel_rfl))) (hKK _ _ rfl (Below.refl _ _))
                    | k + 13, hk => omega
                  intro vs W2 hvs hBW
                  have v0 : vs 0 = _ := hvs 0 (by omega)
                  have v1 : vs 1 = _ := hvs 1 (by omega)
                  have v2 : vs 2 = _ := hvs 2 (by omega)
                  have v3 : vs 3 = _ := hvs 3 (by omega)
                  have v4 : vs 4 = _ := hvs 4 (by omega)
                  have v5 : vs 5 = _ := hvs 5 (by omega)
                  have v6 : vs 6 = _ := hvs 6 (by omega)
                  have v7 : vs 7 = _ := hvs 7 (by omega)
                  have v8 : vs 8 = _ := hvs 8 (by omega)
                  have v9 : vs 9 = _ := hvs 9 (by omega)
                  have v10 : vs 10 = _ := hvs 10 (by omega)
                  have v11 : vs 11 = _ := hvs 11 (by omega)
                  have v12 : vs 12 = _ := hvs 12 (by omega)
                  simp only [putAll, v0, v1, v2, v3, v4, v5, v6, v7, v8, v9, v10, v11, v12]
                  clear v0 v1 v2 v3 v4 v5 v6 v7 v8 v9 v10 v11 v12 hvs
                  simp only [dstOf, Act.put, List.getElem?_toArray, List.getElem?_cons_zero, List.getElem?_cons_succ, Option.bind_some, Option.getD_some, List.setIfInBounds_toArray, List.set_cons_succ, List.set_cons_zero, List.drop_succ_cons, List.drop_zero]
                  have HE3 := Lib.hid (HE2.out.bel HJ.out hBW)
                  have KN3 := Lib.hid (KN2.out.bel hBW)
                  have KA3 := Lib.hid (KA2.out.bel hBW)
                  clear HE2 KN2 KA2 KB hBW kH hLA
                  have HSP := Lib.hid (show ∀ t ∈ pre ++ [trZ h (x, y) false false], t ∈ corn h from fun t ht => by
                    rcases List.mem_append.1 ht with h1 | h1
                    · exact HE3.out.pm t h1
                    · rw [List.mem_singleton.1 h1]; exact trZ_corn HZC.out _ _)
                  obtain ⟨fn, tmps, assign, body, hyy, hR⟩ := HY.out _ pre (trZ h (x, y) false false) W2 HE3.out.pr.size HSP.out HE3.out.j
                  dsimp only [encX] at hyy
                  gi_wp2_with fail
                  refine hR.mono ?_
                  rintro e C (⟨rfl, hJC, hSC⟩ | ⟨rfl, hJC, hSC⟩)
                  · have HE4 := Lib.hid (HE3.out.yield hJC hSC HOW.out hrW hMWle (trZ_corn HZC.out _ _))
                    have KN4 := Lib.hid ((hSC.block _ KN3.out.lt (fun e => by have := HOW.out _ e; omega)).trans KN3.out)
                    have KA4 := Lib.hid ((hSC.block _ KA3.out.lt (fun e => by have := HOW.out _ e; omega)).trans KA3.out)
                    clear hJC hSC hyy hR
                    gi_wp2_with fail
                    go_roundw
                    case rel =>
                      refine ⟨0 + 1, _, by omega, by go_num, HE4, KN4, KA4, Lib.hid HC.out.put, Lib.hid (fun z hz => ?_)⟩
                      rcases HLE.out z hz with h1 | h1 | h1
                      · exact .inl h1
                      · exact .inr (.inl h1)
                      · exact .inr (.inr (fun c d => List.mem_append_left _ (h1 c d)))
                    case measure => simp [intOf]
                  · have HPB := Lib.hid (HE3.out.pr.trans hSC)
                    have HJC := Lib.hid hJC
                    clear hJC hSC hyy hR
                    gi_wp2_with fail
                    refine bodyPost_ret (results_none rfl _ _ _) rfl ?_
                    exact ⟨⟨_, rfl⟩, HPB.out, .inr ⟨_, HSP.out, HJC.out⟩⟩
                · have hx0 := idxE1
                  gi_wp2_with fail
                  clear hx0
                  have hV : Below wr.heap.size wr (wr.alloc (.cells #[.func (.func 196) #[] #[]] 152)) := by (exact belA)
                  have kB : Blk (wr.alloc (.cells #[.func (.func 196) #[] #[]] 152)) wr.heap.size 152 #[.func (.func 196) #[] #[]] := Blk.new rfl
                  have HE2 := Lib.hid (HE.out.bel HJ.out hV)
                  have KN2 := Lib.hid (KN.out.bel hV)
                  have KA2 := Lib.hid (KA.out.bel hV)
                  have KB := Lib.hid kB
                  clear hV kB HE KN KA
                  generalize wr.alloc _ = V4 at *
                  generalize wr.heap.size = gB at *
                  have kH := HE2.out.hb
                  have hLA := HL.out.priv HW.out HE2.out.pr HO.out
                  refine wpIn_region_flow_back 13 41 (extR W.heap.size gN gA gB l (160) (196) h p x y false true) free_wide rfl (by kernel_rfl) (by kernel_rfl) rfl (extR_kept _ _ _ _ _ _ _ _ _ _ _ _ _) ?_ ?_
                  · intro i hin a2 X g1 g2 g3 g4 g5 KK hKK
                    have kX := kH.bel g5
                    match i, hin with
                    | 0, _ => exact st_move rfl rfl (wanted_none rfl) (g3 1 (by kernel_rfl)) (hKK _ _ rfl (Below.refl _ _))
                    | 1, _ => exact st_val rfl (wanted_none rfl) (run_lNet _ rfl (g3 4 (by kernel_rfl)) (KN2.out.bel g5)) (hKK _ _ rfl (Below.refl _ _))
                    | 2, _ => exact st_val rfl (wanted_none rfl) (run_lHl _ rfl (g3 2 (by kernel_rfl)) kX) (hKK _ _ rfl (Below.refl _ _))
                    | 3, _ => exact st_val rfl (wanted_none rfl) (run_lE1 _ rfl (g3 6 (by kernel_rfl)) (KA2.out.bel g5)) (hKK _ _ rfl (Below.refl _ _))
                    | 4, _ =>
                      refine st_call rfl rfl (wanted_none rfl) (sargs2 (g4 2 (by kernel_rfl)) (g4 3 (by kernel_rfl))) (run_enter Tryz.func123 (by kernel_rfl) (by kernel_rfl) _) ?_
                      refine (lets_any h p false _ (hLA.below g5) h6).mono ?_
                      rintro e w1 ⟨rfl, y, rfl⟩
                      exact ⟨_, rfl, hKK _ _ rfl (below_ext _ _)⟩
                    | 5, _ => exact st_val rfl (wanted_none rfl) (run_fEnd _ rfl (g3 8 (by kernel_rfl)) (KB.out.bel g5).lt) (hKK _ _ rfl (Below.refl _ _))
                    | 6, _ => exact st_val rfl (wanted_none rfl) (run_lEnd _ rfl (g4 5 (by kernel_rfl)) (((KB.out.bel g5).cell 0).trans rfl)) (hKK _ _ rfl (Below.refl _ _))
                    | 7, _ => exact st_val rfl (wanted_none rfl) (run_fHl0 _ rfl (g3 2 (by kernel_rfl)) kX.lt) (hKK _ _ rfl (Below.refl _ _))
                    | 8, _ => exact st_val rfl (wanted_none rfl) (run_fLows _ rfl (g4 7 (by kernel_rfl)) kX.lt) (hKK _ _ rfl (Below.refl _ _))
                    | 9, _ => exact st_val rfl (wanted_none rfl) (run_fGale _ rfl (g4 8 (by kernel_rfl)) kX.lt) (hKK _ _ rfl (Below.refl _ _))
                    | 10, _ => exact st_val rfl (wanted_none rfl) (run_lSpan _ rfl (g4 9 (by kernel_rfl)) ((kX.cell 5).trans rfl) ((kX.cell 6).trans rfl)) (hKK _ _ rfl (Below.refl _ _))
                    | 11, _ =>
                      refine st_callv rfl rfl (wanted_none rfl) (g4 6 (by kernel_rfl)) (sargsv1 (g4 10 (by kernel_rfl))) (run_enter Tryz.func196 (by kernel_rfl) (by kernel_rfl) _) ?_
                      refine (highEnd1_any _ _ _).mono ?_
                      rintro e w1 ⟨rfl, y, rfl⟩
                      exact ⟨_, rfl, hKK _ _ rfl (below_ext _ _)⟩
                    | 12, _ => exact st_val rfl (wanted_none rfl) (run_bTruth (h := h) (c := false) (d := true) _ rfl (g4 1 (by kernel_rfl)) (g4 4 (by kernel_rfl)) (g4 11 (by kernel_rfl))) (hKK _ _ rfl (Below.refl _ _))
                    | k + 13, hk => omega
                  intro vs W2 hvs hBW
                  have v0 : vs 0 = _ := hvs 0 (by omega)
                  have v1 : vs 1 = _ := hvs 1 (by omega)
                  have v2 : vs 2 = _ := hvs 2 (by omega)
                  have v3 : vs 3 = _ := hvs 3 (by omega)
                  have v4 : vs 4 = _ := hvs 4 (by omega)
                  have v5 : vs 5 = _ := hvs 5 (by omega)
                  have v6 : vs 6 = _ := hvs 6 (by omega)
                  have v7 : vs 7 = _ := hvs 7 (by omega)
                  have v8 : vs 8 = _ := hvs 8 (by omega)
                  have v9 : vs 9 = _ := hvs 9 (by omega)
                  have v10 : vs 10 = _ := hvs 10 (by omega)
                  have v11 : vs 11 = _ := hvs 11 (by omega)
                  have v12 : vs 12 = _ := hvs 12 (by omega)
                  simp only [putAll, v0, v1, v2, v3, v4, v5, v6, v7, v8, v9, v10, v11, v12]
                  clear v0 v1 v2 v3 v4 v5 v6 v7 v8 v9 v10 v11 v12 hvs
                  simp only [dstOf, Act.put, List.getElem?_toArray, List.getElem?_cons_zero, List.getElem?_cons_succ, Option.bind_some, Option.getD_some, List.setIfInBounds_toArray, List.set_cons_succ, List.set_cons_zero, List.drop_succ_cons, List.drop_zero]
                  have HE3 := Lib.hid (HE2.out.bel HJ.out hBW)
                  have KN3 := Lib.hid (KN2.out.bel hBW)
                  have KA3 := Lib.hid (KA2.out.bel hBW)
                  clear HE2 KN2 KA2 KB hBW kH hLA
                  have HSP := Lib.hid (show ∀ t ∈ pre ++ [trZ h (x, y) false true], t ∈ corn h from fun t ht => by
                    rcases List.mem_append.1 ht with h1 | h1
                    · exact HE3.out.pm t h1
                    · rw [List.mem_singleton.1 h1]; exact trZ_corn HZC.out _ _)
                  obtain ⟨fn, tmps, assign, body, hyy, hR⟩ := HY.out _ pre (trZ h (x, y) false true) W2 HE3.out.pr.size HSP.out HE3.out.j
                  dsimp only [encX] at hyy
                  gi_wp2_with fail
                  refine hR.mono ?_
                  rintro e C (⟨rfl, hJC, hSC⟩ | ⟨rfl, hJC, hSC⟩)
                  · have HE4 := Lib.hid (HE3.out.yield hJC hSC HOW.out hrW hMWle (trZ_corn HZC.out _ _))
                    have KN4 := Lib.hid ((hSC.block _ KN3.out.lt (fun e => by have := HOW.out _ e; omega)).trans KN3.out)
                    have KA4 := Lib.hid ((hSC.block _ KA3.out.lt (fun e => by have := HOW.out _ e; omega)).trans KA3.out)
                    clear hJC hSC hyy hR
                    gi_wp2_with fail
                    go_roundw
                    case rel =>
                      refine ⟨1 + 1, _, by omega, by go_num, HE4, KN4, KA4, Lib.hid HC.out.put, Lib.hid (fun z hz => ?_)⟩
                      rcases HLE.out z hz with h1 | h1 | h1
                      · exact .inl h1
                      · exact .inr (.inl h1)
                      · exact .inr (.inr (fun c d => List.mem_append_left _ (h1 c d)))
                    case measure => simp [intOf]
                  · have HPB := Lib.hid (HE3.out.pr.trans hSC)
                    have HJC := Lib.hid hJC
                    clear hJC hSC hyy hR
                    gi_wp2_with fail
                    refine bodyPost_ret (results_none rfl _ _ _) rfl ?_
                    exact ⟨⟨_, rfl⟩, HPB.out, .inr ⟨_, HSP.out, HJC.out⟩⟩
              · obtain rfl : m = 2 := by omega
                gi_wp2_with fail
                go_roundw
                case rel => exact ⟨0 + 1, pre, by omega, by go_num, HE, KN, Lib.hid HC.out.row, HLE⟩
                case measure => simp [intOf]
          · have hx0 := idxE1
            gi_wp2_with (gi_at_call 151; refine (callsIn_wide.2 (bothEnds_any _)).mono ?_; rintro e w2 ⟨rfl, y3, rfl⟩)
            clear hx0
            have hV : Below wr.heap.size wr (ext (wr.alloc (.cells #[.func (.func 196) #[] #[]] 152)) y3) := by (exact belA)
            have kA : Blk (ext (wr.alloc (.cells #[.func (.func 196) #[] #[]] 152)) y3) wr.heap.size 152 #[.func (.func 196) #[] #[]] := (Blk.new rfl).ext y3
            have HE2 := Lib.hid (HE.out.bel HJ.out hV)
            have KN2 := Lib.hid (KN.out.bel hV)
            have KA := Lib.hid kA
            have hgA : W.heap.size ≤ wr.heap.size := HE.out.pr.size
            clear hV kA HE KN
            generalize ext _ y3 = V3 at *
            generalize wr.heap.size = gA at *
            gi_loopw [21] (fun i wv => ∃ (k : Nat) (pre : List Tr), k ≤ 2 ∧ i = .int .i64 k ∧ Hid (ExI J O W r M 4 h p L (fun x_1 y_1 => left x_1 y_1 && !(decide (x_1 = x) && decide (y_1 = y))) cnt' pre wv) ∧ Hid (Blk wv gN 141 #[.int .i64 x, .int .i64 y]) ∧ Hid (Blk wv gA 152 #[.func (.func 196) #[] #[]]) ∧ Hid (CornIn h (x, y) pre 1 k) ∧ Hid (∀ z ∈ L, z = (x, y) ∨ (left z.1 z.2 && !(decide (z.1 = x) && decide (z.2 = y))) = true ∨ ∀ c d, trZ h z c d ∈ pre))
              (fun i _ => 2 - (intOf i).toNat)
            case atStart => exact ⟨0, pre, by omega, rfl, HE2, KN2, KA, HC, HLE⟩
            case round =>
              clear HE2 KN2 KA HC HLE
              obtain ⟨m, pre, hm, rfl, HE, KN, KA, HC, HLE⟩ := hrel
              by_cases hlt2 : m < 2
              · have hm01 : m = 0 ∨ m = 1 := by omega
                rcases hm01 with rfl | rfl
                · have hx0 := idxE0
                  gi_wp2_with fail
                  clear hx0
                  have hV : Below wr.heap.size wr (wr.alloc (.cells #[.func (.func 160) #[] #[]] 152)) := by (exact belA)
                  have kB : Blk (wr.alloc (.cells #[.func (.func 160) #[] #[]] 152)) wr.heap.size 152 #[.func (.func 160) #[] #[]] := Blk.new rfl
                  have HE2 := Lib.hid (HE.out.bel HJ.out hV)
                  have KN2 := Lib.hid (KN.out.bel hV)
                  have KA2 := Lib.hid (KA.out.bel hV)
                  have KB := Lib.hid kB
                  clear hV kB HE KN KA
                  generalize wr.alloc _ = V4 at *
                  generalize wr.heap.size = gB at *
                  have kH := HE2.out.hb
                  have hLA := HL.out.priv HW.out HE2.out.pr HO.out
                  refine wpIn_region_flow_back 13 41 (extR W.heap.size gN gA gB l (196) (160) h p x y true false) free_wide rfl (by kernel_rfl) (by kernel_rfl) rfl (extR_kept _ _ _ _ _ _ _ _ _ _ _ _ _) ?_ ?_
                  · intro i hin a2 X g1 g2 g3 g4 g5 KK hKK
                    have kX := kH.bel g5
                    match i, hin with
                    | 0, _ => exact st_move rfl rfl (wanted_none rfl) (g3 1 (by kernel_rfl)) (hKK _ _ rfl (Below.refl _ _))
                    | 1, _ => exact st_val rfl (wanted_none rfl) (run_lNet _ rfl (g3 4 (by kernel_rfl)) (KN2.out.bel g5)) (hKK _ _ rfl (Below.refl _ _))
                    | 2, _ => exact st_val rfl (wanted_none rfl) (run_lHl _ rfl (g3 2 (by kernel_rfl)) kX) (hKK _ _ rfl (Below.refl _ _))
                    | 3, _ => exact st_val rfl (wanted_none rfl) (run_lE1 _ rfl (g3 6 (by kernel_rfl)) (KA2.out.bel g5)) (hKK _ _ rfl (Below.refl _ _))
                    | 4, _ =>
                      refine st_call rfl rfl (wanted_none rfl) (sargs2 (g4 2 (by kernel_rfl)) (g4 3 (by kernel_rfl))) (run_enter Tryz.func123 (by kernel_rfl) (by kernel_rfl) _) ?_
                      refine (lets_any h p true _ (hLA.below g5) h6).mono ?_
                      rintro e w1 ⟨rfl, y, rfl⟩
                      exact ⟨_, rfl, hKK _ _ rfl (below_ext _ _)⟩
                    | 5, _ => exact st_val rfl (wanted_none rfl) (run_fEnd _ rfl (g3 8 (by kernel_rfl)) (KB.out.bel g5).lt) (hKK _ _ rfl (Below.refl _ _))
                    | 6, _ => exact st_val rfl (wanted_none rfl) (run_lEnd _ rfl (g4 5 (by kernel_rfl)) (((KB.out.bel g5).cell 0).trans rfl)) (hKK _ _ rfl (Below.refl _ _))
                    | 7, _ => exact st_val rfl (wanted_none rfl) (run_fHl0 _ rfl (g3 2 (by kernel_rfl)) kX.lt) (hKK _ _ rfl (Below.refl _ _))
                    | 8, _ => exact st_val rfl (wanted_none rfl) (run_fLows _ rfl (g4 7 (by kernel_rfl)) kX.lt) (hKK _ _ rfl (Below.refl _ _))
                    | 9, _ => exact st_val rfl (wanted_none rfl) (run_fGale _ rfl (g4 8 (by kernel_rfl)) kX.lt) (hKK _ _ rfl (Below.refl _ _))
                    | 10, _ => exact st_val rfl (wanted_none rfl) (run_lSpan _ rfl (g4 9 (by kernel_rfl)) ((kX.cell 5).trans rfl) ((kX.cell 6).trans rfl)) (hKK _ _ rfl (Below.refl _ _))
                    | 11, _ =>
                      refine st_callv rfl rfl (wanted_none rfl) (g4 6 (by kernel_rfl)) (sargsv1 (g4 10 (by kernel_rfl))) (run_enter Tryz.func160 (by kernel_rfl) (by kernel_rfl) _) ?_
                      refine (lowEnd1_any _ _ _).mono ?_
                      rintro e w1 ⟨rfl, y, rfl⟩
                      exact ⟨_, rfl, hKK _ _ rfl (below_ext _ _)⟩
                    | 12, _ => exact st_val rfl (wanted_none rfl) (run_bTruth (h := h) (c := true) (d := false) _ rfl (g4 1 (by kernel_rfl)) (g4 4 (by kernel_rfl)) (g4 11 (by kernel_rfl))) (hKK _ _ rfl (Below.refl _ _))
                    | k + 13, hk => omega
                  intro vs W2 hvs hBW
                  have v0 : vs 0 = _ := hvs 0 (by omega)
                  have v1 : vs 1 = _ := hvs 1 (by omega)
                  have v2 : vs 2 = _ := hvs 2 (by omega)
                  have v3 : vs 3 = _ := hvs 3 (by omega)
                  have v4 : vs 4 = _ := hvs 4 (by omega)
                  have v5 : vs 5 = _ := hvs 5 (by omega)
                  have v6 : vs 6 = _ := hvs 6 (by omega)
                  have v7 : vs 7 = _ := hvs 7 (by omega)
                  have v8 : vs 8 = _ := hvs 8 (by omega)
                  have v9 : vs 9 = _ := hvs 9 (by omega)
                  have v10 : vs 10 = _ := hvs 10 (by omega)
                  have v11 : vs 11 = _ := hvs 11 (by omega)
                  have v12 : vs 12 = _ := hvs 12 (by omega)
                  simp only [putAll, v0, v1, v2, v3, v4, v5, v6, v7, v8, v9, v10, v11, v12]
                  clear v0 v1 v2 v3 v4 v5 v6 v7 v8 v9 v10 v11 v12 hvs
                  simp only [dstOf, Act.put, List.getElem?_toArray, List.getElem?_cons_zero, List.getElem?_cons_succ, Option.bind_some, Option.getD_some, List.setIfInBounds_toArray, List.set_cons_succ, List.set_cons_zero, List.drop_succ_cons, List.drop_zero]
                  have HE3 := Lib.hid (HE2.out.bel HJ.out hBW)
                  have KN3 := Lib.hid (KN2.out.bel hBW)
                  have KA3 := Lib.hid (KA2.out.bel hBW)
                  clear HE2 KN2 KA2 KB hBW kH hLA
                  have HSP := Lib.hid (show ∀ t ∈ pre ++ [trZ h (x, y) true false], t ∈ corn h from fun t ht => by
                    rcases List.mem_append.1 ht with h1 | h1
                    · exact HE3.out.pm t h1
                    · rw [List.mem_singleton.1 h1]; exact trZ_corn HZC.out _ _)
                  obtain ⟨fn, tmps, assign, body, hyy, hR⟩ := HY.out _ pre (trZ h (x, y) true false) W2 HE3.out.pr.size HSP.out HE3.out.j
                  dsimp only [encX] at hyy
                  gi_wp2_with fail
                  refine hR.mono ?_
                  rintro e C (⟨rfl, hJC, hSC⟩ | ⟨rfl, hJC, hSC⟩)
                  · have HE4 := Lib.hid (HE3.out.yield hJC hSC HOW.out hrW hMWle (trZ_corn HZC.out _ _))
                    have KN4 := Lib.hid ((hSC.block _ KN3.out.lt (fun e => by have := HOW.out _ e; omega)).trans KN3.out)
                    have KA4 := Lib.hid ((hSC.block _ KA3.out.lt (fun e => by have := HOW.out _ e; omega)).trans KA3.out)
                    clear hJC hSC hyy hR
                    gi_wp2_with fail
                    go_roundw
                    case rel =>
                      refine ⟨0 + 1, _, by omega, by go_num, HE4, KN4, KA4, Lib.hid HC.out.put, Lib.hid (fun z hz => ?_)⟩
                      rcases HLE.out z hz with h1 | h1 | h1
                      · exact .inl h1
                      · exact .inr (.inl h1)
                      · exact .inr (.inr (fun c d => List.mem_append_left _ (h1 c d)))
                    case measure => simp [intOf]
                  · have HPB := Lib.hid (HE3.out.pr.trans hSC)
                    have HJC := Lib.hid hJC
                    clear hJC hSC hyy hR
                    gi_wp2_with fail
                    refine bodyPost_ret (results_none rfl _ _ _) rfl ?_
                    exact ⟨⟨_, rfl⟩, HPB.out, .inr ⟨_, HSP.out, HJC.out⟩⟩
                · have hx0 := idxE1
                  gi_wp2_with fail
                  clear hx0
                  have hV : Below wr.heap.size wr (wr.alloc (.cells #[.func (.func 196) #[] #[]] 152)) := by (exact belA)
                  have kB : Blk (wr.alloc (.cells #[.func (.func 196) #[] #[]] 152)) wr.heap.size 152 #[.func (.func 196) #[] #[]] := Blk.new rfl
                  have HE2 := Lib.hid (HE.out.bel HJ.out hV)
                  have KN2 := Lib.hid (KN.out.bel hV)
                  have KA2 := Lib.hid (KA.out.bel hV)
                  have KB := Lib.hid kB
                  clear hV kB HE KN KA
                  generalize wr.alloc _ = V4 at *
                  generalize wr.heap.size = gB at *
                  have kH := HE2.out.hb
                  have hLA := HL.out.priv HW.out HE2.out.pr HO.out
                  refine wpIn_region_flow_back 13 41 (extR W.heap.size gN gA gB l (196) (196) h p x y true true) free_wide rfl (by kernel_rfl) (by kernel_rfl) rfl (extR_kept _ _ _ _ _ _ _ _ _ _ _ _ _) ?_ ?_
                  · intro i hin a2 X g1 g2 g3 g4 g5 KK hKK
                    have kX := kH.bel g5
                    match i, hin with
                    | 0, _ => exact st_move rfl rfl (wanted_none rfl) (g3 1 (by kernel_rfl)) (hKK _ _ rfl (Below.refl _ _))
                    | 1, _ => exact st_val rfl (wanted_none rfl) (run_lNet _ rfl (g3 4 (by kernel_rfl)) (KN2.out.bel g5)) (hKK _ _ rfl (Below.refl _ _))
                    | 2, _ => exact st_val rfl (wanted_none rfl) (run_lHl _ rfl (g3 2 (by kernel_rfl)) kX) (hKK _ _ rfl (Below.refl _ _))
                    | 3, _ => exact st_val rfl (wanted_none rfl) (run_lE1 _ rfl (g3 6 (by kernel_rfl)) (KA2.out.bel g5)) (hKK _ _ rfl (Below.refl _ _))
                    | 4, _ =>
                      refine st_call rfl rfl (wanted_none rfl) (sargs2 (g4 2 (by kernel_rfl)) (g4 3 (by kernel_rfl))) (run_enter Tryz.func123 (by kernel_rfl) (by kernel_rfl) _) ?_
                      refine (lets_any h p true _ (hLA.below g5) h6).mono ?_
                      rintro e w1 ⟨rfl, y, rfl⟩
                      exact ⟨_, rfl, hKK _ _ rfl (below_ext _ _)⟩
                    | 5, _ => exact st_val rfl (wanted_none rfl) (run_fEnd _ rfl (g3 8 (by kernel_rfl)) (KB.out.bel g5).lt) (hKK _ _ rfl (Below.refl _ _))
                    | 6, _ => exact st_val rfl (wanted_none rfl) (run_lEnd _ rfl (g4 5 (by kernel_rfl)) (((KB.out.bel g5).cell 0).trans rfl)) (hKK _ _ rfl (Below.refl _ _))
                    | 7, _ => exact st_val rfl (wanted_none rfl) (run_fHl0 _ rfl (g3 2 (by kernel_rfl)) kX.lt) (hKK _ _ rfl (Below.refl _ _))
                    | 8, _ => exact st_val rfl (wanted_none rfl) (run_fLows _ rfl (g4 7 (by kernel_rfl)) kX.lt) (hKK _ _ rfl (Below.refl _ _))
                    | 9, _ => exact st_val rfl (wanted_none rfl) (run_fGale _ rfl (g4 8 (by kernel_rfl)) kX.lt) (hKK _ _ rfl (Below.refl _ _))
                    | 10, _ => exact st_val rfl (wanted_none rfl) (run_lSpan _ rfl (g4 9 (by kernel_rfl)) ((kX.cell 5).trans rfl) ((kX.cell 6).trans rfl)) (hKK _ _ rfl (Below.refl _ _))
                    | 11, _ =>
                      refine st_callv rfl rfl (wanted_none rfl) (g4 6 (by kernel_rfl)) (sargsv1 (g4 10 (by kernel_rfl))) (run_enter Tryz.func196 (by kernel_rfl) (by kernel_rfl) _) ?_
                      refine (highEnd1_any _ _ _).mono ?_
                      rintro e w1 ⟨rfl, y, rfl⟩
                      exact ⟨_, rfl, hKK _ _ rfl (below_ext _ _)⟩
                    | 12, _ => exact st_val rfl (wanted_none rfl) (run_bTruth (h := h) (c := true) (d := true) _ rfl (g4 1 (by kernel_rfl)) (g4 4 (by kernel_rfl)) (g4 11 (by kernel_rfl))) (hKK _ _ rfl (Below.refl _ _))
                    | k + 13, hk => omega
                  intro vs W2 hvs hBW
                  have v0 : vs 0 = _ := hvs 0 (by omega)
                  have v1 : vs 1 = _ := hvs 1 (by omega)
                  have v2 : vs 2 = _ := hvs 2 (by omega)
                  have v3 : vs 3 = _ := hvs 3 (by omega)
                  have v4 : vs 4 = _ := hvs 4 (by omega)
                  have v5 : vs 5 = _ := hvs 5 (by omega)
                  have v6 : vs 6 = _ := hvs 6 (by omega)
                  have v7 : vs 7 = _ := hvs 7 (by omega)
                  have v8 : vs 8 = _ := hvs 8 (by omega)
                  have v9 : vs 9 = _ := hvs 9 (by omega)
                  have v10 : vs 10 = _ := hvs 10 (by omega)
                  have v11 : vs 11 = _ := hvs 11 (by omega)
                  have v12 : vs 12 = _ := hvs 12 (by omega)
                  simp only [putAll, v0, v1, v2, v3, v4, v5, v6, v7, v8, v9, v10, v11, v12]
                  clear v0 v1 v2 v3 v4 v5 v6 v7 v8 v9 v10 v11 v12 hvs
                  simp only [dstOf, Act.put, List.getElem?_toArray, List.getElem?_cons_zero, List.getElem?_cons_succ, Option.bind_some, Option.getD_some, List.setIfInBounds_toArray, List.set_cons_succ, List.set_cons_zero, List.drop_succ_cons, List.drop_zero]
                  have HE3 := Lib.hid (HE2.out.bel HJ.out hBW)
                  have KN3 := Lib.hid (KN2.out.bel hBW)
                  have KA3 := Lib.hid (KA2.out.bel hBW)
                  clear HE2 KN2 KA2 KB hBW kH hLA
                  have HSP := Lib.hid (show ∀ t ∈ pre ++ [trZ h (x, y) true true], t ∈ corn h from fun t ht => by
                    rcases List.mem_append.1 ht with h1 | h1
                    · exact HE3.out.pm t h1
                    · rw [List.mem_singleton.1 h1]; exact trZ_corn HZC.out _ _)
                  obtain ⟨fn, tmps, assign, body, hyy, hR⟩ := HY.out _ pre (trZ h (x, y) true true) W2 HE3.out.pr.size HSP.out HE3.out.j
                  dsimp only [encX] at hyy
                  gi_wp2_with fail
                  refine hR.mono ?_
                  rintro e C (⟨rfl, hJC, hSC⟩ | ⟨rfl, hJC, hSC⟩)
                  · have HE4 := Lib.hid (HE3.out.yield hJC hSC HOW.out hrW hMWle (trZ_corn HZC.out _ _))
                    have KN4 := Lib.hid ((hSC.block _ KN3.out.lt (fun e => by have := HOW.out _ e; omega)).trans KN3.out)
                    have KA4 := Lib.hid ((hSC.block _ KA3.out.lt (fun e => by have := HOW.out _ e; omega)).trans KA3.out)
                    clear hJC hSC hyy hR
                    gi_wp2_with fail
                    go_roundw
                    case rel =>
                      refine ⟨1 + 1, _, by omega, by go_num, HE4, KN4, KA4, Lib.hid HC.out.put, Lib.hid (fun z hz => ?_)⟩
                      rcases HLE.out z hz with h1 | h1 | h1
                      · exact .inl h1
                      · exact .inr (.inl h1)
                      · exact .inr (.inr (fun c d => List.mem_append_left _ (h1 c d)))
                    case measure => simp [intOf]
                  · have HPB := Lib.hid (HE3.out.pr.trans hSC)
                    have HJC := Lib.hid hJC
                    clear hJC hSC hyy hR
                    gi_wp2_with fail
                    refine bodyPost_ret (results_none rfl _ _ _) rfl ?_
                    exact ⟨⟨_, rfl⟩, HPB.out, .inr ⟨_, HSP.out, HJC.out⟩⟩
              · obtain rfl : m = 2 := by omega
                gi_wp2_with fail
                go_roundw
                case rel => exact ⟨1 + 1, pre, by omega, by go_num, HE, KN, Lib.hid HC.out.row, HLE⟩
                case measure => simp [intOf]
        · obtain rfl : k = 2 := by omega
          gi_wp2_with fail
          go_roundw
          case rel =>
            refine ⟨_, cnt', pre, HE, Lib.hid (fun z hz => ?_)⟩
            rcases HLE.out z hz with rfl | h1 | h1
            · exact .inr HC.out.all
            · exact .inl h1
            · exact .inr h1
          case measure => rw [HE.out.it.left_eq]; exact HMEAS.out
end Go.Proofs.YtcaeohgbgeadaaaGreatDoor

