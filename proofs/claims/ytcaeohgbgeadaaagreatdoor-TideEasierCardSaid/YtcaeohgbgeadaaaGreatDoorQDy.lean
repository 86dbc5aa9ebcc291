/- Package tide: what is asked of a plan, at least and at most. -/
import Derived.Test.YtcaeohgbgeadaaaGreatDoorQDx
import Derived.Test.YtcaeohgbgeadaaaGreatDoorQSy
import Derived.Test.YtcaeohgbgeadaaaGreatDoorQFj
set_option linter.unusedSimpArgs false
set_option linter.unusedVariables false
namespace Go.Proofs.YtcaeohgbgeadaaaGreatDoor
open Go Go.RowKit Go.Shelf
/-- What is asked, as a function of what becomes of the fish. -/
def askF (k : Nat) : Nat := match k with
  | 0 => 112
  | 1 => 113
  | _ => 114
attribute [local go_sem] Oper.semAt_some frozen_alloc_lt
theorem eOut_any (a b c : Int) (w : World) : Calls Tryz.prog 112 #[.agg #[.int .i64 a, .int .i64 b, .int .i64 c]] w fun e w' => e = .returned (.int .i64 b) ∧ ∃ x, w' = ext w x := by
  go_enter Tryz.func112, Tryz.ntmps112
  go_wp2
  go_ret
  exact ⟨rfl, by (exact ext_of (by (exact belA)))⟩
theorem eLeft_any (a b c : Int) (w : World) : Calls Tryz.prog 114 #[.agg #[.int .i64 a, .int .i64 b, .int .i64 c]] w fun e w' => e = .returned (.int .i64 c) ∧ ∃ x, w' = ext w x := by
  go_enter Tryz.func114, Tryz.ntmps114
  go_wp2
  go_ret
  exact ⟨rfl, by (exact ext_of (by (exact belA)))⟩
theorem eLost_any (a b c : Int) (w : World) (h : 0 ≤ b ∧ b ≤ a ∧ a ≤ 1000) : Calls Tryz.prog 113 #[.agg #[.int .i64 a, .int .i64 b, .int .i64 c]] w fun e w' => e = .returned (.int .i64 (a - b)) ∧ ∃ x, w' = ext w x := by
  have hw : IntKind.i64.wrap (a - b) = a - b := IntWalk.i64_in _ (by omega)
  go_enter Tryz.func113, Tryz.ntmps113
  go_wp2
  go_ret
  exact ⟨by first | rfl | (rw [hw]), by (exact ext_of (by (exact belA)))⟩
theorem askF_any (k : Nat) (a b c : Int) (w : World) (h : 0 ≤ b ∧ b ≤ a ∧ a ≤ 1000) : Calls Tryz.prog (askF k) #[.agg #[.int .i64 a, .int .i64 b, .int .i64 c]] w fun e w' => e = .returned (.int .i64 (askN k (a, b, c))) ∧ ∃ x, w' = ext w x := by
  match k with
  | 0 => exact eOut_any a b c w
  | 1 => exact eLost_any a b c w h
  | k + 2 => exact eLeft_any a b c w
theorem askF_enter (k : Nat) (vs : Array Value) (w : World) : (callFunc (askF k) vs).run Tryz.prog w = .ok (.enter (askF k) vs) w := by
  match k with
  | 0 => exact run_enter Tryz.func112 (by kernel_rfl) (by kernel_rfl) _ _
  | 1 => exact run_enter Tryz.func113 (by kernel_rfl) (by kernel_rfl) _ _
  | k + 2 => exact run_enter Tryz.func114 (by kernel_rfl) (by kernel_rfl) _ _
abbrev tellC : Array Value := #[.func (.func 112) #[] #[], .func (.func 113) #[] #[], .func (.func 114) #[] #[]]
theorem tell_at {k : Nat} (hk : k < 3) : tellC[k]? = some (.func (.func (askF k)) #[] #[]) := by
  match k, hk with
  | 0, _ => rfl
  | 1, _ => rfl
  | 2, _ => rfl
  | k + 3, h => omega
section
variable {o : Oper} {w : World} {g j t s u : Nat} (ρ : Operand → Value)
theorem run_iTell {k : Nat} (hop : o.op = .indexAddr 138 (.tmp t) (.tmp s)) (hs : ρ (.tmp t) = .pointer (some ⟨g, 0, none⟩)) (hu : ρ (.tmp s) = .int .i64 k) (hk : k < 3) (hl : g < w.heap.size) : (execOp ρ o).run Tryz.prog w = .ok (.value (.pointer (some ⟨g, k, none⟩))) w := by
  have h0 : (0 : Int) ≤ (k : Int) := by omega
  have h1 : (k : Int) < 3 := by omega
  unfold execOp; simp [hop, hs, hu, go_sem, h0, h1, hl]
theorem run_lTell {x : Value} (hop : o.op = .load 134 (.tmp t)) (hs : ρ (.tmp t) = .pointer (some ⟨g, j, none⟩)) (c0 : w.cell? ⟨g, j, none⟩ = some x) : (execOp ρ o).run Tryz.prog w = .ok (.value x) w := by
  unfold execOp; simp [hop, hs, go_sem, c0]
theorem run_lLows {h : Hl} {p : Tp} (hop : o.op = .load 81 (.tmp t)) (hs : ρ (.tmp t) = .pointer (some ⟨g, 0, none⟩)) (k : Blk w g 87 (hlcs h p)) : (execOp ρ o).run Tryz.prog w = .ok (.value (tv h.b p)) w := by
  unfold hlcs at k
  obtain ⟨c0, c1, c2, c3, c4, c5, c6, c7, c8⟩ := Blk.c9 k
  unfold execOp tv; simp [hop, hs, go_sem, c0, c1, c2, c3, c4, c5, c6, c7, c8]
theorem run_lTruth {x : Tr} (hop : o.op = .load 145 (.tmp t)) (hs : ρ (.tmp t) = .pointer (some ⟨g, 0, none⟩)) (k : Blk w g 145 (trcs x)) : (execOp ρ o).run Tryz.prog w = .ok (.value (trv x)) w := by
  unfold trcs at k
  obtain ⟨c0, c1, c2, c3, c4, c5, c6, c7, c8⟩ := Blk.c9 k
  unfold execOp trv; simp [hop, hs, go_sem, c0, c1, c2, c3, c4, c5, c6, c7, c8]
theorem run_lPlan {x : Value} (hop : o.op = .load 30 (.tmp t)) (hs : ρ (.tmp t) = .pointer (some ⟨g, 0, none⟩)) (c0 : w.cell? ⟨g, 0, none⟩ = some x) : (execOp ρ o).run Tryz.prog w = .ok (.value x) w := by
  unfold execOp; simp [hop, hs, go_sem, c0]
theorem run_asg {x : Value} (hop : o.op = .assign (.tmp t)) (hs : ρ (.tmp t) = x) : (execOp ρ o).run Tryz.prog w = .ok (.value x) w := by
  unfold execOp; simp [hop, hs, go_sem]
end
/-- What region 5's operations leave. -/
def ansR (g3 g7 k : Nat) (h : Hl) (p : Tp) (t : Tr) (ps : Value) (a b c : Int) (i : Nat) (v : Value) (_w : World) : Prop :=
  match i with
  | 0 => v = .int .i64 k
  | 1 => v = .pointer (some ⟨g7, k, none⟩)
  | 2 => v = .func (.func (askF k)) #[] #[]
  | 3 => v = .pointer (some ⟨g3, 0, none⟩)
  | 4 => v = tv h.b p
  | 5 => v = trv t
  | 6 => v = ps
  | 7 => v = .agg #[.int .i64 a, .int .i64 b, .int .i64 c]
  | 8 => v = .int .i64 (askN k (a, b, c))
  | _ => True
theorem ansR_kept (g3 g7 k : Nat) (h : Hl) (p : Tp) (t : Tr) (ps : Value) (a b c : Int) : ∀ (i : Nat), i < 9 → ∀ (v : Value) (w w' : World), ansR g3 g7 k h p t ps a b c i v w → Below w.heap.size w w' → ansR g3 g7 k h p t ps a b c i v w' := by
  intro i hi v w w' h hb
  match i, hi with
  | 0, _ => exact h
  | 1, _ => exact h
  | 2, _ => exact h
  | 3, _ => exact h
  | 4, _ => exact h
  | 5, _ => exact h
  | 6, _ => exact h
  | 7, _ => exact h
  | 8, _ => exact h
  | k + 9, hk => omega
/-- The numbers of a truth at the ends. -/
theorem corn_ok {h : Hl} (k : h.OK) {t : Tr} (ht : t ∈ corn h) : t.OK ∧ h.b.now ≤ t.g ∧ t.h ≤ 400 := by
  obtain ⟨x, y, c, d, rfl⟩ := mem_corn.1 ht
  have b := btw_corn k x y c d
  have h1 := k.hd
  have h2 := k.rt
  have h3 := k.gl
  have h4 := b.x
  have h5 := b.y
  have h6 := b.g
  refine ⟨⟨?_, ?_, fun i => ?_, ?_⟩, ?_, ?_⟩
  · show 0 ≤ endN x h.hl h.hh ∧ endN x h.hl h.hh ≤ 1000; omega
  · show 0 ≤ endN y h.rl h.rh ∧ endN y h.rl h.rh ≤ 1000; omega
  · have : ∃ j, (trOf h x y c d).room i = roomT h.b.ts c j := by
      match i with
      | 0 => exact ⟨0, rfl⟩
      | 1 => exact ⟨1, rfl⟩
      | 2 => exact ⟨2, rfl⟩
      | 3 => exact ⟨3, rfl⟩
      | 4 => exact ⟨4, rfl⟩
      | i + 5 => exact ⟨5, rfl⟩
    obtain ⟨j, hj⟩ := this
    have := k.room c j
    rw [hj]; omega
  · show endN d h.b.glo h.b.ghi ≤ 100; omega
  · show h.b.now ≤ endN d h.b.glo h.b.ghi; omega
  · show endN x h.hl h.hh ≤ 400; omega
theorem endS_bd {h : Hl} (k : h.OK) {t : Tr} (ht : t ∈ corn h) {pl : List Int} (ho : ordT h.b.ts h.b.now pl) : 0 ≤ (endS h.b t pl).2.1 ∧ (endS h.b t pl).2.1 ≤ (endS h.b t pl).1 ∧ (endS h.b t pl).1 ≤ 400 ∧ 0 ≤ (endS h.b t pl).2.2 := by
  obtain ⟨k1, k2, k3⟩ := corn_ok k ht
  rw [endS_run]
  have := runS_bd (ts := h.b.ts) (room := t.room) (g := t.g) (fun i => (k1.rm i).1) k1.r.1 pl t.h h.b.now 0 k1.h.1 ho
  dsimp only; omega
set_option maxRecDepth 100000 in
set_option maxHeartbeats 8000000 in
theorem answer_any (h : Hl) (p : Tp) (k : Nat) (pp : Option Addr) (pc : Nat) (pl : List Int) (w : World) (hk : h.OK) (hq : k < 3) (hl : LowsAt w p.tp h.b.ts) (hp : IntsAt w pp pl) (hlen : pl.length ≤ 1000) (ho : ordT h.b.ts h.b.now pl) :
    Calls Tryz.prog 67 #[hlv h p, .int .i64 k, .slice pp pl.length pc] w fun e w' => e = .returned (.agg #[.int .i64 (ansLo h k pl), .int .i64 (ansHi h k pl)]) ∧ ∃ x, w' = ext w x := by
  have HK := Lib.hid hk
  have HL := Lib.hid hl
  have HP := Lib.hid hp
  have HO := Lib.hid ho
  have hl0 := hl
  clear hk hl hp ho
  unfold hlv
  refine (callsIn_wide (n := 9)).1 ?_
  refine callsIn_of_wp_marks Tryz.func67 rfl trivial ?_ rfl
  simp only [Tryz.ntmps67, List.size_toArray, List.length_cons, List.length_nil, Nat.reduceAdd, Nat.reduceSub, Array.replicate_succ, Array.replicate_zero, List.push_toArray, List.append_toArray, List.nil_append, List.cons_append]
  refine wpIn_wide.2 ?_
  go_upto_region 3 with fail
  generalize hW0 : World.alloc _ _ = W0
  have hB0 : Below w.heap.size w W0 := by rw [← hW0]; (exact belA)
  have hz0 : W0.heap.size = w.heap.size + 6 := by rw [← hW0]; simp
  have k3 : Blk W0 w.heap.size 87 (hlcs h p) := by rw [← hW0]; exact (((((Blk.new rfl).alloc _).alloc _).alloc _).alloc _).alloc _
  have k4 : Blk W0 (w.heap.size + 1) 3 #[.int .i64 k] := by rw [← hW0]; exact ((((Blk.new (by simp)).alloc _).alloc _).alloc _).alloc _
  have k5 : Blk W0 (w.heap.size + 1 + 1) 30 #[.slice pp pl.length pc] := by rw [← hW0]; exact (((Blk.new (by simp)).alloc _).alloc _).alloc _
  have k6 : Blk W0 (w.heap.size + 1 + 1 + 1) 23 #[.int .i64 0, .int .i64 0] := by rw [← hW0]; exact ((Blk.new (by simp)).alloc _).alloc _
  have k7 : Blk W0 (w.heap.size + 1 + 1 + 1 + 1) 138 tellC := by rw [← hW0]; exact (Blk.new (by simp)).alloc _
  have k8 : Blk W0 (w.heap.size + 1 + 1 + 1 + 1 + 1) 23 #[.int .i64 (minG (fun t => askN k (endS h.b t pl)) 400 []), .int .i64 (maxG (fun t => askN k (endS h.b t pl)) 0 [])] := by rw [← hW0]; exact Blk.new (by simp)
  have HB0 := Lib.hid hB0
  have K3 := Lib.hid k3
  have K4 := Lib.hid k4
  have K5 := Lib.hid k5
  have K6 := Lib.hid k6
  have K7 := Lib.hid k7
  have K8 := Lib.hid k8
  have o4 : w.heap.size < w.heap.size + 1 := by omega
  have o5 : w.heap.size + 1 < w.heap.size + 1 + 1 := by omega
  have o6 : w.heap.size + 1 + 1 < w.heap.size + 1 + 1 + 1 := by omega
  have o7 : w.heap.size + 1 + 1 + 1 < w.heap.size + 1 + 1 + 1 + 1 := by omega
  have o8 : w.heap.size + 1 + 1 + 1 + 1 < w.heap.size + 1 + 1 + 1 + 1 + 1 := by omega
  have o9 : w.heap.size + 1 + 1 + 1 + 1 + 1 < W0.heap.size := by omega
  clear hW0 hB0 k3 k4 k5 k6 k7 k8 hz0
  generalize w.heap.size + 1 + 1 + 1 + 1 + 1 = g8 at *
  generalize w.heap.size + 1 + 1 + 1 + 1 = g7 at *
  generalize w.heap.size + 1 + 1 + 1 = g6 at *
  generalize w.heap.size + 1 + 1 = g5 at *
  generalize w.heap.size + 1 = g4 at *
  have hseq := extremes_in h p HK.out (fun j => j = g8 ∨ j = W0.heap.size + 1) w hl0 (fun j hj => by omega)
  have k3 := K3.out
  unfold hlcs at k3
  obtain ⟨c0, c1, c2, c3, c4, c5, c6, c7, c8, c9, c10, c11, c12⟩ := Blk.c13 k3
  have l3 := k3.lt
  clear k3 hl0
  go_wp2_with fail
  clear c0 c1 c2 c3 c4 c5 c6 c7 c8 c9 c10 c11 c12 l3
  refine (wpIn_wide (n := 9)).1 ?_
  refine wpIn_rangeFunc_0 (gf := 115) (fb := #[hlv h p]) (lb := #[]) rfl (enters_of Tryz.func115 (by kernel_rfl) rfl)
    (fun j => j = g8) (fun j hj => by omega) hseq HB0.out (fun _ => rfl)
    (fun pre A => Below w.heap.size w A ∧ Blk A w.heap.size 87 (hlcs h p) ∧ Blk A g4 3 #[.int .i64 k] ∧ Blk A g5 30 #[.slice pp pl.length pc] ∧ Blk A g6 23 #[.int .i64 0, .int .i64 0] ∧ Blk A g7 138 tellC ∧ Blk A g8 23 #[.int .i64 (minG (fun t => askN k (endS h.b t pl)) 400 pre), .int .i64 (maxG (fun t => askN k (endS h.b t pl)) 0 pre)])
    (fun c pre A => False)
    (fun pre z a' A => ∃ (gT : Nat) (u10 : Value), W0.heap.size + 2 ≤ gT ∧ Blk A gT 145 (trcs z) ∧ a' = { tmps := #[.agg #[.int .i64 h.b.q.lo, .int .i64 h.b.q.hi, .slice p.np h.b.q.ns.length p.nc, .int .i64 h.b.now, .slice p.tp h.b.ts.length p.tc, .int .i64 h.b.glo, .int .i64 h.b.ghi, .int .i64 h.b.most, .int .i64 h.b.rest, .int .i64 h.hl, .int .i64 h.hh, .int .i64 h.rl, .int .i64 h.rh], .int .i64 k, .slice pp pl.length pc, .pointer (some ⟨w.heap.size, 0, none⟩), .pointer (some ⟨g4, 0, none⟩), .pointer (some ⟨g5, 0, none⟩), .pointer (some ⟨g6, 0, none⟩), .pointer (some ⟨g7, 0, none⟩), .pointer (some ⟨g8, 0, none⟩), .pointer (some ⟨gT, 0, none⟩), u10, .agg tellC, .agg #[.int .i64 400, .int .i64 0], .agg #[.int .i64 h.b.q.lo, .int .i64 h.b.q.hi, .slice p.np h.b.q.ns.length p.nc, .int .i64 h.b.now, .slice p.tp h.b.ts.length p.tc, .int .i64 h.b.glo, .int .i64 h.b.ghi, .int .i64 h.b.most, .int .i64 h.b.rest, .int .i64 h.hl, .int .i64 h.hh, .int .i64 h.rl, .int .i64 h.rh], .func (.func 115) #[.agg #[.int .i64 h.b.q.lo, .int .i64 h.b.q.hi, .slice p.np h.b.q.ns.length p.nc, .int .i64 h.b.now, .slice p.tp h.b.ts.length p.tc, .int .i64 h.b.glo, .int .i64 h.b.ghi, .int .i64 h.b.most, .int .i64 h.b.rest, .int .i64 h.hl, .int .i64 h.hh, .int .i64 h.rl, .int .i64 h.rh]] #[], trv z, undef, undef, undef, undef, undef, undef, undef, undef, undef, undef, undef, undef, undef, undef, undef, undef, undef, undef, undef, undef, undef], defers := [] })
    ?hI ?hIx ?hAx ?h0 ?hassign ?hbody ?hdone ?hstop
  case hI =>
    rintro pre A C ⟨j0, j1, j2, j3, j4, j5, j6⟩ hz hp
    exact ⟨j0.trans (hp.mono (by omega)), (hp.block _ (by omega)).trans j1, (hp.block _ (by omega)).trans j2, (hp.block _ (by omega)).trans j3, (hp.block _ (by omega)).trans j4, (hp.block _ (by omega)).trans j5, (hp.block _ (by omega)).trans j6⟩
  case hIx => rintro c pre A C h; exact h.elim
  case hAx =>
    rintro pre z a' A C ⟨g, u10, h1, h2, rfl⟩ hp
    exact ⟨g, u10, h1, (hp.block _ h2.lt (by omega)).trans h2, rfl⟩
  case h0 =>
    intro W6 hb6
    exact ⟨HB0.out.trans (hb6.mono (by omega)), (hb6.block _ (by omega)).trans K3.out, (hb6.block _ (by omega)).trans K4.out, (hb6.block _ (by omega)).trans K5.out, (hb6.block _ (by omega)).trans K6.out, (hb6.block _ (by omega)).trans K7.out, (hb6.block _ (by omega)).trans K8.out⟩
  case hassign =>
    intro m l' pre z W' hz hsp hi'
    clear hseq
    dsimp only [encX, trv]
    gi_wp2_with fail
    exact ⟨⟨W'.heap.size, _, hz, Blk.new rfl, rfl⟩, by (exact belA)⟩
  case hbody =>
    rintro m l' pre z a' W' hz hpx ⟨j0, j1, j2, j3, j4, j5, j6⟩ ⟨gT, u10, hgz, hbg, rfl⟩
    have hzc := hpx z (by simp)
    have hmn := minG_snoc (fun t => askN k (endS h.b t pl)) 400 pre z
    have hmx := maxG_snoc (fun t => askN k (endS h.b t pl)) 0 pre z
    generalize minG (fun t => askN k (endS h.b t pl)) 400 pre = mn at *
    generalize maxG (fun t => askN k (endS h.b t pl)) 0 pre = mx at *
    obtain ⟨zk, zg, z400⟩ := corn_ok HK.out hzc
    have zb := endS_bd HK.out hzc HO.out
    obtain ⟨⟨ea, eb, ec⟩, he⟩ : ∃ e, endS h.b z pl = e := ⟨_, rfl⟩
    rw [he] at zb
    dsimp only at hmn hmx zb
    rw [he] at hmn hmx
    have HE := Lib.hid he
    have HZK := Lib.hid zk
    have J0 := Lib.hid j0
    have J1 := Lib.hid j1
    have J2 := Lib.hid j2
    have J3 := Lib.hid j3
    have J4 := Lib.hid j4
    have J5 := Lib.hid j5
    have J6 := Lib.hid j6
    have KT := Lib.hid hbg
    clear hseq j0 j1 j2 j3 j4 j5 j6 hbg hpx he zk
    have hnow := HK.out.nw
    have hln := HK.out.ln
    gi_wp2_with fail
    refine wpIn_region_flow_back 9 37 (ansR w.heap.size g7 k h p z (.slice pp pl.length pc) ea eb ec) (free_round l') rfl (by kernel_rfl) (by kernel_rfl) rfl (ansR_kept _ _ _ _ _ _ _ _ _ _) ?_ ?_
    · intro i hin a2 X g1 g2 q3 q4 q5 KK hKK
      match i, hin with
      | 0, _ => exact st_val rfl (wanted_none rfl) (run_num _ rfl (q3 4 (by kernel_rfl)) (((J2.out.bel q5).cell 0).trans rfl)) (hKK _ _ rfl (Below.refl _ _))
      | 1, _ => exact st_val rfl (wanted_none rfl) (run_iTell _ rfl (q3 7 (by kernel_rfl)) (q4 0 (by kernel_rfl)) hq (J5.out.bel q5).lt) (hKK _ _ rfl (Below.refl _ _))
      | 2, _ => exact st_val rfl (wanted_none rfl) (run_lTell _ rfl (q4 1 (by kernel_rfl)) (((J5.out.bel q5).cell k).trans (tell_at hq))) (hKK _ _ rfl (Below.refl _ _))
      | 3, _ => exact st_val rfl (wanted_none rfl) (run_fHl0 _ rfl (q3 3 (by kernel_rfl)) (J1.out.bel q5).lt) (hKK _ _ rfl (Below.refl _ _))
      | 4, _ => exact st_val rfl (wanted_none rfl) (run_lLows _ rfl (q4 3 (by kernel_rfl)) (J1.out.bel q5)) (hKK _ _ rfl (Below.refl _ _))
      | 5, _ => exact st_val rfl (wanted_none rfl) (run_lTruth _ rfl (q3 9 (by kernel_rfl)) (KT.out.bel q5)) (hKK _ _ rfl (Below.refl _ _))
      | 6, _ => exact st_val rfl (wanted_none rfl) (run_lPlan _ rfl (q3 5 (by kernel_rfl)) (((J3.out.bel q5).cell 0).trans rfl)) (hKK _ _ rfl (Below.refl _ _))
      | 7, _ =>
        refine st_call rfl rfl (wanted_none rfl) (sargs3 (q4 4 (by kernel_rfl)) (q4 5 (by kernel_rfl)) (q4 6 (by kernel_rfl))) (run_enter Tryz.func116 (by kernel_rfl) (by kernel_rfl) _) ?_
        have hBX := J0.out.trans (q5.mono J0.out.size)
        refine (ending_any h.b p z pp pc pl _ (HL.out.below hBX) (HP.out.below hBX) ⟨hnow.1, zg⟩ hln hlen HO.out HZK.out).mono ?_
        rw [HE.out]
        rintro e w1 ⟨rfl, y, rfl⟩
        exact ⟨_, rfl, hKK _ _ rfl (below_ext _ _)⟩
      | 8, _ =>
        refine st_callv rfl rfl (wanted_none rfl) (q4 2 (by kernel_rfl)) (sargsv1 (q4 7 (by kernel_rfl))) (askF_enter k _) ?_
        refine (askF_any k ea eb ec _ ⟨zb.1, zb.2.1, by omega⟩).mono ?_
        rintro e w1 ⟨rfl, y, rfl⟩
        exact ⟨_, rfl, hKK _ _ rfl (below_ext _ _)⟩
      | k + 9, hk => omega
    intro vs W2 hvs hBW
    have v0 : vs 0 = _ := hvs 0 (by omega)
    have v1 : vs 1 = _ := hvs 1 (by omega)
    have v2 : vs 2 = _ := hvs 2 (by omega)
    have v3 : vs 3 = _ := hvs 3 (by omega)
    have v4 : vs 4 = _ := hvs 4 (by omega)
    have v5 : vs 5 = _ := hvs 5 (by omega)
    have v6 : vs 6 = _ := hvs 6 (by omega)
    have v7 : vs 7 = _ := hvs 7 (by omega)
    have v8 : vs 8 = _ := hvs 8 (by omega)
    simp only [putAll, v0, v1, v2, v3, v4, v5, v6, v7, v8]
    clear v0 v1 v2 v3 v4 v5 v6 v7 v8 hvs
    simp only [dstOf, Act.put, List.getElem?_toArray, List.getElem?_cons_zero, List.getElem?_cons_succ, Option.bind_some, Option.getD_some, List.setIfInBounds_toArray, List.set_cons_succ, List.set_cons_zero, List.drop_succ_cons, List.drop_zero]
    have hB2 := J0.out.trans (hBW.mono J0.out.size)
    have j6 := J6.out.bel hBW
    have HB2 := Lib.hid hB2
    have HBW := Lib.hid hBW
    obtain ⟨e0, e1⟩ := Blk.c2 j6
    obtain ⟨f0, f1⟩ := Blk.f2 j6
    have l8 := j6.lt
    have J6' := Lib.hid j6
    clear hB2 hBW j6
    obtain ⟨n9, hn9⟩ : ∃ n, askN k (ea, eb, ec) = n := ⟨_, rfl⟩
    rw [hn9] at hmn hmx ⊢
    unfold tv trv
    have l8' : g8 < w.heap.size + W2.heap.size + 1 := by omega
    gi_wp2_with (gi_at_call 117; refine (CallsIn.inRound _ (callsIn_wide.2 (least_oneT mn _ _ _ (Blk.new rfl)))).mono ?_; rintro e w3 ⟨rfl, y2, hw3⟩; have HW3 := Lib.hid (show Below W2.heap.size W2 w3 by rw [hw3]; (exact belA)); have J7 := Lib.hid (J6'.out.bel HW3.out); clear e0 e1 f0 f1 l8 hw3; have j7 := J7.out; obtain ⟨e0, e1⟩ := Blk.c2 j7; obtain ⟨f0, f1⟩ := Blk.f2 j7; have l8 := j7.lt; clear j7)
    all_goals
      have HB3 := HBW.out.trans (HW3.out.mono HBW.out.size)
      have o3 := o4
      refine ⟨privM_set (O := fun j => j = g8) (privM_set (O := fun j => j = g8) (PrivM.of_below HB3) rfl _ _) rfl _ _, ((J0.out.trans (HB3.mono J0.out.size)).setCell (by dsimp only; omega) _).setCell (by dsimp only; omega) _, ((J1.out.bel HB3).setOther (by omega) _ _).setOther (by omega) _ _, ((J2.out.bel HB3).setOther (by omega) _ _).setOther (by omega) _ _, ((J3.out.bel HB3).setOther (by omega) _ _).setOther (by omega) _ _, ((J4.out.bel HB3).setOther (by omega) _ _).setOther (by omega) _ _, ((J5.out.bel HB3).setOther (by omega) _ _).setOther (by omega) _ _, ?_⟩
      have hfin := J7.out.set2 (.int .i64 (min mn n9)) (.int .i64 (max mx n9))
      rw [hmn, hmx]
      first
        | (rw [show max mx n9 = n9 by omega] at hfin ⊢; exact hfin)
        | (rw [show max mx n9 = mx by omega] at hfin ⊢; exact hfin)
  case hdone =>
    rintro D xs W' rfl hz hS ⟨j0, -, -, -, j4, -, j6⟩ hp hD'
    rw [minG_congr _ _ hS, maxG_congr _ _ hS] at j6
    obtain ⟨mn, hmn⟩ : ∃ m, ansLo h k pl = m := ⟨_, rfl⟩
    obtain ⟨mx, hmx⟩ : ∃ m, ansHi h k pl = m := ⟨_, rfl⟩
    have j6 : Blk W' g8 23 #[.int .i64 mn, .int .i64 mx] := by rw [← hmn, ← hmx]; exact j6
    have HMN := Lib.hid hmn
    have HMX := Lib.hid hmx
    clear hmn hmx
    have J4 := Lib.hid j4
    obtain ⟨e0, e1⟩ := Blk.c2 j6
    obtain ⟨r0, r1⟩ := Blk.c2 j4
    obtain ⟨f0, f1⟩ := Blk.f2 j4
    have l1 := j6.lt
    have l2 := j4.lt
    have J0 := Lib.hid j0
    have HD := Lib.hid hD'
    clear j4 j6 j0 hp hD' hseq hS
    gi_wp2_with fail
    go_wp2_with fail
    have hF := J4.out.set2 (.int .i64 mn) (.int .i64 mx)
    have hBF := (J0.out.setCell (p := ⟨g6, 0, none⟩) (by dsimp only; omega) (.int .i64 mn)).setCell (p := ⟨g6, 1, none⟩) (by dsimp only; omega) (.int .i64 mx)
    have hDF : ((W'.setCell ⟨g6, 0, none⟩ (.int .i64 mn)).setCell ⟨g6, 1, none⟩ (.int .i64 mx)).heap[W0.heap.size]? = some (.deferred (some [])) :=
      (Below.heap_setCell _ _ _ _ (by dsimp only; omega)).trans ((Below.heap_setCell _ _ _ _ (by dsimp only; omega)).trans HD.out)
    generalize (W'.setCell ⟨g6, 0, none⟩ (.int .i64 mn)).setCell ⟨g6, 1, none⟩ (.int .i64 mx) = F at *
    refine ⟨by simp, .inl ⟨_, _, rfl, run_takeDeferred hDF, ?_⟩⟩
    have hG : Blk (F.putObj W0.heap.size (.deferred none)) g6 23 #[.int .i64 mn, .int .i64 mx] := (World.putObj_heap_other (by omega)).trans hF
    obtain ⟨t0, t1⟩ := Blk.c2 hG
    refine ⟨.agg #[.int .i64 mn, .int .i64 mx], ?_, by rw [HMN.out, HMX.out], ext_of ?_⟩
    · simp [results, Tryz.results67, go_sem, t0, t1]
    · exact hBF.trans (below_putObj _ (by omega) _)
  case hstop =>
    rintro D c pre W' rfl hz hSp h hp hD'
    exact h.elim
end Go.Proofs.YtcaeohgbgeadaaaGreatDoor

