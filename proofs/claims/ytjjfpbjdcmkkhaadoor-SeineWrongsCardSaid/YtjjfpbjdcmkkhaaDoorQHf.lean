/- The reference: through. -/
/- The reference: what through tells, as paths; right. -/
import Derived.Test.YtjjfpbjdcmkkhaaDoorQHc
import Derived.Test.YtjjfpbjdcmkkhaaDoorQFa
import Derived.Test.YtjjfpbjdcmkkhaaDoorQPa
set_option linter.unusedSimpArgs false
set_option linter.unusedVariables false
namespace Go.Proofs.YtjjfpbjdcmkkhaaDoor
open Go Go.RowKit Go.Shelf
/-- A state leads, through notes, from an hour on, to a state behind them. -/
def Leads : Int → List Nt → Int × Int → Int × Int → Prop
  | _, [], x, z => z = x
  | fr, s :: ns, x, z => ∃ y, y ∈ behL s (aftS x (s.hour - fr)) ∧ Leads s.hour ns y z
/-- The hour of the last of some notes. -/
def endH : Int → List Nt → Int
  | fr, [] => fr
  | _, s :: ns => endH s.hour ns
def StR (n : Int) (st : Int × Int) : Prop := (0 ≤ st.1 ∧ st.1 ≤ 400) ∧ 0 ≤ st.2 ∧ st.2 ≤ n
theorem NotedP.step {s : Nt} {ns : List Nt} {fr : Int} {cur out : List (Int × Int)} (h : NotedP s (s.hour - fr) cur out) (z : Int × Int) : (∃ x ∈ cur, Leads fr (s :: ns) x z) ↔ ∃ y ∈ out, Leads s.hour ns y z := by
  constructor
  · rintro ⟨x, hx, y, hy, hz⟩
    exact ⟨y, (h.1 y).2 ⟨x, hx, hy⟩, hz⟩
  · rintro ⟨y, hy, hz⟩
    obtain ⟨x, hx, hy⟩ := (h.1 y).1 hy
    exact ⟨x, hx, y, hy, hz⟩
theorem NotedP.bd {s : Nt} {dt n : Int} {cur out : List (Int × Int)} (h : NotedP s dt cur out) (hk : 0 ≤ s.kind ∧ s.kind ≤ 4) (hs : SpanOK s.lo s.hi (mostOf s.kind)) (hc : ∀ x ∈ cur, StR n x) : ∀ z ∈ out, StR (n + 9) z := by
  intro z hz
  obtain ⟨x, hx, hy⟩ := (h.1 z).1 hz
  obtain ⟨h1, h2, h3⟩ := hc x hx
  have h4 := aftS_bd (n := dt) h1 h2
  have h5 := behL_bd hk hs h4.1.1 (by rw [h4.2]; exact h2) hy
  rw [h4.2] at h5
  exact ⟨by omega, by omega, by omega⟩
section
variable {o : Oper} {w : World} (ρ : Operand → Value)
theorem run_atNtR {g j s u n c k : Nat} (hop : o.op = .indexAddr 24 (.tmp s) (.tmp u)) (h1 : ρ (.tmp s) = .slice (some ⟨g, j, none⟩) n c) (h2 : ρ (.tmp u) = .int .i64 k) (hk : k < n) (hl : g < w.heap.size) :
    (execOp ρ o).run Tryd.prog w = .ok (.value (.pointer (some ⟨g, j + k * 4, none⟩))) w := by
  have k0 : (0 : Int) ≤ (k : Int) := by omega
  have k1 : (k : Int) < (n : Int) := by omega
  unfold execOp
  simp [hop, h1, h2, go_sem, hl, k0, k1]
theorem run_lNtR {g j s : Nat} {a b c d : Int} (hop : o.op = .load 38 (.tmp s)) (hs : ρ (.tmp s) = .pointer (some ⟨g, j, none⟩)) (k0 : w.cell? ⟨g, j, none⟩ = some (.int .i64 a)) (k1 : w.cell? ⟨g, j + 1, none⟩ = some (.int .i64 b)) (k2 : w.cell? ⟨g, j + 2, none⟩ = some (.int .i64 c)) (k3 : w.cell? ⟨g, j + 3, none⟩ = some (.int .i64 d)) :
    (execOp ρ o).run Tryd.prog w = .ok (.value (.agg #[.int .i64 a, .int .i64 b, .int .i64 c, .int .i64 d])) w := by
  unfold execOp
  simp [hop, hs, go_sem, k0, k1, k2, k3]
theorem run_fNtR {g j t : Nat} (hop : o.op = .fieldAddr 38 (.tmp t) 1) (hs : ρ (.tmp t) = .pointer (some ⟨g, j, none⟩)) (hl : g < w.heap.size) : (execOp ρ o).run Tryd.prog w = .ok (.value (.pointer (some ⟨g, j + 1, none⟩))) w := by
  unfold execOp; simp [hop, hs, go_sem, hl]
end
theorem st_asgR {P : Program} {ops : Array Oper} {Q : Exit → Act → World → Prop} {i : Nat} {o : Oper} {K : Act → World → Prop} {a : Act} {w : World} {s : Nat} {v : Value} (h : ops[i]? = some o) (hop : o.op = .assign (.tmp s)) (hw : Region.wanted o (yielded ops a.tmps) = true) (hs : a.tmps.getD s undef = v) (hK : K (a.put o.dst v) w) : wpOp P ops Q i K a w := by
  refine st_val h hw ?_ hK
  unfold execOp
  simp only [hop, Act.eval, hs, Sem.run_pure]
/-- What the operations of a round of through leave. -/
def thrR (W0 : Nat) (v : Value) (fr : Int) (p2 : Option Addr) (n2 c2 k bl ol : Nat) (s : Nt) (cur : List (Int × Int)) (i : Nat) (u : Value) (w : World) : Prop :=
  match i with
  | 0 => u = v
  | 1 => u = .int .i64 fr
  | 2 => u = .slice p2 n2 c2
  | 3 => u = .int .i64 k
  | 4 => u = .pointer (some ⟨bl, ol + k * 4, none⟩)
  | 5 => u = .agg #[.int .i64 s.kind, .int .i64 s.hour, .int .i64 s.lo, .int .i64 s.hi]
  | 6 => ∃ out, OwnRs w W0 u out ∧ NotedP s (s.hour - fr) cur out
  | 7 => u = .slice p2 n2 c2
  | 8 => u = .int .i64 k
  | 9 => u = .pointer (some ⟨bl, ol + k * 4, none⟩)
  | 10 => u = .pointer (some ⟨bl, ol + k * 4 + 1, none⟩)
  | 11 => u = .int .i64 s.hour
  | 12 => ∃ out, OwnRs w W0 u out ∧ NotedP s (s.hour - fr) cur out
  | _ => True
/-- What holds among them. -/
def thrS (w0 : World) (v : Value) (f : Nat → Bool) (a : Act) (w : World) : Prop := Below w0.heap.size w0 w ∧ (f 12 = false → a.tmps.getD 0 undef = v)
theorem thrS.next {w0 : World} {v : Value} {f : Nat → Bool} {a : Act} {w w' : World} (h : thrS w0 v f a w) {i d : Nat} (hi : 12 ≠ i) (hd : d ≠ 0) (u : Value) (hb : Below w.heap.size w w') : thrS w0 v (updF f i) (a.put (some d) u) w' :=
  ⟨h.1.trans (hb.mono h.1.size), fun e => by
    rw [updF_ne hi] at e
    rw [← h.2 e]
    simp only [Act.put, Array.getD_eq_getD_getElem?, Array.getElem?_setIfInBounds, if_neg hd]⟩
theorem thrR_kept (W0 : Nat) (v : Value) (fr : Int) (p2 : Option Addr) (n2 c2 k bl ol : Nat) (s : Nt) (cur : List (Int × Int)) : ∀ i, i < 13 → ∀ (u : Value) (w w' : World), thrR W0 v fr p2 n2 c2 k bl ol s cur i u w → Below w.heap.size w w' → thrR W0 v fr p2 n2 c2 k bl ol s cur i u w' := by
  intro i hi u w w' h hb
  match i, hi, h with
  | 0, _, h => exact h
  | 1, _, h => exact h
  | 2, _, h => exact h
  | 3, _, h => exact h
  | 4, _, h => exact h
  | 5, _, h => exact h
  | 6, _, h => obtain ⟨out, h1, h2⟩ := h; exact ⟨out, h1.below hb, h2⟩
  | 7, _, h => exact h
  | 8, _, h => exact h
  | 9, _, h => exact h
  | 10, _, h => exact h
  | 11, _, h => exact h
  | 12, _, h => obtain ⟨out, h1, h2⟩ := h; exact ⟨out, h1.below hb, h2⟩
  | k + 13, hk, _ => omega
attribute [local go_sem] Oper.semAt_some frozen_alloc_lt
set_option maxRecDepth 100000 in
set_option maxHeartbeats 8000000 in
theorem through_r (l : List (Int × Int)) (p : Option Addr) (c : Nat) (fr : Int) (ns : List Nt) (p2 : Option Addr) (c2 : Nat) (k0 : Nat) (w : World) (hl : RsAt w p l) (hst : ∀ st ∈ l, StR (9 * (k0 : Int)) st) (hn : l.length * 13 ^ ns.length ≤ 8000000000000) (hfr : 0 ≤ fr ∧ fr ≤ 60) (hns : NotesAt w p2 ns) (hch : chainN fr ns = true) (hk : k0 + ns.length ≤ 9) :
    Calls Tryd.prog 70 #[.slice p l.length c, .int .i64 fr, .slice p2 ns.length c2] w fun e w' => ∃ (p' : Option Addr) (c' : Nat) (out : List (Int × Int)), e = .returned (.tuple #[.slice p' out.length c', .int .i64 (endH fr ns)]) ∧ RsAt w' p' out ∧ (∀ z, z ∈ out ↔ ∃ x ∈ l, Leads fr ns x z) ∧ (∀ st ∈ out, StR (9 * ((k0 + ns.length : Nat) : Int)) st) ∧ out.length ≤ 8000000000000 ∧ Below w.heap.size w w' := by
  have HL := Lib.hid hl
  have HST := Lib.hid hst
  have HLN := Lib.hid hn
  have HNS := Lib.hid hns
  have HCH := Lib.hid hch
  clear hl hst hn hns hch
  go_enter Tryd.func70, Tryd.ntmps70
  generalize hN : ns.length = N at *
  have HN := Lib.hid hN
  clear hN
  go_wp2_with fail
  go_loopw [0, 1, 8] (fun v f i wr => ∃ (k : Nat) (q : Option Addr) (d : Nat) (f' : Int) (cur : List (Int × Int)), k ≤ N ∧ i = .int .i64 k ∧ f = .int .i64 f' ∧ v = .slice q cur.length d ∧ (0 ≤ f' ∧ f' ≤ 60) ∧ Hid (endH fr ns = endH f' (ns.drop k)) ∧ Hid (chainN f' (ns.drop k) = true) ∧ Hid (∀ z, (∃ x ∈ l, Leads fr ns x z) ↔ ∃ x ∈ cur, Leads f' (ns.drop k) x z) ∧ Hid (∀ st ∈ cur, StR (9 * ((k0 + k : Nat) : Int)) st) ∧ Hid (cur.length * 13 ^ (N - k) ≤ 8000000000000) ∧ Hid (RsAt wr q cur) ∧ Hid (Below w.heap.size w wr)) (fun _ _ i _ => N - (intOf i).toNat)
  case atStart => exact ⟨0, p, c, fr, l, by omega, rfl, rfl, rfl, hfr, Lib.hid rfl, HCH, Lib.hid (fun z => Iff.rfl), HST, HLN, HL, Lib.hid (Below.refl _ _)⟩
  case round =>
    obtain ⟨k, q, d, f', cur, hkN, rfl, rfl, rfl, hf', HE, HC, HLE, HB, HLE2, HRS, HBL⟩ := hrel
    by_cases hlt : k < N
    · obtain ⟨s, hs⟩ := get_some ns k (by have := HN.out; omega)
      have hdr := drop_of_get hs
      have hc1 : chainN f' (s :: ns.drop (k + 1)) = true := by rw [← hdr]; exact HC.out
      simp only [chainN, Bool.and_eq_true, decide_eq_true_eq] at hc1
      obtain ⟨⟨hnt, hfs⟩, hc2⟩ := hc1
      obtain ⟨f1, f2, f3⟩ := ntB_facts hnt
      have hpw : 13 ^ (N - k) = 13 ^ (N - (k + 1)) * 13 := by rw [← Nat.pow_succ]; congr 1; omega
      have hpp : 0 < 13 ^ (N - (k + 1)) := Nat.pow_pos (by omega)
      have hL2 : cur.length * 13 * 13 ^ (N - (k + 1)) ≤ 8000000000000 := by
        have := HLE2.out
        rw [hpw] at this
        rw [Nat.mul_assoc, Nat.mul_comm 13]
        exact this
      have hL3 : cur.length ≤ 650000000000 := by
        have := Nat.le_mul_of_pos_right (cur.length * 13) hpp
        omega
      have HL2 := Lib.hid hL2
      have HC2 := Lib.hid hc2
      have HDR := Lib.hid hdr
      have HF1 := Lib.hid f1
      have HF3 := Lib.hid f3
      have HST2 := Lib.hid (show ∀ st ∈ cur, (0 ≤ st.1 ∧ st.1 ≤ 400) ∧ 0 ≤ st.2 ∧ st.2 ≤ 72 from fun st h => by
        obtain ⟨h1, h2, h3⟩ := HB.out st h
        exact ⟨h1, h2, by omega⟩)
      obtain ⟨bl, ol, hp, hbl, cl0, cl1, cl2, cl3⟩ := HNS.out k s hs
      have HLN3 := Lib.hid hL3
      clear hpw hpp hL2 hL3 hc2 hdr f1 f3 hnt hs HLE2
      have HPP := Lib.hid hp
      clear hp
      go_upto_region 4 with fail
      refine wp_region_flow_backA 13 29 (fun _ => thrR wr.heap.size (.slice q cur.length d) f' p2 N c2 k bl ol s cur) (thrS wr (.slice q cur.length d)) (by kernel_rfl) (by kernel_rfl) rfl ⟨Below.drew (Below.refl _ _), fun _ => rfl⟩ ?_ ?_
      · intro i hin f a X s1 s2 s3 rows wf wb fi st KK hKK
        have hzX := st.1.size
        have hbX := HBL.out.trans (st.1.mono HBL.out.size)
        have hlX := Nat.lt_of_lt_of_le hbl hbX.size
        match i, hin with
        | 0, _ => exact st_move rfl rfl (wanted_none rfl) (st.2 (wb 12 (by kernel_rfl))) (hKK _ _ rfl (fun j hj _ _ h => thrR_kept _ _ _ _ _ _ _ _ _ _ _ j hj _ _ _ h (Below.refl _ _)) (st.next (i := 0) (d := 15) (by decide) (by decide) _ (Below.refl _ _)))
        | 1, _ => exact st_move rfl rfl (wanted_none rfl) (s3 1 (by kernel_rfl)) (hKK _ _ rfl (fun j hj _ _ h => thrR_kept _ _ _ _ _ _ _ _ _ _ _ j hj _ _ _ h (Below.refl _ _)) (st.next (i := 1) (d := 16) (by decide) (by decide) _ (Below.refl _ _)))
        | 2, _ => exact st_move rfl rfl (wanted_none rfl) (s3 2 (by kernel_rfl)) (hKK _ _ rfl (fun j hj _ _ h => thrR_kept _ _ _ _ _ _ _ _ _ _ _ j hj _ _ _ h (Below.refl _ _)) (st.next (i := 2) (d := 17) (by decide) (by decide) _ (Below.refl _ _)))
        | 3, _ => exact st_move rfl rfl (wanted_none rfl) (s3 8 (by kernel_rfl)) (hKK _ _ rfl (fun j hj _ _ h => thrR_kept _ _ _ _ _ _ _ _ _ _ _ j hj _ _ _ h (Below.refl _ _)) (st.next (i := 3) (d := 18) (by decide) (by decide) _ (Below.refl _ _)))
        | 4, _ => exact st_val rfl (wanted_none rfl) (run_atNtR _ rfl ((rows 2 (by omega) (wf 2 (by kernel_rfl))).trans (by rw [HPP.out])) (rows 3 (by omega) (wf 3 (by kernel_rfl))) hlt hlX) (hKK _ _ rfl (fun j hj _ _ h => thrR_kept _ _ _ _ _ _ _ _ _ _ _ j hj _ _ _ h (Below.refl _ _)) (st.next (i := 4) (d := 19) (by decide) (by decide) _ (Below.refl _ _)))
        | 5, _ => exact st_val rfl (wanted_none rfl) (run_lNtR _ rfl (rows 4 (by omega) (wf 4 (by kernel_rfl))) ((hbX.cell (p := ⟨bl, ol + k * 4, none⟩) hbl).trans cl0) ((hbX.cell (p := ⟨bl, ol + k * 4 + 1, none⟩) hbl).trans cl1) ((hbX.cell (p := ⟨bl, ol + k * 4 + 2, none⟩) hbl).trans cl2) ((hbX.cell (p := ⟨bl, ol + k * 4 + 3, none⟩) hbl).trans cl3)) (hKK _ _ rfl (fun j hj _ _ h => thrR_kept _ _ _ _ _ _ _ _ _ _ _ j hj _ _ _ h (Below.refl _ _)) (st.next (i := 5) (d := 20) (by decide) (by decide) _ (Below.refl _ _)))
        | 6, _ =>
          refine st_call rfl rfl (wanted_none rfl) (args3r (rows 0 (by omega) (wf 0 (by kernel_rfl))) (rows 1 (by omega) (wf 1 (by kernel_rfl))) (rows 5 (by omega) (wf 5 (by kernel_rfl)))) (run_enter Tryd.func97 (by kernel_rfl) (by kernel_rfl) _) ?_
          refine (noted_r cur q d s f' (s.hour - f') X (HRS.out.below st.1) HST2.out HLN3.out HF1.out HF3.out hf' rfl (by omega)).mono ?_
          rintro e w1 ⟨v, out, rfl, h1, h2, h3⟩
          exact ⟨_, rfl, hKK _ _ ⟨out, h1.mono hzX, h2⟩ (fun j hj _ _ h => thrR_kept _ _ _ _ _ _ _ _ _ _ _ j hj _ _ _ h h3) (st.next (i := 6) (d := 21) (by decide) (by decide) _ h3)⟩
        | 7, _ => exact st_move rfl rfl (wanted_none rfl) (s3 2 (by kernel_rfl)) (hKK _ _ rfl (fun j hj _ _ h => thrR_kept _ _ _ _ _ _ _ _ _ _ _ j hj _ _ _ h (Below.refl _ _)) (st.next (i := 7) (d := 22) (by decide) (by decide) _ (Below.refl _ _)))
        | 8, _ => exact st_move rfl rfl (wanted_none rfl) (s3 8 (by kernel_rfl)) (hKK _ _ rfl (fun j hj _ _ h => thrR_kept _ _ _ _ _ _ _ _ _ _ _ j hj _ _ _ h (Below.refl _ _)) (st.next (i := 8) (d := 23) (by decide) (by decide) _ (Below.refl _ _)))
        | 9, _ => exact st_val rfl (wanted_none rfl) (run_atNtR _ rfl ((rows 7 (by omega) (wf 7 (by kernel_rfl))).trans (by rw [HPP.out])) (rows 8 (by omega) (wf 8 (by kernel_rfl))) hlt hlX) (hKK _ _ rfl (fun j hj _ _ h => thrR_kept _ _ _ _ _ _ _ _ _ _ _ j hj _ _ _ h (Below.refl _ _)) (st.next (i := 9) (d := 24) (by decide) (by decide) _ (Below.refl _ _)))
        | 10, _ => exact st_val rfl (wanted_none rfl) (run_fNtR _ rfl (rows 9 (by omega) (wf 9 (by kernel_rfl))) hlX) (hKK _ _ rfl (fun j hj _ _ h => thrR_kept _ _ _ _ _ _ _ _ _ _ _ j hj _ _ _ h (Below.refl _ _)) (st.next (i := 10) (d := 25) (by decide) (by decide) _ (Below.refl _ _)))
        | 11, _ => exact st_val rfl (wanted_none rfl) (run_lNum _ rfl (rows 10 (by omega) (wf 10 (by kernel_rfl))) ((hbX.cell (p := ⟨bl, ol + k * 4 + 1, none⟩) hbl).trans cl1)) (hKK _ _ rfl (fun j hj _ _ h => thrR_kept _ _ _ _ _ _ _ _ _ _ _ j hj _ _ _ h (Below.refl _ _)) (st.next (i := 11) (d := 26) (by decide) (by decide) _ (Below.refl _ _)))
        | 12, _ =>
          obtain ⟨out, h1, h2⟩ := (rows 6 (by omega) (wf 6 (by kernel_rfl)))
          exact st_asgR rfl rfl (wanted_none rfl) rfl (hKK _ _ ⟨out, h1, h2⟩ (fun j hj _ _ h => thrR_kept _ _ _ _ _ _ _ _ _ _ _ j hj _ _ _ h (Below.refl _ _)) ⟨st.1, fun e => by rw [updF_self] at e; cases e⟩)
        | k + 13, hk => omega
      intro vs W2 f hget hf hvs hst2
      have hBW2 := hst2.1
      obtain ⟨out6, ho6, -⟩ := hvs 6 (by omega)
      obtain ⟨out, ho, hP⟩ := hvs 12 (by omega)
      have v0 : vs 0 = _ := hvs 0 (by omega)
      have v1 : vs 1 = _ := hvs 1 (by omega)
      have v2 : vs 2 = _ := hvs 2 (by omega)
      have v3 : vs 3 = _ := hvs 3 (by omega)
      have v4 : vs 4 = _ := hvs 4 (by omega)
      have v5 : vs 5 = _ := hvs 5 (by omega)
      have v7 : vs 7 = _ := hvs 7 (by omega)
      have v8 : vs 8 = _ := hvs 8 (by omega)
      have v9 : vs 9 = _ := hvs 9 (by omega)
      have v10 : vs 10 = _ := hvs 10 (by omega)
      have v11 : vs 11 = _ := hvs 11 (by omega)
      obtain ⟨q66, d66, v6, -⟩ := ho6.at
      obtain ⟨q6, d6, v12, hrs6⟩ := ho.at
      clear hget hf hst2
      simp only [putAll, v0, v1, v2, v3, v4, v5, v6, v7, v8, v9, v10, v11, v12]
      clear v0 v1 v2 v3 v4 v5 v6 v7 v8 v9 v10 v11 v12 hvs ho ho6
      simp only [dstOf, Act.put, List.getElem?_toArray, List.getElem?_cons_zero, List.getElem?_cons_succ, Option.bind_some, Option.getD_some, List.setIfInBounds_toArray, List.set_cons_succ, List.set_cons_zero, List.drop_succ_cons, List.drop_zero]
      have HB2 := Lib.hid (HBL.out.trans (hBW2.mono HBL.out.size))
      have HRS2 := Lib.hid hrs6
      have HBD := Lib.hid (show ∀ st ∈ out, StR (9 * ((k0 + (k + 1) : Nat) : Int)) st by
        intro z hz
        have := hP.bd HF1.out HF3.out HB.out z hz
        unfold StR at this ⊢
        push_cast at this ⊢
        omega)
      have HLE2 := Lib.hid (show out.length * 13 ^ (N - (k + 1)) ≤ 8000000000000 from Nat.le_trans (Nat.mul_le_mul_right _ (by have := hP.2.1; omega)) HL2.out)
      have HLE3 := Lib.hid (show ∀ z, (∃ x ∈ l, Leads fr ns x z) ↔ ∃ x ∈ out, Leads s.hour (ns.drop (k + 1)) x z by
        intro z
        rw [HLE.out z, HDR.out]
        exact hP.step z)
      have HE2 := Lib.hid (show endH fr ns = endH s.hour (ns.drop (k + 1)) by rw [HE.out, HDR.out]; rfl)
      have e1 : IntKind.i64.wrap ((k : Int) + 1) = ((k + 1 : Nat) : Int) := by rw [IntWalk.i64_in _ (by omega)]; push_cast; rfl
      clear hBW2 hrs6 hP cl0 cl1 cl2 cl3 hbl
      go_wp2_with fail
      go_roundw
      case rel => exact ⟨k + 1, q6, d6, s.hour, out, by omega, rfl, rfl, rfl, f2, HE2, HC2, HLE3, HBD, HLE2, HRS2, HB2⟩
      case measure => simp [intOf]; omega
    · have hc : decide (k < N) = false := by simpa using hlt
      have hk1 : k = N := by omega
      have hd : ns.drop k = [] := List.drop_of_length_le (by rw [HN.out]; omega)
      have HE2 := Lib.hid (show endH fr ns = f' by rw [HE.out, hd]; rfl)
      have HM := Lib.hid (show ∀ z, z ∈ cur ↔ ∃ x ∈ l, Leads fr ns x z by
        intro z
        rw [HLE.out z, hd]
        exact ⟨fun h => ⟨z, h, rfl⟩, fun ⟨x, hx, e⟩ => by rw [show z = x from e]; exact hx⟩)
      subst hk1
      have HLN2 := Lib.hid (show cur.length ≤ 8000000000000 by have := HLE2.out; rw [Nat.sub_self] at this; omega)
      clear hd hlt
      go_wp2_with fail
      refine bodyPost_ret (v := .tuple #[.slice q cur.length d, .int .i64 f']) (by simp [results, Tryd.results70, go_sem]) rfl ?_
      exact ⟨q, d, cur, by rw [HE2.out], HRS.out, HM.out, HB.out, HLN2.out, HBL.out⟩
end Go.Proofs.YtjjfpbjdcmkkhaaDoor

namespace Go.Proofs.YtjjfpbjdcmkkhaaDoor
open Go Go.RowKit Go.Shelf
/-- The hour from which one note of some counts. -/
def pastF (fr : Int) (ns : List Nt) : Nat → Int
  | 0 => fr
  | k + 1 => match ns[k]? with | some s => s.hour | none => 0
theorem pastF_zero (ns : List Nt) (k : Nat) : pastF 0 ns k = pastN ns k := by cases k <;> rfl
theorem pastF_cons (fr : Int) (s : Nt) (ns : List Nt) {k : Nat} : pastF fr (s :: ns) (k + 1) = pastF s.hour ns k := by cases k <;> rfl
theorem leads_iff {ns : List Nt} : ∀ {fr : Int} {x z : Int × Int}, Leads fr ns x z ↔ ∃ g : Nat → Int × Int, g 0 = x ∧ g ns.length = z ∧ ∀ k s, ns[k]? = some s → g (k + 1) ∈ behL s (aftS (g k) (s.hour - pastF fr ns k)) := by
  induction ns with
  | nil =>
    intro fr x z
    exact ⟨fun h => ⟨fun _ => x, rfl, h.symm, fun k s hs => by simp at hs⟩, fun ⟨g, h1, h2, _⟩ => h2.symm.trans h1⟩
  | cons s ns ih =>
    intro fr x z
    constructor
    · rintro ⟨y, hy, hz⟩
      obtain ⟨g, h1, h2, h3⟩ := ih.1 hz
      refine ⟨fun n => match n with | 0 => x | n + 1 => g n, rfl, h2, fun k t ht => ?_⟩
      cases k with
      | zero =>
        simp at ht; subst ht
        show g 0 ∈ _
        rw [h1]; exact hy
      | succ k =>
        rw [pastF_cons]
        exact h3 k t (by simpa using ht)
    · rintro ⟨g, h1, h2, h3⟩
      refine ⟨g 1, ?_, ih.2 ⟨fun n => g (n + 1), rfl, h2, fun k t ht => ?_⟩⟩
      · have := h3 0 s rfl
        rw [h1] at this
        exact this
      · have := h3 (k + 1) t (by simpa using ht)
        rw [pastF_cons] at this
        exact this
/-- Some state leads through all notes: the book can be true. -/
theorem right_leads {b : Sn} : rightS b = true ↔ ∃ z, ∃ x ∈ startL b.lo b.hi, Leads 0 b.ns x z := by
  rw [rightS_iff]
  constructor
  · rintro ⟨f, h1, h2⟩
    refine ⟨f b.ns.length, f 0, h1, leads_iff.2 ⟨f, rfl, rfl, fun k s hs => ?_⟩⟩
    have := h2 k s hs
    unfold befS at this
    rw [gapN_at hs] at this
    rw [pastF_zero]
    exact this
  · rintro ⟨z, x, hx, h⟩
    obtain ⟨g, h1, h2, h3⟩ := leads_iff.1 h
    refine ⟨g, by rw [h1]; exact hx, fun k s hs => ?_⟩
    unfold befS
    rw [gapN_at hs, ← pastF_zero]
    exact h3 k s hs
theorem startL_len {a c : Int} (h : 0 ≤ a ∧ a ≤ c ∧ c ≤ 400) : (startL a c).length ≤ 401 := by unfold startL; rw [List.length_map]; simp [numsL, nupto]; omega
theorem startL_bd {a c : Int} (h : 0 ≤ a ∧ a ≤ c ∧ c ≤ 400) : ∀ st ∈ startL a c, StR (9 * ((0 : Nat) : Int)) st := by
  intro st hs
  unfold startL at hs
  obtain ⟨m, hm, rfl⟩ := List.mem_map.1 hs
  have := mem_numsL.1 hm
  unfold StR
  dsimp only
  omega
theorem pow_le {n : Nat} (h : n ≤ 9) {m : Nat} (hm : m ≤ 401) : m * 13 ^ n ≤ 8000000000000 := by
  have h1 : 13 ^ n ≤ 13 ^ 9 := Nat.pow_le_pow_right (by omega) h
  have h2 := Nat.mul_le_mul hm h1
  have : 401 * 13 ^ 9 ≤ 8000000000000 := by decide
  omega
/-- What the operations of right leave. -/
def rgtR (W0 B : Nat) (b : Sn) (p : Option Addr) (c : Nat) (i : Nat) (u : Value) (w : World) : Prop :=
  match i with
  | 0 => u = .agg #[.int .i64 b.lo, .int .i64 b.hi, .slice p b.ns.length c]
  | 1 => ∃ q d, u = .slice q (startL b.lo b.hi).length d ∧ RsAt w q (startL b.lo b.hi)
  | 2 => u = .pointer (some ⟨B, 2, none⟩)
  | 3 => u = .slice p b.ns.length c
  | 4 => ∃ (q : Option Addr) (d n : Nat) (fr : Int), u = .tuple #[.slice q n d, .int .i64 fr] ∧ (n ≠ 0 ↔ rightS b = true) ∧ n ≤ 8000000000000
  | 5 => ∃ (q : Option Addr) (d n : Nat) (fr : Int), u = .tuple #[.slice q n d, .int .i64 fr] ∧ (n ≠ 0 ↔ rightS b = true) ∧ n ≤ 8000000000000
  | 6 => ∃ (q : Option Addr) (d n : Nat), u = .slice q n d ∧ (n ≠ 0 ↔ rightS b = true) ∧ n ≤ 8000000000000
  | 7 => ∃ fr : Int, u = .int .i64 fr
  | 8 => ∃ (q : Option Addr) (d n : Nat), u = .slice q n d ∧ (n ≠ 0 ↔ rightS b = true) ∧ n ≤ 8000000000000
  | _ => True
theorem rgtR_kept (W0 B : Nat) (b : Sn) (p : Option Addr) (c : Nat) : ∀ i, i < 9 → ∀ (u : Value) (w w' : World), rgtR W0 B b p c i u w → Below w.heap.size w w' → rgtR W0 B b p c i u w' := by
  intro i hi u w w' h hb
  match i, hi, h with
  | 0, _, h => exact h
  | 1, _, h => obtain ⟨q, d, h1, h2⟩ := h; exact ⟨q, d, h1, h2.below hb⟩
  | 2, _, h => exact h
  | 3, _, h => exact h
  | 4, _, h => exact h
  | 5, _, h => exact h
  | 6, _, h => exact h
  | 7, _, h => exact h
  | 8, _, h => exact h
  | k + 9, hk, _ => omega
theorem argsC3 {a : Act} {s u : Nat} {x y z : Value} (h1 : a.tmps.getD s undef = x) (h3 : a.tmps.getD u undef = z) : (#[Operand.tmp s, Operand.const y, Operand.tmp u]).map a.eval = #[x, y, z] := by
  simp only [List.map_toArray, List.map_cons, List.map_nil, Act.eval, h1, h3]
attribute [local go_sem] Oper.semAt_some frozen_alloc_lt
set_option maxRecDepth 100000 in
set_option maxHeartbeats 4000000 in
theorem right_r (b : Sn) (p : Option Addr) (c : Nat) (w : World) (hl : NotesAt w p b.ns) (hok : Ok9 b) :
    Calls Tryd.prog 55 #[bV b p c] w fun e w' => e = .returned (.bool (rightS b)) ∧ Below w.heap.size w w' := by
  have hsp : 0 ≤ b.lo ∧ b.lo ≤ b.hi ∧ b.hi ≤ 400 := by have := hok.span; unfold SpanOK at this; omega
  have hlen := hok.len
  have HL := Lib.hid hl
  have HOK := Lib.hid hok
  clear hl hok
  go_enter Tryd.func55, Tryd.ntmps55
  go_upto_region 1 with fail
  generalize hW : w.alloc _ = W
  have hWB : Below w.heap.size w W := by rw [← hW]; (repeat (first | (with_reducible exact Below.refl _ _) | (with_reducible assumption) | ((with_reducible refine below_ext_trans ?_ ?_ _); rotate_left; focus (((try dsimp only); repeat (first | omega | simp only [World.size_alloc, World.size_setCell, World.size_drew] | (with_reducible refine le_ext_of ?_) | (with_reducible refine le_ext_add ?_))); done)) | ((with_reducible refine Below.alloc ?_ ?_ _); rotate_left; focus (((try dsimp only); repeat (first | omega | simp only [World.size_alloc, World.size_setCell, World.size_drew] | (with_reducible refine le_ext_of ?_) | (with_reducible refine le_ext_add ?_))); done)) | ((with_reducible refine Below.setCell ?_ ?_ _); rotate_left; focus (((try dsimp only); repeat (first | omega | simp only [World.size_alloc, World.size_setCell, World.size_drew] | (with_reducible refine le_ext_of ?_) | (with_reducible refine le_ext_add ?_))); done)) | (with_reducible refine Below.drew ?_)))
  have kb : Blk W w.heap.size 26 #[.int .i64 b.lo, .int .i64 b.hi, .slice p b.ns.length c] := by rw [← hW]; exact Blk.new rfl
  clear hW
  refine wp_region_flow_back 9 16 (rgtR W.heap.size w.heap.size b p c) (by kernel_rfl) (by kernel_rfl) rfl (rgtR_kept _ _ _ _ _) ?_ ?_
  · intro i hin a X g1 g2 g3 g4 g5 KK hKK
    have hzX := g5.size
    have kX := kb.bel g5
    have hc2 := kX.cell 2
    match i, hin with
    | 0, _ => exact st_val rfl (wanted_none rfl) (run_lBookS _ rfl (g3 1 (by kernel_rfl)) kX) (hKK _ _ rfl (Below.refl _ _))
    | 1, _ =>
      refine st_call rfl rfl (wanted_none rfl) (sargs1 (g4 0 (by kernel_rfl))) (run_enter Tryd.func71 (by kernel_rfl) (by kernel_rfl) _) ?_
      refine (begun_r b p c X hsp.1 hsp.2.1 hsp.2.2).mono ?_
      rintro e w1 ⟨v, rfl, h1, x, rfl⟩
      obtain ⟨q, d, rfl, h2⟩ := h1.at
      exact ⟨_, rfl, hKK _ _ ⟨q, d, rfl, h2⟩ (below_ext _ x)⟩
    | 2, _ => exact st_val rfl (wanted_none rfl) (run_fBook1 _ rfl (g3 1 (by kernel_rfl)) kX.lt) (hKK _ _ rfl (Below.refl _ _))
    | 3, _ => exact st_val rfl (wanted_none rfl) (run_lNotes _ rfl (g4 2 (by kernel_rfl)) hc2) (hKK _ _ rfl (Below.refl _ _))
    | 4, _ =>
      obtain ⟨q, d, h1, h2⟩ := g4 1 (by kernel_rfl)
      refine st_call rfl rfl (wanted_none rfl) (argsC3 h1 (g4 3 (by kernel_rfl))) (run_enter Tryd.func70 (by kernel_rfl) (by kernel_rfl) _) ?_
      refine (through_r (startL b.lo b.hi) q d 0 b.ns p c 0 X h2 (startL_bd hsp) (pow_le hlen (startL_len hsp)) (by omega) (HL.out.below (hWB.trans (g5.mono hWB.size))) HOK.out.chain (by omega)).mono ?_
      rintro e w1 ⟨q', d', out, rfl, -, h4, -, h5, h6⟩
      refine ⟨_, rfl, hKK _ _ ⟨q', d', out.length, _, rfl, ?_, h5⟩ h6⟩
      rw [right_leads]
      constructor
      · intro hne
        obtain ⟨z, hz⟩ := List.exists_mem_of_ne_nil out (fun e => hne (by rw [e]; rfl))
        exact ⟨z, (h4 z).1 hz⟩
      · rintro ⟨z, hz⟩ h0
        have := (h4 z).2 hz
        rw [List.length_eq_zero_iff.1 h0] at this
        cases this
    | 5, _ =>
      obtain ⟨q, d, n, fr, h1, h2⟩ := g4 4 (by kernel_rfl)
      exact st_move rfl rfl (wanted_none rfl) h1 (hKK _ _ ⟨q, d, n, fr, rfl, h2⟩ (Below.refl _ _))
    | 6, _ =>
      obtain ⟨q, d, n, fr, h1, h2⟩ := g4 5 (by kernel_rfl)
      exact st_val rfl (wanted_none rfl) (run_extractS _ rfl h1 rfl) (hKK _ _ ⟨q, d, n, rfl, h2⟩ (Below.refl _ _))
    | 7, _ =>
      obtain ⟨q, d, n, fr, h1, h2⟩ := g4 5 (by kernel_rfl)
      exact st_val rfl (wanted_none rfl) (run_extractS _ rfl h1 rfl) (hKK _ _ ⟨fr, rfl⟩ (Below.refl _ _))
    | 8, _ =>
      obtain ⟨q, d, n, h1, h2⟩ := g4 6 (by kernel_rfl)
      exact st_asgR rfl rfl (wanted_none rfl) h1 (hKK _ _ ⟨q, d, n, rfl, h2⟩ (Below.refl _ _))
    | k + 9, hk => omega
  intro vs W2 hvs hBW2
  have v0 : vs 0 = _ := hvs 0 (by omega)
  obtain ⟨q1, d1, v1, -⟩ := hvs 1 (by omega)
  have v2 : vs 2 = _ := hvs 2 (by omega)
  have v3 : vs 3 = _ := hvs 3 (by omega)
  obtain ⟨q4, d4, n4, fr4, v4, -⟩ := hvs 4 (by omega)
  obtain ⟨q5, d5, n5, fr5, v5, -⟩ := hvs 5 (by omega)
  obtain ⟨q6, d6, n6, v6, -⟩ := hvs 6 (by omega)
  obtain ⟨q, d, n, v8, hn, -⟩ := hvs 8 (by omega)
  obtain ⟨fr7, v7⟩ := hvs 7 (by omega)
  simp only [putAll, v0, v1, v2, v3, v4, v5, v6, v7, v8]
  clear v0 v1 v2 v3 v4 v5 v6 v7 v8 hvs
  simp only [dstOf, Act.put, List.getElem?_toArray, List.getElem?_cons_zero, List.getElem?_cons_succ, Option.bind_some, Option.getD_some, List.setIfInBounds_toArray, List.set_cons_succ, List.set_cons_zero, List.drop_succ_cons, List.drop_zero]
  have HB2 := Lib.hid (hWB.trans (hBW2.mono hWB.size))
  have HQ := Lib.hid (show decide (0 < n) = rightS b by
    rw [Bool.eq_iff_iff, decide_eq_true_eq, ← hn]
    omega)
  clear hWB hBW2 kb hn
  go_wp2_with fail
  go_ret
  exact ⟨by rw [← HQ.out]; rfl, HB2.out⟩
end Go.Proofs.YtjjfpbjdcmkkhaaDoor

