/- Package tide: the closure that goes through all plans. -/
/- Package tide: the iterator over all plans. -/
import Derived.Test.YtcaeohgbgeadaaaGreatDoorQEf
import Derived.Scope
set_option linter.unusedSimpArgs false
set_option linter.unusedVariables false
namespace Go.Proofs.YtcaeohgbgeadaaaGreatDoor
open Go Go.RowKit Go.Shelf
theorem PlanAt.parts {w : World} {q : Option Addr} {n c : Nat} {l : List Int} (h : PlanAt w (.slice q n c) l) : n = l.length ∧ IntsAt w q l ∧ l.length ≤ c ∧ (∀ a, q = some a → (∃ b o, a = ⟨b, o, none⟩) ∧ a.block < w.heap.size) ∧ (q = none → c = 0) := by
  obtain ⟨p', c', h1, h2, h3, h4, h5⟩ := h
  simp only [Value.slice.injEq] at h1
  obtain ⟨rfl, rfl, rfl⟩ := h1
  exact ⟨rfl, h2, h3, h4, h5⟩
theorem followsT_eq (b : Tk) (p : Tp) (i j : Nat) (s t : Lw) (q : Bool) (w : World) (hl : LowsAt w p.tp b.ts) (hs : b.ts[i]? = some s) (ht : b.ts[j]? = some t) (h1 : 0 ≤ s.hour ∧ s.hour ≤ 60) (h2 : 0 ≤ t.hour ∧ t.hour ≤ 60) (hq : followsB b.ts b.rest i j = q) :
    Calls Tryz.prog 104 #[tv b p, .int .i64 i, .int .i64 j] w fun e w' => e = .returned (.bool q) ∧ ∃ x, w' = ext w x := by
  subst hq; exact follows_any b p i j s t w hl hs ht h1 h2
/-- A plan that is handed over: its value, and what it holds. -/
abbrev VL := Value × List Int
abbrev encV (x : VL) : Array Value := #[x.1]
/-- Of some lists just those that are something are there. -/
def Cov (P : List Int → Prop) (L : List VL) : Prop := ∀ l, P l ↔ ∃ x ∈ L, x.2 = l
theorem Cov.nil {P : List Int → Prop} (h : ∀ l, ¬ P l) : Cov P [] := fun l => ⟨fun h1 => absurd h1 (h l), fun ⟨_, h1, _⟩ => by cases h1⟩
theorem Cov.congr {P Q : List Int → Prop} {L : List VL} (h : Cov P L) (hq : ∀ l, P l ↔ Q l) : Cov Q L := fun l => (hq l).symm.trans (h l)
theorem Cov.app {P Q R : List Int → Prop} {L M : List VL} (h : Cov P L) (k : Cov Q M) (hr : ∀ l, R l ↔ P l ∨ Q l) : Cov R (L ++ M) := fun l => by
  rw [hr, h l, k l]
  constructor
  · rintro (⟨x, h1, h2⟩ | ⟨x, h1, h2⟩)
    · exact ⟨x, List.mem_append_left _ h1, h2⟩
    · exact ⟨x, List.mem_append_right _ h1, h2⟩
  · rintro ⟨x, h1, h2⟩
    rcases List.mem_append.1 h1 with h1 | h1
    · exact .inl ⟨x, h1, h2⟩
    · exact .inr ⟨x, h1, h2⟩
/-- A plan that begins with another one. -/
def ExtP (b : Tk) (pl l : List Int) : Prop := planB b.ts b.most b.rest l = true ∧ pl <+: l
/-- A plan that begins with another one and a tide before one. -/
def ExtK (b : Tk) (pl : List Int) (k : Nat) (l : List Int) : Prop := planB b.ts b.most b.rest l = true ∧ ∃ t : Nat, t < k ∧ (pl ++ [(t : Int)]) <+: l
theorem ext_split {b : Tk} {pl l : List Int} (hr : 0 ≤ b.rest) (hp : planB b.ts b.most b.rest pl = true) : ExtP b pl l ↔ l = pl ∨ ExtK b pl b.ts.length l := by
  constructor
  · rintro ⟨h1, r, rfl⟩
    cases r with
    | nil => exact .inl (by simp)
    | cons t r =>
      have h2 := ((planB_iff hr).1 h1).2.1 t (by simp)
      refine .inr ⟨h1, t.toNat, by omega, ?_⟩
      rw [show ((t.toNat : Nat) : Int) = t by omega]
      exact ⟨r, by simp⟩
  · rintro (rfl | ⟨h1, t, -, h2⟩)
    · exact ⟨hp, List.prefix_refl _⟩
    · exact ⟨h1, (List.prefix_append pl [(t : Int)]).trans h2⟩
theorem extK_zero {b : Tk} {pl l : List Int} : ¬ ExtK b pl 0 l := by
  rintro ⟨-, t, h, -⟩; omega
theorem extK_full {b : Tk} {pl l : List Int} {k : Nat} (h : (pl.length : Int) = b.most) : ¬ ExtK b pl k l := by
  rintro ⟨h1, t, -, h2⟩
  have h3 := plan_len h1
  have h4 := h2.length_le
  rw [List.length_append, List.length_singleton] at h4
  omega
theorem extK_succ {b : Tk} {pl l : List Int} {k : Nat} : ExtK b pl (k + 1) l ↔ ExtK b pl k l ∨ ExtP b (pl ++ [(k : Int)]) l := by
  constructor
  · rintro ⟨h1, t, h2, h3⟩
    by_cases e : t = k
    · subst e; exact .inr ⟨h1, h3⟩
    · exact .inl ⟨h1, t, by omega, h3⟩
  · rintro (⟨h1, t, h2, h3⟩ | ⟨h1, h3⟩)
    · exact ⟨h1, t, by omega, h3⟩
    · exact ⟨h1, k, by omega, h3⟩
theorem ext_not {b : Tk} {pl l : List Int} (hr : 0 ≤ b.rest) (h : planB b.ts b.most b.rest pl = false) : ¬ ExtP b pl l := by
  rintro ⟨h1, h2⟩
  rw [plan_sub hr h1 h2.sublist] at h; cases h
/-- What the closure leans on: what it hands plans to, the book, itself. -/
structure ChBox (wr : World) (b : Tk) (p : Tp) (l yb lb cb : Nat) : Prop where
  y : Blk wr yb 82 #[.func (.yield l) #[] #[]]
  lw : Blk wr lb 81 (tcs b p)
  c : Blk wr cb 82 #[.func (.func 161) #[] #[.pointer (some ⟨yb, 0, none⟩), .pointer (some ⟨lb, 0, none⟩), .pointer (some ⟨cb, 0, none⟩)]]
theorem ChBox.priv {A B : World} {b : Tk} {p : Tp} {l yb lb cb n : Nat} {O : Nat → Prop} (h : ChBox A b p l yb lb cb) (hp : PrivM O A B) (hO : ∀ k, O k → k < n) (hy : n ≤ yb) (hl : n ≤ lb) (hc : n ≤ cb) : ChBox B b p l yb lb cb :=
  ⟨(hp.block _ h.y.lt (fun e => by have := hO _ e; omega)).trans h.y, (hp.block _ h.lw.lt (fun e => by have := hO _ e; omega)).trans h.lw, (hp.block _ h.c.lt (fun e => by have := hO _ e; omega)).trans h.c⟩
/-- What the closure leaves: all plans that begin with one were handed over, or it was stopped. -/
def ChPost (b : Tk) (O : Nat → Prop) (J Jx : List VL → World → Prop) (pl : List Int) (pre : List VL) (A : World) (e : Ending) (B : World) : Prop :=
  PrivM O A B ∧ ((e = .returned (.bool true) ∧ ∃ L, Cov (ExtP b pl) L ∧ J (pre ++ L) B) ∨ (e = .returned (.bool false) ∧ ∃ pre', (∀ x ∈ pre', planB b.ts b.most b.rest x.2 = true) ∧ Jx pre' B))
theorem wpInW_scope {n : Nat} {P : Program} {c : Code} {Q : Exit → Act → World → Prop} {a : Act} {w : World} (h : c.wpIn Fence.wide n P (Exit.noGoto Q) a w) : (Code.scope c).wpIn Fence.wide n P Q a w :=
  wpIn_wide.2 (wp_scope_straight (wpIn_wide.1 h))
theorem run_lCh {o : Oper} {w : World} {g t : Nat} (ρ : Operand → Value) {x : Value} (hop : o.op = .load 82 (.tmp t)) (hs : ρ (.tmp t) = .pointer (some ⟨g, 0, none⟩)) (c0 : w.cell? ⟨g, 0, none⟩ = some x) : (execOp ρ o).run Tryz.prog w = .ok (.value x) w := by
  unfold execOp; simp [hop, hs, go_sem, c0]
/-- What region 13's operations leave. -/
def chR (cv : Value) (pv : Value) (q : Option Addr) (pl : List Int) (k n0 : Nat) (i : Nat) (v : Value) (w : World) : Prop :=
  match i with
  | 0 => v = cv
  | 1 => v = pv
  | 2 => v = pv
  | 3 => v = .int .i64 pl.length
  | 4 => v = pv
  | 5 => v = .int .i64 pl.length
  | 6 => v = .slice q pl.length pl.length
  | 7 => v = .int .i64 k
  | 8 => ∃ g, v = .slice (some ⟨g, 0, none⟩) 1 1 ∧ Blk w g 3 #[.int .i64 k]
  | 9 => PlanIn n0 w v (pl ++ [(k : Int)])
  | _ => True
theorem chR_kept (cv : Value) (pv : Value) (q : Option Addr) (pl : List Int) (k n0 : Nat) : ∀ (i : Nat), i < 10 → ∀ (v : Value) (w w' : World), chR cv pv q pl k n0 i v w → Below w.heap.size w w' → chR cv pv q pl k n0 i v w' := by
  intro i hi v w w' h hb
  match i, hi with
  | 0, _ => exact h
  | 1, _ => exact h
  | 2, _ => exact h
  | 3, _ => exact h
  | 4, _ => exact h
  | 5, _ => exact h
  | 6, _ => exact h
  | 7, _ => exact h
  | 8, _ => obtain ⟨g, h1, h2⟩ := h; exact ⟨g, h1, h2.bel hb⟩
  | 9, _ => exact PlanIn.bel h hb
  | k + 10, hk => omega
theorem st_app_growT {ops : Array Oper} {Q : Exit → Act → World → Prop} {i : Nat} {o : Oper} {K : Act → World → Prop} {a : Act} {w : World} (hi : ops[i]? = some o) (hg : o.guard = none) (s x : Operand)
    (ho : o.op = .call { callee := .builtin .append, args := #[s, x], argTypes := #[30, 30] })
    (p : Option Addr) (l : List Int) (hs : a.eval s = .slice p l.length l.length) (hp : p = none → l.length = 0) (hl : IntsAt w p l) (g : Nat) (y : Int) (hx : a.eval x = .slice (some ⟨g, 0, none⟩) 1 1) (hm : Blk w g 3 #[.int .i64 y])
    (hlen : l.length ≤ 1000)
    (hK : ∀ v' w', PlanIn w.heap.size w' v' (l ++ [y]) → Below w.heap.size w w' → K (a.put o.dst v') w') : wpOp Tryz.prog ops Q i K a w :=
  wpOp_want hi (by simp [Region.wanted, hg]) (app_grow (ops := ops) hg s x ho p l hs hp hl ⟨g, 0, none⟩ [y] 1 hx (ints_one hm) (by simp) (by simp; omega) hK)
section
variable {b : Tk} {p : Tp} {O : Nat → Prop} {w W : World} {l yb lb cb : Nat} {J Jx : List VL → World → Prop}
attribute [local go_sem] Oper.semAt_some frozen_alloc_lt
set_option maxRecDepth 100000 in
set_option maxHeartbeats 16000000 in
theorem choose_step (hl : LowsAt w p.tp b.ts) (hW : Below w.heap.size w W) (hO : ∀ k, O k → k < W.heap.size) (hOw : ∀ k, O k → w.heap.size ≤ k) (hh : ∀ s ∈ b.ts, 0 ≤ s.hour ∧ s.hour ≤ 60) (h6 : b.ts.length ≤ 6) (hr : 0 ≤ b.rest) (hm6 : b.most ≤ 6)
    (hJ : Grw J) (hJx : Grw Jx) (hyb : W.heap.size ≤ yb) (hlb : W.heap.size ≤ lb) (hcb : W.heap.size ≤ cb)
    (hY : ∀ m pre x A, W.heap.size ≤ A.heap.size → (∀ y ∈ pre ++ [x], planB b.ts b.most b.rest y.2 = true) → PlanIn W.heap.size A x.1 x.2 → J pre A → YieldAt Fence.wide m Tryz.prog l (encV x) A fun e B =>
      (e = .returned (.bool true) ∧ J (pre ++ [x]) B ∧ PrivM O A B) ∨ (e = .returned (.bool false) ∧ Jx (pre ++ [x]) B ∧ PrivM O A B))
    (m : Nat) (pre : List VL) (v : Value) (pl : List Int) (A : World)
    (ih : ∀ (m : Nat) (pre : List VL) (v' : Value) (pl' : List Int) (A' : World), pl'.length = pl.length + 1 → planB b.ts b.most b.rest pl' = true → PlanIn W.heap.size A' v' pl' → PrivM O W A' → ChBox A' b p l yb lb cb → J pre A' → (∀ x ∈ pre, planB b.ts b.most b.rest x.2 = true) →
      CallsIn Fence.wide m Tryz.prog 161 #[v', .pointer (some ⟨yb, 0, none⟩), .pointer (some ⟨lb, 0, none⟩), .pointer (some ⟨cb, 0, none⟩)] A' (ChPost b O J Jx pl' pre A'))
    (hpl : planB b.ts b.most b.rest pl = true) (hv : PlanIn W.heap.size A v pl) (hA : PrivM O W A) (hbx : ChBox A b p l yb lb cb) (hj : J pre A) (hpre : ∀ x ∈ pre, planB b.ts b.most b.rest x.2 = true) :
    CallsIn Fence.wide m Tryz.prog 161 #[v, .pointer (some ⟨yb, 0, none⟩), .pointer (some ⟨lb, 0, none⟩), .pointer (some ⟨cb, 0, none⟩)] A (ChPost b O J Jx pl pre A) := by
  have hsp : ∀ y ∈ pre ++ [(v, pl)], planB b.ts b.most b.rest y.2 = true := fun y hy => by
    rcases List.mem_append.1 hy with h1 | h1
    · exact hpre y h1
    · rw [List.mem_singleton.1 h1]; exact hpl
  obtain ⟨fn, tmps, assign, body, hyy, hR⟩ := hY (m - 1) pre (v, pl) A hA.size hsp hv hj
  obtain ⟨⟨q, c, rfl, hi, hlc, hqa, hqn⟩, hqb⟩ := id hv
  have hlen6 := plan_len hpl
  have HV := Lib.hid hv
  have HI := Lib.hid hi
  have HQ := Lib.hid hqa
  have HQN := Lib.hid hqn
  have HL := Lib.hid hl
  have HW := Lib.hid hW
  have HO := Lib.hid hO
  have HOw := Lib.hid hOw
  have HH := Lib.hid hh
  have HJ := Lib.hid hJ
  have HIH := Lib.hid ih
  have HPL := Lib.hid hpl
  have HA := Lib.hid hA
  have HBX := Lib.hid hbx
  have HSP := Lib.hid hsp
  have hy0 := hbx.y
  have y0 := Blk.c1 hy0
  have ly := hy0.lt
  clear hv hi hqa hqn hqb hl hW hO hOw hh hJ hJx hY ih hpl hA hbx hj hpre hsp hy0
  dsimp only [encV] at hyy
  refine callsIn_of_wp Tryz.func161 rfl trivial ?_ rfl
  simp only [Tryz.ntmps161, List.size_toArray, List.length_cons, List.length_nil, Nat.reduceAdd, Nat.reduceSub, Array.replicate_succ, Array.replicate_zero, List.push_toArray, List.append_toArray, List.nil_append, List.cons_append]
  gi_wp2_with fail
  refine wpInW_scope ?_
  gi_wp2_with fail
  refine hR.mono ?_
  rintro e B (⟨rfl, hJB, hSB⟩ | ⟨rfl, hJB, hSB⟩)
  · have HJB := Lib.hid hJB
    have HSB := Lib.hid hSB
    have HBX2 := Lib.hid (HBX.out.priv hSB HO.out hyb hlb hcb)
    have hlw := HBX2.out.lw
    unfold tcs at hlw
    obtain ⟨c0, c1, c2, c3, c4, c5, c6, c7, c8⟩ := Blk.c9 hlw
    have lW := hlw.lt
    clear hJB hSB hyy hR y0 ly hlw
    by_cases hm : (pl.length : Int) = b.most
    · have hm' : ((pl.length : Int) == b.most) = true := by simpa using hm
      have HM := Lib.hid hm
      clear hm
      gi_wp2_with fail
      refine bodyPost_ret (results_tmp rfl _ _ _) rfl ?_
      refine ⟨HSB.out, .inl ⟨rfl, [(.slice q pl.length c, pl)], fun l' => ?_, HJB.out⟩⟩
      rw [ext_split hr HPL.out]
      simp only [List.mem_singleton, exists_eq_left]
      exact ⟨fun h1 => by rcases h1 with h1 | h1; exact h1.symm; exact absurd h1 (extK_full HM.out), fun h1 => .inl h1.symm⟩
    · have hm' : ((pl.length : Int) == b.most) = false := by simpa using hm
      have hlt6 : (pl.length : Int) < b.most := by omega
      clear hm
      gi_wp2_with fail
      refine wpIn_label ?_
      gi_wp2_with fail
      clear c0 c1 c2 c3 c4 c5 c6 c7 c8 lW
      gi_loopw [23] (fun i wr => ∃ (k : Nat) (L : List VL), k ≤ b.ts.length ∧ i = .int .i64 k ∧ Hid (PrivM O B wr) ∧ Hid (J (pre ++ [(.slice q pl.length c, pl)] ++ L) wr) ∧ Hid (Cov (ExtK b pl k) L)) (fun i _ => b.ts.length - (intOf i).toNat)
      case atStart => exact ⟨0, [], by omega, rfl, Lib.hid (PrivM.refl _ _), Lib.hid (by rw [List.append_nil]; exact HJB.out), Lib.hid (Cov.nil (fun l => extK_zero))⟩
      case round =>
        clear HJB
        obtain ⟨k, L, hk, rfl, HP, HJL, HC⟩ := hrel
        by_cases hlt : k < b.ts.length
        · have hk1 : (k : Int) < (b.ts.length : Int) := by omega
          obtain ⟨sk, hsk⟩ := get_some b.ts k hlt
          have HSK := Lib.hid hsk
          have HWK := Lib.hid (wrap_num k (by omega))
          clear hsk
          gi_wp2_with fail
          gi_loopw [28] (fun i wx => ∃ (j : Nat), j ≤ pl.length ∧ i = .int .i64 j ∧ Hid (Below wr.heap.size wr wx) ∧ Hid (∀ a ∈ pl.take j, followsB b.ts b.rest a k = true)) (fun i _ => pl.length - (intOf i).toNat)
          case atStart => exact ⟨0, by omega, rfl, Lib.hid (Below.refl _ _), Lib.hid (fun a ha => by simp at ha)⟩
          case round =>
            obtain ⟨j, hj, rfl, HBW, HF⟩ := hrel
            have HP3 := Lib.hid (HP.out.trans (PrivM.of_below HBW.out))
            have HBX3 := Lib.hid (HBX2.out.priv HP3.out HO.out hyb hlb hcb)
            by_cases hlt2 : j < pl.length
            · obtain ⟨a, ha⟩ := get_some pl j hlt2
              have har := ((planB_iff hr).1 HPL.out).2.1 a (List.mem_of_getElem? ha)
              obtain ⟨an, rfl⟩ : ∃ n : Nat, a = n := ⟨a.toNat, by omega⟩
              have hPW : PrivM O W wr := HA.out.trans (HSB.out.trans HP3.out)
              obtain ⟨-, hI3, -⟩ := (HV.out.priv (HSB.out.trans HP3.out) HO.out).1.parts
              obtain ⟨b1, o1, hqq, hb1, e1⟩ := hI3 j _ ha
              subst hqq
              obtain ⟨sa, hsa⟩ := get_some b.ts an (by omega)
              have hLX := HL.out.priv HW.out hPW HOw.out
              have HLX := Lib.hid hLX
              have HSA := Lib.hid hsa
              have HA2 := Lib.hid ha
              have hlw := HBX3.out.lw
              unfold tcs at hlw
              obtain ⟨c0, c1, c2, c3, c4, c5, c6, c7, c8⟩ := Blk.c9 hlw
              have lW := hlw.lt
              have j0 : (0 : Int) ≤ (j : Int) := by omega
              have j1 : (j : Int) < (pl.length : Int) := by omega
              have HWJ := Lib.hid (wrap_num j (by have := HPL.out; omega))
              clear hPW hI3 hLX hsa ha hlw har
              cases hfo : followsB b.ts b.rest an k
              · have HFO := Lib.hid hfo
                clear hfo
                gi_wp2_with (gi_at_call 104; refine (callsIn_wide.2 (followsT_eq b p an k sa sk _ _ HLX.out HSA.out HSK.out (HH.out _ (List.mem_of_getElem? HSA.out)) (HH.out _ (List.mem_of_getElem? HSK.out)) HFO.out)).mono ?_; rintro e w2 ⟨rfl, y, rfl⟩)
                go_roundw
                case rel =>
                  refine ⟨k + 1, L, hlt, by go_num, Lib.hid (HP3.out.trans (PrivM.of_below (below_ext wr y))), Lib.hid (HJ.out _ _ _ (HJ.out _ _ _ HJL.out HBW.out) (below_ext wr y)), Lib.hid (HC.out.congr fun l' => ?_)⟩
                  rw [extK_succ]
                  refine ⟨.inl, fun h1 => h1.elim id (fun h2 => absurd h2 (ext_not hr ?_))⟩
                  rw [Bool.eq_false_iff]
                  intro h3
                  have h4 := ((plan_snoc hr).1 h3).2.2.2 (an : Int) (List.mem_of_getElem? HA2.out)
                  rw [HFO.out] at h4; cases h4
                case measure => simp [intOf]; omega
              · have HFO := Lib.hid hfo
                clear hfo
                gi_wp2_with (gi_at_call 104; refine (callsIn_wide.2 (followsT_eq b p an k sa sk _ _ HLX.out HSA.out HSK.out (HH.out _ (List.mem_of_getElem? HSA.out)) (HH.out _ (List.mem_of_getElem? HSK.out)) HFO.out)).mono ?_; rintro e w2 ⟨rfl, y, rfl⟩)
                go_roundw
                case rel =>
                  refine ⟨j + 1, by omega, by go_num, Lib.hid (HBW.out.trans ((below_ext wr y).mono HBW.out.size)), Lib.hid (fun a' ha' => ?_)⟩
                  rw [List.take_add_one, HA2.out] at ha'
                  simp only [Option.toList_some, List.mem_append, List.mem_singleton] at ha'
                  rcases ha' with h1 | rfl
                  · exact HF.out a' h1
                  · exact HFO.out
                case measure => simp [intOf]; omega
            · obtain rfl : j = pl.length := by omega
              have hpk : planB b.ts b.most b.rest (pl ++ [(k : Int)]) = true := (plan_snoc hr).2 ⟨HPL.out, hlt6, ⟨by omega, hk1⟩, fun a ha => HF.out a (by rw [List.take_length]; exact ha)⟩
              have HPK := Lib.hid hpk
              have hPW : PrivM O W wr := HA.out.trans (HSB.out.trans HP3.out)
              have HPW := Lib.hid hPW
              obtain ⟨-, hI3, -, hq3, hqn3⟩ := (HV.out.priv (HSB.out.trans HP3.out) HO.out).1.parts
              have hWz := hPW.size
              clear hpk hPW
              have hl6 : pl.length ≤ 6 := by omega
              gi_wp2_with fail
              refine wpIn_region_flow_back 10 51 (chR (.func (.func 161) #[] #[.pointer (some ⟨yb, 0, none⟩), .pointer (some ⟨lb, 0, none⟩), .pointer (some ⟨cb, 0, none⟩)]) (.slice q pl.length c) q pl k W.heap.size) free_wide rfl (by kernel_rfl) (by kernel_rfl) rfl (chR_kept _ _ _ _ _ _) ?_ ?_
              · intro i hin a2 X g1 g2 g3 g4 g5 KK hKK
                match i, hin with
                | 0, _ => exact st_val rfl (wanted_none rfl) (run_lCh _ rfl (g3 3 (by kernel_rfl)) (((HBX3.out.c.bel g5).cell 0).trans rfl)) (hKK _ _ rfl (Below.refl _ _))
                | 1, _ => exact st_move rfl rfl (wanted_none rfl) (g3 0 (by kernel_rfl)) (hKK _ _ rfl (Below.refl _ _))
                | 2, _ => exact st_move rfl rfl (wanted_none rfl) (g3 0 (by kernel_rfl)) (hKK _ _ rfl (Below.refl _ _))
                | 3, _ => exact st_val rfl (wanted_none rfl) (run_lenT _ rfl (g4 2 (by kernel_rfl))) (hKK _ _ rfl (Below.refl _ _))
                | 4, _ => exact st_move rfl rfl (wanted_none rfl) (g3 0 (by kernel_rfl)) (hKK _ _ rfl (Below.refl _ _))
                | 5, _ => exact st_val rfl (wanted_none rfl) (run_lenT _ rfl (g4 4 (by kernel_rfl))) (hKK _ _ rfl (Below.refl _ _))
                | 6, _ => exact st_val rfl (wanted_none rfl) (run_slT _ rfl (g4 1 (by kernel_rfl)) (g4 3 (by kernel_rfl)) (g4 5 (by kernel_rfl)) hlc (fun a ha => (hq3 a ha).1) (fun e => by have := hqn3 e; omega)) (hKK _ _ rfl (Below.refl _ _))
                | 7, _ => exact st_move rfl rfl (wanted_none rfl) (g3 6 (by kernel_rfl)) (hKK _ _ rfl (Below.refl _ _))
                | 8, _ => exact st_valw rfl (wanted_none rfl) (run_one _ rfl (g4 7 (by kernel_rfl))) (hKK _ _ ⟨_, rfl, Blk.new rfl⟩ ((Below.refl _ _).alloc (Nat.le_refl _) _))
                | 9, _ =>
                  obtain ⟨gg, e8, k8⟩ := g4 8 (by kernel_rfl)
                  exact st_app_growT rfl rfl _ _ rfl q pl (g4 6 (by kernel_rfl)) (fun e => by have := hqn3 e; omega) (hI3.below g5) gg k e8 k8 (by omega) (fun v' w' h1 h2 => hKK _ _ (h1.mono (Nat.le_trans hWz g5.size)) h2)
                | i + 10, hk => omega
              intro vs W2 hvs hBW2
              have v0 : vs 0 = _ := hvs 0 (by omega)
              have v1 : vs 1 = _ := hvs 1 (by omega)
              have v2 : vs 2 = _ := hvs 2 (by omega)
              have v3 : vs 3 = _ := hvs 3 (by omega)
              have v4 : vs 4 = _ := hvs 4 (by omega)
              have v5 : vs 5 = _ := hvs 5 (by omega)
              have v6 : vs 6 = _ := hvs 6 (by omega)
              have v7 : vs 7 = _ := hvs 7 (by omega)
              have hv9 : PlanIn W.heap.size W2 (vs 9) (pl ++ [(k : Int)]) := hvs 9 (by omega)
              obtain ⟨gg, v8, -⟩ := hvs 8 (by omega)
              obtain ⟨nv, hnv⟩ : ∃ v, vs 9 = v := ⟨_, rfl⟩
              rw [hnv] at hv9
              simp only [putAll, v0, v1, v2, v3, v4, v5, v6, v7, v8, hnv]
              clear v0 v1 v2 v3 v4 v5 v6 v7 v8 hnv hvs
              simp only [dstOf, Act.put, List.getElem?_toArray, List.getElem?_cons_zero, List.getElem?_cons_succ, Option.bind_some, Option.getD_some, List.setIfInBounds_toArray, List.set_cons_succ, List.set_cons_zero, List.drop_succ_cons, List.drop_zero]
              have HPW2 := Lib.hid (HPW.out.trans (PrivM.of_below hBW2))
              have HPB2 := Lib.hid (HP3.out.trans (PrivM.of_below hBW2))
              have HBX4 := Lib.hid (HBX3.out.priv (PrivM.of_below (M := O) hBW2) HO.out hyb hlb hcb)
              have HJ4 := Lib.hid (HJ.out _ _ _ (HJ.out _ _ _ HJL.out HBW.out) hBW2)
              have HV9 := Lib.hid hv9
              have HSP2 := Lib.hid (show ∀ x ∈ pre ++ [(.slice q pl.length c, pl)] ++ L, planB b.ts b.most b.rest x.2 = true from fun x hx => by
                rcases List.mem_append.1 hx with h1 | h1
                · exact HSP.out x h1
                · exact ((HC.out x.2).2 ⟨x, h1, rfl⟩).1)
              clear hv9 hBW2 HJL HBW HP3 HBX3 hI3 hq3 hqn3
              gi_wp2_with fail
              refine (HIH.out _ _ _ _ _ (by simp) HPK.out HV9.out HPW2.out HBX4.out HJ4.out HSP2.out).mono ?_
              rintro e w4 ⟨hPr, (⟨rfl, L2, hC2, hJ2⟩ | ⟨rfl, pre', hp', hJx'⟩)⟩
              · have HPr := Lib.hid hPr
                have HC2 := Lib.hid hC2
                have HJ2 := Lib.hid hJ2
                clear hPr hC2 hJ2
                gi_wp2_with fail
                go_roundw
                case rel =>
                  refine ⟨k + 1, L ++ L2, hlt, by go_num, Lib.hid (HPB2.out.trans HPr.out), Lib.hid (by rw [← List.append_assoc]; exact HJ2.out), Lib.hid (HC.out.app HC2.out (fun l' => extK_succ))⟩
                case measure => simp [intOf]; omega
              · have HPr := Lib.hid hPr
                have HJ2 := Lib.hid hJx'
                have HP' := Lib.hid hp'
                clear hPr hJx' hp'
                gi_wp2_with fail
                refine bodyPost_ret (results_tmp rfl _ _ _) rfl ?_
                exact ⟨HSB.out.trans (HPB2.out.trans HPr.out), .inr ⟨rfl, pre', HP'.out, HJ2.out⟩⟩
        · obtain rfl : k = b.ts.length := by omega
          gi_wp2_with fail
          refine bodyPost_ret (results_tmp rfl _ _ _) rfl ?_
          refine ⟨HSB.out.trans HP.out, .inl ⟨rfl, [(.slice q pl.length c, pl)] ++ L, ?_, by rw [← List.append_assoc]; exact HJL.out⟩⟩
          refine Cov.app (P := fun l' => l' = pl) (fun l' => ?_) HC.out (fun l' => ext_split hr HPL.out)
          simp only [List.mem_singleton, exists_eq_left]
          exact eq_comm
  · have HJB := Lib.hid hJB
    have HSB := Lib.hid hSB
    clear hJB hSB hyy hR
    gi_wp2_with fail
    refine bodyPost_ret (results_tmp rfl _ _ _) rfl ?_
    exact ⟨HSB.out, .inr ⟨rfl, _, HSP.out, HJB.out⟩⟩
end
end Go.Proofs.YtcaeohgbgeadaaaGreatDoor

namespace Go.Proofs.YtcaeohgbgeadaaaGreatDoor
open Go Go.RowKit Go.Shelf
theorem choose_in {b : Tk} {p : Tp} {O : Nat → Prop} {w W : World} {l yb lb cb : Nat} {J Jx : List VL → World → Prop}
    (hl : LowsAt w p.tp b.ts) (hW : Below w.heap.size w W) (hO : ∀ k, O k → k < W.heap.size) (hOw : ∀ k, O k → w.heap.size ≤ k) (hh : ∀ s ∈ b.ts, 0 ≤ s.hour ∧ s.hour ≤ 60) (h6 : b.ts.length ≤ 6) (hr : 0 ≤ b.rest) (hm6 : b.most ≤ 6)
    (hJ : Grw J) (hJx : Grw Jx) (hyb : W.heap.size ≤ yb) (hlb : W.heap.size ≤ lb) (hcb : W.heap.size ≤ cb)
    (hY : ∀ m pre x A, W.heap.size ≤ A.heap.size → (∀ y ∈ pre ++ [x], planB b.ts b.most b.rest y.2 = true) → PlanIn W.heap.size A x.1 x.2 → J pre A → YieldAt Fence.wide m Tryz.prog l (encV x) A fun e B =>
      (e = .returned (.bool true) ∧ J (pre ++ [x]) B ∧ PrivM O A B) ∨ (e = .returned (.bool false) ∧ Jx (pre ++ [x]) B ∧ PrivM O A B)) :
    ∀ (d m : Nat) (pre : List VL) (v : Value) (pl : List Int) (A : World), pl.length + d = 7 → planB b.ts b.most b.rest pl = true → PlanIn W.heap.size A v pl → PrivM O W A → ChBox A b p l yb lb cb → J pre A → (∀ x ∈ pre, planB b.ts b.most b.rest x.2 = true) →
      CallsIn Fence.wide m Tryz.prog 161 #[v, .pointer (some ⟨yb, 0, none⟩), .pointer (some ⟨lb, 0, none⟩), .pointer (some ⟨cb, 0, none⟩)] A (ChPost b O J Jx pl pre A)
  | 0, _, _, _, pl, _, hd, hp, _, _, _, _, _ => by
    have := plan_len hp
    omega
  | d + 1, m, pre, v, pl, A, hd, hp, hv, hA, hbx, hj, hpre =>
    choose_step hl hW hO hOw hh h6 hr hm6 hJ hJx hyb hlb hcb hY m pre v pl A
      (fun m' pre' v' pl' A' h1 h2 h3 h4 h5 h7 h8 => choose_in hl hW hO hOw hh h6 hr hm6 hJ hJx hyb hlb hcb hY d m' pre' v' pl' A' (by omega) h2 h3 h4 h5 h7 h8) hp hv hA hbx hj hpre
attribute [local go_sem] Oper.semAt_some frozen_alloc_lt
set_option maxRecDepth 100000 in
set_option maxHeartbeats 4000000 in
theorem plans_in (b : Tk) (p : Tp) (O : Nat → Prop) (w : World) (hl : LowsAt w p.tp b.ts) (hO : ∀ k, O k → w.heap.size ≤ k) (hh : ∀ s ∈ b.ts, 0 ≤ s.hour ∧ s.hour ≤ 60) (h6 : b.ts.length ≤ 6) (hr : 0 ≤ b.rest) (hm : 0 ≤ b.most ∧ b.most ≤ 6) :
    Seq1 Tryz.prog 125 #[tv b p] #[] encV (fun n x A => PlanIn n A x.1 x.2) O (fun xs => ∀ pl, planB b.ts b.most b.rest pl = true ↔ ∃ x ∈ xs, x.2 = pl) (fun pre => ∀ x ∈ pre, planB b.ts b.most b.rest x.2 = true) w := by
  intro n l J Jx W hW hOW hJ hJx hY h0'
  have HC := Lib.hid (fun (yb lb cb : Nat) (hyb : W.heap.size ≤ yb) (hlb : W.heap.size ≤ lb) (hcb : W.heap.size ≤ cb) => choose_in (p := p) (yb := yb) (lb := lb) (cb := cb) hl hW hOW hO hh h6 hr hm.2 hJ hJx hyb hlb hcb (fun m pre x A h1 h2 h3 h4 => hY m pre x A h1 h2 h3 h4))
  have HJ := Lib.hid hJ
  have H0 := Lib.hid h0'
  clear hJ hJx hY h0' hOW hO hl hW hh
  refine callsIn_of_wp Tryz.func125 rfl trivial ?_ rfl
  simp only [Tryz.ntmps125, List.size_toArray, List.length_cons, List.length_nil, Nat.reduceAdd, Nat.reduceSub, Array.replicate_succ, Array.replicate_zero, List.push_toArray, List.append_toArray, List.nil_append, List.cons_append]
  unfold tv
  gi_wp2_with fail
  generalize hA : World.alloc _ _ = A
  have hB : Below W.heap.size W A := by rw [← hA]; (exact belA)
  have kb : ChBox A b p l (W.heap.size + 1) W.heap.size (W.heap.size + 1 + 1) := by
    rw [← hA]
    exact ⟨(Blk.new (by simp)).alloc _, ((Blk.new rfl).alloc _).alloc _, Blk.new (by simp)⟩
  have HB := Lib.hid hB
  clear hA hB
  refine (HC.out _ _ _ (by omega) (by omega) (by omega) 7 _ [] _ [] A rfl (plan_nil hm.1) (PlanIn.nil _ _) (PrivM.of_below HB.out) kb (HJ.out _ _ _ H0.out HB.out) (fun x hx => by cases hx)).mono ?_
  rintro e C ⟨hPr, (⟨rfl, L, hC, hJL⟩ | ⟨rfl, pre', hp', hJx'⟩)⟩
  · have HPr := Lib.hid hPr
    have HCC := Lib.hid hC
    have HJL := Lib.hid hJL
    clear hPr hC hJL kb
    gi_wp2_with fail
    go_end0
    refine ⟨⟨_, rfl⟩, (PrivM.of_below HB.out).trans HPr.out, .inl ⟨L, fun pl => ?_, by have := HJL.out; rwa [List.nil_append] at this⟩⟩
    rw [← HCC.out pl]
    exact ⟨fun h1 => ⟨h1, List.nil_prefix⟩, fun h1 => h1.1⟩
  · have HPr := Lib.hid hPr
    have HP' := Lib.hid hp'
    have HJL := Lib.hid hJx'
    clear hPr hp' hJx' kb
    gi_wp2_with fail
    go_end0
    exact ⟨⟨_, rfl⟩, (PrivM.of_below HB.out).trans HPr.out, .inr ⟨pre', HP'.out, HJL.out⟩⟩
end Go.Proofs.YtcaeohgbgeadaaaGreatDoor

