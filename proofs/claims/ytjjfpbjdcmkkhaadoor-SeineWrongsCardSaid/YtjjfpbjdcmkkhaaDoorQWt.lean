/- Appends of notes to a call's own list: the steps. -/
/- The reference: With. -/
import Derived.Test.YtjjfpbjdcmkkhaaDoorQNh
import Derived.Test.YtjjfpbjdcmkkhaaDoorQFh
import Derived.RegionTactic
import Derived.Test.YtjjfpbjdcmkkhaaDoorQHh
set_option linter.unusedSimpArgs false
set_option linter.unusedVariables false
namespace Go.Proofs.YtjjfpbjdcmkkhaaDoor
open Go Go.RowKit Go.Shelf
section
variable {o : Oper} {w : World} (ρ : Operand → Value)
theorem run_atNote {g j s u n c k : Nat} (hop : o.op = .indexAddr 24 (.tmp s) (.tmp u)) (h1 : ρ (.tmp s) = .slice (some ⟨g, j, none⟩) n c) (h2 : ρ (.tmp u) = .int .i64 k) (hk : k < n) (hl : g < w.heap.size) :
    (execOp ρ o).run Tryd.prog w = .ok (.value (.pointer (some ⟨g, j + k * 4, none⟩))) w := by
  have k0 : (0 : Int) ≤ (k : Int) := by omega
  have k1 : (k : Int) < (n : Int) := by omega
  unfold execOp
  simp [hop, h1, h2, go_sem, hl, k0, k1]
theorem run_noteAt {g j s : Nat} {x y z u : Int} (hop : o.op = .load 38 (.tmp s)) (hs : ρ (.tmp s) = .pointer (some ⟨g, j, none⟩)) (k0 : w.cell? ⟨g, j, none⟩ = some (.int .i64 x)) (k1 : w.cell? ⟨g, j + 1, none⟩ = some (.int .i64 y)) (k2 : w.cell? ⟨g, j + 2, none⟩ = some (.int .i64 z)) (k3 : w.cell? ⟨g, j + 3, none⟩ = some (.int .i64 u)) :
    (execOp ρ o).run Tryd.prog w = .ok (.value (.agg #[.int .i64 x, .int .i64 y, .int .i64 z, .int .i64 u])) w := by
  unfold execOp
  simp [hop, hs, go_sem, k0, k1, k2, k3]
end
/-- What the operations leave that append a note. -/
def woutR (gx gb a j ns cs k : Nat) (p : Option Addr) (m c : Nat) (q1 : Option Addr) (L : List Nt) (s : Nt) (f : Bool) (i : Nat) (u : Value) (w : World) : Prop :=
  match i with
  | 0 => u = .pointer (some ⟨gx, 2, none⟩)
  | 1 => u = .slice p m c ∧ (f = false → OwnNs w (gx + 1) (.slice p m c) L)
  | 2 => u = .pointer (some ⟨gb, 2, none⟩)
  | 3 => u = .slice q1 ns cs
  | 4 => u = .int .i64 k
  | 5 => u = .pointer (some ⟨a, j, none⟩)
  | 6 => u = .agg #[.int .i64 s.kind, .int .i64 s.hour, .int .i64 s.lo, .int .i64 s.hi]
  | 7 => ∃ q, u = .slice (some ⟨q, 0, none⟩) 1 1 ∧ (f = false → Blk w q 38 #[.int .i64 s.kind, .int .i64 s.hour, .int .i64 s.lo, .int .i64 s.hi])
  | 8 => f = true ∧ OwnNs w (gx + 1) u (L ++ [s])
  | 9 => u = .pointer (some ⟨gx, 2, none⟩)
  | _ => True
theorem woutR_kept (gx gb a j ns cs k : Nat) (p : Option Addr) (m c : Nat) (q1 : Option Addr) (L : List Nt) (s : Nt) : ∀ (f : Bool) (i : Nat), i < 10 → ∀ (u : Value) (w w' : World), woutR gx gb a j ns cs k p m c q1 L s f i u w → Below w.heap.size w w' → woutR gx gb a j ns cs k p m c q1 L s f i u w' := by
  intro f i hi u w w' h hb
  rcases (show i = 0 ∨ i = 1 ∨ i = 2 ∨ i = 3 ∨ i = 4 ∨ i = 5 ∨ i = 6 ∨ i = 7 ∨ i = 8 ∨ i = 9 by omega) with hi0 | hi0 | hi0 | hi0 | hi0 | hi0 | hi0 | hi0 | hi0 | hi0
  all_goals subst hi0
  · exact h
  · exact ⟨h.1, fun hf => (h.2 hf).below hb⟩
  · exact h
  · exact h
  · exact h
  · exact h
  · exact h
  · obtain ⟨q, h1, h2⟩ := h; exact ⟨q, h1, fun hf => (h2 hf).bel hb⟩
  · exact ⟨h.1, h.2.below hb⟩
  · exact h
theorem wpList_append_note {ops : Array Oper} {rest : List Oper} {o : Oper} {a : Act} {Q : Exit → Act → World → Prop} {w : World} (hgd : o.guard = none) (s x : Operand)
    (ho : o.op = .call { callee := .builtin .append, args := #[s, x], argTypes := #[24, 24] }) (B : Nat)
    (v : Value) (l : List Nt) (hs : a.eval s = v) (hown : OwnNs w B v l) (g : Nat) (y : Nt) (hx : a.eval x = .slice (some ⟨g, 0, none⟩) 1 1) (hc : Blk w g 38 (ntC y))
    (hl : l.length ≤ 1000) (hB : B ≤ w.heap.size) (n : Nat) (hn : n = l.length + 1)
    (h : ∀ q' c' w', OwnNs w' B (.slice q' n c') (l ++ [y]) → w.grownBy w' v.ownBlock → wpList Tryd.prog ops Q rest (a.put o.dst (.slice q' n c')) w') : wpList Tryd.prog ops Q (o :: rest) a w := by
  obtain ⟨i0, hi, hz0, hz1, hz2⟩ := info_parts info_note
  refine wpList_append_own w hgd s x 24 ho B 38 i0 (.agg #[.int .i64 0, .int .i64 0, .int .i64 0, .int .i64 0]) 4 32 under_notes hi hz0 hz1 hz2 rfl (by decide) v l.length _ hs hown ⟨g, 0, none⟩ 1 1 (encNs [y]) hx rfl ?_ (encNs_one _) ?_ ?_ hB ?_
  · intro j u hj
    match j, hj with
    | 0, hj => simp [encNs] at hj; subst hj; simpa [Addr.add] using hc.cell 0
    | 1, hj => simp [encNs] at hj; subst hj; simpa [Addr.add] using hc.cell 1
    | 2, hj => simp [encNs] at hj; subst hj; simpa [Addr.add] using hc.cell 2
    | 3, hj => simp [encNs] at hj; subst hj; simpa [Addr.add] using hc.cell 3
    | n + 4, hj => simp [encNs] at hj
  · unfold maxLen; omega
  · omega
  · intro v' w' h1 h2 _
    have h3 : OwnNs w' B v' (l ++ [y]) := by
      unfold OwnNs
      rw [encNs_append, List.length_append]
      exact h1
    obtain ⟨p, c, e, -⟩ := h3.at
    rw [List.length_append, List.length_singleton, ← hn] at e
    subst e
    exact h p c w' h3 h2
theorem grown_blk {w w' : World} {r : Option Nat} {g : Nat} {t : TypeId} {cs : Array Value} (h : w.grownBy w' r) (k : Blk w g t cs) (hr : r ≠ some g) : Blk w' g t cs := (h.block g k.lt (fun e => hr e.symm)).trans k
end Go.Proofs.YtjjfpbjdcmkkhaaDoor

namespace Go.Proofs.YtjjfpbjdcmkkhaaDoor
open Go Go.RowKit Go.Shelf
theorem up_le : ∀ {ns : List Nt} {h : Int} {k : Nat} {s : Nt}, k < upN ns h → ns[k]? = some s → s.hour ≤ h
  | [], h, k, s, hk, hs => by simp at hs
  | t :: ns, h, k, s, hk, hs => by
    unfold upN at hk
    rw [List.takeWhile_cons] at hk
    by_cases ht : t.hour ≤ h
    · rw [if_pos (by simpa using ht)] at hk
      cases k with
      | zero => simp at hs; subst hs; exact ht
      | succ k => exact up_le (k := k) (by unfold upN; simpa using hk) (by simpa using hs)
    · rw [if_neg (by simpa using ht)] at hk
      simp at hk
/-- The notes that are gone through, with the further one among them. -/
def wthL (ns : List Nt) (u : Nat) (s : Nt) (k : Nat) : List Nt := if k ≤ u then ns.take k else ns.take u ++ [s] ++ (ns.drop u).take (k - u)
def wthM (ns : List Nt) (u : Nat) (s : Nt) (k : Nat) : List Nt := if k < u then ns.take k else ns.take u ++ [s] ++ (ns.drop u).take (k - u)
theorem wthM_ne {ns : List Nt} {u k : Nat} {s : Nt} (h : k ≠ u) : wthM ns u s k = wthL ns u s k := by
  unfold wthM wthL
  by_cases h1 : k < u
  · rw [if_pos h1, if_pos (by omega)]
  · rw [if_neg h1, if_neg (by omega)]
theorem wthM_eq {ns : List Nt} {u : Nat} {s : Nt} : wthM ns u s u = wthL ns u s u ++ [s] := by
  unfold wthM wthL
  rw [if_neg (by omega), if_pos (by omega), Nat.sub_self]
  simp
theorem wthL_succ {ns : List Nt} {u k : Nat} {s x : Nt} (hx : ns[k]? = some x) : wthL ns u s (k + 1) = wthM ns u s k ++ [x] := by
  unfold wthM wthL
  by_cases h1 : k < u
  · rw [if_pos h1, if_pos (by omega), List.take_add_one, hx]; rfl
  · rw [if_neg h1, if_neg (by omega), show k + 1 - u = k - u + 1 by omega, List.take_add_one, List.getElem?_drop, show u + (k - u) = k by omega, hx]
    simp
theorem wthL_len {ns : List Nt} {u k : Nat} {s : Nt} : (wthL ns u s k).length ≤ k + 1 := by
  unfold wthL
  by_cases h1 : k ≤ u
  · rw [if_pos h1, List.length_take]; omega
  · rw [if_neg h1]
    simp only [List.length_append, List.length_take, List.length_cons, List.length_nil, List.length_drop]
    omega
theorem wthL_end {ns : List Nt} {u : Nat} {s : Nt} (h : u < ns.length) : wthL ns u s ns.length = ns.take u ++ [s] ++ ns.drop u := by
  unfold wthL
  rw [if_neg (by omega)]
  congr 1
  exact List.take_of_length_le (by rw [List.length_drop]; omega)
theorem wthL_last {ns : List Nt} {u : Nat} {s : Nt} (h : u = ns.length) : wthL ns u s ns.length ++ [s] = ns.take u ++ [s] ++ ns.drop u := by
  unfold wthL
  rw [if_pos (by omega), List.drop_of_length_le (by omega), h, List.append_nil]
attribute [local go_sem] Oper.semAt_some frozen_alloc_lt
set_option maxRecDepth 100000 in
set_option maxHeartbeats 8000000 in
theorem With_r (b : Sn) (p0 : Option Addr) (c0 : Nat) (s : Nt) (w : World) (hb : NotesAt w p0 b.ns) (h9 : b.ns.length ≤ 8) :
    Calls Tryd.prog 75 #[bV b p0 c0, .agg (ntC s)] w fun e w' => ∃ p3 c3, e = .returned (bV (withS b s) p3 c3) ∧ OwnNs w' w.heap.size (.slice p3 (withS b s).ns.length c3) (withS b s).ns ∧ ∃ x, w' = ext w x := by
  have HB := Lib.hid hb
  have HUL := Lib.hid (upN_le b.ns s.hour)
  have HUE := Lib.hid (fun k x => up_le (ns := b.ns) (h := s.hour) (k := k) (s := x))
  have HUN := Lib.hid (fun x => upN_not (ns := b.ns) (h := s.hour) (s := x))
  have HRES := Lib.hid (withS_ns b s)
  generalize hu : upN b.ns s.hour = u at HUL HUE HUN HRES
  obtain ⟨kd, hr, lo, hi⟩ := s
  dsimp only [ntC] at *
  clear hb hu
  generalize hs : (⟨kd, hr, lo, hi⟩ : Nt) = s at HRES
  have HSS := Lib.hid hs
  clear hs
  go_enter Tryd.func75, Tryd.ntmps75
  go_upto_region 3 with fail
  generalize hW : (((w.alloc _).alloc _).alloc _).alloc _ = W
  obtain ⟨gb, egb⟩ : ∃ gb, w.heap.size = gb := ⟨_, rfl⟩
  have hWB : Below w.heap.size w W := by rw [← hW]; (repeat (first | (with_reducible exact Below.refl _ _) | (with_reducible assumption) | ((with_reducible refine below_ext_trans ?_ ?_ _); rotate_left; focus (((try dsimp only); repeat (first | omega | simp only [World.size_alloc, World.size_setCell, World.size_drew] | (with_reducible refine le_ext_of ?_) | (with_reducible refine le_ext_add ?_))); done)) | ((with_reducible refine Below.alloc ?_ ?_ _); rotate_left; focus (((try dsimp only); repeat (first | omega | simp only [World.size_alloc, World.size_setCell, World.size_drew] | (with_reducible refine le_ext_of ?_) | (with_reducible refine le_ext_add ?_))); done)) | ((with_reducible refine Below.setCell ?_ ?_ _); rotate_left; focus (((try dsimp only); repeat (first | omega | simp only [World.size_alloc, World.size_setCell, World.size_drew] | (with_reducible refine le_ext_of ?_) | (with_reducible refine le_ext_add ?_))); done)) | (with_reducible refine Below.drew ?_)))
  have hWs : W.heap.size = gb + 4 := by rw [← hW]; simp; omega
  have kb : Blk W gb 26 #[.int .i64 b.lo, .int .i64 b.hi, .slice p0 b.ns.length c0] := by rw [← hW]; exact (((Blk.new egb.symm).alloc _).alloc _).alloc _
  have kn : Blk W (gb + 1) 38 #[.int .i64 kd, .int .i64 hr, .int .i64 lo, .int .i64 hi] := by rw [← hW]; exact ((Blk.new (by simp; omega)).alloc _).alloc _
  have kr : Blk W (gb + 2) 26 #[.int .i64 0, .int .i64 0, .slice none 0 0] := by rw [← hW]; exact (Blk.new (by simp; omega)).alloc _
  have kx : Blk W (gb + 3) 26 #[.int .i64 b.lo, .int .i64 b.hi, .slice none 0 0] := by rw [← hW]; exact Blk.new (by simp; omega)
  have HWB := Lib.hid hWB
  have HWs := Lib.hid hWs
  have KB := Lib.hid kb
  have KN := Lib.hid kn
  have KR := Lib.hid kr
  have KX := Lib.hid kx
  have HE := Lib.hid egb
  rw [egb, show gb + 1 + 1 + 1 = gb + 3 from rfl, show gb + 1 + 1 = gb + 2 from rfl]
  clear hW hWB hWs kb kr kx kn egb
  go_wp2_with fail
  go_loopw [6, 7] (fun f i wr => ∃ (k : Nat) (q : Bool) (p : Option Addr) (c m : Nat), k ≤ b.ns.length ∧ i = .int .i64 k ∧ f = .bool q ∧ Hid (q = decide (u < k)) ∧ Hid ((wthL b.ns u s k).length = m) ∧ Hid (Blk wr (gb + 3) 26 #[.int .i64 b.lo, .int .i64 b.hi, .slice p m c]) ∧ Hid (OwnNs wr (gb + 3 + 1) (.slice p m c) (wthL b.ns u s k)) ∧ Hid (Below (gb + 3) W wr)) (fun _ i _ => b.ns.length - (intOf i).toNat)
  case atStart => exact ⟨0, false, none, 0, 0, by omega, rfl, rfl, Lib.hid (by simp), Lib.hid (by simp [wthL]), KX, Lib.hid (by simpa [wthL] using OwnNs.nil _ _), Lib.hid (Below.refl _ _)⟩
  case round =>
    obtain ⟨k, q, p, c, m, hk, rfl, rfl, HQ, HM, HX, HO, HBL⟩ := hrel
    have kb : Blk wr gb 26 #[.int .i64 b.lo, .int .i64 b.hi, .slice p0 b.ns.length c0] := (HBL.out.block gb (by omega)).trans KB.out
    have kn : Blk wr (gb + 1) 38 #[.int .i64 kd, .int .i64 hr, .int .i64 lo, .int .i64 hi] := (HBL.out.block (gb + 1) (by omega)).trans KN.out
    have hbw : Below w.heap.size w wr := HWB.out.trans (HBL.out.mono (by have := HE.out; omega))
    have HBW := Lib.hid hbw
    have KB2 := Lib.hid kb
    have KN2 := Lib.hid kn
    clear kb hbw kn
    have d2 := KB2.out.cell 2
    have n1 := KN2.out.cell 1
    simp only [List.size_toArray, List.length_cons, List.length_nil, Nat.reduceAdd, Nat.reduceLT, getElem?_pos, List.getElem_toArray, List.getElem_cons_zero, List.getElem_cons_succ] at d2 n1
    have kl := KB2.out.lt
    have nl := KN2.out.lt
    have xl := HX.out.lt
    by_cases hlt : k < b.ns.length
    · obtain ⟨t, ht⟩ := get_some b.ns k hlt
      have HT := Lib.hid ht
      have hk1 : (k : Int) < (b.ns.length : Int) := by omega
      have hk0 : (0 : Int) ≤ (k : Int) := by omega
      clear ht
      obtain ⟨bb1, o1, hps, hb1, c0', c1', c2', c3'⟩ := (HB.out.below HBW.out) k _ HT.out
      subst hps
      have HA := Lib.hid hb1
      have HQQ := Lib.hid (And.intro c0' (And.intro c1' (And.intro c2' c3')))
      have hbb : bb1 < gb := by
        obtain ⟨b2, o2, e, h2, -⟩ := HB.out k _ HT.out
        cases e
        have := HE.out; omega
      obtain ⟨gg, hgg⟩ : ∃ gg, decide (k = u) = gg := ⟨_, rfl⟩
      have HGG := Lib.hid hgg
      clear hgg c0' c2' c3'
      go_upto_region 7 with fail
      go_cut [29] from 17 to 30 (fun v wx => v = .bool gg ∧ Below wr.heap.size wr wx)
      case first =>
        cases q
        · have HH := Lib.hid (show decide (hr < t.hour) = gg by
            have e1 : ¬ u < k := by have := HQ.out; simpa using this
            rw [← HGG.out]
            by_cases e2 : k = u
            · subst e2
              have h1 := HUN.out t HT.out
              simp [h1]
            · have h1 := HUE.out k t (by omega) HT.out
              rw [decide_eq_false e2, decide_eq_false (by omega)])
          refine wp_region_ext (by kernel_rfl) (by kernel_rfl) ?_
          repeat (go_big_quiet_step (fail))
          (refine wpQuiet_nil ?_; rintro _ ⟨x, rfl⟩)
          go_wp2_with fail
          go_meet
          exact ⟨congrArg Value.bool HH.out, below_ext _ _⟩
        · have HH := Lib.hid (show gg = false by
            have e1 : u < k := by have := HQ.out; simpa using this
            rw [← HGG.out]
            exact decide_eq_false (by omega))
          refine wp_region_ext (by kernel_rfl) (by kernel_rfl) ?_
          repeat (go_big_quiet_step (fail))
          (refine wpQuiet_nil ?_; rintro _ ⟨x, rfl⟩)
          go_wp2_with fail
          go_meet
          exact ⟨congrArg Value.bool HH.out.symm, below_ext _ _⟩
      case rest =>
        obtain ⟨e29, hB7⟩ := hcut
        subst e29
        have HB7 := Lib.hid hB7
        have HX7 := Lib.hid (HX.out.bel hB7)
        have HO7 := Lib.hid (HO.out.below hB7)
        have KN7 := Lib.hid (KN2.out.bel hB7)
        have HBL7 := Lib.hid (HBL.out.trans (hB7.mono (by have := HX.out.lt; omega)))
        clear hB7 d2 n1 kl nl xl HX HO KB2 KN2 c1' hb1 HA HQQ
        go_upto_if 29 with fail
        go_cut [6] from 30 to 36 (fun v wx => ∃ (p' : Option Addr) (c' m' : Nat), v = .bool (decide (u < k + 1)) ∧ (wthM b.ns u s k).length = m' ∧ Blk wx (gb + 3) 26 #[.int .i64 b.lo, .int .i64 b.hi, .slice p' m' c'] ∧ OwnNs wx (gb + 3 + 1) (.slice p' m' c') (wthM b.ns u s k) ∧ Below (gb + 3) W wx)
        case first =>
          cases gg
          · have hne : k ≠ u := by have := HGG.out; simpa using this
            have HME := Lib.hid (wthM_ne (ns := b.ns) (s := s) hne)
            have HF := Lib.hid (show q = decide (u < k + 1) by rw [HQ.out]; congr 1; exact propext ⟨fun h => by omega, fun h => by omega⟩)
            clear hne
            go_wp2_with fail
            go_meet
            exact ⟨p, c, m, congrArg Value.bool HF.out, by rw [HME.out]; exact HM.out, HX7.out, by rw [HME.out]; exact HO7.out, HBL7.out⟩
          · have HKU := Lib.hid (show k = u by have := HGG.out; simpa using this)
            have HWM := Lib.hid (show wthM b.ns u s k = wthL b.ns u s k ++ [s] by rw [HKU.out]; exact wthM_eq)
            have n0 := KN7.out.cell 0
            have n1 := KN7.out.cell 1
            have n2 := KN7.out.cell 2
            have n3 := KN7.out.cell 3
            have x2 := HX7.out.cell 2
            have xf := HX7.out.frozen 2
            simp only [List.size_toArray, List.length_cons, List.length_nil, Nat.reduceAdd, Nat.reduceLT, getElem?_pos, List.getElem_toArray, List.getElem_cons_zero, List.getElem_cons_succ] at n0 n1 n2 n3 x2
            have nl := KN7.out.lt
            have xl := HX7.out.lt
            have hml : (wthL b.ns u s k).length ≤ 1000 := by have := wthL_len (ns := b.ns) (u := u) (k := k) (s := s); omega
            have HML := Lib.hid hml
            have hrow : ∀ g, (Value.slice p m c).ownBlock = some g → gb + 3 + 1 ≤ g := fun g hg => (HO7.out.lt g hg).1
            have HROW := Lib.hid hrow
            clear hml hrow
            go_wp2_with (at_builtin; refine wpList_append_note rfl _ _ rfl (gb + 3 + 1) _ _ rfl (HO7.out.below ((Below.refl _ _).alloc (Nat.le_refl _) _)) wc.heap.size ⟨kd, hr, lo, hi⟩ rfl (Blk.new rfl) HML.out (by simp; omega) (m + 1) (by rw [HM.out]) ?_; intro q3 d3 w1 ho3 hg3; have HO3 := Lib.hid ho3; have HG3 := Lib.hid hg3; have kx1 : Blk w1 (gb + 3) 26 #[.int .i64 b.lo, .int .i64 b.hi, .slice p m c] := grown_blk hg3 (HX7.out.alloc _) (by intro e; have := HROW.out _ e; omega); have KX1 := Lib.hid kx1; have x12 := kx1.cell 2; have f12 := kx1.frozen 2; have lx1 := kx1.lt; clear ho3 hg3 kx1; simp only [List.size_toArray, List.length_cons, List.length_nil, Nat.reduceAdd, Nat.reduceLT, getElem?_pos, List.getElem_toArray, List.getElem_cons_zero, List.getElem_cons_succ] at x12)
            go_meet
            refine ⟨q3, d3, m + 1, congrArg Value.bool (decide_eq_true (by have := HKU.out; omega)).symm, ?_, by simpa using KX1.out.set 2 (.slice q3 (m + 1) d3), ?_, ?_⟩
            · rw [HWM.out, List.length_append, HM.out]; rfl
            · rw [HWM.out]
              have h8 := HO3.out
              rw [HSS.out] at h8
              exact h8.kept (fun g hg => by have := (HO3.out.lt g hg).1; exact Below.heap_setCell _ _ _ _ (by dsimp only; omega))
            · refine Below.setCell (Below.grown (w := wc.alloc (.cells #[.int .i64 kd, .int .i64 hr, .int .i64 lo, .int .i64 hi] 38)) (HBL7.out.alloc (by omega) _) HG3.out (by simp; omega) (fun j hj => by have := HROW.out j hj; omega)) (by dsimp only; omega) _
        case rest =>
          obtain ⟨p', c', m', e6, hm', hx', ho', hbl'⟩ := hcut
          subst e6
          have HM2 := Lib.hid hm'
          have HX2 := Lib.hid hx'
          have HO2 := Lib.hid ho'
          have HBL2 := Lib.hid hbl'
          have hbw : Below w.heap.size w wc := HWB.out.trans (hbl'.mono (by have := HE.out; omega))
          have HBW2 := Lib.hid hbw
          have kb : Blk wc gb 26 #[.int .i64 b.lo, .int .i64 b.hi, .slice (some ⟨bb1, o1, none⟩) b.ns.length c0] := (hbl'.block gb (by omega)).trans KB.out
          have KB3 := Lib.hid kb
          obtain ⟨b2, o2, hps2, hb2, c0', c1', c2', c3'⟩ := (HB.out.below hbw) k _ HT.out
          cases hps2
          have HA := Lib.hid hb2
          have HQQ := Lib.hid (And.intro c0' (And.intro c1' (And.intro c2' c3')))
          have hrow : ∀ g, (Value.slice p' m' c').ownBlock = some g → gb + 3 + 1 ≤ g := fun g hg => (ho'.lt g hg).1
          have HROW := Lib.hid hrow
          have hml : (wthM b.ns u s k).length ≤ 1000 := by
            have h1 := wthL_len (ns := b.ns) (u := u) (k := k + 1) (s := s)
            rw [wthL_succ HT.out, List.length_append] at h1
            omega
          have HU := Lib.hid (wthL_succ (u := u) (s := s) HT.out)
          clear hm' hx' ho' hbl' hbw kb hb2 c0' c1' c2' c3' hrow HX7 HO7 KN7 HBL7 HB7 HM
          go_upto_region 9 with fail
          refine wp_region_flow_backH 10 55 8 (Value.slice p' m' c').ownBlock (woutR (gb + 3) gb bb1 (o1 + k * 4) b.ns.length c0 k p' m' c' (some ⟨bb1, o1, none⟩) (wthM b.ns u s k) t) (by kernel_rfl) (by kernel_rfl) rfl (by omega) (woutR_kept _ _ _ _ _ _ _ _ _ _ _ _ _) ?_ ?_ ?_
          · intro i hin hne f a W1 h1 h2 h3 h4 h5' h6' KK hKK
            have far : ∀ g', g' < wc.heap.size → g' ≤ gb + 3 → W1.heap[g']? = wc.heap[g']? := fun g' hg hg2 => h5'.block g' hg (fun e => by have := HROW.out g' e.symm; omega)
            rcases (show i = 0 ∨ i = 1 ∨ i = 2 ∨ i = 3 ∨ i = 4 ∨ i = 5 ∨ i = 6 ∨ i = 7 ∨ i = 9 by omega) with hi0 | hi0 | hi0 | hi0 | hi0 | hi0 | hi0 | hi0 | hi0
            · subst hi0
              exact st_val rfl (wanted_none rfl) (run_fBook1 _ rfl (h3 5 (by kernel_rfl)) (Nat.lt_of_lt_of_le HX2.out.lt h5'.size)) (hKK _ _ rfl (Below.refl _ _))
            · subst hi0
              have kx : Blk W1 (gb + 3) _ _ := (far (gb + 3) HX2.out.lt (by omega)).trans HX2.out
              exact st_val rfl (wanted_none rfl) (run_lNotes _ rfl (h4 0 (by kernel_rfl)) (Blk.cell kx 2)) (hKK _ _ ⟨rfl, fun hf => HO2.out.below (h6' hf)⟩ (Below.refl _ _))
            · subst hi0
              exact st_val rfl (wanted_none rfl) (run_fBook1 _ rfl (h3 2 (by kernel_rfl)) (Nat.lt_of_lt_of_le KB3.out.lt h5'.size)) (hKK _ _ rfl (Below.refl _ _))
            · subst hi0
              have kb : Blk W1 gb _ _ := (far gb KB3.out.lt (by omega)).trans KB3.out
              exact st_val rfl (wanted_none rfl) (run_lNotes _ rfl (h4 2 (by kernel_rfl)) (Blk.cell kb 2)) (hKK _ _ rfl (Below.refl _ _))
            · subst hi0
              exact st_move rfl rfl (wanted_none rfl) (h3 7 (by kernel_rfl)) (hKK _ _ rfl (Below.refl _ _))
            · subst hi0
              exact st_val rfl (wanted_none rfl) (run_atNote _ rfl (h4 3 (by kernel_rfl)) (h4 4 (by kernel_rfl)) hlt (Nat.lt_of_lt_of_le HA.out h5'.size)) (hKK _ _ rfl (Below.refl _ _))
            · subst hi0
              have hc : ∀ j, W1.cell? ⟨bb1, j, none⟩ = wc.cell? ⟨bb1, j, none⟩ := fun j => World.cell?_of_block (a := ⟨bb1, j, none⟩) (far bb1 HA.out (by omega))
              exact st_val rfl (wanted_none rfl) (run_noteAt _ rfl (h4 5 (by kernel_rfl)) ((hc _).trans HQQ.out.1) ((hc _).trans HQQ.out.2.1) ((hc _).trans HQQ.out.2.2.1) ((hc _).trans HQQ.out.2.2.2)) (hKK _ _ rfl (Below.refl _ _))
            · subst hi0
              exact st_valw rfl (wanted_none rfl) (run_bsNote _ rfl (h4 6 (by kernel_rfl))) (hKK _ _ ⟨_, rfl, fun _ => Blk.new rfl⟩ ((Below.refl _ _).alloc (Nat.le_refl _) _))
            · subst hi0
              exact st_val rfl (wanted_none rfl) (run_fBook1 _ rfl (h3 5 (by kernel_rfl)) (Nat.lt_of_lt_of_le HX2.out.lt h5'.size)) (hKK _ _ rfl (Below.refl _ _))
          · intro a W1 h1 h2 h3 h4 h5' KK hKK
            obtain ⟨e1, ho⟩ := h4 1 (by kernel_rfl)
            obtain ⟨q, e2, hq⟩ := h4 7 (by kernel_rfl)
            refine st_append_note rfl (wanted_none rfl) _ _ rfl (gb + 3 + 1) _ _ e1 (ho rfl) q t e2 (hq rfl) hml (by have := HX2.out.lt; have := h5'.size; omega) ?_
            intro v' w' h7 h8
            refine hKK _ _ ⟨rfl, h7⟩ (fun j u hj hr => ?_) h8
            rcases (show j = 0 ∨ j = 1 ∨ j = 2 ∨ j = 3 ∨ j = 4 ∨ j = 5 ∨ j = 6 ∨ j = 7 ∨ j = 8 ∨ j = 9 by omega) with hi0 | hi0 | hi0 | hi0 | hi0 | hi0 | hi0 | hi0 | hi0 | hi0
            all_goals subst hi0
            · exact hr
            · exact ⟨hr.1, fun hf => by cases hf⟩
            · exact hr
            · exact hr
            · exact hr
            · exact hr
            · exact hr
            · obtain ⟨q', e, _⟩ := hr; exact ⟨q', e, fun hf => by cases hf⟩
            · exact absurd hr.1 (by decide)
            · exact hr
          · intro vs W3 hvs hB3
            have v0 : vs 0 = _ := hvs 0 (by omega)
            have v1 : vs 1 = _ := (hvs 1 (by omega)).1
            have v2 : vs 2 = _ := hvs 2 (by omega)
            have v3 : vs 3 = _ := hvs 3 (by omega)
            have v4 : vs 4 = _ := hvs 4 (by omega)
            have v5 : vs 5 = _ := hvs 5 (by omega)
            have v6 : vs 6 = _ := hvs 6 (by omega)
            obtain ⟨q, v7, -⟩ := hvs 7 (by omega)
            have ho8 := (hvs 8 (by omega)).2
            obtain ⟨p9, c9, v8, -⟩ := ho8.at
            have v9 : vs 9 = _ := hvs 9 (by omega)
            rw [v8] at ho8
            obtain ⟨m9, hm'⟩ : ∃ m9, (wthM b.ns u s k ++ [t]).length = m9 := ⟨_, rfl⟩
            rw [hm'] at ho8 v8
            simp only [putAll, v0, v1, v2, v3, v4, v5, v6, v7, v8, v9]
            clear v0 v1 v2 v3 v4 v5 v6 v7 v8 v9 hvs
            simp only [dstOf, Act.put, List.getElem?_toArray, List.getElem?_cons_zero, List.getElem?_cons_succ, Option.bind_some, Option.getD_some, List.setIfInBounds_toArray, List.set_cons_succ, List.set_cons_zero, List.drop_succ_cons, List.drop_zero]
            have kx3 : Blk W3 (gb + 3) 26 #[.int .i64 b.lo, .int .i64 b.hi, .slice p' m' c'] := (hB3.block _ HX2.out.lt (fun e => by have := HROW.out _ e.symm; omega)).trans HX2.out
            have x2 := kx3.cell 2
            have f2 := kx3.frozen 2
            simp only [List.size_toArray, List.length_cons, List.length_nil, Nat.reduceAdd, Nat.reduceLT, getElem?_pos, List.getElem_toArray, List.getElem_cons_zero, List.getElem_cons_succ] at x2
            have xl3 := kx3.lt
            have hbl3 : Below (gb + 3) W W3 := Below.grown HBL2.out hB3 (by have := HX2.out.lt; omega) (fun j hj => by have := HROW.out j hj; omega)
            have KX3 := Lib.hid kx3
            have HO8 := Lib.hid ho8
            have HM8 := Lib.hid hm'
            have HBL3 := Lib.hid hbl3
            clear kx3 ho8 hm' hbl3 hB3
            go_wp2_with fail
            go_roundw
            case rel => exact ⟨k + 1, decide (u < k + 1), p9, c9, m9, by omega, by go_num, rfl, Lib.hid rfl, by rw [HU.out]; exact HM8, Lib.hid (by simpa using KX3.out.set 2 (.slice p9 m9 c9)), by rw [HU.out]; exact Lib.hid (HO8.out.kept (fun g hg => by have := (HO8.out.lt g hg).1; exact Below.heap_setCell _ _ _ _ (by dsimp only; omega))), Lib.hid (HBL3.out.setCell (by dsimp only; omega) _)⟩
            case measure => simp [intOf]; omega
    · obtain rfl : k = b.ns.length := by omega
      have kr : Blk wr (gb + 2) 26 #[.int .i64 0, .int .i64 0, .slice none 0 0] := (HBL.out.block (gb + 2) (by omega)).trans KR.out
      have KRR := Lib.hid kr
      have HML := Lib.hid (show (wthL b.ns u s b.ns.length).length ≤ 1000 by have := wthL_len (ns := b.ns) (u := u) (k := b.ns.length) (s := s); omega)
      have hrow : ∀ g, (Value.slice p m c).ownBlock = some g → gb + 3 + 1 ≤ g := fun g hg => (HO.out.lt g hg).1
      have HROW := Lib.hid hrow
      have x0 := HX.out.cell 0
      have x1 := HX.out.cell 1
      have x2 := HX.out.cell 2
      have xf := HX.out.frozen 2
      have r0 := kr.cell 0
      have r1 := kr.cell 1
      have r2 := kr.cell 2
      have s0 := kr.frozen 0
      have s1 := kr.frozen 1
      have s2 := kr.frozen 2
      have n0 := KN2.out.cell 0
      have n2 := KN2.out.cell 2
      have n3 := KN2.out.cell 3
      simp only [List.size_toArray, List.length_cons, List.length_nil, Nat.reduceAdd, Nat.reduceLT, getElem?_pos, List.getElem_toArray, List.getElem_cons_zero, List.getElem_cons_succ] at x0 x1 x2 r0 r1 r2 n0 n2 n3
      have rl := kr.lt
      clear kr hrow
      by_cases hun : u < b.ns.length
      · have HEND := Lib.hid (show wthL b.ns u s b.ns.length = (withS b s).ns from (wthL_end hun).trans HRES.out.symm)
        have hq : q = true := by have := HQ.out; rw [decide_eq_true hun] at this; exact this
        subst hq
        have hO3 : OwnNs (((wr.setCell ⟨gb + 2, 0, none⟩ (.int .i64 b.lo)).setCell ⟨gb + 2, 1, none⟩ (.int .i64 b.hi)).setCell ⟨gb + 2, 2, none⟩ (.slice p m c)) (gb + 3 + 1) (.slice p m c) (withS b s).ns := by
          rw [← HEND.out]
          exact HO.out.kept (fun g hg => by
            have h1 := (HO.out.lt g hg).1
            have e : ∀ (w : World) (i : Nat) (v : Value), (w.setCell ⟨gb + 2, i, none⟩ v).heap[g]? = w.heap[g]? := fun w i v => Below.heap_setCell _ _ _ _ (by dsimp only; omega)
            rw [e, e, e])
        have HO3 := Lib.hid hO3
        have HM3 := Lib.hid (show (withS b s).ns.length = m by rw [← HEND.out]; exact HM.out)
        clear hO3 hun
        go_wp2_with fail
        refine bodyPost_ret (v := .agg #[.int .i64 b.lo, .int .i64 b.hi, .slice p m c]) (by simp [results, Tryd.results75, go_sem, r0, r1, r2, s0, s1, s2, rl]) rfl ?_
        refine ⟨p, c, by show Ending.returned (Value.agg #[.int .i64 b.lo, .int .i64 b.hi, .slice p m c]) = Ending.returned (.agg #[.int .i64 b.lo, .int .i64 b.hi, .slice p (withS b s).ns.length c]); rw [HM3.out], by rw [HM3.out]; exact HO3.out.mono (by have := HE.out; omega), ext_of ?_⟩
        have hB := HBW.out
        have hE := HE.out
        show Below w.heap.size w (((wr.setCell ⟨gb + 2, 0, none⟩ _).setCell ⟨gb + 2, 1, none⟩ _).setCell ⟨gb + 2, 2, none⟩ _)
        (repeat (first | (with_reducible exact Below.refl _ _) | (with_reducible assumption) | ((with_reducible refine below_ext_trans ?_ ?_ _); rotate_left; focus (((try dsimp only); repeat (first | omega | simp only [World.size_alloc, World.size_setCell, World.size_drew] | (with_reducible refine le_ext_of ?_) | (with_reducible refine le_ext_add ?_))); done)) | ((with_reducible refine Below.alloc ?_ ?_ _); rotate_left; focus (((try dsimp only); repeat (first | omega | simp only [World.size_alloc, World.size_setCell, World.size_drew] | (with_reducible refine le_ext_of ?_) | (with_reducible refine le_ext_add ?_))); done)) | ((with_reducible refine Below.setCell ?_ ?_ _); rotate_left; focus (((try dsimp only); repeat (first | omega | simp only [World.size_alloc, World.size_setCell, World.size_drew] | (with_reducible refine le_ext_of ?_) | (with_reducible refine le_ext_add ?_))); done)) | (with_reducible refine Below.drew ?_)))
      · have HEND := Lib.hid (show wthL b.ns u s b.ns.length ++ [s] = (withS b s).ns from (wthL_last (by have := HUL.out; omega)).trans HRES.out.symm)
        have hq : q = false := by have := HQ.out; rw [decide_eq_false hun] at this; exact this
        subst hq
        clear hun
        go_wp2_with (at_builtin; refine wpList_append_note rfl _ _ rfl (gb + 3 + 1) _ _ rfl (HO.out.below ((Below.refl _ _).alloc (Nat.le_refl _) _)) wr.heap.size ⟨kd, hr, lo, hi⟩ rfl (Blk.new rfl) HML.out (by simp; omega) (m + 1) (by rw [HM.out]) ?_; intro q3 d3 w1 ho3 hg3; have HO3 := Lib.hid ho3; have HG3 := Lib.hid hg3; have kx1 : Blk w1 (gb + 3) 26 #[.int .i64 b.lo, .int .i64 b.hi, .slice p m c] := grown_blk hg3 (HX.out.alloc _) (by intro e; have := HROW.out _ e; omega); have kr1 : Blk w1 (gb + 2) 26 #[.int .i64 0, .int .i64 0, .slice none 0 0] := grown_blk hg3 (KRR.out.alloc _) (by intro e; have := HROW.out _ e; omega); have KX1 := Lib.hid kx1; have KR1 := Lib.hid kr1; have x12 := kx1.cell 2; have x10 := kx1.cell 0; have x11 := kx1.cell 1; have f12 := kx1.frozen 2; have lx1 := kx1.lt; have r10 := kr1.cell 0; have r11 := kr1.cell 1; have r12 := kr1.cell 2; have g10 := kr1.frozen 0; have g11 := kr1.frozen 1; have g12 := kr1.frozen 2; have lr1 := kr1.lt; clear ho3 hg3 kx1 kr1; simp only [List.size_toArray, List.length_cons, List.length_nil, Nat.reduceAdd, Nat.reduceLT, getElem?_pos, List.getElem_toArray, List.getElem_cons_zero, List.getElem_cons_succ] at x10 x11 x12 r10 r11 r12)
        have hL8 : (withS b s).ns.length = m + 1 := by rw [← HEND.out, List.length_append, HM.out]; rfl
        have hO8 := HO3.out
        rw [HSS.out, HEND.out] at hO8
        have hk9 : Blk ((((w1.setCell ⟨gb + 3, 2, none⟩ (.slice q3 (m + 1) d3)).setCell ⟨gb + 2, 0, none⟩ (.int .i64 b.lo)).setCell ⟨gb + 2, 1, none⟩ (.int .i64 b.hi)).setCell ⟨gb + 2, 2, none⟩ (.slice q3 (m + 1) d3)) (gb + 2) 26 #[.int .i64 b.lo, .int .i64 b.hi, .slice q3 (m + 1) d3] := by
          simpa using (((KR1.out.setOther (by omega) 2 (.slice q3 (m + 1) d3)).set 0 (.int .i64 b.lo)).set 1 (.int .i64 b.hi)).set 2 (.slice q3 (m + 1) d3)
        have hO9 : OwnNs ((((w1.setCell ⟨gb + 3, 2, none⟩ (.slice q3 (m + 1) d3)).setCell ⟨gb + 2, 0, none⟩ (.int .i64 b.lo)).setCell ⟨gb + 2, 1, none⟩ (.int .i64 b.hi)).setCell ⟨gb + 2, 2, none⟩ (.slice q3 (m + 1) d3)) (gb + 3 + 1) (.slice q3 (m + 1) d3) (withS b s).ns := hO8.kept (fun g hg => by
          have h1 := (hO8.lt g hg).1
          have e : ∀ (w : World) (i : Nat) (v : Value), (w.setCell ⟨gb + 2, i, none⟩ v).heap[g]? = w.heap[g]? := fun w i v => Below.heap_setCell _ _ _ _ (by dsimp only; omega)
          have e' : ∀ (w : World) (i : Nat) (v : Value), (w.setCell ⟨gb + 3, i, none⟩ v).heap[g]? = w.heap[g]? := fun w i v => Below.heap_setCell _ _ _ _ (by dsimp only; omega)
          rw [e, e, e, e'])
        have hB9 : Below w.heap.size w ((((w1.setCell ⟨gb + 3, 2, none⟩ (.slice q3 (m + 1) d3)).setCell ⟨gb + 2, 0, none⟩ (.int .i64 b.lo)).setCell ⟨gb + 2, 1, none⟩ (.int .i64 b.hi)).setCell ⟨gb + 2, 2, none⟩ (.slice q3 (m + 1) d3)) := by
          have hE := HE.out
          exact ((((Below.grown (w := wr.alloc (.cells #[.int .i64 kd, .int .i64 hr, .int .i64 lo, .int .i64 hi] 38)) (HBW.out.alloc HBW.out.size _) HG3.out (by have := HBW.out.size; simp; omega) (fun j hj => by have := HROW.out j hj; omega)).setCell (by dsimp only; omega) _).setCell (by dsimp only; omega) _).setCell (by dsimp only; omega) _).setCell (by dsimp only; omega) _
        generalize ((((w1.setCell ⟨gb + 3, 2, none⟩ (.slice q3 (m + 1) d3)).setCell ⟨gb + 2, 0, none⟩ (.int .i64 b.lo)).setCell ⟨gb + 2, 1, none⟩ (.int .i64 b.hi)).setCell ⟨gb + 2, 2, none⟩ (.slice q3 (m + 1) d3)) = W9 at *
        have z0 := hk9.cell 0
        have z1 := hk9.cell 1
        have z2 := hk9.cell 2
        have zl := hk9.lt
        simp only [List.size_toArray, List.length_cons, List.length_nil, Nat.reduceAdd, Nat.reduceLT, getElem?_pos, List.getElem_toArray, List.getElem_cons_zero, List.getElem_cons_succ] at z0 z1 z2
        refine bodyPost_ret (v := .agg #[.int .i64 b.lo, .int .i64 b.hi, .slice q3 (m + 1) d3]) (by simp [results, Tryd.results75, go_sem, z0, z1, z2, zl]) rfl ?_
        exact ⟨q3, d3, by show Ending.returned (Value.agg #[.int .i64 b.lo, .int .i64 b.hi, .slice q3 (m + 1) d3]) = Ending.returned (.agg #[.int .i64 b.lo, .int .i64 b.hi, .slice q3 (withS b s).ns.length d3]); rw [hL8], by rw [hL8]; exact hO9.mono (by have := HE.out; omega), ext_of hB9⟩
end Go.Proofs.YtjjfpbjdcmkkhaaDoor

