/- Package seine: Empty. -/
/- Package seine: a question's drawn region. Written by gen_ask.py. -/
import Derived.Test.YtjjfpbjdcmkkhaaDoorQNa
import Derived.Test.YtjjfpbjdcmkkhaaDoorQFh
set_option linter.unusedSimpArgs false
set_option linter.unusedVariables false
namespace Go.Proofs.YtjjfpbjdcmkkhaaDoor
open Go Go.RowKit Go.Shelf
attribute [local go_sem] Oper.semAt_some frozen_alloc_lt
theorem field_top (x y : Int) (w : World) : (Instr.field 23 (.agg #[.int .i64 x, .int .i64 y]) 1).run Tryd.prog w = .ok (.int .i64 y) w := by
  simp [Instr.field, run_underlying Tryd.underlying91, go_sem, part, asAgg]
/-- The most that is held at an hour. -/
abbrev topH (b : Sn) (h : Int) : Int := maxF Prod.fst 0 (atL b h)
set_option maxHeartbeats 1000000 in
theorem Empty_err (b : Sn) (p : Option Addr) (c : Nat) (code : Int) (w : World) (hk : SBk w b p) (h : AErr b true code) :
    Calls Tryd.prog 25 #[.agg #[.int .i64 b.lo, .int .i64 b.hi, .slice p b.ns.length c]] w fun e w' => e = .returned (.tuple #[.int .i64 0, .int .i64 code]) ∧ Below w.heap.size w w' := by
  have hne := h.ne
  have HH := Lib.hid h
  have HK := Lib.hid hk
  clear hk h
  go_enter Tryd.func25, Tryd.ntmps25
  go_upto_region 1 with fail
  generalize hW0 : w.alloc _ = W0
  have hB0 : Below w.heap.size w W0 := by rw [← hW0]; (repeat (first | (with_reducible exact Below.refl _ _) | (with_reducible assumption) | ((with_reducible refine below_ext_trans ?_ ?_ _); rotate_left; focus (((try dsimp only); repeat (first | omega | simp only [World.size_alloc, World.size_setCell, World.size_drew] | (with_reducible refine le_ext_of ?_) | (with_reducible refine le_ext_add ?_))); done)) | ((with_reducible refine Below.alloc ?_ ?_ _); rotate_left; focus (((try dsimp only); repeat (first | omega | simp only [World.size_alloc, World.size_setCell, World.size_drew] | (with_reducible refine le_ext_of ?_) | (with_reducible refine le_ext_add ?_))); done)) | ((with_reducible refine Below.setCell ?_ ?_ _); rotate_left; focus (((try dsimp only); repeat (first | omega | simp only [World.size_alloc, World.size_setCell, World.size_drew] | (with_reducible refine le_ext_of ?_) | (with_reducible refine le_ext_add ?_))); done)) | (with_reducible refine Below.drew ?_)))
  have hq0 : Blk W0 w.heap.size 26 #[.int .i64 b.lo, .int .i64 b.hi, .slice p b.ns.length c] := by rw [← hW0]; exact (Blk.new rfl)
  clear hW0
  have q0 := hq0.cell 0
  have q1 := hq0.cell 1
  have q2 := hq0.cell 2
  simp only [List.size_toArray, List.length_cons, List.length_nil, Nat.reduceAdd, Nat.reduceLT, getElem?_pos, List.getElem_toArray, List.getElem_cons_zero, List.getElem_cons_succ] at q0 q1 q2
  have HB0 := Lib.hid hB0
  clear hB0 hq0
  go_upto_region 2 with (go_at_call 58; refine (answer_err b p c true code _ (HK.out.bel HB0.out) HH.out).mono ?_; rintro e w1 ⟨rfl, k1⟩; have K1 := Lib.hid k1; clear k1)
  generalize hW2 : w1.alloc _ = W2
  have hB2 : Below W0.heap.size W0 W2 := by rw [← hW2]; exact K1.out.alloc K1.out.size _
  have HB2 := Lib.hid (HB0.out.trans (hB2.mono HB0.out.size))
  clear hW2 hB2 HB0 K1 HK
  go_wp2_with fail
  refine bodyPost_ret (v := .tuple #[.int .i64 0, .int .i64 code]) ?_ ?_ ?_
  · simp [results, Tryd.results25, go_sem]
  · rfl
  · exact ⟨rfl, HB2.out⟩
set_option maxRecDepth 100000 in
set_option maxHeartbeats 2000000 in
theorem Empty_yes (b : Sn) (p : Option Addr) (c : Nat) (w : World) (hk : SBk w b p) (hv : snB b = true) (hr : rightS b = true) :
    Calls Tryd.prog 25 #[.agg #[.int .i64 b.lo, .int .i64 b.hi, .slice p b.ns.length c]] w fun e w' => ((∃ k : Nat, k ≤ 60 ∧ topH b k = 0 ∧ (∀ j : Nat, j < k → topH b j ≠ 0) ∧ e = .returned (.tuple #[.int .i64 k, .int .i64 0])) ∨ ((∀ j : Nat, j ≤ 60 → topH b j ≠ 0) ∧ e = .returned (.tuple #[.int .i64 0, .int .i64 4]))) ∧ Below w.heap.size w w' := by
  have HK := Lib.hid hk
  clear hk
  go_enter Tryd.func25, Tryd.ntmps25
  go_upto_region 1 with fail
  generalize hW0 : w.alloc _ = W0
  have hB0 : Below w.heap.size w W0 := by rw [← hW0]; (repeat (first | (with_reducible exact Below.refl _ _) | (with_reducible assumption) | ((with_reducible refine below_ext_trans ?_ ?_ _); rotate_left; focus (((try dsimp only); repeat (first | omega | simp only [World.size_alloc, World.size_setCell, World.size_drew] | (with_reducible refine le_ext_of ?_) | (with_reducible refine le_ext_add ?_))); done)) | ((with_reducible refine Below.alloc ?_ ?_ _); rotate_left; focus (((try dsimp only); repeat (first | omega | simp only [World.size_alloc, World.size_setCell, World.size_drew] | (with_reducible refine le_ext_of ?_) | (with_reducible refine le_ext_add ?_))); done)) | ((with_reducible refine Below.setCell ?_ ?_ _); rotate_left; focus (((try dsimp only); repeat (first | omega | simp only [World.size_alloc, World.size_setCell, World.size_drew] | (with_reducible refine le_ext_of ?_) | (with_reducible refine le_ext_add ?_))); done)) | (with_reducible refine Below.drew ?_)))
  have hq0 : Blk W0 w.heap.size 26 #[.int .i64 b.lo, .int .i64 b.hi, .slice p b.ns.length c] := by rw [← hW0]; exact (Blk.new rfl)
  clear hW0
  have q0 := hq0.cell 0
  have q1 := hq0.cell 1
  have q2 := hq0.cell 2
  simp only [List.size_toArray, List.length_cons, List.length_nil, Nat.reduceAdd, Nat.reduceLT, getElem?_pos, List.getElem_toArray, List.getElem_cons_zero, List.getElem_cons_succ] at q0 q1 q2
  have HB0 := Lib.hid hB0
  clear hB0 hq0
  go_upto_region 2 with (go_at_call 58; refine (answer_yes b p c _ (HK.out.bel HB0.out) hv hr).mono ?_; rintro e w1 ⟨kd, Bb, rfl, hkd, k0, k1⟩; have K0 := Lib.hid k0; have K1 := Lib.hid k1; clear k0 k1)
  unfold talC
  generalize hW2 : w1.alloc _ = W2
  have hB2 : Below w1.heap.size w1 W2 := by rw [← hW2]; exact (Below.refl _ _).alloc (Nat.le_refl _) _
  have ht2 : Blk W2 w1.heap.size 80 (talC b.lo b.hi p b.ns.length c kd Bb) := by rw [← hW2]; exact Blk.new rfl
  have hB2' := K1.out.trans (hB2.mono K1.out.size)
  have HC2 := Lib.hid ht2
  have HT2 := Lib.hid (K0.out.bel hB2)
  have HB2 := Lib.hid (HB0.out.trans (hB2'.mono HB0.out.size))
  have HW1 := Lib.hid (show w.heap.size ≤ w1.heap.size by have := HB0.out.size; have := K1.out.size; omega)
  clear hW2 hB2 ht2 hB2' HB0 K0 K1 HK
  go_wp2_with fail
  go_loopw [15] (fun i wr => ∃ k : Nat, k ≤ 61 ∧ i = .int .i64 k ∧ Hid (∀ j : Nat, j < k → topH b j ≠ 0) ∧ Hid (Blk wr w1.heap.size 80 (talC b.lo b.hi p b.ns.length c kd Bb)) ∧ Hid (TOK wr b p Bb) ∧ Hid (Below w.heap.size w wr)) (fun i _ => 61 - (intOf i).toNat)
  case atStart => exact ⟨0, by omega, rfl, Lib.hid (fun j hj => by omega), HC2, HT2, HB2⟩
  case round =>
    obtain ⟨k, hk, rfl, HL, HC, HT, HB⟩ := hrel
    by_cases hlt : k < 61
    · have hk0 : (0 : Int) ≤ (k : Int) := by omega
      have hk1 : (k : Int) < 61 := by omega
      have t0 := HC.out.cell 0
      have t1 := HC.out.cell 1
      have t2 := HC.out.cell 2
      have t3 := HC.out.cell 3
      have t4 := HC.out.cell 4
      have t5 := HC.out.cell 5
      have t6 := HC.out.cell 6
      have t7 := HC.out.cell 7
      have t8 := HC.out.cell 8
      simp only [List.size_toArray, List.length_cons, List.length_nil, Nat.reduceAdd, Nat.reduceLT, getElem?_pos, List.getElem_toArray, List.getElem_cons_zero, List.getElem_cons_succ] at t0 t1 t2 t3 t4 t5 t6 t7 t8
      by_cases hz : maxF Prod.fst 0 (atL b (k : Int)) = 0
      · go_wp2_with (go_at_call 64; refine (theld_any b p c kd Bb k _ HT.out ⟨hk0, by omega⟩).mono ?_; rintro e w3 ⟨rfl, k3⟩; have K3 := Lib.hid k3; clear k3; have hf := field_top (minF Prod.fst 400 (atL b (k : Int))) 0 w3)
        refine bodyPost_ret (v := .tuple #[.int .i64 k, .int .i64 0]) ?_ ?_ ?_
        · simp [results, Tryd.results25, go_sem]
        · rfl
        · exact ⟨.inl ⟨k, by omega, hz, HL.out, rfl⟩, HB.out.trans (K3.out.mono HB.out.size)⟩
      · go_wp2_with (go_at_call 64; refine (theld_any b p c kd Bb k _ HT.out ⟨hk0, by omega⟩).mono ?_; rintro e w3 ⟨rfl, k3⟩; have K3 := Lib.hid k3; clear k3; have hf := field_top (minF Prod.fst 400 (atL b (k : Int))) (maxF Prod.fst 0 (atL b (k : Int))) w3)
        go_roundw
        case rel =>
          refine ⟨k + 1, by omega, by go_num, Lib.hid (fun j hj => ?_), Lib.hid (HC.out.bel K3.out), Lib.hid (HT.out.bel K3.out), Lib.hid (HB.out.trans (K3.out.mono HB.out.size))⟩
          rcases Nat.lt_or_ge j k with h1 | h1
          · exact HL.out j h1
          · obtain rfl : j = k := by omega
            exact hz
        case measure => simp [intOf]; omega
    · obtain rfl : k = 61 := by omega
      go_wp2_with fail
      refine bodyPost_ret (v := .tuple #[.int .i64 0, .int .i64 4]) ?_ ?_ ?_
      · simp [results, Tryd.results25, go_sem]
      · rfl
      · exact ⟨.inr ⟨fun j hj => HL.out j (by omega), rfl⟩, HB.out⟩
end Go.Proofs.YtjjfpbjdcmkkhaaDoor

namespace Go.Proofs.YtjjfpbjdcmkkhaaDoor
open Go Go.RowKit Go.Shelf
section
variable {o : Oper} {w : World} {g s : Nat} (ρ : Operand → Value) {lo hi : Int} {p : Option Addr} {N c : Nat}
theorem run_extractS {i : Nat} {x y v : Value} (hop : o.op = .extract (.tmp s) i) (hs : ρ (.tmp s) = .tuple #[x, y]) (hv : #[x, y][i]? = some v) :
    (execOp ρ o).run Tryd.prog w = .ok (.value v) w := by
  unfold execOp
  simp [hop, hs, go_sem, hv]
theorem run_lBookS (hop : o.op = .load 26 (.tmp s)) (hs : ρ (.tmp s) = .pointer (some ⟨g, 0, none⟩)) (k : Blk w g 26 #[.int .i64 lo, .int .i64 hi, .slice p N c]) : (execOp ρ o).run Tryd.prog w = .ok (.value (.agg #[.int .i64 lo, .int .i64 hi, .slice p N c])) w := by
  have c0 := k.cell 0
  have c1 := k.cell 1
  have c2 := k.cell 2
  simp only [List.size_toArray, List.length_cons, List.length_nil, Nat.reduceAdd, Nat.reduceLT, getElem?_pos, List.getElem_toArray, List.getElem_cons_zero, List.getElem_cons_succ] at c0 c1 c2
  unfold execOp; simp [hop, hs, go_sem, c0, c1, c2]
end
theorem st_store_tale {ops : Array Oper} {Q : Exit → Act → World → Prop} {i : Nat} {o : Oper} {K : Act → World → Prop} {a : Act} {w : World} {s t g : Nat} {u0 u1 u2 u3 u4 u5 u6 u7 u8 v0 v1 v2 v3 v4 v5 v6 v7 v8 : Value} (h : ops[i]? = some o) (hw : Region.wanted o (yielded ops a.tmps) = true) (hop : o.op = .store 80 (.tmp s) (.tmp t)) (hd : o.dst = none)
    (hs : a.tmps.getD s undef = .pointer (some ⟨g, 0, none⟩)) (ht : a.tmps.getD t undef = .agg #[v0, v1, v2, v3, v4, v5, v6, v7, v8]) (k : Blk w g 80 #[u0, u1, u2, u3, u4, u5, u6, u7, u8])
    (hv : (#[v0, v1, v2, v3, v4, v5, v6, v7, v8].all fun x => x.oneCell') = true) (hK : K a (put9 w g v0 v1 v2 v3 v4 v5 v6 v7 v8)) : wpOp Tryd.prog ops Q i K a w := by
  refine wpOp_want h hw ?_
  refine wp_store_mid 80 _ _ hop g 0 _ hs ht ?_ (by kernel_rfl) hv ?_
  · intro j hj
    rw [Nat.zero_add, k.cell, k.frozen]
    have hj' : j < (#[u0, u1, u2, u3, u4, u5, u6, u7, u8] : Array Value).size := hj
    exact ⟨by rw [Array.getElem?_eq_getElem hj']; rfl, rfl⟩
  · rw [hd]
    exact hK
/-- Which question gets which error. -/
def Asks (b : Sn) (asked : Bool) (code : Int) : Prop := AErr b asked code ∨ (snB b = true ∧ asked = true ∧ rightS b = true ∧ code = 0)
/-- What is told: nothing behind an error, else the book's tale. -/
def AnsAt (b : Sn) (p : Option Addr) (c : Nat) (code : Int) (T : Array Value) (w : World) : Prop :=
  (¬ code = 0 ∧ T = zeroT) ∨ (code = 0 ∧ ∃ (kd : Kd) (Bb : Nat), kd.ok b.ns.length ∧ T = talC b.lo b.hi p b.ns.length c kd Bb ∧ TOK w b p Bb)
theorem AnsAt.bel {b : Sn} {p : Option Addr} {c : Nat} {code : Int} {T : Array Value} {w w' : World} (h : AnsAt b p c code T w) (hb : Below w.heap.size w w') : AnsAt b p c code T w' := by
  rcases h with h | ⟨h0, kd, Bb, h1, h2, h3⟩
  · exact .inl h
  · exact .inr ⟨h0, kd, Bb, h1, h2, h3.bel hb⟩
theorem AnsAt.nine {b : Sn} {p : Option Addr} {c : Nat} {code : Int} {T : Array Value} {w : World} (h : AnsAt b p c code T w) : ∃ v0 v1 v2 v3 v4 v5 v6 v7 v8 : Value, T = #[v0, v1, v2, v3, v4, v5, v6, v7, v8] ∧ (#[v0, v1, v2, v3, v4, v5, v6, v7, v8].all fun x => x.oneCell') = true := by
  rcases h with ⟨-, rfl⟩ | ⟨-, kd, Bb, -, rfl, -⟩
  · exact ⟨_, _, _, _, _, _, _, _, _, rfl, by kernel_rfl⟩
  · exact ⟨_, _, _, _, _, _, _, _, _, rfl, by kernel_rfl⟩
theorem AnsAt.put {b : Sn} {p : Option Addr} {c : Nat} {code : Int} {T cs : Array Value} {w : World} {g : Nat} (h : AnsAt b p c code T w) (hg : Blk w g 80 cs) (v0 v1 v2 v3 v4 v5 v6 v7 v8 : Value) (hn : NotesAt (put9 w g v0 v1 v2 v3 v4 v5 v6 v7 v8) p b.ns) : AnsAt b p c code T (put9 w g v0 v1 v2 v3 v4 v5 v6 v7 v8) := by
  rcases h with h | ⟨h0, kd, Bb, h1, h2, h3⟩
  · exact .inl h
  · refine .inr ⟨h0, kd, Bb, h1, h2, hn, h3.ok, h3.tl.keep1 hg ?_ (fun k hk => set9h hk _ _ _ _ _ _ _ _ _)⟩
    rintro rfl
    obtain ⟨cs', e1, -⟩ := h3.tl
    unfold Blk at hg e1
    rw [hg] at e1
    simp at e1
theorem answer_all (b : Sn) (p : Option Addr) (c : Nat) (asked : Bool) (code : Int) (w : World) (hk : SBk w b p) (ha : Asks b asked code) :
    Calls Tryd.prog 58 #[.agg #[.int .i64 b.lo, .int .i64 b.hi, .slice p b.ns.length c], .bool asked] w fun e w' => ∃ T : Array Value, e = .returned (.tuple #[.agg T, .int .i64 code]) ∧ AnsAt b p c code T w' ∧ Below w.heap.size w w' := by
  rcases ha with h | ⟨hv, rfl, hr, rfl⟩
  · exact (answer_err b p c asked code w hk h).mono fun e w' ⟨h1, h2⟩ => ⟨zeroT, h1, .inl ⟨h.ne, rfl⟩, h2⟩
  · exact (answer_yes b p c w hk hv hr).mono fun e w' ⟨kd, Bb, h1, h2, h3, h4⟩ => ⟨_, h1, .inr ⟨rfl, kd, Bb, h2, rfl, h3⟩, h4⟩
/-- What the operations of a question's drawn region leave: before the store, and behind it. -/
def askR (B : Nat) (b : Sn) (p : Option Addr) (c : Nat) (h : Int) (asked : Bool) (code : Int) (f : Bool) (i : Nat) (v : Value) (w : World) : Prop :=
  match i with
  | 0 => v = .agg #[.int .i64 b.lo, .int .i64 b.hi, .slice p b.ns.length c]
  | 1 => v = .int .i64 h
  | 2 => v = .bool asked
  | 3 => ∃ T : Array Value, v = .tuple #[.agg T, .int .i64 code] ∧ AnsAt b p c code T w
  | 4 => ∃ T : Array Value, v = .tuple #[.agg T, .int .i64 code] ∧ AnsAt b p c code T w
  | 5 => ∃ T : Array Value, v = .agg T ∧ AnsAt b p c code T w
  | 6 => v = .int .i64 code
  | 7 => ∃ ba : Nat, v = .pointer (some ⟨ba, 0, none⟩) ∧ B + 2 ≤ ba ∧ (f = false → Blk w ba 80 zeroT) ∧ (f = true → ∃ T : Array Value, AnsAt b p c code T w ∧ Blk w ba 80 T)
  | _ => True
theorem askR_kept (B : Nat) (b : Sn) (p : Option Addr) (c : Nat) (h : Int) (asked : Bool) (code : Int) : ∀ f i, i < 9 → i ≠ 8 → ∀ (v : Value) (w w' : World), askR B b p c h asked code f i v w → Below w.heap.size w w' → askR B b p c h asked code f i v w' := by
  intro f i h9 h8 v w w' h hb
  match i, h9 with
  | 0, _ => exact h
  | 1, _ => exact h
  | 2, _ => exact h
  | 3, _ => obtain ⟨T, h1, h2⟩ := h; exact ⟨T, h1, h2.bel hb⟩
  | 4, _ => obtain ⟨T, h1, h2⟩ := h; exact ⟨T, h1, h2.bel hb⟩
  | 5, _ => obtain ⟨T, h1, h2⟩ := h; exact ⟨T, h1, h2.bel hb⟩
  | 6, _ => exact h
  | 7, _ => obtain ⟨ba, h1, h2, h3, h4⟩ := h; exact ⟨ba, h1, h2, fun e => (h3 e).bel hb, fun e => (h4 e).elim fun T ⟨k1, k2⟩ => ⟨T, k1.bel hb, k2.bel hb⟩⟩
  | 8, _ => exact absurd rfl h8
  | k + 9, hk => omega
end Go.Proofs.YtjjfpbjdcmkkhaaDoor

