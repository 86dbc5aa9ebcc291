/- Steps of a drawn region that looks a span of a book up; calls told by length. -/
/- A variable that holds a book of which more is known; what the operations leave that put one into it. -/
import Derived.Test.YtmnbfjphndgmnaaDoorQFl
import Derived.Test.YtmnbfjphndgmnaaDoorQZa
import Derived.Test.YtmnbfjphndgmnaaDoorQYv
import Derived.Test.YtmnbfjphndgmnaaDoorQYt
import Derived.Test.YtmnbfjphndgmnaaDoorQVe
set_option linter.unusedSimpArgs false
set_option linter.unusedVariables false
namespace Go.Proofs.YtmnbfjphndgmnaaDoor
open Go Go.RowKit

theorem args3' {a : Act} {s t u : Nat} {x y z : Value} (h1 : a.tmps.getD s undef = x) (h2 : a.tmps.getD t undef = y) (h3 : a.tmps.getD u undef = z) : (#[Operand.tmp s, Operand.tmp t, Operand.tmp u]).map a.eval = #[x, y, z] := by
  simp only [List.map_toArray, List.map_cons, List.map_nil, Act.eval, h1, h2, h3]
theorem run_book {o : Oper} {w : World} {g s : Nat} {x y z u : Value} (ρ : Operand → Value) (hop : o.op = .load 26 (.tmp s)) (hs : ρ (.tmp s) = .pointer (some ⟨g, 0, none⟩)) (k : Blk w g 26 #[x, y, z, u]) :
    (execOp ρ o).run Tryd.prog w = .ok (.value (.agg #[x, y, z, u])) w := by
  have c0 := k.cell 0
  have c1 := k.cell 1
  have c2 := k.cell 2
  have c3 := k.cell 3
  simp only [List.size_toArray, List.length_cons, List.length_nil, Nat.reduceAdd, Nat.reduceLT, getElem?_pos, List.getElem_toArray, List.getElem_cons_zero, List.getElem_cons_succ] at c0 c1 c2 c3
  unfold execOp
  simp [hop, hs, go_sem, c0, c1, c2, c3]
theorem run_num {o : Oper} {w : World} {g j s : Nat} {x : Int} (ρ : Operand → Value) (hop : o.op = .load 3 (.tmp s)) (hs : ρ (.tmp s) = .pointer (some ⟨g, j, none⟩)) (k : w.cell? ⟨g, j, none⟩ = some (.int .i64 x)) :
    (execOp ρ o).run Tryd.prog w = .ok (.value (.int .i64 x)) w := by
  unfold execOp
  simp [hop, hs, go_sem, k]
theorem run_part {o : Oper} {w : World} {s i : Nat} {x y v : Value} (ρ : Operand → Value) (hop : o.op = .extract (.tmp s) i) (hs : ρ (.tmp s) = .tuple #[x, y]) (hv : #[x, y][i]? = some v) :
    (execOp ρ o).run Tryd.prog w = .ok (.value v) w := by
  unfold execOp
  simp [hop, hs, go_sem, hv]
theorem run_to {o : Oper} {w : World} {s : Nat} {v : Value} (ρ : Operand → Value) (hop : o.op = .assign (.tmp s)) (hs : ρ (.tmp s) = v) :
    (execOp ρ o).run Tryd.prog w = .ok (.value v) w := by
  unfold execOp
  simp [hop, hs, go_sem]
theorem run_bounds {o : Oper} {w : World} {g s : Nat} (ρ : Operand → Value) (hop : o.op = .fieldAddr 26 (.tmp s) 1) (hs : ρ (.tmp s) = .pointer (some ⟨g, 0, none⟩)) (hl : g < w.heap.size) :
    (execOp ρ o).run Tryd.prog w = .ok (.value (.pointer (some ⟨g, 1, none⟩))) w := by
  unfold execOp
  simp [hop, hs, go_sem, hl]
theorem run_shots {o : Oper} {w : World} {g s : Nat} (ρ : Operand → Value) (hop : o.op = .fieldAddr 26 (.tmp s) 3) (hs : ρ (.tmp s) = .pointer (some ⟨g, 0, none⟩)) (hl : g < w.heap.size) :
    (execOp ρ o).run Tryd.prog w = .ok (.value (.pointer (some ⟨g, 3, none⟩))) w := by
  unfold execOp
  simp [hop, hs, go_sem, hl]
theorem run_low {o : Oper} {w : World} {g j s : Nat} (ρ : Operand → Value) (hop : o.op = .fieldAddr 33 (.tmp s) 0) (hs : ρ (.tmp s) = .pointer (some ⟨g, j, none⟩)) (hl : g < w.heap.size) :
    (execOp ρ o).run Tryd.prog w = .ok (.value (.pointer (some ⟨g, j, none⟩))) w := by
  unfold execOp
  simp [hop, hs, go_sem, hl]
theorem run_high {o : Oper} {w : World} {g j s : Nat} (ρ : Operand → Value) (hop : o.op = .fieldAddr 33 (.tmp s) 1) (hs : ρ (.tmp s) = .pointer (some ⟨g, j, none⟩)) (hl : g < w.heap.size) :
    (execOp ρ o).run Tryd.prog w = .ok (.value (.pointer (some ⟨g, j + 1, none⟩))) w := by
  unfold execOp
  simp [hop, hs, go_sem, hl]
theorem run_slice {o : Oper} {w : World} {g j s : Nat} {p : Option Addr} {n c : Nat} (ρ : Operand → Value) (hop : o.op = .load 22 (.tmp s)) (hs : ρ (.tmp s) = .pointer (some ⟨g, j, none⟩)) (k : w.cell? ⟨g, j, none⟩ = some (.slice p n c)) :
    (execOp ρ o).run Tryd.prog w = .ok (.value (.slice p n c)) w := by
  unfold execOp
  simp [hop, hs, go_sem, k]
theorem run_at {o : Oper} {w : World} {g j s u n c k : Nat} (ρ : Operand → Value) (hop : o.op = .indexAddr 22 (.tmp s) (.tmp u)) (h1 : ρ (.tmp s) = .slice (some ⟨g, j, none⟩) n c) (h2 : ρ (.tmp u) = .int .i64 k) (hk : k < n) (hl : g < w.heap.size) :
    (execOp ρ o).run Tryd.prog w = .ok (.value (.pointer (some ⟨g, j + k * 2, none⟩))) w := by
  have k0 : (0 : Int) ≤ (k : Int) := by omega
  have k1 : (k : Int) < (n : Int) := by omega
  unfold execOp
  simp [hop, h1, h2, go_sem, hl, k0, k1]

theorem known_len (p1 p2 p3 : Option Addr) (c1 c2 c3 l1 l2 l3 : Nat) (n : Int) (b : Bk) (k : Nat) (v : Int) (w : World) (hb : BkAt w ⟨p1, c1, p2, c2, p3, c3⟩ b) (hk : k < b.bs.length) (h4 : b.bs.length ≤ 4) (e0 : b.n = n) (e1 : b.bs.length = l1) (e2 : b.os.length = l2) (e3 : b.ss.length = l3) :
    Calls Tryd.prog 30 #[.agg #[.int .i64 n, .slice p1 l1 c1, .slice p2 l2 c2, .slice p3 l3 c3], .int .i64 k, .int .i64 v] w fun e w' => ∃ q1 d1 q2 d2 q3 d3, e = .returned (.agg #[.int .i64 n, .slice q1 l1 d1, .slice q2 l2 d2, .slice q3 l3 d3]) ∧ BkAt w' ⟨q1, d1, q2, d2, q3, d3⟩ (knownBk b k v) ∧ l1 ≤ d1 ∧ ∃ x, w' = ext w x := by
  subst e0 e1 e2 e3
  refine (known_any ⟨p1, c1, p2, c2, p3, c3⟩ b k v w hb hk h4).mono fun e w' ⟨h2, he, hb2, hc2, hx⟩ => ?_
  obtain ⟨q1, d1, q2, d2, q3, d3⟩ := h2
  have e3 : (knownBk b k v).bs.length = b.bs.length := by simp [knownBk]
  have he' : e = .returned (.agg #[.int .i64 b.n, .slice q1 (knownBk b k v).bs.length d1, .slice q2 b.os.length d2, .slice q3 b.ss.length d3]) := he
  rw [e3] at he' hc2
  exact ⟨q1, d1, q2, d2, q3, d3, he', hb2, hc2, hx⟩

/-- How a shot of a known minute is told once the bound is known on which it hangs: at both ends of it. -/
theorem known_ends {b : Bk} (hv : bookB b = true) {k : Nat} {s : Shot} (hs : b.ss[k]? = some s) {x : Int} (h1 : s.lo ≤ x) (h2 : x ≤ s.hi) {st k0 : Nat} (hst : s.st = st) (hk0 : k0 < b.bs.length) (c1 : cnt (b.bs.map Prod.snd) x = k0) (c2 : cnt (b.bs.map Prod.fst) x = k0 + 1) (hd : (okB b st s k0 != okB b st s (k0 + 1)) = true) :
    ∃ lo hi K1 K2 : Int, b.bs[k0]? = some (lo, hi) ∧ lo ≤ x ∧ x < hi ∧ bookB (knownBk (onlyBk b k x) k0 lo) = true ∧ bookB (knownBk (onlyBk b k x) k0 hi) = true ∧
      kindOf (fun t => ownf (knownBk (onlyBk b k x) k0 lo).os st t == s.co) (seg (cnt (lateL (knownBk (onlyBk b k x) k0 lo).bs) x) (cnt (soonL (knownBk (onlyBk b k x) k0 lo).bs) x)) = K1 ∧
      kindOf (fun t => ownf (knownBk (onlyBk b k x) k0 hi).os st t == s.co) (seg (cnt (lateL (knownBk (onlyBk b k x) k0 hi).bs) x) (cnt (soonL (knownBk (onlyBk b k x) k0 hi).bs) x)) = K2 ∧
      (K1 = 2 ∧ K2 = 0 ∨ K1 = 0 ∧ K2 = 2) := by
  obtain ⟨⟨lo, hi⟩, hb⟩ := get_some b.bs k0 hk0
  have hle := (bookB_bounds hv).2.1 _ (List.mem_of_getElem? hb)
  dsimp only at hle
  have h4 := (bookB_bounds hv).1
  obtain ⟨-, -, ms⟩ := bookB_shot hv hs
  unfold Mom at ms
  have g1 := (lo_iff hv (x := x) hb).2 (by omega)
  have g2 : ¬ hi ≤ x := fun h => by have := (hi_iff hv (x := x) hb).1 h; omega
  have hX := only_ok hv hs h1 h2
  have hbX : (onlyBk b k x).bs[k0]? = some (lo, hi) := hb
  have kk : ∀ v, lo ≤ v → v ≤ hi → kindOf (fun t => ownf (knownBk (onlyBk b k x) k0 v).os st t == s.co) (seg (cnt (lateL (knownBk (onlyBk b k x) k0 v).bs) x) (cnt (soonL (knownBk (onlyBk b k x) k0 v).bs) x)) = if okB b st s (if v ≤ x then k0 + 1 else k0) then 2 else 0 := fun v h3 h5 => by
    have e := known_kind hv st s hb h3 h5 c1 c2
    have hl : (knownBk b k0 v).bs.length ≤ 4 := by simpa [knownBk] using h4
    rw [← e]
    show kindOf (fun t => ownf b.os st t == s.co) (seg (cnt (lateL (knownBk b k0 v).bs) x) (cnt (soonL (knownBk b k0 v).bs) x)) = _
    rw [late_tl, soon_tl, cnt_tl _ (by simpa using hl) _ (by omega), cnt_tl _ (by simpa using hl) _ (by omega)]
    rfl
  refine ⟨lo, hi, _, _, hb, g1, by omega, known_ok hX hbX (by omega) (by omega), known_ok hX hbX (by omega) (by omega), kk lo (by omega) (by omega), kk hi (by omega) (by omega), ?_⟩
  rw [if_pos g1, if_neg g2]
  cases ha : okB b st s k0 <;> cases hc : okB b st s (k0 + 1) <;> simp_all
/-- What the operations leave by which it is asked how a shot is told once the minute of a bound is known. -/
def endF (bk bs : Value) (n : Int) (l1 l2 l3 k0 k : Nat) (g f : Nat) (a j : Nat) (v K : Int) (Y : Bk) (i : Nat) (u : Value) (w : World) : Prop :=
  match i with
  | 0 => u = bk
  | 1 => u = .int .i64 k0
  | 2 => u = .pointer (some ⟨g, 1, none⟩)
  | 3 => u = bs
  | 4 => u = .int .i64 k0
  | 5 => u = .pointer (some ⟨a, j, none⟩)
  | 6 => u = .pointer (some ⟨a, j + f, none⟩)
  | 7 => u = .int .i64 v
  | 8 => ∃ q1 d1 q2 d2 q3 d3, u = .agg #[.int .i64 n, .slice q1 l1 d1, .slice q2 l2 d2, .slice q3 l3 d3] ∧ BkAt w ⟨q1, d1, q2, d2, q3, d3⟩ Y
  | 9 => u = .int .i64 k
  | 10 => u = .tuple #[.int .i64 K, .int .i64 0]
  | 11 => u = .tuple #[.int .i64 K, .int .i64 0]
  | 12 => u = .int .i64 K
  | 13 => u = .int .i64 0
  | 14 => u = .int .i64 K
  | _ => True
theorem endF_kept (bk bs : Value) (n : Int) (l1 l2 l3 k0 k : Nat) (g f : Nat) (a j : Nat) (v K : Int) (Y : Bk) : ∀ (i : Nat), i < 15 → ∀ (u : Value) (w w' : World), endF bk bs n l1 l2 l3 k0 k g f a j v K Y i u w → Below w.heap.size w w' → endF bk bs n l1 l2 l3 k0 k g f a j v K Y i u w' := by
  intro i hi u w w' h hb
  rcases (show i = 0 ∨ i = 1 ∨ i = 2 ∨ i = 3 ∨ i = 4 ∨ i = 5 ∨ i = 6 ∨ i = 7 ∨ i = 8 ∨ i = 9 ∨ i = 10 ∨ i = 11 ∨ i = 12 ∨ i = 13 ∨ i = 14 by omega) with hi0 | hi0 | hi0 | hi0 | hi0 | hi0 | hi0 | hi0 | hi0 | hi0 | hi0 | hi0 | hi0 | hi0 | hi0
  all_goals subst hi0
  all_goals first
    | exact h
    | (obtain ⟨q1, d1, q2, d2, q3, d3, h1, h2⟩ := h; exact ⟨q1, d1, q2, d2, q3, d3, h1, h2.below hb⟩)
end Go.Proofs.YtmnbfjphndgmnaaDoor

namespace Go.Proofs.YtmnbfjphndgmnaaDoor
open Go Go.RowKit

theorem Wrong_len (p1 p2 p3 : Option Addr) (c1 c2 c3 l1 l2 l3 : Nat) (m : Int) (b : Bk) (n : Nat) (w : World) (hb : BkAt w ⟨p1, c1, p2, c2, p3, c3⟩ b) (hv : bookB b = true) (hn : NB w) (hl : (wrongL b).length = n)
    (e0 : b.n = m) (e1 : b.bs.length = l1) (e2 : b.os.length = l2) (e3 : b.ss.length = l3) :
    Calls Tryd.prog 21 #[.agg #[.int .i64 m, .slice p1 l1 c1, .slice p2 l2 c2, .slice p3 l3 c3]] w fun e w' => ∃ p c, e = .returned (.tuple #[.slice p n c, .int .i64 0]) ∧ ∃ x, w' = ext w x := by
  subst e0 e1 e2 e3; exact Wrong_eq ⟨p1, c1, p2, c2, p3, c3⟩ b n w hb hv hn hl
theorem Fair_len' (p1 p2 p3 : Option Addr) (c1 c2 c3 l1 l2 l3 : Nat) (n : Int) (b : Bk) (i st : Nat) (s : Shot) (K : Int) (w : World) (hb : BkAt w ⟨p1, c1, p2, c2, p3, c3⟩ b) (hv : bookB b = true) (hn : NB w) (hi : b.ss[i]? = some s) (hst : s.st = st) (hK : kindOf (fun t => ownf b.os st t == s.co) (seg (cnt (lateL b.bs) s.lo) (cnt (soonL b.bs) s.hi)) = K)
    (e0 : b.n = n) (e1 : b.bs.length = l1) (e2 : b.os.length = l2) (e3 : b.ss.length = l3) :
    Calls Tryd.prog 22 #[.agg #[.int .i64 n, .slice p1 l1 c1, .slice p2 l2 c2, .slice p3 l3 c3], .int .i64 i] w fun e w' => e = .returned (.tuple #[.int .i64 K, .int .i64 0]) ∧ ∃ x, w' = ext w x := by
  subst e0 e1 e2 e3; exact Fair_eq ⟨p1, c1, p2, c2, p3, c3⟩ b i st s K w hb hv hn hi hst hK
theorem Hangs_len' (p1 p2 p3 : Option Addr) (c1 c2 c3 l1 l2 l3 : Nat) (m : Int) (b : Bk) (i st : Nat) (s : Shot) (L : List Int) (n : Nat) (w : World) (hb : BkAt w ⟨p1, c1, p2, c2, p3, c3⟩ b) (hv : bookB b = true) (hn : NB w) (hi : b.ss[i]? = some s) (hst : s.st = st) (hL : hangsTo b st s b.bs.length = L) (hl : L.length = n)
    (e0 : b.n = m) (e1 : b.bs.length = l1) (e2 : b.os.length = l2) (e3 : b.ss.length = l3) :
    Calls Tryd.prog 29 #[.agg #[.int .i64 m, .slice p1 l1 c1, .slice p2 l2 c2, .slice p3 l3 c3], .int .i64 i] w (OneList w L n) := by
  subst e0 e1 e2 e3 hl hL; exact Hangs_yes ⟨p1, c1, p2, c2, p3, c3⟩ b i st s w hb hv hn hi hst

theorem only_len (p1 p2 p3 : Option Addr) (c1 c2 c3 l1 l2 l3 : Nat) (n : Int) (b : Bk) (k : Nat) (v : Int) (w : World) (hb : BkAt w ⟨p1, c1, p2, c2, p3, c3⟩ b) (hk : k < b.ss.length) (h5 : b.ss.length ≤ 5) (e0 : b.n = n) (e1 : b.bs.length = l1) (e2 : b.os.length = l2) (e3 : b.ss.length = l3) :
    Calls Tryd.prog 28 #[.agg #[.int .i64 n, .slice p1 l1 c1, .slice p2 l2 c2, .slice p3 l3 c3], .int .i64 k, .int .i64 v] w fun e w' => ∃ g2 d2 : Nat, e = .returned (.agg #[.int .i64 n, .slice p1 l1 c1, .slice p2 l2 c2, .slice (some ⟨g2, 0, none⟩) l3 d2]) ∧ w.heap.size ≤ g2 ∧ ShotsAt w' (some ⟨g2, 0, none⟩) (onlyBk b k v).ss ∧ ∃ x, w' = ext w x := by
  subst e0 e1 e2 e3
  exact only_new ⟨p1, c1, p2, c2, p3, c3⟩ b k v w hb hk h5
theorem run_span_at {o : Oper} {w : World} {g j s : Nat} {x y : Int} (ρ : Operand → Value) (hop : o.op = .load 33 (.tmp s)) (hs : ρ (.tmp s) = .pointer (some ⟨g, j, none⟩)) (k0 : w.cell? ⟨g, j, none⟩ = some (.int .i64 x)) (k1 : w.cell? ⟨g, j + 1, none⟩ = some (.int .i64 y)) :
    (execOp ρ o).run Tryd.prog w = .ok (.value (.agg #[.int .i64 x, .int .i64 y])) w := by
  unfold execOp
  simp [hop, hs, go_sem, k0, k1]
theorem run_n1 {o : Oper} {w : World} {g s : Nat} (ρ : Operand → Value) (hop : o.op = .indexAddr 61 (.tmp s) (.const (.int .i64 1))) (hs : ρ (.tmp s) = .pointer (some ⟨g, 0, none⟩)) (hl : g < w.heap.size) (hc : ρ (.const (.int .i64 1)) = .int .i64 1 := by rfl) :
    (execOp ρ o).run Tryd.prog w = .ok (.value (.pointer (some ⟨g, 1, none⟩))) w := by
  unfold execOp
  simp [hop, hs, hc, go_sem, hl]
theorem run_n3 {o : Oper} {w : World} {g s : Nat} (ρ : Operand → Value) (hop : o.op = .indexAddr 61 (.tmp s) (.const (.int .i64 3))) (hs : ρ (.tmp s) = .pointer (some ⟨g, 0, none⟩)) (hl : g < w.heap.size) (hc : ρ (.const (.int .i64 3)) = .int .i64 3 := by rfl) :
    (execOp ρ o).run Tryd.prog w = .ok (.value (.pointer (some ⟨g, 3, none⟩))) w := by
  unfold execOp
  simp [hop, hs, hc, go_sem, hl]
theorem run_slice_shots {o : Oper} {w : World} {g j s : Nat} {p : Option Addr} {n c : Nat} (ρ : Operand → Value) (hop : o.op = .load 24 (.tmp s)) (hs : ρ (.tmp s) = .pointer (some ⟨g, j, none⟩)) (k : w.cell? ⟨g, j, none⟩ = some (.slice p n c)) :
    (execOp ρ o).run Tryd.prog w = .ok (.value (.slice p n c)) w := by
  unfold execOp
  simp [hop, hs, go_sem, k]
theorem run_at_shot {o : Oper} {w : World} {g j s u n c k : Nat} (ρ : Operand → Value) (hop : o.op = .indexAddr 24 (.tmp s) (.tmp u)) (h1 : ρ (.tmp s) = .slice (some ⟨g, j, none⟩) n c) (h2 : ρ (.tmp u) = .int .i64 k) (hk : k < n) (hl : g < w.heap.size) :
    (execOp ρ o).run Tryd.prog w = .ok (.value (.pointer (some ⟨g, j + k * 4, none⟩))) w := by
  have k0 : (0 : Int) ≤ (k : Int) := by omega
  have k1 : (k : Int) < (n : Int) := by omega
  unfold execOp
  simp [hop, h1, h2, go_sem, hl, k0, k1]
theorem run_when {o : Oper} {w : World} {g j s : Nat} (ρ : Operand → Value) (hop : o.op = .fieldAddr 46 (.tmp s) 2) (hs : ρ (.tmp s) = .pointer (some ⟨g, j, none⟩)) (hl : g < w.heap.size) :
    (execOp ρ o).run Tryd.prog w = .ok (.value (.pointer (some ⟨g, j + 2, none⟩))) w := by
  unfold execOp
  simp [hop, hs, go_sem, hl]

theorem SpansAt.off {w : World} {p : Option Addr} {l : List (Int × Int)} (h : SpansAt w p l) {g : Nat} (ho : ∀ a, p = some a → a.block = g → l = []) (i : Nat) (v : Value) : SpansAt (w.setCell ⟨g, i, none⟩ v) p l := fun j s hs => by
  obtain ⟨b, o, e, hb, h1, h2⟩ := h j s hs
  have hne : g ≠ b := fun hc => by
    have := ho _ e hc.symm
    subst this
    simp at hs
  exact ⟨b, o, e, by simpa using hb, by rw [World.cell?_setCell_far _ _ _ _ hne]; exact h1, by rw [World.cell?_setCell_far _ _ _ _ hne]; exact h2⟩
theorem ShotsAt.off {w : World} {p : Option Addr} {l : List Shot} (h : ShotsAt w p l) {g : Nat} (ho : ∀ a, p = some a → a.block = g → l = []) (i : Nat) (v : Value) : ShotsAt (w.setCell ⟨g, i, none⟩ v) p l := fun j s hs => by
  obtain ⟨b, o, e, hb, h1, h2, h3, h4⟩ := h j s hs
  have hne : g ≠ b := fun hc => by
    have := ho _ e hc.symm
    subst this
    simp at hs
  exact ⟨b, o, e, by simpa using hb, by rw [World.cell?_setCell_far _ _ _ _ hne]; exact h1, by rw [World.cell?_setCell_far _ _ _ _ hne]; exact h2, by rw [World.cell?_setCell_far _ _ _ _ hne]; exact h3, by rw [World.cell?_setCell_far _ _ _ _ hne]; exact h4⟩
/-- A book is stored into a variable. -/
abbrev put4 (w : World) (g : Nat) (v0 v1 v2 v3 : Value) : World := (((w.setCell ⟨g, 0, none⟩ v0).setCell ⟨g, 1, none⟩ v1).setCell ⟨g, 2, none⟩ v2).setCell ⟨g, 3, none⟩ v3
theorem put4_at {w : World} {g : Nat} {t : TypeId} {a b c d : Value} (h : Blk w g t #[a, b, c, d]) (v0 v1 v2 v3 : Value) : Blk (put4 w g v0 v1 v2 v3) g t #[v0, v1, v2, v3] := by
  have := (((h.set 0 v0).set 1 v1).set 2 v2).set 3 v3
  simpa using this
theorem put4_off {w : World} {g g' : Nat} {t : TypeId} {cs : Array Value} (h : Blk w g' t cs) (hne : g' ≠ g) (v0 v1 v2 v3 : Value) : Blk (put4 w g v0 v1 v2 v3) g' t cs := (((h.setOther hne 0 v0).setOther hne 1 v1).setOther hne 2 v2).setOther hne 3 v3
/-- A variable that holds a book of which more is known, in memory of its own. -/
def KnownAt (b : Bk) (po : Option Addr) (co g : Nat) (w : World) (X : Bk) : Prop := ∃ (p1 : Option Addr) (c1 : Nat) (p3 : Option Addr) (c3 : Nat),
  Blk w g 26 #[.int .i64 b.n, .slice p1 b.bs.length c1, .slice po b.os.length co, .slice p3 b.ss.length c3] ∧ SpansAt w p1 X.bs ∧ ShotsAt w p3 X.ss ∧ (∀ a, p1 = some a → a.block = g → X.bs = []) ∧ (∀ a, p3 = some a → a.block = g → X.ss = [])
theorem KnownAt.bel {b : Bk} {po : Option Addr} {co g : Nat} {w w' : World} {X : Bk} (h : KnownAt b po co g w X) (hb : Below w.heap.size w w') : KnownAt b po co g w' X := by
  obtain ⟨p1, c1, p3, c3, k, h1, h2, h3, h4⟩ := h
  exact ⟨p1, c1, p3, c3, k.bel hb, h1.below hb, h2.below hb, h3, h4⟩
theorem SpansAt.fresh {w : World} {p : Option Addr} {l : List (Int × Int)} (h : SpansAt w p l) {g : Nat} (hg : w.heap.size ≤ g) : ∀ a, p = some a → a.block = g → l = [] := fun a ha hag => by
  cases l with
  | nil => rfl
  | cons s l =>
    obtain ⟨b, o, e, hb, -⟩ := h 0 s rfl
    rw [ha] at e; cases e
    dsimp only at hag
    omega
theorem ShotsAt.fresh {w : World} {p : Option Addr} {l : List Shot} (h : ShotsAt w p l) {g : Nat} (hg : w.heap.size ≤ g) : ∀ a, p = some a → a.block = g → l = [] := fun a ha hag => by
  cases l with
  | nil => rfl
  | cons s l =>
    obtain ⟨b, o, e, hb, -⟩ := h 0 s rfl
    rw [ha] at e; cases e
    dsimp only at hag
    omega

def knowR (bk bs : Value) (n : Int) (l1 l2 l3 k : Nat) (po : Option Addr) (co : Nat) (ps : Option Addr) (cs gb gn g a j : Nat) (lo hi n1 v : Int) (L : List (Int × Int)) (i : Nat) (u : Value) (w : World) : Prop :=
  match i with
  | 0 => u = bk
  | 1 => u = .int .i64 k
  | 2 => u = .pointer (some ⟨gb, 1, none⟩)
  | 3 => u = bs
  | 4 => u = .int .i64 k
  | 5 => u = .pointer (some ⟨a, j, none⟩)
  | 6 => u = .agg #[.int .i64 lo, .int .i64 hi]
  | 7 => u = .pointer (some ⟨gn, 1, none⟩)
  | 8 => u = .int .i64 n1
  | 9 => u = .int .i64 v
  | 10 => ∃ g2 c2 : Nat, u = .agg #[.int .i64 n, .slice (some ⟨g2, 0, none⟩) l1 c2, .slice po l2 co, .slice ps l3 cs] ∧ g < g2 ∧ SpansAt w (some ⟨g2, 0, none⟩) L
  | _ => True
theorem knowR_kept (bk bs : Value) (n : Int) (l1 l2 l3 k : Nat) (po : Option Addr) (co : Nat) (ps : Option Addr) (cs gb gn g a j : Nat) (lo hi n1 v : Int) (L : List (Int × Int)) : ∀ (i : Nat), i < 11 → ∀ (u : Value) (w w' : World), knowR bk bs n l1 l2 l3 k po co ps cs gb gn g a j lo hi n1 v L i u w → Below w.heap.size w w' → knowR bk bs n l1 l2 l3 k po co ps cs gb gn g a j lo hi n1 v L i u w' := by
  intro i hi u w w' h hb
  rcases (show i = 0 ∨ i = 1 ∨ i = 2 ∨ i = 3 ∨ i = 4 ∨ i = 5 ∨ i = 6 ∨ i = 7 ∨ i = 8 ∨ i = 9 ∨ i = 10 by omega) with hi0 | hi0 | hi0 | hi0 | hi0 | hi0 | hi0 | hi0 | hi0 | hi0 | hi0
  all_goals subst hi0
  all_goals first
    | exact h
    | (obtain ⟨q1, d1, h1, h2, h3⟩ := h; exact ⟨q1, d1, h1, h2, h3.below hb⟩)
def onlyR (bk bs : Value) (n : Int) (l1 l2 l3 k : Nat) (p1 : Option Addr) (c1 : Nat) (po : Option Addr) (co gb gn g a j : Nat) (lo hi n3 y : Int) (L : List Shot) (i : Nat) (u : Value) (w : World) : Prop :=
  match i with
  | 0 => u = bk
  | 1 => u = .int .i64 k
  | 2 => u = .pointer (some ⟨gb, 3, none⟩)
  | 3 => u = bs
  | 4 => u = .int .i64 k
  | 5 => u = .pointer (some ⟨a, j, none⟩)
  | 6 => u = .pointer (some ⟨a, j + 2, none⟩)
  | 7 => u = .agg #[.int .i64 lo, .int .i64 hi]
  | 8 => u = .pointer (some ⟨gn, 3, none⟩)
  | 9 => u = .int .i64 n3
  | 10 => u = .int .i64 y
  | 11 => ∃ g2 c2 : Nat, u = .agg #[.int .i64 n, .slice p1 l1 c1, .slice po l2 co, .slice (some ⟨g2, 0, none⟩) l3 c2] ∧ g < g2 ∧ ShotsAt w (some ⟨g2, 0, none⟩) L
  | _ => True
theorem onlyR_kept (bk bs : Value) (n : Int) (l1 l2 l3 k : Nat) (p1 : Option Addr) (c1 : Nat) (po : Option Addr) (co gb gn g a j : Nat) (lo hi n3 y : Int) (L : List Shot) : ∀ (i : Nat), i < 12 → ∀ (u : Value) (w w' : World), onlyR bk bs n l1 l2 l3 k p1 c1 po co gb gn g a j lo hi n3 y L i u w → Below w.heap.size w w' → onlyR bk bs n l1 l2 l3 k p1 c1 po co gb gn g a j lo hi n3 y L i u w' := by
  intro i hi u w w' h hb
  rcases (show i = 0 ∨ i = 1 ∨ i = 2 ∨ i = 3 ∨ i = 4 ∨ i = 5 ∨ i = 6 ∨ i = 7 ∨ i = 8 ∨ i = 9 ∨ i = 10 ∨ i = 11 by omega) with hi0 | hi0 | hi0 | hi0 | hi0 | hi0 | hi0 | hi0 | hi0 | hi0 | hi0 | hi0
  all_goals subst hi0
  all_goals first
    | exact h
    | (obtain ⟨q1, d1, h1, h2, h3⟩ := h; exact ⟨q1, d1, h1, h2, h3.below hb⟩)
theorem set_small {l : List Int} (h : ∀ x ∈ l, 0 ≤ x ∧ x < 4) : (setN l : Int) < 16 := by have := setN_lt l h; omega
/-- Two sets, the first one in the second. -/
theorem or_sub {l m : List Int} (hl : ∀ x ∈ l, 0 ≤ x ∧ x < 4) (hm : ∀ x ∈ m, 0 ≤ x ∧ x < 4) (h : ∀ x ∈ l, x ∈ m) : bits .or .i64 (setN l : Int) (setN m : Int) = (setN m : Int) := by
  rw [bits_orN _ (setN_lt l hl) _ (setN_lt m hm), setN_sub h]
end Go.Proofs.YtmnbfjphndgmnaaDoor

