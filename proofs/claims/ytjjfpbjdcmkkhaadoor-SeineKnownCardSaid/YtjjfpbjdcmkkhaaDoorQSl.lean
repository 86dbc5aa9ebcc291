/- Package seine: the hour of the last note; a note and the state before it. -/
/- Package seine: those of some numbers of which something is so. -/
import Derived.Test.YtjjfpbjdcmkkhaaDoorQSh
import Derived.Laws.StructEq
import Derived.ChangeKeysEq
import Derived.Test.YtjjfpbjdcmkkhaaDoorQIt
set_option linter.unusedSimpArgs false
set_option linter.unusedVariables false
namespace Go.Proofs.YtjjfpbjdcmkkhaaDoor
open Go Go.RowKit

/-- The hour of the last note, or 0. -/
def lastN (l : List Nt) : Int := pastN l l.length
theorem under_kinds : Tryd.prog.underlying 75 = some (.array 5 3) := by kernel_rfl
theorem kinds_eql (k : Kd) (w : World) : (Go.binOp .eql 75 (.agg #[.int .i64 k.a, .int .i64 k.b, .int .i64 k.c, .int .i64 k.d, .int .i64 k.e]) (.agg #[.int .i64 0, .int .i64 0, .int .i64 0, .int .i64 0, .int .i64 0])).run Tryd.prog w = .ok (.bool (k.a == 0 && (k.b == 0 && (k.c == 0 && (k.d == 0 && k.e == 0))))) w := by
  obtain ⟨a, b, c, d, e⟩ := k
  obtain ⟨i, hi⟩ : ∃ i, Tryd.prog.info? 3 = some i := Option.isSome_iff_exists.1 (by kernel_rfl)
  have hc : Tryd.prog.cellsOf 3 = 1 := by kernel_rfl
  rw [run_eql_struct, show (10000 : Nat) = 9999 + 1 from rfl, run_equalIn_array w 9999 _ _ under_kinds hi, hc, show List.range 5 = [0, 1, 2, 3, 4] from rfl]
  by_cases h1 : a = 0 <;> by_cases h2 : b = 0 <;> by_cases h3 : c = 0 <;> by_cases h4 : d = 0 <;> by_cases h5 : e = 0 <;> simp [go_sem, Op.eqItems, h1, h2, h3, h4, h5]
attribute [local go_sem] Oper.semAt_some frozen_alloc_lt
set_option maxHeartbeats 1000000 in
theorem last_any (b : Sn) (p : Option Addr) (c : Nat) (kd : Kd) (w : World) (hl : NotesAt w p b.ns) (hok : Ok9 b) (hkd : kd.ok b.ns.length) :
    Calls Tryd.prog 95 #[.agg (catC b.lo b.hi p b.ns.length c kd)] w fun e w' => e = .returned (.int .i64 (lastN b.ns)) ∧ ∃ x, w' = ext w x := by
  have hlen := hok.len
  have he := fun w => kinds_eql kd w
  cases hns : b.ns with
  | nil =>
    obtain ⟨x0, x1, x2, x3, x4⟩ := kd
    obtain ⟨g0, g1, g2, g3, g4, g5⟩ := hkd
    rw [hns] at g5
    dsimp only [List.length_nil] at g0 g1 g2 g3 g4 g5
    replace he : ∀ w, (Go.binOp .eql 75 (.agg #[.int .i64 x0, .int .i64 x1, .int .i64 x2, .int .i64 x3, .int .i64 x4]) (.agg #[.int .i64 0, .int .i64 0, .int .i64 0, .int .i64 0, .int .i64 0])).run Tryd.prog w = .ok (.bool true) w := fun w => by rw [he w]; congr 2; simp; omega
    clear g0 g1 g2 g3 g4 g5 hl hok hlen
    unfold catC
    go_enter Tryd.func95, Tryd.ntmps95
    go_wp2_with fail
    go_ret
    exact ⟨rfl, by (exact ext_of (by (repeat (first | (with_reducible exact Below.refl _ _) | (with_reducible assumption) | ((with_reducible refine below_ext_trans ?_ ?_ _); rotate_left; focus (((try dsimp only); repeat (first | omega | simp only [World.size_alloc, World.size_setCell, World.size_drew] | (with_reducible refine le_ext_of ?_) | (with_reducible refine le_ext_add ?_))); done)) | ((with_reducible refine Below.alloc ?_ ?_ _); rotate_left; focus (((try dsimp only); repeat (first | omega | simp only [World.size_alloc, World.size_setCell, World.size_drew] | (with_reducible refine le_ext_of ?_) | (with_reducible refine le_ext_add ?_))); done)) | ((with_reducible refine Below.setCell ?_ ?_ _); rotate_left; focus (((try dsimp only); repeat (first | omega | simp only [World.size_alloc, World.size_setCell, World.size_drew] | (with_reducible refine le_ext_of ?_) | (with_reducible refine le_ext_add ?_))); done)) | (with_reducible refine Below.drew ?_)))))⟩
  | cons s0 l0 =>
    have hkl : b.ns.length = l0.length + 1 := by rw [hns]; rfl
    obtain ⟨t, ht⟩ := get_some b.ns l0.length (by omega)
    obtain ⟨bb, o, rfl, hb, c1, c2, c3, c4⟩ := hl _ t ht
    have HP := Lib.hid (show lastN b.ns = t.hour by unfold lastN; rw [hkl]; simp only [pastN, ht])
    rw [← hns]
    obtain ⟨n, hn⟩ : ∃ n, n = b.ns.length := ⟨_, rfl⟩
    obtain ⟨k, hk⟩ : ∃ k, k = l0.length := ⟨_, rfl⟩
    rw [← hk] at hkl c1 c2 c3 c4
    have hn1 : wrap64 ((b.ns.length : Int) - 1) = (k : Int) := by unfold wrap64; omega
    have hn2 : (b.ns.length : Int) - 1 = (k : Int) := by omega
    have hn3 : wrap64 (k : Int) = (k : Int) := by unfold wrap64; omega
    have hk2 : (0 : Int) ≤ (k : Int) := by omega
    have hk3 : (k : Int) < (b.ns.length : Int) := by omega
    replace he : ∀ w, (Go.binOp .eql 75 (.agg #[.int .i64 kd.a, .int .i64 kd.b, .int .i64 kd.c, .int .i64 kd.d, .int .i64 kd.e]) (.agg #[.int .i64 0, .int .i64 0, .int .i64 0, .int .i64 0, .int .i64 0])).run Tryd.prog w = .ok (.bool false) w := fun w => by
      obtain ⟨g0, g1, g2, g3, g4, g5⟩ := hkd
      rw [he w]; congr 2; simp; omega
    clear hkd hl hok hlen ht hns hk hkl hn
    unfold catC
    go_enter Tryd.func95, Tryd.ntmps95
    go_wp2_with fail
    go_ret
    exact ⟨by rw [HP.out]; rfl, by (exact ext_of (by (repeat (first | (with_reducible exact Below.refl _ _) | (with_reducible assumption) | ((with_reducible refine below_ext_trans ?_ ?_ _); rotate_left; focus (((try dsimp only); repeat (first | omega | simp only [World.size_alloc, World.size_setCell, World.size_drew] | (with_reducible refine le_ext_of ?_) | (with_reducible refine le_ext_add ?_))); done)) | ((with_reducible refine Below.alloc ?_ ?_ _); rotate_left; focus (((try dsimp only); repeat (first | omega | simp only [World.size_alloc, World.size_setCell, World.size_drew] | (with_reducible refine le_ext_of ?_) | (with_reducible refine le_ext_add ?_))); done)) | ((with_reducible refine Below.setCell ?_ ?_ _); rotate_left; focus (((try dsimp only); repeat (first | omega | simp only [World.size_alloc, World.size_setCell, World.size_drew] | (with_reducible refine le_ext_of ?_) | (with_reducible refine le_ext_add ?_))); done)) | (with_reducible refine Below.drew ?_)))))⟩
/-- A state some hours later. -/
def aftS (s : Int × Int) (n : Int) : Int × Int := (afterH s.2 n.toNat s.1, s.2)
/-- What is so before a note. -/
def befS (l : List Nt) (k : Nat) (s : Int × Int) : Int × Int := aftS s (gapN l k)
theorem befS_eq (l : List Nt) (k : Nat) (h r : Int) : befS l k (h, r) = (afterH r (gapN l k).toNat h, r) := rfl
set_option maxHeartbeats 1000000 in
theorem claim_any (b : Sn) (p : Option Addr) (c : Nat) (kd : Kd) (k : Nat) (s : Nt) (h r : Int) (w : World) (hl : NotesAt w p b.ns) (hok : Ok9 b) (hs : b.ns[k]? = some s) (h0 : 0 ≤ h ∧ h ≤ 400) (r0 : 0 ≤ r ∧ r ≤ 1000) :
    Calls Tryd.prog 100 #[.agg (catC b.lo b.hi p b.ns.length c kd), .int .i64 k, .agg #[.int .i64 h, .int .i64 r]] w fun e w' => e = .returned (.agg (clmC s (befS b.ns k (h, r)).1 (befS b.ns k (h, r)).2)) ∧ ∃ x, w' = ext w x := by
  obtain ⟨bb, o, hp, hb, c1, c2, c3, c4⟩ := hl k s hs
  have hg := hok.gap hs
  have hkl : (k : Int) < (b.ns.length : Int) := by have := (List.getElem?_eq_some_iff.1 hs).1; omega
  have hk0 : (0 : Int) ≤ (k : Int) := by omega
  have hl1 : bb ≤ w.heap.size := by omega
  have hl2 : bb ≤ w.heap.size + 1 := by omega
  have hl3 : bb < w.heap.size + 1 + 1 := by omega
  have hl4 : bb < w.heap.size + 1 := by omega
  rw [befS_eq]
  obtain ⟨n, hn⟩ : ∃ n : Nat, gapN b.ns k = n := ⟨(gapN b.ns k).toNat, by omega⟩
  rw [hn]
  have hn60 : n ≤ 60 := by omega
  have HS := Lib.hid (fun (w : World) (h1 : NotesAt w p b.ns) => by have := since_any b p c kd k s w h1 hok hs; rw [hn] at this; exact this)
  have HL := Lib.hid hl
  subst hp
  clear hg hl hok hs hn
  unfold catC at *
  go_enter Tryd.func100, Tryd.ntmps100
  go_upto_region 1 with fail
  refine wp_region_ext_tail 12 (by kernel_rfl) (by kernel_rfl) ?_
  simp only [List.take_succ_cons, List.take_zero, List.drop_succ_cons, List.drop_zero]
  repeat (go_big_quiet_step (first | (go_at_call 113; exact quiet_ext (HS.out _ (HL.out.below (by (repeat (first | (with_reducible exact Below.refl _ _) | (with_reducible assumption) | ((with_reducible refine below_ext_trans ?_ ?_ _); rotate_left; focus (((try dsimp only); repeat (first | omega | simp only [World.size_alloc, World.size_setCell, World.size_drew] | (with_reducible refine le_ext_of ?_) | (with_reducible refine le_ext_add ?_))); done)) | ((with_reducible refine Below.alloc ?_ ?_ _); rotate_left; focus (((try dsimp only); repeat (first | omega | simp only [World.size_alloc, World.size_setCell, World.size_drew] | (with_reducible refine le_ext_of ?_) | (with_reducible refine le_ext_add ?_))); done)) | ((with_reducible refine Below.setCell ?_ ?_ _); rotate_left; focus (((try dsimp only); repeat (first | omega | simp only [World.size_alloc, World.size_setCell, World.size_drew] | (with_reducible refine le_ext_of ?_) | (with_reducible refine le_ext_add ?_))); done)) | (with_reducible refine Below.drew ?_))))))) | (go_at_call 91; exact quiet_ext (after_any h r n _ r0 (by omega) h0.1 (by omega)))))
  (refine wpQuiet_nil ?_; rintro _ ⟨x, rfl⟩)
  go_wp2_with fail
  refine bodyPost_ret (v := .agg (clmC s (afterH r n h) r)) (by simp [results, Tryd.results100, go_sem, clmC]) rfl ⟨rfl, ?_⟩
  (exact ext_of (by (repeat (first | (with_reducible exact Below.refl _ _) | (with_reducible assumption) | ((with_reducible refine below_ext_trans ?_ ?_ _); rotate_left; focus (((try dsimp only); repeat (first | omega | simp only [World.size_alloc, World.size_setCell, World.size_drew] | (with_reducible refine le_ext_of ?_) | (with_reducible refine le_ext_add ?_))); done)) | ((with_reducible refine Below.alloc ?_ ?_ _); rotate_left; focus (((try dsimp only); repeat (first | omega | simp only [World.size_alloc, World.size_setCell, World.size_drew] | (with_reducible refine le_ext_of ?_) | (with_reducible refine le_ext_add ?_))); done)) | ((with_reducible refine Below.setCell ?_ ?_ _); rotate_left; focus (((try dsimp only); repeat (first | omega | simp only [World.size_alloc, World.size_setCell, World.size_drew] | (with_reducible refine le_ext_of ?_) | (with_reducible refine le_ext_add ?_))); done)) | (with_reducible refine Below.drew ?_)))))
end Go.Proofs.YtjjfpbjdcmkkhaaDoor

namespace Go.Proofs.YtjjfpbjdcmkkhaaDoor
open Go Go.RowKit Go.Shelf

theorem YieldAt.inR {F : Fence} {m : Nat} {P : Program} {l : Nat} {args : Array Value} {W : World} {R : Ending → World → Prop} (l' : Nat) (h : YieldAt F m P l args W R) : YieldAt (F.inRound l') m P l args W R := h
/-- What an iterator over what is right has captured. -/
structure OnlyBox (w : World) (g ga gi : Nat) (a b : Int) (s : Nt) (h r : Int) : Prop where
  sp : Blk w g 23 #[.int .i64 a, .int .i64 b]
  al : Blk w ga 136 #[.func (.func 122) #[] #[.pointer (some ⟨g, 0, none⟩)]]
  is : Blk w gi 86 #[.func (.func 119) #[.agg (clmC s h r)] #[]]
theorem OnlyBox.bel {w w' : World} {g ga gi : Nat} {a b : Int} {s : Nt} {h r : Int} (k : OnlyBox w g ga gi a b s h r) (hb : Below w.heap.size w w') : OnlyBox w' g ga gi a b s h r := ⟨k.sp.bel hb, k.al.bel hb, k.is.bel hb⟩
theorem right_eq (s : Nt) (h r m : Int) (q : Bool) (w : World) (hk : 0 ≤ s.kind ∧ s.kind ≤ 4) (hq : rightB s.kind h m = q) : Calls Tryd.prog 119 #[.agg (clmC s h r), .int .i64 m] w fun e w' => e = .returned (.bool q) ∧ ∃ x, w' = ext w x := by
  subst hq; exact right_any s h r m w hk
theorem filter_skip {α : Type} {p : α → Bool} {l : List α} {x : α} (h : p x = false) : (l ++ [x]).filter p = l.filter p := by simp [List.filter_append, h]
theorem filter_take {α : Type} {p : α → Bool} {l : List α} {x : α} (h : p x = true) : (l ++ [x]).filter p = l.filter p ++ [x] := by simp [List.filter_append, h]
attribute [local go_sem] Oper.semAt_some frozen_alloc_lt
set_option maxHeartbeats 4000000 in
theorem only1_in (g ga gi : Nat) (a b : Int) (s : Nt) (h r : Int) (O : Nat → Prop) (w : World) (hx : OnlyBox w g ga gi a b s h r) (h0a : 0 ≤ a) (hab : a ≤ b) (hb : b ≤ 100000) (hks : 0 ≤ s.kind ∧ s.kind ≤ 4) (hO : ∀ k, O k → k ≠ g ∧ k ≠ ga ∧ k ≠ gi) :
    Seq0 Tryd.prog 124 #[] #[.pointer (some ⟨ga, 0, none⟩), .pointer (some ⟨gi, 0, none⟩)] encI O (fun xs => xs = (numsL a b).filter (rightB s.kind h)) (fun pre => pre <+: (numsL a b).filter (rightB s.kind h)) w := by
  intro n l J Jx W hW hOW hJ hJx hY h0
  have hx := hx.bel hW
  have q0 := hx.al.cell 0
  have ql := hx.al.lt
  simp only [List.size_toArray, List.length_cons, List.length_nil, Nat.reduceAdd, Nat.reduceLT, getElem?_pos, List.getElem_toArray, List.getElem_cons_zero, List.getElem_cons_succ] at q0
  have HX := Lib.hid hx
  have HJ := Lib.hid hJ
  have HJx := Lib.hid hJx
  have HY := Lib.hid hY
  have H0 := Lib.hid h0
  have HO := Lib.hid hO
  have HOW := Lib.hid hOW
  clear hJ hJx hY h0 hO hOW hW hx
  refine callsIn_of_wp_marks Tryd.func124 rfl trivial ?_ rfl
  simp only [Tryd.ntmps124, List.size_toArray, List.length_cons, List.length_nil, Nat.reduceAdd, Nat.reduceSub, Array.replicate_succ, Array.replicate_zero, List.push_toArray, List.append_toArray, List.nil_append, List.cons_append]
  gi_wp2_with fail
  have hyb : Blk (W.alloc (.cells #[.func (.yield l) #[] #[]] 86)) W.heap.size 86 #[.func (.yield l) #[] #[]] := Blk.new rfl
  have hBW : Below W.heap.size W (W.alloc (.cells #[.func (.yield l) #[] #[]] 86)) := by (repeat (first | (with_reducible exact Below.refl _ _) | (with_reducible assumption) | ((with_reducible refine below_ext_trans ?_ ?_ _); rotate_left; focus (((try dsimp only); repeat (first | omega | simp only [World.size_alloc, World.size_setCell, World.size_drew] | (with_reducible refine le_ext_of ?_) | (with_reducible refine le_ext_add ?_))); done)) | ((with_reducible refine Below.alloc ?_ ?_ _); rotate_left; focus (((try dsimp only); repeat (first | omega | simp only [World.size_alloc, World.size_setCell, World.size_drew] | (with_reducible refine le_ext_of ?_) | (with_reducible refine le_ext_add ?_))); done)) | ((with_reducible refine Below.setCell ?_ ?_ _); rotate_left; focus (((try dsimp only); repeat (first | omega | simp only [World.size_alloc, World.size_setCell, World.size_drew] | (with_reducible refine le_ext_of ?_) | (with_reducible refine le_ext_add ?_))); done)) | (with_reducible refine Below.drew ?_)))
  have hz1 : (W.alloc (.cells #[.func (.yield l) #[] #[]] 86)).heap.size = W.heap.size + 1 := by simp
  generalize hW1 : W.alloc (.cells #[.func (.yield l) #[] #[]] 86) = W1 at *
  have hx1 := HX.out.bel hBW
  have HX1 := Lib.hid hx1
  have HYB := Lib.hid hyb
  have HBW := Lib.hid hBW
  have hgl := hx1.sp.lt
  have hgl1 := HX.out.sp.lt
  have hgl2 := HX.out.al.lt
  have hgl3 := HX.out.is.lt
  have hseq := numbers1_in g a b (fun k => O k ∨ k = W1.heap.size + 1) W1 hx1.sp h0a hab hb (fun k hk => by
    rcases hk with hk | hk
    · exact (HO.out k hk).1
    · omega)
  clear q0 ql hW1 hyb hBW hx1
  refine wpIn_rangeFunc_0 (gf := 122) (fb := #[]) (lb := #[.pointer (some ⟨g, 0, none⟩)]) rfl (enters_of Tryd.func122 (by kernel_rfl) rfl)
    O (fun k hk => by have := HOW.out k hk; omega) hseq (Below.refl _ _) (fun _ => rfl)
    (fun pre A => J (pre.filter (rightB s.kind h)) A ∧ Blk A W.heap.size 86 #[.func (.yield l) #[] #[]] ∧ Blk A gi 86 #[.func (.func 119) #[.agg (clmC s h r)] #[]])
    (fun c pre A => c = .ret ∧ Jx (pre.filter (rightB s.kind h)) A)
    (fun pre x a' A => a' = { tmps := #[.func (.yield l) #[] #[], .pointer (some ⟨ga, 0, none⟩), .pointer (some ⟨gi, 0, none⟩), .pointer (some ⟨W.heap.size, 0, none⟩), .int .i64 x, .func (.func 122) #[] #[.pointer (some ⟨g, 0, none⟩)], .int .i64 x, undef, undef, undef, undef, undef, undef, undef, undef, undef], defers := [] })
    ?hI ?hIx ?hAx ?h0 ?hassign ?hbody ?hdone ?hstop
  case hI =>
    rintro pre A C ⟨j1, j2, j3⟩ hz hp
    exact ⟨HJ.out _ _ _ j1 (by omega) (hp.mono (by omega)), (hp.block _ (by omega)).trans j2, (hp.block _ (by omega)).trans j3⟩
  case hIx =>
    rintro c pre A C ⟨rfl, j1⟩ hz hp
    exact ⟨rfl, HJx.out _ _ _ j1 (by omega) (hp.mono (by omega))⟩
  case hAx => rintro pre x a' A C rfl hp; rfl
  case h0 =>
    intro W2 hb2
    exact ⟨HJ.out _ _ _ H0.out (Nat.le_refl _) (HBW.out.trans (hb2.mono (by omega))), (hb2.block _ (by omega)).trans HYB.out, (hb2.block _ (by omega)).trans HX1.out.is⟩
  case hassign =>
    intro m l' pre x W' hz hsp hi'
    exact wpIn_assign ⟨by simp [go_sem, Act.put, Act.eval], Below.refl _ _⟩
  case hbody =>
    rintro m l' pre x a' W' hz hsp ⟨j1, j2, j3⟩ rfl
    have c1 := j2.cell 0
    have c2 := j3.cell 0
    have l1 := j2.lt
    have l2 := j3.lt
    simp only [List.size_toArray, List.length_cons, List.length_nil, Nat.reduceAdd, Nat.reduceLT, getElem?_pos, List.getElem_toArray, List.getElem_cons_zero, List.getElem_cons_succ] at c1 c2
    have J1 := Lib.hid j1
    have J2 := Lib.hid j2
    have J3 := Lib.hid j3
    have HSP := Lib.hid hsp
    clear j1 j2 j3 hsp hseq
    obtain ⟨q, hq⟩ : ∃ q, rightB s.kind h x = q := ⟨_, rfl⟩
    have HQ := Lib.hid hq
    clear hq
    cases q
    · gi_wp2_with (gi_at_call 119; refine (CallsIn.inRound _ (callsIn_wide.2 (right_eq s h r x false _ hks HQ.out))).mono ?_; rintro e w' ⟨rfl, y, rfl⟩)
      refine ⟨PrivM.of_below (below_ext W' y), ?_, J2.out.ext y, J3.out.ext y⟩
      rw [filter_skip HQ.out]
      exact HJ.out _ _ _ J1.out (by omega) ((below_ext W' y).mono (by omega))
    · have HF := Lib.hid (filter_take (l := pre) HQ.out)
      have HP := Lib.hid (show pre.filter (rightB s.kind h) ++ [x] <+: (numsL a b).filter (rightB s.kind h) by rw [← HF.out]; exact HSP.out.filter _)
      gi_wp2_with (gi_at_call 119; refine (CallsIn.inRound _ (callsIn_wide.2 (right_eq s h r x true _ hks HQ.out))).mono ?_; rintro e w' ⟨rfl, y, rfl⟩; obtain ⟨fn, tmps, assign, body, hy, hR⟩ := YieldAt.inR l' (HY.out _ (pre.filter (rightB s.kind h)) x (ext W' y) (by have := (below_ext W' y).size; omega) HP.out (HJ.out _ _ _ J1.out (by omega) ((below_ext W' y).mono (by omega)))); dsimp only [encI] at hy)
      refine hR.mono ?_
      have hyz : W'.heap.size ≤ (ext W' y).heap.size := (below_ext W' y).size
      rintro e B (⟨rfl, hJB, hS⟩ | ⟨rfl, hJB, hS⟩)
      · have HS := Lib.hid hS
        have HJB := Lib.hid hJB
        clear hS hJB hy hR
        gi_wp2_with fail
        refine ⟨(PrivM.of_below (below_ext W' y)).trans HS.out, by rw [HF.out]; exact HJB.out, (HS.out.block _ (by omega) (fun e => by have := HOW.out _ e; omega)).trans (J2.out.ext y), (HS.out.block _ (by omega) (fun e => by have := HO.out _ e; omega)).trans (J3.out.ext y)⟩
      · have HS := Lib.hid hS
        have HJB := Lib.hid hJB
        clear hS hJB hy hR
        gi_wp2_with fail
        exact ⟨(PrivM.of_below (below_ext W' y)).trans HS.out, rfl, by rw [HF.out]; exact HJB.out⟩
  case hdone =>
    rintro D xs W' rfl hz rfl ⟨j1, j2, j3⟩ hp hD'
    have J1 := Lib.hid j1
    have HPV := Lib.hid hp
    clear j1 j2 j3 hp hseq
    gi_wp2_with fail
    refine ⟨by simp, .inl ⟨_, _, rfl, run_takeDeferred hD', ?_⟩⟩
    exact ⟨_, results_none rfl _ _ _, ⟨_, rfl⟩, HPV.out.shut HBW.out (by omega) _, .inl ⟨_, rfl, HJ.out _ _ _ J1.out (by omega) (below_putObj _ (by omega) _)⟩⟩
  case hstop =>
    rintro D c pre W' rfl hz hSp ⟨rfl, j1⟩ hp hD'
    have J1 := Lib.hid j1
    have HPV := Lib.hid hp
    clear j1 hp hseq
    gi_wp2_with fail
    refine ⟨by simp, .inl ⟨_, _, rfl, run_takeDeferred hD', ?_⟩⟩
    exact ⟨_, results_none rfl _ _ _, ⟨_, rfl⟩, HPV.out.shut HBW.out (by omega) _, .inr ⟨_, hSp.filter _, HJx.out _ _ _ J1.out (by omega) (below_putObj _ (by omega) _)⟩⟩
end Go.Proofs.YtjjfpbjdcmkkhaaDoor

