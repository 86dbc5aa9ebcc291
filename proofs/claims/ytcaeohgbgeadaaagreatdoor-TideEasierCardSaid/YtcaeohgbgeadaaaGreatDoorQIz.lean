/- An assignment inside a round. -/
/- Package seine: those of some numbers of which something is so. -/
/- A region that draws its order INSIDE A ROUND (none of its operations is a defer statement), all of whose operations are quiet among the worlds that have grown beyond the one in which it begins. -/
import Derived.Test.YtcaeohgbgeadaaaGreatDoorQIt
import Derived.Test.YtcaeohgbgeadaaaGreatDoorQSi
import Derived.Test.YtcaeohgbgeadaaaGreatDoorQExt
import Derived.Sort.BigQuietIn
set_option linter.unusedSimpArgs false
set_option linter.unusedVariables false
namespace Go.Proofs.YtcaeohgbgeadaaaGreatDoor
open Go Go.RowKit
attribute [local go_sem] Oper.semAt_some
theorem wpIn_assign {F : Fence} {n : Nat} {P : Program} {id d s : Nat} {ty : TypeId} {pos : String} {Q : Exit → Act → World → Prop} {a : Act} {w : World} (h : Q .normal (a.put (some d) (a.eval (.tmp s))) w) :
    (Code.region id #[{ dst := some d, op := .assign (.tmp s), type := ty, pos := pos, after := #[], guard := none }] false).wpIn F n P Q a w := by
  refine wpIn_region_list ?_
  refine wpListIn_plain rfl fun K hK => ?_
  have h2 := hK _ _ h
  clear h hK
  unfold Oper.wpIn
  simp [go_sem, execOp, Oper.about]
  rw [Oper.semAt_plain _ _ _ (by intro c hc; cases hc)]
  simp [go_sem, execOp]
  simpa [Act.put, Act.eval, go_sem] using h2
end Go.Proofs.YtcaeohgbgeadaaaGreatDoor

namespace Go.Proofs.YtcaeohgbgeadaaaGreatDoor
open Go Go.RowKit Go.Shelf

theorem YieldAt.inR {F : Fence} {m : Nat} {P : Program} {l : Nat} {args : Array Value} {W : World} {R : Ending → World → Prop} (l' : Nat) (h : YieldAt F m P l args W R) : YieldAt (F.inRound l') m P l args W R := h
/-- What an iterator over what is right has captured. -/
structure OnlyBox (w : World) (g ga gi : Nat) (a b : Int) (s : Nt) (h r : Int) : Prop where
  sp : Blk w g 23 #[.int .i64 a, .int .i64 b]
  al : Blk w ga 214 #[.func (.func 194) #[] #[.pointer (some ⟨g, 0, none⟩)]]
  is : Blk w gi 125 #[.func (.func 193) #[.agg (clmC s h r)] #[]]
theorem OnlyBox.bel {w w' : World} {g ga gi : Nat} {a b : Int} {s : Nt} {h r : Int} (k : OnlyBox w g ga gi a b s h r) (hb : Below w.heap.size w w') : OnlyBox w' g ga gi a b s h r := ⟨k.sp.bel hb, k.al.bel hb, k.is.bel hb⟩
theorem right_eq (s : Nt) (h r m : Int) (q : Bool) (w : World) (hk : 0 ≤ s.kind ∧ s.kind ≤ 4) (hq : rightB s.kind h m = q) : Calls Tryz.prog 193 #[.agg (clmC s h r), .int .i64 m] w fun e w' => e = .returned (.bool q) ∧ ∃ x, w' = ext w x := by
  subst hq; exact right_any s h r m w hk
theorem filter_skip {α : Type} {p : α → Bool} {l : List α} {x : α} (h : p x = false) : (l ++ [x]).filter p = l.filter p := by simp [List.filter_append, h]
theorem filter_take {α : Type} {p : α → Bool} {l : List α} {x : α} (h : p x = true) : (l ++ [x]).filter p = l.filter p ++ [x] := by simp [List.filter_append, h]
attribute [local go_sem] Oper.semAt_some frozen_alloc_lt
set_option maxHeartbeats 4000000 in
theorem only1_in (g ga gi : Nat) (a b : Int) (s : Nt) (h r : Int) (O : Nat → Prop) (w : World) (hx : OnlyBox w g ga gi a b s h r) (h0a : 0 ≤ a) (hab : a ≤ b) (hb : b ≤ 100000) (hks : 0 ≤ s.kind ∧ s.kind ≤ 4) (hO : ∀ k, O k → k ≠ g ∧ k ≠ ga ∧ k ≠ gi) :
    Seq0 Tryz.prog 203 #[] #[.pointer (some ⟨ga, 0, none⟩), .pointer (some ⟨gi, 0, none⟩)] encI O (fun xs => xs = (numsL a b).filter (rightB s.kind h)) (fun pre => pre <+: (numsL a b).filter (rightB s.kind h)) w := by
  intro n l J Jx W hW hOW hJ hJx hY h0
  have hx := hx.bel hW
  have q0 := hx.al.cell 0
  have ql := hx.al.lt
  simp only [List.size_toArray, List.length_cons, List.length_nil, Nat.reduceAdd, Nat.reduceLT, getElem?_pos, List.getElem_toArray, List.getElem_cons_zero, List.getElem_cons_succ] at q0
  have HX := Lib.hid hx
  have HJ := Lib.hid hJ
  have HJx := Lib.hid hJx
  have HY := Lib.hid hY
  have H0 := Lib.hid h0
  have HO := Lib.hid hO
  have HOW := Lib.hid hOW
  clear hJ hJx hY h0 hO hOW hW hx
  refine callsIn_of_wp_marks Tryz.func203 rfl trivial ?_ rfl
  simp only [Tryz.ntmps203, List.size_toArray, List.length_cons, List.length_nil, Nat.reduceAdd, Nat.reduceSub, Array.replicate_succ, Array.replicate_zero, List.push_toArray, List.append_toArray, List.nil_append, List.cons_append]
  gi_wp2_with fail
  have hyb : Blk (W.alloc (.cells #[.func (.yield l) #[] #[]] 125)) W.heap.size 125 #[.func (.yield l) #[] #[]] := Blk.new rfl
  have hBW : Below W.heap.size W (W.alloc (.cells #[.func (.yield l) #[] #[]] 125)) := by (exact belA)
  have hz1 : (W.alloc (.cells #[.func (.yield l) #[] #[]] 125)).heap.size = W.heap.size + 1 := by simp
  generalize hW1 : W.alloc (.cells #[.func (.yield l) #[] #[]] 125) = W1 at *
  have hx1 := HX.out.bel hBW
  have HX1 := Lib.hid hx1
  have HYB := Lib.hid hyb
  have HBW := Lib.hid hBW
  have hgl := hx1.sp.lt
  have hgl1 := HX.out.sp.lt
  have hgl2 := HX.out.al.lt
  have hgl3 := HX.out.is.lt
  have hseq := numbers1_in g a b (fun k => O k ∨ k = W1.heap.size + 1) W1 hx1.sp h0a hab hb (fun k hk => by
    rcases hk with hk | hk
    · exact (HO.out k hk).1
    · omega)
  clear q0 ql hW1 hyb hBW hx1
  refine wpIn_rangeFunc_0 (gf := 194) (fb := #[]) (lb := #[.pointer (some ⟨g, 0, none⟩)]) rfl (enters_of Tryz.func194 (by kernel_rfl) rfl)
    O (fun k hk => by have := HOW.out k hk; omega) hseq (Below.refl _ _) (fun _ => rfl)
    (fun pre A => J (pre.filter (rightB s.kind h)) A ∧ Blk A W.heap.size 125 #[.func (.yield l) #[] #[]] ∧ Blk A gi 125 #[.func (.func 193) #[.agg (clmC s h r)] #[]])
    (fun c pre A => c = .ret ∧ Jx (pre.filter (rightB s.kind h)) A)
    (fun pre x a' A => a' = { tmps := #[.func (.yield l) #[] #[], .pointer (some ⟨ga, 0, none⟩), .pointer (some ⟨gi, 0, none⟩), .pointer (some ⟨W.heap.size, 0, none⟩), .int .i64 x, .func (.func 194) #[] #[.pointer (some ⟨g, 0, none⟩)], .int .i64 x, undef, undef, undef, undef, undef, undef, undef, undef, undef], defers := [] })
    ?hI ?hIx ?hAx ?h0 ?hassign ?hbody ?hdone ?hstop
  case hI =>
    rintro pre A C ⟨j1, j2, j3⟩ hz hp
    exact ⟨HJ.out _ _ _ j1 (by omega) (hp.mono (by omega)), (hp.block _ (by omega)).trans j2, (hp.block _ (by omega)).trans j3⟩
  case hIx =>
    rintro c pre A C ⟨rfl, j1⟩ hz hp
    exact ⟨rfl, HJx.out _ _ _ j1 (by omega) (hp.mono (by omega))⟩
  case hAx => rintro pre x a' A C rfl hp; rfl
  case h0 =>
    intro W2 hb2
    exact ⟨HJ.out _ _ _ H0.out (Nat.le_refl _) (HBW.out.trans (hb2.mono (by omega))), (hb2.block _ (by omega)).trans HYB.out, (hb2.block _ (by omega)).trans HX1.out.is⟩
  case hassign =>
    intro m l' pre x W' hz hsp hi'
    exact wpIn_assign ⟨by simp [go_sem, Act.put, Act.eval], Below.refl _ _⟩
  case hbody =>
    rintro m l' pre x a' W' hz hsp ⟨j1, j2, j3⟩ rfl
    have c1 := j2.cell 0
    have c2 := j3.cell 0
    have l1 := j2.lt
    have l2 := j3.lt
    simp only [List.size_toArray, List.length_cons, List.length_nil, Nat.reduceAdd, Nat.reduceLT, getElem?_pos, List.getElem_toArray, List.getElem_cons_zero, List.getElem_cons_succ] at c1 c2
    have J1 := Lib.hid j1
    have J2 := Lib.hid j2
    have J3 := Lib.hid j3
    have HSP := Lib.hid hsp
    clear j1 j2 j3 hsp hseq
    obtain ⟨q, hq⟩ : ∃ q, rightB s.kind h x = q := ⟨_, rfl⟩
    have HQ := Lib.hid hq
    clear hq
    cases q
    · gi_wp2_with (gi_at_call 193; refine (CallsIn.inRound _ (callsIn_wide.2 (right_eq s h r x false _ hks HQ.out))).mono ?_; rintro e w' ⟨rfl, y, rfl⟩)
      refine ⟨PrivM.of_below (below_ext W' y), ?_, J2.out.ext y, J3.out.ext y⟩
      rw [filter_skip HQ.out]
      exact HJ.out _ _ _ J1.out (by omega) ((below_ext W' y).mono (by omega))
    · have HF := Lib.hid (filter_take (l := pre) HQ.out)
      have HP := Lib.hid (show pre.filter (rightB s.kind h) ++ [x] <+: (numsL a b).filter (rightB s.kind h) by rw [← HF.out]; exact HSP.out.filter _)
      gi_wp2_with (gi_at_call 193; refine (CallsIn.inRound _ (callsIn_wide.2 (right_eq s h r x true _ hks HQ.out))).mono ?_; rintro e w' ⟨rfl, y, rfl⟩; obtain ⟨fn, tmps, assign, body, hy, hR⟩ := YieldAt.inR l' (HY.out _ (pre.filter (rightB s.kind h)) x (ext W' y) (by have := (below_ext W' y).size; omega) HP.out (HJ.out _ _ _ J1.out (by omega) ((below_ext W' y).mono (by omega)))); dsimp only [encI] at hy)
      refine hR.mono ?_
      have hyz : W'.heap.size ≤ (ext W' y).heap.size := (below_ext W' y).size
      rintro e B (⟨rfl, hJB, hS⟩ | ⟨rfl, hJB, hS⟩)
      · have HS := Lib.hid hS
        have HJB := Lib.hid hJB
        clear hS hJB hy hR
        gi_wp2_with fail
        refine ⟨(PrivM.of_below (below_ext W' y)).trans HS.out, by rw [HF.out]; exact HJB.out, (HS.out.block _ (by omega) (fun e => by have := HOW.out _ e; omega)).trans (J2.out.ext y), (HS.out.block _ (by omega) (fun e => by have := HO.out _ e; omega)).trans (J3.out.ext y)⟩
      · have HS := Lib.hid hS
        have HJB := Lib.hid hJB
        clear hS hJB hy hR
        gi_wp2_with fail
        exact ⟨(PrivM.of_below (below_ext W' y)).trans HS.out, rfl, by rw [HF.out]; exact HJB.out⟩
  case hdone =>
    rintro D xs W' rfl hz rfl ⟨j1, j2, j3⟩ hp hD'
    have J1 := Lib.hid j1
    have HPV := Lib.hid hp
    clear j1 j2 j3 hp hseq
    gi_wp2_with fail
    refine ⟨by simp, .inl ⟨_, _, rfl, run_takeDeferred hD', ?_⟩⟩
    exact ⟨_, results_none rfl _ _ _, ⟨_, rfl⟩, HPV.out.shut HBW.out (by omega) _, .inl ⟨_, rfl, HJ.out _ _ _ J1.out (by omega) (below_putObj _ (by omega) _)⟩⟩
  case hstop =>
    rintro D c pre W' rfl hz hSp ⟨rfl, j1⟩ hp hD'
    have J1 := Lib.hid j1
    have HPV := Lib.hid hp
    clear j1 hp hseq
    gi_wp2_with fail
    refine ⟨by simp, .inl ⟨_, _, rfl, run_takeDeferred hD', ?_⟩⟩
    exact ⟨_, results_none rfl _ _ _, ⟨_, rfl⟩, HPV.out.shut HBW.out (by omega) _, .inr ⟨_, hSp.filter _, HJx.out _ _ _ J1.out (by omega) (below_putObj _ (by omega) _)⟩⟩
end Go.Proofs.YtcaeohgbgeadaaaGreatDoor

namespace Go.Proofs.YtcaeohgbgeadaaaGreatDoor
open Go Go.RowKit

section
variable {F : Fence} {n : Nat} {P : Program} {ops : Array Oper} {md : Region.Mode} {C : World → Prop}

def noDefer (ops : List Oper) : Bool := ops.all fun o => match o.op with | .defer _ => false | _ => true
def NoDefer (ops : Array Oper) : Prop := ∀ (i : Nat) (o : Oper), ops[i]? = some o → ∀ c, o.op ≠ .defer c
theorem noDefer_spec {l : List Oper} (h : noDefer l = true) : NoDefer l.toArray := by
  intro i o hi c hc
  have hm : o ∈ l := by
    have : l[i]? = some o := by simpa using hi
    exact List.mem_of_getElem? this
  have := List.all_eq_true.1 h o hm
  rw [hc] at this
  cases this

theorem wpIn_of_quiet_r {o : Oper} {a : Act} {K : Act → Prop} {K' : Act → World → Prop} {Q' : Exit → Act → World → Prop} {w : World} (hd0 : ∀ c, o.op ≠ .defer c) (hw : C w) (h : ∀ a w', C w' → K a → K' a w')
    (ha : o.askedIn F P a C) (hh : o.quietIn F n P a C K) : o.wpIn F n P a w K' Q' := by
  obtain ⟨v, h1, h2⟩ := hh
  have h3 := h1 w hw
  unfold Oper.quietAtIn at h3
  unfold Oper.wpIn
  refine ⟨ha w hw, ?_⟩
  rw [Oper.semAt_plain F _ _ hd0]
  generalize (execOp a.eval o).run P w = r at *
  cases r with
  | ok x w' =>
    cases x <;> simp only [Oper.quietUponIn] at h3 <;> simp only [Oper.uponIn]
    case value u =>
      obtain ⟨e1, e2⟩ := h3
      rw [e1, e2]
      exact h _ _ hw h2
    case skip =>
      obtain ⟨e1, e2⟩ := h3
      rw [e1, ← e2]
      exact h _ _ hw h2
    case enter f args =>
      obtain ⟨e1, hd, hc⟩ := h3
      rw [e1]
      exact ⟨hd, hc.mono fun e w'' ⟨he, hw''⟩ => by subst he; exact h _ _ hw'' h2⟩
  | halt x w' => simp only [Oper.quietUponIn] at h3

theorem wpOpIn_of_qOpIn_r {i : Nat} {a : Act} {K : Act → Prop} {K' : Act → World → Prop} {Q' : Exit → Act → World → Prop} {w : World} (hnd : NoDefer ops) (hC : C w) (h : ∀ a w', C w' → K a → K' a w')
    (hh : qOpIn F n P ops C i K a) : wpOpIn F n P ops Q' i K' a w := by
  unfold qOpIn at hh
  unfold wpOpIn
  split
  · rename_i ho; simp only [ho] at hh; exact h _ _ hC hh
  · rename_i o ho
    simp only [ho] at hh
    obtain ⟨ha, hh⟩ := hh
    split
    · rename_i hw; simp only [hw, if_true] at hh; exact wpIn_of_quiet_r (hnd i o ho) hC h ha hh
    · rename_i hw; simp only [hw] at hh; exact ⟨ha w hC, h _ _ hC hh⟩

theorem wpAnyIn_of_quiet_r {Q : Act → Prop} {Q' : Exit → Act → World → Prop} (hnd : NoDefer ops) (hQ : ∀ a w, C w → Q a → Q' .normal a w) : ∀ (fuel : Nat) (listed : Array Bool) (a : Act) (w : World), C w →
    wpAnyQIn F n P md ops C Q fuel listed a → wpAnyIn F n P md ops Q' fuel listed a w
  | 0, _, _, _, hw, h => ⟨h.1, hQ _ _ hw h.2⟩
  | fuel + 1, _, _, _, hw, h => ⟨fun h0 => hQ _ _ hw (h.1 h0), fun i hi => wpOpIn_of_qOpIn_r hnd hw (fun a' w' hw' => wpAnyIn_of_quiet_r hnd hQ fuel _ a' w' hw') (h.2 i hi)⟩

theorem wpIn_region_quiet_r {id : Nat} {Q : Exit → Act → World → Prop} {a : Act} {w : World} (hnd : NoDefer ops) (hm : P.follows .mixedOrders = true) (hB : Region.lexB .any ops = true) (hC : C { w with drawn := w.drawn + 1 })
    (h : wpQuietIn F n P ops C (fun a' => ∀ w', C w' → Q .normal a' w') ops.toList a) : (Code.region id ops true).wpIn F n P Q a w := by
  simp only [Region.lexB, Bool.and_eq_true] at hB
  refine wpIn_region_any hm (wpAnyIn_of_quiet_r (Q := fun a' => ∀ w', C w' → Q .normal a' w') hnd (fun _ w' hw' h => h w' hw') _ _ _ _ hC ?_)
  have := wpAnyQIn_lex (F := F) (n := n) (C := C) (md := .any) hB.1 ops.toList 0 (Array.replicate ops.size false) a (by simp) (by simpa using hB.2) h
  simpa using this

end

/-- The region's operations written out, at the class of the worlds grown beyond this one. -/
theorem wpIn_region_ext {F : Fence} {n : Nat} {P : Program} {id : Nat} {Q : Exit → Act → World → Prop} {a : Act} {w : World} {l : List Oper} (hnd : noDefer l = true) (hm : P.follows .mixedOrders = true) (hB : Region.lexB .any l.toArray = true)
    (h : wpQuietIn F n P l.toArray (fun w' => ∃ x, w' = ext w x) (fun a' => ∀ w', (∃ x, w' = ext w x) → Q .normal a' w') l a) : (Code.region id l.toArray true).wpIn F n P Q a w :=
  wpIn_region_quiet_r (C := fun w' => ∃ x, w' = ext w x) (noDefer_spec hnd) hm hB (ext_of (Below.drew (Below.refl _ _))) (by simpa using h)
end Go.Proofs.YtcaeohgbgeadaaaGreatDoor

