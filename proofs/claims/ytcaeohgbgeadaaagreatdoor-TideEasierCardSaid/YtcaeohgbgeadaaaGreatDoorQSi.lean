/- Package seine: the iterator over the numbers of a span. -/
/- Package seine: newCatch: a book, and how many notes there are of each kind (told: each of them none or more, all together as many as there are notes). -/
/- Package seine: a claim is right; the hours between two notes; the hour of the last one; a claim. -/
/- Package seine: the hour of the last note; a note and the state before it. -/
import Derived.Test.YtcaeohgbgeadaaaGreatDoorQDa
import Derived.Test.YtcaeohgbgeadaaaGreatDoorQIt
import Derived.Sort.CutIn
import Derived.Shelf.Abstract
import Derived.Shelf.RegionOpen
import Derived.Laws.StructEq
import Derived.ChangeKeysEq
set_option linter.unusedSimpArgs false
set_option linter.unusedVariables false
namespace Go.Proofs.YtcaeohgbgeadaaaGreatDoor
open Go Go.RowKit Go.Shelf

def NumsPost (w : World) (a b : Int) (e : Ending) (w' : World) : Prop :=
  ∃ g : Nat, e = .returned (.func (.func 194) #[] #[.pointer (some ⟨g, 0, none⟩)]) ∧ w.heap.size ≤ g ∧ Blk w' g 23 #[.int .i64 a, .int .i64 b] ∧ ∃ x, w' = ext w x
theorem numbers_any (a b : Int) (w : World) : Calls Tryz.prog 177 #[.agg #[.int .i64 a, .int .i64 b]] w (NumsPost w a b) := by
  go_enter Tryz.func177, Tryz.ntmps177
  go_wp2
  go_ret
  exact ⟨w.heap.size, rfl, Nat.le_refl _, Blk.new rfl, by (exact ext_of (by (exact belA)))⟩

/-- The first k numbers from one on. -/
def nupto (a : Int) (k : Nat) : List Int := (List.range k).map (fun (j : Nat) => a + (j : Int))
/-- The numbers of a span. -/
def numsL (a b : Int) : List Int := nupto a (b - a + 1).toNat
theorem nupto_snoc (a : Int) (k : Nat) : nupto a k ++ [a + (k : Int)] = nupto a (k + 1) := by simp [nupto, List.range_succ]
theorem nupto_prefix (a : Int) (k k' : Nat) (h : k ≤ k') : nupto a k <+: nupto a k' := by
  unfold nupto
  refine List.IsPrefix.map _ ?_
  refine ⟨(List.range (k' - k)).map (fun (x : Nat) => k + x), ?_⟩
  rw [← List.range_add]
  congr 1; omega
theorem mem_numsL {a b x : Int} : x ∈ numsL a b ↔ a ≤ x ∧ x ≤ b := by
  unfold numsL nupto
  simp only [List.mem_map, List.mem_range]
  constructor
  · rintro ⟨j, hj, rfl⟩; omega
  · rintro ⟨h1, h2⟩; exact ⟨(x - a).toNat, by omega, by omega⟩
abbrev encI (m : Int) : Array Value := #[.int .i64 m]

attribute [local go_sem] Oper.semAt_some
set_option maxHeartbeats 4000000 in
theorem numbers1_in (g : Nat) (a b : Int) (O : Nat → Prop) (w : World) (hk : Blk w g 23 #[.int .i64 a, .int .i64 b]) (h0a : 0 ≤ a) (hab : a ≤ b) (hb : b ≤ 100000) (hO : ∀ k, O k → k ≠ g) :
    Seq0 Tryz.prog 194 #[] #[.pointer (some ⟨g, 0, none⟩)] encI O (fun xs => xs = numsL a b) (fun pre => pre <+: numsL a b) w := by
  intro n l J Jx W hW hOW hJ hJx hY h0
  have hkW : Blk W g 23 #[.int .i64 a, .int .i64 b] := (hW.block g hk.lt).trans hk
  have hgl := hkW.lt
  have H0 : Hid (J (nupto a 0) W) := Lib.hid (show J [] W from h0)
  have HY := Lib.hid hY
  have HO := Lib.hid hO
  obtain ⟨d, hd⟩ : ∃ d : Nat, b = a + (d : Int) := ⟨(b - a).toNat, by omega⟩
  have hnums : numsL a b = nupto a (d + 1) := by unfold numsL; congr 1; omega
  rw [hnums] at HY ⊢
  subst hd
  have q0 := hkW.cell 0
  have q1 := hkW.cell 1
  simp only [List.size_toArray, List.length_cons, List.length_nil, Nat.reduceAdd, Nat.reduceLT, getElem?_pos, List.getElem_toArray, List.getElem_cons_zero, List.getElem_cons_succ] at q0 q1
  have HREL : Hid (J (nupto a 0) W ∧ Blk W g 23 #[.int .i64 a, .int .i64 (a + (d : Int))] ∧ PrivM O W W) := Lib.hid ⟨H0.out, hkW, PrivM.refl _ _⟩
  have hsub : IntKind.i64.wrap (a + (d : Int) - a + 1) = (d : Int) + 1 := by
    rw [show a + (d : Int) - a + 1 = (d : Int) + 1 by omega]
    exact IntWalk.i64_in _ (by omega)
  have HGL := Lib.hid hgl
  clear hW hOW hJ hJx hY h0 hO hkW hk H0
  refine callsIn_of_wp Tryz.func194 rfl trivial ?_ rfl
  simp only [Tryz.ntmps194, List.size_toArray, List.length_cons, List.length_nil, Nat.reduceAdd, Nat.reduceSub, Array.replicate_succ, Array.replicate_zero, List.push_toArray, List.append_toArray, List.nil_append, List.cons_append]
  gi_wp2_with fail
  clear q0 q1
  gi_loopw [3, 10, 12, 13, 14, 15, 16, 17, 18, 19, 20] (fun _ i _ _ _ _ _ _ _ _ _ wr => ∃ k : Nat, k ≤ d + 1 ∧ i = .int .i64 k ∧ Hid (J (nupto a k) wr ∧ Blk wr g 23 #[.int .i64 a, .int .i64 (a + (d : Int))] ∧ PrivM O W wr)) (fun _ i _ _ _ _ _ _ _ _ _ _ => d + 1 - (intOf i).toNat)
  case atStart => exact ⟨0, by omega, rfl, HREL⟩
  case round =>
    clear HREL
    obtain ⟨k, hk, rfl, HR⟩ := hrel
    by_cases hlt : k < d + 1
    · have hlt' : (k : Int) < (d : Int) + 1 := by omega
      have hlt2 : (k : Int) ≤ (d : Int) := by omega
      obtain ⟨fn, tmps, assign, body, hy, hR⟩ := HY.out _ (nupto a k) (a + (k : Int)) wr HR.out.2.2.size (by rw [nupto_snoc]; exact nupto_prefix a _ _ (by omega)) HR.out.1
      dsimp only [encI] at hy
      have q0 := HR.out.2.1.cell 0
      simp only [List.size_toArray, List.length_cons, List.length_nil, Nat.reduceAdd, Nat.reduceLT, getElem?_pos, List.getElem_toArray, List.getElem_cons_zero, List.getElem_cons_succ] at q0
      gi_wp2_with fail
      refine hR.mono ?_
      rintro e B (⟨rfl, hJB, hS⟩ | ⟨rfl, hJB, hS⟩)
      · have HS := Lib.hid hS
        have HJB := Lib.hid hJB
        clear hS hJB hy hR q0
        gi_wp2_with fail
        go_roundw
        case rel =>
          refine ⟨k + 1, by omega, by go_num, Lib.hid ⟨by have := HJB.out; rw [nupto_snoc] at this; exact this, (HS.out.block g (by have := HR.out.2.2.size; have := HGL.out; omega) (fun e => HO.out g e rfl)).trans HR.out.2.1, HR.out.2.2.trans HS.out⟩⟩
        case measure => simp [intOf]; omega
      · gi_wp2_with fail
        refine bodyPost_ret (results_none rfl _ _ _) rfl ?_
        exact ⟨⟨_, rfl⟩, HR.out.2.2.trans hS, .inr ⟨_, by rw [nupto_snoc]; exact nupto_prefix a _ _ (by omega), hJB⟩⟩
    · have hge : ¬ ((k : Int) < (d : Int) + 1) := by omega
      gi_wp2_with fail
      go_end0
      obtain rfl : k = d + 1 := by omega
      exact ⟨⟨_, rfl⟩, HR.out.2.2, .inl HR.out.1⟩
end Go.Proofs.YtcaeohgbgeadaaaGreatDoor

namespace Go.Proofs.YtcaeohgbgeadaaaGreatDoor
open Go Go.RowKit

/-- How many notes there are of each kind. -/
structure Kd where
  a : Int
  b : Int
  c : Int
  d : Int
  e : Int
def Kd.ok (k : Kd) (n : Nat) : Prop := 0 ≤ k.a ∧ 0 ≤ k.b ∧ 0 ≤ k.c ∧ 0 ≤ k.d ∧ 0 ≤ k.e ∧ k.a + k.b + k.c + k.d + k.e = n
/-- The cells of a catch. -/
def catC (lo hi : Int) (p : Option Addr) (n c : Nat) (k : Kd) : Array Value := #[.int .i64 lo, .int .i64 hi, .slice p n c, .int .i64 k.a, .int .i64 k.b, .int .i64 k.c, .int .i64 k.d, .int .i64 k.e]
def kindsOK (l : List Nt) : Prop := ∀ s ∈ l, 0 ≤ s.kind ∧ s.kind ≤ 4
theorem chainN_all {past : Int} {l : List Nt} (h : chainN past l = true) : ∀ s ∈ l, ntB s = true := by
  induction l generalizing past with
  | nil => intro s hs; cases hs
  | cons a l ih =>
    simp only [chainN, Bool.and_eq_true] at h
    intro s hs
    rcases List.mem_cons.1 hs with rfl | hs
    · exact h.1.1
    · exact ih h.2 s hs
theorem ntB_facts {s : Nt} (h : ntB s = true) : (0 ≤ s.kind ∧ s.kind ≤ 4) ∧ (0 ≤ s.hour ∧ s.hour ≤ 60) ∧ SpanOK s.lo s.hi (mostOf s.kind) := by
  simp only [ntB, noteB, Bool.and_eq_true] at h
  exact ⟨of_inB h.1.1, of_inB h.1.2, spanB_iff.1 h.2⟩
theorem kinds_ok {b : Sn} (h : snB b = true) : kindsOK b.ns := fun s hs => by
  simp only [snB, notesB, Bool.and_eq_true] at h
  exact (ntB_facts (chainN_all h.2.2 s hs)).1
def Kd.inc (k : Kd) (j : Int) : Kd := if j = 0 then { k with a := k.a + 1 } else if j = 1 then { k with b := k.b + 1 } else if j = 2 then { k with c := k.c + 1 } else if j = 3 then { k with d := k.d + 1 } else { k with e := k.e + 1 }
attribute [local go_sem] Oper.semAt_some frozen_alloc_lt
theorem wrap_inc {a : Int} (h0 : 0 ≤ a) (h1 : a ≤ 1000000) : wrap64 (a + 1) = a + 1 := by unfold wrap64; omega
set_option maxRecDepth 100000 in
set_option maxHeartbeats 4000000 in
theorem newCatch_any (lo hi : Int) (l : List Nt) (p : Option Addr) (c : Nat) (w : World) (hl : NotesAt w p l) (hk : kindsOK l) (h9 : l.length ≤ 100) :
    Calls Tryz.prog 97 #[.agg #[.int .i64 lo, .int .i64 hi, .slice p l.length c]] w fun e w' => ∃ k : Kd, k.ok l.length ∧ e = .returned (.agg (catC lo hi p l.length c k)) ∧ ∃ x, w' = ext w x := by
  have HL := Lib.hid hl
  clear hl
  go_enter Tryz.func97, Tryz.ntmps97
  go_upto_region 2 with fail
  generalize hW : ((w.alloc _).alloc _).alloc _ = W
  have hB : Below w.heap.size w W := by rw [← hW]; (exact belA)
  have kb : Blk W w.heap.size 26 #[.int .i64 lo, .int .i64 hi, .slice p l.length c] := by rw [← hW]; exact ((Blk.new rfl).alloc _).alloc _
  have kR : Blk W (w.heap.size + 1) 119 #[.int .i64 0, .int .i64 0, .slice none 0 0, .int .i64 0, .int .i64 0, .int .i64 0, .int .i64 0, .int .i64 0] := by rw [← hW]; exact (Blk.new (by simp)).alloc _
  have kC : Blk W (w.heap.size + 1 + 1) 119 (catC lo hi p l.length c ⟨0, 0, 0, 0, 0⟩) := by rw [← hW]; exact Blk.new (by simp)
  have HB := Lib.hid hB
  have HR := Lib.hid kR
  have HC := Lib.hid kC
  have hz : W.heap.size = w.heap.size + 1 + 1 + 1 := by rw [← hW]; simp
  have d0 := kb.cell 2
  have dl := kb.lt
  simp only [List.size_toArray, List.length_cons, List.length_nil, Nat.reduceAdd, Nat.reduceLT, getElem?_pos, List.getElem_toArray, List.getElem_cons_zero, List.getElem_cons_succ] at d0
  clear hW hB kb kR kC
  go_upto_region 3 with fail
  clear d0 dl
  go_loopw [5, 11] (fun v i wr => ∃ (k : Nat) (kd : Kd), k ≤ l.length ∧ i = .int .i64 k ∧ Hid (kd.ok k) ∧ Hid (Blk wr (w.heap.size + 1 + 1) 119 (catC lo hi p l.length c kd)) ∧ Hid (Below (w.heap.size + 1 + 1) W wr)) (fun _ i _ => l.length - (intOf i).toNat)
  case atStart => exact ⟨0, ⟨0, 0, 0, 0, 0⟩, by omega, rfl, Lib.hid (by simp [Kd.ok]), HC, Lib.hid (Below.refl _ _)⟩
  case round =>
    obtain ⟨k, kd, hkl, rfl, HKD, HK, HBr⟩ := hrel
    by_cases hlt : k < l.length
    · obtain ⟨⟨kn, hr, nlo, nhi⟩, ht⟩ := get_some l k hlt
      have hkd := hk _ (List.mem_of_getElem? ht)
      dsimp only at hkd
      have hwb : Below w.heap.size w wr := HB.out.trans (HBr.out.mono (by omega))
      obtain ⟨b, o, hp, hb, c1, c2, c3, c4⟩ := (HL.out.below hwb) k _ ht
      dsimp only at c1 c2 c3 c4
      subst hp
      have k0 : (0 : Int) ≤ (k : Int) := by omega
      have k1 : (k : Int) < (l.length : Int) := by omega
      have HW := Lib.hid (wrap_num k (by omega))
      obtain ⟨x0, x1, x2, x3, x4⟩ := kd
      obtain ⟨g0, g1, g2, g3, g4, g5⟩ := HKD.out
      dsimp only at g0 g1 g2 g3 g4 g5
      have HG := Lib.hid HKD.out
      have e0 := HK.out.cell 3
      have e1 := HK.out.cell 4
      have e2 := HK.out.cell 5
      have e3 := HK.out.cell 6
      have e4 := HK.out.cell 7
      have f3 := HK.out.frozen 3
      have f4 := HK.out.frozen 4
      have f5 := HK.out.frozen 5
      have f6 := HK.out.frozen 6
      have f7 := HK.out.frozen 7
      have ll := HK.out.lt
      unfold catC at e0 e1 e2 e3 e4
      simp only [List.size_toArray, List.length_cons, List.length_nil, Nat.reduceAdd, Nat.reduceLT, getElem?_pos, List.getElem_toArray, List.getElem_cons_zero, List.getElem_cons_succ] at e0 e1 e2 e3 e4
      have w0 := wrap_inc g0 (by omega)
      have w1 := wrap_inc g1 (by omega)
      have w2 := wrap_inc g2 (by omega)
      have w3 := wrap_inc g3 (by omega)
      have w4 := wrap_inc g4 (by omega)
      have HK2 := Lib.hid HK.out
      have HB2 := Lib.hid HBr.out
      clear ht hwb HK HBr HL HKD g5 hkl hz hk
      rcases (show kn = 0 ∨ kn = 1 ∨ kn = 2 ∨ kn = 3 ∨ kn = 4 by omega) with rfl | rfl | rfl | rfl | rfl
      · clear e1 e2 e3 e4 f4 f5 f6 f7 w1 w2 w3 w4 hkd
        go_wp2_with fail
        refine ⟨⟨k + 1, ⟨x0 + 1, x1, x2, x3, x4⟩, by omega, by go_num, Lib.hid ?_, Lib.hid ?_, Lib.hid ?_⟩, less_num _ k hlt⟩
        · have g5 := HG.out.2.2.2.2.2
          dsimp only at g5
          refine ⟨?_, ?_, ?_, ?_, ?_, ?_⟩ <;> dsimp only <;> omega
        · exact (HK2.out.set 3 _).alloc _
        · exact (HB2.out.setCell (by simp) _).alloc (by simp; omega) _
      · clear e0 e2 e3 e4 f3 f5 f6 f7 w0 w2 w3 w4 hkd
        go_wp2_with fail
        refine ⟨⟨k + 1, ⟨x0, x1 + 1, x2, x3, x4⟩, by omega, by go_num, Lib.hid ?_, Lib.hid ?_, Lib.hid ?_⟩, less_num _ k hlt⟩
        · have g5 := HG.out.2.2.2.2.2
          dsimp only at g5
          refine ⟨?_, ?_, ?_, ?_, ?_, ?_⟩ <;> dsimp only <;> omega
        · exact (HK2.out.set 4 _).alloc _
        · exact (HB2.out.setCell (by simp) _).alloc (by simp; omega) _
      · clear e0 e1 e3 e4 f3 f4 f6 f7 w0 w1 w3 w4 hkd
        go_wp2_with fail
        refine ⟨⟨k + 1, ⟨x0, x1, x2 + 1, x3, x4⟩, by omega, by go_num, Lib.hid ?_, Lib.hid ?_, Lib.hid ?_⟩, less_num _ k hlt⟩
        · have g5 := HG.out.2.2.2.2.2
          dsimp only at g5
          refine ⟨?_, ?_, ?_, ?_, ?_, ?_⟩ <;> dsimp only <;> omega
        · exact (HK2.out.set 5 _).alloc _
        · exact (HB2.out.setCell (by simp) _).alloc (by simp; omega) _
      · clear e0 e1 e2 e4 f3 f4 f5 f7 w0 w1 w2 w4 hkd
        go_wp2_with fail
        refine ⟨⟨k + 1, ⟨x0, x1, x2, x3 + 1, x4⟩, by omega, by go_num, Lib.hid ?_, Lib.hid ?_, Lib.hid ?_⟩, less_num _ k hlt⟩
        · have g5 := HG.out.2.2.2.2.2
          dsimp only at g5
          refine ⟨?_, ?_, ?_, ?_, ?_, ?_⟩ <;> dsimp only <;> omega
        · exact (HK2.out.set 6 _).alloc _
        · exact (HB2.out.setCell (by simp) _).alloc (by simp; omega) _
      · clear e0 e1 e2 e3 f3 f4 f5 f6 w0 w1 w2 w3 hkd
        go_wp2_with fail
        refine ⟨⟨k + 1, ⟨x0, x1, x2, x3, x4 + 1⟩, by omega, by go_num, Lib.hid ?_, Lib.hid ?_, Lib.hid ?_⟩, less_num _ k hlt⟩
        · have g5 := HG.out.2.2.2.2.2
          dsimp only at g5
          refine ⟨?_, ?_, ?_, ?_, ?_, ?_⟩ <;> dsimp only <;> omega
        · exact (HK2.out.set 7 _).alloc _
        · exact (HB2.out.setCell (by simp) _).alloc (by simp; omega) _
    · obtain rfl : k = l.length := by omega
      have HK2 := Lib.hid HK.out
      have hB2 := HBr.out
      have kr : Blk wr (w.heap.size + 1) 119 _ := (HBr.out.block _ (by omega)).trans HR.out
      have HKR := Lib.hid kr
      have r0 := HK.out.cell 0
      have r1 := HK.out.cell 1
      have r2 := HK.out.cell 2
      have r3 := HK.out.cell 3
      have r4 := HK.out.cell 4
      have r5 := HK.out.cell 5
      have r6 := HK.out.cell 6
      have r7 := HK.out.cell 7
      have q0 := kr.frozen 0
      have q1 := kr.frozen 1
      have q2 := kr.frozen 2
      have q3 := kr.frozen 3
      have q4 := kr.frozen 4
      have q5 := kr.frozen 5
      have q6 := kr.frozen 6
      have q7 := kr.frozen 7
      have lr := kr.lt
      have ll := HK.out.lt
      unfold catC at r0 r1 r2 r3 r4 r5 r6 r7
      simp only [List.size_toArray, List.length_cons, List.length_nil, Nat.reduceAdd, Nat.reduceLT, getElem?_pos, List.getElem_toArray, List.getElem_cons_zero, List.getElem_cons_succ] at r0 r1 r2 r3 r4 r5 r6 r7
      have s0 := kr.cell 0
      have s1 := kr.cell 1
      have s2 := kr.cell 2
      have s3 := kr.cell 3
      have s4 := kr.cell 4
      have s5 := kr.cell 5
      have s6 := kr.cell 6
      have s7 := kr.cell 7
      simp only [List.size_toArray, List.length_cons, List.length_nil, Nat.reduceAdd, Nat.reduceLT, getElem?_pos, List.getElem_toArray, List.getElem_cons_zero, List.getElem_cons_succ] at s0 s1 s2 s3 s4 s5 s6 s7
      have HKD2 := Lib.hid HKD.out
      have HB2 := Lib.hid (HB.out.trans (hB2.mono (show w.heap.size ≤ w.heap.size + 1 + 1 by omega) |>.mono (Nat.le_refl _)))
      clear hB2 HK HBr kr HKD hk HL hz
      go_wp2_with fail
      refine bodyPost_ret (v := .agg (catC lo hi p l.length c kd)) (by simp [results, Tryz.results97, go_sem, catC, lr, s0, s1, s2, s3, s4, s5, s6, s7, q0, q1, q2, q3, q4, q5, q6, q7]) rfl ⟨kd, HKD2.out, rfl, ext_of ?_⟩
      have hB := HB2.out
      (exact belA)
end Go.Proofs.YtcaeohgbgeadaaaGreatDoor

namespace Go.Proofs.YtcaeohgbgeadaaaGreatDoor
open Go Go.RowKit

/-- Is a note of a kind right with a number, by what is held before it? -/
def rightB (k h m : Int) : Bool := if k = 0 then decide (m ≤ h) else if k = 4 then decide (m = h) else true
abbrev clmC (s : Nt) (h r : Int) : Array Value := #[.int .i64 s.kind, .int .i64 s.hour, .int .i64 s.lo, .int .i64 s.hi, .int .i64 h, .int .i64 r]
attribute [local go_sem] Oper.semAt_some frozen_alloc_lt
theorem right_any (s : Nt) (h r m : Int) (w : World) (hk : 0 ≤ s.kind ∧ s.kind ≤ 4) : Calls Tryz.prog 193 #[.agg (clmC s h r), .int .i64 m] w fun e w' => e = .returned (.bool (rightB s.kind h m)) ∧ ∃ x, w' = ext w x := by
  obtain ⟨kd, hr, lo, hi⟩ := s
  dsimp only [clmC] at *
  rcases (show kd = 0 ∨ kd = 1 ∨ kd = 2 ∨ kd = 3 ∨ kd = 4 by omega) with rfl | rfl | rfl | rfl | rfl
  all_goals
    go_enter Tryz.func193, Tryz.ntmps193
    go_wp2
    go_ret
    exact ⟨by simp [rightB] <;> rfl, by (exact ext_of (by (exact belA)))⟩

/-- A catch's book, with a note more at most. -/
structure Ok9 (b : Sn) : Prop where
  span : SpanOK b.lo b.hi 400
  chain : chainN 0 b.ns = true
  len : b.ns.length ≤ 9
theorem Ok9.of {b : Sn} (h : snB b = true) : Ok9 b := by
  simp only [snB, notesB, Bool.and_eq_true, decide_eq_true_eq] at h
  exact ⟨spanB_iff.1 h.1, h.2.2, by omega⟩
theorem Ok9.nt {b : Sn} (h : Ok9 b) {k : Nat} {s : Nt} (hs : b.ns[k]? = some s) : (0 ≤ s.kind ∧ s.kind ≤ 4) ∧ (0 ≤ s.hour ∧ s.hour ≤ 60) ∧ SpanOK s.lo s.hi (mostOf s.kind) := ntB_facts (chainN_all h.chain s (List.mem_of_getElem? hs))
theorem Ok9.kinds {b : Sn} (h : Ok9 b) : kindsOK b.ns := fun s hs => (ntB_facts (chainN_all h.chain s hs)).1
/-- Notes are in order. -/
theorem chainN_sorted {past : Int} : ∀ {l : List Nt}, chainN past l = true → ∀ {k : Nat} {s : Nt}, l[k]? = some s → past ≤ s.hour ∧ (∀ t, l[k + 1]? = some t → s.hour ≤ t.hour)
  | [], _, k, s, hs => by simp at hs
  | a :: l, h, k, s, hs => by
    simp only [chainN, Bool.and_eq_true, decide_eq_true_eq] at h
    cases k with
    | zero =>
      simp only [List.getElem?_cons_zero, Option.some.injEq] at hs
      subst hs
      refine ⟨h.1.2, fun t ht => ?_⟩
      rw [List.getElem?_cons_succ] at ht
      exact (chainN_sorted h.2 ht).1
    | succ k =>
      rw [List.getElem?_cons_succ] at hs
      obtain ⟨h1, h2⟩ := chainN_sorted h.2 hs
      exact ⟨by have := h.1.2; omega, fun t ht => h2 t (by rwa [List.getElem?_cons_succ] at ht)⟩
/-- How many hours pass between a note and the one before it. -/
def gapN (l : List Nt) (k : Nat) : Int := (match l[k]? with | some s => s.hour | none => 0) - pastN l k
theorem gapN_at {l : List Nt} {k : Nat} {s : Nt} (h : l[k]? = some s) : gapN l k = s.hour - pastN l k := by simp [gapN, h]
theorem Ok9.gap {b : Sn} (h : Ok9 b) {k : Nat} {s : Nt} (hs : b.ns[k]? = some s) : 0 ≤ gapN b.ns k ∧ gapN b.ns k ≤ 60 := by
  rw [gapN_at hs]
  obtain ⟨-, h2, -⟩ := h.nt hs
  cases k with
  | zero => simp [pastN]; omega
  | succ k =>
    obtain ⟨t, ht⟩ := get_some b.ns k (by have := (List.getElem?_eq_some_iff.1 hs).1; omega)
    have h3 := (chainN_sorted h.chain ht).2 s hs
    obtain ⟨-, h4, -⟩ := h.nt ht
    simp [pastN, ht]
    omega
set_option maxHeartbeats 1000000 in
theorem since_any (b : Sn) (p : Option Addr) (c : Nat) (kd : Kd) (k : Nat) (s : Nt) (w : World) (hl : NotesAt w p b.ns) (hok : Ok9 b) (hs : b.ns[k]? = some s) :
    Calls Tryz.prog 187 #[.agg (catC b.lo b.hi p b.ns.length c kd), .int .i64 k] w fun e w' => e = .returned (.int .i64 (gapN b.ns k)) ∧ ∃ x, w' = ext w x := by
  rw [gapN_at hs]
  have hlen := hok.len
  have hkl : (k : Int) < (b.ns.length : Int) := by have := (List.getElem?_eq_some_iff.1 hs).1; omega
  obtain ⟨bb, o, rfl, hb, c1, c2, c3, c4⟩ := hl k s hs
  obtain ⟨-, h2, -⟩ := hok.nt hs
  have hk0 : (0 : Int) ≤ (k : Int) := by omega
  have hl1 : bb ≤ w.heap.size := by omega
  cases k with
  | zero =>
    simp only [Nat.zero_mul, Nat.add_zero] at c1 c2 c3 c4
    have hkl : (0 : Int) < (b.ns.length : Int) := by simpa using hkl
    clear hl hok hs hk0
    unfold catC
    go_enter Tryz.func187, Tryz.ntmps187
    go_wp2_with fail
    go_ret
    exact ⟨by simp [pastN], by (exact ext_of (by (exact belA)))⟩
  | succ k =>
    obtain ⟨t, ht⟩ := get_some b.ns k (by have := (List.getElem?_eq_some_iff.1 hs).1; omega)
    obtain ⟨bb', o', e1, hb', d1, d2, d3, d4⟩ := hl k t ht
    simp only [Option.some.injEq, Addr.mk.injEq, and_true] at e1
    obtain ⟨rfl, rfl⟩ := e1
    obtain ⟨-, h4, -⟩ := hok.nt ht
    have HP := Lib.hid (show pastN b.ns (k + 1) = t.hour by simp [pastN, ht])
    obtain ⟨j, hj⟩ : ∃ j, j = k + 1 := ⟨_, rfl⟩
    rw [← hj] at hkl hk0 c1 c2 c3 c4 HP ⊢
    have hn1 : wrap64 ((j : Int) - 1) = (k : Int) := by unfold wrap64; omega
    have hz : ((j : Int) == 0) = false := by simp; omega
    have hk2 : (0 : Int) ≤ (k : Int) := by omega
    have hk3 : (k : Int) < (b.ns.length : Int) := by omega
    have hw : wrap64 (s.hour - t.hour) = s.hour - t.hour := by unfold wrap64; omega
    have hn2 : (j : Int) - 1 = (k : Int) := by omega
    clear hl hok hs ht hj
    unfold catC
    go_enter Tryz.func187, Tryz.ntmps187
    go_upto_region 3 with fail
    refine wp_region_ext (by kernel_rfl) (by kernel_rfl) ?_
    repeat (go_big_quiet_step (fail))
    (refine wpQuiet_nil ?_; rintro _ ⟨x, rfl⟩)
    go_wp2_with fail
    go_ret
    exact ⟨by rw [HP.out]; rfl, by (exact ext_of (by (exact belA)))⟩
end Go.Proofs.YtcaeohgbgeadaaaGreatDoor

namespace Go.Proofs.YtcaeohgbgeadaaaGreatDoor
open Go Go.RowKit

/-- The hour of the last note, or 0. -/
def lastN (l : List Nt) : Int := pastN l l.length
theorem under_kinds : Tryz.prog.underlying 117 = some (.array 5 3) := by kernel_rfl
theorem kinds_eql (k : Kd) (w : World) : (Go.binOp .eql 117 (.agg #[.int .i64 k.a, .int .i64 k.b, .int .i64 k.c, .int .i64 k.d, .int .i64 k.e]) (.agg #[.int .i64 0, .int .i64 0, .int .i64 0, .int .i64 0, .int .i64 0])).run Tryz.prog w = .ok (.bool (k.a == 0 && (k.b == 0 && (k.c == 0 && (k.d == 0 && k.e == 0))))) w := by
  obtain ⟨a, b, c, d, e⟩ := k
  obtain ⟨i, hi⟩ : ∃ i, Tryz.prog.info? 3 = some i := Option.isSome_iff_exists.1 (by kernel_rfl)
  have hc : Tryz.prog.cellsOf 3 = 1 := by kernel_rfl
  rw [run_eql_struct, show (10000 : Nat) = 9999 + 1 from rfl, run_equalIn_array w 9999 _ _ under_kinds hi, hc, show List.range 5 = [0, 1, 2, 3, 4] from rfl]
  by_cases h1 : a = 0 <;> by_cases h2 : b = 0 <;> by_cases h3 : c = 0 <;> by_cases h4 : d = 0 <;> by_cases h5 : e = 0 <;> simp [go_sem, Op.eqItems, h1, h2, h3, h4, h5]
attribute [local go_sem] Oper.semAt_some frozen_alloc_lt
set_option maxHeartbeats 1000000 in
theorem last_any (b : Sn) (p : Option Addr) (c : Nat) (kd : Kd) (w : World) (hl : NotesAt w p b.ns) (hok : Ok9 b) (hkd : kd.ok b.ns.length) :
    Calls Tryz.prog 143 #[.agg (catC b.lo b.hi p b.ns.length c kd)] w fun e w' => e = .returned (.int .i64 (lastN b.ns)) ∧ ∃ x, w' = ext w x := by
  have hlen := hok.len
  have he := fun w => kinds_eql kd w
  cases hns : b.ns with
  | nil =>
    obtain ⟨x0, x1, x2, x3, x4⟩ := kd
    obtain ⟨g0, g1, g2, g3, g4, g5⟩ := hkd
    rw [hns] at g5
    dsimp only [List.length_nil] at g0 g1 g2 g3 g4 g5
    replace he : ∀ w, (Go.binOp .eql 117 (.agg #[.int .i64 x0, .int .i64 x1, .int .i64 x2, .int .i64 x3, .int .i64 x4]) (.agg #[.int .i64 0, .int .i64 0, .int .i64 0, .int .i64 0, .int .i64 0])).run Tryz.prog w = .ok (.bool true) w := fun w => by rw [he w]; congr 2; simp; omega
    clear g0 g1 g2 g3 g4 g5 hl hok hlen
    unfold catC
    go_enter Tryz.func143, Tryz.ntmps143
    go_wp2_with fail
    go_ret
    exact ⟨rfl, by (exact ext_of (by (exact belA)))⟩
  | cons s0 l0 =>
    have hkl : b.ns.length = l0.length + 1 := by rw [hns]; rfl
    obtain ⟨t, ht⟩ := get_some b.ns l0.length (by omega)
    obtain ⟨bb, o, rfl, hb, c1, c2, c3, c4⟩ := hl _ t ht
    have HP := Lib.hid (show lastN b.ns = t.hour by unfold lastN; rw [hkl]; simp only [pastN, ht])
    rw [← hns]
    obtain ⟨n, hn⟩ : ∃ n, n = b.ns.length := ⟨_, rfl⟩
    obtain ⟨k, hk⟩ : ∃ k, k = l0.length := ⟨_, rfl⟩
    rw [← hk] at hkl c1 c2 c3 c4
    have hn1 : wrap64 ((b.ns.length : Int) - 1) = (k : Int) := by unfold wrap64; omega
    have hn2 : (b.ns.length : Int) - 1 = (k : Int) := by omega
    have hn3 : wrap64 (k : Int) = (k : Int) := by unfold wrap64; omega
    have hk2 : (0 : Int) ≤ (k : Int) := by omega
    have hk3 : (k : Int) < (b.ns.length : Int) := by omega
    replace he : ∀ w, (Go.binOp .eql 117 (.agg #[.int .i64 kd.a, .int .i64 kd.b, .int .i64 kd.c, .int .i64 kd.d, .int .i64 kd.e]) (.agg #[.int .i64 0, .int .i64 0, .int .i64 0, .int .i64 0, .int .i64 0])).run Tryz.prog w = .ok (.bool false) w := fun w => by
      obtain ⟨g0, g1, g2, g3, g4, g5⟩ := hkd
      rw [he w]; congr 2; simp; omega
    clear hkd hl hok hlen ht hns hk hkl hn
    unfold catC
    go_enter Tryz.func143, Tryz.ntmps143
    go_wp2_with fail
    go_ret
    exact ⟨by rw [HP.out]; rfl, by (exact ext_of (by (exact belA)))⟩
/-- A state some hours later. -/
def aftS (s : Int × Int) (n : Int) : Int × Int := (afterH s.2 n.toNat s.1, s.2)
/-- What is so before a note. -/
def befS (l : List Nt) (k : Nat) (s : Int × Int) : Int × Int := aftS s (gapN l k)
theorem befS_eq (l : List Nt) (k : Nat) (h r : Int) : befS l k (h, r) = (afterH r (gapN l k).toNat h, r) := rfl
set_option maxHeartbeats 1000000 in
theorem claim_any (b : Sn) (p : Option Addr) (c : Nat) (kd : Kd) (k : Nat) (s : Nt) (h r : Int) (w : World) (hl : NotesAt w p b.ns) (hok : Ok9 b) (hs : b.ns[k]? = some s) (h0 : 0 ≤ h ∧ h ≤ 400) (r0 : 0 ≤ r ∧ r ≤ 1000) :
    Calls Tryz.prog 175 #[.agg (catC b.lo b.hi p b.ns.length c kd), .int .i64 k, .agg #[.int .i64 h, .int .i64 r]] w fun e w' => e = .returned (.agg (clmC s (befS b.ns k (h, r)).1 (befS b.ns k (h, r)).2)) ∧ ∃ x, w' = ext w x := by
  obtain ⟨bb, o, hp, hb, c1, c2, c3, c4⟩ := hl k s hs
  have hg := hok.gap hs
  have hkl : (k : Int) < (b.ns.length : Int) := by have := (List.getElem?_eq_some_iff.1 hs).1; omega
  have hk0 : (0 : Int) ≤ (k : Int) := by omega
  have hl1 : bb ≤ w.heap.size := by omega
  have hl2 : bb ≤ w.heap.size + 1 := by omega
  have hl3 : bb < w.heap.size + 1 + 1 := by omega
  have hl4 : bb < w.heap.size + 1 := by omega
  rw [befS_eq]
  obtain ⟨n, hn⟩ : ∃ n : Nat, gapN b.ns k = n := ⟨(gapN b.ns k).toNat, by omega⟩
  rw [hn]
  have hn60 : n ≤ 60 := by omega
  have HS := Lib.hid (fun (w : World) (h1 : NotesAt w p b.ns) => by have := since_any b p c kd k s w h1 hok hs; rw [hn] at this; exact this)
  have HL := Lib.hid hl
  subst hp
  clear hg hl hok hs hn
  unfold catC at *
  go_enter Tryz.func175, Tryz.ntmps175
  go_upto_region 1 with fail
  refine wp_region_ext_tail 12 (by kernel_rfl) (by kernel_rfl) ?_
  simp only [List.take_succ_cons, List.take_zero, List.drop_succ_cons, List.drop_zero]
  repeat (go_big_quiet_step (first | (go_at_call 187; exact quiet_ext (HS.out _ (HL.out.below belA))) | (go_at_call 145; exact quiet_ext (after_any h r n _ r0 (by omega) h0.1 (by omega)))))
  (refine wpQuiet_nil ?_; rintro _ ⟨x, rfl⟩)
  go_wp2_with fail
  refine bodyPost_ret (v := .agg (clmC s (afterH r n h) r)) (by simp [results, Tryz.results175, go_sem, clmC]) rfl ⟨rfl, ?_⟩
  (exact ext_of (by (exact belA)))
end Go.Proofs.YtcaeohgbgeadaaaGreatDoor

