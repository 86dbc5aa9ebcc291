/- Package bulk: the iterator over the loads of a lot. Written by gen_b5h.py. -/
import Derived.Test.YtpiadbdkiibdbaaQB5e
import Derived.Test.YtpiadbdkiibdbaaQB5p
import Derived.Carry
set_option linter.unusedSimpArgs false
set_option linter.unusedVariables false
namespace Go.Proofs.Ytpiadbdkiibdbaa
open Go Go.RowKit Go.Shelf
abbrev encL (l : Int × Int) : Array Value := #[ldV l]
/-- The loads with fewer fish than a number. -/
def loadsUp (b : Ck) (m : Ms) (t : Lt) (k : Nat) : List (Int × Int) := (nupto 0 k).flatMap (loadF b m t)
theorem loadsUp_all (b : Ck) (m : Ms) (t : Lt) : loadsUp b m t 401 = loadsL b m t := rfl
theorem loadsUp_succ (b : Ck) (m : Ms) (t : Lt) (k : Nat) : loadsUp b m t (k + 1) = loadsUp b m t k ++ loadF b m t k := by
  unfold loadsUp; rw [← nupto_snoc]; simp
theorem loadsUp_prefix (b : Ck) (m : Ms) (t : Lt) {k k' : Nat} (h : k ≤ k') : loadsUp b m t k <+: loadsUp b m t k' := by
  obtain ⟨x, hx⟩ := nupto_prefix 0 k k' h
  unfold loadsUp
  rw [← hx, List.flatMap_append]
  exact ⟨_, rfl⟩
/-- The loads with so many fish, for some of the waste. -/
def goodW (b : Ck) (m : Ms) (t : Lt) (k : Nat) (pre : List Int) : List (Int × Int) := (pre.map fun w => ((k : Int), (k : Int) - w)).filter fun l => agreeB t.t2 b.e2 (cntI m 2 l)
theorem goodW_nil (b : Ck) (m : Ms) (t : Lt) (k : Nat) : goodW b m t k [] = [] := rfl
theorem goodW_yes {b : Ck} {m : Ms} {t : Lt} {k : Nat} {pre : List Int} {x : Int} (h : agreeB t.t2 b.e2 (cntI m 2 ((k : Int), (k : Int) - x)) = true) : goodW b m t k (pre ++ [x]) = goodW b m t k pre ++ [((k : Int), (k : Int) - x)] := by
  simp [goodW, List.filter_append, h]
theorem goodW_no {b : Ck} {m : Ms} {t : Lt} {k : Nat} {pre : List Int} {x : Int} (h : agreeB t.t2 b.e2 (cntI m 2 ((k : Int), (k : Int) - x)) = false) : goodW b m t k (pre ++ [x]) = goodW b m t k pre := by
  simp [goodW, List.filter_append, h]
theorem goodW_prefix {b : Ck} {m : Ms} {t : Lt} {k : Nat} {pre xs : List Int} (h : pre <+: xs) : goodW b m t k pre <+: goodW b m t k xs := by
  obtain ⟨y, rfl⟩ := h
  unfold goodW
  rw [List.map_append, List.filter_append]
  exact ⟨_, rfl⟩
theorem ld_prefix {b : Ck} {m : Ms} {t : Lt} {k : Nat} {pre : List Int} (hk : k < 401) (h0 : agreeB t.t0 b.e0 (cntI m 0 ((k : Int), 0)) = true) (h1 : agreeB t.t1 b.e1 (cntI m 1 ((k : Int), 0)) = true) (hp : pre <+: numsL t.wl (min t.wh (k : Int))) : loadsUp b m t k ++ goodW b m t k pre <+: loadsL b m t := by
  have h2 := goodW_prefix (b := b) (m := m) (t := t) (k := k) hp
  have h3 : loadF b m t (k : Int) = goodW b m t k (numsL t.wl (min t.wh (k : Int))) := by
    unfold loadF goodW; rw [if_pos (by rw [Bool.and_eq_true]; exact ⟨h0, h1⟩)]
  have h4 := loadsUp_prefix b m t (show k + 1 ≤ 401 by omega)
  rw [loadsUp_succ, h3, loadsUp_all] at h4
  obtain ⟨z, hz⟩ := h2
  refine List.IsPrefix.trans ⟨z, ?_⟩ h4
  rw [← hz, List.append_assoc]
/-- What holds before a round. -/
def LdI (b : Ck) (p : Option Addr) (c : Nat) (m : Ms) (t : Lt) (gs gl l : Nat) (O : Nat → Prop) (J : List (Int × Int) → World → Prop) (W : World) : Act → World → Prop := fun a wr =>
  ∃ (Ds : List Nat) (k : Nat) (u4 u5 u6 u7 u9 u10 u11 u12 u13 u14 u15 u16 u17 u18 u19 u20 u21 u22 u23 u24 u25 u26 u27 u28 u29 u30 u31 u32 u33 u34 u35 u36 u37 u38 u39 u40 u41 u42 u43 u44 u45 u46 u47 u48 : Value), k ≤ 401 ∧
    a = { tmps := #[.func (.yield l) #[] #[], .pointer (some ⟨gs, 0, none⟩), .pointer (some ⟨gl, 0, none⟩), .pointer (some ⟨W.heap.size, 0, none⟩), u4, u5, u6, u7, .int .i64 k, u9, u10, u11, u12, u13, u14, u15, u16, u17, u18, u19, u20, u21, u22, u23, u24, u25, u26, u27, u28, u29, u30, u31, u32, u33, u34, u35, u36, u37, u38, u39, u40, u41, u42, u43, u44, u45, u46, u47, u48], defers := Ds.map coll } ∧
    J (loadsUp b m t k) wr ∧ Blk wr gs 113 (stcs b p c m) ∧ Blk wr gl 62 (ltcs t) ∧ Blk wr W.heap.size 151 #[.func (.yield l) #[] #[]] ∧ PrivM O W wr ∧ Defs (W.heap.size + 1) Ds wr
def ldM : Act → World → Nat := fun a _ => 401 - (intOf (a.tmps.getD 8 undef)).toNat
attribute [local go_sem] Oper.semAt_some frozen_alloc_lt
set_option maxRecDepth 100000 in
set_option maxHeartbeats 8000000 in
theorem loads1_in (b : Ck) (p : Option Addr) (c : Nat) (m : Ms) (t : Lt) (gs gl : Nat) (O : Nat → Prop) (w : World) (hs : Blk w gs 113 (stcs b p c m)) (hl : Blk w gl 62 (ltcs t)) (hO : ∀ k, O k → k ≠ gs ∧ k ≠ gl) (hm : MsOK m) (he : ∀ i, 0 ≤ b.err i ∧ b.err i ≤ 9) (ht : ∀ i, -1 ≤ t.told i ∧ t.told i ≤ 40) (hw : 0 ≤ t.wl ∧ t.wl ≤ t.wh ∧ t.wh ≤ 20) :
    Seq0 Try.prog 133 #[] #[.pointer (some ⟨gs, 0, none⟩), .pointer (some ⟨gl, 0, none⟩)] encL O (fun xs => xs = loadsL b m t) (fun pre => pre <+: loadsL b m t) w := by
  intro n l J Jx W hW hOW hJ hJx hY h0'
  have HJ := Lib.hid hJ
  have HJx := Lib.hid hJx
  have HY := Lib.hid hY
  have H0 := Lib.hid h0'
  have HOW := Lib.hid hOW
  have HOG := Lib.hid hO
  have hs0 := hs.bel hW
  have hl0 := hl.bel hW
  have hgs := hs0.lt
  have hgl := hl0.lt
  have HM := Lib.hid hm
  have HE := Lib.hid he
  have HT := Lib.hid ht
  clear hJ hJx hY h0' hOW hW hO hs hl
  refine callsIn_of_wp_marks Try.func133 rfl trivial ?_ rfl
  simp only [Try.ntmps133, List.size_toArray, List.length_cons, List.length_nil, Nat.reduceAdd, Nat.reduceSub, Array.replicate_succ, Array.replicate_zero, List.push_toArray, List.append_toArray, List.nil_append, List.cons_append]
  gi_wp2_with fail
  refine wpIn_wide.2 (wp_scope_straight ?_)
  generalize hW1 : W.alloc _ = W1
  have hB1 : Below W.heap.size W W1 := by rw [← hW1]; (exact belC)
  have HYB := Lib.hid (show Blk W1 W.heap.size 151 #[.func (.yield l) #[] #[]] by rw [← hW1]; exact Blk.new rfl)
  have HS1 := Lib.hid (hs0.bel hB1)
  have HL1 := Lib.hid (hl0.bel hB1)
  have HB1 := Lib.hid hB1
  have hsz1 : W1.heap.size = W.heap.size + 1 := by rw [← hW1]; simp
  have HZ1 := Lib.hid hsz1
  clear hW1 hB1 hs0 hl0 hsz1
  go_wp2_with fail
  apply wp_label
  go_wp2_with fail
  refine wp_loop (LdI b p c m t gs gl l O J W) ldM ?start ?round
  case start =>
    exact ⟨[], 0, _, _, _, _, _, _, _, _, _, _, _, _, _, _, _, _, _, _, _, _, _, _, _, _, _, _, _, _, _, _, _, _, _, _, _, _, _, _, _, _, _, _, _, _, by omega, rfl, HJ.out [] W W1 H0.out (Nat.le_refl _) HB1.out, HS1.out, HL1.out, HYB.out, PrivM.of_below HB1.out, Defs.nil _ _⟩
  case round =>
    clear H0 HYB HS1 HL1 HB1 HZ1
    rintro a wo ⟨Ds, k, u4, u5, u6, u7, u9, u10, u11, u12, u13, u14, u15, u16, u17, u18, u19, u20, u21, u22, u23, u24, u25, u26, u27, u28, u29, u30, u31, u32, u33, u34, u35, u36, u37, u38, u39, u40, u41, u42, u43, u44, u45, u46, u47, u48, hk, rfl, hJ, hs, hl, hy, hp, hd⟩
    have HJ0 := Lib.hid hJ
    have HP0 := Lib.hid hp
    have HD0 := Lib.hid hd
    have HYB := Lib.hid hy
    have hszr := hp.size
    have hsl := hs.lt
    have hll := hl.lt
    have hyl := hy.lt
    clear hJ hp hd hy
    by_cases hlt : k < 401
    · have HSB := Lib.hid hs
      have HLB := Lib.hid hl
      clear hs hl
      have d401 : decide ((k : Int) < 401) = true := decide_eq_true (by omega)
      go_upto_region 5 with fail
      generalize hV : wo.alloc _ = V
      have hbV : Below wo.heap.size wo V := by rw [← hV]; (exact belA)
      have HKB := Lib.hid (show Blk V wo.heap.size 3 #[.int .i64 k] by rw [← hV]; exact Blk.new rfl)
      have HBV := Lib.hid hbV
      have hszV := hbV.size
      have HSB := Lib.hid (HSB.out.bel hbV)
      have HLB := Lib.hid (HLB.out.bel hbV)
      have HYB := Lib.hid (HYB.out.bel hbV)
      clear hV hbV d401
      go_loopw [5, 11] (fun _ i wv => ∃ j : Nat, j ≤ 2 ∧ i = .int .i64 j ∧ Hid (Below V.heap.size V wv) ∧ Hid (∀ i, i < j → agreeB (t.told i) (b.err i) (cntI m i ((k : Int), 0)) = true)) (fun _ i _ => 2 - (intOf i).toNat)
      case atStart => exact ⟨0, by omega, rfl, Lib.hid (Below.refl _ _), Lib.hid (fun i h => by omega)⟩
      case round =>
        obtain ⟨j, hj, rfl, HBW, HAG⟩ := hrel
        have HBX := Lib.hid (HBV.out.trans (HBW.out.mono hszV))
        have HSX := Lib.hid (HSB.out.bel HBW.out)
        have HLX := Lib.hid (HLB.out.bel HBW.out)
        have HYX := Lib.hid (HYB.out.bel HBW.out)
        have HKX := Lib.hid (HKB.out.bel HBW.out)
        have hwk : wrap64 ((k : Int) + 1) = (k : Int) + 1 := by unfold wrap64; omega
        have ks := HSX.out
        unfold stcs at ks
        obtain ⟨s0, s1, s2, s3, s4, s5, s6, s7, s8, s9, s10, s11, s12⟩ := Blk.c13 ks
        have ls := ks.lt
        have kt := HLX.out
        unfold ltcs at kt
        obtain ⟨t0, t1, t2, t3, t4⟩ := Blk.c5 kt
        have lt := kt.lt
        have kk := HKX.out
        have c0 := Blk.c1 kk
        have lk := kk.lt
        clear ks kt kk
        by_cases hj2 : j < 2
        · have hj3 : j < 3 := by omega
          obtain ⟨q, hq⟩ : ∃ q, agreeB (t.told j) (b.err j) (cntI m j ((k : Int), 0)) = q := ⟨_, rfl⟩
          have HQ := Lib.hid hq
          have HEj := Lib.hid (HE.out j)
          have HTj := Lib.hid (HT.out j)
          have hk5 : 0 ≤ (k : Int) ∧ (k : Int) ≤ 100000 := by omega
          have hwj := wrap_num j (by omega)
          have HWJ := Lib.hid hwj
          clear hq hwj
          cases q
          · have HN := Lib.hid (show loadF b m t (k : Int) = [] by
              unfold loadF
              rw [if_neg]
              rw [Bool.and_eq_true]
              rintro ⟨z0, z1⟩
              have h := HQ.out
              rcases (show j = 0 ∨ j = 1 by omega) with rfl | rfl
              · rw [show agreeB (t.told 0) (b.err 0) (cntI m 0 ((k : Int), 0)) = true from z0] at h; cases h
              · rw [show agreeB (t.told 1) (b.err 1) (cntI m 1 ((k : Int), 0)) = true from z1] at h; cases h)
            go_wp2_with (go_at_call 134; refine (agreesN b p c m t j _ _ false _ hj3 HM.out hk5 (by decide) HEj.out HTj.out HQ.out).mono ?_; rintro e w2 ⟨rfl, y, rfl⟩)
            generalize hZ : ext _ _ = Z
            have hbz : Below wr.heap.size wr Z := by rw [← hZ]; (exact belA)
            have hbo : Below wo.heap.size wo Z := HBX.out.trans (hbz.mono HBX.out.size)
            clear hZ
            refine (show LdI b p c m t gs gl l O J W _ _ ∧ ldM _ _ < ldM _ _ from ⟨⟨Ds, k + 1, _, _, _, _, _, _, _, _, _, _, _, _, _, _, _, _, _, _, _, _, _, _, _, _, _, _, _, _, _, _, _, _, _, _, _, _, _, _, _, _, _, _, _, _, by omega, rfl, ?_, HSX.out.bel hbz, HLX.out.bel hbz, HYX.out.bel hbz, HP0.out.trans (PrivM.of_below hbo), HD0.out.below hbo⟩, ?_⟩)
            · rw [loadsUp_succ, HN.out, List.append_nil]; exact HJ.out _ _ _ HJ0.out hszr (hbo.mono hszr)
            · show 401 - (intOf (.int .i64 ((k : Int) + 1))).toNat < 401 - (intOf (.int .i64 (k : Int))).toNat
              simp [intOf]; omega
          · go_wp2_with (go_at_call 134; refine (agreesN b p c m t j _ _ true _ hj3 HM.out hk5 (by decide) HEj.out HTj.out HQ.out).mono ?_; rintro e w2 ⟨rfl, y, rfl⟩)
            generalize hZ : ext _ _ = Z
            have hbz : Below wr.heap.size wr Z := by rw [← hZ]; (exact belA)
            have HBZ := Lib.hid (HBW.out.trans (hbz.mono HBW.out.size))
            clear hZ hbz
            go_roundw
            case rel => exact ⟨j + 1, by omega, by first | go_num | (rw [HWJ.out]), HBZ, Lib.hid (fun i hi => by rcases Nat.lt_succ_iff_lt_or_eq.1 hi with h | h; exact HAG.out i h; subst h; exact HQ.out)⟩
            case measure => simp [intOf]; omega
        · obtain rfl : j = 2 := by omega
          have HA0 := Lib.hid (show agreeB t.t0 b.e0 (cntI m 0 ((k : Int), 0)) = true from HAG.out 0 (by omega))
          have HA1 := Lib.hid (show agreeB t.t1 b.e1 (cntI m 1 ((k : Int), 0)) = true from HAG.out 1 (by omega))
          by_cases hkw : (k : Int) < t.wh
          case' pos =>
            have hdk : decide ((k : Int) < t.wh) = true := decide_eq_true hkw
            have HMN := Lib.hid (show min t.wh (k : Int) = (k : Int) by omega)
          case' neg =>
            have hdk : decide ((k : Int) < t.wh) = false := decide_eq_false hkw
            have HMN := Lib.hid (show min t.wh (k : Int) = t.wh by omega)
          all_goals
            go_wp2_with (go_at_call 117; refine (numbers_any _ _ _).mono ?_; rintro e w2 ⟨g, rfl, k1, k2, y, hw⟩; have HB2 := Lib.hid (show Below wr.heap.size wr w2 by rw [hw]; (exact belA)); have HG := Lib.hid (show Blk w2 g 23 #[.int .i64 t.wl, .int .i64 (min t.wh (k : Int))] by rw [HMN.out]; exact k2); have hgz : wr.heap.size ≤ g := (by first | exact k1 | (simp at k1; omega)); clear hw k1 k2)
            clear s0 s1 s2 s3 s4 s5 s6 s7 s8 s9 s10 s11 s12 ls t0 t1 t2 t3 t4 lt c0 lk hdk hkw HMN
            have hz2 := HB2.out.size
            have hgl2 := HG.out.lt
            have hszx := HBX.out.size
            have HS2 := Lib.hid (HSX.out.bel HB2.out)
            have HL2 := Lib.hid (HLX.out.bel HB2.out)
            have HY2 := Lib.hid (HYX.out.bel HB2.out)
            have HK2 := Lib.hid (HKX.out.bel HB2.out)
            have HBO := Lib.hid (HBX.out.trans (HB2.out.mono HBX.out.size))
            have hko := HKX.out.lt
            have hseq := numbers1_in g t.wl (min t.wh (k : Int)) (fun j => O j ∨ j = w2.heap.size + 1) w2 HG.out (by omega) (by omega) (fun j hj => by
              rcases hj with hj | hj
              · have := HOW.out j hj; omega
              · omega)
            refine (wpIn_wide (n := 9)).1 ?_
            refine wpIn_rangeFunc_0 (gf := 129) (fb := #[]) (lb := #[.pointer (some ⟨g, 0, none⟩)]) rfl (enters_of Try.func129 (by kernel_rfl) rfl)
              O (fun j hj => by have := HOW.out j hj; omega) hseq (Below.refl _ _) (fun _ => rfl)
              (fun pre A => J (loadsUp b m t k ++ goodW b m t k pre) A ∧ Blk A gs 113 (stcs b p c m) ∧ Blk A gl 62 (ltcs t) ∧ Blk A W.heap.size 151 #[.func (.yield l) #[] #[]] ∧ Blk A wo.heap.size 3 #[.int .i64 k])
              (fun cc pre A => cc = .ret ∧ Jx (loadsUp b m t k ++ goodW b m t k pre) A)
              (fun pre x a' A => ∃ u5 u7 u9 u10 u11 u12 u13 u14 u15 u16 u17 u18 u19 u20 u21 u22 u23 u24 u25 u26 u27 u28 u29 u30 u31 u32 u33 u34 u35 u36 u37 u38 u39 u40 u41 u42 u43 u44 u45 u46 u47 u48 : Value, a' = { tmps := #[.func (.yield l) #[] #[], .pointer (some ⟨gs, 0, none⟩), .pointer (some ⟨gl, 0, none⟩), .pointer (some ⟨W.heap.size, 0, none⟩), .pointer (some ⟨wo.heap.size, 0, none⟩), u5, .int .i64 x, u7, .int .i64 k, u9, u10, u11, u12, u13, u14, u15, u16, u17, u18, u19, u20, u21, u22, u23, u24, u25, u26, u27, u28, u29, u30, u31, u32, u33, u34, u35, u36, u37, u38, u39, u40, u41, u42, u43, u44, u45, u46, u47, u48], defers := [] })
              ?hI ?hIx ?hAx ?h0 ?hassign ?hbody ?hdone ?hstop
            case hI =>
              rintro pre A C ⟨j1, j2, j3, j4, j5⟩ hz hp
              exact ⟨HJ.out _ _ _ j1 (by omega) (hp.mono (by omega)), (hp.block _ (by omega)).trans j2, (hp.block _ (by omega)).trans j3, (hp.block _ (by omega)).trans j4, (hp.block _ (by omega)).trans j5⟩
            case hIx =>
              rintro cc pre A C ⟨rfl, j1⟩ hz hp
              exact ⟨rfl, HJx.out _ _ _ j1 (by omega) (hp.mono (by omega))⟩
            case hAx => rintro pre x a' A C ⟨u5, u7, u9, u10, u11, u12, u13, u14, u15, u16, u17, u18, u19, u20, u21, u22, u23, u24, u25, u26, u27, u28, u29, u30, u31, u32, u33, u34, u35, u36, u37, u38, u39, u40, u41, u42, u43, u44, u45, u46, u47, u48, rfl⟩ hp; exact ⟨u5, u7, u9, u10, u11, u12, u13, u14, u15, u16, u17, u18, u19, u20, u21, u22, u23, u24, u25, u26, u27, u28, u29, u30, u31, u32, u33, u34, u35, u36, u37, u38, u39, u40, u41, u42, u43, u44, u45, u46, u47, u48, rfl⟩
            case h0 =>
              intro W3 hb3
              have hb4 := HBO.out.trans (hb3.mono HBO.out.size)
              refine ⟨?_, (hb3.block _ (by omega)).trans HS2.out, (hb3.block _ (by omega)).trans HL2.out, (hb3.block _ (by omega)).trans HY2.out, (hb3.block _ (by omega)).trans HK2.out⟩
              rw [goodW_nil, List.append_nil]
              exact HJ.out _ _ _ HJ0.out hszr (hb4.mono hszr)
            case hassign =>
              intro mm l' pre x W' hz hsp hi'
              exact wpIn_assign ⟨⟨_, _, _, _, _, _, _, _, _, _, _, _, _, _, _, _, _, _, _, _, _, _, _, _, _, _, _, _, _, _, _, _, _, _, _, _, _, _, _, _, _, _, by simp [go_sem, Act.put, Act.eval]; exact ⟨rfl, rfl, rfl, rfl, rfl, rfl, rfl, rfl, rfl, rfl, rfl, rfl, rfl, rfl, rfl, rfl, rfl, rfl, rfl, rfl, rfl, rfl, rfl, rfl, rfl, rfl, rfl, rfl, rfl, rfl, rfl, rfl, rfl, rfl, rfl, rfl, rfl, rfl, rfl, rfl, rfl, rfl⟩⟩, Below.refl _ _⟩
            case hbody =>
              rintro mm l' pre x a' W' hz hpx ⟨j1, j2, j3, j4, j5⟩ ⟨u5, u7, u9, u10, u11, u12, u13, u14, u15, u16, u17, u18, u19, u20, u21, u22, u23, u24, u25, u26, u27, u28, u29, u30, u31, u32, u33, u34, u35, u36, u37, u38, u39, u40, u41, u42, u43, u44, u45, u46, u47, u48, rfl⟩
              have hxm := mem_numsL.1 (hpx.subset (show x ∈ pre ++ [x] by simp))
              have hx1 : 0 ≤ (k : Int) - x ∧ (k : Int) - x ≤ 100000 := by omega
              have hk5 : 0 ≤ (k : Int) ∧ (k : Int) ≤ 100000 := by omega
              have e1 : IntKind.i64.wrap ((k : Int) - x) = (k : Int) - x := IntWalk.i64_in _ (by omega)
              have e2 : wrap64 ((k : Int) - x) = (k : Int) - x := by unfold wrap64; omega
              obtain ⟨q, hq⟩ : ∃ q, agreeB t.t2 b.e2 (cntI m 2 ((k : Int), (k : Int) - x)) = q := ⟨_, rfl⟩
              have HQ := Lib.hid hq
              have HPX := Lib.hid hpx
              have J1 := Lib.hid j1
              have J2 := Lib.hid j2
              have J3 := Lib.hid j3
              have J4 := Lib.hid j4
              have J5 := Lib.hid j5
              have ks := j2
              unfold stcs at ks
              obtain ⟨s0, s1, s2, s3, s4, s5, s6, s7, s8, s9, s10, s11, s12⟩ := Blk.c13 ks
              have ls := ks.lt
              have kt := j3
              unfold ltcs at kt
              obtain ⟨t0, t1, t2, t3, t4⟩ := Blk.c5 kt
              have lt := kt.lt
              have y0 := Blk.c1 j4
              have ly := j4.lt
              have c0 := Blk.c1 j5
              have lk := j5.lt
              clear ks kt j1 j2 j3 j4 j5 hseq hpx hxm hq
              cases q
              · gi_wp2_with (gi_at_call 134; refine (CallsIn.inRound _ (callsIn_wide.2 (agrees2n b p c m t _ _ false _ HM.out hk5 hx1 (HE.out 2) (HT.out 2) HQ.out))).mono ?_; rintro e w3 ⟨rfl, y, hw⟩; have HBW3 := Lib.hid (show Below W'.heap.size W' w3 by rw [hw]; (exact belA)); clear hw)
                have hb3 := HBW3.out
                refine ⟨PrivM.of_below hb3, ?_, J2.out.bel hb3, J3.out.bel hb3, J4.out.bel hb3, J5.out.bel hb3⟩
                rw [goodW_no HQ.out]
                exact HJ.out _ _ _ J1.out (by omega) (hb3.mono (by omega))
              · have HPP := Lib.hid (show (loadsUp b m t k ++ goodW b m t k pre) ++ [((k : Int), (k : Int) - x)] <+: loadsL b m t by
                  rw [List.append_assoc, ← goodW_yes HQ.out]
                  exact ld_prefix hlt HA0.out HA1.out HPX.out)
                gi_wp2_with (gi_at_call 134; refine (CallsIn.inRound _ (callsIn_wide.2 (agrees2n b p c m t _ _ true _ HM.out hk5 hx1 (HE.out 2) (HT.out 2) HQ.out))).mono ?_; rintro e w3 ⟨rfl, y, hw⟩; have HBW3 := Lib.hid (show Below W'.heap.size W' w3 by rw [hw]; (exact belA)); have KL := Lib.hid (show Blk w3 W'.heap.size 116 #[.int .i64 k, .int .i64 ((k : Int) - x)] by rw [hw]; exact (Blk.new rfl).ext y); clear hw s0 s1 s2 s3 s4 s5 s6 s7 s8 s9 s10 s11 s12 ls t0 t1 t2 t3 t4 lt y0 ly c0 lk; obtain ⟨l0, l1⟩ := Blk.c2 KL.out; have ll := KL.out.lt; have y0 := Blk.c1 (J4.out.bel HBW3.out); have ly := (J4.out.bel HBW3.out).lt; have hz3 := HBW3.out.size; have J3w := HJ.out _ _ _ J1.out (show W.heap.size ≤ W'.heap.size by omega) (HBW3.out.mono (show W.heap.size ≤ W'.heap.size by omega)); have hyy := YieldAt.inR l' (HY.out (mm - 1) (loadsUp b m t k ++ goodW b m t k pre) ((k : Int), (k : Int) - x) w3 (by omega) HPP.out J3w); obtain ⟨fn, tmps, assign, body, hy, hR⟩ := hyy; dsimp only [encL, ldV] at hy)
                refine hR.mono ?_
                have hz3 := HBW3.out.size
                rintro e B (⟨rfl, hJB, hS⟩ | ⟨rfl, hJB, hS⟩)
                · have HS := Lib.hid hS
                  have HJB := Lib.hid hJB
                  clear hS hJB hy hR
                  gi_wp2_with fail
                  refine ⟨(PrivM.of_below HBW3.out).trans HS.out, ?_, (HS.out.block _ (by omega) (fun e => (HOG.out _ e).1 rfl)).trans (J2.out.bel HBW3.out), (HS.out.block _ (by omega) (fun e => (HOG.out _ e).2 rfl)).trans (J3.out.bel HBW3.out), (HS.out.block _ (by omega) (fun e => by have := HOW.out _ e; omega)).trans (J4.out.bel HBW3.out), (HS.out.block _ (by omega) (fun e => by have := HOW.out _ e; omega)).trans (J5.out.bel HBW3.out)⟩
                  rw [goodW_yes HQ.out, ← List.append_assoc]; exact HJB.out
                · have HS := Lib.hid hS
                  have HJB := Lib.hid hJB
                  clear hS hJB hy hR
                  gi_wp2_with fail
                  refine ⟨(PrivM.of_below HBW3.out).trans HS.out, rfl, ?_⟩
                  rw [goodW_yes HQ.out, ← List.append_assoc]; exact HJB.out
            case hdone =>
              rintro D xs W' rfl hz rfl ⟨j1, j2, j3, j4, j5⟩ hp hD'
              have J1 := Lib.hid j1
              have HPV := Lib.hid hp
              have HDD := Lib.hid (((HD0.out.below HBO.out).privM hp (fun E hE e => by have := HD0.out.ge E hE; have := HOW.out E e; omega)).cons hD' (by omega) (fun hE => by have := HD0.out.lt hE; omega))
              have HS3 := Lib.hid j2
              have HL3 := Lib.hid j3
              have HY3 := Lib.hid j4
              have HF := Lib.hid (show loadF b m t (k : Int) = goodW b m t k (numsL t.wl (min t.wh (k : Int))) by unfold loadF goodW; rw [if_pos (by rw [Bool.and_eq_true]; exact ⟨HA0.out, HA1.out⟩)])
              clear j1 j2 j3 j4 j5 hp hseq hD'
              gi_wp2_with fail
              go_wp2_with fail
              refine (show LdI b p c m t gs gl l O J W _ _ ∧ ldM _ _ < ldM _ _ from ⟨⟨w2.heap.size :: Ds, k + 1, _, _, _, _, _, _, _, _, _, _, _, _, _, _, _, _, _, _, _, _, _, _, _, _, _, _, _, _, _, _, _, _, _, _, _, _, _, _, _, _, _, _, _, _, by omega, rfl, ?_, HS3.out, HL3.out, HY3.out, (HP0.out.trans (PrivM.of_below HBO.out)).trans HPV.out, HDD.out⟩, ?_⟩)
              · rw [loadsUp_succ, HF.out]; exact J1.out
              · show 401 - (intOf (.int .i64 ((k : Int) + 1))).toNat < 401 - (intOf (.int .i64 (k : Int))).toNat
                simp [intOf]; omega
            case hstop =>
              rintro D cc pre W' rfl hz hSp ⟨rfl, j1⟩ hp hD'
              have J1 := Lib.hid j1
              have HPV := Lib.hid hp
              have HDD := Lib.hid (((HD0.out.below HBO.out).privM hp (fun E hE e => by have := HD0.out.ge E hE; have := HOW.out E e; omega)).cons hD' (by omega) (fun hE => by have := HD0.out.lt hE; omega))
              have HPF := Lib.hid (show loadsUp b m t k ++ goodW b m t k pre <+: loadsL b m t from ld_prefix hlt HA0.out HA1.out hSp)
              clear j1 hp hseq hD'
              gi_wp2_with fail
              have HPW := Lib.hid ((HP0.out.trans (PrivM.of_below HBO.out)).trans HPV.out)
              have hsw := HPW.out.size
              refine (show LeavesInM _ _ _ _ _ _ _ _ _ from HDD.out.leave (fun w' h1 h2 h3 => ?_))
              exact ⟨_, results_none rfl _ _ _, ⟨_, rfl⟩, ⟨h1.os.trans HPW.out.os, h1.tape.trans HPW.out.tape, h1.output.trans HPW.out.output, by omega, fun j hj hn => (h1.block j (by omega)).trans (HPW.out.block j hj hn)⟩, .inr ⟨_, HPF.out, HJx.out _ _ _ J1.out (by omega) (h1.mono (by omega))⟩⟩
    · obtain rfl : k = 401 := by omega
      have d401 : decide (((401 : Nat) : Int) < 401) = false := by decide
      go_wp2_with fail
      refine (show LeavesInM _ _ _ _ _ _ _ _ _ from HD0.out.leave (fun w' h1 h2 h3 => ?_))
      exact ⟨_, results_none rfl _ _ _, ⟨_, rfl⟩, ⟨h1.os.trans HP0.out.os, h1.tape.trans HP0.out.tape, h1.output.trans HP0.out.output, by omega, fun j hj hn => (h1.block j (by omega)).trans (HP0.out.block j hj hn)⟩, .inl ⟨_, loadsUp_all b m t, HJ.out _ _ _ HJ0.out hszr (h1.mono (by omega))⟩⟩
end Go.Proofs.Ytpiadbdkiibdbaa

