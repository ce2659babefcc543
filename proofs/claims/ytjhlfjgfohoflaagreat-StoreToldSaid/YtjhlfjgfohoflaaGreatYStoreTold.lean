/-
  Of the texts Tld StoreToldWalk StoreTold, in build order, each as it was built alone.
-/
import Derived.Test.YtjhlfjgfohoflaaGreatPkAX
import Derived.Test.YtjhlfjgfohoflaaGreatPkBD
import Derived.Test.YtjhlfjgfohoflaaGreatPkBE
import Derived.Test.YtjhlfjgfohoflaaGreatPkBF
import Derived.Test.YtjhlfjgfohoflaaGreatPkAL
import Derived.Test.YtjhlfjgfohoflaaGreatRows
import Derived.ProofKit
import Derived.OpenShut
import Derived.ShutString
import Derived.ChangeOld
import Derived.Below

/-
  The states of StoreTold, as values.
-/
namespace Go.Proofs.YtjhlfjgfohoflaaGreat
open Go.RowKit Go.Proofs.YtjhlfjgfohoflaaGreat.V

/-- Who is left, as bits. -/
def remT (m : Nat) : List Int := ([0, 1, 2, 3, 4, 5, 6].filter fun i => Nat.testBit m i).map fun i => ((i + 2 : Nat) : Int)
def sTd (l : List Int) : StV := ⟨1, 1, 1, 0, [], [], [⟨4294967297, false⟩], [], if l.isEmpty then [] else [⟨4294967297, l⟩]⟩
def rtN (l : List Int) : RecV := ⟨8, 4294967297, 0, false, l, []⟩
def rtT (p : Int) : RecV := ⟨9, 4294967297, 0, false, [p], []⟩

theorem remT_ok' : ∀ m : Fin 128, (remT m.1).all (fun n => decide (2 ≤ n) && decide (n ≤ 8)) = true := by decide +kernel
theorem mTd' : ∀ m : Fin 128, mayB (sTd (remT m.1)) = true := by decide +kernel
theorem stTd0' : ∀ m : Fin 128, eqStB (applyS sN (rtN (remT m.1))) (sTd (remT m.1)) = true := by decide +kernel
theorem canTd' : ∀ m : Fin 128, ∀ i : Fin 7, (canE (sTd (remT m.1)) (rtT ((i.1 + 2 : Nat) : Int)) == 0) = Nat.testBit m.1 i.1 := by decide +kernel
theorem stTd' : ∀ m : Fin 128, ∀ i : Fin 7, eqStB (applyS (sTd (remT m.1)) (rtT ((i.1 + 2 : Nat) : Int))) (sTd (remT (if Nat.testBit m.1 i.1 then m.1 - 2 ^ i.1 else m.1))) = true := by decide +kernel

theorem lenTd' : ∀ m : Fin 128, ∀ i : Fin 7, Nat.testBit m.1 i.1 = true → (remT (m.1 - 2 ^ i.1)).length + 1 = (remT m.1).length ∧ m.1 - 2 ^ i.1 < 128 := by decide +kernel
theorem bitTd' : ∀ m : Fin 128, ∀ i j : Fin 7, Nat.testBit m.1 i.1 = true → Nat.testBit (m.1 - 2 ^ i.1) j.1 = (Nat.testBit m.1 j.1 && !decide (j.1 = i.1)) := by decide +kernel
theorem memTd' : ∀ m : Fin 128, ∀ i : Fin 7, ((remT m.1).any fun x => decide (x = ((i.1 + 2 : Nat) : Int))) = Nat.testBit m.1 i.1 := by decide +kernel
theorem lenT7' : ∀ m : Fin 128, (remT m.1).length ≤ 7 := by decide +kernel
theorem tmod7 (c : Int) : -6 ≤ c.tmod 7 ∧ c.tmod 7 ≤ 6 := by
  have h1 := Int.tmod_lt_of_pos c (b := 7) (by omega)
  have h2 := Int.lt_tmod_of_pos c (b := 7) (by omega)
  omega

/-- Is it among the first k, and not told yet. -/
def inTd (L : List Int) (p : Int) (tp : Bool) (k : Nat) : Bool := ((L.take k).any fun x => decide (x = p)) && !tp
theorem inTd_0 (L : List Int) (p : Int) (tp : Bool) : inTd L p tp 0 = false := rfl
theorem inTd_next {L : List Int} {p : Int} {tp : Bool} {k : Nat} (h : k < L.length) : inTd L p tp (k + 1) = (inTd L p tp k || (decide (L.getD k 0 = p) && !tp)) := by
  unfold inTd
  rw [List.take_succ_eq_append_getElem h, List.any_append, show L.getD k 0 = L[k] by simp [List.getD, h]]
  cases tp <;> simp
theorem inTd_all {L : List Int} {p : Int} {tp : Bool} : inTd L p tp L.length = ((L.any fun x => decide (x = p)) && !tp) := by
  unfold inTd
  rw [List.take_length]

end Go.Proofs.YtjhlfjgfohoflaaGreat

/-
  The walk of the law StoreTold.
-/
namespace Go.Proofs.YtjhlfjgfohoflaaGreat
open Go.RowKit Go.Proofs.YtjhlfjgfohoflaaGreat.V

/-- Who is to be told, of the first i. -/
def lTd (P : List Bool) (i : Nat) : List Int := ((List.range i).filter fun j => P.getD j false).map fun j => ((j + 2 : Nat) : Int)
theorem lTd_yes {P : List Bool} {i : Nat} (h : P.getD i false = true) : lTd P (i + 1) = lTd P i ++ [(i : Int) + 2] := by
  unfold lTd; rw [List.range_succ, List.filter_append, List.map_append, List.filter_cons, h]; simp
theorem lTd_no {P : List Bool} {i : Nat} (h : P.getD i false = false) : lTd P (i + 1) = lTd P i := by
  unfold lTd; rw [List.range_succ, List.filter_append, List.map_append, List.filter_cons, h]; simp
theorem told_bits : ∀ a b c d e f g : Bool, ∃ m : Fin 128, remT m.1 = (([0, 1, 2, 3, 4, 5, 6].filter fun i => [a, b, c, d, e, f, g].getD i false).map fun j => ((j + 2 : Nat) : Int)) := by decide +kernel
theorem told_mask (P : List Bool) : ∃ m : Fin 128, remT m.1 = lTd P 7 := by
  obtain ⟨m, hm⟩ := told_bits (P.getD 0 false) (P.getD 1 false) (P.getD 2 false) (P.getD 3 false) (P.getD 4 false) (P.getD 5 false) (P.getD 6 false)
  refine ⟨m, hm.trans ?_⟩
  unfold lTd
  refine congrArg _ ?_
  rw [show List.range 7 = [0, 1, 2, 3, 4, 5, 6] from rfl]
  refine List.filter_congr fun x hx => ?_
  simp only [List.mem_cons, List.not_mem_nil, or_false] at hx
  rcases hx with rfl | rfl | rfl | rfl | rfl | rfl | rfl <;> rfl
theorem lTd_len (P : List Bool) (i : Nat) : (lTd P i).length ≤ i := by
  unfold lTd; rw [List.length_map]; exact Nat.le_trans (List.length_filter_le _ _) (by simp)

theorem cells_Td (L : List Int) (a : Ads) : (sTd L).cells a = #[.int .i64 1, .int .i64 1, .int .i64 1, .int .i64 0, .slice a.m 0 a.cm, .slice a.w 0 a.cw, .slice a.e 1 a.ce, .slice a.o 0 a.co, .slice a.n (sTd L).noes.length a.cn] := rfl

set_option maxHeartbeats 16000000 in
set_option maxRecDepth 100000 in
theorem storeTold_walk {w : World} (ao : Option Addr) (c : Nat) (P : List Bool) (hl : Bl w ao c P) (bo : Option Addr) (d : Nat) (R : List Int) (hr : Il w bo d R) : Calls Tryz.prog 12 #[.slice ao P.length c, .slice bo R.length d] w fun e w' => e = .returned (.bool true) ∧ Below w.heap.size w w' := by
  have CB := Lib.hid (begun10_calls w)
  have HL := Lib.hid hl
  have HR := Lib.hid hr
  have hlen := hl.len
  have hlen2 := hr.len
  clear hl hr
  go_enter Tryz.func12, Tryz.ntmps12
  go_wp2_with fail
  refine CB.out.mono ?_
  rintro e x1 ⟨rfl, t1⟩
  have T1 := Lib.hid t1
  clear t1 CB
  go_wp2_with fail
  go_loopw [6, 7] (fun vl vi wx => ∃ (i : Nat) (u : Value), i ≤ 7 ∧ vi = .int .i64 (i : Int) ∧ u = vl ∧ wx.ownsRow 0 3 1 u (lTd P i).length (i64s (lTd P i)) ∧ (∀ g, u.ownBlock = some g → w.heap.size ≤ g) ∧ Turn [] w wx) (fun _ vi _ => 7 - (intOf vi).toNat)
  case atStart => exact ⟨0, _, by omega, rfl, rfl, World.ownsRow_nil _ _ _ _, (by intro g hg; cases hg), T1.out⟩
  case round =>
    obtain ⟨i, u, hi, rfl, rfl, hrow, hlow, ht⟩ := hrel
    have HT := Lib.hid ht
    have HW := Lib.hid hrow
    have HLO := Lib.hid hlow
    clear hrow hlow ht T1
    by_cases h7 : i < 7
    · by_cases hip : i < P.length
      · obtain ⟨gl, ol, el, -, hcl⟩ := HL.out.at (by intro e; rw [e] at hip; simp at hip)
        subst el
        have hyw := HT.out.cell (hcl i hip) (by simp)
        obtain ⟨y, hyy⟩ : ∃ y, y = P.getD i false := ⟨_, rfl⟩
        rw [← hyy] at hyw
        have HYY := Lib.hid hyy.symm
        clear hyy hcl
        cases y with
        | true =>
          have HX := Lib.hid (lTd_yes HYY.out)
          have hal := Turn.alloc [] wr (.cells #[.int .i64 ((i : Int) + 2)] 3)
          have R2 := Lib.hid (ownsRow_turn HW.out hal (by simp))
          have S2 := Lib.hid (Sr.new wr ((i : Int) + 2) 3)
          have HALen : Hid ((lTd P i).length + [(i : Int) + 2].length ≤ 1000000) := Lib.hid (by have := lTd_len P i; simp; omega)
          have HAL := Lib.hid hal
          clear hal
          go_wp2_with (at_builtin; refine append_ints rfl (.tmp 34) (.tmp 37) rfl u (lTd P i) rfl R2.out (some ⟨wr.heap.size, 0, none⟩) 1 1 [(i : Int) + 2] rfl rfl S2.out HALen.out ?_; intro v1 w1 r1 g1 o1)
          rw [← HX.out] at r1
          have R3 := Lib.hid r1
          have T3 := Lib.hid ((HT.out.trans HAL.out (by simp)).trans (Turn.grown (l := u.ownBlock.toList) g1 (fun k hk => .inl (by simp [hk]))) (fun i hi => .inr (HLO.out i (by simpa using hi))))
          have L3 : Hid (∀ g, v1.ownBlock = some g → w.heap.size ≤ g) := Lib.hid (fun g hg => by
            rcases o1 with e | e
            · exact HLO.out g (by rw [← e]; exact hg)
            · rw [e] at hg
              have h1 := (HT.out.trans HAL.out (by simp)).size
              have h2 := Option.some.inj hg
              omega)
          clear r1 g1 o1
          go_wp2_with fail
          go_roundw
          case rel => exact ⟨i + 1, _, by omega, by go_num, rfl, R3.out, L3.out, T3.out⟩
          case measure => simp [intOf]; omega
        | false =>
          have HX := Lib.hid (lTd_no HYY.out)
          have R3 := Lib.hid HW.out
          rw [← HX.out] at R3
          go_wp2_with fail
          go_roundw
          case rel => exact ⟨i + 1, _, by omega, by go_num, rfl, R3.out, HLO.out, HT.out⟩
          case measure => simp [intOf]; omega
      · have HX := Lib.hid (lTd_no (P := P) (i := i) (by simp [List.getD, hip]))
        have R3 := Lib.hid HW.out
        rw [← HX.out] at R3
        go_wp2_with fail
        go_roundw
        case rel => exact ⟨i + 1, _, by omega, by go_num, rfl, R3.out, HLO.out, HT.out⟩
        case measure => simp [intOf]; omega
    · have h8 : i = 7 := by omega
      subst h8
      obtain ⟨m, hm⟩ := told_mask P
      rw [← hm] at HW
      clear hm hi h7
      obtain ⟨al, cl, hu⟩ := slice_form HW.out
      rw [hu] at HW HLO ⊢
      clear hu
      obtain ⟨L, hL⟩ : ∃ L, L = remT m.1 := ⟨_, rfl⟩
      have HLM := Lib.hid hL
      rw [← hL] at HW HLO ⊢
      clear hL
      obtain ⟨nl, hnl⟩ : ∃ n, n = L.length := ⟨_, rfl⟩
      have HNL := Lib.hid hnl
      rw [← hnl] at HW HLO ⊢
      clear hnl
      have CN := Lib.hid (stNew_calls 1 wr)
      rw [newN] at CN
      obtain ⟨aN, haN⟩ : ∃ a, a = noAds := ⟨_, rfl⟩
      rw [← haN] at CN
      clear haN
      go_wp2_with fail
      refine CN.out.mono ?_
      rintro e xN ⟨rfl, isN, tN⟩
      have IL := own_il (l := L) (ao := al) (c := cl) (by have := ownsRow_turn HW.out tN (by simp); rwa [HNL.out] at this) (fun n hn => by
        have := List.all_eq_true.1 (remT_ok' m) n (by rw [← HLM.out]; exact hn)
        simp at this
        omega)
      have C := apply_rows isN mN (rtN L) al none cl 0 IL (ps_none _) (by show okI 4294967297; unfold okI; decide) (by show okI 0; unfold okI; decide) (by rw [HLM.out]; exact (eqStB_iff _ _).1 (stTd0' m)) (u := sTd L)
      rw [cells_N, show (rtN L).cells al cl none 0 = #[.int .i64 8, .int .i64 4294967297, .int .i64 0, .bool false, .slice al L.length cl, .slice none 0 0] from rfl, ← HNL.out] at C
      have C1 := Lib.hid C
      have TN := Lib.hid (HT.out.trans tN (by simp))
      have HWN := Lib.hid (ownsRow_turn HW.out tN (by simp))
      rw [cells_N]
      have HIL0 := Lib.hid IL
      clear C IL isN tN CN HT HW
      go_wp2_with fail
      refine C1.out.mono ?_
      rintro e xA ⟨aA, LW, LO, LN, rfl, rA, tA⟩
      have HMay : Hid (MayP (sTd L)) := Lib.hid (mayB_iff.1 (by rw [HLM.out]; exact mTd' m))
      have nb := Bx.new (rA.is HMay.out.deep)
      rw [cells_Td] at nb
      rw [cells_Td]
      have ta := tA.trans (Turn.alloc [] xA (.cells #[.int .i64 1, .int .i64 1, .int .i64 1, .int .i64 0, .slice aA.m 0 aA.cm, .slice aA.w 0 aA.cw, .slice aA.e 1 aA.ce, .slice aA.o 0 aA.co, .slice aA.n (sTd L).noes.length aA.cn] 27)) (by simp)
      have BT := Lib.hid nb
      have TT := Lib.hid (TN.out.trans ta (by simp))
      have HWT := Lib.hid (ownsRow_turn HWN.out ta (by simp))
      have HB : Hid (w.heap.size ≤ xA.heap.size) := Lib.hid (TN.out.trans tA (by simp)).size
      have HLC : Hid (∀ k, k < nl → ∃ g o, al = some ⟨g, o, none⟩ ∧ g < xA.heap.size ∧ (xA.alloc (.cells #[.int .i64 1, .int .i64 1, .int .i64 1, .int .i64 0, .slice aA.m 0 aA.cm, .slice aA.w 0 aA.cw, .slice aA.e 1 aA.ce, .slice aA.o 0 aA.co, .slice aA.n (sTd L).noes.length aA.cn] 27)).cell? ⟨g, o + k, none⟩ = some (.int .i64 (L.getD k 0))) := Lib.hid (fun k hk => by
        rw [HNL.out] at hk
        obtain ⟨g, o, e1, hg, hc⟩ := (HIL0.out.turn tA).at (by intro e; rw [e] at hk; simp at hk)
        exact ⟨g, o, e1, hg, (Turn.alloc [] xA _).cell (hc k hk) (by simp)⟩)
      clear HIL0
      clear nb ta rA tA C1 TN HWN
      go_upto_region 12 with fail
      generalize hy : xA.alloc (.cells #[.int .i64 1, .int .i64 1, .int .i64 1, .int .i64 0, .slice aA.m 0 aA.cm, .slice aA.w 0 aA.cw, .slice aA.e 1 aA.ce, .slice aA.o 0 aA.co, .slice aA.n (sTd L).noes.length aA.cn] 27) = yA at *
      clear hy
      obtain ⟨b, hb⟩ : ∃ b, b = xA.heap.size := ⟨_, rfl⟩
      rw [← hb] at BT HB HLC ⊢
      clear hb
      have hh := BT.out.head
      rw [cells_Td] at hh
      obtain ⟨c0, c1, c2, c3, c4, c5, c6, c7, c8⟩ := nine_of hh
      clear hh
      clear c0 c1 c2 c3 c4 c5 c6 c7 c8 HWT
      obtain ⟨nn, hnn⟩ : ∃ n, n = (sTd L).noes.length := ⟨_, rfl⟩
      obtain ⟨bb, hbb⟩ : ∃ x, x = decide ((nl : Int) > 0) := ⟨_, rfl⟩
      have e1 : ((nn : Int) == 1) = bb := by
        rw [hbb, hnn, HNL.out]
        cases L <;> simp [sTd]
      have e2 : decide ((nl : Int) > 0) = bb := hbb.symm
      have e3 : (bb == decide (0 < nl)) = true := by rw [hbb]; simp
      have hh := BT.out.head
      rw [cells_Td, ← hnn] at hh
      obtain ⟨c0, c1, c2, c3, c4, c5, c6, c7, c8⟩ := nine_of hh
      clear hh hnn hbb
      go_upto_region 15 with fail
      clear c0 c1 c2 c3 c4 c5 c6 c7 c8 e1 e2 e3
      go_upto_region 17 with fail
      obtain ⟨q, hq⟩ : ∃ q, q = yA.heap.size := ⟨_, rfl⟩
      have BQ := Lib.hid (BT.out.still (Turn.alloc [] yA (.cells #[.bool false, .bool false, .bool false, .bool false, .bool false, .bool false, .bool false, .bool false, .bool false, .bool false] 63)))
      have TQ := Lib.hid (TT.out.trans (Turn.alloc [] yA (.cells #[.bool false, .bool false, .bool false, .bool false, .bool false, .bool false, .bool false, .bool false, .bool false, .bool false] 63)) (by simp))
      have HCQ : Hid ((yA.alloc (.cells #[.bool false, .bool false, .bool false, .bool false, .bool false, .bool false, .bool false, .bool false, .bool false, .bool false] 63)).heap[q]? = some (.cells #[.bool false, .bool false, .bool false, .bool false, .bool false, .bool false, .bool false, .bool false, .bool false, .bool false] 63)) := Lib.hid (by rw [hq]; exact heap_alloc_new yA _)
      have HLQ : Hid (∀ k, k < nl → ∃ g o, al = some ⟨g, o, none⟩ ∧ g < b ∧ (yA.alloc (.cells #[.bool false, .bool false, .bool false, .bool false, .bool false, .bool false, .bool false, .bool false, .bool false, .bool false] 63)).cell? ⟨g, o + k, none⟩ = some (.int .i64 (L.getD k 0))) := Lib.hid (fun k hk => by
        obtain ⟨g, o, e1, hg, hc⟩ := HLC.out k hk
        exact ⟨g, o, e1, hg, (Turn.alloc [] yA _).cell hc (by simp)⟩)
      have HQ : Hid (b < q ∧ w.heap.size ≤ b) := Lib.hid ⟨by have := lt_of_heap BT.out.head; omega, HB.out⟩
      have HQS : Hid (q < (yA.alloc (.cells #[.bool false, .bool false, .bool false, .bool false, .bool false, .bool false, .bool false, .bool false, .bool false, .bool false] 63)).heap.size) := Lib.hid (by simp; omega)
      generalize hcm : (#[.bool false, .bool false, .bool false, .bool false, .bool false, .bool false, .bool false, .bool false, .bool false, .bool false] : Array Value) = CM at *
      have HCM : Hid (∀ j : Fin 7, CM[j.1 + 2]? = some (.bool (Nat.testBit m.1 j.1 && !Nat.testBit m.1 j.1))) := Lib.hid (by
        intro j
        rw [← hcm, Bool.and_not_self]
        obtain ⟨j, hj⟩ := j
        have : j = 0 ∨ j = 1 ∨ j = 2 ∨ j = 3 ∨ j = 4 ∨ j = 5 ∨ j = 6 := by omega
        rcases this with rfl | rfl | rfl | rfl | rfl | rfl | rfl <;> rfl)
      generalize hym : yA.alloc (.cells CM 63) = yM at *
      rw [← hq]
      clear hcm hym hq BT TT HLC HB
      obtain ⟨m0, hm0⟩ : ∃ k, k = m.1 := ⟨_, rfl⟩
      have HM0 : Hid (m0 < 128) := Lib.hid (by rw [hm0]; exact m.2)
      rw [← hm0] at HLM HCM
      have HNM : Hid (nl = (remT m0).length) := Lib.hid (by rw [HNL.out, HLM.out])
      rw [HLM.out] at BQ HMay
      have hnl7 : nl ≤ 7 := by rw [HNM.out]; exact lenT7' ⟨m0, HM0.out⟩
      clear hm0 m
      go_loopw [10, 12, 13, 14, 15, 16] (fun v10 v12 v13 v14 v15 v16 wx => ∃ (i M : Nat) (a : Ads) (C : Array Value) (u13 u14 u15 u16 : Value), u13 = v13 ∧ u14 = v14 ∧ u15 = v15 ∧ u16 = v16 ∧ v12 = .int .i64 (i : Int) ∧ i ≤ R.length ∧ i ≤ 20 ∧ M < 128 ∧ v10 = .int .i64 (((remT M).length : Nat) : Int) ∧ Bx wx b a (sTd (remT M)) ∧ wx.heap[q]? = some (.cells C 63) ∧ (∀ j : Fin 7, C[j.1 + 2]? = some (.bool (Nat.testBit m0 j.1 && !Nat.testBit M j.1))) ∧ (∀ j : Fin 7, Nat.testBit M j.1 = true → Nat.testBit m0 j.1 = true) ∧ (∀ k, k < nl → ∃ g o, al = some ⟨g, o, none⟩ ∧ g < b ∧ wx.cell? ⟨g, o + k, none⟩ = some (.int .i64 (L.getD k 0))) ∧ Turn [] w wx ∧ q < wx.heap.size) (fun _ v12 _ _ _ _ _ => R.length - (intOf v12).toNat)
      case atStart => exact ⟨0, m0, aA, CM, _, _, _, _, rfl, rfl, rfl, rfl, rfl, by omega, by omega, HM0.out, by rw [HNM.out], BQ.out, HCQ.out, HCM.out, fun j h => h, HLQ.out, TQ.out, HQS.out⟩
      case round =>
        obtain ⟨i, M, a, C, u13, u14, u15, u16, rfl, rfl, rfl, rfl, rfl, hi1, hi2, hM, rfl, hbx, hcq, hcc, hsub, hlc, ht, hqs⟩ := hrel
        have HBX := Lib.hid hbx
        have HC := Lib.hid hcq
        have HCC := Lib.hid hcc
        have HSUB := Lib.hid hsub
        have HLC := Lib.hid hlc
        have HT := Lib.hid ht
        have HQW := Lib.hid hqs
        clear hbx hcq hcc hsub hlc ht hqs BQ TQ HCQ HCM HLQ HQS HMay
        have HMay : Hid (MayP (sTd (remT M))) := Lib.hid (mayB_iff.1 (mTd' ⟨M, hM⟩))
        obtain ⟨s1, hs1⟩ : ∃ s, s = sTd (remT M) := ⟨_, rfl⟩
        have HS1 := Lib.hid hs1
        rw [← hs1] at HBX HMay
        obtain ⟨lM, hlM⟩ : ∃ n, n = (remT M).length := ⟨_, rfl⟩
        have HLN := Lib.hid hlM
        rw [← hlM]
        clear hs1 hlM
        by_cases q1 : i < R.length ∧ i < 20
        · obtain ⟨q1, q2⟩ := q1
          obtain ⟨gr, orr, er, -, hat⟩ := HR.out.at (by intro e; rw [e] at q1; simp at q1)
          have hcr := HT.out.cell (hat i q1) (by simp)
          rw [er]
          obtain ⟨x, hx⟩ : ∃ x, x = R.getD i 0 := ⟨_, rfl⟩
          rw [← hx] at hcr
          have hr1 := tmod7 x
          obtain ⟨z, hz⟩ : ∃ z, Int.tmod x 7 = z := ⟨_, rfl⟩
          rw [hz] at hr1
          obtain ⟨j, hj, hjm, hj7⟩ : ∃ j : Nat, Int.tmod (z + 7) 7 = (j : Int) ∧ (z + 7) % 7 = (j : Int) ∧ j < 7 := ⟨((z + 7) % 7).toNat, by rw [Int.tmod_eq_emod_of_nonneg (by omega)]; omega, by omega, by omega⟩
          obtain ⟨p, hp⟩ : ∃ p : Nat, p = j + 2 := ⟨_, rfl⟩
          have hpj : (2 : Int) + (j : Int) = (p : Int) := by omega
          obtain ⟨tp, htp⟩ : ∃ tp, tp = (Nat.testBit m0 j && !Nat.testBit M j) := ⟨_, rfl⟩
          have HTP := Lib.hid htp
          have HKT : Hid (C[p]? = some (.bool tp)) := Lib.hid (by rw [hp, htp]; exact HCC.out ⟨j, hj7⟩)
          have HP : Hid (p = j + 2 ∧ j < 7) := Lib.hid ⟨hp, hj7⟩
          clear hat hx htp hp
          go_upto_region 22 with fail
          clear hcr hz hj hjm hr1 hpj
          go_loop [14, 15] (fun v14 v15 => ∃ k : Nat, k ≤ nl ∧ v15 = .int .i64 (k : Int) ∧ v14 = .bool (inTd L (p : Int) tp k)) (fun _ v15 => nl - (intOf v15).toNat)
          case atStart => exact ⟨0, by omega, rfl, rfl⟩
          case round =>
            obtain ⟨k, hk, rfl, rfl⟩ := hrel
            obtain ⟨v, hv⟩ : ∃ v, v = inTd L (p : Int) tp k := ⟨_, rfl⟩
            have HV := Lib.hid hv
            rw [← hv]
            clear hv
            by_cases hkn : k < nl
            · have HNX : Hid (inTd L (p : Int) tp (k + 1) = (v || (decide (L.getD k 0 = (p : Int)) && !tp))) := Lib.hid (by rw [HV.out]; exact inTd_next (by rw [← HNL.out]; exact hkn))
              cases v with
              | true =>
                go_wp2
                go_round
                case rel => exact ⟨k + 1, by omega, by go_num, by rw [HNX.out]; rfl⟩
                case measure => simp [intOf]; omega
              | false =>
                obtain ⟨g, o, e1, hg, hc⟩ := HLC.out k hkn
                subst e1
                obtain ⟨y, hy⟩ : ∃ y, y = L.getD k 0 := ⟨_, rfl⟩
                rw [← hy] at hc HNX
                have hb : 0 ≤ (k : Int) ∧ (k : Int) < (nl : Int) := by omega
                have hb2 : 0 ≤ (p : Int) ∧ (p : Int) < 10 := by have := HP.out; omega
                have ht := cell_in HC.out HKT.out
                clear hy
                by_cases hyp : y = (p : Int)
                · subst hyp
                  have HNX2 : Hid (inTd L (p : Int) tp (k + 1) = !tp) := Lib.hid (by rw [HNX.out]; simp)
                  clear HNX
                  go_wp2
                  go_round
                  case rel => exact ⟨k + 1, by omega, by go_num, by rw [HNX2.out]⟩
                  case measure => simp [intOf]; omega
                · have hne : (y == (p : Int)) = false := by simpa using hyp
                  have HNX2 : Hid (inTd L (p : Int) tp (k + 1) = false) := Lib.hid (by rw [HNX.out, decide_eq_false hyp]; rfl)
                  clear HNX hyp
                  go_wp2
                  go_round
                  case rel => exact ⟨k + 1, by omega, by go_num, by rw [HNX2.out]⟩
                  case measure => simp [intOf]; omega
            · have hkk : nl = k := by omega
              subst hkk
              have HIN : Hid (v = Nat.testBit M j) := Lib.hid (by
                have h1 := memTd' ⟨m0, HM0.out⟩ ⟨j, hj7⟩
                rw [HV.out, HNL.out, inTd_all, HLM.out, HP.out.1, h1, HTP.out]
                have h2 := HSUB.out ⟨j, hj7⟩
                dsimp only at h2 ⊢
                generalize Nat.testBit m0 j = b1 at *
                generalize Nat.testBit M j = b2 at *
                cases b1 <;> cases b2 <;> simp_all)
              have hpb : p ≤ 8 := by have := HP.out; omega
              clear HV hkn hk
              go_upto_region 26 with fail
              have BX2 := Lib.hid (HBX.out.still ((Turn.alloc [] wr (.cells #[.int .i64 (p : Int)] 3)).trans (Turn.alloc [] _ (.cells #[.int .i64 9, .int .i64 4294967297, .int .i64 0, .bool false, .slice (some ⟨wr.heap.size, 0, none⟩) 1 1, .slice none 0 0] 37)) (by simp)))
              have IL2 := Lib.hid ((il_new wr (p : Int) 3 (by unfold okI; omega)).turn (Turn.alloc [] _ (.cells #[.int .i64 9, .int .i64 4294967297, .int .i64 0, .bool false, .slice (some ⟨wr.heap.size, 0, none⟩) 1 1, .slice none 0 0] 37)))
              have TA := Lib.hid ((Turn.alloc [] wr (.cells #[.int .i64 (p : Int)] 3)).trans (Turn.alloc [] _ (.cells #[.int .i64 9, .int .i64 4294967297, .int .i64 0, .bool false, .slice (some ⟨wr.heap.size, 0, none⟩) 1 1, .slice none 0 0] 37)) (by simp))
              have RB2 := heap_alloc_new (wr.alloc (.cells #[.int .i64 (p : Int)] 3)) (.cells #[.int .i64 9, .int .i64 4294967297, .int .i64 0, .bool false, .slice (some ⟨wr.heap.size, 0, none⟩) 1 1, .slice none 0 0] 37)
              rw [show (wr.alloc (.cells #[.int .i64 (p : Int)] 3)).heap.size = wr.heap.size + 1 by simp] at RB2
              generalize hy2 : (wr.alloc (.cells #[.int .i64 (p : Int)] 3)).alloc (.cells #[.int .i64 9, .int .i64 4294967297, .int .i64 0, .bool false, .slice (some ⟨wr.heap.size, 0, none⟩) 1 1, .slice none 0 0] 37) = y2 at *
              obtain ⟨rb, hrb⟩ : ∃ x, x = wr.heap.size + 1 := ⟨_, rfl⟩
              obtain ⟨pb, hpb2⟩ : ∃ x, x = wr.heap.size := ⟨_, rfl⟩
              have HRB : Hid (b < rb ∧ q < rb) := Lib.hid (by have h1 := lt_of_heap HBX.out.head; have h2 := HQW.out; omega)
              rw [← hrb] at RB2 ⊢
              rw [← hpb2] at RB2 IL2 ⊢
              have RB := Lib.hid RB2
              clear hy2 hrb hpb2 RB2 HBX
              have C := can_calls BX2.out.is HMay.out (rtT (p : Int)) (some ⟨pb, 0, none⟩) none 1 0 IL2.out (ps_none _) (by show okI 4294967297; unfold okI; decide) (by show okI 0; unfold okI; decide)
              rw [show s1.cells a = #[.int .i64 s1.broker, .int .i64 s1.nextId, .int .i64 s1.nextSeq, .int .i64 s1.tx, .slice a.m s1.ms.length a.cm, .slice a.w s1.waits.length a.cw, .slice a.e s1.ends.length a.ce, .slice a.o s1.open_.length a.co, .slice a.n s1.noes.length a.cn] from rfl, show (rtT (p : Int)).cells (some ⟨pb, 0, none⟩) 1 none 0 = #[.int .i64 9, .int .i64 4294967297, .int .i64 0, .bool false, .slice (some ⟨pb, 0, none⟩) 1 1, .slice none 0 0] from rfl] at C
              obtain ⟨ev, hev⟩ : ∃ x, x = canE s1 (rtT (p : Int)) := ⟨_, rfl⟩
              have HEV : Hid ((ev == 0) = v) := Lib.hid (by rw [hev, HS1.out, HP.out.1, HIN.out]; exact canTd' ⟨M, hM⟩ ⟨j, hj7⟩)
              rw [← hev] at C
              have C1 := Lib.hid C
              have hh := BX2.out.head
              rw [show s1.cells a = #[.int .i64 s1.broker, .int .i64 s1.nextId, .int .i64 s1.nextSeq, .int .i64 s1.tx, .slice a.m s1.ms.length a.cm, .slice a.w s1.waits.length a.cw, .slice a.e s1.ends.length a.ce, .slice a.o s1.open_.length a.co, .slice a.n s1.noes.length a.cn] from rfl] at hh
              obtain ⟨c0, c1, c2, c3, c4, c5, c6, c7, c8⟩ := nine_of hh
              obtain ⟨m0', m1', m2', m3', m4', m5'⟩ := six_of10 RB.out
              clear C hev hh
              go_wp2_with fail
              clear c0 c1 c2 c3 c4 c5 c6 c7 c8 m0' m1' m2' m3' m4' m5'
              refine C1.out.mono ?_
              rintro e x3 ⟨rfl, t3⟩
              have T3 := Lib.hid t3
              have BX3 := Lib.hid (BX2.out.still t3)
              have IL3 := Lib.hid (IL2.out.turn t3)
              have RB3 := Lib.hid (T3.out.heap RB.out (by simp))
              clear t3 C1 BX2 IL2 RB
              cases v with
              | true =>
                have he0 : ev = 0 := by simpa using HEV.out
                subst he0
                clear HEV
                obtain ⟨M2, hM2⟩ : ∃ x, x = M - 2 ^ j := ⟨_, rfl⟩
                obtain ⟨s2, hs2⟩ : ∃ s, s = sTd (remT M2) := ⟨_, rfl⟩
                have HS2 := Lib.hid hs2
                have HM2 : Hid (M2 < 128) := Lib.hid (by rw [hM2]; exact (lenTd' ⟨M, hM⟩ ⟨j, hj7⟩ (by rw [← HIN.out])).2)
                obtain ⟨lm, hlm⟩ : ∃ n, n = (remT M2).length := ⟨_, rfl⟩
                have HLMM := Lib.hid hlm
                have hll : lm + 1 = lM := by rw [hlm, hM2, HLN.out]; exact (lenTd' ⟨M, hM⟩ ⟨j, hj7⟩ (by rw [← HIN.out])).1
                have hlm7 : lM ≤ 7 := by rw [HLN.out]; exact lenT7' ⟨M, hM⟩
                clear hlm
                have HMay2 : Hid (MayP s2) := Lib.hid (by rw [hs2]; exact mayB_iff.1 (mTd' ⟨M2, HM2.out⟩))
                have C := apply_rows BX3.out.is HMay.out (rtT (p : Int)) (some ⟨pb, 0, none⟩) none 1 0 IL3.out (ps_none _) (by show okI 4294967297; unfold okI; decide) (by show okI 0; unfold okI; decide) (u := s2) (by
                  rw [HS1.out, hs2, HP.out.1, hM2]
                  have h1 := (eqStB_iff _ _).1 (stTd' ⟨M, hM⟩ ⟨j, hj7⟩)
                  rw [h1]
                  dsimp only
                  rw [← HIN.out]
                  rfl)
                rw [show s1.cells a = #[.int .i64 s1.broker, .int .i64 s1.nextId, .int .i64 s1.nextSeq, .int .i64 s1.tx, .slice a.m s1.ms.length a.cm, .slice a.w s1.waits.length a.cw, .slice a.e s1.ends.length a.ce, .slice a.o s1.open_.length a.co, .slice a.n s1.noes.length a.cn] from rfl, show (rtT (p : Int)).cells (some ⟨pb, 0, none⟩) 1 none 0 = #[.int .i64 9, .int .i64 4294967297, .int .i64 0, .bool false, .slice (some ⟨pb, 0, none⟩) 1 1, .slice none 0 0] from rfl] at C
                have HMM := Lib.hid hM2
                have C1 := Lib.hid C
                have hh := BX3.out.head
                rw [show s1.cells a = #[.int .i64 s1.broker, .int .i64 s1.nextId, .int .i64 s1.nextSeq, .int .i64 s1.tx, .slice a.m s1.ms.length a.cm, .slice a.w s1.waits.length a.cw, .slice a.e s1.ends.length a.ce, .slice a.o s1.open_.length a.co, .slice a.n s1.noes.length a.cn] from rfl] at hh
                obtain ⟨c0, c1, c2, c3, c4, c5, c6, c7, c8⟩ := nine_of hh
                obtain ⟨m0', m1', m2', m3', m4', m5'⟩ := six_of10 RB3.out
                clear C hh hs2 hM2
                go_wp2_with fail
                clear c0 c1 c2 c3 c4 c5 c6 c7 c8 m0' m1' m2' m3' m4' m5'
                refine C1.out.mono ?_
                rintro e x4 ⟨a4, LWa4, LOa4, LNa4, rfl, rA, tA⟩
                have BX := Lib.hid (BX3.out.still tA)
                have sx := bx_store2 BX.out rA HMay2.out
                have SX : Hid (Bx (((((((((x4.setCell ⟨b, 0, none⟩ (.int .i64 s2.broker)).setCell ⟨b, 1, none⟩ (.int .i64 s2.nextId)).setCell ⟨b, 2, none⟩ (.int .i64 s2.nextSeq)).setCell ⟨b, 3, none⟩ (.int .i64 s2.tx)).setCell ⟨b, 4, none⟩ (.slice a4.m s2.ms.length a4.cm)).setCell ⟨b, 5, none⟩ (.slice a4.w s2.waits.length a4.cw)).setCell ⟨b, 6, none⟩ (.slice a4.e s2.ends.length a4.ce)).setCell ⟨b, 7, none⟩ (.slice a4.o s2.open_.length a4.co)).setCell ⟨b, 8, none⟩ (.slice a4.n s2.noes.length a4.cn)) b a4 s2 ∧ Turn [b] x4 (((((((((x4.setCell ⟨b, 0, none⟩ (.int .i64 s2.broker)).setCell ⟨b, 1, none⟩ (.int .i64 s2.nextId)).setCell ⟨b, 2, none⟩ (.int .i64 s2.nextSeq)).setCell ⟨b, 3, none⟩ (.int .i64 s2.tx)).setCell ⟨b, 4, none⟩ (.slice a4.m s2.ms.length a4.cm)).setCell ⟨b, 5, none⟩ (.slice a4.w s2.waits.length a4.cw)).setCell ⟨b, 6, none⟩ (.slice a4.e s2.ends.length a4.ce)).setCell ⟨b, 7, none⟩ (.slice a4.o s2.open_.length a4.co)).setCell ⟨b, 8, none⟩ (.slice a4.n s2.noes.length a4.cn)) ∧ Rows (((((((((x4.setCell ⟨b, 0, none⟩ (.int .i64 s2.broker)).setCell ⟨b, 1, none⟩ (.int .i64 s2.nextId)).setCell ⟨b, 2, none⟩ (.int .i64 s2.nextSeq)).setCell ⟨b, 3, none⟩ (.int .i64 s2.tx)).setCell ⟨b, 4, none⟩ (.slice a4.m s2.ms.length a4.cm)).setCell ⟨b, 5, none⟩ (.slice a4.w s2.waits.length a4.cw)).setCell ⟨b, 6, none⟩ (.slice a4.e s2.ends.length a4.ce)).setCell ⟨b, 7, none⟩ (.slice a4.o s2.open_.length a4.co)).setCell ⟨b, 8, none⟩ (.slice a4.n s2.noes.length a4.cn)) x3.heap.size s2 a4 LWa4 LOa4 LNa4) := Lib.hid sx
                have TX := Lib.hid tA
                have hh := BX.out.head
                rw [show s1.cells a = #[.int .i64 s1.broker, .int .i64 s1.nextId, .int .i64 s1.nextSeq, .int .i64 s1.tx, .slice a.m s1.ms.length a.cm, .slice a.w s1.waits.length a.cw, .slice a.e s1.ends.length a.ce, .slice a.o s1.open_.length a.co, .slice a.n s1.noes.length a.cn] from rfl] at hh
                obtain ⟨c0, c1, c2, c3, c4, c5, c6, c7, c8⟩ := nine_of hh
                have f0 : ∀ j, x4.frozen? ⟨b, j, none⟩ = false := fun j => unfrozen_of hh
                rw [show s2.cells a4 = #[.int .i64 s2.broker, .int .i64 s2.nextId, .int .i64 s2.nextSeq, .int .i64 s2.tx, .slice a4.m s2.ms.length a4.cm, .slice a4.w s2.waits.length a4.cw, .slice a4.e s2.ends.length a4.ce, .slice a4.o s2.open_.length a4.co, .slice a4.n s2.noes.length a4.cn] from rfl]
                clear C1 sx rA tA hh BX3
                go_upto_region 29 with fail
                clear c0 c1 c2 c3 c4 c5 c6 c7 c8 f0 BX
                generalize hy : (((((((((x4.setCell ⟨b, 0, none⟩ (.int .i64 s2.broker)).setCell ⟨b, 1, none⟩ (.int .i64 s2.nextId)).setCell ⟨b, 2, none⟩ (.int .i64 s2.nextSeq)).setCell ⟨b, 3, none⟩ (.int .i64 s2.tx)).setCell ⟨b, 4, none⟩ (.slice a4.m s2.ms.length a4.cm)).setCell ⟨b, 5, none⟩ (.slice a4.w s2.waits.length a4.cw)).setCell ⟨b, 6, none⟩ (.slice a4.e s2.ends.length a4.ce)).setCell ⟨b, 7, none⟩ (.slice a4.o s2.open_.length a4.co)).setCell ⟨b, 8, none⟩ (.slice a4.n s2.noes.length a4.cn)) = yB at *
                clear hy
                have T0 : Hid (Turn [] wr x4) := Lib.hid ((TA.out.trans T3.out (by simp)).trans TX.out (by simp))
                have HCB : Hid (yB.heap[q]? = some (.cells C 63)) := Lib.hid (SX.out.2.1.heap (T0.out.heap HC.out (by simp)) (by have := HQ.out; simp; omega))
                have HLB : Hid (∀ k, k < nl → ∃ g o, al = some ⟨g, o, none⟩ ∧ g < b ∧ yB.cell? ⟨g, o + k, none⟩ = some (.int .i64 (L.getD k 0))) := Lib.hid (fun k hk => by
                  obtain ⟨g, o, e1, hg, hc⟩ := HLC.out k hk
                  exact ⟨g, o, e1, hg, SX.out.2.1.cell (T0.out.cell hc (by simp)) (by simp; omega)⟩)
                have TB : Hid (Turn [] w yB) := Lib.hid ((HT.out.trans T0.out (by simp)).trans SX.out.2.1 (fun i hi => .inr (by have := HQ.out; simp at hi; omega)))
                have HSB : Hid (q < yB.heap.size) := Lib.hid (lt_of_heap HCB.out)
                have BB := Lib.hid SX.out.1
                have RR := Lib.hid SX.out.2.2
                have HLO2 : Hid (q < x3.heap.size) := Lib.hid (by have h1 := (TA.out.trans T3.out (by simp)).size; have := HQW.out; omega)
                clear SX TX T0 HLC HC HT TA T3
                have fq : ∀ j, yB.frozen? ⟨q, j, none⟩ = false := fun j => unfrozen_of HCB.out
                have kq := cell_in HCB.out HKT.out
                have hb2 : 0 ≤ (p : Int) ∧ (p : Int) < 10 := by omega
                have hw : IntKind.i64.wrap ((lM : Int) - 1) = (lm : Int) := by rw [IntKind.wrap_i64]; omega
                go_upto_region 32 with fail
                clear fq kq hw hb2
                have TC := Lib.hid (Turn.setCell (l := [q]) (b := q) (i := p) yB (by simp) (.bool true))
                have BC := Lib.hid (BB.out.over RR.out TC.out HLO2.out (by have := HQ.out; omega) HMay2.out)
                have HC2 : Hid ((yB.setCell ⟨q, p, none⟩ (.bool true)).heap[q]? = some (.cells (C.setIfInBounds p (.bool true)) 63)) := Lib.hid (block_set HCB.out _)
                have HL2 : Hid (∀ k, k < nl → ∃ g o, al = some ⟨g, o, none⟩ ∧ g < b ∧ (yB.setCell ⟨q, p, none⟩ (.bool true)).cell? ⟨g, o + k, none⟩ = some (.int .i64 (L.getD k 0))) := Lib.hid (fun k hk => by
                  obtain ⟨g, o, e1, hg, hc⟩ := HLB.out k hk
                  exact ⟨g, o, e1, hg, TC.out.cell hc (by have := HQ.out; simp; omega)⟩)
                have T2 : Hid (Turn [] w (yB.setCell ⟨q, p, none⟩ (.bool true))) := Lib.hid (TB.out.trans TC.out (fun i hi => .inr (by have := HQ.out; simp at hi; omega)))
                have HS2' : Hid (q < (yB.setCell ⟨q, p, none⟩ (.bool true)).heap.size) := Lib.hid (lt_of_heap HC2.out)
                have HCC2 : Hid (∀ j : Fin 7, (C.setIfInBounds p (.bool true))[j.1 + 2]? = some (.bool (Nat.testBit m0 j.1 && !Nat.testBit M2 j.1))) := Lib.hid (by
                  intro j'
                  have hb := bitTd' ⟨M, hM⟩ ⟨j, hj7⟩ j' (by rw [← HIN.out])
                  have hsz := (Array.getElem?_eq_some_iff.1 HKT.out).1
                  rw [HMM.out, hb, Array.getElem?_setIfInBounds]
                  by_cases e : p = j'.1 + 2
                  · have e2 : j'.1 = j := by have := HP.out; omega
                    have h0 := HSUB.out ⟨j, hj7⟩ (by rw [← HIN.out])
                    dsimp only at h0
                    rw [if_pos e, if_pos hsz, e2, h0]
                    simp
                  · have e2 : j'.1 ≠ j := by have := HP.out; omega
                    rw [if_neg e, HCC.out j']
                    simp [e2])
                have HSU2 : Hid (∀ j : Fin 7, Nat.testBit M2 j.1 = true → Nat.testBit m0 j.1 = true) := Lib.hid (fun j' h => by
                  have hb := bitTd' ⟨M, hM⟩ ⟨j, hj7⟩ j' (by rw [← HIN.out])
                  rw [HMM.out, hb] at h
                  exact HSUB.out j' (by simp at h; exact h.1))
                generalize hyC : yB.setCell ⟨q, p, none⟩ (.bool true) = yC at *
                generalize hCC : C.setIfInBounds p (.bool true) = C2 at *
                clear hyC hCC hll hlm7 HCB HLB TB HSB BB RR HLO2
                have hh := BC.out.head
                rw [show s2.cells a4 = #[.int .i64 s2.broker, .int .i64 s2.nextId, .int .i64 s2.nextSeq, .int .i64 s2.tx, .slice a4.m s2.ms.length a4.cm, .slice a4.w s2.waits.length a4.cw, .slice a4.e s2.ends.length a4.ce, .slice a4.o s2.open_.length a4.co, .slice a4.n s2.noes.length a4.cn] from rfl] at hh
                obtain ⟨c0, c1, c2, c3, c4, c5, c6, c7, c8⟩ := nine_of hh
                obtain ⟨n2, hn2⟩ : ∃ n, n = s2.noes.length := ⟨_, rfl⟩
                rw [← hn2] at c8
                clear hh c0 c1 c2 c3 c4 c5 c6 c7
                by_cases hz : remT M2 = []
                · have e1 : n2 = 0 := by rw [hn2, HS2.out, hz]; rfl
                  have e2 : lm = 0 := by rw [HLMM.out, hz]; rfl
                  subst e1 e2
                  clear hn2 hz
                  go_wp2_with fail
                  go_roundw
                  case rel => exact ⟨i + 1, M2, a4, C2, _, _, _, _, rfl, rfl, rfl, rfl, by go_num, by omega, by omega, HM2.out, by rw [← HLMM.out], (by rw [← HS2.out]; exact BC.out), HC2.out, HCC2.out, HSU2.out, HL2.out, T2.out, HS2'.out⟩
                  case measure => simp [intOf]; omega
                · have hsn : s2.noes = [⟨4294967297, remT M2⟩] := by
                    rw [HS2.out]
                    cases hr : remT M2 with
                    | nil => exact absurd hr hz
                    | cons x y => rfl
                  have e1 : n2 = 1 := by rw [hn2, hsn]; rfl
                  have hlp : 0 < lm := by rw [HLMM.out]; exact List.length_pos_iff.2 hz
                  have hd1 : decide (0 < lm) = true := decide_eq_true hlp
                  have hd2 : decide ((lm : Int) > 0) = true := decide_eq_true (by omega)
                  obtain ⟨LNN, hLN, hTT, -⟩ := BC.out.is.noes
                  have hl0 : ∃ y2, LNN[0]? = some y2 ∧ y2.v = ⟨4294967297, remT M2⟩ := by
                    rw [hsn] at hLN
                    cases LNN with
                    | nil => simp at hLN
                    | cons y2 l2 => simp at hLN; exact ⟨y2, rfl, hLN.1⟩
                  obtain ⟨y2', hy2', hv2⟩ := hl0
                  obtain ⟨g2, o2, eg2, hat2⟩ := hTT.at hy2'
                  have z1 := hat2 1 (.slice y2'.ao y2'.v.parts.length y2'.c) rfl
                  rw [show y2'.v.parts.length = lm by rw [hv2, HLMM.out], Nat.zero_mul, Nat.add_zero] at z1
                  subst e1
                  rw [eg2] at c8
                  obtain ⟨ya, hya⟩ : ∃ x, x = y2'.ao := ⟨_, rfl⟩
                  obtain ⟨yc, hyc⟩ : ∃ x, x = y2'.c := ⟨_, rfl⟩
                  rw [← hya, ← hyc] at z1
                  clear hn2 hz hsn hLN hTT hat2 hv2 hy2' hya hyc
                  go_wp2_with fail
                  go_roundw
                  case rel => exact ⟨i + 1, M2, a4, C2, _, _, _, _, rfl, rfl, rfl, rfl, by go_num, by omega, by omega, HM2.out, by rw [← HLMM.out], (by rw [← HS2.out]; exact BC.out), HC2.out, HCC2.out, HSU2.out, HL2.out, T2.out, HS2'.out⟩
                  case measure => simp [intOf]; omega
              | false =>
                have he0 := HEV.out
                have hn0 : (ev != 0) = true := by simpa using he0
                clear HEV
                obtain ⟨M2, hM2⟩ : ∃ x, x = M := ⟨_, rfl⟩
                obtain ⟨s2, hs2⟩ : ∃ s, s = sTd (remT M2) := ⟨_, rfl⟩
                have HS2 := Lib.hid hs2
                have HM2 : Hid (M2 < 128) := Lib.hid (by rw [hM2]; exact hM)
                obtain ⟨lm, hlm⟩ : ∃ n, n = (remT M2).length := ⟨_, rfl⟩
                have HLMM := Lib.hid hlm
                have hll : lm = lM := by rw [hlm, hM2, HLN.out]
                subst hll
                clear hlm
                have HMay2 : Hid (MayP s2) := Lib.hid (by rw [hs2]; exact mayB_iff.1 (mTd' ⟨M2, HM2.out⟩))
                have C := apply_rows BX3.out.is HMay.out (rtT (p : Int)) (some ⟨pb, 0, none⟩) none 1 0 IL3.out (ps_none _) (by show okI 4294967297; unfold okI; decide) (by show okI 0; unfold okI; decide) (u := s2) (by
                  rw [HS1.out, hs2, HP.out.1, hM2]
                  have h1 := (eqStB_iff _ _).1 (stTd' ⟨M, hM⟩ ⟨j, hj7⟩)
                  rw [h1]
                  dsimp only
                  rw [← HIN.out]
                  rfl)
                rw [show s1.cells a = #[.int .i64 s1.broker, .int .i64 s1.nextId, .int .i64 s1.nextSeq, .int .i64 s1.tx, .slice a.m s1.ms.length a.cm, .slice a.w s1.waits.length a.cw, .slice a.e s1.ends.length a.ce, .slice a.o s1.open_.length a.co, .slice a.n s1.noes.length a.cn] from rfl, show (rtT (p : Int)).cells (some ⟨pb, 0, none⟩) 1 none 0 = #[.int .i64 9, .int .i64 4294967297, .int .i64 0, .bool false, .slice (some ⟨pb, 0, none⟩) 1 1, .slice none 0 0] from rfl] at C
                have HMM := Lib.hid hM2
                have C1 := Lib.hid C
                have hh := BX3.out.head
                rw [show s1.cells a = #[.int .i64 s1.broker, .int .i64 s1.nextId, .int .i64 s1.nextSeq, .int .i64 s1.tx, .slice a.m s1.ms.length a.cm, .slice a.w s1.waits.length a.cw, .slice a.e s1.ends.length a.ce, .slice a.o s1.open_.length a.co, .slice a.n s1.noes.length a.cn] from rfl] at hh
                obtain ⟨c0, c1, c2, c3, c4, c5, c6, c7, c8⟩ := nine_of hh
                obtain ⟨m0', m1', m2', m3', m4', m5'⟩ := six_of10 RB3.out
                clear C hh hs2 hM2
                go_wp2_with fail
                clear c0 c1 c2 c3 c4 c5 c6 c7 c8 m0' m1' m2' m3' m4' m5'
                refine C1.out.mono ?_
                rintro e x4 ⟨a4, LWa4, LOa4, LNa4, rfl, rA, tA⟩
                have BX := Lib.hid (BX3.out.still tA)
                have sx := bx_store2 BX.out rA HMay2.out
                have SX : Hid (Bx (((((((((x4.setCell ⟨b, 0, none⟩ (.int .i64 s2.broker)).setCell ⟨b, 1, none⟩ (.int .i64 s2.nextId)).setCell ⟨b, 2, none⟩ (.int .i64 s2.nextSeq)).setCell ⟨b, 3, none⟩ (.int .i64 s2.tx)).setCell ⟨b, 4, none⟩ (.slice a4.m s2.ms.length a4.cm)).setCell ⟨b, 5, none⟩ (.slice a4.w s2.waits.length a4.cw)).setCell ⟨b, 6, none⟩ (.slice a4.e s2.ends.length a4.ce)).setCell ⟨b, 7, none⟩ (.slice a4.o s2.open_.length a4.co)).setCell ⟨b, 8, none⟩ (.slice a4.n s2.noes.length a4.cn)) b a4 s2 ∧ Turn [b] x4 (((((((((x4.setCell ⟨b, 0, none⟩ (.int .i64 s2.broker)).setCell ⟨b, 1, none⟩ (.int .i64 s2.nextId)).setCell ⟨b, 2, none⟩ (.int .i64 s2.nextSeq)).setCell ⟨b, 3, none⟩ (.int .i64 s2.tx)).setCell ⟨b, 4, none⟩ (.slice a4.m s2.ms.length a4.cm)).setCell ⟨b, 5, none⟩ (.slice a4.w s2.waits.length a4.cw)).setCell ⟨b, 6, none⟩ (.slice a4.e s2.ends.length a4.ce)).setCell ⟨b, 7, none⟩ (.slice a4.o s2.open_.length a4.co)).setCell ⟨b, 8, none⟩ (.slice a4.n s2.noes.length a4.cn)) ∧ Rows (((((((((x4.setCell ⟨b, 0, none⟩ (.int .i64 s2.broker)).setCell ⟨b, 1, none⟩ (.int .i64 s2.nextId)).setCell ⟨b, 2, none⟩ (.int .i64 s2.nextSeq)).setCell ⟨b, 3, none⟩ (.int .i64 s2.tx)).setCell ⟨b, 4, none⟩ (.slice a4.m s2.ms.length a4.cm)).setCell ⟨b, 5, none⟩ (.slice a4.w s2.waits.length a4.cw)).setCell ⟨b, 6, none⟩ (.slice a4.e s2.ends.length a4.ce)).setCell ⟨b, 7, none⟩ (.slice a4.o s2.open_.length a4.co)).setCell ⟨b, 8, none⟩ (.slice a4.n s2.noes.length a4.cn)) x3.heap.size s2 a4 LWa4 LOa4 LNa4) := Lib.hid sx
                have TX := Lib.hid tA
                have hh := BX.out.head
                rw [show s1.cells a = #[.int .i64 s1.broker, .int .i64 s1.nextId, .int .i64 s1.nextSeq, .int .i64 s1.tx, .slice a.m s1.ms.length a.cm, .slice a.w s1.waits.length a.cw, .slice a.e s1.ends.length a.ce, .slice a.o s1.open_.length a.co, .slice a.n s1.noes.length a.cn] from rfl] at hh
                obtain ⟨c0, c1, c2, c3, c4, c5, c6, c7, c8⟩ := nine_of hh
                have f0 : ∀ j, x4.frozen? ⟨b, j, none⟩ = false := fun j => unfrozen_of hh
                rw [show s2.cells a4 = #[.int .i64 s2.broker, .int .i64 s2.nextId, .int .i64 s2.nextSeq, .int .i64 s2.tx, .slice a4.m s2.ms.length a4.cm, .slice a4.w s2.waits.length a4.cw, .slice a4.e s2.ends.length a4.ce, .slice a4.o s2.open_.length a4.co, .slice a4.n s2.noes.length a4.cn] from rfl]
                clear C1 sx rA tA hh BX3
                go_upto_region 29 with fail
                clear c0 c1 c2 c3 c4 c5 c6 c7 c8 f0 BX
                generalize hy : (((((((((x4.setCell ⟨b, 0, none⟩ (.int .i64 s2.broker)).setCell ⟨b, 1, none⟩ (.int .i64 s2.nextId)).setCell ⟨b, 2, none⟩ (.int .i64 s2.nextSeq)).setCell ⟨b, 3, none⟩ (.int .i64 s2.tx)).setCell ⟨b, 4, none⟩ (.slice a4.m s2.ms.length a4.cm)).setCell ⟨b, 5, none⟩ (.slice a4.w s2.waits.length a4.cw)).setCell ⟨b, 6, none⟩ (.slice a4.e s2.ends.length a4.ce)).setCell ⟨b, 7, none⟩ (.slice a4.o s2.open_.length a4.co)).setCell ⟨b, 8, none⟩ (.slice a4.n s2.noes.length a4.cn)) = yB at *
                clear hy
                have T0 : Hid (Turn [] wr x4) := Lib.hid ((TA.out.trans T3.out (by simp)).trans TX.out (by simp))
                have HCB : Hid (yB.heap[q]? = some (.cells C 63)) := Lib.hid (SX.out.2.1.heap (T0.out.heap HC.out (by simp)) (by have := HQ.out; simp; omega))
                have HLB : Hid (∀ k, k < nl → ∃ g o, al = some ⟨g, o, none⟩ ∧ g < b ∧ yB.cell? ⟨g, o + k, none⟩ = some (.int .i64 (L.getD k 0))) := Lib.hid (fun k hk => by
                  obtain ⟨g, o, e1, hg, hc⟩ := HLC.out k hk
                  exact ⟨g, o, e1, hg, SX.out.2.1.cell (T0.out.cell hc (by simp)) (by simp; omega)⟩)
                have TB : Hid (Turn [] w yB) := Lib.hid ((HT.out.trans T0.out (by simp)).trans SX.out.2.1 (fun i hi => .inr (by have := HQ.out; simp at hi; omega)))
                have HSB : Hid (q < yB.heap.size) := Lib.hid (lt_of_heap HCB.out)
                have BB := Lib.hid SX.out.1
                have RR := Lib.hid SX.out.2.2
                have HLO2 : Hid (q < x3.heap.size) := Lib.hid (by have h1 := (TA.out.trans T3.out (by simp)).size; have := HQW.out; omega)
                clear SX TX T0 HLC HC HT TA T3
                have HCC2 : Hid (∀ j : Fin 7, C[j.1 + 2]? = some (.bool (Nat.testBit m0 j.1 && !Nat.testBit M2 j.1))) := Lib.hid (by rw [HMM.out]; exact HCC.out)
                have HSU2 : Hid (∀ j : Fin 7, Nat.testBit M2 j.1 = true → Nat.testBit m0 j.1 = true) := Lib.hid (by rw [HMM.out]; exact HSUB.out)
                go_upto_region 32 with fail
                have hh := BB.out.head
                rw [show s2.cells a4 = #[.int .i64 s2.broker, .int .i64 s2.nextId, .int .i64 s2.nextSeq, .int .i64 s2.tx, .slice a4.m s2.ms.length a4.cm, .slice a4.w s2.waits.length a4.cw, .slice a4.e s2.ends.length a4.ce, .slice a4.o s2.open_.length a4.co, .slice a4.n s2.noes.length a4.cn] from rfl] at hh
                obtain ⟨c0, c1, c2, c3, c4, c5, c6, c7, c8⟩ := nine_of hh
                obtain ⟨n2, hn2⟩ : ∃ n, n = s2.noes.length := ⟨_, rfl⟩
                rw [← hn2] at c8
                clear hh c0 c1 c2 c3 c4 c5 c6 c7
                by_cases hz : remT M2 = []
                · have e1 : n2 = 0 := by rw [hn2, HS2.out, hz]; rfl
                  have e2 : lm = 0 := by rw [HLMM.out, hz]; rfl
                  subst e1 e2
                  clear hn2 hz
                  go_wp2_with fail
                  go_roundw
                  case rel => exact ⟨i + 1, M2, a4, C, _, _, _, _, rfl, rfl, rfl, rfl, by go_num, by omega, by omega, HM2.out, by rw [← HLMM.out], (by rw [← HS2.out]; exact BB.out), HCB.out, HCC2.out, HSU2.out, HLB.out, TB.out, HSB.out⟩
                  case measure => simp [intOf]; omega
                · have hsn : s2.noes = [⟨4294967297, remT M2⟩] := by
                    rw [HS2.out]
                    cases hr : remT M2 with
                    | nil => exact absurd hr hz
                    | cons x y => rfl
                  have e1 : n2 = 1 := by rw [hn2, hsn]; rfl
                  have hlp : 0 < lm := by rw [HLMM.out]; exact List.length_pos_iff.2 hz
                  have hd1 : decide (0 < lm) = true := decide_eq_true hlp
                  have hd2 : decide ((lm : Int) > 0) = true := decide_eq_true (by omega)
                  obtain ⟨LNN, hLN, hTT, -⟩ := BB.out.is.noes
                  have hl0 : ∃ y2, LNN[0]? = some y2 ∧ y2.v = ⟨4294967297, remT M2⟩ := by
                    rw [hsn] at hLN
                    cases LNN with
                    | nil => simp at hLN
                    | cons y2 l2 => simp at hLN; exact ⟨y2, rfl, hLN.1⟩
                  obtain ⟨y2', hy2', hv2⟩ := hl0
                  obtain ⟨g2, o2, eg2, hat2⟩ := hTT.at hy2'
                  have z1 := hat2 1 (.slice y2'.ao y2'.v.parts.length y2'.c) rfl
                  rw [show y2'.v.parts.length = lm by rw [hv2, HLMM.out], Nat.zero_mul, Nat.add_zero] at z1
                  subst e1
                  rw [eg2] at c8
                  obtain ⟨ya, hya⟩ : ∃ x, x = y2'.ao := ⟨_, rfl⟩
                  obtain ⟨yc, hyc⟩ : ∃ x, x = y2'.c := ⟨_, rfl⟩
                  rw [← hya, ← hyc] at z1
                  clear hn2 hz hsn hLN hTT hat2 hv2 hy2' hya hyc
                  go_wp2_with fail
                  go_roundw
                  case rel => exact ⟨i + 1, M2, a4, C, _, _, _, _, rfl, rfl, rfl, rfl, by go_num, by omega, by omega, HM2.out, by rw [← HLMM.out], (by rw [← HS2.out]; exact BB.out), HCB.out, HCC2.out, HSU2.out, HLB.out, TB.out, HSB.out⟩
                  case measure => simp [intOf]; omega
        · have hh := HBX.out.head
          rw [show s1.cells a = #[.int .i64 s1.broker, .int .i64 s1.nextId, .int .i64 s1.nextSeq, .int .i64 s1.tx, .slice a.m s1.ms.length a.cm, .slice a.w s1.waits.length a.cw, .slice a.e s1.ends.length a.ce, .slice a.o s1.open_.length a.co, .slice a.n s1.noes.length a.cn] from rfl] at hh
          obtain ⟨c0, c1, c2, c3, c4, c5, c6, c7, c8⟩ := nine_of hh
          obtain ⟨g2, o2, e2, hat⟩ := HBX.out.is.ends.at (i := 0) (x := ⟨4294967297, false⟩) (by rw [HS1.out]; rfl)
          have z1 := hat 1 (.bool false) rfl
          rw [Nat.zero_mul, Nat.add_zero] at z1
          rw [show s1.ends.length = 1 by rw [HS1.out]; rfl, e2] at c6
          clear hh hat c0 c1 c2 c3 c4 c5 c7 c8
          by_cases q0 : i < R.length
          · have q2 : ¬ i < 20 := by omega
            clear q1
            go_wp2_with fail
            go_ret
            exact ⟨rfl, HT.out.belowAll⟩
          · clear q1
            go_wp2_with fail
            go_ret
            exact ⟨rfl, HT.out.belowAll⟩
end Go.Proofs.YtjhlfjgfohoflaaGreat

/-
  The law 'postillionlaw10.StoreTold' answers true at every input, and each argument reads behind the call as it read before: for every input, no condition; the frame round the walk 'storeTold_walk'.
-/
namespace Go.Proofs.YtjhlfjgfohoflaaGreat.storeTold
open Go.ChangeShapes Go.WideShapes Go.ChangeAt Go.RowKit
open Go.ChangeMaps (open_string shut_string)
set_option linter.unusedVariables false

theorem own : ownKnob Tryz.prog.godebug = none := by kernel_rfl
theorem laidOut : laidOutB Tryz.prog = true := closed.p_laidOutB

set_option maxRecDepth 100000 in
theorem lifted (os : Os) (started : os.Started) (H : Type) (enc : TypeId × Value → H) :
    ReturnsInHanded {} Tryz.checked os 12 .any (Rows.storeToldSpec.pre6 enc Tryz.prog Tryz.f12 Rows.storeToldRow.domain false) (Rows.storeToldSpec.post enc Tryz.prog Tryz.f12 false true false false) := by
  refine returnsInHanded_of_change (C := Tryz.checked) own started (by kernel_rfl) Tryz.func12
    (ChangeSpec.witness6 (enc := enc) (C := Tryz.checked) false ⟨#[], #[.slice none 0 0, .slice none 0 0], []⟩ 8 (by kernel_rfl) (by kernel_rfl) (by kernel_rfl) (by kernel_rfl)) ?_
  intro W base args ds gs before hval0 hW hcnd _
  have hval : ∀ (j : Nat) t v, Tryz.f12.params[j]? = some t → args[j]? = some v → Value.okWide Tryz.prog W .any base t v := hval0
  have hW' := hW
  obtain ⟨p, q, hA0, hV, rfl, hfz, hnd⟩ := hW
  have hA : DataW.TrodAll enc Tryz.prog W 0 (fun _ => true) true Tryz.f12.params.toList args.toList ds p := hA0
  rw [Tryz.params12] at hA hval
  obtain ⟨v0, vs0, d0, ds0, p0, q0, hargs, rfl, rfl, h0, r0⟩ := trodAll_cons hA
  obtain ⟨v1, vs1, d1, ds1, p1, q1, rfl, rfl, rfl, h1, r1⟩ := trodAll_cons r0
  obtain ⟨rfl, rfl, rfl⟩ := trodAll_nil r1
  obtain rfl : args = #[v0, v1] := by cases args; simp_all
  obtain ⟨rfl, rfl⟩ := trodVars_none hV
  obtain ⟨a0, len0, cap0, rfl⟩ := okWide_slice Tryz.underlying47 (hval 0 47 v0 rfl rfl)
  have k0 := h0
  have lt0 : ∀ x ∈ p0, x.block < W.heap.size := by obtain ⟨m, hm⟩ := k0; exact DataW.trod_lt m _ _ _ hm
  obtain ⟨l0, rfl, w0⟩ := open_truths h0
  obtain ⟨a1, len1, cap1, rfl⟩ := okWide_slice Tryz.underlying34 (hval 1 34 v1 rfl rfl)
  have k1 := h1
  have lt1 : ∀ x ∈ p1, x.block < W.heap.size := by obtain ⟨m, hm⟩ := k1; exact DataW.trod_lt m _ _ _ hm
  obtain ⟨l1, rfl, w1⟩ := open_nums h1
  clear hA0 hval0
  refine (storeTold_walk (w := W) a0 cap0 l0 w0 a1 cap1 l1 w1).mono fun e W' ⟨he, bel⟩ => ?_
  subst he
  exact ⟨_, rfl, _, _, _, [], _, [], hW', trodAll_mk1 (shut_bool Tryz.underlying4 _), (trodAll_cons_mk (Below.trod laidOut (by kernel_rfl) (of_decide_eq_true (by kernel_rfl)) k0 bel lt0) (trodAll_cons_mk (Below.trod laidOut (by kernel_rfl) (of_decide_eq_true (by kernel_rfl)) k1 bel lt1) trodAll_mk0)), rfl, bel.frame _, fun h => by cases h⟩

theorem closed0 : (Rows.storeToldRow.wf (OpenSpec.ofChange Rows.storeToldSpec) : Bool) = true := by kernel_rfl

theorem closed3 : (Tryz.f12.params.all (Tryz.prog.readableRec ·) : Bool) = true := by kernel_rfl

theorem closed4 : (namedTie Tryz.prog Rows.storeToldRow.named Rows.storeToldSpec.vars : Bool) = true := by kernel_rfl

theorem closed5 : ((Rows.storeToldRow.stops == []) : Bool) = true := by kernel_rfl

theorem closed7 : ((Rows.storeToldRow.knobs == []) : Bool) = true := by kernel_rfl

theorem closed9 : ((Rows.storeToldRow.inPlace == Tryz.prog.inPlace 12) : Bool) = true := by kernel_rfl

theorem closed10 : ((Rows.storeToldRow.unfollowed == Tryz.prog.unfollowed 12) : Bool) = true := by kernel_rfl

theorem closed11 : ((Rows.storeToldRow.recurses == Tryz.prog.recurses 12) : Bool) = true := by kernel_rfl

theorem closed12 : ((Rows.storeToldRow.named == Tryz.prog.varsNamed 12) : Bool) = true := by kernel_rfl

theorem closed13 : ((Rows.storeToldRow.maps == (Tryz.f12.params.toList ++ Rows.storeToldSpec.plain.varTypes Tryz.prog).any (Tryz.prog.mapsRec ·)) : Bool) = true := by kernel_rfl

theorem closed14 : ((Rows.storeToldRow.ifaces == (Tryz.f12.params.toList ++ Rows.storeToldSpec.plain.varTypes Tryz.prog).any (Tryz.prog.ifacesRec ·)) : Bool) = true := by kernel_rfl

theorem closed15 : ((Rows.storeToldRow.mapsOut == Tryz.prog.mapsAmong Tryz.f12.resultTypes.toList) : Bool) = true := by kernel_rfl

theorem closed16 : ((Rows.storeToldRow.loops == (Tryz.f12.params.toList ++ Rows.storeToldSpec.plain.varTypes Tryz.prog).any (Tryz.prog.loopsFrom ·)) : Bool) = true := by kernel_rfl

theorem closed17 : ((Rows.storeToldRow.wideKeys == (Tryz.f12.params.toList ++ Rows.storeToldSpec.plain.varTypes Tryz.prog ++ Tryz.f12.resultTypes.toList).any (Tryz.prog.wideKeysFrom ·)) : Bool) = true := by kernel_rfl

theorem closed18 : (Rows.storeToldSpec.vars.all (Tryz.prog.varReadable ·) : Bool) = true := by kernel_rfl

theorem closed19 : (Tryz.f12.resultTypes.all (fun t => Tryz.prog.readableRec t && decide (t < Tryz.prog.types.size)) : Bool) = true := by kernel_rfl

theorem closed20 : ((Rows.storeToldRow.ifacesOut == Tryz.f12.resultTypes.toList.any (Tryz.prog.ifacesRec ·)) : Bool) = true := by kernel_rfl

theorem closed21 : ((Rows.storeToldRow.loopsOut == Tryz.f12.resultTypes.toList.any (Tryz.prog.loopsFrom ·)) : Bool) = true := by kernel_rfl

theorem closed22 : ((Rows.storeToldRow.plainKeys == Tryz.prog.plainKeys) : Bool) = true := by show (_ == _) = true; rw [closed.plainKeys_is]; kernel_rfl

theorem closed23 : (Rows.storeToldRow.shortTexts.isNone : Bool) = true := by kernel_rfl

theorem closed26 : ((Rows.storeToldRow.lifted == Tryz.prog.liftsFinal) : Bool) = true := by show (_ == _) = true; rw [closed.lifted_is]; kernel_rfl

theorem closed27 : ((Tryz.prog.make == some Rows.storeToldRow.make) : Bool) = true := by show (_ == _) = true; rw [closed.make_is]; kernel_rfl

theorem closed28 : ((Rows.storeToldRow.kinds == (if Rows.storeToldRow.domain.isEmpty then [] else Tryz.f12.params.toList.map fun t => match Tryz.prog.underlying t with | some (.int k) => some k | _ => none)) : Bool) = true := by kernel_rfl

theorem closed29 : ((Rows.storeToldRow.pinned == Rows.storeToldRow.pinnedBy) : Bool) = true := by kernel_rfl

theorem closed30 : ((Rows.storeToldRow.veiled == (Tryz.f12.params.toList ++ Rows.storeToldSpec.plain.varTypes Tryz.prog ++ Tryz.f12.resultTypes.toList).any (Tryz.prog.veiledRec ·)) : Bool) = true := by kernel_rfl

theorem closed31 : (Rows.storeToldRow.veiledFits Tryz.prog Tryz.f12.params.toList (Tryz.f12.params.toList ++ Rows.storeToldSpec.plain.varTypes Tryz.prog ++ Tryz.f12.resultTypes.toList) : Bool) = true := by kernel_rfl

set_option maxRecDepth 100000 in
theorem closedAll : joinedFacts Tryz.prog 12 Tryz.f12 Rows.storeToldSpec Rows.storeToldRow = true :=
  joinMk.joined_mk closed0 closed.p_laidOutB closed.p_mapsRowed closed3 closed4 closed5 closed.p_stops closed7 closed.p_stopKnobs closed9 closed10 closed11 closed12 closed13 closed14 closed15 closed16 closed17 closed18 closed19 closed20 closed21 closed22 closed23 closed.p_stopsHeard closed.p_mayEnter closed26 closed27 closed28 closed29 closed30 closed31

theorem over : Rows.storeToldRow.holds Tryz.pinned (OpenSpec.ofChange Rows.storeToldSpec) :=
  OpenClaim.holds_of_wide 12 Tryz.f12 rfl rfl rfl rfl rfl rfl rfl ⟨rfl, rfl, rfl, rfl, rfl⟩ rfl rfl rfl rfl rfl (by kernel_rfl) Tryz.func12 closedAll
    (of_decide_eq_true (by kernel_rfl)) (by unfold Func.isWrapper; first | (rw [if_pos (by decide +kernel)]; kernel_rfl) | (rw [if_neg (by decide +kernel)]; exact ⟨rfl, rfl⟩))
    (fun os started H enc _ => lifted os started H enc)

/-- The statement. -/
theorem proved : Rows.StoreToldSaid := over
end Go.Proofs.YtjhlfjgfohoflaaGreat.storeTold
