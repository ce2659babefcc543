/-
  Of the texts StoreCountsWalk StoreCounts, in build order, each as it was built alone.
-/
import Derived.Test.YtjhlfjgfohoflaaGreatPkBD
import Derived.Test.YtjhlfjgfohoflaaGreatPkBE
import Derived.Test.YtjhlfjgfohoflaaGreatPkAO
import Derived.Test.YtjhlfjgfohoflaaGreatRows
import Derived.ProofKit
import Derived.OpenShut
import Derived.ShutString
import Derived.ChangeOld
import Derived.Below

/-
  The walk of the law StoreCounts.
-/
namespace Go.Proofs.YtjhlfjgfohoflaaGreat
open Go.RowKit Go.Proofs.YtjhlfjgfohoflaaGreat.V

theorem cells_1C (a : Ads) : s1C.cells a = #[.int .i64 1, .int .i64 1, .int .i64 1, .int .i64 0, .slice a.m 0 a.cm, .slice a.w 1 a.cw, .slice a.e 0 a.ce, .slice a.o 0 a.co, .slice a.n 0 a.cn] := rfl
theorem cells_C0 (k : Nat) (a : Ads) : (sC0 k).cells a = #[.int .i64 1, .int .i64 2, .int .i64 2, .int .i64 0, .slice a.m 1 a.cm, .slice a.w 0 a.cw, .slice a.e (k + 1) a.ce, .slice a.o 0 a.co, .slice a.n 0 a.cn] := by simp [StV.cells, sC0, eK]
theorem cells_CA (k : Nat) (a : Ads) : (sCA k).cells a = #[.int .i64 1, .int .i64 2, .int .i64 2, .int .i64 0, .slice a.m 1 a.cm, .slice a.w 0 a.cw, .slice a.e (k + 1) a.ce, .slice a.o 0 a.co, .slice a.n 0 a.cn] := by simp [StV.cells, sCA, eK]
theorem cells_CP (k : Nat) (a : Ads) : (sCP k).cells a = #[.int .i64 1, .int .i64 2, .int .i64 2, .int .i64 0, .slice a.m 1 a.cm, .slice a.w 1 a.cw, .slice a.e (k + 1) a.ce, .slice a.o 0 a.co, .slice a.n 0 a.cn] := by simp [StV.cells, sCP, eK]
theorem cells_CZ (k : Nat) (a : Ads) : (sCZ k).cells a = #[.int .i64 1, .int .i64 2, .int .i64 2, .int .i64 0, .slice a.m 0 a.cm, .slice a.w 0 a.cw, .slice a.e (k + 2) a.ce, .slice a.o 0 a.co, .slice a.n 0 a.cn] := by simp [StV.cells, sCZ, eK]

set_option maxHeartbeats 16000000 in
set_option maxRecDepth 100000 in
theorem storeCounts_walk {w : World} (ao : Option Addr) (c : Nat) (l : List Bool) (hl : Bl w ao c l) : Calls Tryz.prog 7 #[.slice ao l.length c] w fun e w' => e = .returned (.bool true) ∧ Below w.heap.size w w' := by
  have CB := Lib.hid (begun10_calls w)
  have HL := Lib.hid hl
  have hlen := hl.len
  clear hl
  go_enter Tryz.func7, Tryz.ntmps7
  go_wp2_with fail
  refine CB.out.mono ?_
  rintro e x1 ⟨rfl, t1⟩
  have CN := Lib.hid (stNew_calls 1 x1)
  rw [newN] at CN
  have T1 := Lib.hid t1
  obtain ⟨aN, haN⟩ : ∃ a, a = noAds := ⟨_, rfl⟩
  rw [← haN] at CN
  clear haN t1 CB
  go_wp2_with fail
  refine CN.out.mono ?_
  rintro e xN ⟨rfl, isN, tN⟩
  have nb := Bx.new isN
  rw [cells_N] at nb
  have ta := Turn.alloc [] xN (.cells #[.int .i64 1, .int .i64 1, .int .i64 1, .int .i64 0, .slice aN.m 0 aN.cm, .slice aN.w 0 aN.cw, .slice aN.e 0 aN.ce, .slice aN.o 0 aN.co, .slice aN.n 0 aN.cn] 27)
  have TN := Lib.hid ((T1.out.trans tN (by simp)).trans ta (by simp))
  have BN := Lib.hid nb
  rw [cells_N]
  have HS : Hid (w.heap.size ≤ xN.heap.size) := Lib.hid (T1.out.trans tN (by simp)).size
  clear nb ta isN tN T1 CN
  go_upto_region 5 with fail
  generalize hy : xN.alloc (.cells #[.int .i64 1, .int .i64 1, .int .i64 1, .int .i64 0, .slice aN.m 0 aN.cm, .slice aN.w 0 aN.cw, .slice aN.e 0 aN.ce, .slice aN.o 0 aN.co, .slice aN.n 0 aN.cn] 27) = yN at *
  have hsN : yN.heap.size = xN.heap.size + 1 := by rw [← hy]; simp
  clear hy
  have HB := Lib.hid (show w.heap.size ≤ xN.heap.size from HS.out)
  have ht := Turn.alloc [] yN (.cells #[.string ⟨#[113]⟩, .string ⟨#[98]⟩] 45)
  have hq := ps_new yN (qT, bT) (by decide +kernel) (by decide +kernel)
  rw [hsN] at hq
  have C := apply_rows (BN.out.is.still ht) mN rcP none (some ⟨xN.heap.size + 1, 0, none⟩) 0 1 (il_none _) hq (by unfold okI rcP; decide) (by unfold okI rcP; decide) st1C
  rw [cells_N, show rcP.cells none 0 (some ⟨xN.heap.size + 1, 0, none⟩) 1 = #[.int .i64 4, .int .i64 8589934593, .int .i64 0, .bool false, .slice none 0 0, .slice (some ⟨xN.heap.size + 1, 0, none⟩) 1 1] from rfl] at C
  have C1 := Lib.hid C
  have hh := BN.out.head
  rw [cells_N] at hh
  obtain ⟨c0, c1, c2, c3, c4, c5, c6, c7, c8⟩ := nine_of hh
  clear C hh hq
  go_wp2_with fail
  clear c0 c1 c2 c3 c4 c5 c6 c7 c8
  refine C1.out.mono ?_
  rintro e xA ⟨aA, LW, LO, LN, rfl, rA, tA⟩
  have BX := Lib.hid (BN.out.still (ht.trans tA (by simp)))
  have sx := bx_store BX.out rA m1C
  have SX : Hid (Bx (((((((((xA.setCell ⟨xN.heap.size, 0, none⟩ (.int .i64 1)).setCell ⟨xN.heap.size, 1, none⟩ (.int .i64 1)).setCell ⟨xN.heap.size, 2, none⟩ (.int .i64 1)).setCell ⟨xN.heap.size, 3, none⟩ (.int .i64 0)).setCell ⟨xN.heap.size, 4, none⟩ (.slice aA.m 0 aA.cm)).setCell ⟨xN.heap.size, 5, none⟩ (.slice aA.w 1 aA.cw)).setCell ⟨xN.heap.size, 6, none⟩ (.slice aA.e 0 aA.ce)).setCell ⟨xN.heap.size, 7, none⟩ (.slice aA.o 0 aA.co)).setCell ⟨xN.heap.size, 8, none⟩ (.slice aA.n 0 aA.cn)) xN.heap.size aA s1C ∧ Turn [xN.heap.size] xA (((((((((xA.setCell ⟨xN.heap.size, 0, none⟩ (.int .i64 1)).setCell ⟨xN.heap.size, 1, none⟩ (.int .i64 1)).setCell ⟨xN.heap.size, 2, none⟩ (.int .i64 1)).setCell ⟨xN.heap.size, 3, none⟩ (.int .i64 0)).setCell ⟨xN.heap.size, 4, none⟩ (.slice aA.m 0 aA.cm)).setCell ⟨xN.heap.size, 5, none⟩ (.slice aA.w 1 aA.cw)).setCell ⟨xN.heap.size, 6, none⟩ (.slice aA.e 0 aA.ce)).setCell ⟨xN.heap.size, 7, none⟩ (.slice aA.o 0 aA.co)).setCell ⟨xN.heap.size, 8, none⟩ (.slice aA.n 0 aA.cn))) := Lib.hid sx
  have TX := Lib.hid (TN.out.trans (ht.trans tA (by simp)) (by simp))
  have hh := BX.out.head
  rw [cells_N] at hh
  obtain ⟨c0, c1, c2, c3, c4, c5, c6, c7, c8⟩ := nine_of hh
  have f0 : ∀ j, xA.frozen? ⟨xN.heap.size, j, none⟩ = false := fun j => unfrozen_of hh
  rw [cells_1C]
  clear ht C1 sx rA tA hh BN TN
  go_upto_region 6 with fail
  clear c0 c1 c2 c3 c4 c5 c6 c7 c8 f0 BX
  generalize hy : (((((((((xA.setCell ⟨xN.heap.size, 0, none⟩ (.int .i64 1)).setCell ⟨xN.heap.size, 1, none⟩ (.int .i64 1)).setCell ⟨xN.heap.size, 2, none⟩ (.int .i64 1)).setCell ⟨xN.heap.size, 3, none⟩ (.int .i64 0)).setCell ⟨xN.heap.size, 4, none⟩ (.slice aA.m 0 aA.cm)).setCell ⟨xN.heap.size, 5, none⟩ (.slice aA.w 1 aA.cw)).setCell ⟨xN.heap.size, 6, none⟩ (.slice aA.e 0 aA.ce)).setCell ⟨xN.heap.size, 7, none⟩ (.slice aA.o 0 aA.co)).setCell ⟨xN.heap.size, 8, none⟩ (.slice aA.n 0 aA.cn)) = yA at *
  clear hy
  have BN := Lib.hid SX.out.1
  have TN := Lib.hid (TX.out.trans SX.out.2 (fun i hi => .inr (by have := HB.out; simp at hi; omega)))
  clear SX TX
  have ht := Turn.refl [] yA
  have C := apply_rows (BN.out.is.still ht) m1C rcD none none 0 0 (il_none _) (ps_none _) (by unfold okI rcD; decide) (by unfold okI rcD; decide) st2C
  rw [cells_1C, show rcD.cells none 0 none 0 = #[.int .i64 5, .int .i64 8589934593, .int .i64 0, .bool true, .slice none 0 0, .slice none 0 0] from rfl] at C
  have C1 := Lib.hid C
  have hh := BN.out.head
  rw [cells_1C] at hh
  obtain ⟨c0, c1, c2, c3, c4, c5, c6, c7, c8⟩ := nine_of hh
  clear C hh
  go_wp2_with fail
  clear c0 c1 c2 c3 c4 c5 c6 c7 c8
  refine C1.out.mono ?_
  rintro e xB ⟨aB, LW, LO, LN, rfl, rA, tA⟩
  have BX := Lib.hid (BN.out.still (ht.trans tA (by simp)))
  have sx := bx_store BX.out rA (mC0 (Nat.zero_le _))
  have SX : Hid (Bx (((((((((xB.setCell ⟨xN.heap.size, 0, none⟩ (.int .i64 1)).setCell ⟨xN.heap.size, 1, none⟩ (.int .i64 2)).setCell ⟨xN.heap.size, 2, none⟩ (.int .i64 2)).setCell ⟨xN.heap.size, 3, none⟩ (.int .i64 0)).setCell ⟨xN.heap.size, 4, none⟩ (.slice aB.m 1 aB.cm)).setCell ⟨xN.heap.size, 5, none⟩ (.slice aB.w 0 aB.cw)).setCell ⟨xN.heap.size, 6, none⟩ (.slice aB.e (0 + 1) aB.ce)).setCell ⟨xN.heap.size, 7, none⟩ (.slice aB.o 0 aB.co)).setCell ⟨xN.heap.size, 8, none⟩ (.slice aB.n 0 aB.cn)) xN.heap.size aB (sC0 0) ∧ Turn [xN.heap.size] xB (((((((((xB.setCell ⟨xN.heap.size, 0, none⟩ (.int .i64 1)).setCell ⟨xN.heap.size, 1, none⟩ (.int .i64 2)).setCell ⟨xN.heap.size, 2, none⟩ (.int .i64 2)).setCell ⟨xN.heap.size, 3, none⟩ (.int .i64 0)).setCell ⟨xN.heap.size, 4, none⟩ (.slice aB.m 1 aB.cm)).setCell ⟨xN.heap.size, 5, none⟩ (.slice aB.w 0 aB.cw)).setCell ⟨xN.heap.size, 6, none⟩ (.slice aB.e (0 + 1) aB.ce)).setCell ⟨xN.heap.size, 7, none⟩ (.slice aB.o 0 aB.co)).setCell ⟨xN.heap.size, 8, none⟩ (.slice aB.n 0 aB.cn))) := Lib.hid sx
  have TX := Lib.hid (TN.out.trans (ht.trans tA (by simp)) (by simp))
  have hh := BX.out.head
  rw [cells_1C] at hh
  obtain ⟨c0, c1, c2, c3, c4, c5, c6, c7, c8⟩ := nine_of hh
  have f0 : ∀ j, xB.frozen? ⟨xN.heap.size, j, none⟩ = false := fun j => unfrozen_of hh
  rw [cells_C0]
  clear ht C1 sx rA tA hh BN TN
  go_upto_region 7 with fail
  clear c0 c1 c2 c3 c4 c5 c6 c7 c8 f0 BX
  generalize hy : (((((((((xB.setCell ⟨xN.heap.size, 0, none⟩ (.int .i64 1)).setCell ⟨xN.heap.size, 1, none⟩ (.int .i64 2)).setCell ⟨xN.heap.size, 2, none⟩ (.int .i64 2)).setCell ⟨xN.heap.size, 3, none⟩ (.int .i64 0)).setCell ⟨xN.heap.size, 4, none⟩ (.slice aB.m 1 aB.cm)).setCell ⟨xN.heap.size, 5, none⟩ (.slice aB.w 0 aB.cw)).setCell ⟨xN.heap.size, 6, none⟩ (.slice aB.e (0 + 1) aB.ce)).setCell ⟨xN.heap.size, 7, none⟩ (.slice aB.o 0 aB.co)).setCell ⟨xN.heap.size, 8, none⟩ (.slice aB.n 0 aB.cn)) = yB at *
  clear hy
  have BN := Lib.hid SX.out.1
  have TN := Lib.hid (TX.out.trans SX.out.2 (fun i hi => .inr (by have := HB.out; simp at hi; omega)))
  clear SX TX
  go_wp2_with fail
  obtain ⟨b, hb⟩ : ∃ b, b = xN.heap.size := ⟨_, rfl⟩
  rw [← hb] at BN HB ⊢
  clear hb hsN
  go_loopw [5, 6, 7, 8] (fun v5 v6 v7 v8 wx => ∃ (k cn : Nat) (g : Bool) (a : Ads) (s : StV) (u8 : Value), u8 = v8 ∧ v5 = .int .i64 (cn : Int) ∧ v6 = .bool g ∧ v7 = .int .i64 (k : Int) ∧ k ≤ l.length ∧ k ≤ 20 ∧ Bx wx b a s ∧ Turn [] w wx ∧ (g = false → s = sC0 k ∧ cn = k) ∧ (g = true → s.ms = [])) (fun _ _ v7 _ _ => l.length - (intOf v7).toNat)
  case atStart => exact ⟨0, 0, false, _, _, _, rfl, rfl, rfl, rfl, by omega, by omega, BN.out, TN.out, fun _ => ⟨rfl, rfl⟩, by simp⟩
  case round =>
    obtain ⟨k, cn, g, a, s, u8, rfl, rfl, rfl, rfl, hk, hk2, hbx, ht, h1, h2⟩ := hrel
    have HT := Lib.hid ht
    have HX := Lib.hid hbx
    clear BN TN ht hbx
    cases g with
    | true =>
      have hms := h2 rfl
      have hh := HX.out.head
      unfold StV.cells at hh
      obtain ⟨c0, c1, c2, c3, c4, c5, c6, c7, c8⟩ := nine_of hh
      rw [hms] at c4
      clear h1 h2 hh
      by_cases q1 : k < l.length
      · by_cases q2 : k < 20
        · go_wp2_with fail
          go_ret
          exact ⟨rfl, HT.out.belowAll⟩
        · go_wp2_with fail
          go_ret
          exact ⟨rfl, HT.out.belowAll⟩
      · go_wp2_with fail
        go_ret
        exact ⟨rfl, HT.out.belowAll⟩
    | false =>
      obtain ⟨rfl, hcn⟩ := h1 rfl
      replace hcn := hcn.symm
      subst hcn
      clear h1 h2
      by_cases q1 : k < l.length ∧ k < 20
      · obtain ⟨q1, q2⟩ := q1
        have ht := Turn.refl [] wr
        have C := apply_rows (HX.out.is.still ht) (mC0 hk2) (rcT k) none none 0 0 (il_none _) (ps_none _) (ok_tK hk2) (by show okI 4294967297; unfold okI; decide) (stTc q2)
        rw [cells_C0, show (rcT k).cells none 0 none 0 = #[.int .i64 2, .int .i64 (8589934594 + (k : Int)), .int .i64 4294967297, .bool false, .slice none 0 0, .slice none 0 0] from rfl] at C
        have C1 := Lib.hid C
        have hh := HX.out.head
        rw [cells_C0] at hh
        obtain ⟨c0, c1, c2, c3, c4, c5, c6, c7, c8⟩ := nine_of hh
        clear C hh
        go_wp2_with fail
        clear c0 c1 c2 c3 c4 c5 c6 c7 c8
        refine C1.out.mono ?_
        rintro e xT ⟨aT, LW, LO, LN, rfl, rA, tA⟩
        have BX := Lib.hid (HX.out.still (ht.trans tA (by simp)))
        have sx := bx_store BX.out rA (mCA q2)
        rw [show (sCA k).ends.length = k + 1 by simp [sCA, eK]] at sx
        have SX : Hid (Bx (((((((((xT.setCell ⟨b, 0, none⟩ (.int .i64 1)).setCell ⟨b, 1, none⟩ (.int .i64 2)).setCell ⟨b, 2, none⟩ (.int .i64 2)).setCell ⟨b, 3, none⟩ (.int .i64 0)).setCell ⟨b, 4, none⟩ (.slice aT.m 1 aT.cm)).setCell ⟨b, 5, none⟩ (.slice aT.w 0 aT.cw)).setCell ⟨b, 6, none⟩ (.slice aT.e (k + 1) aT.ce)).setCell ⟨b, 7, none⟩ (.slice aT.o 0 aT.co)).setCell ⟨b, 8, none⟩ (.slice aT.n 0 aT.cn)) b aT (sCA k) ∧ Turn [b] xT (((((((((xT.setCell ⟨b, 0, none⟩ (.int .i64 1)).setCell ⟨b, 1, none⟩ (.int .i64 2)).setCell ⟨b, 2, none⟩ (.int .i64 2)).setCell ⟨b, 3, none⟩ (.int .i64 0)).setCell ⟨b, 4, none⟩ (.slice aT.m 1 aT.cm)).setCell ⟨b, 5, none⟩ (.slice aT.w 0 aT.cw)).setCell ⟨b, 6, none⟩ (.slice aT.e (k + 1) aT.ce)).setCell ⟨b, 7, none⟩ (.slice aT.o 0 aT.co)).setCell ⟨b, 8, none⟩ (.slice aT.n 0 aT.cn))) := Lib.hid sx
        have TX := Lib.hid (HT.out.trans (ht.trans tA (by simp)) (by simp))
        have hh := BX.out.head
        rw [cells_C0] at hh
        obtain ⟨c0, c1, c2, c3, c4, c5, c6, c7, c8⟩ := nine_of hh
        have f0 : ∀ j, xT.frozen? ⟨b, j, none⟩ = false := fun j => unfrozen_of hh
        rw [cells_CA]
        clear ht C1 sx rA tA hh HX HT
        go_upto_region 13 with fail
        clear c0 c1 c2 c3 c4 c5 c6 c7 c8 f0 BX
        generalize hy : (((((((((xT.setCell ⟨b, 0, none⟩ (.int .i64 1)).setCell ⟨b, 1, none⟩ (.int .i64 2)).setCell ⟨b, 2, none⟩ (.int .i64 2)).setCell ⟨b, 3, none⟩ (.int .i64 0)).setCell ⟨b, 4, none⟩ (.slice aT.m 1 aT.cm)).setCell ⟨b, 5, none⟩ (.slice aT.w 0 aT.cw)).setCell ⟨b, 6, none⟩ (.slice aT.e (k + 1) aT.ce)).setCell ⟨b, 7, none⟩ (.slice aT.o 0 aT.co)).setCell ⟨b, 8, none⟩ (.slice aT.n 0 aT.cn)) = yT at *
        clear hy
        have BN := Lib.hid SX.out.1
        have TN := Lib.hid (TX.out.trans SX.out.2 (fun i hi => .inr (by have := HB.out; simp at hi; omega)))
        clear SX TX
        have hh := BN.out.head
        rw [cells_CA] at hh
        obtain ⟨c0, c1, c2, c3, c4, c5, c6, c7, c8⟩ := nine_of hh
        obtain ⟨gb, ob, eb, hb⟩ := BN.out.is.ms.at (i := 0) (x := mK k (tK k)) rfl
        rw [eb] at c4
        have m4 := hb 4 (.int .i64 (k : Int)) rfl
        have m5 := hb 5 (.int .i64 (8589934594 + (k : Int))) rfl
        rw [Nat.zero_mul, Nat.add_zero] at m4 m5
        clear hh hb
        have EB := Lib.hid eb
        clear eb
        go_upto_region 15 with fail
        clear c0 c1 c2 c3 c4 c5 c6 c7 c8 m4 m5
        by_cases hp : k % 2 = 0
        · have hr : Int.tmod (k : Int) 2 = 0 := by rw [Int.tmod_eq_emod_of_nonneg (by omega)]; omega
          have ht := Turn.refl [] yT
          have C := apply_rows (BN.out.is.still ht) (mCA q2) (rcQ k) none none 0 0 (il_none _) (ps_none _) (ok_tK hk2) (by show okI 0; unfold okI; decide) (stQc q2)
          rw [cells_CA, show (rcQ k).cells none 0 none 0 = #[.int .i64 4, .int .i64 (8589934594 + (k : Int)), .int .i64 0, .bool false, .slice none 0 0, .slice none 0 0] from rfl] at C
          have C1 := Lib.hid C
          have hh := BN.out.head
          rw [cells_CA] at hh
          obtain ⟨c0, c1, c2, c3, c4, c5, c6, c7, c8⟩ := nine_of hh
          clear C hh
          go_wp2_with fail
          clear c0 c1 c2 c3 c4 c5 c6 c7 c8
          refine C1.out.mono ?_
          rintro e xP ⟨aP, LW, LO, LN, rfl, rA, tA⟩
          have BX := Lib.hid (BN.out.still (ht.trans tA (by simp)))
          have sx := bx_store BX.out rA (mCP q2)
          rw [show (sCP k).ends.length = k + 1 by simp [sCP, eK]] at sx
          have SX : Hid (Bx (((((((((xP.setCell ⟨b, 0, none⟩ (.int .i64 1)).setCell ⟨b, 1, none⟩ (.int .i64 2)).setCell ⟨b, 2, none⟩ (.int .i64 2)).setCell ⟨b, 3, none⟩ (.int .i64 0)).setCell ⟨b, 4, none⟩ (.slice aP.m 1 aP.cm)).setCell ⟨b, 5, none⟩ (.slice aP.w 1 aP.cw)).setCell ⟨b, 6, none⟩ (.slice aP.e (k + 1) aP.ce)).setCell ⟨b, 7, none⟩ (.slice aP.o 0 aP.co)).setCell ⟨b, 8, none⟩ (.slice aP.n 0 aP.cn)) b aP (sCP k) ∧ Turn [b] xP (((((((((xP.setCell ⟨b, 0, none⟩ (.int .i64 1)).setCell ⟨b, 1, none⟩ (.int .i64 2)).setCell ⟨b, 2, none⟩ (.int .i64 2)).setCell ⟨b, 3, none⟩ (.int .i64 0)).setCell ⟨b, 4, none⟩ (.slice aP.m 1 aP.cm)).setCell ⟨b, 5, none⟩ (.slice aP.w 1 aP.cw)).setCell ⟨b, 6, none⟩ (.slice aP.e (k + 1) aP.ce)).setCell ⟨b, 7, none⟩ (.slice aP.o 0 aP.co)).setCell ⟨b, 8, none⟩ (.slice aP.n 0 aP.cn))) := Lib.hid sx
          have TX := Lib.hid (TN.out.trans (ht.trans tA (by simp)) (by simp))
          have hh := BX.out.head
          rw [cells_CA] at hh
          obtain ⟨c0, c1, c2, c3, c4, c5, c6, c7, c8⟩ := nine_of hh
          have f0 : ∀ j, xP.frozen? ⟨b, j, none⟩ = false := fun j => unfrozen_of hh
          rw [cells_CP]
          clear ht C1 sx rA tA hh BN TN
          go_upto_region 17 with fail
          clear c0 c1 c2 c3 c4 c5 c6 c7 c8 f0 BX
          generalize hy : (((((((((xP.setCell ⟨b, 0, none⟩ (.int .i64 1)).setCell ⟨b, 1, none⟩ (.int .i64 2)).setCell ⟨b, 2, none⟩ (.int .i64 2)).setCell ⟨b, 3, none⟩ (.int .i64 0)).setCell ⟨b, 4, none⟩ (.slice aP.m 1 aP.cm)).setCell ⟨b, 5, none⟩ (.slice aP.w 1 aP.cw)).setCell ⟨b, 6, none⟩ (.slice aP.e (k + 1) aP.ce)).setCell ⟨b, 7, none⟩ (.slice aP.o 0 aP.co)).setCell ⟨b, 8, none⟩ (.slice aP.n 0 aP.cn)) = yP at *
          clear hy
          have BN := Lib.hid SX.out.1
          have TN := Lib.hid (TX.out.trans SX.out.2 (fun i hi => .inr (by have := HB.out; simp at hi; omega)))
          clear SX TX
          obtain ⟨gl, ol, el, -, hcl⟩ := HL.out.at (by intro e; rw [e] at q1; simp at q1)
          subst el
          have hyw := hcl k q1
          obtain ⟨y, hyy⟩ : ∃ y, y = l.getD k false := ⟨_, rfl⟩
          rw [← hyy] at hyw
          have hy0 := TN.out.cell hyw (by simp)
          have HY := Lib.hid hyw
          clear hyw
          have hh := BN.out.head
          rw [cells_CP] at hh
          obtain ⟨c0, c1, c2, c3, c4, c5, c6, c7, c8⟩ := nine_of hh
          have HSX : Hid (∀ x, Turn [] yP x → x.cell? ⟨b, 0, none⟩ = some (.int .i64 1) ∧ x.cell? ⟨b, 1, none⟩ = some (.int .i64 2) ∧ x.cell? ⟨b, 2, none⟩ = some (.int .i64 2) ∧ x.cell? ⟨b, 3, none⟩ = some (.int .i64 0) ∧ x.cell? ⟨b, 4, none⟩ = some (.slice aP.m 1 aP.cm) ∧ x.cell? ⟨b, 5, none⟩ = some (.slice aP.w 1 aP.cw) ∧ x.cell? ⟨b, 6, none⟩ = some (.slice aP.e (k + 1) aP.ce) ∧ x.cell? ⟨b, 7, none⟩ = some (.slice aP.o 0 aP.co) ∧ x.cell? ⟨b, 8, none⟩ = some (.slice aP.n 0 aP.cn) ∧ x.cell? ⟨gl, ol + k, none⟩ = some (.bool y)) := Lib.hid (fun x t => ⟨t.cell c0 (by simp), t.cell c1 (by simp), t.cell c2 (by simp), t.cell c3 (by simp), t.cell c4 (by simp), t.cell c5 (by simp), t.cell c6 (by simp), t.cell c7 (by simp), t.cell c8 (by simp), t.cell hy0 (by simp)⟩)
          clear c0 c1 c2 c3 c4 c5 c6 c7 c8 hh hcl hy0 hyy
          have td := Turn.drew [] yP
          cases y with
          | true =>
            have C := apply_rows (BN.out.is.still td) (mCP q2) (rcE k true) none none 0 0 (il_none _) (ps_none _) (ok_tK hk2) (by show okI 0; unfold okI; decide) (stYc q2)
            rw [cells_CP, show (rcE k true).cells none 0 none 0 = #[.int .i64 5, .int .i64 (8589934594 + (k : Int)), .int .i64 0, .bool true, .slice none 0 0, .slice none 0 0] from rfl] at C
            have C1 := Lib.hid C
            clear C
            refine Ph.start [8] (fun x => x.cell? ⟨b, 0, none⟩ = some (.int .i64 1) ∧ x.cell? ⟨b, 1, none⟩ = some (.int .i64 2) ∧ x.cell? ⟨b, 2, none⟩ = some (.int .i64 2) ∧ x.cell? ⟨b, 3, none⟩ = some (.int .i64 0) ∧ x.cell? ⟨b, 4, none⟩ = some (.slice aP.m 1 aP.cm) ∧ x.cell? ⟨b, 5, none⟩ = some (.slice aP.w 1 aP.cw) ∧ x.cell? ⟨b, 6, none⟩ = some (.slice aP.e (k + 1) aP.ce) ∧ x.cell? ⟨b, 7, none⟩ = some (.slice aP.o 0 aP.co) ∧ x.cell? ⟨b, 8, none⟩ = some (.slice aP.n 0 aP.cn) ∧ x.cell? ⟨gl, ol + k, none⟩ = some (.bool true)) (by kernel_rfl) (HSX.out _ td) ?_
            intro hS
            refine Ph.take (i := 0) (d := some 70) (v := ?_) rfl (by rfl) (by kernel_rfl) (by kernel_rfl) (by kernel_rfl) (by kernel_rfl) (fun _ _ _ h => h) (by rfl) hS ?_ ?_
            rotate_left
            · intro x hx
              obtain ⟨y0, y1, y2, y3, y4, y5, y6, y7, y8, yy⟩ := hx
              go_simp
              try with_reducible rfl
            simp only [Act.put, List.setIfInBounds_toArray, List.set_cons_zero, List.set_cons_succ]
            refine Ph.take (i := 1) (d := some 71) (v := ?_) rfl (by rfl) (by kernel_rfl) (by kernel_rfl) (by kernel_rfl) (by kernel_rfl) (fun _ _ _ h => h) (by rfl) hS ?_ ?_
            rotate_left
            · intro x hx
              go_simp
              try with_reducible rfl
            simp only [Act.put, List.setIfInBounds_toArray, List.set_cons_zero, List.set_cons_succ]
            refine Ph.take (i := 2) (d := some 72) (v := ?_) rfl (by rfl) (by kernel_rfl) (by kernel_rfl) (by kernel_rfl) (by kernel_rfl) (fun _ _ _ h => h) (by rfl) hS ?_ ?_
            rotate_left
            · intro x hx
              go_simp
              try with_reducible rfl
            simp only [Act.put, List.setIfInBounds_toArray, List.set_cons_zero, List.set_cons_succ]
            refine Ph.take (i := 3) (d := some 73) (v := ?_) rfl (by rfl) (by kernel_rfl) (by kernel_rfl) (by kernel_rfl) (by kernel_rfl) (fun _ _ _ h => h) (by rfl) hS ?_ ?_
            rotate_left
            · intro x hx
              go_simp
              try with_reducible rfl
            simp only [Act.put, List.setIfInBounds_toArray, List.set_cons_zero, List.set_cons_succ]
            refine Ph.take (i := 4) (d := some 74) (v := ?_) rfl (by rfl) (by kernel_rfl) (by kernel_rfl) (by kernel_rfl) (by kernel_rfl) (fun _ _ _ h => h) (by rfl) hS ?_ ?_
            rotate_left
            · intro x hx
              go_simp
              try with_reducible rfl
            simp only [Act.put, List.setIfInBounds_toArray, List.set_cons_zero, List.set_cons_succ]
            refine Ph.take (i := 5) (d := some 75) (v := ?_) rfl (by rfl) (by kernel_rfl) (by kernel_rfl) (by kernel_rfl) (by kernel_rfl) (fun _ _ _ h => h) (by rfl) hS ?_ ?_
            rotate_left
            · intro x hx
              obtain ⟨y0, y1, y2, y3, y4, y5, y6, y7, y8, yy⟩ := hx
              go_simp
              try with_reducible rfl
            simp only [Act.put, List.setIfInBounds_toArray, List.set_cons_zero, List.set_cons_succ]
            refine Ph.take (i := 6) (d := some 76) (v := ?_) rfl (by rfl) (by kernel_rfl) (by kernel_rfl) (by kernel_rfl) (by kernel_rfl) (fun _ _ _ h => h) (by rfl) hS ?_ ?_
            rotate_left
            · intro x hx
              go_simp
              try with_reducible rfl
            simp only [Act.put, List.setIfInBounds_toArray, List.set_cons_zero, List.set_cons_succ]
            refine Ph.one (i := 7) (by kernel_rfl) rfl ?_
            intro K hK
            rw [if_pos (by rfl)]
            go_simp
            refine C1.out.mono ?_
            rintro e x7 ⟨a7, LW, LO, LN, rfl, rA, tA⟩
            have tx := td.trans tA (by simp)
            have BX := Lib.hid (BN.out.still tx)
            have sx := bx_store BX.out rA (mCZ q2)
            rw [show (sCZ k).ends.length = k + 2 by simp [sCZ, eK]] at sx
            have SX : Hid (Bx (((((((((x7.setCell ⟨b, 0, none⟩ (.int .i64 1)).setCell ⟨b, 1, none⟩ (.int .i64 2)).setCell ⟨b, 2, none⟩ (.int .i64 2)).setCell ⟨b, 3, none⟩ (.int .i64 0)).setCell ⟨b, 4, none⟩ (.slice a7.m 0 a7.cm)).setCell ⟨b, 5, none⟩ (.slice a7.w 0 a7.cw)).setCell ⟨b, 6, none⟩ (.slice a7.e (k + 2) a7.ce)).setCell ⟨b, 7, none⟩ (.slice a7.o 0 a7.co)).setCell ⟨b, 8, none⟩ (.slice a7.n 0 a7.cn)) b a7 (sCZ k) ∧ Turn [b] x7 (((((((((x7.setCell ⟨b, 0, none⟩ (.int .i64 1)).setCell ⟨b, 1, none⟩ (.int .i64 2)).setCell ⟨b, 2, none⟩ (.int .i64 2)).setCell ⟨b, 3, none⟩ (.int .i64 0)).setCell ⟨b, 4, none⟩ (.slice a7.m 0 a7.cm)).setCell ⟨b, 5, none⟩ (.slice a7.w 0 a7.cw)).setCell ⟨b, 6, none⟩ (.slice a7.e (k + 2) a7.ce)).setCell ⟨b, 7, none⟩ (.slice a7.o 0 a7.co)).setCell ⟨b, 8, none⟩ (.slice a7.n 0 a7.cn))) := Lib.hid sx
            have TX := Lib.hid (TN.out.trans tx (by simp))
            have hh := BX.out.head
            rw [cells_CP] at hh
            obtain ⟨c0, c1, c2, c3, c4, c5, c6, c7, c8⟩ := nine_of hh
            have f0 : ∀ j, x7.frozen? ⟨b, j, none⟩ = false := fun j => unfrozen_of hh
            rw [cells_CZ]
            dsimp only
            refine hK _ _ (HSX.out _ tx) (fun hS7 => ?_)
            clear hK K
            refine Ph.tardy (i := 8) (by kernel_rfl) (by kernel_rfl) rfl ?_
            intro K hK
            rw [if_pos (by rfl)]
            go_simp
            refine hK _ _ (Ph.done (by kernel_rfl) ?_ _)
            clear hK K hS hS7 c0 c1 c2 c3 c4 c5 c6 c7 c8 f0 hh BX tx td tA rA sx C1 HSX
            generalize hy : (((((((((x7.setCell ⟨b, 0, none⟩ (.int .i64 1)).setCell ⟨b, 1, none⟩ (.int .i64 2)).setCell ⟨b, 2, none⟩ (.int .i64 2)).setCell ⟨b, 3, none⟩ (.int .i64 0)).setCell ⟨b, 4, none⟩ (.slice a7.m 0 a7.cm)).setCell ⟨b, 5, none⟩ (.slice a7.w 0 a7.cw)).setCell ⟨b, 6, none⟩ (.slice a7.e (k + 2) a7.ce)).setCell ⟨b, 7, none⟩ (.slice a7.o 0 a7.co)).setCell ⟨b, 8, none⟩ (.slice a7.n 0 a7.cn)) = yE at *
            clear hy
            have BE := Lib.hid SX.out.1
            have TE := Lib.hid (TX.out.trans SX.out.2 (fun i hi => .inr (by have := HB.out; simp at hi; omega)))
            have hye := TE.out.cell HY.out (by simp)
            clear SX TX HY BN TN
            go_wp2_with fail
            go_roundw
            case rel => exact ⟨k + 1, k, true, a7, sCZ k, _, rfl, rfl, rfl, by go_num, by omega, by omega, BE.out, TE.out, (fun e => by cases e), fun _ => rfl⟩
            case measure => simp [intOf]; omega
          | false =>
            have C := apply_rows (BN.out.is.still td) (mCP q2) (rcE k false) none none 0 0 (il_none _) (ps_none _) (ok_tK hk2) (by show okI 0; unfold okI; decide) (stNc q2)
            rw [cells_CP, show (rcE k false).cells none 0 none 0 = #[.int .i64 5, .int .i64 (8589934594 + (k : Int)), .int .i64 0, .bool false, .slice none 0 0, .slice none 0 0] from rfl] at C
            have C1 := Lib.hid C
            clear C
            refine Ph.start [8] (fun x => x.cell? ⟨b, 0, none⟩ = some (.int .i64 1) ∧ x.cell? ⟨b, 1, none⟩ = some (.int .i64 2) ∧ x.cell? ⟨b, 2, none⟩ = some (.int .i64 2) ∧ x.cell? ⟨b, 3, none⟩ = some (.int .i64 0) ∧ x.cell? ⟨b, 4, none⟩ = some (.slice aP.m 1 aP.cm) ∧ x.cell? ⟨b, 5, none⟩ = some (.slice aP.w 1 aP.cw) ∧ x.cell? ⟨b, 6, none⟩ = some (.slice aP.e (k + 1) aP.ce) ∧ x.cell? ⟨b, 7, none⟩ = some (.slice aP.o 0 aP.co) ∧ x.cell? ⟨b, 8, none⟩ = some (.slice aP.n 0 aP.cn) ∧ x.cell? ⟨gl, ol + k, none⟩ = some (.bool false)) (by kernel_rfl) (HSX.out _ td) ?_
            intro hS
            refine Ph.take (i := 0) (d := some 70) (v := ?_) rfl (by rfl) (by kernel_rfl) (by kernel_rfl) (by kernel_rfl) (by kernel_rfl) (fun _ _ _ h => h) (by rfl) hS ?_ ?_
            rotate_left
            · intro x hx
              obtain ⟨y0, y1, y2, y3, y4, y5, y6, y7, y8, yy⟩ := hx
              go_simp
              try with_reducible rfl
            simp only [Act.put, List.setIfInBounds_toArray, List.set_cons_zero, List.set_cons_succ]
            refine Ph.take (i := 1) (d := some 71) (v := ?_) rfl (by rfl) (by kernel_rfl) (by kernel_rfl) (by kernel_rfl) (by kernel_rfl) (fun _ _ _ h => h) (by rfl) hS ?_ ?_
            rotate_left
            · intro x hx
              go_simp
              try with_reducible rfl
            simp only [Act.put, List.setIfInBounds_toArray, List.set_cons_zero, List.set_cons_succ]
            refine Ph.take (i := 2) (d := some 72) (v := ?_) rfl (by rfl) (by kernel_rfl) (by kernel_rfl) (by kernel_rfl) (by kernel_rfl) (fun _ _ _ h => h) (by rfl) hS ?_ ?_
            rotate_left
            · intro x hx
              go_simp
              try with_reducible rfl
            simp only [Act.put, List.setIfInBounds_toArray, List.set_cons_zero, List.set_cons_succ]
            refine Ph.take (i := 3) (d := some 73) (v := ?_) rfl (by rfl) (by kernel_rfl) (by kernel_rfl) (by kernel_rfl) (by kernel_rfl) (fun _ _ _ h => h) (by rfl) hS ?_ ?_
            rotate_left
            · intro x hx
              go_simp
              try with_reducible rfl
            simp only [Act.put, List.setIfInBounds_toArray, List.set_cons_zero, List.set_cons_succ]
            refine Ph.take (i := 4) (d := some 74) (v := ?_) rfl (by rfl) (by kernel_rfl) (by kernel_rfl) (by kernel_rfl) (by kernel_rfl) (fun _ _ _ h => h) (by rfl) hS ?_ ?_
            rotate_left
            · intro x hx
              go_simp
              try with_reducible rfl
            simp only [Act.put, List.setIfInBounds_toArray, List.set_cons_zero, List.set_cons_succ]
            refine Ph.take (i := 5) (d := some 75) (v := ?_) rfl (by rfl) (by kernel_rfl) (by kernel_rfl) (by kernel_rfl) (by kernel_rfl) (fun _ _ _ h => h) (by rfl) hS ?_ ?_
            rotate_left
            · intro x hx
              obtain ⟨y0, y1, y2, y3, y4, y5, y6, y7, y8, yy⟩ := hx
              go_simp
              try with_reducible rfl
            simp only [Act.put, List.setIfInBounds_toArray, List.set_cons_zero, List.set_cons_succ]
            refine Ph.take (i := 6) (d := some 76) (v := ?_) rfl (by rfl) (by kernel_rfl) (by kernel_rfl) (by kernel_rfl) (by kernel_rfl) (fun _ _ _ h => h) (by rfl) hS ?_ ?_
            rotate_left
            · intro x hx
              go_simp
              try with_reducible rfl
            simp only [Act.put, List.setIfInBounds_toArray, List.set_cons_zero, List.set_cons_succ]
            refine Ph.one (i := 7) (by kernel_rfl) rfl ?_
            intro K hK
            rw [if_pos (by rfl)]
            go_simp
            refine C1.out.mono ?_
            rintro e x7 ⟨a7, LW, LO, LN, rfl, rA, tA⟩
            have tx := td.trans tA (by simp)
            have BX := Lib.hid (BN.out.still tx)
            have sx := bx_store BX.out rA (mC0 (by omega))
            rw [show (sC0 (k + 1)).ends.length = k + 1 + 1 by simp [sC0, eK]] at sx
            have SX : Hid (Bx (((((((((x7.setCell ⟨b, 0, none⟩ (.int .i64 1)).setCell ⟨b, 1, none⟩ (.int .i64 2)).setCell ⟨b, 2, none⟩ (.int .i64 2)).setCell ⟨b, 3, none⟩ (.int .i64 0)).setCell ⟨b, 4, none⟩ (.slice a7.m 1 a7.cm)).setCell ⟨b, 5, none⟩ (.slice a7.w 0 a7.cw)).setCell ⟨b, 6, none⟩ (.slice a7.e (k + 1 + 1) a7.ce)).setCell ⟨b, 7, none⟩ (.slice a7.o 0 a7.co)).setCell ⟨b, 8, none⟩ (.slice a7.n 0 a7.cn)) b a7 (sC0 (k + 1)) ∧ Turn [b] x7 (((((((((x7.setCell ⟨b, 0, none⟩ (.int .i64 1)).setCell ⟨b, 1, none⟩ (.int .i64 2)).setCell ⟨b, 2, none⟩ (.int .i64 2)).setCell ⟨b, 3, none⟩ (.int .i64 0)).setCell ⟨b, 4, none⟩ (.slice a7.m 1 a7.cm)).setCell ⟨b, 5, none⟩ (.slice a7.w 0 a7.cw)).setCell ⟨b, 6, none⟩ (.slice a7.e (k + 1 + 1) a7.ce)).setCell ⟨b, 7, none⟩ (.slice a7.o 0 a7.co)).setCell ⟨b, 8, none⟩ (.slice a7.n 0 a7.cn))) := Lib.hid sx
            have TX := Lib.hid (TN.out.trans tx (by simp))
            have hh := BX.out.head
            rw [cells_CP] at hh
            obtain ⟨c0, c1, c2, c3, c4, c5, c6, c7, c8⟩ := nine_of hh
            have f0 : ∀ j, x7.frozen? ⟨b, j, none⟩ = false := fun j => unfrozen_of hh
            rw [cells_C0]
            dsimp only
            refine hK _ _ (HSX.out _ tx) (fun hS7 => ?_)
            clear hK K
            refine Ph.tardy (i := 8) (by kernel_rfl) (by kernel_rfl) rfl ?_
            intro K hK
            rw [if_pos (by rfl)]
            go_simp
            refine hK _ _ (Ph.done (by kernel_rfl) ?_ _)
            clear hK K hS hS7 c0 c1 c2 c3 c4 c5 c6 c7 c8 f0 hh BX tx td tA rA sx C1 HSX
            generalize hy : (((((((((x7.setCell ⟨b, 0, none⟩ (.int .i64 1)).setCell ⟨b, 1, none⟩ (.int .i64 2)).setCell ⟨b, 2, none⟩ (.int .i64 2)).setCell ⟨b, 3, none⟩ (.int .i64 0)).setCell ⟨b, 4, none⟩ (.slice a7.m 1 a7.cm)).setCell ⟨b, 5, none⟩ (.slice a7.w 0 a7.cw)).setCell ⟨b, 6, none⟩ (.slice a7.e (k + 1 + 1) a7.ce)).setCell ⟨b, 7, none⟩ (.slice a7.o 0 a7.co)).setCell ⟨b, 8, none⟩ (.slice a7.n 0 a7.cn)) = yE at *
            clear hy
            have BE := Lib.hid SX.out.1
            have TE := Lib.hid (TX.out.trans SX.out.2 (fun i hi => .inr (by have := HB.out; simp at hi; omega)))
            have hye := TE.out.cell HY.out (by simp)
            clear SX TX HY BN TN
            go_wp2_with fail
            go_roundw
            case rel => exact ⟨k + 1, k + 1, false, a7, sC0 (k + 1), _, rfl, by go_num, rfl, by go_num, by omega, by omega, BE.out, TE.out, fun _ => ⟨rfl, rfl⟩, (fun e => by cases e)⟩
            case measure => simp [intOf]; omega
        · have hr : Int.tmod (k : Int) 2 = 1 := by rw [Int.tmod_eq_emod_of_nonneg (by omega)]; omega
          have ht := Turn.refl [] yT
          have C := apply_rows (BN.out.is.still ht) (mCA q2) (rcB k) none none 0 0 (il_none _) (ps_none _) (ok_tK hk2) (by show okI 0; unfold okI; decide) (stBc q2)
          rw [cells_CA, show (rcB k).cells none 0 none 0 = #[.int .i64 3, .int .i64 (8589934594 + (k : Int)), .int .i64 0, .bool false, .slice none 0 0, .slice none 0 0] from rfl] at C
          have C1 := Lib.hid C
          have hh := BN.out.head
          rw [cells_CA] at hh
          obtain ⟨c0, c1, c2, c3, c4, c5, c6, c7, c8⟩ := nine_of hh
          clear C hh
          go_wp2_with fail
          clear c0 c1 c2 c3 c4 c5 c6 c7 c8
          refine C1.out.mono ?_
          rintro e xR ⟨aR, LW, LO, LN, rfl, rA, tA⟩
          have BX := Lib.hid (BN.out.still (ht.trans tA (by simp)))
          have sx := bx_store BX.out rA (mC0 (by omega))
          rw [show (sC0 (k + 1)).ends.length = k + 1 + 1 by simp [sC0, eK]] at sx
          have SX : Hid (Bx (((((((((xR.setCell ⟨b, 0, none⟩ (.int .i64 1)).setCell ⟨b, 1, none⟩ (.int .i64 2)).setCell ⟨b, 2, none⟩ (.int .i64 2)).setCell ⟨b, 3, none⟩ (.int .i64 0)).setCell ⟨b, 4, none⟩ (.slice aR.m 1 aR.cm)).setCell ⟨b, 5, none⟩ (.slice aR.w 0 aR.cw)).setCell ⟨b, 6, none⟩ (.slice aR.e (k + 1 + 1) aR.ce)).setCell ⟨b, 7, none⟩ (.slice aR.o 0 aR.co)).setCell ⟨b, 8, none⟩ (.slice aR.n 0 aR.cn)) b aR (sC0 (k + 1)) ∧ Turn [b] xR (((((((((xR.setCell ⟨b, 0, none⟩ (.int .i64 1)).setCell ⟨b, 1, none⟩ (.int .i64 2)).setCell ⟨b, 2, none⟩ (.int .i64 2)).setCell ⟨b, 3, none⟩ (.int .i64 0)).setCell ⟨b, 4, none⟩ (.slice aR.m 1 aR.cm)).setCell ⟨b, 5, none⟩ (.slice aR.w 0 aR.cw)).setCell ⟨b, 6, none⟩ (.slice aR.e (k + 1 + 1) aR.ce)).setCell ⟨b, 7, none⟩ (.slice aR.o 0 aR.co)).setCell ⟨b, 8, none⟩ (.slice aR.n 0 aR.cn))) := Lib.hid sx
          have TX := Lib.hid (TN.out.trans (ht.trans tA (by simp)) (by simp))
          have hh := BX.out.head
          rw [cells_CA] at hh
          obtain ⟨c0, c1, c2, c3, c4, c5, c6, c7, c8⟩ := nine_of hh
          have f0 : ∀ j, xR.frozen? ⟨b, j, none⟩ = false := fun j => unfrozen_of hh
          rw [cells_C0]
          clear ht C1 sx rA tA hh BN TN
          go_upto_region 20 with fail
          clear c0 c1 c2 c3 c4 c5 c6 c7 c8 f0 BX
          generalize hy : (((((((((xR.setCell ⟨b, 0, none⟩ (.int .i64 1)).setCell ⟨b, 1, none⟩ (.int .i64 2)).setCell ⟨b, 2, none⟩ (.int .i64 2)).setCell ⟨b, 3, none⟩ (.int .i64 0)).setCell ⟨b, 4, none⟩ (.slice aR.m 1 aR.cm)).setCell ⟨b, 5, none⟩ (.slice aR.w 0 aR.cw)).setCell ⟨b, 6, none⟩ (.slice aR.e (k + 1 + 1) aR.ce)).setCell ⟨b, 7, none⟩ (.slice aR.o 0 aR.co)).setCell ⟨b, 8, none⟩ (.slice aR.n 0 aR.cn)) = yR at *
          clear hy
          have BN := Lib.hid SX.out.1
          have TN := Lib.hid (TX.out.trans SX.out.2 (fun i hi => .inr (by have := HB.out; simp at hi; omega)))
          clear SX TX
          go_wp2_with fail
          go_roundw
          case rel => exact ⟨k + 1, k + 1, false, aR, sC0 (k + 1), _, rfl, by go_num, rfl, by go_num, by omega, by omega, BN.out, TN.out, fun _ => ⟨rfl, rfl⟩, (fun e => by cases e)⟩
          case measure => simp [intOf]; omega
      · have hh := HX.out.head
        rw [cells_C0] at hh
        obtain ⟨c0, c1, c2, c3, c4, c5, c6, c7, c8⟩ := nine_of hh
        obtain ⟨gb, ob, eb, hb⟩ := HX.out.is.ms.at (i := 0) (x := mK k 0) rfl
        rw [eb] at c4
        have m0 := hb 0 (.int .i64 4294967297) rfl
        have m1 := hb 1 (.string ⟨#[113]⟩) rfl
        have m2 := hb 2 (.string ⟨#[98]⟩) rfl
        have m3 := hb 3 (.int .i64 1) rfl
        have m4 := hb 4 (.int .i64 (k : Int)) rfl
        have m5 := hb 5 (.int .i64 0) rfl
        rw [Nat.zero_mul, Nat.add_zero] at m0 m1 m2 m3 m4 m5
        have CD := dead_calls (mK k 0) wr
        rw [dead_C, show (msgC (mK k 0)).toArray = #[.int .i64 4294967297, .string ⟨#[113]⟩, .string ⟨#[98]⟩, .int .i64 1, .int .i64 (k : Int), .int .i64 0] from rfl] at CD
        obtain ⟨bb, hbb⟩ : ∃ x, x = decide (3 ≤ (k : Int)) := ⟨_, rfl⟩
        have HD : Hid (decide ((k : Int) ≥ 3) = bb) := Lib.hid hbb.symm
        rw [← hbb] at CD
        have C1 := Lib.hid CD
        clear hh hb eb CD hbb
        have hex : ¬ k < l.length ∨ ¬ k < 20 := by omega
        clear q1
        by_cases q1 : k < l.length
        · have q2 : ¬ k < 20 := by omega
          clear hex
          go_wp2_with fail
          refine C1.out.mono ?_
          rintro e x9 ⟨rfl, t9⟩
          have T9 := Lib.hid (HT.out.trans t9 (by simp))
          have e9 : (bb == decide ((k : Int) ≥ 3)) = true := by rw [HD.out]; simp
          clear t9 C1 c0 c1 c2 c3 c4 c5 c6 c7 c8 m0 m1 m2 m3 m4 m5
          go_wp2_with fail
          go_ret
          exact ⟨rfl, T9.out.belowAll⟩
        · clear hex
          go_wp2_with fail
          refine C1.out.mono ?_
          rintro e x9 ⟨rfl, t9⟩
          have T9 := Lib.hid (HT.out.trans t9 (by simp))
          have e9 : (bb == decide ((k : Int) ≥ 3)) = true := by rw [HD.out]; simp
          clear t9 C1 c0 c1 c2 c3 c4 c5 c6 c7 c8 m0 m1 m2 m3 m4 m5
          go_wp2_with fail
          go_ret
          exact ⟨rfl, T9.out.belowAll⟩

end Go.Proofs.YtjhlfjgfohoflaaGreat


/-
  The law 'postillionlaw10.StoreCounts' answers true at every input, and each argument reads behind the call as it read before: for every input, no condition; the frame round the walk 'storeCounts_walk'.
-/
namespace Go.Proofs.YtjhlfjgfohoflaaGreat.storeCounts
open Go.ChangeShapes Go.WideShapes Go.ChangeAt Go.RowKit
open Go.ChangeMaps (open_string shut_string)
set_option linter.unusedVariables false

theorem own : ownKnob Tryz.prog.godebug = none := by kernel_rfl
theorem laidOut : laidOutB Tryz.prog = true := closed.p_laidOutB

set_option maxRecDepth 100000 in
theorem lifted (os : Os) (started : os.Started) (H : Type) (enc : TypeId × Value → H) :
    ReturnsInHanded {} Tryz.checked os 7 .any (Rows.storeCountsSpec.pre6 enc Tryz.prog Tryz.f7 Rows.storeCountsRow.domain false) (Rows.storeCountsSpec.post enc Tryz.prog Tryz.f7 false true false false) := by
  refine returnsInHanded_of_change (C := Tryz.checked) own started (by kernel_rfl) Tryz.func7
    (ChangeSpec.witness6 (enc := enc) (C := Tryz.checked) false ⟨#[], #[.slice none 0 0], []⟩ 8 (by kernel_rfl) (by kernel_rfl) (by kernel_rfl) (by kernel_rfl)) ?_
  intro W base args ds gs before hval0 hW hcnd _
  have hval : ∀ (j : Nat) t v, Tryz.f7.params[j]? = some t → args[j]? = some v → Value.okWide Tryz.prog W .any base t v := hval0
  have hW' := hW
  obtain ⟨p, q, hA0, hV, rfl, hfz, hnd⟩ := hW
  have hA : DataW.TrodAll enc Tryz.prog W 0 (fun _ => true) true Tryz.f7.params.toList args.toList ds p := hA0
  rw [Tryz.params7] at hA hval
  obtain ⟨v0, vs0, d0, ds0, p0, q0, hargs, rfl, rfl, h0, r0⟩ := trodAll_cons hA
  obtain ⟨rfl, rfl, rfl⟩ := trodAll_nil r0
  obtain rfl : args = #[v0] := by cases args; simp_all
  obtain ⟨rfl, rfl⟩ := trodVars_none hV
  obtain ⟨a0, len0, cap0, rfl⟩ := okWide_slice Tryz.underlying47 (hval 0 47 v0 rfl rfl)
  have k0 := h0
  have lt0 : ∀ x ∈ p0, x.block < W.heap.size := by obtain ⟨m, hm⟩ := k0; exact DataW.trod_lt m _ _ _ hm
  obtain ⟨l0, rfl, w0⟩ := open_truths h0
  clear hA0 hval0
  refine (storeCounts_walk (w := W) a0 cap0 l0 w0).mono fun e W' ⟨he, bel⟩ => ?_
  subst he
  exact ⟨_, rfl, _, _, _, [], _, [], hW', trodAll_mk1 (shut_bool Tryz.underlying4 _), (trodAll_cons_mk (Below.trod laidOut (by kernel_rfl) (of_decide_eq_true (by kernel_rfl)) k0 bel lt0) trodAll_mk0), rfl, bel.frame _, fun h => by cases h⟩

theorem closed0 : (Rows.storeCountsRow.wf (OpenSpec.ofChange Rows.storeCountsSpec) : Bool) = true := by kernel_rfl

theorem closed3 : (Tryz.f7.params.all (Tryz.prog.readableRec ·) : Bool) = true := by kernel_rfl

theorem closed4 : (namedTie Tryz.prog Rows.storeCountsRow.named Rows.storeCountsSpec.vars : Bool) = true := by kernel_rfl

theorem closed5 : ((Rows.storeCountsRow.stops == []) : Bool) = true := by kernel_rfl

theorem closed7 : ((Rows.storeCountsRow.knobs == []) : Bool) = true := by kernel_rfl

theorem closed9 : ((Rows.storeCountsRow.inPlace == Tryz.prog.inPlace 7) : Bool) = true := by kernel_rfl

theorem closed10 : ((Rows.storeCountsRow.unfollowed == Tryz.prog.unfollowed 7) : Bool) = true := by kernel_rfl

theorem closed11 : ((Rows.storeCountsRow.recurses == Tryz.prog.recurses 7) : Bool) = true := by kernel_rfl

theorem closed12 : ((Rows.storeCountsRow.named == Tryz.prog.varsNamed 7) : Bool) = true := by kernel_rfl

theorem closed13 : ((Rows.storeCountsRow.maps == (Tryz.f7.params.toList ++ Rows.storeCountsSpec.plain.varTypes Tryz.prog).any (Tryz.prog.mapsRec ·)) : Bool) = true := by kernel_rfl

theorem closed14 : ((Rows.storeCountsRow.ifaces == (Tryz.f7.params.toList ++ Rows.storeCountsSpec.plain.varTypes Tryz.prog).any (Tryz.prog.ifacesRec ·)) : Bool) = true := by kernel_rfl

theorem closed15 : ((Rows.storeCountsRow.mapsOut == Tryz.prog.mapsAmong Tryz.f7.resultTypes.toList) : Bool) = true := by kernel_rfl

theorem closed16 : ((Rows.storeCountsRow.loops == (Tryz.f7.params.toList ++ Rows.storeCountsSpec.plain.varTypes Tryz.prog).any (Tryz.prog.loopsFrom ·)) : Bool) = true := by kernel_rfl

theorem closed17 : ((Rows.storeCountsRow.wideKeys == (Tryz.f7.params.toList ++ Rows.storeCountsSpec.plain.varTypes Tryz.prog ++ Tryz.f7.resultTypes.toList).any (Tryz.prog.wideKeysFrom ·)) : Bool) = true := by kernel_rfl

theorem closed18 : (Rows.storeCountsSpec.vars.all (Tryz.prog.varReadable ·) : Bool) = true := by kernel_rfl

theorem closed19 : (Tryz.f7.resultTypes.all (fun t => Tryz.prog.readableRec t && decide (t < Tryz.prog.types.size)) : Bool) = true := by kernel_rfl

theorem closed20 : ((Rows.storeCountsRow.ifacesOut == Tryz.f7.resultTypes.toList.any (Tryz.prog.ifacesRec ·)) : Bool) = true := by kernel_rfl

theorem closed21 : ((Rows.storeCountsRow.loopsOut == Tryz.f7.resultTypes.toList.any (Tryz.prog.loopsFrom ·)) : Bool) = true := by kernel_rfl

theorem closed22 : ((Rows.storeCountsRow.plainKeys == Tryz.prog.plainKeys) : Bool) = true := by show (_ == _) = true; rw [closed.plainKeys_is]; kernel_rfl

theorem closed23 : (Rows.storeCountsRow.shortTexts.isNone : Bool) = true := by kernel_rfl

theorem closed26 : ((Rows.storeCountsRow.lifted == Tryz.prog.liftsFinal) : Bool) = true := by show (_ == _) = true; rw [closed.lifted_is]; kernel_rfl

theorem closed27 : ((Tryz.prog.make == some Rows.storeCountsRow.make) : Bool) = true := by show (_ == _) = true; rw [closed.make_is]; kernel_rfl

theorem closed28 : ((Rows.storeCountsRow.kinds == (if Rows.storeCountsRow.domain.isEmpty then [] else Tryz.f7.params.toList.map fun t => match Tryz.prog.underlying t with | some (.int k) => some k | _ => none)) : Bool) = true := by kernel_rfl

theorem closed29 : ((Rows.storeCountsRow.pinned == Rows.storeCountsRow.pinnedBy) : Bool) = true := by kernel_rfl

theorem closed30 : ((Rows.storeCountsRow.veiled == (Tryz.f7.params.toList ++ Rows.storeCountsSpec.plain.varTypes Tryz.prog ++ Tryz.f7.resultTypes.toList).any (Tryz.prog.veiledRec ·)) : Bool) = true := by kernel_rfl

theorem closed31 : (Rows.storeCountsRow.veiledFits Tryz.prog Tryz.f7.params.toList (Tryz.f7.params.toList ++ Rows.storeCountsSpec.plain.varTypes Tryz.prog ++ Tryz.f7.resultTypes.toList) : Bool) = true := by kernel_rfl

set_option maxRecDepth 100000 in
theorem closedAll : joinedFacts Tryz.prog 7 Tryz.f7 Rows.storeCountsSpec Rows.storeCountsRow = true :=
  joinMk.joined_mk closed0 closed.p_laidOutB closed.p_mapsRowed closed3 closed4 closed5 closed.p_stops closed7 closed.p_stopKnobs closed9 closed10 closed11 closed12 closed13 closed14 closed15 closed16 closed17 closed18 closed19 closed20 closed21 closed22 closed23 closed.p_stopsHeard closed.p_mayEnter closed26 closed27 closed28 closed29 closed30 closed31

theorem over : Rows.storeCountsRow.holds Tryz.pinned (OpenSpec.ofChange Rows.storeCountsSpec) :=
  OpenClaim.holds_of_wide 7 Tryz.f7 rfl rfl rfl rfl rfl rfl rfl ⟨rfl, rfl, rfl, rfl, rfl⟩ rfl rfl rfl rfl rfl (by kernel_rfl) Tryz.func7 closedAll
    (of_decide_eq_true (by kernel_rfl)) (by unfold Func.isWrapper; first | (rw [if_pos (by decide +kernel)]; kernel_rfl) | (rw [if_neg (by decide +kernel)]; exact ⟨rfl, rfl⟩))
    (fun os started H enc _ => lifted os started H enc)

/-- The statement. -/
theorem proved : Rows.StoreCountsSaid := over
end Go.Proofs.YtjhlfjgfohoflaaGreat.storeCounts
