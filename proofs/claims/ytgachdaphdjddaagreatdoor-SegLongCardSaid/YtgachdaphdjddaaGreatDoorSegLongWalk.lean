/-
  The walk of the law SegLong.
-/
import Derived.Test.YtgachdaphdjddaaGreatDoorBegun4
import Derived.Test.YtgachdaphdjddaaGreatDoorSegPut
import Derived.Test.YtgachdaphdjddaaGreatDoorSegCuts
import Derived.Test.YtgachdaphdjddaaGreatDoorOpen
namespace Go.Proofs.YtgachdaphdjddaaGreatDoor
open Go.RowKit

theorem fill_step (n k : Nat) (c : UInt8) (h : k < n) : (u8s (List.replicate k c ++ List.replicate (n - k) 0)).set k (.int .u8 (c.toNat : Int)) = u8s (List.replicate (k + 1) c ++ List.replicate (n - (k + 1)) 0) := by
  unfold u8s
  rw [← List.map_set (f := fun b : UInt8 => Value.int .u8 (b.toNat : Int))]
  congr 1
  obtain ⟨m, rfl⟩ : ∃ m, n = k + 1 + m := ⟨n - (k + 1), by omega⟩
  rw [show k + 1 + m - k = m + 1 by omega, show k + 1 + m - (k + 1) = m by omega, List.set_append_right _ _ (by simp)]
  simp [List.replicate_succ]
  rw [← List.cons_append, ← List.replicate_succ, List.replicate_succ', List.append_assoc]
  rfl

theorem made_row (w : World) (n : Nat) (hn : n ≤ 1000000) : (w.alloc (.cells (madeCells #[.int .u8 0] n) 5)).ownsRow w.heap.size 5 1 (.slice (some ⟨w.heap.size, 0, none⟩) n n) n (List.replicate n (.int .u8 0)) := by
  refine ⟨by simp, .inr ⟨w.heap.size, n, madeCells #[.int .u8 0] n, rfl, Nat.le_refl _, heap_alloc_new w _, Nat.le_refl _, by unfold maxLen; omega, by simp [madeCells], ?_⟩⟩
  rw [toList_madeCells_one]
  simp

set_option maxHeartbeats 8000000 in
set_option maxRecDepth 100000 in
theorem segLong_walk (a0 : Int) (a1 : Int) (w : World) (w1 : (Lit.int .u8 a1).wf = true) (htab : Tab w) :
    Calls Tryz.prog 4 #[.int .i64 a0, .int .u8 a1] w fun e w' => e = .returned (.bool true) ∧ Below w.heap.size w w' := by
  have hb1 := bounds_u8 w1
  have HTB := Lib.hid htab
  clear htab w1
  by_cases hin : 0 ≤ a0 ∧ a0 ≤ 4010
  · obtain ⟨n, rfl⟩ : ∃ n : Nat, a0 = (n : Int) := ⟨a0.toNat, by omega⟩
    have hn : n ≤ 4010 := by omega
    clear hin
    obtain ⟨cb, hcb⟩ : ∃ cb : UInt8, (cb.toNat : Int) = a1 := ⟨UInt8.ofNat a1.toNat, u8_ofNat (by omega) (by omega)⟩
    subst hcb
    have g1 : decide ((n : Int) < 0) = false := by simp; try omega
    have g2 : decide ((4010 : Int) < (n : Int)) = false := by simp; try omega
    go_enter Tryz.func4, Tryz.ntmps4
    go_wp2_with fail
    refine (begun4_calls _ HTB.out).mono ?_
    rintro e x1 ⟨rfl, hbb⟩
    have B1 := Lib.hid hbb
    clear hbb
    have hmk := make_bytes x1 n (by omega)
    have HO := Lib.hid (made_row x1 n (by omega))
    have B2 := Lib.hid (Turn.belowAll (Turn.alloc [] x1 (.cells (madeCells #[.int .u8 0] n) 5)))
    go_wp2_with fail
    clear hmk g1 g2
    generalize x1.alloc (.cells (madeCells #[.int .u8 0] n) 5) = x2 at *
    generalize hq : x1.heap.size = q at *
    have HQ := Lib.hid hq
    clear hq
    go_loopw [25] (fun i wr => ∃ k : Nat, k ≤ n ∧ i = .int .i64 k ∧ wr.ownsRow q 5 1 (.slice (some ⟨q, 0, none⟩) n n) n (u8s (List.replicate k cb ++ List.replicate (n - k) 0)) ∧ Below q x1 wr) (fun i _ => n - (intOf i).toNat)
    case atStart => exact ⟨0, by omega, rfl, by simpa [u8s] using HO.out, B2.out⟩
    case round =>
      clear HO B2
      obtain ⟨k, hk, rfl, ho, hb⟩ := hrel
      have HO := Lib.hid ho
      have HB := Lib.hid hb
      clear ho hb
      by_cases hlt : k < n
      · have hlt2 : (k : Int) < (n : Int) := by omega
        have hcell : ∃ u, wr.cell? ⟨q, k, none⟩ = some u := by
          rw [HO.out.cellAt k (by omega)]
          have hl : k < (u8s (List.replicate k cb ++ List.replicate (n - k) 0)).length := by simp [u8s]; omega
          exact ⟨_, List.getElem?_eq_getElem hl⟩
        obtain ⟨u, hcell⟩ := hcell
        have hfz := HO.out.frozenAt k
        have O4 : Hid ((wr.setCell ⟨q, k, none⟩ (.int .u8 (cb.toNat : Int))).ownsRow q 5 1 (.slice (some ⟨q, 0, none⟩) n n) n (u8s (List.replicate (k + 1) cb ++ List.replicate (n - (k + 1)) 0))) := Lib.hid (by rw [← fill_step n k cb hlt]; exact (HO.out.stored k _).1)
        have B4 := Lib.hid (HB.out.setCell (p := ⟨q, k, none⟩) (Nat.le_refl _) (.int .u8 (cb.toNat : Int)))
        go_wp2
        go_roundw
        case rel => exact ⟨k + 1, by omega, by go_num, O4.out, B4.out⟩
        case measure => simp [intOf]; omega
      · obtain rfl : k = n := by omega
        have hdl : decide ((k : Int) < (k : Int)) = false := by simp
        have hown2 := HO.out
        rw [Nat.sub_self, List.replicate_zero, List.append_nil] at hown2
        obtain ⟨L, hL⟩ : ∃ L, L = List.replicate k cb := ⟨_, rfl⟩
        have hLl : L.length = k := by rw [hL]; simp
        have hs : Sl wr (some ⟨q, 0, none⟩) k L := by
          have h3 : wr.ownsRow q 5 1 (.slice (some ⟨q, 0, none⟩) k k) L.length (u8s L) := by rw [hLl, hL]; exact hown2
          obtain ⟨a, cc, h1, h2, _⟩ := Sl.of_owns h3
          injection h1 with e1 e2 e3
          subst e1 e3
          exact h2
        have SB := Lib.hid hs
        have HLL := Lib.hid hLl
        have BW := Lib.hid (B1.out.trans (HB.out.mono (by rw [← HQ.out]; exact B1.out.size)))
        have nt := sl_nil_test
        clear hown2 hs HO HB hL hLl
        by_cases hok : 1 ≤ k ∧ k ≤ 4000
        · have hokF : okF L = true := okF_iff.2 (by rw [HLL.out]; exact hok)
          have k1 : decide ((k : Int) < 1) = false := by simp; omega
          have k2 : decide ((4000 : Int) < (k : Int)) = false := by simp; omega
          have CF := frame_some (some ⟨q, 0, none⟩) k L wr hokF SB.out
          rw [frB_length, HLL.out] at CF
          have HCF := Lib.hid CF
          have HOK := Lib.hid hokF
          clear CF hokF
          go_wp2_with fail
          refine HCF.out.mono ?_
          rintro e x3 ⟨af, cf, rfl, hsf, -, hb3⟩
          have CC := cut_ok (t := L) x3 hsf (by have := cut_fr (b := L) HOK.out []; rwa [List.append_nil] at this)
          rw [frB_length, HLL.out] at CC
          have HCC := Lib.hid CC
          have SF := Lib.hid hsf
          have SB3 := Lib.hid (SB.out.belowAll hb3)
          have B3 := Lib.hid (BW.out.trans (hb3.mono BW.out.size))
          clear CC hsf hb3 HCF SB BW
          go_wp2_with fail
          refine HCC.out.mono ?_
          rintro e x4 ⟨ay, cy, rfl, hsy, -, hb4⟩
          have q1 : (convert 22 9 (.slice ay k cy)).run Tryz.prog x4 = .ok (.string ⟨L.toArray⟩) x4 := conv_sl hsy HLL.out.symm
          have q2 : (convert 22 9 (.slice (some ⟨q, 0, none⟩) k k)).run Tryz.prog x4 = .ok (.string ⟨L.toArray⟩) x4 := conv_sl (SB3.out.belowAll hb4) HLL.out.symm
          have SF4 := Lib.hid ((SF.out.belowAll hb4).front (k + 5))
          have B4 := Lib.hid (B3.out.trans (hb4.mono B3.out.size))
          have hfl : ((frB L).take (k + 5)).length = k + 5 := by rw [List.length_take, frB_length, HLL.out]; omega
          have CU := cuts_calls af cf ((frB L).take (k + 5)) x4 SF4.out
          rw [hfl] at CU
          have HCU := Lib.hid CU
          have hle := SF.out.le.1
          rw [frB_length, HLL.out] at hle
          have i5 : (k : Int) + 5 ≤ (cf : Int) := by omega
          have i5' : (5 : Int) + (k : Int) ≤ (cf : Int) := by omega
          clear CU hfl hsy hb4 HCC SF SB3 B3 hle
          go_wp2_with fail
          refine HCU.out.mono ?_
          rintro e x5 ⟨rfl, hb5⟩
          have B5 := Lib.hid (B4.out.trans (hb5.mono B4.out.size))
          clear hb5
          go_wp2
          go_ret
          exact ⟨rfl, B5.out⟩
        · have hokF : okF L = false := by
            cases h : okF L with
            | false => rfl
            | true => exact absurd (by have := okF_iff.1 h; rw [HLL.out] at this; exact this) hok
          have CF := frame_none (some ⟨q, 0, none⟩) k L wr hokF
          rw [HLL.out] at CF
          have HCF := Lib.hid CF
          clear CF hokF
          go_wp2_with fail
          refine HCF.out.mono ?_
          rintro e x3 ⟨rfl, rfl⟩
          by_cases k1 : (k : Int) < 1
          · have k1' : decide ((k : Int) < 1) = true := by simpa using k1
            go_wp2
            go_ret
            exact ⟨rfl, BW.out⟩
          · have k1' : decide ((k : Int) < 1) = false := by simp; omega
            have k2 : (4000 : Int) < (k : Int) := by omega
            have k2' : decide ((4000 : Int) < (k : Int)) = true := by simpa using k2
            go_wp2
            go_ret
            exact ⟨rfl, BW.out⟩
  · go_enter Tryz.func4, Tryz.ntmps4
    go_wp2_with fail
    refine (begun4_calls _ HTB.out).mono ?_
    rintro e x1 ⟨rfl, hbb⟩
    have B1 := Lib.hid hbb
    clear hbb
    by_cases k1 : a0 < 0
    · go_wp2
      go_ret
      exact ⟨rfl, B1.out⟩
    · have k2 : 4010 < a0 := by omega
      go_wp2
      go_ret
      exact ⟨rfl, B1.out⟩

end Go.Proofs.YtgachdaphdjddaaGreatDoor
