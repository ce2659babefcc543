/-
  The walk of the law FileFall.
-/
import Derived.Test.YtlcilbbgfilefaaFileAllWalk
namespace Go.Proofs.Ytlcilbbgfilefaa
open Go.RowKit

set_option maxHeartbeats 4000000 in
set_option maxRecDepth 100000 in
theorem fileFall_walk (a0 : Option Addr) (c0 : Nat) (l0 : List Op3) {w : World} (h0 : Ol3 w a0 c0 l0) (n : Int) (wn : (Lit.int .i64 n).wf = true) (m : Int) (wm : (Lit.int .i64 m).wf = true) :
    Calls Try.prog 4 #[.slice a0 l0.length c0, .int .i64 n, .int .i64 m] w fun e w' => e = .returned (.bool true) ∧ Below w.heap.size w w' := by
  have H0 := Lib.hid h0
  have HN := Lib.hid (bounds_i64 wn)
  have HM := Lib.hid (bounds_i64 wm)
  have hlen := h0.len
  clear h0 wn wm
  go_enter Try.func4, Try.ntmps4
  go_wp2_with fail
  refine (begun3_calls _).mono ?_
  rintro e x1 ⟨rfl, hb1⟩
  have B1 := Lib.hid hb1
  clear hb1
  go_wp2_with fail
  refine (dk_new 2000 _).mono ?_
  rintro e x2 ⟨rfl, hd2⟩
  have D2 := Lib.hid hd2
  clear hd2
  go_wp2_with fail
  refine (newRef_calls 2000 _).mono ?_
  rintro e x3 ⟨rfl, hr3, hb3⟩
  have H3 := Lib.hid (two_new D2.out hr3 hb3)
  clear hr3 hb3 D2
  generalize x1.heap.size = d0 at H3 ⊢
  generalize x2.heap.size = r0 at H3 ⊢
  generalize roomOf 2000 = room at H3
  go_wp2_with fail
  go_loopw [8, 9, 10, 11] (fun v6 v7 v8 v9 wr => ∃ (k d r : Nat) (M : List Fm), k ≤ l0.length ∧ k ≤ 20 ∧ v9 = .int .i64 k ∧ v6 = .pointer (some ⟨d, 0, none⟩) ∧ v7 = .pointer (some ⟨r, 0, none⟩) ∧ v8 = .bool true ∧ Two [] x1 wr d r room M M ∧ M.length ≤ k) (fun _ _ _ i _ => l0.length - (intOf i).toNat)
  case atStart => exact ⟨0, d0, r0, [], by omega, by omega, rfl, rfl, rfl, rfl, H3.out, by simp⟩
  case round =>
    clear H3
    obtain ⟨k, d, r, M, hk, hk20, rfl, rfl, rfl, rfl, hT, hfew⟩ := hrel
    have HT := Lib.hid hT
    have HF := Lib.hid hfew
    clear hT hfew
    by_cases hgo : k < l0.length ∧ k < 20
    · obtain ⟨hlt, h20⟩ := hgo
      obtain ⟨ob, off, ha0, hob, hop⟩ := H0.out.at (by intro e; rw [e] at hlt; simp at hlt)
      subst ha0
      have hx0 := (hop k hlt).below B1.out hob (Nat.le_refl _)
      have hx1 := hx0.below HT.out.old.belowAll (by have := B1.out.size; omega) (Nat.le_refl _)
      generalize l0.getD k opNo = op at hx0 hx1
      obtain ⟨kd, nn, nm, tt, ba, bc, bl⟩ := op
      obtain ⟨⟨hkd, hnn, hnm, htt⟩, -, o0, o1, o2, o3, o4⟩ := hx1
      have hsl := hx0.2.1
      dsimp only at hkd hnn hnm htt hsl o0 o1 o2 o3 o4
      simp only [Addr.add_lit] at o1 o2 o3 o4
      have CD := Lib.hid (fun kd o => do_calls (HT.out.turn (Turn.alloc [] wr o)) kd nn hnn nm tt hnm htt ba bc bl hsl (by have := HF.out; omega))
      have hd20 : decide ((k : Int) < 20) = true := by simp; omega
      have hlt2 : (k : Int) < (l0.length : Int) := by omega
      clear hop hsl hx0 hkd hnn hnm htt
      generalize bl.length = bn at *
      by_cases k4 : kd = 4
      · subst k4
        go_wp2_with fail
        refine (CD.out _ _).mono ?_
        rintro e x5 ⟨d5, r5, M5, rfl, hT5, hl5⟩
        have HT5 := Lib.hid hT5
        have HL5 := Lib.hid hl5
        clear hT5 hl5 o0 o1 o2 o3 o4 CD
        go_wp2
        go_roundw
        case rel => exact ⟨k + 1, d5, r5, M5, by omega, by omega, by go_num, rfl, rfl, rfl, HT5.out, by have := HL5.out; have := HF.out; omega⟩
        case measure => simp [intOf]; omega
      · have k4' : decide (kd = 4) = false := by simpa using k4
        have k4'' : (kd == 4) = false := by simpa using k4
        go_wp2_with fail
        refine (CD.out _ _).mono ?_
        rintro e x5 ⟨d5, r5, M5, rfl, hT5, hl5⟩
        have HT5 := Lib.hid hT5
        have HL5 := Lib.hid hl5
        clear hT5 hl5 o0 o1 o2 o3 o4 CD
        go_wp2
        go_roundw
        case rel => exact ⟨k + 1, d5, r5, M5, by omega, by omega, by go_num, rfl, rfl, rfl, HT5.out, by have := HL5.out; have := HF.out; omega⟩
        case measure => simp [intOf]; omega
    · have hend : ¬ k < l0.length ∨ k < l0.length ∧ decide ((k : Int) < 20) = false := by
        simp
        omega
      have hM : M.length ≤ 20 := by have := HF.out; omega
      obtain ⟨hq, l, kk, hd, hr, -, -⟩ := HT.out
      have htot := hd.total
      have BQ := Lib.hid (B1.out.trans (hq.belowAll.mono B1.out.size))
      have HFA := Lib.hid (mFall_length n M)
      have HFB := Lib.hid (mFall_length m M)
      have C1 := Lib.hid (fall_calls n HN.out wr hd (by omega))
      have HD := Lib.hid hd
      have HR := Lib.hid hr
      have HTOT := Lib.hid htot
      clear hgo hq hd hr htot HT HF H0
      rcases hend with hlt | ⟨hlt, hd20⟩
      all_goals
        go_wp2_with fail
        refine C1.out.mono ?_
        rintro e w1 ⟨ba, la, rfl, hda, hb1, -⟩
        have t1 := Turn.of_below hb1 []
        have HDA := Lib.hid hda
        have T1 := Lib.hid t1
        have C2 := Lib.hid (fall_calls m HM.out w1 (HD.out.turn t1 (by simp)) (by omega))
        clear hda hb1 t1 C1
        go_wp2_with fail
        refine C2.out.mono ?_
        rintro e w2 ⟨bb, lb, rfl, hdb, hb2, -⟩
        have T12 := Turn.of_below hb2 []
        have T2 := Lib.hid (T1.out.trans T12 (by simp))
        have HDA2 := Lib.hid (HDA.out.turn T12 (by simp))
        have HDB := Lib.hid hdb
        have C3 := Lib.hid (refFall_calls n HN.out w2 (HR.out.turn T2.out (by simp)) (by omega) (by have := HTOT.out; omega))
        clear hdb hb2 T12 C2 HDA T1
        go_wp2_with fail
        refine C3.out.mono ?_
        rintro e w3 ⟨ra, ka, rfl, hra, hb3, -⟩
        have T23 := Turn.of_below hb3 []
        have T3 := Lib.hid (T2.out.trans T23 (by simp))
        have HDA3 := Lib.hid (HDA2.out.turn T23 (by simp))
        have HDB3 := Lib.hid (HDB.out.turn T23 (by simp))
        have C4 := Lib.hid (same_calls w3 HDA3.out hra (by have := HFA.out; omega))
        clear hra hb3 T23 C3 HDA2 HDB T2
        go_wp2_with fail
        refine C4.out.mono ?_
        rintro e w4 ⟨rfl, hb4⟩
        have T34 := Turn.of_below hb4 []
        have T4 := Lib.hid (T3.out.trans T34 (by simp))
        have HDA4 := Lib.hid (HDA3.out.turn T34 (by simp))
        have HDB4 := Lib.hid (HDB3.out.turn T34 (by simp))
        have C5 := Lib.hid (refFall_calls m HM.out w4 (HR.out.turn T4.out (by simp)) (by omega) (by have := HTOT.out; omega))
        clear hb4 T34 C4 HDA3 HDB3 T3
        go_wp2_with fail
        refine C5.out.mono ?_
        rintro e w5 ⟨rb, kb, rfl, hrb, hb5, -⟩
        have T45 := Turn.of_below hb5 []
        have T5 := Lib.hid (T4.out.trans T45 (by simp))
        have HDA5 := Lib.hid (HDA4.out.turn T45 (by simp))
        have C6 := Lib.hid (same_calls w5 (HDB4.out.turn T45 (by simp)) hrb (by have := HFB.out; omega))
        clear hrb hb5 T45 C5 HDA4 HDB4 T4
        go_wp2_with fail
        refine C6.out.mono ?_
        rintro e w6 ⟨rfl, hb6⟩
        have T56 := Turn.of_below hb6 []
        have T6 := Lib.hid (T5.out.trans T56 (by simp))
        have C7 := Lib.hid (fall_calls m HM.out w6 (HDA5.out.turn T56 (by simp)) (by have := HFA.out; omega))
        clear hb6 T56 C6 HDA5 T5
        go_wp2_with fail
        refine C7.out.mono ?_
        rintro e w7 ⟨bd, ld, rfl, hdd, hb7, -⟩
        rw [mFall_twice] at hdd
        have T67 := Turn.of_below hb7 []
        have T7 := Lib.hid (T6.out.trans T67 (by simp))
        have HDD := Lib.hid hdd
        have C8 := Lib.hid (refFall_calls n HN.out w7 (HR.out.turn T7.out (by simp)) (by omega) (by have := HTOT.out; omega))
        clear hdd hb7 T67 C7 T6
        go_wp2_with fail
        refine C8.out.mono ?_
        rintro e w8 ⟨rd, kd, rfl, hrd, hb8, -⟩
        have T78 := Turn.of_below hb8 []
        have T8 := Lib.hid (T7.out.trans T78 (by simp))
        have C9 := Lib.hid (same_calls w8 (HDD.out.turn T78 (by simp)) hrd (by have := HFA.out; omega))
        clear hrd hb8 T78 C8 HDD T7
        go_wp2_with fail
        refine C9.out.mono ?_
        rintro e w9 ⟨rfl, hb9⟩
        have T9 := Lib.hid (T8.out.trans (Turn.of_below hb9 []) (by simp))
        have C10 := Lib.hid (same_calls w9 (HD.out.turn T9.out (by simp)) (HR.out.turn T9.out (by simp)) (by omega))
        clear hb9 C9 T8
        go_wp2_with fail
        refine C10.out.mono ?_
        rintro e w10 ⟨rfl, hb10⟩
        have T10 := Lib.hid (T9.out.trans (Turn.of_below hb10 []) (by simp))
        clear hb10 C10 T9
        go_wp2
        go_ret
        exact ⟨rfl, BQ.out.trans (T10.out.belowAll.mono BQ.out.size)⟩

end Go.Proofs.Ytlcilbbgfilefaa
