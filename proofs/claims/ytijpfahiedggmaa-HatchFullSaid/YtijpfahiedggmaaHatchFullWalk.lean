/-
  The walk of the law HatchFull.
-/
import Derived.Test.YtijpfahiedggmaaBegun5
import Derived.Test.YtijpfahiedggmaaHatB
namespace Go.Proofs.Ytijpfahiedggmaa
open Go.RowKit Go.Conc

theorem all_snoc {F : List (Nat × Value)} {v : Value} {k : Nat} (h : ∀ p ∈ F, p.2 = v) : ∀ p ∈ F ++ [(k, v)], p.2 = v := by
  intro p hp
  rcases List.mem_append.1 hp with hp | hp
  · exact h p hp
  · simp at hp
    rw [hp]

set_option maxHeartbeats 4000000 in
set_option maxRecDepth 100000 in
theorem hatchFull_walk {w : World} (a0 : Int) (_w0 : (Lit.int .i64 a0).wf = true) (a1 : Int) (_w1 : (Lit.int .i64 a1).wf = true) (a2 : Int) (_w2 : (Lit.int .i64 a2).wf = true) :
    Calls Try.prog 4 #[.int .i64 a0, .int .i64 a1, .int .i64 a2] w fun e w' => e = .returned (.bool true) ∧ Below w.heap.size w w' := by
  clear _w0 _w1 _w2
  by_cases hin : (0 ≤ a1 ∧ a1 ≤ 80) ∧ (0 ≤ a2 ∧ a2 ≤ 80)
  · obtain ⟨na, rfl⟩ : ∃ n : Nat, a1 = (n : Int) := ⟨a1.toNat, by omega⟩
    obtain ⟨nb, rfl⟩ : ∃ n : Nat, a2 = (n : Int) := ⟨a2.toNat, by omega⟩
    have ha : na ≤ 80 := by omega
    have hb : nb ≤ 80 := by omega
    clear hin
    have g1 : decide ((na : Int) < 0) = false := by simp; try omega
    have g2 : decide (80 < (na : Int)) = false := by simp; try omega
    have g3 : decide ((nb : Int) < 0) = false := by simp; try omega
    have g4 : decide (80 < (nb : Int)) = false := by simp; try omega
    obtain ⟨r0, r1, r2⟩ := roomOf_is a0
    have HN := Lib.hid (fun w => newB a0 w)
    generalize roomOf a0 = m at *
    have hm : max 1 (min a0 64) = (m : Int) := r0.symm
    have HM := Lib.hid hm
    clear r0
    go_enter Try.func4, Try.ntmps4
    go_wp2_with fail
    refine (begun_calls _).mono ?_
    rintro e x1 ⟨rfl, hb1⟩
    go_wp2_with fail
    refine (HN.out x1).mono ?_
    rintro e x2 ⟨b, c1, c2, rfl, h2, t2, hc0, hc1, hc2⟩
    have T2 : Hid (Turn [b, c1, c2] w x2) := Lib.hid ((Turn.of_below hb1 [b, c1, c2]).trans t2 (by simp))
    have BD := Lib.hid (show ∀ k ∈ [b, c1, c2], w.heap.size ≤ k by have := hb1.size; simp; omega)
    have H2 := Lib.hid h2
    clear h2 t2 hb1 hc0 hc1 hc2 g1 g2 g3 g4
    go_wp2_with fail
    go_loopw [10] (fun i wr => ∃ (k : Nat) (F : List (Nat × Value)), k ≤ na ∧ i = .int .i64 k ∧ HB wr b c1 c2 m F [] (k - m) ∧ F.length = min k m ∧ (∀ p ∈ F, p.2 = .bool true) ∧ Turn [b, c1, c2] w wr) (fun i _ => na - (intOf i).toNat)
    case atStart => exact ⟨0, [], by omega, rfl, by rw [Nat.zero_sub]; exact H2.out, by simp, by simp, T2.out⟩
    case round =>
      clear H2 T2 HN
      obtain ⟨k, F, hk, rfl, hh, hF, hall, ht⟩ := hrel
      have H3 := Lib.hid hh
      have T3 := Lib.hid ht
      have HF := Lib.hid hF
      have HALL := Lib.hid hall
      clear hh ht hF hall
      by_cases hlt : k < na
      · by_cases hr : k < m
        · have hd : decide ((k : Int) < (m : Int)) = true := by simp; omega
          go_wp2_with fail
          refine (fastB_room H3.out true (by rw [HF.out]; omega)).mono ?_
          rintro e x3 ⟨rfl, h4, t4⟩
          have H4 := Lib.hid h4
          have T4 := Lib.hid t4
          clear h4 t4
          have hmm := HM.out
          go_wp2
          go_roundw
          case rel => exact ⟨k + 1, _, by omega, by go_num, by rw [show k + 1 - m = k - m by omega]; exact H4.out, by have := HF.out; simp; omega, all_snoc HALL.out, T3.out.trans T4.out (by simp)⟩
          case measure => simp [intOf]; omega
        · have hd : decide ((k : Int) < (m : Int)) = false := by simp; omega
          go_wp2_with fail
          refine (fastB_full H3.out true (by rw [HF.out]; omega) (by omega)).mono ?_
          rintro e x3 ⟨rfl, h4, t4⟩
          have H4 := Lib.hid h4
          have T4 := Lib.hid t4
          clear h4 t4
          have hmm := HM.out
          go_wp2
          go_roundw
          case rel => exact ⟨k + 1, F, by omega, by go_num, by rw [show k + 1 - m = k - m + 1 by omega]; exact H4.out, by have := HF.out; omega, HALL.out, T3.out.trans T4.out (by simp)⟩
          case measure => simp [intOf]; omega
      · obtain rfl : k = na := by omega
        clear hk
        go_wp2_with fail
        go_loopw [11] (fun i wr => ∃ (j : Nat) (S : List (Nat × Value)), j ≤ nb ∧ i = .int .i64 j ∧ HB wr b c1 c2 m F S (k - m + (j - m)) ∧ S.length = min j m ∧ (∀ p ∈ S, p.2 = .bool false) ∧ Turn [b, c1, c2] w wr) (fun i _ => nb - (intOf i).toNat)
        case atStart => exact ⟨0, [], by omega, rfl, by rw [Nat.zero_sub]; exact H3.out, by simp, by simp, T3.out⟩
        case round =>
          clear H3 T3
          obtain ⟨j, S, hj, rfl, hh, hS, hall, ht⟩ := hrel
          have H3 := Lib.hid hh
          have T3 := Lib.hid ht
          have HS := Lib.hid hS
          have SALL := Lib.hid hall
          clear hh ht hS hall
          by_cases hjt : j < nb
          · by_cases hr : j < m
            · have hd : decide ((j : Int) < (m : Int)) = true := by simp; omega
              go_wp2_with fail
              refine (slowB_room H3.out false (by rw [HS.out]; omega)).mono ?_
              rintro e x3 ⟨rfl, h4, t4⟩
              have H4 := Lib.hid h4
              have T4 := Lib.hid t4
              clear h4 t4
              go_wp2
              go_roundw
              case rel => exact ⟨j + 1, _, by omega, by go_num, by rw [show j + 1 - m = j - m by omega]; exact H4.out, by have := HS.out; simp; omega, all_snoc SALL.out, T3.out.trans T4.out (by simp)⟩
              case measure => simp [intOf]; omega
            · have hd : decide ((j : Int) < (m : Int)) = false := by simp; omega
              go_wp2_with fail
              refine (slowB_full H3.out false (by rw [HS.out]; omega) (by omega)).mono ?_
              rintro e x3 ⟨rfl, h4, t4⟩
              have H4 := Lib.hid h4
              have T4 := Lib.hid t4
              clear h4 t4
              go_wp2
              go_roundw
              case rel => exact ⟨j + 1, S, by omega, by go_num, by rw [show k - m + (j + 1 - m) = k - m + (j - m) + 1 by omega]; exact H4.out, by have := HS.out; omega, SALL.out, T3.out.trans T4.out (by simp)⟩
              case measure => simp [intOf]; omega
          · obtain rfl : j = nb := by omega
            clear hj
            go_wp2_with fail
            refine (lenHB H3.out).mono ?_
            rintro e x4 ⟨rfl, t4⟩
            have H4 := Lib.hid (H3.out.nil t4)
            have T4 : Hid (Turn [b, c1, c2] w x4) := Lib.hid (T3.out.trans t4 (by simp))
            clear t4 H3 T3
            rw [HF.out, HS.out]
            obtain ⟨P, hP⟩ : ∃ P, P = min k m := ⟨_, rfl⟩
            obtain ⟨R, hR⟩ : ∃ R, R = min j m := ⟨_, rfl⟩
            have hPi : min (k : Int) (m : Int) = (P : Int) := by omega
            have hRi : min (j : Int) (m : Int) = (R : Int) := by omega
            have HP := Lib.hid hP
            have HR := Lib.hid hR
            rw [← hP, ← hR]
            have HF' : Hid (F.length = P) := Lib.hid (by rw [HF.out, HP.out])
            have HS' : Hid (S.length = R) := Lib.hid (by rw [HS.out, HR.out])
            clear hP hR HF HS
            go_wp2_with fail
            go_loopw [14] (fun i wr => ∃ (q : Nat) (G : List (Nat × Value)), q ≤ P ∧ i = .int .i64 q ∧ HB wr b c1 c2 m G S (k - m + (j - m)) ∧ G.length + q = P ∧ (∀ p ∈ G, p.2 = .bool true) ∧ Turn [b, c1, c2] w wr) (fun i _ => P - (intOf i).toNat)
            case atStart => exact ⟨0, F, by omega, rfl, H4.out, HF'.out, HALL.out, T4.out⟩
            case round =>
              clear H4 T4 HF' HALL
              obtain ⟨q, G, hq, rfl, hh, hG, hall, ht⟩ := hrel
              have H3 := Lib.hid hh
              have T3 := Lib.hid ht
              have HALL := Lib.hid hall
              clear hh ht hall
              rcases G with _ | ⟨⟨kk, v⟩, G⟩
              · obtain rfl : q = P := by simpa using hG
                clear hq hG
                obtain ⟨d1, hd1⟩ : ∃ d : Nat, d = k - m := ⟨_, rfl⟩
                obtain ⟨d2, hd2⟩ : ∃ d : Nat, d = j - m := ⟨_, rfl⟩
                have hx1 : max 0 ((k : Int) - (m : Int)) = (d1 : Int) := by omega
                have hx2 : max 0 ((j : Int) - (m : Int)) = (d2 : Int) := by omega
                rw [← hd1, ← hd2] at H3
                have hd1' : d1 ≤ 80 := by omega
                have hd2' : d2 ≤ 80 := by omega
                clear hd1 hd2
                go_wp2_with fail
                rcases S with _ | ⟨⟨kk, v⟩, S⟩
                · have hj0 : j = 0 := by have h1 := HR.out; have h2 := HS'.out; simp at h2; omega
                  have hjz : decide (0 < (j : Int)) = false := by simp; omega
                  refine (takB_none H3.out).mono ?_
                  rintro e x5 ⟨rfl, rfl⟩
                  go_wp2_with fail
                  refine (lostB H3.out).mono ?_
                  rintro e x6 ⟨rfl, rfl⟩
                  go_wp2
                  go_ret
                  exact ⟨by first | rfl | (refine ret_bool ?_; simp; omega), T3.out.below BD.out (Nat.le_refl _)⟩
                · obtain rfl := SALL.out (kk, v) (by simp)
                  refine (takB_slow H3.out).mono ?_
                  rintro e x5 ⟨rfl, h5, t5⟩
                  have H5 := Lib.hid h5
                  have T5 := Lib.hid (T3.out.trans t5 (by simp))
                  clear h5 t5
                  have hj1 : 0 < j := by have h1 := HR.out; have h2 := HS'.out; simp at h2; omega
                  have hjz : decide (0 < (j : Int)) = true := by simp; omega
                  go_wp2_with fail
                  refine (lostB H5.out).mono ?_
                  rintro e x6 ⟨rfl, rfl⟩
                  go_wp2
                  go_ret
                  exact ⟨by first | rfl | (refine ret_bool ?_; simp; omega), T5.out.below BD.out (Nat.le_refl _)⟩
              · obtain rfl := HALL.out (kk, v) (by simp)
                have hlt : q < P := by simp at hG; omega
                go_wp2_with fail
                refine (takB_fast H3.out).mono ?_
                rintro e x5 ⟨rfl, h5, t5⟩
                have H5 := Lib.hid h5
                have T5 := Lib.hid t5
                clear h5 t5
                go_wp2
                go_roundw
                case rel => exact ⟨q + 1, G, by omega, by go_num, H5.out, by simp at hG; omega, fun p hp => HALL.out p (by simp [hp]), T3.out.trans T5.out (by simp)⟩
                case measure => simp [intOf]; omega
  · go_enter Try.func4, Try.ntmps4
    go_wp2_with fail
    refine (begun_calls _).mono ?_
    rintro e x1 ⟨rfl, hb1⟩
    have B1 := Lib.hid hb1
    clear hb1
    by_cases k1 : a1 < 0
    · go_wp2
      go_ret
      exact ⟨rfl, B1.out⟩
    · by_cases k2 : 80 < a1
      · go_wp2
        go_ret
        exact ⟨rfl, B1.out⟩
      · by_cases k3 : a2 < 0
        · go_wp2
          go_ret
          exact ⟨rfl, B1.out⟩
        · have k4 : 80 < a2 := by omega
          go_wp2
          go_ret
          exact ⟨rfl, B1.out⟩

end Go.Proofs.Ytijpfahiedggmaa
