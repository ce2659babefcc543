/-
  The walk of the law HatchRound.
-/
import Derived.Test.YtijpfahiedggmaaBegun5
import Derived.Test.YtijpfahiedggmaaHatS
namespace Go.Proofs.Ytijpfahiedggmaa
open Go.RowKit Go.Conc

theorem all_snocS {F : List (Nat × Value)} {v : Value} {k : Nat} (h : ∀ p ∈ F, p.2 = v) : ∀ p ∈ F ++ [(k, v)], p.2 = v := by
  intro p hp
  rcases List.mem_append.1 hp with hp | hp
  · exact h p hp
  · simp at hp
    rw [hp]

set_option maxHeartbeats 4000000 in
set_option maxRecDepth 100000 in
theorem hatchRound_walk {w : World} (a0 : Int) (_w0 : (Lit.int .i64 a0).wf = true) (a1 : Int) (_w1 : (Lit.int .i64 a1).wf = true) (a2 : Int) (_w2 : (Lit.int .i64 a2).wf = true) :
    Calls Try.prog 7 #[.int .i64 a0, .int .i64 a1, .int .i64 a2] w fun e w' => e = .returned (.bool true) ∧ Below w.heap.size w w' := by
  clear _w0 _w1 _w2
  by_cases hin : (0 ≤ a1 ∧ a1 ≤ 70) ∧ (0 ≤ a2 ∧ a2 ≤ 5)
  · obtain ⟨na, rfl⟩ : ∃ n : Nat, a1 = (n : Int) := ⟨a1.toNat, by omega⟩
    obtain ⟨nb, rfl⟩ : ∃ n : Nat, a2 = (n : Int) := ⟨a2.toNat, by omega⟩
    have ha : na ≤ 70 := by omega
    have hb : nb ≤ 5 := by omega
    clear hin
    have g1 : decide ((na : Int) < 0) = false := by simp; try omega
    have g2 : decide (70 < (na : Int)) = false := by simp; try omega
    have g3 : decide ((nb : Int) < 0) = false := by simp; try omega
    have g4 : decide (5 < (nb : Int)) = false := by simp; try omega
    obtain ⟨r0, r1, r2⟩ := roomOf_is a0
    have HN := Lib.hid (fun w => newS a0 w)
    generalize roomOf a0 = m at *
    have hm : max 1 (min a0 64) = (m : Int) := r0.symm
    have HM := Lib.hid hm
    clear r0
    obtain ⟨d, hd⟩ : ∃ d : Nat, d = na - m := ⟨_, rfl⟩
    obtain ⟨P, hP⟩ : ∃ P : Nat, P = min na m := ⟨_, rfl⟩
    have hx1 : max 0 ((na : Int) - (m : Int)) = (d : Int) := by omega
    have hPi : min (na : Int) (m : Int) = (P : Int) := by omega
    have HD := Lib.hid hd
    have HP := Lib.hid hP
    have hd70 : d ≤ 70 := by omega
    clear hd hP
    go_enter Try.func7, Try.ntmps7
    go_wp2_with fail
    refine (begun_calls _).mono ?_
    rintro e x1 ⟨rfl, hb1⟩
    go_wp2_with fail
    refine (HN.out x1).mono ?_
    rintro e x2 ⟨b, c1, c2, rfl, h2, t2, hc0, hc1, hc2⟩
    have T2 : Hid (Turn [b, c1, c2] w x2) := Lib.hid ((Turn.of_below hb1 [b, c1, c2]).trans t2 (by simp))
    have BD := Lib.hid (show ∀ k ∈ [b, c1, c2], w.heap.size ≤ k by have := hb1.size; simp; omega)
    have H2 := Lib.hid h2
    clear h2 t2 hb1 hc0 hc1 hc2 g1 g2 g3 g4
    go_wp2_with fail
    go_loopw [10, 11] (fun l i wr => ∃ q lo : Nat, q ≤ nb ∧ i = .int .i64 q ∧ l = .int .i64 lo ∧ lo ≤ 70 * q ∧ HS wr b c1 c2 m [] [] lo ∧ Turn [b, c1, c2] w wr) (fun _ i _ => nb - (intOf i).toNat)
    case atStart => exact ⟨0, 0, by omega, rfl, rfl, by omega, H2.out, T2.out⟩
    case round =>
      clear H2 T2 HN
      obtain ⟨q, lo, hq, rfl, rfl, hlo, hh, ht⟩ := hrel
      have H3 := Lib.hid hh
      have T3 := Lib.hid ht
      clear hh ht
      by_cases hqt : q < nb
      · go_wp2_with fail
        go_loopw [12] (fun i wr => ∃ (k : Nat) (S : List (Nat × Value)), k ≤ na ∧ i = .int .i64 k ∧ HS wr b c1 c2 m [] S (lo + (k - m)) ∧ S.length = min k m ∧ (∀ p ∈ S, p.2 = .string ⟨#[120]⟩) ∧ Turn [b, c1, c2] w wr) (fun i _ => na - (intOf i).toNat)
        case atStart => exact ⟨0, [], by omega, rfl, by rw [Nat.zero_sub]; exact H3.out, by simp, by simp, T3.out⟩
        case round =>
          clear H3 T3
          obtain ⟨k, S, hk, rfl, hh, hS, hall, ht⟩ := hrel
          have H3 := Lib.hid hh
          have T3 := Lib.hid ht
          have HSL := Lib.hid hS
          have HALL := Lib.hid hall
          clear hh ht hS hall
          by_cases hlt : k < na
          · by_cases hr : k < m
            · have hd : decide ((k : Int) < (m : Int)) = true := by simp; omega
              go_wp2_with fail
              refine (slowS_room H3.out ⟨#[120]⟩ (by rw [HSL.out]; omega)).mono ?_
              rintro e x3 ⟨rfl, h4, t4⟩
              have H4 := Lib.hid h4
              have T4 := Lib.hid t4
              clear h4 t4
              go_wp2
              go_roundw
              case rel => exact ⟨k + 1, _, by omega, by go_num, by rw [show k + 1 - m = k - m by omega]; exact H4.out, by have := HSL.out; simp; omega, all_snocS HALL.out, T3.out.trans T4.out (by simp)⟩
              case measure => simp [intOf]; omega
            · have hd : decide ((k : Int) < (m : Int)) = false := by simp; omega
              go_wp2_with fail
              refine (slowS_full H3.out ⟨#[120]⟩ (by rw [HSL.out]; omega) (by omega)).mono ?_
              rintro e x3 ⟨rfl, h4, t4⟩
              have H4 := Lib.hid h4
              have T4 := Lib.hid t4
              clear h4 t4
              go_wp2
              go_roundw
              case rel => exact ⟨k + 1, S, by omega, by go_num, by rw [show lo + (k + 1 - m) = lo + (k - m) + 1 by omega]; exact H4.out, by have := HSL.out; omega, HALL.out, T3.out.trans T4.out (by simp)⟩
              case measure => simp [intOf]; omega
          · obtain rfl : k = na := by omega
            clear hk
            rw [← HD.out] at H3
            rw [← HP.out] at HSL
            go_wp2_with fail
            go_loopw [13] (fun i wr => ∃ (j : Nat) (G : List (Nat × Value)), j ≤ P ∧ i = .int .i64 j ∧ HS wr b c1 c2 m [] G (lo + d) ∧ G.length + j = P ∧ (∀ p ∈ G, p.2 = .string ⟨#[120]⟩) ∧ Turn [b, c1, c2] w wr) (fun i _ => P - (intOf i).toNat)
            case atStart => exact ⟨0, S, by omega, rfl, H3.out, by simpa using HSL.out, HALL.out, T3.out⟩
            case round =>
              clear H3 T3 HSL HALL
              obtain ⟨j, G, hj, rfl, hh, hG, hall, ht⟩ := hrel
              have H3 := Lib.hid hh
              have T3 := Lib.hid ht
              have HALL := Lib.hid hall
              clear hh ht hall
              rcases G with _ | ⟨⟨kk, v⟩, G⟩
              · obtain rfl : j = P := by simpa using hG
                clear hj hG
                go_wp2_with fail
                refine (takS_none H3.out).mono ?_
                rintro e x5 ⟨rfl, rfl⟩
                go_wp2
                go_roundw
                case rel => exact ⟨q + 1, lo + d, by omega, by go_num, by go_num, by omega, H3.out, T3.out⟩
                case measure => simp [intOf]; omega
              · obtain rfl := HALL.out (kk, v) (by simp)
                have hlt : j < P := by simp at hG; omega
                go_wp2_with fail
                refine (takS_slow H3.out).mono ?_
                rintro e x5 ⟨rfl, h5, t5⟩
                have H5 := Lib.hid h5
                have T5 := Lib.hid t5
                clear h5 t5
                go_wp2
                go_roundw
                case rel => exact ⟨j + 1, G, by omega, by go_num, H5.out, by simp at hG; omega, fun p hp => HALL.out p (by simp [hp]), T3.out.trans T5.out (by simp)⟩
                case measure => simp [intOf]; omega
      · go_wp2_with fail
        refine (lostS H3.out).mono ?_
        rintro e x5 ⟨rfl, rfl⟩
        go_wp2
        go_ret
        exact ⟨by first | rfl | (refine ret_bool ?_; simp), T3.out.below BD.out (Nat.le_refl _)⟩
  · go_enter Try.func7, Try.ntmps7
    go_wp2_with fail
    refine (begun_calls _).mono ?_
    rintro e x1 ⟨rfl, hb1⟩
    have B1 := Lib.hid hb1
    clear hb1
    by_cases k1 : a1 < 0
    · go_wp2
      go_ret
      exact ⟨rfl, B1.out⟩
    · by_cases k2 : 70 < a1
      · go_wp2
        go_ret
        exact ⟨rfl, B1.out⟩
      · by_cases k3 : a2 < 0
        · go_wp2
          go_ret
          exact ⟨rfl, B1.out⟩
        · have k4 : 5 < a2 := by omega
          go_wp2
          go_ret
          exact ⟨rfl, B1.out⟩

end Go.Proofs.Ytijpfahiedggmaa
