/-
  The walks of the laws KindTids, KindHomes.
-/
import Derived.Test.YtanjbbmgpodbgaaBegun8
import Derived.Test.YtanjbbmgpodbgaaLrecWalk
namespace Go.Proofs.Ytanjbbmgpodbgaa
open Go.RowKit

theorem makeZ_home (b n : Int) : (makeZ b n = 0 ∧ homeZ (makeZ b n) = 0) ∨ (makeZ b n ≠ 0 ∧ homeZ (makeZ b n) = b ∧ 0 < b) := by
  unfold makeZ brokerB
  simp only [decide_eq_true_eq]
  split
  · right
    have := (homeZ_is (t := b * 4294967296 + n) (b := b) (by omega) (by omega)).2 ⟨by omega, by omega⟩
    refine ⟨by omega, this, by omega⟩
  · left
    refine ⟨rfl, ?_⟩
    unfold homeZ
    rw [if_neg (by omega)]

theorem makeZ_ok (b n : Int) : -9223372036854775808 ≤ makeZ b n ∧ makeZ b n ≤ 9223372036854775807 := by
  unfold makeZ brokerB
  simp only [decide_eq_true_eq]
  split <;> omega

set_option maxHeartbeats 4000000 in
set_option maxRecDepth 100000 in
theorem kindTids_walk (F : RecFace) (a0 : Int) (_w0 : (Lit.int .i64 a0).wf = true) (a1 : Int) (_w1 : (Lit.int .i64 a1).wf = true) (a2 : Int) (w2 : (Lit.int .i64 a2).wf = true) {w : World} :
    Calls Try.prog 4 #[.int .i64 a0, .int .i64 a1, .int .i64 a2] w fun e w' => e = .returned (.bool true) ∧ Below w.heap.size w w' := by
  have h2 := bounds_i64 w2
  have K1 := Lib.hid (fun w => kindMake_calls a0 a1 w)
  have K2 := Lib.hid (fun w => refMake_calls a0 a1 w)
  have K3 := Lib.hid (fun w => kindTid_calls (makeZ a0 a1) w (makeZ_ok a0 a1))
  have K4 := Lib.hid (fun w => kindHome_calls (makeZ a0 a1) w (makeZ_ok a0 a1))
  have K5 := Lib.hid (fun w => kindTid_calls a2 w h2)
  have K6 := Lib.hid (fun w => refTid_calls a2 w)
  have K7 := Lib.hid (fun w => kindHome_calls a2 w h2)
  have K8 := Lib.hid (fun w => refHome_calls a2 w)
  have HM := makeZ_home a0 a1
  clear h2 w2
  generalize makeZ a0 a1 = m at *
  generalize homeZ m = hm at *
  generalize decide (0 < homeZ a2) = r1 at *
  generalize homeZ a2 = r2 at *
  rcases HM with ⟨rfl, rfl⟩ | ⟨hm0, rfl, hp⟩
  · go_enter Try.func4, Try.ntmps4
    go_wp2_with fail
    refine (begun8_calls F _).mono ?_
    rintro e x1 ⟨rfl, t1⟩
    have T1 := Lib.hid t1
    clear t1
    go_wp2_with fail
    refine (K1.out _).mono ?_
    rintro e x2 ⟨rfl, rfl⟩
    go_wp2_with fail
    refine (K2.out _).mono ?_
    rintro e x2 ⟨rfl, rfl⟩
    go_wp2_with fail
    refine (K3.out _).mono ?_
    rintro e x2 ⟨rfl, rfl⟩
    go_wp2_with fail
    refine (K5.out _).mono ?_
    rintro e x2 ⟨rfl, rfl⟩
    go_wp2_with fail
    refine (K6.out _).mono ?_
    rintro e x2 ⟨rfl, rfl⟩
    go_wp2_with fail
    refine (K7.out _).mono ?_
    rintro e x2 ⟨rfl, rfl⟩
    go_wp2_with fail
    refine (K8.out _).mono ?_
    rintro e x2 ⟨rfl, rfl⟩
    go_wp2
    go_ret
    exact ⟨ret_bool (by simp), T1.out.belowAll⟩
  · have f1 : (m == 0) = false := by simpa using hm0
    have f2 : (m != 0) = true := by simpa using hm0
    have f3 : decide (0 < hm) = true := decide_eq_true hp
    rw [f3] at K3
    go_enter Try.func4, Try.ntmps4
    go_wp2_with fail
    refine (begun8_calls F _).mono ?_
    rintro e x1 ⟨rfl, t1⟩
    have T1 := Lib.hid t1
    clear t1 f3 hp hm0
    go_wp2_with fail
    refine (K1.out _).mono ?_
    rintro e x2 ⟨rfl, rfl⟩
    go_wp2_with fail
    refine (K2.out _).mono ?_
    rintro e x2 ⟨rfl, rfl⟩
    go_wp2_with fail
    refine (K3.out _).mono ?_
    rintro e x2 ⟨rfl, rfl⟩
    go_wp2_with fail
    refine (K4.out _).mono ?_
    rintro e x2 ⟨rfl, rfl⟩
    go_wp2_with fail
    refine (K5.out _).mono ?_
    rintro e x2 ⟨rfl, rfl⟩
    go_wp2_with fail
    refine (K6.out _).mono ?_
    rintro e x2 ⟨rfl, rfl⟩
    go_wp2_with fail
    refine (K7.out _).mono ?_
    rintro e x2 ⟨rfl, rfl⟩
    go_wp2_with fail
    refine (K8.out _).mono ?_
    rintro e x2 ⟨rfl, rfl⟩
    go_wp2
    go_ret
    exact ⟨ret_bool (by simp), T1.out.belowAll⟩

set_option maxHeartbeats 8000000 in
set_option maxRecDepth 100000 in
theorem kindHomes_walk (F : RecFace) (a0 : Int) (_w0 : (Lit.int .i64 a0).wf = true) (a1 : Int) (_w1 : (Lit.int .i64 a1).wf = true) (a2 : Int) (_w2 : (Lit.int .i64 a2).wf = true) (a3 : Int) (_w3 : (Lit.int .i64 a3).wf = true) {w : World} :
    Calls Try.prog 11 #[.int .i64 a0, .int .i64 a1, .int .i64 a2, .int .i64 a3] w fun e w' => e = .returned (.bool true) ∧ Below w.heap.size w w' := by
  have B0 := Lib.hid (fun w => refBroker_calls a0 w)
  have B1 := Lib.hid (fun w => refBroker_calls a1 w)
  have M0 := Lib.hid (fun w => kindMake_calls a0 a2 w)
  have N0 := Lib.hid (fun w => refMake_calls a0 a2 w)
  by_cases hin : brokerB a0 = true ∧ brokerB a1 = true ∧ 1 ≤ a2 ∧ a2 < 4294967296 ∧ 1 ≤ a3 ∧ a3 < 4294967296
  · obtain ⟨hb0, hb1, hn1, hn2, hm1, hm2⟩ := hin
    have hr0 := of_decide_eq_true hb0
    have hr1 := of_decide_eq_true hb1
    have M1 := Lib.hid (fun w => kindMake_calls a1 a3 w)
    have e0 : makeZ a0 a2 = a0 * 4294967296 + a2 := if_pos ⟨hb0, hn1, hn2⟩
    have e1 : makeZ a1 a3 = a1 * 4294967296 + a3 := if_pos ⟨hb1, hm1, hm2⟩
    rw [hb0] at B0
    rw [hb1] at B1
    rw [e0] at M0
    rw [e1] at M1
    obtain ⟨x, hx⟩ : ∃ x, x = a0 * 4294967296 + a2 := ⟨_, rfl⟩
    obtain ⟨y, hy⟩ : ∃ y, y = a1 * 4294967296 + a3 := ⟨_, rfl⟩
    have H0 := Lib.hid (fun w => kindHome_calls x w (by omega))
    have H1 := Lib.hid (fun w => kindHome_calls y w (by omega))
    rw [(homeZ_is hr0.1 hr0.2).2 (by omega)] at H0
    rw [(homeZ_is hr1.1 hr1.2).2 (by omega)] at H1
    rw [← hx] at M0
    rw [← hy] at M1
    rcases (by omega : a0 < a1 ∨ (a0 = a1 ∧ (a2 < a3 ∨ a2 = a3 ∨ a3 < a2)) ∨ a1 < a0) with h | ⟨h1, h | h | h⟩ | h
    · have q1 : (x == y) = false := by simp; omega
      have q2 : (a0 == a1) = false := by simp; omega
      have q3 : (a0 != a1) = true := by simp; omega
      have q4 : decide (x < y) = true := by simp; omega
      have q6 : ¬ a1 ≤ a0 := by omega
      clear e0 e1 hx hy hr0 hr1 hb0 hb1
      go_enter Try.func11, Try.ntmps11
      go_wp2_with fail
      refine (begun8_calls F _).mono ?_
      rintro e x1 ⟨rfl, t1⟩
      have T1 := Lib.hid t1
      clear t1
      go_wp2_with (first
        | (go_at_call 21; ((with_reducible refine (B0.out _).mono ?_); rintro e w' ⟨rfl, rfl⟩))
        | (go_at_call 21; ((with_reducible refine (B1.out _).mono ?_); rintro e w' ⟨rfl, rfl⟩))
        | (go_at_call 24; ((with_reducible refine (M0.out _).mono ?_); rintro e w' ⟨rfl, rfl⟩))
        | (go_at_call 24; ((with_reducible refine (M1.out _).mono ?_); rintro e w' ⟨rfl, rfl⟩))
        | (go_at_call 27; ((with_reducible refine (H0.out _).mono ?_); rintro e w' ⟨rfl, rfl⟩))
        | (go_at_call 27; ((with_reducible refine (H1.out _).mono ?_); rintro e w' ⟨rfl, rfl⟩)))
      all_goals go_ret
      all_goals exact ⟨ret_bool (by simp), T1.out.belowAll⟩
    · have q1 : (x == y) = false := by simp; omega
      have q2 : (a0 == a1) = true := by simp; omega
      have q3 : (a0 != a1) = false := by simp; omega
      have q4 : decide (x < y) = true := by simp; omega
      have q5 : decide (a2 < a3) = true := by simp; omega
      have q6 : a1 ≤ a0 := by omega
      have q7 : (a2 == a3) = false := by simp; omega
      clear h1
      clear e0 e1 hx hy hr0 hr1 hb0 hb1
      go_enter Try.func11, Try.ntmps11
      go_wp2_with fail
      refine (begun8_calls F _).mono ?_
      rintro e x1 ⟨rfl, t1⟩
      have T1 := Lib.hid t1
      clear t1
      go_wp2_with (first
        | (go_at_call 21; ((with_reducible refine (B0.out _).mono ?_); rintro e w' ⟨rfl, rfl⟩))
        | (go_at_call 21; ((with_reducible refine (B1.out _).mono ?_); rintro e w' ⟨rfl, rfl⟩))
        | (go_at_call 24; ((with_reducible refine (M0.out _).mono ?_); rintro e w' ⟨rfl, rfl⟩))
        | (go_at_call 24; ((with_reducible refine (M1.out _).mono ?_); rintro e w' ⟨rfl, rfl⟩))
        | (go_at_call 27; ((with_reducible refine (H0.out _).mono ?_); rintro e w' ⟨rfl, rfl⟩))
        | (go_at_call 27; ((with_reducible refine (H1.out _).mono ?_); rintro e w' ⟨rfl, rfl⟩)))
      all_goals go_ret
      all_goals exact ⟨ret_bool (by simp), T1.out.belowAll⟩
    · have q1 : (x == y) = true := by simp; omega
      have q2 : (a0 == a1) = true := by simp; omega
      have q3 : (a0 != a1) = false := by simp; omega
      have q4 : decide (x < y) = false := by simp; omega
      have q5 : decide (a2 < a3) = false := by simp; omega
      have q6 : a1 ≤ a0 := by omega
      have q7 : (a2 == a3) = true := by simp; omega
      clear h1 h
      clear e0 e1 hx hy hr0 hr1 hb0 hb1
      go_enter Try.func11, Try.ntmps11
      go_wp2_with fail
      refine (begun8_calls F _).mono ?_
      rintro e x1 ⟨rfl, t1⟩
      have T1 := Lib.hid t1
      clear t1
      go_wp2_with (first
        | (go_at_call 21; ((with_reducible refine (B0.out _).mono ?_); rintro e w' ⟨rfl, rfl⟩))
        | (go_at_call 21; ((with_reducible refine (B1.out _).mono ?_); rintro e w' ⟨rfl, rfl⟩))
        | (go_at_call 24; ((with_reducible refine (M0.out _).mono ?_); rintro e w' ⟨rfl, rfl⟩))
        | (go_at_call 24; ((with_reducible refine (M1.out _).mono ?_); rintro e w' ⟨rfl, rfl⟩))
        | (go_at_call 27; ((with_reducible refine (H0.out _).mono ?_); rintro e w' ⟨rfl, rfl⟩))
        | (go_at_call 27; ((with_reducible refine (H1.out _).mono ?_); rintro e w' ⟨rfl, rfl⟩)))
      all_goals go_ret
      all_goals exact ⟨ret_bool (by simp), T1.out.belowAll⟩
    · have q1 : (x == y) = false := by simp; omega
      have q2 : (a0 == a1) = true := by simp; omega
      have q3 : (a0 != a1) = false := by simp; omega
      have q4 : decide (x < y) = false := by simp; omega
      have q5 : decide (a2 < a3) = false := by simp; omega
      have q6 : a1 ≤ a0 := by omega
      have q7 : (a2 == a3) = false := by simp; omega
      clear h1
      clear e0 e1 hx hy hr0 hr1 hb0 hb1
      go_enter Try.func11, Try.ntmps11
      go_wp2_with fail
      refine (begun8_calls F _).mono ?_
      rintro e x1 ⟨rfl, t1⟩
      have T1 := Lib.hid t1
      clear t1
      go_wp2_with (first
        | (go_at_call 21; ((with_reducible refine (B0.out _).mono ?_); rintro e w' ⟨rfl, rfl⟩))
        | (go_at_call 21; ((with_reducible refine (B1.out _).mono ?_); rintro e w' ⟨rfl, rfl⟩))
        | (go_at_call 24; ((with_reducible refine (M0.out _).mono ?_); rintro e w' ⟨rfl, rfl⟩))
        | (go_at_call 24; ((with_reducible refine (M1.out _).mono ?_); rintro e w' ⟨rfl, rfl⟩))
        | (go_at_call 27; ((with_reducible refine (H0.out _).mono ?_); rintro e w' ⟨rfl, rfl⟩))
        | (go_at_call 27; ((with_reducible refine (H1.out _).mono ?_); rintro e w' ⟨rfl, rfl⟩)))
      all_goals go_ret
      all_goals exact ⟨ret_bool (by simp), T1.out.belowAll⟩
    · have q1 : (x == y) = false := by simp; omega
      have q2 : (a0 == a1) = false := by simp; omega
      have q3 : (a0 != a1) = true := by simp; omega
      have q6 : a1 ≤ a0 := by omega
      clear e0 e1 hx hy hr0 hr1 hb0 hb1
      go_enter Try.func11, Try.ntmps11
      go_wp2_with fail
      refine (begun8_calls F _).mono ?_
      rintro e x1 ⟨rfl, t1⟩
      have T1 := Lib.hid t1
      clear t1
      go_wp2_with (first
        | (go_at_call 21; ((with_reducible refine (B0.out _).mono ?_); rintro e w' ⟨rfl, rfl⟩))
        | (go_at_call 21; ((with_reducible refine (B1.out _).mono ?_); rintro e w' ⟨rfl, rfl⟩))
        | (go_at_call 24; ((with_reducible refine (M0.out _).mono ?_); rintro e w' ⟨rfl, rfl⟩))
        | (go_at_call 24; ((with_reducible refine (M1.out _).mono ?_); rintro e w' ⟨rfl, rfl⟩))
        | (go_at_call 27; ((with_reducible refine (H0.out _).mono ?_); rintro e w' ⟨rfl, rfl⟩))
        | (go_at_call 27; ((with_reducible refine (H1.out _).mono ?_); rintro e w' ⟨rfl, rfl⟩)))
      all_goals go_ret
      all_goals exact ⟨ret_bool (by simp), T1.out.belowAll⟩
  · generalize makeZ a0 a2 = z at *
    cases hb0 : brokerB a0 with
    | false =>
      rw [hb0] at B0
      clear hin hb0
      go_enter Try.func11, Try.ntmps11
      go_wp2_with fail
      refine (begun8_calls F _).mono ?_
      rintro e x1 ⟨rfl, t1⟩
      have T1 := Lib.hid t1
      clear t1
      go_wp2_with (first
        | (go_at_call 21; ((with_reducible refine (B0.out _).mono ?_); rintro e w' ⟨rfl, rfl⟩))
        | (go_at_call 21; ((with_reducible refine (B1.out _).mono ?_); rintro e w' ⟨rfl, rfl⟩))
        | (go_at_call 24; ((with_reducible refine (M0.out _).mono ?_); rintro e w' ⟨rfl, rfl⟩))
        | (go_at_call 25; ((with_reducible refine (N0.out _).mono ?_); rintro e w' ⟨rfl, rfl⟩)))
      all_goals go_ret
      all_goals exact ⟨ret_bool (by simp), T1.out.belowAll⟩
    | true =>
    cases hb1 : brokerB a1 with
    | false =>
      rw [hb0] at B0
      rw [hb1] at B1
      clear hin hb0 hb1
      go_enter Try.func11, Try.ntmps11
      go_wp2_with fail
      refine (begun8_calls F _).mono ?_
      rintro e x1 ⟨rfl, t1⟩
      have T1 := Lib.hid t1
      clear t1
      go_wp2_with (first
        | (go_at_call 21; ((with_reducible refine (B0.out _).mono ?_); rintro e w' ⟨rfl, rfl⟩))
        | (go_at_call 21; ((with_reducible refine (B1.out _).mono ?_); rintro e w' ⟨rfl, rfl⟩))
        | (go_at_call 24; ((with_reducible refine (M0.out _).mono ?_); rintro e w' ⟨rfl, rfl⟩))
        | (go_at_call 25; ((with_reducible refine (N0.out _).mono ?_); rintro e w' ⟨rfl, rfl⟩)))
      all_goals go_ret
      all_goals exact ⟨ret_bool (by simp), T1.out.belowAll⟩
    | true =>
    rw [hb0] at B0
    rw [hb1] at B1
    rw [hb0, hb1] at hin
    have hcs : a2 < 1 ∨ (1 ≤ a2 ∧ 4294967296 ≤ a2) ∨ (1 ≤ a2 ∧ a2 < 4294967296 ∧ a3 < 1) ∨ (1 ≤ a2 ∧ a2 < 4294967296 ∧ 1 ≤ a3 ∧ 4294967296 ≤ a3) := by
      by_cases h1 : a2 < 1
      · exact .inl h1
      by_cases h2 : 4294967296 ≤ a2
      · exact .inr (.inl ⟨by omega, h2⟩)
      by_cases h3 : a3 < 1
      · exact .inr (.inr (.inl ⟨by omega, by omega, h3⟩))
      by_cases h4 : 4294967296 ≤ a3
      · exact .inr (.inr (.inr ⟨by omega, by omega, by omega, h4⟩))
      · exact absurd ⟨rfl, rfl, by omega, by omega, by omega, by omega⟩ hin
    clear hin hb0 hb1
    rcases hcs with h1 | ⟨h1, h2⟩ | ⟨h1, h2, h3⟩ | ⟨h1, h2, h3, h4⟩
    · go_enter Try.func11, Try.ntmps11
      go_wp2_with fail
      refine (begun8_calls F _).mono ?_
      rintro e x1 ⟨rfl, t1⟩
      have T1 := Lib.hid t1
      clear t1
      go_wp2_with (first
        | (go_at_call 21; ((with_reducible refine (B0.out _).mono ?_); rintro e w' ⟨rfl, rfl⟩))
        | (go_at_call 21; ((with_reducible refine (B1.out _).mono ?_); rintro e w' ⟨rfl, rfl⟩))
        | (go_at_call 24; ((with_reducible refine (M0.out _).mono ?_); rintro e w' ⟨rfl, rfl⟩))
        | (go_at_call 25; ((with_reducible refine (N0.out _).mono ?_); rintro e w' ⟨rfl, rfl⟩)))
      all_goals go_ret
      all_goals exact ⟨ret_bool (by simp), T1.out.belowAll⟩
    · go_enter Try.func11, Try.ntmps11
      go_wp2_with fail
      refine (begun8_calls F _).mono ?_
      rintro e x1 ⟨rfl, t1⟩
      have T1 := Lib.hid t1
      clear t1
      go_wp2_with (first
        | (go_at_call 21; ((with_reducible refine (B0.out _).mono ?_); rintro e w' ⟨rfl, rfl⟩))
        | (go_at_call 21; ((with_reducible refine (B1.out _).mono ?_); rintro e w' ⟨rfl, rfl⟩))
        | (go_at_call 24; ((with_reducible refine (M0.out _).mono ?_); rintro e w' ⟨rfl, rfl⟩))
        | (go_at_call 25; ((with_reducible refine (N0.out _).mono ?_); rintro e w' ⟨rfl, rfl⟩)))
      all_goals go_ret
      all_goals exact ⟨ret_bool (by simp), T1.out.belowAll⟩
    · go_enter Try.func11, Try.ntmps11
      go_wp2_with fail
      refine (begun8_calls F _).mono ?_
      rintro e x1 ⟨rfl, t1⟩
      have T1 := Lib.hid t1
      clear t1
      go_wp2_with (first
        | (go_at_call 21; ((with_reducible refine (B0.out _).mono ?_); rintro e w' ⟨rfl, rfl⟩))
        | (go_at_call 21; ((with_reducible refine (B1.out _).mono ?_); rintro e w' ⟨rfl, rfl⟩))
        | (go_at_call 24; ((with_reducible refine (M0.out _).mono ?_); rintro e w' ⟨rfl, rfl⟩))
        | (go_at_call 25; ((with_reducible refine (N0.out _).mono ?_); rintro e w' ⟨rfl, rfl⟩)))
      all_goals go_ret
      all_goals exact ⟨ret_bool (by simp), T1.out.belowAll⟩
    · go_enter Try.func11, Try.ntmps11
      go_wp2_with fail
      refine (begun8_calls F _).mono ?_
      rintro e x1 ⟨rfl, t1⟩
      have T1 := Lib.hid t1
      clear t1
      go_wp2_with (first
        | (go_at_call 21; ((with_reducible refine (B0.out _).mono ?_); rintro e w' ⟨rfl, rfl⟩))
        | (go_at_call 21; ((with_reducible refine (B1.out _).mono ?_); rintro e w' ⟨rfl, rfl⟩))
        | (go_at_call 24; ((with_reducible refine (M0.out _).mono ?_); rintro e w' ⟨rfl, rfl⟩))
        | (go_at_call 25; ((with_reducible refine (N0.out _).mono ?_); rintro e w' ⟨rfl, rfl⟩)))
      all_goals go_ret
      all_goals exact ⟨ret_bool (by simp), T1.out.belowAll⟩

end Go.Proofs.Ytanjbbmgpodbgaa
