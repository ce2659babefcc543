/-
  The walk of the law TimerGone.
-/
import Derived.Test.YtikbldnekehodaaBegun6
import Derived.Test.YtikbldnekehodaaTimL
namespace Go.Proofs.Ytikbldnekehodaa
open Go.RowKit

set_option maxHeartbeats 4000000 in
set_option maxRecDepth 100000 in
theorem timerGone_walk {w : World} (n : Int) (_hn : (Lit.int .i64 n).wf = true) : Calls Try.prog 11 #[.int .i64 n] w fun e w' => e = .returned (.bool true) ∧ Below w.heap.size w w' := by
  go_enter Try.func11, Try.ntmps11
  go_wp2_with fail
  refine (begun6_calls w).mono ?_
  rintro e w1 ⟨rfl, b1⟩
  have B1 := Lib.hid b1
  clear b1
  by_cases hlt : n < 0
  · go_wp2
    go_ret
    exact ⟨rfl, B1.out⟩
  by_cases hgt : 20 < n
  · go_wp2
    go_ret
    exact ⟨rfl, B1.out⟩
  go_wp2_with fail
  refine (T.new_calls 3 (by unfold inI64; omega) w1).mono ?_
  rintro e w2 ⟨rfl, h2, t2⟩
  obtain ⟨b, hb⟩ : ∃ b, b = w1.heap.size := ⟨_, rfl⟩
  have O2 := Lib.hid (T.LT.new B1.out h2 t2)
  rw [← hb] at O2 ⊢
  clear h2 t2 B1 hb
  go_wp2_with fail
  refine (T.lt_heard_new O2.out 1 (by simp) (m := 0) (Nat.zero_le _) (by intro i hi; simp at hi) (by intro i hi; simp at hi) (by simp)).mono ?_
  rintro e w3 ⟨v3, rfl, o3⟩
  have O3 : Hid (T.LT w w3 b 3 0 v3 [(1, 0)]) := Lib.hid o3
  clear o3 O2
  go_wp2_with fail
  go_loopw [5] (fun vi wx => ∃ k : Nat, (k : Int) ≤ n ∧ vi = .int .i64 (k : Int) ∧ T.LT w wx b 3 (k : Int) v3 [(1, 0)]) (fun vi _ => 20 - (intOf vi).toNat)
  case atStart => exact ⟨0, by omega, rfl, O3.out⟩
  case round =>
    obtain ⟨k, hk, rfl, ho⟩ := hrel
    have O := Lib.hid ho
    clear ho O3
    by_cases hkn : (k : Int) < n
    · go_wp2_with fail
      refine (T.lt_tick O.out (by omega)).mono ?_
      rintro e w4 ⟨ao, c, rfl, -, o4⟩
      have O4 := Lib.hid o4
      clear o4 O
      go_wp2
      go_roundw
      case rel => exact ⟨k + 1, by omega, by go_num, by rw [Int.natCast_succ]; exact O4.out⟩
      case measure => simp [intOf]; omega
    · have hkn2 : (k : Int) = n := by omega
      go_wp2_with fail
      refine (T.lt_gone_is O.out 1 (m := 0) (by simp) (by intro i hi hm; omega) (one_hi (by omega)) (cmpZ_self 1)).mono ?_
      rintro e w4 ⟨v4, rfl, o4⟩
      have O4 : Hid (T.LT w w4 b 3 (k : Int) v4 []) := Lib.hid o4
      clear o4 O
      go_wp2_with fail
      refine (T.lt_gone_none O4.out 1 (m := 0) (Nat.zero_le _) (by intro i hi; simp at hi) (by intro i hi; simp at hi) (by simp)).mono ?_
      rintro e w5 ⟨rfl, o5⟩
      have O5 := Lib.hid o5
      clear o5 O4
      go_wp2_with fail
      refine (T.lt_tick O5.out (by omega)).mono ?_
      rintro e w6 ⟨ao, c, rfl, -, o6⟩
      have O6 := Lib.hid o6
      rw [show T.silK 3 ((k : Int) + 1) [] = [] from rfl]
      clear o6 O5
      go_wp2_with fail
      refine (T.lt_heard_new O6.out 1 (by simp) (m := 0) (Nat.zero_le _) (by intro i hi; simp at hi) (by intro i hi; simp at hi) (by simp)).mono ?_
      rintro e w7 ⟨v7, rfl, o7⟩
      have O7 : Hid (T.LT w w7 b 3 ((k : Int) + 1) v7 [(1, (k : Int) + 1)]) := Lib.hid o7
      clear o7 O6
      go_wp2_with fail
      refine (T.lt_age_is O7.out 1 (m := 0) (by simp) (by intro i hi hm; omega) (one_hi (by omega)) (cmpZ_self 1)).mono ?_
      rintro e w8 ⟨rfl, o8⟩
      have hz : (k : Int) + 1 - (([(1, (k : Int) + 1)] : List (Int × Int)).getD 0 (0, 0)).2 = 0 := by
        show (k : Int) + 1 - ((k : Int) + 1) = 0
        omega
      rw [hz]
      have O8 := Lib.hid o8
      clear o8 O7 hz
      go_wp2_with fail
      refine (T.all_calls O8.out.tim).mono ?_
      rintro e w9 ⟨rfl, -, b9⟩
      have B9 := Lib.hid (O8.out.bel.trans (b9.mono O8.out.bel.size))
      clear b9 O8
      go_wp2
      go_ret
      exact ⟨rfl, B9.out⟩

end Go.Proofs.Ytikbldnekehodaa
