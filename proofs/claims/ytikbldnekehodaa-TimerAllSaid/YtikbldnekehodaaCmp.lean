/-
  How things compare: cmp.Compare of numbers and of texts; 'plus'; the laws' orders.
-/
import Derived.Test.YtikbldnekehodaaTurn
import Derived.Sort.Walk0
import Derived.Lib.MinMax
namespace Go.Proofs.Ytikbldnekehodaa
open Go.RowKit

def cmpZ (a b : Int) : Int := if a < b then -1 else if b < a then 1 else 0

theorem isNaN_int (a : Int) (w : World) : Calls Try.prog 63 #[.int .i64 a] w fun e w' => e = .returned (.bool false) ∧ w' = w := by
  have h : (a != a) = false := by simp
  go_enter Try.func63, Try.ntmps63
  go_wp2
  go_ret
  exact ⟨by simp, rfl⟩

theorem compare_int (a b : Int) (w : World) : Calls Try.prog 39 #[.int .i64 a, .int .i64 b] w fun e w' => e = .returned (.int .i64 (cmpZ a b)) ∧ w' = w := by
  have A1 := Lib.hid (isNaN_int a w)
  have A2 := Lib.hid (isNaN_int b w)
  by_cases h1 : a < b
  · go_enter Try.func39, Try.ntmps39
    go_wp2_with (first | (go_at_call 63; first | (with_reducible refine A1.out.mono ?_; rintro e w' ⟨rfl, rfl⟩) | (with_reducible refine A2.out.mono ?_; rintro e w' ⟨rfl, rfl⟩)))
    go_ret
    exact ⟨ret_int (by unfold cmpZ; rw [if_pos h1]), rfl⟩
  · by_cases h2 : b < a
    · go_enter Try.func39, Try.ntmps39
      go_wp2_with (first | (go_at_call 63; first | (with_reducible refine A1.out.mono ?_; rintro e w' ⟨rfl, rfl⟩) | (with_reducible refine A2.out.mono ?_; rintro e w' ⟨rfl, rfl⟩)))
      go_ret
      exact ⟨ret_int (by unfold cmpZ; rw [if_neg (by omega), if_pos h2]), rfl⟩
    · go_enter Try.func39, Try.ntmps39
      go_wp2_with (first | (go_at_call 63; first | (with_reducible refine A1.out.mono ?_; rintro e w' ⟨rfl, rfl⟩) | (with_reducible refine A2.out.mono ?_; rintro e w' ⟨rfl, rfl⟩)))
      go_ret
      exact ⟨ret_int (by unfold cmpZ; rw [if_neg (by omega), if_neg (by omega)]), rfl⟩

/-- a and n, which stops at the greatest int. -/
def plusZ (a n : Int) : Int := if 9223372036854775807 - a < n then 9223372036854775807 else a + n

theorem plus_calls (a n : Int) (ha : 0 ≤ a ∧ a ≤ 9223372036854775807) (hn : -9223372036854775808 ≤ n ∧ n ≤ 9223372036854775807) (w : World) :
    Calls Try.prog 51 #[.int .i64 a, .int .i64 n] w fun e w' => e = .returned (.int .i64 (plusZ a n)) ∧ w' = w := by
  by_cases h1 : 9223372036854775807 - a < n
  · go_enter Try.func51, Try.ntmps51
    go_wp2
    go_ret
    exact ⟨ret_int (by unfold plusZ; rw [if_pos h1]), rfl⟩
  · go_enter Try.func51, Try.ntmps51
    go_wp2
    go_ret
    exact ⟨ret_int (by unfold plusZ; rw [if_neg (by omega)]), rfl⟩

/-- The laws' order: by the last digit, then by the number; or backwards. -/
def ordT (back : Bool) (a b : Int) : Int :=
  let c := if cmpZ (a.tmod 10) (b.tmod 10) = 0 then cmpZ a b else cmpZ (a.tmod 10) (b.tmod 10)
  if back then -c else c

theorem cmpZ_small (a b : Int) : cmpZ a b = -1 ∨ cmpZ a b = 0 ∨ cmpZ a b = 1 := by
  unfold cmpZ
  split
  · exact .inl rfl
  · split
    · exact .inr (.inr rfl)
    · exact .inr (.inl rfl)

end Go.Proofs.Ytikbldnekehodaa
