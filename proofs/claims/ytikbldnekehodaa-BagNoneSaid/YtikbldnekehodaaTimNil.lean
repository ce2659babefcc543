/-
  No timer.
-/
import Derived.Test.YtikbldnekehodaaTimL
namespace Go.Proofs.Ytikbldnekehodaa.T
open Go.RowKit

theorem heard_nil (x : Int) (w : World) : Calls Try.prog 22 #[.pointer none, .int .i64 x] w fun e w' => e = .returned (.bool false) ∧ w' = w := by
  go_enter Try.func22, Try.ntmps22
  go_wp2
  go_ret
  exact ⟨rfl, rfl⟩

theorem gone_nil (x : Int) (w : World) : Calls Try.prog 23 #[.pointer none, .int .i64 x] w fun e w' => e = .returned (.bool false) ∧ w' = w := by
  have FC := Lib.hid (find_nil x w)
  go_enter Try.func23, Try.ntmps23
  go_wp2_with fail
  refine FC.out.mono ?_
  rintro e w1 ⟨rfl, rfl⟩
  clear FC
  go_wp2
  go_ret
  exact ⟨rfl, rfl⟩

theorem has_nil (x : Int) (w : World) : Calls Try.prog 27 #[.pointer none, .int .i64 x] w fun e w' => e = .returned (.bool false) ∧ w' = w := by
  have FC := Lib.hid (find_nil x w)
  go_enter Try.func27, Try.ntmps27
  go_wp2_with fail
  refine FC.out.mono ?_
  rintro e w1 ⟨rfl, rfl⟩
  clear FC
  go_wp2
  go_ret
  exact ⟨rfl, rfl⟩

theorem age_nil (x : Int) (w : World) : Calls Try.prog 26 #[.pointer none, .int .i64 x] w fun e w' => e = .returned (.int .i64 (-1)) ∧ w' = w := by
  have FC := Lib.hid (find_nil x w)
  go_enter Try.func26, Try.ntmps26
  go_wp2_with fail
  refine FC.out.mono ?_
  rintro e w1 ⟨rfl, rfl⟩
  clear FC
  go_wp2
  go_ret
  exact ⟨rfl, rfl⟩

theorem all_nil (w : World) : Calls Try.prog 25 #[.pointer none] w fun e w' => e = .returned (.slice none 0 0) ∧ w' = w := by
  go_enter Try.func25, Try.ntmps25
  go_wp2
  go_ret
  exact ⟨rfl, rfl⟩

theorem tick_nil (w : World) : Calls Try.prog 24 #[.pointer none] w fun e w' => e = .returned (.slice none 0 0) ∧ w' = w := by
  go_enter Try.func24, Try.ntmps24
  go_wp2
  go_ret
  exact ⟨rfl, rfl⟩

end Go.Proofs.Ytikbldnekehodaa.T
