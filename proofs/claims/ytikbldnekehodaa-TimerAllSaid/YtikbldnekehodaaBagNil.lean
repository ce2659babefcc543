/-
  No bag.
-/
import Derived.Test.YtikbldnekehodaaBagA
namespace Go.Proofs.Ytikbldnekehodaa
open Go.RowKit

set_option maxHeartbeats 1000000 in
theorem find_nil (x : Int) (w : World) : Calls Try.prog 48 #[.pointer none, .int .i64 x] w fun e w' => e = .returned (.tuple #[.int .i64 0, .bool false, .bool false]) ∧ Turn [] w w' := by
  obtain ⟨w2, hw2⟩ : ∃ w2, w2 = (w.alloc (.cells #[.pointer none] 26)).alloc (.cells #[.int .i64 x] 3) := ⟨_, rfl⟩
  have hpb : w2.cell? ⟨w.heap.size, 0, none⟩ = some (.pointer none) := by
    rw [hw2]
    exact (Turn.alloc [] _ _).cell (cell_new w _ _) (by simp)
  have T2 : Hid (Turn [] w w2) := Lib.hid (by rw [hw2]; exact (Turn.alloc [] w _).trans (Turn.alloc [] _ _) (by simp))
  subst hw2
  go_enter_defers Try.func48, Try.ntmps48
  go_wp2_with fail
  exact ⟨_, results_tmp3 rfl _ _ _, rfl, T2.out⟩

theorem addI_nil (x n : Int) (w : World) : Calls Try.prog 15 #[.pointer none, .int .i64 x, .int .i64 n] w fun e w' => e = .returned (.int .i64 0) ∧ Turn [] w w' := by
  have FC := Lib.hid (find_nil x w)
  go_enter Try.func15, Try.ntmps15
  go_wp2_with fail
  refine FC.out.mono ?_
  rintro e w1 ⟨rfl, t1⟩
  have T1 := Lib.hid t1
  clear t1 FC
  go_wp2
  go_ret
  exact ⟨rfl, T1.out⟩

theorem countI_nil (x : Int) (w : World) : Calls Try.prog 16 #[.pointer none, .int .i64 x] w fun e w' => e = .returned (.int .i64 0) ∧ Turn [] w w' := by
  have FC := Lib.hid (find_nil x w)
  go_enter Try.func16, Try.ntmps16
  go_wp2_with fail
  refine FC.out.mono ?_
  rintro e w1 ⟨rfl, t1⟩
  have T1 := Lib.hid t1
  clear t1 FC
  go_wp2
  go_ret
  exact ⟨rfl, T1.out⟩

theorem lenI_nil (w : World) : Calls Try.prog 17 #[.pointer none] w fun e w' => e = .returned (.int .i64 0) ∧ w' = w := by
  go_enter Try.func17, Try.ntmps17
  go_wp2
  go_ret
  exact ⟨rfl, rfl⟩

theorem kindsI_nil (w : World) : Calls Try.prog 20 #[.pointer none] w fun e w' => e = .returned (.int .i64 0) ∧ w' = w := by
  go_enter Try.func20, Try.ntmps20
  go_wp2
  go_ret
  exact ⟨rfl, rfl⟩

theorem eachI_nil (w : World) : Calls Try.prog 18 #[.pointer none] w fun e w' => e = .returned (.slice none 0 0) ∧ w' = w := by
  go_enter Try.func18, Try.ntmps18
  go_wp2
  go_ret
  exact ⟨rfl, rfl⟩

theorem atI_nil (i : Int) (w : World) : Calls Try.prog 19 #[.pointer none, .int .i64 i] w fun e w' => e = .returned (.tuple #[.int .i64 0, .bool false]) ∧ w' = w := by
  go_enter Try.func19, Try.ntmps19
  go_wp2
  go_ret2
  exact ⟨rfl, rfl⟩

end Go.Proofs.Ytikbldnekehodaa
