/-
  The walk of the law BagNone.
-/
import Derived.Test.YtikbldnekehodaaBegun6
import Derived.Test.YtikbldnekehodaaTimNil
namespace Go.Proofs.Ytikbldnekehodaa
open Go.RowKit

set_option maxHeartbeats 4000000 in
set_option maxRecDepth 100000 in
theorem bagNone_walk {w : World} : Calls Try.prog 7 #[] w fun e w' => e = .returned (.bool true) ∧ Below w.heap.size w w' := by
  go_enter Try.func7, Try.ntmps7
  go_wp2_with fail
  refine (atI_nil 0 w).mono ?_
  rintro e w1 ⟨rfl, rfl⟩
  go_wp2_with fail
  refine (begun6_calls _).mono ?_
  rintro e w2 ⟨rfl, b2⟩
  have B2 := Lib.hid b2
  clear b2
  go_wp2_with fail
  refine (addI_nil 1 1 w2).mono ?_
  rintro e w3 ⟨rfl, t3⟩
  have B3 := Lib.hid (B2.out.trans (t3.belowAll.mono B2.out.size))
  clear t3 B2
  go_wp2_with fail
  refine (countI_nil 1 w3).mono ?_
  rintro e w4 ⟨rfl, t4⟩
  have B4 := Lib.hid (B3.out.trans (t4.belowAll.mono B3.out.size))
  clear t4 B3
  go_wp2_with fail
  refine (lenI_nil w4).mono ?_
  rintro e w5 ⟨rfl, rfl⟩
  go_wp2_with fail
  refine (kindsI_nil _).mono ?_
  rintro e w5 ⟨rfl, rfl⟩
  go_wp2_with fail
  refine (eachI_nil _).mono ?_
  rintro e w5 ⟨rfl, rfl⟩
  go_wp2_with fail
  refine (T.heard_nil 1 _).mono ?_
  rintro e w5 ⟨rfl, rfl⟩
  go_wp2_with fail
  refine (T.gone_nil 1 _).mono ?_
  rintro e w5 ⟨rfl, rfl⟩
  go_wp2_with fail
  refine (T.has_nil 1 _).mono ?_
  rintro e w5 ⟨rfl, rfl⟩
  go_wp2_with fail
  refine (T.age_nil 1 _).mono ?_
  rintro e w5 ⟨rfl, rfl⟩
  go_wp2_with fail
  refine (T.all_nil _).mono ?_
  rintro e w5 ⟨rfl, rfl⟩
  go_wp2_with fail
  refine (T.tick_nil _).mono ?_
  rintro e w5 ⟨rfl, rfl⟩
  go_wp2
  go_ret
  exact ⟨rfl, B4.out⟩

end Go.Proofs.Ytikbldnekehodaa
