/-
  The walk of the law ByteNone.
-/
import Derived.Test.YtheolfmalcckmaaBegun
namespace Go.Proofs.Ytheolfmalcckmaa
open Go.RowKit

set_option maxHeartbeats 1000000 in
theorem byteNone_walk (w : World) :
    Calls Try.prog 6 #[] w fun e w' => e = .returned (.bool true) ∧ Below w.heap.size w w' := by
  go_enter Try.func6, Try.ntmps6
  go_wp2_with fail
  refine (begun_calls _).mono ?_
  rintro e w1 ⟨rfl, hb1⟩
  go_wp2_with (first | (go_at_call 29; refine (small_nil _).mono ?_; rintro e w' ⟨rfl, rfl⟩) | (go_at_call 31; refine (long_nil _).mono ?_; rintro e w' ⟨rfl, rfl⟩) | (go_at_call 33; refine (text_nil _).mono ?_; rintro e w' ⟨rfl, rfl⟩) | (go_at_call 35; refine (truth_nil _).mono ?_; rintro e w' ⟨rfl, rfl⟩) | (go_at_call 27; refine (left_nil _).mono ?_; rintro e w' ⟨rfl, rfl⟩) | (go_at_call 26; refine (bad_nil _).mono ?_; rintro e w' ⟨rfl, rfl⟩) | (go_at_call 25; refine (end_nil _).mono ?_; rintro e w' ⟨rfl, rfl⟩))
  refine (read_calls none 0 [] _ (Sl.nil _)).mono ?_
  rintro e w2 ⟨rfl, hi, hb2⟩
  have I2 := Lib.hid hi
  have B2 := Lib.hid (hb1.trans (hb2.mono hb1.size))
  clear hi hb2
  go_wp2_with fail
  refine (end_calls _ [] false _ I2.out).mono ?_
  rintro e w' ⟨rfl, rfl⟩
  go_wp2
  go_ret
  exact ⟨rfl, B2.out⟩

end Go.Proofs.Ytheolfmalcckmaa
