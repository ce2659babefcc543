/-
  The walk of the law ByteTruth.
-/
import Derived.Test.YtheolfmalcckmaaOpen
namespace Go.Proofs.Ytheolfmalcckmaa
open Go.RowKit Go.ChangeShapes Go.WideShapes Go.ChangeAt

theorem truth_is (x : UInt8) : truthV [x, 1] false = (x.toNat == 1) ∧ truthA [x, 1] false = (if x.toNat ≤ 1 then [1] else []) ∧ truthC [x, 1] false = decide (x.toNat ≤ 1) := by
  simp [truthV, truthA, truthC, taken, after, canTake, leN]

theorem truth_one : truthV [1] false = true ∧ truthA [1] false = [] ∧ truthC [1] false = true := by decide +kernel
theorem truth_none : truthV [] true = false ∧ truthA [] true = [] ∧ truthC [] true = false := by decide +kernel

set_option maxHeartbeats 1000000 in
theorem byteTruth_zero (w : World) :
    Calls Try.prog 13 #[.int .u8 0] w fun e w' => e = .returned (.bool true) ∧ Below w.heap.size w w' := by
  go_enter Try.func13, Try.ntmps13
  go_wp2_with fail
  refine (begun_calls _).mono ?_
  rintro e w1 ⟨rfl, hb1⟩
  have B1 := Lib.hid hb1
  clear hb1
  go_wp2_with fail
  refine (read_calls _ 2 [0, 1] _ (Sl.made w1 #[.int .u8 0, .int .u8 1] 5 [0, 1] (by rfl) (by simp [maxLen]))).mono ?_
  rintro e w2 ⟨rfl, hi, hb2⟩
  have I2 := Lib.hid hi
  have B2 := Lib.hid (B1.out.trans (((new_below _ _).trans (hb2.mono (by simp))).mono B1.out.size))
  have hq : w.heap.size ≤ (World.alloc w1 (.cells #[.int .u8 0, .int .u8 1] 5)).heap.size := by have := B1.out.size; simp; omega
  clear hi hb2
  generalize (World.alloc w1 _).heap.size = q at *
  have HQ := Lib.hid hq
  clear hq
  go_wp2_with fail
  have C := truth_in q [0, 1] false w2 I2.out
  rw [show truthV [0, 1] false = false from by decide +kernel, show truthA [0, 1] false = [1] from by decide +kernel, show truthC [0, 1] false = true from by decide +kernel] at C
  refine C.mono ?_
  clear C
  rintro e w3 ⟨rfl, hi, hg3⟩
  have I3 := Lib.hid hi
  have G3 := Lib.hid hg3
  clear hi hg3
  go_wp2_with fail
  refine (bad_calls q [1] false _ I3.out).mono ?_
  rintro e w' ⟨rfl, rfl⟩
  go_wp2_with fail
  have C := truth_in q [1] false w3 I3.out
  rw [truth_one.1, truth_one.2.1, truth_one.2.2] at C
  refine C.mono ?_
  clear C
  rintro e w4 ⟨rfl, hi, hg4⟩
  have G4 := Lib.hid (grown_trans G3.out hg4)
  clear hi hg4
  go_wp2
  go_ret
  exact ⟨rfl, B2.out.grown G4.out B2.out.size (by intro k hk; cases hk; exact HQ.out)⟩

set_option maxHeartbeats 1000000 in
theorem byteTruth_one (w : World) :
    Calls Try.prog 13 #[.int .u8 1] w fun e w' => e = .returned (.bool true) ∧ Below w.heap.size w w' := by
  go_enter Try.func13, Try.ntmps13
  go_wp2_with fail
  refine (begun_calls _).mono ?_
  rintro e w1 ⟨rfl, hb1⟩
  have B1 := Lib.hid hb1
  clear hb1
  go_wp2_with fail
  refine (read_calls _ 2 [1, 1] _ (Sl.made w1 #[.int .u8 1, .int .u8 1] 5 [1, 1] (by rfl) (by simp [maxLen]))).mono ?_
  rintro e w2 ⟨rfl, hi, hb2⟩
  have I2 := Lib.hid hi
  have B2 := Lib.hid (B1.out.trans (((new_below _ _).trans (hb2.mono (by simp))).mono B1.out.size))
  have hq : w.heap.size ≤ (World.alloc w1 (.cells #[.int .u8 1, .int .u8 1] 5)).heap.size := by have := B1.out.size; simp; omega
  clear hi hb2
  generalize (World.alloc w1 _).heap.size = q at *
  have HQ := Lib.hid hq
  clear hq
  go_wp2_with fail
  have C := truth_in q [1, 1] false w2 I2.out
  rw [show truthV [1, 1] false = true from by decide +kernel, show truthA [1, 1] false = [1] from by decide +kernel, show truthC [1, 1] false = true from by decide +kernel] at C
  refine C.mono ?_
  clear C
  rintro e w3 ⟨rfl, hi, hg3⟩
  have I3 := Lib.hid hi
  have G3 := Lib.hid hg3
  clear hi hg3
  go_wp2_with fail
  refine (bad_calls q [1] false _ I3.out).mono ?_
  rintro e w' ⟨rfl, rfl⟩
  go_wp2_with fail
  have C := truth_in q [1] false w3 I3.out
  rw [truth_one.1, truth_one.2.1, truth_one.2.2] at C
  refine C.mono ?_
  clear C
  rintro e w4 ⟨rfl, hi, hg4⟩
  have G4 := Lib.hid (grown_trans G3.out hg4)
  clear hi hg4
  go_wp2
  go_ret
  exact ⟨rfl, B2.out.grown G4.out B2.out.size (by intro k hk; cases hk; exact HQ.out)⟩

set_option maxHeartbeats 1000000 in
theorem byteTruth_more (x : Nat) (hx : x < 256) (h1 : ¬ x ≤ 1) (w : World) :
    Calls Try.prog 13 #[.int .u8 (x : Int)] w fun e w' => e = .returned (.bool true) ∧ Below w.heap.size w w' := by
  have hlt : (1 : Int) < (x : Int) := by omega
  have hne : ((x : Int) == 1) = false := by simp; omega
  go_enter Try.func13, Try.ntmps13
  go_wp2_with fail
  refine (begun_calls _).mono ?_
  rintro e w1 ⟨rfl, hb1⟩
  have B1 := Lib.hid hb1
  clear hb1
  go_wp2_with fail
  refine (read_calls _ 2 [UInt8.ofNat x, 1] _ (Sl.made w1 #[.int .u8 (x : Int), .int .u8 1] 5 [UInt8.ofNat x, 1] (by simp [u8s]; omega) (by simp [maxLen]))).mono ?_
  rintro e w2 ⟨rfl, hi, hb2⟩
  have I2 := Lib.hid hi
  have B2 := Lib.hid (B1.out.trans (((new_below _ _).trans (hb2.mono (by simp))).mono B1.out.size))
  have hq : w.heap.size ≤ (World.alloc w1 (.cells #[.int .u8 (x : Int), .int .u8 1] 5)).heap.size := by have := B1.out.size; simp; omega
  clear hi hb2
  generalize (World.alloc w1 _).heap.size = q at *
  have HQ := Lib.hid hq
  clear hq
  go_wp2_with fail
  have C := truth_in q [UInt8.ofNat x, 1] false w2 I2.out
  rw [show truthV [UInt8.ofNat x, 1] false = false from by rw [(truth_is _).1]; simp; omega, show truthA [UInt8.ofNat x, 1] false = [] from by rw [(truth_is _).2.1, if_neg (by simp; omega)], show truthC [UInt8.ofNat x, 1] false = false from by rw [(truth_is _).2.2]; simp; omega] at C
  refine C.mono ?_
  clear C
  rintro e w3 ⟨rfl, hi, hg3⟩
  have I3 := Lib.hid hi
  have G3 := Lib.hid hg3
  clear hi hg3
  go_wp2_with fail
  refine (bad_calls q [] true _ I3.out).mono ?_
  rintro e w' ⟨rfl, rfl⟩
  go_wp2_with fail
  have C := truth_in q [] true w3 I3.out
  rw [truth_none.1, truth_none.2.1, truth_none.2.2] at C
  refine C.mono ?_
  clear C
  rintro e w4 ⟨rfl, hi, hg4⟩
  have G4 := Lib.hid (grown_trans G3.out hg4)
  clear hi hg4
  go_wp2
  go_ret
  exact ⟨ret_bool (by simp; omega), B2.out.grown G4.out B2.out.size (by intro k hk; cases hk; exact HQ.out)⟩

theorem byteTruth_walk (a0 : Int) (w0 : (Lit.int .u8 a0).wf = true) (w : World) :
    Calls Try.prog 13 #[.int .u8 a0] w fun e w' => e = .returned (.bool true) ∧ Below w.heap.size w w' := by
  have h0 := bounds_u8 w0
  obtain ⟨x, rfl⟩ := Int.eq_ofNat_of_zero_le h0.1
  by_cases h1 : x ≤ 1
  · by_cases h : x = 0
    · subst h
      exact byteTruth_zero w
    · obtain rfl : x = 1 := by omega
      exact byteTruth_one w
  · exact byteTruth_more x (by omega) h1 w

end Go.Proofs.Ytheolfmalcckmaa
