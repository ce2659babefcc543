/-
  The walk of the law FileEmpty.
-/
import Derived.Test.YtlcilbbgfilefaaDk
namespace Go.Proofs.Ytlcilbbgfilefaa
open Go.RowKit

theorem i64_and3 (n : Int) : bits .and .i64 n 3 = n % 4 := by
  have h3 : (BitVec.ofInt 64 3).toNat = 2 ^ 2 - 1 := by decide
  have key : (BitVec.ofInt 64 n &&& BitVec.ofInt 64 3).toNat = (n % ((2 ^ 64 : Nat) : Int)).toNat % 2 ^ 2 := by
    rw [BitVec.toNat_and, BitVec.toNat_ofInt, h3, Nat.and_two_pow_sub_one_eq_mod]
  show IntKind.i64.wrap ((BitVec.ofInt 64 n &&& BitVec.ofInt 64 3).toNat : Nat) = n % 4
  rw [key, IntKind.wrap_i64]
  omega

def nF : List UInt8 := [102]
def nG : List UInt8 := [103]

theorem fall_fresh (n : Int) : mFall n [Fm.mk nF [] 0 false] = [] := by
  have h : fallen n (Fm.mk nF [] 0 false) = none := by simp [fallen, mStay]
  simp [mFall, h]

theorem fall_kept (n : Int) (s : List UInt8) : mFall n [Fm.mk s [] 0 true] = [] ++ Fm.mk s [] 0 true :: [] := by
  have h : fallen n (Fm.mk s [] 0 true) = some (Fm.mk s [] 0 true) := by simp [fallen, mStay]
  simp [mFall, h]

set_option maxHeartbeats 4000000 in
set_option maxRecDepth 100000 in
theorem fileEmpty_walk (a0 : Int) (_w0 : (Lit.int .i64 a0).wf = true) (a1 : Int) (w1 : (Lit.int .i64 a1).wf = true) {w : World} :
    Calls Try.prog 12 #[.int .i64 a0, .int .i64 a1] w fun e w' => e = .returned (.bool true) ∧ Below w.heap.size w w' := by
  have hb1 := bounds_i64 w1
  have hm := i64_and3 a0
  have hr : a0 % 4 = 0 ∨ a0 % 4 = 1 ∨ a0 % 4 = 2 ∨ a0 % 4 = 3 := by omega
  have HB1 := Lib.hid hb1
  clear hb1 w1
  rcases hr with h | h | h | h <;> rw [h] at hm <;> clear h
  all_goals
    go_enter Try.func12, Try.ntmps12
    go_wp2_with fail
    refine (begun3_calls _).mono ?_
    rintro e x1 ⟨rfl, hb⟩
    have B1 := Lib.hid hb
    clear hb
    go_wp2_with fail
    refine (dk_new 10 _).mono ?_
    rintro e x2 ⟨rfl, hd⟩
    obtain ⟨b, hbb⟩ : ∃ b, b = x1.heap.size := ⟨_, rfl⟩
    rw [← hbb] at hd ⊢
    have D2 := Lib.hid hd
    clear hd hbb
    go_wp2_with fail
    refine (dk_append_nil (n := nF) (A := []) (B := []) (g := ⟨nF, [], 0, false⟩) D2.out (.inr ⟨rfl, rfl, rfl, by simp⟩) (by decide)).mono ?_
    rintro e x3 ⟨rfl, hd⟩
    have D3 := Lib.hid (show Dk x1 x3 b (roomOf 10) ([] ++ Fm.mk nF [] 0 false :: []) from hd)
    clear hd D2
    go_wp2_with fail
  rotate_left
  · -- synced
    refine (dk_sync D3.out).mono ?_
    rintro e x4 ⟨rfl, hd⟩
    have D4 := Lib.hid (show Dk x1 x4 b (roomOf 10) ([] ++ Fm.mk nF [] 0 true :: []) from hd)
    clear hd D3
    go_wp2_with fail
    refine (dk_read D4.out).mono ?_
    rintro e x5 ⟨ao, c, rfl, -, -, hb⟩
    have D5 := Lib.hid (D4.out.below hb)
    clear hb D4
    go_wp2_with fail
    refine (dk_fall a1 HB1.out D5.out (by decide)).mono ?_
    rintro e x6 ⟨bb, rfl, -, hd, -⟩
    have D6 := Lib.hid (show Dk x1 x6 bb (roomOf 10) ([] ++ Fm.mk nF [] 0 true :: []) from by rw [← fall_kept a1 nF]; exact hd)
    clear hd D5
    go_wp2_with fail
    refine (dk_read D6.out).mono ?_
    rintro e x7 ⟨ao7, c7, rfl, -, -, hb⟩
    have D7 := Lib.hid (B1.out.trans ((D6.out.below hb).old.mono B1.out.size))
    clear hb D6
    go_wp2
    go_ret
    exact ⟨rfl, D7.out⟩
  · -- renamed
    refine (dk_rename (n := nG) (A := []) (B := []) (g := ⟨nF, [], 0, false⟩) D3.out (by decide) (by rfl)).mono ?_
    rintro e x4 ⟨rfl, hd⟩
    have D4 := Lib.hid (show Dk x1 x4 b (roomOf 10) ([] ++ Fm.mk nG [] 0 true :: []) from hd)
    clear hd D3
    go_wp2_with fail
    refine (dk_read D4.out).mono ?_
    rintro e x5 ⟨ao, c, rfl, -, -, hb⟩
    have D5 := Lib.hid (D4.out.below hb)
    clear hb D4
    go_wp2_with fail
    refine (dk_fall a1 HB1.out D5.out (by decide)).mono ?_
    rintro e x6 ⟨bb, rfl, -, hd, -⟩
    have D6 := Lib.hid (show Dk x1 x6 bb (roomOf 10) ([] ++ Fm.mk nG [] 0 true :: []) from by rw [← fall_kept a1 nG]; exact hd)
    clear hd D5
    go_wp2_with fail
    refine (dk_read D6.out).mono ?_
    rintro e x7 ⟨ao7, c7, rfl, -, -, hb⟩
    have D7 := Lib.hid (B1.out.trans ((D6.out.below hb).old.mono B1.out.size))
    clear hb D6
    go_wp2
    go_ret
    exact ⟨rfl, D7.out⟩
  all_goals
    refine (dk_read D3.out).mono ?_
    rintro e x5 ⟨ao, c, rfl, -, -, hb⟩
    have D5 := Lib.hid (D3.out.below hb)
    clear hb D3
    go_wp2_with fail
    refine (dk_fall a1 HB1.out D5.out (by decide)).mono ?_
    rintro e x6 ⟨bb, rfl, -, hd, -⟩
    have D6 := Lib.hid (show Dk x1 x6 bb (roomOf 10) [] from by rw [← fall_fresh a1]; exact hd)
    clear hd D5
    go_wp2_with fail
    refine (dk_read_none (n := nF) D6.out (by simp) (by decide)).mono ?_
    rintro e x7 ⟨rfl, rfl⟩
    have D7 := Lib.hid (B1.out.trans (D6.out.old.mono B1.out.size))
    clear D6
    go_wp2
    go_ret
    exact ⟨rfl, D7.out⟩

end Go.Proofs.Ytlcilbbgfilefaa
