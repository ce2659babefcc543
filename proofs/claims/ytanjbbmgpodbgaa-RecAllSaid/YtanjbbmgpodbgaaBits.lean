/-
  Plain lemmas on bits of Go's integers: what a mask leaves.
-/
import Derived.WalkKit
namespace Go.Proofs.Ytanjbbmgpodbgaa

theorem i64_mask (n : Int) (k : Nat) (m : Int) (hm : (BitVec.ofInt 64 m).toNat = 2 ^ k - 1) (hk : 2 ^ k ≤ 9223372036854775808) : bits .and .i64 n m = (((n % 18446744073709551616).toNat % 2 ^ k : Nat) : Int) := by
  have key : (BitVec.ofInt 64 n &&& BitVec.ofInt 64 m).toNat = (n % ((2 ^ 64 : Nat) : Int)).toNat % 2 ^ k := by
    rw [BitVec.toNat_and, BitVec.toNat_ofInt, hm, Nat.and_two_pow_sub_one_eq_mod]
  show IntKind.i64.wrap ((BitVec.ofInt 64 n &&& BitVec.ofInt 64 m).toNat : Nat) = _
  rw [key, IntKind.wrap_i64]
  have : (n % ((2 ^ 64 : Nat) : Int)).toNat % 2 ^ k < 2 ^ k := Nat.mod_lt _ (Nat.two_pow_pos k)
  have e : ((2 ^ 64 : Nat) : Int) = 18446744073709551616 := by decide
  rw [e] at this ⊢
  omega

theorem i64_and65535 (n : Int) : bits .and .i64 n 65535 = n % 65536 := by
  rw [i64_mask n 16 65535 (by decide) (by decide)]; omega
theorem i64_and255 (n : Int) : bits .and .i64 n 255 = n % 256 := by
  rw [i64_mask n 8 255 (by decide) (by decide)]; omega
theorem i64_and3 (n : Int) : bits .and .i64 n 3 = n % 4 := by
  rw [i64_mask n 2 3 (by decide) (by decide)]; omega
theorem i64_and1 (n : Int) : bits .and .i64 n 1 = n % 2 := by
  rw [i64_mask n 1 1 (by decide) (by decide)]; omega

end Go.Proofs.Ytanjbbmgpodbgaa
