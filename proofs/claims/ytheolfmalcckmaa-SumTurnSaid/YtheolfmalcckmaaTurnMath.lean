/-
  Plain mathematics of the law SumTurn: a byte of which one bit is turned; sums of bytes that differ within thirty-two bits.
-/
import Derived.Test.YtheolfmalcckmaaSer
namespace Go.Proofs.Ytheolfmalcckmaa

/-- Was a bit turned among the first k? -/
def trn (β : Nat) : Nat → Bool
  | 0 => false
  | k + 1 => trn β k || β.testBit k

/-- The bits that are turned in k rounds from the m-th on. -/
def dif (m β k i : Nat) : Bool := decide (m ≤ i) && decide (i < m + k) && β.testBit (i - m)

theorem dif_succ (m β k i : Nat) : dif m β (k + 1) i = (dif m β k i != (decide (i = m + k) && β.testBit k)) := by
  unfold dif
  by_cases h : i = m + k
  · subst h
    simp
  · by_cases h1 : i < m + k
    · simp [h, h1, show i < m + (k + 1) by omega]
    · simp [h, h1, show ¬ i < m + (k + 1) by omega]

theorem dif_zero (m β i : Nat) : dif m β 0 i = false := by
  unfold dif
  by_cases h : m ≤ i
  · rw [show decide (i < m + 0) = false from decide_eq_false (by omega)]
    simp
  · simp [h]

/-- Byte q, bit j turned. -/
def flip (y : List UInt8) (i : Nat) : List UInt8 := y.set (i / 8) (UInt8.ofNat ((y.getD (i / 8) 0).toNat ^^^ 2 ^ (i % 8)))

theorem flip_length (y : List UInt8) (i : Nat) : (flip y i).length = y.length := by simp [flip]

theorem flip_bit (y : List UInt8) (i : Nat) (hi : i / 8 < y.length) (t : Nat) : bitOf (flip y i) t = (bitOf y t != decide (t = i)) := by
  have hlt : (y.getD (i / 8) 0).toNat ^^^ 2 ^ (i % 8) < 256 := by
    refine Nat.xor_lt_two_pow (n := 8) ?_ ?_
    · have := (y.getD (i / 8) 0).toNat_lt; omega
    · exact Nat.pow_lt_pow_of_lt (a := 2) (by omega) (Nat.mod_lt _ (by omega))
  unfold bitOf flip
  by_cases h : t / 8 = i / 8
  · rw [h]
    have e : (y.set (i / 8) (UInt8.ofNat ((y.getD (i / 8) 0).toNat ^^^ 2 ^ (i % 8)))).getD (i / 8) 0 = UInt8.ofNat ((y.getD (i / 8) 0).toNat ^^^ 2 ^ (i % 8)) := by
      simp [List.getD, hi]
    rw [e, UInt8.toNat_ofNat', Nat.mod_eq_of_lt hlt, Nat.testBit_xor, Nat.testBit_two_pow]
    have e2 : decide (i % 8 = t % 8) = decide (t = i) := by
      rw [decide_eq_decide]
      omega
    rw [e2]
  · have e : (y.set (i / 8) (UInt8.ofNat ((y.getD (i / 8) 0).toNat ^^^ 2 ^ (i % 8)))).getD (t / 8) 0 = y.getD (t / 8) 0 := by
      simp [List.getD, Ne.symm h]
    rw [e, show decide (t = i) = false by simp; intro e; exact h (by rw [e])]
    simp

theorem trn_iff (β : Nat) : ∀ k, trn β k = true ↔ ∃ j, j < k ∧ β.testBit j = true
  | 0 => by simp [trn]
  | k + 1 => by
    simp only [trn, Bool.or_eq_true, trn_iff β k]
    constructor
    · rintro (⟨j, h1, h2⟩ | h)
      · exact ⟨j, by omega, h2⟩
      · exact ⟨k, by omega, h⟩
    · rintro ⟨j, h1, h2⟩
      by_cases h : j = k
      · subst h; exact .inr h2
      · exact .inl ⟨j, by omega, h2⟩

/-- THE LAW's HEART: the sums part just if a bit was turned. -/
theorem turn_sums (x y : List UInt8) (m β k : Nat) (hl : y.length = x.length) (hk : k ≤ 32) (hm : m + k ≤ 8 * x.length) (hy : ∀ i, bitOf y i = (bitOf x i != dif m β k i)) :
    (sumOn 0 x = sumOn 0 y) ↔ trn β k = false := by
  have hx1 : sumOn 0 x = notN (serF (bitOf x) 4294967295 (8 * x.length)) := by rw [ser_all]; rfl
  have hy1 : sumOn 0 y = notN (serF (bitOf y) 4294967295 (8 * x.length)) := by rw [← hl, ser_all]; rfl
  have hlx := serF_lt (f := bitOf x) (s := 4294967295) (by omega) (8 * x.length)
  have hly := serF_lt (f := bitOf y) (s := 4294967295) (by omega) (8 * x.length)
  have hxy : serF (bitOf y) 4294967295 (8 * x.length) = serF (bitOf x) 4294967295 (8 * x.length) ^^^ serF (dif m β k) 0 (8 * x.length) := by
    rw [← serF_xor, Nat.xor_zero]
    exact serF_congr _ _ fun i _ => hy i
  have h1 : (sumOn 0 x = sumOn 0 y) ↔ serF (dif m β k) 0 (8 * x.length) = 0 := by
    rw [hx1, hy1]
    have e : (notN (serF (bitOf x) 4294967295 (8 * x.length)) = notN (serF (bitOf y) 4294967295 (8 * x.length))) ↔ serF (bitOf x) 4294967295 (8 * x.length) = serF (bitOf y) 4294967295 (8 * x.length) := by
      unfold notN
      omega
    rw [e, hxy]
    generalize serF (bitOf x) 4294967295 (8 * x.length) = a
    generalize serF (dif m β k) 0 (8 * x.length) = b
    constructor
    · intro h
      have := congrArg (a ^^^ ·) h
      simpa [← Nat.xor_assoc] using this.symm
    · rintro rfl; simp
  rw [h1, ← Bool.not_eq_true, trn_iff]
  constructor
  · intro h ⟨j, hj, hb⟩
    have := serF_turned (dif m β k) m (8 * x.length) (by omega) (fun i hi => by simp [dif]; omega) (fun i hi => by simp [dif]; omega) h (m + j) (by omega)
    simp [dif, hj, hb] at this
  · intro h
    rw [serF_zeros, stepsN_of_zero]
    intro i hi
    unfold dif
    by_cases ha : m ≤ i
    · by_cases hb : i < m + k
      · have : β.testBit (i - m) = false := by
          cases hc : β.testBit (i - m) with
          | false => rfl
          | true => exact absurd ⟨i - m, by omega, hc⟩ h
        simp [this]
      · simp [hb]
    · simp [ha]

end Go.Proofs.Ytheolfmalcckmaa
