/-
  Plain mathematics: the sum bit by bit, as the document says it, is the sum byte by byte; what turned bits do to it.
-/
import Derived.Test.YtheolfmalcckmaaCrc
namespace Go.Proofs.Ytheolfmalcckmaa

/-- One bit is put in. -/
def bstep (s : Nat) (b : Bool) : Nat := (s / 2) ^^^ (if (s.testBit 0 != b) = true then polyN else 0)

/-- k bits are put in, the i-th is f i. -/
def serF (f : Nat → Bool) (s : Nat) : Nat → Nat
  | 0 => s
  | k + 1 => bstep (serF f s k) (f k)

/-- The i-th bit of bytes, each byte's lowest first. -/
def bitOf (l : List UInt8) (i : Nat) : Bool := (l.getD (i / 8) 0).toNat.testBit (i % 8)

theorem bstep_lt {s : Nat} (h : s < 4294967296) (b : Bool) : bstep s b < 4294967296 := by
  unfold bstep
  refine xor_lt32 (by omega) ?_
  split
  · decide
  · omega

theorem serF_lt {f : Nat → Bool} {s : Nat} (h : s < 4294967296) : ∀ k, serF f s k < 4294967296
  | 0 => h
  | k + 1 => bstep_lt (serF_lt h k) _

theorem testBit_zero (s : Nat) : s.testBit 0 = decide (s % 2 = 1) := by simp [Nat.testBit_zero]

theorem bstep_eq (s : Nat) (b : Bool) : bstep s b = stepN (s ^^^ b.toNat) := by
  unfold bstep stepN
  rw [xor_mod_two, xor_div_two, testBit_zero]
  rcases Nat.mod_two_eq_zero_or_one s with h | h <;> cases b <;> simp [h]

theorem stepN_double (z : Nat) : stepN (2 * z) = z := by
  unfold stepN
  rw [if_neg (by omega)]
  omega

theorem split_bit (y : Nat) : y = (y % 2) ^^^ (2 * (y / 2)) := by
  apply Nat.eq_of_testBit_eq
  intro i
  rw [Nat.testBit_xor]
  cases i with
  | zero => simp [Nat.testBit_zero]
  | succ i =>
    rw [Nat.testBit_succ, Nat.testBit_succ, Nat.testBit_succ]
    rw [show y % 2 / 2 = 0 by omega, show 2 * (y / 2) / 2 = y / 2 by omega]
    simp

theorem steps_bits (s x : Nat) : ∀ j, stepsN j (s ^^^ x) = serF (fun i => x.testBit i) s j ^^^ (x / 2 ^ j)
  | 0 => by simp [stepsN, serF]
  | j + 1 => by
    have hb : (x.testBit j).toNat = x / 2 ^ j % 2 := by
      rw [Nat.toNat_testBit]
    simp only [stepsN, serF]
    rw [steps_bits s x j, bstep_eq, hb]
    generalize serF (fun i => x.testBit i) s j = S
    have e : x / 2 ^ (j + 1) = x / 2 ^ j / 2 := by rw [Nat.pow_succ, Nat.div_div_eq_div_mul]
    rw [e]
    generalize x / 2 ^ j = y
    conv => lhs; rw [split_bit y]
    rw [← Nat.xor_assoc, stepN_xor, stepN_double]

theorem byteN_bits (s x : Nat) (h : x < 256) : byteN s x = serF (fun i => x.testBit i) s 8 := by
  unfold byteN
  rw [steps_bits, Nat.div_eq_of_lt (by omega), Nat.xor_zero]

theorem serF_add (f : Nat → Bool) (s a : Nat) : ∀ b, serF f s (a + b) = serF (fun i => f (a + i)) (serF f s a) b
  | 0 => rfl
  | b + 1 => by
    rw [← Nat.add_assoc]
    simp only [serF]
    rw [serF_add f s a b]

theorem serF_congr {f g : Nat → Bool} (s : Nat) : ∀ k, (∀ i, i < k → f i = g i) → serF f s k = serF g s k
  | 0, _ => rfl
  | k + 1, h => by
    simp only [serF]
    rw [serF_congr s k (fun i hi => h i (by omega)), h k (by omega)]

theorem ser_take (l : List UInt8) (s : Nat) : ∀ q, q ≤ l.length → serF (bitOf l) s (8 * q) = onN s (l.take q)
  | 0, _ => by simp [serF, onN]
  | q + 1, h => by
    have hq : q < l.length := by omega
    rw [Nat.mul_add, Nat.mul_one, serF_add, ser_take l s q (by omega), List.take_succ_eq_append_getElem hq, onN_snoc, byteN_bits _ _ (by have := l[q].toNat_lt; omega)]
    refine serF_congr _ 8 fun i hi => ?_
    unfold bitOf
    rw [show (8 * q + i) / 8 = q by omega, show (8 * q + i) % 8 = i by omega]
    simp [List.getD, hq]

theorem ser_all (l : List UInt8) (s : Nat) : serF (bitOf l) s (8 * l.length) = onN s l := by
  rw [ser_take l s l.length (Nat.le_refl _), List.take_length]

/-! ### Turned bits -/

theorem bstep_xor (s t : Nat) (a b : Bool) : bstep (s ^^^ t) (a != b) = bstep s a ^^^ bstep t b := by
  rw [bstep_eq, bstep_eq, bstep_eq, ← stepN_xor]
  congr 1
  have e : (a != b).toNat = a.toNat ^^^ b.toNat := by cases a <;> cases b <;> rfl
  rw [e]
  ac_rfl

theorem serF_xor (f g : Nat → Bool) (s t : Nat) : ∀ k, serF (fun i => f i != g i) (s ^^^ t) k = serF f s k ^^^ serF g t k
  | 0 => rfl
  | k + 1 => by
    simp only [serF]
    rw [serF_xor f g s t k, bstep_xor]

theorem stepN_zero {s : Nat} (h : s < 4294967296) (h0 : stepN s = 0) : s = 0 := by
  unfold stepN at h0
  split at h0
  · have h1 : s / 2 = polyN := by
      have := congrArg (· ^^^ polyN) h0
      simpa [Nat.xor_assoc] using this
    have : polyN = 2197175160 := rfl
    omega
  · omega

theorem stepsN_zero {s : Nat} (h : s < 4294967296) : ∀ k, stepsN k s = 0 → s = 0
  | 0, h0 => h0
  | k + 1, h0 => stepsN_zero h k (stepN_zero (stepsN_lt h k) h0)

theorem bstep_false (s : Nat) : bstep s false = stepN s := by rw [bstep_eq]; simp

theorem serF_zeros (f : Nat → Bool) (s : Nat) : ∀ k, (∀ i, i < k → f i = false) → serF f s k = stepsN k s
  | 0, _ => rfl
  | k + 1, h => by
    simp only [serF, stepsN]
    rw [serF_zeros f s k (fun i hi => h i (by omega)), h k (by omega), bstep_false]

theorem stepsN_of_zero : ∀ k, stepsN k 0 = 0
  | 0 => rfl
  | k + 1 => by simp only [stepsN]; rw [stepsN_of_zero k]; rfl

theorem bool_bit (b : Bool) {i : Nat} (h : i ≠ 0) : b.toNat.testBit i = false := by
  apply Nat.testBit_lt_two_pow
  have h1 : 2 ^ 1 ≤ 2 ^ i := Nat.pow_le_pow_right (by omega) (by omega)
  cases b <;> simp <;> omega

theorem bool_bit0 (b : Bool) : b.toNat.testBit 0 = b := by cases b <;> rfl

/-- The lowest k bits that f names, as a number. -/
def bitsN (f : Nat → Bool) : Nat → Nat
  | 0 => 0
  | k + 1 => bitsN f k + (f k).toNat * 2 ^ k

theorem bitsN_lt (f : Nat → Bool) : ∀ k, bitsN f k < 2 ^ k
  | 0 => by simp [bitsN]
  | k + 1 => by
    have := bitsN_lt f k
    simp only [bitsN, Nat.pow_succ]
    cases f k <;> simp <;> omega

theorem bitsN_zero (f : Nat → Bool) : ∀ k, bitsN f k = 0 → ∀ i, i < k → f i = false
  | 0, _, i, hi => by omega
  | k + 1, h, i, hi => by
    simp only [bitsN] at h
    have hp := Nat.two_pow_pos k
    have h1 : f k = false := by
      cases hk : f k with
      | false => rfl
      | true => rw [hk] at h; simp at h
    rcases Nat.lt_succ_iff_lt_or_eq.1 hi with h2 | rfl
    · exact bitsN_zero f k (by omega) i h2
    · exact h1

theorem testBit_bitsN (f : Nat → Bool) : ∀ k i, (bitsN f k).testBit i = (decide (i < k) && f i)
  | 0, i => by simp [bitsN]
  | k + 1, i => by
    have hlt := bitsN_lt f k
    have e : bitsN f (k + 1) = 2 ^ k * (f k).toNat + bitsN f k := by simp only [bitsN]; rw [Nat.mul_comm, Nat.add_comm]
    rw [e, Nat.testBit_two_pow_mul_add _ hlt]
    by_cases h : i < k
    · rw [if_pos h, testBit_bitsN f k i]
      simp [h, show i < k + 1 by omega]
    · rw [if_neg h]
      by_cases h2 : i = k
      · subst h2
        simp
        cases f i <;> rfl
      · have h3 : ¬ i < k + 1 := by omega
        simp only [h3, decide_false, Bool.false_and]
        exact bool_bit _ (by omega)

/-- Of at most thirty-two bits from nothing: they are the register, k steps on. -/
theorem serF_window (f : Nat → Bool) : ∀ k, serF f 0 k = stepsN k (bitsN f k)
  | 0 => rfl
  | k + 1 => by
    simp only [serF]
    rw [serF_window f k, bstep_eq]
    have hlt := bitsN_lt f k
    have e : bitsN f (k + 1) = bitsN f k ^^^ ((f k).toNat * 2 ^ k) := by
      apply Nat.eq_of_testBit_eq
      intro i
      rw [Nat.testBit_xor, testBit_bitsN, testBit_bitsN]
      by_cases h : i < k
      · have : ((f k).toNat * 2 ^ k).testBit i = false := by
          rw [Nat.testBit_mul_two_pow]
          simp [show ¬ k ≤ i by omega]
        rw [this]
        simp [h, show i < k + 1 by omega]
      · rw [Nat.testBit_mul_two_pow]
        by_cases h2 : i = k
        · subst h2
          rw [Nat.sub_self, bool_bit0]
          simp
        · have h3 : ¬ i < k + 1 := by omega
          have : ((f k).toNat).testBit (i - k) = false := bool_bit _ (by omega)
          simp [h, h3, this]
    rw [e, stepsN_xor]
    simp only [stepsN]
    have hs : stepsN k ((f k).toNat * 2 ^ k) = (f k).toNat := by
      generalize (f k).toNat = z
      clear e hlt
      have : ∀ j, j ≤ k → stepsN j (z * 2 ^ k) = z * 2 ^ (k - j) := by
        intro j
        induction j with
        | zero => intro _; simp [stepsN]
        | succ j ih =>
          intro hj
          simp only [stepsN]
          rw [ih (by omega), show z * 2 ^ (k - j) = 2 * (z * 2 ^ (k - (j + 1))) by
            rw [show k - j = (k - (j + 1)) + 1 by omega, Nat.pow_succ]
            rw [← Nat.mul_assoc, Nat.mul_comm]]
          exact stepN_double _
      have := this k (Nat.le_refl _)
      simpa using this
    rw [hs]
    rw [stepN_xor]

/-- BITS TURNED, all within thirty-two one behind the other, turn the register. -/
theorem serF_turned (d : Nat → Bool) (at_ n : Nat) (hn : at_ ≤ n) (h0 : ∀ i, i < at_ → d i = false) (h1 : ∀ i, at_ + 32 ≤ i → d i = false) (h : serF d 0 n = 0) : ∀ i, i < n → d i = false := by
  intro i hi
  by_cases ha : i < at_
  · exact h0 i ha
  by_cases hb : at_ + 32 ≤ i
  · exact h1 i hb
  have hz : serF d 0 at_ = 0 := by rw [serF_zeros d 0 at_ h0, stepsN_of_zero]
  obtain ⟨m, rfl⟩ : ∃ m, n = at_ + m := ⟨n - at_, by omega⟩
  rw [serF_add, hz] at h
  obtain ⟨j, rfl⟩ : ∃ j, i = at_ + j := ⟨i - at_, by omega⟩
  by_cases hm : m ≤ 32
  · rw [serF_window] at h
    have hl := bitsN_lt (fun i => d (at_ + i)) m
    have := stepsN_zero (Nat.lt_of_lt_of_le hl (Nat.pow_le_pow_right (by omega) hm)) m h
    exact bitsN_zero _ m this j (by omega)
  · obtain ⟨r, rfl⟩ : ∃ r, m = 32 + r := ⟨m - 32, by omega⟩
    rw [serF_add, serF_window] at h
    rw [serF_zeros _ _ r (fun i hi => h1 _ (by omega))] at h
    have hl := bitsN_lt (fun i => d (at_ + i)) 32
    have h2 := stepsN_zero (stepsN_lt hl 32) r h
    have h3 := stepsN_zero hl 32 h2
    exact bitsN_zero _ 32 h3 j (by omega)

end Go.Proofs.Ytheolfmalcckmaa
