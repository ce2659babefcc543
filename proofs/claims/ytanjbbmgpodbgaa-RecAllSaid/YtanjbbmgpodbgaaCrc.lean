/-
  Plain mathematics of Castagnoli's sum: the register's step, its line over bits, that it can be undone. No program is named here.
-/
import Derived.WalkKit
namespace Go.Proofs.Ytanjbbmgpodbgaa

/-- The polynomial, its bits turned round. -/
def polyN : Nat := 2197175160

/-- One bit goes. -/
def stepN (s : Nat) : Nat := if s % 2 = 1 then (s / 2) ^^^ polyN else s / 2

/-- k bits go. -/
def stepsN : Nat → Nat → Nat
  | 0, s => s
  | k + 1, s => stepN (stepsN k s)

/-- A byte is put in. -/
def byteN (s x : Nat) : Nat := stepsN 8 (s ^^^ x)

/-- Bytes are put in, one behind the other. -/
def onN (s : Nat) (l : List UInt8) : Nat := l.foldl (fun s x => byteN s x.toNat) s

/-- All thirty-two bits turned. -/
def notN (s : Nat) : Nat := 4294967295 - s

/-- The sum of bytes behind what s is the sum of. -/
def sumOn (s : Nat) (l : List UInt8) : Nat := notN (onN (notN s) l)

theorem polyN_lt : polyN < 2 ^ 32 := by decide

theorem stepN_lt {s : Nat} (h : s < 4294967296) : stepN s < 4294967296 := by
  unfold stepN
  split
  · exact Nat.xor_lt_two_pow (n := 32) (by omega) polyN_lt
  · omega

theorem stepsN_lt {s : Nat} (h : s < 4294967296) : ∀ k, stepsN k s < 4294967296
  | 0 => h
  | k + 1 => stepN_lt (stepsN_lt h k)

theorem xor_lt32 {a b : Nat} (ha : a < 4294967296) (hb : b < 4294967296) : a ^^^ b < 4294967296 := Nat.xor_lt_two_pow (n := 32) ha hb

theorem byteN_lt {s x : Nat} (h : s < 4294967296) (hx : x < 256) : byteN s x < 4294967296 :=
  stepsN_lt (xor_lt32 h (by omega)) 8

theorem onN_lt : ∀ (l : List UInt8) {s : Nat}, s < 4294967296 → onN s l < 4294967296
  | [], _, h => h
  | x :: l, s, h => onN_lt l (byteN_lt h (by have := x.toNat_lt; omega))

theorem onN_append (s : Nat) (a b : List UInt8) : onN s (a ++ b) = onN (onN s a) b := by simp [onN, List.foldl_append]
theorem onN_cons (s : Nat) (x : UInt8) (l : List UInt8) : onN s (x :: l) = onN (byteN s x.toNat) l := by unfold onN; rw [List.foldl_cons]
theorem onN_snoc (s : Nat) (l : List UInt8) (x : UInt8) : onN s (l ++ [x]) = byteN (onN s l) x.toNat := by simp [onN]

/-- Turned with all ones. -/
theorem xor_all {s : Nat} (h : s < 4294967296) : 4294967295 ^^^ s = notN s := by
  unfold notN
  have h1 := congrArg BitVec.toNat (BitVec.allOnes_xor (x := BitVec.ofNat 32 s))
  rw [BitVec.toNat_xor, BitVec.toNat_not, BitVec.toNat_allOnes, BitVec.toNat_ofNat, Nat.mod_eq_of_lt h] at h1
  exact h1

theorem notN_lt (s : Nat) : notN s < 4294967296 := by unfold notN; omega
theorem notN_notN {s : Nat} (h : s < 4294967296) : notN (notN s) = s := by unfold notN; omega
theorem sumOn_lt (s : Nat) (l : List UInt8) : sumOn s l < 4294967296 := notN_lt _

/-- Two parts, one behind the other. -/
theorem sumOn_append (s : Nat) (a b : List UInt8) : sumOn s (a ++ b) = sumOn (sumOn s a) b := by
  unfold sumOn
  rw [onN_append, notN_notN (onN_lt a (notN_lt s))]

/-! ### The step is a line over bits -/

theorem xor_mod_two (a b : Nat) : (a ^^^ b) % 2 = (a % 2 + b % 2) % 2 := by
  have h := Nat.xor_mod_two_pow (a := a) (b := b) (n := 1)
  simp only [Nat.pow_one] at h
  rw [h]
  rcases Nat.mod_two_eq_zero_or_one a with ha | ha <;> rcases Nat.mod_two_eq_zero_or_one b with hb | hb <;> rw [ha, hb] <;> rfl

theorem xor_div_two (a b : Nat) : (a ^^^ b) / 2 = (a / 2) ^^^ (b / 2) := Nat.xor_div_two

theorem stepN_xor (a b : Nat) : stepN (a ^^^ b) = stepN a ^^^ stepN b := by
  unfold stepN
  rw [xor_mod_two, xor_div_two]
  rcases Nat.mod_two_eq_zero_or_one a with ha | ha <;> rcases Nat.mod_two_eq_zero_or_one b with hb | hb <;> simp only [ha, hb]
  · simp
  · simp [Nat.xor_assoc]
  · simp
    ac_rfl
  · simp
    rw [show ((a / 2) ^^^ polyN) ^^^ ((b / 2) ^^^ polyN) = ((a / 2) ^^^ (b / 2)) ^^^ (polyN ^^^ polyN) by ac_rfl]
    simp

theorem stepsN_xor (a b : Nat) : ∀ k, stepsN k (a ^^^ b) = stepsN k a ^^^ stepsN k b
  | 0 => rfl
  | k + 1 => by simp only [stepsN]; rw [stepsN_xor a b k, stepN_xor]

theorem byteN_xor (s t x y : Nat) : byteN (s ^^^ t) (x ^^^ y) = byteN s x ^^^ byteN t y := by
  unfold byteN
  rw [show (s ^^^ t) ^^^ (x ^^^ y) = (s ^^^ x) ^^^ (t ^^^ y) by ac_rfl, stepsN_xor]

end Go.Proofs.Ytanjbbmgpodbgaa
