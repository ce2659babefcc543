/-
  The walk of the reference's Sum: thirty-two truths in a row, a bit at a time.
-/
import Derived.Test.YtgachdaphdjddaaGreatDoorCrc
import Derived.Test.YtgachdaphdjddaaGreatDoorBegun
import Derived.StillTailTactics
import Derived.Deep.LoopGhost
namespace Go.Proofs.YtgachdaphdjddaaGreatDoor

/-- One bit is put in. -/
def bstep (s : Nat) (b : Bool) : Nat := (s / 2) ^^^ (if (s.testBit 0 != b) = true then polyN else 0)

/-- k bits are put in, the i-th is f i. -/
def serF (f : Nat → Bool) (s : Nat) : Nat → Nat
  | 0 => s
  | k + 1 => bstep (serF f s k) (f k)

/-- The i-th bit of bytes, each byte's lowest first. -/
def bitOf (l : List UInt8) (i : Nat) : Bool := (l.getD (i / 8) 0).toNat.testBit (i % 8)

theorem bstep_lt {s : Nat} (h : s < 4294967296) (b : Bool) : bstep s b < 4294967296 := by
  unfold bstep
  refine xor_lt32 (by omega) ?_
  split
  · decide
  · omega

theorem serF_lt {f : Nat → Bool} {s : Nat} (h : s < 4294967296) : ∀ k, serF f s k < 4294967296
  | 0 => h
  | k + 1 => bstep_lt (serF_lt h k) _

theorem testBit_zero (s : Nat) : s.testBit 0 = decide (s % 2 = 1) := by simp [Nat.testBit_zero]

theorem bstep_eq (s : Nat) (b : Bool) : bstep s b = stepN (s ^^^ b.toNat) := by
  unfold bstep stepN
  rw [xor_mod_two, xor_div_two, testBit_zero]
  rcases Nat.mod_two_eq_zero_or_one s with h | h <;> cases b <;> simp [h]

theorem stepN_double (z : Nat) : stepN (2 * z) = z := by
  unfold stepN
  rw [if_neg (by omega)]
  omega

theorem split_bit (y : Nat) : y = (y % 2) ^^^ (2 * (y / 2)) := by
  apply Nat.eq_of_testBit_eq
  intro i
  rw [Nat.testBit_xor]
  cases i with
  | zero => simp [Nat.testBit_zero]
  | succ i =>
    rw [Nat.testBit_succ, Nat.testBit_succ, Nat.testBit_succ]
    rw [show y % 2 / 2 = 0 by omega, show 2 * (y / 2) / 2 = y / 2 by omega]
    simp

theorem steps_bits (s x : Nat) : ∀ j, stepsN j (s ^^^ x) = serF (fun i => x.testBit i) s j ^^^ (x / 2 ^ j)
  | 0 => by simp [stepsN, serF]
  | j + 1 => by
    have hb : (x.testBit j).toNat = x / 2 ^ j % 2 := by
      rw [Nat.toNat_testBit]
    simp only [stepsN, serF]
    rw [steps_bits s x j, bstep_eq, hb]
    generalize serF (fun i => x.testBit i) s j = S
    have e : x / 2 ^ (j + 1) = x / 2 ^ j / 2 := by rw [Nat.pow_succ, Nat.div_div_eq_div_mul]
    rw [e]
    generalize x / 2 ^ j = y
    conv => lhs; rw [split_bit y]
    rw [← Nat.xor_assoc, stepN_xor, stepN_double]

theorem byteN_bits (s x : Nat) (h : x < 256) : byteN s x = serF (fun i => x.testBit i) s 8 := by
  unfold byteN
  rw [steps_bits, Nat.div_eq_of_lt (by omega), Nat.xor_zero]

theorem serF_add (f : Nat → Bool) (s a : Nat) : ∀ b, serF f s (a + b) = serF (fun i => f (a + i)) (serF f s a) b
  | 0 => rfl
  | b + 1 => by
    rw [← Nat.add_assoc]
    simp only [serF]
    rw [serF_add f s a b]

theorem serF_congr {f g : Nat → Bool} (s : Nat) : ∀ k, (∀ i, i < k → f i = g i) → serF f s k = serF g s k
  | 0, _ => rfl
  | k + 1, h => by
    simp only [serF]
    rw [serF_congr s k (fun i hi => h i (by omega)), h k (by omega)]

theorem ser_take (l : List UInt8) (s : Nat) : ∀ q, q ≤ l.length → serF (bitOf l) s (8 * q) = onN s (l.take q)
  | 0, _ => by simp [serF, onN]
  | q + 1, h => by
    have hq : q < l.length := by omega
    rw [Nat.mul_add, Nat.mul_one, serF_add, ser_take l s q (by omega), List.take_succ_eq_append_getElem hq, onN_snoc, byteN_bits _ _ (by have := l[q].toNat_lt; omega)]
    refine serF_congr _ 8 fun i hi => ?_
    unfold bitOf
    rw [show (8 * q + i) / 8 = q by omega, show (8 * q + i) % 8 = i by omega]
    simp [List.getD, hq]

theorem ser_all (l : List UInt8) (s : Nat) : serF (bitOf l) s (8 * l.length) = onN s l := by
  rw [ser_take l s l.length (Nat.le_refl _), List.take_length]

/-! ### Turned bits -/

theorem bstep_xor (s t : Nat) (a b : Bool) : bstep (s ^^^ t) (a != b) = bstep s a ^^^ bstep t b := by
  rw [bstep_eq, bstep_eq, bstep_eq, ← stepN_xor]
  congr 1
  have e : (a != b).toNat = a.toNat ^^^ b.toNat := by cases a <;> cases b <;> rfl
  rw [e]
  ac_rfl

theorem serF_xor (f g : Nat → Bool) (s t : Nat) : ∀ k, serF (fun i => f i != g i) (s ^^^ t) k = serF f s k ^^^ serF g t k
  | 0 => rfl
  | k + 1 => by
    simp only [serF]
    rw [serF_xor f g s t k, bstep_xor]

theorem stepN_zero {s : Nat} (h : s < 4294967296) (h0 : stepN s = 0) : s = 0 := by
  unfold stepN at h0
  split at h0
  · have h1 : s / 2 = polyN := by
      have := congrArg (· ^^^ polyN) h0
      simpa [Nat.xor_assoc] using this
    have : polyN = 2197175160 := rfl
    omega
  · omega

theorem stepsN_zero {s : Nat} (h : s < 4294967296) : ∀ k, stepsN k s = 0 → s = 0
  | 0, h0 => h0
  | k + 1, h0 => stepsN_zero h k (stepN_zero (stepsN_lt h k) h0)

theorem bstep_false (s : Nat) : bstep s false = stepN s := by rw [bstep_eq]; simp

theorem serF_zeros (f : Nat → Bool) (s : Nat) : ∀ k, (∀ i, i < k → f i = false) → serF f s k = stepsN k s
  | 0, _ => rfl
  | k + 1, h => by
    simp only [serF, stepsN]
    rw [serF_zeros f s k (fun i hi => h i (by omega)), h k (by omega), bstep_false]

theorem stepsN_of_zero : ∀ k, stepsN k 0 = 0
  | 0 => rfl
  | k + 1 => by simp only [stepsN]; rw [stepsN_of_zero k]; rfl

theorem bool_bit (b : Bool) {i : Nat} (h : i ≠ 0) : b.toNat.testBit i = false := by
  apply Nat.testBit_lt_two_pow
  have h1 : 2 ^ 1 ≤ 2 ^ i := Nat.pow_le_pow_right (by omega) (by omega)
  cases b <;> simp <;> omega

theorem bool_bit0 (b : Bool) : b.toNat.testBit 0 = b := by cases b <;> rfl

/-- The lowest k bits that f names, as a number. -/
def bitsN (f : Nat → Bool) : Nat → Nat
  | 0 => 0
  | k + 1 => bitsN f k + (f k).toNat * 2 ^ k

theorem bitsN_lt (f : Nat → Bool) : ∀ k, bitsN f k < 2 ^ k
  | 0 => by simp [bitsN]
  | k + 1 => by
    have := bitsN_lt f k
    simp only [bitsN, Nat.pow_succ]
    cases f k <;> simp <;> omega

theorem bitsN_zero (f : Nat → Bool) : ∀ k, bitsN f k = 0 → ∀ i, i < k → f i = false
  | 0, _, i, hi => by omega
  | k + 1, h, i, hi => by
    simp only [bitsN] at h
    have hp := Nat.two_pow_pos k
    have h1 : f k = false := by
      cases hk : f k with
      | false => rfl
      | true => rw [hk] at h; simp at h
    rcases Nat.lt_succ_iff_lt_or_eq.1 hi with h2 | rfl
    · exact bitsN_zero f k (by omega) i h2
    · exact h1

theorem testBit_bitsN (f : Nat → Bool) : ∀ k i, (bitsN f k).testBit i = (decide (i < k) && f i)
  | 0, i => by simp [bitsN]
  | k + 1, i => by
    have hlt := bitsN_lt f k
    have e : bitsN f (k + 1) = 2 ^ k * (f k).toNat + bitsN f k := by simp only [bitsN]; rw [Nat.mul_comm, Nat.add_comm]
    rw [e, Nat.testBit_two_pow_mul_add _ hlt]
    by_cases h : i < k
    · rw [if_pos h, testBit_bitsN f k i]
      simp [h, show i < k + 1 by omega]
    · rw [if_neg h]
      by_cases h2 : i = k
      · subst h2
        simp
        cases f i <;> rfl
      · have h3 : ¬ i < k + 1 := by omega
        simp only [h3, decide_false, Bool.false_and]
        exact bool_bit _ (by omega)

/-- Of at most thirty-two bits from nothing: they are the register, k steps on. -/
theorem serF_window (f : Nat → Bool) : ∀ k, serF f 0 k = stepsN k (bitsN f k)
  | 0 => rfl
  | k + 1 => by
    simp only [serF]
    rw [serF_window f k, bstep_eq]
    have hlt := bitsN_lt f k
    have e : bitsN f (k + 1) = bitsN f k ^^^ ((f k).toNat * 2 ^ k) := by
      apply Nat.eq_of_testBit_eq
      intro i
      rw [Nat.testBit_xor, testBit_bitsN, testBit_bitsN]
      by_cases h : i < k
      · have : ((f k).toNat * 2 ^ k).testBit i = false := by
          rw [Nat.testBit_mul_two_pow]
          simp [show ¬ k ≤ i by omega]
        rw [this]
        simp [h, show i < k + 1 by omega]
      · rw [Nat.testBit_mul_two_pow]
        by_cases h2 : i = k
        · subst h2
          rw [Nat.sub_self, bool_bit0]
          simp
        · have h3 : ¬ i < k + 1 := by omega
          have : ((f k).toNat).testBit (i - k) = false := bool_bit _ (by omega)
          simp [h, h3, this]
    rw [e, stepsN_xor]
    simp only [stepsN]
    have hs : stepsN k ((f k).toNat * 2 ^ k) = (f k).toNat := by
      generalize (f k).toNat = z
      clear e hlt
      have : ∀ j, j ≤ k → stepsN j (z * 2 ^ k) = z * 2 ^ (k - j) := by
        intro j
        induction j with
        | zero => intro _; simp [stepsN]
        | succ j ih =>
          intro hj
          simp only [stepsN]
          rw [ih (by omega), show z * 2 ^ (k - j) = 2 * (z * 2 ^ (k - (j + 1))) by
            rw [show k - j = (k - (j + 1)) + 1 by omega, Nat.pow_succ]
            rw [← Nat.mul_assoc, Nat.mul_comm]]
          exact stepN_double _
      have := this k (Nat.le_refl _)
      simpa using this
    rw [hs]
    rw [stepN_xor]

/-- BITS TURNED, all within thirty-two one behind the other, turn the register. -/
theorem serF_turned (d : Nat → Bool) (at_ n : Nat) (hn : at_ ≤ n) (h0 : ∀ i, i < at_ → d i = false) (h1 : ∀ i, at_ + 32 ≤ i → d i = false) (h : serF d 0 n = 0) : ∀ i, i < n → d i = false := by
  intro i hi
  by_cases ha : i < at_
  · exact h0 i ha
  by_cases hb : at_ + 32 ≤ i
  · exact h1 i hb
  have hz : serF d 0 at_ = 0 := by rw [serF_zeros d 0 at_ h0, stepsN_of_zero]
  obtain ⟨m, rfl⟩ : ∃ m, n = at_ + m := ⟨n - at_, by omega⟩
  rw [serF_add, hz] at h
  obtain ⟨j, rfl⟩ : ∃ j, i = at_ + j := ⟨i - at_, by omega⟩
  by_cases hm : m ≤ 32
  · rw [serF_window] at h
    have hl := bitsN_lt (fun i => d (at_ + i)) m
    have := stepsN_zero (Nat.lt_of_lt_of_le hl (Nat.pow_le_pow_right (by omega) hm)) m h
    exact bitsN_zero _ m this j (by omega)
  · obtain ⟨r, rfl⟩ : ∃ r, m = 32 + r := ⟨m - 32, by omega⟩
    rw [serF_add, serF_window] at h
    rw [serF_zeros _ _ r (fun i hi => h1 _ (by omega))] at h
    have hl := bitsN_lt (fun i => d (at_ + i)) 32
    have h2 := stepsN_zero (stepsN_lt hl 32) r h
    have h3 := stepsN_zero hl 32 h2
    exact bitsN_zero _ 32 h3 j (by omega)

end Go.Proofs.YtgachdaphdjddaaGreatDoor

namespace Go.Proofs.YtgachdaphdjddaaGreatDoor
open Go.RowKit

/-- The powers, in their row. -/
def powers : List Int := [0, 6, 8, 9, 10, 11, 13, 14, 18, 19, 20, 22, 23, 25, 26, 27, 28]

/-- Thirty-two truths in a block. -/
def Reg (w : World) (B : Nat) (f : Nat → Bool) : Prop := (∀ i, i < 32 → w.cell? ⟨B, i, none⟩ = some (.bool (f i))) ∧ ∀ i, w.frozen? ⟨B, i, none⟩ = false

theorem Reg.set {w : World} {B : Nat} {f : Nat → Bool} (h : Reg w B f) (k : Nat) (hk : k < 32) (b : Bool) : Reg (w.setCell ⟨B, k, none⟩ (.bool b)) B (fun i => if i = k then b else f i) := by
  refine ⟨fun i hi => ?_, fun i => by rw [World.frozen?_setCell]; exact h.2 i⟩
  by_cases hik : i = k
  · subst hik
    simp only [if_true]
    exact World.cell?_setCell_same _ _ _ (h.1 i hi)
  · simp only [if_neg hik]
    rw [World.cell?_setCell_other _ _ _ _ (fun e => hik (by cases e; rfl))]
    exact h.1 i hi

theorem Reg.congr {w : World} {B : Nat} {f g : Nat → Bool} (h : Reg w B f) (e : ∀ i, i < 32 → f i = g i) : Reg w B g :=
  ⟨fun i hi => by rw [h.1 i hi, e i hi], h.2⟩

def Pows (w : World) (B : Nat) : Prop := ∀ i, i < 17 → w.cell? ⟨B, i, none⟩ = some (.int .i64 (powers.getD i 0))

theorem Pows.set {w : World} {B B' i : Nat} {v : Value} (h : Pows w B) (hB : B ≠ B') : Pows (w.setCell ⟨B', i, none⟩ v) B :=
  fun j hj => by rw [World.cell?_setCell_other _ _ _ _ (fun e => hB (congrArg Addr.block e).symm)]; exact h j hj

theorem powers_row : (powers.map (Value.int .i64)).toArray = #[.int .i64 0, .int .i64 6, .int .i64 8, .int .i64 9, .int .i64 10, .int .i64 11, .int .i64 13, .int .i64 14, .int .i64 18, .int .i64 19, .int .i64 20, .int .i64 22, .int .i64 23, .int .i64 25, .int .i64 26, .int .i64 27, .int .i64 28] := rfl

theorem powers_at {i : Nat} (h : i < 17) : (powers.map (Value.int .i64)).toArray[i]? = some (.int .i64 (powers.getD i 0)) := by
  have hl : i < powers.length := h
  simp [List.getD, hl]

theorem powers_le : ∀ i, i < 17 → 0 ≤ powers.getD i 0 ∧ powers.getD i 0 ≤ 28 := by decide +kernel

theorem half_bits {S : Nat} (h : S < 4294967296) (i : Nat) (hi : i < 32) : (if i = 31 then false else S.testBit (i + 1)) = (S / 2).testBit i := by
  rw [← Nat.testBit_succ]
  by_cases h1 : i = 31
  · subst h1
    rw [if_pos rfl, Nat.testBit_lt_two_pow (by omega)]
  · rw [if_neg h1]

theorem bit_is (x j : Nat) (hx : x < 256) : (bits .and .u8 ((x : Int) / 2 ^ j) 1 == 1) = x.testBit j := by
  have hlt : x / 2 ^ j < 256 := Nat.lt_of_le_of_lt (Nat.div_le_self _ _) hx
  have h := u8_and_nat (x / 2 ^ j) 1 hlt (by omega)
  rw [nat_mask1, Int.natCast_ediv, Int.natCast_pow] at h
  rw [show ((2 : Nat) : Int) = 2 from rfl, show ((1 : Nat) : Int) = 1 from rfl] at h
  rw [h, Nat.testBit_eq_decide_div_mod_eq]
  generalize x / 2 ^ j = y
  rw [Bool.eq_iff_iff]
  simp only [beq_iff_eq, decide_eq_true_eq]
  omega

/-- What the turned places come to. -/
def tog : Nat → Nat
  | 0 => 0
  | j + 1 => tog j ^^^ 2 ^ (31 - (powers.getD j 0).toNat)

theorem tog_step (S j P i : Nat) (ob : Bool) (hP : powers.getD j 0 = (P : Int)) (ho : ob = ((S / 2) ^^^ tog j).testBit (31 - P)) :
    (if i = 31 - P then !ob else ((S / 2) ^^^ tog j).testBit i) = ((S / 2) ^^^ tog (j + 1)).testBit i := by
  have ht : tog (j + 1) = tog j ^^^ 2 ^ (31 - P) := by rw [tog, hP]; rfl
  rw [ht, ← Nat.xor_assoc]
  generalize (S / 2) ^^^ tog j = Z at *
  rw [Nat.testBit_xor, Nat.testBit_two_pow]
  by_cases h : i = 31 - P
  · subst h; simp [ho]
  · simp [h, show ¬ 31 - P = i by omega]

theorem or_step {v j : Nat} (hv : v < 2 ^ j) (hj : j < 32) : bits .or .u32 (v : Int) ((2 : Int) ^ j % 4294967296) = ((v + 2 ^ j : Nat) : Int) := by
  have hp : 2 ^ j < 4294967296 := Nat.pow_lt_pow_of_lt (a := 2) (by omega) hj
  have e : (2 : Int) ^ j % 4294967296 = ((2 ^ j : Nat) : Int) := by
    rw [show (2 : Int) ^ j = ((2 ^ j : Nat) : Int) by rw [Int.natCast_pow]; rfl]
    omega
  rw [e, u32_or_nat _ _ (by omega) hp, Nat.or_comm, nat_join j _ _ (Nat.mod_self _) hv, Nat.add_comm]

theorem not_step {S : Nat} (h : S < 4294967296) (j : Nat) (hj : j < 32) : notN S % 2 ^ (j + 1) = notN S % 2 ^ j + if S.testBit j = true then 0 else 2 ^ j := by
  have hb : (notN S).testBit j = !S.testBit j := by
    rw [← xor_all h, Nat.testBit_xor, Nat.testBit_two_pow_sub_one 32 j]
    simp [hj]
  have hn := Nat.toNat_testBit (notN S) j
  rw [hb] at hn
  rw [Nat.pow_succ, Nat.mod_mul, ← hn]
  cases S.testBit j <;> simp

theorem tog_all : tog 17 = polyN := by decide +kernel

theorem Reg.drew {w : World} {B : Nat} {f : Nat → Bool} (h : Reg w B f) : Reg w.drew B f := h


set_option maxHeartbeats 3000000 in
set_option maxRecDepth 100000 in
theorem refSum_calls (b off : Nat) (c : Nat) (l : List UInt8) (w : World) (hl : l.length ≤ 1000000000)
    (hc : ∀ i, i < l.length → w.cell? ⟨b, off + i, none⟩ = some (.int .u8 ((l.getD i 0).toNat : Int))) (hb : b < w.heap.size) :
    Calls Tryz.prog 39 #[.slice (some ⟨b, off, none⟩) l.length c] w fun e w' => e = .returned (.int .u32 (sumOn 0 l : Nat)) ∧ Below w.heap.size w w' := by
  have HC := Lib.hid hc
  clear hc
  go_enter Tryz.func39, Tryz.ntmps39
  go_wp2_with fail
  go_loopw [4] (fun i wr => ∃ k : Nat, k ≤ 32 ∧ i = .int .i64 k ∧ Reg wr w.heap.size (fun i => decide (i < k)) ∧ wr.heap.size = w.heap.size + 1 ∧ Below w.heap.size w wr) (fun i _ => 32 - (intOf i).toNat)
  case atStart =>
    refine ⟨0, by omega, rfl, ⟨fun i hi => ?_, fun i => by rw [World.frozen?_alloc_at (hn := rfl)]⟩, by simp, new_below _ _⟩
    rw [World.cell?_alloc_at (hn := rfl)]
    show (Array.replicate 32 (Value.bool false))[i]? = _
    simp [hi]
  case round =>
    obtain ⟨k, hk, rfl, hreg, hsz, hbel⟩ := hrel
    have HR := Lib.hid hreg
    have HB := Lib.hid hbel
    have HS := Lib.hid hsz
    clear hreg hbel hsz
    by_cases hlt : k < 32
    · have hcell := HR.out.1 k hlt
      have hfr := HR.out.2 k
      go_wp2
      go_roundw
      case rel =>
        refine ⟨k + 1, by omega, by go_num, (HR.out.set k hlt true).congr fun i hi => ?_, by simpa [World.setCell] using HS.out, HB.out.setCell (by simp) _⟩
        by_cases h : i = k <;> simp [h] <;> omega
      case measure => simp [intOf]; omega
    · obtain rfl : k = 32 := by omega
      have HR1 := Lib.hid (HR.out.congr (g := fun i => Nat.testBit 4294967295 i) (fun i hi => by rw [Nat.testBit_two_pow_sub_one 32 i]))
      have hwsz := HS.out
      obtain ⟨w1, rfl⟩ : ∃ w1 : World, w1 = wr := ⟨_, rfl⟩
      go_wp2_with fail
      have hsz1 := HS.out
      go_loopw [6] (fun i wr => ∃ k : Nat, k ≤ 8 * l.length ∧ i = .int .i64 k ∧ Reg wr w.heap.size (fun i => (serF (bitOf l) 4294967295 k).testBit i) ∧ Pows wr (w.heap.size + 1) ∧ Below w.heap.size w wr) (fun i _ => 8 * l.length - (intOf i).toNat)
      case atStart =>
        refine ⟨0, by omega, rfl, ⟨fun i hi => ?_, fun i => ?_⟩, fun i hi => ?_, HB.out.alloc (by omega) _⟩
        · rw [World.cell?_alloc_past (hn := by omega)]; exact HR1.out.1 i hi
        · rw [World.frozen?_alloc_past (hn := by omega)]; exact HR1.out.2 i
        · rw [World.cell?_alloc_at (hn := by omega)]
          rw [← powers_row]
          exact powers_at hi
      case round =>
        obtain ⟨k, hk, rfl, hreg, hpow, hbel⟩ := hrel
        have RR := Lib.hid hreg
        have PP := Lib.hid hpow
        have BB := Lib.hid hbel
        clear hreg hpow hbel hwsz hsz1
        by_cases hlt : k < 8 * l.length
        · have hcell := (BB.out.cell (p := ⟨b, off + k / 8, none⟩) hb).trans (HC.out (k / 8) (by omega))
          have h0 := RR.out.1 0 (by omega)
          have hx : (l.getD (k / 8) 0).toNat < 256 := by have := (l.getD (k / 8) 0).toNat_lt; omega
          obtain ⟨S, hS⟩ : ∃ S, S = serF (bitOf l) 4294967295 k := ⟨_, rfl⟩
          have hSl : S < 4294967296 := by rw [hS]; exact serF_lt (by omega) k
          rw [← hS] at RR h0
          have HS2 := Lib.hid hS
          have hbit := bit_is (l.getD (k / 8) 0).toNat (k % 8) hx
          have HBt := Lib.hid (show bitOf l k = (l.getD (k / 8) 0).toNat.testBit (k % 8) from rfl)
          generalize (l.getD (k / 8) 0).toNat.testBit (k % 8) = bt at *
          generalize (l.getD (k / 8) 0).toNat = x at *
          clear hS
          obtain ⟨s0, hs0⟩ : ∃ s0, s0 = S.testBit 0 := ⟨_, rfl⟩
          have h00 : wr.cell? ⟨w.heap.size, 0, none⟩ = some (.bool s0) := by rw [hs0]; exact h0
          clear h0
          have HS0 := Lib.hid hs0
          clear hs0
          have hf0 := RR.out.2 0
          go_wp2_with fail
          obtain ⟨w2, rfl⟩ : ∃ w2 : World, w2 = wr := ⟨_, rfl⟩
          go_loopw [9] (fun i wr => ∃ j : Nat, j ≤ 31 ∧ i = .int .i64 j ∧ Reg wr w.heap.size (fun i => if i < j then S.testBit (i + 1) else S.testBit i) ∧ Pows wr (w.heap.size + 1) ∧ Below w.heap.size w wr) (fun i _ => 31 - (intOf i).toNat)
          case atStart => exact ⟨0, by omega, rfl, RR.out.congr (fun i hi => by simp), PP.out, BB.out⟩
          case round =>
            obtain ⟨j, hj, rfl, hreg, hpow, hbel⟩ := hrel
            have R2 := Lib.hid hreg
            have P2 := Lib.hid hpow
            have B2 := Lib.hid hbel
            clear hreg hpow hbel RR PP BB hcell h00
            by_cases hlt2 : j < 31
            · have c1 := R2.out.1 (j + 1) (by omega)
              have c0 := R2.out.1 j (by omega)
              have f0 := R2.out.2 j
              simp only [if_neg (show ¬ j + 1 < j by omega)] at c1
              simp only [if_neg (show ¬ j < j by omega)] at c0
              have HN := Lib.hid (rfl : S.testBit (j + 1) = S.testBit (j + 1))
              obtain ⟨nb, hnb⟩ : ∃ nb, nb = S.testBit (j + 1) := ⟨_, rfl⟩
              rw [← hnb] at c1
              have HN := Lib.hid hnb
              clear hnb
              go_wp2
              go_roundw
              case rel =>
                refine ⟨j + 1, by omega, by go_num, (R2.out.set j (by omega) nb).congr fun i hi => ?_, ?_, B2.out.setCell (by simp) _⟩
                · rw [HN.out]
                  by_cases h1 : i = j
                  · subst h1; simp
                  · by_cases h2 : i < j
                    · simp [h1, h2, show i < j + 1 by omega]
                    · simp [h1, h2, show ¬ i < j + 1 by omega]
                · exact P2.out.set (by omega)
              case measure => simp [intOf]; omega
            · obtain rfl : j = 31 := by omega
              have c31 := R2.out.1 31 (by omega)
              have f31 := R2.out.2 31
              obtain ⟨w3, rfl⟩ : ∃ w3 : World, w3 = wr := ⟨_, rfl⟩
              have R3 := Lib.hid ((R2.out.set 31 (by omega) false).congr (g := fun i => (S / 2).testBit i) (fun i hi => by
                rw [← half_bits hSl i hi]
                by_cases h1 : i = 31
                · simp [h1]
                · simp [h1, show i < 31 by omega]))
              have P3 : Hid (Pows (w3.setCell ⟨w.heap.size, 31, none⟩ (.bool false)) (w.heap.size + 1)) := Lib.hid (P2.out.set (by omega))
              have B3 := Lib.hid (B2.out.setCell (p := ⟨w.heap.size, 31, none⟩) (by simp) (.bool false))
              clear R2 P2 B2
              go_wp2_with fail
              clear c31 f31
              generalize w3.setCell ⟨w.heap.size, 31, none⟩ (.bool false) = w4 at *
              have hstop : ∀ o, o = (s0 != bt) → o = false → (serF (bitOf l) 4294967295 (k + 1)) = S / 2 := fun o h1 h2 => by
                simp only [serF]
                rw [← HS2.out, HBt.out, bstep, ← HS0.out, ← h1, h2]
                simp
              have hgo : ∀ o, o = (s0 != bt) → o = true → (serF (bitOf l) 4294967295 (k + 1)) = (S / 2) ^^^ polyN := fun o h1 h2 => by
                simp only [serF]
                rw [← HS2.out, HBt.out, bstep, ← HS0.out, ← h1, h2]
                simp
              have HStop := Lib.hid hstop
              have HGo := Lib.hid hgo
              clear hstop hgo
              cases s0 <;> cases bt
              case false.false =>
                have HE := Lib.hid (HStop.out false rfl rfl)
                refine wp_loop_rounds 1 ?_
                rw [rounds_succ]
                go_wp2
                go_roundw
                case rel => (repeat apply Exists.intro); exact ⟨⟨k + 1, by omega, by go_num, by rw [HE.out]; exact R3.out, P3.out, B3.out⟩, rfl⟩
                case measure => simp [intOf]; omega
              case true.true =>
                have HE := Lib.hid (HStop.out false rfl rfl)
                refine wp_loop_rounds 1 ?_
                rw [rounds_succ]
                go_wp2
                go_roundw
                case rel => (repeat apply Exists.intro); exact ⟨⟨k + 1, by omega, by go_num, by rw [HE.out]; exact R3.out, P3.out, B3.out⟩, rfl⟩
                case measure => simp [intOf]; omega
              all_goals
                have HE := Lib.hid (HGo.out true rfl rfl)
                go_loopw [10] (fun i wr => ∃ j : Nat, j ≤ 17 ∧ i = .int .i64 j ∧ Reg wr w.heap.size (fun i => ((S / 2) ^^^ tog j).testBit i) ∧ Pows wr (w.heap.size + 1) ∧ Below w.heap.size w wr) (fun i _ => 17 - (intOf i).toNat)
                case atStart => exact ⟨0, by omega, rfl, R3.out.congr (fun i hi => by simp [tog]), P3.out, B3.out⟩
                case round =>
                  obtain ⟨j, hj, rfl, hreg, hpow, hbel⟩ := hrel
                  have R5 := Lib.hid hreg
                  have P5 := Lib.hid hpow
                  have B5 := Lib.hid hbel
                  clear hreg hpow hbel R3 P3 B3
                  by_cases hlt4 : j < 17
                  · have hp := P5.out j hlt4
                    have hple := powers_le j hlt4
                    obtain ⟨P, hP⟩ := Int.eq_ofNat_of_zero_le hple.1
                    rw [hP] at hp
                    have hP28 : P ≤ 28 := by omega
                    obtain ⟨ob, hob⟩ : ∃ ob, ob = ((S / 2) ^^^ tog j).testBit (31 - P) := ⟨_, rfl⟩
                    have hc5 : wr.cell? ⟨w.heap.size, 31 - P, none⟩ = some (.bool ob) := by rw [hob]; exact R5.out.1 (31 - P) (by omega)
                    have HOb := Lib.hid hob
                    clear hob
                    have hf5 := R5.out.2 (31 - P)
                    have HP := Lib.hid hP
                    clear hP hple
                    have q1 : IntKind.i64.wrap (31 - (P : Int)) = 31 - (P : Int) := IntWalk.i64_in _ (by omega)
                    have q2 : (0 : Int) ≤ 31 - (P : Int) := by omega
                    have q3 : (P : Int) ≤ 31 := by omega
                    have q4 : (31 - (P : Int)).toNat = 31 - P := by omega
                    have q5 : (31 - (P : Int)) < 32 := by omega
                    go_wp2
                    go_still_tail 14, (by kernel_rfl)
                    change wpList _ _ _ _ _ wr.drew
                    have R6 : Hid (Reg wr.drew w.heap.size (fun i => ((S / 2) ^^^ tog j).testBit i)) := R5.out
                    have P6 : Hid (Pows wr.drew (w.heap.size + 1)) := P5.out
                    have B6 := Lib.hid B5.out.drew
                    clear hp hc5 hf5 R5 P5 B5 q1 q2 q3 q5
                    generalize wr.drew = w6 at *
                    have hc6 := R6.out.1 (31 - P) (by omega)
                    simp only [← HOb.out] at hc6
                    have hf6 := R6.out.2 (31 - P)
                    have R7 := Lib.hid ((R6.out.set (31 - P) (by omega) (!ob)).congr (g := fun i => ((S / 2) ^^^ tog (j + 1)).testBit i) fun i hi => tog_step S j P i ob HP.out HOb.out)
                    have P7 := Lib.hid (P6.out.set (i := 31 - P) (v := .bool (!ob)) (B' := w.heap.size) (by omega))
                    have B7 := Lib.hid (B6.out.setCell (p := ⟨w.heap.size, 31 - P, none⟩) (by simp) (.bool (!ob)))
                    clear HOb R6 P6 B6 HP
                    go_wp2
                    go_roundw
                    case rel =>
                      (repeat apply Exists.intro); exact ⟨⟨j + 1, by omega, by go_num, R7.out, P7.out, B7.out⟩, rfl⟩
                    case measure => simp [intOf]; omega
                  · obtain rfl : j = 17 := by omega
                    go_wp2
                    go_roundw
                    case rel => (repeat apply Exists.intro); exact ⟨⟨k + 1, by omega, by go_num, by rw [HE.out, ← tog_all]; exact R5.out, P5.out, B5.out⟩, rfl⟩
                    case measure => simp [intOf]; omega
        · obtain rfl : k = 8 * l.length := by omega
          obtain ⟨S, hS⟩ : ∃ S, S = serF (bitOf l) 4294967295 (8 * l.length) := ⟨_, rfl⟩
          have hSl : S < 4294967296 := by rw [hS]; exact serF_lt (by omega) _
          have HE := Lib.hid (show sumOn 0 l = notN S by rw [hS, ser_all]; rfl)
          rw [← hS] at RR
          clear hS PP
          go_wp2_with fail
          obtain ⟨w2, rfl⟩ : ∃ w2 : World, w2 = wr := ⟨_, rfl⟩
          go_loop [11, 12] (fun n i => ∃ j : Nat, j ≤ 32 ∧ i = .int .i64 j ∧ n = .int .u32 (notN S % 2 ^ j : Nat)) (fun _ i => 32 - (intOf i).toNat)
          case atStart => exact ⟨0, by omega, rfl, by rw [Nat.pow_zero, Nat.mod_one]; rfl⟩
          case round =>
            obtain ⟨j, hj, rfl, rfl⟩ := hrel
            by_cases hlt2 : j < 32
            · have hcj := RR.out.1 j hlt2
              have hst := not_step hSl j hlt2
              have hvl := Nat.mod_lt (notN S) (Nat.two_pow_pos j)
              have HSt := Lib.hid hst
              clear hst
              generalize notN S % 2 ^ j = v at *
              have hor := or_step hvl hlt2
              have HV := Lib.hid hvl
              clear hvl
              by_cases hbj : S.testBit j = true
              · have hcj' : w2.cell? ⟨w.heap.size, j, none⟩ = some (.bool true) := by rw [← hbj]; exact hcj
                have HS3 := Lib.hid (HSt.out.trans (by rw [if_pos hbj]))
                clear hcj hbj HSt
                go_wp2
                go_round
                case rel => exact ⟨j + 1, by omega, by go_num, by rw [HS3.out]; rfl⟩
                case measure => simp [intOf]; omega
              · have hbj' : S.testBit j = false := by simpa using hbj
                have hcj' : w2.cell? ⟨w.heap.size, j, none⟩ = some (.bool false) := by rw [← hbj']; exact hcj
                have HS3 := Lib.hid (HSt.out.trans (by rw [if_neg hbj]))
                clear hcj hbj hbj' HSt
                go_wp2
                go_round
                case rel => exact ⟨j + 1, by omega, by go_num, by rw [HS3.out]; go_num⟩
                case measure => simp [intOf]; omega
            · obtain rfl : j = 32 := by omega
              go_wp2
              go_ret
              exact ⟨ret_int (by rw [HE.out]; have := notN_lt S; omega), BB.out⟩

set_option maxHeartbeats 3000000 in
set_option maxRecDepth 100000 in
theorem refSum_empty (ao : Option Addr) (c : Nat) (w : World) :
    Calls Tryz.prog 39 #[.slice ao 0 c] w fun e w' => e = .returned (.int .u32 0) ∧ Below w.heap.size w w' := by
  go_enter Tryz.func39, Tryz.ntmps39
  go_wp2_with fail
  go_loopw [4] (fun i wr => ∃ k : Nat, k ≤ 32 ∧ i = .int .i64 k ∧ Reg wr w.heap.size (fun i => decide (i < k)) ∧ wr.heap.size = w.heap.size + 1 ∧ Below w.heap.size w wr) (fun i _ => 32 - (intOf i).toNat)
  case atStart =>
    refine ⟨0, by omega, rfl, ⟨fun i hi => ?_, fun i => by rw [World.frozen?_alloc_at (hn := rfl)]⟩, by simp, new_below _ _⟩
    rw [World.cell?_alloc_at (hn := rfl)]
    show (Array.replicate 32 (Value.bool false))[i]? = _
    simp [hi]
  case round =>
    obtain ⟨k, hk, rfl, hreg, hsz, hbel⟩ := hrel
    have HR := Lib.hid hreg
    have HB := Lib.hid hbel
    have HS := Lib.hid hsz
    clear hreg hbel hsz
    by_cases hlt : k < 32
    · have hcell := HR.out.1 k hlt
      have hfr := HR.out.2 k
      go_wp2
      go_roundw
      case rel =>
        refine ⟨k + 1, by omega, by go_num, (HR.out.set k hlt true).congr fun i hi => ?_, by simpa [World.setCell] using HS.out, HB.out.setCell (by simp) _⟩
        by_cases h : i = k <;> simp [h] <;> omega
      case measure => simp [intOf]; omega
    · obtain rfl : k = 32 := by omega
      have hwsz := HS.out
      obtain ⟨w1, rfl⟩ : ∃ w1 : World, w1 = wr := ⟨_, rfl⟩
      go_wp2_with fail
      have hsz1 := HS.out
      refine wp_loop_rounds 1 ?_
      rw [rounds_succ]
      go_wp2_with fail
      go_loop [11, 12] (fun n i => ∃ j : Nat, j ≤ 32 ∧ i = .int .i64 j ∧ n = .int .u32 0) (fun _ i => 32 - (intOf i).toNat)
      case atStart => exact ⟨0, by omega, rfl, rfl⟩
      case round =>
        obtain ⟨j, hj, rfl, rfl⟩ := hrel
        by_cases hlt2 : j < 32
        · have hcj := HR.out.1 j hlt2
          simp only [hlt2, decide_true] at hcj
          go_wp2
          go_round
          case rel => exact ⟨j + 1, by omega, by go_num, rfl⟩
          case measure => simp [intOf]; omega
        · obtain rfl : j = 32 := by omega
          go_wp2
          go_ret
          exact ⟨rfl, HB.out.alloc (by omega) _⟩

/-- The reference's Sum at whatever bytes. -/
theorem refSum_any (ao : Option Addr) (c : Nat) (l : List UInt8) (w : World) (hl : l.length ≤ 1000000000) (h : Sl w ao c l) :
    Calls Tryz.prog 39 #[.slice ao l.length c] w fun e w' => e = .returned (.int .u32 (sumOn 0 l : Nat)) ∧ Below w.heap.size w w' := by
  by_cases hne : l = []
  · subst hne
    exact refSum_empty ao c w
  · obtain ⟨b, off, rfl, hb, hc⟩ := h.row.at hne
    exact refSum_calls b off c l w hl hc hb

end Go.Proofs.YtgachdaphdjddaaGreatDoor
