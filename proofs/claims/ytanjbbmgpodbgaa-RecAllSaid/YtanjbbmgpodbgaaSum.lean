/-
  The walks of package sum: Bits, On, Of: what each answers, said by plain lists of bytes.
-/
import Derived.Test.YtanjbbmgpodbgaaProg
import Derived.Test.YtanjbbmgpodbgaaCrc
import Derived.WalkKit
import Derived.WalkSpells
import Derived.WalkLawsBesides
import Derived.Lib.Hide
namespace Go.Proofs.Ytanjbbmgpodbgaa
open Go.RowKit

/-- WHAT A SLICE OF BYTES IS, AS CELLS: nothing, or a row of cells in one block. -/
def Row (w : World) (ao : Option Addr) (l : List UInt8) : Prop :=
  l = [] ∨ ∃ b off, ao = some ⟨b, off, none⟩ ∧ ∀ i, i < l.length → w.cell? ⟨b, off + i, none⟩ = some (.int .u8 ((l.getD i 0).toNat : Int))

theorem bits_and1 {s : Nat} (h : s < 4294967296) : bits .and .u32 (s : Int) 1 = ((s % 2 : Nat) : Int) := by
  have := u32_and_nat s 1 h (by omega)
  rw [nat_mask1] at this
  exact this

set_option maxHeartbeats 400000 in
theorem bits_calls (s x : Nat) (w : World) (hs : s < 4294967296) (hx : x < 256) :
    Calls Try.prog 84 #[.int .u32 (s : Int), .int .u8 (x : Int)] w fun e w' => e = .returned (.int .u32 (byteN s x : Nat)) ∧ w = w' := by
  have hx0 : bits .xor .u32 (s : Int) (x : Int) = ((s ^^^ x : Nat) : Int) := u32_xor_nat s x hs (by omega)
  go_enter Try.func84, Try.ntmps84
  go_wp2
  go_loop [0, 10] (fun v i => ∃ k : Nat, k ≤ 8 ∧ i = .int .i64 k ∧ v = .int .u32 (stepsN k (s ^^^ x) : Nat)) (fun _ i => 8 - (intOf i).toNat)
  case atStart => exact ⟨0, by omega, rfl, rfl⟩
  case round =>
    obtain ⟨k, hk, rfl, rfl⟩ := hrel
    obtain ⟨t, ht⟩ : ∃ t, t = stepsN k (s ^^^ x) := ⟨_, rfl⟩
    have htl : t < 4294967296 := by rw [ht]; exact stepsN_lt (xor_lt32 hs (by omega)) k
    rw [← ht]
    have HT := Lib.hid ht
    have ha := bits_and1 htl
    clear ht hx0
    by_cases hk8 : k < 8
    · by_cases hb : t % 2 = 1
      · have hp : bits .xor .u32 ((t : Int) / 2) 2197175160 = (((t / 2) ^^^ polyN : Nat) : Int) := by
          have h := u32_xor_nat (t / 2) polyN (by omega) (by decide)
          rw [Int.natCast_ediv] at h
          exact h
        have hb' : (((t % 2 : Nat) : Int) == 1) = true := by rw [hb]; rfl
        go_wp2
        go_round
        case rel => exact ⟨k + 1, by omega, by go_num, by rw [stepsN, ← HT.out, stepN, if_pos hb]⟩
        case measure => simp [intOf]; omega
      · have hb' : (((t % 2 : Nat) : Int) == 1) = false := by simp; omega
        go_wp2
        go_round
        case rel => exact ⟨k + 1, by omega, by go_num, by rw [stepsN, ← HT.out, stepN, if_neg hb]; rfl⟩
        case measure => simp [intOf]; omega
    · go_wp2
      obtain rfl : k = 8 := by omega
      go_ret
      exact ⟨by rw [HT.out]; rfl, rfl⟩

set_option maxHeartbeats 400000 in
/-- Bytes are put in, one behind the other. -/
theorem on_calls (s : Nat) (ao : Option Addr) (c : Nat) (l : List UInt8) (w : World) (hs : s < 4294967296) (hm : l.length ≤ 9223372036854775807) (hl : Row w ao l) :
    Calls Try.prog 82 #[.int .u32 (s : Int), .slice ao l.length c] w fun e w' => e = .returned (.int .u32 (sumOn s l : Nat)) ∧ w = w' := by
  have hx0 : bits .xor .u32 IntKind.u32.max (s : Int) = ((notN s : Nat) : Int) := by
    rw [show IntKind.u32.max = ((4294967295 : Nat) : Int) from rfl, u32_xor_nat _ s (by omega) hs]
    exact congrArg _ (xor_all hs)
  have hn := notN_lt s
  have hend : ∀ t : Nat, t < 4294967296 → bits .xor .u32 IntKind.u32.max (t : Int) = ((notN t : Nat) : Int) := fun t ht => by
    rw [show IntKind.u32.max = ((4294967295 : Nat) : Int) from rfl, u32_xor_nat _ t (by omega) ht]
    exact congrArg _ (xor_all ht)
  have HE := Lib.hid hend
  clear hend
  rcases hl with rfl | ⟨b, off, rfl, hc⟩
  · have hx1 := HE.out (notN s) hn
    go_enter Try.func82, Try.ntmps82
    go_wp2
    refine wp_loop_rounds 1 ?_
    rw [rounds_succ]
    go_wp2
    go_ret
    exact ⟨rfl, rfl⟩
  · go_enter Try.func82, Try.ntmps82
    go_wp2
    go_loop [5, 12] (fun v i => ∃ k : Nat, k ≤ l.length ∧ i = .int .i64 k ∧ v = .int .u32 (onN (notN s) (l.take k) : Nat)) (fun _ i => l.length - (intOf i).toNat)
    case atStart => exact ⟨0, by omega, rfl, rfl⟩
    case round =>
      obtain ⟨k, hk, rfl, rfl⟩ := hrel
      obtain ⟨t, ht⟩ : ∃ t, t = onN (notN s) (l.take k) := ⟨_, rfl⟩
      have htl : t < 4294967296 := by rw [ht]; exact onN_lt _ hn
      rw [← ht]
      have HT := Lib.hid ht
      clear ht hx0
      by_cases hlt : k < l.length
      · have hck := hc k hlt
        have hb := (l.getD k 0).toNat_lt
        have HS := Lib.hid (show onN (notN s) (l.take (k + 1)) = byteN t (l.getD k 0).toNat by
          rw [List.take_succ_eq_append_getElem hlt, onN_snoc, ← HT.out]
          simp [List.getD, hlt])
        generalize (l.getD k 0).toNat = x at hck hb HS
        clear hc
        go_wp2_with (go_at_call 84; refine (bits_calls t x _ htl (by omega)).mono ?_; rintro e w' ⟨rfl, rfl⟩)
        go_round
        case rel => exact ⟨k + 1, by omega, by go_num, by rw [HS.out]⟩
        case measure => simp [intOf]; omega
      · have hx1 := HE.out t htl
        go_wp2
        obtain rfl : k = l.length := by omega
        go_ret
        exact ⟨by rw [HT.out, List.take_length]; rfl, rfl⟩

set_option maxHeartbeats 400000 in
theorem of_calls (ao : Option Addr) (c : Nat) (l : List UInt8) (w : World) (hm : l.length ≤ 9223372036854775807) (hl : Row w ao l) :
    Calls Try.prog 77 #[.slice ao l.length c] w fun e w' => e = .returned (.int .u32 (sumOn 0 l : Nat)) ∧ w = w' := by
  go_enter Try.func77, Try.ntmps77
  go_wp2_with (go_at_call 82; refine (on_calls 0 ao c l _ (by omega) hm hl).mono ?_; rintro e w' ⟨rfl, rfl⟩)
  go_ret
  exact ⟨rfl, rfl⟩

end Go.Proofs.Ytanjbbmgpodbgaa
