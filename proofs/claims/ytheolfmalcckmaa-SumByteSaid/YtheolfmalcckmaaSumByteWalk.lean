/-
  The walk of the law SumByte.
-/
import Derived.Test.YtheolfmalcckmaaOpen
namespace Go.Proofs.Ytheolfmalcckmaa
open Go.RowKit Go.ChangeShapes Go.WideShapes Go.ChangeAt

set_option maxHeartbeats 1000000 in
theorem sumByte_nat (s x : Nat) (w : World) (hs : s < 4294967296) (hx : x < 256) :
    Calls Try.prog 15 #[.int .u32 (s : Int), .int .u8 (x : Int)] w fun e w' => e = .returned (.bool true) ∧ Below w.heap.size w w' := by
  have hx0 : bits .xor .u32 (s : Int) (x : Int) = ((s ^^^ x : Nat) : Int) := u32_xor_nat s x hs (by omega)
  go_enter Try.func15, Try.ntmps15
  go_wp2_with fail
  refine (begun_calls _).mono ?_
  rintro e w1 ⟨rfl, hb1⟩
  go_wp2_with fail
  go_loop [6, 7] (fun v i => ∃ k : Nat, k ≤ 8 ∧ i = .int .i64 k ∧ v = .int .u32 (stepsN k (s ^^^ x) : Nat)) (fun _ i => 8 - (intOf i).toNat)
  case atStart => exact ⟨0, by omega, rfl, rfl⟩
  case round =>
    obtain ⟨k, hk, rfl, rfl⟩ := hrel
    obtain ⟨t, ht⟩ : ∃ t, t = stepsN k (s ^^^ x) := ⟨_, rfl⟩
    have htl : t < 4294967296 := by rw [ht]; exact stepsN_lt (xor_lt32 hs (by omega)) k
    rw [← ht]
    have HT := Lib.hid ht
    have ha := bits_and1 htl
    clear ht hx0
    by_cases hk8 : k < 8
    · by_cases hb : t % 2 = 1
      · have hp : bits .xor .u32 ((t : Int) / 2) 2197175160 = (((t / 2) ^^^ polyN : Nat) : Int) := by
          have h := u32_xor_nat (t / 2) polyN (by omega) (by decide)
          rw [Int.natCast_ediv] at h
          exact h
        have hb' : (((t % 2 : Nat) : Int) == 1) = true := by rw [hb]; rfl
        go_wp2
        go_round
        case rel => exact ⟨k + 1, by omega, by go_num, by rw [stepsN, ← HT.out, stepN, if_pos hb]⟩
        case measure => simp [intOf]; omega
      · have hb' : (((t % 2 : Nat) : Int) == 1) = false := by simp; omega
        go_wp2
        go_round
        case rel => exact ⟨k + 1, by omega, by go_num, by rw [stepsN, ← HT.out, stepN, if_neg hb]; rfl⟩
        case measure => simp [intOf]; omega
    · obtain rfl : k = 8 := by omega
      have hn1 : bits .xor .u32 IntKind.u32.max (s : Int) = ((notN s : Nat) : Int) := by
        rw [show IntKind.u32.max = ((4294967295 : Nat) : Int) from rfl, u32_xor_nat _ s (by omega) hs]
        exact congrArg _ (xor_all hs)
      have hn2 : bits .xor .u32 IntKind.u32.max (t : Int) = ((notN t : Nat) : Int) := by
        rw [show IntKind.u32.max = ((4294967295 : Nat) : Int) from rfl, u32_xor_nat _ t (by omega) htl]
        exact congrArg _ (xor_all htl)
      have C := bits_calls s x w1 hs hx
      rw [show byteN s x = t from HT.out.symm] at C
      have HC := Lib.hid C
      clear C
      have hx8 : (UInt8.ofNat x).toNat = x := by rw [UInt8.toNat_ofNat']; omega
      have D0 := on_calls (notN s) (some ⟨w1.heap.size, 0, none⟩) 1 [UInt8.ofNat x] (w1.alloc (.cells #[.int .u8 (x : Int)] 5)) (notN_lt s) (by simp)
        (Sl.made w1 #[.int .u8 (x : Int)] 5 [UInt8.ofNat x] (by simp [u8s, hx8]) (by simp [maxLen])).row
      rw [show sumOn (notN s) [UInt8.ofNat x] = notN t by unfold sumOn; rw [notN_notN hs, onN_cons, hx8, HT.out]; rfl, show [UInt8.ofNat x].length = 1 from rfl] at D0
      have D := Lib.hid D0
      clear D0 hx8
      go_wp2_with fail
      refine HC.out.mono ?_
      rintro e w2 ⟨rfl, rfl⟩
      go_wp2_with fail
      refine D.out.mono ?_
      rintro e w3 ⟨rfl, rfl⟩
      clear D HC
      go_wp2_with fail
      go_ret
      exact ⟨rfl, hb1.trans ((new_below w1 _).mono hb1.size)⟩

theorem sumByte_walk (a0 : Int) (w0 : (Lit.int .u32 a0).wf = true) (a1 : Int) (w1 : (Lit.int .u8 a1).wf = true) (w : World) :
    Calls Try.prog 15 #[.int .u32 a0, .int .u8 a1] w fun e w' => e = .returned (.bool true) ∧ Below w.heap.size w w' := by
  have h0 := bounds_u32 w0
  have h1 := bounds_u8 w1
  obtain ⟨s, rfl⟩ := Int.eq_ofNat_of_zero_le h0.1
  obtain ⟨x, rfl⟩ := Int.eq_ofNat_of_zero_le h1.1
  exact sumByte_nat s x w (by omega) (by omega)

end Go.Proofs.Ytheolfmalcckmaa
