/-
  The reference's In.Long.
-/
import Derived.Test.YtheolfmalcckmaaRefIn
namespace Go.Proofs.Ytheolfmalcckmaa
open Go.RowKit

variable {q : Nat}

theorem rtake_any (b n : Nat) (l : List UInt8) (bad : Bool) (w : World) (h : RIn q w b l bad) :
    Calls Try.prog 51 #[.pointer (some ⟨b, 0, none⟩), .int .i64 (n : Int)] w fun e w' => ∃ ao c, e = .returned (.slice ao (taken l bad n).length c) ∧ Sl w' ao c (taken l bad n) ∧ (0 < (taken l bad n).length → ∃ g off, ao = some ⟨g, off, none⟩) ∧ RIn q w' b (after l bad n) (!canTake l bad n) ∧ w.grownBy w' (some b) := by
  by_cases hc : canTake l bad n = true
  · have hbad : bad = false := by simp [canTake] at hc; exact hc.1
    have hle : n ≤ l.length := by simp [canTake] at hc; exact hc.2
    subst hbad
    rw [taken, after, if_pos hc, if_pos hc, hc]
    refine (rtake_can b n l w h hle).mono fun e w' ⟨ao, c, h1, h2, h3, h4, h5⟩ => ⟨ao, c, ?_, h2, ?_, h4, h5⟩
    · rw [h1, List.length_take, Nat.min_eq_left hle]
    · intro hp
      rw [List.length_take, Nat.min_eq_left hle] at hp
      obtain ⟨g, off, e, _⟩ := h3 hp
      exact ⟨g, off, e⟩
  · have e3 : canTake l bad n = false := by simpa using hc
    rw [taken, after, if_neg hc, if_neg hc, e3]
    refine (rtake_not b n l bad w h e3).mono fun e w' ⟨h1, h2, h3⟩ => ⟨none, 0, h1, Sl.nil _, ?_, h2, h3⟩
    intro hp
    simp at hp

theorem i64_or_byte (N x : Nat) (hx : x < 256) : bits .or .i64 (wrap64 (wrap64 (N : Int) * 256)) (x : Int) = wrap64 ((x + 256 * N : Nat) : Int) := by
  have e0 : ((2 ^ 64 : Nat) : Int) = 18446744073709551616 := by decide
  have ha : (wrap64 (wrap64 (N : Int) * 256) % ((2 ^ 64 : Nat) : Int)).toNat = 256 * N % 18446744073709551616 := by
    rw [e0]
    unfold wrap64
    omega
  have hb : ((x : Int) % ((2 ^ 64 : Nat) : Int)).toNat = x := by rw [e0]; omega
  have key : (BitVec.ofInt 64 (wrap64 (wrap64 (N : Int) * 256)) ||| BitVec.ofInt 64 (x : Int)).toNat = 256 * N % 18446744073709551616 + x := by
    rw [BitVec.toNat_or, BitVec.toNat_ofInt, BitVec.toNat_ofInt, ha, hb]
    exact nat_join 8 _ _ (by omega) hx
  show IntKind.i64.wrap ((BitVec.ofInt 64 (wrap64 (wrap64 (N : Int) * 256)) ||| BitVec.ofInt 64 (x : Int)).toNat : Nat) = _
  rw [key, IntKind.wrap_i64]
  unfold wrap64
  omega

theorem leN_drop (t : List UInt8) (j : Nat) (h : j < t.length) : leN (t.drop j) = (t.getD j 0).toNat + 256 * leN (t.drop (j + 1)) := by
  rw [List.drop_eq_getElem_cons h]
  simp [leN, List.getD, h]

set_option maxHeartbeats 1000000 in
theorem rlong_calls (b : Nat) (l : List UInt8) (bad : Bool) (w : World) (h : RIn q w b l bad) :
    Calls Try.prog 32 #[.pointer (some ⟨b, 0, none⟩)] w fun e w' => e = .returned (.int .i64 (longN (taken l bad 8))) ∧ RIn q w' b (after l bad 8) (!canTake l bad 8) ∧ w.grownBy w' (some b) := by
  have hsz := taken_len l bad 8
  have C := Lib.hid (rtake_any b 8 l bad w h)
  clear h
  generalize taken l bad 8 = t at *
  generalize after l bad 8 = A at *
  generalize canTake l bad 8 = cc at *
  unfold longN
  obtain ⟨z, hz⟩ : ∃ z, z = wrap64 (leN t : Nat) := ⟨_, rfl⟩
  rw [← hz]
  have HZ := Lib.hid hz
  clear hz
  go_enter Try.func32, Try.ntmps32
  go_wp2_with fail
  refine C.out.mono ?_
  rintro e w1 ⟨ao, c, rfl, hs, hg, hr, hgr⟩
  have R1 := Lib.hid hr
  have G1 := Lib.hid hgr
  have S1 := Lib.hid hs
  have HG := Lib.hid hg
  clear hr hgr hs hg C
  go_wp2_with fail
  go_loop [4, 5] (fun v i => ∃ m : Nat, m ≤ t.length ∧ i = .int .i64 ((m : Int) - 1) ∧ v = .int .i64 (wrap64 (leN (t.drop m) : Nat))) (fun _ i => (intOf i + 1).toNat)
  case atStart => exact ⟨t.length, by omega, rfl, by rw [List.drop_length]; show _ = Value.int .i64 (wrap64 0); rw [IntWalk.wrap64_in 0 (by omega)]⟩
  case round =>
    obtain ⟨m, hm, hi, hv⟩ := hrel
    cases m with
    | zero =>
      rw [show ((0 : Nat) : Int) - 1 = -1 by omega] at hi
      rw [List.drop_zero, ← HZ.out] at hv
      subst hi hv
      go_wp2
      go_ret
      exact ⟨rfl, R1.out, G1.out⟩
    | succ j =>
      rw [show ((j + 1 : Nat) : Int) - 1 = (j : Int) by omega] at hi
      obtain ⟨V, hV⟩ : ∃ V, V = wrap64 (leN (t.drop (j + 1)) : Nat) := ⟨_, rfl⟩
      rw [← hV] at hv
      have HV := Lib.hid hV
      subst hi hv
      clear hV
      obtain ⟨g, off, rfl⟩ := HG.out (by omega)
      have c0 : w1.cell? ⟨g, off + j, none⟩ = some (.int .u8 ((t.getD j 0).toNat : Int)) := by
        rcases S1.out with ⟨h, _⟩ | ⟨A, hA, _, _, hc⟩
        · cases h
        · cases hA
          have := hc j (by omega)
          rwa [Addr.add_lit] at this
      have hx := (t.getD j 0).toNat_lt
      have hjl : (j : Int) < (t.length : Int) := by omega
      obtain ⟨x, hx'⟩ : ∃ x, x = (t.getD j 0).toNat := ⟨_, rfl⟩
      rw [← hx'] at c0 hx
      have HX := Lib.hid hx'
      clear hx'
      go_wp2
      go_round
      case rel => exact ⟨j, by omega, rfl, by rw [HV.out, i64_or_byte _ _ hx, HX.out, ← leN_drop t j (by omega)]⟩
      case measure => simp [intOf]

end Go.Proofs.Ytheolfmalcckmaa
