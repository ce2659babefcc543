/-
  The walk of the law ByteSmall.
-/
import Derived.Test.YtheolfmalcckmaaOpen
import Derived.Test.YtheolfmalcckmaaBits
namespace Go.Proofs.Ytheolfmalcckmaa
open Go.RowKit Go.ChangeShapes Go.WideShapes Go.ChangeAt

theorem small_len (n : Int) : (smallB n).length = 2 := rfl

theorem small_is (n : Int) : leN (taken (smallB n) false 2) = (n % 65536).toNat ∧ after (smallB n) false 2 = [] ∧ canTake (smallB n) false 2 = true := by
  have h0 := u8_ofNat (n := n % 256) (by omega) (by omega)
  have h1 := u8_ofNat (n := n / 256 % 256) (by omega) (by omega)
  refine ⟨?_, rfl, rfl⟩
  show (UInt8.ofNat (n % 256).toNat).toNat + 256 * ((UInt8.ofNat (n / 256 % 256).toNat).toNat + 256 * 0) = _
  omega

theorem small_cell0 (n : Int) : (((smallB n).getD 0 0).toNat : Int) = n % 256 := u8_ofNat (by omega) (by omega)
theorem small_cell1 (n : Int) : (((smallB n).getD 1 0).toNat : Int) = n / 256 % 256 := u8_ofNat (by omega) (by omega)

set_option maxHeartbeats 1000000 in
theorem byteSmall_walk (a0 : Int) (w0 : (Lit.int .i64 a0).wf = true) (w : World) :
    Calls Try.prog 12 #[.int .i64 a0] w fun e w' => e = .returned (.bool true) ∧ Below w.heap.size w w' := by
  have h0 := bounds_i64 w0
  have m1 := i64_and65535 a0
  have m2 := i64_and255 a0
  have m3 := i64_and255 (a0 / 256)
  have hw1 : wrap64 (a0 % 256) = a0 % 256 := IntWalk.wrap64_in _ ⟨by omega, by omega⟩
  have hw2 : wrap64 (a0 / 256 % 256) = a0 / 256 % 256 := IntWalk.wrap64_in _ ⟨by omega, by omega⟩
  go_enter Try.func12, Try.ntmps12
  go_wp2_with fail
  refine (begun_calls _).mono ?_
  rintro e w1 ⟨rfl, hb1⟩
  have B1 := Lib.hid hb1
  clear hb1
  go_wp2_with fail
  refine (small_out w1.heap.size 0 [] a0 _ (OutIs.new w1 _) (by simp)).mono ?_
  rintro e w2 ⟨rfl, ho, hn⟩
  rw [List.nil_append] at ho
  have B2 := Lib.hid (B1.out.trans ((hn.below (Nat.le_refl _) (by simp) (new_below w1 _)).mono B1.out.size))
  clear hn
  obtain ⟨ao, c, hp, hs, hf⟩ := ho
  have hlt := World.block_lt_of_cell? _ _ hp
  obtain ⟨g, off, rfl, hg, hc⟩ := hs.row.at (by simp [smallB])
  rw [small_len] at hp
  have hc0 := hc 0 (by simp [smallB])
  have hc1 := hc 1 (by simp [smallB])
  rw [Nat.add_zero, small_cell0] at hc0
  rw [small_cell1] at hc1
  have HS := Lib.hid hs
  clear hc hs
  go_wp2_with fail
  refine (read_calls _ c (smallB a0) _ HS.out).mono ?_
  rintro e w3 ⟨rfl, hi, hb3⟩
  have C := small_in w2.heap.size (smallB a0) false w3 hi
  rw [(small_is a0).1, (small_is a0).2.1, (small_is a0).2.2, Int.toNat_of_nonneg (by omega)] at C
  have HC := Lib.hid C
  have B3 := Lib.hid (B2.out.trans (hb3.mono B2.out.size))
  have hp3 := (hb3.cell (p := ⟨w1.heap.size, 0, none⟩) hlt).trans hp
  have k0 := (hb3.cell (p := ⟨g, off, none⟩) hg).trans hc0
  have k1 := (hb3.cell (p := ⟨g, off + 1, none⟩) hg).trans hc1
  have hz := B2.out.size
  have hlt' : w1.heap.size < w2.heap.size := hlt
  clear hi hb3 hp hc0 hc1 C HS
  generalize w2.heap.size = q at *
  go_wp2_with fail
  refine HC.out.mono ?_
  rintro e w4 ⟨rfl, hi4, hg4⟩
  have hp4 := hg4.cell hp3 (by simp; omega)
  have q0 := hg4.cell k0 (by simp; omega)
  have q1 := hg4.cell k1 (by simp; omega)
  have G4 := Lib.hid hg4
  clear hi4 hg4 hp3 k0 k1 HC
  go_wp2_with fail
  go_ret
  exact ⟨rfl, B3.out.grown G4.out (by have := B3.out.size; omega) (by intro k hk; cases hk; exact hz)⟩

end Go.Proofs.Ytheolfmalcckmaa
