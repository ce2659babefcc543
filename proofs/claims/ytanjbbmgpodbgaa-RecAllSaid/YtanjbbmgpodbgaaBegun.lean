/-
  The walk of the law's own 'begun': it answers true, and turns nothing that was there.
-/
import Derived.Test.YtanjbbmgpodbgaaIn
import Derived.Test.YtanjbbmgpodbgaaSum
import Derived.Lib.SlBytesConst
namespace Go.Proofs.Ytanjbbmgpodbgaa
open Go.RowKit

theorem OutIs.new (w : World) (e : TypeId) : OutIs (w.alloc (.cells #[.slice none 0 0] e)) ⟨w.heap.size, 0, none⟩ [] :=
  ⟨none, 0, by rw [World.cell?_alloc_at (hn := rfl)]; rfl, Sl.nil _, by rw [World.frozen?_alloc_at (hn := rfl)], World.ownsRow_nil _ _ _ _⟩

theorem OutIs.lt {w : World} {p : Addr} {l : List UInt8} (h : OutIs w p l) : p.block < w.heap.size := by
  obtain ⟨ao, c, hp, _⟩ := h
  exact World.block_lt_of_cell? _ _ hp

theorem Sl.row {w : World} {ao : Option Addr} {c : Nat} {l : List UInt8} (h : Sl w ao c l) : Row w ao l := by
  rcases h with ⟨_, _, rfl⟩ | ⟨A, rfl, _, _, hc⟩
  · exact .inl rfl
  · by_cases hl : l = []
    · exact .inl hl
    · obtain ⟨b, off, spot⟩ := A
      have h0 := hc 0 (List.length_pos_iff.2 hl)
      have hs : spot = none := by simpa [Addr.add] using World.cell?_spot h0
      subst hs
      exact .inr ⟨b, off, rfl, fun i hi => by rw [← Addr.add_lit]; exact hc i hi⟩

/-- A slice that is not empty lies in a block. -/
theorem Row.at {w : World} {ao : Option Addr} {l : List UInt8} (h : Row w ao l) (hl : l ≠ []) : ∃ b off, ao = some ⟨b, off, none⟩ ∧ b < w.heap.size ∧ ∀ i, i < l.length → w.cell? ⟨b, off + i, none⟩ = some (.int .u8 ((l.getD i 0).toNat : Int)) := by
  rcases h with h | ⟨b, off, rfl, hc⟩
  · exact absurd h hl
  · exact ⟨b, off, rfl, World.block_lt_of_cell? _ _ (hc 0 (List.length_pos_iff.2 hl)), hc⟩

def begunB : List UInt8 := [2, 1, 254, 255, 255, 255, 255, 255, 255, 255, 2, 0, 97, 98, 1]
def nineB : List UInt8 := [49, 50, 51, 52, 53, 54, 55, 56, 57]

/-- A new row of bytes that bears the run-time's mark behind its end. -/
theorem Sl.marked (w : World) (cs : Array Value) (e : TypeId) (fr : Nat × Nat) (l : List UInt8) (h : cs.toList = u8s l) (hm : l.length ≤ maxLen) : Sl (w.alloc (.cells cs e fr)) (some ⟨w.heap.size, 0, none⟩) l.length l := by
  refine .inr ⟨_, rfl, Nat.le_refl _, hm, fun i hi => ?_⟩
  rw [Addr.add_lit, Nat.zero_add, World.cell?_alloc_mark]
  rw [← u8s_at hi, ← h]
  simp

theorem nine_sum : sumOn 0 nineB = 3808858755 := by decide +kernel

theorem begunB_is : ((([] ++ smallB 258) ++ longB (-2)) ++ textB ⟨#[97, 98]⟩) ++ [if true = true then 1 else 0] = begunB := by decide +kernel

theorem in_one (b : Nat) (w : World) (h : InIs w b begunB false) : Calls Try.prog 69 #[.pointer (some ⟨b, 0, none⟩)] w fun e w' => e = .returned (.int .i64 258) ∧ InIs w' b [254, 255, 255, 255, 255, 255, 255, 255, 2, 0, 97, 98, 1] false ∧ w.grownBy w' (some b) := by
  have C := small_in b begunB false w h
  rw [show leN (taken begunB false 2) = 258 from by decide +kernel, show after begunB false 2 = [254, 255, 255, 255, 255, 255, 255, 255, 2, 0, 97, 98, 1] from by decide +kernel, show canTake begunB false 2 = true from by decide +kernel] at C
  exact C

theorem in_two (b : Nat) (w : World) (h : InIs w b [254, 255, 255, 255, 255, 255, 255, 255, 2, 0, 97, 98, 1] false) : Calls Try.prog 70 #[.pointer (some ⟨b, 0, none⟩)] w fun e w' => e = .returned (.int .i64 (-2)) ∧ InIs w' b [2, 0, 97, 98, 1] false ∧ w.grownBy w' (some b) := by
  have C := long_in b [254, 255, 255, 255, 255, 255, 255, 255, 2, 0, 97, 98, 1] false w h
  rw [show longN (taken [254, 255, 255, 255, 255, 255, 255, 255, 2, 0, 97, 98, 1] false 8) = -2 from by decide +kernel, show after [254, 255, 255, 255, 255, 255, 255, 255, 2, 0, 97, 98, 1] false 8 = [2, 0, 97, 98, 1] from by decide +kernel, show canTake [254, 255, 255, 255, 255, 255, 255, 255, 2, 0, 97, 98, 1] false 8 = true from by decide +kernel] at C
  exact C

theorem in_three (b : Nat) (w : World) (h : InIs w b [2, 0, 97, 98, 1] false) : Calls Try.prog 76 #[.pointer (some ⟨b, 0, none⟩)] w fun e w' => e = .returned (.string ⟨#[97, 98]⟩) ∧ InIs w' b [1] false ∧ w.grownBy w' (some b) := by
  have C := text_in b [2, 0, 97, 98, 1] false w h
  rw [show textT [2, 0, 97, 98, 1] false = [97, 98] from by decide +kernel, show textA [2, 0, 97, 98, 1] false = [1] from by decide +kernel, show textC [2, 0, 97, 98, 1] false = true from by decide +kernel] at C
  exact C

theorem in_four (b : Nat) (w : World) (h : InIs w b [1] false) : Calls Try.prog 71 #[.pointer (some ⟨b, 0, none⟩)] w fun e w' => e = .returned (.bool true) ∧ InIs w' b [] false ∧ w.grownBy w' (some b) := by
  have C := truth_in b [1] false w h
  rw [show truthV [1] false = true from by decide +kernel, show truthA [1] false = [] from by decide +kernel, show truthC [1] false = true from by decide +kernel] at C
  exact C

theorem in_five (b : Nat) (w : World) (h : InIs w b [] false) : Calls Try.prog 69 #[.pointer (some ⟨b, 0, none⟩)] w fun e w' => e = .returned (.int .i64 0) ∧ InIs w' b [] true ∧ w.grownBy w' (some b) := by
  have C := small_in b [] false w h
  rw [show leN (taken [] false 2) = 0 from by decide +kernel, show after [] false 2 = [] from by decide +kernel, show canTake [] false 2 = false from by decide +kernel] at C
  exact C

set_option maxHeartbeats 2000000 in
set_option maxRecDepth 100000 in
theorem begun_calls (w : World) : Calls Try.prog 66 #[] w fun e w' => e = .returned (.bool true) ∧ Below w.heap.size w w' := by
  go_enter Try.func66, Try.ntmps66
  go_wp2_with fail
  refine (small_out w.heap.size 0 [] 258 _ (OutIs.new w _) (by simp)).mono ?_
  rintro e w1 ⟨rfl, ho1, hn1⟩
  have O1 := Lib.hid ho1
  have B1 := Lib.hid (hn1.below (Nat.le_refl _) (by simp) (new_below w _))
  clear ho1 hn1
  go_wp2_with fail
  refine (long_out w.heap.size 0 _ (-2) _ O1.out (by simp [smallB])).mono ?_
  rintro e w2 ⟨rfl, ho2, hn2⟩
  have O2 := Lib.hid ho2
  have B2 := Lib.hid (hn2.below (Nat.le_refl _) B1.out.size B1.out)
  clear ho2 hn2 O1 B1
  go_wp2_with fail
  refine (text_out w.heap.size 0 _ _ _ O2.out (by decide) (by simp [smallB, longB])).mono ?_
  rintro e w3 ⟨rfl, ho3, hn3⟩
  have O3 := Lib.hid ho3
  have B3 := Lib.hid (hn3.below (Nat.le_refl _) B2.out.size B2.out)
  clear ho3 hn3 O2 B2
  go_wp2_with fail
  refine (truth_out w.heap.size 0 _ true _ O3.out (by simp [smallB, longB, textB]; omega)).mono ?_
  rintro e w4 ⟨rfl, ho4, hn4⟩
  rw [begunB_is] at ho4
  have B4 := Lib.hid (hn4.below (Nat.le_refl _) B3.out.size B3.out)
  clear hn4 O3 B3
  obtain ⟨ao, c, hp, hs, hf, -⟩ := ho4
  have hlt := World.block_lt_of_cell? _ _ hp
  obtain ⟨g, off, rfl, hg, hc⟩ := hs.row.at (by decide)
  have hlen : begunB.length = 15 := rfl
  rw [hlen] at hp
  clear hlen
  have HC := Lib.hid hc
  have HS := Lib.hid hs
  clear hc hs
  go_wp2_with fail
  refine (read_calls _ c begunB _ HS.out).mono ?_
  rintro e w5 ⟨rfl, hi, hb5⟩
  have I5 := Lib.hid hi
  have B5 := Lib.hid (B4.out.trans (hb5.mono B4.out.size))
  have hp5 := (hb5.cell (p := ⟨w.heap.size, 0, none⟩) hlt).trans hp
  have HC5 := Lib.hid (fun i (hi : i < begunB.length) => (hb5.cell (p := ⟨g, off + i, none⟩) hg).trans (HC.out i hi))
  have hs5 := hb5.size
  clear hi hb5 hp HC HS
  have hz : w.heap.size ≤ w4.heap.size := B4.out.size
  clear B4
  generalize w4.heap.size = q at *
  go_wp2_with fail
  refine (in_one q _ I5.out).mono ?_
  rintro e w6 ⟨rfl, hi, hg6⟩
  have I6 := Lib.hid hi
  have G6 := Lib.hid hg6
  clear hi hg6
  go_wp2_with fail
  refine (in_two q _ I6.out).mono ?_
  rintro e w7 ⟨rfl, hi, hg7⟩
  have I7 := Lib.hid hi
  have G7 := Lib.hid (grown_trans G6.out hg7)
  clear hi hg7 G6 I6
  go_wp2_with fail
  refine (in_three q _ I7.out).mono ?_
  rintro e w8 ⟨rfl, hi, hg8⟩
  have I8 := Lib.hid hi
  have G8 := Lib.hid (grown_trans G7.out hg8)
  clear hi hg8 G7 I7
  go_wp2_with fail
  refine (in_four q _ I8.out).mono ?_
  rintro e w9 ⟨rfl, hi, hg9⟩
  have I9 := Lib.hid hi
  have G9 := Lib.hid (grown_trans G8.out hg9)
  clear hi hg9 G8 I8
  have hp9 := G9.out.cell hp5 (by simp; omega)
  have hc0 := G9.out.cell (HC5.out 0 (by decide)) (by simp; omega)
  have hc1 := G9.out.cell (HC5.out 1 (by decide)) (by simp; omega)
  rw [Nat.add_zero, show ((begunB.getD 0 0).toNat : Int) = 2 from rfl] at hc0
  rw [show ((begunB.getD 1 0).toNat : Int) = 1 from rfl] at hc1
  go_wp2_with fail
  refine (end_calls q [] false _ I9.out).mono ?_
  rintro e w' ⟨rfl, rfl⟩
  go_wp2_with fail
  refine (left_calls q [] false _ I9.out).mono ?_
  rintro e w' ⟨rfl, rfl⟩
  go_wp2_with fail
  refine (bad_calls q [] false _ I9.out).mono ?_
  rintro e w' ⟨rfl, rfl⟩
  go_wp2_with fail
  refine (in_five q _ I9.out).mono ?_
  rintro e w10 ⟨rfl, hi, hg10⟩
  have I10 := Lib.hid hi
  have G10 := Lib.hid (grown_trans G9.out hg10)
  clear hi hg10 G9 I9 hp9 hc0 hc1
  go_wp2_with fail
  refine (bad_calls q [] true _ I10.out).mono ?_
  rintro e w' ⟨rfl, rfl⟩
  have hrow := (Sl.marked w10 #[.int .u8 49, .int .u8 50, .int .u8 51, .int .u8 52, .int .u8 53, .int .u8 54, .int .u8 55, .int .u8 56, .int .u8 57] 5 (9, 10) nineB rfl (by decide)).row
  have HR := Lib.hid hrow
  clear hrow
  have kc := fun (wx : World) (C : Array Value) (n c : Nat) => Lib.run_convert_bytes_const (P := Try.prog) wx 24 5 C n c Try.underlying24 Try.underlying5
  have C := of_calls (some ⟨w10.heap.size, 0, none⟩) 9 nineB _ (by decide) HR.out
  rw [nine_sum, show nineB.length = 9 from rfl] at C
  go_wp2_with fail
  refine C.mono ?_
  rintro e w' ⟨rfl, rfl⟩
  go_wp2_with fail
  go_ret
  refine ⟨rfl, ?_⟩
  have hb10 : Below w.heap.size w w10 := B5.out.grown G10.out (by omega) (by intro k hk; cases hk; exact hz)
  exact hb10.trans ((new_below w10 _).mono hb10.size)

end Go.Proofs.Ytanjbbmgpodbgaa
