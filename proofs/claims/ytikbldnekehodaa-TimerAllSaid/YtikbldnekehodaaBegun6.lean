/-
  begun: a bag and a timer.
-/
import Derived.Test.YtikbldnekehodaaBt
import Derived.Test.YtikbldnekehodaaBagNil
namespace Go.Proofs.Ytikbldnekehodaa
open Go.RowKit

set_option maxHeartbeats 4000000 in
set_option maxRecDepth 100000 in
theorem begun6_calls (w : World) : Calls Try.prog 12 #[] w fun e w' => e = .returned (.bool true) ∧ Below w.heap.size w w' := by
  go_enter Try.func12, Try.ntmps12
  go_wp2_with fail
  refine (S.newI _ _ w).mono ?_
  rintro e w1 ⟨rfl, hb1, t1⟩
  have HB1 := Lib.hid hb1
  have T1 := Lib.hid t1
  clear hb1 t1
  go_wp2_with fail
  refine (L.new_calls 2 (by unfold inI64; omega) w1).mono ?_
  rintro e w2 ⟨rfl, hl2, t2⟩
  obtain ⟨b, hb⟩ : ∃ b, b = w.heap.size := ⟨_, rfl⟩
  obtain ⟨t, ht⟩ : ∃ t, t = w1.heap.size := ⟨_, rfl⟩
  have O2 : Hid (BT w w2 b t (.slice none 0 0) (.slice none 0 0) [] 0 []) := Lib.hid (by
    rw [hb, ht]
    have hlt := lt_of_heap HB1.out.head
    exact ⟨HB1.out.turn t2 (by simp) (fun _ _ => by simp), hl2, Nat.le_refl _, T1.out.size, (by intro k hk; cases hk), (by intro k hk; cases hk), by omega, (by intro e; cases e), (by intro e; cases e), (by intro k hk; cases hk),
      T1.out.belowAll.trans (t2.belowAll.mono T1.out.size)⟩)
  rw [← hb, ← ht]
  clear hl2 t2 hb ht HB1 T1
  go_wp2_with fail
  refine (newI_nil _).mono ?_
  rintro e w3 ⟨rfl, rfl⟩
  go_wp2_with fail
  refine (bt_add1 O2.out).mono ?_
  rintro e w3 ⟨v3, rfl, o3⟩
  have O3 := Lib.hid o3
  clear o3 O2
  go_wp2_with fail
  refine (bt_add2 O3.out).mono ?_
  rintro e w4 ⟨v4, rfl, o4⟩
  have O4 := Lib.hid o4
  clear o4 O3
  go_wp2_with fail
  refine (bt_at O4.out).mono ?_
  rintro e w5 ⟨rfl, rfl⟩
  go_wp2_with fail
  refine (bt_add3 O4.out).mono ?_
  rintro e w5 ⟨v5, rfl, o5⟩
  have O5 := Lib.hid o5
  clear o5 O4
  go_wp2_with fail
  refine (bt_heard1 O5.out).mono ?_
  rintro e w6 ⟨u6, rfl, o6⟩
  have O6 := Lib.hid o6
  clear o6 O5
  go_wp2_with fail
  refine (bt_heard2 O6.out).mono ?_
  rintro e w7 ⟨rfl, o7⟩
  have O7 := Lib.hid o7
  clear o7 O6
  go_wp2_with fail
  refine (bt_tick O7.out (by omega)).mono ?_
  rintro e w8 ⟨s8, rfl, r8, o8⟩
  rw [show L.silK 2 (0 + 1) [(7, 0)] = [] by kernel_rfl] at r8
  obtain ⟨ao8, c8, rfl⟩ := owns_slice r8
  have O8 := Lib.hid o8
  clear o8 O7 r8
  go_wp2_with fail
  refine (bt_tick O8.out (by omega)).mono ?_
  rintro e w9 ⟨s9, rfl, r9, o9⟩
  rw [show L.silK 2 (0 + 1 + 1) [(7, 0)] = [.int .i64 7] by kernel_rfl] at r9
  have O9 : Hid (BT w w9 b t v5 u6 [(nA, 1)] 2 [(7, 0)]) := Lib.hid o9
  obtain ⟨g9, c9, rfl, hg9⟩ : ∃ g c, s9 = .slice (some ⟨g, 0, none⟩) 1 c ∧ w9.cell? ⟨g, 0, none⟩ = some (.int .i64 7) := by
    rcases r9.2 with ⟨-, h0⟩ | ⟨g, cap, cur, rfl, -⟩
    · cases h0
    · exact ⟨g, cap, rfl, by have := r9.cells (g := g) rfl 0 (.int .i64 7) rfl; rwa [Addr.add_lit] at this⟩
  clear o9 O8 r9
  have hnx : nX.toList = [120] := by kernel_rfl
  go_wp2_with fail
  refine (bt_len O9.out).mono ?_
  rintro e w10 ⟨rfl, q10⟩
  have O10 := Lib.hid (O9.out.quiet q10)
  have hg10 := q10.cell hg9 (by simp)
  clear q10 hg9 O9
  go_wp2_with fail
  refine (bt_kinds O10.out).mono ?_
  rintro e w11 ⟨rfl, rfl⟩
  go_wp2_with fail
  refine (bt_age7 O10.out).mono ?_
  rintro e w12 ⟨rfl, o12⟩
  have O12 := Lib.hid o12
  clear o12 O10 hg10
  go_wp2_with fail
  refine (bt_age8 O12.out).mono ?_
  rintro e w13 ⟨rfl, o13⟩
  have O13 := Lib.hid o13
  clear o13 O12
  go_wp2_with fail
  refine (bt_gone O13.out).mono ?_
  rintro e w14 ⟨u14, rfl, o14⟩
  have O14 := Lib.hid o14
  clear o14 O13
  go_wp2_with fail
  refine (bt_has O14.out).mono ?_
  rintro e w15 ⟨rfl, o15⟩
  have B15 := Lib.hid o15.bel
  clear o15 O14
  go_wp2
  go_ret
  exact ⟨rfl, B15.out⟩

end Go.Proofs.Ytikbldnekehodaa
