/-
  The walk of the law KindPackets.
-/
import Derived.Test.YtanjbbmgpodbgaaBegun8
import Derived.Test.YtanjbbmgpodbgaaLrecWalk
namespace Go.Proofs.Ytanjbbmgpodbgaa
open Go.RowKit

theorem tmod_turn (n k : Int) (hk : 0 < k) : (n.tmod k + k).tmod k = n % k := by
  by_cases h : 0 ≤ n
  · have e : n.tmod k = n % k := Int.tmod_eq_emod_of_nonneg h
    rw [e, Int.tmod_eq_emod_of_nonneg (by have := Int.emod_nonneg n (by omega : k ≠ 0); omega)]
    simp
  · obtain ⟨s, rfl⟩ : ∃ s, n = -s := ⟨-n, by omega⟩
    have hs : 0 ≤ s := by omega
    rw [Int.neg_tmod, Int.tmod_eq_emod_of_nonneg hs]
    have h2 := Int.emod_lt_of_pos s hk
    rw [Int.tmod_eq_emod_of_nonneg (by omega), Int.add_emod_right]
    have h3 := Int.mul_ediv_add_emod s k
    have h4 : -s = -(s % k) + k * (-(s / k)) := by rw [Int.mul_neg]; omega
    rw [h4, Int.add_mul_emod_self_left]

theorem tmod_small (n k : Int) (hk : 0 < k) (hk2 : k ≤ 100) : IntKind.i64.wrap (n.tmod k + k) = n.tmod k + k := by
  have h1 : -k < n.tmod k ∧ n.tmod k < k := by
    by_cases h : 0 ≤ n
    · rw [Int.tmod_eq_emod_of_nonneg h]
      have := Int.emod_lt_of_pos n hk
      have := Int.emod_nonneg n (by omega : k ≠ 0)
      omega
    · obtain ⟨s, rfl⟩ : ∃ s, n = -s := ⟨-n, by omega⟩
      rw [Int.neg_tmod, Int.tmod_eq_emod_of_nonneg (by omega)]
      have := Int.emod_lt_of_pos s hk
      have := Int.emod_nonneg s (by omega : k ≠ 0)
      omega
  rw [IntKind.wrap_i64]
  omega

set_option maxHeartbeats 8000000 in
set_option maxRecDepth 100000 in
theorem kindPackets_walk (F : RecFace) (a0 : PacV) (_wk : okI a0.kind) (_ws : okI a0.src) (_wd : okI a0.dst) (wt : okI a0.tid) (_wn : okI a0.n) (a1 : Int) (_w1 : (Lit.int .i64 a1).wf = true) (a2 : Int) (w2 : (Lit.int .i64 a2).wf = true) {w : World} :
    Calls Try.prog 12 #[.agg a0.cells, .int .i64 a1, .int .i64 a2] w fun e w' => e = .returned (.bool true) ∧ Below w.heap.size w w' := by
  have h2 := bounds_i64 w2
  have m1 := tmod_turn a1 6 (by omega)
  have m2 := tmod_small a1 6 (by omega) (by omega)
  have hmod : 0 ≤ a1 % 6 ∧ a1 % 6 < 6 := by omega
  obtain ⟨k, d0, d1, t, n, y⟩ := a0
  have ht : -9223372036854775808 ≤ t ∧ t ≤ 9223372036854775807 := wt
  clear _wk _ws _wd _wn wt _w1 w2
  unfold PacV.cells
  dsimp only
  generalize a1 % 6 = j at m1 hmod
  obtain ⟨q, hq⟩ : ∃ q, q = w.heap.size := ⟨_, rfl⟩
  obtain ⟨x0, hx0⟩ : ∃ x0, x0 = w.alloc (.cells #[.int .i64 k, .int .i64 d0, .int .i64 d1, .int .i64 t, .int .i64 n, .bool y] 40) := ⟨_, rfl⟩
  have t0 : Turn [] w x0 := by rw [hx0]; exact Turn.alloc [] w _
  have b0 : x0.heap[q]? = some (.cells #[.int .i64 k, .int .i64 d0, .int .i64 d1, .int .i64 t, .int .i64 n, .bool y] 40) := by rw [hx0, hq]; exact heap_alloc_new w _
  have T0 := Lib.hid t0
  have B0 := Lib.hid b0
  clear t0 b0
  have hj : j = 0 ∨ j = 1 ∨ j = 2 ∨ j = 3 ∨ j = 4 ∨ j = 5 := by omega
  clear hmod
  rcases hj with rfl | rfl | rfl | rfl | rfl | rfl
  · have C1 := Lib.hid (fun w => kindPacket_calls ⟨a2, d0, d1, t, n, y⟩ w ht)
    have C2 := Lib.hid (fun w => refPacket_calls ⟨a2, d0, d1, t, n, y⟩ w)
    unfold PacV.cells at C1 C2
    dsimp only at C1 C2
    generalize pacB ⟨a2, d0, d1, t, n, y⟩ = r at C1 C2
    go_enter Try.func12, Try.ntmps12
    go_wp2_with fail
    rw [← hx0, ← hq]
    have HQ := Lib.hid hq
    clear hx0 hq
    refine (begun8_calls F _).mono ?_
    rintro e x1 ⟨rfl, t1⟩
    have T1 := Lib.hid (T0.out.trans t1 (by simp))
    have b1 := t1.heap B0.out (by simp)
    have B1 := Lib.hid b1
    obtain ⟨k0, k1, k2, k3, k4, k5⟩ := six_of b1
    have fr : ∀ j, x1.frozen? ⟨q, j, none⟩ = false := fun j => unfrozen_of b1
    clear t1 b1
    go_wp2_with fail
    obtain ⟨x2, hx2⟩ : ∃ x2, x2 = x1.setCell ⟨q, 0, none⟩ (.int .i64 a2) := ⟨_, rfl⟩
    have b2 : x2.heap[q]? = some (.cells #[.int .i64 a2, .int .i64 d0, .int .i64 d1, .int .i64 t, .int .i64 n, .bool y] 40) := by rw [hx2]; exact block_set B1.out _
    have T2 : Hid (Turn [q] w x2) := Lib.hid (by
      rw [hx2]
      exact (T1.out.mono (l' := [q]) (fun i hi => by cases hi)).trans (Turn.setCell x1 (by simp) _) (fun i hi => .inl hi))
    have B2 := Lib.hid b2
    rw [← hx2]
    obtain ⟨m0, m1', m2', m3, m4, m5⟩ := six_of b2
    clear k0 k1 k2 k3 k4 k5 fr hx2 b2 T1
    go_region_held_law (fun w' => w'.cell? ⟨q, 0, none⟩ = some (.int .i64 a2) ∧ w'.cell? ⟨q, 1, none⟩ = some (.int .i64 d0) ∧ w'.cell? ⟨q, 2, none⟩ = some (.int .i64 d1) ∧ w'.cell? ⟨q, 3, none⟩ = some (.int .i64 t) ∧ w'.cell? ⟨q, 4, none⟩ = some (.int .i64 n) ∧ w'.cell? ⟨q, 5, none⟩ = some (.bool y))
      (go_keep)
      (first
        | (go_at_call 33; ((with_reducible refine (C1.out _).mono ?_); rintro e w3 ⟨rfl, t3⟩; have P3 := Lib.hid ((Turn.drew [] x2).trans t3 (by simp)); obtain ⟨n0, n1, n2, n3, n4, n5⟩ := six_of (P3.out.heap B2.out (by simp)); clear t3))
        | (go_at_call 34; ((with_reducible refine (C2.out _).mono ?_); rintro e w4 ⟨rfl, t4⟩; have P4 := Lib.hid (P3.out.trans t4 (by simp)); obtain ⟨l0, l1, l2, l3, l4, l5⟩ := six_of (P4.out.heap B2.out (by simp)); clear t4)))
    go_wp2
    go_ret
    refine ⟨ret_bool (by simp), ((T2.out.trans P4.out (by simp)).below ?_ (Nat.le_refl _))⟩
    intro i hi
    have := HQ.out
    simp at hi
    omega
  · have C1 := Lib.hid (fun w => kindPacket_calls ⟨k, a2, d1, t, n, y⟩ w ht)
    have C2 := Lib.hid (fun w => refPacket_calls ⟨k, a2, d1, t, n, y⟩ w)
    unfold PacV.cells at C1 C2
    dsimp only at C1 C2
    generalize pacB ⟨k, a2, d1, t, n, y⟩ = r at C1 C2
    go_enter Try.func12, Try.ntmps12
    go_wp2_with fail
    rw [← hx0, ← hq]
    have HQ := Lib.hid hq
    clear hx0 hq
    refine (begun8_calls F _).mono ?_
    rintro e x1 ⟨rfl, t1⟩
    have T1 := Lib.hid (T0.out.trans t1 (by simp))
    have b1 := t1.heap B0.out (by simp)
    have B1 := Lib.hid b1
    obtain ⟨k0, k1, k2, k3, k4, k5⟩ := six_of b1
    have fr : ∀ j, x1.frozen? ⟨q, j, none⟩ = false := fun j => unfrozen_of b1
    clear t1 b1
    go_wp2_with fail
    obtain ⟨x2, hx2⟩ : ∃ x2, x2 = x1.setCell ⟨q, 1, none⟩ (.int .i64 a2) := ⟨_, rfl⟩
    have b2 : x2.heap[q]? = some (.cells #[.int .i64 k, .int .i64 a2, .int .i64 d1, .int .i64 t, .int .i64 n, .bool y] 40) := by rw [hx2]; exact block_set B1.out _
    have T2 : Hid (Turn [q] w x2) := Lib.hid (by
      rw [hx2]
      exact (T1.out.mono (l' := [q]) (fun i hi => by cases hi)).trans (Turn.setCell x1 (by simp) _) (fun i hi => .inl hi))
    have B2 := Lib.hid b2
    rw [← hx2]
    obtain ⟨m0, m1', m2', m3, m4, m5⟩ := six_of b2
    clear k0 k1 k2 k3 k4 k5 fr hx2 b2 T1
    go_region_held_law (fun w' => w'.cell? ⟨q, 0, none⟩ = some (.int .i64 k) ∧ w'.cell? ⟨q, 1, none⟩ = some (.int .i64 a2) ∧ w'.cell? ⟨q, 2, none⟩ = some (.int .i64 d1) ∧ w'.cell? ⟨q, 3, none⟩ = some (.int .i64 t) ∧ w'.cell? ⟨q, 4, none⟩ = some (.int .i64 n) ∧ w'.cell? ⟨q, 5, none⟩ = some (.bool y))
      (go_keep)
      (first
        | (go_at_call 33; ((with_reducible refine (C1.out _).mono ?_); rintro e w3 ⟨rfl, t3⟩; have P3 := Lib.hid ((Turn.drew [] x2).trans t3 (by simp)); obtain ⟨n0, n1, n2, n3, n4, n5⟩ := six_of (P3.out.heap B2.out (by simp)); clear t3))
        | (go_at_call 34; ((with_reducible refine (C2.out _).mono ?_); rintro e w4 ⟨rfl, t4⟩; have P4 := Lib.hid (P3.out.trans t4 (by simp)); obtain ⟨l0, l1, l2, l3, l4, l5⟩ := six_of (P4.out.heap B2.out (by simp)); clear t4)))
    go_wp2
    go_ret
    refine ⟨ret_bool (by simp), ((T2.out.trans P4.out (by simp)).below ?_ (Nat.le_refl _))⟩
    intro i hi
    have := HQ.out
    simp at hi
    omega
  · have C1 := Lib.hid (fun w => kindPacket_calls ⟨k, d0, a2, t, n, y⟩ w ht)
    have C2 := Lib.hid (fun w => refPacket_calls ⟨k, d0, a2, t, n, y⟩ w)
    unfold PacV.cells at C1 C2
    dsimp only at C1 C2
    generalize pacB ⟨k, d0, a2, t, n, y⟩ = r at C1 C2
    go_enter Try.func12, Try.ntmps12
    go_wp2_with fail
    rw [← hx0, ← hq]
    have HQ := Lib.hid hq
    clear hx0 hq
    refine (begun8_calls F _).mono ?_
    rintro e x1 ⟨rfl, t1⟩
    have T1 := Lib.hid (T0.out.trans t1 (by simp))
    have b1 := t1.heap B0.out (by simp)
    have B1 := Lib.hid b1
    obtain ⟨k0, k1, k2, k3, k4, k5⟩ := six_of b1
    have fr : ∀ j, x1.frozen? ⟨q, j, none⟩ = false := fun j => unfrozen_of b1
    clear t1 b1
    go_wp2_with fail
    obtain ⟨x2, hx2⟩ : ∃ x2, x2 = x1.setCell ⟨q, 2, none⟩ (.int .i64 a2) := ⟨_, rfl⟩
    have b2 : x2.heap[q]? = some (.cells #[.int .i64 k, .int .i64 d0, .int .i64 a2, .int .i64 t, .int .i64 n, .bool y] 40) := by rw [hx2]; exact block_set B1.out _
    have T2 : Hid (Turn [q] w x2) := Lib.hid (by
      rw [hx2]
      exact (T1.out.mono (l' := [q]) (fun i hi => by cases hi)).trans (Turn.setCell x1 (by simp) _) (fun i hi => .inl hi))
    have B2 := Lib.hid b2
    rw [← hx2]
    obtain ⟨m0, m1', m2', m3, m4, m5⟩ := six_of b2
    clear k0 k1 k2 k3 k4 k5 fr hx2 b2 T1
    go_region_held_law (fun w' => w'.cell? ⟨q, 0, none⟩ = some (.int .i64 k) ∧ w'.cell? ⟨q, 1, none⟩ = some (.int .i64 d0) ∧ w'.cell? ⟨q, 2, none⟩ = some (.int .i64 a2) ∧ w'.cell? ⟨q, 3, none⟩ = some (.int .i64 t) ∧ w'.cell? ⟨q, 4, none⟩ = some (.int .i64 n) ∧ w'.cell? ⟨q, 5, none⟩ = some (.bool y))
      (go_keep)
      (first
        | (go_at_call 33; ((with_reducible refine (C1.out _).mono ?_); rintro e w3 ⟨rfl, t3⟩; have P3 := Lib.hid ((Turn.drew [] x2).trans t3 (by simp)); obtain ⟨n0, n1, n2, n3, n4, n5⟩ := six_of (P3.out.heap B2.out (by simp)); clear t3))
        | (go_at_call 34; ((with_reducible refine (C2.out _).mono ?_); rintro e w4 ⟨rfl, t4⟩; have P4 := Lib.hid (P3.out.trans t4 (by simp)); obtain ⟨l0, l1, l2, l3, l4, l5⟩ := six_of (P4.out.heap B2.out (by simp)); clear t4)))
    go_wp2
    go_ret
    refine ⟨ret_bool (by simp), ((T2.out.trans P4.out (by simp)).below ?_ (Nat.le_refl _))⟩
    intro i hi
    have := HQ.out
    simp at hi
    omega
  · have C1 := Lib.hid (fun w => kindPacket_calls ⟨k, d0, d1, a2, n, y⟩ w h2)
    have C2 := Lib.hid (fun w => refPacket_calls ⟨k, d0, d1, a2, n, y⟩ w)
    unfold PacV.cells at C1 C2
    dsimp only at C1 C2
    generalize pacB ⟨k, d0, d1, a2, n, y⟩ = r at C1 C2
    go_enter Try.func12, Try.ntmps12
    go_wp2_with fail
    rw [← hx0, ← hq]
    have HQ := Lib.hid hq
    clear hx0 hq
    refine (begun8_calls F _).mono ?_
    rintro e x1 ⟨rfl, t1⟩
    have T1 := Lib.hid (T0.out.trans t1 (by simp))
    have b1 := t1.heap B0.out (by simp)
    have B1 := Lib.hid b1
    obtain ⟨k0, k1, k2, k3, k4, k5⟩ := six_of b1
    have fr : ∀ j, x1.frozen? ⟨q, j, none⟩ = false := fun j => unfrozen_of b1
    clear t1 b1
    go_wp2_with fail
    obtain ⟨x2, hx2⟩ : ∃ x2, x2 = x1.setCell ⟨q, 3, none⟩ (.int .i64 a2) := ⟨_, rfl⟩
    have b2 : x2.heap[q]? = some (.cells #[.int .i64 k, .int .i64 d0, .int .i64 d1, .int .i64 a2, .int .i64 n, .bool y] 40) := by rw [hx2]; exact block_set B1.out _
    have T2 : Hid (Turn [q] w x2) := Lib.hid (by
      rw [hx2]
      exact (T1.out.mono (l' := [q]) (fun i hi => by cases hi)).trans (Turn.setCell x1 (by simp) _) (fun i hi => .inl hi))
    have B2 := Lib.hid b2
    rw [← hx2]
    obtain ⟨m0, m1', m2', m3, m4, m5⟩ := six_of b2
    clear k0 k1 k2 k3 k4 k5 fr hx2 b2 T1
    go_region_held_law (fun w' => w'.cell? ⟨q, 0, none⟩ = some (.int .i64 k) ∧ w'.cell? ⟨q, 1, none⟩ = some (.int .i64 d0) ∧ w'.cell? ⟨q, 2, none⟩ = some (.int .i64 d1) ∧ w'.cell? ⟨q, 3, none⟩ = some (.int .i64 a2) ∧ w'.cell? ⟨q, 4, none⟩ = some (.int .i64 n) ∧ w'.cell? ⟨q, 5, none⟩ = some (.bool y))
      (go_keep)
      (first
        | (go_at_call 33; ((with_reducible refine (C1.out _).mono ?_); rintro e w3 ⟨rfl, t3⟩; have P3 := Lib.hid ((Turn.drew [] x2).trans t3 (by simp)); obtain ⟨n0, n1, n2, n3, n4, n5⟩ := six_of (P3.out.heap B2.out (by simp)); clear t3))
        | (go_at_call 34; ((with_reducible refine (C2.out _).mono ?_); rintro e w4 ⟨rfl, t4⟩; have P4 := Lib.hid (P3.out.trans t4 (by simp)); obtain ⟨l0, l1, l2, l3, l4, l5⟩ := six_of (P4.out.heap B2.out (by simp)); clear t4)))
    go_wp2
    go_ret
    refine ⟨ret_bool (by simp), ((T2.out.trans P4.out (by simp)).below ?_ (Nat.le_refl _))⟩
    intro i hi
    have := HQ.out
    simp at hi
    omega
  · have C1 := Lib.hid (fun w => kindPacket_calls ⟨k, d0, d1, t, a2, y⟩ w ht)
    have C2 := Lib.hid (fun w => refPacket_calls ⟨k, d0, d1, t, a2, y⟩ w)
    unfold PacV.cells at C1 C2
    dsimp only at C1 C2
    generalize pacB ⟨k, d0, d1, t, a2, y⟩ = r at C1 C2
    go_enter Try.func12, Try.ntmps12
    go_wp2_with fail
    rw [← hx0, ← hq]
    have HQ := Lib.hid hq
    clear hx0 hq
    refine (begun8_calls F _).mono ?_
    rintro e x1 ⟨rfl, t1⟩
    have T1 := Lib.hid (T0.out.trans t1 (by simp))
    have b1 := t1.heap B0.out (by simp)
    have B1 := Lib.hid b1
    obtain ⟨k0, k1, k2, k3, k4, k5⟩ := six_of b1
    have fr : ∀ j, x1.frozen? ⟨q, j, none⟩ = false := fun j => unfrozen_of b1
    clear t1 b1
    go_wp2_with fail
    obtain ⟨x2, hx2⟩ : ∃ x2, x2 = x1.setCell ⟨q, 4, none⟩ (.int .i64 a2) := ⟨_, rfl⟩
    have b2 : x2.heap[q]? = some (.cells #[.int .i64 k, .int .i64 d0, .int .i64 d1, .int .i64 t, .int .i64 a2, .bool y] 40) := by rw [hx2]; exact block_set B1.out _
    have T2 : Hid (Turn [q] w x2) := Lib.hid (by
      rw [hx2]
      exact (T1.out.mono (l' := [q]) (fun i hi => by cases hi)).trans (Turn.setCell x1 (by simp) _) (fun i hi => .inl hi))
    have B2 := Lib.hid b2
    rw [← hx2]
    obtain ⟨m0, m1', m2', m3, m4, m5⟩ := six_of b2
    clear k0 k1 k2 k3 k4 k5 fr hx2 b2 T1
    go_region_held_law (fun w' => w'.cell? ⟨q, 0, none⟩ = some (.int .i64 k) ∧ w'.cell? ⟨q, 1, none⟩ = some (.int .i64 d0) ∧ w'.cell? ⟨q, 2, none⟩ = some (.int .i64 d1) ∧ w'.cell? ⟨q, 3, none⟩ = some (.int .i64 t) ∧ w'.cell? ⟨q, 4, none⟩ = some (.int .i64 a2) ∧ w'.cell? ⟨q, 5, none⟩ = some (.bool y))
      (go_keep)
      (first
        | (go_at_call 33; ((with_reducible refine (C1.out _).mono ?_); rintro e w3 ⟨rfl, t3⟩; have P3 := Lib.hid ((Turn.drew [] x2).trans t3 (by simp)); obtain ⟨n0, n1, n2, n3, n4, n5⟩ := six_of (P3.out.heap B2.out (by simp)); clear t3))
        | (go_at_call 34; ((with_reducible refine (C2.out _).mono ?_); rintro e w4 ⟨rfl, t4⟩; have P4 := Lib.hid (P3.out.trans t4 (by simp)); obtain ⟨l0, l1, l2, l3, l4, l5⟩ := six_of (P4.out.heap B2.out (by simp)); clear t4)))
    go_wp2
    go_ret
    refine ⟨ret_bool (by simp), ((T2.out.trans P4.out (by simp)).below ?_ (Nat.le_refl _))⟩
    intro i hi
    have := HQ.out
    simp at hi
    omega
  · have C1 := Lib.hid (fun w => kindPacket_calls ⟨k, d0, d1, t, n, (!y)⟩ w ht)
    have C2 := Lib.hid (fun w => refPacket_calls ⟨k, d0, d1, t, n, (!y)⟩ w)
    unfold PacV.cells at C1 C2
    dsimp only at C1 C2
    generalize pacB ⟨k, d0, d1, t, n, (!y)⟩ = r at C1 C2
    go_enter Try.func12, Try.ntmps12
    go_wp2_with fail
    rw [← hx0, ← hq]
    have HQ := Lib.hid hq
    clear hx0 hq
    refine (begun8_calls F _).mono ?_
    rintro e x1 ⟨rfl, t1⟩
    have T1 := Lib.hid (T0.out.trans t1 (by simp))
    have b1 := t1.heap B0.out (by simp)
    have B1 := Lib.hid b1
    obtain ⟨k0, k1, k2, k3, k4, k5⟩ := six_of b1
    have fr : ∀ j, x1.frozen? ⟨q, j, none⟩ = false := fun j => unfrozen_of b1
    clear t1 b1
    go_wp2_with fail
    obtain ⟨x2, hx2⟩ : ∃ x2, x2 = x1.setCell ⟨q, 5, none⟩ (.bool (!y)) := ⟨_, rfl⟩
    have b2 : x2.heap[q]? = some (.cells #[.int .i64 k, .int .i64 d0, .int .i64 d1, .int .i64 t, .int .i64 n, .bool (!y)] 40) := by rw [hx2]; exact block_set B1.out _
    have T2 : Hid (Turn [q] w x2) := Lib.hid (by
      rw [hx2]
      exact (T1.out.mono (l' := [q]) (fun i hi => by cases hi)).trans (Turn.setCell x1 (by simp) _) (fun i hi => .inl hi))
    have B2 := Lib.hid b2
    rw [← hx2]
    obtain ⟨m0, m1', m2', m3, m4, m5⟩ := six_of b2
    clear k0 k1 k2 k3 k4 k5 fr hx2 b2 T1
    go_region_held_law (fun w' => w'.cell? ⟨q, 0, none⟩ = some (.int .i64 k) ∧ w'.cell? ⟨q, 1, none⟩ = some (.int .i64 d0) ∧ w'.cell? ⟨q, 2, none⟩ = some (.int .i64 d1) ∧ w'.cell? ⟨q, 3, none⟩ = some (.int .i64 t) ∧ w'.cell? ⟨q, 4, none⟩ = some (.int .i64 n) ∧ w'.cell? ⟨q, 5, none⟩ = some (.bool (!y)))
      (go_keep)
      (first
        | (go_at_call 33; ((with_reducible refine (C1.out _).mono ?_); rintro e w3 ⟨rfl, t3⟩; have P3 := Lib.hid ((Turn.drew [] x2).trans t3 (by simp)); obtain ⟨n0, n1, n2, n3, n4, n5⟩ := six_of (P3.out.heap B2.out (by simp)); clear t3))
        | (go_at_call 34; ((with_reducible refine (C2.out _).mono ?_); rintro e w4 ⟨rfl, t4⟩; have P4 := Lib.hid (P3.out.trans t4 (by simp)); obtain ⟨l0, l1, l2, l3, l4, l5⟩ := six_of (P4.out.heap B2.out (by simp)); clear t4)))
    go_wp2
    go_ret
    refine ⟨ret_bool (by simp), ((T2.out.trans P4.out (by simp)).below ?_ (Nat.le_refl _))⟩
    intro i hi
    have := HQ.out
    simp at hi
    omega

end Go.Proofs.Ytanjbbmgpodbgaa
