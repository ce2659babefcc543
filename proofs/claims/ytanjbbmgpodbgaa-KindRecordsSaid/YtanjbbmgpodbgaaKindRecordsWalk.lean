/-
  The walk of the law KindRecords.
-/
import Derived.Test.YtanjbbmgpodbgaaLcut
namespace Go.Proofs.Ytanjbbmgpodbgaa
open Go.RowKit

set_option maxHeartbeats 8000000 in
set_option maxRecDepth 100000 in
theorem kindRecords_walk (F : RecFace) (a0 : RecV) (ap : Option Addr) (cp : Nat) (aq : Option Addr) (cq : Nat) {w : World} (wp : Il w ap cp a0.parts) (wq : Ps w aq cq a0.puts) (wk : okI a0.kind) (wt : okI a0.tid) (wi : okI a0.id)
    (a1 : PacV) (_wk : okI a1.kind) (_ws : okI a1.src) (_wd : okI a1.dst) (wt1 : okI a1.tid) (_wn : okI a1.n) :
    Calls Try.prog 5 #[.agg (a0.cells ap cp aq cq), .agg a1.cells] w fun e w' => e = .returned (.bool true) ∧ Below w.heap.size w w' := by
  have HWP := Lib.hid wp
  have HWQ := Lib.hid wq
  have HF : Hid (a0.fit) := Lib.hid ⟨wk, wt, wi⟩
  have D1 := Lib.hid (fun w => kindPacket_calls a1 w wt1)
  have D2 := Lib.hid (fun w => refPacket_calls a1 w)
  obtain ⟨k, t, d, y, P, Q⟩ := a0
  obtain ⟨k1, d0, d1, t1, n1, y1⟩ := a1
  clear _wk _ws _wd _wn wt1 wk wt wi wp wq
  generalize pacB ⟨k1, d0, d1, t1, n1, y1⟩ = r1 at D1 D2
  unfold PacV.cells at D1 D2 ⊢
  have HC : Hid (∀ wx, Turn [] w wx → Calls Try.prog 30 #[.agg #[.int .i64 k, .int .i64 t, .int .i64 d, .bool y, .slice ap P.length cp, .slice aq Q.length cq]] wx fun e w' => ∃ ap' cp' aq' cq', e = .returned (.agg ((recCut ⟨k, t, d, y, P, Q⟩).cells ap' cp' aq' cq')) ∧ RowsOf wx w' (recCut ⟨k, t, d, y, P, Q⟩) ap' cp' aq' cq' ∧ Few (recCut ⟨k, t, d, y, P, Q⟩) ∧ Turn [] wx w') :=
    Lib.hid (fun wx tx => lawCut_calls ⟨k, t, d, y, P, Q⟩ (HWP.out.turn tx) (HWQ.out.turn tx) HF.out)
  unfold RecV.cells
  dsimp only at D1 D2 ⊢
  obtain ⟨np, hnp⟩ : ∃ n, n = P.length := ⟨_, rfl⟩
  obtain ⟨nq, hnq⟩ : ∃ n, n = Q.length := ⟨_, rfl⟩
  rw [← hnp, ← hnq] at HC
  rw [← hnp, ← hnq]
  clear hnp hnq HWP HWQ HF
  obtain ⟨q, hq⟩ : ∃ q, q = w.heap.size := ⟨_, rfl⟩
  obtain ⟨x0, hx0⟩ : ∃ x0, x0 = (w.alloc (.cells #[.int .i64 k, .int .i64 t, .int .i64 d, .bool y, .slice ap np cp, .slice aq nq cq] 38)).alloc (.cells #[.int .i64 k1, .int .i64 d0, .int .i64 d1, .int .i64 t1, .int .i64 n1, .bool y1] 40) := ⟨_, rfl⟩
  have t0 : Turn [] w x0 := by rw [hx0]; exact (Turn.alloc [] w _).trans (Turn.alloc [] _ _) (by simp)
  have b0 : x0.heap[q]? = some (.cells #[.int .i64 k, .int .i64 t, .int .i64 d, .bool y, .slice ap np cp, .slice aq nq cq] 38) := by rw [hx0, hq]; exact heap_alloc2_old w _ _
  have p0 : x0.heap[q + 1]? = some (.cells #[.int .i64 k1, .int .i64 d0, .int .i64 d1, .int .i64 t1, .int .i64 n1, .bool y1] 40) := by rw [hx0, hq]; exact heap_alloc2_new w _ _
  have T0 := Lib.hid t0
  have B0 := Lib.hid b0
  have P0 := Lib.hid p0
  clear t0 b0 p0
  go_enter Try.func5, Try.ntmps5
  go_wp2_with fail
  rw [← hx0, ← hq]
  have HQ := Lib.hid hq
  clear hx0 hq
  refine (begun8_calls F _).mono ?_
  rintro e x1 ⟨rfl, t1'⟩
  have T1 := Lib.hid (T0.out.trans t1' (by simp))
  have b1 := t1'.heap B0.out (by simp)
  have P1 := Lib.hid (t1'.heap P0.out (by simp))
  have B1 := Lib.hid b1
  obtain ⟨k0, k1', k2, k3, k4, k5⟩ := six_of b1
  clear t1' b1
  go_wp2_with fail
  refine (HC.out x1 T1.out).mono ?_
  rintro e x2 ⟨ap2, cp2, aq2, cq2, rfl, ho, hf, t2⟩
  have T2 := Lib.hid (T1.out.trans t2 (by simp))
  have b2 := t2.heap B1.out (by simp)
  have P2 := Lib.hid (t2.heap P1.out (by simp))
  have B2 := Lib.hid b2
  have HO := Lib.hid ho
  have HF := Lib.hid hf
  obtain ⟨m0, m1, m2, m3, m4, m5⟩ := six_of b2
  have fr : ∀ j, x2.frozen? ⟨q, j, none⟩ = false := fun j => unfrozen_of b2
  clear t2 b2 ho hf k0 k1' k2 k3 k4 k5
  generalize recCut ⟨k, t, d, y, P, Q⟩ = r at *
  obtain ⟨rk, rt, rd, ry, RP, RQ⟩ := r
  unfold RecV.cells
  dsimp only
  go_wp2_with fail
  obtain ⟨x3, hx3⟩ : ∃ x3, x3 = (((((x2.setCell ⟨q, 0, none⟩ (.int .i64 rk)).setCell ⟨q, 1, none⟩ (.int .i64 rt)).setCell ⟨q, 2, none⟩ (.int .i64 rd)).setCell ⟨q, 3, none⟩ (.bool ry)).setCell ⟨q, 4, none⟩ (.slice ap2 RP.length cp2)).setCell ⟨q, 5, none⟩ (.slice aq2 RQ.length cq2) := ⟨_, rfl⟩
  have b3 : x3.heap[q]? = some (.cells #[.int .i64 rk, .int .i64 rt, .int .i64 rd, .bool ry, .slice ap2 RP.length cp2, .slice aq2 RQ.length cq2] 38) := by rw [hx3]; exact six_stores B2.out _ _ _ _ _ _
  have t3 : Turn [q] x2 x3 := by rw [hx3]; exact six_turn x2 q _ _ _ _ _ _
  rw [← hx3]
  have hqs : q < x1.heap.size := lt_of_heap B1.out
  have ho3 := HO.out.turn t3 (fun i hi => by simp at hi; omega)
  have T3 : Hid (Turn [q] w x3) := Lib.hid ((T2.out.mono (l' := [q]) (fun i hi => by cases hi)).trans t3 (fun i hi => .inl hi))
  have p3 := t3.heap P2.out (by simp)
  have HCB : Hid (∀ wx, Turn [] x3 wx → (wx.heap[q]? = some (.cells #[.int .i64 rk, .int .i64 rt, .int .i64 rd, .bool ry, .slice ap2 RP.length cp2, .slice aq2 RQ.length cq2] 38)) ∧ wx.heap[q + 1]? = some (.cells #[.int .i64 k1, .int .i64 d0, .int .i64 d1, .int .i64 t1, .int .i64 n1, .bool y1] 40)) := Lib.hid (fun wx tx => ⟨tx.heap b3 (by simp), tx.heap p3 (by simp)⟩)
  have C1 := Lib.hid (fun wx (tx : Turn [] x3 wx) => kindRecord_calls ⟨rk, rt, rd, ry, RP, RQ⟩ ((ho3.il HF.out).turn tx) ((ho3.ps HF.out).turn tx) HF.out.fit.2.1 HF.out.fit.2.2)
  have C2 := Lib.hid (fun wx (tx : Turn [] x3 wx) => refRecord_calls ⟨rk, rt, rd, ry, RP, RQ⟩ ((ho3.il HF.out).turn tx) ((ho3.ps HF.out).turn tx))
  generalize recB ⟨rk, rt, rd, ry, RP, RQ⟩ = r2 at C1 C2
  unfold RecV.cells at C1 C2
  dsimp only at C1 C2
  generalize RP.length = rnp at *
  generalize RQ.length = rnq at *
  obtain ⟨z0, z1, z2, z3, z4, z5⟩ := six_of b3
  obtain ⟨v0, v1, v2, v3, v4, v5⟩ := six_of p3
  clear hx3 b3 t3 ho3 p3 m0 m1 m2 m3 m4 m5 fr hqs T0 T1 T2 B0 B1 B2 P0 P1 P2
  go_region_held_law (fun w' => w'.cell? ⟨q, 0, none⟩ = some (.int .i64 rk) ∧ w'.cell? ⟨q, 1, none⟩ = some (.int .i64 rt) ∧ w'.cell? ⟨q, 2, none⟩ = some (.int .i64 rd) ∧ w'.cell? ⟨q, 3, none⟩ = some (.bool ry) ∧ w'.cell? ⟨q, 4, none⟩ = some (.slice ap2 rnp cp2) ∧ w'.cell? ⟨q, 5, none⟩ = some (.slice aq2 rnq cq2) ∧ w'.cell? ⟨q + 1, 0, none⟩ = some (.int .i64 k1) ∧ w'.cell? ⟨q + 1, 1, none⟩ = some (.int .i64 d0) ∧ w'.cell? ⟨q + 1, 2, none⟩ = some (.int .i64 d1) ∧ w'.cell? ⟨q + 1, 3, none⟩ = some (.int .i64 t1) ∧ w'.cell? ⟨q + 1, 4, none⟩ = some (.int .i64 n1) ∧ w'.cell? ⟨q + 1, 5, none⟩ = some (.bool y1))
    (go_keep)
    (first
      | (go_at_call 31; ((with_reducible refine (C1.out _ (Turn.drew [] x3)).mono ?_); rintro e w3 ⟨rfl, t3⟩; have S3 := Lib.hid ((Turn.drew [] x3).trans t3 (by simp)); obtain ⟨f0, f1, f2, f3, f4, f5⟩ := six_of (HCB.out w3 S3.out).1; obtain ⟨g0, g1, g2, g3, g4, g5⟩ := six_of (HCB.out w3 S3.out).2; clear t3))
      | (go_at_call 32; ((with_reducible refine (C2.out _ S3.out).mono ?_); rintro e w4 ⟨rfl, t4⟩; have S4 := Lib.hid (S3.out.trans t4 (by simp)); obtain ⟨h0, h1, h2, h3, h4, h5⟩ := six_of (HCB.out w4 S4.out).1; obtain ⟨i0, i1, i2, i3, i4, i5⟩ := six_of (HCB.out w4 S4.out).2; clear t4))
      | (go_at_call 33; ((with_reducible refine (D1.out _).mono ?_); rintro e w5 ⟨rfl, t5⟩; have S5 := Lib.hid (S4.out.trans t5 (by simp)); obtain ⟨j0, j1, j2, j3, j4, j5⟩ := six_of (HCB.out w5 S5.out).1; obtain ⟨l0, l1, l2, l3, l4, l5⟩ := six_of (HCB.out w5 S5.out).2; clear t5))
      | (go_at_call 34; ((with_reducible refine (D2.out _).mono ?_); rintro e w6 ⟨rfl, t6⟩; have S6 := Lib.hid (S5.out.trans t6 (by simp)); obtain ⟨n0, n1', n2, n3, n4, n5⟩ := six_of (HCB.out w6 S6.out).1; obtain ⟨o0, o1, o2, o3, o4, o5⟩ := six_of (HCB.out w6 S6.out).2; clear t6)))
  go_wp2
  go_ret
  refine ⟨ret_bool (by simp), ((T3.out.trans S6.out (by simp)).below ?_ (Nat.le_refl _))⟩
  intro i hi
  have := HQ.out
  simp at hi
  omega

end Go.Proofs.Ytanjbbmgpodbgaa
