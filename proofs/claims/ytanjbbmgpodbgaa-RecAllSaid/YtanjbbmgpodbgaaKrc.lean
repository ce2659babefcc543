/-
  What may be, by the program: records, packets.
-/
import Derived.Test.YtanjbbmgpodbgaaKown
namespace Go.Proofs.Ytanjbbmgpodbgaa
open Go.RowKit

theorem parts_none (o : OwnV) (h1 : o.least = 0) (h2 : o.most = 0) (l : List Int) : partsB o l = decide (l.length = 0) := by
  unfold partsB
  rw [h1, h2]
  by_cases h : l.length = 0
  · have : l = [] := List.length_eq_zero_iff.1 h
    subst this
    simp
  · rw [decide_eq_false (by omega), Bool.false_and, decide_eq_false h]

theorem parts_some (o : OwnV) (h2 : o.most = 7) (l : List Int) : partsB o l = (decide (o.least ≤ (l.length : Int)) && risingB l) := by
  unfold partsB risingB
  rw [h2]
  by_cases h : l.length ≤ 7
  · rw [decide_eq_true h, Bool.and_true]
    congr 1
    rw [Bool.eq_iff_iff]
    simp
    omega
  · rw [decide_eq_false (by omega), decide_eq_false h, Bool.false_and, Bool.and_false, Bool.and_false]

theorem parts_one (o : OwnV) (h2 : o.most = 1) (h1 : o.least = 1) (l : List Int) : partsB o l = (decide (l.length = 1) && brokerB (l.getD 0 0)) := by
  unfold partsB
  rw [h1, h2]
  by_cases h : l.length = 1
  · rw [decide_eq_true (by omega), Bool.true_and, decide_eq_true h, Bool.true_and, h, Bool.eq_iff_iff, decide_eq_true_eq]
    exact ⟨fun h => (h 0 (by omega)).1, fun h i hi => by
      have : i = 0 := by omega
      subst this
      exact ⟨h, fun h => by omega⟩⟩
  · rw [decide_eq_false (by omega), Bool.false_and, decide_eq_false h, Bool.false_and]

theorem oputs_none (o : OwnV) (h : o.puts = 0) (l : List (ByteArray × ByteArray)) : oputsB o l = decide (l.length = 0) := by
  unfold oputsB
  rw [h]
  by_cases h : l.length = 0
  · have : l = [] := List.length_eq_zero_iff.1 h
    subst this
    simp
  · rw [decide_eq_false (by omega), Bool.false_and, decide_eq_false h]

theorem oputs_some (o : OwnV) (h : o.puts = 10) (l : List (ByteArray × ByteArray)) : oputsB o l = putsB l := by
  unfold oputsB putsB
  rw [h, Bool.and_comm]
  congr 1
  rw [Bool.eq_iff_iff]
  simp
  omega

theorem least_one (l : List Int) : decide ((1 : Int) ≤ (l.length : Int)) = decide (0 < l.length) := by
  rw [Bool.eq_iff_iff]; simp; omega

theorem least_none (l : List Int) : decide ((0 : Int) ≤ (l.length : Int)) = true := decide_eq_true (by omega)

theorem recB_own (k t d : Int) (y : Bool) (P : List Int) (Q : List (ByteArray × ByteArray)) : recB ⟨k, t, d, y, P, Q⟩ = (decide (1 ≤ k ∧ k ≤ 9) && (tidB t && (idB (ownV k) d && (((ownV k).yes || !y) && (partsB (ownV k) P && oputsB (ownV k) Q))))) := by
  have hk : k = 1 ∨ k = 2 ∨ k = 3 ∨ k = 4 ∨ k = 5 ∨ k = 6 ∨ k = 7 ∨ k = 8 ∨ k = 9 ∨ (k < 1 ∨ 9 < k) := by omega
  unfold recB
  dsimp only
  generalize hz : decide (d = 0) = z
  generalize hzp : decide (P.length = 0) = zp
  generalize hzq : decide (Q.length = 0) = zq
  generalize tidB t = bt
  rcases hk with rfl | rfl | rfl | rfl | rfl | rfl | rfl | rfl | rfl | hk
  · rw [parts_none _ rfl rfl, oputs_none _ rfl, hzp, hzq]
    simp [idB, ownV, hz]
    cases bt <;> cases z <;> cases y <;> cases zp <;> cases zq <;> rfl
  · rw [parts_none _ rfl rfl, oputs_none _ rfl, hzp, hzq]
    simp [idB, ownV]
    generalize tidB d = bd
    cases bt <;> cases bd <;> cases y <;> cases zp <;> cases zq <;> rfl
  · rw [parts_none _ rfl rfl, oputs_none _ rfl, hzp, hzq]
    simp [idB, ownV, hz]
    cases bt <;> cases z <;> cases y <;> cases zp <;> cases zq <;> rfl
  · rw [parts_none _ rfl rfl, oputs_some _ rfl, hzp]
    simp [idB, ownV, hz]
  · rw [parts_none _ rfl rfl, oputs_none _ rfl, hzp, hzq]
    simp [idB, ownV, hz]
    cases bt <;> cases z <;> cases y <;> cases zp <;> cases zq <;> rfl
  · rw [parts_some _ rfl, oputs_none _ rfl, hzq, show (ownV 6).least = 1 from rfl, least_one]
    simp [idB, ownV, hz]
    generalize decide (0 < P.length) = l1
    generalize risingB P = rp
    cases bt <;> cases z <;> cases y <;> cases l1 <;> cases rp <;> cases zq <;> rfl
  · rw [parts_none _ rfl rfl, oputs_some _ rfl, hzp]
    simp [idB, ownV, hz]
  · rw [parts_some _ rfl, oputs_none _ rfl, hzq, show (ownV 8).least = 0 from rfl, least_none]
    simp [idB, ownV, hz]
    generalize risingB P = rp
    cases bt <;> cases z <;> cases y <;> cases rp <;> cases zq <;> rfl
  · rw [parts_one _ rfl rfl, oputs_none _ rfl, hzq]
    simp only [idB, ownV, hz]
    generalize decide (P.length = 1) = l1
    generalize brokerB (P.getD 0 0) = rp
    cases bt <;> cases z <;> cases y <;> cases l1 <;> cases rp <;> cases zq <;> rfl
  · rw [decide_eq_false (by omega : ¬ (1 ≤ k ∧ k ≤ 9)), Bool.false_and]
    simp only [if_neg (by omega : ¬ (k = 1 ∨ k = 3 ∨ k = 5)), if_neg (by omega : ¬ k = 2), if_neg (by omega : ¬ (k = 4 ∨ k = 7)), if_neg (by omega : ¬ k = 6), if_neg (by omega : ¬ k = 8), if_neg (by omega : ¬ k = 9), Bool.and_false]

set_option maxHeartbeats 4000000 in
set_option maxRecDepth 100000 in
theorem kindRecord_calls (r : RecV) {w : World} {ap aq : Option Addr} {cp cq : Nat} (hp : Il w ap cp r.parts) (hq : Ps w aq cq r.puts) (ht : -9223372036854775808 ≤ r.tid ∧ r.tid ≤ 9223372036854775807) (hd : -9223372036854775808 ≤ r.id ∧ r.id ≤ 9223372036854775807) :
    Calls Try.prog 31 #[.agg (r.cells ap cp aq cq)] w fun e w' => e = .returned (.bool (recB r)) ∧ Turn [] w w' := by
  obtain ⟨k, t, d, y, P, Q⟩ := r
  have hp : Il w ap cp P := hp
  have hq : Ps w aq cq Q := hq
  have hpl := hp.len
  have hql := hq.len
  have HR := Lib.hid (recB_own k t d y P Q)
  rw [HR.out]
  have CO := Lib.hid (fun w => ownOf_calls k w)
  obtain ⟨o, ho⟩ : ∃ o, o = ownV k := ⟨_, rfl⟩
  rw [← ho] at CO ⊢
  have CT := Lib.hid (fun w => kindTid_calls t w ht)
  have CI := Lib.hid (fun w => ownId_calls o d w hd)
  have CP := Lib.hid (fun wx (tx : Turn [] w wx) => ownParts_calls o (hp.turn tx))
  have CQ := Lib.hid (fun wx (tx : Turn [] w wx) => ownPuts_calls o (hq.turn tx))
  unfold tidB
  obtain ⟨r0, h0⟩ : ∃ r, r = decide (1 ≤ k ∧ k ≤ 9) := ⟨_, rfl⟩
  obtain ⟨r1, h1⟩ : ∃ r, r = decide (0 < homeZ t) := ⟨_, rfl⟩
  obtain ⟨r2, h2⟩ : ∃ r, r = idB o d := ⟨_, rfl⟩
  obtain ⟨r4, h4⟩ : ∃ r, r = partsB o P := ⟨_, rfl⟩
  obtain ⟨r5, h5⟩ : ∃ r, r = oputsB o Q := ⟨_, rfl⟩
  rw [← h0] at CO
  rw [← h1] at CT
  rw [← h2] at CI
  rw [← h4] at CP
  rw [← h5] at CQ
  rw [← h0, ← h1, ← h2, ← h4, ← h5]
  unfold RecV.cells
  dsimp only
  obtain ⟨np, hnp⟩ : ∃ n, n = P.length := ⟨_, rfl⟩
  obtain ⟨nq, hnq⟩ : ∃ n, n = Q.length := ⟨_, rfl⟩
  rw [← hnp] at hpl CP ⊢
  rw [← hnq] at hql CQ ⊢
  clear h0 h1 h2 h4 h5 ho hnp hnq hp hq HR
  obtain ⟨oi, oy, ol, om, op⟩ := o
  unfold OwnV.cells at CO CI CP CQ
  dsimp only at CO CI CP CQ ⊢
  obtain ⟨q, hqd⟩ : ∃ q, q = w.heap.size := ⟨_, rfl⟩
  obtain ⟨w1, hw1⟩ : ∃ w1, w1 = w.alloc (.cells #[.int .i64 k, .int .i64 t, .int .i64 d, .bool y, .slice ap np cp, .slice aq nq cq] 38) := ⟨_, rfl⟩
  have t1 : Turn [] w w1 := by rw [hw1]; exact Turn.alloc [] w _
  have b1 : w1.heap[q]? = some (.cells #[.int .i64 k, .int .i64 t, .int .i64 d, .bool y, .slice ap np cp, .slice aq nq cq] 38) := by rw [hw1, hqd]; exact heap_alloc_new w _
  have T1 := Lib.hid t1
  have B1 := Lib.hid b1
  go_enter Try.func31, Try.ntmps31
  go_wp2_with fail
  rw [← hw1]
  clear hw1 t1 b1
  refine (CO.out _).mono ?_
  rintro e w2 ⟨rfl, t2⟩
  have T2 := Lib.hid (T1.out.trans t2 (by simp))
  have b2 := t2.heap B1.out (by simp)
  have B2 := Lib.hid b2
  clear t2 b2
  have T3 : Hid (∀ o : Obj, Turn [] w (w2.alloc o)) := Lib.hid (fun o => T2.out.trans (Turn.alloc [] w2 o) (by simp))
  cases r0 with
  | false =>
    go_wp2
    go_ret
    exact ⟨ret_bool (by simp), T3.out _⟩
  | true =>
  have B3 : Hid (∀ o : Obj, (w2.alloc o).heap[q]? = _) := Lib.hid (fun o => (Turn.alloc [] w2 o).heap B2.out (by simp))
  have e1 : ∀ o : Obj, (w2.alloc o).cell? ⟨q, 1, none⟩ = some (.int .i64 t) := fun o => by rw [cell_of_row _ _ _ _ _ _ (B3.out o)]; rfl
  have e2 : ∀ o : Obj, (w2.alloc o).cell? ⟨q, 2, none⟩ = some (.int .i64 d) := fun o => by rw [cell_of_row _ _ _ _ _ _ (B3.out o)]; rfl
  rw [hqd] at e1 e2
  go_wp2_with fail
  refine (CT.out _).mono ?_
  rintro e w3 ⟨rfl, rfl⟩
  cases r1 with
  | false =>
    go_wp2
    go_ret
    exact ⟨ret_bool (by simp), T3.out _⟩
  | true =>
  go_wp2_with fail
  refine (CI.out _).mono ?_
  rintro e w4 ⟨rfl, t4⟩
  have T4 := Lib.hid ((T3.out _).trans t4 (by simp))
  have b4 := t4.heap (B3.out _) (by simp)
  have B4 := Lib.hid b4
  have d4 := t4.heap (heap_alloc_new w2 (.cells #[.bool oi, .bool oy, .int .i64 ol, .int .i64 om, .int .i64 op] 59)) (by simp)
  have D4 := Lib.hid d4
  clear t4 b4 d4 e1 e2
  cases r2 with
  | false =>
    go_wp2
    go_ret
    exact ⟨ret_bool (by simp), T4.out⟩
  | true =>
  have e3 : w4.cell? ⟨q, 3, none⟩ = some (.bool y) := by rw [cell_of_row _ _ _ _ _ _ B4.out]; rfl
  have e4 : w4.cell? ⟨q, 4, none⟩ = some (.slice ap np cp) := by rw [cell_of_row _ _ _ _ _ _ B4.out]; rfl
  have g0 : w4.cell? ⟨w2.heap.size, 0, none⟩ = some (.bool oi) := by rw [cell_of_row _ _ _ _ _ _ D4.out]; rfl
  have g1 : w4.cell? ⟨w2.heap.size, 1, none⟩ = some (.bool oy) := by rw [cell_of_row _ _ _ _ _ _ D4.out]; rfl
  have g2 : w4.cell? ⟨w2.heap.size, 2, none⟩ = some (.int .i64 ol) := by rw [cell_of_row _ _ _ _ _ _ D4.out]; rfl
  have g3 : w4.cell? ⟨w2.heap.size, 3, none⟩ = some (.int .i64 om) := by rw [cell_of_row _ _ _ _ _ _ D4.out]; rfl
  have g4 : w4.cell? ⟨w2.heap.size, 4, none⟩ = some (.int .i64 op) := by rw [cell_of_row _ _ _ _ _ _ D4.out]; rfl
  rw [hqd] at e3 e4
  have HB4 : Hid (∀ wx, Turn [] w4 wx → wx.cell? ⟨q, 5, none⟩ = some (.slice aq nq cq)) := Lib.hid (fun wx tx => by rw [cell_of_row _ _ _ _ _ _ (tx.heap B4.out (by simp))]; rfl)
  rw [hqd] at HB4
  have HD1 : Hid (∀ wx, Turn [] w4 wx → wx.cell? ⟨w2.heap.size, 1, none⟩ = some (.bool oy)) := Lib.hid (fun wx tx => by rw [cell_of_row _ _ _ _ _ _ (tx.heap D4.out (by simp))]; rfl)
  cases oy <;> cases y
  case false.true =>
    go_wp2
    go_ret
    exact ⟨ret_bool (by simp), T4.out⟩
  all_goals
    go_wp2_with fail
    refine (CP.out _ T4.out).mono ?_
    rintro e w5 ⟨rfl, t5⟩
    have T5 := Lib.hid (T4.out.trans t5 (by simp))
    have e5 := HB4.out w5 t5
    have d5 := t5.heap D4.out (by simp)
    have k0 : w5.cell? ⟨w2.heap.size, 0, none⟩ = some (.bool oi) := by rw [cell_of_row _ _ _ _ _ _ d5]; rfl
    have k1 := HD1.out w5 t5
    have k2 : w5.cell? ⟨w2.heap.size, 2, none⟩ = some (.int .i64 ol) := by rw [cell_of_row _ _ _ _ _ _ d5]; rfl
    have k3 : w5.cell? ⟨w2.heap.size, 3, none⟩ = some (.int .i64 om) := by rw [cell_of_row _ _ _ _ _ _ d5]; rfl
    have k4 : w5.cell? ⟨w2.heap.size, 4, none⟩ = some (.int .i64 op) := by rw [cell_of_row _ _ _ _ _ _ d5]; rfl
    clear t5 d5 e3 e4 g0 g1 g2 g3 g4
    cases r4 with
    | false =>
      go_wp2
      go_ret
      exact ⟨ret_bool (by simp), T5.out⟩
    | true =>
    go_wp2_with fail
    refine (CQ.out _ T5.out).mono ?_
    rintro e w6 ⟨rfl, t6⟩
    have T6 := Lib.hid (T5.out.trans t6 (by simp))
    clear t6 e5 k0 k1 k2 k3 k4
    go_wp2
    go_ret
    exact ⟨ret_bool (by simp), T6.out⟩

set_option maxHeartbeats 4000000 in
set_option maxRecDepth 100000 in
theorem kindPacket_calls (p : PacV) (w : World) (ht : -9223372036854775808 ≤ p.tid ∧ p.tid ≤ 9223372036854775807) : Calls Try.prog 33 #[.agg p.cells] w fun e w' => e = .returned (.bool (pacB p)) ∧ Turn [] w w' := by
  obtain ⟨kd, a, b, t, n, y⟩ := p
  have C1 := Lib.hid (fun w => kindBroker_calls a w)
  have C2 := Lib.hid (fun w => kindBroker_calls b w)
  have C3 := Lib.hid (fun w => kindTid_calls t w ht)
  have HP : Hid (pacB ⟨kd, a, b, t, n, y⟩ = (decide (1 ≤ kd ∧ kd ≤ 5) && (brokerB a && (brokerB b && (decide (0 < homeZ t) && ((!y || decide (kd = 2 ∨ kd = 3)) && (if kd = 1 then decide (1 ≤ n ∧ n ≤ 10) else decide (n = 0)))))))) := Lib.hid rfl
  obtain ⟨r1, h1⟩ : ∃ r, r = brokerB a := ⟨_, rfl⟩
  obtain ⟨r2, h2⟩ : ∃ r, r = brokerB b := ⟨_, rfl⟩
  obtain ⟨r3, h3⟩ : ∃ r, r = decide (0 < homeZ t) := ⟨_, rfl⟩
  rw [← h1] at C1 HP
  rw [← h2] at C2 HP
  rw [← h3] at C3 HP
  obtain ⟨ans, ha⟩ : ∃ ans, ans = pacB ⟨kd, a, b, t, n, y⟩ := ⟨_, rfl⟩
  rw [← ha] at HP ⊢
  clear h1 h2 h3 ha
  unfold PacV.cells
  cases r1 with
  | false =>
    have HA : Hid (ans = false) := Lib.hid (by rw [HP.out]; simp)
    clear HP
    go_enter Try.func33, Try.ntmps33
    go_wp2_with fail
    refine (C1.out _).mono ?_
    rintro e w1 ⟨rfl, rfl⟩
    go_wp2
    go_ret
    exact ⟨ret_bool HA.out.symm, Turn.alloc [] w _⟩
  | true =>
  cases r2 with
  | false =>
    have HA : Hid (ans = false) := Lib.hid (by rw [HP.out]; simp)
    clear HP
    go_enter Try.func33, Try.ntmps33
    go_wp2_with fail
    refine (C1.out _).mono ?_
    rintro e w1 ⟨rfl, rfl⟩
    go_wp2_with fail
    refine (C2.out _).mono ?_
    rintro e w1 ⟨rfl, rfl⟩
    go_wp2
    go_ret
    exact ⟨ret_bool HA.out.symm, Turn.alloc [] w _⟩
  | true =>
  cases r3 with
  | false =>
    have HA : Hid (ans = false) := Lib.hid (by rw [HP.out]; simp)
    clear HP
    go_enter Try.func33, Try.ntmps33
    go_wp2_with fail
    refine (C1.out _).mono ?_
    rintro e w1 ⟨rfl, rfl⟩
    go_wp2_with fail
    refine (C2.out _).mono ?_
    rintro e w1 ⟨rfl, rfl⟩
    go_wp2_with fail
    refine (C3.out _).mono ?_
    rintro e w1 ⟨rfl, rfl⟩
    go_wp2
    go_ret
    exact ⟨ret_bool HA.out.symm, Turn.alloc [] w _⟩
  | true =>
  have hkd : kd = 1 ∨ kd = 2 ∨ kd = 3 ∨ kd = 4 ∨ kd = 5 ∨ (kd < 1 ∨ 5 < kd) := by omega
  rcases hkd with rfl | rfl | rfl | rfl | rfl | hk
  rotate_left 5
  · have HA : Hid (ans = false) := Lib.hid (by rw [HP.out, decide_eq_false (by omega)]; rfl)
    have f1 : (kd == 1) = false := by simp; omega
    have f2 : (kd == 2) = false := by simp; omega
    have f3 : (kd == 3) = false := by simp; omega
    have f4 : (kd == 4) = false := by simp; omega
    have f5 : (kd == 5) = false := by simp; omega
    clear HP hk
    go_enter Try.func33, Try.ntmps33
    go_wp2_with fail
    refine (C1.out _).mono ?_
    rintro e w1 ⟨rfl, rfl⟩
    go_wp2_with fail
    refine (C2.out _).mono ?_
    rintro e w1 ⟨rfl, rfl⟩
    go_wp2_with fail
    refine (C3.out _).mono ?_
    rintro e w1 ⟨rfl, rfl⟩
    go_wp2
    go_ret
    exact ⟨ret_bool HA.out.symm, Turn.alloc [] w _⟩
  all_goals cases y
  all_goals simp at HP
  all_goals
    go_enter Try.func33, Try.ntmps33
    go_wp2_with fail
    refine (C1.out _).mono ?_
    rintro e w1 ⟨rfl, rfl⟩
    go_wp2_with fail
    refine (C2.out _).mono ?_
    rintro e w1 ⟨rfl, rfl⟩
    go_wp2_with fail
    refine (C3.out _).mono ?_
    rintro e w1 ⟨rfl, rfl⟩
    go_wp2
  all_goals
    go_ret
  all_goals
    refine ⟨ret_bool ?_, Turn.alloc [] w _⟩
  all_goals rw [HP.out]
  all_goals first
    | rfl
    | (rw [Bool.eq_iff_iff]; simp; omega)
    | (rw [Bool.eq_iff_iff]; simp)

end Go.Proofs.Ytanjbbmgpodbgaa
