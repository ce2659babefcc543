/-
  What may be, by the reference: records, packets.
-/
import Derived.Test.YtanjbbmgpodbgaaKr
namespace Go.Proofs.Ytanjbbmgpodbgaa
open Go.RowKit

structure RecV where
  kind : Int
  tid : Int
  id : Int
  yes : Bool
  parts : List Int
  puts : List (ByteArray × ByteArray)

structure PacV where
  kind : Int
  src : Int
  dst : Int
  tid : Int
  n : Int
  yes : Bool

def tidB (t : Int) : Bool := decide (0 < homeZ t)

/-- What may be of a packet. -/
def pacB (p : PacV) : Bool :=
  decide (1 ≤ p.kind ∧ p.kind ≤ 5) && (brokerB p.src && (brokerB p.dst && (tidB p.tid && ((!p.yes || decide (p.kind = 2 ∨ p.kind = 3)) && (if p.kind = 1 then decide (1 ≤ p.n ∧ p.n ≤ 10) else decide (p.n = 0))))))

def PacV.cells (p : PacV) : Array Value := #[.int .i64 p.kind, .int .i64 p.src, .int .i64 p.dst, .int .i64 p.tid, .int .i64 p.n, .bool p.yes]

set_option maxHeartbeats 2000000 in
set_option maxRecDepth 100000 in
theorem refPacket_calls (p : PacV) (w : World) : Calls Try.prog 34 #[.agg p.cells] w fun e w' => e = .returned (.bool (pacB p)) ∧ Turn [] w w' := by
  obtain ⟨kd, a, b, t, n, y⟩ := p
  have C1 := Lib.hid (fun w => refBroker_calls a w)
  have C2 := Lib.hid (fun w => refBroker_calls b w)
  have C3 := Lib.hid (fun w => refTid_calls t w)
  have HP : Hid (pacB ⟨kd, a, b, t, n, y⟩ = (decide (1 ≤ kd ∧ kd ≤ 5) && (brokerB a && (brokerB b && (decide (0 < homeZ t) && ((!y || decide (kd = 2 ∨ kd = 3)) && (if kd = 1 then decide (1 ≤ n ∧ n ≤ 10) else decide (n = 0)))))))) := Lib.hid rfl
  obtain ⟨r1, h1⟩ : ∃ r, r = brokerB a := ⟨_, rfl⟩
  obtain ⟨r2, h2⟩ : ∃ r, r = brokerB b := ⟨_, rfl⟩
  obtain ⟨r3, h3⟩ : ∃ r, r = decide (0 < homeZ t) := ⟨_, rfl⟩
  rw [← h1] at C1 HP
  rw [← h2] at C2 HP
  rw [← h3] at C3 HP
  obtain ⟨ans, ha⟩ : ∃ ans, ans = pacB ⟨kd, a, b, t, n, y⟩ := ⟨_, rfl⟩
  rw [← ha] at HP ⊢
  clear h1 h2 h3 ha
  unfold PacV.cells
  by_cases hk1 : kd < 1
  · have HA : Hid (ans = false) := Lib.hid (by rw [HP.out, decide_eq_false (by omega)]; rfl)
    clear HP
    go_enter Try.func34, Try.ntmps34
    go_wp2
    go_ret
    exact ⟨ret_bool HA.out.symm, Turn.alloc [] w _⟩
  by_cases hk5 : 5 < kd
  · have HA : Hid (ans = false) := Lib.hid (by rw [HP.out, decide_eq_false (by omega)]; rfl)
    clear HP
    go_enter Try.func34, Try.ntmps34
    go_wp2
    go_ret
    exact ⟨ret_bool HA.out.symm, Turn.alloc [] w _⟩
  cases r1 with
  | false =>
    have HA : Hid (ans = false) := Lib.hid (by rw [HP.out]; simp)
    clear HP
    go_enter Try.func34, Try.ntmps34
    go_wp2_with fail
    refine (C1.out _).mono ?_
    rintro e w1 ⟨rfl, rfl⟩
    go_wp2
    go_ret
    exact ⟨ret_bool HA.out.symm, Turn.alloc [] w _⟩
  | true =>
  cases r2 with
  | false =>
    have HA : Hid (ans = false) := Lib.hid (by rw [HP.out]; simp)
    clear HP
    go_enter Try.func34, Try.ntmps34
    go_wp2_with fail
    refine (C1.out _).mono ?_
    rintro e w1 ⟨rfl, rfl⟩
    go_wp2_with fail
    refine (C2.out _).mono ?_
    rintro e w1 ⟨rfl, rfl⟩
    go_wp2
    go_ret
    exact ⟨ret_bool HA.out.symm, Turn.alloc [] w _⟩
  | true =>
  cases r3 with
  | false =>
    have HA : Hid (ans = false) := Lib.hid (by rw [HP.out]; simp)
    clear HP
    go_enter Try.func34, Try.ntmps34
    go_wp2_with fail
    refine (C1.out _).mono ?_
    rintro e w1 ⟨rfl, rfl⟩
    go_wp2_with fail
    refine (C2.out _).mono ?_
    rintro e w1 ⟨rfl, rfl⟩
    go_wp2_with fail
    refine (C3.out _).mono ?_
    rintro e w1 ⟨rfl, rfl⟩
    go_wp2
    go_ret
    exact ⟨ret_bool HA.out.symm, Turn.alloc [] w _⟩
  | true =>
  have hkd : kd = 1 ∨ kd = 2 ∨ kd = 3 ∨ kd = 4 ∨ kd = 5 := by omega
  rw [decide_eq_true (show 1 ≤ kd ∧ kd ≤ 5 by omega)] at HP
  clear hk1 hk5
  rcases hkd with rfl | rfl | rfl | rfl | rfl <;> cases y <;> simp at HP
  all_goals
    go_enter Try.func34, Try.ntmps34
    go_wp2_with fail
    refine (C1.out _).mono ?_
    rintro e w1 ⟨rfl, rfl⟩
    go_wp2_with fail
    refine (C2.out _).mono ?_
    rintro e w1 ⟨rfl, rfl⟩
    go_wp2_with fail
    refine (C3.out _).mono ?_
    rintro e w1 ⟨rfl, rfl⟩
    go_wp2
  all_goals
    go_ret
  all_goals
    refine ⟨ret_bool ?_, Turn.alloc [] w _⟩
  all_goals rw [HP.out]
  all_goals first
    | rfl
    | (rw [Bool.eq_iff_iff]; simp; omega)
    | (rw [Bool.eq_iff_iff]; simp)

/-- What may be of a record. -/
def recB (r : RecV) : Bool :=
  tidB r.tid && ((decide (r.kind = 2) || decide (r.id = 0)) && ((decide (r.kind = 5) || !r.yes) && ((decide (r.kind = 4 ∨ r.kind = 7) || decide (r.puts.length = 0)) && ((decide (r.kind = 6 ∨ r.kind = 8 ∨ r.kind = 9) || decide (r.parts.length = 0)) &&
    (if r.kind = 1 ∨ r.kind = 3 ∨ r.kind = 5 then true else if r.kind = 2 then tidB r.id else if r.kind = 4 ∨ r.kind = 7 then putsB r.puts
      else if r.kind = 6 then (decide (0 < r.parts.length) && risingB r.parts) else if r.kind = 8 then risingB r.parts else if r.kind = 9 then (decide (r.parts.length = 1) && brokerB (r.parts.getD 0 0)) else false)))))

def RecV.cells (r : RecV) (ap : Option Addr) (cp : Nat) (aq : Option Addr) (cq : Nat) : Array Value := #[.int .i64 r.kind, .int .i64 r.tid, .int .i64 r.id, .bool r.yes, .slice ap r.parts.length cp, .slice aq r.puts.length cq]

set_option maxHeartbeats 4000000 in
set_option maxRecDepth 100000 in
theorem refRecord_calls (r : RecV) {w : World} {ap aq : Option Addr} {cp cq : Nat} (hp : Il w ap cp r.parts) (hq : Ps w aq cq r.puts) :
    Calls Try.prog 32 #[.agg (r.cells ap cp aq cq)] w fun e w' => e = .returned (.bool (recB r)) ∧ Turn [] w w' := by
  obtain ⟨kd, t, d, y, P, Q⟩ := r
  have hp : Il w ap cp P := hp
  have hq : Ps w aq cq Q := hq
  have hpl := hp.len
  have hql := hq.len
  have CT := Lib.hid (fun w => refTid_calls t w)
  have CD := Lib.hid (fun w => refTid_calls d w)
  have CP : Hid (∀ wx, Turn [] w wx → Calls Try.prog 47 #[.slice aq Q.length cq] wx fun e w' => e = .returned (.bool (putsB Q)) ∧ Hid (Turn [] w w')) := Lib.hid (fun wx tw => by
    refine (refPuts_calls (hq.turn tw)).mono ?_
    rintro e w' ⟨rfl, q⟩
    exact ⟨rfl, Lib.hid (tw.trans q (by simp))⟩)
  have CR : Hid (∀ wx, Turn [] w wx → Calls Try.prog 48 #[.slice ap P.length cp] wx fun e w' => e = .returned (.bool (risingB P)) ∧ Hid (Turn [] w w')) := Lib.hid (fun wx tw => by
    have hpx : Il wx ap cp P := by
      rcases hp with h | ⟨A, h1, h2, h3, h4, h5⟩
      · exact .inl h
      · exact .inr ⟨A, h1, h2, h3, fun i hi => tw.cell (h4 i hi) (by simp), h5⟩
    refine (refRising_calls hpx).mono ?_
    rintro e w' ⟨rfl, dd, rfl⟩
    exact ⟨rfl, Lib.hid (tw.trans (Turn.drewN [] wx dd) (by simp))⟩)
  have HR : Hid (recB ⟨kd, t, d, y, P, Q⟩ = (decide (0 < homeZ t) && ((decide (kd = 2) || decide (d = 0)) && ((decide (kd = 5) || !y) && ((decide (kd = 4 ∨ kd = 7) || decide (Q.length = 0)) && ((decide (kd = 6 ∨ kd = 8 ∨ kd = 9) || decide (P.length = 0)) &&
    (if kd = 1 ∨ kd = 3 ∨ kd = 5 then true else if kd = 2 then decide (0 < homeZ d) else if kd = 4 ∨ kd = 7 then putsB Q
      else if kd = 6 then (decide (0 < P.length) && risingB P) else if kd = 8 then risingB P else if kd = 9 then (decide (P.length = 1) && brokerB (P.getD 0 0)) else false))))))) := Lib.hid rfl
  obtain ⟨ans, ha⟩ : ∃ ans, ans = recB ⟨kd, t, d, y, P, Q⟩ := ⟨_, rfl⟩
  obtain ⟨r1, h1⟩ : ∃ r, r = decide (0 < homeZ t) := ⟨_, rfl⟩
  obtain ⟨r2, h2⟩ : ∃ r, r = decide (0 < homeZ d) := ⟨_, rfl⟩
  obtain ⟨r3, h3⟩ : ∃ r, r = putsB Q := ⟨_, rfl⟩
  obtain ⟨r4, h4⟩ : ∃ r, r = risingB P := ⟨_, rfl⟩
  rw [← h1] at CT HR
  rw [← h2] at CD HR
  rw [← h3] at CP HR
  rw [← h4] at CR HR
  rw [← ha] at HR ⊢
  have HPA := Lib.hid hp
  unfold RecV.cells
  show Calls _ _ #[.agg #[.int .i64 kd, .int .i64 t, .int .i64 d, .bool y, .slice ap P.length cp, .slice aq Q.length cq]] _ _
  have HB0 := Lib.hid (fun w => refBroker_calls (P.getD 0 0) w)
  obtain ⟨r5, h5⟩ : ∃ r, r = brokerB (P.getD 0 0) := ⟨_, rfl⟩
  rw [← h5] at HB0 HR
  obtain ⟨x0, hx0⟩ : ∃ x, x = P.getD 0 0 := ⟨_, rfl⟩
  have HX0 := Lib.hid hx0
  rw [← hx0] at HB0
  obtain ⟨np, hnp⟩ : ∃ n, n = P.length := ⟨_, rfl⟩
  have HNP := Lib.hid hnp
  obtain ⟨nq, hnq⟩ : ∃ n, n = Q.length := ⟨_, rfl⟩
  rw [← hnp] at hpl CR HR ⊢
  rw [← hnq] at hql CP HR ⊢
  clear h1 h2 h3 h4 h5 ha hp hq hx0 hnp hnq
  cases r1 with
  | false =>
    have HA : Hid (ans = false) := Lib.hid (by rw [HR.out]; rfl)
    clear HR
    go_enter Try.func32, Try.ntmps32
    go_wp2_with fail
    refine (CT.out _).mono ?_
    rintro e w1 ⟨rfl, rfl⟩
    go_wp2
    go_ret
    exact ⟨ret_bool HA.out.symm, Turn.alloc [] w _⟩
  | true =>
  have hkd : kd = 1 ∨ kd = 2 ∨ kd = 3 ∨ kd = 4 ∨ kd = 5 ∨ kd = 6 ∨ kd = 7 ∨ kd = 8 ∨ (kd ≠ 9 ∧ (kd < 1 ∨ 9 < kd)) ∨ kd = 9 := by omega
  have hnq0 : (nq : Int) = 0 ∨ 0 < (nq : Int) := by omega
  have hnp0 : (np : Int) = 0 ∨ 0 < (np : Int) := by omega
  rcases hkd with rfl | rfl | rfl | rfl | rfl | rfl | rfl | rfl | ⟨hk9, hkd⟩ | rfl
  rotate_left 8
  · have e1 : ¬ kd = 1 := by omega
    have e2 : ¬ kd = 2 := by omega
    have e3 : ¬ kd = 3 := by omega
    have e4 : ¬ kd = 4 := by omega
    have e5 : ¬ kd = 5 := by omega
    have e6 : ¬ kd = 6 := by omega
    have e7 : ¬ kd = 7 := by omega
    have e8 : ¬ kd = 8 := by omega
    have HA : Hid (ans = false) := Lib.hid (by rw [HR.out]; simp [e1, e2, e3, e4, e5, e6, e7, e8, hk9])
    have f1 : (kd == 1) = false := by simpa using e1
    have f2 : (kd == 2) = false := by simpa using e2
    have f3 : (kd == 3) = false := by simpa using e3
    have f4 : (kd == 4) = false := by simpa using e4
    have f5 : (kd == 5) = false := by simpa using e5
    have f6 : (kd == 6) = false := by simpa using e6
    have f7 : (kd == 7) = false := by simpa using e7
    have f8 : (kd == 8) = false := by simpa using e8
    have f9 : (kd == 9) = false := by simpa using hk9
    have g2 : (kd != 2) = true := by simpa using e2
    have g4 : (kd != 4) = true := by simpa using e4
    have g5 : (kd != 5) = true := by simpa using e5
    have g6 : (kd != 6) = true := by simpa using e6
    have g7 : (kd != 7) = true := by simpa using e7
    have g8 : (kd != 8) = true := by simpa using e8
    have g9 : (kd != 9) = true := by simpa using hk9
    clear HR hkd e1 e2 e3 e4 e5 e6 e7 e8 hk9
    go_enter Try.func32, Try.ntmps32
    go_wp2_with fail
    refine (CT.out _).mono ?_
    rintro e w1 ⟨rfl, rfl⟩
    clear CT
    go_wp2
    all_goals go_ret
    all_goals exact ⟨ret_bool HA.out.symm, Turn.alloc [] w _⟩
  · by_cases hp1 : np = 1
    · have HA : Hid (ans = (decide (d = 0) && (!y && (decide (nq = 0) && r5)))) := Lib.hid (by rw [HR.out, hp1]; simp)
      obtain ⟨b, off, rfl, -, hat⟩ := HPA.out.at (by intro e; have := HNP.out; rw [e, hp1] at this; simp at this)
      have h0 := hat 0 (by rw [← HNP.out]; omega)
      rw [Nat.add_zero, ← HX0.out] at h0
      have h0a : ∀ o : Obj, (w.alloc o).cell? ⟨b, off, none⟩ = some (.int .i64 x0) := fun o => (Turn.alloc [] w o).cell h0 (by simp)
      subst hp1
      clear HR hat
      go_enter Try.func32, Try.ntmps32
      go_wp2_with fail
      refine (CT.out _).mono ?_
      rintro e w1 ⟨rfl, rfl⟩
      clear CT
      go_wp2_with (go_at_call 21; refine (HB0.out _).mono ?_; rintro e w2 ⟨rfl, rfl⟩)
      all_goals go_ret
      all_goals refine ⟨ret_bool ?_, Turn.alloc [] w _⟩
      all_goals rw [HA.out]
      all_goals first
        | rfl
        | (simp_all; done)
        | (rw [Bool.eq_iff_iff]; simp; omega)
    · have HA : Hid (ans = false) := Lib.hid (by rw [HR.out]; simp [hp1])
      have hp2 : ((np : Int) == 1) = false := by simp; omega
      clear HR hp1
      go_enter Try.func32, Try.ntmps32
      go_wp2_with fail
      refine (CT.out _).mono ?_
      rintro e w1 ⟨rfl, rfl⟩
      clear CT
      go_wp2
      all_goals go_ret
      all_goals exact ⟨ret_bool HA.out.symm, Turn.alloc [] w _⟩
  all_goals simp at HR
  all_goals
    go_enter Try.func32, Try.ntmps32
    go_wp2_with fail
    refine (CT.out _).mono ?_
    rintro e w1 ⟨rfl, rfl⟩
    clear CT
    go_wp2_with (first
      | (go_at_call 28; refine (CD.out _).mono ?_; rintro e w2 ⟨rfl, rfl⟩; have T2 := Lib.hid (Turn.alloc [] w (.cells #[.int .i64 0] 0)))
      | (go_at_call 47; refine (CP.out _ ?ht).mono ?_; (case ht => exact Turn.alloc [] w _); rintro e w2 ⟨rfl, T2⟩)
      | (go_at_call 48; refine (CR.out _ ?ht).mono ?_; (case ht => exact Turn.alloc [] w _); rintro e w2 ⟨rfl, T2⟩))
  all_goals go_ret
  all_goals refine ⟨ret_bool ?_, by first | exact Turn.alloc [] w _ | exact T2.out⟩
  all_goals rw [HR.out]
  all_goals first
    | rfl
    | (simp_all; done)
    | (rw [Bool.eq_iff_iff]; simp; omega)

end Go.Proofs.Ytanjbbmgpodbgaa
