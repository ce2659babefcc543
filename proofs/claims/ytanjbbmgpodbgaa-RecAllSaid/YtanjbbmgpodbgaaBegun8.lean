/-
  begun: a name, a number, a record.
-/
import Derived.Test.YtanjbbmgpodbgaaFace
import Derived.Test.YtanjbbmgpodbgaaBegun
import Derived.Lib.SliceRun
namespace Go.Proofs.Ytanjbbmgpodbgaa
open Go.RowKit

def begR : RecV := ⟨4, 8589934597, 0, false, [], [(⟨#[113]⟩, ⟨#[98]⟩)]⟩

theorem begR_ok : recB begR = true := by decide +kernel
theorem begR_fit : begR.fit := by unfold RecV.fit okI begR; simp
theorem recNone_fit : recNone.fit := by unfold RecV.fit okI recNone; simp

theorem nil_test (w : World) (a : Option Addr) (n c : Nat) : (binOp .eql 24 (.slice a n c) (.slice none 0 0)).run Try.prog w = .ok (.bool a.isNone) w :=
  Lib.run_eql_slice_nil w _ _ a n c 0 0 Try.underlying24

theorem lawBegun_calls (w : World) : Calls Try.prog 42 #[] w fun e w' => e = .returned (.bool true) ∧ Turn [] w w' := by
  have C := Lib.hid (begun_calls w)
  go_enter Try.func42, Try.ntmps42
  go_wp2_with fail
  refine C.out.mono ?_
  rintro e w1 ⟨rfl, hb⟩
  have T := Lib.hid (Turn.of_below hb [])
  clear hb
  go_wp2
  go_ret
  exact ⟨rfl, T.out⟩

theorem begQ (w : World) : Calls Try.prog 16 #[.string ⟨#[97, 98, 99]⟩] w fun e w' => e = .returned (.bool true) ∧ Turn [] w w' := by
  have h := kindQueue_calls ⟨#[97, 98, 99]⟩ w
  rwa [show queueB ⟨#[97, 98, 99]⟩ = true from by decide +kernel] at h
theorem begQ0 (w : World) : Calls Try.prog 16 #[.string ⟨#[]⟩] w fun e w' => e = .returned (.bool false) ∧ Turn [] w w' := by
  have h := kindQueue_calls ⟨#[]⟩ w
  rwa [show queueB ⟨#[]⟩ = false from by decide +kernel] at h
theorem begQ1 (w : World) : Calls Try.prog 16 #[.string ⟨#[65]⟩] w fun e w' => e = .returned (.bool false) ∧ Turn [] w w' := by
  have h := kindQueue_calls ⟨#[65]⟩ w
  rwa [show queueB ⟨#[65]⟩ = false from by decide +kernel] at h
theorem begB (w : World) : Calls Try.prog 18 #[.string ⟨#[]⟩] w fun e w' => e = .returned (.bool true) ∧ w = w' := by
  have h := kindBody_calls ⟨#[]⟩ w
  rwa [show bodyB ⟨#[]⟩ = true from by decide +kernel] at h
theorem begT (w : World) : Calls Try.prog 26 #[.int .i64 8589934597] w fun e w' => e = .returned (.bool true) ∧ w = w' := by
  have h := kindTid_calls 8589934597 w (by omega)
  rwa [show decide (0 < homeZ 8589934597) = true from by decide +kernel] at h
theorem begT0 (w : World) : Calls Try.prog 26 #[.int .i64 8589934592] w fun e w' => e = .returned (.bool false) ∧ w = w' := by
  have h := kindTid_calls 8589934592 w (by omega)
  rwa [show decide (0 < homeZ 8589934592) = false from by decide +kernel] at h
theorem begH (w : World) : Calls Try.prog 27 #[.int .i64 8589934597] w fun e w' => e = .returned (.int .i64 2) ∧ w = w' := by
  have h := kindHome_calls 8589934597 w (by omega)
  rwa [show homeZ 8589934597 = 2 from by decide +kernel] at h
theorem begP (w : World) : Calls Try.prog 33 #[.agg #[.int .i64 5, .int .i64 1, .int .i64 2, .int .i64 8589934597, .int .i64 0, .bool false]] w fun e w' => e = .returned (.bool true) ∧ Turn [] w w' := by
  have h := kindPacket_calls ⟨5, 1, 2, 8589934597, 0, false⟩ w (by dsimp only; omega)
  rwa [show pacB ⟨5, 1, 2, 8589934597, 0, false⟩ = true from by decide +kernel] at h
theorem begN (w : World) : Calls Try.prog 31 #[.agg #[.int .i64 0, .int .i64 0, .int .i64 0, .bool false, .slice none 0 0, .slice none 0 0]] w fun e w' => e = .returned (.bool false) ∧ Turn [] w w' := by
  have h := kindRecord_calls recNone (w := w) (ap := none) (cp := 0) (aq := none) (cq := 0) (.inl ⟨rfl, rfl, rfl⟩) (.inl ⟨rfl, rfl, rfl⟩) (by unfold recNone; dsimp only; omega) (by unfold recNone; dsimp only; omega)
  rwa [show recB recNone = false from by decide +kernel] at h

def begCells (aq : Option Addr) (cp cq : Nat) (ap : Option Addr) : Array Value := #[.int .i64 4, .int .i64 8589934597, .int .i64 0, .bool false, .slice ap 0 cp, .slice aq 1 cq]

theorem six_of {w : World} {g : Nat} {v0 v1 v2 v3 v4 v5 : Value} {t : TypeId} {fr : Nat × Nat} (h : w.heap[g]? = some (.cells #[v0, v1, v2, v3, v4, v5] t fr)) :
    w.cell? ⟨g, 0, none⟩ = some v0 ∧ w.cell? ⟨g, 1, none⟩ = some v1 ∧ w.cell? ⟨g, 2, none⟩ = some v2 ∧ w.cell? ⟨g, 3, none⟩ = some v3 ∧ w.cell? ⟨g, 4, none⟩ = some v4 ∧ w.cell? ⟨g, 5, none⟩ = some v5 := by
  refine ⟨?_, ?_, ?_, ?_, ?_, ?_⟩ <;> rw [cell_of_row _ _ _ _ _ _ h] <;> rfl

set_option maxHeartbeats 4000000 in
set_option maxRecDepth 100000 in
theorem begun8_calls (F : RecFace) (w : World) : Calls Try.prog 14 #[] w fun e w' => e = .returned (.bool true) ∧ Turn [] w w' := by
  have CM := Lib.hid (fun w => kindMake_calls 2 5 w)
  rw [show makeZ 2 5 = 8589934597 from by decide +kernel] at CM
  go_enter Try.func14, Try.ntmps14
  go_wp2_with fail
  refine (CM.out _).mono ?_
  rintro e w1 ⟨rfl, rfl⟩
  go_wp2_with fail
  obtain ⟨q, hqd⟩ : ∃ q, q = w.heap.size := ⟨_, rfl⟩
  obtain ⟨w1, hw1⟩ : ∃ w1, w1 = (w.alloc (.cells #[.string ⟨#[113]⟩, .string ⟨#[98]⟩] 29)).alloc (.cells #[.int .i64 4, .int .i64 8589934597, .int .i64 0, .bool false, .slice none 0 0, .slice (some ⟨w.heap.size, 0, none⟩) 1 1] 38) := ⟨_, rfl⟩
  have t1 : Turn [] w w1 := by rw [hw1]; exact (Turn.alloc [] w _).trans (Turn.alloc [] _ _) (by simp)
  have b1 : w1.heap[q + 1]? = some (.cells #[.int .i64 4, .int .i64 8589934597, .int .i64 0, .bool false, .slice none 0 0, .slice (some ⟨q, 0, none⟩) 1 1] 38) := by
    rw [hw1, hqd]; exact heap_alloc2_new w _ _
  have b0 : w1.heap[q]? = some (.cells #[.string ⟨#[113]⟩, .string ⟨#[98]⟩] 29) := by
    rw [hw1, hqd]; exact heap_alloc2_old w _ _
  have hps : Ps w1 (some ⟨q, 0, none⟩) 1 begR.puts := .inr ⟨_, rfl, by simp [begR], by simp [maxLen], fun i hi => by
    have : i = 0 := by simpa [begR] using hi
    subst this
    refine ⟨?_, ?_, by decide +kernel, by decide +kernel⟩
    · show w1.cell? ⟨q, 0, none⟩ = _
      rw [cell_of_row _ _ _ _ _ _ b0]; rfl
    · show w1.cell? ⟨q, 1, none⟩ = _
      rw [cell_of_row _ _ _ _ _ _ b0]; rfl⟩
  rw [← hw1, ← hqd]
  have T1 := Lib.hid t1
  have B1 := Lib.hid b1
  have HPS := Lib.hid hps
  clear hw1 hqd t1 b1 b0 hps CM
  refine (F.enc begR w1 none 0 (some ⟨q, 0, none⟩) 1 (.inl ⟨rfl, rfl, rfl⟩) HPS.out begR_fit).mono ?_
  rintro e w2 ⟨v2, rfl, ho, -, t2⟩
  obtain ⟨a2, c2, rfl, hs2, -⟩ := Sl.of_owns (ho begR_ok)
  have T2 := Lib.hid t2
  have CD := Lib.hid (F.dec (recBytes begR) w2 a2 c2 hs2)
  obtain ⟨n2, hn2⟩ : ∃ n, n = (recBytes begR).length := ⟨_, rfl⟩
  rw [← hn2] at CD ⊢
  clear ho t2 hs2 hn2
  go_wp2_with fail
  refine CD.out.mono ?_
  rintro e w3 ⟨x, ap, cp, aq, cq, err, rfl, hpx, hqx, -, -, -, t3, hx⟩
  have hx2 : err = 0 ∧ x = begR := by
    rcases hx with ⟨h1, h2, h3⟩ | ⟨h1, h2, h3⟩
    · exact ⟨h1, recBytes_inj h2 begR_ok h3⟩
    · exact absurd rfl (h3 begR begR_ok)
  obtain ⟨rfl, rfl⟩ := hx2
  have T3 := Lib.hid (T2.out.trans t3 (by simp))
  have HPX := Lib.hid hpx
  have HQX := Lib.hid hqx
  clear CD hx t3 hpx hqx T2
  unfold RecV.cells begR
  dsimp only [List.length_nil, List.length_cons]
  go_wp2_with fail
  obtain ⟨g, hg⟩ : ∃ g, g = w3.heap.size := ⟨_, rfl⟩
  obtain ⟨w4, hw4⟩ : ∃ w4, w4 = w3.alloc (.cells #[.int .i64 4, .int .i64 8589934597, .int .i64 0, .bool false, .slice ap 0 cp, .slice aq 1 cq] 38) := ⟨_, rfl⟩
  have t4 : Turn [] w3 w4 := by rw [hw4]; exact Turn.alloc [] w3 _
  have b4 : w4.heap[g]? = some (.cells #[.int .i64 4, .int .i64 8589934597, .int .i64 0, .bool false, .slice ap 0 cp, .slice aq 1 cq] 38) := by
    rw [hw4, hg]; exact heap_alloc_new w3 _
  rw [← hw4, ← hg]
  have T4 := Lib.hid (T3.out.trans t4 (by simp))
  have HC : Hid (∀ wx, Turn [] w4 wx → wx.heap[g]? = some (.cells #[.int .i64 4, .int .i64 8589934597, .int .i64 0, .bool false, .slice ap 0 cp, .slice aq 1 cq] 38) ∧ Il wx ap cp begR.parts ∧ Ps wx aq cq begR.puts) := Lib.hid (fun wx tx => ⟨tx.heap b4 (by simp), (HPX.out.turn t4).turn tx, (HQX.out.turn t4).turn tx⟩)
  have HC1 : Hid (∀ wx, Turn [] w1 wx → wx.heap[q + 1]? = some (.cells #[.int .i64 4, .int .i64 8589934597, .int .i64 0, .bool false, .slice none 0 0, .slice (some ⟨q, 0, none⟩) 1 1] 38) ∧ Ps wx (some ⟨q, 0, none⟩) 1 begR.puts) := Lib.hid (fun wx tx => ⟨tx.heap B1.out (by simp), HPS.out.turn tx⟩)
  clear hw4 hg t4 b4 HPX HQX HPS T3 B1
  refine (F.dec [] w4 none 0 (Sl.nil _)).mono ?_
  rintro e w5 ⟨x, ap5, cp5, aq5, cq5, err, rfl, -, -, -, -, -, t5, hx⟩
  have hx2 : err = 1 ∧ x = recNone := by
    rcases hx with ⟨h1, h2, h3⟩ | ⟨h1, h2, h3⟩
    · have := recBytes_long x
      rw [h3] at this
      simp at this
    · exact ⟨h1, h2⟩
  obtain ⟨rfl, rfl⟩ := hx2
  have T5 := Lib.hid t5
  clear hx t5
  unfold RecV.cells recNone
  dsimp only [List.length_nil, List.length_cons]
  go_wp2_with fail
  obtain ⟨w6, hw6⟩ : ∃ w6, w6 = w5.alloc (.cells #[.int .i64 0, .int .i64 0, .int .i64 0, .bool false, .slice ap5 0 cp5, .slice aq5 0 cq5] 38) := ⟨_, rfl⟩
  have T6 : Hid (Turn [] w4 w6) := Lib.hid (by rw [hw6]; exact T5.out.trans (Turn.alloc [] w5 _) (by simp))
  rw [← hw6]
  clear hw6 T5
  refine (lawBegun_calls w6).mono ?_
  rintro e w7 ⟨rfl, t7⟩
  have T7 := Lib.hid (T6.out.trans t7 (by simp))
  clear t7 T6
  go_wp2_with fail
  refine (begQ w7).mono ?_
  rintro e w8 ⟨rfl, t8⟩
  have T8 := Lib.hid (T7.out.trans t8 (by simp))
  clear t8 T7
  go_wp2_with fail
  refine (begQ0 w8).mono ?_
  rintro e w9 ⟨rfl, t9⟩
  have T9 := Lib.hid (T8.out.trans t9 (by simp))
  clear t9 T8
  go_wp2_with fail
  refine (begQ1 w9).mono ?_
  rintro e w10 ⟨rfl, t10⟩
  have T10 := Lib.hid (T9.out.trans t10 (by simp))
  clear t10 T9
  go_wp2_with fail
  refine (begB _).mono ?_
  rintro e w11 ⟨rfl, rfl⟩
  go_wp2_with fail
  refine (begT _).mono ?_
  rintro e w11 ⟨rfl, rfl⟩
  go_wp2_with fail
  refine (begH _).mono ?_
  rintro e w11 ⟨rfl, rfl⟩
  go_wp2_with fail
  refine (begT0 _).mono ?_
  rintro e w11 ⟨rfl, rfl⟩
  obtain ⟨x1, x2⟩ := HC1.out w10 (T4.out.trans T10.out (by simp))
  obtain ⟨k0, k1, k2, k3, k4, k5⟩ := six_of x1
  have HP10 := Lib.hid x2
  clear x1 x2
  go_wp2_with fail
  have CR := kindRecord_calls begR (ap := none) (cp := 0) (.inl ⟨rfl, rfl, rfl⟩) HP10.out (by unfold begR; dsimp only; omega) (by unfold begR; dsimp only; omega)
  rw [begR_ok] at CR
  refine CR.mono ?_
  rintro e w12 ⟨rfl, t12⟩
  have T12 := Lib.hid (T10.out.trans t12 (by simp))
  clear t12 T10 CR k0 k1 k2 k3 k4 k5
  go_wp2_with fail
  refine (begN w12).mono ?_
  rintro e w13 ⟨rfl, t13⟩
  have T13 := Lib.hid (T12.out.trans t13 (by simp))
  clear t13 T12
  go_wp2_with fail
  refine (begP w13).mono ?_
  rintro e w14 ⟨rfl, t14⟩
  have T14 := Lib.hid (T13.out.trans t14 (by simp))
  clear t14 T13
  obtain ⟨x1, x2⟩ := HC1.out w14 (T4.out.trans T14.out (by simp))
  obtain ⟨k0, k1, k2, k3, k4, k5⟩ := six_of x1
  obtain ⟨y1, y2, y3⟩ := HC.out w14 T14.out
  obtain ⟨m0, m1, m2, m3, m4, m5⟩ := six_of y1
  have HP14 := Lib.hid x2
  have HX14 := Lib.hid y2
  have HY14 := Lib.hid y3
  clear x1 x2 y1 y2 y3
  go_wp2_with fail
  have CE := F.eq begR begR w14 ap aq none (some ⟨q, 0, none⟩) cp cq 0 1 HX14.out HY14.out (.inl ⟨rfl, rfl, rfl⟩) HP14.out
  rw [show eqRecB begR begR = true from (eqRecB_iff _ _).2 rfl] at CE
  refine CE.mono ?_
  rintro e w15 ⟨rfl, t15⟩
  have T15 := Lib.hid (T14.out.trans t15 (by simp))
  clear t15 T14 CE k0 k1 k2 k3 k4 k5 m0 m1 m2 m3 m4 m5
  go_wp2_with fail
  refine (F.enc recNone w15 none 0 none 0 (.inl ⟨rfl, rfl, rfl⟩) (.inl ⟨rfl, rfl, rfl⟩) recNone_fit).mono ?_
  rintro e w16 ⟨v16, rfl, -, hv, t16⟩
  have hv := hv (by decide +kernel)
  subst hv
  have T16 := Lib.hid (T15.out.trans t16 (by simp))
  have hnil := nil_test w16 none 0 0
  clear t16 T15
  go_wp2
  go_ret
  exact ⟨rfl, T1.out.trans (T4.out.trans T16.out (by simp)) (by simp)⟩

end Go.Proofs.Ytanjbbmgpodbgaa
