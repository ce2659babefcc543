/-
  The walk of the law KindNames.
-/
import Derived.Test.YtanjbbmgpodbgaaBegun8
import Derived.Test.YtanjbbmgpodbgaaLrecWalk
namespace Go.Proofs.Ytanjbbmgpodbgaa
open Go.RowKit

theorem conv_sl {w : World} {ao : Option Addr} {c : Nat} {l : List UInt8} (h : Sl w ao c l) {n : Nat} (hn : n = l.length) : (convert 24 9 (.slice ao n c)).run Try.prog w = .ok (.string ⟨l.toArray⟩) w := by
  subst hn
  rcases h with ⟨rfl, rfl, rfl⟩ | ⟨A, rfl, _, _, hc⟩
  · exact nil_text w
  · exact run_convert_bytes_back (P := Try.prog) w 24 9 5 A c l Try.underlying24 Try.underlying5 Try.underlying9 (fun j hj => by rw [hc j hj]; simp [List.getD, hj])

theorem cutN_size (s : ByteArray) (n : Nat) : (cutN s n).size ≤ n := by
  show (s.data.toList.take n).toArray.size ≤ n
  simp
  omega

set_option maxHeartbeats 4000000 in
set_option maxRecDepth 100000 in
theorem kindNames_walk (F : RecFace) (s0 : ByteArray) (ws : s0.size ≤ maxLen) (a1 : Int) (w1 : (Lit.int .u8 a1).wf = true) (a2 : Int) (_w2 : (Lit.int .i64 a2).wf = true) {w : World} :
    Calls Try.prog 3 #[.string s0, .int .u8 a1, .int .i64 a2] w fun e w' => e = .returned (.bool true) ∧ Below w.heap.size w w' := by
  have hb := bounds_u8 w1
  unfold maxLen at ws
  obtain ⟨sg, hsg⟩ : ∃ sg : UInt8, (sg.toNat : Int) = a1 := ⟨UInt8.ofNat a1.toNat, by rw [UInt8.toNat_ofNat']; omega⟩
  have CC : Hid (∀ x, Calls Try.prog 15 #[.string s0, .int .i64 70] x fun e w' => e = .returned (.string (cutN s0 70)) ∧ w' = x) := Lib.hid (fun x => cut8_calls s0 70 x (by omega) (by omega))
  have HCS := Lib.hid (cutN_size s0 70)
  obtain ⟨c, hc⟩ : ∃ c, c = cutN s0 70 := ⟨_, rfl⟩
  rw [← hc] at CC HCS
  have HSG := Lib.hid hsg
  clear hb w1 ws hc hsg
  go_enter Try.func3, Try.ntmps3
  go_wp2_with fail
  refine (begun8_calls F _).mono ?_
  rintro e x1 ⟨rfl, t1⟩
  have T1 := Lib.hid t1
  clear t1
  go_wp2_with fail
  refine (CC.out _).mono ?_
  rintro e w' ⟨rfl, rfl⟩
  have hcz : (c.size : Int) ≤ 70 := by have := HCS.out; omega
  have f1 : (convert 24 9 (.slice (some ⟨w'.heap.size, 0, none⟩) 1 1)).run Try.prog (w'.alloc (.cells #[.int .u8 a1] 5)) = .ok (.string ⟨[sg].toArray⟩) (w'.alloc (.cells #[.int .u8 a1] 5)) :=
    conv_sl (Sl.made w' #[.int .u8 a1] 5 [sg] (by rw [← HSG.out]; rfl) (by simp [maxLen])) rfl
  go_wp2_with fail
  obtain ⟨t, ht⟩ : ∃ t : ByteArray, t = c ++ ⟨#[sg]⟩ := ⟨_, rfl⟩
  have htz : (t.size : Int) ≤ 71 := by
    rw [ht, ByteArray.size_append]
    show ((c.size + 1 : Nat) : Int) ≤ 71
    omega
  rw [← ht]
  have T2 := Lib.hid (T1.out.trans (Turn.alloc [] w' (.cells #[.int .u8 a1] 5)) (by simp))
  have K1 := Lib.hid (fun w => kindQueue_calls c w)
  have K2 := Lib.hid (fun w => refQueue_calls c w (by omega))
  have K3 := Lib.hid (fun w => kindQueue_calls t w)
  have K4 := Lib.hid (fun w => refQueue_calls t w (by omega))
  have K5 := Lib.hid (fun w => kindBody_calls c w)
  have K6 := Lib.hid (fun w => refBody_calls c w)
  have K7 := Lib.hid (fun w => kindBody_calls t w)
  have K8 := Lib.hid (fun w => refBody_calls t w)
  have K9 := Lib.hid (fun w => kindBroker_calls a2 w)
  have K10 := Lib.hid (fun w => refBroker_calls a2 w)
  have K11 := Lib.hid (fun w => kindPut_calls c t w)
  have K12 := Lib.hid (fun w => refPut_calls c t w (by omega))
  clear f1 ht htz hcz CC
  generalize putB (c, t) = r1 at *
  generalize queueB c = r2 at *
  generalize queueB t = r3 at *
  generalize bodyB c = r4 at *
  generalize bodyB t = r5 at *
  generalize brokerB a2 = r6 at *
  refine (K1.out _).mono ?_
  rintro e x2 ⟨rfl, t2⟩
  have T3 := Lib.hid (T2.out.trans t2 (by simp))
  clear t2 T2
  go_wp2_with fail
  refine (K2.out _).mono ?_
  rintro e x3 ⟨rfl, rfl⟩
  go_wp2_with fail
  refine (K3.out _).mono ?_
  rintro e x3 ⟨rfl, t3⟩
  have T4 := Lib.hid (T3.out.trans t3 (by simp))
  clear t3 T3
  go_wp2_with fail
  refine (K4.out _).mono ?_
  rintro e x4 ⟨rfl, rfl⟩
  go_wp2_with fail
  refine (K5.out _).mono ?_
  rintro e x4 ⟨rfl, rfl⟩
  go_wp2_with fail
  refine (K6.out _).mono ?_
  rintro e x4 ⟨rfl, rfl⟩
  go_wp2_with fail
  refine (K7.out _).mono ?_
  rintro e x4 ⟨rfl, rfl⟩
  go_wp2_with fail
  refine (K8.out _).mono ?_
  rintro e x4 ⟨rfl, rfl⟩
  go_wp2_with fail
  refine (K9.out _).mono ?_
  rintro e x4 ⟨rfl, rfl⟩
  go_wp2_with fail
  refine (K10.out _).mono ?_
  rintro e x4 ⟨rfl, rfl⟩
  go_wp2_with fail
  refine (K11.out _).mono ?_
  rintro e x4 ⟨rfl, t4⟩
  have T5 := Lib.hid (T4.out.trans t4 (by simp))
  clear t4 T4
  go_wp2_with fail
  refine (K12.out _).mono ?_
  rintro e x5 ⟨rfl, t5⟩
  have T6 := Lib.hid (T5.out.trans t5 (by simp))
  clear t5 T5
  go_wp2
  go_ret
  exact ⟨rfl, T6.out.belowAll⟩

end Go.Proofs.Ytanjbbmgpodbgaa
