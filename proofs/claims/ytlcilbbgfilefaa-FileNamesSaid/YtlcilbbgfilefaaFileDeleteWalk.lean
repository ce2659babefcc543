/-
  The walk of the law FileDelete.
-/
import Derived.Test.YtlcilbbgfilefaaFileSyncWalk
namespace Go.Proofs.Ytlcilbbgfilefaa
open Go.RowKit

set_option maxHeartbeats 4000000 in
set_option maxRecDepth 100000 in
theorem fileDelete_walk (a0 : Option Addr) (c0 : Nat) (l0 : List UInt8) {w : World} (h0 : Sl w a0 c0 l0) (a1 : Option Addr) (c1 : Nat) (l1 : List UInt8) (h1 : Sl w a1 c1 l1) (n : Int) (wn : (Lit.int .i64 n).wf = true) :
    Calls Try.prog 11 #[.slice a0 l0.length c0, .slice a1 l1.length c1, .int .i64 n] w fun e w' => e = .returned (.bool true) ∧ Below w.heap.size w w' := by
  have HB := Lib.hid (bounds_i64 wn)
  have H0 := Lib.hid h0
  have H1 := Lib.hid h1
  clear h0 h1 wn
  go_enter Try.func11, Try.ntmps11
  go_wp2_with fail
  refine (begun3_calls _).mono ?_
  rintro e x1 ⟨rfl, hb⟩
  have B1 := Lib.hid hb
  have S0 := Lib.hid (H0.out.belowAll hb)
  have S1 := Lib.hid (H1.out.belowAll hb)
  clear hb
  go_wp2_with fail
  refine (short_its a0 c0 40 l0 _ S0.out (by omega)).mono ?_
  rintro e x2 ⟨ao, co, la, rfl, hs, hb, hla, -⟩
  have T0 := Lib.hid hs
  have B2 := Lib.hid (B1.out.trans (hb.mono B1.out.size))
  have S1' := Lib.hid (S1.out.belowAll hb)
  clear hs hb S0 S1
  go_wp2_with fail
  refine (short_its a1 c1 40 l1 _ S1'.out (by omega)).mono ?_
  rintro e x3 ⟨ap, cp, lb, rfl, hs, hb, hlb, -⟩
  have T1 := Lib.hid hs
  have T0' := Lib.hid (T0.out.belowAll hb)
  have B3 := Lib.hid (B2.out.trans (hb.mono B2.out.size))
  clear hs hb S1' T0 B1 B2 H0 H1
  go_wp2_with fail
  refine (dk_new 1000 _).mono ?_
  rintro e x4 ⟨rfl, hd⟩
  obtain ⟨b, hbb⟩ : ∃ b, b = x3.heap.size := ⟨_, rfl⟩
  rw [← hbb] at hd ⊢
  have D4 := Lib.hid hd
  clear hd hbb
  go_wp2_with fail
  have hr : roomOf 1000 = 1000 := by decide
  refine (dk_append (n := nF) (A := []) (B := []) (g := ⟨nF, [], 0, false⟩) (bs := la) D4.out (.inr ⟨rfl, rfl, rfl, by simp⟩) (by decide) T0'.out (by rw [hr]; simp [tot]; omega)).mono ?_
  rintro e x5 ⟨rfl, hd⟩
  have D5 := Lib.hid (show Dk x3 x5 b (roomOf 1000) ([] ++ Fm.mk nF la 0 false :: []) from hd)
  clear hd D4
  go_wp2_with fail
  refine (dk_sync D5.out).mono ?_
  rintro e x6 ⟨rfl, hd⟩
  have D6 := Lib.hid (show Dk x3 x6 b (roomOf 1000) ([] ++ Fm.mk nF la la.length true :: []) from hd)
  clear hd D5
  go_wp2_with fail
  refine (dk_delete D6.out).mono ?_
  rintro e x7 ⟨rfl, hd⟩
  have D7 := Lib.hid (show Dk x3 x7 b (roomOf 1000) [] from hd)
  clear hd D6
  go_wp2_with fail
  refine (dk_delete_none (n := nF) D7.out (by simp) (by decide)).mono ?_
  rintro e w' ⟨rfl, rfl⟩
  go_wp2_with fail
  refine (dk_fall n HB.out D7.out (by simp)).mono ?_
  rintro e x8 ⟨bb, rfl, hd7, hd, -⟩
  have D8 := Lib.hid hd7
  have E8 := Lib.hid (show Dk x3 x8 bb (roomOf 1000) [] from hd)
  clear hd hd7 D7
  go_wp2_with fail
  refine (dk_read_none (n := nF) E8.out (by simp) (by decide)).mono ?_
  rintro e w' ⟨rfl, rfl⟩
  clear E8
  go_wp2_with fail
  refine (dk_append (n := nF) (A := []) (B := []) (g := ⟨nF, [], 0, false⟩) (bs := lb) D8.out (.inr ⟨rfl, rfl, rfl, by simp⟩) (by decide) T1.out (by rw [hr]; simp [tot]; omega)).mono ?_
  rintro e x9 ⟨rfl, hd⟩
  have D9 := Lib.hid (show Dk x3 x9 b (roomOf 1000) ([] ++ Fm.mk nF lb 0 false :: []) from hd)
  clear hd D8 hr
  go_wp2_with fail
  refine (dk_read D9.out).mono ?_
  rintro e x10 ⟨aq, cq, rfl, hs, -, hb⟩
  have q1 : (convert 30 9 (.slice aq lb.length cq)).run Try.prog x10 = .ok (.string ⟨lb.toArray⟩) x10 := conv_sl hs rfl
  have D10 := Lib.hid (D9.out.below hb)
  clear hs hb D9
  have q2 : (convert 30 9 (.slice ap lb.length cp)).run Try.prog x10 = .ok (.string ⟨lb.toArray⟩) x10 := conv_sl (D10.out.sl T1.out) rfl
  go_wp2_with fail
  refine (dk_sure D10.out).mono ?_
  rintro e w' ⟨rfl, rfl⟩
  go_wp2
  go_ret
  exact ⟨rfl, B3.out.trans (D10.out.old.mono B3.out.size)⟩

end Go.Proofs.Ytlcilbbgfilefaa
