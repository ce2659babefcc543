/-
  The walk of the law FileRename.
-/
import Derived.Test.YtlcilbbgfilefaaFileDeleteWalk
namespace Go.Proofs.Ytlcilbbgfilefaa
open Go.RowKit

def nOld : List UInt8 := [111, 108, 100]
def nNew : List UInt8 := [110, 101, 119]

theorem fall_sure (n : Int) (s a : List UInt8) : mFall n [Fm.mk s a a.length true] = [] ++ Fm.mk s a a.length true :: [] := by
  have h := fall_front n s a []
  simpa using h

theorem fall_loose (n : Int) (s b : List UInt8) : mFall n [Fm.mk s b 0 true] = [] ++ Fm.mk s (b.take (moreOf n b.length)) (b.take (moreOf n b.length)).length true :: [] := by
  have h := fall_front n s [] b
  simpa using h

set_option maxHeartbeats 4000000 in
set_option maxRecDepth 100000 in
theorem fileRename_walk (a0 : Option Addr) (c0 : Nat) (l0 : List UInt8) {w : World} (h0 : Sl w a0 c0 l0) (a1 : Option Addr) (c1 : Nat) (l1 : List UInt8) (h1 : Sl w a1 c1 l1) (sy : Bool) (n : Int) (wn : (Lit.int .i64 n).wf = true) :
    Calls Try.prog 10 #[.slice a0 l0.length c0, .slice a1 l1.length c1, .bool sy, .int .i64 n] w fun e w' => e = .returned (.bool true) ∧ Below w.heap.size w w' := by
  have HB := Lib.hid (bounds_i64 wn)
  have H0 := Lib.hid h0
  have H1 := Lib.hid h1
  clear h0 h1 wn
  cases sy with
  | true =>
    go_enter Try.func10, Try.ntmps10
    go_wp2_with fail
    refine (begun3_calls _).mono ?_
    rintro e x1 ⟨rfl, hb⟩
    have B1 := Lib.hid hb
    have S0 := Lib.hid (H0.out.belowAll hb)
    have S1 := Lib.hid (H1.out.belowAll hb)
    clear hb
    go_wp2_with fail
    refine (short_its a0 c0 40 l0 _ S0.out (by omega)).mono ?_
    rintro e x2 ⟨ao, co, la, rfl, hs, hb, hla, -⟩
    have T0 := Lib.hid hs
    have B2 := Lib.hid (B1.out.trans (hb.mono B1.out.size))
    have S1' := Lib.hid (S1.out.belowAll hb)
    clear hs hb S0 S1
    go_wp2_with fail
    refine (short_its a1 c1 40 l1 _ S1'.out (by omega)).mono ?_
    rintro e x3 ⟨ap, cp, lb, rfl, hs, hb, hlb, -⟩
    have T1 := Lib.hid hs
    have T0' := Lib.hid (T0.out.belowAll hb)
    have B3 := Lib.hid (B2.out.trans (hb.mono B2.out.size))
    clear hs hb S1' T0 B1 B2 H0 H1
    go_wp2_with fail
    refine (dk_new 1000 _).mono ?_
    rintro e x4 ⟨rfl, hd⟩
    obtain ⟨b, hbb⟩ : ∃ b, b = x3.heap.size := ⟨_, rfl⟩
    rw [← hbb] at hd ⊢
    have D4 := Lib.hid hd
    clear hd hbb
    go_wp2_with fail
    have hr : roomOf 1000 = 1000 := by decide
    refine (dk_append (n := nOld) (A := []) (B := []) (g := ⟨nOld, [], 0, false⟩) (bs := la) D4.out (.inr ⟨rfl, rfl, rfl, by simp⟩) (by decide) T0'.out (by rw [hr]; simp [tot]; omega)).mono ?_
    rintro e x5 ⟨rfl, hd⟩
    have D5 := Lib.hid (show Dk x3 x5 b (roomOf 1000) ([] ++ Fm.mk nOld la 0 false :: []) from hd)
    clear hd D4
    go_wp2_with fail
    refine (dk_sync D5.out).mono ?_
    rintro e x6 ⟨rfl, hd⟩
    have D6 := Lib.hid (show Dk x3 x6 b (roomOf 1000) [Fm.mk nOld la la.length true] from hd)
    clear hd D5
    go_wp2_with fail
    refine (dk_append (n := nNew) (A := [Fm.mk nOld la la.length true]) (B := []) (g := ⟨nNew, [], 0, false⟩) (bs := lb) D6.out (.inr ⟨rfl, rfl, rfl, by simp [nNew, nOld]⟩) (by decide) T1.out (by rw [hr]; simp [tot]; omega)).mono ?_
    rintro e x7 ⟨rfl, hd⟩
    have D7 := Lib.hid (show Dk x3 x7 b (roomOf 1000) ([Fm.mk nOld la la.length true] ++ Fm.mk nNew lb 0 false :: []) from hd)
    clear hd D6 hr
    go_wp2_with fail
    refine (dk_sync D7.out).mono ?_
    rintro e x8 ⟨rfl, hd⟩
    have D8 := Lib.hid (show Dk x3 x8 b (roomOf 1000) [Fm.mk nOld la la.length true, Fm.mk nNew lb lb.length true] from hd)
    clear hd D7
    go_wp2_with fail
    refine (dk_rename (n := nOld) (A := []) (B := []) (g := Fm.mk nNew lb lb.length true) D8.out (by decide) (by rfl)).mono ?_
    rintro e x9 ⟨rfl, hd⟩
    have D9 := Lib.hid (show Dk x3 x9 b (roomOf 1000) [Fm.mk nOld lb lb.length true] from hd)
    clear hd D8
    go_wp2_with fail
    refine (dk_names D9.out (by simp)).mono ?_
    rintro e x10 ⟨an, cn, rfl, hd⟩
    have D10 := Lib.hid hd
    clear hd D9
    go_wp2_with fail
    refine (dk_fall n HB.out D10.out (by simp)).mono ?_
    rintro e x11 ⟨bb, rfl, hd7, hd, -⟩
    rw [fall_sure] at hd
    have D11 := Lib.hid hd7
    obtain ⟨st, hst⟩ : ∃ st, st = lb := ⟨_, rfl⟩
    rw [← hst] at hd
    have E11 := Lib.hid hd
    have ST := Lib.hid hst
    clear hd hd7 D10 hst
    go_wp2_with fail
    refine (dk_read E11.out).mono ?_
    rintro e x12 ⟨aq, cq, rfl, hs, -, hb⟩
    have Q := Lib.hid hs
    have D12 := Lib.hid (D11.out.below hb)
    clear hs hb E11 D11
    have hst := ST.out
    subst hst
    clear ST
    go_wp2_with fail
    refine (dk_read_none (n := nNew) D12.out (by simp [nNew, nOld]) (by decide)).mono ?_
    rintro e w' ⟨rfl, rfl⟩
    have hsl1 := (D12.out.sl T1.out)
    have hcap := hsl1.le
    unfold maxLen at hcap
    have b1 : (st.length : Int) ≤ (cp : Int) := by omega
    have q1 : ∀ nq, (convert 30 9 (.slice aq st.length cq)).run Try.prog (x12.drewN nq) = .ok (.string ⟨st.toArray⟩) (x12.drewN nq) := fun nq => conv_sl (w := x12.drewN nq) (Q.out.turn (Turn.drewN [] x12 nq) (by simp)) rfl
    have q2 : ∀ nq, (convert 30 9 (.slice ap st.length cp)).run Try.prog (x12.drewN nq) = .ok (.string ⟨st.toArray⟩) (x12.drewN nq) := fun nq => conv_sl (w := x12.drewN nq) (hsl1.turn (Turn.drewN [] x12 nq) (by simp)) rfl
    have Q4 := Lib.hid (fun nq => dk_used (D12.out.turn (Turn.drewN [] x12 nq)))
    have htot : tot [Fm.mk nOld st st.length true] = st.length := by simp [tot]
    rw [htot] at Q4
    clear hsl1 htot
    go_wp2_with fail
    go_quiet ((go_at_call 22; exact Calls.quiet_of_same ((Q4.out _).mono fun _ _ h => ⟨h.1, h.2.symm⟩)))
    go_wp2
    go_ret
    exact ⟨rfl, B3.out.trans ((D12.out.turn (Turn.drewN [] x12 nq)).old.mono B3.out.size)⟩
  | false =>
    have hcase : 0 ≤ n ∨ n < 0 := by omega
    rcases hcase with hn | hn
    all_goals
      go_enter Try.func10, Try.ntmps10
      go_wp2_with fail
      refine (begun3_calls _).mono ?_
      rintro e x1 ⟨rfl, hb⟩
      have B1 := Lib.hid hb
      have S0 := Lib.hid (H0.out.belowAll hb)
      have S1 := Lib.hid (H1.out.belowAll hb)
      clear hb
      go_wp2_with fail
      refine (short_its a0 c0 40 l0 _ S0.out (by omega)).mono ?_
      rintro e x2 ⟨ao, co, la, rfl, hs, hb, hla, -⟩
      have T0 := Lib.hid hs
      have B2 := Lib.hid (B1.out.trans (hb.mono B1.out.size))
      have S1' := Lib.hid (S1.out.belowAll hb)
      clear hs hb S0 S1
      go_wp2_with fail
      refine (short_its a1 c1 40 l1 _ S1'.out (by omega)).mono ?_
      rintro e x3 ⟨ap, cp, lb, rfl, hs, hb, hlb, -⟩
      have T1 := Lib.hid hs
      have T0' := Lib.hid (T0.out.belowAll hb)
      have B3 := Lib.hid (B2.out.trans (hb.mono B2.out.size))
      clear hs hb S1' T0 B1 B2 H0 H1
      go_wp2_with fail
      refine (dk_new 1000 _).mono ?_
      rintro e x4 ⟨rfl, hd⟩
      obtain ⟨b, hbb⟩ : ∃ b, b = x3.heap.size := ⟨_, rfl⟩
      rw [← hbb] at hd ⊢
      have D4 := Lib.hid hd
      clear hd hbb
      go_wp2_with fail
      have hr : roomOf 1000 = 1000 := by decide
      refine (dk_append (n := nOld) (A := []) (B := []) (g := ⟨nOld, [], 0, false⟩) (bs := la) D4.out (.inr ⟨rfl, rfl, rfl, by simp⟩) (by decide) T0'.out (by rw [hr]; simp [tot]; omega)).mono ?_
      rintro e x5 ⟨rfl, hd⟩
      have D5 := Lib.hid (show Dk x3 x5 b (roomOf 1000) ([] ++ Fm.mk nOld la 0 false :: []) from hd)
      clear hd D4
      go_wp2_with fail
      refine (dk_sync D5.out).mono ?_
      rintro e x6 ⟨rfl, hd⟩
      have D6 := Lib.hid (show Dk x3 x6 b (roomOf 1000) [Fm.mk nOld la la.length true] from hd)
      clear hd D5
      go_wp2_with fail
      refine (dk_append (n := nNew) (A := [Fm.mk nOld la la.length true]) (B := []) (g := ⟨nNew, [], 0, false⟩) (bs := lb) D6.out (.inr ⟨rfl, rfl, rfl, by simp [nNew, nOld]⟩) (by decide) T1.out (by rw [hr]; simp [tot]; omega)).mono ?_
      rintro e x7 ⟨rfl, hd⟩
      have D7 := Lib.hid (show Dk x3 x7 b (roomOf 1000) ([Fm.mk nOld la la.length true] ++ Fm.mk nNew lb 0 false :: []) from hd)
      clear hd D6 hr
      go_wp2_with fail
      have D8 := Lib.hid (show Dk x3 x7 b (roomOf 1000) [Fm.mk nOld la la.length true, Fm.mk nNew lb 0 false] from D7.out)
      clear D7
      refine (dk_rename (n := nOld) (A := []) (B := []) (g := Fm.mk nNew lb 0 false) D8.out (by decide) (by rfl)).mono ?_
      rintro e x9 ⟨rfl, hd⟩
      have D9 := Lib.hid (show Dk x3 x9 b (roomOf 1000) [Fm.mk nOld lb 0 true] from hd)
      clear hd D8
      go_wp2_with fail
      refine (dk_names D9.out (by simp)).mono ?_
      rintro e x10 ⟨an, cn, rfl, hd⟩
      have D10 := Lib.hid hd
      clear hd D9
      go_wp2_with fail
      refine (dk_fall n HB.out D10.out (by simp)).mono ?_
      rintro e x11 ⟨bb, rfl, hd7, hd, -⟩
      rw [fall_loose] at hd
      have D11 := Lib.hid hd7
      obtain ⟨st, hst⟩ : ∃ st, st = lb.take (moreOf n lb.length) := ⟨_, rfl⟩
      rw [← hst] at hd
      have E11 := Lib.hid hd
      have ST := Lib.hid hst
      clear hd hd7 D10 hst
      go_wp2_with fail
      refine (dk_read E11.out).mono ?_
      rintro e x12 ⟨aq, cq, rfl, hs, -, hb⟩
      have Q := Lib.hid hs
      have D12 := Lib.hid (D11.out.below hb)
      clear hs hb E11 D11
    · have hk := moreOf_pos n lb.length hn
      have hk2 := (moreOf_is n lb.length).2
      generalize moreOf n lb.length = k at *
      have HK := Lib.hid hk
      clear hk
      go_wp2_with fail
      rw [← HK.out]
      refine (dk_read_none (n := nNew) D12.out (by simp [nNew, nOld]) (by decide)).mono ?_
      rintro e w' ⟨rfl, rfl⟩
      have hsl1 := (D12.out.sl T1.out)
      have hcap := hsl1.le
      unfold maxLen at hcap
      have q1 : ∀ nq, (convert 30 9 (.slice aq st.length cq)).run Try.prog (x12.drewN nq) = .ok (.string ⟨st.toArray⟩) (x12.drewN nq) := fun nq => conv_sl (w := x12.drewN nq) (Q.out.turn (Turn.drewN [] x12 nq) (by simp)) rfl
      have hlkn : k = st.length := by rw [ST.out, List.length_take]; omega
      have q2 : ∀ nq, (convert 30 9 (.slice ap k cp)).run Try.prog (x12.drewN nq) = .ok (.string ⟨st.toArray⟩) (x12.drewN nq) := fun nq => conv_sl (w := x12.drewN nq) (l := st) (by rw [ST.out]; exact (Sl.take hsl1 k).turn (Turn.drewN [] x12 nq) (by simp)) hlkn
      have b1 : (k : Int) ≤ (cp : Int) := by omega
      clear hlkn hk2
      have Q4 := Lib.hid (fun nq => dk_used (D12.out.turn (Turn.drewN [] x12 nq)))
      have htot : tot [Fm.mk nOld lb 0 true] = lb.length := by simp [tot]
      rw [htot] at Q4
      clear hsl1 htot
      go_wp2_with fail
      go_quiet ((go_at_call 22; exact Calls.quiet_of_same ((Q4.out _).mono fun _ _ h => ⟨h.1, h.2.symm⟩)))
      go_wp2
      go_ret
      exact ⟨rfl, B3.out.trans ((D12.out.turn (Turn.drewN [] x12 nq)).old.mono B3.out.size)⟩
    · have hk := moreOf_neg n lb.length hn
      rw [hk, List.take_zero] at ST
      have hst := ST.out
      subst hst
      clear hk ST
      go_wp2_with fail
      refine (dk_read_none (n := nNew) D12.out (by simp [nNew, nOld]) (by decide)).mono ?_
      rintro e w' ⟨rfl, rfl⟩
      have hsl1 := (D12.out.sl T1.out)
      have q1 : ∀ nq, (convert 30 9 (.slice aq 0 cq)).run Try.prog (x12.drewN nq) = .ok (.string ⟨#[]⟩) (x12.drewN nq) := fun nq => conv_sl (w := x12.drewN nq) (l := []) (Q.out.turn (Turn.drewN [] x12 nq) (by simp)) rfl
      have q2 : ∀ nq, (convert 30 9 (.slice ap 0 cp)).run Try.prog (x12.drewN nq) = .ok (.string ⟨#[]⟩) (x12.drewN nq) := fun nq => conv_sl (w := x12.drewN nq) (l := []) ((Sl.take hsl1 0).turn (Turn.drewN [] x12 nq) (by simp)) rfl
      have Q4 := Lib.hid (fun nq => dk_used (D12.out.turn (Turn.drewN [] x12 nq)))
      have htot : tot [Fm.mk nOld lb 0 true] = lb.length := by simp [tot]
      rw [htot] at Q4
      clear hsl1 htot
      go_wp2_with fail
      go_quiet ((go_at_call 22; exact Calls.quiet_of_same ((Q4.out _).mono fun _ _ h => ⟨h.1, h.2.symm⟩)))
      go_wp2
      go_ret
      exact ⟨rfl, B3.out.trans ((D12.out.turn (Turn.drewN [] x12 nq)).old.mono B3.out.size)⟩

end Go.Proofs.Ytlcilbbgfilefaa
