/-
  The walk of the law FileSync.
-/
import Derived.Test.YtlcilbbgfilefaaFileEmptyWalk
namespace Go.Proofs.Ytlcilbbgfilefaa
open Go.RowKit

/-- Two texts in a row. -/
theorem two_texts (x y : List UInt8) : ((⟨x.toArray⟩ : ByteArray) ++ ⟨y.toArray⟩).toList = x ++ y := by
  rw [ByteArray.mk_append_mk, ByteArray.toList_eq]

/-- How many of l are taken behind a fall. -/
theorem moreOf_neg (n : Int) (lo : Nat) (h : n < 0) : moreOf n lo = 0 := by
  unfold moreOf
  rw [Int.max_eq_right (by omega)]
  simp

theorem moreOf_pos (n : Int) (lo : Nat) (h : 0 ≤ n) : ((moreOf n lo : Nat) : Int) = n % ((lo : Int) + 1) := by
  have := (moreOf_is n lo).1
  rw [Int.max_eq_left h] at this
  exact this.symm

theorem fall_front (n : Int) (s a b : List UInt8) : mFall n [Fm.mk s (a ++ b) a.length true] = [] ++ Fm.mk s (a ++ b.take (moreOf n b.length)) (a ++ b.take (moreOf n b.length)).length true :: [] := by
  have h0 : mStay n (Fm.mk s (a ++ b) a.length true) = a ++ b.take (moreOf n b.length) := by
    unfold mStay
    simp only [List.length_append, Nat.add_sub_cancel_left]
    rw [List.take_append, List.take_of_length_le (by omega), Nat.add_sub_cancel_left]
  have h : fallen n (Fm.mk s (a ++ b) a.length true) = some (Fm.mk s (a ++ b.take (moreOf n b.length)) (a ++ b.take (moreOf n b.length)).length true) := by
    unfold fallen
    rw [if_pos (.inr rfl), h0]
  simp only [mFall, List.filterMap_cons, h]
  rfl

set_option maxHeartbeats 4000000 in
set_option maxRecDepth 100000 in
theorem fileSync_walk (a0 : Option Addr) (c0 : Nat) (l0 : List UInt8) {w : World} (h0 : Sl w a0 c0 l0) (a1 : Option Addr) (c1 : Nat) (l1 : List UInt8) (h1 : Sl w a1 c1 l1) (n : Int) (wn : (Lit.int .i64 n).wf = true) :
    Calls Try.prog 9 #[.slice a0 l0.length c0, .slice a1 l1.length c1, .int .i64 n] w fun e w' => e = .returned (.bool true) ∧ Below w.heap.size w w' := by
  have HB := Lib.hid (bounds_i64 wn)
  have H0 := Lib.hid h0
  have H1 := Lib.hid h1
  clear h0 h1 wn
  have hcase : 0 ≤ n ∨ n < 0 := by omega
  rcases hcase with hn | hn
  all_goals
    go_enter Try.func9, Try.ntmps9
    go_wp2_with fail
    refine (begun3_calls _).mono ?_
    rintro e x1 ⟨rfl, hb⟩
    have B1 := Lib.hid hb
    have S0 := Lib.hid (H0.out.belowAll hb)
    have S1 := Lib.hid (H1.out.belowAll hb)
    clear hb
    go_wp2_with fail
    refine (short_its a0 c0 60 l0 _ S0.out (by omega)).mono ?_
    rintro e x2 ⟨ao, co, la, rfl, hs, hb, hla, -⟩
    have T0 := Lib.hid hs
    have B2 := Lib.hid (B1.out.trans (hb.mono B1.out.size))
    have S1' := Lib.hid (S1.out.belowAll hb)
    clear hs hb S0 S1
    go_wp2_with fail
    refine (short_its a1 c1 60 l1 _ S1'.out (by omega)).mono ?_
    rintro e x3 ⟨ap, cp, lb, rfl, hs, hb, hlb, -⟩
    have T1 := Lib.hid hs
    have T0' := Lib.hid (T0.out.belowAll hb)
    have B3 := Lib.hid (B2.out.trans (hb.mono B2.out.size))
    clear hs hb S1' T0 B1 B2 H0 H1
    go_wp2_with fail
    refine (dk_new 1000 _).mono ?_
    rintro e x4 ⟨rfl, hd⟩
    obtain ⟨b, hbb⟩ : ∃ b, b = x3.heap.size := ⟨_, rfl⟩
    rw [← hbb] at hd ⊢
    have D4 := Lib.hid hd
    clear hd hbb
    go_wp2_with fail
    have hr : roomOf 1000 = 1000 := by decide
    refine (dk_append (n := nF) (A := []) (B := []) (g := ⟨nF, [], 0, false⟩) (bs := la) D4.out (.inr ⟨rfl, rfl, rfl, by simp⟩) (by decide) T0'.out (by rw [hr]; simp [tot]; omega)).mono ?_
    rintro e x5 ⟨rfl, hd⟩
    have D5 := Lib.hid (show Dk x3 x5 b (roomOf 1000) ([] ++ Fm.mk nF la 0 false :: []) from hd)
    clear hd D4
    go_wp2_with fail
    refine (dk_sync D5.out).mono ?_
    rintro e x6 ⟨rfl, hd⟩
    have D6 := Lib.hid (show Dk x3 x6 b (roomOf 1000) ([] ++ Fm.mk nF la la.length true :: []) from hd)
    clear hd D5
    go_wp2_with fail
    refine (dk_append (n := nF) (A := []) (B := []) (g := Fm.mk nF la la.length true) (bs := lb) D6.out (.inl ⟨rfl, rfl⟩) (by decide) T1.out (by rw [hr]; simp [tot]; omega)).mono ?_
    rintro e x7 ⟨rfl, hd⟩
    have D7 := Lib.hid (show Dk x3 x7 b (roomOf 1000) ([] ++ Fm.mk nF (la ++ lb) la.length true :: []) from hd)
    clear hd D6 hr
    go_wp2_with fail
    refine (dk_fall n HB.out D7.out (by simp)).mono ?_
    rintro e x8 ⟨bb, rfl, hd7, hd, -⟩
    have D7' := Lib.hid hd7
    rw [List.nil_append, fall_front] at hd
    obtain ⟨st, hst⟩ : ∃ st, st = la ++ lb.take (moreOf n lb.length) := ⟨_, rfl⟩
    rw [← hst] at hd
    have D8 := Lib.hid hd
    have ST := Lib.hid hst
    clear hd hd7 D7 hst
    go_wp2_with fail
    refine (dk_read D8.out).mono ?_
    rintro e x9 ⟨aq, cq, rfl, hs, -, hb⟩
    have Q := Lib.hid hs
    have D9 := Lib.hid (D7'.out.below hb)
    clear hs hb D8 D7'
  · have hk := moreOf_pos n lb.length hn
    have hk2 := (moreOf_is n lb.length).2
    generalize moreOf n lb.length = k at *
    have HK := Lib.hid hk
    clear hk
    go_wp2_with fail
    rw [← HK.out]
    have hsl1 := (D9.out.sl T1.out)
    have hsl0 := (D9.out.sl T0'.out)
    have hcap := hsl1.le
    unfold maxLen at hcap
    have q1 : ∀ nq, (convert 30 9 (.slice aq st.length cq)).run Try.prog (x9.drewN nq) = .ok (.string ⟨st.toArray⟩) (x9.drewN nq) := fun nq => conv_sl (w := x9.drewN nq) (Q.out.turn (Turn.drewN [] x9 nq) (by simp)) rfl
    have q2 : ∀ nq, (convert 30 9 (.slice ao la.length co)).run Try.prog (x9.drewN nq) = .ok (.string ⟨la.toArray⟩) (x9.drewN nq) := fun nq => conv_sl (w := x9.drewN nq) (hsl0.turn (Turn.drewN [] x9 nq) (by simp)) rfl
    obtain ⟨lk, hlk⟩ : ∃ lk, lk = lb.take k := ⟨_, rfl⟩
    have hlkn : k = lk.length := by rw [hlk, List.length_take]; omega
    have q3 : ∀ nq, (convert 30 9 (.slice ap k cp)).run Try.prog (x9.drewN nq) = .ok (.string ⟨lk.toArray⟩) (x9.drewN nq) := fun nq => conv_sl (w := x9.drewN nq) (l := lk) (by rw [hlk]; exact (Sl.take hsl1 k).turn (Turn.drewN [] x9 nq) (by simp)) hlkn
    have hlk60 : lk.length ≤ 60 := by omega
    have hst2 : ((⟨la.toArray⟩ : ByteArray) ++ ⟨lk.toArray⟩).toList = st := by rw [two_texts, ST.out, hlk]
    have b1 : (k : Int) ≤ (cp : Int) := by omega
    have b2 : la.length + lk.length ≤ 9223372036854775807 := by omega
    have Q4 := Lib.hid (fun nq => dk_sure (D9.out.turn (Turn.drewN [] x9 nq)))
    clear hsl1 hsl0 hlk hlkn hk2
    go_quiet ((go_at_call 32; exact Calls.quiet_of_same ((Q4.out _).mono fun _ _ h => ⟨h.1, h.2.symm⟩)))
    go_wp2
    go_ret
    exact ⟨rfl, B3.out.trans ((D9.out.turn (Turn.drewN [] x9 nq)).old.mono B3.out.size)⟩
  · have hk := moreOf_neg n lb.length hn
    rw [hk, List.take_zero, List.append_nil] at ST
    have hst := ST.out
    subst hst
    clear hk ST
    go_wp2_with fail
    have hsl1 := (D9.out.sl T1.out)
    have hsl0 := (D9.out.sl T0'.out)
    have q1 : ∀ nq, (convert 30 9 (.slice aq st.length cq)).run Try.prog (x9.drewN nq) = .ok (.string ⟨st.toArray⟩) (x9.drewN nq) := fun nq => conv_sl (w := x9.drewN nq) (Q.out.turn (Turn.drewN [] x9 nq) (by simp)) rfl
    have q2 : ∀ nq, (convert 30 9 (.slice ao st.length co)).run Try.prog (x9.drewN nq) = .ok (.string ⟨st.toArray⟩) (x9.drewN nq) := fun nq => conv_sl (w := x9.drewN nq) (hsl0.turn (Turn.drewN [] x9 nq) (by simp)) rfl
    have q3 : ∀ nq, (convert 30 9 (.slice ap 0 cp)).run Try.prog (x9.drewN nq) = .ok (.string ⟨#[]⟩) (x9.drewN nq) := fun nq => conv_sl (w := x9.drewN nq) (l := []) ((Sl.take hsl1 0).turn (Turn.drewN [] x9 nq) (by simp)) rfl
    have hst2 : ((⟨st.toArray⟩ : ByteArray) ++ ⟨#[]⟩).toList = st := by rw [two_texts st [], List.append_nil]
    have b2 : st.length + 0 ≤ 9223372036854775807 := by omega
    have Q4 := Lib.hid (fun nq => dk_sure (D9.out.turn (Turn.drewN [] x9 nq)))
    clear hsl1 hsl0
    go_quiet ((go_at_call 32; exact Calls.quiet_of_same ((Q4.out _).mono fun _ _ h => ⟨h.1, h.2.symm⟩)))
    go_wp2
    go_ret
    exact ⟨rfl, B3.out.trans ((D9.out.turn (Turn.drewN [] x9 nq)).old.mono B3.out.size)⟩

end Go.Proofs.Ytlcilbbgfilefaa
