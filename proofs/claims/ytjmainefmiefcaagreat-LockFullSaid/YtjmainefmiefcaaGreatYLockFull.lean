/-
  Of the texts LockFullWalk LockFull, in build order, each as it was built alone.
-/
import Derived.Test.YtjmainefmiefcaaGreatPkAC
import Derived.Test.YtjmainefmiefcaaGreatPkAD
import Derived.Lib.MinMax
import Derived.Test.YtjmainefmiefcaaGreatRows
import Derived.Test.YtjmainefmiefcaaGreatPkAH
import Derived.ProofKit
import Derived.OpenShut
import Derived.ShutString
import Derived.ChangeOld
import Derived.Below

/-
  The walk of the law LockFull.
-/
namespace Go.Proofs.YtjmainefmiefcaaGreat
open Go.RowKit

abbrev nQ1 : ByteArray := ⟨#[113]⟩
abbrev nE1 : ByteArray := ⟨#[]⟩

set_option maxHeartbeats 8000000 in
set_option maxRecDepth 100000 in
theorem lockFull_walk (hbg : BegunOk) {w : World} (ao : Option Addr) (cap : Nat) (l : List Bool) (hl : Bl w ao cap l) : Calls Tryz.prog 8 #[.slice ao l.length cap] w fun e w' => e = .returned (.bool true) ∧ Below w.heap.size w w' := by
  have HL := Lib.hid hl
  have hlen := hl.len
  obtain ⟨n, hn⟩ : ∃ n, n = l.length := ⟨_, rfl⟩
  have HN := Lib.hid hn
  rw [← hn] at hlen ⊢
  clear hl hn
  go_enter Tryz.func8, Tryz.ntmps8
  go_wp2_with fail
  refine (hbg w).mono ?_
  rintro e w1 ⟨rfl, b1⟩
  have B1 := Lib.hid b1
  clear b1
  go_wp2_with fail
  refine (lw_new B1.out).mono ?_
  rintro e w2 ⟨b, rfl, h2⟩
  have O2 := Lib.hid h2
  clear h2 B1
  go_wp2_with fail
  go_loopw [5, 6, 7] (fun vp vi _ wx => ∃ (k nm : Nat) (P : Pts) (Q : List Gq), k ≤ n ∧ nm ≤ k ∧ vi = .int .i64 (k : Int) ∧ vp = .int .i64 (P.length : Int) ∧ (P.length ≤ k ∧ P.length ≤ 10 ∧ k ≤ 15) ∧ Qat [] [] 9 (min ((k : Nat) : Int) 10) P Q ∧ Lw w wx b nm 0 Q) (fun _ vi _ _ => 16 - (intOf vi).toNat)
  case atStart => exact ⟨0, 0, [], [], by omega, by omega, rfl, rfl, by simp, .inl ⟨rfl, by omega, rfl, by simp⟩, O2.out⟩
  case round =>
    obtain ⟨k, nm, P, Q, hk, hnm, rfl, rfl, hp, hQ, ho⟩ := hrel
    have HNB := Lib.hid hnm
    have O := Lib.hid ho
    have HQ := Lib.hid hQ
    clear ho O2 hQ
    by_cases hkn : k < n ∧ k < 15
    · have hkl : k < l.length := by rw [← HN.out]; exact hkn.1
      obtain ⟨bq, off, hao, -, hat⟩ := (HL.out.below O.out.bel).at (by intro e; rw [e] at hkl; simp at hkl)
      have hc := hat k hkl
      obtain ⟨kd, hkd⟩ : ∃ x, x = l.getD k false := ⟨_, rfl⟩
      rw [← hkd] at hc
      subst hao
      clear hat hkd hkl
      obtain ⟨hk1, hk2⟩ := hkn
      have hi15 : (k : Int) < 15 := by omega
      have HP := Lib.hid (And.intro hp.1 (And.intro hp.2.1 hk2))
      clear hp hk2 hk hnm
      have hb : 0 ≤ (k : Int) ∧ (k : Int) < (n : Int) := by omega
      have HKN := Lib.hid hk1
      clear hk1
      cases kd with
      | true =>
       by_cases h10 : (k : Int) < 10
       · have hn10 : min ((k : Nat) : Int) 10 = (k : Int) := by omega
         rw [hn10] at HQ
         have H10 := Lib.hid h10
         clear hn10 h10
         go_upto_region 11 with fail
         clear hi15 hb hc
         generalize hi : (k : Int) = i at *
         have HI := Lib.hid hi
         clear hi
         have hpl : (P.length : Int) + 1 ≤ 11 := by have := HP.out; omega
         go_wp2_with fail
         refine (lw_put O.out HQ.out (by unfold inI64; omega) no_q.1 no_q.2 (by have := H10.out; omega) (by have := HP.out; have := H10.out; have := HI.out; omega) (by have := HNB.out; have := HP.out; omega) nQ1 nE1 (by decide) (by decide)).mono ?_
         rintro e w5 ⟨rfl, h5⟩
         have O5 := Lib.hid h5
         have Q5 : Hid (Qat [] [] 9 (i + 1) (P ++ [(nQ1, nE1)]) ([] ++ ⟨9, i + 1, P ++ [(nQ1, nE1)], 0⟩ :: [])) := Lib.hid (.inr ⟨0, rfl⟩)
         have h10 := H10.out
         have hm1 : min (i + 1) 10 = i + 1 := by omega
         have hi0 : 0 ≤ i ∧ i ≤ 15 := by have := HI.out; have := HP.out; omega
         clear h5 O
         go_wp2_with fail
         refine (lw_n O5.out Q5.out (by unfold inI64; omega) no_q.1 no_q.2).mono ?_
         rintro e w6 ⟨rfl, t6⟩
         have O6 := Lib.hid (O5.out.quiet t6)
         clear t6 O5
         go_wp2_with fail
         refine (lw_puts O6.out Q5.out (by unfold inI64; omega) no_q.1 no_q.2).mono ?_
         rintro e w7 ⟨ao7, c7, rfl, -, t7⟩
         have O7 := Lib.hid (O6.out.quiet t7)
         clear t7 O6
         rw [show (P ++ [(nQ1, nE1)]).length = P.length + 1 by simp]
         go_wp2_with fail
         go_roundw
         case rel => exact ⟨k + 1, nm + 1, P ++ [(nQ1, nE1)], _, by have := HKN.out; omega, by have := HNB.out; omega, by rw [← HI.out]; go_num, by rw [List.length_append]; go_num, by have := HP.out; have := HI.out; rw [List.length_append, List.length_singleton]; omega, (by rw [show min (((k + 1 : Nat)) : Int) 10 = i + 1 by have := HI.out; have := H10.out; omega]; exact Q5.out), O7.out⟩
         case measure => have := HI.out; have := HP.out; simp [intOf]; omega
       · have hn10 : min ((k : Nat) : Int) 10 = 10 := by omega
         rw [hn10] at HQ
         have H10 := Lib.hid h10
         clear hn10 h10
         go_upto_region 11 with fail
         clear hi15 hb hc
         generalize hi : (k : Int) = i at *
         have HI := Lib.hid hi
         clear hi
         go_wp2_with fail
         refine (lw_put_full O.out HQ.out (by unfold inI64; omega) no_q.1 no_q.2 nQ1 nE1).mono ?_
         rintro e w5 ⟨rfl, h5⟩
         have O5 := Lib.hid h5
         have Q5 := HQ
         have h10 := H10.out
         have hm1 : min (i + 1) 10 = 10 := by omega
         have hi0 : 0 ≤ i ∧ i ≤ 15 := by have := HI.out; have := HP.out; omega
         clear h5 O
         go_wp2_with fail
         refine (lw_n O5.out Q5.out (by unfold inI64; omega) no_q.1 no_q.2).mono ?_
         rintro e w6 ⟨rfl, t6⟩
         have O6 := Lib.hid (O5.out.quiet t6)
         clear t6 O5
         go_wp2_with fail
         refine (lw_puts O6.out Q5.out (by unfold inI64; omega) no_q.1 no_q.2).mono ?_
         rintro e w7 ⟨ao7, c7, rfl, -, t7⟩
         have O7 := Lib.hid (O6.out.quiet t7)
         clear t7 O6
         go_wp2_with fail
         go_roundw
         case rel => exact ⟨k + 1, nm, P, Q, by have := HKN.out; omega, by have := HNB.out; omega, by rw [← HI.out]; go_num, rfl, by have := HP.out; have := HI.out; omega, (by rw [show min (((k + 1 : Nat)) : Int) 10 = 10 by have := HI.out; have := H10.out; omega]; exact Q5.out), O7.out⟩
         case measure => have := HI.out; have := HP.out; simp [intOf]; omega
      | false =>
       by_cases h10 : (k : Int) < 10
       · have hn10 : min ((k : Nat) : Int) 10 = (k : Int) := by omega
         rw [hn10] at HQ
         have H10 := Lib.hid h10
         clear hn10 h10
         go_upto_region 14 with fail
         clear hi15 hb hc
         generalize hi : (k : Int) = i at *
         have HI := Lib.hid hi
         clear hi
         go_wp2_with fail
         refine (lw_took O.out HQ.out (by unfold inI64; omega) no_q.1 no_q.2 (by have := H10.out; omega) (by have := HP.out; omega) (by have := HNB.out; have := HP.out; omega)).mono ?_
         rintro e w5 ⟨rfl, h5⟩
         have O5 := Lib.hid h5
         have Q5 : Hid (Qat [] [] 9 (i + 1) (P) ([] ++ ⟨9, i + 1, P, 0⟩ :: [])) := Lib.hid (.inr ⟨0, rfl⟩)
         have h10 := H10.out
         have hm1 : min (i + 1) 10 = i + 1 := by omega
         have hi0 : 0 ≤ i ∧ i ≤ 15 := by have := HI.out; have := HP.out; omega
         clear h5 O
         go_wp2_with fail
         refine (lw_n O5.out Q5.out (by unfold inI64; omega) no_q.1 no_q.2).mono ?_
         rintro e w6 ⟨rfl, t6⟩
         have O6 := Lib.hid (O5.out.quiet t6)
         clear t6 O5
         go_wp2_with fail
         refine (lw_puts O6.out Q5.out (by unfold inI64; omega) no_q.1 no_q.2).mono ?_
         rintro e w7 ⟨ao7, c7, rfl, -, t7⟩
         have O7 := Lib.hid (O6.out.quiet t7)
         clear t7 O6
         go_wp2_with fail
         go_roundw
         case rel => exact ⟨k + 1, nm + 1, P, _, by have := HKN.out; omega, by have := HNB.out; omega, by rw [← HI.out]; go_num, rfl, by have := HP.out; have := HI.out; omega, (by rw [show min (((k + 1 : Nat)) : Int) 10 = i + 1 by have := HI.out; have := H10.out; omega]; exact Q5.out), O7.out⟩
         case measure => have := HI.out; have := HP.out; simp [intOf]; omega
       · have hn10 : min ((k : Nat) : Int) 10 = 10 := by omega
         rw [hn10] at HQ
         have H10 := Lib.hid h10
         clear hn10 h10
         go_upto_region 14 with fail
         clear hi15 hb hc
         generalize hi : (k : Int) = i at *
         have HI := Lib.hid hi
         clear hi
         go_wp2_with fail
         refine (lw_took_full O.out HQ.out (by unfold inI64; omega) no_q.1 no_q.2).mono ?_
         rintro e w5 ⟨rfl, h5⟩
         have O5 := Lib.hid h5
         have Q5 := HQ
         have h10 := H10.out
         have hm1 : min (i + 1) 10 = 10 := by omega
         have hi0 : 0 ≤ i ∧ i ≤ 15 := by have := HI.out; have := HP.out; omega
         clear h5 O
         go_wp2_with fail
         refine (lw_n O5.out Q5.out (by unfold inI64; omega) no_q.1 no_q.2).mono ?_
         rintro e w6 ⟨rfl, t6⟩
         have O6 := Lib.hid (O5.out.quiet t6)
         clear t6 O5
         go_wp2_with fail
         refine (lw_puts O6.out Q5.out (by unfold inI64; omega) no_q.1 no_q.2).mono ?_
         rintro e w7 ⟨ao7, c7, rfl, -, t7⟩
         have O7 := Lib.hid (O6.out.quiet t7)
         clear t7 O6
         go_wp2_with fail
         go_roundw
         case rel => exact ⟨k + 1, nm, P, Q, by have := HKN.out; omega, by have := HNB.out; omega, by rw [← HI.out]; go_num, rfl, by have := HP.out; have := HI.out; omega, (by rw [show min (((k + 1 : Nat)) : Int) 10 = 10 by have := HI.out; have := H10.out; omega]; exact Q5.out), O7.out⟩
         case measure => have := HI.out; have := HP.out; simp [intOf]; omega
    · by_cases hk15 : k < n
      · have h1 : ¬ (k : Int) < 15 := by omega
        go_wp2
        go_ret
        exact ⟨rfl, O.out.bel⟩
      · have h1 : ¬ (k : Int) < (n : Int) := by omega
        go_wp2
        go_ret
        exact ⟨rfl, O.out.bel⟩

end Go.Proofs.YtjmainefmiefcaaGreat


/-
  The law 'postillionlaw13.LockFull' answers true at every input, and each argument reads behind the call as it read before: for every input, no condition; the frame round the walk 'lockFull_walk'.
-/
namespace Go.Proofs.YtjmainefmiefcaaGreat.lockFull
open Go.ChangeShapes Go.WideShapes Go.ChangeAt Go.RowKit
open Go.ChangeMaps (open_string shut_string)
set_option linter.unusedVariables false

theorem own : ownKnob Tryz.prog.godebug = none := by kernel_rfl
theorem laidOut : laidOutB Tryz.prog = true := by kernel_rfl

set_option maxRecDepth 100000 in
theorem lifted (os : Os) (started : os.Started) (H : Type) (enc : TypeId × Value → H) :
    ReturnsInHanded {} Tryz.checked os 8 .any (Rows.lockFullSpec.pre6 enc Tryz.prog Tryz.f8 Rows.lockFullRow.domain false) (Rows.lockFullSpec.post enc Tryz.prog Tryz.f8 false true false false) := by
  refine returnsInHanded_of_change (C := Tryz.checked) own started (by kernel_rfl) Tryz.func8
    (ChangeSpec.witness6 (enc := enc) (C := Tryz.checked) false ⟨#[], #[.slice none 0 0], []⟩ 8 (by kernel_rfl) (by kernel_rfl) (by kernel_rfl) (by kernel_rfl)) ?_
  intro W base args ds gs before hval0 hW hcnd _
  have hval : ∀ (j : Nat) t v, Tryz.f8.params[j]? = some t → args[j]? = some v → Value.okWide Tryz.prog W .any base t v := hval0
  have hW' := hW
  obtain ⟨p, q, hA0, hV, rfl, hfz, hnd⟩ := hW
  have hA : DataW.TrodAll enc Tryz.prog W 0 (fun _ => true) true Tryz.f8.params.toList args.toList ds p := hA0
  rw [Tryz.params8] at hA hval
  obtain ⟨v0, vs0, d0, ds0, p0, q0, hargs, rfl, rfl, h0, r0⟩ := trodAll_cons hA
  obtain ⟨rfl, rfl, rfl⟩ := trodAll_nil r0
  obtain rfl : args = #[v0] := by cases args; simp_all
  obtain ⟨rfl, rfl⟩ := trodVars_none hV
  obtain ⟨a0, len0, cap0, rfl⟩ := okWide_slice Tryz.underlying60 (hval 0 60 v0 rfl rfl)
  have k0 := h0
  have lt0 : ∀ x ∈ p0, x.block < W.heap.size := by obtain ⟨m, hm⟩ := k0; exact DataW.trod_lt m _ _ _ hm
  obtain ⟨l0, rfl, w0⟩ := open_truths h0
  clear hA0 hval0
  refine (lockFull_walk begun13_ok (w := W) a0 cap0 l0 w0).mono fun e W' ⟨he, bel⟩ => ?_
  subst he
  exact ⟨_, rfl, _, _, _, [], _, [], hW', trodAll_mk1 (shut_bool Tryz.underlying4 _), (trodAll_cons_mk (Below.trod laidOut (by kernel_rfl) (of_decide_eq_true (by kernel_rfl)) k0 bel lt0) trodAll_mk0), rfl, bel.frame _, fun h => by cases h⟩

theorem over : Rows.lockFullRow.holds Tryz.pinned (OpenSpec.ofChange Rows.lockFullSpec) :=
  OpenClaim.holds_of_wide 8 Tryz.f8 rfl rfl rfl rfl rfl rfl rfl ⟨rfl, rfl, rfl, rfl, rfl⟩ rfl rfl rfl rfl rfl (by kernel_rfl) Tryz.func8 (by kernel_rfl)
    (of_decide_eq_true (by kernel_rfl)) (by unfold Func.isWrapper; first | (rw [if_pos (by decide +kernel)]; kernel_rfl) | (rw [if_neg (by decide +kernel)]; exact ⟨rfl, rfl⟩))
    (fun os started H enc _ => lifted os started H enc)

/-- The statement. -/
theorem proved : Rows.LockFullSaid := over
end Go.Proofs.YtjmainefmiefcaaGreat.lockFull
