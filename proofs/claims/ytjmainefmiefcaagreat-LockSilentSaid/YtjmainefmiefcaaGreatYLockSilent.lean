/-
  Of the texts LockSilentWalk LockSilent, in build order, each as it was built alone.
-/
import Derived.Test.YtjmainefmiefcaaGreatPkAC
import Derived.Test.YtjmainefmiefcaaGreatRows
import Derived.Test.YtjmainefmiefcaaGreatPkAD
import Derived.Test.YtjmainefmiefcaaGreatPkAH
import Derived.ProofKit
import Derived.OpenShut
import Derived.ShutString
import Derived.ChangeOld
import Derived.Below

/-
  The walk of the law LockSilent.
-/
namespace Go.Proofs.YtjmainefmiefcaaGreat
open Go.RowKit

set_option maxHeartbeats 4000000 in
set_option maxRecDepth 100000 in
theorem lockSilent_walk (hbg : BegunOk) {w : World} (n : Int) (_hn : (Lit.int .i64 n).wf = true) (wd : Int) (_hw : (Lit.int .i64 wd).wf = true) : Calls Tryz.prog 9 #[.int .i64 n, .int .i64 wd] w fun e w' => e = .returned (.bool true) ∧ Below w.heap.size w w' := by
  go_enter Tryz.func9, Tryz.ntmps9
  go_wp2_with fail
  refine (hbg w).mono ?_
  rintro e w1 ⟨rfl, b1⟩
  have B1 := Lib.hid b1
  clear b1
  by_cases hlt : n < 0
  · go_wp2
    go_ret
    exact ⟨rfl, B1.out⟩
  by_cases hgt : 20 < n
  · go_wp2
    go_ret
    exact ⟨rfl, B1.out⟩
  go_wp2_with fail
  refine (lw_new B1.out).mono ?_
  rintro e w2 ⟨b, rfl, h2⟩
  have O2 := Lib.hid h2
  clear h2 B1
  go_wp2_with fail
  refine (lw_took O2.out (one_nil 4) (by unfold inI64; omega) no_q.1 no_q.2 (by omega) (by simp) (by omega)).mono ?_
  rintro e w3 ⟨rfl, h3⟩
  have O3 : Hid (Lw w w3 b 1 ((0 : Nat) : Int) [⟨4, 1, [], ((0 : Nat) : Int)⟩]) := Lib.hid h3
  clear h3 O2
  go_wp2_with fail
  go_loopw [7, 8, 9] (fun vs vi _ wx => ∃ (k h : Nat), (k : Int) ≤ n ∧ h ≤ k ∧ vi = .int .i64 (k : Int) ∧ vs = .int .i64 ((k : Int) - (h : Int)) ∧ Lw w wx b 1 (k : Int) [⟨4, 1, [], (h : Int)⟩]) (fun _ vi _ _ => 31 - (intOf vi).toNat)
  case atStart => exact ⟨0, 0, by omega, by omega, rfl, rfl, O3.out⟩
  case round =>
    obtain ⟨k, h, hk, hh, rfl, rfl, ho⟩ := hrel
    have O := Lib.hid ho
    clear ho O3
    by_cases hkn : (k : Int) < n
    · by_cases hw : (k : Int) = wd
      · go_wp2_with fail
        refine (lw_touch (A := []) (B := []) (q := ⟨4, 1, [], (h : Int)⟩) O.out no_q.1 no_q.2).mono ?_
        rintro e w5 ⟨rfl, h5⟩
        have O5 : Hid (Lw w w5 b 1 (k : Int) [⟨4, 1, [], (k : Int)⟩]) := Lib.hid h5
        clear h5 O
        go_wp2_with fail
        refine (lw_tick O5.out (by omega)).mono ?_
        rintro e w6 ⟨ao, c, rfl, -, h6⟩
        have O6 := Lib.hid h6
        rw [sil_one, if_neg (by omega)]
        clear h6 O5
        go_wp2_with fail
        go_roundw
        case rel => exact ⟨k + 1, k, by omega, by omega, by go_num, by go_num, by rw [Int.natCast_succ]; exact O6.out⟩
        case measure => simp [intOf]; omega
      · go_wp2_with fail
        refine (lw_tick O.out (by omega)).mono ?_
        rintro e w6 ⟨ao, c, rfl, -, h6⟩
        have O6 := Lib.hid h6
        clear h6 O
        by_cases h6 : 6 ≤ (k : Int) + 1 - (h : Int)
        · rw [sil_one, if_pos h6]
          have h7 : 6 ≤ (k : Int) - (h : Int) + 1 := by omega
          go_wp2_with fail
          go_roundw
          case rel => exact ⟨k + 1, h, by omega, by omega, by go_num, by go_num, by rw [Int.natCast_succ]; exact O6.out⟩
          case measure => simp [intOf]; omega
        · rw [sil_one, if_neg h6]
          have h7 : ¬ 6 ≤ (k : Int) - (h : Int) + 1 := by omega
          go_wp2_with fail
          go_roundw
          case rel => exact ⟨k + 1, h, by omega, by omega, by go_num, by go_num, by rw [Int.natCast_succ]; exact O6.out⟩
          case measure => simp [intOf]; omega
    · go_wp2_with fail
      refine (lw_n O.out (one_is 4 1 [] (h : Int)) (by unfold inI64; omega) no_q.1 no_q.2).mono ?_
      rintro e w7 ⟨rfl, t7⟩
      have B7 := Lib.hid (O.out.quiet t7).bel
      clear t7 O
      go_wp2
      go_ret
      exact ⟨rfl, B7.out⟩

end Go.Proofs.YtjmainefmiefcaaGreat


/-
  The law 'postillionlaw13.LockSilent' answers true at every input, and each argument reads behind the call as it read before: for every input, no condition; the frame round the walk 'lockSilent_walk'.
-/
namespace Go.Proofs.YtjmainefmiefcaaGreat.lockSilent
open Go.ChangeShapes Go.WideShapes Go.ChangeAt Go.RowKit
open Go.ChangeMaps (open_string shut_string)
set_option linter.unusedVariables false

theorem own : ownKnob Tryz.prog.godebug = none := by kernel_rfl
theorem laidOut : laidOutB Tryz.prog = true := by kernel_rfl

set_option maxRecDepth 100000 in
theorem lifted (os : Os) (started : os.Started) (H : Type) (enc : TypeId × Value → H) :
    ReturnsInHanded {} Tryz.checked os 9 .any (Rows.lockSilentSpec.pre6 enc Tryz.prog Tryz.f9 Rows.lockSilentRow.domain false) (Rows.lockSilentSpec.post enc Tryz.prog Tryz.f9 false true false false) := by
  refine returnsInHanded_of_change (C := Tryz.checked) own started (by kernel_rfl) Tryz.func9
    (ChangeSpec.witness6 (enc := enc) (C := Tryz.checked) false ⟨#[], #[.int .i64 0, .int .i64 0], []⟩ 8 (by kernel_rfl) (by kernel_rfl) (by kernel_rfl) (by kernel_rfl)) ?_
  intro W base args ds gs before hval0 hW hcnd _
  have hval : ∀ (j : Nat) t v, Tryz.f9.params[j]? = some t → args[j]? = some v → Value.okWide Tryz.prog W .any base t v := hval0
  have hW' := hW
  obtain ⟨p, q, hA0, hV, rfl, hfz, hnd⟩ := hW
  have hA : DataW.TrodAll enc Tryz.prog W 0 (fun _ => true) true Tryz.f9.params.toList args.toList ds p := hA0
  rw [Tryz.params9] at hA hval
  obtain ⟨v0, vs0, d0, ds0, p0, q0, hargs, rfl, rfl, h0, r0⟩ := trodAll_cons hA
  obtain ⟨v1, vs1, d1, ds1, p1, q1, rfl, rfl, rfl, h1, r1⟩ := trodAll_cons r0
  obtain ⟨rfl, rfl, rfl⟩ := trodAll_nil r1
  obtain rfl : args = #[v0, v1] := by cases args; simp_all
  obtain ⟨rfl, rfl⟩ := trodVars_none hV
  obtain ⟨a0, rfl, rfl, rfl, w0⟩ := open_int Tryz.underlying3 (hval 0 3 v0 rfl rfl) h0
  obtain ⟨a1, rfl, rfl, rfl, w1⟩ := open_int Tryz.underlying3 (hval 1 3 v1 rfl rfl) h1
  clear hA0 hval0
  refine (lockSilent_walk begun13_ok (w := W) a0 w0 a1 w1).mono fun e W' ⟨he, bel⟩ => ?_
  subst he
  exact ⟨_, rfl, _, _, _, [], _, [], hW', trodAll_mk1 (shut_bool Tryz.underlying4 _), (trodAll_cons_mk (shut_int Tryz.underlying3 w0) (trodAll_cons_mk (shut_int Tryz.underlying3 w1) trodAll_mk0)), rfl, bel.frame _, fun h => by cases h⟩

theorem over : Rows.lockSilentRow.holds Tryz.pinned (OpenSpec.ofChange Rows.lockSilentSpec) :=
  OpenClaim.holds_of_wide 9 Tryz.f9 rfl rfl rfl rfl rfl rfl rfl ⟨rfl, rfl, rfl, rfl, rfl⟩ rfl rfl rfl rfl rfl (by kernel_rfl) Tryz.func9 (by kernel_rfl)
    (of_decide_eq_true (by kernel_rfl)) (by unfold Func.isWrapper; first | (rw [if_pos (by decide +kernel)]; kernel_rfl) | (rw [if_neg (by decide +kernel)]; exact ⟨rfl, rfl⟩))
    (fun os started H enc _ => lifted os started H enc)

/-- The statement. -/
theorem proved : Rows.LockSilentSaid := over
end Go.Proofs.YtjmainefmiefcaaGreat.lockSilent
