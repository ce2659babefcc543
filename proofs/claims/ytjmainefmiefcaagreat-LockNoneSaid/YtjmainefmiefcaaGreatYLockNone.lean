/-
  Of the texts LockNoneWalk LockNone, in build order, each as it was built alone.
-/
import Derived.Test.YtjmainefmiefcaaGreatPkAD
import Derived.Test.YtjmainefmiefcaaGreatRows
import Derived.Test.YtjmainefmiefcaaGreatPkAH
import Derived.ProofKit
import Derived.OpenShut
import Derived.ShutString
import Derived.ChangeOld
import Derived.Below

/-
  The walk of the law LockNone, over the contracts of a Sessions.
-/
namespace Go.Proofs.YtjmainefmiefcaaGreat
open Go.RowKit

variable {Ses : World → List Nat → Nat → Int → Nat → Int → Nat → List Sq → Prop}

theorem bel_more {w wr w' : World} (h : Hid (Below w.heap.size w wr)) (t : Turn [] wr w') : Below w.heap.size w w' := h.out.trans (t.belowAll.mono h.out.size)

set_option maxHeartbeats 4000000 in
set_option maxRecDepth 100000 in
theorem lockNone_walk (F : SF Ses) (hbg : BegunOk) {w : World} : Calls Tryz.prog 7 #[] w fun e w' => e = .returned (.bool true) ∧ Below w.heap.size w w' := by
  have O1 : inI64 1 := by unfold inI64; omega
  have B := Lib.hid (Turn.refl [] w).belowAll
  go_enter Tryz.func7, Tryz.ntmps7
  go_wp2_with fail
  refine (F.open_nil _).mono ?_
  rintro e w1 ⟨rfl, t⟩
  have B := Lib.hid (bel_more B t)
  clear t
  go_wp2_with fail
  refine (F.close_nil _ _ O1).mono ?_
  rintro e w1 ⟨rfl, t⟩
  have B := Lib.hid (bel_more B t)
  clear t
  go_wp2_with fail
  refine (hbg _).mono ?_
  rintro e w1 ⟨rfl, t⟩
  have B := Lib.hid (B.out.trans (t.mono B.out.size))
  clear t
  go_wp2_with fail
  refine (put_nil _ _ _ _).mono ?_
  rintro e w1 ⟨rfl, t⟩
  have B := Lib.hid (bel_more B t)
  clear t
  go_wp2_with fail
  refine (took_nil _ _).mono ?_
  rintro e w1 ⟨rfl, t⟩
  have B := Lib.hid (bel_more B t)
  clear t
  go_wp2_with fail
  refine (touch_nil _ _).mono ?_
  rintro e w1 ⟨rfl, t⟩
  have B := Lib.hid (bel_more B t)
  clear t
  go_wp2_with fail
  refine (n_nil _ _).mono ?_
  rintro e w1 ⟨rfl, t⟩
  have B := Lib.hid (bel_more B t)
  clear t
  go_wp2_with fail
  refine (puts_nil _ _).mono ?_
  rintro e w1 ⟨ao, c, rfl, t⟩
  have B := Lib.hid (bel_more B t)
  clear t
  go_wp2_with fail
  refine (lall_nil _).mono ?_
  rintro e w1 ⟨rfl, t⟩
  have B := Lib.hid (bel_more B t)
  clear t
  go_wp2_with fail
  refine (tids_nil _).mono ?_
  rintro e w1 ⟨rfl, t⟩
  have B := Lib.hid (bel_more B t)
  clear t
  go_wp2_with fail
  refine (drop_nil _ _).mono ?_
  rintro e w1 ⟨rfl, t⟩
  have B := Lib.hid (bel_more B t)
  clear t
  go_wp2_with fail
  refine (ltick_nil _).mono ?_
  rintro e w1 ⟨rfl, t⟩
  have B := Lib.hid (bel_more B t)
  clear t
  go_wp2_with fail
  refine (F.touch_nil _ _ O1).mono ?_
  rintro e w1 ⟨rfl, t⟩
  have B := Lib.hid (bel_more B t)
  clear t
  go_wp2_with fail
  refine (F.bind_nil _ _ _ O1 O1).mono ?_
  rintro e w1 ⟨rfl, t⟩
  have B := Lib.hid (bel_more B t)
  clear t
  go_wp2_with fail
  refine (F.tid_nil _ _ O1).mono ?_
  rintro e w1 ⟨rfl, t⟩
  have B := Lib.hid (bel_more B t)
  clear t
  go_wp2_with fail
  refine (F.of_nil _ _ O1).mono ?_
  rintro e w1 ⟨rfl, t⟩
  have B := Lib.hid (bel_more B t)
  clear t
  go_wp2_with fail
  refine (F.tick_nil _).mono ?_
  rintro e w1 ⟨ao, c, rfl, t⟩
  have B := Lib.hid (bel_more B t)
  clear t
  go_wp2
  go_ret
  exact ⟨rfl, B.out⟩

end Go.Proofs.YtjmainefmiefcaaGreat


/-
  The law 'postillionlaw13.LockNone' answers true at every input, and each argument reads behind the call as it read before: for every input, no condition; the frame round the walk 'lockNone_walk'.
-/
namespace Go.Proofs.YtjmainefmiefcaaGreat.lockNone
open Go.ChangeShapes Go.WideShapes Go.ChangeAt Go.RowKit
open Go.ChangeMaps (open_string shut_string)
set_option linter.unusedVariables false

theorem own : ownKnob Tryz.prog.godebug = none := by kernel_rfl
theorem laidOut : laidOutB Tryz.prog = true := by kernel_rfl

set_option maxRecDepth 100000 in
theorem lifted (os : Os) (started : os.Started) (H : Type) (enc : TypeId × Value → H) :
    ReturnsInHanded {} Tryz.checked os 7 .any (Rows.lockNoneSpec.pre6 enc Tryz.prog Tryz.f7 Rows.lockNoneRow.domain false) (Rows.lockNoneSpec.post enc Tryz.prog Tryz.f7 false true false false) := by
  refine returnsInHanded_of_change (C := Tryz.checked) own started (by kernel_rfl) Tryz.func7
    (ChangeSpec.witness6 (enc := enc) (C := Tryz.checked) false ⟨#[], #[], []⟩ 8 (by kernel_rfl) (by kernel_rfl) (by kernel_rfl) (by kernel_rfl)) ?_
  intro W base args ds gs before hval0 hW hcnd _
  have hval : ∀ (j : Nat) t v, Tryz.f7.params[j]? = some t → args[j]? = some v → Value.okWide Tryz.prog W .any base t v := hval0
  have hW' := hW
  obtain ⟨p, q, hA0, hV, rfl, hfz, hnd⟩ := hW
  have hA : DataW.TrodAll enc Tryz.prog W 0 (fun _ => true) true Tryz.f7.params.toList args.toList ds p := hA0
  rw [Tryz.params7] at hA hval
  obtain ⟨rfl, rfl, rfl⟩ := trodAll_none hA
  obtain ⟨rfl, rfl⟩ := trodVars_none hV
  clear hA0 hval0
  refine (lockNone_walk Ss.sf_is begun13_ok (w := W) ).mono fun e W' ⟨he, bel⟩ => ?_
  subst he
  exact ⟨_, rfl, _, _, _, [], _, [], hW', trodAll_mk1 (shut_bool Tryz.underlying4 _), trodAll_mk0, rfl, bel.frame _, fun h => by cases h⟩

theorem over : Rows.lockNoneRow.holds Tryz.pinned (OpenSpec.ofChange Rows.lockNoneSpec) :=
  OpenClaim.holds_of_wide 7 Tryz.f7 rfl rfl rfl rfl rfl rfl rfl ⟨rfl, rfl, rfl, rfl, rfl⟩ rfl rfl rfl rfl rfl (by kernel_rfl) Tryz.func7 (by kernel_rfl)
    (of_decide_eq_true (by kernel_rfl)) (by unfold Func.isWrapper; first | (rw [if_pos (by decide +kernel)]; kernel_rfl) | (rw [if_neg (by decide +kernel)]; exact ⟨rfl, rfl⟩))
    (fun os started H enc _ => lifted os started H enc)

/-- The statement. -/
theorem proved : Rows.LockNoneSaid := over
end Go.Proofs.YtjmainefmiefcaaGreat.lockNone
