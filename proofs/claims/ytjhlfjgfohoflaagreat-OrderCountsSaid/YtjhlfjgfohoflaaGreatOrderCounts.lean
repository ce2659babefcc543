/-
  The law 'postillionlaw10.OrderCounts' answers true at every input, and each argument reads behind the call as it read before: for every input, no condition; the frame round the walk 'orderCounts_walk'.
-/
import Derived.Test.YtjhlfjgfohoflaaGreatRows
import Derived.Test.YtjhlfjgfohoflaaGreatOrderCountsWalk
import Derived.Test.YtjhlfjgfohoflaaGreatPkBD
import Derived.SizedLaws
import Derived.ProofKit
import Derived.OpenShut
import Derived.ShutString
import Derived.ChangeOld
import Derived.Below
import Derived.Test.YtjhlfjgfohoflaaGreatOst
set_option maxRecDepth 100000
namespace Go.Proofs.YtjhlfjgfohoflaaGreat.orderCounts
open Go.ChangeShapes Go.WideShapes Go.ChangeAt Go.RowKit
open Go.ChangeMaps (open_string shut_string)
set_option linter.unusedVariables false
theorem own : ownKnob Tryz.prog.godebug = none := by kernel_rfl
theorem laidOut : laidOutB Tryz.prog = true := closed.p_laidOutB
theorem lifted (os : Os) (started : os.Started) (H : Type) (enc : TypeId × Value → H) :
  ReturnsInHanded {} Tryz.checked os 14 .any (Rows.orderCountsSpec.pre6 enc Tryz.prog Tryz.f14 Rows.orderCountsRow.domain false) (Rows.orderCountsSpec.post enc Tryz.prog Tryz.f14 false true false false) := by
 refine returnsInHanded_of_change_sized (C := Tryz.checked) own started (by kernel_rfl) Tryz.func14
  (ChangeSpec.witness6 (enc := enc) (C := Tryz.checked) false ⟨#[], #[.agg #[.int .i64 0, .int .i64 0, .int .i64 0, .int .i64 0, .slice none 0 0, .slice none 0 0, .slice none 0 0, .slice none 0 0, .slice none 0 0]], []⟩ 8 (by kernel_rfl) (by kernel_rfl) (by kernel_rfl) (by kernel_rfl)) ?_
 intro W base args ds gs before hval0 hW hcnd hsz0 _
 have hsz : (DataW.weightsEach Tryz.prog (Tryz.f14.params.toList ++ Rows.orderCountsSpec.plain.varTypes Tryz.prog) (ds ++ gs)).all (· ≤ reachBytes) = true := hsz0
 have hval : ∀ (j : Nat) t v, Tryz.f14.params[j]? = some t → args[j]? = some v → Value.okWide Tryz.prog W .any base t v := hval0
 have hW' := hW
 obtain ⟨p, q, hA0, hV, rfl, hfz, hnd⟩ := hW
 have hA : DataW.TrodAll enc Tryz.prog W 0 (fun _ => true) true Tryz.f14.params.toList args.toList ds p := hA0
 rw [Tryz.params14] at hA hval hsz
 obtain ⟨v0, vs0, d0, ds0, p0, q0, hargs, rfl, rfl, h0, r0⟩ := trodAll_cons hA
 obtain ⟨rfl, rfl, rfl⟩ := trodAll_nil r0
 obtain rfl : args = #[v0] := by cases args; simp_all
 obtain ⟨rfl, rfl⟩ := trodVars_none hV
 have k0 := h0
 have lt0 : ∀ x ∈ p0, x.block < W.heap.size := by obtain ⟨m, hm⟩ := k0; exact DataW.trod_lt m _ _ _ hm
 obtain ⟨a0, b0, rfl, wx0, wf0, wb0⟩ := open_state (hval 0 27 v0 rfl rfl) h0
 have wz0 := wb0 reachBytes (fun k hk => of_decide_eq_true (List.all_eq_true.1 hsz k (DataW.weights_mem_each (j := 0) (t := 27) (d := d0) rfl rfl k hk)))
 rw [show reachBytes = 140737488351232 from rfl] at wz0
 clear hA0 hval0
 refine (orderCounts_walk (w := W) a0 b0 wx0 wf0 ⟨by omega, by omega, by omega, by omega, by omega⟩).mono fun e W' ⟨he, bel⟩ => ?_
 subst he
 exact ⟨_, rfl, _, _, _, [], _, [], hW', trodAll_mk1 (shut_bool Tryz.underlying4 _), (trodAll_cons_mk (Below.trod laidOut (by kernel_rfl) (of_decide_eq_true (by kernel_rfl)) k0 bel lt0) trodAll_mk0), rfl, bel.frame _, fun h => by cases h⟩
theorem closed0 : (Rows.orderCountsRow.wf (OpenSpec.ofChange Rows.orderCountsSpec) : Bool) = true := by kernel_rfl
theorem closed3 : (Tryz.f14.params.all (Tryz.prog.readableRec ·) : Bool) = true := by kernel_rfl
theorem closed4 : (namedTie Tryz.prog Rows.orderCountsRow.named Rows.orderCountsSpec.vars : Bool) = true := by kernel_rfl
theorem closed5 : ((Rows.orderCountsRow.stops == []) : Bool) = true := by kernel_rfl
theorem closed7 : ((Rows.orderCountsRow.knobs == []) : Bool) = true := by kernel_rfl
theorem closed9 : ((Rows.orderCountsRow.inPlace == Tryz.prog.inPlace 14) : Bool) = true := by kernel_rfl
theorem closed10 : ((Rows.orderCountsRow.unfollowed == Tryz.prog.unfollowed 14) : Bool) = true := by kernel_rfl
theorem closed11 : ((Rows.orderCountsRow.recurses == Tryz.prog.recurses 14) : Bool) = true := by kernel_rfl
theorem closed12 : ((Rows.orderCountsRow.named == Tryz.prog.varsNamed 14) : Bool) = true := by kernel_rfl
theorem closed13 : ((Rows.orderCountsRow.maps == (Tryz.f14.params.toList ++ Rows.orderCountsSpec.plain.varTypes Tryz.prog).any (Tryz.prog.mapsRec ·)) : Bool) = true := by kernel_rfl
theorem closed14 : ((Rows.orderCountsRow.ifaces == (Tryz.f14.params.toList ++ Rows.orderCountsSpec.plain.varTypes Tryz.prog).any (Tryz.prog.ifacesRec ·)) : Bool) = true := by kernel_rfl
theorem closed15 : ((Rows.orderCountsRow.mapsOut == Tryz.prog.mapsAmong Tryz.f14.resultTypes.toList) : Bool) = true := by kernel_rfl
theorem closed16 : ((Rows.orderCountsRow.loops == (Tryz.f14.params.toList ++ Rows.orderCountsSpec.plain.varTypes Tryz.prog).any (Tryz.prog.loopsFrom ·)) : Bool) = true := by kernel_rfl
theorem closed17 : ((Rows.orderCountsRow.wideKeys == (Tryz.f14.params.toList ++ Rows.orderCountsSpec.plain.varTypes Tryz.prog ++ Tryz.f14.resultTypes.toList).any (Tryz.prog.wideKeysFrom ·)) : Bool) = true := by kernel_rfl
theorem closed18 : (Rows.orderCountsSpec.vars.all (Tryz.prog.varReadable ·) : Bool) = true := by kernel_rfl
theorem closed19 : (Tryz.f14.resultTypes.all (fun t => Tryz.prog.readableRec t && decide (t < Tryz.prog.types.size)) : Bool) = true := by kernel_rfl
theorem closed20 : ((Rows.orderCountsRow.ifacesOut == Tryz.f14.resultTypes.toList.any (Tryz.prog.ifacesRec ·)) : Bool) = true := by kernel_rfl
theorem closed21 : ((Rows.orderCountsRow.loopsOut == Tryz.f14.resultTypes.toList.any (Tryz.prog.loopsFrom ·)) : Bool) = true := by kernel_rfl
theorem closed22 : ((Rows.orderCountsRow.plainKeys == Tryz.prog.plainKeys) : Bool) = true := by show (_ == _) = true; rw [closed.plainKeys_is]; kernel_rfl
theorem closed23 : (Rows.orderCountsRow.shortTexts.isNone : Bool) = true := by kernel_rfl
theorem closed26 : ((Rows.orderCountsRow.lifted == Tryz.prog.liftsFinal) : Bool) = true := by show (_ == _) = true; rw [closed.lifted_is]; kernel_rfl
theorem closed27 : ((Tryz.prog.make == some Rows.orderCountsRow.make) : Bool) = true := by show (_ == _) = true; rw [closed.make_is]; kernel_rfl
theorem closed28 : ((Rows.orderCountsRow.kinds == (if Rows.orderCountsRow.domain.isEmpty then [] else Tryz.f14.params.toList.map fun t => match Tryz.prog.underlying t with | some (.int k) => some k | _ => none)) : Bool) = true := by kernel_rfl
theorem closed29 : ((Rows.orderCountsRow.pinned == Rows.orderCountsRow.pinnedBy) : Bool) = true := by kernel_rfl
theorem closed30 : ((Rows.orderCountsRow.veiled == (Tryz.f14.params.toList ++ Rows.orderCountsSpec.plain.varTypes Tryz.prog ++ Tryz.f14.resultTypes.toList).any (Tryz.prog.veiledRec ·)) : Bool) = true := by kernel_rfl
theorem closed31 : (Rows.orderCountsRow.veiledFits Tryz.prog Tryz.f14.params.toList (Tryz.f14.params.toList ++ Rows.orderCountsSpec.plain.varTypes Tryz.prog ++ Tryz.f14.resultTypes.toList) : Bool) = true := by kernel_rfl
theorem closedAll : joinedFacts Tryz.prog 14 Tryz.f14 Rows.orderCountsSpec Rows.orderCountsRow = true :=
 joinMk.joined_mk closed0 closed.p_laidOutB closed.p_mapsRowed closed3 closed4 closed5 closed.p_stops closed7 closed.p_stopKnobs closed9 closed10 closed11 closed12 closed13 closed14 closed15 closed16 closed17 closed18 closed19 closed20 closed21 closed22 closed23 closed.p_stopsHeard closed.p_mayEnter closed26 closed27 closed28 closed29 closed30 closed31
theorem over : Rows.orderCountsRow.holds Tryz.pinned (OpenSpec.ofChange Rows.orderCountsSpec) :=
 OpenClaim.holds_of_wide 14 Tryz.f14 rfl rfl rfl rfl rfl rfl rfl ⟨rfl, rfl, rfl, rfl, rfl⟩ rfl rfl rfl rfl rfl (by kernel_rfl) Tryz.func14 closedAll
  (of_decide_eq_true (by kernel_rfl)) (by unfold Func.isWrapper; first | (rw [if_pos (by decide +kernel)]; kernel_rfl) | (rw [if_neg (by decide +kernel)]; exact ⟨rfl, rfl⟩))
  (fun os started H enc _ => lifted os started H enc)
theorem proved : Rows.OrderCountsSaid := over
end Go.Proofs.YtjhlfjgfohoflaaGreat.orderCounts
