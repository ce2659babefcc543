/-
  Of the texts SessFullWalk SessFull, in build order, each as it was built alone.
-/
import Derived.Test.YtjmainefmiefcaaGreatPkAD
import Derived.Lib.MinMax
import Derived.Deep.CutRange
import Derived.OpenShut
import Derived.Test.YtjmainefmiefcaaGreatRows
import Derived.Test.YtjmainefmiefcaaGreatPkAH
import Derived.ProofKit
import Derived.ShutString
import Derived.ChangeOld
import Derived.Below

/-
  The walk of the law SessFull, over the contracts of a Sessions.
-/
namespace Go.Proofs.YtjmainefmiefcaaGreat
open Go.RowKit

variable {Ses : World → List Nat → Nat → Int → Nat → Int → Nat → List Sq → Prop}

theorem Sw.call {w wr : World} {b : Nat} {br br' : Int} {made made' : Nat} {tk tk' : Int} {ns ns' : Nat} {S S' : List Sq} (h : Sw Ses w wr b br made tk ns S) {f : FuncId} {args : Array Value} {R : Ending → World → Prop}
    (hc : ∀ os, Ses wr os b br made tk ns S → Calls Tryz.prog f args wr (fun e w' => ∃ os', R e w' ∧ Ses w' os' b br' made' tk' ns' S' ∧ Stp os os' wr w')) : Calls Tryz.prog f args wr (fun e w' => R e w' ∧ Sw Ses w w' b br' made' tk' ns' S') := by
  obtain ⟨os, h1, h2, h3⟩ := h
  refine (hc _ h1).mono ?_
  rintro e w' ⟨os', hR, hS, st⟩
  exact ⟨hR, Sw.step h2 h3 hS st⟩

/-- The first m sessions of broker 2. -/
def fs (m : Nat) : List Sq := (List.range m).map fun (i : Nat) => (⟨makeZ 2 ((i : Int) + 1), 0, 0⟩ : Sq)

theorem fs_length (m : Nat) : (fs m).length = m := by simp [fs]

theorem fs_succ (m : Nat) : fs (m + 1) = fs m ++ [⟨makeZ 2 ((m : Int) + 1), 0, 0⟩] := by simp [fs, List.range_succ]

theorem fs_drop {m c : Nat} (h : c < m) : (fs m).drop c = ⟨makeZ 2 ((c : Int) + 1), 0, 0⟩ :: (fs m).drop (c + 1) := by
  rw [List.drop_eq_getElem_cons (by rw [fs_length]; exact h)]
  simp [fs]

set_option maxHeartbeats 8000000 in
set_option maxRecDepth 100000 in
theorem sessFull_walk (F : SF Ses) (hbg : BegunOk) {w : World} (n : Int) (hn : (Lit.int .i64 n).wf = true) (c : Int) (hc : (Lit.int .i64 c).wf = true) : Calls Tryz.prog 6 #[.int .i64 n, .int .i64 c] w fun e w' => e = .returned (.bool true) ∧ Below w.heap.size w w' := by
  have hbn := Go.bounds_i64 hn
  have hbc := Go.bounds_i64 hc
  clear hn hc
  go_enter Tryz.func6, Tryz.ntmps6
  go_wp2_with fail
  refine (hbg w).mono ?_
  rintro e w1 ⟨rfl, b1⟩
  have B1 := Lib.hid b1
  clear b1
  by_cases hlt : n < 0
  · go_wp2
    go_ret
    exact ⟨rfl, B1.out⟩
  by_cases hgt : 30 < n
  · go_wp2
    go_ret
    exact ⟨rfl, B1.out⟩
  by_cases hlt2 : c < 0
  · go_wp2
    go_ret
    exact ⟨rfl, B1.out⟩
  by_cases hgt2 : 20 < c
  · go_wp2
    go_ret
    exact ⟨rfl, B1.out⟩
  go_wp2_with fail
  refine (sw_new F B1.out 2 (by omega)).mono ?_
  rintro e w2 ⟨b, rfl, h2, -⟩
  have O2 := Lib.hid h2
  clear h2 B1
  go_wp2_with fail
  obtain ⟨N, hN⟩ : ∃ N : Nat, n = (N : Int) := ⟨n.toNat, by omega⟩
  obtain ⟨C, hC⟩ : ∃ C : Nat, c = (C : Int) := ⟨c.toNat, by omega⟩
  have HN := Lib.hid hN
  have HC := Lib.hid hC
  have HN30 : Hid (n ≤ 30 ∧ 0 ≤ n) := Lib.hid (by omega)
  have HC20 : Hid (c ≤ 20 ∧ 0 ≤ c) := Lib.hid (by omega)
  clear hN hC hlt hgt hlt2 hgt2 hbn hbc
  go_loopw [7, 8, 9] (fun vi _ _ wx => ∃ k : Nat, k ≤ N ∧ vi = .int .i64 (k : Int) ∧ Sw Ses w wx b 2 (min k 20) 0 k (fs (min k 20))) (fun vi _ _ _ => N - (intOf vi).toNat)
  case atStart => exact ⟨0, by omega, rfl, O2.out⟩
  case round =>
    obtain ⟨k, hk, rfl, ho⟩ := hrel
    have O := Lib.hid ho
    have HK := Lib.hid hk
    clear ho O2 hk
    by_cases hkn : (k : Int) < n
    · go_upto_region 10 with fail
      generalize hi : (k : Int) = i at *
      have HI := Lib.hid hi
      have hi30 : 0 ≤ i ∧ i ≤ 30 := by have := HN30.out; omega
      have HKN := Lib.hid hkn
      clear hi hkn
      by_cases h20 : i < 20
      · have C1 := Lib.hid (O.out.call (br' := 2) (made' := min (k + 1) 20) (tk' := 0) (ns' := k + 1) (S' := fs (min (k + 1) 20)) (f := 28) (args := #[.pointer (some ⟨b, 0, none⟩)]) (R := fun e _ => ∃ z : Int, e = .returned (.tuple #[.int .i64 z, .bool true])) (fun os h => by
          have e1 : min k 20 = k := by have := HI.out; omega
          have e2 : min (k + 1) 20 = k + 1 := by have := HI.out; omega
          rw [e1] at h
          rw [e2, fs_succ]
          refine (F.open_ok h (by rw [fs_length]; have := HI.out; omega) (by have := HI.out; omega) (by have := HI.out; omega)).mono ?_
          rintro e w' ⟨os', rfl, h2, s2⟩
          exact ⟨os', ⟨_, rfl⟩, h2, s2⟩))
        clear O
        go_wp2_with fail
        refine C1.out.mono ?_
        rintro e w3 ⟨⟨z, rfl⟩, h3⟩
        have O3 := Lib.hid h3
        clear h3 C1
        go_wp2_with fail
        go_roundw
        case rel => exact ⟨k + 1, by have := HI.out; have := HKN.out; have := HN.out; omega, by rw [← HI.out]; go_num, O3.out⟩
        case measure => have := HI.out; have := HKN.out; have := HN.out; simp [intOf]; omega
      · have C1 := Lib.hid (O.out.call (br' := 2) (made' := min (k + 1) 20) (tk' := 0) (ns' := k + 1) (S' := fs (min (k + 1) 20)) (f := 28) (args := #[.pointer (some ⟨b, 0, none⟩)]) (R := fun e _ => e = .returned (.tuple #[.int .i64 0, .bool false])) (fun os h => by
          have e1 : min k 20 = 20 := by have := HI.out; omega
          have e2 : min (k + 1) 20 = 20 := by have := HI.out; omega
          rw [e1] at h
          rw [e2]
          refine (F.open_full h (by rw [fs_length]; omega) (by omega) (by have := HI.out; omega)).mono ?_
          rintro e w' ⟨os', rfl, h2, s2⟩
          exact ⟨os', rfl, h2, s2⟩))
        clear O
        go_wp2_with fail
        refine C1.out.mono ?_
        rintro e w3 ⟨rfl, h3⟩
        have O3 := Lib.hid h3
        clear h3 C1
        go_wp2_with fail
        go_roundw
        case rel => exact ⟨k + 1, by have := HI.out; have := HKN.out; have := HN.out; omega, by rw [← HI.out]; go_num, O3.out⟩
        case measure => have := HI.out; have := HKN.out; have := HN.out; simp [intOf]; omega
    · have hkk : k = N := by have := HK.out; have := HN.out; omega
      obtain ⟨M, hM⟩ : ∃ M : Nat, M = min k 20 := ⟨_, rfl⟩
      have hmn : min n 20 = (M : Int) := by have := HN.out; omega
      have HM : Hid (M ≤ 20 ∧ M ≤ k ∧ k ≤ 30) := Lib.hid (by have := HN30.out; have := HN.out; omega)
      rw [← hM] at O
      have HMN := Lib.hid hmn
      clear hM hkk
      go_wp2_with fail
      clear hkn hmn
      go_loopw [11, 12, 13] (fun vi _ _ wx => ∃ j : Nat, j ≤ C ∧ vi = .int .i64 ((j : Int) + 1) ∧ Sw Ses w wx b 2 M 0 (k + j) ((fs M).drop j)) (fun vi _ _ _ => C + 1 - (intOf vi).toNat)
      case atStart => exact ⟨0, by omega, rfl, O.out⟩
      case round =>
        obtain ⟨j, hj, rfl, ho⟩ := hrel
        have O3 := Lib.hid ho
        have HJ := Lib.hid hj
        clear ho O hj
        generalize hi : (j : Int) = i at *
        have HI := Lib.hid hi
        have hi20 : 0 ≤ i ∧ i ≤ 20 := by have := HC20.out; have := HC.out; have := HJ.out; omega
        clear hi
        by_cases hic : i + 1 ≤ c
        · have HIC := Lib.hid hic
          by_cases hiM : i + 1 ≤ (M : Int)
          · have C1 := Lib.hid (O3.out.call (br' := 2) (made' := M) (tk' := 0) (ns' := k + (j + 1)) (S' := (fs M).drop (j + 1)) (f := 31) (args := #[.pointer (some ⟨b, 0, none⟩), .int .i64 (makeZ 2 (i + 1))]) (R := fun e _ => e = .returned (.tuple #[.int .i64 0, .bool true])) (fun os h => by
              rw [fs_drop (by have := HI.out; omega), HI.out] at h
              refine (F.close_is (A := []) h (by have := HI.out; have := HM.out; omega)).mono ?_
              rintro e w' ⟨os', rfl, h2, s2⟩
              exact ⟨os', rfl, h2, s2⟩))
            clear O3
            go_wp2_with fail
            refine (refMake_calls _ _ _).mono ?_
            rintro e w3 ⟨rfl, rfl⟩
            clear hic
            go_wp2_with fail
            refine C1.out.mono ?_
            rintro e w4 ⟨rfl, h4⟩
            have O4 := Lib.hid h4
            clear h4 C1
            go_wp2_with fail
            go_roundw
            case rel => exact ⟨j + 1, by have := HI.out; have := HIC.out; have := HC.out; omega, by rw [← HI.out]; go_num, O4.out⟩
            case measure => have := HI.out; have := HIC.out; have := HC.out; simp [intOf]; omega
          · have C1 := Lib.hid (O3.out.call (br' := 2) (made' := M) (tk' := 0) (ns' := k + (j + 1)) (S' := (fs M).drop (j + 1)) (f := 31) (args := #[.pointer (some ⟨b, 0, none⟩), .int .i64 (makeZ 2 (i + 1))]) (R := fun e _ => e = .returned (.tuple #[.int .i64 0, .bool false])) (fun os h => by
              have e1 : (fs M).drop j = [] := List.drop_eq_nil_of_le (by rw [fs_length]; have := HI.out; omega)
              have e2 : (fs M).drop (j + 1) = [] := List.drop_eq_nil_of_le (by rw [fs_length]; have := HI.out; omega)
              rw [e1] at h
              rw [e2]
              refine (F.close_none (x := makeZ 2 (i + 1)) h (by have := HI.out; have := HM.out; omega) (by unfold inI64 makeZ; split <;> omega) (by simp)).mono ?_
              rintro e w' ⟨os', rfl, h2, s2⟩
              exact ⟨os', rfl, h2, s2⟩))
            clear O3
            go_wp2_with fail
            refine (refMake_calls _ _ _).mono ?_
            rintro e w3 ⟨rfl, rfl⟩
            clear hic
            go_wp2_with fail
            refine C1.out.mono ?_
            rintro e w4 ⟨rfl, h4⟩
            have O4 := Lib.hid h4
            clear h4 C1
            go_wp2_with fail
            go_roundw
            case rel => exact ⟨j + 1, by have := HI.out; have := HIC.out; have := HC.out; omega, by rw [← HI.out]; go_num, O4.out⟩
            case measure => have := HI.out; have := HIC.out; have := HC.out; simp [intOf]; omega
        · have hjC : j = C := by have := HI.out; have := HC.out; have := HJ.out; omega
          obtain ⟨Z, hZ⟩ : ∃ Z : Nat, Z = min C M := ⟨_, rfl⟩
          have hmz : min c (M : Int) = (Z : Int) := by have := HC.out; omega
          have hlS : ((fs M).drop j).length = M - Z := by rw [List.length_drop, fs_length, hZ]; omega
          have HZ : Hid (Z ≤ M) := Lib.hid (by omega)
          have hM20 : (M : Int) ≤ 20 := by have := HM.out; omega
          have hz0 : 0 ≤ (Z : Int) ∧ (Z : Int) ≤ (M : Int) := by omega
          by_cases hfull : (M : Int) - (Z : Int) < 20
          · have C1 := Lib.hid (O3.out.call (br' := 2) (made' := M + 1) (tk' := 0) (ns' := k + j + 1) (S' := (fs M).drop j ++ [⟨makeZ 2 ((M : Int) + 1), 0, 0⟩]) (f := 28) (args := #[.pointer (some ⟨b, 0, none⟩)]) (R := fun e _ => e = .returned (.tuple #[.int .i64 (makeZ 2 ((M : Int) + 1)), .bool true])) (fun os h => by
              refine (F.open_ok h (by rw [hlS]; omega) (by have := HM.out; omega) (by have := HI.out; have := HM.out; omega)).mono ?_
              rintro e w' ⟨os', rfl, h2, s2⟩
              exact ⟨os', rfl, h2, s2⟩))
            clear O3 hjC hZ hlS
            go_wp2_with fail
            refine C1.out.mono ?_
            rintro e w4 ⟨rfl, h4⟩
            have O4 := Lib.hid h4
            clear h4 C1 hic
            go_wp2_with fail
            refine (refMake_calls _ _ _).mono ?_
            rintro e w5 ⟨rfl, rfl⟩
            go_wp2
            go_ret
            exact ⟨rfl, O4.out.bel⟩
          · have C1 := Lib.hid (O3.out.call (br' := 2) (made' := M) (tk' := 0) (ns' := k + j + 1) (S' := (fs M).drop j) (f := 28) (args := #[.pointer (some ⟨b, 0, none⟩)]) (R := fun e _ => e = .returned (.tuple #[.int .i64 0, .bool false])) (fun os h => by
              refine (F.open_full h (by rw [hlS]; omega) (by have := HM.out; omega) (by have := HI.out; have := HM.out; omega)).mono ?_
              rintro e w' ⟨os', rfl, h2, s2⟩
              exact ⟨os', rfl, h2, s2⟩))
            clear O3 hjC hZ hlS
            go_wp2_with fail
            refine C1.out.mono ?_
            rintro e w4 ⟨rfl, h4⟩
            have O4 := Lib.hid h4
            clear h4 C1 hic
            go_wp2
            go_ret
            exact ⟨congrArg (fun z => Ending.returned (Value.bool z)) (show (!decide ((M : Int) - (Z : Int) < 20)) = true by simp [hfull]), O4.out.bel⟩

end Go.Proofs.YtjmainefmiefcaaGreat


/-
  The law 'postillionlaw13.SessFull' answers true at every input, and each argument reads behind the call as it read before: for every input, no condition; the frame round the walk 'sessFull_walk'.
-/
namespace Go.Proofs.YtjmainefmiefcaaGreat.sessFull
open Go.ChangeShapes Go.WideShapes Go.ChangeAt Go.RowKit
open Go.ChangeMaps (open_string shut_string)
set_option linter.unusedVariables false

theorem own : ownKnob Tryz.prog.godebug = none := by kernel_rfl
theorem laidOut : laidOutB Tryz.prog = true := by kernel_rfl

set_option maxRecDepth 100000 in
theorem lifted (os : Os) (started : os.Started) (H : Type) (enc : TypeId × Value → H) :
    ReturnsInHanded {} Tryz.checked os 6 .any (Rows.sessFullSpec.pre6 enc Tryz.prog Tryz.f6 Rows.sessFullRow.domain false) (Rows.sessFullSpec.post enc Tryz.prog Tryz.f6 false true false false) := by
  refine returnsInHanded_of_change (C := Tryz.checked) own started (by kernel_rfl) Tryz.func6
    (ChangeSpec.witness6 (enc := enc) (C := Tryz.checked) false ⟨#[], #[.int .i64 0, .int .i64 0], []⟩ 8 (by kernel_rfl) (by kernel_rfl) (by kernel_rfl) (by kernel_rfl)) ?_
  intro W base args ds gs before hval0 hW hcnd _
  have hval : ∀ (j : Nat) t v, Tryz.f6.params[j]? = some t → args[j]? = some v → Value.okWide Tryz.prog W .any base t v := hval0
  have hW' := hW
  obtain ⟨p, q, hA0, hV, rfl, hfz, hnd⟩ := hW
  have hA : DataW.TrodAll enc Tryz.prog W 0 (fun _ => true) true Tryz.f6.params.toList args.toList ds p := hA0
  rw [Tryz.params6] at hA hval
  obtain ⟨v0, vs0, d0, ds0, p0, q0, hargs, rfl, rfl, h0, r0⟩ := trodAll_cons hA
  obtain ⟨v1, vs1, d1, ds1, p1, q1, rfl, rfl, rfl, h1, r1⟩ := trodAll_cons r0
  obtain ⟨rfl, rfl, rfl⟩ := trodAll_nil r1
  obtain rfl : args = #[v0, v1] := by cases args; simp_all
  obtain ⟨rfl, rfl⟩ := trodVars_none hV
  obtain ⟨a0, rfl, rfl, rfl, w0⟩ := open_int Tryz.underlying3 (hval 0 3 v0 rfl rfl) h0
  obtain ⟨a1, rfl, rfl, rfl, w1⟩ := open_int Tryz.underlying3 (hval 1 3 v1 rfl rfl) h1
  clear hA0 hval0
  refine (sessFull_walk Ss.sf_is begun13_ok (w := W) a0 w0 a1 w1).mono fun e W' ⟨he, bel⟩ => ?_
  subst he
  exact ⟨_, rfl, _, _, _, [], _, [], hW', trodAll_mk1 (shut_bool Tryz.underlying4 _), (trodAll_cons_mk (shut_int Tryz.underlying3 w0) (trodAll_cons_mk (shut_int Tryz.underlying3 w1) trodAll_mk0)), rfl, bel.frame _, fun h => by cases h⟩

theorem over : Rows.sessFullRow.holds Tryz.pinned (OpenSpec.ofChange Rows.sessFullSpec) :=
  OpenClaim.holds_of_wide 6 Tryz.f6 rfl rfl rfl rfl rfl rfl rfl ⟨rfl, rfl, rfl, rfl, rfl⟩ rfl rfl rfl rfl rfl (by kernel_rfl) Tryz.func6 (by kernel_rfl)
    (of_decide_eq_true (by kernel_rfl)) (by unfold Func.isWrapper; first | (rw [if_pos (by decide +kernel)]; kernel_rfl) | (rw [if_neg (by decide +kernel)]; exact ⟨rfl, rfl⟩))
    (fun os started H enc _ => lifted os started H enc)

/-- The statement. -/
theorem proved : Rows.SessFullSaid := over
end Go.Proofs.YtjmainefmiefcaaGreat.sessFull
