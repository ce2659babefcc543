/-
  The walk of the law TimerAll.
-/
import Derived.Test.YtikbldnekehodaaBegun6
import Derived.Test.YtikbldnekehodaaTimT
import Derived.Test.YtikbldnekehodaaOl6
import Derived.OpenShut
import Derived.Deep.CutBlock
import Derived.Deep.CutRange
import Derived.BigQuiet
import Derived.Deep.QuietTactic
import Derived.Deep.RegionHeld3
namespace Go.Proofs.Ytikbldnekehodaa
open Go.RowKit

/-- What holds between the rounds. -/
structure Ro (w wx : World) (b i : Nat) (most t : Int) (v vk va : Value) (K : List (Int × Int)) (L D : List Int) : Prop where
  at' : AT w wx b most t v vk va K L D
  hl : L = K.map (·.1)
  hd : D = K.map fun p => t - p.2
  sm : Sm K
  few : K.length ≤ i
  ti : 0 ≤ t ∧ t ≤ (i : Int)

theorem keys_lo {A R : List (Int × Int)} {x : Int} (hA : ∀ p ∈ A, p.1 < x) (j : Nat) (hj : j < A.length) : ((A ++ R).map (·.1)).getD j 0 < x := by
  have h1 : ((A ++ R).map (·.1)).getD j 0 = A[j].1 := by
    have hj2 : j < (A.map (·.1)).length := by rw [List.length_map]; exact hj
    rw [List.map_append]
    simp only [List.getD, List.getElem?_append_left hj2, List.getElem?_map, List.getElem?_eq_getElem hj, Option.map_some, Option.getD_some]
  rw [h1]
  exact hA _ (List.getElem_mem hj)

theorem keys_hi {A R : List (Int × Int)} {x : Int} (hR : ∀ p ∈ R, x ≤ p.1) (h : A.length < (A ++ R).length) : x ≤ ((A ++ R).map (·.1)).getD A.length 0 := by
  cases R with
  | nil => simp at h
  | cons q R =>
    have h1 : ((A ++ q :: R).map (·.1)).getD A.length 0 = q.1 := by simp [List.getD]
    rw [h1]
    exact hR q (by simp)

set_option maxHeartbeats 40000000 in
set_option maxRecDepth 100000 in
theorem timerAll_walk {w : World} (most : Int) (hm0 : (Lit.int .i64 most).wf = true) (a0 : Option Addr) (c0 : Nat) (l0 : List OpV) (w0 : Ol w a0 c0 l0) :
    Calls Try.prog 5 #[.int .i64 most, .slice a0 l0.length c0] w fun e w' => e = .returned (.bool true) ∧ Below w.heap.size w w' := by
  have hmost : inI64 most := bounds_i64 hm0
  have hlen := w0.len
  have H0 := Lib.hid w0
  clear w0 hm0
  obtain ⟨n0, hn⟩ : ∃ n, n = l0.length := ⟨_, rfl⟩
  have HN := Lib.hid hn
  rw [← hn] at hlen ⊢
  clear hn
  go_enter Try.func5, Try.ntmps5
  go_wp2_with fail
  refine (begun6_calls w).mono ?_
  rintro e w1 ⟨rfl, b1⟩
  have B1 := Lib.hid b1
  clear b1
  go_wp2_with fail
  refine (T.new_calls most hmost w1).mono ?_
  rintro e w2 ⟨rfl, h2, t2⟩
  obtain ⟨b, hb⟩ : ∃ b, b = w1.heap.size := ⟨_, rfl⟩
  have O2 := Lib.hid (T.LT.new B1.out h2 t2)
  rw [← hb] at O2 ⊢
  have R2 : Hid (Ro w w2 b 0 most 0 (.slice none 0 0) (.slice none 0 0) (.slice none 0 0) [] [] []) := Lib.hid
    ⟨⟨O2.out, World.ownsRow_nil _ _ _ _, World.ownsRow_nil _ _ _ _, (by intro k hk; cases hk), (by intro k hk; cases hk), (by intro k hk; cases hk)⟩, rfl, rfl, ⟨List.Pairwise.nil, by simp⟩, Nat.le_refl _, by omega⟩
  clear h2 t2 B1 hb O2
  unfold inI64 at hmost
  go_wp2_with fail
  go_loopw [7, 8, 9] (fun vk va vi wx => ∃ (i : Nat) (t : Int) (v : Value) (K : List (Int × Int)) (L D : List Int), i ≤ n0 ∧ i ≤ 60 ∧ vi = .int .i64 (i : Int) ∧ Ro w wx b i most t v vk va K L D) (fun _ _ vi _ => 60 - (intOf vi).toNat)
  case atStart => exact ⟨0, _, _, _, _, _, by omega, by omega, rfl, R2.out⟩
  case round =>
    obtain ⟨i, t, v, K, L, D, hi, hi60, rfl, ho⟩ := hrel
    have O := Lib.hid ho
    obtain ⟨ak, ck, rfl, hkc, hkm, hkrow⟩ := row_form ho.at'.kr
    obtain ⟨aa, ca, rfl, hac, ham, harow⟩ := row_form ho.at'.ar
    have HKR := Lib.hid hkrow
    have HAR := Lib.hid harow
    have hLN : L.length = K.length := by rw [ho.hl, List.length_map]
    have hDN : D.length = K.length := by rw [ho.hd, List.length_map]
    obtain ⟨N, hN⟩ : ∃ N, N = K.length := ⟨_, rfl⟩
    have hNi : N ≤ i := by rw [hN]; exact ho.few
    have hti := ho.ti
    rw [hLN, ← hN] at hkc
    rw [hDN, ← hN] at hac
    rw [hLN, hDN, ← hN]
    have hNN := Lib.hid hN
    have HLN := Lib.hid hLN
    have HDN := Lib.hid hDN
    clear ho R2 hkrow harow hLN hDN hN
    by_cases hlt : i < n0 ∧ i < 60
    · obtain ⟨hin, hi6⟩ := hlt
      obtain ⟨ob, off, rfl, hob, hop⟩ := H0.out.at (by intro e; rw [← List.length_eq_zero_iff] at e; have := HN.out; omega)
      obtain ⟨ok, hq0, hq1, -⟩ := (hop i (by rw [← HN.out]; exact hin)).below O.out.at'.lt.bel hob
      obtain ⟨kd, hkd⟩ : ∃ z, z = (l0.getD i opNone).kind := ⟨_, rfl⟩
      obtain ⟨y, hy⟩ : ∃ y, y = (l0.getD i opNone).x := ⟨_, rfl⟩
      obtain ⟨ok0, ok1, -⟩ := ok
      rw [← hkd] at hq0 ok0
      rw [← hy] at hq1 ok1
      have hxb : -12 < y.tmod 12 ∧ y.tmod 12 < 12 := by
        rw [Int.tmod_eq_emod (a := y) (b := 12)]
        split <;> omega
      obtain ⟨x, hx⟩ : ∃ x, y.tmod 12 = x := ⟨_, rfl⟩
      rw [hx] at hxb
      have hb : 0 ≤ (i : Int) ∧ (i : Int) < (n0 : Int) := by omega
      have hi60' : decide ((i : Int) < 60) = true := by simp; omega
      unfold i64ok at ok0 ok1
      have HOB := Lib.hid hob
      clear hop hy hkd hob
      obtain ⟨A, R, hKK, hA, hR⟩ := split_at K x O.out.sm
      have HCEL : Hid (∀ j, j < N → ∃ g, ak = some ⟨g, 0, none⟩ ∧ wr.cell? ⟨g, j, none⟩ = some (.int .i64 (L.getD j 0))) := Lib.hid (fun j hj => by
        rcases HKR.out with ⟨-, h2, -⟩ | ⟨g, h1, -, -, h4⟩
        · have := HLN.out
          rw [h2, ← hNN.out] at this
          simp at this
          omega
        · exact ⟨g, h1, h4 j (by rw [HLN.out, ← hNN.out]; exact hj)⟩)
      obtain ⟨kq, hkq⟩ : ∃ kq, kq = A.length := ⟨_, rfl⟩
      have hkN : kq ≤ N := by rw [hkq, hNN.out, hKK]; simp
      have HLO : Hid (∀ j, j < kq → L.getD j 0 < x) := Lib.hid (fun j hj => by
        rw [O.out.hl, hKK]
        exact keys_lo hA j (by rw [← hkq]; exact hj))
      have HHI : Hid (kq < N → x ≤ L.getD kq 0) := Lib.hid (fun h => by
        rw [O.out.hl, hKK, hkq]
        exact keys_hi hR (by rw [← hkq, ← hKK, ← hNN.out]; exact h))
      have HKK := Lib.hid hKK
      have HA := Lib.hid hA
      have HR := Lib.hid hR
      have HKQ := Lib.hid hkq
      clear hKK hA hR hkq
      obtain ⟨inq, hinq⟩ : ∃ inq, inq = (decide (kq < N) && (L.getD kq 0 == x)) := ⟨_, rfl⟩
      have HIN := Lib.hid hinq
      clear hinq
      go_upto_block 2 with fail
      go_cut [11] from 39 to 52 (fun vk wx => vk = .int .i64 (kq : Int) ∧ wx = wr)
      case first =>
        go_wp2_with fail
        go_loopw [11] (fun vk wx => ∃ j : Nat, j ≤ kq ∧ vk = .int .i64 (j : Int) ∧ wx = wr) (fun vk _ => kq - (intOf vk).toNat)
        case atStart => exact ⟨0, by omega, rfl, rfl⟩
        case round =>
          obtain ⟨j, hj, rfl, rfl⟩ := hrel
          by_cases hjk : j < kq
          · obtain ⟨g, rfl, hc⟩ := HCEL.out j (by omega)
            have hlo := HLO.out j hjk
            obtain ⟨z, hz⟩ : ∃ z, z = L.getD j 0 := ⟨_, rfl⟩
            rw [← hz] at hc hlo
            have hbj : 0 ≤ (j : Int) ∧ (j : Int) < (N : Int) := by omega
            clear hz
            go_wp2
            go_roundw
            case rel => exact ⟨j + 1, by omega, by go_num, trivial⟩
            case measure => simp [intOf]; omega
          · have hjk2 : j = kq := by omega
            subst hjk2
            by_cases hjN : j < N
            · obtain ⟨g, rfl, hc⟩ := HCEL.out j hjN
              have hhi := HHI.out hjN
              obtain ⟨z, hz⟩ : ∃ z, z = L.getD j 0 := ⟨_, rfl⟩
              rw [← hz] at hc hhi
              have hbj : 0 ≤ (j : Int) ∧ (j : Int) < (N : Int) := by omega
              have hzx : ¬ z < x := by omega
              have hzd : decide (z < x) = false := by simpa using hhi
              clear hz
              go_wp2_with fail
              go_meet
              case rel => exact ⟨rfl, rfl⟩
            · go_wp2_with fail
              go_meet
              case rel => exact ⟨rfl, rfl⟩
      case rest =>
        obtain ⟨rfl, rfl⟩ := hcut
        go_upto_region 13 with fail
        go_cut [12] from 53 to 64 (fun vi wx => vi = .bool inq ∧ wx = wc)
        case first =>
          by_cases hjN : kq < N
          · obtain ⟨g, rfl, hc⟩ := HCEL.out kq hjN
            obtain ⟨z, hz⟩ : ∃ z, z = L.getD kq 0 := ⟨_, rfl⟩
            have hin2 := HIN.out
            rw [← hz] at hc hin2
            rw [decide_eq_true hjN, Bool.true_and] at hin2
            have hbj : 0 ≤ (kq : Int) ∧ (kq : Int) < (N : Int) := by omega
            clear hz
            go_wp2_with fail
            go_meet
            case rel => exact ⟨by rw [hin2], rfl⟩
          · have hin2 := HIN.out
            rw [decide_eq_false hjN, Bool.false_and] at hin2
            go_wp2_with fail
            go_meet
            case rel => exact ⟨by rw [hin2], rfl⟩
        case rest =>
          obtain ⟨rfl, rfl⟩ := hcut
          by_cases hk0 : kd = 0
          · subst hk0
            cases inq with
            | false =>
              have hSm := O.out.sm
              have hRx := in_false HKK.out O.out.sm HR.out (by rw [← HKQ.out, ← hNN.out, ← O.out.hl]; exact HIN.out.symm)
              have hlt2 := O.out.at'.lt
              rw [HKK.out] at hlt2 hSm
              have CG := Lib.hid (T.p_heard_new x hlt2 (by rw [← HKK.out]; have := O.out.few; omega) (lt_cmp HA.out) (gt_cmp hRx))
              have hat := O.out.at'
              rw [HLN.out, HDN.out, ← hNN.out] at hat
              have HAT := Lib.hid hat
              have HSM : Hid (Sm (A ++ (x, t) :: R)) := Lib.hid (hSm.ins HA.out hRx (by omega))
              have HLC : Hid (L.take kq ++ [x] ++ L.drop kq = (A ++ (x, t) :: R).map (·.1)) := Lib.hid (by rw [O.out.hl, HKK.out, HKQ.out, map_put]; simp)
              have HDC : Hid ((D.take kq ++ [0] ++ D.drop kq).set kq 0 = (A ++ (x, t) :: R).map fun p => t - p.2) := Lib.hid (by
                rw [O.out.hd, HKK.out, HKQ.out, map_put]
                have e1 : (A.map fun p => t - p.2).length = A.length := by simp
                conv => lhs; rw [← e1]
                simp)
              have HFW : Hid ((A ++ (x, t) :: R).length ≤ i + 1) := Lib.hid (by have := O.out.few; rw [HKK.out] at this; simp at this ⊢; omega)
              have HLL : Hid (L.length = N) := Lib.hid (by rw [HLN.out, ← hNN.out])
              have HDD : Hid (D.length = N) := Lib.hid (by rw [HDN.out, ← hNN.out])
              have HTI := Lib.hid O.out.ti
              have HD2 : Hid ((D.take kq ++ [0] ++ D.drop kq).length = N + 1) := Lib.hid (by have := HDD.out; simp; omega)
              have HB1 : Hid (([] : List Int).length + (L.take kq).length ≤ 1000000) := Lib.hid (by have := HLL.out; simp; omega)
              have HB2 : Hid ((L.take kq ++ [x]).length + (L.drop kq).length ≤ 1000000) := Lib.hid (by have := HLL.out; simp; omega)
              have HB3 : Hid ((L.take kq).length + [x].length ≤ 1000000) := Lib.hid (by have := HLL.out; simp; omega)
              have hc1 : (kq : Int) ≤ (N : Int) := by omega
              have hc2 : (N : Int) ≤ (ck : Int) := by omega
              have hc3 : (N : Int) ≤ (ca : Int) := by omega
              have hc7 : (kq : Int) ≤ (ck : Int) := by omega
              have hc8 : (kq : Int) ≤ (ca : Int) := by omega
              clear hRx hSm hlt2 hat O
              go_wp2_with fail
              refine CG.out.mono ?_
              rintro e w5 ⟨v5, rfl, ho5, q5, l5⟩
              have O5 := Lib.hid (HAT.out.timer l5 ho5 q5)
              clear ho5 q5 l5 CG HAT
              go_upto_if 119 with fail
              go_cut [7, 8] from 120 to 140 (fun vk va wx => AT w wx b most t v5 vk va (A ++ (x, t) :: R) (L.take kq ++ [x] ++ L.drop kq) (D.take kq ++ [0] ++ D.drop kq))
              case first =>
                go_upto_region 31 with fail
                go_cut [7] from 120 to 130 (fun vx wx => AT w wx b most t v5 vx (.slice aa N ca) (A ++ (x, t) :: R) (L.take kq ++ [x] ++ L.drop kq) D)
                case first =>
                  rcases own_form O5.out.kr with ⟨rfl, hz1, rfl⟩ | ⟨gk, rfl⟩
                  · obtain rfl : N = 0 := by have := HLL.out; omega
                    obtain rfl : kq = 0 := by omega
                    have hL0 : L = [] := List.eq_nil_of_length_eq_zero (by have := HLL.out; omega)
                    have HS1 : Hid (Sr w5 none 0 (L.take 0)) := Lib.hid (by rw [hL0]; exact .inl ⟨rfl, rfl, by simp⟩)
                    have HS2 : Hid (Sr w5 none 0 (L.drop 0)) := Lib.hid (by rw [hL0]; exact .inl ⟨rfl, rfl, by simp⟩)
                    have HL1 : Hid (0 = (L.take 0).length) := Lib.hid (by rw [hL0]; simp)
                    have HL2 : Hid (0 = (L.drop 0).length) := Lib.hid (by rw [hL0]; simp)
                    clear hL0
                    refine wp_region_any (by kernel_rfl) ?_
                    refine any_take (i := 0) (d := some 120) (v := ?_) rfl (by rfl) (by kernel_rfl) (by kernel_rfl) (by kernel_rfl) (fun _ _ _ h => h) (by rfl) ?_ ?_
                    rotate_left
                    · intro wz
                      go_simp
                      try with_reducible rfl
                    simp only [Act.put, List.setIfInBounds_toArray, List.set_cons_zero, List.set_cons_succ]
                    refine any_take (i := 1) (d := some 121) (v := ?_) rfl (by rfl) (by kernel_rfl) (by kernel_rfl) (by kernel_rfl) (fun _ _ _ h => h) (by rfl) ?_ ?_
                    rotate_left
                    · intro wz
                      go_simp
                      try with_reducible rfl
                    simp only [Act.put, List.setIfInBounds_toArray, List.set_cons_zero, List.set_cons_succ]
                    refine any_take (i := 2) (d := some 122) (v := .slice none 0 0) rfl (by rfl) (by kernel_rfl) (by kernel_rfl) (by kernel_rfl) (fun _ _ _ h => h) (by rfl) ?_ ?_
                    · intro wz
                      go_simp
                    simp only [Act.put, List.setIfInBounds_toArray, List.set_cons_zero, List.set_cons_succ]
                    refine any_take (i := 4) (d := some 124) (v := ?_) rfl (by rfl) (by kernel_rfl) (by kernel_rfl) (by kernel_rfl) (fun _ _ _ h => h) (by rfl) ?_ ?_
                    rotate_left
                    · intro wz
                      go_simp
                      try with_reducible rfl
                    simp only [Act.put, List.setIfInBounds_toArray, List.set_cons_zero, List.set_cons_succ]
                    refine any_take (i := 7) (d := some 127) (v := ?_) rfl (by rfl) (by kernel_rfl) (by kernel_rfl) (by kernel_rfl) (fun _ _ _ h => h) (by rfl) ?_ ?_
                    rotate_left
                    · intro wz
                      go_simp
                      try with_reducible rfl
                    simp only [Act.put, List.setIfInBounds_toArray, List.set_cons_zero, List.set_cons_succ]
                    refine any_take (i := 8) (d := some 128) (v := ?_) rfl (by rfl) (by kernel_rfl) (by kernel_rfl) (by kernel_rfl) (fun _ _ _ h => h) (by rfl) ?_ ?_
                    rotate_left
                    · intro wz
                      go_simp
                      try with_reducible rfl
                    simp only [Act.put, List.setIfInBounds_toArray, List.set_cons_zero, List.set_cons_succ]
                    refine any_take (i := 9) (d := some 129) (v := .slice none 0 0) rfl (by rfl) (by kernel_rfl) (by kernel_rfl) (by kernel_rfl) (fun _ _ _ h => h) (by rfl) ?_ ?_
                    · intro wz
                      go_simp
                    simp only [Act.put, List.setIfInBounds_toArray, List.set_cons_zero, List.set_cons_succ]
                    refine wpAny_ready (rs := [3, 5]) (by kernel_rfl) (by simp) ?_
                    refine AllReady.cons rfl (fun KK hKK => ?_) ?_
                    · refine step_append_i (by rfl) (.const (.slice none 0 0)) (.tmp 122) (by rfl) (.slice none 0 0) [] (by rfl) (World.ownsRow_nil _ _ _ _) none 0 0 (L.take 0) HL1.out (by rfl) (HS1.out.turn (Turn.drew [] w5)) HB1.out ?_
                      intro v1 w7 ho1 hg1 hf1
                      have T1 : Turn [] w5 w7 := (Turn.drew [] w5).trans (Turn.grown (l := []) hg1 (by intro k hk; cases hk)) (by simp)
                      have F1 := new_none w5 v1 hf1
                      refine hKK _ _ ?_
                      show wpAny _ _ _ _ _ _ (Act.put _ (some 123) _) _
                      simp only [Act.put, List.setIfInBounds_toArray, List.set_cons_zero, List.set_cons_succ]
                      refine any_one (i := 5) (by kernel_rfl) (by rfl) (fun KK hKK => ?_)
                      go_simp
                      refine hKK _ _ ?_
                      have hoA := ownsRow_turn ho1 (Turn.alloc [] w7 (.cells #[.int .i64 x] 3)) (fun _ _ => by simp)
                      have HX := Sr.new w7 x 3
                      have TA := T1.trans (Turn.alloc [] w7 (.cells #[.int .i64 x] 3)) (by simp)
                      obtain ⟨bx, hbx⟩ : ∃ bx, bx = w7.heap.size := ⟨_, rfl⟩
                      obtain ⟨wA, hwA⟩ : ∃ wA, wA = w7.alloc (.cells #[.int .i64 x] 3) := ⟨_, rfl⟩
                      rw [← hbx] at HX ⊢
                      rw [← hwA] at hoA HX TA ⊢
                      refine any_one (i := 6) (by kernel_rfl) (by rfl) (fun KK hKK => ?_)
                      refine step_append_i (by rfl) (.tmp 123) (.tmp 125) (by rfl) v1 (L.take 0) (by rfl) hoA (some ⟨bx, 0, none⟩) 1 1 [x] (by rfl) (by rfl) HX HB3.out ?_
                      intro v2 w8 ho2 hg2 hf2
                      have T2 : Turn [] w5 w8 := TA.trans (Turn.grown (l := v1.ownBlock.toList) hg2 (by intro j hj; simp [hj])) (fun i hi => .inr (F1 i (by simpa using hi)))
                      have F2 := new_of F1 TA.size hf2
                      refine hKK _ _ ?_
                      show wpAny _ _ _ _ _ _ (Act.put _ (some 126) _) _
                      simp only [Act.put, List.setIfInBounds_toArray, List.set_cons_zero, List.set_cons_succ]
                      refine any_one (i := 10) (by kernel_rfl) (by rfl) (fun KK hKK => ?_)
                      refine step_append_i (by rfl) (.tmp 126) (.tmp 129) (by rfl) v2 (L.take 0 ++ [x]) (by rfl) ho2 none 0 0 (L.drop 0) HL2.out (by rfl) (HS2.out.turn T2) HB2.out ?_
                      intro v3 w9 ho3 hg3 hf3
                      have T3 : Turn [] w5 w9 := T2.trans (Turn.grown (l := v2.ownBlock.toList) hg3 (by intro j hj; simp [hj])) (fun i hi => .inr (F2 i (by simpa using hi)))
                      have F3 := new_of F2 T2.size hf3
                      refine hKK _ _ ?_
                      show wpAny _ _ _ _ _ _ (Act.put _ (some 130) _) _
                      simp only [Act.put, List.setIfInBounds_toArray, List.set_cons_zero, List.set_cons_succ]
                      refine any_take (i := 11) (d := some 7) (v := ?_) rfl (by rfl) (by kernel_rfl) (by kernel_rfl) (by kernel_rfl) (fun _ _ _ h => h) (by rfl) ?_ ?_
                      rotate_left
                      · intro wz
                        go_simp
                        try with_reducible rfl
                      simp only [Act.put, List.setIfInBounds_toArray, List.set_cons_zero, List.set_cons_succ]
                      refine any_done (by kernel_rfl) ?_ _
                      have HT3 := Lib.hid T3
                      have HO3 := Lib.hid ho3
                      have HF3 := Lib.hid F3
                      clear ho1 hg1 hf1 T1 F1 ho2 hg2 hf2 T2 F2 hoA HX TA ho3 hg3 hf3 T3 F3
                      go_wp2_with fail
                      go_meet
                      case rel => exact O5.out.setK HT3.out HO3.out HF3.out
                    refine AllReady.cons rfl (fun KK hKK => ?_) ?_
                    · go_simp
                      refine hKK _ _ ?_
                      have TB : Turn [] w5 ((w5.alloc (.cells #[.int .i64 x] 3)).drew) := (Turn.alloc [] w5 (.cells #[.int .i64 x] 3)).trans (Turn.drew [] _) (by simp)
                      have HX0 := (Sr.new w5 x 3).turn (Turn.drew [] _)
                      obtain ⟨bx, hbx⟩ : ∃ bx, bx = w5.heap.size := ⟨_, rfl⟩
                      obtain ⟨wB, hwB⟩ : ∃ wB, wB = (w5.alloc (.cells #[.int .i64 x] 3)).drew := ⟨_, rfl⟩
                      rw [← hbx] at HX0 ⊢
                      rw [← hwB] at TB HX0 ⊢
                      refine any_one (i := 3) (by kernel_rfl) (by rfl) (fun KK hKK => ?_)
                      refine step_append_i (by rfl) (.const (.slice none 0 0)) (.tmp 122) (by rfl) (.slice none 0 0) [] (by rfl) (World.ownsRow_nil _ _ _ _) none 0 0 (L.take 0) HL1.out (by rfl) (HS1.out.turn TB) HB1.out ?_
                      intro v1 w7 ho1 hg1 hf1
                      have TG : Turn [] wB w7 := Turn.grown (l := []) hg1 (by intro k hk; cases hk)
                      have T1 : Turn [] w5 w7 := TB.trans TG (by simp)
                      have F1 := new_none2 TB.size hf1
                      refine hKK _ _ ?_
                      show wpAny _ _ _ _ _ _ (Act.put _ (some 123) _) _
                      simp only [Act.put, List.setIfInBounds_toArray, List.set_cons_zero, List.set_cons_succ]
                      have hoA := ho1
                      have HX := HX0.turn TG
                      have TA := T1
                      refine any_one (i := 6) (by kernel_rfl) (by rfl) (fun KK hKK => ?_)
                      refine step_append_i (by rfl) (.tmp 123) (.tmp 125) (by rfl) v1 (L.take 0) (by rfl) hoA (some ⟨bx, 0, none⟩) 1 1 [x] (by rfl) (by rfl) HX HB3.out ?_
                      intro v2 w8 ho2 hg2 hf2
                      have T2 : Turn [] w5 w8 := TA.trans (Turn.grown (l := v1.ownBlock.toList) hg2 (by intro j hj; simp [hj])) (fun i hi => .inr (F1 i (by simpa using hi)))
                      have F2 := new_of F1 TA.size hf2
                      refine hKK _ _ ?_
                      show wpAny _ _ _ _ _ _ (Act.put _ (some 126) _) _
                      simp only [Act.put, List.setIfInBounds_toArray, List.set_cons_zero, List.set_cons_succ]
                      refine any_one (i := 10) (by kernel_rfl) (by rfl) (fun KK hKK => ?_)
                      refine step_append_i (by rfl) (.tmp 126) (.tmp 129) (by rfl) v2 (L.take 0 ++ [x]) (by rfl) ho2 none 0 0 (L.drop 0) HL2.out (by rfl) (HS2.out.turn T2) HB2.out ?_
                      intro v3 w9 ho3 hg3 hf3
                      have T3 : Turn [] w5 w9 := T2.trans (Turn.grown (l := v2.ownBlock.toList) hg3 (by intro j hj; simp [hj])) (fun i hi => .inr (F2 i (by simpa using hi)))
                      have F3 := new_of F2 T2.size hf3
                      refine hKK _ _ ?_
                      show wpAny _ _ _ _ _ _ (Act.put _ (some 130) _) _
                      simp only [Act.put, List.setIfInBounds_toArray, List.set_cons_zero, List.set_cons_succ]
                      refine any_take (i := 11) (d := some 7) (v := ?_) rfl (by rfl) (by kernel_rfl) (by kernel_rfl) (by kernel_rfl) (fun _ _ _ h => h) (by rfl) ?_ ?_
                      rotate_left
                      · intro wz
                        go_simp
                        try with_reducible rfl
                      simp only [Act.put, List.setIfInBounds_toArray, List.set_cons_zero, List.set_cons_succ]
                      refine any_done (by kernel_rfl) ?_ _
                      have HT3 := Lib.hid T3
                      have HO3 := Lib.hid ho3
                      have HF3 := Lib.hid F3
                      clear ho1 hg1 hf1 T1 F1 ho2 hg2 hf2 T2 F2 hoA HX TA ho3 hg3 hf3 T3 F3
                      go_wp2_with fail
                      go_meet
                      case rel => exact O5.out.setK HT3.out HO3.out HF3.out
                    exact AllReady.nil
                  · have HC5 := Lib.hid (own_cells O5.out.kr)
                    obtain ⟨A2, hA2⟩ : ∃ A2, (if ck = kq then some (⟨gk, 0, none⟩ : Addr) else some ⟨gk, kq, none⟩) = some A2 := by
                      by_cases e : ck = kq
                      · exact ⟨_, if_pos e⟩
                      · exact ⟨_, if_neg e⟩
                    have HS1 : Hid (Sr w5 (some ⟨gk, 0, none⟩) ck (L.take kq)) := Lib.hid (Sr.part HC5.out (take_get L kq))
                    have HS2 : Hid (Sr w5 (some A2) (ck - kq) (L.drop kq)) := Lib.hid (by
                      by_cases e : ck = kq
                      · rw [if_pos e] at hA2
                        have h0 : L.drop kq = [] := List.drop_eq_nil_of_le (by have := HLL.out; omega)
                        rw [h0]
                        exact .inr ⟨_, rfl, fun j hj => absurd hj (Nat.not_lt_zero j)⟩
                      · rw [if_neg e] at hA2
                        cases hA2
                        exact Sr.part HC5.out (drop_get L kq))
                    have HA2 := Lib.hid hA2
                    have HL1 : Hid (kq = (L.take kq).length) := Lib.hid (by rw [List.length_take]; have := HLL.out; omega)
                    have HL2 : Hid (N - kq = (L.drop kq).length) := Lib.hid (by rw [List.length_drop, HLL.out])
                    clear hA2
                    refine wp_region_any (by kernel_rfl) ?_
                    refine any_take (i := 0) (d := some 120) (v := ?_) rfl (by rfl) (by kernel_rfl) (by kernel_rfl) (by kernel_rfl) (fun _ _ _ h => h) (by rfl) ?_ ?_
                    rotate_left
                    · intro wz
                      go_simp
                      try with_reducible rfl
                    simp only [Act.put, List.setIfInBounds_toArray, List.set_cons_zero, List.set_cons_succ]
                    refine any_take (i := 1) (d := some 121) (v := ?_) rfl (by rfl) (by kernel_rfl) (by kernel_rfl) (by kernel_rfl) (fun _ _ _ h => h) (by rfl) ?_ ?_
                    rotate_left
                    · intro wz
                      go_simp
                      try with_reducible rfl
                    simp only [Act.put, List.setIfInBounds_toArray, List.set_cons_zero, List.set_cons_succ]
                    refine any_take (i := 2) (d := some 122) (v := .slice (some ⟨gk, 0, none⟩) kq ck) rfl (by rfl) (by kernel_rfl) (by kernel_rfl) (by kernel_rfl) (fun _ _ _ h => h) (by rfl) ?_ ?_
                    · intro wz
                      go_simp
                    simp only [Act.put, List.setIfInBounds_toArray, List.set_cons_zero, List.set_cons_succ]
                    refine any_take (i := 4) (d := some 124) (v := ?_) rfl (by rfl) (by kernel_rfl) (by kernel_rfl) (by kernel_rfl) (fun _ _ _ h => h) (by rfl) ?_ ?_
                    rotate_left
                    · intro wz
                      go_simp
                      try with_reducible rfl
                    simp only [Act.put, List.setIfInBounds_toArray, List.set_cons_zero, List.set_cons_succ]
                    refine any_take (i := 7) (d := some 127) (v := ?_) rfl (by rfl) (by kernel_rfl) (by kernel_rfl) (by kernel_rfl) (fun _ _ _ h => h) (by rfl) ?_ ?_
                    rotate_left
                    · intro wz
                      go_simp
                      try with_reducible rfl
                    simp only [Act.put, List.setIfInBounds_toArray, List.set_cons_zero, List.set_cons_succ]
                    refine any_take (i := 8) (d := some 128) (v := ?_) rfl (by rfl) (by kernel_rfl) (by kernel_rfl) (by kernel_rfl) (fun _ _ _ h => h) (by rfl) ?_ ?_
                    rotate_left
                    · intro wz
                      go_simp
                      try with_reducible rfl
                    simp only [Act.put, List.setIfInBounds_toArray, List.set_cons_zero, List.set_cons_succ]
                    have hA2 := HA2.out
                    refine any_take (i := 9) (d := some 129) (v := .slice (some A2) (N - kq) (ck - kq)) rfl (by rfl) (by kernel_rfl) (by kernel_rfl) (by kernel_rfl) (fun _ _ _ h => h) (by rfl) ?_ ?_
                    · intro wz
                      go_simp
                    simp only [Act.put, List.setIfInBounds_toArray, List.set_cons_zero, List.set_cons_succ]
                    clear hA2
                    refine wpAny_ready (rs := [3, 5]) (by kernel_rfl) (by simp) ?_
                    refine AllReady.cons rfl (fun KK hKK => ?_) ?_
                    · refine step_append_i (by rfl) (.const (.slice none 0 0)) (.tmp 122) (by rfl) (.slice none 0 0) [] (by rfl) (World.ownsRow_nil _ _ _ _) (some ⟨gk, 0, none⟩) kq ck (L.take kq) HL1.out (by rfl) (HS1.out.turn (Turn.drew [] w5)) HB1.out ?_
                      intro v1 w7 ho1 hg1 hf1
                      have T1 : Turn [] w5 w7 := (Turn.drew [] w5).trans (Turn.grown (l := []) hg1 (by intro k hk; cases hk)) (by simp)
                      have F1 := new_none w5 v1 hf1
                      refine hKK _ _ ?_
                      show wpAny _ _ _ _ _ _ (Act.put _ (some 123) _) _
                      simp only [Act.put, List.setIfInBounds_toArray, List.set_cons_zero, List.set_cons_succ]
                      refine any_one (i := 5) (by kernel_rfl) (by rfl) (fun KK hKK => ?_)
                      go_simp
                      refine hKK _ _ ?_
                      have hoA := ownsRow_turn ho1 (Turn.alloc [] w7 (.cells #[.int .i64 x] 3)) (fun _ _ => by simp)
                      have HX := Sr.new w7 x 3
                      have TA := T1.trans (Turn.alloc [] w7 (.cells #[.int .i64 x] 3)) (by simp)
                      obtain ⟨bx, hbx⟩ : ∃ bx, bx = w7.heap.size := ⟨_, rfl⟩
                      obtain ⟨wA, hwA⟩ : ∃ wA, wA = w7.alloc (.cells #[.int .i64 x] 3) := ⟨_, rfl⟩
                      rw [← hbx] at HX ⊢
                      rw [← hwA] at hoA HX TA ⊢
                      refine any_one (i := 6) (by kernel_rfl) (by rfl) (fun KK hKK => ?_)
                      refine step_append_i (by rfl) (.tmp 123) (.tmp 125) (by rfl) v1 (L.take kq) (by rfl) hoA (some ⟨bx, 0, none⟩) 1 1 [x] (by rfl) (by rfl) HX HB3.out ?_
                      intro v2 w8 ho2 hg2 hf2
                      have T2 : Turn [] w5 w8 := TA.trans (Turn.grown (l := v1.ownBlock.toList) hg2 (by intro j hj; simp [hj])) (fun i hi => .inr (F1 i (by simpa using hi)))
                      have F2 := new_of F1 TA.size hf2
                      refine hKK _ _ ?_
                      show wpAny _ _ _ _ _ _ (Act.put _ (some 126) _) _
                      simp only [Act.put, List.setIfInBounds_toArray, List.set_cons_zero, List.set_cons_succ]
                      refine any_one (i := 10) (by kernel_rfl) (by rfl) (fun KK hKK => ?_)
                      refine step_append_i (by rfl) (.tmp 126) (.tmp 129) (by rfl) v2 (L.take kq ++ [x]) (by rfl) ho2 (some A2) (N - kq) (ck - kq) (L.drop kq) HL2.out (by rfl) (HS2.out.turn T2) HB2.out ?_
                      intro v3 w9 ho3 hg3 hf3
                      have T3 : Turn [] w5 w9 := T2.trans (Turn.grown (l := v2.ownBlock.toList) hg3 (by intro j hj; simp [hj])) (fun i hi => .inr (F2 i (by simpa using hi)))
                      have F3 := new_of F2 T2.size hf3
                      refine hKK _ _ ?_
                      show wpAny _ _ _ _ _ _ (Act.put _ (some 130) _) _
                      simp only [Act.put, List.setIfInBounds_toArray, List.set_cons_zero, List.set_cons_succ]
                      refine any_take (i := 11) (d := some 7) (v := ?_) rfl (by rfl) (by kernel_rfl) (by kernel_rfl) (by kernel_rfl) (fun _ _ _ h => h) (by rfl) ?_ ?_
                      rotate_left
                      · intro wz
                        go_simp
                        try with_reducible rfl
                      simp only [Act.put, List.setIfInBounds_toArray, List.set_cons_zero, List.set_cons_succ]
                      refine any_done (by kernel_rfl) ?_ _
                      have HT3 := Lib.hid T3
                      have HO3 := Lib.hid ho3
                      have HF3 := Lib.hid F3
                      clear ho1 hg1 hf1 T1 F1 ho2 hg2 hf2 T2 F2 hoA HX TA ho3 hg3 hf3 T3 F3
                      go_wp2_with fail
                      go_meet
                      case rel => exact O5.out.setK HT3.out HO3.out HF3.out
                    refine AllReady.cons rfl (fun KK hKK => ?_) ?_
                    · go_simp
                      refine hKK _ _ ?_
                      have TB : Turn [] w5 ((w5.alloc (.cells #[.int .i64 x] 3)).drew) := (Turn.alloc [] w5 (.cells #[.int .i64 x] 3)).trans (Turn.drew [] _) (by simp)
                      have HX0 := (Sr.new w5 x 3).turn (Turn.drew [] _)
                      obtain ⟨bx, hbx⟩ : ∃ bx, bx = w5.heap.size := ⟨_, rfl⟩
                      obtain ⟨wB, hwB⟩ : ∃ wB, wB = (w5.alloc (.cells #[.int .i64 x] 3)).drew := ⟨_, rfl⟩
                      rw [← hbx] at HX0 ⊢
                      rw [← hwB] at TB HX0 ⊢
                      refine any_one (i := 3) (by kernel_rfl) (by rfl) (fun KK hKK => ?_)
                      refine step_append_i (by rfl) (.const (.slice none 0 0)) (.tmp 122) (by rfl) (.slice none 0 0) [] (by rfl) (World.ownsRow_nil _ _ _ _) (some ⟨gk, 0, none⟩) kq ck (L.take kq) HL1.out (by rfl) (HS1.out.turn TB) HB1.out ?_
                      intro v1 w7 ho1 hg1 hf1
                      have TG : Turn [] wB w7 := Turn.grown (l := []) hg1 (by intro k hk; cases hk)
                      have T1 : Turn [] w5 w7 := TB.trans TG (by simp)
                      have F1 := new_none2 TB.size hf1
                      refine hKK _ _ ?_
                      show wpAny _ _ _ _ _ _ (Act.put _ (some 123) _) _
                      simp only [Act.put, List.setIfInBounds_toArray, List.set_cons_zero, List.set_cons_succ]
                      have hoA := ho1
                      have HX := HX0.turn TG
                      have TA := T1
                      refine any_one (i := 6) (by kernel_rfl) (by rfl) (fun KK hKK => ?_)
                      refine step_append_i (by rfl) (.tmp 123) (.tmp 125) (by rfl) v1 (L.take kq) (by rfl) hoA (some ⟨bx, 0, none⟩) 1 1 [x] (by rfl) (by rfl) HX HB3.out ?_
                      intro v2 w8 ho2 hg2 hf2
                      have T2 : Turn [] w5 w8 := TA.trans (Turn.grown (l := v1.ownBlock.toList) hg2 (by intro j hj; simp [hj])) (fun i hi => .inr (F1 i (by simpa using hi)))
                      have F2 := new_of F1 TA.size hf2
                      refine hKK _ _ ?_
                      show wpAny _ _ _ _ _ _ (Act.put _ (some 126) _) _
                      simp only [Act.put, List.setIfInBounds_toArray, List.set_cons_zero, List.set_cons_succ]
                      refine any_one (i := 10) (by kernel_rfl) (by rfl) (fun KK hKK => ?_)
                      refine step_append_i (by rfl) (.tmp 126) (.tmp 129) (by rfl) v2 (L.take kq ++ [x]) (by rfl) ho2 (some A2) (N - kq) (ck - kq) (L.drop kq) HL2.out (by rfl) (HS2.out.turn T2) HB2.out ?_
                      intro v3 w9 ho3 hg3 hf3
                      have T3 : Turn [] w5 w9 := T2.trans (Turn.grown (l := v2.ownBlock.toList) hg3 (by intro j hj; simp [hj])) (fun i hi => .inr (F2 i (by simpa using hi)))
                      have F3 := new_of F2 T2.size hf3
                      refine hKK _ _ ?_
                      show wpAny _ _ _ _ _ _ (Act.put _ (some 130) _) _
                      simp only [Act.put, List.setIfInBounds_toArray, List.set_cons_zero, List.set_cons_succ]
                      refine any_take (i := 11) (d := some 7) (v := ?_) rfl (by rfl) (by kernel_rfl) (by kernel_rfl) (by kernel_rfl) (fun _ _ _ h => h) (by rfl) ?_ ?_
                      rotate_left
                      · intro wz
                        go_simp
                        try with_reducible rfl
                      simp only [Act.put, List.setIfInBounds_toArray, List.set_cons_zero, List.set_cons_succ]
                      refine any_done (by kernel_rfl) ?_ _
                      have HT3 := Lib.hid T3
                      have HO3 := Lib.hid ho3
                      have HF3 := Lib.hid F3
                      clear ho1 hg1 hf1 T1 F1 ho2 hg2 hf2 T2 F2 hoA HX TA ho3 hg3 hf3 T3 F3
                      go_wp2_with fail
                      go_meet
                      case rel => exact O5.out.setK HT3.out HO3.out HF3.out
                    exact AllReady.nil
                case rest =>
                  obtain ⟨w6, hw6⟩ : ∃ w6, w6 = wc := ⟨_, rfl⟩
                  subst hw6
                  have O6 := Lib.hid hcut
                  have HB1 : Hid (([] : List Int).length + (D.take kq).length ≤ 1000000) := Lib.hid (by have := HDD.out; simp; omega)
                  have HB2 : Hid ((D.take kq ++ [0]).length + (D.drop kq).length ≤ 1000000) := Lib.hid (by have := HDD.out; simp; omega)
                  have HB3 : Hid ((D.take kq).length + [(0 : Int)].length ≤ 1000000) := Lib.hid (by have := HDD.out; simp; omega)
                  clear hcut O5
                  rcases own_form O6.out.ar with ⟨rfl, hz1, rfl⟩ | ⟨ga, rfl⟩
                  · obtain rfl : N = 0 := by have := HDD.out; omega
                    obtain rfl : kq = 0 := by omega
                    go_wp2_with fail
                    have hL0 : D = [] := List.eq_nil_of_length_eq_zero (by have := HDD.out; omega)
                    have HS1 : Hid (Sr w6 none 0 (D.take 0)) := Lib.hid (by rw [hL0]; exact .inl ⟨rfl, rfl, by simp⟩)
                    have HS2 : Hid (Sr w6 none 0 (D.drop 0)) := Lib.hid (by rw [hL0]; exact .inl ⟨rfl, rfl, by simp⟩)
                    have HL1 : Hid (0 = (D.take 0).length) := Lib.hid (by rw [hL0]; simp)
                    have HL2 : Hid (0 = (D.drop 0).length) := Lib.hid (by rw [hL0]; simp)
                    clear hL0
                    refine wp_region_any (by kernel_rfl) ?_
                    refine any_take (i := 0) (d := some 131) (v := ?_) rfl (by rfl) (by kernel_rfl) (by kernel_rfl) (by kernel_rfl) (fun _ _ _ h => h) (by rfl) ?_ ?_
                    rotate_left
                    · intro wz
                      go_simp
                      try with_reducible rfl
                    simp only [Act.put, List.setIfInBounds_toArray, List.set_cons_zero, List.set_cons_succ]
                    refine any_take (i := 1) (d := some 132) (v := ?_) rfl (by rfl) (by kernel_rfl) (by kernel_rfl) (by kernel_rfl) (fun _ _ _ h => h) (by rfl) ?_ ?_
                    rotate_left
                    · intro wz
                      go_simp
                      try with_reducible rfl
                    simp only [Act.put, List.setIfInBounds_toArray, List.set_cons_zero, List.set_cons_succ]
                    refine any_take (i := 2) (d := some 133) (v := .slice none 0 0) rfl (by rfl) (by kernel_rfl) (by kernel_rfl) (by kernel_rfl) (fun _ _ _ h => h) (by rfl) ?_ ?_
                    · intro wz
                      go_simp
                    simp only [Act.put, List.setIfInBounds_toArray, List.set_cons_zero, List.set_cons_succ]
                    refine any_take (i := 6) (d := some 137) (v := ?_) rfl (by rfl) (by kernel_rfl) (by kernel_rfl) (by kernel_rfl) (fun _ _ _ h => h) (by rfl) ?_ ?_
                    rotate_left
                    · intro wz
                      go_simp
                      try with_reducible rfl
                    simp only [Act.put, List.setIfInBounds_toArray, List.set_cons_zero, List.set_cons_succ]
                    refine any_take (i := 7) (d := some 138) (v := ?_) rfl (by rfl) (by kernel_rfl) (by kernel_rfl) (by kernel_rfl) (fun _ _ _ h => h) (by rfl) ?_ ?_
                    rotate_left
                    · intro wz
                      go_simp
                      try with_reducible rfl
                    simp only [Act.put, List.setIfInBounds_toArray, List.set_cons_zero, List.set_cons_succ]
                    refine any_take (i := 8) (d := some 139) (v := .slice none 0 0) rfl (by rfl) (by kernel_rfl) (by kernel_rfl) (by kernel_rfl) (fun _ _ _ h => h) (by rfl) ?_ ?_
                    · intro wz
                      go_simp
                    simp only [Act.put, List.setIfInBounds_toArray, List.set_cons_zero, List.set_cons_succ]
                    refine wpAny_ready (rs := [3, 4]) (by kernel_rfl) (by simp) ?_
                    refine AllReady.cons rfl (fun KK hKK => ?_) ?_
                    · refine step_append_i (by rfl) (.const (.slice none 0 0)) (.tmp 133) (by rfl) (.slice none 0 0) [] (by rfl) (World.ownsRow_nil _ _ _ _) none 0 0 (D.take 0) HL1.out (by rfl) (HS1.out.turn (Turn.drew [] w6)) HB1.out ?_
                      intro v1 w7 ho1 hg1 hf1
                      have T1 : Turn [] w6 w7 := (Turn.drew [] w6).trans (Turn.grown (l := []) hg1 (by intro k hk; cases hk)) (by simp)
                      have F1 := new_none w6 v1 hf1
                      refine hKK _ _ ?_
                      show wpAny _ _ _ _ _ _ (Act.put _ (some 134) _) _
                      simp only [Act.put, List.setIfInBounds_toArray, List.set_cons_zero, List.set_cons_succ]
                      refine any_one (i := 4) (by kernel_rfl) (by rfl) (fun KK hKK => ?_)
                      go_simp
                      refine hKK _ _ ?_
                      have hoA := ownsRow_turn ho1 (Turn.alloc [] w7 (.cells #[.int .i64 0] 3)) (fun _ _ => by simp)
                      have HX := Sr.new w7 0 3
                      have TA := T1.trans (Turn.alloc [] w7 (.cells #[.int .i64 0] 3)) (by simp)
                      obtain ⟨bx, hbx⟩ : ∃ bx, bx = w7.heap.size := ⟨_, rfl⟩
                      obtain ⟨wA, hwA⟩ : ∃ wA, wA = w7.alloc (.cells #[.int .i64 0] 3) := ⟨_, rfl⟩
                      rw [← hbx] at HX ⊢
                      rw [← hwA] at hoA HX TA ⊢
                      refine any_one (i := 5) (by kernel_rfl) (by rfl) (fun KK hKK => ?_)
                      refine step_append_i (by rfl) (.tmp 134) (.tmp 135) (by rfl) v1 (D.take 0) (by rfl) hoA (some ⟨bx, 0, none⟩) 1 1 [0] (by rfl) (by rfl) HX HB3.out ?_
                      intro v2 w8 ho2 hg2 hf2
                      have T2 : Turn [] w6 w8 := TA.trans (Turn.grown (l := v1.ownBlock.toList) hg2 (by intro j hj; simp [hj])) (fun i hi => .inr (F1 i (by simpa using hi)))
                      have F2 := new_of F1 TA.size hf2
                      refine hKK _ _ ?_
                      show wpAny _ _ _ _ _ _ (Act.put _ (some 136) _) _
                      simp only [Act.put, List.setIfInBounds_toArray, List.set_cons_zero, List.set_cons_succ]
                      refine any_one (i := 9) (by kernel_rfl) (by rfl) (fun KK hKK => ?_)
                      refine step_append_i (by rfl) (.tmp 136) (.tmp 139) (by rfl) v2 (D.take 0 ++ [0]) (by rfl) ho2 none 0 0 (D.drop 0) HL2.out (by rfl) (HS2.out.turn T2) HB2.out ?_
                      intro v3 w9 ho3 hg3 hf3
                      have T3 : Turn [] w6 w9 := T2.trans (Turn.grown (l := v2.ownBlock.toList) hg3 (by intro j hj; simp [hj])) (fun i hi => .inr (F2 i (by simpa using hi)))
                      have F3 := new_of F2 T2.size hf3
                      refine hKK _ _ ?_
                      show wpAny _ _ _ _ _ _ (Act.put _ (some 140) _) _
                      simp only [Act.put, List.setIfInBounds_toArray, List.set_cons_zero, List.set_cons_succ]
                      refine any_take (i := 10) (d := some 8) (v := ?_) rfl (by rfl) (by kernel_rfl) (by kernel_rfl) (by kernel_rfl) (fun _ _ _ h => h) (by rfl) ?_ ?_
                      rotate_left
                      · intro wz
                        go_simp
                        try with_reducible rfl
                      simp only [Act.put, List.setIfInBounds_toArray, List.set_cons_zero, List.set_cons_succ]
                      refine any_done (by kernel_rfl) ?_ _
                      have HT3 := Lib.hid T3
                      have HO3 := Lib.hid ho3
                      have HF3 := Lib.hid F3
                      clear ho1 hg1 hf1 T1 F1 ho2 hg2 hf2 T2 F2 hoA HX TA ho3 hg3 hf3 T3 F3
                      go_wp2_with fail
                      go_meet
                      case rel => exact O6.out.setA HT3.out HO3.out HF3.out
                    refine AllReady.cons rfl (fun KK hKK => ?_) ?_
                    · go_simp
                      refine hKK _ _ ?_
                      have TB : Turn [] w6 ((w6.alloc (.cells #[.int .i64 0] 3)).drew) := (Turn.alloc [] w6 (.cells #[.int .i64 0] 3)).trans (Turn.drew [] _) (by simp)
                      have HX0 := (Sr.new w6 0 3).turn (Turn.drew [] _)
                      obtain ⟨bx, hbx⟩ : ∃ bx, bx = w6.heap.size := ⟨_, rfl⟩
                      obtain ⟨wB, hwB⟩ : ∃ wB, wB = (w6.alloc (.cells #[.int .i64 0] 3)).drew := ⟨_, rfl⟩
                      rw [← hbx] at HX0 ⊢
                      rw [← hwB] at TB HX0 ⊢
                      refine any_one (i := 3) (by kernel_rfl) (by rfl) (fun KK hKK => ?_)
                      refine step_append_i (by rfl) (.const (.slice none 0 0)) (.tmp 133) (by rfl) (.slice none 0 0) [] (by rfl) (World.ownsRow_nil _ _ _ _) none 0 0 (D.take 0) HL1.out (by rfl) (HS1.out.turn TB) HB1.out ?_
                      intro v1 w7 ho1 hg1 hf1
                      have TG : Turn [] wB w7 := Turn.grown (l := []) hg1 (by intro k hk; cases hk)
                      have T1 : Turn [] w6 w7 := TB.trans TG (by simp)
                      have F1 := new_none2 TB.size hf1
                      refine hKK _ _ ?_
                      show wpAny _ _ _ _ _ _ (Act.put _ (some 134) _) _
                      simp only [Act.put, List.setIfInBounds_toArray, List.set_cons_zero, List.set_cons_succ]
                      have hoA := ho1
                      have HX := HX0.turn TG
                      have TA := T1
                      refine any_one (i := 5) (by kernel_rfl) (by rfl) (fun KK hKK => ?_)
                      refine step_append_i (by rfl) (.tmp 134) (.tmp 135) (by rfl) v1 (D.take 0) (by rfl) hoA (some ⟨bx, 0, none⟩) 1 1 [0] (by rfl) (by rfl) HX HB3.out ?_
                      intro v2 w8 ho2 hg2 hf2
                      have T2 : Turn [] w6 w8 := TA.trans (Turn.grown (l := v1.ownBlock.toList) hg2 (by intro j hj; simp [hj])) (fun i hi => .inr (F1 i (by simpa using hi)))
                      have F2 := new_of F1 TA.size hf2
                      refine hKK _ _ ?_
                      show wpAny _ _ _ _ _ _ (Act.put _ (some 136) _) _
                      simp only [Act.put, List.setIfInBounds_toArray, List.set_cons_zero, List.set_cons_succ]
                      refine any_one (i := 9) (by kernel_rfl) (by rfl) (fun KK hKK => ?_)
                      refine step_append_i (by rfl) (.tmp 136) (.tmp 139) (by rfl) v2 (D.take 0 ++ [0]) (by rfl) ho2 none 0 0 (D.drop 0) HL2.out (by rfl) (HS2.out.turn T2) HB2.out ?_
                      intro v3 w9 ho3 hg3 hf3
                      have T3 : Turn [] w6 w9 := T2.trans (Turn.grown (l := v2.ownBlock.toList) hg3 (by intro j hj; simp [hj])) (fun i hi => .inr (F2 i (by simpa using hi)))
                      have F3 := new_of F2 T2.size hf3
                      refine hKK _ _ ?_
                      show wpAny _ _ _ _ _ _ (Act.put _ (some 140) _) _
                      simp only [Act.put, List.setIfInBounds_toArray, List.set_cons_zero, List.set_cons_succ]
                      refine any_take (i := 10) (d := some 8) (v := ?_) rfl (by rfl) (by kernel_rfl) (by kernel_rfl) (by kernel_rfl) (fun _ _ _ h => h) (by rfl) ?_ ?_
                      rotate_left
                      · intro wz
                        go_simp
                        try with_reducible rfl
                      simp only [Act.put, List.setIfInBounds_toArray, List.set_cons_zero, List.set_cons_succ]
                      refine any_done (by kernel_rfl) ?_ _
                      have HT3 := Lib.hid T3
                      have HO3 := Lib.hid ho3
                      have HF3 := Lib.hid F3
                      clear ho1 hg1 hf1 T1 F1 ho2 hg2 hf2 T2 F2 hoA HX TA ho3 hg3 hf3 T3 F3
                      go_wp2_with fail
                      go_meet
                      case rel => exact O6.out.setA HT3.out HO3.out HF3.out
                    exact AllReady.nil
                  · have HC6 := Lib.hid (own_cells O6.out.ar)
                    go_wp2_with fail
                    obtain ⟨A2, hA2⟩ : ∃ A2, (if ca = kq then some (⟨ga, 0, none⟩ : Addr) else some ⟨ga, kq, none⟩) = some A2 := by
                      by_cases e : ca = kq
                      · exact ⟨_, if_pos e⟩
                      · exact ⟨_, if_neg e⟩
                    have HS1 : Hid (Sr w6 (some ⟨ga, 0, none⟩) ca (D.take kq)) := Lib.hid (Sr.part HC6.out (take_get D kq))
                    have HS2 : Hid (Sr w6 (some A2) (ca - kq) (D.drop kq)) := Lib.hid (by
                      by_cases e : ca = kq
                      · rw [if_pos e] at hA2
                        have h0 : D.drop kq = [] := List.drop_eq_nil_of_le (by have := HDD.out; omega)
                        rw [h0]
                        exact .inr ⟨_, rfl, fun j hj => absurd hj (Nat.not_lt_zero j)⟩
                      · rw [if_neg e] at hA2
                        cases hA2
                        exact Sr.part HC6.out (drop_get D kq))
                    have HA2 := Lib.hid hA2
                    have HL1 : Hid (kq = (D.take kq).length) := Lib.hid (by rw [List.length_take]; have := HDD.out; omega)
                    have HL2 : Hid (N - kq = (D.drop kq).length) := Lib.hid (by rw [List.length_drop, HDD.out])
                    clear hA2
                    refine wp_region_any (by kernel_rfl) ?_
                    refine any_take (i := 0) (d := some 131) (v := ?_) rfl (by rfl) (by kernel_rfl) (by kernel_rfl) (by kernel_rfl) (fun _ _ _ h => h) (by rfl) ?_ ?_
                    rotate_left
                    · intro wz
                      go_simp
                      try with_reducible rfl
                    simp only [Act.put, List.setIfInBounds_toArray, List.set_cons_zero, List.set_cons_succ]
                    refine any_take (i := 1) (d := some 132) (v := ?_) rfl (by rfl) (by kernel_rfl) (by kernel_rfl) (by kernel_rfl) (fun _ _ _ h => h) (by rfl) ?_ ?_
                    rotate_left
                    · intro wz
                      go_simp
                      try with_reducible rfl
                    simp only [Act.put, List.setIfInBounds_toArray, List.set_cons_zero, List.set_cons_succ]
                    refine any_take (i := 2) (d := some 133) (v := .slice (some ⟨ga, 0, none⟩) kq ca) rfl (by rfl) (by kernel_rfl) (by kernel_rfl) (by kernel_rfl) (fun _ _ _ h => h) (by rfl) ?_ ?_
                    · intro wz
                      go_simp
                    simp only [Act.put, List.setIfInBounds_toArray, List.set_cons_zero, List.set_cons_succ]
                    refine any_take (i := 6) (d := some 137) (v := ?_) rfl (by rfl) (by kernel_rfl) (by kernel_rfl) (by kernel_rfl) (fun _ _ _ h => h) (by rfl) ?_ ?_
                    rotate_left
                    · intro wz
                      go_simp
                      try with_reducible rfl
                    simp only [Act.put, List.setIfInBounds_toArray, List.set_cons_zero, List.set_cons_succ]
                    refine any_take (i := 7) (d := some 138) (v := ?_) rfl (by rfl) (by kernel_rfl) (by kernel_rfl) (by kernel_rfl) (fun _ _ _ h => h) (by rfl) ?_ ?_
                    rotate_left
                    · intro wz
                      go_simp
                      try with_reducible rfl
                    simp only [Act.put, List.setIfInBounds_toArray, List.set_cons_zero, List.set_cons_succ]
                    have hA2 := HA2.out
                    refine any_take (i := 8) (d := some 139) (v := .slice (some A2) (N - kq) (ca - kq)) rfl (by rfl) (by kernel_rfl) (by kernel_rfl) (by kernel_rfl) (fun _ _ _ h => h) (by rfl) ?_ ?_
                    · intro wz
                      go_simp
                    simp only [Act.put, List.setIfInBounds_toArray, List.set_cons_zero, List.set_cons_succ]
                    clear hA2
                    refine wpAny_ready (rs := [3, 4]) (by kernel_rfl) (by simp) ?_
                    refine AllReady.cons rfl (fun KK hKK => ?_) ?_
                    · refine step_append_i (by rfl) (.const (.slice none 0 0)) (.tmp 133) (by rfl) (.slice none 0 0) [] (by rfl) (World.ownsRow_nil _ _ _ _) (some ⟨ga, 0, none⟩) kq ca (D.take kq) HL1.out (by rfl) (HS1.out.turn (Turn.drew [] w6)) HB1.out ?_
                      intro v1 w7 ho1 hg1 hf1
                      have T1 : Turn [] w6 w7 := (Turn.drew [] w6).trans (Turn.grown (l := []) hg1 (by intro k hk; cases hk)) (by simp)
                      have F1 := new_none w6 v1 hf1
                      refine hKK _ _ ?_
                      show wpAny _ _ _ _ _ _ (Act.put _ (some 134) _) _
                      simp only [Act.put, List.setIfInBounds_toArray, List.set_cons_zero, List.set_cons_succ]
                      refine any_one (i := 4) (by kernel_rfl) (by rfl) (fun KK hKK => ?_)
                      go_simp
                      refine hKK _ _ ?_
                      have hoA := ownsRow_turn ho1 (Turn.alloc [] w7 (.cells #[.int .i64 0] 3)) (fun _ _ => by simp)
                      have HX := Sr.new w7 0 3
                      have TA := T1.trans (Turn.alloc [] w7 (.cells #[.int .i64 0] 3)) (by simp)
                      obtain ⟨bx, hbx⟩ : ∃ bx, bx = w7.heap.size := ⟨_, rfl⟩
                      obtain ⟨wA, hwA⟩ : ∃ wA, wA = w7.alloc (.cells #[.int .i64 0] 3) := ⟨_, rfl⟩
                      rw [← hbx] at HX ⊢
                      rw [← hwA] at hoA HX TA ⊢
                      refine any_one (i := 5) (by kernel_rfl) (by rfl) (fun KK hKK => ?_)
                      refine step_append_i (by rfl) (.tmp 134) (.tmp 135) (by rfl) v1 (D.take kq) (by rfl) hoA (some ⟨bx, 0, none⟩) 1 1 [0] (by rfl) (by rfl) HX HB3.out ?_
                      intro v2 w8 ho2 hg2 hf2
                      have T2 : Turn [] w6 w8 := TA.trans (Turn.grown (l := v1.ownBlock.toList) hg2 (by intro j hj; simp [hj])) (fun i hi => .inr (F1 i (by simpa using hi)))
                      have F2 := new_of F1 TA.size hf2
                      refine hKK _ _ ?_
                      show wpAny _ _ _ _ _ _ (Act.put _ (some 136) _) _
                      simp only [Act.put, List.setIfInBounds_toArray, List.set_cons_zero, List.set_cons_succ]
                      refine any_one (i := 9) (by kernel_rfl) (by rfl) (fun KK hKK => ?_)
                      refine step_append_i (by rfl) (.tmp 136) (.tmp 139) (by rfl) v2 (D.take kq ++ [0]) (by rfl) ho2 (some A2) (N - kq) (ca - kq) (D.drop kq) HL2.out (by rfl) (HS2.out.turn T2) HB2.out ?_
                      intro v3 w9 ho3 hg3 hf3
                      have T3 : Turn [] w6 w9 := T2.trans (Turn.grown (l := v2.ownBlock.toList) hg3 (by intro j hj; simp [hj])) (fun i hi => .inr (F2 i (by simpa using hi)))
                      have F3 := new_of F2 T2.size hf3
                      refine hKK _ _ ?_
                      show wpAny _ _ _ _ _ _ (Act.put _ (some 140) _) _
                      simp only [Act.put, List.setIfInBounds_toArray, List.set_cons_zero, List.set_cons_succ]
                      refine any_take (i := 10) (d := some 8) (v := ?_) rfl (by rfl) (by kernel_rfl) (by kernel_rfl) (by kernel_rfl) (fun _ _ _ h => h) (by rfl) ?_ ?_
                      rotate_left
                      · intro wz
                        go_simp
                        try with_reducible rfl
                      simp only [Act.put, List.setIfInBounds_toArray, List.set_cons_zero, List.set_cons_succ]
                      refine any_done (by kernel_rfl) ?_ _
                      have HT3 := Lib.hid T3
                      have HO3 := Lib.hid ho3
                      have HF3 := Lib.hid F3
                      clear ho1 hg1 hf1 T1 F1 ho2 hg2 hf2 T2 F2 hoA HX TA ho3 hg3 hf3 T3 F3
                      go_wp2_with fail
                      go_meet
                      case rel => exact O6.out.setA HT3.out HO3.out HF3.out
                    refine AllReady.cons rfl (fun KK hKK => ?_) ?_
                    · go_simp
                      refine hKK _ _ ?_
                      have TB : Turn [] w6 ((w6.alloc (.cells #[.int .i64 0] 3)).drew) := (Turn.alloc [] w6 (.cells #[.int .i64 0] 3)).trans (Turn.drew [] _) (by simp)
                      have HX0 := (Sr.new w6 0 3).turn (Turn.drew [] _)
                      obtain ⟨bx, hbx⟩ : ∃ bx, bx = w6.heap.size := ⟨_, rfl⟩
                      obtain ⟨wB, hwB⟩ : ∃ wB, wB = (w6.alloc (.cells #[.int .i64 0] 3)).drew := ⟨_, rfl⟩
                      rw [← hbx] at HX0 ⊢
                      rw [← hwB] at TB HX0 ⊢
                      refine any_one (i := 3) (by kernel_rfl) (by rfl) (fun KK hKK => ?_)
                      refine step_append_i (by rfl) (.const (.slice none 0 0)) (.tmp 133) (by rfl) (.slice none 0 0) [] (by rfl) (World.ownsRow_nil _ _ _ _) (some ⟨ga, 0, none⟩) kq ca (D.take kq) HL1.out (by rfl) (HS1.out.turn TB) HB1.out ?_
                      intro v1 w7 ho1 hg1 hf1
                      have TG : Turn [] wB w7 := Turn.grown (l := []) hg1 (by intro k hk; cases hk)
                      have T1 : Turn [] w6 w7 := TB.trans TG (by simp)
                      have F1 := new_none2 TB.size hf1
                      refine hKK _ _ ?_
                      show wpAny _ _ _ _ _ _ (Act.put _ (some 134) _) _
                      simp only [Act.put, List.setIfInBounds_toArray, List.set_cons_zero, List.set_cons_succ]
                      have hoA := ho1
                      have HX := HX0.turn TG
                      have TA := T1
                      refine any_one (i := 5) (by kernel_rfl) (by rfl) (fun KK hKK => ?_)
                      refine step_append_i (by rfl) (.tmp 134) (.tmp 135) (by rfl) v1 (D.take kq) (by rfl) hoA (some ⟨bx, 0, none⟩) 1 1 [0] (by rfl) (by rfl) HX HB3.out ?_
                      intro v2 w8 ho2 hg2 hf2
                      have T2 : Turn [] w6 w8 := TA.trans (Turn.grown (l := v1.ownBlock.toList) hg2 (by intro j hj; simp [hj])) (fun i hi => .inr (F1 i (by simpa using hi)))
                      have F2 := new_of F1 TA.size hf2
                      refine hKK _ _ ?_
                      show wpAny _ _ _ _ _ _ (Act.put _ (some 136) _) _
                      simp only [Act.put, List.setIfInBounds_toArray, List.set_cons_zero, List.set_cons_succ]
                      refine any_one (i := 9) (by kernel_rfl) (by rfl) (fun KK hKK => ?_)
                      refine step_append_i (by rfl) (.tmp 136) (.tmp 139) (by rfl) v2 (D.take kq ++ [0]) (by rfl) ho2 (some A2) (N - kq) (ca - kq) (D.drop kq) HL2.out (by rfl) (HS2.out.turn T2) HB2.out ?_
                      intro v3 w9 ho3 hg3 hf3
                      have T3 : Turn [] w6 w9 := T2.trans (Turn.grown (l := v2.ownBlock.toList) hg3 (by intro j hj; simp [hj])) (fun i hi => .inr (F2 i (by simpa using hi)))
                      have F3 := new_of F2 T2.size hf3
                      refine hKK _ _ ?_
                      show wpAny _ _ _ _ _ _ (Act.put _ (some 140) _) _
                      simp only [Act.put, List.setIfInBounds_toArray, List.set_cons_zero, List.set_cons_succ]
                      refine any_take (i := 10) (d := some 8) (v := ?_) rfl (by rfl) (by kernel_rfl) (by kernel_rfl) (by kernel_rfl) (fun _ _ _ h => h) (by rfl) ?_ ?_
                      rotate_left
                      · intro wz
                        go_simp
                        try with_reducible rfl
                      simp only [Act.put, List.setIfInBounds_toArray, List.set_cons_zero, List.set_cons_succ]
                      refine any_done (by kernel_rfl) ?_ _
                      have HT3 := Lib.hid T3
                      have HO3 := Lib.hid ho3
                      have HF3 := Lib.hid F3
                      clear ho1 hg1 hf1 T1 F1 ho2 hg2 hf2 T2 F2 hoA HX TA ho3 hg3 hf3 T3 F3
                      go_wp2_with fail
                      go_meet
                      case rel => exact O6.out.setA HT3.out HO3.out HF3.out
                    exact AllReady.nil
              case rest =>
                obtain ⟨w6, hw6⟩ : ∃ w6, w6 = wc := ⟨_, rfl⟩
                subst hw6
                obtain ⟨ao6, c6, hv6⟩ := owns_slice hcut.ar
                subst hv6
                obtain ⟨ga, rfl⟩ := own_some hcut.ar (by rw [HD2.out]; omega)
                have hcl := own_cells hcut.ar kq (by rw [HD2.out]; omega)
                have hfz := hcut.ar.frozenAt kq
                obtain ⟨z, hz⟩ : ∃ z, z = (D.take kq ++ [0] ++ D.drop kq).getD kq 0 := ⟨_, rfl⟩
                rw [← hz] at hcl
                have O7 := Lib.hid (hcut.store (j := kq) 0).1
                have hcn : (kq : Int) < (N : Int) + 1 := by omega
                rw [HDC.out] at O7
                obtain ⟨D2, hD2⟩ : ∃ D2, D2 = D.take kq ++ [0] ++ D.drop kq := ⟨_, rfl⟩
                have HD3 := HD2.out
                rw [← hD2] at HD3 O7 ⊢
                rw [HD3] at O7 ⊢
                clear hz hcut hD2 HD3
                go_wp2_with fail
                go_roundw
                case rel => exact ⟨i + 1, t, v5, _, _, _, by omega, by omega, by go_num, ⟨O7.out, HLC.out, rfl, HSM.out, HFW.out, by have := HTI.out; omega⟩⟩
                case measure => simp [intOf]; omega
            | true =>
              obtain ⟨y0, B, hRB⟩ := in_true HKK.out (by rw [← HKQ.out, ← hNN.out, ← O.out.hl]; exact HIN.out.symm)
              have hK2 : K = A ++ (x, y0) :: B := by rw [HKK.out, hRB]
              have hNkq : kq < N := by rw [hNN.out, hK2, HKQ.out]; simp
              have hSm := O.out.sm
              rw [hK2] at hSm
              have hlt2 := O.out.at'.lt
              rw [hK2] at hlt2
              have CG := Lib.hid (T.p_heard_is x (cmpZ_refl x) hlt2 (lt_cmp HA.out) (gt_cmp hSm.tail.2))
              have hat := O.out.at'
              rw [HLN.out, HDN.out, ← hNN.out] at hat
              obtain ⟨ga, rfl⟩ := own_some hat.ar (by rw [HDN.out, ← hNN.out]; omega)
              have HAT := Lib.hid hat
              have HSM : Hid (Sm (A ++ (x, t) :: B)) := Lib.hid (hSm.del.ins HA.out hSm.tail.2 (by omega))
              have HLC : Hid (L = (A ++ (x, t) :: B).map (·.1)) := Lib.hid (by rw [O.out.hl, hK2]; simp)
              have HDC : Hid (D.set kq 0 = (A ++ (x, t) :: B).map fun p => t - p.2) := Lib.hid (by rw [O.out.hd, hK2, HKQ.out, map_set]; simp)
              have HFW : Hid ((A ++ (x, t) :: B).length ≤ i + 1) := Lib.hid (by have := O.out.few; rw [hK2] at this; simp at this ⊢; omega)
              have HLL : Hid (L.length = N) := Lib.hid (by rw [HLN.out, ← hNN.out])
              have HDD : Hid (D.length = N) := Lib.hid (by rw [HDN.out, ← hNN.out])
              have HTI := Lib.hid O.out.ti
              clear hRB hK2 hSm hlt2 hat O
              go_wp2_with fail
              refine CG.out.mono ?_
              rintro e w5 ⟨rfl, q5, l5⟩
              have o5 := HAT.out.timer l5 (.inl rfl) q5
              have hcl := own_cells o5.ar kq (by rw [HDD.out]; omega)
              have hfz : w5.frozen? ⟨ga, kq, none⟩ = false := by
                have h := o5.ar
                rw [HDD.out] at h
                exact h.frozenAt kq
              obtain ⟨z, hz⟩ : ∃ z, z = D.getD kq 0 := ⟨_, rfl⟩
              rw [← hz] at hcl
              have O7 : Hid (Ro w (w5.setCell ⟨ga, kq, none⟩ (.int .i64 0)) b (i + 1) most t v (.slice ak N ck) (.slice (some ⟨ga, 0, none⟩) N ca) (A ++ (x, t) :: B) L (D.set kq 0)) := Lib.hid ⟨by rw [← HDD.out] at o5 ⊢; exact (o5.store 0).1, HLC.out, HDC.out, HSM.out, HFW.out, by have := HTI.out; omega⟩
              have hcn : 0 ≤ (kq : Int) ∧ (kq : Int) < (N : Int) := by omega
              clear hz q5 l5 CG HAT o5
              go_wp2_with fail
              go_roundw
              case rel => exact ⟨i + 1, t, v, _, _, _, by omega, by omega, by go_num, O7.out⟩
              case measure => simp [intOf]; omega
          · by_cases hk1 : kd = 1
            · subst hk1
              cases inq with
              | false =>
                have hRx := in_false HKK.out O.out.sm HR.out (by rw [← HKQ.out, ← hNN.out, ← O.out.hl]; exact HIN.out.symm)
                have hlt2 := O.out.at'.lt
                rw [HKK.out] at hlt2
                have CG := Lib.hid (T.p_gone_none x hlt2 (lt_cmp HA.out) (gt_cmp hRx))
                clear hRx hlt2
                go_wp2_with fail
                refine CG.out.mono ?_
                rintro e w5 ⟨rfl, q5⟩
                have O5 : Hid (Ro w w5 b (i + 1) most t v (.slice ak N ck) (.slice aa N ca) K L D) := Lib.hid ⟨by have := O.out.at'; rw [HLN.out, HDN.out, ← hNN.out] at this; exact this.quiet q5, O.out.hl, O.out.hd, O.out.sm, by have := O.out.few; omega, by have := O.out.ti; omega⟩
                clear CG q5 O
                go_wp2
                go_roundw
                case rel => exact ⟨i + 1, t, v, K, L, D, by omega, by omega, by go_num, O5.out⟩
                case measure => simp [intOf]; omega
              | true =>
                obtain ⟨y0, B, hRB⟩ := in_true HKK.out (by rw [← HKQ.out, ← hNN.out, ← O.out.hl]; exact HIN.out.symm)
                have hK2 : K = A ++ (x, y0) :: B := by rw [HKK.out, hRB]
                have hNkq : kq < N := by rw [hNN.out, hK2, HKQ.out]; simp
                have hSm := O.out.sm
                rw [hK2] at hSm
                have hlt2 := O.out.at'.lt
                rw [hK2] at hlt2
                have CG := Lib.hid (T.p_gone_is x (cmpZ_refl x) hlt2 (lt_cmp HA.out) (gt_cmp hSm.tail.2))
                have hat := O.out.at'
                rw [HLN.out, HDN.out, ← hNN.out] at hat
                obtain ⟨gk, rfl⟩ := own_some hat.kr (by rw [HLN.out, ← hNN.out]; omega)
                obtain ⟨ga, rfl⟩ := own_some hat.ar (by rw [HDN.out, ← hNN.out]; omega)
                have HAT := Lib.hid hat
                have HSM := Lib.hid hSm.del
                have HLC : Hid (L.take kq ++ L.drop (kq + 1) = (A ++ B).map (·.1)) := Lib.hid (by rw [O.out.hl, hK2, HKQ.out]; exact map_cut _ _ _ _)
                have HDC : Hid (D.take kq ++ D.drop (kq + 1) = (A ++ B).map fun p => t - p.2) := Lib.hid (by rw [O.out.hd, hK2, HKQ.out]; exact map_cut _ _ _ _)
                have HFW : Hid ((A ++ B).length ≤ i + 1) := Lib.hid (by have := O.out.few; rw [hK2] at this; simp at this ⊢; omega)
                have HLL : Hid (L.length = N) := Lib.hid (by rw [HLN.out, ← hNN.out])
                have HDD : Hid (D.length = N) := Lib.hid (by rw [HDN.out, ← hNN.out])
                have HTI := Lib.hid O.out.ti
                have hc1 : (kq : Int) + 1 ≤ (N : Int) := by omega
                have hc2 : (N : Int) ≤ (ck : Int) := by omega
                have hc3 : (N : Int) ≤ (ca : Int) := by omega
                have hc4 : IntKind.i64.wrap ((kq : Int) + 1) = (kq : Int) + 1 := by rw [IntKind.wrap_i64]; omega
                have hc5 : ((kq : Int) + 1).toNat = kq + 1 := by omega
                have hc6 : 0 ≤ (kq : Int) + 1 := by omega
                have hc7 : (kq : Int) ≤ (ck : Int) := by omega
                have hc8 : (kq : Int) ≤ (ca : Int) := by omega
                clear hRB hK2 hSm hlt2 hat O
                go_wp2_with fail
                refine CG.out.mono ?_
                rintro e w5 ⟨v5, rfl, ho5, q5, l5⟩
                have O5 := Lib.hid (HAT.out.timer l5 (.inl ho5) q5)
                have HC5 := Lib.hid (own_cells O5.out.kr)
                clear ho5 q5 l5 CG
                obtain ⟨A2, hA2⟩ : ∃ A2, (if ck = kq + 1 then some (⟨gk, 0, none⟩ : Addr) else some ⟨gk, kq + 1, none⟩) = some A2 := by
                  by_cases e : ck = kq + 1
                  · exact ⟨_, if_pos e⟩
                  · exact ⟨_, if_neg e⟩
                have HS1 : Hid (Sr w5 (some ⟨gk, 0, none⟩) ck (L.take kq)) := Lib.hid (Sr.part HC5.out (take_get L kq))
                have HS2 : Hid (Sr w5 (some A2) (ck - (kq + 1)) (L.drop (kq + 1))) := Lib.hid (by
                  by_cases e : ck = kq + 1
                  · rw [if_pos e] at hA2
                    have h0 : L.drop (kq + 1) = [] := List.drop_eq_nil_of_le (by have := HLL.out; omega)
                    rw [h0]
                    exact .inr ⟨_, rfl, fun j hj => absurd hj (Nat.not_lt_zero j)⟩
                  · rw [if_neg e] at hA2
                    cases hA2
                    exact Sr.part HC5.out (drop_get L (kq + 1)))
                have HA2 := Lib.hid hA2
                have HL1 : Hid (kq = (L.take kq).length) := Lib.hid (by rw [List.length_take]; have := HLL.out; omega)
                have HL2 : Hid (N - (kq + 1) = (L.drop (kq + 1)).length) := Lib.hid (by rw [List.length_drop, HLL.out])
                have HB1 : Hid (([] : List Int).length + (L.take kq).length ≤ 1000000) := Lib.hid (by rw [← HL1.out]; simp; omega)
                have HB2 : Hid ((L.take kq).length + (L.drop (kq + 1)).length ≤ 1000000) := Lib.hid (by rw [← HL1.out, ← HL2.out]; omega)
                have HF3 := Lib.hid (new_none w5)
                clear hA2
                go_upto_region 38 with fail
                refine wp_region_any (by kernel_rfl) ?_
                refine any_take (i := 0) (d := some 152) (v := ?_) rfl (by rfl) (by kernel_rfl) (by kernel_rfl) (by kernel_rfl) (fun _ _ _ h => h) (by rfl) ?_ ?_
                rotate_left
                · intro wz
                  go_simp
                  try with_reducible rfl
                simp only [Act.put, List.setIfInBounds_toArray, List.set_cons_zero, List.set_cons_succ]
                refine any_take (i := 1) (d := some 153) (v := ?_) rfl (by rfl) (by kernel_rfl) (by kernel_rfl) (by kernel_rfl) (fun _ _ _ h => h) (by rfl) ?_ ?_
                rotate_left
                · intro wz
                  go_simp
                  try with_reducible rfl
                simp only [Act.put, List.setIfInBounds_toArray, List.set_cons_zero, List.set_cons_succ]
                refine any_take (i := 2) (d := some 154) (v := .slice (some ⟨gk, 0, none⟩) kq ck) rfl (by rfl) (by kernel_rfl) (by kernel_rfl) (by kernel_rfl) (fun _ _ _ h => h) (by rfl) ?_ ?_
                · intro wz
                  go_simp
                simp only [Act.put, List.setIfInBounds_toArray, List.set_cons_zero, List.set_cons_succ]
                refine any_take (i := 4) (d := some 156) (v := ?_) rfl (by rfl) (by kernel_rfl) (by kernel_rfl) (by kernel_rfl) (fun _ _ _ h => h) (by rfl) ?_ ?_
                rotate_left
                · intro wz
                  go_simp
                  try with_reducible rfl
                simp only [Act.put, List.setIfInBounds_toArray, List.set_cons_zero, List.set_cons_succ]
                refine any_take (i := 5) (d := some 157) (v := ?_) rfl (by rfl) (by kernel_rfl) (by kernel_rfl) (by kernel_rfl) (fun _ _ _ h => h) (by rfl) ?_ ?_
                rotate_left
                · intro wz
                  go_simp
                  try with_reducible rfl
                simp only [Act.put, List.setIfInBounds_toArray, List.set_cons_zero, List.set_cons_succ]
                refine any_take (i := 6) (d := some 158) (v := ?_) rfl (by rfl) (by kernel_rfl) (by kernel_rfl) (by kernel_rfl) (fun _ _ _ h => h) (by rfl) ?_ ?_
                rotate_left
                · intro wz
                  go_simp
                  try with_reducible rfl
                simp only [Act.put, List.setIfInBounds_toArray, List.set_cons_zero, List.set_cons_succ]
                have hA2 := HA2.out
                refine any_take (i := 7) (d := some 159) (v := .slice (some A2) (N - (kq + 1)) (ck - (kq + 1))) rfl (by rfl) (by kernel_rfl) (by kernel_rfl) (by kernel_rfl) (fun _ _ _ h => h) (by rfl) ?_ ?_
                · intro wz
                  go_simp
                simp only [Act.put, List.setIfInBounds_toArray, List.set_cons_zero, List.set_cons_succ]
                clear hA2
                refine any_one (i := 3) (by kernel_rfl) (by rfl) (fun KK hKK => ?_)
                refine step_append_i (by rfl) (.const (.slice none 0 0)) (.tmp 154) (by rfl) (.slice none 0 0) [] (by rfl) (World.ownsRow_nil _ _ _ _) (some ⟨gk, 0, none⟩) kq ck (L.take kq) HL1.out (by rfl) (HS1.out.turn (Turn.drew [] w5)) HB1.out ?_
                intro v1 w7 ho1 hg1 hf1
                have T1 : Turn [] w5 w7 := (Turn.drew [] w5).trans (Turn.grown (l := []) hg1 (by intro k hk; cases hk)) (by simp)
                have F1 := new_none w5 v1 hf1
                refine hKK _ _ ?_
                show wpAny _ _ _ _ _ _ (Act.put _ (some 155) _) _
                simp only [Act.put, List.setIfInBounds_toArray, List.set_cons_zero, List.set_cons_succ]
                refine any_one (i := 8) (by kernel_rfl) (by rfl) (fun KK hKK => ?_)
                refine step_append_i (by rfl) (.tmp 155) (.tmp 159) (by rfl) v1 (L.take kq) (by rfl) ho1 (some A2) (N - (kq + 1)) (ck - (kq + 1)) (L.drop (kq + 1)) HL2.out (by rfl) (HS2.out.turn T1) HB2.out ?_
                intro v2 w8 ho2 hg2 hf2
                have T2 : Turn [] w5 w8 := T1.trans (Turn.grown (l := v1.ownBlock.toList) hg2 (by intro j hj; simp [hj])) (fun i hi => .inr (F1 i (by simpa using hi)))
                have F2 := new_of F1 T1.size hf2
                refine hKK _ _ ?_
                show wpAny _ _ _ _ _ _ (Act.put _ (some 160) _) _
                simp only [Act.put, List.setIfInBounds_toArray, List.set_cons_zero, List.set_cons_succ]
                refine any_take (i := 9) (d := some 7) (v := ?_) rfl (by rfl) (by kernel_rfl) (by kernel_rfl) (by kernel_rfl) (fun _ _ _ h => h) (by rfl) ?_ ?_
                rotate_left
                · intro wz
                  go_simp
                  try with_reducible rfl
                simp only [Act.put, List.setIfInBounds_toArray, List.set_cons_zero, List.set_cons_succ]
                refine any_done (by kernel_rfl) ?_ _
                have HT2 := Lib.hid T2
                have HO2 := Lib.hid ho2
                have HF2 := Lib.hid F2
                clear ho1 hg1 hf1 T1 F1 ho2 hg2 hf2 T2 F2
                have O6 := Lib.hid (O5.out.setK HT2.out HO2.out HF2.out)
                obtain ⟨w6, hw6⟩ : ∃ w6, w6 = w8 := ⟨_, rfl⟩
                rw [← hw6] at O6 ⊢
                clear hw6
                have HC6 := Lib.hid (own_cells O6.out.ar)
                clear HT2 HO2 HF2 O5 HC5 HS1 HS2 HA2 HL1 HL2 HB1 HB2 HF3
                obtain ⟨A2, hA2⟩ : ∃ A2, (if ca = kq + 1 then some (⟨ga, 0, none⟩ : Addr) else some ⟨ga, kq + 1, none⟩) = some A2 := by
                  by_cases e : ca = kq + 1
                  · exact ⟨_, if_pos e⟩
                  · exact ⟨_, if_neg e⟩
                have HS1 : Hid (Sr w6 (some ⟨ga, 0, none⟩) ca (D.take kq)) := Lib.hid (Sr.part HC6.out (take_get D kq))
                have HS2 : Hid (Sr w6 (some A2) (ca - (kq + 1)) (D.drop (kq + 1))) := Lib.hid (by
                  by_cases e : ca = kq + 1
                  · rw [if_pos e] at hA2
                    have h0 : D.drop (kq + 1) = [] := List.drop_eq_nil_of_le (by have := HDD.out; omega)
                    rw [h0]
                    exact .inr ⟨_, rfl, fun j hj => absurd hj (Nat.not_lt_zero j)⟩
                  · rw [if_neg e] at hA2
                    cases hA2
                    exact Sr.part HC6.out (drop_get D (kq + 1)))
                have HA2 := Lib.hid hA2
                have HL1 : Hid (kq = (D.take kq).length) := Lib.hid (by rw [List.length_take]; have := HDD.out; omega)
                have HL2 : Hid (N - (kq + 1) = (D.drop (kq + 1)).length) := Lib.hid (by rw [List.length_drop, HDD.out])
                have HB1 : Hid (([] : List Int).length + (D.take kq).length ≤ 1000000) := Lib.hid (by rw [← HL1.out]; simp; omega)
                have HB2 : Hid ((D.take kq).length + (D.drop (kq + 1)).length ≤ 1000000) := Lib.hid (by rw [← HL1.out, ← HL2.out]; omega)
                have HF3 := Lib.hid (new_none w6)
                clear hA2
                go_upto_region 39 with fail
                refine wp_region_any (by kernel_rfl) ?_
                refine any_take (i := 0) (d := some 161) (v := ?_) rfl (by rfl) (by kernel_rfl) (by kernel_rfl) (by kernel_rfl) (fun _ _ _ h => h) (by rfl) ?_ ?_
                rotate_left
                · intro wz
                  go_simp
                  try with_reducible rfl
                simp only [Act.put, List.setIfInBounds_toArray, List.set_cons_zero, List.set_cons_succ]
                refine any_take (i := 1) (d := some 162) (v := ?_) rfl (by rfl) (by kernel_rfl) (by kernel_rfl) (by kernel_rfl) (fun _ _ _ h => h) (by rfl) ?_ ?_
                rotate_left
                · intro wz
                  go_simp
                  try with_reducible rfl
                simp only [Act.put, List.setIfInBounds_toArray, List.set_cons_zero, List.set_cons_succ]
                refine any_take (i := 2) (d := some 163) (v := .slice (some ⟨ga, 0, none⟩) kq ca) rfl (by rfl) (by kernel_rfl) (by kernel_rfl) (by kernel_rfl) (fun _ _ _ h => h) (by rfl) ?_ ?_
                · intro wz
                  go_simp
                simp only [Act.put, List.setIfInBounds_toArray, List.set_cons_zero, List.set_cons_succ]
                refine any_take (i := 4) (d := some 165) (v := ?_) rfl (by rfl) (by kernel_rfl) (by kernel_rfl) (by kernel_rfl) (fun _ _ _ h => h) (by rfl) ?_ ?_
                rotate_left
                · intro wz
                  go_simp
                  try with_reducible rfl
                simp only [Act.put, List.setIfInBounds_toArray, List.set_cons_zero, List.set_cons_succ]
                refine any_take (i := 5) (d := some 166) (v := ?_) rfl (by rfl) (by kernel_rfl) (by kernel_rfl) (by kernel_rfl) (fun _ _ _ h => h) (by rfl) ?_ ?_
                rotate_left
                · intro wz
                  go_simp
                  try with_reducible rfl
                simp only [Act.put, List.setIfInBounds_toArray, List.set_cons_zero, List.set_cons_succ]
                refine any_take (i := 6) (d := some 167) (v := ?_) rfl (by rfl) (by kernel_rfl) (by kernel_rfl) (by kernel_rfl) (fun _ _ _ h => h) (by rfl) ?_ ?_
                rotate_left
                · intro wz
                  go_simp
                  try with_reducible rfl
                simp only [Act.put, List.setIfInBounds_toArray, List.set_cons_zero, List.set_cons_succ]
                have hA2 := HA2.out
                refine any_take (i := 7) (d := some 168) (v := .slice (some A2) (N - (kq + 1)) (ca - (kq + 1))) rfl (by rfl) (by kernel_rfl) (by kernel_rfl) (by kernel_rfl) (fun _ _ _ h => h) (by rfl) ?_ ?_
                · intro wz
                  go_simp
                simp only [Act.put, List.setIfInBounds_toArray, List.set_cons_zero, List.set_cons_succ]
                clear hA2
                refine any_one (i := 3) (by kernel_rfl) (by rfl) (fun KK hKK => ?_)
                refine step_append_i (by rfl) (.const (.slice none 0 0)) (.tmp 163) (by rfl) (.slice none 0 0) [] (by rfl) (World.ownsRow_nil _ _ _ _) (some ⟨ga, 0, none⟩) kq ca (D.take kq) HL1.out (by rfl) (HS1.out.turn (Turn.drew [] w6)) HB1.out ?_
                intro v1 w7 ho1 hg1 hf1
                have T1 : Turn [] w6 w7 := (Turn.drew [] w6).trans (Turn.grown (l := []) hg1 (by intro k hk; cases hk)) (by simp)
                have F1 := new_none w6 v1 hf1
                refine hKK _ _ ?_
                show wpAny _ _ _ _ _ _ (Act.put _ (some 164) _) _
                simp only [Act.put, List.setIfInBounds_toArray, List.set_cons_zero, List.set_cons_succ]
                refine any_one (i := 8) (by kernel_rfl) (by rfl) (fun KK hKK => ?_)
                refine step_append_i (by rfl) (.tmp 164) (.tmp 168) (by rfl) v1 (D.take kq) (by rfl) ho1 (some A2) (N - (kq + 1)) (ca - (kq + 1)) (D.drop (kq + 1)) HL2.out (by rfl) (HS2.out.turn T1) HB2.out ?_
                intro v2 w8 ho2 hg2 hf2
                have T2 : Turn [] w6 w8 := T1.trans (Turn.grown (l := v1.ownBlock.toList) hg2 (by intro j hj; simp [hj])) (fun i hi => .inr (F1 i (by simpa using hi)))
                have F2 := new_of F1 T1.size hf2
                refine hKK _ _ ?_
                show wpAny _ _ _ _ _ _ (Act.put _ (some 169) _) _
                simp only [Act.put, List.setIfInBounds_toArray, List.set_cons_zero, List.set_cons_succ]
                refine any_take (i := 9) (d := some 8) (v := ?_) rfl (by rfl) (by kernel_rfl) (by kernel_rfl) (by kernel_rfl) (fun _ _ _ h => h) (by rfl) ?_ ?_
                rotate_left
                · intro wz
                  go_simp
                  try with_reducible rfl
                simp only [Act.put, List.setIfInBounds_toArray, List.set_cons_zero, List.set_cons_succ]
                refine any_done (by kernel_rfl) ?_ _
                have HT2 := Lib.hid T2
                have HO2 := Lib.hid ho2
                have HF2 := Lib.hid F2
                clear ho1 hg1 hf1 T1 F1 ho2 hg2 hf2 T2 F2
                have O7 : Hid (Ro w w8 b (i + 1) most t v5 _ _ (A ++ B) _ _) := Lib.hid ⟨O6.out.setA HT2.out HO2.out HF2.out, HLC.out, HDC.out, HSM.out, HFW.out, by have := HTI.out; omega⟩
                clear HT2 HO2 HF2 O6 HC6 HS1 HS2 HA2 HL1 HL2 HB1 HB2 HF3
                go_wp2_with fail
                go_roundw
                case rel => exact ⟨i + 1, t, v5, _, _, _, by omega, by omega, by go_num, O7.out⟩
                case measure => simp [intOf]; omega
            · have hti2 := O.out.ti
              have CT := Lib.hid (T.tick_calls O.out.at'.lt.tim (by omega))
              have hat := O.out.at'
              rw [HLN.out, HDN.out, ← hNN.out] at hat
              have HAT := Lib.hid hat
              have HSM := Lib.hid O.out.sm
              have HLC := Lib.hid O.out.hl
              have HDC := Lib.hid O.out.hd
              have HFW := Lib.hid O.out.few
              have HTI := Lib.hid O.out.ti
              have HAB := Lib.hid (fun k (hk : (Value.slice aa N ca).ownBlock = some k) => own_lt hat.ar hk)
              have hmo := hmost
              clear hat O hti2 HLO HHI HIN HKK HA HR HKQ HCEL
              obtain ⟨S, hS⟩ : ∃ S, S = T.silK most (t + 1) K := ⟨_, rfl⟩
              have HS := Lib.hid hS
              rw [← hS] at CT
              clear hS
              go_wp2_with fail
              refine CT.out.mono ?_
              rintro e w5 ⟨sv, rfl, rs, os, ts, q5⟩
              obtain ⟨sa, cs, rfl, hcs⟩ := T.sil_slice rs
              have O5 := Lib.hid (HAT.out.timer (HAT.out.lt.step ts (.inl rfl) (q5.mono (by intro i hi; exact .inl (by rw [List.mem_singleton.1 hi]; simp)))) (.inl rfl) (q5.mono (by intro i hi; exact .inl (by rw [List.mem_singleton.1 hi]; simp))))
              have HCS := Lib.hid hcs
              have HOS := Lib.hid os
              obtain ⟨M, hM⟩ : ∃ M, M = S.length := ⟨_, rfl⟩
              have HM := Lib.hid hM
              rw [← hM]
              have M9 : M ≤ 60 := by have h1 := T.silK_length most (t + 1) K; rw [← HS.out, ← hM] at h1; have := HFW.out; omega
              clear hM hcs os ts q5 rs CT HAT
              go_wp2_with fail
              go_loopw [14, 15] (fun vn vj wx => ∃ j : Nat, j ≤ N ∧ vj = .int .i64 (j : Int) ∧ vn = .int .i64 (((T.silK most (t + 1) (K.take j)).length : Nat) : Int) ∧ AT w wx b most (t + 1) v (.slice ak N ck) (.slice aa N ca) K L (midD t K j) ∧ Turn (Value.slice aa N ca).ownBlock.toList w5 wx) (fun _ vj _ => N - (intOf vj).toNat)
              case atStart => exact ⟨0, by omega, rfl, rfl, by rw [midD_zero, ← HDC.out]; exact O5.out, Turn.refl _ _⟩
              case round =>
                obtain ⟨j, hj, rfl, rfl, ho, tj⟩ := hrel
                have P := Lib.hid ho
                have TJ := Lib.hid tj
                clear ho tj O5
                by_cases hjN : j < N
                · have hjK : j < K.length := by rw [← hNN.out]; exact hjN
                  obtain ⟨gk, rfl⟩ := own_some P.out.kr (by rw [HLN.out]; omega)
                  obtain ⟨ga, rfl⟩ := own_some P.out.ar (by rw [midD_length]; omega)
                  have hck := own_cells P.out.kr j (by rw [HLN.out]; omega)
                  have hca := own_cells P.out.ar j (by rw [midD_length]; omega)
                  rw [HLC.out, keys_get hjK] at hck
                  rw [midD_get t hjK] at hca
                  have hfz : wr.frozen? ⟨ga, j, none⟩ = false := by
                    have h := P.out.ar
                    rw [midD_length, ← hNN.out] at h
                    exact h.frozenAt j
                  have hnx := sil_next (most := most) (t := t + 1) hjK
                  have hat : most ≤ t + 1 - (K.getD j (0, 0)).2 → S[(T.silK most (t + 1) (K.take j)).length]? = some (.int .i64 (K.getD j (0, 0)).1) := fun hc => by rw [HS.out]; exact sil_at hjK hc
                  have hn9 := sil_le most (t + 1) K j
                  have hst := (AT.store (j := j) (by have h := P.out; rw [show N = (midD t K j).length by rw [midD_length, ← hNN.out]] at h; exact h) (t + 1 - (K.getD j (0, 0)).2))
                  rw [midD_set t hjK, midD_length, ← hNN.out] at hst
                  have hpb := P.out.lt.tim.nums (K.getD j (0, 0)) (by have e : K.getD j (0, 0) = K[j] := by simp [List.getD, hjK]
                                                                      rw [e]; exact List.getElem_mem hjK)
                  obtain ⟨x1, hx1⟩ : ∃ x1, x1 = (K.getD j (0, 0)).1 := ⟨_, rfl⟩
                  obtain ⟨y1, hy1⟩ : ∃ y1, y1 = (K.getD j (0, 0)).2 := ⟨_, rfl⟩
                  obtain ⟨n1, hn1⟩ : ∃ n1, n1 = (T.silK most (t + 1) (K.take j)).length := ⟨_, rfl⟩
                  rw [← hx1] at hck hat
                  rw [← hy1] at hca hat hst hpb hnx
                  rw [← hn1] at hnx hat hn9 ⊢
                  obtain ⟨a1, ha1⟩ : ∃ a1, a1 = t - y1 := ⟨_, rfl⟩
                  have e1 : t + 1 - y1 = a1 + 1 := by omega
                  rw [← ha1] at hca
                  rw [e1] at hat hst hnx
                  have ha1b : -2 ≤ a1 ∧ a1 ≤ 100 := by omega
                  have hbj : 0 ≤ (j : Int) ∧ (j : Int) < (N : Int) := by omega
                  have TS := Lib.hid (TJ.out.trans hst.2 (by intro i hi; exact .inl (by rw [List.mem_singleton.1 hi]; simp [Value.ownBlock])))
                  have PS := Lib.hid hst.1
                  clear hx1 hy1 hn1 ha1 hst P
                  by_cases hm1 : most ≤ a1 + 1
                  · rw [if_pos hm1] at hnx
                    have hcell := hat hm1
                    obtain ⟨gs, rfl, hcs1⟩ := HCS.out _ _ hcell
                    have hnM : n1 < M := by rw [HM.out]; exact (List.getElem?_eq_some_iff.1 hcell).1
                    have hne : gs ≠ ga := by
                      have h1 := HOS.out gs rfl
                      have h2 := HAB.out ga rfl
                      omega
                    have hcs2 := TS.out.cell hcs1 (by simpa [Value.ownBlock] using hne)
                    have hck2 : (wr.setCell ⟨ga, j, none⟩ (.int .i64 (a1 + 1))).cell? ⟨gk, j, none⟩ = some (.int .i64 x1) := (Turn.setCell (l := [ga]) wr (by simp) _).cell hck (by simpa using fun e => PS.out.ka gk rfl (by rw [e]; rfl))
                    have hbn : 0 ≤ (n1 : Int) ∧ (n1 : Int) < (M : Int) := by omega
                    have hnm : ¬ (M : Int) ≤ (n1 : Int) := by omega
                    have HNX := Lib.hid hnx
                    clear hnx hat hcell hcs1 hne
                    go_wp2_with fail
                    go_quiet (fail)
                    go_wp2_with fail
                    go_roundw
                    case rel => exact ⟨j + 1, by omega, by go_num, by rw [HNX.out]; go_num, PS.out.quiet (Turn.drewN [] _ _), TS.out.trans (Turn.drewN [] _ _) (by simp)⟩
                    case measure => simp [intOf]; omega
                  · rw [if_neg hm1] at hnx
                    have HNX := Lib.hid hnx
                    clear hnx hat
                    go_wp2_with fail
                    go_roundw
                    case rel => exact ⟨j + 1, by omega, by go_num, by rw [HNX.out]; rfl, PS.out, TS.out⟩
                    case measure => simp [intOf]; omega
                · obtain rfl : j = N := by omega
                  have hz : (T.silK most (t + 1) (K.take j)).length = M := by rw [hNN.out, List.take_length, ← HS.out, HM.out]
                  rw [hz]
                  have O7 : Hid (Ro w wr b (i + 1) most (t + 1) v (.slice ak j ck) (.slice aa j ca) K L (midD t K j)) := Lib.hid ⟨P.out, HLC.out, by rw [hNN.out, midD_end], HSM.out, by have := HFW.out; omega, by have := HTI.out; omega⟩
                  clear hz P
                  go_wp2_with fail
                  go_roundw
                  case rel => exact ⟨i + 1, t + 1, v, _, _, _, by omega, by omega, by go_num, O7.out⟩
                  case measure => simp [intOf]; omega
    · have hex : ¬ i < n0 ∨ (i < n0 ∧ i = 60) := by omega
      have hat := O.out.at'
      rw [HLN.out, HDN.out, ← hNN.out] at hat
      have HAT := Lib.hid hat
      have HSM := Lib.hid O.out.sm
      have HLC := Lib.hid O.out.hl
      have HDC := Lib.hid O.out.hd
      have hti2 := O.out.ti
      have CE := Lib.hid (T.all_calls O.out.at'.lt.tim)
      rw [← hNN.out] at CE
      clear hat O hlt
      go_upto_region 7 with fail
      go_cut [30] from 23 to 30 (fun vt wx => vt = .bool false ∧ wx = wr)
      case first =>
        rcases hex with h | ⟨h, rfl⟩
        · go_wp2_with fail
          go_meet
          case rel => exact ⟨rfl, rfl⟩
        · go_wp2_with fail
          go_meet
          case rel => exact ⟨rfl, rfl⟩
      case rest =>
        obtain ⟨rfl, rfl⟩ := hcut
        clear hex
        go_wp2_with fail
        refine CE.out.mono ?_
        rintro e w6 ⟨rfl, rl, bl⟩
        have T6 := Lib.hid (Turn.of_below bl [])
        have P6 := Lib.hid (HAT.out.quiet (Turn.of_below bl []))
        obtain ⟨gl, hgl⟩ : ∃ gl, gl = wc.heap.size := ⟨_, rfl⟩
        rw [← hgl] at rl ⊢
        have HLR : Hid (∀ j, j < N → w6.cell? ⟨gl, j, none⟩ = some (.int .i64 (L.getD j 0))) := Lib.hid (fun j hj => by
          have hjK : j < K.length := by rw [← hNN.out]; exact hj
          have h := rl.cells (g := gl) rfl j (.int .i64 (K.getD j (0, 0)).1) (by simp [List.getD, hjK])
          rw [Addr.add_lit, Nat.zero_add] at h
          rw [h, HLC.out, keys_get hjK])
        clear rl bl hgl CE T6 HAT
        go_wp2_with fail
        go_loopw [17] (fun vj wx => ∃ j : Nat, j ≤ N ∧ vj = .int .i64 (j : Int) ∧ Turn [] w6 wx) (fun vj _ => N - (intOf vj).toNat)
        case atStart => exact ⟨0, by omega, rfl, Turn.refl _ _⟩
        case round =>
          obtain ⟨j, hj, rfl, tj⟩ := hrel
          have TJ := Lib.hid tj
          clear tj
          by_cases hjN : j < N
          · have hjK : j < K.length := by rw [← hNN.out]; exact hjN
            have hp := P6.out.quiet TJ.out
            obtain ⟨gk, rfl⟩ := own_some hp.kr (by rw [HLN.out]; omega)
            obtain ⟨ga, rfl⟩ := own_some hp.ar (by rw [HDN.out]; omega)
            have q1 := TJ.out.cell (HLR.out j hjN) (by simp)
            have q2 := own_cells hp.kr j (by rw [HLN.out]; omega)
            have q3 := own_cells hp.ar j (by rw [HDN.out]; omega)
            have hD : D.getD j 0 = t - (K.getD j (0, 0)).2 := by rw [HDC.out]; simp [List.getD, hjK]
            rw [HLC.out, keys_get hjK] at q1 q2
            rw [hD] at q3
            have hlt2 := hp.lt
            have hsm := HSM.out
            have hsp := split_get hjK
            obtain ⟨x1, hx1⟩ : ∃ x1, x1 = (K.getD j (0, 0)).1 := ⟨_, rfl⟩
            obtain ⟨y1, hy1⟩ : ∃ y1, y1 = (K.getD j (0, 0)).2 := ⟨_, rfl⟩
            have hxy : K.getD j (0, 0) = (x1, y1) := by rw [hx1, hy1]
            rw [← hx1] at q1 q2
            rw [← hy1] at q3
            rw [hxy] at hsp
            rw [hsp] at hlt2 hsm
            have CA : Hid (∀ wx, Turn [] wr wx → Calls Try.prog 26 #[.pointer (some ⟨b, 0, none⟩), .int .i64 x1] wx fun e w' => e = .returned (.int .i64 (t - y1)) ∧ w'.cell? ⟨gl, j, none⟩ = some (.int .i64 x1) ∧ w'.cell? ⟨gk, j, none⟩ = some (.int .i64 x1) ∧ w'.cell? ⟨ga, j, none⟩ = some (.int .i64 (t - y1)) ∧ Hid (Turn [] wr w')) := Lib.hid (fun wx tw => by
              refine (T.p_age_is x1 (cmpZ_refl x1) (hlt2.quiet tw) (lt_cmp hsm.tail.1) (gt_cmp hsm.tail.2)).mono ?_
              rintro e w' ⟨rfl, q⟩
              have tq := tw.trans q (by simp)
              exact ⟨rfl, tq.cell q1 (by simp), tq.cell q2 (by simp), tq.cell q3 (by simp), Lib.hid tq⟩)
            have CH : Hid (∀ wx, Turn [] wr wx → Calls Try.prog 27 #[.pointer (some ⟨b, 0, none⟩), .int .i64 x1] wx fun e w' => e = .returned (.bool true) ∧ w'.cell? ⟨gl, j, none⟩ = some (.int .i64 x1) ∧ w'.cell? ⟨gk, j, none⟩ = some (.int .i64 x1) ∧ w'.cell? ⟨ga, j, none⟩ = some (.int .i64 (t - y1)) ∧ Hid (Turn [] wr w')) := Lib.hid (fun wx tw => by
              refine (T.p_has_is x1 (cmpZ_refl x1) (hlt2.quiet tw) (lt_cmp hsm.tail.1) (gt_cmp hsm.tail.2)).mono ?_
              rintro e w' ⟨rfl, q⟩
              have tq := tw.trans q (by simp)
              exact ⟨rfl, tq.cell q1 (by simp), tq.cell q2 (by simp), tq.cell q3 (by simp), Lib.hid tq⟩)
            obtain ⟨d1, hd1⟩ : ∃ d1, d1 = t - y1 := ⟨_, rfl⟩
            rw [← hd1] at q3 CA CH
            have hbj : 0 ≤ (j : Int) ∧ (j : Int) < (N : Int) := by omega
            clear hx1 hy1 hxy hsp hlt2 hsm hp hD hd1
            go_wp2_with fail
            go_region_held3 (fun w' => w'.cell? ⟨gl, j, none⟩ = some (.int .i64 x1) ∧ w'.cell? ⟨gk, j, none⟩ = some (.int .i64 x1) ∧ w'.cell? ⟨ga, j, none⟩ = some (.int .i64 d1))
              (first | exact ⟨r1, r2, r3⟩ | exact ⟨p1, p2, p3⟩ | exact ⟨q1, q2, q3⟩)
              (first
                | (go_at_call 26; ((with_reducible refine (CA.out _ (Turn.drew [] wr)).mono ?_); rintro e w7 ⟨rfl, p1, p2, p3, T7⟩))
                | (go_at_call 27; ((with_reducible refine (CH.out _ T7.out).mono ?_); rintro e w8 ⟨rfl, r1, r2, r3, T8⟩)))
            go_wp2_with fail
            go_roundw
            case rel => exact ⟨j + 1, by omega, by go_num, TJ.out.trans T8.out (by simp)⟩
            case measure => simp [intOf]; omega
          · obtain rfl : j = N := by omega
            have hp := P6.out.quiet TJ.out
            have hle : ∀ p ∈ K, p.1 < 99 := fun p hp => by have := HSM.out.2 p hp; omega
            have C1 := T.p_age_none (A := K) (B := []) 99 (by rw [List.append_nil]; exact hp.lt) (lt_cmp hle) (by simp)
            have C2 : ∀ wx, Turn [] wr wx → Calls Try.prog 27 #[.pointer (some ⟨b, 0, none⟩), .int .i64 99] wx fun e w' => e = .returned (.bool false) ∧ Turn [] wx w' := fun wx tw => T.p_has_none (A := K) (B := []) 99 (by rw [List.append_nil]; exact hp.lt.quiet tw) (lt_cmp hle) (by simp)
            have HC1 := Lib.hid C1
            have HC2 := Lib.hid C2
            have HBE := Lib.hid hp.lt.bel
            clear C1 C2 hp hle
            go_wp2_with fail
            refine HC1.out.mono ?_
            rintro e w7 ⟨rfl, t7⟩
            have T7 := Lib.hid t7
            clear t7 HC1
            go_wp2_with fail
            refine (HC2.out _ T7.out).mono ?_
            rintro e w8 ⟨rfl, t8⟩
            have B8 := Lib.hid (HBE.out.trans (((T7.out.trans t8 (by simp)).belowAll).mono HBE.out.size))
            clear t8 HC2
            go_wp2
            go_ret
            exact ⟨rfl, B8.out⟩

end Go.Proofs.Ytikbldnekehodaa
