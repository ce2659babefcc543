/-
  The walk of the law SegRoom.
-/
import Derived.Test.YtgachdaphdjddaaDoorBegun4
import Derived.Test.YtgachdaphdjddaaDoorSegPut
namespace Go.Proofs.YtgachdaphdjddaaDoor
open Go.RowKit

set_option maxHeartbeats 4000000 in
set_option maxRecDepth 100000 in
theorem segRoom_walk (a0 : Int) (_w0 : (Lit.int .i64 a0).wf = true) (a1 : Option Addr) (cap1 : Nat) (l1 : List Int) (w : World) (w1 : Il w a1 cap1 l1) (htab : Tab w) :
    Calls Tryd.prog 5 #[.int .i64 a0, .slice a1 l1.length cap1] w fun e w' => e = .returned (.bool true) ∧ Below w.heap.size w w' := by
  clear _w0
  have hlen : (l1.length : Int) ≤ 9223372036854775807 := by
    rcases id w1 with ⟨_, _, rfl⟩ | ⟨A, _, q1, q2, _⟩
    · simp
    · unfold maxLen at q2; omega
  have H1 := Lib.hid w1
  have HTB := Lib.hid htab
  clear w1 htab
  by_cases hin : 0 ≤ a0 ∧ a0 ≤ 400
  · obtain ⟨R, rfl⟩ : ∃ n : Nat, a0 = (n : Int) := ⟨a0.toNat, by omega⟩
    have hR : R ≤ 400 := by omega
    clear hin
    have hroom : roomOf (R : Int) = R := by unfold roomOf; omega
    have g1 : decide ((R : Int) < 0) = false := by simp; try omega
    have g2 : decide (400 < (R : Int)) = false := by simp; try omega
    go_enter Tryd.func5, Tryd.ntmps5
    go_wp2_with fail
    refine (begun4_calls _ HTB.out).mono ?_
    rintro e x1 ⟨rfl, hb1⟩
    have B1 := Lib.hid hb1
    have T1 := Lib.hid (HTB.out.turn (Turn.of_below hb1 []) (by simp))
    clear hb1
    go_wp2_with fail
    refine (dk_new (R : Int) x1).mono ?_
    rintro e x2 ⟨rfl, hd⟩
    rw [hroom] at hd
    have D2 := Lib.hid hd
    obtain ⟨d, hdd⟩ : ∃ d, d = x1.heap.size := ⟨_, rfl⟩
    rw [← hdd] at D2 ⊢
    clear hd hdd hroom
    go_wp2_with fail
    refine (open_calls D2.out T1.out 0 (by decide) 0 (fun n => by simp [mDel, bytesOf]) (by simp)).mono ?_
    rintro e x3 ⟨hok, -⟩
    obtain ⟨lb, rfl, hl3⟩ := hok (by rw [(open_empty R).1])
    rw [(open_empty R).1, (open_empty R).2] at hl3
    have L3 := Lib.hid (show Lg [] x1 x3 lb d R 0 [] (oneM []) from hl3)
    clear hl3 hok D2 g1 g2
    go_wp2_with fail
    go_loopw [9, 10, 11] (fun u n i wr => ∃ (k : Nat) (T : List (List UInt8)), k ≤ l1.length ∧ k ≤ 20 ∧ i = .int .i64 k ∧ u = .int .i64 ((frs T).length : Nat) ∧ n = .int .i64 (T.length : Nat) ∧ (Lg [] x1 wr lb d R 0 T (oneM T) ∧ (frs T).length ≤ R ∧ T.length ≤ k ∧ ∀ t ∈ T, t.length ≤ 60)) (fun _ _ i _ => 20 - (intOf i).toNat)
    case atStart => exact ⟨0, [], by omega, by omega, rfl, rfl, rfl, L3.out, by simp [frs_nil], by simp, by simp⟩
    case round =>
      clear L3
      obtain ⟨k, T, hk, hk20, rfl, rfl, rfl, hL, hfr, hT, hall⟩ := hrel
      have L3 := Lib.hid hL
      have HALL := Lib.hid hall
      obtain ⟨U, hU⟩ : ∃ U, U = (frs T).length := ⟨_, rfl⟩
      obtain ⟨n, hn⟩ : ∃ n, n = T.length := ⟨_, rfl⟩
      have HU := Lib.hid hU
      have HN := Lib.hid hn
      rw [← hU] at hfr ⊢
      rw [← hn] at hT ⊢
      clear hL hall hU hn
      by_cases hlt : k < l1.length ∧ k < 20
      · obtain ⟨hl, h20⟩ := hlt
        obtain ⟨ob, off, ha0, hob, hop⟩ := H1.out.at (by intro e; rw [e] at hl; simp at hl)
        subst ha0
        have hz := ((L3.out.1.belowAll.cell (p := ⟨ob, off + k, none⟩) (by show ob < _; have := B1.out.size; omega)).trans (B1.out.cell (p := ⟨ob, off + k, none⟩) hob)).trans (hop k hl)
        clear hop
        generalize l1.getD k 0 = z at hz
        have ht1 : -60 < z.tmod 60 := Int.lt_tmod_of_pos z (by decide)
        have ht2 : z.tmod 60 < 60 := Int.tmod_lt_of_pos z (by decide)
        obtain ⟨t, ht⟩ : ∃ t, z.tmod 60 = t := ⟨_, rfl⟩
        rw [ht] at ht1 ht2
        obtain ⟨kk, hkk⟩ : ∃ kk : Nat, 1 + t % 60 = (kk : Int) := ⟨(1 + t % 60).toNat, by omega⟩
        have hk60 : 1 ≤ kk ∧ kk ≤ 60 := by omega
        have hmk := fun wx => make_bytes wx kk (by omega)
        have hd20 : decide ((k : Int) < 20) = true := by simp; omega
        go_wp2_with fail
        have C := add_at L3.out (Turn.alloc [] wr (.cells (madeCells #[.int .u8 0] kk) 5)) (some ⟨wr.heap.size, 0, none⟩) kk (List.replicate kk 0) (by simp [okF]; omega) (made_sl wr kk (by omega)) (fun A hA => .inr (by cases hA; exact Nat.le_refl _)) (by rw [(oneM_to (by rw [← HU.out]; omega)).1]; decide) (by rw [← HN.out]; omega)
        rw [(oneM_to (by rw [← HU.out]; omega)).1, (oneM_to (by rw [← HU.out]; omega)).2, oneM_app.1, oneM_app.2, List.length_replicate, ← HU.out] at C
        by_cases hfit : R < U + (6 + kk)
        · rw [if_pos hfit, if_pos hfit] at C
          refine C.mono ?_
          rintro e x4 ⟨rfl, -, hl4⟩
          have L4 := Lib.hid (hl4 (by decide))
          clear hl4 C hmk
          have hle : decide ((U : Int) + (kk : Int) + 6 ≤ (R : Int)) = false := by simp; omega
          have hgt : decide ((R : Int) < (U : Int)) = false := by simp; omega
          go_wp2_with fail
          refine (dk_used L4.out.dk).mono ?_
          rintro e w' ⟨rfl, rfl⟩
          rw [oneM_tot, ← HU.out]
          go_wp2
          go_roundw
          case rel => exact ⟨k + 1, T, by omega, by omega, by go_num, by rw [← HU.out], by rw [← HN.out], L4.out, by rw [← HU.out]; omega, by rw [← HN.out]; omega, HALL.out⟩
          case measure => simp [intOf]; omega
        · rw [if_neg hfit, if_neg hfit] at C
          refine C.mono ?_
          rintro e x4 ⟨rfl, hl4, -⟩
          have L4 := Lib.hid (hl4 rfl)
          clear hl4 C hmk
          have hle : decide ((U : Int) + (kk : Int) + 6 ≤ (R : Int)) = true := by simp; omega
          have hfr' : Hid ((frs (T ++ [List.replicate kk 0])).length = U + (6 + kk)) := Lib.hid (by rw [frs_append, List.length_append, frs_one, frB_length, List.length_replicate, ← HU.out])
          have hgt : decide ((R : Int) < ((U + (6 + kk) : Nat) : Int)) = false := by simp; omega
          go_wp2_with fail
          refine (dk_used L4.out.dk).mono ?_
          rintro e w' ⟨rfl, rfl⟩
          rw [oneM_tot, hfr'.out]
          go_wp2
          go_roundw
          case rel => exact ⟨k + 1, T ++ [List.replicate kk 0], by omega, by omega, by go_num, by rw [hfr'.out]; go_num, by rw [List.length_append, List.length_singleton, ← HN.out]; go_num, L4.out, by rw [hfr'.out]; omega, by rw [List.length_append, List.length_singleton, ← HN.out]; omega, by
            intro x hx
            rcases List.mem_append.1 hx with hx | hx
            · exact HALL.out x hx
            · simp at hx; rw [hx]; simp; omega⟩
          case measure => simp [intOf]; omega
      · have CA := all_calls L3.out (fun i hi => Nat.le_trans (HALL.out T[i] (List.getElem_mem hi)) (by decide))
        rw [← HN.out] at CA
        have HCA := Lib.hid CA
        clear CA
        by_cases hl : k < l1.length
        · have hd20 : decide ((k : Int) < 20) = false := by simp; omega
          go_wp2_with fail
          refine HCA.out.mono ?_
          rintro e x5 ⟨rfl, -, hb5⟩
          have B5 := Lib.hid (L3.out.below hb5)
          clear hb5
          go_wp2
          go_ret
          exact ⟨rfl, B1.out.trans (B5.out.1.belowAll.mono B1.out.size)⟩
        · go_wp2_with fail
          refine HCA.out.mono ?_
          rintro e x5 ⟨rfl, -, hb5⟩
          have B5 := Lib.hid (L3.out.below hb5)
          clear hb5
          go_wp2
          go_ret
          exact ⟨rfl, B1.out.trans (B5.out.1.belowAll.mono B1.out.size)⟩
  · go_enter Tryd.func5, Tryd.ntmps5
    go_wp2_with fail
    refine (begun4_calls _ HTB.out).mono ?_
    rintro e x1 ⟨rfl, hb1⟩
    have B1 := Lib.hid hb1
    clear hb1
    by_cases k1 : a0 < 0
    · go_wp2
      go_ret
      exact ⟨rfl, B1.out⟩
    · have k2 : 400 < a0 := by omega
      go_wp2
      go_ret
      exact ⟨rfl, B1.out⟩

end Go.Proofs.YtgachdaphdjddaaDoor
