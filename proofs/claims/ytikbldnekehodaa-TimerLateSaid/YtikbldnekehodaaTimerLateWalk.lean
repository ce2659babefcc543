/-
  The walk of the law TimerLate.
-/
import Derived.Test.YtikbldnekehodaaBegun6
import Derived.Test.YtikbldnekehodaaUTimL
import Derived.Lib.MinMax
namespace Go.Proofs.Ytikbldnekehodaa
open Go.RowKit

def nLoud : ByteArray := ⟨#[108, 111, 117, 100]⟩
def nMute : ByteArray := ⟨#[109, 117, 116, 101]⟩

theorem cmp_LL : cmpS nLoud nLoud = 0 := by kernel_rfl
theorem cmp_MM : cmpS nMute nMute = 0 := by kernel_rfl
theorem cmp_LM : cmpS nLoud nMute = -1 := by kernel_rfl
theorem cmp_ML : cmpS nMute nLoud = 1 := by kernel_rfl

/-- Who is there: the loud one, heard at h; the mute one, heard at the start. -/
def lateK (h : Int) : List (ByteArray × Int) := [(nLoud, h), (nMute, 0)]

theorem late_loLoud (h : Int) : ∀ i (hi : i < (lateK h).length), i < 0 → cmpS (lateK h)[i].1 nLoud < 0 := by intro i hi hm; omega
theorem late_hiLoud (h : Int) : ∀ i (hi : i < (lateK h).length), 0 ≤ i → 0 ≤ cmpS (lateK h)[i].1 nLoud := by
  intro i hi _
  have : i = 0 ∨ i = 1 := by simp [lateK] at hi; omega
  rcases this with rfl | rfl
  · show 0 ≤ cmpS nLoud nLoud
    rw [cmp_LL]; omega
  · show 0 ≤ cmpS nMute nLoud
    rw [cmp_ML]; omega
theorem late_loMute (h : Int) : ∀ i (hi : i < (lateK h).length), i < 1 → cmpS (lateK h)[i].1 nMute < 0 := by
  intro i hi hm
  obtain rfl : i = 0 := by omega
  show cmpS nLoud nMute < 0
  rw [cmp_LM]; omega
theorem late_hiMute (h : Int) : ∀ i (hi : i < (lateK h).length), 1 ≤ i → 0 ≤ cmpS (lateK h)[i].1 nMute := by
  intro i hi hm
  obtain rfl : i = 1 := by simp [lateK] at hi; omega
  show 0 ≤ cmpS nMute nMute
  rw [cmp_MM]; omega

/-- Who is told at the tick t: the loud one spoke at the one ahead. -/
theorem late_sil1 (t : Int) (ht : 1 ≤ t) : S.T.silK 1 t (lateK (t - 1)) = [.string nLoud, .string nMute] := by
  unfold S.T.silK lateK
  rw [List.filter_cons_of_pos (by simp; omega), List.filter_cons_of_pos (by simp; omega)]
  rfl
theorem late_sil2 (most t : Int) (hm : 1 < most) (ht : most ≤ t) : S.T.silK most t (lateK (t - 1)) = [.string nMute] := by
  unfold S.T.silK lateK
  rw [List.filter_cons_of_neg (by simp; omega), List.filter_cons_of_pos (by simp; omega)]
  rfl
theorem late_sil3 (most t : Int) (hm : 1 < most) (ht : t < most) : S.T.silK most t (lateK (t - 1)) = [] := by
  unfold S.T.silK lateK
  rw [List.filter_cons_of_neg (by simp; omega), List.filter_cons_of_neg (by simp; omega)]
  rfl

theorem late_tick {w wr : World} {b : Nat} {most : Int} {v : Value} (k : Nat) (h : S.T.LT w wr b most (k : Int) v (lateK (k : Int))) (hk : (k : Int) ≤ 999999) (hm : 1 ≤ most) :
    Calls Try.prog 30 #[.pointer (some ⟨b, 0, none⟩)] wr fun e w' => ∃ ao n c, e = .returned (.slice ao n c) ∧
      (most = 1 → n = 2) ∧ (1 < most → (n : Int) = min 1 (max 0 ((k : Int) + 1 - most + 1))) ∧ (0 < n → ∃ g, ao = some ⟨g, 0, none⟩ ∧ w'.cell? ⟨g, n - 1, none⟩ = some (.string nMute)) ∧ n ≤ 2 ∧ S.T.LT w w' b most ((k : Int) + 1) v (lateK (k : Int)) := by
  refine (S.T.lt_tick h hk).mono ?_
  rintro e w' ⟨ao, c, rfl, hc, o⟩
  have e1 : (k : Int) + 1 - 1 = (k : Int) := by omega
  by_cases h1 : most = 1
  · subst h1
    have hs := late_sil1 ((k : Int) + 1) (by omega)
    rw [e1] at hs
    rw [hs] at hc ⊢
    refine ⟨ao, 2, c, rfl, fun _ => rfl, fun h2 => by omega, fun _ => ?_, by omega, o⟩
    obtain ⟨g, hg, -, hcell⟩ := hc 1 (.string nMute) rfl
    exact ⟨g, hg, hcell⟩
  · by_cases h2 : most ≤ (k : Int) + 1
    · have hs := late_sil2 most ((k : Int) + 1) (by omega) h2
      rw [e1] at hs
      rw [hs] at hc ⊢
      refine ⟨ao, 1, c, rfl, fun h3 => by omega, fun _ => by omega, fun _ => ?_, by omega, o⟩
      obtain ⟨g, hg, -, hcell⟩ := hc 0 (.string nMute) rfl
      exact ⟨g, hg, hcell⟩
    · have hs := late_sil3 most ((k : Int) + 1) (by omega) (by omega)
      rw [e1] at hs
      rw [hs] at hc ⊢
      exact ⟨ao, 0, c, rfl, fun h3 => by omega, fun _ => by omega, fun h3 => by omega, by omega, o⟩

theorem late_heard {w wr : World} {b : Nat} {most t h : Int} {v : Value} (o : S.T.LT w wr b most t v (lateK h)) :
    Calls Try.prog 29 #[.pointer (some ⟨b, 0, none⟩), .string nLoud] wr fun e w' => e = .returned (.bool false) ∧ S.T.LT w w' b most t v (lateK t) :=
  S.T.lt_heard_is o nLoud (m := 0) (by simp [lateK]) (late_loLoud h) (late_hiLoud h) (by show cmpS nLoud nLoud = 0; exact cmp_LL)

theorem late_ageM {w wr : World} {b : Nat} {most t h : Int} {v : Value} (o : S.T.LT w wr b most t v (lateK h)) :
    Calls Try.prog 31 #[.pointer (some ⟨b, 0, none⟩), .string nMute] wr fun e w' => e = .returned (.int .i64 t) ∧ S.T.LT w w' b most t v (lateK h) := by
  refine (S.T.lt_age_is o nMute (m := 1) (by simp [lateK]) (late_loMute h) (late_hiMute h) (by show cmpS nMute nMute = 0; exact cmp_MM)).mono ?_
  rintro e w' ⟨rfl, o2⟩
  rw [show t - ((lateK h).getD 1 (⟨#[]⟩, 0)).2 = t by show t - 0 = t; omega]
  exact ⟨rfl, o2⟩

theorem late_ageL {w wr : World} {b : Nat} {most t : Int} {v : Value} (o : S.T.LT w wr b most t v (lateK t)) :
    Calls Try.prog 31 #[.pointer (some ⟨b, 0, none⟩), .string nLoud] wr fun e w' => e = .returned (.int .i64 0) ∧ S.T.LT w w' b most t v (lateK t) := by
  refine (S.T.lt_age_is o nLoud (m := 0) (by simp [lateK]) (late_loLoud t) (late_hiLoud t) (by show cmpS nLoud nLoud = 0; exact cmp_LL)).mono ?_
  rintro e w' ⟨rfl, o2⟩
  rw [show t - ((lateK t).getD 0 (⟨#[]⟩, 0)).2 = 0 by show t - t = 0; omega]
  exact ⟨rfl, o2⟩

set_option maxHeartbeats 4000000 in
set_option maxRecDepth 100000 in
theorem timerLate_walk {w : World} (most : Int) (_hm : (Lit.int .i64 most).wf = true) (n : Int) (_hn : (Lit.int .i64 n).wf = true) : Calls Try.prog 6 #[.int .i64 most, .int .i64 n] w fun e w' => e = .returned (.bool true) ∧ Below w.heap.size w w' := by
  go_enter Try.func6, Try.ntmps6
  go_wp2_with fail
  refine (begun6_calls w).mono ?_
  rintro e w1 ⟨rfl, b1⟩
  have B1 := Lib.hid b1
  clear b1
  by_cases hm1 : most < 1
  · go_wp2
    go_ret
    exact ⟨rfl, B1.out⟩
  by_cases hm2 : 20 < most
  · go_wp2
    go_ret
    exact ⟨rfl, B1.out⟩
  by_cases hlt : n < 0
  · go_wp2
    go_ret
    exact ⟨rfl, B1.out⟩
  by_cases hgt : 30 < n
  · go_wp2
    go_ret
    exact ⟨rfl, B1.out⟩
  go_wp2_with fail
  refine (S.T.new_calls most (by unfold S.inI64; omega) w1).mono ?_
  rintro e w2 ⟨rfl, h2, t2⟩
  obtain ⟨b, hb⟩ : ∃ b, b = w1.heap.size := ⟨_, rfl⟩
  have O2 := Lib.hid (S.T.LT.new B1.out h2 t2)
  rw [← hb] at O2 ⊢
  clear h2 t2 B1 hb
  go_wp2_with fail
  refine (S.T.lt_heard_new O2.out nLoud (by simp) (m := 0) (Nat.zero_le _) (by intro i hi; simp at hi) (by intro i hi; simp at hi) (by simp)).mono ?_
  rintro e w3 ⟨v3, rfl, o3⟩
  have O3 : Hid (S.T.LT w w3 b most 0 v3 [(nLoud, 0)]) := Lib.hid o3
  clear o3 O2
  go_wp2_with fail
  refine (S.T.lt_heard_new O3.out nMute (by simp) (m := 1) (by simp) (fun i hi hm => by
    obtain rfl : i = 0 := by omega
    show cmpS nLoud nMute < 0
    rw [cmp_LM]; omega) (by intro i hi hm; simp at hi; omega) (by simp)).mono ?_
  rintro e w4 ⟨v4, rfl, o4⟩
  have O4 : Hid (S.T.LT w w4 b most ((0 : Nat) : Int) v4 (lateK ((0 : Nat) : Int))) := Lib.hid o4
  clear o4 O3
  go_wp2_with fail
  go_loopw [7, 8] (fun vt vi wx => ∃ k : Nat, (k : Int) ≤ n ∧ vi = .int .i64 ((k : Int) + 1) ∧ vt = .int .i64 (max 0 ((k : Int) - most + 1)) ∧ S.T.LT w wx b most (k : Int) v4 (lateK (k : Int))) (fun _ vi _ => 31 - (intOf vi).toNat)
  case atStart => exact ⟨0, by omega, rfl, by rw [show max 0 (((0 : Nat) : Int) - most + 1) = 0 by omega], O4.out⟩
  case round =>
    obtain ⟨k, hk, rfl, rfl, ho⟩ := hrel
    have O := Lib.hid ho
    clear ho O4
    by_cases hkn : (k : Int) + 1 ≤ n
    · go_wp2_with fail
      refine (late_tick k O.out (by omega) (by omega)).mono ?_
      rintro e w5 ⟨ao, l, c, rfl, hl0, hl1, hl2, hl3, o5⟩
      have O5 := Lib.hid o5
      have HL2 := Lib.hid hl2
      clear o5 O hl2
      have hnm : nMute.toList = [109, 117, 116, 101] := by kernel_rfl
      by_cases h1m : most = 1
      · obtain rfl : l = 2 := hl0 h1m
        obtain ⟨g, rfl, hcell⟩ := HL2.out (by omega)
        have hm8 : most ≤ 1 := by omega
        have hge : most ≤ (k : Int) + 1 := by omega
        clear HL2 hl0 hl1 hl3 h1m
        go_wp2_with fail
        refine (late_heard O5.out).mono ?_
        rintro e w6 ⟨rfl, o6⟩
        have O6 := Lib.hid o6
        clear o6 O5
        go_wp2
        go_roundw
        case rel => exact ⟨k + 1, by omega, by go_num, by rw [show max 0 ((k : Int) - most + 1) + 1 = max 0 (((k + 1 : Nat) : Int) - most + 1) by omega], by rw [Int.natCast_succ]; exact O6.out⟩
        case measure => simp [intOf]; omega
      · have hm9 : 1 < most := by omega
        have hl9 := hl1 hm9
        by_cases hge : most ≤ (k : Int) + 1
        · obtain rfl : l = 1 := by omega
          obtain ⟨g, rfl, hcell⟩ := HL2.out (by omega)
          clear HL2 hl0 hl1 hl3 h1m
          go_wp2_with fail
          refine (late_heard O5.out).mono ?_
          rintro e w6 ⟨rfl, o6⟩
          have O6 := Lib.hid o6
          clear o6 O5
          go_wp2
          go_roundw
          case rel => exact ⟨k + 1, by omega, by go_num, by rw [show max 0 ((k : Int) - most + 1) + 1 = max 0 (((k + 1 : Nat) : Int) - most + 1) by omega], by rw [Int.natCast_succ]; exact O6.out⟩
          case measure => simp [intOf]; omega
        · obtain rfl : l = 0 := by omega
          clear HL2 hl0 hl1 hl3 h1m
          go_wp2_with fail
          refine (late_heard O5.out).mono ?_
          rintro e w6 ⟨rfl, o6⟩
          have O6 := Lib.hid o6
          clear o6 O5
          go_wp2
          go_roundw
          case rel => exact ⟨k + 1, by omega, by go_num, by rw [show max 0 ((k : Int) - most + 1) = max 0 (((k + 1 : Nat) : Int) - most + 1) by omega], by rw [Int.natCast_succ]; exact O6.out⟩
          case measure => simp [intOf]; omega
    · obtain rfl : (k : Int) = n := by omega
      go_wp2_with fail
      refine (late_ageM O.out).mono ?_
      rintro e w5 ⟨rfl, o5⟩
      have O5 := Lib.hid o5
      clear o5 O
      go_wp2_with fail
      refine (late_ageL O5.out).mono ?_
      rintro e w6 ⟨rfl, o6⟩
      have B6 := Lib.hid o6.bel
      clear o6 O5
      go_wp2
      go_ret
      exact ⟨rfl, B6.out⟩

end Go.Proofs.Ytikbldnekehodaa
