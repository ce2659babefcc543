/-
  sort.Find over a closure of the bag's; the closure; the place of a thing.
-/
import Derived.Test.YtikbldnekehodaaCmp
namespace Go.Proofs.Ytikbldnekehodaa
open Go.RowKit

set_option maxHeartbeats 2000000 in
set_option maxRecDepth 100000 in
/-- sort.Find: f is above nought below m, and not from m on. -/
theorem sortFind_calls (kf : FuncId) (cap : Array Value) (n m : Nat) (g : Nat → Int) (w : World) (hn : n ≤ 1000000) (hm : m ≤ n)
    (enter : ∀ args wx, (callFunc kf args).run Try.prog wx = .ok (.enter kf args) wx)
    (calls : ∀ i wx, i < n → Turn [] w wx → Calls Try.prog kf (#[.int .i64 (i : Int)] ++ cap) wx fun e w' => e = .returned (.int .i64 (g i)) ∧ Turn [] w w')
    (hlo : ∀ i, i < m → 0 < g i) (hhi : ∀ i, m ≤ i → i < n → g i ≤ 0) :
    Calls Try.prog 69 #[.int .i64 (n : Int), .func (.func kf) #[] cap] w fun e w' => e = .returned (.tuple #[.int .i64 (m : Int), .bool (decide (m < n) && (g m == 0))]) ∧ Turn [] w w' := by
  go_enter Try.func69, Try.ntmps69
  go_wp2_with fail
  go_loopw [4, 6] (fun vi vj wx => ∃ i j : Nat, i ≤ m ∧ m ≤ j ∧ j ≤ n ∧ vi = .int .i64 (i : Int) ∧ vj = .int .i64 (j : Int) ∧ Turn [] w wx) (fun vi vj _ => (intOf vj).toNat - (intOf vi).toNat)
  case atStart => exact ⟨0, n, by omega, hm, Nat.le_refl _, rfl, rfl, Turn.refl _ _⟩
  case round =>
    obtain ⟨i, j, hi, hj, hjn, rfl, rfl, ht⟩ := hrel
    have HT := Lib.hid ht
    clear ht
    by_cases hij : i < j
    · obtain ⟨h, hh⟩ : ∃ h, h = (i + j) / 2 := ⟨_, rfl⟩
      have hih : i ≤ h ∧ h < j := by omega
      have hh' : ((i : Int) + (j : Int)) / 2 = (h : Int) := by omega
      clear hh
      have C := Lib.hid (calls h)
      by_cases hg : 0 < g h
      · have hhm : h < m := by
          false_or_by_contra
          have := hhi h (by omega) (by omega)
          omega
        go_wp2_with fail
        refine (C.out _ (by omega) HT.out).mono ?_
        rintro e x1 ⟨rfl, t1⟩
        have T1 := Lib.hid t1
        clear t1 C
        go_wp2
        go_roundw
        case rel => exact ⟨h + 1, j, by omega, hj, hjn, by go_num, rfl, T1.out⟩
        case measure => simp [intOf]; omega
      · have hhm : m ≤ h := by
          false_or_by_contra
          have := hlo h (by omega)
          omega
        go_wp2_with fail
        refine (C.out _ (by omega) HT.out).mono ?_
        rintro e x1 ⟨rfl, t1⟩
        have T1 := Lib.hid t1
        clear t1 C
        go_wp2
        go_roundw
        case rel => exact ⟨i, h, hi, hhm, by omega, rfl, rfl, T1.out⟩
        case measure => simp [intOf]; omega
    · have him : i = m := by omega
      subst him
      by_cases hin : i < n
      · have C := Lib.hid (calls i)
        have hin1 : decide ((i : Int) < (n : Int)) = true := by simp; omega
        have hin2 : decide (i < n) = true := by simp; omega
        go_wp2_with fail
        refine (C.out _ hin HT.out).mono ?_
        rintro e x1 ⟨rfl, t1⟩
        have T1 := Lib.hid t1
        clear t1 C
        go_wp2
        go_ret2
        exact ⟨by rw [hin2, Bool.true_and]; rfl, T1.out⟩
      · have hin1 : decide ((i : Int) < (n : Int)) = false := by simp; omega
        have hin2 : decide (i < n) = false := by simp; omega
        go_wp2
        go_ret2
        exact ⟨by rw [hin2, Bool.false_and]; rfl, HT.out⟩

end Go.Proofs.Ytikbldnekehodaa
