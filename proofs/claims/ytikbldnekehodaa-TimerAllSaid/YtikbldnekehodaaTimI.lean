/-
  A timer of numbers in memory; the place of one; how long it was silent.
-/
import Derived.Test.YtikbldnekehodaaTRow2
import Derived.Test.YtikbldnekehodaaBagA
import Derived.BigQuiet
import Derived.Deep.QuietTactic
namespace Go.Proofs.Ytikbldnekehodaa.T
open Go.RowKit

/-- A timer: its most, its ticks, its ones. -/
structure TimI (w : World) (b : Nat) (most ticks : Int) (v : Value) (K : List (Int × Int)) : Prop where
  head : w.heap[b]? = some (.cells #[.int .i64 most, .int .i64 ticks, v] 75)
  row : w.ownsRow 0 77 2 v K.length (kcells K)
  apart : v.ownBlock ≠ some b
  mo : inI64 most
  ti : 0 ≤ ticks ∧ ticks ≤ 1000000
  nums : ∀ p ∈ K, 0 ≤ p.2 ∧ p.2 ≤ ticks
  few : K.length ≤ 1000

theorem TimI.turn {w w' : World} {b : Nat} {most ticks : Int} {v : Value} {K : List (Int × Int)} {l : List Nat} (h : TimI w b most ticks v K) (t : Turn l w w') (hb : b ∉ l) (hv : ∀ k, v.ownBlock = some k → k ∉ l) : TimI w' b most ticks v K :=
  ⟨t.heap h.head hb, ownsRow_turn h.row t hv, h.apart, h.mo, h.ti, h.nums, h.few⟩

theorem TimI.cells {w : World} {b : Nat} {most ticks : Int} {v : Value} {K : List (Int × Int)} (h : TimI w b most ticks v K) : w.cell? ⟨b, 0, none⟩ = some (.int .i64 most) ∧ w.cell? ⟨b, 1, none⟩ = some (.int .i64 ticks) ∧ w.cell? ⟨b, 2, none⟩ = some v := by
  refine ⟨?_, ?_, ?_⟩ <;> simp [World.cell?, h.head]

theorem ones_at {w : World} {t : TypeId} {v : Value} {K : List (Int × Int)} (h : w.ownsRow 0 t 2 v K.length (kcells K)) :
    ∃ ao cap, v = .slice ao K.length cap ∧ K.length ≤ cap ∧ cap ≤ maxLen ∧ ∀ i (hi : i < K.length), ∃ g, ao = some ⟨g, 0, none⟩ ∧ w.cell? ⟨g, i * 2, none⟩ = some (.int .i64 K[i].1) ∧ w.cell? ⟨g, i * 2 + 1, none⟩ = some (.int .i64 K[i].2) := by
  rcases h.2 with ⟨rfl, h0⟩ | ⟨g, cap, cur, rfl, _, hg, hle, hmx, hsz, htk⟩
  · exact ⟨none, 0, by rw [h0], by omega, by unfold maxLen; omega, fun i hi => by omega⟩
  · refine ⟨_, cap, rfl, hle, hmx, fun i hi => ⟨g, rfl, ?_, ?_⟩⟩
    · have h1 := (kcells_at K i hi).1
      rw [← htk, List.getElem?_take_of_lt (by omega)] at h1
      rw [Nat.mul_comm] at h1
      simp [World.cell?, hg]
      simpa using h1
    · have h1 := (kcells_at K i hi).2
      rw [← htk, List.getElem?_take_of_lt (by omega)] at h1
      rw [Nat.mul_comm] at h1
      simp [World.cell?, hg]
      simpa using h1

set_option maxRecDepth 100000 in
theorem find1_calls (k h x : Int) (w : World) : Calls Try.prog 75 #[.agg #[.int .i64 k, .int .i64 h], .int .i64 x] w fun e w' => e = .returned (.int .i64 (cmpZ k x)) ∧ Turn [] w w' := by
  have C := Lib.hid (compare_int k x)
  obtain ⟨c, hc⟩ : ∃ c, c = cmpZ k x := ⟨_, rfl⟩
  rw [← hc] at C ⊢
  clear hc
  go_enter Try.func75, Try.ntmps75
  go_wp2_with fail
  refine (C.out _).mono ?_
  rintro e w1 ⟨rfl, rfl⟩
  go_wp2
  go_ret
  exact ⟨rfl, Turn.alloc [] w _⟩

theorem find1_enter (args : Array Value) (w : World) : (callFunc 75 args).run Try.prog w = .ok (.enter 75 args) w :=
  enter_run Try.func75 (by kernel_rfl) (by kernel_rfl) args w

set_option maxHeartbeats 2000000 in
set_option maxRecDepth 100000 in
/-- slices.BinarySearchFunc of the ones: the place m of x, or where it would stand. -/
theorem bs_calls {w : World} {v : Value} {K : List (Int × Int)} (h : w.ownsRow 0 77 2 v K.length (kcells K)) (hfew : K.length ≤ 1000) (x : Int) {m : Nat} (hm : m ≤ K.length)
    (hlo : ∀ i (hi : i < K.length), i < m → cmpZ K[i].1 x < 0) (hhi : ∀ i (hi : i < K.length), m ≤ i → 0 ≤ cmpZ K[i].1 x) :
    Calls Try.prog 74 #[v, .int .i64 x, .func (.func 75) #[] #[]] w fun e w' =>
      e = .returned (.tuple #[.int .i64 (m : Int), .bool (decide (m < K.length) && (cmpZ (K.getD m (0, 0)).1 x == 0))]) ∧ Turn [] w w' := by
  obtain ⟨n, hn⟩ : ∃ n, n = K.length := ⟨_, rfl⟩
  have HROW := Lib.hid h
  have HN := Lib.hid hn
  obtain ⟨ao, cp, rfl, hle, hmx, -⟩ := ones_at h
  have EN := find1_enter
  have LO := Lib.hid hlo
  have HI := Lib.hid hhi
  obtain ⟨r, hr⟩ : ∃ r, r = (decide (m < K.length) && (cmpZ (K.getD m (0, 0)).1 x == 0)) := ⟨_, rfl⟩
  have HR := Lib.hid hr
  rw [← hr]
  rw [← hn] at hm hle hfew ⊢
  clear h hn hlo hhi hr
  go_enter Try.func74, Try.ntmps74
  go_wp2_with fail
  go_loopw [9, 10] (fun vi vj wx => ∃ i j : Nat, i ≤ m ∧ m ≤ j ∧ j ≤ n ∧ vi = .int .i64 (i : Int) ∧ vj = .int .i64 (j : Int) ∧ Turn [] w wx) (fun vi vj _ => (intOf vj).toNat - (intOf vi).toNat)
  case atStart => exact ⟨0, n, by omega, hm, Nat.le_refl _, rfl, rfl, Turn.refl _ _⟩
  case round =>
    obtain ⟨i, j, hi, hj, hjn, rfl, rfl, ht⟩ := hrel
    have HT := Lib.hid ht
    have hrow := ownsRow_turn HROW.out ht (fun _ _ => by simp)
    obtain ⟨ao', cp', he, -, -, hat⟩ := ones_at hrow
    rw [← HN.out] at he
    simp only [Value.slice.injEq, true_and] at he
    obtain ⟨rfl, rfl⟩ := he
    clear ht hrow
    by_cases hij : i < j
    · obtain ⟨h, hh⟩ : ∃ h, h = (i + j) / 2 := ⟨_, rfl⟩
      have hih : i ≤ h ∧ h < j := by omega
      have hh' : ((i : Int) + (j : Int)) / 2 = (h : Int) := by omega
      clear hh
      have hhk : h < K.length := by rw [← HN.out]; omega
      obtain ⟨g, rfl, hk0, hk1⟩ := hat h hhk
      obtain ⟨y, hy⟩ : ∃ y, y = K[h].1 := ⟨_, rfl⟩
      obtain ⟨y2, hy2⟩ : ∃ y, y = K[h].2 := ⟨_, rfl⟩
      rw [← hy] at hk0
      rw [← hy2] at hk1
      have hb : 0 ≤ (h : Int) ∧ (h : Int) < (n : Int) := by omega
      have C := Lib.hid (find1_calls y y2 x)
      by_cases hg : cmpZ y x < 0
      · have hhm : h < m := by
          false_or_by_contra
          have := HI.out h hhk (by omega)
          rw [← hy] at this
          omega
        obtain ⟨c, hc⟩ : ∃ c, c = cmpZ y x := ⟨_, rfl⟩
        rw [← hc] at C hg
        clear hat hy hy2 hc
        go_wp2_with fail
        refine (C.out _).mono ?_
        rintro e x1 ⟨rfl, t1⟩
        have T1 := Lib.hid (HT.out.trans t1 (by simp))
        clear t1 C
        go_wp2
        go_roundw
        case rel => exact ⟨h + 1, j, by omega, hj, hjn, by go_num, rfl, T1.out⟩
        case measure => simp [intOf]; omega
      · have hhm : m ≤ h := by
          false_or_by_contra
          have := LO.out h hhk (by omega)
          rw [← hy] at this
          omega
        obtain ⟨c, hc⟩ : ∃ c, c = cmpZ y x := ⟨_, rfl⟩
        rw [← hc] at C hg
        clear hat hy hy2 hc
        go_wp2_with fail
        refine (C.out _).mono ?_
        rintro e x1 ⟨rfl, t1⟩
        have T1 := Lib.hid (HT.out.trans t1 (by simp))
        clear t1 C
        go_wp2
        go_roundw
        case rel => exact ⟨i, h, hi, hhm, by omega, rfl, rfl, T1.out⟩
        case measure => simp [intOf]; omega
    · have him : i = m := by omega
      subst him
      by_cases hin : i < n
      · have hik : i < K.length := by rw [← HN.out]; exact hin
        obtain ⟨g, rfl, hk0, hk1⟩ := hat i hik
        obtain ⟨y, hy⟩ : ∃ y, y = K[i].1 := ⟨_, rfl⟩
        obtain ⟨y2, hy2⟩ : ∃ y, y = K[i].2 := ⟨_, rfl⟩
        rw [← hy] at hk0
        rw [← hy2] at hk1
        have hb : 0 ≤ (i : Int) ∧ (i : Int) < (n : Int) := by omega
        have hin1 : decide ((i : Int) < (n : Int)) = true := by simp; omega
        have C := Lib.hid (find1_calls y y2 x)
        have HR2 : Hid (r = (cmpZ y x == 0)) := Lib.hid (by rw [HR.out, hy]; simp [List.getD, hik])
        obtain ⟨c, hc⟩ : ∃ c, c = cmpZ y x := ⟨_, rfl⟩
        rw [← hc] at C HR2
        clear hat hy hy2 hc
        go_wp2_with fail
        refine (C.out _).mono ?_
        rintro e x1 ⟨rfl, t1⟩
        have T1 := Lib.hid (HT.out.trans t1 (by simp))
        clear t1 C
        go_wp2
        go_ret2
        exact ⟨by rw [HR2.out]; rfl, T1.out⟩
      · have hin1 : decide ((i : Int) < (n : Int)) = false := by simp; omega
        have HR2 : Hid (r = false) := Lib.hid (by rw [HR.out, ← HN.out]; simp [hin])
        clear hat
        go_wp2
        go_ret2
        exact ⟨by rw [HR2.out]; rfl, HT.out⟩

set_option maxRecDepth 100000 in
/-- find. -/
theorem find_calls {w : World} {b : Nat} {most ticks : Int} {v : Value} {K : List (Int × Int)} (h : TimI w b most ticks v K) (x : Int) {m : Nat} (hm : m ≤ K.length)
    (hlo : ∀ i (hi : i < K.length), i < m → cmpZ K[i].1 x < 0) (hhi : ∀ i (hi : i < K.length), m ≤ i → 0 ≤ cmpZ K[i].1 x) :
    Calls Try.prog 52 #[.pointer (some ⟨b, 0, none⟩), .int .i64 x] w fun e w' =>
      e = .returned (.tuple #[.int .i64 (m : Int), .bool (decide (m < K.length) && (cmpZ (K.getD m (0, 0)).1 x == 0))]) ∧ Turn [] w w' := by
  have BC := Lib.hid (bs_calls h.row h.few x hm hlo hhi)
  obtain ⟨c0, c1, c2⟩ := h.cells
  obtain ⟨r, hr⟩ : ∃ r, r = (decide (m < K.length) && (cmpZ (K.getD m (0, 0)).1 x == 0)) := ⟨_, rfl⟩
  rw [← hr] at BC ⊢
  clear h hlo hhi hr
  go_enter Try.func52, Try.ntmps52
  go_wp2_with fail
  refine BC.out.mono ?_
  rintro e w1 ⟨rfl, t1⟩
  have T1 := Lib.hid t1
  clear t1 BC
  go_wp2
  go_ret2
  exact ⟨rfl, T1.out⟩

theorem find_nil (x : Int) (w : World) : Calls Try.prog 52 #[.pointer none, .int .i64 x] w fun e w' => e = .returned (.tuple #[.int .i64 0, .bool false]) ∧ w' = w := by
  go_enter Try.func52, Try.ntmps52
  go_wp2
  go_ret2
  exact ⟨rfl, rfl⟩

set_option maxHeartbeats 1000000 in
set_option maxRecDepth 100000 in
/-- age: of who stands at that place. -/
theorem age_calls {w : World} {b : Nat} {most ticks : Int} {v : Value} {K : List (Int × Int)} (h : TimI w b most ticks v K) {i : Nat} (hi : i < K.length) :
    Calls Try.prog 55 #[.pointer (some ⟨b, 0, none⟩), .int .i64 (i : Int)] w fun e w' => e = .returned (.int .i64 (ticks - (K.getD i (0, 0)).2)) ∧ ∃ d, w' = w.drewN d := by
  have hgd : K.getD i (0, 0) = K[i] := by simp [List.getD, hi]
  rw [hgd]
  obtain ⟨c0, c1, c2⟩ := h.cells
  obtain ⟨ao, cp, rfl, hle, hmx, hat⟩ := ones_at h.row
  obtain ⟨g, rfl, -, hk1⟩ := hat i hi
  obtain ⟨y, hy⟩ : ∃ y, y = K[i].2 := ⟨_, rfl⟩
  have hyb := h.nums K[i] (List.getElem_mem hi)
  have hti := h.ti
  rw [← hy] at hk1 hyb ⊢
  obtain ⟨n, hn⟩ : ∃ n, n = K.length := ⟨_, rfl⟩
  rw [← hn] at c2 hi
  have hb : 0 ≤ (i : Int) ∧ (i : Int) < (n : Int) := by omega
  have hwr : IntKind.i64.wrap (ticks - y) = ticks - y := by rw [IntKind.wrap_i64]; omega
  clear h hat hn hy hle hgd
  go_enter Try.func55, Try.ntmps55
  go_wp2_with fail
  go_quiet (fail)
  go_wp2
  go_ret
  exact ⟨rfl, nq, rfl⟩

end Go.Proofs.Ytikbldnekehodaa.T
