/-
  How texts compare; the laws' orders as function values.
-/
import Derived.Test.YtikbldnekehodaaBagNil
import Derived.Test.YtikbldnekehodaaSBagA
namespace Go.Proofs.Ytikbldnekehodaa
open Go.RowKit

theorem isNaN_string (a : ByteArray) (w : World) : Calls Try.prog 59 #[.string a] w fun e w' => e = .returned (.bool false) ∧ w' = w := by
  go_enter Try.func59, Try.ntmps59
  go_wp2
  go_ret
  exact ⟨by simp, rfl⟩

def cmpS (a b : ByteArray) : Int := if Op.bytesLess a.toList b.toList = true then -1 else if (a.toList == b.toList) = true then 0 else 1

theorem compare_string (a b : ByteArray) (w : World) : Calls Try.prog 33 #[.string a, .string b] w fun e w' => e = .returned (.int .i64 (cmpS a b)) ∧ w' = w := by
  have A1 := Lib.hid (isNaN_string a w)
  have A2 := Lib.hid (isNaN_string b w)
  by_cases h1 : Op.bytesLess a.toList b.toList = true
  · have HC : Hid (cmpS a b = -1) := Lib.hid (by unfold cmpS; rw [if_pos h1])
    go_enter Try.func33, Try.ntmps33
    go_wp2_with (first | (go_at_call 59; first | (with_reducible refine A1.out.mono ?_; rintro e w' ⟨rfl, rfl⟩) | (with_reducible refine A2.out.mono ?_; rintro e w' ⟨rfl, rfl⟩)))
    go_ret
    exact ⟨ret_int HC.out.symm, rfl⟩
  · have h1' : Op.bytesLess a.toList b.toList = false := by simpa using h1
    by_cases h2 : (a.toList == b.toList) = true
    · have HC : Hid (cmpS a b = 0) := Lib.hid (by unfold cmpS; rw [if_neg h1, if_pos h2])
      clear h1
      go_enter Try.func33, Try.ntmps33
      go_wp2_with (first | (go_at_call 59; first | (with_reducible refine A1.out.mono ?_; rintro e w' ⟨rfl, rfl⟩) | (with_reducible refine A2.out.mono ?_; rintro e w' ⟨rfl, rfl⟩)))
      go_ret
      exact ⟨ret_int HC.out.symm, rfl⟩
    · have HC : Hid (cmpS a b = 1) := Lib.hid (by unfold cmpS; rw [if_neg h1, if_neg h2])
      have h2' : (a.toList == b.toList) = false := by simpa using h2
      clear h1 h2
      go_enter Try.func33, Try.ntmps33
      go_wp2_with (first | (go_at_call 59; first | (with_reducible refine A1.out.mono ?_; rintro e w' ⟨rfl, rfl⟩) | (with_reducible refine A2.out.mono ?_; rintro e w' ⟨rfl, rfl⟩)))
      go_ret
      exact ⟨ret_int HC.out.symm, rfl⟩

theorem cmpS_small (a b : ByteArray) : inI64 (cmpS a b) := by
  unfold cmpS inI64
  split
  · omega
  · split <;> omega

/-- cmp.Compare of texts, as a function value. -/
theorem cmpS_ok : S.CmpOk 33 #[] cmpS (fun _ => True) :=
  ⟨fun args w => enter_run Try.func33 (by kernel_rfl) (by kernel_rfl) args w, fun x y w _ _ _ => by simpa using compare_string x y w, fun _ _ _ _ => trivial, cmpS_small⟩

theorem by_calls (back : Bool) (w : World) : Calls Try.prog 13 #[.bool back] w fun e w' =>
    e = .returned (.func (.func 47) #[] #[.pointer (some ⟨w.heap.size, 0, none⟩)]) ∧ w'.cell? ⟨w.heap.size, 0, none⟩ = some (.bool back) ∧ Turn [] w w' := by
  have hmf : ∀ (fn : Fn) (first cap : Array Value) (w : World), (Instr.makeFunc fn first cap).run Try.prog w = .ok (.func fn first cap) w := fun _ _ _ _ => rfl
  go_enter Try.func13, Try.ntmps13
  go_wp2
  go_ret
  exact ⟨rfl, cell_new w _ _, Turn.alloc [] w _⟩

set_option maxHeartbeats 1000000 in
theorem by1_calls (back : Bool) (c : Nat) (a b : Int) (w : World) (hc : w.cell? ⟨c, 0, none⟩ = some (.bool back)) :
    Calls Try.prog 47 #[.int .i64 a, .int .i64 b, .pointer (some ⟨c, 0, none⟩)] w fun e w' => e = .returned (.int .i64 (ordT back a b)) ∧ w' = w := by
  have C1 := Lib.hid (compare_int (a.tmod 10) (b.tmod 10) w)
  have C2 := Lib.hid (compare_int a b w)
  obtain ⟨d, hd⟩ : ∃ d, d = cmpZ (a.tmod 10) (b.tmod 10) := ⟨_, rfl⟩
  obtain ⟨e0, he⟩ : ∃ d, d = cmpZ a b := ⟨_, rfl⟩
  have hds := cmpZ_small (a.tmod 10) (b.tmod 10)
  have hes := cmpZ_small a b
  rw [← hd] at C1 hds
  rw [← he] at C2 hes
  have HO : Hid (ordT back a b = if back then -(if d = 0 then e0 else d) else (if d = 0 then e0 else d)) := Lib.hid (by unfold ordT; rw [← hd, ← he])
  have HDS := Lib.hid hds
  have HES := Lib.hid hes
  clear hd he hds hes
  cases back with
  | false =>
    by_cases hd0 : d = 0
    · subst hd0
      have HR : Hid (ordT false a b = e0) := Lib.hid (by rw [HO.out]; simp)
      have hx : -1 ≤ e0 ∧ e0 ≤ 1 := by rcases HES.out with h | h | h <;> omega
      clear HO HES HDS
      go_enter Try.func47, Try.ntmps47
      go_wp2_with fail
      refine C1.out.mono ?_
      rintro e w1 ⟨rfl, rfl⟩
      go_wp2_with fail
      refine C2.out.mono ?_
      rintro e w2 ⟨rfl, rfl⟩
      go_wp2
      go_ret
      exact ⟨ret_int HR.out.symm, rfl⟩
    · have hd1 : (d == 0) = false := by simpa using hd0
      have HR : Hid (ordT false a b = d) := Lib.hid (by rw [HO.out]; simp [hd0])
      have hx : -1 ≤ d ∧ d ≤ 1 := by rcases HDS.out with h | h | h <;> omega
      clear HO HES HDS
      go_enter Try.func47, Try.ntmps47
      go_wp2_with fail
      refine C1.out.mono ?_
      rintro e w1 ⟨rfl, rfl⟩
      go_wp2
      go_ret
      exact ⟨ret_int HR.out.symm, rfl⟩
  | true =>
    by_cases hd0 : d = 0
    · subst hd0
      have HR : Hid (ordT true a b = -e0) := Lib.hid (by rw [HO.out]; simp)
      have hx : -1 ≤ e0 ∧ e0 ≤ 1 := by rcases HES.out with h | h | h <;> omega
      clear HO HES HDS
      go_enter Try.func47, Try.ntmps47
      go_wp2_with fail
      refine C1.out.mono ?_
      rintro e w1 ⟨rfl, rfl⟩
      go_wp2_with fail
      refine C2.out.mono ?_
      rintro e w2 ⟨rfl, rfl⟩
      go_wp2
      go_ret
      exact ⟨ret_int HR.out.symm, rfl⟩
    · have hd1 : (d == 0) = false := by simpa using hd0
      have HR : Hid (ordT true a b = -d) := Lib.hid (by rw [HO.out]; simp [hd0])
      have hx : -1 ≤ d ∧ d ≤ 1 := by rcases HDS.out with h | h | h <;> omega
      clear HO HES HDS
      go_enter Try.func47, Try.ntmps47
      go_wp2_with fail
      refine C1.out.mono ?_
      rintro e w1 ⟨rfl, rfl⟩
      go_wp2
      go_ret
      exact ⟨ret_int HR.out.symm, rfl⟩

theorem ordT_small (back : Bool) (a b : Int) : inI64 (ordT back a b) := by
  have h1 := cmpZ_small (a.tmod 10) (b.tmod 10)
  have h2 := cmpZ_small a b
  unfold ordT inI64
  generalize cmpZ (a.tmod 10) (b.tmod 10) = d at *
  generalize cmpZ a b = e at *
  cases back <;> simp <;> split <;> omega

/-- The law's order, as a function value. -/
theorem by1_ok (back : Bool) (c : Nat) : CmpOk 47 #[.pointer (some ⟨c, 0, none⟩)] (ordT back) (fun w => w.cell? ⟨c, 0, none⟩ = some (.bool back)) :=
  ⟨fun args w => enter_run Try.func47 (by kernel_rfl) (by kernel_rfl) args w, fun x y w _ _ hc => by1_calls back c x y w hc, fun _ _ h t => t.cell h (by simp), ordT_small back⟩

/-- The rest by five, never below nought. -/
def rest5 (x : Int) : Int := (x.tmod 5 + 5).tmod 5

theorem rest5_eq (x : Int) : rest5 x = x % 5 := by
  unfold rest5
  have h0 := Int.tmod_eq_emod (a := x) (b := 5)
  have h1 : 0 ≤ x.tmod 5 + 5 := by
    rw [h0]
    split <;> omega
  rw [Int.tmod_eq_emod_of_nonneg h1, h0]
  split <;> omega

theorem be1_calls (a b : Int) (w : World) : Calls Try.prog 38 #[.int .i64 a, .int .i64 b] w fun e w' => e = .returned (.int .i64 (cmpZ (a % 5) (b % 5))) ∧ w' = w := by
  have C := Lib.hid (compare_int (a % 5) (b % 5) w)
  obtain ⟨d, hd⟩ : ∃ d, d = cmpZ (a % 5) (b % 5) := ⟨_, rfl⟩
  have ea : (a.tmod 5 + 5).tmod 5 = a % 5 := rest5_eq a
  have eb : (b.tmod 5 + 5).tmod 5 = b % 5 := rest5_eq b
  have ba : -5 < a.tmod 5 ∧ a.tmod 5 < 5 := by
    rw [Int.tmod_eq_emod (a := a) (b := 5)]
    split <;> omega
  have bb : -5 < b.tmod 5 ∧ b.tmod 5 < 5 := by
    rw [Int.tmod_eq_emod (a := b) (b := 5)]
    split <;> omega
  rw [← hd] at C ⊢
  clear hd
  go_enter Try.func38, Try.ntmps38
  go_wp2_with fail
  refine C.out.mono ?_
  rintro e w1 ⟨rfl, rfl⟩
  go_wp2
  go_ret
  exact ⟨rfl, rfl⟩

theorem be1_ok : CmpOk 38 #[] (fun a b => cmpZ (a % 5) (b % 5)) (fun _ => True) :=
  ⟨fun args w => enter_run Try.func38 (by kernel_rfl) (by kernel_rfl) args w, fun x y w _ _ _ => by simpa using be1_calls x y w, fun _ _ _ _ => trivial, fun x y => by
    have := cmpZ_small (x % 5) (y % 5)
    unfold inI64
    omega⟩

end Go.Proofs.Ytikbldnekehodaa
