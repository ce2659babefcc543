/-
  The law's own Op: a value of a kind: its bytes; the walks of bytes, puts and one.
-/
import Derived.Test.YtheolfmalcckmaaOpen
import Derived.Test.YtheolfmalcckmaaRef
import Derived.Deep.Slices
import Derived.Deep.Strs
namespace Go.Proofs.Ytheolfmalcckmaa
open Go.RowKit Go.ChangeShapes Go.WideShapes Go.ChangeAt Go.Deep

/-- A value of a kind. -/
structure OpV where
  kind : Int
  n : Int
  s : ByteArray

def OpV.ok (x : OpV) : Prop := (-9223372036854775808 ≤ x.kind ∧ x.kind ≤ 9223372036854775807) ∧ (-9223372036854775808 ≤ x.n ∧ x.n ≤ 9223372036854775807) ∧ x.s.size ≤ maxLen

def OpV.val (x : OpV) : Value := .agg #[.int .i64 x.kind, .int .i64 x.n, .string x.s]

/-- A text of at most sixty bytes. -/
def cutB (s : ByteArray) : List UInt8 := s.data.toList.take 60

/-- The bytes of a text whose length is small. -/
def shortB (l : List UInt8) : List UInt8 := smallB (l.length : Nat) ++ l

/-- A value's bytes. -/
def opB (x : OpV) : List UInt8 :=
  if x.kind = 0 then smallB x.n else if x.kind = 1 then longB x.n else if x.kind = 2 then shortB (cutB x.s) else [if x.n % 2 = 1 then 1 else 0]

theorem cutB_le (s : ByteArray) : (cutB s).length ≤ 60 := by unfold cutB; simp; omega

theorem textB_short (s : ByteArray) (h : s.size ≤ 60) : textB s = shortB s.data.toList := by
  unfold textB shortB
  rw [Nat.mod_eq_of_lt (by omega)]
  have e : s.data.toList.length = s.size := by simp
  rw [e, List.take_of_length_le (by omega)]

theorem opB_le (x : OpV) : (opB x).length ≤ 62 := by
  unfold opB
  split
  · simp [smallB]
  · split
    · simp [longB]
    · split
      · have := cutB_le x.s
        simp [shortB, smallB]
        omega
      · simp

theorem odd_is (n : Int) : (n % 2 == 1) = decide (n % 2 = 1) := by
  rw [Bool.eq_iff_iff]
  simp

set_option maxHeartbeats 1000000 in
/-- A value, put into an Out. -/
theorem puts_calls (ob oo : Nat) (l : List UInt8) (x : OpV) (w : World) (hx : x.ok) (ho : OutIs w ⟨ob, oo, none⟩ l) (hb : l.length ≤ 140737480000000) :
    Calls Try.prog 46 #[.pointer (some ⟨ob, oo, none⟩), x.val] w fun e w' => e = .returned (.tuple #[]) ∧ OutIs w' ⟨ob, oo, none⟩ (l ++ opB x) ∧ OnlyN ⟨ob, oo, none⟩ w w' := by
  obtain ⟨kd, n, s⟩ := x
  obtain ⟨hk, hn, hs⟩ := hx
  simp only at hk hn hs
  unfold OpV.val opB
  simp only
  have hlt := ho.lt
  have HO := Lib.hid (fun o => ho.alloc (new_below w o))
  clear ho
  by_cases k0 : kd = 0
  · subst k0
    go_enter Try.func46, Try.ntmps46
    go_wp2_with fail
    refine (small_out ob oo l n _ (HO.out _) (by omega)).mono ?_
    rintro e w1 ⟨rfl, hout, hon⟩
    have H1 := Lib.hid hout
    clear hout
    go_wp2_with fail
    go_end0
    exact ⟨rfl, H1.out, hon.after_alloc⟩
  · have e0 : (kd == 0) = false := beq_eq_false_iff_ne.2 k0
    by_cases k1 : kd = 1
    · subst k1
      go_enter Try.func46, Try.ntmps46
      go_wp2_with fail
      refine (long_out ob oo l n _ (HO.out _) (by omega)).mono ?_
      rintro e w1 ⟨rfl, hout, hon⟩
      have H1 := Lib.hid hout
      clear hout
      go_wp2_with fail
      go_end0
      exact ⟨rfl, H1.out, hon.after_alloc⟩
    · have e1 : (kd == 1) = false := beq_eq_false_iff_ne.2 k1
      by_cases k2 : kd = 2
      · subst k2
        go_enter Try.func46, Try.ntmps46
        go_wp2_with fail
        refine (cut_calls s 60 _ hs (by omega)).mono ?_
        rintro e w1 ⟨⟨x, rfl, hxl, hxd⟩, rfl⟩
        have HX := Lib.hid hxd
        have HT := Lib.hid (textB_short x hxl)
        clear hxd
        go_wp2_with fail
        refine (text_out ob oo l x _ (HO.out _) (by unfold maxLen; omega) (by omega)).mono ?_
        rintro e w1 ⟨rfl, hout, hon⟩
        rw [HT.out, HX.out] at hout
        have H1 := Lib.hid hout
        clear hout
        go_wp2_with fail
        go_end0
        exact ⟨rfl, H1.out, hon.after_alloc⟩
      · have e2 : (kd == 2) = false := beq_eq_false_iff_ne.2 k2
        have m1 := i64_and1 n
        have C := Lib.hid (fun (wx : World) (h : OutIs wx ⟨ob, oo, none⟩ l) => truth_out ob oo l (n % 2 == 1) wx h (by omega))
        rw [odd_is] at C
        rw [if_neg k0, if_neg k1, if_neg k2]
        by_cases hodd : n % 2 = 1
        · have hb1 : (n % 2 == 1) = true := by rw [odd_is]; simp [hodd]
          rw [decide_eq_true hodd] at C
          rw [if_pos hodd]
          clear hodd
          go_enter Try.func46, Try.ntmps46
          go_wp2_with fail
          refine (C.out _ (HO.out _)).mono ?_
          rintro e w1 ⟨rfl, hout, hon⟩
          have H1 := Lib.hid hout
          clear hout
          go_wp2_with fail
          go_end0
          exact ⟨rfl, H1.out, hon.after_alloc⟩
        · have hb1 : (n % 2 == 1) = false := by rw [odd_is]; simp [hodd]
          rw [decide_eq_false hodd] at C
          rw [if_neg hodd]
          clear hodd
          go_enter Try.func46, Try.ntmps46
          go_wp2_with fail
          refine (C.out _ (HO.out _)).mono ?_
          rintro e w1 ⟨rfl, hout, hon⟩
          have H1 := Lib.hid hout
          clear hout
          go_wp2_with fail
          go_end0
          exact ⟨rfl, H1.out, hon.after_alloc⟩

end Go.Proofs.Ytheolfmalcckmaa
