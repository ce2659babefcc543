/-
  What may be, by the reference: queues, bodies, brokers, numbers and their homes.
-/
import Derived.Test.YtanjbbmgpodbgaaTurn
import Derived.LoopTactic
namespace Go.Proofs.Ytanjbbmgpodbgaa
open Go.RowKit

def okLet (x : UInt8) : Bool := decide (97 ≤ x) && decide (x ≤ 122)

def queueB (s : ByteArray) : Bool := s.data.toList.all okLet && (decide (1 ≤ s.size) && decide (s.size ≤ 8))

theorem let_next {l : List UInt8} {k : Nat} (hk : k < l.length) (h : (l.take k).all okLet = true) (h2 : okLet l[k] = true) : (l.take (k + 1)).all okLet = true := by
  rw [List.take_succ_eq_append_getElem hk]
  rw [List.all_append, h]
  simp [h2]

theorem let_bad {s : ByteArray} {k : Nat} (hk : k < s.data.toList.length) (h2 : okLet s.data.toList[k] = false) : queueB s = false := by
  have : s.data.toList.all okLet = false := by
    rw [List.all_eq_false]
    exact ⟨s.data.toList[k], List.getElem_mem hk, by rw [h2]; simp⟩
  unfold queueB
  rw [this, Bool.false_and]

theorem okLet_is (x : UInt8) (n : Nat) (h : x.toNat = n) : okLet x = decide (97 ≤ n ∧ n ≤ 122) := by
  subst h
  rw [Bool.eq_iff_iff]
  simp [okLet, UInt8.le_iff_toNat_le]

set_option maxHeartbeats 1000000 in
set_option maxRecDepth 100000 in
theorem refQueue_calls (s : ByteArray) (w : World) (hs : s.size ≤ 9223372036854775807) :
    Calls Try.prog 17 #[.string s] w fun e w' => e = .returned (.bool (queueB s)) ∧ w = w' := by
  go_enter Try.func17, Try.ntmps17
  go_wp2
  go_loop [3] (fun i => ∃ k : Nat, k ≤ s.size ∧ i = .int .i64 k ∧ (s.data.toList.take k).all okLet = true) (fun i => s.size - (intOf i).toNat)
  case atStart => exact ⟨0, by omega, rfl, rfl⟩
  case round =>
    obtain ⟨k, hk, rfl, hall⟩ := hrel
    have HA := Lib.hid hall
    clear hall
    by_cases hlt : k < s.size
    · have hs' : k < s.data.toList.length := by simpa using hlt
      have hE : s.data.toList[k] = s[k] := by simp [ByteArray.getElem_eq_getElem_data]
      obtain ⟨x, hx⟩ : ∃ x : Nat, x = s[k].toNat := ⟨_, rfl⟩
      have hok := okLet_is s.data.toList[k] x (by rw [hE, hx])
      have HN := Lib.hid (fun h => let_next hs' HA.out h)
      have HB := Lib.hid (fun h => let_bad hs' h)
      have HO := Lib.hid hok
      have HX := Lib.hid hx
      clear hok hx hE HA
      rcases (by omega : x < 97 ∨ (97 ≤ x ∧ x ≤ 122) ∨ 122 < x) with h | h | h
      · have hf := HB.out (by rw [HO.out]; simp; omega)
        have HF := Lib.hid hf
        have a1 : (s[k].toNat : Int) < 97 := by rw [← HX.out]; omega
        clear hf
        go_wp2
        go_ret
        exact ⟨ret_bool (a := false) HF.out.symm, rfl⟩
      · have a1 : (97 : Int) ≤ (s[k].toNat : Int) := by rw [← HX.out]; omega
        have a2 : (s[k].toNat : Int) ≤ 122 := by rw [← HX.out]; omega
        go_wp2
        all_goals
          go_round
          case rel => exact ⟨k + 1, by omega, by go_num, HN.out (by rw [HO.out]; simp; omega)⟩
          case measure => simp [intOf]; omega
      · have hf := HB.out (by rw [HO.out]; simp; omega)
        have HF := Lib.hid hf
        have a1 : (122 : Int) < (s[k].toNat : Int) := by rw [← HX.out]; omega
        have a4 : (97 : Int) ≤ (s[k].toNat : Int) := by rw [← HX.out]; omega
        clear hf
        go_wp2
        go_ret
        exact ⟨ret_bool (a := false) HF.out.symm, rfl⟩
    · have hkk : k = s.size := by omega
      have hall : s.data.toList.all okLet = true := by have := HA.out; rwa [hkk, List.take_of_length_le (by simp)] at this
      have hok : queueB s = (decide (1 ≤ s.size) && decide (s.size ≤ 8)) := by simp [queueB, hall]
      have HO := Lib.hid hok
      clear hall hok HA hkk
      by_cases h1 : 1 ≤ s.size
      · go_wp2
        go_ret
        exact ⟨ret_bool (by rw [HO.out, Bool.eq_iff_iff]; simp; omega), rfl⟩
      · have h0 : s.size < 1 := by omega
        go_wp2
        go_ret
        exact ⟨ret_bool (by rw [HO.out, Bool.eq_iff_iff]; simp; omega), rfl⟩

def bodyB (s : ByteArray) : Bool := decide (s.size ≤ 60)

theorem refBody_calls (s : ByteArray) (w : World) : Calls Try.prog 19 #[.string s] w fun e w' => e = .returned (.bool (bodyB s)) ∧ w = w' := by
  go_enter Try.func19, Try.ntmps19
  go_wp2
  go_ret
  exact ⟨ret_bool (by unfold bodyB; rw [Bool.eq_iff_iff]; simp; try omega), rfl⟩

def brokerB (n : Int) : Bool := decide (1 ≤ n ∧ n ≤ 8)

theorem refBroker_calls (n : Int) (w : World) : Calls Try.prog 21 #[.int .i64 n] w fun e w' => e = .returned (.bool (brokerB n)) ∧ w = w' := by
  by_cases h1 : 1 ≤ n
  · by_cases h2 : n ≤ 8
    · have hb : brokerB n = true := decide_eq_true ⟨h1, h2⟩
      rw [hb]
      go_enter Try.func21, Try.ntmps21
      go_wp2
      go_ret
      exact ⟨ret_bool (by simp), rfl⟩
    · have hb : brokerB n = false := decide_eq_false (fun h => h2 h.2)
      rw [hb]
      go_enter Try.func21, Try.ntmps21
      go_wp2
      go_ret
      exact ⟨ret_bool (by simp; try omega), rfl⟩
  · have hb : brokerB n = false := decide_eq_false (fun h => h1 h.1)
    rw [hb]
    go_enter Try.func21, Try.ntmps21
    go_wp2
    go_ret
    exact ⟨ret_bool (by simp; try omega), rfl⟩

/-- The home of a number; nought: it is none. -/
def homeZ (t : Int) : Int := if 0 ≤ t ∧ 1 ≤ t / 4294967296 ∧ t / 4294967296 ≤ 8 ∧ t % 4294967296 ≠ 0 then t / 4294967296 else 0

theorem homeZ_range (t : Int) : homeZ t = 0 ∨ (1 ≤ homeZ t ∧ homeZ t ≤ 8) := by
  unfold homeZ
  split <;> omega

theorem homeZ_is {t b : Int} (h1 : 1 ≤ b) (h8 : b ≤ 8) : homeZ t = b ↔ (b * 4294967296 < t ∧ t < b * 4294967296 + 4294967296) := by
  unfold homeZ
  split <;> omega

set_option maxHeartbeats 1000000 in
set_option maxRecDepth 100000 in
theorem refHome_calls (t : Int) (w : World) : Calls Try.prog 29 #[.int .i64 t] w fun e w' => e = .returned (.int .i64 (homeZ t)) ∧ w = w' := by
  obtain ⟨h, hh⟩ : ∃ h, h = homeZ t := ⟨_, rfl⟩
  have HR := homeZ_range t
  have HI := Lib.hid (fun b h1 h8 => homeZ_is (t := t) (b := b) h1 h8)
  rw [← hh] at HR HI ⊢
  clear hh
  go_enter Try.func29, Try.ntmps29
  go_wp2
  go_loop [3] (fun i => ∃ k : Nat, 1 ≤ k ∧ k ≤ 9 ∧ i = .int .i64 k ∧ (h = 0 ∨ (k : Int) ≤ h)) (fun i => 9 - (intOf i).toNat)
  case atStart => exact ⟨1, by omega, by omega, rfl, by omega⟩
  case round =>
    obtain ⟨k, hk1, hk9, rfl, hkh⟩ := hrel
    by_cases hk8 : (k : Int) ≤ 8
    · have hi := HI.out (k : Int) (by omega) hk8
      have hm : IntKind.i64.wrap ((k : Int) * 4294967296) = (k : Int) * 4294967296 := by rw [IntKind.wrap_i64]; omega
      have hm2 : IntKind.i64.wrap ((k : Int) * 4294967296 + 4294967296) = (k : Int) * 4294967296 + 4294967296 := by rw [IntKind.wrap_i64]; omega
      by_cases h1 : (k : Int) * 4294967296 < t
      · by_cases h2 : t < (k : Int) * 4294967296 + 4294967296
        · have hz : h = (k : Int) := hi.2 ⟨h1, h2⟩
          have HZ := Lib.hid hz
          clear hi hz hkh HR
          go_wp2
          go_ret
          exact ⟨ret_int HZ.out.symm, rfl⟩
        · have hz : h ≠ (k : Int) := fun e => h2 (hi.1 e).2
          have HZ : Hid (h = 0 ∨ ((k + 1 : Nat) : Int) ≤ h) := Lib.hid (by omega)
          clear hi hz hkh HR
          go_wp2
          go_round
          case rel => exact ⟨k + 1, by omega, by omega, by go_num, HZ.out⟩
          case measure => simp [intOf]; omega
      · have hz : h ≠ (k : Int) := fun e => h1 (hi.1 e).1
        have HZ : Hid (h = 0 ∨ ((k + 1 : Nat) : Int) ≤ h) := Lib.hid (by omega)
        clear hi hz hkh HR
        go_wp2
        go_round
        case rel => exact ⟨k + 1, by omega, by omega, by go_num, HZ.out⟩
        case measure => simp [intOf]; omega
    · have hz : 0 = h := by omega
      have HZ := Lib.hid hz
      clear hz hkh HR
      go_wp2
      go_ret
      exact ⟨ret_int HZ.out, rfl⟩

theorem refTid_calls (t : Int) (w : World) : Calls Try.prog 28 #[.int .i64 t] w fun e w' => e = .returned (.bool (decide (0 < homeZ t))) ∧ w = w' := by
  have C := Lib.hid (refHome_calls t w)
  obtain ⟨h, hh⟩ : ∃ h, h = homeZ t := ⟨_, rfl⟩
  rw [← hh] at C ⊢
  clear hh
  go_enter Try.func28, Try.ntmps28
  go_wp2_with fail
  refine C.out.mono ?_
  rintro e w1 ⟨rfl, rfl⟩
  clear C
  go_wp2
  go_ret
  exact ⟨rfl, rfl⟩

def makeZ (b n : Int) : Int := if brokerB b = true ∧ 1 ≤ n ∧ n < 4294967296 then b * 4294967296 + n else 0

set_option maxHeartbeats 1000000 in
theorem refMake_calls (b n : Int) (w : World) : Calls Try.prog 25 #[.int .i64 b, .int .i64 n] w fun e w' => e = .returned (.int .i64 (makeZ b n)) ∧ w = w' := by
  have C := Lib.hid (refBroker_calls b w)
  by_cases hb : brokerB b = true
  · rw [hb] at C
    have hb2 := of_decide_eq_true hb
    by_cases h1 : n < 1
    · have HM : Hid (makeZ b n = 0) := Lib.hid (by unfold makeZ; rw [if_neg (by omega)])
      clear hb
      go_enter Try.func25, Try.ntmps25
      go_wp2_with fail
      refine C.out.mono ?_
      rintro e w1 ⟨rfl, rfl⟩
      clear C
      go_wp2
      go_ret
      exact ⟨ret_int HM.out.symm, rfl⟩
    · by_cases h2 : 4294967296 ≤ n
      · have HM : Hid (makeZ b n = 0) := Lib.hid (by unfold makeZ; rw [if_neg (by omega)])
        clear hb
        go_enter Try.func25, Try.ntmps25
        go_wp2_with fail
        refine C.out.mono ?_
        rintro e w1 ⟨rfl, rfl⟩
        clear C
        go_wp2
        go_ret
        exact ⟨ret_int HM.out.symm, rfl⟩
      · have HM : Hid (makeZ b n = b * 4294967296 + n) := Lib.hid (by unfold makeZ; rw [if_pos ⟨hb, by omega, by omega⟩])
        have hm : IntKind.i64.wrap (b * 4294967296) = b * 4294967296 := by rw [IntKind.wrap_i64]; omega
        have hm2 : IntKind.i64.wrap (b * 4294967296 + n) = b * 4294967296 + n := by rw [IntKind.wrap_i64]; omega
        clear hb
        go_enter Try.func25, Try.ntmps25
        go_wp2_with fail
        refine C.out.mono ?_
        rintro e w1 ⟨rfl, rfl⟩
        clear C
        go_wp2
        go_ret
        exact ⟨ret_int HM.out.symm, rfl⟩
  · have hbf : brokerB b = false := by simpa using hb
    rw [hbf] at C
    have HM : Hid (makeZ b n = 0) := Lib.hid (by unfold makeZ; rw [if_neg (fun h => hb h.1)])
    clear hb hbf
    go_enter Try.func25, Try.ntmps25
    go_wp2_with fail
    refine C.out.mono ?_
    rintro e w1 ⟨rfl, rfl⟩
    clear C
    go_wp2
    go_ret
    exact ⟨ret_int HM.out.symm, rfl⟩

end Go.Proofs.Ytanjbbmgpodbgaa
