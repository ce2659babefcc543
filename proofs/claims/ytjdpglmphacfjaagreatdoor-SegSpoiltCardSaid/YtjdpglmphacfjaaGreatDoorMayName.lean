/-
  The walks of file.mayName and of the reference's may.
-/
import Derived.Test.YtjdpglmphacfjaaGreatDoorDisk
import Derived.LoopTactic
namespace Go.Proofs.YtjdpglmphacfjaaGreatDoor
open Go.RowKit

theorem all_take_next {l : List UInt8} {k : Nat} (hk : k < l.length) (h : (l.take k).all okSign = true) (h2 : okSign l[k] = true) : (l.take (k + 1)).all okSign = true := by
  rw [List.take_succ_eq_append_getElem hk]
  rw [List.all_append, h]
  simp [h2]

theorem okName_bad {l : List UInt8} {k : Nat} (hk : k < l.length) (h2 : okSign l[k] = false) : okName l = false := by
  have : l.all okSign = false := by
    rw [List.all_eq_false]
    exact ⟨l[k], List.getElem_mem hk, by simp [h2]⟩
  simp [okName, this]

theorem okSign_is (x : UInt8) (n : Nat) (h : x.toNat = n) : okSign x = decide ((97 ≤ n ∧ n ≤ 122) ∨ (48 ≤ n ∧ n ≤ 57)) := by
  subst h
  rw [Bool.eq_iff_iff]
  simp [okSign, UInt8.le_iff_toNat_le]

set_option maxHeartbeats 1000000 in
theorem mayName_any (s : ByteArray) (w : World) (hs : s.size ≤ 9223372036854775807) :
    Calls Tryz.prog 38 #[.string s] w fun e w' => e = .returned (.bool (okName s.data.toList)) ∧ w = w' := by
  go_enter Tryz.func38, Tryz.ntmps38
  go_wp2
  go_loop [8] (fun i => ∃ k : Nat, k ≤ s.size ∧ i = .int .i64 k ∧ (s.data.toList.take k).all okSign = true) (fun i => s.size - (intOf i).toNat)
  case atStart => exact ⟨0, by omega, rfl, rfl⟩
  case round =>
    obtain ⟨k, hk, rfl, hall⟩ := hrel
    have HA := Lib.hid hall
    clear hall
    by_cases hlt : k < s.size
    · have hs' : k < s.data.toList.length := by simpa using hlt
      have hE : s.data.toList[k] = s[k] := by simp [ByteArray.getElem_eq_getElem_data]
      obtain ⟨x, hx⟩ : ∃ x : Nat, x = s[k].toNat := ⟨_, rfl⟩
      have hok := okSign_is s.data.toList[k] x (by rw [hE, hx])
      have HN := Lib.hid (fun h => all_take_next hs' HA.out h)
      have HB := Lib.hid (fun h => okName_bad hs' h)
      have HO := Lib.hid hok
      have HX := Lib.hid hx
      clear hok hx hE HA
      rcases (by omega : x < 48 ∨ (48 ≤ x ∧ x ≤ 57) ∨ (57 < x ∧ x < 97) ∨ (97 ≤ x ∧ x ≤ 122) ∨ 122 < x) with h | h | h | h | h
      · have hf := HB.out (by rw [HO.out]; simp; omega)
        have HF := Lib.hid hf
        have a1 : (s[k].toNat : Int) < 48 := by rw [← HX.out]; omega
        clear hf
        go_wp2
        go_ret
        exact ⟨ret_bool (a := false) HF.out.symm, rfl⟩
      · have a1 : (48 : Int) ≤ (s[k].toNat : Int) := by rw [← HX.out]; omega
        have a2 : (s[k].toNat : Int) ≤ 57 := by rw [← HX.out]; omega
        go_wp2
        go_round
        case rel => exact ⟨k + 1, by omega, by go_num, HN.out (by rw [HO.out]; simp; omega)⟩
        case measure => simp [intOf]; omega
      · have hf := HB.out (by rw [HO.out]; simp; omega)
        have HF := Lib.hid hf
        have a1 : decide ((s[k].toNat : Int) ≤ 57) = false := by rw [← HX.out]; simp; omega
        have a3 : (48 : Int) ≤ (s[k].toNat : Int) := by rw [← HX.out]; omega
        have a2 : (s[k].toNat : Int) < 97 := by rw [← HX.out]; omega
        clear hf
        go_wp2
        go_ret
        exact ⟨ret_bool (a := false) HF.out.symm, rfl⟩
      · have a0 : decide ((s[k].toNat : Int) ≤ 57) = false := by rw [← HX.out]; simp; omega
        have a3 : (48 : Int) ≤ (s[k].toNat : Int) := by rw [← HX.out]; omega
        have a1 : (97 : Int) ≤ (s[k].toNat : Int) := by rw [← HX.out]; omega
        have a2 : (s[k].toNat : Int) ≤ 122 := by rw [← HX.out]; omega
        go_wp2
        all_goals
          go_round
          case rel => exact ⟨k + 1, by omega, by go_num, HN.out (by rw [HO.out]; simp; omega)⟩
          case measure => simp [intOf]; omega
      · have hf := HB.out (by rw [HO.out]; simp; omega)
        have HF := Lib.hid hf
        have a0 : decide ((s[k].toNat : Int) ≤ 57) = false := by rw [← HX.out]; simp; omega
        have a1 : decide ((s[k].toNat : Int) ≤ 122) = false := by rw [← HX.out]; simp; omega
        have a3 : (48 : Int) ≤ (s[k].toNat : Int) := by rw [← HX.out]; omega
        have a4 : (97 : Int) ≤ (s[k].toNat : Int) := by rw [← HX.out]; omega
        clear hf
        go_wp2
        go_ret
        exact ⟨ret_bool (a := false) HF.out.symm, rfl⟩
    · have hkk : k = s.size := by omega
      have hall : s.data.toList.all okSign = true := by have := HA.out; rwa [hkk, List.take_of_length_le (by simp)] at this
      have hok : okName s.data.toList = (decide (1 ≤ s.size) && decide (s.size ≤ 12)) := by simp [okName, hall]
      have HO := Lib.hid hok
      clear hall hok HA hkk
      by_cases h1 : 1 ≤ s.size
      · go_wp2
        go_ret
        exact ⟨ret_bool (by rw [HO.out, Bool.eq_iff_iff]; simp; omega), rfl⟩
      · have h0 : s.size < 1 := by omega
        go_wp2
        go_ret
        exact ⟨ret_bool (by rw [HO.out, Bool.eq_iff_iff]; simp; omega), rfl⟩

theorem mayName_calls (n : List UInt8) (w : World) (hs : n.length ≤ 9223372036854775807) :
    Calls Tryz.prog 38 #[.string ⟨n.toArray⟩] w fun e w' => e = .returned (.bool (okName n)) ∧ w = w' :=
  mayName_any ⟨n.toArray⟩ w (by rw [size_mk]; exact hs)

end Go.Proofs.YtjdpglmphacfjaaGreatDoor
