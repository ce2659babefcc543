/-
  Short once more: its answer lies in new memory.
-/
import Derived.Test.YtjdpglmphacfjaaGreatDoorShort
namespace Go.Proofs.YtjdpglmphacfjaaGreatDoor
open Go.RowKit

set_option maxHeartbeats 1000000 in
theorem short_new (ao : Option Addr) (c n : Nat) (l : List UInt8) (w : World) (h : Sl w ao c l) (hn : n ≤ 1000) :
    Calls Tryz.prog 18 #[.slice ao l.length c, .int .i64 (n : Int)] w fun e w' =>
      ∃ ao' c', e = .returned (.slice ao' (l.take n).length c') ∧ Sl w' ao' c' (l.take n) ∧ Below w.heap.size w w' ∧ ∀ A, ao' = some A → w.heap.size ≤ A.block := by
  have hle := h.le
  unfold maxLen at hle
  by_cases hln : l.length ≤ n
  · have hlt : ((l.length : Nat) : Int) ≤ (n : Int) := by omega
    have hc' : ((l.length : Nat) : Int) ≤ (c : Int) := by omega
    rw [List.take_of_length_le hln]
    have H := Lib.hid h
    clear h
    go_enter Tryz.func18, Tryz.ntmps18
    go_wp2_with (at_builtin; refine append_bytes rfl (.const (.slice none 0 0)) (.tmp 10) rfl w.heap.size (.slice none 0 0) [] rfl (World.ownsRow_nil _ _ _ _) ao c l rfl H.out (by simp; omega) (Nat.le_refl _) ?_)
    intro v' w1 hown hg _
    have HB := Lib.hid ((Below.refl _ _).grown hg (Nat.le_refl _) (by intro k hk; cases hk))
    have HO := Lib.hid (Sl.of_owns hown)
    clear hown hg
    go_wp2
    go_ret
    obtain ⟨ao', c', hv, hs, ha⟩ := HO.out
    exact ⟨ao', c', by rw [← hv]; rfl, hs, HB.out, ha⟩
  · have hlt : (n : Int) < ((l.length : Nat) : Int) := by omega
    have hc' : (n : Int) ≤ (c : Int) := by omega
    have hlen : (l.take n).length = n := by simp; omega
    have H := Lib.hid (h.take n)
    clear h
    generalize l.take n = l' at *
    subst hlen
    go_enter Tryz.func18, Tryz.ntmps18
    go_wp2_with (at_builtin; refine append_bytes rfl (.const (.slice none 0 0)) (.tmp 10) rfl w.heap.size (.slice none 0 0) [] rfl (World.ownsRow_nil _ _ _ _) ao c l' rfl H.out (by simp; omega) (Nat.le_refl _) ?_)
    intro v' w1 hown hg _
    have HB := Lib.hid ((Below.refl _ _).grown hg (Nat.le_refl _) (by intro k hk; cases hk))
    have HO := Lib.hid (Sl.of_owns hown)
    clear hown hg
    go_wp2
    go_ret
    obtain ⟨ao', c', hv, hs, ha⟩ := HO.out
    exact ⟨ao', c', by rw [← hv]; rfl, hs, HB.out, ha⟩

set_option maxHeartbeats 1000000 in
theorem short_own (ao : Option Addr) (c n : Nat) (l : List UInt8) (w : World) (h : Sl w ao c l) (hn : n ≤ 1000) :
    Calls Tryz.prog 18 #[.slice ao l.length c, .int .i64 (n : Int)] w fun e w' =>
      ∃ v, e = .returned v ∧ w'.ownsRow w.heap.size 5 1 v (l.take n).length (u8s (l.take n)) ∧ Below w.heap.size w w' := by
  have hle := h.le
  unfold maxLen at hle
  by_cases hln : l.length ≤ n
  · have hlt : ((l.length : Nat) : Int) ≤ (n : Int) := by omega
    have hc' : ((l.length : Nat) : Int) ≤ (c : Int) := by omega
    rw [List.take_of_length_le hln]
    have H := Lib.hid h
    clear h
    go_enter Tryz.func18, Tryz.ntmps18
    go_wp2_with (at_builtin; refine append_bytes rfl (.const (.slice none 0 0)) (.tmp 10) rfl w.heap.size (.slice none 0 0) [] rfl (World.ownsRow_nil _ _ _ _) ao c l rfl H.out (by simp; omega) (Nat.le_refl _) ?_)
    intro v' w1 hown hg _
    have HB := Lib.hid ((Below.refl _ _).grown hg (Nat.le_refl _) (by intro k hk; cases hk))
    have HO := Lib.hid hown
    clear hown hg
    go_wp2
    go_ret
    exact ⟨v', rfl, HO.out, HB.out⟩
  · have hlt : (n : Int) < ((l.length : Nat) : Int) := by omega
    have hc' : (n : Int) ≤ (c : Int) := by omega
    have hlen : (l.take n).length = n := by simp; omega
    have H := Lib.hid (h.take n)
    clear h
    generalize l.take n = l' at *
    subst hlen
    go_enter Tryz.func18, Tryz.ntmps18
    go_wp2_with (at_builtin; refine append_bytes rfl (.const (.slice none 0 0)) (.tmp 10) rfl w.heap.size (.slice none 0 0) [] rfl (World.ownsRow_nil _ _ _ _) ao c l' rfl H.out (by simp; omega) (Nat.le_refl _) ?_)
    intro v' w1 hown hg _
    have HB := Lib.hid ((Below.refl _ _).grown hg (Nat.le_refl _) (by intro k hk; cases hk))
    have HO := Lib.hid hown
    clear hown hg
    go_wp2
    go_ret
    exact ⟨v', rfl, HO.out, HB.out⟩

end Go.Proofs.YtjdpglmphacfjaaGreatDoor
