/-
  The walk of the law's own Short: a copy of at most n bytes.
-/
import Derived.Test.YtanjbbmgpodbgaaBegun
namespace Go.Proofs.Ytanjbbmgpodbgaa
open Go.RowKit

theorem Sl.take {w : World} {ao : Option Addr} {c : Nat} {l : List UInt8} (h : Sl w ao c l) (m : Nat) : Sl w ao c (l.take m) := by
  rcases h with ⟨h1, h2, rfl⟩ | ⟨A, hA, h1, h2, hc⟩
  · exact .inl ⟨h1, h2, by simp⟩
  · refine .inr ⟨A, hA, by simp; omega, h2, fun i hi => ?_⟩
    have hi2 : i < m ∧ i < l.length := by simp at hi; omega
    rw [hc i hi2.2]
    simp [List.getD, hi2.1]

set_option maxHeartbeats 1000000 in
theorem short_calls (ao : Option Addr) (c n : Nat) (l : List UInt8) (w : World) (h : Sl w ao c l) (hn : n ≤ 1000) :
    Calls Try.prog 40 #[.slice ao l.length c, .int .i64 (n : Int)] w fun e w' =>
      ∃ ao' c', e = .returned (.slice ao' (l.take n).length c') ∧ Sl w' ao' c' (l.take n) ∧ Below w.heap.size w w' := by
  have hle := h.le
  unfold maxLen at hle
  by_cases hln : l.length ≤ n
  · have hlt : ((l.length : Nat) : Int) ≤ (n : Int) := by omega
    have hc' : ((l.length : Nat) : Int) ≤ (c : Int) := by omega
    rw [List.take_of_length_le hln]
    have H := Lib.hid h
    clear h
    go_enter Try.func40, Try.ntmps40
    go_wp2_with (at_builtin; refine append_bytes rfl (.const (.slice none 0 0)) (.tmp 10) rfl w.heap.size (.slice none 0 0) [] rfl (World.ownsRow_nil _ _ _ _) ao c l rfl H.out (by simp; omega) (Nat.le_refl _) ?_)
    intro v' w1 hown hg _
    have HB := Lib.hid ((Below.refl _ _).grown hg (Nat.le_refl _) (by intro k hk; cases hk))
    have HO := Lib.hid (Sl.of_owns hown)
    clear hown hg
    go_wp2
    go_ret
    obtain ⟨ao', c', hv, hs, _⟩ := HO.out
    exact ⟨ao', c', by rw [← hv]; rfl, hs, HB.out⟩
  · have hlt : (n : Int) < ((l.length : Nat) : Int) := by omega
    have hc' : (n : Int) ≤ (c : Int) := by omega
    have hlen : (l.take n).length = n := by simp; omega
    have H := Lib.hid (h.take n)
    clear h
    generalize l.take n = l' at *
    subst hlen
    go_enter Try.func40, Try.ntmps40
    go_wp2_with (at_builtin; refine append_bytes rfl (.const (.slice none 0 0)) (.tmp 10) rfl w.heap.size (.slice none 0 0) [] rfl (World.ownsRow_nil _ _ _ _) ao c l' rfl H.out (by simp; omega) (Nat.le_refl _) ?_)
    intro v' w1 hown hg _
    have HB := Lib.hid ((Below.refl _ _).grown hg (Nat.le_refl _) (by intro k hk; cases hk))
    have HO := Lib.hid (Sl.of_owns hown)
    clear hown hg
    go_wp2
    go_ret
    obtain ⟨ao', c', hv, hs, _⟩ := HO.out
    exact ⟨ao', c', by rw [← hv]; rfl, hs, HB.out⟩

/-- The same, the copy under a name of its own. -/
theorem short_named (ao : Option Addr) (c n : Nat) (l : List UInt8) (w : World) (h : Sl w ao c l) (hn : n ≤ 1000) :
    Calls Try.prog 40 #[.slice ao l.length c, .int .i64 (n : Int)] w fun e w' =>
      ∃ ao' c' x, e = .returned (.slice ao' (List.length x) c') ∧ Hid (x = l.take n) ∧ Sl w' ao' c' x ∧ Below w.heap.size w w' :=
  (short_calls ao c n l w h hn).mono fun _ _ ⟨ao', c', h1, h2, h3⟩ => ⟨ao', c', l.take n, h1, rfl, h2, h3⟩

end Go.Proofs.Ytanjbbmgpodbgaa
