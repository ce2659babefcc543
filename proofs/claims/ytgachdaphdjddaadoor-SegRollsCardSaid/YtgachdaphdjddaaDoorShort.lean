/-
  The walk of the law's own Short: a copy of at most n bytes.
-/
import Derived.Test.YtgachdaphdjddaaDoorBegun
namespace Go.Proofs.YtgachdaphdjddaaDoor
open Go.RowKit

theorem Sl.take {w : World} {ao : Option Addr} {c : Nat} {l : List UInt8} (h : Sl w ao c l) (m : Nat) : Sl w ao c (l.take m) := by
  rcases h with ⟨h1, h2, rfl⟩ | ⟨A, hA, h1, h2, hc⟩
  · exact .inl ⟨h1, h2, by simp⟩
  · refine .inr ⟨A, hA, by simp; omega, h2, fun i hi => ?_⟩
    have hi2 : i < m ∧ i < l.length := by simp at hi; omega
    rw [hc i hi2.2]
    simp [List.getD, hi2.1]

end Go.Proofs.YtgachdaphdjddaaDoor
