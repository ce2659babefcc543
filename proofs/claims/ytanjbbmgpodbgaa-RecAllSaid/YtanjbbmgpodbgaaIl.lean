/-
  A slice of numbers that came in, as cells.
-/
import Derived.Test.YtanjbbmgpodbgaaTurn
namespace Go.Proofs.Ytanjbbmgpodbgaa
open Go.RowKit

/-- A slice of ints, as cells. -/
def Il (w : World) (ao : Option Addr) (c : Nat) (l : List Int) : Prop :=
  (ao = none ∧ c = 0 ∧ l = []) ∨
  ∃ A : Addr, ao = some A ∧ l.length ≤ c ∧ c ≤ maxLen ∧ (∀ i, i < l.length → w.cell? (A.add i) = some (.int .i64 (l.getD i 0))) ∧ ∀ n ∈ l, -9223372036854775808 ≤ n ∧ n ≤ 9223372036854775807

theorem Il.at {w : World} {ao : Option Addr} {c : Nat} {l : List Int} (h : Il w ao c l) (hl : l ≠ []) : ∃ b off, ao = some ⟨b, off, none⟩ ∧ b < w.heap.size ∧ ∀ i, i < l.length → w.cell? ⟨b, off + i, none⟩ = some (.int .i64 (l.getD i 0)) := by
  rcases h with ⟨_, _, h⟩ | ⟨A, rfl, _, _, hc, _⟩
  · exact absurd h hl
  · obtain ⟨b, off, spot⟩ := A
    have h0 := hc 0 (List.length_pos_iff.2 hl)
    have hs : spot = none := by simpa [Addr.add] using World.cell?_spot h0
    subst hs
    have hc' : ∀ i, i < l.length → w.cell? ⟨b, off + i, none⟩ = some (.int .i64 (l.getD i 0)) := fun i hi => by rw [← Addr.add_lit]; exact hc i hi
    exact ⟨b, off, rfl, World.block_lt_of_cell? _ _ (hc' 0 (List.length_pos_iff.2 hl)), hc'⟩

theorem Il.len {w : World} {ao : Option Addr} {c : Nat} {l : List Int} (h : Il w ao c l) : (l.length : Int) ≤ 9223372036854775807 := by
  rcases h with ⟨_, _, rfl⟩ | ⟨A, _, q1, q2, _⟩
  · simp
  · unfold maxLen at q2; omega

theorem Il.bound {w : World} {ao : Option Addr} {c : Nat} {l : List Int} (h : Il w ao c l) (i : Nat) : -9223372036854775808 ≤ l.getD i 0 ∧ l.getD i 0 ≤ 9223372036854775807 := by
  by_cases hi : i < l.length
  · rw [show l.getD i 0 = l[i] by simp [List.getD, hi]]
    rcases h with ⟨_, _, rfl⟩ | ⟨A, _, _, _, _, hb⟩
    · simp at hi
    · exact hb _ (List.getElem_mem hi)
  · rw [show l.getD i 0 = 0 by simp [List.getD, List.getElem?_eq_none (by omega : l.length ≤ i)]]
    omega

end Go.Proofs.Ytanjbbmgpodbgaa
