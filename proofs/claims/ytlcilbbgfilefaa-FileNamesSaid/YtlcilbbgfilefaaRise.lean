/-
  The names told are rising.
-/
import Derived.Test.YtlcilbbgfilefaaTwo
namespace Go.Proofs.Ytlcilbbgfilefaa
open Go.RowKit

theorem sortedN_rises {ss : List (List UInt8)} (hnd : ss.Nodup) : (sortedN ss).Pairwise (fun a b => ¬ b ≤ a) := by
  have h1 : (sortedN ss).Pairwise (fun a b => decide (a ≤ b) = true) := by
    refine List.pairwise_mergeSort (le := fun x y => decide (x ≤ y)) ?_ ?_ ss
    · intro a b c h1 h2
      simp only [decide_eq_true_eq] at h1 h2 ⊢
      exact List.le_trans h1 h2
    · intro a b
      simp only [Bool.or_eq_true, decide_eq_true_eq]
      exact List.le_total a b
  have h2 : (sortedN ss).Nodup := (List.mergeSort_perm _ _).nodup_iff.2 hnd
  refine (h1.and (List.nodup_iff_pairwise_ne.1 h2)).imp ?_
  intro a b h hba
  exact h.2 (List.le_antisymm (by simpa using h.1) hba)

/-- The one that comes next is not before. -/
theorem sortedN_next {ss : List (List UInt8)} (hnd : ss.Nodup) (k : Nat) (hk : k + 1 < (sortedN ss).length) : ¬ (sortedN ss)[k + 1] ≤ (sortedN ss)[k]'(by omega) :=
  List.pairwise_iff_getElem.1 (sortedN_rises hnd) k (k + 1) (by omega) hk (by omega)

end Go.Proofs.Ytlcilbbgfilefaa
