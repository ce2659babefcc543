/-
  Lcut
-/
import Derived.Test.YtlmefpanoimkcaaGreatPkBC
namespace Go.Proofs.YtlmefpanoimkcaaGreat
open Go.RowKit
theorem cut_sizes (l : List (ByteArray × ByteArray)) (i : Nat) (h : i < ((l.take 12).map cutP).length) : (((l.take 12).map cutP).getD i putNone).1.size ≤ 10 ∧ (((l.take 12).map cutP).getD i putNone).2.size ≤ 62 := by
 have hn : ∀ (s : ByteArray) (n : Nat), (cutN s n).size ≤ n := fun s n => by
  show (s.data.toList.take n).toArray.size ≤ n
  simp
  omega
 have e : ((l.take 12).map cutP).getD i putNone = ((l.take 12).map cutP)[i] := by simp only [List.getD, List.getElem?_eq_getElem h, Option.getD_some]
 rw [e, List.getElem_map]
 exact ⟨hn _ _, hn _ _⟩
end Go.Proofs.YtlmefpanoimkcaaGreat
