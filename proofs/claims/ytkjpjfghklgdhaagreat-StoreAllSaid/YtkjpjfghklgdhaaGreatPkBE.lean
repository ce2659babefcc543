/-
  PkBE
-/
import Derived.Test.YtkjpjfghklgdhaaGreatPkBC
namespace Go.Proofs.YtkjpjfghklgdhaaGreat
open Go.RowKit Go.ChangeShapes Go.WideShapes Go.ChangeAt Go.Deep
open Go.RowKit Go.Proofs.YtkjpjfghklgdhaaGreat.V
theorem nine_heapC {w:World} {g:Nat} {c0 c1 c2 c3 c4 c5 c6 c7 c8:Value} (h:w.heap[g]?=some (.cells #[c0,c1,c2,c3,c4,c5,c6,c7,c8] 27)) (u0 u1 u2 u3 u4 u5 u6 u7 u8:Value):(nine w g u0 u1 u2 u3 u4 u5 u6 u7 u8).heap[g]?=some (.cells #[u0,u1,u2,u3,u4,u5,u6,u7,u8] 27):=by
 have h1:=block_set (i:=8) (block_set (i:=7) (block_set (i:=6) (block_set (i:=5) (block_set (i:=4) (block_set (i:=3) (block_set (i:=2) (block_set (i:=1) (block_set (i:=0) h u0) u1) u2) u3) u4) u5) u6) u7) u8;simp only[List.setIfInBounds_toArray,List.set_cons_zero,List.set_cons_succ]at h1;exact h1
end Go.Proofs.YtkjpjfghklgdhaaGreat
