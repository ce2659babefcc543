/-
  Ph2
-/
import Derived.Test.YtkjpjfghklgdhaaGreatPkAO
namespace Go.Proofs.YtkjpjfghklgdhaaGreat
open Go
section
variable {P : Program} {md : Region.Mode} {ops : Array Oper} {Q : Exit → Act → World → Prop} {S : World → Prop} {late : List Nat}
end
end Go.Proofs.YtkjpjfghklgdhaaGreat
