/-
  The contracts of package rec, whole.
-/
import Derived.Test.YtanjbbmgpodbgaaRecEnc
import Derived.Test.YtanjbbmgpodbgaaRecDec
import Derived.Test.YtanjbbmgpodbgaaRecEq
namespace Go.Proofs.Ytanjbbmgpodbgaa
open Go.RowKit

theorem recFace : RecFace where
  enc := fun r w ap cp aq cq hp hq hf => encode_calls r w ap cp aq cq hp hq hf
  dec := fun l w ao c h => decode_calls l w ao c h
  eq := fun a b _ _ _ _ _ _ _ _ _ h1 h2 h3 h4 => eq_calls a b h1 h2 h3 h4

end Go.Proofs.Ytanjbbmgpodbgaa
