/-
  What opens the arguments of the hatch laws.
-/
import Derived.Test.YtijpfahiedggmaaOpenOps5
