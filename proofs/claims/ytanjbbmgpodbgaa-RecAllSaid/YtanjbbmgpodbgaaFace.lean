/-
  What is asked of rec: three contracts.
-/
import Derived.Test.YtanjbbmgpodbgaaRj
namespace Go.Proofs.Ytanjbbmgpodbgaa
open Go.RowKit

def recNone : RecV := ⟨0, 0, 0, false, [], []⟩

/-- Numbers that an int64 bears. -/
def RecV.fit (r : RecV) : Prop := okI r.kind ∧ okI r.tid ∧ okI r.id

/-- What Encode, Decode, Eq of package rec answer. -/
structure RecFace : Prop where
  enc : ∀ (r : RecV) (w : World) (ap : Option Addr) (cp : Nat) (aq : Option Addr) (cq : Nat), Il w ap cp r.parts → Ps w aq cq r.puts → r.fit →
    Calls Try.prog 35 #[.agg (r.cells ap cp aq cq)] w fun e w' => ∃ v, e = .returned v ∧ (recB r = true → w'.ownsRow w.heap.size 5 1 v (recBytes r).length (u8s (recBytes r))) ∧ (recB r = false → v = .slice none 0 0) ∧ Turn [] w w'
  dec : ∀ (l : List UInt8) (w : World) (ao : Option Addr) (c : Nat), Sl w ao c l →
    Calls Try.prog 38 #[.slice ao l.length c] w fun e w' => ∃ (x : RecV) (ap : Option Addr) (cp : Nat) (aq : Option Addr) (cq : Nat) (err : Int), e = .returned (.tuple #[.agg (x.cells ap cp aq cq), .int .i64 err]) ∧ Il w' ap cp x.parts ∧ Ps w' aq cq x.puts ∧ x.fit ∧
      (∀ A, ap = some A → w.heap.size ≤ A.block) ∧ (∀ A, aq = some A → w.heap.size ≤ A.block) ∧ Turn [] w w' ∧
      ((err = 0 ∧ recB x = true ∧ recBytes x = l) ∨ (err = 1 ∧ x = recNone ∧ ∀ r, recB r = true → recBytes r ≠ l))
  eq : ∀ (a b : RecV) (w : World) (p1 q1 p2 q2 : Option Addr) (c1 e1 c2 e2 : Nat), Il w p1 c1 a.parts → Ps w q1 e1 a.puts → Il w p2 c2 b.parts → Ps w q2 e2 b.puts →
    Calls Try.prog 37 #[.agg (a.cells p1 c1 q1 e1), .agg (b.cells p2 c2 q2 e2)] w fun e w' => e = .returned (.bool (eqRecB a b)) ∧ Turn [] w w'

end Go.Proofs.Ytanjbbmgpodbgaa
