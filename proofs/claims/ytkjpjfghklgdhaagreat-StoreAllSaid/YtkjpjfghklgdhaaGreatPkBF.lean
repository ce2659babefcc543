/-
  PkBF
-/
import Derived.Test.YtkjpjfghklgdhaaGreatPkBE
namespace Go.Proofs.YtkjpjfghklgdhaaGreat
open Go.RowKit Go.Proofs.YtkjpjfghklgdhaaGreat.V
theorem ownsRow_lo {w:World} {B:Nat} {e:TypeId} {z n:Nat} {v:Value} {xs:List Value} (h:w.ownsRow B e z v n xs) {k:Nat} (hk:v.ownBlock=some k):B≤k:=by
 rcases h.2 with⟨rfl,_⟩ | ⟨g,cap,cur,rfl,hB,_⟩
 · simp[Value.ownBlock]at hk
 · have:g=k:=by simpa[Value.ownBlock]using hk
   subst this;exact hB
theorem ownsRow_over {w w1:World} {B q:Nat} {e:TypeId} {z n:Nat} {v:Value} {xs:List Value} (h:w.ownsRow B e z v n xs) (t:Turn [q] w w1) (hq:q<B):w1.ownsRow B e z v n xs:=
 ownsRow_turn h t (fun k hk=>by have:=ownsRow_lo h hk;simp;omega)
theorem cell_in {w:World} {q:Nat} {C:Array Value} {T:TypeId} {fr:Nat×Nat} (h:w.heap[q]?=some (.cells C T fr)) {j:Nat} {v:Value} (hv:C[j]?=some v):w.cell? ⟨q,j,none⟩=some v:=by
 rw[cell_of_row _ _ _ _ _ _ h];exact hv
end Go.Proofs.YtkjpjfghklgdhaaGreat
