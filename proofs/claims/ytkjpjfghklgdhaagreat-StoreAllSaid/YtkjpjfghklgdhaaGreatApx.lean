/-
  Apx
-/
import Derived.Test.YtkjpjfghklgdhaaGreatOst
namespace Go.Proofs.YtkjpjfghklgdhaaGreat
open Go.RowKit Go.Proofs.YtkjpjfghklgdhaaGreat.V
theorem Tx.cells {α:Type} {n:Nat} {f:α→List Value} (hfn:∀x,(f x).length=n) (hn:0<n) {w:World} {A:Addr} {c:Nat} {l:List α} (h:Tx n f w (some A) c l):∀j u,(l.flatMap f)[j]?=some u→w.cell? (A.add j)=some u:=by
 intro j u hu;obtain⟨i,k,x,e,hx,hk⟩:=Tl.flat.flat_split f hfn l j u hu;obtain⟨b,off,hA,hc⟩:=h.at (fun x=>by intro e;have:=hfn x;rw[e]at this;simp at this;omega) hx;injection hA with hA
 subst hA;rw[Addr.add_lit,e,←Nat.add_assoc];exact hc i x hx k u hk
theorem append_tx {α:Type} (n:Nat) (f:α→List Value) (hfn:∀x,(f x).length=n) (hf1:∀x,∀u∈f x,u.oneCell'=true) (hn:0<n) {E T:TypeId} (ht:Tryz.prog.underlying T=some (.slice E)) (i:TypeInfo) (z:Value) (bytes:Nat) (hi:Tryz.prog.info? E=some i) (hz:i.zero=some z)
 (hsize:i.size=n) (hby:i.bytes=bytes) (hzs:z.cells.size=n) {w:World} {ops:Array Oper} {rest:List Oper} {o:Oper} {a:Act} {Q:Exit→Act→World→Prop} (hgd:o.guard=none) (s x:Operand)
 (ho:o.op=.call {callee:=.builtin .append,args:=#[s,x],argTypes:=#[T,T]}) (hs:a.eval s=.slice none 0 0) (ao:Option Addr) (m c:Nat) (l:List α) (hm:m=l.length) (hx:a.eval x=.slice ao m c) (hsl:Tx n f w ao c l) (hlen:l.length*bytes≤140737488355328)
 (h:∀v' w',w'.ownsRow w.heap.size E n v' l.length (l.flatMap f)→Turn [] w w'→wpList Tryz.prog ops Q rest (a.put o.dst v') w'):wpList Tryz.prog ops Q (o::rest) a w:=by
 subst hm;rcases hsl with⟨rfl,rfl,rfl⟩ | ⟨A,rfl,h1,h2,h3⟩
 · refine wpList_append_own_none hgd s x T ho w.heap.size E i n ht hi (.slice none 0 0) 0 [] hs (World.ownsRow_nil _ _ _ _) hx ?_;exact h _ w (World.ownsRow_nil _ _ _ _) (Turn.refl _ _)
 · refine wpList_append_own_at w hgd s x T ho w.heap.size E i z n bytes ht hi hz hsize hby hzs hn (.slice none 0 0) 0 [] hs (World.ownsRow_nil _ _ _ _) A l.length c (l.flatMap f) hx (flat_len hfn l)
    (Tx.cells hfn hn (.inr ⟨A,rfl,h1,h2,h3⟩)) (fun u hu=>by obtain⟨x,-,hx⟩:=List.mem_flatMap.1 hu;exact hf1 x u hx) (by rw[Nat.zero_add];omega) (by rw[Nat.zero_add];exact hlen) (Nat.le_refl _) ?_
   intro v' w' r g _ o2;have r2:w'.ownsRow w.heap.size E n v' l.length (l.flatMap f):=by simpa using r
   exact h v' w' r2 (Turn.grown (l:=[]) g (fun k hk=>by simp[Value.ownBlock]at hk))
end Go.Proofs.YtkjpjfghklgdhaaGreat
