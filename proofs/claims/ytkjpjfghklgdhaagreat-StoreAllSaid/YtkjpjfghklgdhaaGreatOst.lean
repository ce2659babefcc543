/-
  Ost
-/
import Derived.Test.YtkjpjfghklgdhaaGreatPkBE
set_option maxRecDepth 100000
namespace Go.Proofs.YtkjpjfghklgdhaaGreat
open Go.RowKit Go.ChangeShapes Go.WideShapes Go.ChangeAt Go.Deep Go.Proofs.YtkjpjfghklgdhaaGreat.V
def Tx {α:Type} (n:Nat) (f:α→List Value) (w:World) (ao:Option Addr) (c:Nat) (l:List α):Prop:=
 (ao=none∧c=0∧l=[])∨
 ∃A:Addr,ao=some A∧l.length≤c∧c≤maxLen∧∀i x,l[i]?=some x→∀j u,(f x)[j]?=some u→w.cell? ((A.add (i*n)).add j)=some u
theorem Tx.at {α:Type} {n:Nat} {f:α→List Value} {w:World} {ao:Option Addr} {c:Nat} {l:List α} (h:Tx n f w ao c l) (hf:∀x,f x≠[]) {i:Nat} {x:α} (hi:l[i]?=some x):
 ∃b off,ao=some ⟨b,off,none⟩∧∀i x,l[i]?=some x→∀j u,(f x)[j]?=some u→w.cell? ⟨b,off+i*n+j,none⟩=some u:=by
 rcases h with⟨_,_,rfl⟩ | ⟨A,rfl,_,_,hc⟩
 · simp at hi
 · obtain⟨b,off,spot⟩:=A;have hil:=(List.getElem?_eq_some_iff.1 hi).1;obtain⟨x0,hx0⟩:∃x0,l[0]?=some x0:=⟨_,List.getElem?_eq_getElem (by omega)⟩
   obtain⟨u,hu⟩:∃u,(f x0)[0]?=some u:=by
    cases hfx:f x0 with
    | nil=>exact absurd hfx (hf x0)
    | cons y l=>exact⟨y,rfl⟩
   have h0:=hc 0 x0 hx0 0 u hu;have hs:spot=none:=by simpa[Addr.add]using World.cell?_spot h0
   subst hs
   exact⟨b,off,rfl,fun i x hi j u hu=>by
    have:=hc i x hi j u hu
    rwa[Addr.add_lit,Addr.add_lit]at this⟩
theorem Tx.still {α:Type} {n:Nat} {f:α→List Value} {w w':World} {ao:Option Addr} {c:Nat} {l:List α} (h:Tx n f w ao c l) (t:Turn [] w w'):Tx n f w' ao c l:=by
 rcases h with h | ⟨A,h1,h2,h3,h4⟩
 · exact .inl h
 · exact .inr ⟨A,h1,h2,h3,fun i x hx j u hu=>t.cell (h4 i x hx j u hu)⟩
section
variable {H : Type} {enc : TypeId × Value → H} {P : Program} {w : World} {base : Nat} {spare : Nat → Bool} {held : Bool}
end
def msgOk (m:MsgV):Prop:=okI m.id∧okI m.seq∧okI m.count∧okI m.by_∧m.queue.size≤9223372036854775807∧m.body.size≤9223372036854775807
structure StX (w:World) (a:Ads) (s:StV):Prop where
 ms:Tx 6 msgC w a.m a.cm s.ms
 waits:∃L:List (Lay BrV),L.map Lay.v=s.waits∧Tx 2 brC w a.w a.cw L∧∀x∈L,Ps w x.ao x.c x.v.puts
 ends:Tx 2 endC w a.e a.ce s.ends
 open_:∃L:List (Lay PendV),L.map Lay.v=s.open_∧Tx 2 pendC w a.o a.co L∧∀x∈L,Il w x.ao x.c x.v.parts
 noes:∃L:List (Lay PendV),L.map Lay.v=s.noes∧Tx 2 pendC w a.n a.cn L∧∀x∈L,Il w x.ao x.c x.v.parts
end Go.Proofs.YtkjpjfghklgdhaaGreat
