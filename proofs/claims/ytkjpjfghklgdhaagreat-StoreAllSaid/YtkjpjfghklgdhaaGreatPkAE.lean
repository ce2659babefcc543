/-
  PkAE
-/
import Derived.Test.YtkjpjfghklgdhaaGreatPkAD
namespace Go.Proofs.YtkjpjfghklgdhaaGreat
theorem come_len (b:Int):∀(i q:Int) (l:List (ByteArray×ByteArray)),(come b i q l).length=l.length
 | _,_,[]=>rfl
 | i,q,_::l=>by simp[come,come_len b (i+1) (q+1) l]
theorem pairwise_of_next:∀{l:List Int},(∀i,i<l.length→0<i→l.getD (i-1) 0<l.getD i 0)→l.Pairwise (· <·)
 | [],_=>List.Pairwise.nil
 | x::l,h=>by
  have ih:l.Pairwise (· <·):=pairwise_of_next (fun i hi h0=>by
   have:=h (i+1) (by simpa using hi) (by omega);obtain⟨j,rfl⟩:∃j,i=j+1:=⟨i-1,by omega⟩
   simpa using this)
  refine List.pairwise_cons.2 ⟨fun y hy=>?_,ih⟩;cases l with
  | nil=>cases hy
  | cons z l=>
   have hz:x<z:=by simpa using h 1 (by simp) (by omega)
   rcases List.mem_cons.1 hy with rfl | hy
   · exact hz
   · exact Int.lt_trans hz ((List.pairwise_cons.1 ih).1 y hy)
theorem next_of_pairwise {l:List Int} (h:l.Pairwise (· <·)):∀i,i<l.length→0<i→l.getD (i-1) 0<l.getD i 0:=by
 intro i hi h0;have:=List.pairwise_iff_getElem.1 h (i-1) i (by omega) hi (by omega);simpa[List.getD,hi,(by omega:i-1<l.length)]using this
theorem risingB_iff {l:List Int}:risingB l=true↔(∀x∈l,brokerB x=true)∧l.Pairwise (· <·)∧l.length≤7:=by
 unfold risingB;rw[Bool.and_eq_true,decide_eq_true_eq,decide_eq_true_eq];constructor
 · rintro⟨h1,h2⟩;refine⟨fun x hx=>?_,pairwise_of_next (fun i hi h0=>(h1 i hi).2 h0),h2⟩;obtain⟨i,hi,rfl⟩:=List.getElem_of_mem hx;have:=(h1 i hi).1;rwa[show l.getD i 0=l[i] by simp[List.getD,hi]]at this
 · rintro⟨h1,h2,h3⟩;refine⟨fun i hi=>⟨?_,next_of_pairwise h2 i hi⟩,h3⟩;rw[show l.getD i 0=l[i] by simp[List.getD,hi]];exact h1 _ (List.getElem_mem hi)
theorem pendOf_some {l:List PendV} {t:Int} {p:PendV} (h:pendOf l t=some p):p∈l∧p.tid=t:=by
 unfold pendOf at h;exact⟨List.mem_of_find?_eq_some h,by simpa using List.find?_some h⟩
structure CanP (s:StV) (r:RecV):Prop where
 rec_:recB r=true
 over:r.kind≠9→keyB EndV.tid s.ends r.tid=false
 full:fullE s r=0
 k1:r.kind=1→r.tid=makeZ s.broker (s.tx+1)∧s.tx<200
 k2:r.kind=2→∃m,msgOf s r.id=some m∧(m.by_=0∨m.by_=r.tid)∧keyB BrV.tid s.waits r.tid=false∧keyB PendV.tid s.open_ r.tid=false
 k5:r.kind=5→keyB BrV.tid s.waits r.tid=true
 k9:r.kind=9→∃p,pendOf s.noes r.tid=some p∧r.parts.getD 0 0∈p.parts
 k678:r.kind=6∨r.kind=7∨r.kind=8→homeZ r.tid=s.broker∧keyB BrV.tid s.waits r.tid=false∧s.broker∉r.parts∧(r.kind=6→keyB PendV.tid s.open_ r.tid=false)
 k4:r.kind=4→keyB BrV.tid s.waits r.tid=false∧homeZ r.tid≠s.broker
 k3:r.kind=3→keyB BrV.tid s.waits r.tid=false∧keyB PendV.tid s.open_ r.tid=false
theorem canE_zero {s:StV} {r:RecV} (h:canE s r=0):CanP s r:=by
 unfold canE at h;cases hr:recB r with
 | false=>rw[if_pos hr]at h;cases h
 | true=>
  rw[if_neg (by rw[hr];simp)]at h;by_cases ho:r.kind≠9∧keyB EndV.tid s.ends r.tid=true
  · rw[if_pos ho]at h;cases h
  rw[if_neg ho]at h;have hov:r.kind≠9→keyB EndV.tid s.ends r.tid=false:=fun hk=>by
   cases hb:keyB EndV.tid s.ends r.tid with
   | false=>rfl
   | true=>exact absurd ⟨hk,hb⟩ ho
  have nb:∀b:Bool,¬b=true→b=false:=fun b h=>by cases b<;>simp at h ⊢
  by_cases h2:r.kind=2
  · rw[if_pos h2]at h;cases hm:msgOf s r.id with
    | none=>rw[hm]at h;cases h
    | some m=>
     rw[hm]at h;dsimp only at h;split at h
     · cases h
     · rename_i hn;refine⟨hr,hov,h,by omega,fun _=>⟨m,hm,?_,nb _ (fun e=>hn (.inr (.inl e))),nb _ (fun e=>hn (.inr (.inr e)))⟩,by omega,by omega,by omega,by omega,by omega⟩;by_cases h0:m.by_=0
       · exact .inl h0
       · refine .inr ?_
         false_or_by_contra
         rename_i hne;exact hn (.inl ⟨h0,hne⟩)
  rw[if_neg h2]at h;by_cases h5:r.kind=5
  · rw[if_pos h5]at h;split at h
    · exact⟨hr,hov,h,by omega,by omega,fun _=>by assumption,by omega,by omega,by omega,by omega⟩
    · cases h
  rw[if_neg h5]at h;by_cases h9:r.kind=9
  · rw[if_pos h9]at h;cases hm:pendOf s.noes r.tid with
    | none=>rw[hm]at h;cases h
    | some p=>
     rw[hm]at h;dsimp only at h;split at h
     · exact⟨hr,hov,h,by omega,by omega,by omega,fun _=>⟨p,hm,by assumption⟩,by omega,by omega,by omega⟩
     · cases h
  rw[if_neg h9]at h;by_cases h1:r.kind=1
  · rw[if_pos h1]at h;split at h
    · cases h
    · split at h
      · cases h
      · rename_i ha hb;exact⟨hr,hov,h,fun _=>⟨by false_or_by_contra;rename_i hne;exact ha hne,by omega⟩,by omega,by omega,by omega,by omega,by omega,by omega⟩
  rw[if_neg h1]at h;by_cases h6:r.kind=6∨r.kind=7∨r.kind=8
  · rw[if_pos h6]at h;split at h
    · cases h
    · rename_i hn;refine⟨hr,hov,h,by omega,by omega,by omega,by omega,fun _=>⟨?_,nb _ (fun e=>hn (.inr (.inl e))),fun e=>hn (.inr (.inr (.inl e))),fun hk=>nb _ (fun e=>hn (.inr (.inr (.inr ⟨hk,e⟩))))⟩,by omega,by omega⟩
      false_or_by_contra
      rename_i hne;exact hn (.inl hne)
  rw[if_neg h6]at h;by_cases h4:r.kind=4
  · rw[if_pos h4]at h;split at h
    · cases h
    · rename_i hn;exact⟨hr,hov,h,by omega,by omega,by omega,by omega,by omega,fun _=>⟨nb _ (fun e=>hn (.inl e)),fun e=>hn (.inr e)⟩,by omega⟩
  rw[if_neg h4]at h;by_cases h3:r.kind=3
  · rw[if_pos h3]at h;split at h
    · cases h
    · rename_i hn;exact⟨hr,hov,h,by omega,by omega,by omega,by omega,by omega,by omega,fun _=>⟨nb _ (fun e=>hn (.inl e)),nb _ (fun e=>hn (.inr e))⟩⟩
  rw[if_neg h3]at h;exact⟨hr,hov,h,by omega,by omega,by omega,by omega,by omega,by omega,by omega⟩
def mayB (s:StV):Bool:=
 brokerB s.broker&&(decide (1≤s.nextId∧s.nextId≤4294967296∧1≤s.nextSeq∧s.nextSeq≤1099511627776∧0≤s.tx∧s.tx≤200)&&(decide (s.ms.length≤72∧s.waits.length≤2000∧s.ends.length≤2000∧s.open_.length≤2000∧s.noes.length≤2000)&&
 (decide ((∀m∈s.ms,msgP s m)∧Rising MsgV.seq s.ms∧s.ms.Pairwise fun a b=>a.id≠b.id)&&(decide ((∀e∈s.ends,0<homeZ e.tid)∧Rising EndV.tid s.ends)&&
 (decide ((∀x∈s.waits,0<homeZ x.tid∧keyB EndV.tid s.ends x.tid=false∧putsB x.puts=true)∧Rising BrV.tid s.waits)&&
 (decide ((∀p∈s.open_,pendP s.broker p∧keyB EndV.tid s.ends p.tid=false∧keyB BrV.tid s.waits p.tid=false)∧Rising PendV.tid s.open_)&&
 decide ((∀p∈s.noes,pendP s.broker p∧∃e∈s.ends,e.tid=p.tid∧e.yes=false)∧Rising PendV.tid s.noes)))))))
theorem mayB_iff {s:StV}:mayB s=true↔MayP s:=by
 unfold mayB;simp only[Bool.and_eq_true,decide_eq_true_eq];constructor
 · rintro⟨h0,⟨h1,h2,h3,h4,h5,h6⟩,⟨l1,l2,l3,l4,l5⟩,⟨m1,m2,m3⟩,⟨e1,e2⟩,⟨w1,w2⟩,⟨o1,o2⟩,⟨n1,n2⟩⟩;exact⟨h0,h1,h2,h3,h4,h5,h6,l1,l2,l3,l4,l5,m1,m2,m3,e1,e2,w1,w2,o1,o2,n1,n2⟩
 · intro h;exact⟨h.broker,⟨h.id1,h.id2,h.seq1,h.seq2,h.tx1,h.tx2⟩,⟨h.lms,h.lwaits,h.lends,h.lopen,h.lnoes⟩,⟨h.ms,h.seqs,h.ids⟩,⟨h.ends,h.endsR⟩,⟨h.waits,h.waitsR⟩,⟨h.open_,h.openR⟩,⟨h.noes,h.noesR⟩⟩
def applyS (s:StV) (r:RecV):StV:=if mayB s=true∧canE s r=0 then layS s r else s
def eqMsgB (a b:MsgV):Bool:=decide (a.id=b.id)&&(decide (a.queue=b.queue)&&(decide (a.body=b.body)&&(decide (a.seq=b.seq)&&(decide (a.count=b.count)&&decide (a.by_=b.by_)))))
theorem eqMsgB_iff (a b:MsgV):eqMsgB a b=true↔a=b:=by
 obtain⟨i1,q1,b1,s1,c1,y1⟩:=a;obtain⟨i2,q2,b2,s2,c2,y2⟩:=b;simp[eqMsgB]
instance:DecidableEq MsgV:=fun a b=>decidable_of_iff _ (eqMsgB_iff a b)
def eqBrB (a b:BrV):Bool:=decide (a.tid=b.tid)&&decide (a.puts=b.puts)
theorem eqBrB_iff (a b:BrV):eqBrB a b=true↔a=b:=by
 obtain⟨i1,q1⟩:=a;obtain⟨i2,q2⟩:=b;simp[eqBrB]
instance:DecidableEq BrV:=fun a b=>decidable_of_iff _ (eqBrB_iff a b)
def eqPendB (a b:PendV):Bool:=decide (a.tid=b.tid)&&decide (a.parts=b.parts)
theorem eqPendB_iff (a b:PendV):eqPendB a b=true↔a=b:=by
 obtain⟨i1,q1⟩:=a;obtain⟨i2,q2⟩:=b;simp[eqPendB]
instance:DecidableEq PendV:=fun a b=>decidable_of_iff _ (eqPendB_iff a b)
def eqEndB (a b:EndV):Bool:=decide (a.tid=b.tid)&&decide (a.yes=b.yes)
theorem eqEndB_iff (a b:EndV):eqEndB a b=true↔a=b:=by
 obtain⟨i1,q1⟩:=a;obtain⟨i2,q2⟩:=b;simp[eqEndB]
instance:DecidableEq EndV:=fun a b=>decidable_of_iff _ (eqEndB_iff a b)
def eqStB (a b:StV):Bool:=decide (a.broker=b.broker)&&(decide (a.nextId=b.nextId)&&(decide (a.nextSeq=b.nextSeq)&&(decide (a.tx=b.tx)&&(decide (a.ms=b.ms)&&(decide (a.waits=b.waits)&&(decide (a.ends=b.ends)&&(decide (a.open_=b.open_)&&decide (a.noes=b.noes))))))))
theorem eqStB_iff (a b:StV):eqStB a b=true↔a=b:=by
 obtain⟨a1,a2,a3,a4,a5,a6,a7,a8,a9⟩:=a;obtain⟨b1,b2,b3,b4,b5,b6,b7,b8,b9⟩:=b;simp[eqStB]
def deadB (m:MsgV):Bool:=decide (m.by_=0)&&decide (3≤m.count)
def freeB (q:ByteArray) (m:MsgV):Bool:=decide (m.queue=q)&&(decide (m.by_=0)&&!deadB m)
open Go.RowKit
def Tl {α:Type} (n:Nat) (f:α→List Value) (w:World) (ao:Option Addr) (c:Nat) (l:List α):Prop:=
 (ao=none∧c=0∧l=[])∨
 ∃b off,ao=some ⟨b,off,none⟩∧l.length≤c∧c≤maxLen∧∀i x,l[i]?=some x→∀j u,(f x)[j]?=some u→w.cell? ⟨b,off+i*n+j,none⟩=some u
theorem Tl.turn {α:Type} {n:Nat} {f:α→List Value} {w w':World} {ao:Option Addr} {c:Nat} {l:List α} (h:Tl n f w ao c l) {m:List Nat} (t:Turn m w w') (hm:∀b off,ao=some ⟨b,off,none⟩→b∉m):Tl n f w' ao c l:=by
 rcases h with h | ⟨b,off,h1,h2,h3,h4⟩
 · exact .inl h
 · exact .inr ⟨b,off,h1,h2,h3,fun i x hx j u hu=>t.cell (h4 i x hx j u hu) (hm b off h1)⟩
theorem Tl.still {α:Type} {n:Nat} {f:α→List Value} {w w':World} {ao:Option Addr} {c:Nat} {l:List α} (h:Tl n f w ao c l) (t:Turn [] w w'):Tl n f w' ao c l:=h.turn t (by simp)
theorem Tl.len {α:Type} {n:Nat} {f:α→List Value} {w:World} {ao:Option Addr} {c:Nat} {l:List α} (h:Tl n f w ao c l):(l.length:Int)≤9223372036854775807:=by
 rcases h with⟨_,_,rfl⟩ | ⟨b,off,_,q1,q2,_⟩
 · simp
 · unfold maxLen at q2;omega
theorem Tl.at {α:Type} {n:Nat} {f:α→List Value} {w:World} {ao:Option Addr} {c:Nat} {l:List α} (h:Tl n f w ao c l) {i:Nat} {x:α} (hi:l[i]?=some x):
 ∃b off,ao=some ⟨b,off,none⟩∧∀j u,(f x)[j]?=some u→w.cell? ⟨b,off+i*n+j,none⟩=some u:=by
 rcases h with⟨_,_,rfl⟩ | ⟨b,off,h1,h2,h3,h4⟩
 · simp at hi
 · exact⟨b,off,h1,h4 i x hi⟩
theorem Tl.nil {α:Type} (n:Nat) (f:α→List Value) (w:World):Tl n f w none 0 ([]:List α):=.inl ⟨rfl,rfl,rfl⟩
theorem Tl.of_own {α:Type} {n:Nat} {f:α→List Value} (hf:∀x,(f x).length=n) {w:World} {B:Nat} {e:TypeId} {ao:Option Addr} {c:Nat} {l:List α} (h:w.ownsRow B e n (.slice ao l.length c) l.length (l.flatMap f)):Tl n f w ao c l:=by
 rcases h.2 with⟨e1,h0⟩ | ⟨g,cap,cur,e1,_,hg,h1,h2,h3,h4⟩
 · injection e1 with e2 e3 e4
   exact .inl ⟨e2,e4,List.eq_nil_of_length_eq_zero h0⟩
 · injection e1 with e2 e3 e4
   subst e2 e4;refine .inr ⟨g,0,rfl,h1,h2,fun i x hx j u hu=>?_⟩;have hi:i<l.length:=(List.getElem?_eq_some_iff.1 hx).1;have hj:j<n:=by have:=(List.getElem?_eq_some_iff.1 hu).1;rwa[hf]at this
   have hlt:i*n+j<l.length*n:=by
    have:(i+1)*n≤l.length*n:=Nat.mul_le_mul_right n hi;rw[Nat.add_mul,Nat.one_mul]at this;omega
   have:=h.cellAt (i*n+j) hlt;rw[Nat.zero_add,this];exact flat_at f hf l i x hx j u hu
where
 flat_at {α:Type} {n:Nat} (f:α→List Value) (hf:∀x,(f x).length=n):∀(l:List α) (i:Nat) (x:α),l[i]?=some x→∀j u,(f x)[j]?=some u→(l.flatMap f)[i*n+j]?=some u
  | [],i,x,h=>by simp at h
  | y::l,0,x,h=>by
   simp only[List.getElem?_cons_zero,Option.some.injEq]at h;subst h;intro j u hu;rw[List.flatMap_cons,Nat.zero_mul,Nat.zero_add,List.getElem?_append_left ((List.getElem?_eq_some_iff.1 hu).1)];exact hu
  | y::l,i+1,x,h=>by
   intro j u hu;rw[List.getElem?_cons_succ]at h;have e:(i+1)*n+j=(f y).length+(i*n+j):=by rw[hf,Nat.add_mul,Nat.one_mul];omega
   rw[List.flatMap_cons,e,List.getElem?_append_right (by omega),Nat.add_sub_cancel_left];exact flat_at f hf l i x h j u hu
def msgC (m:MsgV):List Value:=[.int .i64 m.id,.string m.queue,.string m.body,.int .i64 m.seq,.int .i64 m.count,.int .i64 m.by_]
def endC (e:EndV):List Value:=[.int .i64 e.tid,.bool e.yes]
structure Lay (α:Type) where
 v:α
 ao:Option Addr
 c:Nat
def brC (x:Lay BrV):List Value:=[.int .i64 x.v.tid,.slice x.ao x.v.puts.length x.c]
def pendC (x:Lay PendV):List Value:=[.int .i64 x.v.tid,.slice x.ao x.v.parts.length x.c]
def Ws (w:World) (ao:Option Addr) (c:Nat) (l:List BrV):Prop:=∃L:List (Lay BrV),L.map Lay.v=l∧Tl 2 brC w ao c L∧∀x∈L,Ps w x.ao x.c x.v.puts
def Pds (w:World) (ao:Option Addr) (c:Nat) (l:List PendV):Prop:=∃L:List (Lay PendV),L.map Lay.v=l∧Tl 2 pendC w ao c L∧∀x∈L,Il w x.ao x.c x.v.parts
theorem Ws.still {w w':World} {ao:Option Addr} {c:Nat} {l:List BrV} (h:Ws w ao c l) (t:Turn [] w w'):Ws w' ao c l:=by
 obtain⟨L,h1,h2,h3⟩:=h;exact⟨L,h1,h2.still t,fun x hx=>(h3 x hx).turn t⟩
theorem Pds.still {w w':World} {ao:Option Addr} {c:Nat} {l:List PendV} (h:Pds w ao c l) (t:Turn [] w w'):Pds w' ao c l:=by
 obtain⟨L,h1,h2,h3⟩:=h;exact⟨L,h1,h2.still t,fun x hx=>(h3 x hx).turn t⟩
theorem Ws.len {w:World} {ao:Option Addr} {c:Nat} {l:List BrV} (h:Ws w ao c l):(l.length:Int)≤9223372036854775807:=by
 obtain⟨L,rfl,h2,-⟩:=h;have:=h2.len;simpa using this
theorem Pds.len {w:World} {ao:Option Addr} {c:Nat} {l:List PendV} (h:Pds w ao c l):(l.length:Int)≤9223372036854775807:=by
 obtain⟨L,rfl,h2,-⟩:=h;have:=h2.len;simpa using this
structure Ads where
 m:Option Addr
 cm:Nat
 w:Option Addr
 cw:Nat
 e:Option Addr
 ce:Nat
 o:Option Addr
 co:Nat
 n:Option Addr
 cn:Nat
def StV.cells (s:StV) (a:Ads):Array Value:=#[.int .i64 s.broker,.int .i64 s.nextId,.int .i64 s.nextSeq,.int .i64 s.tx,.slice a.m s.ms.length a.cm,.slice a.w s.waits.length a.cw,.slice a.e s.ends.length a.ce,.slice a.o s.open_.length a.co,.slice a.n s.noes.length a.cn]
structure StV.fit (s:StV):Prop where
 broker:okI s.broker
 nextId:okI s.nextId
 nextSeq:okI s.nextSeq
 tx:okI s.tx
 ms:∀m∈s.ms,okI m.id∧okI m.seq∧okI m.count∧okI m.by_∧m.queue.size≤9223372036854775807∧m.body.size≤9223372036854775807
 waits:∀x∈s.waits,okI x.tid
 ends:∀x∈s.ends,okI x.tid
 open_:∀x∈s.open_,okI x.tid
 noes:∀x∈s.noes,okI x.tid
structure StIs (w:World) (a:Ads) (s:StV):Prop where
 ms:Tl 6 msgC w a.m a.cm s.ms
 waits:Ws w a.w a.cw s.waits
 ends:Tl 2 endC w a.e a.ce s.ends
 open_:Pds w a.o a.co s.open_
 noes:Pds w a.n a.cn s.noes
theorem StIs.still {w w':World} {a:Ads} {s:StV} (h:StIs w a s) (t:Turn [] w w'):StIs w' a s:=
 ⟨h.ms.still t,h.waits.still t,h.ends.still t,h.open_.still t,h.noes.still t⟩
end Go.Proofs.YtkjpjfghklgdhaaGreat
