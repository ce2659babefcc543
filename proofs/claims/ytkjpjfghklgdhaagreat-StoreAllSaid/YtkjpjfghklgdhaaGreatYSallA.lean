/-
  What the reference makes of a state: its own functions.
-/
import Derived.Test.YtkjpjfghklgdhaaGreatRcp
import Derived.Test.YtkjpjfghklgdhaaGreatPq
import Derived.Test.YtkjpjfghklgdhaaGreatTw

namespace Go.Proofs.YtkjpjfghklgdhaaGreat
open Go.RowKit Go.Proofs.YtkjpjfghklgdhaaGreat.V
def Src (n:Nat) (w:World) (ao:Option Addr) (m c:Nat) (xs:List Value):Prop:=
 (ao=none∧m=0∧c=0∧xs=[])∨∃A:Addr,ao=some A∧xs.length=m*n∧∀j u,xs[j]?=some u→w.cell? (A.add j)=some u
theorem Src.turn {n:Nat} {w w':World} {ao:Option Addr} {m c:Nat} {xs:List Value} (h:Src n w ao m c xs) (t:Turn [] w w'):Src n w' ao m c xs:=by
 rcases h with h | ⟨A,h1,h2,h3⟩
 · exact .inl h
 · exact .inr ⟨A,h1,h2,fun j u hj=>t.cell (h3 j u hj)⟩
theorem Src.of_tl {α:Type} {n:Nat} {f:α→List Value} (hf:∀x,(f x).length=n) {w:World} {ao:Option Addr} {c:Nat} {l:List α} (h:Tl n f w ao c l):Src n w ao l.length c (l.flatMap f):=by
 rcases h with⟨h1,h2,rfl⟩ | ⟨b,off,h1,h2,h3,h4⟩
 · exact .inl ⟨h1,rfl,h2,rfl⟩
 · refine .inr ⟨_,h1,by rw[flat_len hf],fun j u hj=>?_⟩;obtain⟨i,k,x,e,hx,hk⟩:=Tl.flat.flat_split f hf l j u hj;rw[Addr.add_lit,e,←Nat.add_assoc];exact h4 i x hx k u hk
theorem Src.back {α:Type} {n:Nat} {f:α→List Value} (hf:∀x,(f x).length=n) {w:World} {b off c:Nat} {l:List α} (h:Tl n f w (some ⟨b,off,none⟩) c l) (k c':Nat):Src n w (some ⟨b,off+k*n,none⟩) (l.length-k) c' ((l.drop k).flatMap f):=by
 rcases h with⟨h1,_⟩ | ⟨b',off',h1,h2,h3,h4⟩
 · cases h1
 · injection h1 with h1
   injection h1 with e1 e2
   subst e1 e2;refine .inr ⟨_,rfl,by rw[flat_len hf,List.length_drop],fun j u hj=>?_⟩;obtain⟨i,q,x,e,hx,hq⟩:=Tl.flat.flat_split f hf (l.drop k) j u hj;rw[List.getElem?_drop]at hx;rw[Addr.add_lit,show off+k*n+j=off+(k+i)*n+q by rw[e,Nat.add_mul];omega];exact h4 (k+i) x hx q u hq
theorem tl_front {α:Type} {n:Nat} {f:α→List Value} {w:World} {ao:Option Addr} {c:Nat} {l:List α} (h:Tl n f w ao c l) (k:Nat):Tl n f w ao c (l.take k):=by
 rcases h with⟨h1,h2,rfl⟩ | ⟨b,off,h1,h2,h3,h4⟩
 · exact .inl ⟨h1,h2,by simp⟩
 · refine .inr ⟨b,off,h1,by rw[List.length_take];omega,h3,fun i x hx=>h4 i x ?_⟩;rw[List.getElem?_take]at hx;split at hx
   · exact hx
   · cases hx
theorem step_append_src {n E T bytes:Nat} {i0:TypeInfo} {z:Value} (ht:Tryz.prog.underlying T=some (.slice E)) (hi:Tryz.prog.info? E=some i0) (hz:i0.zero=some z) (hsize:i0.size=n) (hby:i0.bytes=bytes) (hzs:z.cells.size=n) (hn:0<n)
  {ops:Array Oper} {o:Oper} {a:Act} {w:World} {K:Act→World→Prop} {Q:Exit→Act→World→Prop} {X:Prop} (hgd:o.guard=none) (s x:Operand)
  (ho:o.op=.call {callee:=.builtin .append,args:=#[s,x],argTypes:=#[T,T]})
  (B:Nat) (v:Value) (m0:Nat) (xs0:List Value) (hs:a.eval s=v) (hown:w.ownsRow B E n v m0 xs0) (hB:B≤w.heap.size)
  (ao:Option Addr) (m c:Nat) (xs:List Value) (hx:a.eval x=.slice ao m c) (hsrc:Src n w ao m c xs) (hone:∀u∈xs,u.oneCell'=true) (hlen:(m0+m)*bytes≤140737488355328) (hml:m0+m≤2000000)
  (h:∀v' w',w'.ownsRow B E n v' (m0+m) (xs0++xs)→w.grownBy w' v.ownBlock→(v'.ownBlock=v.ownBlock∨v'.ownBlock=some w.heap.size)→K (a.put o.dst v') w'):
  if Region.wanted o (yielded ops a.tmps)=true then Oper.wp Tryz.prog o a w K Q else X:=by
 have hw:Region.wanted o (yielded ops a.tmps)=true:=by simp[Region.wanted,hgd]
 rw[if_pos hw];rcases hsrc with⟨rfl,rfl,rfl,rfl⟩ | ⟨A,rfl,h2,h3⟩
 · have hrun:=run_append_owned_none (P:=Tryz.prog) (w:=w) B T o.type E i0 n ht hi v m0 xs0 hown;unfold Oper.wp execOp;simp only[ho,resolve,invoke,builtin,Sem.run_bind,Sem.run_pure,Result.andThen_ok,List.map_toArray,List.map_cons,List.map_nil,hs,hx,hrun];exact h v w (by simpa using hown) (World.grownBy.refl _ _) (.inl rfl)
 · obtain⟨v',w',hr,r2,r3,r4,r5⟩:=run_append_own_at (P:=Tryz.prog) w B T o.type E i0 z n bytes ht hi hz hsize hby hzs hn v m0 xs0 hown A m c xs h2 h3 hone (by unfold maxLen;omega) hlen hB;unfold Oper.wp execOp;simp only[ho,resolve,invoke,builtin,Sem.run_bind,Sem.run_pure,Result.andThen_ok,List.map_toArray,List.map_cons,List.map_nil,hs,hx,hr];exact h v' w' r2 r3 r5
theorem append_srcL {n E T bytes:Nat} {i0:TypeInfo} {z:Value} (ht:Tryz.prog.underlying T=some (.slice E)) (hi:Tryz.prog.info? E=some i0) (hz:i0.zero=some z) (hsize:i0.size=n) (hby:i0.bytes=bytes) (hzs:z.cells.size=n) (hn:0<n)
  {ops:Array Oper} {rest:List Oper} {o:Oper} {a:Act} {w:World} {Q:Exit→Act→World→Prop} (hgd:o.guard=none) (s x:Operand)
  (ho:o.op=.call {callee:=.builtin .append,args:=#[s,x],argTypes:=#[T,T]})
  (B:Nat) (v:Value) (m0:Nat) (xs0:List Value) (hs:a.eval s=v) (hown:w.ownsRow B E n v m0 xs0) (hB:B≤w.heap.size)
  (ao:Option Addr) (m c:Nat) (xs:List Value) (hx:a.eval x=.slice ao m c) (hsrc:Src n w ao m c xs) (hone:∀u∈xs,u.oneCell'=true) (hlen:(m0+m)*bytes≤140737488355328) (hml:m0+m≤2000000)
  (h:∀v' w',w'.ownsRow B E n v' (m0+m) (xs0++xs)→w.grownBy w' v.ownBlock→wpList Tryz.prog ops Q rest (a.put o.dst v') w'):wpList Tryz.prog ops Q (o::rest) a w:=by
 rcases hsrc with⟨rfl,rfl,rfl,rfl⟩ | ⟨A,rfl,h2,h3⟩
 · exact wpList_append_own_none hgd s x T ho B E i0 n ht hi v m0 xs0 hs hown hx (h v w (by simpa using hown) (World.grownBy.refl _ _))
 · exact wpList_append_own_at w hgd s x T ho B E i0 z n bytes ht hi hz hsize hby hzs hn v m0 xs0 hs hown A m c xs hx h2 h3 hone (by unfold maxLen;omega) hlen hB (fun v' w' r g _ _=>h v' w' r g)
def Lo (lo:Nat) (w w':World):Prop:=∃m,Turn m w w'∧∀q∈m,q<lo
theorem Lo.nil {lo:Nat} {w w':World} (t:Turn [] w w'):Lo lo w w':=⟨[],t,by simp⟩
theorem Lo.one {lo b:Nat} {w w':World} (t:Turn [b] w w') (h:b<lo):Lo lo w w':=⟨[b],t,by simpa using h⟩
theorem Lo.trans {lo:Nat} {w1 w2 w3:World} (h:Lo lo w1 w2) (k:Lo lo w2 w3):Lo lo w1 w3:=by
 obtain⟨m,t,hm⟩:=h;obtain⟨n,u,hn⟩:=k;refine⟨m++n,(t.mono (l':=m++n) (fun i hi=>.inl (by simp[hi]))).trans u (fun i hi=>.inl (by simp[hi])),fun q hq=>?_⟩;rcases List.mem_append.1 hq with h | h
 · exact hm q h
 · exact hn q h
theorem Lo.mono {lo lo':Nat} {w w':World} (h:Lo lo w w') (hl:lo≤lo'):Lo lo' w w':=by
 obtain⟨m,t,hm⟩:=h;exact⟨m,t,fun q hq=>Nat.lt_of_lt_of_le (hm q hq) hl⟩
theorem Lo.row {lo B:Nat} {w w':World} (t:Lo lo w w') {e:TypeId} {z n:Nat} {v:Value} {xs:List Value} (h:w.ownsRow B e z v n xs) (hB:lo≤B):w'.ownsRow B e z v n xs:=by
 obtain⟨m,t,hm⟩:=t;exact ownsRow_turn h t (fun k hk hq=>by have:=row_lo10 h k hk;have:=hm k hq;omega)
structure StLy (w:World) (a:Ads) (s:StV) (LW:List (Lay BrV)) (LO LN:List (Lay PendV)):Prop where
 vw:LW.map Lay.v=s.waits
 vo:LO.map Lay.v=s.open_
 vn:LN.map Lay.v=s.noes
 ms:Tl 6 msgC w a.m a.cm s.ms
 ends:Tl 2 endC w a.e a.ce s.ends
 tw:Tl 2 brC w a.w a.cw LW
 tk:Tl 2 pendC w a.o a.co LO
 tn:Tl 2 pendC w a.n a.cn LN
 iw:∀x∈LW,Ps w x.ao x.c x.v.puts
 io:∀x∈LO,Il w x.ao x.c x.v.parts
 ie:∀x∈LN,Il w x.ao x.c x.v.parts
theorem StLy.is {w:World} {a:Ads} {s:StV} {LW:List (Lay BrV)} {LO LN:List (Lay PendV)} (h:StLy w a s LW LO LN):StIs w a s:=⟨h.ms,⟨LW,h.vw,h.tw,h.iw⟩,h.ends,⟨LO,h.vo,h.tk,h.io⟩,⟨LN,h.vn,h.tn,h.ie⟩⟩
theorem StIs.x {w:World} {a:Ads} {s:StV} (h:StIs w a s):∃LW LO LN,StLy w a s LW LO LN:=by
 obtain⟨LW,v1,t1,i1⟩:=h.waits;obtain⟨LO,v2,t2,i2⟩:=h.open_;obtain⟨LN,v3,t3,i3⟩:=h.noes;exact⟨LW,LO,LN,v1,v2,v3,h.ms,h.ends,t1,t2,t3,i1,i2,i3⟩
theorem StLy.still {w w':World} {a:Ads} {s:StV} {LW:List (Lay BrV)} {LO LN:List (Lay PendV)} (h:StLy w a s LW LO LN) (t:Turn [] w w'):StLy w' a s LW LO LN:=
 ⟨h.vw,h.vo,h.vn,h.ms.still t,h.ends.still t,h.tw.still t,h.tk.still t,h.tn.still t,fun x hx=>(h.iw x hx).turn t,fun x hx=>(h.io x hx).turn t,fun x hx=>(h.ie x hx).turn t⟩
def Up (w w':World) (a:Ads) (s:StV) (LW:List (Lay BrV)) (LO LN:List (Lay PendV)) (a':Ads) (s':StV) (LW':List (Lay BrV)) (LO' LN':List (Lay PendV)):Prop:=
 ∀wz,Lo w.heap.size w' wz→StLy wz a s LW LO LN→StLy wz a' s' LW' LO' LN'
end Go.Proofs.YtkjpjfghklgdhaaGreat

set_option maxHeartbeats 2000000
set_option maxRecDepth 100000
namespace Go.Proofs.YtkjpjfghklgdhaaGreat
open Go.RowKit
theorem refAtPend_calls {w:World} {ao:Option Addr} {c:Nat} {l:List PendV} (id:Int) (h:Pds w ao c l):Calls Tryz.prog 40 #[.slice ao l.length c,.int .i64 id] w fun e w'=>e=.returned (.int .i64 (placeI (fun m=>decide (m.tid=id)) l))∧w=w':=by
 have hlen:=h.len;obtain⟨L,hL,hT,-⟩:=h;have H:=η hT;have HL0:=η hL;obtain⟨ans,ha⟩:=ε (placeI (fun m=>decide (m.tid=id)) l);have HA:=η ha;rw[←ha];obtain⟨n,hn⟩:=ε l.length;have HN:=η hn;rw[←hn]at hlen ⊢;clear hT hL ha hn;go_in;go_wp2_with fail
 go_loop [5] (fun i=>∃k:Nat,k≤n∧i=.int .i64 (k:Int)∧∀(j:Nat) (y:PendV),j<k→l[j]?=some y→(fun m:PendV=>decide (m.tid=id)) y=false) (fun i=>n-(intOf i).toNat)
 case atStart=>exact⟨0,by omega,rfl,fun j y hj=>by omega⟩
 case round=>
  obtain⟨k,hk,rfl,hall⟩:=hrel;have HL:=η hall;clear hall;by_cases hkn:k<n
  · have hkl:k<L.length:=by have:=congrArg List.length HL0.out;rw[List.length_map]at this;rw[this,←HN.out];exact hkn
    obtain⟨m,hm0⟩:∃m,L[k]?=some m:=⟨_,List.getElem?_eq_getElem hkl⟩
    have hm:l[k]?=some m.v:=by rw[←HL0.out,List.getElem?_map,hm0];rfl
    obtain⟨g,off,rfl,hat⟩:=H.out.at hm0;have q0:=hat 0 (.int .i64 m.v.tid) rfl;rw[Nat.add_zero]at q0;have hb:0≤(k:Int)∧(k:Int)<(n:Int):=by omega
    by_cases hxy:m.v.tid=id
    · have HF:Hid (ans=(k:Int)):=η (by rw[HA.out];exact place_hit hm (by simpa using hxy) HL.out);rw[hxy]at q0;clear hat hxy HL hm hm0;go_wp2;go_ret;exact⟨ret_int HF.out.symm,rfl⟩
    · have HX:Hid (∀(j:Nat) (y:PendV),j<k+1→l[j]?=some y→(fun m:PendV=>decide (m.tid=id)) y=false):=η (fun j y hj hy=>by
       by_cases e:j=k
       · rw[e,hm]at hy;injection hy with hy
         rw[←hy];simpa using hxy
       · exact HL.out j y (by omega) hy)
      obtain⟨y,hy⟩:=ε m.v.tid;rw[←hy]at q0 hxy;have hne:(y==id)=false:=by simpa using hxy
      clear hat hy HL hxy hm hm0;go_wp2
      go_round
      case rel=>exact⟨k+1,by omega,by go_num,HX.out⟩
      case measure=>simp[intOf];omega
  · have hkk:k=n:=by omega
    have HF:Hid (ans=-1):=η (by
     rw[HA.out];refine place_none (fun i y hy=>HL.out i y ?_ hy);have:=(List.getElem?_eq_some_iff.1 hy).1;rw[hkk,HN.out]
     exact this)
    clear HL;go_wp2;go_ret;exact⟨ret_int HF.out.symm,rfl⟩
end Go.Proofs.YtkjpjfghklgdhaaGreat

set_option maxHeartbeats 1000000
namespace Go.Proofs.YtkjpjfghklgdhaaGreat
open Go.RowKit
theorem refMake_calls (b n:Int) (w:World):Calls Tryz.prog 34 #[.int .i64 b,.int .i64 n] w fun e w'=>e=.returned (.int .i64 (makeZ b n))∧w=w':=by
 have C:=η (refBroker_calls b w);by_cases hb:brokerB b=true
 · rw[hb]at C;have hb2:=of_decide_eq_true hb;by_cases h1:n<1
   · have HM:Hid (makeZ b n=0):=η (by unfold makeZ;rw[if_neg (by omega)]);clear hb;go_in;go_wp2_with fail;refine C.out.mono ?_;rintro e w1 ⟨rfl,rfl⟩;clear C;go_wp2;go_ret;exact⟨ret_int HM.out.symm,rfl⟩
   · by_cases h2:4294967296≤n
     · have HM:Hid (makeZ b n=0):=η (by unfold makeZ;rw[if_neg (by omega)]);clear hb;go_in;go_wp2_with fail;refine C.out.mono ?_;rintro e w1 ⟨rfl,rfl⟩;clear C;go_wp2;go_ret;exact⟨ret_int HM.out.symm,rfl⟩
     · have HM:Hid (makeZ b n=b*4294967296+n):=η (by unfold makeZ;rw[if_pos ⟨hb,by omega,by omega⟩]);have hm:IntKind.i64.wrap (b*4294967296)=b*4294967296:=by rw[IntKind.wrap_i64];omega
       have hm2:IntKind.i64.wrap (b*4294967296+n)=b*4294967296+n:=by rw[IntKind.wrap_i64];omega
       clear hb;go_in;go_wp2_with fail;refine C.out.mono ?_;rintro e w1 ⟨rfl,rfl⟩;clear C;go_wp2;go_ret;exact⟨ret_int HM.out.symm,rfl⟩
 · have hbf:brokerB b=false:=by simpa using hb
   rw[hbf]at C;have HM:Hid (makeZ b n=0):=η (by unfold makeZ;rw[if_neg (fun h=>hb h.1)]);clear hb hbf;go_in;go_wp2_with fail;refine C.out.mono ?_;rintro e w1 ⟨rfl,rfl⟩;clear C;go_wp2;go_ret;exact⟨ret_int HM.out.symm,rfl⟩
end Go.Proofs.YtkjpjfghklgdhaaGreat

set_option maxHeartbeats 4000000
set_option maxRecDepth 100000
namespace Go.Proofs.YtkjpjfghklgdhaaGreat
open Go.RowKit Go.Proofs.YtkjpjfghklgdhaaGreat.V
theorem remK_cut {α:Type} (key:α→Int) (t:Int) (l:List α):(placeI (fun x=>decide (key x=t)) l<0∧remK key t l=l)∨∃k:Nat,placeI (fun x=>decide (key x=t)) l=(k:Int)∧k<l.length∧remK key t l=l.take k++l.drop (k+1):=by
 unfold placeI remK;rw[List.eraseP_eq_eraseIdx];cases h:l.findIdx? (fun y=>decide (key y=t))with
 | none=>exact .inl ⟨by decide,rfl⟩
 | some k=>
  refine .inr ⟨k,rfl,?_,?_⟩
  · exact(List.findIdx?_eq_some_iff_getElem.1 h).1
  · show l.eraseIdx k=_;rw[List.eraseIdx_eq_take_drop_succ]
theorem ones_pd (L:List (Lay PendV)):∀u∈L.flatMap pendC,u.oneCell'=true:=fun u hu=>by
 obtain⟨x,-,hx⟩:=List.mem_flatMap.1 hu;simp[pendC]at hx;rcases hx with rfl | rfl<;>rfl
theorem refWithout_calls {w:World} {ao:Option Addr} {c:Nat} {l:List PendV} {L:List (Lay PendV)} (hL:L.map Lay.v=l) (hT:Tl 2 pendC w ao c L) (hI:∀x∈L,Il w x.ao x.c x.v.parts) (hl:l.length≤1000000) (t:Int):
  Calls Tryz.prog 83 #[.slice ao l.length c,.int .i64 t] w fun e w'=>∃ao' c' L',e=.returned (.slice ao' (remK PendV.tid t l).length c')∧L'.map Lay.v=remK PendV.tid t l∧(∀x∈L',x∈L)∧(∀wz,Lo w.heap.size w' wz→Tl 2 pendC wz ao c L→Tl 2 pendC wz ao' c' L')∧Turn [] w w':=by
 have C1:=η (refAtPend_calls t ⟨L,hL,hT,hI⟩);have HL:=η hL;have HT:=η hT;have hcut:=remK_cut PendV.tid t l;obtain⟨z,hz⟩:=ε (placeI (fun m:PendV=>decide (m.tid=t)) l);rw[←hz]at C1 hcut;obtain⟨R,hR⟩:=ε (remK PendV.tid t l);rw[←hR]at hcut ⊢;obtain⟨n,hn⟩:=ε l.length;have HN:=η hn;rw[←hn]at C1 hl ⊢;have HCUT:=η hcut;clear hL hT hI hz hR hcut hn;go_in;go_wp2_with fail;refine C1.out.mono ?_;rintro e w1 ⟨rfl,rfl⟩;clear C1;rcases HCUT.out with⟨h1,h2⟩ | ⟨k,rfl,h1,h2⟩
 · have d1:decide (z<0)=true:=decide_eq_true h1;have H2:=η h2;clear h2 HCUT;go_wp2_with fail;go_ret;exact⟨ao,c,L,by rw[H2.out,HN.out];rfl,by rw[H2.out];exact HL.out,fun _ h=>h,fun _ _ h=>h,Turn.refl _ _⟩
 · have d1:decide ((k:Int)<0)=false:=decide_eq_false (by omega);have hlen:L.length=n:=by rw[HN.out,←HL.out,List.length_map]
   rw[←HN.out]at h1;have H2:=η h2;obtain⟨b,off,hao,hc,hmx⟩:∃b off,ao=some ⟨b,off,none⟩∧L.length≤c∧c≤maxLen:=by
    rcases HT.out with⟨_,_,e⟩ | ⟨b,off,e1,e2,e3,_⟩
    · rw[e]at hlen;simp at hlen;omega
    · exact⟨b,off,e1,e2,e3⟩
   subst hao;have HF:=η (Src.of_tl (n:=2) (f:=pendC) (fun _=>rfl) (tl_front HT.out k))
   have HB:Hid (Src 2 w (if c=k+1 then some ⟨b,off,none⟩else some ⟨b,off+(k+1)*2,none⟩) (L.length-(k+1)) (c-(k+1)) ((L.drop (k+1)).flatMap pendC)):=η (by
    split
    · have e:L.drop (k+1)=[]:=List.drop_of_length_le (by omega);rw[e];exact .inr ⟨_,rfl,by rw[show L.length-(k+1)=0 by omega];simp,fun j u hj=>by simp at hj⟩
    · exact Src.back (n:=2) (f:=pendC) (fun _=>rfl) HT.out (k+1) _)
   obtain⟨A2,hA2⟩:∃A:Option Addr,A=(if c=k+1 then some ⟨b,off,none⟩else some ⟨b,off+(k+1)*2,none⟩):=⟨_,rfl⟩
   rw[←hA2]at HB;replace hA2:=hA2.symm;have e1:(L.take k).length=k:=by rw[List.length_take];omega
   have e2:L.length-(k+1)=n-(k+1):=by rw[hlen]
   rw[e1]at HF;rw[e2]at HB;have HLEN:=η hlen;unfold maxLen at hmx;rw[hlen]at hc;have hkc:k≤c:=by omega
   have hkc1:k+1≤c:=by omega
   have hbn:0≤(k:Int)+1∧(k:Int)+1≤(n:Int):=by omega
   have hw1:IntKind.i64.wrap ((k:Int)+1)=((k+1:Nat):Int):=by rw[IntKind.wrap_i64];omega
   clear h2 hlen e1 e2 HCUT;go_wp2_with fail;refine Pq.start [] (fun _=>True) (fun _=>True) (by kernel_rfl) ?_;have hS:(fun _:World=>True) w.drew:=trivial;have TD:=η (Turn.drew [] w);refine Pq.tq 0 (some 12) hS ?_;simp only[Act.put,σa,σz,σs];refine Pq.tq 1 (some 13) hS ?_;simp only[Act.put,σa,σz,σs];refine Pq.tq 2 (some 14) hS ?_;simp only[Act.put,σa,σz,σs];refine Pq.tq 4 (some 16) hS ?_;simp only[Act.put,σa,σz,σs];refine Pq.tq 5 (some 17) hS ?_;simp only[Act.put,σa,σz,σs];refine Pq.tq 6 (some 18) hS ?_;simp only[Act.put,σa,σz,σs];refine Pq.tq 7 (some 19) hS ?_;simp only[Act.put,σa,σz,σs];obtain⟨i0,hi,hz0,hz1,hz2⟩:=info_parts Tryz.crowPd;refine Pq.one (i:=3) (by kernel_rfl) rfl ?_;intro K hK;refine step_append_src Tryz.underlying25 hi hz0 hz1 hz2 rfl (by decide) rfl (.const (.slice none 0 0)) (.tmp 14) rfl w.heap.size (.slice none 0 0) 0 [] rfl (World.ownsRow_nil _ _ _ _) TD.out.size _ _ _ _ rfl (HF.out.turn TD.out) (ones_pd _) (by omega) (by omega) (fun v1 y1 r1 g1 o1=>?_);rw[Nat.zero_add,List.nil_append]at r1;have T1:=η (TD.out.trans (Turn.grown (l:=[]) g1 (fun k hk=>by simp[Value.ownBlock]at hk)));obtain⟨p1,k1,hv1⟩:=slice_form r1;subst hv1;have R1:=η r1;clear r1 g1 o1;refine hK _ _ trivial (.inr id) ?_;clear hK K;refine Pq.one (i:=8) (by kernel_rfl) rfl ?_;intro K hK;refine step_append_src Tryz.underlying25 hi hz0 hz1 hz2 rfl (by decide) rfl (.tmp 15) (.tmp 19) rfl w.heap.size (.slice p1 k k1) k _ rfl R1.out T1.out.size _ _ _ _ rfl (HB.out.turn T1.out) (ones_pd _) (by omega) (by omega) (fun v2 y2 r2 g2 o2=>?_);rw[←List.flatMap_append]at r2;have T2:=η (T1.out.trans (Turn.grown (l:=(Value.slice p1 k k1).ownBlock.toList) g2 (fun q hq=>.inl (by simp[hq]))) (fun q hq=>.inr (row_lo10 R1.out q (by simpa using hq))));obtain⟨p2,k2,hv2⟩:=slice_form r2;subst hv2;have R2:=η r2;clear r2 g2 o2;refine hK _ _ trivial (.inr id) ?_;clear hK K;have hS2:(fun _:World=>True) y2:=trivial;refine Pq.tq 9 (some 4) hS2 ?_;refine Pq.done (by kernel_rfl) ?_ _;have hlR:R.length=k+(n-(k+1)):=by rw[H2.out,List.length_append,List.length_take,List.length_drop,←HN.out];omega
   have HLR:=η hlR;clear hlR hi hz0 hz1 hz2 hS hS2;go_wp2_with fail;go_ret;refine⟨p2,k2,L.take k++L.drop (k+1),by rw[HLR.out];rfl,?_,fun x hx=>?_,fun wz lz _=>?_,T2.out⟩
   · rw[H2.out,←HL.out,List.map_append,List.map_take,List.map_drop]
   · rcases List.mem_append.1 hx with h | h
     · exact List.mem_of_mem_take h
     · exact List.mem_of_mem_drop h
   · refine Tl.of_own (f:=pendC) (fun _=>rfl) (B:=w.heap.size) (e:=65) ?_;rw[show(L.take k++L.drop (k+1)).length=k+(n-(k+1)) by rw[List.length_append,List.length_take,List.length_drop,HLEN.out];omega];exact lz.row R2.out (Nat.le_refl _)
end Go.Proofs.YtkjpjfghklgdhaaGreat

set_option maxHeartbeats 4000000
set_option maxRecDepth 100000
namespace Go.Proofs.YtkjpjfghklgdhaaGreat
open Go.RowKit Go.Proofs.YtkjpjfghklgdhaaGreat.V
theorem il_src {w:World} {ao:Option Addr} {c:Nat} {l:List Int} (h:Il w ao c l):Src 1 w ao l.length c (i64s l):=by
 unfold i64s;rcases h with⟨h1,h2,rfl⟩ | ⟨A,h1,h2,h3,h4,_⟩
 · exact .inl ⟨h1,rfl,h2,rfl⟩
 · refine .inr ⟨A,h1,by rw[List.length_map,Nat.mul_one],fun j u hj=>?_⟩;have hjl:j<l.length:=by have:=(List.getElem?_eq_some_iff.1 hj).1;rwa[List.length_map]at this
   have:=h4 j hjl;rw[List.getElem?_map,List.getElem?_eq_getElem hjl]at hj;injection hj with hj
   rw[this,←hj];simp[List.getD,hjl]
theorem own_turn {w0 w w':World} {B:Nat} {e:TypeId} {z n:Nat} {v:Value} {xs:List Value} (h:w.ownsRow B e z v n xs) (t:Turn [] w0 w) (hB:w0.heap.size≤B) (g:w.grownBy w' v.ownBlock):Turn [] w0 w':=
 t.trans (Turn.grown (l:=v.ownBlock.toList) g (fun q hq=>.inl (by simp[hq]))) (fun q hq=>.inr (Nat.le_trans hB (row_lo10 h q (by simpa using hq))))
theorem with_end {y:World} {B M np K k3 ka:Nat} {p pa:Option Addr} {l R:List PendV} {L:List (Lay PendV)} {t:Int} {P:List Int} (hL:L.map Lay.v=l) (hR:R=l.take K++⟨t,P⟩::l.drop K) (hnp:np=P.length) (hM:M=R.length)
  (hr:y.ownsRow B 65 2 (.slice p M k3) M ((L.take K).flatMap pendC++[.int .i64 t,.slice pa np ka]++(L.drop K).flatMap pendC)) {lo:Nat} (hB:lo≤B) (hil:∀z,Lo lo y z→Il z pa ka P):
  ∃L',L'.map Lay.v=R∧∀wz,Lo lo y wz→Tl 2 pendC wz p k3 L'∧((∀x∈L,Il wz x.ao x.c x.v.parts)→∀x∈L',Il wz x.ao x.c x.v.parts):=by
 subst hM hnp;have e:(L.take K).flatMap pendC++[.int .i64 t,.slice pa P.length ka]++(L.drop K).flatMap pendC=(L.take K++(⟨⟨t,P⟩,pa,ka⟩:Lay PendV)::L.drop K).flatMap pendC:=by
  rw[List.flatMap_append,List.flatMap_cons,List.append_assoc];rfl
 rw[e]at hr;have el:R.length=(L.take K++(⟨⟨t,P⟩,pa,ka⟩:Lay PendV)::L.drop K).length:=by
  rw[hR,←hL];simp
 rw[el]at hr;refine⟨_,?_,fun wz lz=>⟨Tl.of_own (f:=pendC) (fun _=>rfl) (lz.row hr hB),fun hI x hx=>?_⟩⟩
 · rw[hR,←hL,List.map_append,List.map_cons,List.map_take,List.map_drop]
 · rcases List.mem_append.1 hx with h | h
   · exact hI x (List.mem_of_mem_take h)
   · rcases List.mem_cons.1 h with rfl | h
     · exact hil wz lz
     · exact hI x (List.mem_of_mem_drop h)
theorem src_new {w:World} {q:Nat} {u v:Value} {T:TypeId} (h:w.heap[q]?=some (.cells #[u,v] T)):Src 2 w (some ⟨q,0,none⟩) 1 1 [u,v]:=by
 refine .inr ⟨_,rfl,rfl,fun j x hj=>?_⟩;obtain⟨c0,c1⟩:=two_of h;rw[Addr.add_lit,Nat.zero_add]
 match j,hj with
 | 0,hj=>simp at hj;subst hj;exact c0
 | 1,hj=>simp at hj;subst hj;exact c1
section
variable {P : Program} {md : Region.Mode} {ops : Array Oper} {Q : Exit → Act → World → Prop} {S1 S2 : World → Prop} {late : List Nat}
theorem Pq.two {i j k:Nat} {oi oj:Oper} {L:Array Bool} {a:Act} {w:World} (hr:Region.ready md ops L=[i,j]) (hi:ops[i]?=some oi) (hj:ops[j]?=some oj)
  (h1:∀K:Act→World→Prop,(∀b x,S1 x→(i∈late∨(S2 w→S2 x))→Pq P md ops Q S1 S2 late k (L.setIfInBounds i true) b x→K b x)→if Region.wanted oi (yielded ops a.tmps)=true then Oper.wp P oi a w K Q else K (a.put oi.dst undef) w)
  (h2:∀K:Act→World→Prop,(∀b x,S1 x→(j∈late∨(S2 w→S2 x))→Pq P md ops Q S1 S2 late k (L.setIfInBounds j true) b x→K b x)→if Region.wanted oj (yielded ops a.tmps)=true then Oper.wp P oj a w K Q else K (a.put oj.dst undef) w):
  Pq P md ops Q S1 S2 late (k+1) L a w:=by
 refine⟨fun h0=>(by rw[hr]at h0;cases h0),fun m hm=>?_⟩;rw[hr]at hm;rcases List.mem_cons.1 hm with e | hm
 · subst e;exact wpOp_step hi (fun K hK=>h1 K (fun b x h1 h2 hP=>hK b x ⟨⟨h1,h2⟩,hP⟩))
 · have e:m=j:=by simpa using hm
   subst e;exact wpOp_step hj (fun K hK=>h2 K (fun b x h1 h2 hP=>hK b x ⟨⟨h1,h2⟩,hP⟩))
end
theorem posK_stop {α:Type} {key:α→Int} {t:Int}:∀{l:List α} {x:α},l[posK key t l]?=some x→¬key x<t
 | [],x,h=>by simp at h
 | y::l,x,h=>by
  rw[posK_cons]at h;by_cases e:key y<t
  · rw[if_pos e,List.getElem?_cons_succ]at h;exact posK_stop h
  · rw[if_neg e,List.getElem?_cons_zero]at h;injection h with h
    rw[←h];exact e
theorem refWith_calls {w:World} {ao:Option Addr} {c:Nat} {l:List PendV} {L:List (Lay PendV)} (hL:L.map Lay.v=l) (hT:Tl 2 pendC w ao c L) (hl:l.length≤1000000) (t:Int) {ap:Option Addr} {cp:Nat} {P:List Int} (hp:Il w ap cp P) (hpl:P.length≤1000000):
  Calls Tryz.prog 82 #[.slice ao l.length c,.agg #[.int .i64 t,.slice ap P.length cp]] w fun e w'=>∃ao' c' L',e=.returned (.slice ao' (insK PendV.tid ⟨t,P⟩ l).length c')∧L'.map Lay.v=insK PendV.tid ⟨t,P⟩ l∧(∀wz,Lo w.heap.size w' wz→Tl 2 pendC wz ao' c' L'∧((∀x∈L,Il wz x.ao x.c x.v.parts)→∀x∈L',Il wz x.ao x.c x.v.parts))∧Turn [] w w':=by
 have HP:=η hp;have hplen:=hp.len;have HL:=η hL;have HT:=η hT;have HIN:=η (insK_pos PendV.tid ⟨t,P⟩ l);have HLO:=η (fun(i:Nat) (x:PendV) (hi:i<posK PendV.tid t l) (hx:l[i]?=some x)=>posK_lo hi hx);have hkl:=posK_le PendV.tid t l;obtain⟨K,hK⟩:=ε (posK PendV.tid t l);have HSTOP:Hid (∀x,l[K]?=some x→¬x.tid<t):=η (fun x hx=>by rw[hK]at hx;exact posK_stop hx);rw[show posK PendV.tid (PendV.tid ⟨t,P⟩) l=K from hK.symm]at HIN;rw[←hK]at HLO hkl;obtain⟨R,hR⟩:=ε (insK PendV.tid ⟨t,P⟩ l);rw[←hR]at HIN ⊢;obtain⟨n,hn⟩:=ε l.length;have HN:=η hn;obtain⟨np,hnp⟩:=ε P.length;have HNP:=η hnp;rw[←hn]at hl hkl ⊢;rw[←hnp]at hpl hplen ⊢;clear hL hT hp hK hR hn hnp;obtain⟨b,hbd⟩:=ε w.heap.size;have HBD:=η hbd;go_in;go_upto_region 1 with fail
 have hbx:=heap_alloc_new w (.cells #[.int .i64 t,.slice ap np cp] 65);have T1:=η (Turn.alloc [] w (.cells #[.int .i64 t,.slice ap np cp] 65));generalize w.alloc (.cells #[.int .i64 t,.slice ap np cp] 65)=x1 at*;rw[←hbd]at hbx ⊢;have HBX:=η hbx;clear hbx hbd;go_wp2_with fail;go_loopw [5] (fun vi wx=>∃k:Nat,k≤K∧vi=.int .i64 (k:Int)∧Turn [] x1 wx) (fun vi _=>K-(RowKit.intOf vi).toNat)
 case atStart=>exact⟨0,by omega,rfl,Turn.refl _ _⟩
 case round=>
  obtain⟨k,hk,rfl,ht⟩:=hrel;have HTW:=η ht;clear ht;go_upto_region 2 with fail
  go_cut [19] from 6 to 19 (fun v19 wx=>v19=.bool (decide (k<K))∧Turn [] wr wx)
  case first=>
   obtain⟨c0,c1⟩:=two_of (HTW.out.heap HBX.out);clear c1;replace c0:=fun p:Tw wr=>p.cell c0
   by_cases hkn:k<n
   · have hjl:k<L.length:=by rw[←List.length_map (f:=Lay.v),HL.out,←HN.out];exact hkn
     obtain⟨x,hx⟩:∃x,L[k]?=some x:=⟨_,List.getElem?_eq_getElem hjl⟩
     have hlx:l[k]?=some x.v:=by rw[←HL.out,List.getElem?_map,hx];rfl
     obtain⟨g,off,hae,hat⟩:=(HT.out.still (T1.out.trans HTW.out)).at hx;have q0:=hat 0 (.int .i64 x.v.tid) rfl;rw[Nat.add_zero]at q0;have hb2:0≤(k:Int)∧(k:Int)<(n:Int):=by omega
     have hd:decide (x.v.tid<t)=decide (k<K):=by
      by_cases hkK:k<K
      · rw[decide_eq_true hkK];exact decide_eq_true (HLO.out k x.v hkK hlx)
      · rw[decide_eq_false hkK];exact decide_eq_false (by have:=HSTOP.out x.v (by rw[show K=k by omega];exact hlx);omega)
     obtain⟨xt,hxt⟩:=ε x.v.tid;rw[←hxt]at q0 hd;obtain⟨dk,hdk⟩:=ε (decide (k<K));rw[←hdk]at hd;have HDK:=η hdk;rw[hae];have HAE:=η hae;replace q0:=fun p:Tw wr=>p.cell q0
     clear hat hx hlx hjl hxt hdk hae;refine quiet_turn (by kernel_rfl) (by kernel_rfl) ?_
     repeat (go_big_quiet_step (fail))
     refine wpQuiet_nil ?_;rintro wp ⟨⟨_,tp⟩,rfl⟩;clear q0 c0;go_wp2_with fail;rw[←HAE.out];go_meet;exact⟨by rw[←HDK.out],tp⟩
   · have hb2:¬((k:Int)<(n:Int)):=by omega
     have hdk:decide (k<K)=false:=decide_eq_false (by omega);have HDK:=η hdk;clear hdk;refine quiet_turn (by kernel_rfl) (by kernel_rfl) ?_
     repeat (go_big_quiet_step (fail))
     refine wpQuiet_nil ?_;rintro wp ⟨⟨_,tp⟩,rfl⟩;clear c0;go_wp2_with fail;go_meet;exact⟨by rw[HDK.out],tp⟩
  case rest=>
   obtain⟨rfl,ht2⟩:=hcut;have HT2:=η (HTW.out.trans ht2);clear ht2 HTW;by_cases hkK:k<K
   · have hd:decide (k<K)=true:=decide_eq_true hkK;rw[hd];go_wp2_with fail;go_roundw
     case rel=>exact⟨k+1,by omega,by go_num,HT2.out⟩
     case measure=>simp[RowKit.intOf];omega
   · have hd:decide (k<K)=false:=decide_eq_false hkK;rw[hd];obtain⟨i0,hi,hz0,hz1,hz2⟩:=info_parts Tryz.introw;have hbox:=HT2.out.heap HBX.out;have HBO:=η hbox;obtain⟨c0,c1⟩:=two_of hbox;have fr:∀j,wc.frozen? ⟨b,j,none⟩=false:=fun j=>unfrozen_of HBO.out
     clear hbox;go_upto_region 5 with(at_builtin;refine append_srcL Tryz.underlying34 hi hz0 hz1 hz2 rfl (by decide) rfl (.const (.slice none 0 0)) (.tmp 23) rfl wc.heap.size (.slice none 0 0) 0 [] rfl (World.ownsRow_nil _ _ _ _) (Nat.le_refl _) ap np cp (i64s P) rfl (by rw[HNP.out];exact(il_src HP.out).turn (T1.out.trans HT2.out)) (i64s_one P) (by omega) (by omega) ?_;intro v1 y1 r1 g1;rw[Nat.zero_add,List.nil_append]at r1;obtain⟨pa,ka,hv1⟩:=slice_form r1;subst hv1;clear c0 c1 fr;have ty:=Turn.grown (l:=[]) g1 (fun k hk=>by simp[Value.ownBlock]at hk);have TY:=η ty;have hb1:=ty.heap HBO.out;have HB1:=η hb1;obtain⟨c0,c1⟩:=two_of hb1;have fr:∀j,y1.frozen? ⟨b,j,none⟩=false:=fun j=>unfrozen_of HB1.out;have R1:=η r1;clear r1 g1 ty hb1)
     clear c0 c1 fr hi hz0 hz1 hz2;have hkK2:k=K:=by omega
     subst hkK2;have TS:=η (Turn.setCell (l:=[b]) (b:=b) (i:=1) y1 (by simp) (.slice pa np ka));have HB2:Hid ((y1.setCell ⟨b,1,none⟩ (.slice pa np ka)).heap[b]?=some (.cells #[.int .i64 t,.slice pa np ka] 65)):=η (block_set (i:=1) HB1.out _);have HLT:Hid (b<wc.heap.size):=η (lt_of_heap HBO.out);have R2:=η (ownsRow_over R1.out TS.out HLT.out);have TW2:Hid (Turn [] w (y1.setCell ⟨b,1,none⟩ (.slice pa np ka))):=η ((T1.out.trans (HT2.out.trans TY.out)).trans TS.out (fun i hi=>.inr (by have:=HBD.out;simp at hi;omega)));generalize y1.setCell ⟨b,1,none⟩ (.slice pa np ka)=y2 at*;have HSW:Hid (w.heap.size≤wc.heap.size):=η (T1.out.trans HT2.out).size
     have HIL:Hid (∀wx,Lo w.heap.size y2 wx→Il wx pa ka P):=η (fun wx tx=>by
      have r:=tx.row R2.out HSW.out;rw[HNP.out]at r
      exact own_il (row_own10 r (Nat.zero_le _)) (fun n hn=>by
       rcases HP.out with⟨_,_,e⟩ | ⟨A,_,_,_,_,hb⟩
       · rw[e]at hn;simp at hn
       · exact hb n hn))
     have HSX:Hid (∀y:World,Turn [] y2 y→y.cell? ⟨b,0,none⟩=some (.int .i64 t)∧y.cell? ⟨b,1,none⟩=some (.slice pa np ka)):=η (fun y ty=>two_of (ty.heap HB2.out));clear TS R1 R2 HB2 HB1 HLT HBO TY HT2 hd hkK HBX HLO HSTOP;have hlen:L.length=n:=by rw[HN.out,←HL.out,List.length_map]
     have HLEN:=η hlen;have TD:=η (Turn.drew [] y2);have hS:=HSX.out _ TD.out;obtain⟨i0,hi,hz0,hz1,hz2⟩:=info_parts Tryz.crowPd;have HI0:=η (And.intro hi (And.intro hz0 (And.intro hz1 hz2)));clear hi hz0 hz1 hz2;rcases HT.out with⟨rfl,rfl,hl0⟩ | ⟨g,off,rfl,hc,hmx,-⟩
     focus
      rw[hl0]at hlen;have hn0:n=0:=by simpa using hlen.symm
      have hk0:k=0:=by omega
      subst hn0 hk0;have HF:Hid (Src 2 y2 none 0 0 ((L.take 0).flatMap pendC)):=η (.inl ⟨rfl,rfl,rfl,rfl⟩);have HB:Hid (Src 2 y2 none (0-0) 0 ((L.drop 0).flatMap pendC)):=η (.inl ⟨rfl,rfl,rfl,by rw[hl0];rfl⟩);clear hlen hl0;refine Pq.start [] (fun y=>y.cell? ⟨b,0,none⟩=some (.int .i64 t)∧y.cell? ⟨b,1,none⟩=some (.slice pa np ka)) (fun _=>True) (by kernel_rfl) ?_
     rotate_left
     focus
      have HF:=η ((Src.of_tl (n:=2) (f:=pendC) (fun _=>rfl) (tl_front HT.out k)).turn TW2.out)
      have HB:Hid (Src 2 y2 (if c=k then some ⟨g,off,none⟩else some ⟨g,off+k*2,none⟩) (L.length-k) (c-k) ((L.drop k).flatMap pendC)):=η (by
       split
       · have e:L.drop k=[]:=List.drop_of_length_le (by omega);rw[e];exact .inr ⟨_,rfl,by rw[show L.length-k=0 by omega];simp,fun j u hj=>by simp at hj⟩
       · exact(Src.back (n:=2) (f:=pendC) (fun _=>rfl) HT.out k _).turn TW2.out)
      obtain⟨A2,hA2⟩:∃A:Option Addr,A=(if c=k then some ⟨g,off,none⟩else some ⟨g,off+k*2,none⟩):=⟨_,rfl⟩
      rw[←hA2]at HB;replace hA2:=hA2.symm;rw[hlen]at hc HB;rw[show(L.take k).length=k by rw[List.length_take];omega]at HF;have hkc:k≤c:=by omega
      have hbn:0≤(k:Int)∧(k:Int)≤(n:Int):=by omega
      clear hlen hmx;refine Pq.start [] (fun y=>y.cell? ⟨b,0,none⟩=some (.int .i64 t)∧y.cell? ⟨b,1,none⟩=some (.slice pa np ka)) (fun _=>True) (by kernel_rfl) ?_
     all_goals
      refine Pq.tq 0 (some 26) hS ?_;simp only[Act.put,σa,σz,σs];refine Pq.tq 1 (some 27) hS ?_;simp only[Act.put,σa,σz,σs];refine Pq.tq 2 (some 28) hS ?_;simp only[Act.put,σa,σz,σs];refine Pq.tq 4 (some 30) hS ?_;simp only[Act.put,σa,σz,σs];refine Pq.tq 7 (some 33) hS ?_;simp only[Act.put,σa,σz,σs];refine Pq.tq 8 (some 34) hS ?_;simp only[Act.put,σa,σz,σs];refine Pq.tq 9 (some 35) hS ?_;simp only[Act.put,σa,σz,σs];refine Pq.two (i:=3) (j:=5) (by kernel_rfl) rfl rfl ?_ ?_
      focus
       intro K0 hK;refine step_append_src Tryz.underlying25 HI0.out.1 HI0.out.2.1 HI0.out.2.2.1 HI0.out.2.2.2 rfl (by decide) rfl (.const (.slice none 0 0)) (.tmp 28) rfl y2.heap.size (.slice none 0 0) 0 [] rfl (World.ownsRow_nil _ _ _ _) TD.out.size _ _ _ _ rfl (HF.out.turn TD.out) (ones_pd _) (by omega) (by omega) (fun v1 y3 r1 g1 o1=>?_);rw[Nat.zero_add,List.nil_append]at r1;have T3:=η (TD.out.trans (Turn.grown (l:=[]) g1 (fun k hk=>by simp[Value.ownBlock]at hk)));obtain⟨p1,k1,hv1⟩:=slice_form r1;subst hv1;have R3:=η r1;clear r1 g1 o1;refine hK _ _ (HSX.out _ T3.out) (.inr id) ?_;clear hK K0 hS;refine Pq.one (i:=5) (by kernel_rfl) rfl ?_;intro K0 hK;rw[if_pos (by rfl)];go_simp;have T4:=η (T3.out.trans (Turn.alloc [] y3 (.cells #[.int .i64 t,.slice pa np ka] 65)));have R4:=η (ownsRow_turn R3.out (Turn.alloc [] y3 (.cells #[.int .i64 t,.slice pa np ka] 65)));have HQ:=η (heap_alloc_new y3 (.cells #[.int .i64 t,.slice pa np ka] 65));refine hK _ _ (HSX.out _ T4.out) (.inr id) ?_;clear hK K0 R3 T3;generalize y3.alloc (.cells #[.int .i64 t,.slice pa np ka] 65)=yy at*;generalize y3.heap.size=q at*
      rotate_left
      focus
       intro K0 hK;rw[if_pos (by rfl)];go_simp;have T3:=η ((Turn.alloc [] y2 (.cells #[.int .i64 t,.slice pa np ka] 65)).trans (Turn.drew [] _));have HQ0:Hid ((y2.alloc (.cells #[.int .i64 t,.slice pa np ka] 65)).drew.heap[y2.heap.size]?=some (.cells #[.int .i64 t,.slice pa np ka] 65)):=η ((Turn.drew [] _).heap (heap_alloc_new y2 (.cells #[.int .i64 t,.slice pa np ka] 65)));refine hK _ _ (HSX.out _ T3.out) (.inr id) ?_;clear hK K0 hS;generalize (y2.alloc (.cells #[.int .i64 t,.slice pa np ka] 65)).drew=y3 at*;refine Pq.one (i:=3) (by kernel_rfl) rfl ?_;intro K0 hK;refine step_append_src Tryz.underlying25 HI0.out.1 HI0.out.2.1 HI0.out.2.2.1 HI0.out.2.2.2 rfl (by decide) rfl (.const (.slice none 0 0)) (.tmp 28) rfl y2.heap.size (.slice none 0 0) 0 [] rfl (World.ownsRow_nil _ _ _ _) T3.out.size _ _ _ _ rfl (HF.out.turn T3.out) (ones_pd _) (by omega) (by omega) (fun v1 yy r1 g1 o1=>?_);rw[Nat.zero_add,List.nil_append]at r1;have tg:=Turn.grown (l:=[]) g1 (fun k hk=>by simp[Value.ownBlock]at hk);have T4:=η (T3.out.trans tg);have HQ:=η (tg.heap HQ0.out);obtain⟨p1,k1,hv1⟩:=slice_form r1;subst hv1;have R4:=η r1;refine hK _ _ (HSX.out _ T4.out) (.inr id) ?_;clear hK K0 r1 g1 o1 tg HQ0 T3
      all_goals
       refine Pq.one (i:=6) (by kernel_rfl) rfl ?_;intro K0 hK;refine step_append_src Tryz.underlying25 HI0.out.1 HI0.out.2.1 HI0.out.2.2.1 HI0.out.2.2.2 rfl (by decide) rfl (.tmp 29) (.tmp 31) rfl y2.heap.size (.slice p1 _ k1) _ _ rfl R4.out T4.out.size _ 1 1 [.int .i64 t,.slice pa np ka] rfl (src_new HQ.out) (by intro u hu;simp at hu;rcases hu with rfl | rfl<;>rfl) (by omega) (by omega) (fun v2 y5 r2 g2 o2=>?_);have T5:=η (own_turn R4.out T4.out (Nat.le_refl _) g2);obtain⟨p2,k2,hv2⟩:=slice_form r2;subst hv2;have R5:=η r2;clear r2 g2 o2;refine hK _ _ (HSX.out _ T5.out) (.inr id) ?_;clear hK K0;refine Pq.one (i:=10) (by kernel_rfl) rfl ?_;intro K0 hK;refine step_append_src Tryz.underlying25 HI0.out.1 HI0.out.2.1 HI0.out.2.2.1 HI0.out.2.2.2 rfl (by decide) rfl (.tmp 32) (.tmp 35) rfl y2.heap.size (.slice p2 _ k2) _ _ rfl R5.out T5.out.size _ _ _ _ rfl (HB.out.turn T5.out) (ones_pd _) (by omega) (by omega) (fun v3 y6 r3 g3 o3=>?_);have T6:=η (own_turn R5.out T5.out (Nat.le_refl _) g3);obtain⟨p3,k3,hv3⟩:=slice_form r3;subst hv3;have R6:=η r3;clear r3 g3 o3;have hS2:=HSX.out _ T6.out;refine hK _ _ hS2 (.inr id) ?_;clear hK K0;refine Pq.tq 11 (some 4) hS2 ?_;refine Pq.done (by kernel_rfl) ?_ _;clear hS2;go_wp2_with fail;go_ret;obtain⟨L',hv,hz⟩:=with_end HL.out HIN.out HNP.out (by rw[HIN.out,List.length_append,List.length_take,List.length_cons,List.length_drop,←HN.out];omega) R6.out TW2.out.size (fun z lz=>HIL.out z ((Lo.nil T6.out).trans lz));refine⟨p3,k3,L',congrArg (fun m=>Ending.returned (Value.slice p3 m k3)) ?_,hv,hz,TW2.out.trans T6.out⟩;rw[HIN.out,List.length_append,List.length_take,List.length_cons,List.length_drop,←HN.out];omega
end Go.Proofs.YtkjpjfghklgdhaaGreat

set_option maxHeartbeats 8000000
set_option maxRecDepth 100000
namespace Go.Proofs.YtkjpjfghklgdhaaGreat
open Go.RowKit Go.Proofs.YtkjpjfghklgdhaaGreat.V
theorem left_join (t:Int) (y:Bool):∀a b:List MsgV,left t y (a++b)=left t y a++left t y b
 | [],b=>rfl
 | x::a,b=>by
  have ih:=left_join t y a b;have e:∀l,left t y (x::l)=if x.by_=t then (if y=true then left t y l else back x::left t y l)else x::left t y l:=fun l=>rfl
  rw[List.cons_append,e,e,ih];split
  · split<;>rfl
  · rfl
theorem left_step {t:Int} {y:Bool} {l:List MsgV} {k:Nat} {x:MsgV} (h:l[k]?=some x):left t y (l.take (k+1))=left t y (l.take k)++(if x.by_=t then (if y=true then []else [back x])else [x]):=by
 rw[List.take_add_one,h,left_join];rfl
theorem left_most (t:Int) (y:Bool):∀l:List MsgV,(left t y l).length≤l.length
 | []=>Nat.le_refl _
 | x::l=>by
  have ih:=left_most t y l;unfold left;split
  · split
    · rw[List.length_cons];omega
    · rw[List.length_cons,List.length_cons];omega
  · rw[List.length_cons,List.length_cons];omega
theorem ones_end (L:List EndV):∀u∈L.flatMap endC,u.oneCell'=true:=fun u hu=>by
 obtain⟨x,-,hx⟩:=List.mem_flatMap.1 hu;exact one_end x u hx
theorem ones_br (L:List (Lay BrV)):∀u∈L.flatMap brC,u.oneCell'=true:=fun u hu=>by
 obtain⟨x,-,hx⟩:=List.mem_flatMap.1 hu;exact one_br x u hx
theorem src_msg {w:World} {q:Nat} {m:MsgV} (h:w.heap[q]?=some (.cells #[.int .i64 m.id,.string m.queue,.string m.body,.int .i64 m.seq,.int .i64 m.count,.int .i64 m.by_] 49)):Src 6 w (some ⟨q,0,none⟩) 1 1 (msgC m):=by
 refine .inr ⟨_,rfl,rfl,fun j u hj=>?_⟩;rw[Addr.add_lit,Nat.zero_add,cell_of_row _ _ _ _ _ _ h];simpa[msgC]using hj
theorem refEnded_calls {w:World} {a:Ads} {s:StV} {LW:List (Lay BrV)} {LO LN:List (Lay PendV)} (h:StLy w a s LW LO LN) (hm:MayP s) (t:Int) (y:Bool) (P:List (ByteArray×ByteArray)) {ap:Option Addr} {cp:Nat} (hp:Ps w ap cp P) (hpl:P.length≤1000):
  Calls Tryz.prog 81 #[.agg (s.cells a),.int .i64 t,.bool y,.slice ap P.length cp] w fun e w'=>∃a' LW' LO',e=.returned (.agg ((endS s t y P).cells a'))∧Up w w' a s LW LO LN a' (endS s t y P) LW' LO' LN∧Turn [] w w':=by
 have HMS:=η h.ms;have HS:=η h;have HPS:=η hp;have HM:=η hm;have hn72:=hm.lms;have hbr:∀m∈s.ms,0≤m.count∧m.count≤1000:=fun m q=>⟨(hm.ms m q).2.2.2.2.2.2.1,(hm.ms m q).2.2.2.2.2.2.2.1⟩
 have HCO:=η hbr;unfold StV.cells;obtain⟨n,hn⟩:=ε s.ms.length;obtain⟨nw,hnw⟩:=ε s.waits.length;obtain⟨ne,hne⟩:=ε s.ends.length;obtain⟨no,hno⟩:=ε s.open_.length;obtain⟨nn,hnn⟩:=ε s.noes.length;obtain⟨np,hnp⟩:=ε P.length;have HN:=η hn;have HNW:=η hnw;have HNE:=η hne;have HNO:=η hno;have HNN:=η hnn;have HNP:=η hnp;rw[←hn,←hnw,←hne,←hno,←hnn,←hnp];rw[←hn]at hn72;rw[←hnp]at hpl;clear h hm hp hbr hn hnw hne hno hnn hnp;obtain⟨b,hbd⟩:=ε w.heap.size;have HBD:=η hbd;go_in;go_upto_region 1 with fail
 have hb1:=(Turn.alloc [] (w.alloc (.cells #[.int .i64 s.broker,.int .i64 s.nextId,.int .i64 s.nextSeq,.int .i64 s.tx,.slice a.m n a.cm,.slice a.w nw a.cw,.slice a.e ne a.ce,.slice a.o no a.co,.slice a.n nn a.cn] 27)) (.cells #[.int .i64 0,.int .i64 0,.int .i64 0,.int .i64 0,.slice none 0 0,.slice none 0 0,.slice none 0 0,.slice none 0 0,.slice none 0 0] 27)).heap (heap_alloc_new w (.cells #[.int .i64 s.broker,.int .i64 s.nextId,.int .i64 s.nextSeq,.int .i64 s.tx,.slice a.m n a.cm,.slice a.w nw a.cw,.slice a.e ne a.ce,.slice a.o no a.co,.slice a.n nn a.cn] 27));have hb2:=heap_alloc_new (w.alloc (.cells #[.int .i64 s.broker,.int .i64 s.nextId,.int .i64 s.nextSeq,.int .i64 s.tx,.slice a.m n a.cm,.slice a.w nw a.cw,.slice a.e ne a.ce,.slice a.o no a.co,.slice a.n nn a.cn] 27)) (.cells #[.int .i64 0,.int .i64 0,.int .i64 0,.int .i64 0,.slice none 0 0,.slice none 0 0,.slice none 0 0,.slice none 0 0,.slice none 0 0] 27);rw[show(w.alloc (.cells #[.int .i64 s.broker,.int .i64 s.nextId,.int .i64 s.nextSeq,.int .i64 s.tx,.slice a.m n a.cm,.slice a.w nw a.cw,.slice a.e ne a.ce,.slice a.o no a.co,.slice a.n nn a.cn] 27)).heap.size=w.heap.size+1 by simp]at hb2;have T0:=η ((Turn.alloc [] w (.cells #[.int .i64 s.broker,.int .i64 s.nextId,.int .i64 s.nextSeq,.int .i64 s.tx,.slice a.m n a.cm,.slice a.w nw a.cw,.slice a.e ne a.ce,.slice a.o no a.co,.slice a.n nn a.cn] 27)).trans (Turn.alloc [] (w.alloc (.cells #[.int .i64 s.broker,.int .i64 s.nextId,.int .i64 s.nextSeq,.int .i64 s.tx,.slice a.m n a.cm,.slice a.w nw a.cw,.slice a.e ne a.ce,.slice a.o no a.co,.slice a.n nn a.cn] 27)) (.cells #[.int .i64 0,.int .i64 0,.int .i64 0,.int .i64 0,.slice none 0 0,.slice none 0 0,.slice none 0 0,.slice none 0 0,.slice none 0 0] 27)));generalize (w.alloc (.cells #[.int .i64 s.broker,.int .i64 s.nextId,.int .i64 s.nextSeq,.int .i64 s.tx,.slice a.m n a.cm,.slice a.w nw a.cw,.slice a.e ne a.ce,.slice a.o no a.co,.slice a.n nn a.cn] 27)).alloc (.cells #[.int .i64 0,.int .i64 0,.int .i64 0,.int .i64 0,.slice none 0 0,.slice none 0 0,.slice none 0 0,.slice none 0 0,.slice none 0 0] 27)=x0 at*;rw[←hbd]at hb1 hb2 ⊢;have HB1:=η hb1;have HB2:=η hb2;clear hb1 hb2 hbd;obtain⟨i0,hi,hz0,hz1,hz2⟩:=info_parts Tryz.crowMsg;have HI0:=η (And.intro hi (And.intro hz0 (And.intro hz1 hz2)));clear hi hz0 hz1 hz2;go_wp2_with fail;go_loopw [10,9] (fun vi vv wx=>∃(k:Nat) (u:Value) (m:Nat),k≤n∧vi=.int .i64 (k:Int)∧u=vv∧m=(left t y (s.ms.take k)).length∧wx.ownsRow x0.heap.size 49 6 u m ((left t y (s.ms.take k)).flatMap msgC)∧Turn [] x0 wx) (fun vi _ _=>n-(RowKit.intOf vi).toNat)
 case atStart=>exact⟨0,_,0,by omega,rfl,rfl,rfl,World.ownsRow_nil _ _ _ _,Turn.refl _ _⟩
 case round=>
  obtain⟨k,u,m,hk,rfl,rfl,hml,hrow,ht⟩:=hrel;have HT:=η ht;have HR:=η hrow;have hm72:m≤72:=by
   have:=left_most t y (s.ms.take k);rw[List.length_take]at this;omega
  have HML:=η hml;clear hrow ht hml;obtain⟨c0,c1,c2,c3,c4,c5,c6,c7,c8⟩:=nine_of (HT.out.heap HB1.out);by_cases hkn:k<n
  · have hkl:k<s.ms.length:=by rw[←HN.out];exact hkn
    obtain⟨x,hx⟩:∃x,s.ms[k]?=some x:=⟨_,List.getElem?_eq_getElem hkl⟩
    obtain⟨g,off,hae,hat⟩:=(HMS.out.still (T0.out.trans HT.out)).at hx;have a0:a.m=some ⟨g,off,none⟩:=hae;have q0:=hat 0 (.int .i64 x.id) rfl;have q1:=hat 1 (.string x.queue) rfl;have q2:=hat 2 (.string x.body) rfl;have q3:=hat 3 (.int .i64 x.seq) rfl;have q4:=hat 4 (.int .i64 x.count) rfl;have q5:=hat 5 (.int .i64 x.by_) rfl;rw[Nat.add_zero]at q0;have hco:=HCO.out x (List.mem_of_getElem? hx);have HX:=η (left_step (t:=t) (y:=y) hx);have hb2:0≤(k:Int)∧(k:Int)<(n:Int):=by omega
    rw[a0]at c4;clear hat hae hx hkl a0;obtain⟨i1,qu,bd,sq,ct,by1⟩:=x;dsimp only at q0 q1 q2 q3 q4 q5 HX hco;by_cases hbt:by1=t
    · cases y with
      | true=>
       have HF:Hid (left t true (s.ms.take (k+1))=left t true (s.ms.take k)):=η (by rw[HX.out,if_pos hbt,if_pos rfl,List.append_nil]);have heq:(by1==t)=true:=by simpa using hbt
       clear HX hbt;go_wp2_with fail;go_roundw
       case rel=>exact⟨k+1,_,m,by omega,by go_num,rfl,by rw[HF.out];exact HML.out,by rw[HF.out];exact ownsRow_turn HR.out (Turn.alloc [] wr _),HT.out.trans (Turn.alloc [] wr _)⟩
       case measure=>simp[RowKit.intOf];omega
      | false=>
       have heq:(by1==t)=true:=by simpa using hbt
       have HF:Hid (left t false (s.ms.take (k+1))=left t false (s.ms.take k)++[⟨i1,qu,bd,sq,min 1000 (ct+1),0⟩]):=η (by rw[HX.out,if_pos hbt,if_neg (by simp)];rfl);have hw1:IntKind.i64.wrap (ct+1)=ct+1:=by rw[IntKind.wrap_i64];omega
       clear HX hbt;have T2:=η ((Turn.alloc [] wr (.cells #[.int .i64 i1,.string qu,.string bd,.int .i64 sq,.int .i64 (min 1000 (ct+1)),.int .i64 0] 49)).trans (Turn.alloc [] (wr.alloc (.cells #[.int .i64 i1,.string qu,.string bd,.int .i64 sq,.int .i64 (min 1000 (ct+1)),.int .i64 0] 49)) (.cells #[.int .i64 i1,.string qu,.string bd,.int .i64 sq,.int .i64 (min 1000 (ct+1)),.int .i64 0] 49)));have R2:=η (ownsRow_turn HR.out T2.out)
       have HQ:Hid (((wr.alloc (.cells #[.int .i64 i1,.string qu,.string bd,.int .i64 sq,.int .i64 (min 1000 (ct+1)),.int .i64 0] 49)).alloc (.cells #[.int .i64 i1,.string qu,.string bd,.int .i64 sq,.int .i64 (min 1000 (ct+1)),.int .i64 0] 49)).heap[wr.heap.size+1]?=some (.cells #[.int .i64 i1,.string qu,.string bd,.int .i64 sq,.int .i64 (min 1000 (ct+1)),.int .i64 0] 49)):=η (by
        have:=heap_alloc_new (wr.alloc (.cells #[.int .i64 i1,.string qu,.string bd,.int .i64 sq,.int .i64 (min 1000 (ct+1)),.int .i64 0] 49)) (.cells #[.int .i64 i1,.string qu,.string bd,.int .i64 sq,.int .i64 (min 1000 (ct+1)),.int .i64 0] 49)
        rwa[show(wr.alloc (.cells #[.int .i64 i1,.string qu,.string bd,.int .i64 sq,.int .i64 (min 1000 (ct+1)),.int .i64 0] 49)).heap.size=wr.heap.size+1 by simp]at this)
       have SB:=η (HT.out.trans T2.out).size;go_wp2_with(at_builtin;refine append_srcL Tryz.underlying22 HI0.out.1 HI0.out.2.1 HI0.out.2.2.1 HI0.out.2.2.2 rfl (by decide) rfl (.tmp 38) (.tmp 40) rfl x0.heap.size u m _ rfl R2.out SB.out _ 1 1 (msgC (⟨i1,qu,bd,sq,min 1000 (ct+1),0⟩:MsgV)) rfl (src_msg (m:=(⟨i1,qu,bd,sq,min 1000 (ct+1),0⟩:MsgV)) HQ.out) (one_msg (⟨i1,qu,bd,sq,min 1000 (ct+1),0⟩:MsgV)) (by omega) (by omega) ?_;intro v1 y1 r1 g1);have T3:=η (own_turn R2.out (HT.out.trans T2.out) (Nat.le_refl _) g1);have R3:=η r1;clear r1 g1;go_wp2_with fail;go_roundw
       case rel=>exact⟨k+1,_,m+1,by omega,by go_num,rfl,by rw[HF.out,List.length_append,←HML.out];rfl,by rw[HF.out,List.flatMap_append,show[(⟨i1,qu,bd,sq,min 1000 (ct+1),0⟩:MsgV)].flatMap msgC=msgC (⟨i1,qu,bd,sq,min 1000 (ct+1),0⟩:MsgV) by simp];exact R3.out,T3.out⟩
       case measure=>simp[RowKit.intOf];omega
    · have hne:(by1==t)=false:=by simpa using hbt
      have HF:Hid (left t y (s.ms.take (k+1))=left t y (s.ms.take k)++[⟨i1,qu,bd,sq,ct,by1⟩]):=η (by rw[HX.out,if_neg hbt]);clear HX hbt;have T2:=η ((Turn.alloc [] wr (.cells #[.int .i64 i1,.string qu,.string bd,.int .i64 sq,.int .i64 ct,.int .i64 by1] 49)).trans (Turn.alloc [] (wr.alloc (.cells #[.int .i64 i1,.string qu,.string bd,.int .i64 sq,.int .i64 ct,.int .i64 by1] 49)) (.cells #[.int .i64 i1,.string qu,.string bd,.int .i64 sq,.int .i64 ct,.int .i64 by1] 49)));have R2:=η (ownsRow_turn HR.out T2.out)
      have HQ:Hid (((wr.alloc (.cells #[.int .i64 i1,.string qu,.string bd,.int .i64 sq,.int .i64 ct,.int .i64 by1] 49)).alloc (.cells #[.int .i64 i1,.string qu,.string bd,.int .i64 sq,.int .i64 ct,.int .i64 by1] 49)).heap[wr.heap.size+1]?=some (.cells #[.int .i64 i1,.string qu,.string bd,.int .i64 sq,.int .i64 ct,.int .i64 by1] 49)):=η (by
       have:=heap_alloc_new (wr.alloc (.cells #[.int .i64 i1,.string qu,.string bd,.int .i64 sq,.int .i64 ct,.int .i64 by1] 49)) (.cells #[.int .i64 i1,.string qu,.string bd,.int .i64 sq,.int .i64 ct,.int .i64 by1] 49)
       rwa[show(wr.alloc (.cells #[.int .i64 i1,.string qu,.string bd,.int .i64 sq,.int .i64 ct,.int .i64 by1] 49)).heap.size=wr.heap.size+1 by simp]at this)
      have SB:=η (HT.out.trans T2.out).size;go_wp2_with(at_builtin;refine append_srcL Tryz.underlying22 HI0.out.1 HI0.out.2.1 HI0.out.2.2.1 HI0.out.2.2.2 rfl (by decide) rfl (.tmp 38) (.tmp 40) rfl x0.heap.size u m _ rfl R2.out SB.out _ 1 1 (msgC (⟨i1,qu,bd,sq,ct,by1⟩:MsgV)) rfl (src_msg (m:=(⟨i1,qu,bd,sq,ct,by1⟩:MsgV)) HQ.out) (one_msg (⟨i1,qu,bd,sq,ct,by1⟩:MsgV)) (by omega) (by omega) ?_;intro v1 y1 r1 g1);have T3:=η (own_turn R2.out (HT.out.trans T2.out) (Nat.le_refl _) g1);have R3:=η r1;clear r1 g1;go_wp2_with fail;go_roundw
      case rel=>exact⟨k+1,_,m+1,by omega,by go_num,rfl,by rw[HF.out,List.length_append,←HML.out];rfl,by rw[HF.out,List.flatMap_append,show[(⟨i1,qu,bd,sq,ct,by1⟩:MsgV)].flatMap msgC=msgC (⟨i1,qu,bd,sq,ct,by1⟩:MsgV) by simp];exact R3.out,T3.out⟩
      case measure=>simp[RowKit.intOf];omega
  · have hkk:k=n:=by omega
    have HTK:Hid (s.ms.take k=s.ms):=η (List.take_of_length_le (by rw[hkk,HN.out];exact Nat.le_refl _));have hr2:=HR.out;have hml2:=HML.out;rw[HTK.out]at hr2 hml2;subst hkk;obtain⟨K2,hK2⟩:=ε (if y=true then np else 0);have HK2:=η hK2;have hk2n:K2≤1000:=by rw[hK2];split<;>omega
    have R0:=η hr2;have ML0:=η hml2;clear HTK hr2 hml2 hK2 HR HML c0 c1 c2 c3 c4 c5 c6 c7 c8;have hb2:¬((k:Int)<(k:Int)):=by omega
    obtain⟨c0,c1,c2,c3,c4,c5,c6,c7,c8⟩:=nine_of (HT.out.heap HB1.out);go_wp2_with fail;clear c0 c1 c2 c3 c4 c5 c6 c7 c8;have HXB:Hid (b+1<x0.heap.size):=η (lt_of_heap HB2.out);have HBM:=η (HT.out.heap HB1.out);have HBN:=η (HT.out.heap HB2.out);have TT0:=η (T0.out.trans HT.out);clear HB1 HB2;go_loopw [12,9] (fun vi vv wx=>∃(j:Nat) (u:Value),j≤K2∧vi=.int .i64 (j:Int)∧u=vv∧wx.ownsRow x0.heap.size 49 6 u (m+j) ((left t y s.ms++come s.broker s.nextId s.nextSeq (P.take j)).flatMap msgC)∧wx.heap[b]?=some (.cells #[.int .i64 s.broker,.int .i64 (s.nextId+(j:Int)),.int .i64 (s.nextSeq+(j:Int)),.int .i64 s.tx,.slice a.m k a.cm,.slice a.w nw a.cw,.slice a.e ne a.ce,.slice a.o no a.co,.slice a.n nn a.cn] 27)∧wx.heap[b+1]?=some (.cells #[.int .i64 0,.int .i64 0,.int .i64 0,.int .i64 0,.slice none 0 0,.slice none 0 0,.slice none 0 0,.slice none 0 0,.slice none 0 0] 27)∧x0.heap.size≤wx.heap.size∧Turn [] w wx) (fun vi _ _=>K2-(RowKit.intOf vi).toNat)
    case atStart=>
     refine⟨0,u,by omega,rfl,rfl,?_,?_,HBN.out,HT.out.size,TT0.out⟩
     · have:=R0.out;simpa[come]using this
     · have:=HBM.out;simpa using this
    case round=>
     obtain⟨j,u2,hj,rfl,rfl,hrow,hbx,hbz,hxs,ht⟩:=hrel;have HR:=η hrow;have HBJ:=η hbx;have HBZ:=η hbz;have HT2:=η ht;have HXS:=η hxs;clear hrow hbx hbz hxs ht;go_upto_region 11 with fail
     go_cut [48] from 42 to 48 (fun v48 wx=>v48=.bool (decide (j<K2))∧wx=wr)
     case first=>
      have h2:=HK2.out;cases y with
      | false=>
       have e:decide (j<K2)=false:=decide_eq_false (by simp at h2;omega);have E:=η e;clear e h2;go_wp2_with fail;go_meet;exact⟨by rw[E.out],by trivial⟩
      | true=>
       have h3:K2=np:=by simpa using h2
       have E:=η (show decide (j<K2)=decide (j<np) by rw[h3]);clear h2 h3;by_cases hjn:j<np
       · have hb3:(j:Int)<(np:Int):=by omega
         go_wp2_with fail;go_meet;exact⟨by rw[E.out,decide_eq_true hjn],by trivial⟩
       · have hb3:¬((j:Int)<(np:Int)):=by omega
         go_wp2_with fail;go_meet;exact⟨by rw[E.out,decide_eq_false hjn],by trivial⟩
     case rest=>
      obtain⟨rfl,hwc⟩:=hcut;subst hwc;by_cases hjK:j<K2
      · have hd:decide (j<K2)=true:=decide_eq_true hjK;rw[hd];have hy:y=true:=by
         cases y with
         | true=>rfl
         | false=>(have h2:=HK2.out;simp at h2;omega)
        subst hy;have hjn:j<np:=by have h2:=HK2.out;simp at h2;omega
        have hjl:j<P.length:=by rw[←HNP.out];exact hjn
        obtain⟨bq,oq,hap,hbq,hat⟩:=HPS.out.at (by intro e;rw[e]at hjl;simp at hjl);have HBQ:=η hbq;have p0:=HT2.out.cell (hat j hjl).1;have p1:=HT2.out.cell (hat j hjl).2.1;have HAP:=η hap;have hnx:=come_take s.broker P s.nextId s.nextSeq j (P.getD j putNone) (by simp[List.getD,hjl]);have h1:=HM.out.id1;have h2:=HM.out.id2;have h3:=HM.out.seq1;have h4:=HM.out.seq2;obtain⟨pq,hpq⟩:=ε ((P.getD j putNone).1);obtain⟨pb,hpb⟩:=ε ((P.getD j putNone).2);have CM:=refMake_calls s.broker (s.nextId+(j:Int));obtain⟨mk,hmk⟩:=ε (makeZ s.broker (s.nextId+(j:Int)));rw[←hpq]at p0 hnx;rw[←hpb]at p1 hnx;rw[←hmk]at CM hnx;obtain⟨ni,hni⟩:=ε (s.nextId+(j:Int));obtain⟨nq,hnq⟩:=ε (s.nextSeq+(j:Int));have hwi:IntKind.i64.wrap (ni+1)=ni+1:=by rw[IntKind.wrap_i64];omega
        have hwq:IntKind.i64.wrap (nq+1)=nq+1:=by rw[IntKind.wrap_i64];omega
        rw[←hni]at CM HBJ;rw[←hnq]at hnx HBJ;have HNI:=η hni;have HNQ:=η hnq;have CM:=η CM;have HNX:=η hnx;obtain⟨c0,c1,c2,c3,c4,c5,c6,c7,c8⟩:=nine_of HBJ.out;have hS0:Hid (wc.cell? ⟨b,0,none⟩=some (.int .i64 s.broker)∧wc.cell? ⟨b,1,none⟩=some (.int .i64 ni)∧wc.cell? ⟨b,2,none⟩=some (.int .i64 nq)∧wc.cell? ⟨bq,oq+j*2,none⟩=some (.string pq)∧wc.cell? ⟨bq,oq+j*2+1,none⟩=some (.string pb)):=η ⟨c0,c1,c2,p0,p1⟩;rw[hap];clear hap hat hbq p0 p1 hnx h1 h2 h3 h4 hpq hpb hmk hni hnq c0 c1 c2 c3 c4 c5 c6 c7 c8 hd hjl;have hb4:0≤(j:Int)∧(j:Int)<(np:Int):=by omega
        go_upto_region 13 with fail
        have TD:=η (Turn.drew [] wc);refine Pq.start [] (fun y=>y.cell? ⟨b,0,none⟩=some (.int .i64 s.broker)∧y.cell? ⟨b,1,none⟩=some (.int .i64 ni)∧y.cell? ⟨b,2,none⟩=some (.int .i64 nq)∧y.cell? ⟨bq,oq+j*2,none⟩=some (.string pq)∧y.cell? ⟨bq,oq+j*2+1,none⟩=some (.string pb)) (fun _=>True) (by kernel_rfl) ?_;have hS:(fun y:World=>y.cell? ⟨b,0,none⟩=some (.int .i64 s.broker)∧y.cell? ⟨b,1,none⟩=some (.int .i64 ni)∧y.cell? ⟨b,2,none⟩=some (.int .i64 nq)∧y.cell? ⟨bq,oq+j*2,none⟩=some (.string pq)∧y.cell? ⟨bq,oq+j*2+1,none⟩=some (.string pb)) wc.drew:=by
         obtain⟨q0,q1,q2,q3,q4⟩:=hS0.out;exact⟨TD.out.cell q0,TD.out.cell q1,TD.out.cell q2,TD.out.cell q3,TD.out.cell q4⟩
        dsimp only at hS;refine Pq.tq 0 (some 51) hS ?_;simp only[Act.put,σa,σz,σs];refine Pq.tq 1 (some 52) hS ?_;simp only[Act.put,σa,σz,σs];refine Pq.tq 2 (some 53) hS ?_;simp only[Act.put,σa,σz,σs];refine Pq.tq 3 (some 54) hS ?_;simp only[Act.put,σa,σz,σs];refine Pq.tq 4 (some 55) hS ?_;simp only[Act.put,σa,σz,σs];refine Pq.tq 6 (some 57) hS ?_;simp only[Act.put,σa,σz,σs];refine Pq.tq 7 (some 58) hS ?_;simp only[Act.put,σa,σz,σs];refine Pq.tq 8 (some 59) hS ?_;simp only[Act.put,σa,σz,σs];refine Pq.tq 9 (some 60) hS ?_;simp only[Act.put,σa,σz,σs];refine Pq.tq 10 (some 61) hS ?_;simp only[Act.put,σa,σz,σs];refine Pq.tq 11 (some 62) hS ?_;simp only[Act.put,σa,σz,σs];refine Pq.tq 12 (some 63) hS ?_;simp only[Act.put,σa,σz,σs];refine Pq.tq 13 (some 64) hS ?_;simp only[Act.put,σa,σz,σs];refine Pq.tq 14 (some 65) hS ?_;simp only[Act.put,σa,σz,σs];refine Pq.tq 15 (some 66) hS ?_;simp only[Act.put,σa,σz,σs];refine Pq.tq 16 (some 67) hS ?_;simp only[Act.put,σa,σz,σs];refine Pq.tq 17 (some 68) hS ?_;simp only[Act.put,σa,σz,σs];refine Pq.one (i:=5) (by kernel_rfl) rfl ?_;intro K0 hK;rw[if_pos (by rfl)];go_simp;refine(CM.out _).mono ?_;rintro e z1 ⟨rfl,rfl⟩;refine hK _ _ hS (.inr id) ?_;clear hK K0 CM;refine Pq.tq 18 (some 69) hS ?_;simp only[Act.put,σa,σz,σs];refine Pq.one (i:=19) (by kernel_rfl) rfl ?_;intro K0 hK;rw[if_pos (by rfl)];go_simp;have T3:=η ((Turn.alloc [] wc (.cells #[.int .i64 mk,.string pq,.string pb,.int .i64 nq,.int .i64 0,.int .i64 0] 49)).trans (Turn.drew [] _));have HQ:Hid ((wc.alloc (.cells #[.int .i64 mk,.string pq,.string pb,.int .i64 nq,.int .i64 0,.int .i64 0] 49)).drew.heap[wc.heap.size]?=some (.cells #[.int .i64 mk,.string pq,.string pb,.int .i64 nq,.int .i64 0,.int .i64 0] 49)):=η ((Turn.drew [] _).heap (heap_alloc_new wc (.cells #[.int .i64 mk,.string pq,.string pb,.int .i64 nq,.int .i64 0,.int .i64 0] 49)));have hS3:(fun y:World=>y.cell? ⟨b,0,none⟩=some (.int .i64 s.broker)∧y.cell? ⟨b,1,none⟩=some (.int .i64 ni)∧y.cell? ⟨b,2,none⟩=some (.int .i64 nq)∧y.cell? ⟨bq,oq+j*2,none⟩=some (.string pq)∧y.cell? ⟨bq,oq+j*2+1,none⟩=some (.string pb)) (wc.alloc (.cells #[.int .i64 mk,.string pq,.string pb,.int .i64 nq,.int .i64 0,.int .i64 0] 49)).drew:=by
         obtain⟨q0,q1,q2,q3,q4⟩:=hS0.out;exact⟨T3.out.cell q0,T3.out.cell q1,T3.out.cell q2,T3.out.cell q3,T3.out.cell q4⟩
        refine hK _ _ hS3 (.inr id) ?_;clear hK K0 hS;have R3:=η (ownsRow_turn HR.out T3.out);have HBJ3:=η (T3.out.heap HBJ.out);have HBZ3:=η (T3.out.heap HBZ.out);have HT3:=η (HT2.out.trans T3.out);have HX0:Hid (b+1<x0.heap.size):=HXB;have SB3:Hid (x0.heap.size≤(wc.alloc (.cells #[.int .i64 mk,.string pq,.string pb,.int .i64 nq,.int .i64 0,.int .i64 0] 49)).drew.heap.size):=η (Nat.le_trans HXS.out T3.out.size);generalize (wc.alloc (.cells #[.int .i64 mk,.string pq,.string pb,.int .i64 nq,.int .i64 0,.int .i64 0] 49)).drew=y3 at*;generalize wc.heap.size=qn at*;refine Pq.one (i:=20) (by kernel_rfl) rfl ?_;intro K0 hK;refine step_append_src Tryz.underlying22 HI0.out.1 HI0.out.2.1 HI0.out.2.2.1 HI0.out.2.2.2 rfl (by decide) rfl (.tmp 51) (.tmp 70) rfl x0.heap.size u2 (m+j) _ rfl R3.out SB3.out _ 1 1 (msgC (⟨mk,pq,pb,nq,0,0⟩:MsgV)) rfl (src_msg (m:=(⟨mk,pq,pb,nq,0,0⟩:MsgV)) HQ.out) (one_msg (⟨mk,pq,pb,nq,0,0⟩:MsgV)) (by omega) (by omega) (fun v4 y4 r4 g4 o4=>?_);have TG:=η (Turn.grown (l:=u2.ownBlock.toList) g4 (fun q hq=>.inl (by simp[hq])));have hnb:∀q,q<x0.heap.size→q∉u2.ownBlock.toList:=fun q h1 hq=>by have:=row_lo10 R3.out q (by simpa using hq);omega
        have h0b:b<x0.heap.size:=by have:=HX0.out;omega
        have h0q:bq<x0.heap.size:=Nat.lt_of_lt_of_le HBQ.out T0.out.size;have HB4:=η (TG.out.heap HBJ3.out (hnb b h0b));have HZ4:=η (TG.out.heap HBZ3.out (hnb (b+1) HX0.out));have HT4:=η (HT3.out.trans TG.out (fun q hq=>.inr (Nat.le_trans T0.out.size (row_lo10 R3.out q (by simpa using hq)))));have XS4:=η (Nat.le_trans SB3.out TG.out.size);have R4:=η r4;have hS4:(fun y:World=>y.cell? ⟨b,0,none⟩=some (.int .i64 s.broker)∧y.cell? ⟨b,1,none⟩=some (.int .i64 ni)∧y.cell? ⟨b,2,none⟩=some (.int .i64 nq)∧y.cell? ⟨bq,oq+j*2,none⟩=some (.string pq)∧y.cell? ⟨bq,oq+j*2+1,none⟩=some (.string pb)) y4:=by
         obtain⟨q0,q1,q2,q3,q4⟩:=hS3;exact⟨TG.out.cell q0 (hnb b h0b),TG.out.cell q1 (hnb b h0b),TG.out.cell q2 (hnb b h0b),TG.out.cell q3 (hnb bq h0q),TG.out.cell q4 (hnb bq h0q)⟩
        have HOB:=η h0b;clear r4 g4 o4 hnb h0b h0q hS3;refine hK _ _ hS4 (.inr id) ?_;clear hK K0;refine Pq.tq 21 (some 9) hS4 ?_;refine Pq.done (by kernel_rfl) ?_ _;clear hS4 R3 HBJ3 HBZ3 HT3 SB3 TG HQ T3;obtain⟨c0,c1,c2,c3,c4,c5,c6,c7,c8⟩:=nine_of HB4.out;have fr:∀j,y4.frozen? ⟨b,j,none⟩=false:=fun j=>unfrozen_of HB4.out
        go_wp2_with fail;rw[←HAP.out];clear c0 c1 c2 c3 c4 c5 c6 c7 c8 fr;go_roundw
        case rel=>
         have TB:=η ((Turn.setCell (l:=[b]) (b:=b) (i:=1) y4 (by simp) (.int .i64 (ni+1))).trans (Turn.setCell (l:=[b]) (b:=b) (i:=2) (y4.setCell ⟨b,1,none⟩ (.int .i64 (ni+1))) (by simp) (.int .i64 (nq+1))) (fun q hq=>.inl hq));refine⟨v4,.int .i64 ((j+1:Nat):Int),⟨j+1,by omega,rfl,?_,?_,?_,XS4.out,?_⟩,rfl,rfl,by go_num⟩
         · have r:=ownsRow_over R4.out TB.out HOB.out;rw[HNX.out,List.flatMap_append,show[(⟨mk,pq,pb,nq,0,0⟩:MsgV)].flatMap msgC=msgC (⟨mk,pq,pb,nq,0,0⟩:MsgV) by simp,←List.append_assoc,←List.flatMap_append];exact r
         · have r:=block_set (i:=2) (block_set (i:=1) HB4.out (.int .i64 (ni+1))) (.int .i64 (nq+1));rw[show s.nextId+((j+1:Nat):Int)=ni+1 by rw[HNI.out];omega,show s.nextSeq+((j+1:Nat):Int)=nq+1 by rw[HNQ.out];omega];exact r
         · exact TB.out.heap HZ4.out
         · exact HT4.out.trans TB.out (fun q hq=>.inr (by simp at hq;have:=HBD.out;omega))
        case measure=>simp[RowKit.intOf];omega
      · have hd:decide (j<K2)=false:=decide_eq_false hjK;rw[hd];have hjj:j=K2:=by omega
        obtain⟨pm,km,hv2⟩:=slice_form HR.out;subst hv2;obtain⟨M,hM⟩:=ε (m+j);obtain⟨ML,hML⟩:=ε (left t y s.ms++come s.broker s.nextId s.nextSeq (P.take j));obtain⟨ni,hni⟩:=ε (s.nextId+(j:Int));obtain⟨nq,hnq⟩:=ε (s.nextSeq+(j:Int));have hend:(endS s t y P).ms=ML∧(endS s t y P).nextId=ni∧(endS s t y P).nextSeq=nq:=by
         have h2:=HK2.out;rw[hML,hni,hnq,hjj];cases y with
         | false=>
          have e:K2=0:=by simpa using h2
          rw[e];refine⟨?_,?_,?_⟩
          · show left t false s.ms++[]=left t false s.ms++come s.broker s.nextId s.nextSeq [];rfl
          · show s.nextId+0=s.nextId+((0:Nat):Int);rfl
          · show s.nextSeq+0=s.nextSeq+((0:Nat):Int);rfl
         | true=>
          have e:K2=P.length:=by rw[←HNP.out];simpa using h2
          rw[e,List.take_length];exact⟨rfl,rfl,rfl⟩
        have HEND:=η hend;have hlM:M=ML.length:=by
         have:=HR.out.1;rw[←hM,←hML,flat_len (f:=msgC) (n:=6) (fun _=>rfl)]at this;omega
        have HLM:=η hlM;rw[←hM,←hML]at HR;rw[←hni,←hnq]at HBJ;rw[←hM];clear hend hlM hM hML hni hnq hjj;obtain⟨c0,c1,c2,c3,c4,c5,c6,c7,c8⟩:=nine_of HBJ.out;have fr:∀q,wc.frozen? ⟨b,q,none⟩=false:=fun q=>unfrozen_of HBJ.out
        have TB:=η (Turn.setCell (l:=[b]) (b:=b) (i:=4) wc (by simp) (.slice pm M km));have HOB:Hid (b<x0.heap.size):=η (by have:=HXB.out;omega);have R5:=η (ownsRow_over HR.out TB.out HOB.out);have HB5:=η (block_set (i:=4) HBJ.out (.slice pm M km));have HZ5:=η (TB.out.heap HBZ.out);have T5:=η (HT2.out.trans TB.out (fun q hq=>.inr (by simp at hq;have:=HBD.out;omega)));have XS5:=η (Nat.le_trans HXS.out TB.out.size);go_upto_region 17 with fail
        clear c0 c1 c2 c3 c4 c5 c6 c7 c8 fr HR HBJ HBZ HT2 HXS TB;generalize wc.setCell ⟨b,4,none⟩ (.slice pm M km)=y5 at*;obtain⟨K3,hK3⟩:=ε (posK EndV.tid t s.ends);have HK3:=η hK3;have hk3n:K3≤ne:=by rw[hK3,HNE.out];exact posK_le _ _ _
        clear hK3;have hne9:ne≤2000:=by rw[HNE.out];exact HM.out.lends
        go_wp2_with fail;go_loopw [13] (fun vi wx=>∃q:Nat,q≤K3∧vi=.int .i64 (q:Int)∧wx=y5) (fun vi _=>K3-(RowKit.intOf vi).toNat)
        case atStart=>exact⟨0,by omega,rfl,by trivial⟩
        case round=>
         obtain⟨q,hq,rfl,hwy⟩:=hrel;subst hwy;go_upto_region 18 with fail
         go_cut [96] from 82 to 96 (fun v96 wx=>v96=.bool (decide (q<K3))∧wx=wr)
         case first=>
          obtain⟨c0,c1,c2,c3,c4,c5,c6,c7,c8⟩:=nine_of HB5.out;by_cases hqn:q<ne
          · have hql:q<s.ends.length:=by rw[←HNE.out];exact hqn
            obtain⟨x,hx⟩:∃x,s.ends[q]?=some x:=⟨_,List.getElem?_eq_getElem hql⟩
            obtain⟨g,off,hae,hat⟩:=(HS.out.ends.still T5.out).at hx;have q0:=hat 0 (.int .i64 x.tid) rfl;rw[Nat.add_zero]at q0;have hb5:0≤(q:Int)∧(q:Int)<(ne:Int):=by omega
            have hd5:decide (x.tid<t)=decide (q<K3):=by
             by_cases hqK:q<K3
             · rw[decide_eq_true hqK];exact decide_eq_true (posK_lo (by rw[←HK3.out];exact hqK) hx)
             · rw[decide_eq_false hqK];exact decide_eq_false (by have:=posK_stop (key:=EndV.tid) (t:=t) (l:=s.ends) (x:=x) (by rw[←HK3.out,show K3=q by omega];exact hx);omega)
            obtain⟨xt,hxt⟩:=ε x.tid;rw[←hxt]at q0 hd5;obtain⟨dk,hdk⟩:=ε (decide (q<K3));rw[←hdk]at hd5;have HDK:=η hdk;have HAE:=η (show a.e=some ⟨g,off,none⟩ from hae);rw[show a.e=some ⟨g,off,none⟩ from hae]at c6;clear hat hx hql hxt hdk hae;go_wp2_with fail;go_meet;exact⟨by rw[←HDK.out],by trivial⟩
          · have hb5:¬((q:Int)<(ne:Int)):=by omega
            have HDK:=η (show decide (q<K3)=false from decide_eq_false (by omega));go_wp2_with fail;go_meet;exact⟨by rw[HDK.out],by trivial⟩
         case rest=>
          obtain⟨rfl,hwc2⟩:=hcut;subst hwc2;by_cases hqK:q<K3
          · have hd6:decide (q<K3)=true:=decide_eq_true hqK;rw[hd6];go_wp2_with fail;go_roundw
            case rel=>exact⟨q+1,by omega,by go_num,by trivial⟩
            case measure=>simp[RowKit.intOf];omega
          · have hd6:decide (q<K3)=false:=decide_eq_false hqK;rw[hd6];have hE:=HS.out.ends.still T5.out;have hqq:q=K3:=by omega
            have hlE:=HNE.out;obtain⟨EN,hEN⟩:=ε s.ends;obtain⟨ae,hae⟩:=ε a.e;obtain⟨ce,hce⟩:=ε a.ce;rw[←hae,←hce]at HB5;rw[←hae,←hce,←hEN]at hE;rw[←hEN]at hlE;rw[←hae,←hce];have HEN:=η hEN;have HQQ:=η hqq;obtain⟨i1,hi,hz0,hz1,hz2⟩:=info_parts Tryz.crowEnd;have HE0:=η (And.intro hi (And.intro hz0 (And.intro hz1 hz2)));have HE:=η hE;clear hi hz0 hz1 hz2 hae hce hEN hqq hqK hd6 hE;go_upto_region 20 with fail
            have HIK:=η (insK_pos EndV.tid ⟨t,y⟩ s.ends);obtain⟨y9,hy9⟩:=ε wc;subst hy9;go_cut [] from 99 to 114 (fun wx=>∃(p3:Option Addr) (k3:Nat),wx.ownsRow y9.heap.size 61 2 (.slice p3 (ne+1) k3) (ne+1) ((insK EndV.tid ⟨t,y⟩ s.ends).flatMap endC)∧wx.heap[b]?=some (.cells #[.int .i64 s.broker,.int .i64 ni,.int .i64 nq,.int .i64 s.tx,.slice pm M km,.slice a.w nw a.cw,.slice p3 (ne+1) k3,.slice a.o no a.co,.slice a.n nn a.cn] 27)∧Turn [b] y9 wx)
            case first=>
             have TD:=η (Turn.drew [] y9);have hS:True:=trivial;obtain⟨A2,HF,HB,HD⟩:∃A2,Hid (Src 2 y9 ae q ce ((EN.take q).flatMap endC))∧Hid (Src 2 y9 A2 (ne-q) (ce-q) ((EN.drop q).flatMap endC))∧Hid ((ae=none∧ne=0∧q=0∧ce=0∧A2=none)∨∃g off,ae=some ⟨g,off,none⟩∧q≤ce∧ne≤ce∧0≤(q:Int)∧(q:Int)≤(ne:Int)∧(if ce=q then some ⟨g,off,none⟩else some (⟨g,off+q*2,none⟩:Addr))=A2):=by
              have hqe:q≤EN.length:=by rw[←hlE];have:=HQQ.out;omega
              rcases HE.out with⟨rfl,rfl,hl0⟩ | ⟨g,off,rfl,hc,hmx,-⟩
              · have hn0:ne=0:=by rw[hlE,hl0];rfl
                have hk0:q=0:=by omega
                subst hn0 hk0;exact⟨none,η (.inl ⟨rfl,rfl,rfl,rfl⟩),η (.inl ⟨rfl,rfl,rfl,by rw[hl0];rfl⟩),η (.inl ⟨rfl,rfl,rfl,rfl,rfl⟩)⟩
              · have hf:=Src.of_tl (n:=2) (f:=endC) (fun _=>rfl) (tl_front HE.out q);rw[show(EN.take q).length=q by rw[List.length_take];omega]at hf;refine⟨_,η hf,η ?_,η (.inr ⟨g,off,rfl,by omega,by omega,by omega,by omega,rfl⟩)⟩;rw[show ne-q=EN.length-q by rw[hlE]];split
                · have e:EN.drop q=[]:=List.drop_of_length_le (by omega);rw[e];exact .inr ⟨_,rfl,by rw[show EN.length-q=0 by omega];simp,fun j u hj=>by simp at hj⟩
                · exact Src.back (n:=2) (f:=endC) (fun _=>rfl) HE.out q _
             have HC:Hid (∀z,Turn [] y9 z→z.cell? ⟨b,6,none⟩=some (.slice ae ne ce)):=η (fun z tz=>(nine_of (tz.heap HB5.out)).2.2.2.2.2.2.1);have hT:(fun z:World=>z.cell? ⟨b,6,none⟩=some (.slice ae ne ce)) y9.drew:=HC.out _ TD.out;dsimp only at hT;have hqn9:q≤ne:=by have:=HQQ.out;omega
             clear hlE;refine Pq.start [16] (fun _=>True) (fun z=>z.cell? ⟨b,6,none⟩=some (.slice ae ne ce)) (by kernel_rfl) ?_;refine Pq.tq 0 (some 99) hS ?_;simp only[Act.put,σa,σz,σs];refine Pq.tq2 1 (some 100) hS hT ?_;simp only[Act.put,σa,σz,σs];refine Pq.tq 2 (some 101) hS ?_;simp only[Act.put,σa,σz,σs];refine Pq.tq 3 (some 102) (v:=.slice ae q ce) (hy:=by(intro x hx;rcases HD.out with⟨e1,e2,e3,e4,e5⟩ | ⟨g,off,e1,e2,e3,e4,e5,e6⟩;all_goals (first | subst e1 e2 e3 e4 e5 | subst e1);all_goals go_simp;all_goals (try with_reducible rfl))) hS ?_;simp only[Act.put,σa,σz,σs];refine Pq.tq 5 (some 104) hS ?_;simp only[Act.put,σa,σz,σs];refine Pq.tq 6 (some 105) hS ?_;simp only[Act.put,σa,σz,σs];refine Pq.tq 7 (some 106) hS ?_;simp only[Act.put,σa,σz,σs];refine Pq.tq 10 (some 109) hS ?_;simp only[Act.put,σa,σz,σs];refine Pq.tq2 11 (some 110) hS hT ?_;simp only[Act.put,σa,σz,σs];refine Pq.tq 12 (some 111) hS ?_;simp only[Act.put,σa,σz,σs];refine Pq.tq 13 (some 112) (v:=.slice A2 (ne-q) (ce-q)) (hy:=by(intro x hx;rcases HD.out with⟨e1,e2,e3,e4,e5⟩ | ⟨g,off,e1,e2,e3,e4,e5,e6⟩;all_goals (first | subst e1 e2 e3 e4 e5 | subst e1);all_goals go_simp;all_goals (try with_reducible rfl))) hS ?_;simp only[Act.put,σa,σz,σs];refine Pq.two (i:=4) (j:=8) (by kernel_rfl) rfl rfl ?_ ?_
             focus
              intro K0 hK;refine step_append_src Tryz.underlying24 HE0.out.1 HE0.out.2.1 HE0.out.2.2.1 HE0.out.2.2.2 rfl (by decide) rfl (.const (.slice none 0 0)) (.tmp 102) rfl y9.heap.size (.slice none 0 0) 0 [] rfl (World.ownsRow_nil _ _ _ _) TD.out.size ae q ce _ rfl (HF.out.turn TD.out) (ones_end _) (by omega) (by omega) (fun v1 y3 r1 g1 o1=>?_);rw[Nat.zero_add,List.nil_append]at r1;have T3:=η (TD.out.trans (Turn.grown (l:=[]) g1 (fun k hk=>by simp[Value.ownBlock]at hk)));obtain⟨p1,k1,hv1⟩:=slice_form r1;subst hv1;have R3:=η r1;clear r1 g1 o1;refine hK _ _ trivial (.inr (fun _=>HC.out _ T3.out)) ?_;clear hK K0 hT;change Pq _ _ _ _ _ _ _ _ _ (Act.put _ (some 103) _) _;simp only[Act.put,σa,σz,σs];refine Pq.one (i:=8) (by kernel_rfl) rfl ?_;intro K0 hK;rw[if_pos (by simp[Region.wanted])];go_simp;have T4:=η (T3.out.trans (Turn.alloc [] y3 (.cells #[.int .i64 t,.bool y] 61)));have R4:=η (ownsRow_turn R3.out (Turn.alloc [] y3 (.cells #[.int .i64 t,.bool y] 61)));have HQ:=η (heap_alloc_new y3 (.cells #[.int .i64 t,.bool y] 61));refine hK _ _ trivial (.inr (fun _=>HC.out _ T4.out)) ?_;clear hK K0 R3 T3;generalize y3.alloc (.cells #[.int .i64 t,.bool y] 61)=yy at*;generalize y3.heap.size=qn at*
             rotate_left
             focus
              intro K0 hK;rw[if_pos (by simp[Region.wanted])];go_simp;have T3:=η ((Turn.alloc [] y9 (.cells #[.int .i64 t,.bool y] 61)).trans (Turn.drew [] _));have HQ0:Hid ((y9.alloc (.cells #[.int .i64 t,.bool y] 61)).drew.heap[y9.heap.size]?=some (.cells #[.int .i64 t,.bool y] 61)):=η ((Turn.drew [] _).heap (heap_alloc_new y9 (.cells #[.int .i64 t,.bool y] 61)));refine hK _ _ trivial (.inr (fun _=>HC.out _ T3.out)) ?_;clear hK K0 hT;generalize (y9.alloc (.cells #[.int .i64 t,.bool y] 61)).drew=y3 at*;refine Pq.one (i:=4) (by kernel_rfl) rfl ?_;intro K0 hK;refine step_append_src Tryz.underlying24 HE0.out.1 HE0.out.2.1 HE0.out.2.2.1 HE0.out.2.2.2 rfl (by decide) rfl (.const (.slice none 0 0)) (.tmp 102) rfl y9.heap.size (.slice none 0 0) 0 [] rfl (World.ownsRow_nil _ _ _ _) T3.out.size ae q ce _ rfl (HF.out.turn T3.out) (ones_end _) (by omega) (by omega) (fun v1 yy r1 g1 o1=>?_);rw[Nat.zero_add,List.nil_append]at r1;have tg:=Turn.grown (l:=[]) g1 (fun k hk=>by simp[Value.ownBlock]at hk);have T4:=η (T3.out.trans tg);have HQ:=η (tg.heap HQ0.out);obtain⟨p1,k1,hv1⟩:=slice_form r1;subst hv1;have R4:=η r1;refine hK _ _ trivial (.inr (fun _=>HC.out _ T4.out)) ?_;clear hK K0 r1 g1 o1 tg HQ0 T3;change Pq _ _ _ _ _ _ _ _ _ (Act.put _ (some 103) _) _;simp only[Act.put,σa,σz,σs]
             all_goals
              refine Pq.one (i:=9) (by kernel_rfl) rfl ?_;intro K0 hK;refine step_append_src Tryz.underlying24 HE0.out.1 HE0.out.2.1 HE0.out.2.2.1 HE0.out.2.2.2 rfl (by decide) rfl (.tmp 103) (.tmp 107) rfl y9.heap.size (.slice p1 q k1) q _ rfl R4.out T4.out.size _ 1 1 [.int .i64 t,.bool y] rfl (src_new HQ.out) (by intro u hu;simp at hu;rcases hu with rfl | rfl<;>rfl) (by omega) (by omega) (fun v2 y5 r2 g2 o2=>?_);have T6:=η (own_turn R4.out T4.out (Nat.le_refl _) g2);obtain⟨p2,k2,hv2⟩:=slice_form r2;subst hv2;have R6:=η r2;clear r2 g2 o2;refine hK _ _ trivial (.inr (fun _=>HC.out _ T6.out)) ?_;clear hK K0;change Pq _ _ _ _ _ _ _ _ _ (Act.put _ (some 108) _) _;simp only[Act.put,σa,σz,σs];refine Pq.one (i:=14) (by kernel_rfl) rfl ?_;intro K0 hK;refine step_append_src Tryz.underlying24 HE0.out.1 HE0.out.2.1 HE0.out.2.2.1 HE0.out.2.2.2 rfl (by decide) rfl (.tmp 108) (.tmp 112) rfl y9.heap.size (.slice p2 (q+1) k2) (q+1) _ rfl R6.out T6.out.size A2 (ne-q) (ce-q) _ rfl (HB.out.turn T6.out) (ones_end _) (by omega) (by omega) (fun v3 y6 r3 g3 o3=>?_);have T7:=η (own_turn R6.out T6.out (Nat.le_refl _) g3);obtain⟨p3,k3,hv3⟩:=slice_form r3;subst hv3;have R7:=η r3;clear r3 g3 o3;refine hK _ _ trivial (.inr (fun _=>HC.out _ T7.out)) ?_;clear hK K0;change Pq _ _ _ _ _ _ _ _ _ (Act.put _ (some 113) _) _;simp only[Act.put,σa,σz,σs];refine Pq.tq 15 (some 114) hS ?_;simp only[Act.put,σa,σz,σs];refine Pq.one (i:=16) (by kernel_rfl) rfl ?_;intro K0 hK;rw[if_pos (by simp[Region.wanted])];have hb7:=T7.out.heap HB5.out;have HB7:=η hb7;obtain⟨c0,c1,c2,c3,c4,c5,c6,c7,c8⟩:=nine_of hb7;have fr:∀q,y6.frozen? ⟨b,q,none⟩=false:=fun q=>unfrozen_of HB7.out
              go_simp;refine hK _ _ trivial (.inl (by simp)) ?_;clear hK K0 c0 c1 c2 c3 c4 c5 c6 c7 c8 fr hb7;refine Pq.done (by kernel_rfl) ?_ _;go_wp2_with fail;go_meet;have TS:=Turn.setCell (l:=[b]) (b:=b) (i:=6) y6 (by simp) (.slice p3 (q+1+(ne-q)) k3);have hq1:q+1+(ne-q)=ne+1:=by omega
              have r7:=R7.out;rw[hq1]at r7;have r9:=ownsRow_turn r7 TS (fun z hz=>by have:=row_lo10 r7 z hz;have:=HOB.out;have:=XS5.out;simp;omega);refine⟨p3,k3,?_,by rw[←hq1];exact block_set (i:=6) HB7.out _,(T7.out.mono (by simp)).trans TS (fun z hz=>.inl hz)⟩;rw[HIK.out,show posK EndV.tid (EndV.tid ⟨t,y⟩) s.ends=q by rw[HQQ.out,HK3.out],List.flatMap_append,List.flatMap_cons,←HEN.out,←List.append_assoc];exact r9
            case rest=>
             clear hlE;obtain⟨p3,k3,r3,hb3,t3⟩:=hcut;have HB9:=η hb3;have HZ9:=η (t3.heap HZ5.out);have RE9:=η (row_own10 r3 XS5.out);have RM9:=η (ownsRow_over R5.out t3 HOB.out);have XS9:=η (Nat.le_trans XS5.out t3.size);have T9:=η (T5.out.trans t3 (fun q hq=>.inr (by simp at hq;have:=HBD.out;omega)));have hsx:StIs wc ⟨pm,km,a.w,a.cw,p3,k3,a.o,a.co,a.n,a.cn⟩ ⟨s.broker,ni,nq,s.tx,ML,s.waits,insK EndV.tid ⟨t,y⟩ s.ends,s.open_,s.noes⟩:=⟨Tl.of_own (n:=6) (f:=msgC) (B:=x0.heap.size) (e:=49) (fun _=>rfl) (by dsimp only;rw[←HLM.out];exact RM9.out),HS.out.is.waits.still T9.out,Tl.of_own (n:=2) (f:=endC) (B:=x0.heap.size) (e:=61) (fun _=>rfl) (by dsimp only;rw[insK_len,←HNE.out];exact RE9.out),HS.out.is.open_.still T9.out,HS.out.is.noes.still T9.out⟩
             have C2:=refAtWaits_calls t hsx;have hcw:=remK_cut BrV.tid t s.waits;unfold StV.cells at C2;dsimp only at C2;obtain⟨zz,hzz⟩:=ε (placeI (fun m:BrV=>decide (m.tid=t)) s.waits);rw[←hzz,←HLM.out,insK_len,←HNW.out,←HNE.out,←HNO.out,←HNN.out]at C2;rw[←hzz]at hcw;replace C2:=η C2;have HCW:=η hcw;clear hsx hzz hcw r3 hb3 t3 HB5 HZ5 R5 T5;obtain⟨c0,c1,c2,c3,c4,c5,c6,c7,c8⟩:=nine_of HB9.out;go_wp2_with fail;clear c0 c1 c2 c3 c4 c5 c6 c7 c8;refine C2.out.mono ?_;rintro e z1 ⟨rfl,tz⟩;have HB10:=η (tz.heap HB9.out);have HZ10:=η (tz.heap HZ9.out);have RM10:=η (ownsRow_turn RM9.out tz);have RE10:=η (ownsRow_turn RE9.out tz);have T10:=η (T9.out.trans tz);have XS10:Hid (x0.heap.size≤z1.heap.size):=η (Nat.le_trans XS9.out tz.size);clear tz C2 HB9 HZ9 RM9 RE9 T9 XS9;go_upto_if 119 with fail
             go_cut [] from 120 to 131 (fun wx=>∃(pw:Option Addr) (kw:Nat) (LW':List (Lay BrV)),LW'.map Lay.v=remK BrV.tid t s.waits∧(∀x∈LW',x∈LW)∧(∀wz,Lo x0.heap.size wx wz→Tl 2 brC wz a.w a.cw LW→Tl 2 brC wz pw kw LW')∧wx.heap[b]?=some (.cells #[.int .i64 s.broker,.int .i64 ni,.int .i64 nq,.int .i64 s.tx,.slice pm M km,.slice pw LW'.length kw,.slice p3 (ne+1) k3,.slice a.o no a.co,.slice a.n nn a.cn] 27)∧Turn [b] z1 wx)
             case first=>
              rcases HCW.out with⟨h1,h2⟩ | ⟨kq,hz,h1,h2⟩
              · have d1:¬(0:Int)≤zz:=by omega
                have H2:=η h2;clear h1 h2 HCW;go_wp2_with fail;go_meet;exact⟨a.w,a.cw,LW,by rw[HS.out.vw,H2.out],fun _ h=>h,fun _ _ h=>h,by rw[show LW.length=nw by rw[HNW.out,←HS.out.vw,List.length_map]];exact HB10.out,Turn.refl _ _⟩
              · subst hz;have d1:(0:Int)≤(kq:Int):=by omega
                have hlW:LW.length=nw:=by rw[HNW.out,←HS.out.vw,List.length_map]
                have HLW:=η hlW;have htw:=HS.out.tw.still T10.out;obtain⟨aw,haw⟩:=ε a.w;obtain⟨cw,hcw⟩:=ε a.cw;rw[←haw,←hcw]at htw HB10;rw[←HNW.out]at h1;have HTW:=η htw;obtain⟨gw,ow,haw2,hc,hmx⟩:∃g o,aw=some ⟨g,o,none⟩∧LW.length≤cw∧cw≤maxLen:=by
                 rcases htw with⟨_,_,e⟩ | ⟨g,o,e1,e2,e3,_⟩
                 · rw[e]at hlW;simp at hlW;omega
                 · exact⟨g,o,e1,e2,e3⟩
                clear htw haw hcw;subst haw2;have H2:=η h2;have HF:=η (Src.of_tl (n:=2) (f:=brC) (fun _=>rfl) (tl_front HTW.out kq))
                have HB:Hid (Src 2 z1 (if cw=kq+1 then some ⟨gw,ow,none⟩else some ⟨gw,ow+(kq+1)*2,none⟩) (LW.length-(kq+1)) (cw-(kq+1)) ((LW.drop (kq+1)).flatMap brC)):=η (by
                 split
                 · have e:LW.drop (kq+1)=[]:=List.drop_of_length_le (by omega);rw[e];exact .inr ⟨_,rfl,by rw[show LW.length-(kq+1)=0 by omega];simp,fun j u hj=>by simp at hj⟩
                 · exact Src.back (n:=2) (f:=brC) (fun _=>rfl) HTW.out (kq+1) _)
                obtain⟨A2,hA2⟩:∃A:Option Addr,A=(if cw=kq+1 then some ⟨gw,ow,none⟩else some ⟨gw,ow+(kq+1)*2,none⟩):=⟨_,rfl⟩
                rw[←hA2]at HB;replace hA2:=hA2.symm;rw[show(LW.take kq).length=kq by rw[List.length_take];omega]at HF;rw[show LW.length-(kq+1)=nw-(kq+1) by rw[hlW]]at HB;unfold maxLen at hmx;rw[hlW]at hc;have hkc:kq≤cw:=by omega
                have hkc1:kq+1≤cw:=by omega
                have hbn:0≤(kq:Int)+1∧(kq:Int)+1≤(nw:Int):=by omega
                have hnw2:nw≤2000:=by rw[HNW.out];exact HM.out.lwaits
                have hw1:IntKind.i64.wrap ((kq:Int)+1)=((kq+1:Nat):Int):=by rw[IntKind.wrap_i64];omega
                obtain⟨i2,hi,hz0,hz1,hz2⟩:=info_parts Tryz.crowBr;have HI2:=η (And.intro hi (And.intro hz0 (And.intro hz1 hz2)));clear h2 hlW HCW hi hz0 hz1 hz2;go_upto_region 23 with fail
                have TD:=η (Turn.drew [] z1);have hS:True:=trivial;have HC:Hid (∀z,Turn [] z1 z→z.cell? ⟨b,5,none⟩=some (.slice (some ⟨gw,ow,none⟩) nw cw)):=η (fun z tz=>(nine_of (tz.heap HB10.out)).2.2.2.2.2.1);have hT:(fun z:World=>z.cell? ⟨b,5,none⟩=some (.slice (some ⟨gw,ow,none⟩) nw cw)) z1.drew:=HC.out _ TD.out;dsimp only at hT;refine Pq.start [12] (fun _=>True) (fun z=>z.cell? ⟨b,5,none⟩=some (.slice (some ⟨gw,ow,none⟩) nw cw)) (by kernel_rfl) ?_;refine Pq.tq 0 (some 120) hS ?_;simp only[Act.put,σa,σz,σs];refine Pq.tq2 1 (some 121) hS hT ?_;simp only[Act.put,σa,σz,σs];refine Pq.tq 2 (some 122) hS ?_;simp only[Act.put,σa,σz,σs];refine Pq.tq 3 (some 123) hS ?_;simp only[Act.put,σa,σz,σs];refine Pq.tq 5 (some 125) hS ?_;simp only[Act.put,σa,σz,σs];refine Pq.tq2 6 (some 126) hS hT ?_;simp only[Act.put,σa,σz,σs];refine Pq.tq 7 (some 127) hS ?_;simp only[Act.put,σa,σz,σs];refine Pq.tq 8 (some 128) hS ?_;simp only[Act.put,σa,σz,σs];refine Pq.tq 9 (some 129) hS ?_;simp only[Act.put,σa,σz,σs];refine Pq.one (i:=4) (by kernel_rfl) rfl ?_;intro K0 hK;refine step_append_src Tryz.underlying23 HI2.out.1 HI2.out.2.1 HI2.out.2.2.1 HI2.out.2.2.2 rfl (by decide) rfl (.const (.slice none 0 0)) (.tmp 123) rfl z1.heap.size (.slice none 0 0) 0 [] rfl (World.ownsRow_nil _ _ _ _) TD.out.size _ _ _ _ rfl (HF.out.turn TD.out) (ones_br _) (by omega) (by omega) (fun v1 y3 r1 g1 o1=>?_);rw[Nat.zero_add,List.nil_append]at r1;have T3:=η (TD.out.trans (Turn.grown (l:=[]) g1 (fun q hq=>by simp[Value.ownBlock]at hq)));obtain⟨p1,k1,hv1⟩:=slice_form r1;subst hv1;have R3:=η r1;clear r1 g1 o1;refine hK _ _ trivial (.inr (fun _=>HC.out _ T3.out)) ?_;clear hK K0 hT;change Pq _ _ _ _ _ _ _ _ _ (Act.put _ (some 124) _) _;simp only[Act.put,σa,σz,σs];refine Pq.one (i:=10) (by kernel_rfl) rfl ?_;intro K0 hK;refine step_append_src Tryz.underlying23 HI2.out.1 HI2.out.2.1 HI2.out.2.2.1 HI2.out.2.2.2 rfl (by decide) rfl (.tmp 124) (.tmp 129) rfl z1.heap.size (.slice p1 kq k1) kq _ rfl R3.out T3.out.size A2 (nw-(kq+1)) (cw-(kq+1)) _ rfl (HB.out.turn T3.out) (ones_br _) (by omega) (by omega) (fun v2 y4 r2 g2 o2=>?_);rw[←List.flatMap_append]at r2;have T4:=η (own_turn R3.out T3.out (Nat.le_refl _) g2);obtain⟨p2,k2,hv2⟩:=slice_form r2;subst hv2;have R4:=η r2;clear r2 g2 o2;refine hK _ _ trivial (.inr (fun _=>HC.out _ T4.out)) ?_;clear hK K0;change Pq _ _ _ _ _ _ _ _ _ (Act.put _ (some 130) _) _;simp only[Act.put,σa,σz,σs];refine Pq.tq 11 (some 131) hS ?_;simp only[Act.put,σa,σz,σs];refine Pq.one (i:=12) (by kernel_rfl) rfl ?_;intro K0 hK;rw[if_pos (by simp[Region.wanted])];have hb7:=T4.out.heap HB10.out;have HB7:=η hb7;obtain⟨c0,c1,c2,c3,c4,c5,c6,c7,c8⟩:=nine_of hb7;have fr:∀q,y4.frozen? ⟨b,q,none⟩=false:=fun q=>unfrozen_of HB7.out
                go_simp;refine hK _ _ trivial (.inl (by simp)) ?_;clear hK K0 c0 c1 c2 c3 c4 c5 c6 c7 c8 fr hb7;refine Pq.done (by kernel_rfl) ?_ _;go_wp2_with fail;go_meet;have TS:=Turn.setCell (l:=[b]) (b:=b) (i:=5) y4 (by simp) (.slice p2 (kq+(nw-(kq+1))) k2);have el:(LW.take kq++LW.drop (kq+1)).length=kq+(nw-(kq+1)):=by rw[List.length_append,List.length_take,List.length_drop,HLW.out];omega
                refine⟨p2,k2,LW.take kq++LW.drop (kq+1),?_,fun x hx=>?_,fun wz lz _=>?_,by rw[el];exact block_set (i:=5) HB7.out _,(T4.out.mono (by simp)).trans TS (fun q hq=>.inl hq)⟩
                · rw[H2.out,←HS.out.vw,List.map_append,List.map_take,List.map_drop]
                · rcases List.mem_append.1 hx with h | h
                  · exact List.mem_of_mem_take h
                  · exact List.mem_of_mem_drop h
                · refine Tl.of_own (f:=brC) (fun _=>rfl) (B:=z1.heap.size) (e:=81) ?_;rw[el];exact((Lo.one TS HOB.out).trans lz).row R4.out XS10.out
             case rest=>
              obtain⟨pw,kw,LW',hv1,hu1,hup1,hb4,t4⟩:=hcut;obtain⟨mw,hmw⟩:=ε LW'.length;rw[←hmw]at hb4;have HB11:=η hb4;have HZ11:=η (t4.heap HZ10.out);have T11:Hid (Turn [] w wc):=η (T10.out.trans t4 (fun q hq=>.inr (by simp at hq;have:=HBD.out;omega)));have L11:Hid (Lo x0.heap.size z1 wc):=η (Lo.one t4 HOB.out);have HW1:=η (And.intro hv1 (And.intro hu1 hup1));have HMW:=η hmw;have C3:=refWithout_calls HS.out.vo (HS.out.tk.still T11.out) (fun x hx=>(HS.out.io x hx).turn T11.out) (by have:=HM.out.lopen;omega) t;rw[←HNO.out]at C3;replace C3:=η C3;clear hv1 hu1 hup1 hb4 t4 hmw HB10 HZ10 T10 HCW;obtain⟨c0,c1,c2,c3,c4,c5,c6,c7,c8⟩:=nine_of HB11.out;have fr:∀q,wc.frozen? ⟨b,q,none⟩=false:=fun q=>unfrozen_of HB11.out
              go_wp2_with fail;clear c0 c1 c2 c3 c4 c5 c6 c7 c8 fr;refine C3.out.mono ?_;rintro e z2 ⟨po,ko,LO',rfl,hv2,hu2,hup2,tz⟩;obtain⟨mo,hmo⟩:=ε ((remK PendV.tid t s.open_).length);rw[←hmo];have HMO:=η hmo;have HW2:=η (And.intro hv2 (And.intro hu2 hup2));have HB12:=η (tz.heap HB11.out);have HZ12:=η (tz.heap HZ11.out);have T12:=η (T11.out.trans tz);have L12:Hid (Lo x0.heap.size z1 z2):=η (L11.out.trans (Lo.nil tz));have L12b:Hid (Lo x0.heap.size wc z2):=η (Lo.nil tz);have WCS:Hid (x0.heap.size≤wc.heap.size):=η (Nat.le_trans XS10.out (by obtain⟨m,t,-⟩:=L11.out;exact t.size));clear hv2 hu2 hup2 tz hmo HB11 HZ11 T11 L11 C3;obtain⟨c0,c1,c2,c3,c4,c5,c6,c7,c8⟩:=nine_of HB12.out;have fr:∀q,z2.frozen? ⟨b,q,none⟩=false:=fun q=>unfrozen_of HB12.out
              go_upto_region 25 with fail
              clear c0 c1 c2 c3 c4 c5 c6 c7 c8 fr;have TS:=Turn.setCell (l:=[b]) (b:=b) (i:=7) z2 (by simp) (.slice po mo ko);have HB13:=η (block_set (i:=7) HB12.out (.slice po mo ko));have HZ13:=η (TS.heap HZ12.out);have T13:Hid (Turn [] w (z2.setCell ⟨b,7,none⟩ (.slice po mo ko))):=η (T12.out.trans TS (fun q hq=>.inr (by simp at hq;have:=HBD.out;omega)));have L13:Hid (Lo x0.heap.size z2 (z2.setCell ⟨b,7,none⟩ (.slice po mo ko))):=η (Lo.one TS HOB.out);clear TS HB12 HZ12 T12;generalize z2.setCell ⟨b,7,none⟩ (.slice po mo ko)=z3 at*;obtain⟨c0,c1,c2,c3,c4,c5,c6,c7,c8⟩:=nine_of HB13.out;obtain⟨e0,e1,e2,e3,e4,e5,e6,e7,e8⟩:=nine_of HZ13.out;have fr:∀q,z3.frozen? ⟨b+1,q,none⟩=false:=fun q=>unfrozen_of HZ13.out
              go_wp2_with fail;have TF:=nine_turn z3 (b+1) (.int .i64 s.broker) (.int .i64 ni) (.int .i64 nq) (.int .i64 s.tx) (.slice pm M km) (.slice pw mw kw) (.slice p3 (ne+1) k3) (.slice po mo ko) (.slice a.n nn a.cn);have NH:=nine_heapC HZ13.out (.int .i64 s.broker) (.int .i64 ni) (.int .i64 nq) (.int .i64 s.tx) (.slice pm M km) (.slice pw mw kw) (.slice p3 (ne+1) k3) (.slice po mo ko) (.slice a.n nn a.cn);unfold nine at NH TF;refine bodyPost_ret_by (results_cell_row rfl _ _ (b+1) 27 _ (0,0) _ rfl NH Tryz.underlying27 rfl (by kernel_rfl)) rfl ?_;have hle:(insK EndV.tid ⟨t,y⟩ s.ends).length=ne+1:=by rw[insK_len,←HNE.out]
              have hfin:(endS s t y P).cells ⟨pm,km,pw,kw,p3,k3,po,ko,a.n,a.cn⟩=#[.int .i64 s.broker,.int .i64 ni,.int .i64 nq,.int .i64 s.tx,.slice pm M km,.slice pw mw kw,.slice p3 (ne+1) k3,.slice po mo ko,.slice a.n nn a.cn]:=by
               unfold StV.cells;rw[HEND.out.1,HEND.out.2.1,HEND.out.2.2,←HLM.out,show(endS s t y P).ends.length=ne+1 from hle,show(endS s t y P).open_.length=mo from HMO.out.symm,show(endS s t y P).waits.length=mw from(by rw[HMW.out,←List.length_map (f:=Lay.v),HW1.out.1];rfl),show(endS s t y P).noes.length=nn from HNN.out.symm];rfl
              refine⟨⟨pm,km,pw,kw,p3,k3,po,ko,a.n,a.cn⟩,LW',LO',congrArg (fun z=>Ending.returned (Value.agg z)) hfin.symm,fun wz lz hx=>?_,T13.out.trans TF (fun q hq=>.inr (by simp at hq;have:=HBD.out;omega))⟩;have l4:Lo x0.heap.size z3 wz:=(Lo.one TF HXB.out).trans (lz.mono T0.out.size);have l3:=L13.out.trans l4;have l1:=L12.out.trans l3;refine⟨HW1.out.1,HW2.out.1,hx.vn,?_,?_,HW1.out.2.2 wz (L12b.out.trans l3) hx.tw,HW2.out.2.2 wz (l3.mono WCS.out) hx.tk,hx.tn,fun x h=>hx.iw x (HW1.out.2.1 x h),fun x h=>hx.io x (HW2.out.2.1 x h),hx.ie⟩
              · rw[HEND.out.1];exact Tl.of_own (n:=6) (f:=msgC) (B:=x0.heap.size) (e:=49) (fun _=>rfl) (by rw[←HLM.out];exact l1.row RM10.out (Nat.le_refl _))
              · refine Tl.of_own (n:=2) (f:=endC) (B:=x0.heap.size) (e:=61) (fun _=>rfl) ?_;rw[show(endS s t y P).ends.length=ne+1 from hle];exact l1.row RE10.out (Nat.le_refl _)
end Go.Proofs.YtkjpjfghklgdhaaGreat

set_option maxHeartbeats 2000000
set_option maxRecDepth 100000
namespace Go.Proofs.YtkjpjfghklgdhaaGreat
open Go.RowKit Go.Proofs.YtkjpjfghklgdhaaGreat.V
theorem refPending_calls {w:World} {a:Ads} {s:StV} (h:StIs w a s) (hsum:pending s≤1000000):
  Calls Tryz.prog 190 #[.agg (s.cells a)] w fun e w'=>e=.returned (.int .i64 (pending s:Int))∧Turn [] w w':=by
 have hlen:=h.waits.len;obtain⟨L,hL,hT,-⟩:=h.waits;have T0:=η (Turn.alloc [] w (.cells (s.cells a) 27));have U0:=η (Turn.refl [] (w.alloc (.cells (s.cells a) 27)));have BX:=η (fun wx (t:Turn [] (w.alloc (.cells (s.cells a) 27)) wx)=>s.boxed a t);have H:=η (fun wx (t:Turn [] (w.alloc (.cells (s.cells a) 27)) wx)=>hT.still (T0.out.trans t));have HL:=η hL;obtain⟨l,hl⟩:=ε (s.waits.map fun x=>x.puts.length);obtain⟨pe,hpe⟩:=ε (pending s);have hle:=sum_take_le l;have hsl:l.sum=pe:=by rw[hpe,hl];rfl
 rw[←hpe]at hsum ⊢;rw[hsl]at hle;have LE:=η hle;have HLL:=η hl;have HSL:=η hsl;obtain⟨n,hn⟩:=ε s.waits.length;have HN:=η hn;unfold StV.cells at*;obtain⟨am,cm,aw,cw,ae,ce,oo,co,an,cn⟩:=a;dsimp only at H BX T0 U0 ⊢;rw[←hn]at hlen ⊢;rw[←hn]at H BX T0 U0;clear h hT hL hn hpe hle hl hsl;go_in;go_wp2_with fail;go_loopw [3,4] (fun vc vi wx=>∃k:Nat,k≤n∧vi=.int .i64 (k:Int)∧vc=.int .i64 (((l.take k).sum:Nat):Int)∧Turn [] (w.alloc (.cells #[.int .i64 s.broker,.int .i64 s.nextId,.int .i64 s.nextSeq,.int .i64 s.tx,.slice am s.ms.length cm,.slice aw n cw,.slice ae s.ends.length ce,.slice oo s.open_.length co,.slice an s.noes.length cn] 27)) wx) (fun _ vi _=>n-(intOf vi).toNat)
 case atStart=>exact⟨0,by omega,rfl,by simp,U0.out⟩
 case round=>
  obtain⟨k,hk,rfl,rfl,ht⟩:=hrel;have HT:=η ht;have H2:=H.out wr ht;obtain⟨b0,b1,b2,b3,b4,b5,b6,b7,b8⟩:=BX.out _ HT.out;clear ht b0 b1 b2 b3 b4 b6 b7 b8;have hlk:=LE.out k;obtain⟨sk,hsk⟩:=ε ((l.take k).sum);have HSK:=η hsk;rw[←hsk]at hlk ⊢;clear hsk;by_cases hkn:k<n
  · have hkl:k<L.length:=by have:=congrArg List.length HL.out;rw[List.length_map]at this;rw[this,←HN.out];exact hkn
    obtain⟨x,hx⟩:∃x,L[k]?=some x:=⟨_,List.getElem?_eq_getElem hkl⟩
    have hxl:l[k]?=some x.v.puts.length:=by rw[HLL.out,List.getElem?_map,←HL.out,List.getElem?_map,hx];rfl
    obtain⟨g,off,rfl,hat⟩:=H2.at hx;have HD:=η (sum_take l hxl);have hlk2:=LE.out (k+1);rw[HD.out,←HSK.out]at hlk2;clear H2 hx hxl;obtain⟨⟨y,P⟩,ao,c⟩:=x;have q1:=hat 1 (.slice ao P.length c) rfl;dsimp only at HD hlk2;obtain⟨pn,hpn⟩:=ε P.length;rw[←hpn]at q1 HD hlk2;have hb:0≤(k:Int)∧(k:Int)<(n:Int):=by omega
    have hw:IntKind.i64.wrap ((sk:Int)+(pn:Int))=((sk+pn:Nat):Int):=by rw[IntKind.wrap_i64];omega
    clear hat hpn;go_wp2_with fail;go_roundw
    case rel=>exact⟨k+1,by omega,by go_num,by rw[HD.out,←HSK.out,Int.natCast_add],HT.out⟩
    case measure=>simp[intOf];omega
  · have hkk:k=n:=by omega
    have hskp:sk=pe:=by rw[HSK.out,←HSL.out,List.take_of_length_le (by rw[HLL.out,List.length_map,←HN.out];omega)]
    subst hskp;clear H2;go_wp2_with fail;go_ret;exact⟨rfl,T0.out.trans HT.out⟩
theorem refFits_calls {w:World} {a:Ads} {s:StV} (h:StIs w a s) (hm:MayP s) (q:Nat) (hsum:pending s+q≤1000000):
  Calls Tryz.prog 142 #[.agg (s.cells a),.int .i64 (q:Int)] w fun e w'=>e=.returned (.bool (fitsB s q))∧Turn [] w w':=by
 have T0:=η (Turn.alloc [] w (.cells (s.cells a) 27));have BX:=η (fun wx (t:Turn [] (w.alloc (.cells (s.cells a) 27)) wx)=>s.boxed a t);have C1:=fun wx (t:Turn [] w wx)=>refPending_calls (h.still t) (by omega)
 have hi1:=hm.id1;have hi2:=hm.id2;have hs1:=hm.seq1;have hs2:=hm.seq2;have hl1:=hm.lms;obtain⟨pe,hpe⟩:=ε (pending s);unfold fitsB;rw[←hpe]at hsum C1 ⊢;obtain⟨ans,ha⟩:=ε (decide (((pe+q:Nat):Int)≤4294967296-s.nextId∧((pe+q:Nat):Int)≤72-(s.ms.length:Int)∧((pe+q:Nat):Int)≤1099511627776-s.nextSeq));have HA:=η ha;rw[←ha];have C1:=η C1;obtain⟨nm,hnm⟩:=ε s.ms.length;unfold StV.cells at*;rw[←hnm]at hl1 HA T0 BX C1 ⊢;clear h hm ha hpe hnm;have hw0:IntKind.i64.wrap ((pe:Int)+(q:Int))=((pe+q:Nat):Int):=by rw[IntKind.wrap_i64];omega
 obtain⟨cz,hcz⟩:∃z:Nat,z=pe+q:=⟨_,rfl⟩
 rw[←hcz]at hw0 hsum HA;have hw1:IntKind.i64.wrap (4294967296-s.nextId)=4294967296-s.nextId:=by rw[IntKind.wrap_i64];omega
 have hw2:IntKind.i64.wrap (1099511627776-s.nextSeq)=1099511627776-s.nextSeq:=by rw[IntKind.wrap_i64];omega
 have hw3:IntKind.i64.wrap (72-(nm:Int))=72-(nm:Int):=by rw[IntKind.wrap_i64];omega
 clear hcz;go_in;go_wp2_with fail;refine(C1.out _ T0.out).mono ?_;rintro e x1 ⟨rfl,t1⟩;obtain⟨b0,b1,b2,b3,b4,b5,b6,b7,b8⟩:=BX.out _ t1;have U1:=η (T0.out.trans t1);clear t1 C1 BX b0 b3 b5 b6 b7 b8;by_cases c0:(cz:Int)≤4294967296-s.nextId
 case neg=>
  have d0:decide ((cz:Int)≤4294967296-s.nextId)=false:=decide_eq_false c0;have HF:Hid (ans=false):=η (by rw[HA.out];exact decide_eq_false (by omega));clear HA;go_wp2_with fail;go_ret;exact⟨ret_bool HF.out.symm,U1.out⟩
 have d0:decide ((cz:Int)≤4294967296-s.nextId)=true:=decide_eq_true c0;by_cases c1:(cz:Int)≤72-(nm:Int)
 case neg=>
  have d1:decide ((cz:Int)≤72-(nm:Int))=false:=decide_eq_false c1;have HF:Hid (ans=false):=η (by rw[HA.out];exact decide_eq_false (by omega));clear HA;go_wp2_with fail;go_ret;exact⟨ret_bool HF.out.symm,U1.out⟩
 have d1:decide ((cz:Int)≤72-(nm:Int))=true:=decide_eq_true c1;by_cases c2:(cz:Int)≤1099511627776-s.nextSeq
 case neg=>
  have d2:decide ((cz:Int)≤1099511627776-s.nextSeq)=false:=decide_eq_false c2;have HF:Hid (ans=false):=η (by rw[HA.out];exact decide_eq_false (by omega));clear HA;go_wp2_with fail;go_ret;exact⟨ret_bool HF.out.symm,U1.out⟩
 have d2:decide ((cz:Int)≤1099511627776-s.nextSeq)=true:=decide_eq_true c2;have HF:Hid (ans=true):=η (by rw[HA.out];exact decide_eq_true (by omega));clear HA;go_wp2_with fail;go_ret;exact⟨ret_bool HF.out.symm,U1.out⟩
theorem refFull_calls {w:World} {a:Ads} {s:StV} (h:StIs w a s) (hm:MayP s) (r:RecV) (ap aq:Option Addr) (cp cq:Nat) (hsum:pending s+r.puts.length≤1000000) (hP:(r.parts.length:Int)≤9223372036854775807):
  Calls Tryz.prog 78 #[.agg (s.cells a),.agg (r.cells ap cp aq cq)] w fun e w'=>e=.returned (.int .i64 (fullE s r))∧Turn [] w w':=by
 obtain⟨k,t,d,y,P,Q⟩:=r;unfold RecV.cells;dsimp only at hsum hP ⊢;unfold fullE;dsimp only;obtain⟨np,hnp⟩:=ε P.length;have C1:=fun wx (q:Turn [] w wx)=>refFits_calls (h.still q) hm Q.length hsum
 obtain⟨nq,hnq⟩:=ε Q.length;rw[←hnq]at C1;rw[←hnp,←hnq];rw[←hnp]at hP;obtain⟨fi,hfi⟩:=ε (fitsB s nq);rw[←hfi]at C1 ⊢;have C1:=η C1;have T0:=η ((Turn.alloc [] w (.cells (s.cells a) 27)).trans (Turn.alloc [] _ (.cells #[.int .i64 k,.int .i64 t,.int .i64 d,.bool y,.slice ap np cp,.slice aq nq cq] 37)));have U0:=η (Turn.refl [] ((w.alloc (.cells (s.cells a) 27)).alloc (.cells #[.int .i64 k,.int .i64 t,.int .i64 d,.bool y,.slice ap np cp,.slice aq nq cq] 37)));have HS:=η (fun wx (tt:Turn [] ((w.alloc (.cells (s.cells a) 27)).alloc (.cells #[.int .i64 k,.int .i64 t,.int .i64 d,.bool y,.slice ap np cp,.slice aq nq cq] 37)) wx)=>h.still (T0.out.trans tt));have BX:=η (fun wx (tt:Turn [] ((w.alloc (.cells (s.cells a) 27)).alloc (.cells #[.int .i64 k,.int .i64 t,.int .i64 d,.bool y,.slice ap np cp,.slice aq nq cq] 37)) wx)=>s.boxed a ((Turn.alloc [] _ _).trans tt))
 have RX:Hid (∀wx,Turn [] ((w.alloc (.cells (s.cells a) 27)).alloc (.cells #[.int .i64 k,.int .i64 t,.int .i64 d,.bool y,.slice ap np cp,.slice aq nq cq] 37)) wx→wx.cell? ⟨w.heap.size+1,0,none⟩=some (.int .i64 k)∧wx.cell? ⟨w.heap.size+1,1,none⟩=some (.int .i64 t)∧wx.cell? ⟨w.heap.size+1,2,none⟩=some (.int .i64 d)∧wx.cell? ⟨w.heap.size+1,3,none⟩=some (.bool y)∧wx.cell? ⟨w.heap.size+1,4,none⟩=some (.slice ap np cp)∧wx.cell? ⟨w.heap.size+1,5,none⟩=some (.slice aq nq cq)):=η (fun wx tt=>by
  have:=heap_alloc_new (w.alloc (.cells (s.cells a) 27)) (.cells #[.int .i64 k,.int .i64 t,.int .i64 d,.bool y,.slice ap np cp,.slice aq nq cq] 37);rw[show(w.alloc (.cells (s.cells a) 27)).heap.size=w.heap.size+1 by simp]at this;have:=tt.heap this
  refine⟨?_,?_,?_,?_,?_,?_⟩<;>rw[cell_of_row _ _ _ _ _ _ this]<;>rfl)
 have hw1:=h.waits.len;have hw2:=h.ends.len;have hw3:=h.open_.len;have hw4:=h.noes.len;unfold StV.cells at*;clear h hm hsum hnp hnq hfi HS;generalize s.waits.length=nw at*;generalize s.ends.length=ne at*;generalize s.open_.length=no at*;generalize s.noes.length=nn at*;obtain⟨ans,ha⟩:∃b:Int,b=(if ((k=3∨k=5∨k=7∨k=8)∧2000≤ne)∨(k=4∧2000≤nw)∨(k=6∧2000≤no)∨(k=8∧0<np∧2000≤nn)∨((k=4∨k=7)∧fi=false)then 5 else 0):=⟨_,rfl⟩
 have HA:=η ha;rw[←ha];clear ha;by_cases k3:k=3
 case pos=>
  subst k3;go_in;by_cases c1:(2000:Int)≤(ne:Int)
  case pos=>
   have d1:decide ((2000:Int)≤(ne:Int))=true:=decide_eq_true c1;have HF:Hid (ans=5):=η (by rw[HA.out];exact if_pos (by first | omega | (simp;done) | (simp;omega)));clear HA;go_wp2_with fail;go_ret;exact⟨ret_int HF.out.symm,T0.out.trans U0.out⟩
  have d1:decide ((2000:Int)≤(ne:Int))=false:=decide_eq_false c1;have HF:Hid (ans=0):=η (by rw[HA.out];exact if_neg (by first | omega | (simp;done) | (simp;omega)));clear HA;go_wp2_with fail;go_ret;exact⟨ret_int HF.out.symm,T0.out.trans U0.out⟩
 by_cases k5:k=5
 case pos=>
  subst k5;go_in;by_cases c1:(2000:Int)≤(ne:Int)
  case pos=>
   have d1:decide ((2000:Int)≤(ne:Int))=true:=decide_eq_true c1;have HF:Hid (ans=5):=η (by rw[HA.out];exact if_pos (by first | omega | (simp;done) | (simp;omega)));clear HA;go_wp2_with fail;go_ret;exact⟨ret_int HF.out.symm,T0.out.trans U0.out⟩
  have d1:decide ((2000:Int)≤(ne:Int))=false:=decide_eq_false c1;have HF:Hid (ans=0):=η (by rw[HA.out];exact if_neg (by first | omega | (simp;done) | (simp;omega)));clear HA;go_wp2_with fail;go_ret;exact⟨ret_int HF.out.symm,T0.out.trans U0.out⟩
 by_cases k6:k=6
 case pos=>
  subst k6;go_in;by_cases c1:(2000:Int)≤(no:Int)
  case pos=>
   have d1:decide ((2000:Int)≤(no:Int))=true:=decide_eq_true c1;have HF:Hid (ans=5):=η (by rw[HA.out];exact if_pos (by first | omega | (simp;done) | (simp;omega)));clear HA;go_wp2_with fail;go_ret;exact⟨ret_int HF.out.symm,T0.out.trans U0.out⟩
  have d1:decide ((2000:Int)≤(no:Int))=false:=decide_eq_false c1;have HF:Hid (ans=0):=η (by rw[HA.out];exact if_neg (by first | omega | (simp;done) | (simp;omega)));clear HA;go_wp2_with fail;go_ret;exact⟨ret_int HF.out.symm,T0.out.trans U0.out⟩
 by_cases k4:k=4
 case pos=>
  subst k4;go_in;by_cases c1:(2000:Int)≤(nw:Int)
  case pos=>
   have d1:decide ((2000:Int)≤(nw:Int))=true:=decide_eq_true c1;have HF:Hid (ans=5):=η (by rw[HA.out];exact if_pos (by first | omega | (simp;done) | (simp;omega)));clear HA;go_wp2_with fail;go_ret;exact⟨ret_int HF.out.symm,T0.out.trans U0.out⟩
  have d1:decide ((2000:Int)≤(nw:Int))=false:=decide_eq_false c1;go_wp2_with fail;refine(C1.out _ T0.out).mono ?_;rintro e x1 ⟨rfl,t1⟩;have U1:=η t1;obtain⟨m0,m1,m2,m3,m4,m5⟩:=RX.out _ U1.out;clear t1 C1 m1 m2 m3 m4 m5;cases fi with
  | true=>
   have HF:Hid (ans=0):=η (by rw[HA.out];exact if_neg (by first | omega | (simp;done) | (simp;omega)));clear HA;go_wp2_with fail;go_ret;exact⟨ret_int HF.out.symm,T0.out.trans U1.out⟩
  | false=>
   have HF:Hid (ans=5):=η (by rw[HA.out];exact if_pos (by first | omega | (simp;done) | (simp;omega)));clear HA;go_wp2_with fail;go_ret;exact⟨ret_int HF.out.symm,T0.out.trans U1.out⟩
 by_cases k7:k=7
 case pos=>
  subst k7;go_in;by_cases c1:(2000:Int)≤(ne:Int)
  case pos=>
   have d1:decide ((2000:Int)≤(ne:Int))=true:=decide_eq_true c1;have HF:Hid (ans=5):=η (by rw[HA.out];exact if_pos (by first | omega | (simp;done) | (simp;omega)));clear HA;go_wp2_with fail;go_ret;exact⟨ret_int HF.out.symm,T0.out.trans U0.out⟩
  have d1:decide ((2000:Int)≤(ne:Int))=false:=decide_eq_false c1;go_wp2_with fail;refine(C1.out _ T0.out).mono ?_;rintro e x1 ⟨rfl,t1⟩;have U1:=η t1;obtain⟨m0,m1,m2,m3,m4,m5⟩:=RX.out _ U1.out;clear t1 C1 m1 m2 m3 m4 m5;cases fi with
  | true=>
   have HF:Hid (ans=0):=η (by rw[HA.out];exact if_neg (by first | omega | (simp;done) | (simp;omega)));clear HA;go_wp2_with fail;go_ret;exact⟨ret_int HF.out.symm,T0.out.trans U1.out⟩
  | false=>
   have HF:Hid (ans=5):=η (by rw[HA.out];exact if_pos (by first | omega | (simp;done) | (simp;omega)));clear HA;go_wp2_with fail;go_ret;exact⟨ret_int HF.out.symm,T0.out.trans U1.out⟩
 by_cases k8:k=8
 case pos=>
  subst k8;go_in;by_cases c1:(2000:Int)≤(ne:Int)
  case pos=>
   have d1:decide ((2000:Int)≤(ne:Int))=true:=decide_eq_true c1;have HF:Hid (ans=5):=η (by rw[HA.out];exact if_pos (by first | omega | (simp;done) | (simp;omega)));clear HA;go_wp2_with fail;go_ret;exact⟨ret_int HF.out.symm,T0.out.trans U0.out⟩
  have d1:decide ((2000:Int)≤(ne:Int))=false:=decide_eq_false c1;by_cases c2:(0:Int)<(np:Int)
  case neg=>
   have d2:decide ((0:Int)<(np:Int))=false:=decide_eq_false c2;have HF:Hid (ans=0):=η (by rw[HA.out];exact if_neg (by first | omega | (simp;done) | (simp;omega)));clear HA;go_wp2_with fail;go_ret;exact⟨ret_int HF.out.symm,T0.out.trans U0.out⟩
  have d2:decide ((0:Int)<(np:Int))=true:=decide_eq_true c2;by_cases c3:(2000:Int)≤(nn:Int)
  case pos=>
   have d3:decide ((2000:Int)≤(nn:Int))=true:=decide_eq_true c3;have HF:Hid (ans=5):=η (by rw[HA.out];exact if_pos (by first | omega | (simp;done) | (simp;omega)));clear HA;go_wp2_with fail;go_ret;exact⟨ret_int HF.out.symm,T0.out.trans U0.out⟩
  have d3:decide ((2000:Int)≤(nn:Int))=false:=decide_eq_false c3;have HF:Hid (ans=0):=η (by rw[HA.out];exact if_neg (by first | omega | (simp;done) | (simp;omega)));clear HA;go_wp2_with fail;go_ret;exact⟨ret_int HF.out.symm,T0.out.trans U0.out⟩
 have h3:(k==3)=false:=by simpa using k3
 have h5:(k==5)=false:=by simpa using k5
 have h6:(k==6)=false:=by simpa using k6
 have h4:(k==4)=false:=by simpa using k4
 have h7:(k==7)=false:=by simpa using k7
 have h8:(k==8)=false:=by simpa using k8
 go_in;have HF:Hid (ans=0):=η (by rw[HA.out];exact if_neg (by first | omega | (simp;done) | (simp;omega)));clear HA;go_wp2_with fail;go_ret;exact⟨ret_int HF.out.symm,T0.out.trans U0.out⟩
end Go.Proofs.YtkjpjfghklgdhaaGreat

set_option maxHeartbeats 8000000
set_option maxRecDepth 100000
namespace Go.Proofs.YtkjpjfghklgdhaaGreat
open Go.RowKit Go.Proofs.YtkjpjfghklgdhaaGreat.V
theorem place_key {α:Type} (key:α→Int) (l:List α) (t:Int):decide (0≤placeI (fun x=>decide (key x=t)) l)=keyB key l t:=by
 rcases place_find (fun x=>decide (key x=t)) l with⟨h1,h2⟩ | ⟨k,x,h1,h2,h3⟩
 · rw[decide_eq_false (by omega)];symm;rw[keyB_not];intro x hx;have:=List.find?_eq_none.1 h2 x hx;simpa using this
 · rw[decide_eq_true (by omega)];symm;rw[keyB_iff];exact⟨x,List.mem_of_find?_eq_some h3,by have:=List.find?_some h3;simpa using this⟩
theorem refCan_calls {w:World} {a:Ads} {s:StV} (h:StIs w a s) (hm:MayP s) (r:RecV) (ap aq:Option Addr) (cp cq:Nat) (hp:Il w ap cp r.parts) (hq:Ps w aq cq r.puts):
  Calls Tryz.prog 27 #[.agg (s.cells a),.agg (r.cells ap cp aq cq)] w fun e w'=>e=.returned (.int .i64 (canE s r))∧Turn [] w w':=by
 obtain⟨ans,ha⟩:=ε (canE s r);have HA:=η ha;rw[←ha];clear ha;have htx1:=hm.tx1;have htx2:=hm.tx2;have hno1:=h.noes.len;have hms1:=h.ms.len;have HM:=η h.ms;have HN:=η h.noes;have HP:=η hp;have C1:=fun wx (q:Turn [] w wx)=>refRecord_calls r (hp.turn q) (hq.turn q)
 have C2:=fun wx (q:Turn [] w wx)=>refAtEnds_calls r.tid (h.still q)
 have C3:=fun wx (q:Turn [] w wx)=>refAtWaits_calls r.tid (h.still q)
 have C4:=fun wx (q:Turn [] w wx)=>refAtPend_calls r.tid (h.still q).open_
 have C5:=fun wx=>refHome_calls r.tid wx
 have C6:=fun wx (q:Turn [] w wx)=>refAtMs_calls r.id (h.still q)
 have C7:=fun wx (q:Turn [] w wx)=>refAtPend_calls r.tid (h.still q).noes
 have C9:=fun wx=>refMake_calls s.broker (s.tx+1) wx
 have CX:=fun wx (q:Turn [] w wx)=>refHas_calls s.broker (hp.turn q)
 have C11:=fun(g:recB r=true) wx (q:Turn [] w wx)=>refFull_calls (h.still q) hm r ap aq cp cq (pend_few hm (puts_few g)) hp.len
 have HK0:Hid (recB r=true→1≤r.kind∧r.kind≤9):=η kind_of
 have HP1:Hid (recB r=true→r.kind=9→r.parts.length=1):=η (fun g k=>by
  unfold recB at g;rw[k]at g;simp only[Bool.and_eq_true]at g;have:=g.2.2.2.2.2;simp at this
  exact this.1)
 obtain⟨r1,e1⟩:=ε (recB r);obtain⟨r2,e2⟩:=ε (keyB EndV.tid s.ends r.tid);obtain⟨r3,e3⟩:=ε (keyB BrV.tid s.waits r.tid);obtain⟨r4,e4⟩:=ε (keyB PendV.tid s.open_ r.tid);obtain⟨fz,ef⟩:=ε (fullE s r);obtain⟨mk,emk⟩:=ε (makeZ s.broker (s.tx+1));obtain⟨hz,ehz⟩:=ε (homeZ r.tid);obtain⟨rx,erx⟩:=ε (decide (s.broker∈r.parts));obtain⟨z2,ez2⟩:=ε (placeI (fun m:EndV=>decide (m.tid=r.tid)) s.ends);obtain⟨z3,ez3⟩:=ε (placeI (fun m:BrV=>decide (m.tid=r.tid)) s.waits);obtain⟨z4,ez4⟩:=ε (placeI (fun m:PendV=>decide (m.tid=r.tid)) s.open_);obtain⟨z6,ez6⟩:=ε (placeI (fun m:MsgV=>decide (m.id=r.id)) s.ms);obtain⟨z7,ez7⟩:=ε (placeI (fun m:PendV=>decide (m.tid=r.tid)) s.noes);have D2:decide (0≤z2)=r2:=by rw[ez2,e2];exact place_key EndV.tid _ _
 have D3:decide (0≤z3)=r3:=by rw[ez3,e3];exact place_key BrV.tid _ _
 have D4:decide (0≤z4)=r4:=by rw[ez4,e4];exact place_key PendV.tid _ _
 have F6:Hid ((z6<0∧msgOf s r.id=none)∨∃(k:Nat) (x:MsgV),z6=(k:Int)∧s.ms[k]?=some x∧msgOf s r.id=some x):=η (by rw[ez6];exact place_find _ _);have F7:Hid ((z7<0∧pendOf s.noes r.tid=none)∨∃(k:Nat) (x:PendV),z7=(k:Int)∧s.noes[k]?=some x∧pendOf s.noes r.tid=some x):=η (by rw[ez7];exact place_find _ _);rw[←e1]at C1 C11 HK0 HP1;rw[←ez2]at C2;rw[←ez3]at C3;rw[←ez4]at C4;rw[←ehz]at C5;rw[←ez6]at C6;rw[←ez7]at C7;rw[←emk]at C9;rw[←erx]at CX;rw[←ef]at C11;unfold canE at HA;rw[←e1,←e2,←e3,←e4,←ef,←emk,←ehz]at HA
 have HAC:Hid (r1=true→(r.kind=9∨r2=false)→ans=if r.kind=2 then
    (match msgOf s r.id with
    | none=>6
    | some m=>if (m.by_≠0∧m.by_≠r.tid)∨r3=true∨r4=true then 8 else fz)
   else if r.kind=5 then (if r3=true then fz else 6)
   else if r.kind=9 then
    (match pendOf s.noes r.tid with
    | none=>6
    | some p=>if r.parts.getD 0 0∈p.parts then fz else 6)
   else if r.kind=1 then (if r.tid≠mk then 12 else if 200≤s.tx then 5 else fz)
   else if r.kind=6∨r.kind=7∨r.kind=8 then (if hz≠s.broker∨r3=true∨rx=true∨(r.kind=6∧r4=true)then 12 else fz)
   else if r.kind=4 then (if r3=true∨hz=s.broker then 12 else fz)
   else if r.kind=3 then (if r3=true∨r4=true then 12 else fz)
   else fz)∧Hid (r1=false→ans=1)∧Hid (r1=true→r.kind≠9→r2=true→ans=9):=by
  have hA:=HA.out;refine⟨η fun g1 g2=>?_,η fun g1=>?_,η fun g1 g2 g3=>?_⟩
  · rw [hA, if_neg (by rw [g1]; simp), if_neg (by rintro ⟨p1, p2⟩; rcases g2 with q | q; · exact p1 q
                                                  · rw[q]at p2;cases p2)]
    rw[erx];simp only[decide_eq_true_eq];cases msgOf s r.id<;>cases pendOf s.noes r.tid<;>first | rfl | simp
  · rw[hA,if_pos g1]
  · rw[hA,if_neg (by rw[g1];simp),if_pos ⟨g2,g3⟩]
 clear HA;obtain⟨HA,HA1,HA9⟩:=HAC;clear e1 e2 e3 e4 ef emk ehz erx ez2 ez3 ez4 ez6 ez7;obtain⟨k,t,d,y,P,Q⟩:=r;unfold RecV.cells;dsimp only at*;unfold RecV.cells at*;obtain⟨np,hnp⟩:=ε P.length;obtain⟨nq,hnq⟩:=ε Q.length;dsimp only at C1 CX C11 ⊢;rw[←hnp]at HP1 CX;rw[←hnp,←hnq]at C1 C11 ⊢;have HNP:=η hnp;have K1:=η C1;have K2:=η C2;have K3:=η C3;have K4:=η C4;have K5:=η C5;have K6:=η C6;have K7:=η C7;have K9:=η C9;have KX:=η CX;have K11:=η C11;clear C1 C2 C3 C4 C5 C6 C7 C9 CX C11;have T0:=η ((Turn.alloc [] w (.cells (s.cells a) 27)).trans (Turn.alloc [] _ (.cells #[.int .i64 k,.int .i64 t,.int .i64 d,.bool y,.slice ap np cp,.slice aq nq cq] 37)));have U0:=η (Turn.refl [] ((w.alloc (.cells (s.cells a) 27)).alloc (.cells #[.int .i64 k,.int .i64 t,.int .i64 d,.bool y,.slice ap np cp,.slice aq nq cq] 37)));have HS:=η (fun wx (tt:Turn [] ((w.alloc (.cells (s.cells a) 27)).alloc (.cells #[.int .i64 k,.int .i64 t,.int .i64 d,.bool y,.slice ap np cp,.slice aq nq cq] 37)) wx)=>h.still (T0.out.trans tt));have BX:=η (fun wx (tt:Turn [] ((w.alloc (.cells (s.cells a) 27)).alloc (.cells #[.int .i64 k,.int .i64 t,.int .i64 d,.bool y,.slice ap np cp,.slice aq nq cq] 37)) wx)=>s.boxed a ((Turn.alloc [] _ _).trans tt))
 have RX:Hid (∀wx,Turn [] ((w.alloc (.cells (s.cells a) 27)).alloc (.cells #[.int .i64 k,.int .i64 t,.int .i64 d,.bool y,.slice ap np cp,.slice aq nq cq] 37)) wx→wx.cell? ⟨w.heap.size+1,0,none⟩=some (.int .i64 k)∧wx.cell? ⟨w.heap.size+1,1,none⟩=some (.int .i64 t)∧wx.cell? ⟨w.heap.size+1,2,none⟩=some (.int .i64 d)∧wx.cell? ⟨w.heap.size+1,3,none⟩=some (.bool y)∧wx.cell? ⟨w.heap.size+1,4,none⟩=some (.slice ap np cp)∧wx.cell? ⟨w.heap.size+1,5,none⟩=some (.slice aq nq cq)):=η (fun wx tt=>by
  have:=heap_alloc_new (w.alloc (.cells (s.cells a) 27)) (.cells #[.int .i64 k,.int .i64 t,.int .i64 d,.bool y,.slice ap np cp,.slice aq nq cq] 37);rw[show(w.alloc (.cells (s.cells a) 27)).heap.size=w.heap.size+1 by simp]at this;have:=tt.heap this
  refine⟨?_,?_,?_,?_,?_,?_⟩<;>rw[cell_of_row _ _ _ _ _ _ this]<;>rfl)
 unfold StV.cells at*;obtain⟨r5,e5⟩:=ε ((hz==s.broker));have HR5:Hid (r5=true↔hz=s.broker):=η (by rw[e5];simp);replace e5:=e5.symm;have hmn:∃nm,nm=s.ms.length:=⟨_,rfl⟩
 have hwtx:IntKind.i64.wrap (s.tx+1)=s.tx+1:=by rw[IntKind.wrap_i64];omega
 clear h hm hnp hnq hp hq hmn;obtain⟨xb,hxb⟩:=ε (((w.alloc (.cells #[.int .i64 s.broker,.int .i64 s.nextId,.int .i64 s.nextSeq,.int .i64 s.tx,.slice a.m s.ms.length a.cm,.slice a.w s.waits.length a.cw,.slice a.e s.ends.length a.ce,.slice a.o s.open_.length a.co,.slice a.n s.noes.length a.cn] 27)).alloc (.cells #[.int .i64 k,.int .i64 t,.int .i64 d,.bool y,.slice ap np cp,.slice aq nq cq] 37)));have HXB:=η hxb;rw[←hxb]at T0 U0 HS BX RX;clear hxb;go_in;obtain⟨b0,b1,b2,b3,b4,b5,b6,b7,b8⟩:=BX.out _ U0.out;obtain⟨m0,m1,m2,m3,m4,m5⟩:=RX.out _ U0.out;clear b0 b1 b2 b3 b4 b5 b6 b7 b8;clear m0 m1 m2 m3 m4 m5;go_wp2_with fail;rw[←HXB.out];clear HXB;refine(K1.out _ T0.out).mono ?_;rintro e x1 ⟨rfl,t1⟩;have U1:=η (U0.out.trans t1);clear t1 K1;cases r1 with
 | false=>
  have HF:=η (HA1.out rfl);clear HA HA1 HA9;go_wp2_with fail;go_ret;exact⟨ret_int HF.out.symm,T0.out.trans U1.out⟩
 | true=>
  replace HA:=η (HA.out rfl);replace HA9:=η (HA9.out rfl);replace K11:=η (K11.out rfl);replace HK0:=η (HK0.out rfl);replace HP1:=η (HP1.out rfl);clear HA1;by_cases k9:k=9
  case pos=>
   subst k9
   have HJ9:Hid (ans=match pendOf s.noes t with
    | none=>6
    | some p=>if P.getD 0 0∈p.parts then fz else 6):=η (by rw[HA.out (.inl rfl),if_neg (by decide),if_neg (by decide),if_pos rfl])
   replace HP1:=η (HP1.out rfl);clear HA;obtain⟨b0,b1,b2,b3,b4,b5,b6,b7,b8⟩:=BX.out _ U1.out;obtain⟨m0,m1,m2,m3,m4,m5⟩:=RX.out _ U1.out;go_upto_region 5 with fail
   have F3:=η (Tw.call (y:=x1) (fun x t=>K3.out x (T0.out.trans (U1.out.trans t))));have F4:=η (Tw.call (y:=x1) (fun x t=>(K4.out x (T0.out.trans (U1.out.trans t))).mono fun _ _ h=>⟨h.1,by rw[←h.2];exact Turn.refl _ _⟩));replace b0:=fun p:Tw x1=>p.cell b0
   replace b1:=fun p:Tw x1=>p.cell b1
   replace b2:=fun p:Tw x1=>p.cell b2
   replace b3:=fun p:Tw x1=>p.cell b3
   replace b4:=fun p:Tw x1=>p.cell b4
   replace b5:=fun p:Tw x1=>p.cell b5
   replace b6:=fun p:Tw x1=>p.cell b6
   replace b7:=fun p:Tw x1=>p.cell b7
   replace b8:=fun p:Tw x1=>p.cell b8
   replace m1:=fun p:Tw x1=>p.cell m1
   clear m0 m2 m3 m4 m5;refine quiet_turn (by kernel_rfl) (by kernel_rfl) ?_
   repeat (go_big_quiet_step (first | (go_at_call 39;exact F3.out _) | (go_at_call 40;exact F4.out _)))
   refine wpQuiet_nil ?_;rintro wp ⟨⟨_,tp⟩,rfl⟩
   try dsimp only
   clear b0 b1 b2 b3 b4 b5 b6 b7 b8 m1 F3 F4;go_wp2_with fail;obtain⟨b0,b1,b2,b3,b4,b5,b6,b7,b8⟩:=BX.out _ (U1.out.trans tp);obtain⟨m0,m1,m2,m3,m4,m5⟩:=RX.out _ (U1.out.trans tp);clear b1 b2 b3 b4 b5 b6 b7 b8 m0 m2 m3 m4 m5;have F5:=η (Tw.same (y:=wp) (fun x=>K5.out x));replace b0:=fun q:Tw wp=>q.cell b0
   replace m1:=fun q:Tw wp=>q.cell m1
   refine quiet_turn (by kernel_rfl) (by kernel_rfl) ?_
   repeat (go_big_quiet_step ((go_at_call 53;exact F5.out _)))
   refine wpQuiet_nil ?_;rintro wc ⟨⟨_,tq⟩,rfl⟩
   try dsimp only
   have U3:=η (U1.out.trans (tp.trans tq));clear b0 m1 F5 tp tq K3 K4 K5 K2 D2 D3 D4 HA9;obtain⟨b0,b1,b2,b3,b4,b5,b6,b7,b8⟩:=BX.out _ U3.out;obtain⟨m0,m1,m2,m3,m4,m5⟩:=RX.out _ U3.out;go_wp2_with fail;refine(K7.out _ (T0.out.trans U3.out)).mono ?_;rintro e x4 ⟨rfl,rfl⟩;clear K7;rcases F7.out with⟨hz7,hno⟩ | ⟨pk,p,rfl,hx,hso⟩
   · have dz:decide (z7<0)=true:=decide_eq_true hz7;have HF:Hid (ans=6):=η (by rw[HJ9.out,hno]);clear HJ9 b0 b1 b2 b3 b4 b5 b6 b7 b8 m0 m1 m2 m3 m4 m5;go_wp2_with fail;refine quiet_turn (by kernel_rfl) (by kernel_rfl) ?_
     repeat (go_big_quiet_step (fail))
     refine wpQuiet_nil ?_;rintro wd ⟨⟨_,td⟩,rfl⟩;go_wp2_with fail;go_ret;exact⟨ret_int HF.out.symm,T0.out.trans (U3.out.trans td)⟩
   · have HA:Hid (ans=if P.getD 0 0∈p.parts then fz else 6):=η (by rw[HJ9.out,hso]);clear hso HJ9;have hpl:=(List.getElem?_eq_some_iff.1 hx).1;have hb:0≤(pk:Int)∧(pk:Int)<(s.noes.length:Int):=by omega
     obtain⟨L,hL,hT,hI⟩:=HN.out.still (T0.out.trans U3.out);rw[←hL,List.getElem?_map]at hx;obtain⟨y2,hy2,rfl⟩:=Option.map_eq_some_iff.1 hx;obtain⟨g,off,eg,hat⟩:=hT.at hy2;have z1:=hat 1 (.slice y2.ao y2.v.parts.length y2.c) rfl;have hI2:=hI y2 (List.mem_of_getElem? hy2);have hn1:=HP1.out;obtain⟨b,off2,e2,-,hat2⟩:=HP.out.at (by intro e;have:=HNP.out;rw[e]at this;simp at this;omega);have q0:=hat2 0 (by rw[←HNP.out];omega);rw[Nat.add_zero]at q0;obtain⟨part,hpart⟩:=ε (P.getD 0 0);have q0:=(T0.out.trans U3.out).cell q0;rw[←hpart]at HA q0;have C4:=η (Tw.call (y:=wc) (fun x t=>(refHas_calls part (hI2.turn t)).mono fun _ _ h=>⟨h.1,by rw[←h.2];exact Turn.refl _ _⟩));obtain⟨pl,hpl2⟩:=ε y2.v.parts.length;obtain⟨mb,hmb⟩:=ε (decide (part∈y2.v.parts));have HMB:Hid (mb=true↔part∈y2.v.parts):=η (by rw[hmb];simp);rw[←hpl2]at z1 C4;rw[←hmb]at C4;subst hn1;have dz:decide ((pk:Int)<0)=false:=decide_eq_false (by omega);rw[eg]at b8;rw[e2]at m4;clear eg e2 hat hat2 hT hI hI2 hL hx hy2 hpart hpl2 hmb b0 b1 b2 b3 b4 b5 b6 b7 m0 m1 m2 m3 m5;replace b8:=fun p:Tw wc=>p.cell b8
     replace m4:=fun p:Tw wc=>p.cell m4
     replace z1:=fun p:Tw wc=>p.cell z1
     replace q0:=fun p:Tw wc=>p.cell q0
     cases mb with
     | true=>
      have HF:Hid (ans=fz):=η (by rw[HA.out,if_pos (HMB.out.1 rfl)]);clear HA;go_wp2_with fail;refine quiet_turn (by kernel_rfl) (by kernel_rfl) ?_
      repeat (go_big_quiet_step ((go_at_call 77;exact C4.out _)))
      refine wpQuiet_nil ?_;rintro wd ⟨⟨_,td⟩,rfl⟩;clear b8 m4 z1 q0;have U5:=η (U3.out.trans td);obtain⟨b0,b1,b2,b3,b4,b5,b6,b7,b8⟩:=BX.out _ U5.out;obtain⟨m0,m1,m2,m3,m4,m5⟩:=RX.out _ U5.out;go_wp2_with fail;refine(K11.out _ (T0.out.trans U5.out)).mono ?_;rintro e x9 ⟨rfl,t9⟩;have U9:=η (U5.out.trans t9);clear t9;go_wp2_with fail;go_ret;exact⟨ret_int HF.out.symm,T0.out.trans U9.out⟩
     | false=>
      have HF:Hid (ans=6):=η (by rw[HA.out,if_neg (fun g=>by have:=HMB.out.2 g;cases this)]);clear HA;go_wp2_with fail;refine quiet_turn (by kernel_rfl) (by kernel_rfl) ?_
      repeat (go_big_quiet_step ((go_at_call 77;exact C4.out _)))
      refine wpQuiet_nil ?_;rintro wd ⟨⟨_,td⟩,rfl⟩;go_wp2_with fail;go_ret;exact⟨ret_int HF.out.symm,T0.out.trans (U3.out.trans td)⟩
  have HJ2 : Hid (r2 = false → k = 2 → ans = (match msgOf s d with
          | none=>6
          | some m=>if (m.by_≠0∧m.by_≠t)∨r3=true∨r4=true then 8 else fz)):=η (fun g e=>by rw[HA.out (.inr g),if_pos e])
  have HJ5:Hid (r2=false→k=5→ans=(if r3=true then fz else 6)):=η (fun g e=>by rw[HA.out (.inr g),if_neg (by omega),if_pos e]);have HJ1:Hid (r2=false→k=1→ans=(if t≠mk then 12 else if 200≤s.tx then 5 else fz)):=η (fun g e=>by rw[HA.out (.inr g),if_neg (by omega),if_neg (by omega),if_neg (by omega),if_pos e]);have HJ6:Hid (r2=false→(k=6∨k=7∨k=8)→ans=(if hz≠s.broker∨r3=true∨rx=true∨(k=6∧r4=true)then 12 else fz)):=η (fun g e=>by rw[HA.out (.inr g),if_neg (by omega),if_neg (by omega),if_neg (by omega),if_neg (by omega),if_pos e]);have HJ4:Hid (r2=false→k=4→ans=(if r3=true∨hz=s.broker then 12 else fz)):=η (fun g e=>by rw[HA.out (.inr g),if_neg (by omega),if_neg (by omega),if_neg (by omega),if_neg (by omega),if_neg (by omega),if_pos e]);have HJ3:Hid (r2=false→k=3→ans=(if r3=true∨r4=true then 12 else fz)):=η (fun g e=>by rw[HA.out (.inr g),if_neg (by omega),if_neg (by omega),if_neg (by omega),if_neg (by omega),if_neg (by omega),if_neg (by omega),if_pos e]);replace HA9:=η (HA9.out k9);clear HA;have h9:(k==9)=false:=by simpa using k9
  have n9:(k != 9)=true:=by simpa using k9
  obtain⟨b0,b1,b2,b3,b4,b5,b6,b7,b8⟩:=BX.out _ U1.out;obtain⟨m0,m1,m2,m3,m4,m5⟩:=RX.out _ U1.out;go_wp2_with fail;refine(K2.out _ (T0.out.trans U1.out)).mono ?_;rintro e x2 ⟨rfl,t2⟩;have U2:=η (U1.out.trans t2);clear t2;clear b0 b1 b2 b3 b4 b5 b6 b7 b8 m0 m1 m2 m3 m4 m5;cases r2 with
  | true=>
   have HF:=η (HA9.out rfl);clear HA9;go_wp2_with fail;go_ret;exact⟨ret_int HF.out.symm,T0.out.trans U2.out⟩
  | false=>
   replace HJ2:=η (HJ2.out rfl);replace HJ5:=η (HJ5.out rfl);replace HJ1:=η (HJ1.out rfl);replace HJ6:=η (HJ6.out rfl);replace HJ4:=η (HJ4.out rfl);replace HJ3:=η (HJ3.out rfl);obtain⟨b0,b1,b2,b3,b4,b5,b6,b7,b8⟩:=BX.out _ U2.out;obtain⟨m0,m1,m2,m3,m4,m5⟩:=RX.out _ U2.out;go_upto_region 5 with fail
   have F3:=η (Tw.call (y:=x2) (fun x t=>K3.out x (T0.out.trans (U2.out.trans t))));have F4:=η (Tw.call (y:=x2) (fun x t=>(K4.out x (T0.out.trans (U2.out.trans t))).mono fun _ _ h=>⟨h.1,by rw[←h.2];exact Turn.refl _ _⟩));replace b0:=fun p:Tw x2=>p.cell b0
   replace b1:=fun p:Tw x2=>p.cell b1
   replace b2:=fun p:Tw x2=>p.cell b2
   replace b3:=fun p:Tw x2=>p.cell b3
   replace b4:=fun p:Tw x2=>p.cell b4
   replace b5:=fun p:Tw x2=>p.cell b5
   replace b6:=fun p:Tw x2=>p.cell b6
   replace b7:=fun p:Tw x2=>p.cell b7
   replace b8:=fun p:Tw x2=>p.cell b8
   replace m1:=fun p:Tw x2=>p.cell m1
   clear m0 m2 m3 m4 m5;refine quiet_turn (by kernel_rfl) (by kernel_rfl) ?_
   repeat (go_big_quiet_step (first | (go_at_call 39;exact F3.out _) | (go_at_call 40;exact F4.out _)))
   refine wpQuiet_nil ?_;rintro wp ⟨⟨_,tp⟩,rfl⟩
   try dsimp only
   clear b0 b1 b2 b3 b4 b5 b6 b7 b8 m1 F3 F4;go_wp2_with fail;obtain⟨b0,b1,b2,b3,b4,b5,b6,b7,b8⟩:=BX.out _ (U2.out.trans tp);obtain⟨m0,m1,m2,m3,m4,m5⟩:=RX.out _ (U2.out.trans tp);clear b1 b2 b3 b4 b5 b6 b7 b8 m0 m2 m3 m4 m5;have F5:=η (Tw.same (y:=wp) (fun x=>K5.out x));replace b0:=fun q:Tw wp=>q.cell b0
   replace m1:=fun q:Tw wp=>q.cell m1
   refine quiet_turn (by kernel_rfl) (by kernel_rfl) ?_
   repeat (go_big_quiet_step ((go_at_call 53;exact F5.out _)))
   refine wpQuiet_nil ?_;rintro wc ⟨⟨_,tq⟩,rfl⟩
   try dsimp only
   have U3:=η (U2.out.trans (tp.trans tq));clear b0 m1 F5 tp tq K3 K4 K5 K2 D2 D3 D4 HA9;by_cases k2:k=2
   case pos=>
    subst k2;have HA:=η (HJ2.out rfl);clear HJ2 HJ5 HJ1 HJ6 HJ4 HJ3;obtain⟨b0,b1,b2,b3,b4,b5,b6,b7,b8⟩:=BX.out _ U3.out;obtain⟨m0,m1,m2,m3,m4,m5⟩:=RX.out _ U3.out;go_wp2_with fail;refine(K6.out _ (T0.out.trans U3.out)).mono ?_;rintro e x4 ⟨rfl,t4⟩;have U4:=η (U3.out.trans t4);clear t4 K6;clear b0 b1 b2 b3 b4 b5 b6 b7 b8 m0 m1 m2 m3 m4 m5;rcases F6.out with⟨hz6,hno⟩ | ⟨pk,m,rfl,hx,hso⟩
    · have dz:decide (z6<0)=true:=decide_eq_true hz6;have HF:Hid (ans=6):=η (by rw[HA.out,hno]);clear HA;go_wp2_with fail;go_ret;exact⟨ret_int HF.out.symm,T0.out.trans U4.out⟩
    · replace HA:Hid (ans=if (m.by_≠0∧m.by_≠t)∨r3=true∨r4=true then 8 else fz):=η (by rw[HA.out,hso]);clear hso;have hpl:=(List.getElem?_eq_some_iff.1 hx).1;have hb:0≤(pk:Int)∧(pk:Int)<(s.ms.length:Int):=by omega
      obtain⟨g,off,eg,hat⟩:=(HM.out.still (T0.out.trans U4.out)).at hx;have q5:=hat 5 (.int .i64 m.by_) rfl;obtain⟨by_,hby⟩:=ε m.by_;rw[←hby]at q5 HA;clear hat hby hx;by_cases c0:by_=0
      · subst c0;obtain⟨b0,b1,b2,b3,b4,b5,b6,b7,b8⟩:=BX.out _ U4.out;obtain⟨m0,m1,m2,m3,m4,m5⟩:=RX.out _ U4.out;rw[eg]at b4;clear eg b0 b1 b2 b3 b5 b6 b7 b8 m0 m2 m3 m4 m5;replace b4:=fun p:Tw x4=>p.cell b4
        replace m1:=fun p:Tw x4=>p.cell m1
        replace q5:=fun p:Tw x4=>p.cell q5
        cases r3 with
        | true=>
         have HF:Hid (ans=8):=η (by rw[HA.out];simp);clear HA;go_wp2_with fail;refine quiet_turn (by kernel_rfl) (by kernel_rfl) ?_
         repeat (go_big_quiet_step (fail))
         refine wpQuiet_nil ?_;rintro wd ⟨⟨_,td⟩,rfl⟩;go_wp2_with fail;go_ret;exact⟨ret_int HF.out.symm,T0.out.trans (U4.out.trans td)⟩
        | false=>
         cases r4 with
         | true=>
          have HF:Hid (ans=8):=η (by rw[HA.out];simp);clear HA;go_wp2_with fail;refine quiet_turn (by kernel_rfl) (by kernel_rfl) ?_
          repeat (go_big_quiet_step (fail))
          refine wpQuiet_nil ?_;rintro wd ⟨⟨_,td⟩,rfl⟩;go_wp2_with fail;go_ret;exact⟨ret_int HF.out.symm,T0.out.trans (U4.out.trans td)⟩
         | false=>
          have HF:Hid (ans=fz):=η (by rw[HA.out];simp);clear HA;go_wp2_with fail;refine quiet_turn (by kernel_rfl) (by kernel_rfl) ?_
          repeat (go_big_quiet_step (fail))
          refine wpQuiet_nil ?_;rintro wd ⟨⟨_,td⟩,rfl⟩;clear b4 m1 q5;have U5:=η (U4.out.trans td);obtain⟨b0,b1,b2,b3,b4,b5,b6,b7,b8⟩:=BX.out _ U5.out;obtain⟨m0,m1,m2,m3,m4,m5⟩:=RX.out _ U5.out;go_wp2_with fail;refine(K11.out _ (T0.out.trans U5.out)).mono ?_;rintro e x9 ⟨rfl,t9⟩;have U9:=η (U5.out.trans t9);clear t9;go_wp2_with fail;go_ret;exact⟨ret_int HF.out.symm,T0.out.trans U9.out⟩
      · have n0:(by_ != 0)=true:=by simpa using c0
        by_cases c1:by_=t
        · subst c1;obtain⟨b0,b1,b2,b3,b4,b5,b6,b7,b8⟩:=BX.out _ U4.out;obtain⟨m0,m1,m2,m3,m4,m5⟩:=RX.out _ U4.out;rw[eg]at b4;clear eg b0 b1 b2 b3 b5 b6 b7 b8 m0 m2 m3 m4 m5;replace b4:=fun p:Tw x4=>p.cell b4
          replace m1:=fun p:Tw x4=>p.cell m1
          replace q5:=fun p:Tw x4=>p.cell q5
          cases r3 with
          | true=>
           have HF:Hid (ans=8):=η (by rw[HA.out];simp);clear HA;go_wp2_with fail;refine quiet_turn (by kernel_rfl) (by kernel_rfl) ?_
           repeat (go_big_quiet_step (fail))
           refine wpQuiet_nil ?_;rintro wd ⟨⟨_,td⟩,rfl⟩;go_wp2_with fail;go_ret;exact⟨ret_int HF.out.symm,T0.out.trans (U4.out.trans td)⟩
          | false=>
           cases r4 with
           | true=>
            have HF:Hid (ans=8):=η (by rw[HA.out];simp);clear HA;go_wp2_with fail;refine quiet_turn (by kernel_rfl) (by kernel_rfl) ?_
            repeat (go_big_quiet_step (fail))
            refine wpQuiet_nil ?_;rintro wd ⟨⟨_,td⟩,rfl⟩;go_wp2_with fail;go_ret;exact⟨ret_int HF.out.symm,T0.out.trans (U4.out.trans td)⟩
           | false=>
            have HF:Hid (ans=fz):=η (by rw[HA.out];simp);clear HA;go_wp2_with fail;refine quiet_turn (by kernel_rfl) (by kernel_rfl) ?_
            repeat (go_big_quiet_step (fail))
            refine wpQuiet_nil ?_;rintro wd ⟨⟨_,td⟩,rfl⟩;clear b4 m1 q5;have U5:=η (U4.out.trans td);obtain⟨b0,b1,b2,b3,b4,b5,b6,b7,b8⟩:=BX.out _ U5.out;obtain⟨m0,m1,m2,m3,m4,m5⟩:=RX.out _ U5.out;go_wp2_with fail;refine(K11.out _ (T0.out.trans U5.out)).mono ?_;rintro e x9 ⟨rfl,t9⟩;have U9:=η (U5.out.trans t9);clear t9;go_wp2_with fail;go_ret;exact⟨ret_int HF.out.symm,T0.out.trans U9.out⟩
        · have n1:(by_ != t)=true:=by simpa using c1
          obtain⟨b0,b1,b2,b3,b4,b5,b6,b7,b8⟩:=BX.out _ U4.out;obtain⟨m0,m1,m2,m3,m4,m5⟩:=RX.out _ U4.out;rw[eg]at b4;clear eg b0 b1 b2 b3 b5 b6 b7 b8 m0 m2 m3 m4 m5;replace b4:=fun p:Tw x4=>p.cell b4
          replace m1:=fun p:Tw x4=>p.cell m1
          replace q5:=fun p:Tw x4=>p.cell q5
          have HF:Hid (ans=8):=η (by rw[HA.out,if_pos (.inl ⟨c0,c1⟩)]);clear HA;go_wp2_with fail;refine quiet_turn (by kernel_rfl) (by kernel_rfl) ?_
          repeat (go_big_quiet_step (fail))
          refine wpQuiet_nil ?_;rintro wd ⟨⟨_,td⟩,rfl⟩;go_wp2_with fail;go_ret;exact⟨ret_int HF.out.symm,T0.out.trans (U4.out.trans td)⟩
   by_cases k5:k=5
   case pos=>
    subst k5;have HA:=η (HJ5.out rfl);clear HJ2 HJ5 HJ1 HJ6 HJ4 HJ3;obtain⟨b0,b1,b2,b3,b4,b5,b6,b7,b8⟩:=BX.out _ U3.out;obtain⟨m0,m1,m2,m3,m4,m5⟩:=RX.out _ U3.out;cases r3 with
    | true=>
     have HF:Hid (ans=fz):=η (by rw[HA.out,if_pos rfl]);clear HA;go_wp2_with fail;refine(K11.out _ (T0.out.trans U3.out)).mono ?_;rintro e x9 ⟨rfl,t9⟩;have U9:=η (U3.out.trans t9);clear t9;go_wp2_with fail;go_ret;exact⟨ret_int HF.out.symm,T0.out.trans U9.out⟩
    | false=>
     have HF:Hid (ans=6):=η (by rw[HA.out,if_neg (by simp)]);clear HA;go_wp2_with fail;go_ret;exact⟨ret_int HF.out.symm,T0.out.trans U3.out⟩
   by_cases k1:k=1
   case pos=>
    subst k1;have HA:=η (HJ1.out rfl);clear HJ2 HJ5 HJ1 HJ6 HJ4 HJ3;obtain⟨b0,b1,b2,b3,b4,b5,b6,b7,b8⟩:=BX.out _ U3.out;obtain⟨m0,m1,m2,m3,m4,m5⟩:=RX.out _ U3.out;go_wp2_with fail;have F9:=η (Tw.same (y:=wc) (fun x=>K9.out x));clear b1 b2 b4 b5 b6 b7 b8 m0 m2 m3 m4 m5;replace b0:=fun p:Tw wc=>p.cell b0
    replace b3:=fun p:Tw wc=>p.cell b3
    replace m1:=fun p:Tw wc=>p.cell m1
    by_cases c0:t=mk
    · have n0:(t != mk)=false:=by simpa using c0
      by_cases c1:200≤s.tx
      · have d1:decide (200≤s.tx)=true:=decide_eq_true c1;have HF:Hid (ans=5):=η (by rw[HA.out,if_neg (by simpa using c0),if_pos c1]);clear HA c0;refine quiet_turn (by kernel_rfl) (by kernel_rfl) ?_
        repeat (go_big_quiet_step ((go_at_call 34;exact F9.out _)))
        refine wpQuiet_nil ?_;rintro wd ⟨⟨_,td⟩,rfl⟩;clear b0 b3 m1;have U5:=η (U3.out.trans td);obtain⟨b0,b1,b2,b3,b4,b5,b6,b7,b8⟩:=BX.out _ U5.out;obtain⟨m0,m1,m2,m3,m4,m5⟩:=RX.out _ U5.out;go_wp2_with fail;go_ret;exact⟨ret_int HF.out.symm,T0.out.trans (U3.out.trans td)⟩
      · have d1:decide (200≤s.tx)=false:=decide_eq_false c1;have HF:Hid (ans=fz):=η (by rw[HA.out,if_neg (by simpa using c0),if_neg c1]);clear HA c0;refine quiet_turn (by kernel_rfl) (by kernel_rfl) ?_
        repeat (go_big_quiet_step ((go_at_call 34;exact F9.out _)))
        refine wpQuiet_nil ?_;rintro wd ⟨⟨_,td⟩,rfl⟩;clear b0 b3 m1;have U5:=η (U3.out.trans td);obtain⟨b0,b1,b2,b3,b4,b5,b6,b7,b8⟩:=BX.out _ U5.out;obtain⟨m0,m1,m2,m3,m4,m5⟩:=RX.out _ U5.out;go_wp2_with fail;refine(K11.out _ (T0.out.trans U5.out)).mono ?_;rintro e x9 ⟨rfl,t9⟩;have U9:=η (U5.out.trans t9);clear t9;go_wp2_with fail;go_ret;exact⟨ret_int HF.out.symm,T0.out.trans U9.out⟩
    · have n0:(t != mk)=true:=by simpa using c0
      have HF:Hid (ans=12):=η (by rw[HA.out,if_pos c0]);clear HA;refine quiet_turn (by kernel_rfl) (by kernel_rfl) ?_
      repeat (go_big_quiet_step ((go_at_call 34;exact F9.out _)))
      refine wpQuiet_nil ?_;rintro wd ⟨⟨_,td⟩,rfl⟩;go_wp2_with fail;go_ret;exact⟨ret_int HF.out.symm,T0.out.trans (U3.out.trans td)⟩
   by_cases k6:k=6
   case pos=>
    subst k6;have HA:=η (HJ6.out (by decide));clear HJ2 HJ5 HJ1 HJ6 HJ4 HJ3;obtain⟨b0,b1,b2,b3,b4,b5,b6,b7,b8⟩:=BX.out _ U3.out;obtain⟨m0,m1,m2,m3,m4,m5⟩:=RX.out _ U3.out
    replace HA:Hid (ans=if r5=false∨r3=true∨rx=true∨r4=true then 12 else fz):=η (by
     rw[HA.out];have h5:=HR5.out
     cases r5<;>simp at h5<;>simp[h5])
    cases r5 with
    | false=>
     have HF:Hid (ans=12):=η (by rw[HA.out];simp);clear HA;go_wp2_with fail;go_ret;exact⟨ret_int HF.out.symm,T0.out.trans U3.out⟩
    | true=>
     cases r3 with
     | true=>
      have HF:Hid (ans=12):=η (by rw[HA.out];simp);clear HA;go_wp2_with fail;go_ret;exact⟨ret_int HF.out.symm,T0.out.trans U3.out⟩
     | false=>
      go_wp2_with fail;refine(KX.out _ (T0.out.trans U3.out)).mono ?_;rintro e x4 ⟨rfl,rfl⟩;clear KX;cases rx with
      | true=>
       have HF:Hid (ans=12):=η (by rw[HA.out];simp);clear HA;go_wp2_with fail;go_ret;exact⟨ret_int HF.out.symm,T0.out.trans U3.out⟩
      | false=>
       cases r4 with
       | true=>
        have HF:Hid (ans=12):=η (by rw[HA.out];simp);clear HA;go_wp2_with fail;go_ret;exact⟨ret_int HF.out.symm,T0.out.trans U3.out⟩
       | false=>
        have HF:Hid (ans=fz):=η (by rw[HA.out];simp);clear HA;go_wp2_with fail;refine(K11.out _ (T0.out.trans U3.out)).mono ?_;rintro e x9 ⟨rfl,t9⟩;have U9:=η (U3.out.trans t9);clear t9;go_wp2_with fail;go_ret;exact⟨ret_int HF.out.symm,T0.out.trans U9.out⟩
   by_cases k7:k=7
   case pos=>
    subst k7;have HA:=η (HJ6.out (by decide));clear HJ2 HJ5 HJ1 HJ6 HJ4 HJ3;obtain⟨b0,b1,b2,b3,b4,b5,b6,b7,b8⟩:=BX.out _ U3.out;obtain⟨m0,m1,m2,m3,m4,m5⟩:=RX.out _ U3.out
    replace HA:Hid (ans=if r5=false∨r3=true∨rx=true then 12 else fz):=η (by
     rw[HA.out];have h5:=HR5.out
     cases r5<;>simp at h5<;>simp[h5])
    cases r5 with
    | false=>
     have HF:Hid (ans=12):=η (by rw[HA.out];simp);clear HA;go_wp2_with fail;go_ret;exact⟨ret_int HF.out.symm,T0.out.trans U3.out⟩
    | true=>
     cases r3 with
     | true=>
      have HF:Hid (ans=12):=η (by rw[HA.out];simp);clear HA;go_wp2_with fail;go_ret;exact⟨ret_int HF.out.symm,T0.out.trans U3.out⟩
     | false=>
      go_wp2_with fail;refine(KX.out _ (T0.out.trans U3.out)).mono ?_;rintro e x4 ⟨rfl,rfl⟩;clear KX;cases rx with
      | true=>
       have HF:Hid (ans=12):=η (by rw[HA.out];simp);clear HA;go_wp2_with fail;go_ret;exact⟨ret_int HF.out.symm,T0.out.trans U3.out⟩
      | false=>
       have HF:Hid (ans=fz):=η (by rw[HA.out];simp);clear HA;go_wp2_with fail;refine(K11.out _ (T0.out.trans U3.out)).mono ?_;rintro e x9 ⟨rfl,t9⟩;have U9:=η (U3.out.trans t9);clear t9;go_wp2_with fail;go_ret;exact⟨ret_int HF.out.symm,T0.out.trans U9.out⟩
   by_cases k8:k=8
   case pos=>
    subst k8;have HA:=η (HJ6.out (by decide));clear HJ2 HJ5 HJ1 HJ6 HJ4 HJ3;obtain⟨b0,b1,b2,b3,b4,b5,b6,b7,b8⟩:=BX.out _ U3.out;obtain⟨m0,m1,m2,m3,m4,m5⟩:=RX.out _ U3.out
    replace HA:Hid (ans=if r5=false∨r3=true∨rx=true then 12 else fz):=η (by
     rw[HA.out];have h5:=HR5.out
     cases r5<;>simp at h5<;>simp[h5])
    cases r5 with
    | false=>
     have HF:Hid (ans=12):=η (by rw[HA.out];simp);clear HA;go_wp2_with fail;go_ret;exact⟨ret_int HF.out.symm,T0.out.trans U3.out⟩
    | true=>
     cases r3 with
     | true=>
      have HF:Hid (ans=12):=η (by rw[HA.out];simp);clear HA;go_wp2_with fail;go_ret;exact⟨ret_int HF.out.symm,T0.out.trans U3.out⟩
     | false=>
      go_wp2_with fail;refine(KX.out _ (T0.out.trans U3.out)).mono ?_;rintro e x4 ⟨rfl,rfl⟩;clear KX;cases rx with
      | true=>
       have HF:Hid (ans=12):=η (by rw[HA.out];simp);clear HA;go_wp2_with fail;go_ret;exact⟨ret_int HF.out.symm,T0.out.trans U3.out⟩
      | false=>
       have HF:Hid (ans=fz):=η (by rw[HA.out];simp);clear HA;go_wp2_with fail;refine(K11.out _ (T0.out.trans U3.out)).mono ?_;rintro e x9 ⟨rfl,t9⟩;have U9:=η (U3.out.trans t9);clear t9;go_wp2_with fail;go_ret;exact⟨ret_int HF.out.symm,T0.out.trans U9.out⟩
   by_cases k4:k=4
   case pos=>
    subst k4;have HA:=η (HJ4.out rfl);clear HJ2 HJ5 HJ1 HJ6 HJ4 HJ3;obtain⟨b0,b1,b2,b3,b4,b5,b6,b7,b8⟩:=BX.out _ U3.out;obtain⟨m0,m1,m2,m3,m4,m5⟩:=RX.out _ U3.out
    replace HA:Hid (ans=if r3=true∨r5=true then 12 else fz):=η (by
     rw[HA.out];have h5:=HR5.out
     cases r5<;>simp at h5<;>simp[h5])
    cases r3 with
    | true=>
     have HF:Hid (ans=12):=η (by rw[HA.out];simp);clear HA;go_wp2_with fail;go_ret;exact⟨ret_int HF.out.symm,T0.out.trans U3.out⟩
    | false=>
     cases r5 with
     | true=>
      have HF:Hid (ans=12):=η (by rw[HA.out];simp);clear HA;go_wp2_with fail;go_ret;exact⟨ret_int HF.out.symm,T0.out.trans U3.out⟩
     | false=>
      have HF:Hid (ans=fz):=η (by rw[HA.out];simp);clear HA;go_wp2_with fail;refine(K11.out _ (T0.out.trans U3.out)).mono ?_;rintro e x9 ⟨rfl,t9⟩;have U9:=η (U3.out.trans t9);clear t9;go_wp2_with fail;go_ret;exact⟨ret_int HF.out.symm,T0.out.trans U9.out⟩
   by_cases k3:k=3
   case pos=>
    subst k3;have HA:=η (HJ3.out rfl);clear HJ2 HJ5 HJ1 HJ6 HJ4 HJ3;obtain⟨b0,b1,b2,b3,b4,b5,b6,b7,b8⟩:=BX.out _ U3.out;obtain⟨m0,m1,m2,m3,m4,m5⟩:=RX.out _ U3.out
    replace HA:Hid (ans=if r3=true∨r4=true then 12 else fz):=η (by
     rw[HA.out])
    cases r3 with
    | true=>
     have HF:Hid (ans=12):=η (by rw[HA.out];simp);clear HA;go_wp2_with fail;go_ret;exact⟨ret_int HF.out.symm,T0.out.trans U3.out⟩
    | false=>
     cases r4 with
     | true=>
      have HF:Hid (ans=12):=η (by rw[HA.out];simp);clear HA;go_wp2_with fail;go_ret;exact⟨ret_int HF.out.symm,T0.out.trans U3.out⟩
     | false=>
      have HF:Hid (ans=fz):=η (by rw[HA.out];simp);clear HA;go_wp2_with fail;refine(K11.out _ (T0.out.trans U3.out)).mono ?_;rintro e x9 ⟨rfl,t9⟩;have U9:=η (U3.out.trans t9);clear t9;go_wp2_with fail;go_ret;exact⟨ret_int HF.out.symm,T0.out.trans U9.out⟩
   have:=HK0.out;omega
theorem putsB_says {l:List (ByteArray×ByteArray)} (h:putsB l=true):(∀p∈l,putB p=true)∧l.length≤10:=by
 unfold putsB at h;rw[Bool.and_eq_true,decide_eq_true_eq]at h;exact⟨List.all_eq_true.1 h.1,h.2⟩
theorem recB_kind {r:RecV} (h:recB r=true):(r.kind=4∨r.kind=7→putsB r.puts=true)∧(r.kind=6→0<r.parts.length)∧(r.kind=6∨r.kind=8→risingB r.parts=true)∧0<homeZ r.tid:=by
 unfold recB at h;simp only[Bool.and_eq_true]at h;obtain⟨ht,-,-,-,-,hlast⟩:=h;refine⟨fun hk=>?_,fun hk=>?_,fun hk=>?_,by simpa[tidB]using ht⟩
 · rw[if_neg (by omega),if_neg (by omega),if_pos hk]at hlast;exact hlast
 · rw[if_neg (by omega),if_neg (by omega),if_neg (by omega),if_pos hk,Bool.and_eq_true]at hlast;simpa using hlast.1
 · rcases hk with hk | hk
   · rw[if_neg (by omega),if_neg (by omega),if_neg (by omega),if_pos hk,Bool.and_eq_true]at hlast;exact hlast.2
   · rw[if_neg (by omega),if_neg (by omega),if_neg (by omega),if_neg (by omega),if_pos hk]at hlast;exact hlast
theorem waitOf_some {l:List BrV} {t:Int} (h:keyB BrV.tid l t=true):∃x∈l,x.tid=t∧waitOf l t=some x:=by
 obtain⟨y,hy,ht⟩:=keyB_iff.1 h;unfold waitOf;cases hf:l.find? (fun p=>decide (p.tid=t))with
 | none=>
  have:=List.find?_eq_none.1 hf y hy;simp[ht]at this
 | some x=>
  have h1:=List.find?_some hf;exact⟨x,List.mem_of_find?_eq_some hf,by simpa using h1,rfl⟩
theorem Il.nums {w:World} {ao:Option Addr} {c:Nat} {l:List Int} (h:Il w ao c l):∀n∈l,-9223372036854775808≤n∧n≤9223372036854775807:=by
 rcases h with⟨_,_,rfl⟩ | ⟨A,_,_,_,_,h⟩
 · intro n hn;cases hn
 · exact h
end Go.Proofs.YtkjpjfghklgdhaaGreat
