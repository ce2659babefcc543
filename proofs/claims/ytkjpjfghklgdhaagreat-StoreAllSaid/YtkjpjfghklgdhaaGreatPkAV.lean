/-
  PkAV
-/
import Derived.Test.YtkjpjfghklgdhaaGreatPkAU
set_option maxHeartbeats 4000000
set_option maxRecDepth 100000
namespace Go.Proofs.YtkjpjfghklgdhaaGreat
open Go.RowKit
theorem Tryz.txtrow:(Tryz.prog.info? 9).map (fun i=>(i.zero,i.size,i.bytes))=some (some (.string ⟨#[]⟩),1,16):=by kernel_rfl
def txs (l:List ByteArray):List Value:=l.map Value.string
theorem txs_append (l l2:List ByteArray):txs (l++l2)=txs l++txs l2:=by simp[txs]
theorem txs_one (l:List ByteArray):∀u∈txs l,u.oneCell'=true:=by
 intro u hu;obtain⟨x,-,rfl⟩:=List.mem_map.1 hu;rfl
theorem append_text {w:World} {ops:Array Oper} {rest:List Oper} {o:Oper} {a:Act} {Q:Exit→Act→World→Prop} (hgd:o.guard=none) (s x:Operand)
 (ho:o.op=.call {callee:=.builtin .append,args:=#[s,x],argTypes:=#[68,68]})
 (B:Nat) (v:Value) (l:List ByteArray) (hs:a.eval s=v) (hown:w.ownsRow B 9 1 v l.length (txs l)) (hB:B≤w.heap.size)
 (q:Nat) (y:ByteArray) (hx:a.eval x=.slice (some ⟨q,0,none⟩) 1 1) (hq:w.cell? ⟨q,0,none⟩=some (.string y))
 (hlen:l.length≤1000000)
 (h:∀v' w',w'.ownsRow B 9 1 v' (l++[y]).length (txs (l++[y]))→w.grownBy w' v.ownBlock→(v'.ownBlock=v.ownBlock∨v'.ownBlock=some w.heap.size)→wpList Tryz.prog ops Q rest (a.put o.dst v') w'):wpList Tryz.prog ops Q (o::rest) a w:=by
 obtain⟨i0,hi,hz0,hz1,hz2⟩:=info_parts Tryz.txtrow;refine wpList_append_own_at w hgd s x 68 ho B 9 i0 (.string ⟨#[]⟩) 1 16 Tryz.underlying68 hi hz0 hz1 hz2 rfl (by decide) v l.length (txs l) hs hown ⟨q,0,none⟩ 1 1 (txs [y]) hx (by simp[txs])
  (fun j u hj=>?_) (txs_one [y]) (by unfold maxLen;omega) (by omega) hB ?_
 · have hj0:j=0:=by
    have:=(List.getElem?_eq_some_iff.1 hj).1;simp[txs]at this;exact this
   subst hj0;simp[txs]at hj;subst hj;rw[Addr.add_lit];exact hq
 · intro v' w' hown' hg hn hloc;exact h v' w' (by rw[List.length_append,txs_append];exact hown') hg hloc
open Go.RowKit Go.Proofs.YtkjpjfghklgdhaaGreat.V
theorem held_calls (m:MsgV) (w:World):Calls Tryz.prog 84 #[.agg (msgC m).toArray] w fun e w'=>e=.returned (.bool (!decide (m.by_=0)))∧Turn [] w w':=by
 obtain⟨i,q,b,sq,c,y⟩:=m;unfold msgC;dsimp only;by_cases hy:y=0
 · subst hy;go_in;go_wp2;go_ret;exact⟨rfl,Turn.alloc [] w _⟩
 · have e1:(y != 0)=true:=by simpa using hy
   have e2:(!decide (y=0))=true:=by simpa using hy
   rw[e2];go_in;go_wp2;go_ret;exact⟨rfl,Turn.alloc [] w _⟩
theorem deadB_is (m:MsgV):deadB m=(decide (3≤m.count)&&decide (m.by_=0)):=by
 unfold deadB;exact Bool.and_comm _ _
theorem dead_calls (m:MsgV) (w:World):Calls Tryz.prog 30 #[.agg (msgC m).toArray] w fun e w'=>e=.returned (.bool (deadB m))∧Turn [] w w':=by
 rw[deadB_is];have C1:=η (held_calls m);obtain⟨i,q,b,sq,c,y⟩:=m;unfold msgC at C1 ⊢;dsimp only at C1 ⊢;obtain⟨r,hr⟩:=ε (decide (y=0));rw[←hr]at C1 ⊢;clear hr;have T0:=η (Turn.alloc [] w (.cells #[.int .i64 i,.string q,.string b,.int .i64 sq,.int .i64 c,.int .i64 y] 49));by_cases hc:3≤c
 · have d1:decide (3≤c)=true:=decide_eq_true hc;have d2:decide (c≥3)=true:=decide_eq_true hc;rw[d1];go_in;go_wp2_with fail;refine(C1.out _).mono ?_;rintro e x1 ⟨rfl,t1⟩;have U1:=η (T0.out.trans t1);clear t1 C1;cases r<;>(go_wp2_with fail;go_ret;exact⟨rfl,U1.out⟩)
 · have d1:decide (3≤c)=false:=decide_eq_false hc;have d2:decide (c≥3)=false:=decide_eq_false hc;rw[d1];go_in;go_wp2_with fail;go_ret;exact⟨rfl,T0.out⟩
theorem row_lo10 {w:World} {lo:Nat} {e:TypeId} {z n:Nat} {v:Value} {xs:List Value} (h:w.ownsRow lo e z v n xs):∀k,v.ownBlock=some k→lo≤k:=by
 intro k hk;rcases h.2 with⟨rfl,_⟩ | ⟨g,cap,cur,rfl,hg,_⟩
 · simp[Value.ownBlock]at hk
 · have:g=k:=by simpa[Value.ownBlock]using hk
   omega
theorem row_own10 {w:World} {lo B:Nat} {e:TypeId} {z n:Nat} {v:Value} {xs:List Value} (h:w.ownsRow lo e z v n xs) (hb:B≤lo):w.ownsRow B e z v n xs:=ownsRow_base h (fun k hk=>Nat.le_trans hb (row_lo10 h k hk))
theorem appendQueues_calls {w0 w:World} (t0:Turn [] w0 w) {v:Value} {l:List ByteArray} (hv:w.ownsRow w0.heap.size 9 1 v l.length (txs l)) {ap:Option Addr} {cp:Nat} {P:List (ByteArray×ByteArray)} (hp:Ps w0 ap cp P) (hn:l.length+P.length≤1000000):
 Calls Tryz.prog 155 #[v,.slice ap P.length cp] w fun e w'=>∃v',e=.returned v'∧w'.ownsRow w0.heap.size 9 1 v' (l++P.map Prod.fst).length (txs (l++P.map Prod.fst))∧Turn [] w0 w':=by
 have HP:=η hp;obtain⟨n,hnn⟩:=ε P.length;have HN:=η hnn;have HV:=η hv;have H0:=η t0;have hsz:n≤1000000:=by omega
 rw[←hnn]at hn ⊢;clear hp hnn hv t0;go_in;go_wp2_with fail;go_loopw [9,0] (fun vi vv wx=>∃(k:Nat) (u:Value),k≤n∧vi=.int .i64 (k:Int)∧u=vv∧wx.ownsRow w0.heap.size 9 1 u (l++(P.take k).map Prod.fst).length (txs (l++(P.take k).map Prod.fst))∧Turn [] w0 wx) (fun vi _ _=>n-(intOf vi).toNat)
 case atStart=>exact⟨0,v,by omega,rfl,rfl,by simpa using HV.out,H0.out⟩
 case round=>
  obtain⟨k,u,hk,rfl,rfl,hrow,ht⟩:=hrel;have HT:=η ht;have HR:=η hrow;clear hrow ht;by_cases hkn:k<n
  · have hkl:k<P.length:=by rw[←HN.out];exact hkn
    obtain⟨b,off,rfl,-,hat⟩:=(HP.out.turn HT.out).at (by intro e;rw[e]at hkl;simp at hkl);obtain⟨q0,q1⟩:=hat k hkl;have hb2:0≤(k:Int)∧(k:Int)<(n:Int):=by omega
    have HX:Hid (l++(P.take k).map Prod.fst++[(P.getD k putNone).1]=l++(P.take (k+1)).map Prod.fst):=η (by
     rw[List.take_add_one,List.map_append,List.append_assoc];congr 2
     simp[List.getD,hkl])
    have hlen:(l++(P.take k).map Prod.fst).length≤1000000:=by
     rw[List.length_append,List.length_map,List.length_take];omega
    obtain⟨y,hy⟩:=ε ((P.getD k putNone).1);obtain⟨z,hz⟩:=ε ((P.getD k putNone).2);rw[←hy]at q0 HX;rw[←hz]at q1;have HLEN:=η hlen;clear hat hy hz hlen;have e1:(wr.alloc (.cells #[.string y,.string z] 45)).heap.size=wr.heap.size+1:=by simp
    have T2:=η ((Turn.alloc [] wr (.cells #[.string y,.string z] 45)).trans (Turn.alloc [] _ (.cells #[.string y] 9)));have R2:=η (ownsRow_turn HR.out T2.out)
    have Q2:Hid (((wr.alloc (.cells #[.string y,.string z] 45)).alloc (.cells #[.string y] 9)).cell? ⟨wr.heap.size+1,0,none⟩=some (.string y)):=η (by
     rw[←e1,World.cell?_alloc_at (hn:=rfl)]
     rfl)
    have LO:=η (row_lo10 R2.out);have SB:Hid (w0.heap.size≤((wr.alloc (.cells #[.string y,.string z] 45)).alloc (.cells #[.string y] 9)).heap.size):=η (HT.out.trans T2.out).size;clear e1;go_wp2_with(at_builtin;refine append_text rfl (.tmp 13) (.tmp 16) rfl w0.heap.size u _ rfl R2.out SB.out (wr.heap.size+1) y rfl Q2.out HLEN.out ?_;intro v1 w1 r1 g1 o1);rw[HX.out]at r1;have R3:=η r1;have T3:=η ((HT.out.trans T2.out).trans (Turn.grown (l:=u.ownBlock.toList) g1 (fun k hk=>.inl (by simp[hk]))) (fun i hi=>.inr (LO.out i (by simpa using hi))));clear r1 g1 o1;go_wp2_with fail;go_roundw
    case rel=>exact⟨k+1,_,by omega,by go_num,rfl,R3.out,T3.out⟩
    case measure=>simp[intOf];omega
  · have hkk:k=n:=by omega
    have HF:Hid (P.take k=P):=η (List.take_of_length_le (by rw[hkk,HN.out];exact Nat.le_refl _));rw[HF.out]at HR;clear HF hkk;go_wp2_with fail;go_ret;exact⟨_,rfl,HR.out,HT.out⟩
def namesL (s:StV) (M:List (ByteArray×ByteArray)):List ByteArray:=s.ms.map MsgV.queue++s.waits.flatMap (fun x=>x.puts.map Prod.fst)++M.map Prod.fst
theorem pend_sum (l:List BrV) (k:Nat):((l.take k).flatMap (fun x:BrV=>x.puts.map Prod.fst)).length≤(l.map fun x:BrV=>x.puts.length).sum:=by
 induction l generalizing k with
 | nil=>simp
 | cons x l ih=>
  cases k with
  | zero=>simp
  | succ k=>
   rw[List.take_succ_cons,List.flatMap_cons,List.length_append,List.map_cons,List.sum_cons,List.length_map];have:=ih k;omega
theorem names_calls {w:World} {a:Ads} {s:StV} (h:StIs w a s) {am:Option Addr} {cm:Nat} {M:List (ByteArray×ByteArray)} (hm:Ps w am cm M) (hn:s.ms.length+pending s+M.length≤1000000):
 Calls Tryz.prog 85 #[.agg (s.cells a),.slice am M.length cm] w fun e w'=>∃v,e=.returned v∧w'.ownsRow w.heap.size 9 1 v (namesL s M).length (txs (namesL s M))∧Turn [] w w':=by
 have HMS:=η h.ms;have hlen:=h.ms.len;have hlenw:=h.waits.len;obtain⟨L,hL,hT,hI⟩:=h.waits;have HL:=η hL;have HTW:=η hT;have HIW:=η hI;have HM:=η hm;have hpe:pending s=(s.waits.map fun x:BrV=>x.puts.length).sum:=rfl;have HPE:=η hpe;have HSUM:=η hn;obtain⟨n,hnn⟩:=ε s.ms.length;obtain⟨m,hmm⟩:=ε s.waits.length;have HN:=η hnn;have HMM:=η hmm;have hsz:n≤1000000:=by omega
 have T0:=η (Turn.alloc [] w (.cells (s.cells a) 27));have BX:=η (fun wx (tt:Turn [] (w.alloc (.cells (s.cells a) 27)) wx)=>s.boxed a tt);have BX0:=BX.out _ (Turn.refl _ _);unfold StV.cells at BX0 BX T0 ⊢;rw[←hnn,←hmm]at BX0 BX T0 ⊢;rw[←hnn]at hlen;rw[←hmm]at hlenw;clear hnn hmm hL hT hI hm hpe hn h;obtain⟨b0,b1,b2,b3,b4,b5,b6,b7,b8⟩:=BX0;go_in;go_wp2_with fail;generalize hx0:w.alloc (.cells #[.int .i64 s.broker,.int .i64 s.nextId,.int .i64 s.nextSeq,.int .i64 s.tx,.slice a.m n a.cm,.slice a.w m a.cw,.slice a.e s.ends.length a.ce,.slice a.o s.open_.length a.co,.slice a.n s.noes.length a.cn] 27)=x0 at*;have CA:=η (fun(wx:World) (v:Value) (l:List ByteArray) (t:Turn [] x0 wx) (hv:wx.ownsRow x0.heap.size 9 1 v l.length (txs l)) (ap:Option Addr) (cp:Nat) (P:List (ByteArray×ByteArray)) (hp:Ps x0 ap cp P) (hb:l.length+P.length≤1000000)=>appendQueues_calls t hv hp hb);have HI0:=η (fun x hx=>(HIW.out x hx).turn T0.out);have HM0:=η (HM.out.turn T0.out);clear HIW HM;clear hx0 b0 b1 b2 b3 b4 b5 b6 b7 b8;go_loopw [13,5] (fun vi vv wx=>∃(k:Nat) (u:Value),k≤n∧vi=.int .i64 (k:Int)∧u=vv∧wx.ownsRow x0.heap.size 9 1 u ((s.ms.take k).map MsgV.queue).length (txs ((s.ms.take k).map MsgV.queue))∧Turn [] x0 wx) (fun vi _ _=>n-(intOf vi).toNat)
 case atStart=>exact⟨0,_,by omega,rfl,rfl,by simpa[txs]using World.ownsRow_nil _ _ _ _,Turn.refl _ _⟩
 case round=>
  obtain⟨k,u,hk,rfl,rfl,hrow,ht⟩:=hrel;have HT:=η ht;have HR:=η hrow;clear hrow ht;by_cases hkn:k<n
  · have hkl:k<s.ms.length:=by rw[←HN.out];exact hkn
    obtain⟨x,hx⟩:∃x,s.ms[k]?=some x:=⟨_,List.getElem?_eq_getElem hkl⟩
    obtain⟨b,off,hae,hat⟩:=(HMS.out.still (T0.out.trans HT.out)).at hx;have HAE:=η hae;have q0:=hat 0 (.int .i64 x.id) rfl;have q1:=hat 1 (.string x.queue) rfl;have q2:=hat 2 (.string x.body) rfl;have q3:=hat 3 (.int .i64 x.seq) rfl;have q4:=hat 4 (.int .i64 x.count) rfl;have q5:=hat 5 (.int .i64 x.by_) rfl;rw[Nat.add_zero]at q0;have hb2:0≤(k:Int)∧(k:Int)<(n:Int):=by omega
    have HX:Hid ((s.ms.take k).map MsgV.queue++[x.queue]=(s.ms.take (k+1)).map MsgV.queue):=η (by
     rw[List.take_add_one,List.map_append,hx]
     rfl)
    have hl1:((s.ms.take k).map MsgV.queue).length≤1000000:=by
     rw[List.length_map,List.length_take];omega
    have HLEN:=η hl1;obtain⟨i1,y,z,sq,cn,by1⟩:=x;dsimp only at q0 q1 q2 q3 q4 q5 HX;have W1:=Turn.alloc [] wr (.cells #[.int .i64 i1,.string y,.string z,.int .i64 sq,.int .i64 cn,.int .i64 by1] 49);have e1:(wr.alloc (.cells #[.int .i64 i1,.string y,.string z,.int .i64 sq,.int .i64 cn,.int .i64 by1] 49)).heap.size=wr.heap.size+1:=by simp
    have T2:=η (W1.trans (Turn.alloc [] _ (.cells #[.string y] 9)));have R2:=η (ownsRow_turn HR.out T2.out)
    have Q2:Hid (((wr.alloc (.cells #[.int .i64 i1,.string y,.string z,.int .i64 sq,.int .i64 cn,.int .i64 by1] 49)).alloc (.cells #[.string y] 9)).cell? ⟨wr.heap.size+1,0,none⟩=some (.string y)):=η (by
     rw[←e1,World.cell?_alloc_at (hn:=rfl)]
     rfl)
    have LO:=η (row_lo10 R2.out);have SB:Hid (x0.heap.size≤((wr.alloc (.cells #[.int .i64 i1,.string y,.string z,.int .i64 sq,.int .i64 cn,.int .i64 by1] 49)).alloc (.cells #[.string y] 9)).heap.size):=η (HT.out.trans T2.out).size;clear e1 hat hx hae W1 hl1;have BB:=BX.out _ HT.out;obtain⟨b0,b1,b2,b3,b4,b5,b6,b7,b8⟩:=BB;clear b0 b1 b2 b3 b5 b6 b7 b8;have a0:a.m=some ⟨b,off,none⟩:=HAE.out;rw[a0]at b4 ⊢;go_wp2_with(at_builtin;refine append_text rfl (.tmp 17) (.tmp 20) rfl x0.heap.size u _ rfl R2.out SB.out (wr.heap.size+1) y rfl Q2.out HLEN.out ?_;intro v1 w1 r1 g1 o1);rw[HX.out]at r1;have R3:=η r1;have T3:=η ((HT.out.trans T2.out).trans (Turn.grown (l:=u.ownBlock.toList) g1 (fun k hk=>.inl (by simp[hk]))) (fun i hi=>.inr (LO.out i (by simpa using hi))));clear r1 g1 o1 a0;go_wp2_with fail;go_roundw
    case rel=>exact⟨k+1,_,by omega,by go_num,rfl,R3.out,T3.out⟩
    case measure=>simp[intOf];omega
  · have hkk:k=n:=by omega
    have HF:Hid (s.ms.take k=s.ms):=η (List.take_of_length_le (by rw[hkk,HN.out];exact Nat.le_refl _))
    have HR0:Hid (wr.ownsRow x0.heap.size 9 1 u (s.ms.map MsgV.queue++(s.waits.take 0).flatMap (fun x=>x.puts.map Prod.fst)).length (txs (s.ms.map MsgV.queue++(s.waits.take 0).flatMap (fun x=>x.puts.map Prod.fst)))):=η (by
     have:=HR.out;rw[HF.out]at this
     simpa using this)
    obtain⟨b0,b1,b2,b3,b4,b5,b6,b7,b8⟩:=BX.out _ HT.out;clear HF HR b0 b1 b2 b3 b4 b6 b7 b8;subst hkk;go_wp2_with fail;clear b5;have HT1:=η HT.out;go_loopw [26,5] (fun vi vv wx=>∃(j:Nat) (u:Value),j≤m∧vi=.int .i64 (j:Int)∧u=vv∧wx.ownsRow x0.heap.size 9 1 u (s.ms.map MsgV.queue++(s.waits.take j).flatMap (fun x=>x.puts.map Prod.fst)).length (txs (s.ms.map MsgV.queue++(s.waits.take j).flatMap (fun x=>x.puts.map Prod.fst)))∧Turn [] x0 wx) (fun vi _ _=>m-(intOf vi).toNat)
    case atStart=>exact⟨0,u,by omega,rfl,rfl,HR0.out,HT1.out⟩
    case round=>
     clear HT1 HR0 HT;obtain⟨j,u2,hj,rfl,rfl,hrow,ht⟩:=hrel;have HT:=η ht;have HR:=η hrow;clear hrow ht;by_cases hjm:j<m
     · have hjl0:j<s.waits.length:=by rw[←HMM.out];exact hjm
       have hjl:j<L.length:=by rw[←List.length_map (f:=Lay.v),HL.out];exact hjl0
       obtain⟨x,hx⟩:∃x,L[j]?=some x:=⟨_,List.getElem?_eq_getElem hjl⟩
       have hlx:s.waits[j]?=some x.v:=by rw[←HL.out,List.getElem?_map,hx];rfl
       obtain⟨b,off,hae,hat⟩:=(HTW.out.still (T0.out.trans HT.out)).at hx;have q0:=hat 0 (.int .i64 x.v.tid) rfl;have q1:=hat 1 (.slice x.ao x.v.puts.length x.c) rfl;rw[Nat.add_zero]at q0;have hb2:0≤(j:Int)∧(j:Int)<(m:Int):=by omega
       have HX:Hid (s.ms.map MsgV.queue++(s.waits.take j).flatMap (fun x=>x.puts.map Prod.fst)++x.v.puts.map Prod.fst=s.ms.map MsgV.queue++(s.waits.take (j+1)).flatMap (fun x=>x.puts.map Prod.fst)):=η (by
        rw[List.take_add_one,List.flatMap_append,hlx,List.append_assoc]
        simp)
       have hl1:(s.ms.map MsgV.queue++(s.waits.take j).flatMap (fun x=>x.puts.map Prod.fst)).length+x.v.puts.length≤1000000:=by
        have e1:=congrArg List.length HX.out;have e2:=pend_sum s.waits (j+1);have e3:=HSUM.out;rw[HPE.out]at e3;simp only[List.length_append,List.length_map]at e1 ⊢;omega
       have CA1:=η (fun wx t hv=>CA.out wx u2 _ t hv x.ao x.c x.v.puts (HI0.out x (List.mem_of_getElem? hx)) hl1);have e1:=Turn.alloc [] wr (.cells #[.int .i64 x.v.tid,.slice x.ao x.v.puts.length x.c] 81);have T2:=η (HT.out.trans e1);have R2:=η (ownsRow_turn HR.out e1);obtain⟨b0,b1,b2,b3,b4,b5,b6,b7,b8⟩:=BX.out _ HT.out;have a0:a.w=some ⟨b,off,none⟩:=hae;rw[a0];obtain⟨np,hnp⟩:=ε x.v.puts.length;rw[←hnp]at q1 CA1 T2 R2;clear b0 b1 b2 b3 b4 b5 b6 b7 b8 hat hae hlx hx hl1 e1 hnp;go_wp2_with fail;refine(CA1.out _ T2.out R2.out).mono ?_;rintro e x3 ⟨v3,rfl,r3,t3⟩;rw[HX.out]at r3;have R3:=η r3;have T3:=η t3;clear r3 t3 CA1 R2 T2;go_wp2_with fail;go_roundw
       case rel=>exact⟨j+1,_,by omega,by go_num,rfl,R3.out,T3.out⟩
       case measure=>simp[intOf];omega
     · have hjj:j=m:=by omega
       have HF:Hid (s.waits.take j=s.waits):=η (List.take_of_length_le (by rw[hjj,HMM.out];exact Nat.le_refl _));rw[HF.out]at HR
       have CA1:=η (CA.out wr u2 _ HT.out HR.out am cm M HM0.out (by
        have e2:=pend_sum s.waits s.waits.length;rw[List.take_length]at e2;have e3:=HSUM.out;rw[HPE.out]at e3;simp only[List.length_append,List.length_map]
        omega))
       clear HF;go_wp2_with fail;refine CA1.out.mono ?_;rintro e x3 ⟨v3,rfl,r3,t3⟩;have R3:=η r3;have T3:=η t3;clear r3 t3 CA1;go_wp2_with fail;go_ret;exact⟨_,rfl,row_own10 R3.out T0.out.size,T0.out.trans T3.out⟩
theorem flat_le {α:Type} (f:α→List UInt8) (l:List α) {m:Nat} (h:∀x∈l,(f x).length≤m):(l.flatMap f).length≤l.length*m:=by
 induction l with
 | nil=>simp
 | cons x l ih=>
  rw[List.flatMap_cons,List.length_append,List.length_cons,Nat.add_mul,Nat.one_mul];have h1:=h x (by simp);have h2:=ih (fun y hy=>h y (by simp[hy]));omega
theorem layMessage_enter (args:Array Value) (w:World):(callFunc 106 args).run Tryz.prog w=.ok (.enter 106 args) w:=
 enter_run Tryz.func106 (by kernel_rfl) (by kernel_rfl) args w
theorem layMessages_calls {w0 w:World} (t0:Turn [] w0 w) {v:Value} {l:List UInt8} (hv:w.ownsRow w0.heap.size 5 1 v l.length (u8s l)) {ao:Option Addr} {c:Nat} {L:List (MsgV)} (hL:Tl 6 msgC w0 ao c L) (fb:MsgV→List UInt8)
 (CL:∀x∈L,∀wx p,Turn [] w0 wx→OutIs wx ⟨p,0,none⟩ []→Calls Tryz.prog 106 #[.pointer (some ⟨p,0,none⟩),.agg (msgC x).toArray] wx fun e w'=>e=.returned (.tuple #[])∧OutIs w' ⟨p,0,none⟩ (fb x)∧OnlyN ⟨p,0,none⟩ wx w')
 (hb:l.length≤1000000000) (hn:L.length≤100000) (hx:∀x∈L,(fb x).length≤100000):
 Calls Tryz.prog 105 #[v,.slice ao L.length c,.func (.func 106) #[] #[]] w fun e w'=>∃v',e=.returned v'∧w'.ownsRow w0.heap.size 5 1 v' (l++listB fb L).length (u8s (l++listB fb L))∧Turn [] w0 w':=by
 have HL:=η hL;have HV:=η hv;have H0:=η t0;have HCL:=η CL;have HFX:=η hx;have EN:=layMessage_enter;have hlen:=hL.len;obtain⟨n,hnn⟩:=ε L.length;have HN:=η hnn;have C0:=η (fun wx p (o:OutIs wx ⟨p,0,none⟩ [])=>small_out p 0 [] (L.length:Int) wx o (by simp));have NO:=η (OutIs.new w 184);have SZ0:=η t0.size;have HBB:=η hb;rw[←hnn]at C0 hlen hn ⊢;clear hL hv t0 CL hx hnn;go_in;go_wp2_with fail;refine(C0.out _ _ NO.out).mono ?_;rintro e x1 ⟨rfl,o1,n1⟩;rw[List.nil_append]at o1;obtain⟨a1,c1,k1,s1,-⟩:=o1;have ta:Turn [] w x1:=(Turn.alloc [] w _).trans n1.turn (fun i hi=>.inr (by simp at hi;omega));have TA:=η ta;have R1:=η (ownsRow_turn HV.out ta);have S1:=η s1;have K1:=k1;have LO:=η (row_lo10 R1.out);have SB:Hid (w0.heap.size≤x1.heap.size):=η (Nat.le_trans SZ0.out ta.size);have HS2:Hid ((smallB (n:Int)).length=2):=η (smallB_len _);obtain⟨sm,hsm⟩:=ε (smallB (n:Int));have HSM:=η hsm;rw[←hsm]at k1 S1 HS2;rw[HS2.out]at k1;clear n1 s1 ta K1 hsm C0 NO;go_wp2_with(at_builtin;refine append_bytes rfl (.tmp 14) (.tmp 16) rfl w0.heap.size v l rfl R1.out a1 c1 sm (by rw[HS2.out];rfl) S1.out (by have:=HBB.out;have:=HS2.out;omega) SB.out ?_;intro v2 w2 r2 g2 e2);have R2:Hid (w2.ownsRow w0.heap.size 5 1 v2 (l++(sm++(L.take 0).flatMap fb)).length (u8s (l++(sm++(L.take 0).flatMap fb)))):=η (by simpa using r2);have T2:=η ((H0.out.trans TA.out).trans (Turn.grown (l:=v.ownBlock.toList) g2 (fun k hk=>.inl (by simp[hk]))) (fun i hi=>.inr (LO.out i (by simpa using hi))));clear r2 g2 e2 k1 S1 R1 LO SB;go_loopw [20,0] (fun vi vv wx=>∃(k:Nat) (u:Value),k≤n∧vi=.int .i64 (k:Int)∧u=vv∧wx.ownsRow w0.heap.size 5 1 u (l++(sm++(L.take k).flatMap fb)).length (u8s (l++(sm++(L.take k).flatMap fb)))∧Turn [] w0 wx) (fun vi _ _=>n-(intOf vi).toNat)
 case atStart=>exact⟨0,v2,by omega,rfl,rfl,R2.out,T2.out⟩
 case round=>
  clear R2 T2;obtain⟨k,u,hk,rfl,rfl,hrow,ht⟩:=hrel;have HT:=η ht;have HR:=η hrow;clear hrow ht;by_cases hkn:k<n
  · have hkl:k<L.length:=by rw[←HN.out];exact hkn
    obtain⟨x,hx⟩:∃x,L[k]?=some x:=⟨_,List.getElem?_eq_getElem hkl⟩
    obtain⟨b,off,hae,hat⟩:=(HL.out.still HT.out).at hx;have hb2:0≤(k:Int)∧(k:Int)<(n:Int):=by omega
    have HX:Hid (l++(sm++(L.take k).flatMap fb)++fb x=l++(sm++(L.take (k+1)).flatMap fb)):=η (by
     rw[List.take_add_one,List.flatMap_append,hx,List.append_assoc,List.append_assoc]
     simp)
    have HLB:Hid ((l++(sm++(L.take k).flatMap fb)).length+(fb x).length≤140737488355328):=η (by
     have h1:=flat_le fb (L.take k) (m:=100000) (fun y hy=>HFX.out y (List.mem_of_mem_take hy));have h2:=HFX.out x (List.mem_of_getElem? hx);have h3:=HBB.out;have h4:=HS2.out;have h5:(L.take k).length≤100000:=by rw[List.length_take];omega
     have h6:(L.take k).length*100000≤100000*100000:=Nat.mul_le_mul_right _ h5;simp only[List.length_append]
     omega)
    have CX:=η (HCL.out x (List.mem_of_getElem? hx));have a0:ao=some ⟨b,off,none⟩:=hae;have q0:=hat 0 (.int .i64 x.id) rfl;have q1:=hat 1 (.string x.queue) rfl;have q2:=hat 2 (.string x.body) rfl;have q3:=hat 3 (.int .i64 x.seq) rfl;have q4:=hat 4 (.int .i64 x.count) rfl;have q5:=hat 5 (.int .i64 x.by_) rfl;rw[Nat.add_zero]at q0;obtain⟨v0,v1,v2',v3,v4,v5⟩:=x;unfold msgC at CX;dsimp only at q0 q1 q2 q3 q4 q5 CX;clear hat hae hx;rw[a0];have TB:=η (Turn.alloc [] wr (.cells #[.int .i64 v0,.string v1,.string v2',.int .i64 v3,.int .i64 v4,.int .i64 v5] 49));have NO2:=η (OutIs.new (wr.alloc (.cells #[.int .i64 v0,.string v1,.string v2',.int .i64 v3,.int .i64 v4,.int .i64 v5] 49)) 184);have TO:=η (Turn.alloc [] (wr.alloc (.cells #[.int .i64 v0,.string v1,.string v2',.int .i64 v3,.int .i64 v4,.int .i64 v5] 49)) (.cells #[.slice none 0 0] 184));have e1:(wr.alloc (.cells #[.int .i64 v0,.string v1,.string v2',.int .i64 v3,.int .i64 v4,.int .i64 v5] 49)).heap.size=wr.heap.size+1:=by simp
    rw[e1]at NO2;have TBC:=TO.out.heap (heap_alloc_new wr _);obtain⟨h0,h1,h2,h3,h4,h5⟩:=six_of10 TBC;have TBT:=η (TB.out.trans TO.out);clear TBC e1 a0;go_wp2_with fail;refine(CX.out _ (wr.heap.size+1) (HT.out.trans TBT.out) NO2.out).mono ?_;rintro e x3 ⟨rfl,o3,n3⟩;obtain⟨a3,c3,k3,s3,-⟩:=o3;have T3:=η (TBT.out.trans n3.turn (fun i hi=>.inr (by simp at hi;omega)));have R3:=η (ownsRow_turn HR.out T3.out);have S3:=η s3;have LO:=η (row_lo10 R3.out);have SB:Hid (w0.heap.size≤x3.heap.size):=η (HT.out.trans T3.out).size;clear n3 s3 CX NO2 TB TO TBT h0 q0 h1 q1 h2 q2 h3 q3 h4 q4 h5 q5;go_wp2_with(at_builtin;refine append_bytes rfl (.tmp 27) (.tmp 29) rfl w0.heap.size u _ rfl R3.out a3 c3 _ rfl S3.out HLB.out SB.out ?_;intro v4 w4 r4 g4 e4);rw[HX.out]at r4;have R4:=η r4;have T4:=η ((HT.out.trans T3.out).trans (Turn.grown (l:=u.ownBlock.toList) g4 (fun k hk=>.inl (by simp[hk]))) (fun i hi=>.inr (LO.out i (by simpa using hi))));clear r4 g4 e4;go_wp2_with fail;go_roundw
    case rel=>exact⟨k+1,_,by omega,by go_num,rfl,R4.out,T4.out⟩
    case measure=>simp[intOf];omega
  · have hkk:k=n:=by omega
    have HF:Hid (l++(sm++(L.take k).flatMap fb)=l++listB fb L):=η (by
     rw[List.take_of_length_le (by rw[hkk,HN.out];exact Nat.le_refl _),HSM.out,HN.out]
     rfl)
    rw[HF.out]at HR;clear HF hkk;go_wp2_with fail;go_ret;exact⟨_,rfl,HR.out,HT.out⟩
theorem layWait_enter (args:Array Value) (w:World):(callFunc 108 args).run Tryz.prog w=.ok (.enter 108 args) w:=
 enter_run Tryz.func108 (by kernel_rfl) (by kernel_rfl) args w
theorem layWaits_calls {w0 w:World} (t0:Turn [] w0 w) {v:Value} {l:List UInt8} (hv:w.ownsRow w0.heap.size 5 1 v l.length (u8s l)) {ao:Option Addr} {c:Nat} {L:List (Lay BrV)} (hL:Tl 2 brC w0 ao c L) (fb:Lay BrV→List UInt8)
 (CL:∀x∈L,∀wx p,Turn [] w0 wx→OutIs wx ⟨p,0,none⟩ []→Calls Tryz.prog 108 #[.pointer (some ⟨p,0,none⟩),.agg (brC x).toArray] wx fun e w'=>e=.returned (.tuple #[])∧OutIs w' ⟨p,0,none⟩ (fb x)∧OnlyN ⟨p,0,none⟩ wx w')
 (hb:l.length≤1000000000) (hn:L.length≤100000) (hx:∀x∈L,(fb x).length≤100000):
 Calls Tryz.prog 107 #[v,.slice ao L.length c,.func (.func 108) #[] #[]] w fun e w'=>∃v',e=.returned v'∧w'.ownsRow w0.heap.size 5 1 v' (l++listB fb L).length (u8s (l++listB fb L))∧Turn [] w0 w':=by
 have HL:=η hL;have HV:=η hv;have H0:=η t0;have HCL:=η CL;have HFX:=η hx;have EN:=layWait_enter;have hlen:=hL.len;obtain⟨n,hnn⟩:=ε L.length;have HN:=η hnn;have C0:=η (fun wx p (o:OutIs wx ⟨p,0,none⟩ [])=>small_out p 0 [] (L.length:Int) wx o (by simp));have NO:=η (OutIs.new w 184);have SZ0:=η t0.size;have HBB:=η hb;rw[←hnn]at C0 hlen hn ⊢;clear hL hv t0 CL hx hnn;go_in;go_wp2_with fail;refine(C0.out _ _ NO.out).mono ?_;rintro e x1 ⟨rfl,o1,n1⟩;rw[List.nil_append]at o1;obtain⟨a1,c1,k1,s1,-⟩:=o1;have ta:Turn [] w x1:=(Turn.alloc [] w _).trans n1.turn (fun i hi=>.inr (by simp at hi;omega));have TA:=η ta;have R1:=η (ownsRow_turn HV.out ta);have S1:=η s1;have K1:=k1;have LO:=η (row_lo10 R1.out);have SB:Hid (w0.heap.size≤x1.heap.size):=η (Nat.le_trans SZ0.out ta.size);have HS2:Hid ((smallB (n:Int)).length=2):=η (smallB_len _);obtain⟨sm,hsm⟩:=ε (smallB (n:Int));have HSM:=η hsm;rw[←hsm]at k1 S1 HS2;rw[HS2.out]at k1;clear n1 s1 ta K1 hsm C0 NO;go_wp2_with(at_builtin;refine append_bytes rfl (.tmp 14) (.tmp 16) rfl w0.heap.size v l rfl R1.out a1 c1 sm (by rw[HS2.out];rfl) S1.out (by have:=HBB.out;have:=HS2.out;omega) SB.out ?_;intro v2 w2 r2 g2 e2);have R2:Hid (w2.ownsRow w0.heap.size 5 1 v2 (l++(sm++(L.take 0).flatMap fb)).length (u8s (l++(sm++(L.take 0).flatMap fb)))):=η (by simpa using r2);have T2:=η ((H0.out.trans TA.out).trans (Turn.grown (l:=v.ownBlock.toList) g2 (fun k hk=>.inl (by simp[hk]))) (fun i hi=>.inr (LO.out i (by simpa using hi))));clear r2 g2 e2 k1 S1 R1 LO SB;go_loopw [20,0] (fun vi vv wx=>∃(k:Nat) (u:Value),k≤n∧vi=.int .i64 (k:Int)∧u=vv∧wx.ownsRow w0.heap.size 5 1 u (l++(sm++(L.take k).flatMap fb)).length (u8s (l++(sm++(L.take k).flatMap fb)))∧Turn [] w0 wx) (fun vi _ _=>n-(intOf vi).toNat)
 case atStart=>exact⟨0,v2,by omega,rfl,rfl,R2.out,T2.out⟩
 case round=>
  clear R2 T2;obtain⟨k,u,hk,rfl,rfl,hrow,ht⟩:=hrel;have HT:=η ht;have HR:=η hrow;clear hrow ht;by_cases hkn:k<n
  · have hkl:k<L.length:=by rw[←HN.out];exact hkn
    obtain⟨x,hx⟩:∃x,L[k]?=some x:=⟨_,List.getElem?_eq_getElem hkl⟩
    obtain⟨b,off,hae,hat⟩:=(HL.out.still HT.out).at hx;have hb2:0≤(k:Int)∧(k:Int)<(n:Int):=by omega
    have HX:Hid (l++(sm++(L.take k).flatMap fb)++fb x=l++(sm++(L.take (k+1)).flatMap fb)):=η (by
     rw[List.take_add_one,List.flatMap_append,hx,List.append_assoc,List.append_assoc]
     simp)
    have HLB:Hid ((l++(sm++(L.take k).flatMap fb)).length+(fb x).length≤140737488355328):=η (by
     have h1:=flat_le fb (L.take k) (m:=100000) (fun y hy=>HFX.out y (List.mem_of_mem_take hy));have h2:=HFX.out x (List.mem_of_getElem? hx);have h3:=HBB.out;have h4:=HS2.out;have h5:(L.take k).length≤100000:=by rw[List.length_take];omega
     have h6:(L.take k).length*100000≤100000*100000:=Nat.mul_le_mul_right _ h5;simp only[List.length_append]
     omega)
    have CX:=η (HCL.out x (List.mem_of_getElem? hx));have a0:ao=some ⟨b,off,none⟩:=hae;have q0:=hat 0 (.int .i64 x.v.tid) rfl;have q1:=hat 1 (.slice x.ao x.v.puts.length x.c) rfl;rw[Nat.add_zero]at q0;obtain⟨v0,hv0⟩:=ε x.v.tid;obtain⟨n1,hn1⟩:=ε x.v.puts.length;unfold brC at CX;rw[←hv0]at q0 CX;rw[←hn1]at q1 CX;clear hv0 hn1;clear hat hae hx;rw[a0];have TB:=η (Turn.alloc [] wr (.cells #[.int .i64 v0,.slice x.ao n1 x.c] 81));have NO2:=η (OutIs.new (wr.alloc (.cells #[.int .i64 v0,.slice x.ao n1 x.c] 81)) 184);have TO:=η (Turn.alloc [] (wr.alloc (.cells #[.int .i64 v0,.slice x.ao n1 x.c] 81)) (.cells #[.slice none 0 0] 184));have e1:(wr.alloc (.cells #[.int .i64 v0,.slice x.ao n1 x.c] 81)).heap.size=wr.heap.size+1:=by simp
    rw[e1]at NO2;have TBC:=TO.out.heap (heap_alloc_new wr _);obtain⟨h0,h1⟩:=two_of10 TBC;have TBT:=η (TB.out.trans TO.out);clear TBC e1 a0;go_wp2_with fail;refine(CX.out _ (wr.heap.size+1) (HT.out.trans TBT.out) NO2.out).mono ?_;rintro e x3 ⟨rfl,o3,n3⟩;obtain⟨a3,c3,k3,s3,-⟩:=o3;have T3:=η (TBT.out.trans n3.turn (fun i hi=>.inr (by simp at hi;omega)));have R3:=η (ownsRow_turn HR.out T3.out);have S3:=η s3;have LO:=η (row_lo10 R3.out);have SB:Hid (w0.heap.size≤x3.heap.size):=η (HT.out.trans T3.out).size;clear n3 s3 CX NO2 TB TO TBT h0 q0 h1 q1;go_wp2_with(at_builtin;refine append_bytes rfl (.tmp 27) (.tmp 29) rfl w0.heap.size u _ rfl R3.out a3 c3 _ rfl S3.out HLB.out SB.out ?_;intro v4 w4 r4 g4 e4);rw[HX.out]at r4;have R4:=η r4;have T4:=η ((HT.out.trans T3.out).trans (Turn.grown (l:=u.ownBlock.toList) g4 (fun k hk=>.inl (by simp[hk]))) (fun i hi=>.inr (LO.out i (by simpa using hi))));clear r4 g4 e4;go_wp2_with fail;go_roundw
    case rel=>exact⟨k+1,_,by omega,by go_num,rfl,R4.out,T4.out⟩
    case measure=>simp[intOf];omega
  · have hkk:k=n:=by omega
    have HF:Hid (l++(sm++(L.take k).flatMap fb)=l++listB fb L):=η (by
     rw[List.take_of_length_le (by rw[hkk,HN.out];exact Nat.le_refl _),HSM.out,HN.out]
     rfl)
    rw[HF.out]at HR;clear HF hkk;go_wp2_with fail;go_ret;exact⟨_,rfl,HR.out,HT.out⟩
theorem layEnd_enter (args:Array Value) (w:World):(callFunc 110 args).run Tryz.prog w=.ok (.enter 110 args) w:=
 enter_run Tryz.func110 (by kernel_rfl) (by kernel_rfl) args w
theorem layEnds_calls {w0 w:World} (t0:Turn [] w0 w) {v:Value} {l:List UInt8} (hv:w.ownsRow w0.heap.size 5 1 v l.length (u8s l)) {ao:Option Addr} {c:Nat} {L:List (EndV)} (hL:Tl 2 endC w0 ao c L) (fb:EndV→List UInt8)
 (CL:∀x∈L,∀wx p,Turn [] w0 wx→OutIs wx ⟨p,0,none⟩ []→Calls Tryz.prog 110 #[.pointer (some ⟨p,0,none⟩),.agg (endC x).toArray] wx fun e w'=>e=.returned (.tuple #[])∧OutIs w' ⟨p,0,none⟩ (fb x)∧OnlyN ⟨p,0,none⟩ wx w')
 (hb:l.length≤1000000000) (hn:L.length≤100000) (hx:∀x∈L,(fb x).length≤100000):
 Calls Tryz.prog 109 #[v,.slice ao L.length c,.func (.func 110) #[] #[]] w fun e w'=>∃v',e=.returned v'∧w'.ownsRow w0.heap.size 5 1 v' (l++listB fb L).length (u8s (l++listB fb L))∧Turn [] w0 w':=by
 have HL:=η hL;have HV:=η hv;have H0:=η t0;have HCL:=η CL;have HFX:=η hx;have EN:=layEnd_enter;have hlen:=hL.len;obtain⟨n,hnn⟩:=ε L.length;have HN:=η hnn;have C0:=η (fun wx p (o:OutIs wx ⟨p,0,none⟩ [])=>small_out p 0 [] (L.length:Int) wx o (by simp));have NO:=η (OutIs.new w 184);have SZ0:=η t0.size;have HBB:=η hb;rw[←hnn]at C0 hlen hn ⊢;clear hL hv t0 CL hx hnn;go_in;go_wp2_with fail;refine(C0.out _ _ NO.out).mono ?_;rintro e x1 ⟨rfl,o1,n1⟩;rw[List.nil_append]at o1;obtain⟨a1,c1,k1,s1,-⟩:=o1;have ta:Turn [] w x1:=(Turn.alloc [] w _).trans n1.turn (fun i hi=>.inr (by simp at hi;omega));have TA:=η ta;have R1:=η (ownsRow_turn HV.out ta);have S1:=η s1;have K1:=k1;have LO:=η (row_lo10 R1.out);have SB:Hid (w0.heap.size≤x1.heap.size):=η (Nat.le_trans SZ0.out ta.size);have HS2:Hid ((smallB (n:Int)).length=2):=η (smallB_len _);obtain⟨sm,hsm⟩:=ε (smallB (n:Int));have HSM:=η hsm;rw[←hsm]at k1 S1 HS2;rw[HS2.out]at k1;clear n1 s1 ta K1 hsm C0 NO;go_wp2_with(at_builtin;refine append_bytes rfl (.tmp 14) (.tmp 16) rfl w0.heap.size v l rfl R1.out a1 c1 sm (by rw[HS2.out];rfl) S1.out (by have:=HBB.out;have:=HS2.out;omega) SB.out ?_;intro v2 w2 r2 g2 e2);have R2:Hid (w2.ownsRow w0.heap.size 5 1 v2 (l++(sm++(L.take 0).flatMap fb)).length (u8s (l++(sm++(L.take 0).flatMap fb)))):=η (by simpa using r2);have T2:=η ((H0.out.trans TA.out).trans (Turn.grown (l:=v.ownBlock.toList) g2 (fun k hk=>.inl (by simp[hk]))) (fun i hi=>.inr (LO.out i (by simpa using hi))));clear r2 g2 e2 k1 S1 R1 LO SB;go_loopw [20,0] (fun vi vv wx=>∃(k:Nat) (u:Value),k≤n∧vi=.int .i64 (k:Int)∧u=vv∧wx.ownsRow w0.heap.size 5 1 u (l++(sm++(L.take k).flatMap fb)).length (u8s (l++(sm++(L.take k).flatMap fb)))∧Turn [] w0 wx) (fun vi _ _=>n-(intOf vi).toNat)
 case atStart=>exact⟨0,v2,by omega,rfl,rfl,R2.out,T2.out⟩
 case round=>
  clear R2 T2;obtain⟨k,u,hk,rfl,rfl,hrow,ht⟩:=hrel;have HT:=η ht;have HR:=η hrow;clear hrow ht;by_cases hkn:k<n
  · have hkl:k<L.length:=by rw[←HN.out];exact hkn
    obtain⟨x,hx⟩:∃x,L[k]?=some x:=⟨_,List.getElem?_eq_getElem hkl⟩
    obtain⟨b,off,hae,hat⟩:=(HL.out.still HT.out).at hx;have hb2:0≤(k:Int)∧(k:Int)<(n:Int):=by omega
    have HX:Hid (l++(sm++(L.take k).flatMap fb)++fb x=l++(sm++(L.take (k+1)).flatMap fb)):=η (by
     rw[List.take_add_one,List.flatMap_append,hx,List.append_assoc,List.append_assoc]
     simp)
    have HLB:Hid ((l++(sm++(L.take k).flatMap fb)).length+(fb x).length≤140737488355328):=η (by
     have h1:=flat_le fb (L.take k) (m:=100000) (fun y hy=>HFX.out y (List.mem_of_mem_take hy));have h2:=HFX.out x (List.mem_of_getElem? hx);have h3:=HBB.out;have h4:=HS2.out;have h5:(L.take k).length≤100000:=by rw[List.length_take];omega
     have h6:(L.take k).length*100000≤100000*100000:=Nat.mul_le_mul_right _ h5;simp only[List.length_append]
     omega)
    have CX:=η (HCL.out x (List.mem_of_getElem? hx));have a0:ao=some ⟨b,off,none⟩:=hae;have q0:=hat 0 (.int .i64 x.tid) rfl;have q1:=hat 1 (.bool x.yes) rfl;rw[Nat.add_zero]at q0;obtain⟨v0,v1⟩:=x;unfold endC at CX;dsimp only at q0 q1 CX;clear hat hae hx;rw[a0];have TB:=η (Turn.alloc [] wr (.cells #[.int .i64 v0,.bool v1] 61));have NO2:=η (OutIs.new (wr.alloc (.cells #[.int .i64 v0,.bool v1] 61)) 184);have TO:=η (Turn.alloc [] (wr.alloc (.cells #[.int .i64 v0,.bool v1] 61)) (.cells #[.slice none 0 0] 184));have e1:(wr.alloc (.cells #[.int .i64 v0,.bool v1] 61)).heap.size=wr.heap.size+1:=by simp
    rw[e1]at NO2;have TBC:=TO.out.heap (heap_alloc_new wr _);obtain⟨h0,h1⟩:=two_of10 TBC;have TBT:=η (TB.out.trans TO.out);clear TBC e1 a0;go_wp2_with fail;refine(CX.out _ (wr.heap.size+1) (HT.out.trans TBT.out) NO2.out).mono ?_;rintro e x3 ⟨rfl,o3,n3⟩;obtain⟨a3,c3,k3,s3,-⟩:=o3;have T3:=η (TBT.out.trans n3.turn (fun i hi=>.inr (by simp at hi;omega)));have R3:=η (ownsRow_turn HR.out T3.out);have S3:=η s3;have LO:=η (row_lo10 R3.out);have SB:Hid (w0.heap.size≤x3.heap.size):=η (HT.out.trans T3.out).size;clear n3 s3 CX NO2 TB TO TBT h0 q0 h1 q1;go_wp2_with(at_builtin;refine append_bytes rfl (.tmp 27) (.tmp 29) rfl w0.heap.size u _ rfl R3.out a3 c3 _ rfl S3.out HLB.out SB.out ?_;intro v4 w4 r4 g4 e4);rw[HX.out]at r4;have R4:=η r4;have T4:=η ((HT.out.trans T3.out).trans (Turn.grown (l:=u.ownBlock.toList) g4 (fun k hk=>.inl (by simp[hk]))) (fun i hi=>.inr (LO.out i (by simpa using hi))));clear r4 g4 e4;go_wp2_with fail;go_roundw
    case rel=>exact⟨k+1,_,by omega,by go_num,rfl,R4.out,T4.out⟩
    case measure=>simp[intOf];omega
  · have hkk:k=n:=by omega
    have HF:Hid (l++(sm++(L.take k).flatMap fb)=l++listB fb L):=η (by
     rw[List.take_of_length_le (by rw[hkk,HN.out];exact Nat.le_refl _),HSM.out,HN.out]
     rfl)
    rw[HF.out]at HR;clear HF hkk;go_wp2_with fail;go_ret;exact⟨_,rfl,HR.out,HT.out⟩
theorem layPend_enter (args:Array Value) (w:World):(callFunc 112 args).run Tryz.prog w=.ok (.enter 112 args) w:=
 enter_run Tryz.func112 (by kernel_rfl) (by kernel_rfl) args w
theorem layPends_calls {w0 w:World} (t0:Turn [] w0 w) {v:Value} {l:List UInt8} (hv:w.ownsRow w0.heap.size 5 1 v l.length (u8s l)) {ao:Option Addr} {c:Nat} {L:List (Lay PendV)} (hL:Tl 2 pendC w0 ao c L) (fb:Lay PendV→List UInt8)
 (CL:∀x∈L,∀wx p,Turn [] w0 wx→OutIs wx ⟨p,0,none⟩ []→Calls Tryz.prog 112 #[.pointer (some ⟨p,0,none⟩),.agg (pendC x).toArray] wx fun e w'=>e=.returned (.tuple #[])∧OutIs w' ⟨p,0,none⟩ (fb x)∧OnlyN ⟨p,0,none⟩ wx w')
 (hb:l.length≤1000000000) (hn:L.length≤100000) (hx:∀x∈L,(fb x).length≤100000):
 Calls Tryz.prog 111 #[v,.slice ao L.length c,.func (.func 112) #[] #[]] w fun e w'=>∃v',e=.returned v'∧w'.ownsRow w0.heap.size 5 1 v' (l++listB fb L).length (u8s (l++listB fb L))∧Turn [] w0 w':=by
 have HL:=η hL;have HV:=η hv;have H0:=η t0;have HCL:=η CL;have HFX:=η hx;have EN:=layPend_enter;have hlen:=hL.len;obtain⟨n,hnn⟩:=ε L.length;have HN:=η hnn;have C0:=η (fun wx p (o:OutIs wx ⟨p,0,none⟩ [])=>small_out p 0 [] (L.length:Int) wx o (by simp));have NO:=η (OutIs.new w 184);have SZ0:=η t0.size;have HBB:=η hb;rw[←hnn]at C0 hlen hn ⊢;clear hL hv t0 CL hx hnn;go_in;go_wp2_with fail;refine(C0.out _ _ NO.out).mono ?_;rintro e x1 ⟨rfl,o1,n1⟩;rw[List.nil_append]at o1;obtain⟨a1,c1,k1,s1,-⟩:=o1;have ta:Turn [] w x1:=(Turn.alloc [] w _).trans n1.turn (fun i hi=>.inr (by simp at hi;omega));have TA:=η ta;have R1:=η (ownsRow_turn HV.out ta);have S1:=η s1;have K1:=k1;have LO:=η (row_lo10 R1.out);have SB:Hid (w0.heap.size≤x1.heap.size):=η (Nat.le_trans SZ0.out ta.size);have HS2:Hid ((smallB (n:Int)).length=2):=η (smallB_len _);obtain⟨sm,hsm⟩:=ε (smallB (n:Int));have HSM:=η hsm;rw[←hsm]at k1 S1 HS2;rw[HS2.out]at k1;clear n1 s1 ta K1 hsm C0 NO;go_wp2_with(at_builtin;refine append_bytes rfl (.tmp 14) (.tmp 16) rfl w0.heap.size v l rfl R1.out a1 c1 sm (by rw[HS2.out];rfl) S1.out (by have:=HBB.out;have:=HS2.out;omega) SB.out ?_;intro v2 w2 r2 g2 e2);have R2:Hid (w2.ownsRow w0.heap.size 5 1 v2 (l++(sm++(L.take 0).flatMap fb)).length (u8s (l++(sm++(L.take 0).flatMap fb)))):=η (by simpa using r2);have T2:=η ((H0.out.trans TA.out).trans (Turn.grown (l:=v.ownBlock.toList) g2 (fun k hk=>.inl (by simp[hk]))) (fun i hi=>.inr (LO.out i (by simpa using hi))));clear r2 g2 e2 k1 S1 R1 LO SB;go_loopw [20,0] (fun vi vv wx=>∃(k:Nat) (u:Value),k≤n∧vi=.int .i64 (k:Int)∧u=vv∧wx.ownsRow w0.heap.size 5 1 u (l++(sm++(L.take k).flatMap fb)).length (u8s (l++(sm++(L.take k).flatMap fb)))∧Turn [] w0 wx) (fun vi _ _=>n-(intOf vi).toNat)
 case atStart=>exact⟨0,v2,by omega,rfl,rfl,R2.out,T2.out⟩
 case round=>
  clear R2 T2;obtain⟨k,u,hk,rfl,rfl,hrow,ht⟩:=hrel;have HT:=η ht;have HR:=η hrow;clear hrow ht;by_cases hkn:k<n
  · have hkl:k<L.length:=by rw[←HN.out];exact hkn
    obtain⟨x,hx⟩:∃x,L[k]?=some x:=⟨_,List.getElem?_eq_getElem hkl⟩
    obtain⟨b,off,hae,hat⟩:=(HL.out.still HT.out).at hx;have hb2:0≤(k:Int)∧(k:Int)<(n:Int):=by omega
    have HX:Hid (l++(sm++(L.take k).flatMap fb)++fb x=l++(sm++(L.take (k+1)).flatMap fb)):=η (by
     rw[List.take_add_one,List.flatMap_append,hx,List.append_assoc,List.append_assoc]
     simp)
    have HLB:Hid ((l++(sm++(L.take k).flatMap fb)).length+(fb x).length≤140737488355328):=η (by
     have h1:=flat_le fb (L.take k) (m:=100000) (fun y hy=>HFX.out y (List.mem_of_mem_take hy));have h2:=HFX.out x (List.mem_of_getElem? hx);have h3:=HBB.out;have h4:=HS2.out;have h5:(L.take k).length≤100000:=by rw[List.length_take];omega
     have h6:(L.take k).length*100000≤100000*100000:=Nat.mul_le_mul_right _ h5;simp only[List.length_append]
     omega)
    have CX:=η (HCL.out x (List.mem_of_getElem? hx));have a0:ao=some ⟨b,off,none⟩:=hae;have q0:=hat 0 (.int .i64 x.v.tid) rfl;have q1:=hat 1 (.slice x.ao x.v.parts.length x.c) rfl;rw[Nat.add_zero]at q0;obtain⟨v0,hv0⟩:=ε x.v.tid;obtain⟨n1,hn1⟩:=ε x.v.parts.length;unfold pendC at CX;rw[←hv0]at q0 CX;rw[←hn1]at q1 CX;clear hv0 hn1;clear hat hae hx;rw[a0];have TB:=η (Turn.alloc [] wr (.cells #[.int .i64 v0,.slice x.ao n1 x.c] 65));have NO2:=η (OutIs.new (wr.alloc (.cells #[.int .i64 v0,.slice x.ao n1 x.c] 65)) 184);have TO:=η (Turn.alloc [] (wr.alloc (.cells #[.int .i64 v0,.slice x.ao n1 x.c] 65)) (.cells #[.slice none 0 0] 184));have e1:(wr.alloc (.cells #[.int .i64 v0,.slice x.ao n1 x.c] 65)).heap.size=wr.heap.size+1:=by simp
    rw[e1]at NO2;have TBC:=TO.out.heap (heap_alloc_new wr _);obtain⟨h0,h1⟩:=two_of10 TBC;have TBT:=η (TB.out.trans TO.out);clear TBC e1 a0;go_wp2_with fail;refine(CX.out _ (wr.heap.size+1) (HT.out.trans TBT.out) NO2.out).mono ?_;rintro e x3 ⟨rfl,o3,n3⟩;obtain⟨a3,c3,k3,s3,-⟩:=o3;have T3:=η (TBT.out.trans n3.turn (fun i hi=>.inr (by simp at hi;omega)));have R3:=η (ownsRow_turn HR.out T3.out);have S3:=η s3;have LO:=η (row_lo10 R3.out);have SB:Hid (w0.heap.size≤x3.heap.size):=η (HT.out.trans T3.out).size;clear n3 s3 CX NO2 TB TO TBT h0 q0 h1 q1;go_wp2_with(at_builtin;refine append_bytes rfl (.tmp 27) (.tmp 29) rfl w0.heap.size u _ rfl R3.out a3 c3 _ rfl S3.out HLB.out SB.out ?_;intro v4 w4 r4 g4 e4);rw[HX.out]at r4;have R4:=η r4;have T4:=η ((HT.out.trans T3.out).trans (Turn.grown (l:=u.ownBlock.toList) g4 (fun k hk=>.inl (by simp[hk]))) (fun i hi=>.inr (LO.out i (by simpa using hi))));clear r4 g4 e4;go_wp2_with fail;go_roundw
    case rel=>exact⟨k+1,_,by omega,by go_num,rfl,R4.out,T4.out⟩
    case measure=>simp[intOf];omega
  · have hkk:k=n:=by omega
    have HF:Hid (l++(sm++(L.take k).flatMap fb)=l++listB fb L):=η (by
     rw[List.take_of_length_le (by rw[hkk,HN.out];exact Nat.le_refl _),HSM.out,HN.out]
     rfl)
    rw[HF.out]at HR;clear HF hkk;go_wp2_with fail;go_ret;exact⟨_,rfl,HR.out,HT.out⟩
end Go.Proofs.YtkjpjfghklgdhaaGreat
