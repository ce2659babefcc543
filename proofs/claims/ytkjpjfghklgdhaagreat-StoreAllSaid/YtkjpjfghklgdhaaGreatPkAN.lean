/-
  PkAN
-/
import Derived.Test.YtkjpjfghklgdhaaGreatPkAM
set_option maxHeartbeats 4000000
set_option maxRecDepth 100000
namespace Go.Proofs.YtkjpjfghklgdhaaGreat
open Go.RowKit Go.Proofs.YtkjpjfghklgdhaaGreat.V
def six (w:World) (g o:Nat) (u0 u1 u2 u3 u4 u5:Value):World:=(((((w.setCell ⟨g,o,none⟩ u0).setCell ⟨g,o+1,none⟩ u1).setCell ⟨g,o+2,none⟩ u2).setCell ⟨g,o+3,none⟩ u3).setCell ⟨g,o+4,none⟩ u4).setCell ⟨g,o+5,none⟩ u5
theorem six_row {w:World} {g o:Nat} {cur:Array Value} {T:TypeId} (h:w.heap[g]?=some (.cells cur T (0,0))) (ho:o+6≤cur.size) (u0 u1 u2 u3 u4 u5:Value):
 ∃cur',(six w g o u0 u1 u2 u3 u4 u5).heap[g]?=some (.cells cur' T (0,0))∧cur'.size=cur.size∧(∀p,(p<o∨o+6≤p)→cur'[p]?=cur[p]?)∧(∀k u,[u0,u1,u2,u3,u4,u5][k]?=some u→cur'[o+k]?=some u):=by
 refine⟨_,block_set (block_set (block_set (block_set (block_set (block_set h u0) u1) u2) u3) u4) u5,by simp,fun p hp=>?_,fun k u hk=>?_⟩
 · simp only[Array.getElem?_setIfInBounds]
   repeat rw[if_neg (by omega)]
 · match k,hk with
   | 0,hk | 1,hk | 2,hk | 3,hk | 4,hk | 5,hk=>
    simp at hk;subst hk;simp[Array.getElem?_setIfInBounds];omega
   | k+6,hk=>simp at hk
theorem six_turn' (w:World) (g o:Nat) (u0 u1 u2 u3 u4 u5:Value):Turn [g] w (six w g o u0 u1 u2 u3 u4 u5):=by
 have s:=fun(w:World) (i:Nat) (u:Value)=>Turn.setCell (l:=[g]) (b:=g) (i:=i) w (by simp) u
 exact(((((s _ _ u0).trans (s _ _ u1) (fun i hi=>.inl hi)).trans (s _ _ u2) (fun i hi=>.inl hi)).trans (s _ _ u3) (fun i hi=>.inl hi)).trans (s _ _ u4) (fun i hi=>.inl hi)).trans (s _ _ u5) (fun i hi=>.inl hi)
def AtRow {α:Type} (n:Nat) (f:α→List Value) (cur:Array Value) (o:Nat) (l:List α):Prop:=∀i x,l[i]?=some x→∀j u,(f x)[j]?=some u→cur[(o+i)*n+j]?=some u
theorem AtRow.take {α:Type} {n:Nat} {f:α→List Value} (hf:∀x,(f x).length=n) {cur:Array Value} {l:List α} (h:AtRow n f cur 0 l):cur.toList.take (l.length*n)=l.flatMap f:=by
 apply List.ext_getElem?;intro j;by_cases hj:j<l.length*n
 · rw[List.getElem?_take_of_lt hj];have hj2:j<(l.flatMap f).length:=by rw[flat_len hf];exact hj
   have e:=List.getElem?_eq_getElem hj2;obtain⟨i,k,x,e1,hx,hk⟩:=Tl.flat.flat_split f hf l j _ e;rw[e];have:=h i x hx k _ hk;rw[Nat.zero_add,←e1]at this;simpa using this
 · rw[List.getElem?_eq_none (by rw[List.length_take];omega),List.getElem?_eq_none (by rw[flat_len hf];omega)]
theorem AtRow.of_take {α:Type} {n:Nat} {f:α→List Value} (hf:∀x,(f x).length=n) {cur:Array Value} {l:List α} (h:cur.toList.take (l.length*n)=l.flatMap f):AtRow n f cur 0 l:=by
 intro i x hx j u hu;have h1:=Tl.of_own.flat_at f hf l i x hx j u hu;have hi:i<l.length:=(List.getElem?_eq_some_iff.1 hx).1;have hj:j<n:=by have:=(List.getElem?_eq_some_iff.1 hu).1;rwa[hf]at this
 have hlt:i*n+j<l.length*n:=by
  have:(i+1)*n≤l.length*n:=Nat.mul_le_mul_right n hi;rw[Nat.add_mul,Nat.one_mul]at this;omega
 rw[←h,List.getElem?_take_of_lt hlt]at h1;rw[Nat.zero_add];simpa using h1
theorem zeros_one (zs:Array Value) (hz:0<zs.size) (h:∀v∈zs.toList,v.oneCell'=true) (n:Nat):∀v∈(Builtin.zeroCells zs n).toList,v.oneCell'=true:=by
 intro v hv;unfold Builtin.zeroCells at hv;simp at hv;obtain⟨i,-,rfl⟩:=hv;have hi:=Nat.mod_lt i hz;rw[getElem!_pos zs _ hi];exact h _ (by simp)
def keepM (t:Int) (l:List MsgV):List MsgV:=l.filter fun m=>!decide (m.by_=t)
theorem keepM_take {t:Int} {l:List MsgV} {k:Nat} {m:MsgV} (h:l[k]?=some m):keepM t (l.take (k+1))=keepM t (l.take k)++(if m.by_=t then []else [m]):=by
 unfold keepM;rw[List.take_add_one,h,List.filter_append];congr 1;by_cases e:m.by_=t<;>simp[e]
theorem left_true (t:Int) (l:List MsgV):left t true l=keepM t l:=by
 induction l with
 | nil=>rfl
 | cons m l ih=>
  unfold left keepM;by_cases e:m.by_=t
  · rw[if_pos e,if_pos rfl,List.filter_cons_of_neg (by simp[e]),ih];rfl
  · rw[if_neg e,List.filter_cons_of_pos (by simp[e]),ih];rfl
theorem deleteM_calls {w:World} {lo:Nat} {v:Value} {l:List MsgV} (h:w.ownsRow lo 49 6 v l.length (l.flatMap msgC)) (t:Int) {q:Nat} (hq:w.cell? ⟨q,0,none⟩=some (.int .i64 t)) (hqo:v.ownBlock≠some q) (hfew:l.length≤100000):
 Calls Tryz.prog 195 #[v,.func (.func 196) #[] #[.pointer (some ⟨q,0,none⟩)]] w fun e w'=>
  ∃v',e=.returned v'∧w'.ownsRow lo 49 6 v' (keepM t l).length ((keepM t l).flatMap msgC)∧v'.ownBlock=v.ownBlock∧Turn v.ownBlock.toList w w':=by
 have hform:∃ao c,v=.slice ao l.length c:=by
  rcases h.2 with⟨hv,h0⟩ | ⟨g,cap,cur,hv,_⟩
  · exact⟨none,0,by rw[hv,h0]⟩
  · exact⟨_,_,hv⟩
 obtain⟨ao,c,rfl⟩:=hform;have htl:Tl 6 msgC w ao c l:=Tl.of_own (n:=6) (f:=msgC) (fun _=>rfl) h;have C1:=η (indexBy_calls htl t hq);by_cases hnone:placeI (fun m:MsgV=>decide (m.by_=t)) l=-1
 case pos=>
  have HK:Hid (keepM t l=l):=η (by
   rcases place_find (fun m:MsgV=>decide (m.by_=t)) l with⟨-,h2⟩ | ⟨k,x,h1,-,-⟩
   · unfold keepM;rw[List.find?_eq_none]at h2;exact List.filter_eq_self.2 fun x hx=>by have:=h2 x hx;simpa using this
   · rw[h1]at hnone;omega)
  rw[HK.out];rw[hnone]at C1;have HR:Hid (∀x1,Turn [] w x1→x1.ownsRow lo 49 6 (.slice ao l.length c) l.length (l.flatMap msgC)):=η (fun x1 tt=>ownsRow_turn h tt);obtain⟨n,hn⟩:=ε l.length;rw[←hn]at C1 HR ⊢;clear h htl hq hqo hfew hnone HK hn;go_in;go_wp2_with fail;refine C1.out.mono ?_;rintro e x1 ⟨rfl,t1⟩;have U1:=η t1;clear t1 C1;go_wp2_with fail;go_ret;exact⟨_,rfl,HR.out _ U1.out,rfl,U1.out.mono (by simp)⟩
 rcases place_find (fun m:MsgV=>decide (m.by_=t)) l with⟨h1,h2⟩ | ⟨i0,x0,hi1,hi2,hi3⟩
 · exfalso;unfold placeI at h1 hnone;cases hz:l.findIdx? (fun m:MsgV=>decide (m.by_=t))with
   | none=>rw[hz]at hnone;exact hnone rfl
   | some z=>rw[hz]at h1;simp at h1;omega
 rw[hi1]at C1;have hi0n:=(List.getElem?_eq_some_iff.1 hi2).1;have hx0:x0.by_=t:=by have:=List.find?_some hi3;simpa using this
 have hk0:keepM t (l.take i0)=l.take i0:=by
  unfold keepM;refine List.filter_eq_self.2 fun x hx=>?_
  obtain⟨j,hj,rfl⟩:=List.getElem_of_mem hx;rw[List.length_take]at hj;unfold placeI at hi1;cases hz:l.findIdx? (fun m:MsgV=>decide (m.by_=t))with
  | none=>rw[hz]at hi1;simp at hi1
  | some z=>
   rw[hz]at hi1;have e:z=i0:=by simp at hi1;omega
   obtain⟨g1,g2,h3⟩:=List.findIdx?_eq_some_iff_getElem.1 hz;have:=h3 j (by omega);rw[List.getElem_take];simpa using this
 rcases h.2 with⟨e,h0⟩ | ⟨g,cap,cur,e,hlo,hg,hle,hmx,hsz,htk⟩
 · omega
 injection e with e1 _ e3
 subst e1 e3;have hgw:=lt_of_heap hg;have hgq:q≠g:=fun e=>hqo (by rw[e];rfl)
 have hat0:=AtRow.of_take (f:=msgC) (fun _=>rfl) htk;obtain⟨n,hn⟩:=ε l.length;have HN:=η hn;rw[←hn]at C1 hfew hle hi0n ⊢;have HQ:=η hq;have EN:=byF_enter;have HLO:=η hlo;have HX0:=η hx0;have HI2:=η hi2;have HK0:=η hk0
 have R0:Hid (∀x1,Turn [] w x1→∃cur',x1.heap[g]?=some (.cells cur' 49 (0,0))∧cur'.size=c*6∧AtRow 6 msgC cur' 0 (keepM t (l.take (i0+1)))∧(∀k x,i0+1≤k→l[k]?=some x→∀j u,(msgC x)[j]?=some u→cur'[k*6+j]?=some u)):=η (fun x1 tt=>by
  refine⟨cur,tt.heap hg,hsz,?_,fun k x _ hx j u hu=>?_⟩
  · rw[keepM_take hi2,if_pos hx0,List.append_nil,hk0];intro i x hx j u hu;rw[List.getElem?_take]at hx;split at hx
    · exact hat0 i x hx j u hu
    · cases hx
  · have:=hat0 k x hx j u hu
    rwa[Nat.zero_add]at this)
 have HSZ:=η hsz;unfold maxLen at hmx;have hw0:IntKind.i64.wrap ((i0:Int)+1)=((i0+1:Nat):Int):=by rw[IntKind.wrap_i64];omega
 have hk1:(keepM t (l.take (i0+1))).length=i0:=by rw[keepM_take hi2,if_pos hx0,List.append_nil,hk0,List.length_take];omega
 have HK1:=η hk1;have hneg:((i0:Int)==-1)=false:=by first | (simp;done) | (simp;omega)
 rw[show(Value.slice (some ⟨g,0,none⟩) n c).ownBlock=some g from rfl,show(some g).toList=[g] from rfl];clear h htl hq hqo hnone hn hi1 hi2 hi3 hx0 hk0 hg htk hat0 hlo hsz hk1;go_in;go_wp2_with fail;refine C1.out.mono ?_;rintro e x1 ⟨rfl,t1⟩;have U1:=η t1;clear t1 C1;go_wp2_with fail
 go_loopw [5,6] (fun vi vj wx=>∃j:Nat,i0+1≤j∧j≤n∧vj=.int .i64 (j:Int)∧vi=.int .i64 ((keepM t (l.take j)).length:Int)∧(keepM t (l.take j)).length<j∧Turn [g] w wx∧
  ∃cur',wx.heap[g]?=some (.cells cur' 49 (0,0))∧cur'.size=c*6∧AtRow 6 msgC cur' 0 (keepM t (l.take j))∧(∀k x,j≤k→l[k]?=some x→∀d u,(msgC x)[d]?=some u→cur'[k*6+d]?=some u)) (fun _ vj _=>n-(intOf vj).toNat)
 case atStart=>exact⟨i0+1,by omega,by omega,rfl,by rw[HK1.out],by rw[HK1.out];omega,U1.out.mono (by simp),R0.out _ U1.out⟩
 case round=>
  obtain⟨j,hj1,hjn,rfl,rfl,hkl,ht,cur',hg',hsz',hk',hrest⟩:=hrel;have HT:=η ht;have HG:=η hg';have HKK:=η hk';have HRR:=η hrest;obtain⟨z,hz⟩:=ε ((keepM t (l.take j)).length);have HZ:=η hz;rw[←hz]at hkl ⊢;have hq2:=ht.cell HQ.out (by simpa using hgq);clear ht hg' hk' hrest hz;by_cases hjl:j<n
  · have hjl2:j<l.length:=by rw[←HN.out];exact hjl
    obtain⟨m,hm⟩:∃m,l[j]?=some m:=⟨_,List.getElem?_eq_getElem hjl2⟩
    have hc:=fun d u hu=>(cell_of_row wr g (j*6+d) _ _ _ HG.out).trans (HRR.out j m (Nat.le_refl _) hm d u hu)
    have q0:=hc 0 (.int .i64 m.id) rfl;have q1:=hc 1 (.string m.queue) rfl;have q2:=hc 2 (.string m.body) rfl;have q3:=hc 3 (.int .i64 m.seq) rfl;have q4:=hc 4 (.int .i64 m.count) rfl;have q5:=hc 5 (.int .i64 m.by_) rfl;rw[Nat.add_zero]at q0;have C:=η (byF_calls m t hq2);have HZN:=η (keepM_take (t:=t) hm);have hzn:z*6+6≤c*6:=by omega
    have HM:=η hm;have hb:0≤(j:Int)∧(j:Int)<(n:Int):=by omega
    have hb3:0≤(z:Int)∧(z:Int)<(n:Int):=by omega
    obtain⟨i,qu,bo,sq,co,by_⟩:=m;unfold msgC at C;dsimp only at q0 q1 q2 q3 q4 q5 C HZN
    have QC:Hid (∀wx,Turn [] (wr.alloc (.cells #[.int .i64 i,.string qu,.string bo,.int .i64 sq,.int .i64 co,.int .i64 by_] 49)) wx→wx.cell? ⟨wr.heap.size,0,none⟩=some (.int .i64 i)∧wx.cell? ⟨wr.heap.size,1,none⟩=some (.string qu)∧wx.cell? ⟨wr.heap.size,2,none⟩=some (.string bo)∧wx.cell? ⟨wr.heap.size,3,none⟩=some (.int .i64 sq)∧wx.cell? ⟨wr.heap.size,4,none⟩=some (.int .i64 co)∧wx.cell? ⟨wr.heap.size,5,none⟩=some (.int .i64 by_)):=η (fun wx tt=>by
     have:=tt.heap (heap_alloc_new wr _)
     refine⟨?_,?_,?_,?_,?_,?_⟩<;>rw[cell_of_row _ _ _ _ _ _ this]<;>rfl)
    have TA:=η (Turn.alloc [] wr (.cells #[.int .i64 i,.string qu,.string bo,.int .i64 sq,.int .i64 co,.int .i64 by_] 49));have HQW:Hid (∀wx o,Turn [] (wr.alloc o) wx→wx.cell? ⟨q,0,none⟩=some (.int .i64 t)):=η (fun wx o tt=>((Turn.alloc [] wr o).trans tt).cell hq2);have C:=η (fun o=>byF_calls (w:=wr.alloc o) ⟨i,qu,bo,sq,co,by_⟩ t (HQW.out _ o (Turn.refl _ _)));unfold msgC at C;dsimp only at C;have hwj:IntKind.i64.wrap ((j:Int)+1)=((j+1:Nat):Int):=by rw[IntKind.wrap_i64];omega
    have hwz:IntKind.i64.wrap ((z:Int)+1)=((z+1:Nat):Int):=by rw[IntKind.wrap_i64];omega
    obtain⟨r,hr⟩:=ε (decide (by_=t));have HR:=η hr;rw[←hr]at C;clear hc hq2 hm hr HQW;go_wp2_with fail;refine(C.out _).mono ?_;rintro e x2 ⟨rfl,t2⟩;have U2:=η t2;have V2:=η (TA.out.trans t2);clear t2 C q0 q1 q2 q3 q4 q5;have HG2:=η (V2.out.heap HG.out);cases r with
    | true=>
     have hbt:by_=t:=by have:=HR.out;simpa using this.symm
     have HK2:Hid (keepM t (l.take (j+1))=keepM t (l.take j)):=η (by rw[HZN.out,if_pos hbt,List.append_nil]);clear HZN hbt HR;go_wp2_with fail;go_roundw
     case rel=>exact⟨j+1,by omega,by omega,by go_num,by rw[HK2.out,←HZ.out],by rw[HK2.out,←HZ.out];omega,HT.out.trans V2.out,cur',HG2.out,hsz',by rw[HK2.out];exact HKK.out,fun k x hk hx=>HRR.out k x (by omega) hx⟩
     case measure=>simp[intOf];omega
    | false=>
     have hbt:by_≠t:=by have:=HR.out;simpa using this.symm
     have HK2:Hid (keepM t (l.take (j+1))=keepM t (l.take j)++[⟨i,qu,bo,sq,co,by_⟩]):=η (by rw[HZN.out,if_neg hbt]);clear HZN hbt HR;obtain⟨p0,p1,p2,p3,p4,p5⟩:=QC.out _ U2.out;have fra:∀j,x2.frozen? ⟨g,j,none⟩=false:=fun j=>unfrozen_of HG2.out
     have hcz:∀d,d<6→∃v,x2.cell? ⟨g,z*6+d,none⟩=some v:=fun d hd=>⟨_,(cell_of_row x2 g (z*6+d) _ _ _ HG2.out).trans (Array.getElem?_eq_getElem (by omega))⟩
     obtain⟨v0,e0⟩:=hcz 0 (by omega);obtain⟨v1,e1⟩:=hcz 1 (by omega);obtain⟨v2,e2⟩:=hcz 2 (by omega);obtain⟨v3,e3⟩:=hcz 3 (by omega);obtain⟨v4,e4⟩:=hcz 4 (by omega);obtain⟨v5,e5⟩:=hcz 5 (by omega);rw[Nat.add_zero]at e0;obtain⟨cur2,f1,f2,f3,f4⟩:=six_row HG2.out (show z*6+6≤cur'.size by omega) (.int .i64 i) (.string qu) (.string bo) (.int .i64 sq) (.int .i64 co) (.int .i64 by_);have S6:=η (six_turn' x2 g (z*6) (.int .i64 i) (.string qu) (.string bo) (.int .i64 sq) (.int .i64 co) (.int .i64 by_));have F1:=η f1;have F2:=η f2;have F3:=η f3;have F4:=η f4;clear hcz f1 f2 f3 f4;go_wp2_with fail;go_roundw
     case rel=>
      refine⟨j+1,by omega,by omega,by go_num,by rw[HK2.out,List.length_append,←HZ.out];go_num,by rw[HK2.out,List.length_append,←HZ.out];simp;omega,(HT.out.trans V2.out).trans S6.out (fun i hi=>.inl hi),cur2,F1.out,by rw[F2.out];exact hsz',?_,fun k x hk hx d u hu=>?_⟩
      · rw[HK2.out];intro k x hx d u hu;have hd:d<6:=(List.getElem?_eq_some_iff.1 hu).1;by_cases hkz:k<z
        · rw[List.getElem?_append_left (by rw[←HZ.out];exact hkz)]at hx;have:=HKK.out k x hx d u hu;rw[F3.out _ (.inl (by omega))];exact this
        · rw[List.getElem?_append_right (by rw[←HZ.out];omega),←HZ.out]at hx;have hkz2:k=z:=by
           have:=(List.getElem?_eq_some_iff.1 hx).1;simp at this;omega
          subst hkz2;rw[Nat.sub_self,List.getElem?_cons_zero]at hx;have hx:=Option.some.inj hx;rw[←hx]at hu;rw[show 0+k=k from Nat.zero_add k];unfold msgC at hu;dsimp only at hu;exact F4.out d u hu
      · have hd:d<6:=(List.getElem?_eq_some_iff.1 hu).1;rw[F3.out _ (.inr (by omega))];exact HRR.out k x (by omega) hx d u hu
     case measure=>simp[intOf];omega
  · have hjj:j=n:=by omega
    have HKL:Hid (keepM t l=keepM t (l.take j)):=η (by rw[List.take_of_length_le (by rw[hjj,HN.out];exact Nat.le_refl _)]);obtain⟨ii,hi,hz0,hz1,hz2⟩:=info_parts Tryz.crowMsg;have hzl:(Builtin.zeroCells (Value.agg #[.int .i64 0,.string ⟨#[]⟩,.string ⟨#[]⟩,.int .i64 0,.int .i64 0,.int .i64 0]).cells (n-z)).toList.length=(n-z)*6:=by
     rw[Array.length_toList,size_zeroCells];rfl
    have hcl:=run_clear_rowN (P:=Tryz.prog) wr 22 0 49 g (z*6) (n-z) (c-z) cur' _ _ ii Tryz.underlying22 hi hz0 (by omega) HG.out _ rfl (by rw[hzl,Array.length_toList.symm,Array.length_toList,hsz'];omega) (zeros_one _ (by simp[Value.cells]) (by intro u hu;simp[Value.cells]at hu;rcases hu with rfl | rfl | rfl<;>rfl) _);obtain⟨cs,hcs⟩:=ε ((cur'.toList.take (z*6)++(Builtin.zeroCells (Value.agg #[.int .i64 0,.string ⟨#[]⟩,.string ⟨#[]⟩,.int .i64 0,.int .i64 0,.int .i64 0]).cells (n-z)).toList++cur'.toList.drop (z*6+(Builtin.zeroCells (Value.agg #[.int .i64 0,.string ⟨#[]⟩,.string ⟨#[]⟩,.int .i64 0,.int .i64 0,.int .i64 0]).cells (n-z)).toList.length)).toArray);rw[←hcs]at hcl;have hcsz:cs.size=c*6:=by
     rw[hcs];simp only[List.size_toArray,List.length_append,List.length_take,List.length_drop,hzl,Array.length_toList,hsz'];omega
    have hct:cs.toList.take (z*6)=(keepM t l).flatMap msgC:=by
     rw[hcs,HKL.out];have:=AtRow.take (n:=6) (f:=msgC) (fun _=>rfl) HKK.out;rw[←HZ.out]at this;rw[show(List.toArray _).toList=_ from rfl,List.append_assoc,List.take_left' (by rw[List.length_take,Array.length_toList,hsz'];omega)];exact this
    have RR:Hid ((wr.setRow g cs).ownsRow lo 49 6 (.slice (some ⟨g,0,none⟩) z c) (keepM t l).length ((keepM t l).flatMap msgC)):=η (by
     have hzl2:(keepM t l).length=z:=by rw[HKL.out,←HZ.out]
     rw[hzl2]
     exact⟨by rw[flat_len (n:=6) (f:=msgC) (fun _=>rfl),hzl2],.inr ⟨g,c,cs,rfl,HLO.out,setRow_heap _ _ _ _ _ _ HG.out,by omega,by unfold maxLen;omega,hcsz,hct⟩⟩)
    have TT:=η (HT.out.trans (Turn.setRow (l:=[g]) wr (g:=g) (by simp) cs) (fun i hi=>.inl hi));have HCL:=η hcl;have hb1:(0:Int)≤(z:Int):=by omega
    have hb2:(z:Int)≤(n:Int):=by omega
    have hb3:¬c=z:=by omega
    clear hcl hcs hcsz hct hzl hi hz0 hz1 hz2 hq2;go_wp2_with fail;rw[HCL.out];go_wp2_with fail;go_ret;exact⟨_,rfl,RR.out,rfl,TT.out⟩
def Tn (lo:Nat) (w w':World):Prop:=∃l,(∀k∈l,lo≤k∧∀cs fr,w.heap[k]?≠some (.cells cs 37 fr))∧Turn l w w'
theorem Tn.refl (lo:Nat) (w:World):Tn lo w w:=⟨[],by simp,Turn.refl _ _⟩
theorem Tn.of {lo:Nat} {w w':World} {l:List Nat} (t:Turn l w w') (h:∀k∈l,lo≤k) (ht:∀k∈l,∃cs fr T,w.heap[k]?=some (.cells cs T fr)∧T≠37):Tn lo w w':=⟨l,fun k hk=>⟨h k hk,fun cs fr e=>by
 obtain⟨cs',fr',T,e2,hT⟩:=ht k hk;rw[e]at e2;injection e2 with e2
 injection e2 with _ e3 _
 exact hT e3.symm⟩,t⟩
theorem Tn.still {lo:Nat} {w w':World} (t:Turn [] w w'):Tn lo w w':=⟨[],by simp,t⟩
theorem Tn.trans {lo:Nat} {a b c:World} (h:Tn lo a b) (k:Tn lo b c):Tn lo a c:=by
 obtain⟨l,h1,h2⟩:=h;obtain⟨m,k1,k2⟩:=k;refine⟨l++m,fun x hx=>?_,(h2.mono (l':=l++m) (fun i hi=>.inl (List.mem_append.2 (.inl hi)))).trans k2 (fun i hi=>.inl (List.mem_append.2 (.inr hi)))⟩;by_cases hm:x∈l
 · exact h1 x hm
 · rcases List.mem_append.1 hx with hx | hx
   · exact absurd hx hm
   · exact⟨(k1 x hx).1,fun cs fr e=>(k1 x hx).2 cs fr (h2.heap e hm)⟩
theorem Tn.close {lo:Nat} {w0 w w':World} (t:Turn [] w0 w) (h:Tn lo w w') (hlo:w0.heap.size≤lo):Turn [] w0 w':=by
 obtain⟨l,h1,h2⟩:=h;exact t.trans h2 fun i hi=>.inr (Nat.le_trans hlo (h1 i hi).1)
theorem Tn.record {lo r:Nat} {w w':World} {cs:Array Value} (h:Tn lo w w') (hr:w.heap[r]?=some (.cells cs 37)):w'.heap[r]?=some (.cells cs 37):=by
 obtain⟨l,h1,h2⟩:=h;exact h2.heap hr fun hm=>(h1 r hm).2 _ _ hr
theorem row_own {w:World} {lo B:Nat} {e:TypeId} {z n:Nat} {v:Value} {xs:List Value} (h:w.ownsRow B e z v n xs) (hb:∀k,v.ownBlock=some k→lo≤k):w.ownsRow lo e z v n xs:=ownsRow_base h hb
theorem row_lo {w:World} {lo:Nat} {e:TypeId} {z n:Nat} {v:Value} {xs:List Value} (h:w.ownsRow lo e z v n xs):∀k,v.ownBlock=some k→lo≤k:=by
 intro k hk;rcases h.2 with⟨rfl,_⟩ | ⟨g,cap,cur,rfl,hlo,_⟩
 · simp[Value.ownBlock]at hk
 · have:g=k:=by simpa[Value.ownBlock]using hk
   rw[←this];exact hlo
theorem Tn.row {w w':World} {lo:Nat} {T:TypeId} {z n:Nat} {v:Value} {xs:List Value} (h:w.ownsRow lo T z v n xs) (hT:T≠37) (t:Turn v.ownBlock.toList w w'):Tn lo w w':=
 Tn.of t (fun k hk=>row_lo h k (by simpa using hk)) (fun k hk=>by
  obtain⟨cs,fr,e⟩:=ownsRow_typed h k hk
  exact⟨cs,fr,T,e,hT⟩)
theorem Tn.cell {w:World} {lo b:Nat} (hb:lo≤b) (ht:∃cs fr T,w.heap[b]?=some (.cells cs T fr)∧T≠37) (i:Nat) (u:Value):Tn lo w (w.setCell ⟨b,i,none⟩ u):=
 Tn.of (l:=[b]) (Turn.setCell w (by simp) u) (by simpa using hb) (fun k hk=>by
  have:k=b:=by simpa using hk
  rw[this];exact ht)
theorem row_zero {w:World} {lo:Nat} {e:TypeId} {z n:Nat} {v:Value} {xs:List Value} (h:w.ownsRow lo e z v n xs):w.ownsRow 0 e z v n xs:=ownsRow_base h (fun _ _=>Nat.zero_le _)
theorem slice_form {w:World} {lo:Nat} {e:TypeId} {z n:Nat} {v:Value} {xs:List Value} (h:w.ownsRow lo e z v n xs):∃ao c,v=.slice ao n c:=by
 rcases h.2 with⟨hv,h0⟩ | ⟨g,cap,cur,hv,_⟩
 · exact⟨none,0,by rw[hv,h0]⟩
 · exact⟨_,_,hv⟩
theorem ones_ends (l:List EndV):Ones (l.map endP):=fun p hp=>by obtain⟨x,-,rfl⟩:=List.mem_map.1 hp;rfl
theorem ones_brs (l:List (Lay BrV)):Ones (l.map brP):=fun p hp=>by obtain⟨x,-,rfl⟩:=List.mem_map.1 hp;rfl
theorem ones_pds (l:List (Lay PendV)):Ones (l.map pendP'):=fun p hp=>by obtain⟨x,-,rfl⟩:=List.mem_map.1 hp;rfl
theorem remK_map {α β:Type} (key:β→Int) (f:α→β) (t:Int) (l:List α):remK key t (l.map f)=(remK (fun x=>key (f x)) t l).map f:=by
 unfold remK
 induction l with
 | nil=>rfl
 | cons x l ih=>
  rw[List.map_cons];by_cases h:key (f x)=t
  · rw[List.eraseP_cons_of_pos (by simpa using h),List.eraseP_cons_of_pos (by simpa using h)]
  · rw[List.eraseP_cons_of_neg (by simpa using h),List.eraseP_cons_of_neg (by simpa using h),List.map_cons,ih]
theorem insV_map {α:Type} (f:α→Int×Value) (key:α→Int) (hk:∀x,(f x).1=key x) (x:α) (l:List α):insV (l.map f) (posK Prod.fst (key x) (l.map f)) (f x)=(insK key x l).map f:=by
 rw[posK_map,insK_pos,show(fun x=>(f x).1)=key from funext hk];unfold insV;rw[List.map_append,List.map_cons,List.map_take,List.map_drop]
theorem rem_lay {α:Type} (key:α→Int) (t:Int) {L:List (Lay α)} {l:List α} (h:L.map Lay.v=l):(remK (fun x:Lay α=>key x.v) t L).map Lay.v=remK key t l:=by
 rw[←h,remK_map]
theorem apart_not {v v':Value} (h:Apart v v'):∀k,v'.ownBlock=some k→k∉v.ownBlock.toList:=by
 intro k hk hm;have hm:v.ownBlock=some k:=by simpa using hm
 rcases h with h | h
 · rw[h]at hm;cases hm
 · exact h (hm.trans hk.symm)
theorem box_lo {w:World} {lo b:Nat} {s:StV} {a:Ads} {LW:List (Lay BrV)} {LO LN:List (Lay PendV)} (h:Box w lo b s a LW LO LN):lo≤w.heap.size:=Nat.le_trans h.lob (Nat.le_of_lt (lt_of_heap h.head))
theorem lo_or {w:World} {lo:Nat} {v v':Value} (h:∀k,v.ownBlock=some k→lo≤k) (hw:lo≤w.heap.size) (hb:v'.ownBlock=v.ownBlock∨∃q,v'.ownBlock=some q∧w.heap.size≤q):∀k,v'.ownBlock=some k→lo≤k:=by
 intro k hk;rcases hb with e | ⟨q,e,hq⟩
 · exact h k (e.symm.trans hk)
 · rw[e]at hk;injection hk with hk;omega
theorem box_with_ends {w:World} {lo b:Nat} {s:StV} {a:Ads} {LW:List (Lay BrV)} {LO LN:List (Lay PendV)} (h:Box w lo b s a LW LO LN) (hre:Rising EndV.tid s.ends) (hle:s.ends.length≤2000) (t:Int) (yes:Bool):
 Calls Tryz.prog 232 #[.slice a.e s.ends.length a.ce,.agg #[.int .i64 t,.bool yes],.func (.func 117) #[] #[]] w fun e w1=>∃ao c,e=.returned (.slice ao (insK EndV.tid ⟨t,yes⟩ s.ends).length c)∧Rest w1 lo b s a LW LO LN 61∧
  Box (w1.setCell ⟨b,6,none⟩ (.slice ao (insK EndV.tid ⟨t,yes⟩ s.ends).length c)) lo b {s with ends:=insK EndV.tid ⟨t,yes⟩ s.ends} {a with e:=ao,ce:=c} LW LO LN∧Tn lo w (w1.setCell ⟨b,6,none⟩ (.slice ao (insK EndV.tid ⟨t,yes⟩ s.ends).length c)):=by
 have C1:=VE.with_calls (row_zero (by have:=h.es;rwa[←List.length_map (f:=endP)]at this)) (rising_ends.2 hre) (by rw[List.length_map];exact hle) (ones_ends s.ends) t yes;have e1:insV (s.ends.map endP) (posK Prod.fst t (s.ends.map endP)) (t,.bool yes)=(insK EndV.tid ⟨t,yes⟩ s.ends).map endP:=insV_map endP EndV.tid (fun _=>rfl) ⟨t,yes⟩ s.ends;rw[e1,List.length_map,show s.ends.length+1=(insK EndV.tid ⟨t,yes⟩ s.ends).length from insK_len.symm]at C1;refine C1.mono ?_;rintro e w1 ⟨v',rfl,o1,b1,t1⟩;obtain⟨ao,c,rfl⟩:=slice_form o1;have R:=h.rest t1 (ownsRow_typed h.es) (by decide);exact⟨ao,c,rfl,R,h.setEnds R (row_own o1 (lo_or (row_lo h.es) (box_lo h) b1)),(Tn.row h.es (by decide) t1).trans (Tn.cell h.lob ⟨_,_,_,R.head,by decide⟩ _ _)⟩
theorem box_without_waits {w:World} {lo b:Nat} {s:StV} {a:Ads} {LW:List (Lay BrV)} {LO LN:List (Lay PendV)} (h:Box w lo b s a LW LO LN) (hre:Rising BrV.tid s.waits) (hle:s.waits.length≤2000) (t:Int):
 Calls Tryz.prog 233 #[.slice a.w s.waits.length a.cw,.int .i64 t,.func (.func 115) #[] #[]] w fun e w1=>∃ao c,e=.returned (.slice ao (remK BrV.tid t s.waits).length c)∧Rest w1 lo b s a LW LO LN 81∧
  Box (w1.setCell ⟨b,5,none⟩ (.slice ao (remK BrV.tid t s.waits).length c)) lo b {s with waits:=remK BrV.tid t s.waits} {a with w:=ao,cw:=c} (remK (fun x:Lay BrV=>x.v.tid) t LW) LO LN∧Tn lo w (w1.setCell ⟨b,5,none⟩ (.slice ao (remK BrV.tid t s.waits).length c)):=by
 have hlen:s.waits.length=(LW.map brP).length:=by rw[List.length_map,←h.vw,List.length_map]
 have C1:=VB.without_calls (row_zero (by have:=h.ws;rwa[hlen]at this)) (rising_brs.2 (by rw[h.vw];exact hre)) (by rw[←hlen];exact hle) (ones_brs LW) t;rw[remK_map]at C1;have e2:(List.map brP (remK (fun x=>(brP x).fst) t LW)).length=(remK BrV.tid t s.waits).length:=by
  rw[List.length_map,←rem_lay BrV.tid t h.vw,List.length_map];rfl
 rw[e2,←hlen]at C1;refine C1.mono ?_;rintro e w1 ⟨v',rfl,o1,b1,t1⟩;obtain⟨ao,c,rfl⟩:=slice_form o1;have R:=h.rest t1 (ownsRow_typed h.ws) (by decide);exact⟨ao,c,rfl,R,h.setWaits R (rem_lay BrV.tid t h.vw) (row_own o1 (lo_or (row_lo h.ws) (box_lo h) (.inl b1))) (fun x hx=>.inl (remK_sub.subset hx)),(Tn.row h.ws (by decide) t1).trans (Tn.cell h.lob ⟨_,_,_,R.head,by decide⟩ _ _)⟩
theorem box_without_open {w:World} {lo b:Nat} {s:StV} {a:Ads} {LW:List (Lay BrV)} {LO LN:List (Lay PendV)} (h:Box w lo b s a LW LO LN) (hre:Rising PendV.tid s.open_) (hle:s.open_.length≤2000) (t:Int):
 Calls Tryz.prog 200 #[.slice a.o s.open_.length a.co,.int .i64 t,.func (.func 119) #[] #[]] w fun e w1=>∃ao c,e=.returned (.slice ao (remK PendV.tid t s.open_).length c)∧Rest w1 lo b s a LW LO LN 65∧
  Box (w1.setCell ⟨b,7,none⟩ (.slice ao (remK PendV.tid t s.open_).length c)) lo b {s with open_:=remK PendV.tid t s.open_} {a with o:=ao,co:=c} LW (remK (fun x:Lay PendV=>x.v.tid) t LO) LN∧Tn lo w (w1.setCell ⟨b,7,none⟩ (.slice ao (remK PendV.tid t s.open_).length c)):=by
 have hlen:s.open_.length=(LO.map pendP').length:=by rw[List.length_map,←h.vo,List.length_map]
 have C1:=VP.without_calls (row_zero (by have:=h.os;rwa[hlen]at this)) (rising_pds.2 (by rw[h.vo];exact hre)) (by rw[←hlen];exact hle) (ones_pds LO) t;rw[remK_map]at C1;have e2:(List.map pendP' (remK (fun x=>(pendP' x).fst) t LO)).length=(remK PendV.tid t s.open_).length:=by
  rw[List.length_map,←rem_lay PendV.tid t h.vo,List.length_map];rfl
 rw[e2,←hlen]at C1;refine C1.mono ?_;rintro e w1 ⟨v',rfl,o1,b1,t1⟩;obtain⟨ao,c,rfl⟩:=slice_form o1;have R:=h.rest t1 (ownsRow_typed h.os) (by decide);have hon:Apart (.slice ao (remK PendV.tid t s.open_).length c) (.slice a.n s.noes.length a.cn):=by unfold Apart;rw[b1];exact h.on
 exact⟨ao,c,rfl,R,h.setOpen R (rem_lay PendV.tid t h.vo) (ownsRow_turn h.ns t1 (apart_not h.on)) (row_own o1 (lo_or (row_lo h.os) (box_lo h) (.inl b1))) hon (fun x hx=>.inl (remK_sub.subset hx)) (h.alone.sublist (remK_sub.append (List.Sublist.refl _))),(Tn.row h.os (by decide) t1).trans (Tn.cell h.lob ⟨_,_,_,R.head,by decide⟩ _ _)⟩
theorem box_without_noes {w:World} {lo b:Nat} {s:StV} {a:Ads} {LW:List (Lay BrV)} {LO LN:List (Lay PendV)} (h:Box w lo b s a LW LO LN) (hre:Rising PendV.tid s.noes) (hle:s.noes.length≤2000) (t:Int):
 Calls Tryz.prog 200 #[.slice a.n s.noes.length a.cn,.int .i64 t,.func (.func 119) #[] #[]] w fun e w1=>∃ao c,e=.returned (.slice ao (remK PendV.tid t s.noes).length c)∧Rest w1 lo b s a LW LO LN 65∧
  Box (w1.setCell ⟨b,8,none⟩ (.slice ao (remK PendV.tid t s.noes).length c)) lo b {s with noes:=remK PendV.tid t s.noes} {a with n:=ao,cn:=c} LW LO (remK (fun x:Lay PendV=>x.v.tid) t LN)∧Tn lo w (w1.setCell ⟨b,8,none⟩ (.slice ao (remK PendV.tid t s.noes).length c)):=by
 have hlen:s.noes.length=(LN.map pendP').length:=by rw[List.length_map,←h.vn,List.length_map]
 have C1:=VP.without_calls (row_zero (by have:=h.ns;rwa[hlen]at this)) (rising_pds.2 (by rw[h.vn];exact hre)) (by rw[←hlen];exact hle) (ones_pds LN) t;rw[remK_map]at C1;have e2:(List.map pendP' (remK (fun x=>(pendP' x).fst) t LN)).length=(remK PendV.tid t s.noes).length:=by
  rw[List.length_map,←rem_lay PendV.tid t h.vn,List.length_map];rfl
 rw[e2,←hlen]at C1;refine C1.mono ?_;rintro e w1 ⟨v',rfl,o1,b1,t1⟩;obtain⟨ao,c,rfl⟩:=slice_form o1;have R:=h.rest t1 (ownsRow_typed h.ns) (by decide);have hon:Apart (.slice a.o s.open_.length a.co) (.slice ao (remK PendV.tid t s.noes).length c):=Apart.symm (by unfold Apart;rw[b1];exact h.on.symm);exact⟨ao,c,rfl,R,h.setNoes R (rem_lay PendV.tid t h.vn) (ownsRow_turn h.os t1 (apart_not h.on.symm)) (row_own o1 (lo_or (row_lo h.ns) (box_lo h) (.inl b1))) hon (fun x hx=>.inl (remK_sub.subset hx)) (h.alone.sublist ((List.Sublist.refl _).append remK_sub)),(Tn.row h.ns (by decide) t1).trans (Tn.cell h.lob ⟨_,_,_,R.head,by decide⟩ _ _)⟩
theorem stEnd_calls {w:World} {lo b:Nat} {s:StV} {a:Ads} {LW:List (Lay BrV)} {LO LN:List (Lay PendV)} (h:Box w lo b s a LW LO LN) (hre:Rising EndV.tid s.ends) (hle:s.ends.length≤2000) (hrw:Rising BrV.tid s.waits) (hlw:s.waits.length≤2000) (hro:Rising PendV.tid s.open_) (hlo:s.open_.length≤2000) (t:Int) (yes:Bool):
 Calls Tryz.prog 193 #[.pointer (some ⟨b,0,none⟩),.int .i64 t,.bool yes] w fun e w'=>e=.returned (.tuple #[])∧
  ∃a' LW' LO',Box w' lo b {s with ends:=insK EndV.tid ⟨t,yes⟩ s.ends,waits:=remK BrV.tid t s.waits,open_:=remK PendV.tid t s.open_} a' LW' LO' LN∧Tn lo w w':=by
 have C1:=η (box_with_ends h hre hle t yes);have C2:=η (fun wx (ax:Ads) (q:Box wx lo b {s with ends:=insK EndV.tid ⟨t,yes⟩ s.ends} ax LW LO LN)=>box_without_waits q hrw hlw t);have C3:=η (fun wx (ax:Ads) LWx (q:Box wx lo b {s with ends:=insK EndV.tid ⟨t,yes⟩ s.ends,waits:=remK BrV.tid t s.waits} ax LWx LO LN)=>box_without_open q hro hlo t);obtain⟨c0,c1,c2,c3,c4,c5,c6,c7,c8⟩:=nine_of h.head;clear h hre hle hrw hlw hro hlo;dsimp only at C1 C2 C3;go_in;go_wp2_with fail;refine C1.out.mono ?_;rintro e x1 ⟨ao1,k1,rfl,r1,b1,t1⟩;have B1:=η b1;have V1:=η t1;obtain⟨d0,d1,d2,d3,d4,d5,d6,d7,d8⟩:=nine_of r1.head;have fr1:∀j,x1.frozen? ⟨b,j,none⟩=false:=fun j=>unfrozen_of r1.head
 clear r1 b1 t1 C1 c0 c1 c2 c3 c4 c5 c6 c7 c8;obtain⟨f0,f1,f2,f3,f4,f5,f6,f7,f8⟩:=nine_of B1.out.head;go_wp2_with fail;refine(C2.out _ _ B1.out).mono ?_;rintro e x2 ⟨ao2,k2,rfl,r2,b2,t2⟩;have B2:=η b2;have V2:=η (V1.out.trans t2);clear d0 d1 d2 d3 d4 d5 d6 d7 d8 fr1 f0 f1 f2 f3 f4 f5 f6 f7 f8;obtain⟨d0,d1,d2,d3,d4,d5,d6,d7,d8⟩:=nine_of r2.head;have fr1:∀j,x2.frozen? ⟨b,j,none⟩=false:=fun j=>unfrozen_of r2.head
 clear r2 b2 t2 C2;obtain⟨f0,f1,f2,f3,f4,f5,f6,f7,f8⟩:=nine_of B2.out.head;go_wp2_with fail;refine(C3.out _ _ _ B2.out).mono ?_;rintro e x3 ⟨ao3,k3,rfl,r3,b3,t3⟩;have B3:=η b3;have V3:=η (V2.out.trans t3);clear d0 d1 d2 d3 d4 d5 d6 d7 d8 fr1 f0 f1 f2 f3 f4 f5 f6 f7 f8;obtain⟨d0,d1,d2,d3,d4,d5,d6,d7,d8⟩:=nine_of r3.head;have fr1:∀j,x3.frozen? ⟨b,j,none⟩=false:=fun j=>unfrozen_of r3.head
 clear r3 b3 t3 C3;go_wp2_with fail;go_end0;exact⟨rfl,_,_,_,B3.out,V3.out⟩
theorem insK_map {α β:Type} (key:β→Int) (f:α→β) (x:α) (l:List α):insK key (f x) (l.map f)=(insK (fun y=>key (f y)) x l).map f:=by
 rw[insK_pos,insK_pos,posK_map,List.map_append,List.map_cons,List.map_take,List.map_drop]
theorem ins_lay {α:Type} (key:α→Int) (x:Lay α) {L:List (Lay α)} {l:List α} (h:L.map Lay.v=l):(insK (fun y:Lay α=>key y.v) x L).map Lay.v=insK key x.v l:=by
 rw[←h,insK_map]
theorem insK_perm {α:Type} (key:α→Int) (x:α) (l:List α):(insK key x l).Perm (x::l):=by
 rw[insK_pos];have:=List.perm_middle (a:=x) (l₁:=l.take (posK key (key x) l)) (l₂:=l.drop (posK key (key x) l));rwa[List.take_append_drop]at this
theorem alone_ins {L M:List (Lay PendV)} {x:Lay PendV} (h:(L++M).Pairwise fun y z=>Apart (partsRow y) (partsRow z)) (hx:∀y∈L++M,Apart (partsRow x) (partsRow y)):(insK (fun y:Lay PendV=>y.v.tid) x L++M).Pairwise fun y z=>Apart (partsRow y) (partsRow z):=by
 refine(List.Perm.pairwise_iff (fun q=>Apart.symm q) ((insK_perm (fun y:Lay PendV=>y.v.tid) x L).append_right M)).2 ?_;exact List.pairwise_cons.2 ⟨hx,h⟩
theorem alone_ins2 {L M:List (Lay PendV)} {x:Lay PendV} (h:(L++M).Pairwise fun y z=>Apart (partsRow y) (partsRow z)) (hx:∀y∈L++M,Apart (partsRow x) (partsRow y)):(L++insK (fun y:Lay PendV=>y.v.tid) x M).Pairwise fun y z=>Apart (partsRow y) (partsRow z):=by
 have p:(L++insK (fun y:Lay PendV=>y.v.tid) x M).Perm (x::(L++M)):=((insK_perm (fun y:Lay PendV=>y.v.tid) x M).append_left L).trans List.perm_middle;exact(List.Perm.pairwise_iff (fun q=>Apart.symm q) p).2 (List.pairwise_cons.2 ⟨hx,h⟩)
theorem box_with_waits {w:World} {lo b:Nat} {s:StV} {a:Ads} {LW:List (Lay BrV)} {LO LN:List (Lay PendV)} (h:Box w lo b s a LW LO LN) (hre:Rising BrV.tid s.waits) (hle:s.waits.length≤2000) (x:Lay BrV) (hx:w.ownsRow lo 45 2 (putsRow x) x.v.puts.length (pcells x.v.puts)):
 Calls Tryz.prog 149 #[.slice a.w s.waits.length a.cw,.agg #[.int .i64 x.v.tid,.slice x.ao x.v.puts.length x.c],.func (.func 115) #[] #[]] w fun e w1=>∃ao c,e=.returned (.slice ao (insK BrV.tid x.v s.waits).length c)∧Rest w1 lo b s a LW LO LN 81∧
  Box (w1.setCell ⟨b,5,none⟩ (.slice ao (insK BrV.tid x.v s.waits).length c)) lo b {s with waits:=insK BrV.tid x.v s.waits} {a with w:=ao,cw:=c} (insK (fun y:Lay BrV=>y.v.tid) x LW) LO LN∧Tn lo w (w1.setCell ⟨b,5,none⟩ (.slice ao (insK BrV.tid x.v s.waits).length c))∧Turn (Value.slice a.w s.waits.length a.cw).ownBlock.toList w w1:=by
 have hlen:s.waits.length=(LW.map brP).length:=by rw[List.length_map,←h.vw,List.length_map]
 have C1:=VB.with_calls (row_zero (by have:=h.ws;rwa[hlen]at this)) (rising_brs.2 (by rw[h.vw];exact hre)) (by rw[←hlen];exact hle) (ones_brs LW) x.v.tid x.ao x.v.puts.length x.c;have e1:insV (LW.map brP) (posK Prod.fst x.v.tid (LW.map brP)) (x.v.tid,.slice x.ao x.v.puts.length x.c)=(insK (fun y:Lay BrV=>y.v.tid) x LW).map brP:=insV_map brP (fun y:Lay BrV=>y.v.tid) (fun _=>rfl) x LW;rw[e1,←hlen,show s.waits.length+1=(insK BrV.tid x.v s.waits).length from insK_len.symm]at C1;refine C1.mono ?_;rintro e w1 ⟨v',rfl,o1,b1,t1⟩;obtain⟨ao,c,rfl⟩:=slice_form o1;have R:=h.rest t1 (ownsRow_typed h.ws) (by decide)
 exact⟨ao,c,rfl,R,h.setWaits R (ins_lay BrV.tid x h.vw) (row_own o1 (lo_or (row_lo h.ws) (box_lo h) b1)) (fun y hy=>by
  rcases insK_mem.1 hy with rfl | hy
  · exact .inr (ownsRow_keep hx t1 (ownsRow_typed h.ws) (by decide))
  · exact .inl hy),(Tn.row h.ws (by decide) t1).trans (Tn.cell h.lob ⟨_,_,_,R.head,by decide⟩ _ _),t1⟩
theorem new_apart {w:World} {lo' n':Nat} {e:TypeId} {v v':Value} {xs':List Value} {g:Nat} (h:w.ownsRow lo' e 1 v' n' xs') (hv:v.ownBlock=none∨v.ownBlock=some g) (hg:w.heap.size≤g):Apart v v':=by
 rcases hv with hv | hv
 · exact .inl hv
 · refine .inr fun e1=>?_
   rcases h.2 with⟨e2,_⟩ | ⟨g',cap,cur,e2,_,hg',_⟩
   · rw[hv,e2]at e1;simp[Value.ownBlock]at e1
   · rw[hv,e2]at e1;have:g=g':=by simpa[Value.ownBlock]using e1
     have:=lt_of_heap hg';omega
theorem box_with_open {w:World} {lo b:Nat} {s:StV} {a:Ads} {LW:List (Lay BrV)} {LO LN:List (Lay PendV)} (h:Box w lo b s a LW LO LN) (hre:Rising PendV.tid s.open_) (hle:s.open_.length≤2000) (x:Lay PendV) (hx:w.ownsRow lo 3 1 (partsRow x) x.v.parts.length (i64s x.v.parts)) (hap:∀y∈LO++LN,Apart (partsRow x) (partsRow y)):
 Calls Tryz.prog 152 #[.slice a.o s.open_.length a.co,.agg #[.int .i64 x.v.tid,.slice x.ao x.v.parts.length x.c],.func (.func 119) #[] #[]] w fun e w1=>∃ao c,e=.returned (.slice ao (insK PendV.tid x.v s.open_).length c)∧Rest w1 lo b s a LW LO LN 65∧
  Box (w1.setCell ⟨b,7,none⟩ (.slice ao (insK PendV.tid x.v s.open_).length c)) lo b {s with open_:=insK PendV.tid x.v s.open_} {a with o:=ao,co:=c} LW (insK (fun y:Lay PendV=>y.v.tid) x LO) LN∧Tn lo w (w1.setCell ⟨b,7,none⟩ (.slice ao (insK PendV.tid x.v s.open_).length c))∧Turn (Value.slice a.o s.open_.length a.co).ownBlock.toList w w1:=by
 have hlen:s.open_.length=(LO.map pendP').length:=by rw[List.length_map,←h.vo,List.length_map]
 have C1:=VP.with_calls (row_zero (by have:=h.os;rwa[hlen]at this)) (rising_pds.2 (by rw[h.vo];exact hre)) (by rw[←hlen];exact hle) (ones_pds LO) x.v.tid x.ao x.v.parts.length x.c;have e1:insV (LO.map pendP') (posK Prod.fst x.v.tid (LO.map pendP')) (x.v.tid,.slice x.ao x.v.parts.length x.c)=(insK (fun y:Lay PendV=>y.v.tid) x LO).map pendP':=insV_map pendP' (fun y:Lay PendV=>y.v.tid) (fun _=>rfl) x LO;rw[e1,←hlen,show s.open_.length+1=(insK PendV.tid x.v s.open_).length from insK_len.symm]at C1;refine C1.mono ?_;rintro e w1 ⟨v',rfl,o1,b1,t1⟩;obtain⟨ao,c,rfl⟩:=slice_form o1;have R:=h.rest t1 (ownsRow_typed h.os) (by decide);have hon:Apart (.slice ao (insK PendV.tid x.v s.open_).length c) (.slice a.n s.noes.length a.cn):=by
  rcases b1 with e | ⟨q,e,hq⟩
  · unfold Apart;rw[e];exact h.on
  · refine .inr fun e1=>?_
    rw[e]at e1;rcases h.ns.2 with⟨e2,_⟩ | ⟨g',cap,cur,e2,_,hg',_⟩
    · rw[e2]at e1;simp[Value.ownBlock]at e1
    · rw[e2]at e1;have:q=g':=by simpa[Value.ownBlock]using e1
      have:=lt_of_heap hg';omega
 exact⟨ao,c,rfl,R,h.setOpen R (ins_lay PendV.tid x h.vo) (ownsRow_turn h.ns t1 (apart_not h.on)) (row_own o1 (lo_or (row_lo h.os) (box_lo h) b1)) hon (fun y hy=>by
  rcases insK_mem.1 hy with rfl | hy
  · exact .inr (ownsRow_keep hx t1 (ownsRow_typed h.os) (by decide))
  · exact .inl hy) (alone_ins h.alone hap),(Tn.row h.os (by decide) t1).trans (Tn.cell h.lob ⟨_,_,_,R.head,by decide⟩ _ _),t1⟩
theorem box_with_noes {w:World} {lo b:Nat} {s:StV} {a:Ads} {LW:List (Lay BrV)} {LO LN:List (Lay PendV)} (h:Box w lo b s a LW LO LN) (hre:Rising PendV.tid s.noes) (hle:s.noes.length≤2000) (x:Lay PendV) (hx:w.ownsRow lo 3 1 (partsRow x) x.v.parts.length (i64s x.v.parts)) (hap:∀y∈LO++LN,Apart (partsRow x) (partsRow y)):
 Calls Tryz.prog 152 #[.slice a.n s.noes.length a.cn,.agg #[.int .i64 x.v.tid,.slice x.ao x.v.parts.length x.c],.func (.func 119) #[] #[]] w fun e w1=>∃ao c,e=.returned (.slice ao (insK PendV.tid x.v s.noes).length c)∧Rest w1 lo b s a LW LO LN 65∧
  Box (w1.setCell ⟨b,8,none⟩ (.slice ao (insK PendV.tid x.v s.noes).length c)) lo b {s with noes:=insK PendV.tid x.v s.noes} {a with n:=ao,cn:=c} LW LO (insK (fun y:Lay PendV=>y.v.tid) x LN)∧Tn lo w (w1.setCell ⟨b,8,none⟩ (.slice ao (insK PendV.tid x.v s.noes).length c))∧Turn (Value.slice a.n s.noes.length a.cn).ownBlock.toList w w1:=by
 have hlen:s.noes.length=(LN.map pendP').length:=by rw[List.length_map,←h.vn,List.length_map]
 have C1:=VP.with_calls (row_zero (by have:=h.ns;rwa[hlen]at this)) (rising_pds.2 (by rw[h.vn];exact hre)) (by rw[←hlen];exact hle) (ones_pds LN) x.v.tid x.ao x.v.parts.length x.c;have e1:insV (LN.map pendP') (posK Prod.fst x.v.tid (LN.map pendP')) (x.v.tid,.slice x.ao x.v.parts.length x.c)=(insK (fun y:Lay PendV=>y.v.tid) x LN).map pendP':=insV_map pendP' (fun y:Lay PendV=>y.v.tid) (fun _=>rfl) x LN;rw[e1,←hlen,show s.noes.length+1=(insK PendV.tid x.v s.noes).length from insK_len.symm]at C1;refine C1.mono ?_;rintro e w1 ⟨v',rfl,o1,b1,t1⟩;obtain⟨ao,c,rfl⟩:=slice_form o1;have R:=h.rest t1 (ownsRow_typed h.ns) (by decide)
 have hon:Apart (.slice a.o s.open_.length a.co) (.slice ao (insK PendV.tid x.v s.noes).length c):=Apart.symm (by
  rcases b1 with e | ⟨q,e,hq⟩
  · unfold Apart;rw[e];exact h.on.symm
  · refine .inr fun e1=>?_
    rw[e]at e1;rcases h.os.2 with⟨e2,_⟩ | ⟨g',cap,cur,e2,_,hg',_⟩
    · rw[e2]at e1;simp[Value.ownBlock]at e1
    · rw[e2]at e1;have:q=g':=by simpa[Value.ownBlock]using e1
      have:=lt_of_heap hg'
      omega)
 exact⟨ao,c,rfl,R,h.setNoes R (ins_lay PendV.tid x h.vn) (ownsRow_turn h.os t1 (apart_not h.on.symm)) (row_own o1 (lo_or (row_lo h.ns) (box_lo h) b1)) hon (fun y hy=>by
  rcases insK_mem.1 hy with rfl | hy
  · exact .inr (ownsRow_keep hx t1 (ownsRow_typed h.ns) (by decide))
  · exact .inl hy) (alone_ins2 h.alone hap),(Tn.row h.ns (by decide) t1).trans (Tn.cell h.lob ⟨_,_,_,R.head,by decide⟩ _ _),t1⟩
end Go.Proofs.YtkjpjfghklgdhaaGreat
