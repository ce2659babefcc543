/-
  PkAP
-/
import Derived.Test.YtkjpjfghklgdhaaGreatPkAO
set_option maxHeartbeats 8000000
set_option maxRecDepth 100000
namespace Go.Proofs.YtkjpjfghklgdhaaGreat
open Go.RowKit Go.Proofs.YtkjpjfghklgdhaaGreat.V
theorem remK_mid {α:Type} {key:α→Int} {t:Int} {y:α} (hy:key y=t):∀{A B:List α},(∀a∈A,key a≠t)→remK key t (A++y::B)=A++B
 | [],B,_=>by unfold remK;rw[List.nil_append,List.eraseP_cons_of_pos (by simpa using hy)];rfl
 | a::A,B,h=>by
  have ih:=remK_mid (B:=B) hy (A:=A) (fun x hx=>h x (by simp[hx]));unfold remK at ih ⊢;rw[List.cons_append,List.eraseP_cons_of_neg (by simpa using h a (by simp)),ih];rfl
theorem insK_mid {α:Type} {key:α→Int} {y:α}:∀{A B:List α},(∀a∈A,key a<key y)→(∀b∈B,key y<key b)→insK key y (A++B)=A++y::B
 | [],[],_,_=>rfl
 | [],b::B,_,h=>by
  have:=h b (by simp);rw[List.nil_append,insK_cons,if_neg (by omega)];rfl
 | a::A,B,h,h2=>by
  rw[List.cons_append,insK_cons,if_pos (h a (by simp)),insK_mid (fun x hx=>h x (by simp[hx])) h2];rfl
theorem set_noes {l:List PendV} (hr:Rising PendV.tid l) {t:Int} {p:PendV} (hp:l[posK PendV.tid t l]?=some p) (ht:p.tid=t) (q:List Int):
 l.set (posK PendV.tid t l) ⟨t,q⟩=insK PendV.tid ⟨t,q⟩ (remK PendV.tid t l)∧remK PendV.tid t (l.set (posK PendV.tid t l) ⟨t,q⟩)=remK PendV.tid t l:=by
 obtain⟨n,hn⟩:=ε (posK PendV.tid t l);have hlt:∀x∈l.take n,x.tid<t:=fun x hx=>by
  obtain⟨j,hj,rfl⟩:=List.getElem_of_mem hx;rw[List.length_take]at hj;rw[List.getElem_take];exact posK_lo (key:=PendV.tid) (t:=t) (l:=l) (i:=j) (by omega) (by simp)
 rw[←hn]at hp ⊢;obtain⟨hi,hpe⟩:=List.getElem?_eq_some_iff.1 hp;have hd:l.drop n=p::l.drop (n+1):=drop_cons hp;have hl:l=l.take n++p::l.drop (n+1):=by rw[←hd,List.take_append_drop]
 have hgt:∀x∈l.drop (n+1),t<x.tid:=fun x hx=>by
  have h2:=hr;rw[hl]at h2;have:=(List.pairwise_cons.1 (List.pairwise_append.1 h2).2.1).1 x hx;omega
 have hs:l.set n ⟨t,q⟩=l.take n++(⟨t,q⟩:PendV)::l.drop (n+1):=by
  rw[List.set_eq_take_append_cons_drop,if_pos hi]
 have hrm:remK PendV.tid t l=l.take n++l.drop (n+1):=by
  conv=>lhs;rw[hl]
  exact remK_mid ht (fun a ha=>by have:=hlt a ha;omega)
 refine⟨?_,?_⟩
 · rw[hs,hrm,insK_mid (fun a ha=>hlt a ha) (fun b hb=>hgt b hb)]
 · rw[hs,hrm];exact remK_mid (t:=t) rfl (fun a ha=>by have:=hlt a ha;omega)
theorem Box.setParts {w w1:World} {lo b:Nat} {s:StV} {a:Ads} {LW:List (Lay BrV)} {LO LN:List (Lay PendV)} (h:Box w lo b s a LW LO LN) {n:Nat} {x x':Lay PendV} (hx:LN[n]?=some x) (hv:x'.v.tid=x.v.tid) (t:Turn (partsRow x).ownBlock.toList w w1)
 (hr:w1.ownsRow lo 3 1 (partsRow x') x'.v.parts.length (i64s x'.v.parts)) (hb:(partsRow x').ownBlock=(partsRow x).ownBlock) {g:Nat} (hg:a.n=some ⟨g,0,none⟩):
 Rest w1 lo b s a LW LO LN 3∧Box (w1.setCell ⟨g,n*2+1,none⟩ (partsRow x')) lo b {s with noes:=s.noes.set n x'.v} a LW LO (LN.set n x'):=by
 have hxm:x∈LO++LN:=List.mem_append.2 (.inr (List.mem_of_getElem? hx));have htp:=ownsRow_typed (h.parts x hxm);have r:=h.rest t htp (by decide);refine⟨r,?_⟩;have hgt:∃cs fr,w1.heap[g]?=some (.cells cs 65 fr):=ownsRow_typed (r.ns (by decide)) g (by rw[hg];simp[Value.ownBlock]);have tg:Turn [g] w1 (w1.setCell ⟨g,n*2+1,none⟩ (partsRow x')):=Turn.setCell (l:=[g]) w1 (by simp) _;have hgl:∀k∈[g],∃cs fr,w1.heap[k]?=some (.cells cs 65 fr):=fun k hk=>by
  have:k=g:=by simpa using hk
  rw[this];exact hgt
 have hi:=(List.getElem?_eq_some_iff.1 hx).1;have hns:=r.ns (by decide);rw[hg]at hns;have hst:=(hns.stored (n*2+1) (partsRow x')).1
 have hfs:=flat_set (n:=2) (f:=pairC) (fun _=>rfl) (LN.map pendP') n 1 (pendP' x) (pendP' x') (partsRow x') (by rw[List.getElem?_map,hx];rfl) (by omega) (by
  show[Value.int .i64 x'.v.tid,partsRow x']=[Value.int .i64 x.v.tid,partsRow x']
  rw[hv])
 have halone:∀z∈LO++LN.set n x',z=x'∨(z∈LO++LN∧Apart (partsRow x) (partsRow z)):=by
  intro z hz;rcases List.mem_append.1 hz with hz | hz
  · exact .inr ⟨List.mem_append.2 (.inl hz),Apart.symm ((List.pairwise_append.1 h.alone).2.2 z hz x (List.mem_of_getElem? hx))⟩
  · obtain⟨j,hj,rfl⟩:=List.getElem_of_mem hz;rw[List.getElem_set];split
    · exact .inl rfl
    · rename_i hne;rw[List.length_set]at hj;have hp:=List.pairwise_iff_getElem.1 (List.pairwise_append.1 h.alone).2.1;have hxe:=(List.getElem?_eq_some_iff.1 hx).2;refine .inr ⟨List.mem_append.2 (.inr (List.getElem_mem hj)),?_⟩;rcases Nat.lt_or_ge n j with h1 | h1
      · have:=hp n j hi hj h1;rwa[hxe]at this
      · have:=hp j n hj hi (by omega);rw[hxe]at this;exact this.symm
 have hlen:(s.noes.set n x'.v).length=s.noes.length:=List.length_set;refine⟨?_,h.lob,h.vw,h.vo,?_,ownsRow_keep (r.ms (by decide)) tg hgl (by decide),ownsRow_keep (r.ws (by decide)) tg hgl (by decide),ownsRow_keep (r.es (by decide)) tg hgl (by decide),?_,?_,?_,fun y hy=>ownsRow_keep (r.puts (by decide) y hy) tg hgl (by decide),?_,?_⟩
 · have:=heap_keep r.head tg hgl (by decide);unfold StV.cells at this ⊢;dsimp only;rw[hlen];exact this
 · dsimp only;rw[List.map_set,h.vn]
 · refine ownsRow_turn (r.os (by decide)) tg (fun k hk hm=>?_);have hm:k=g:=by simpa using hm
   subst hm;rcases h.on with e | e
   · rw[e]at hk;cases hk
   · exact e (by rw[hk,hg];rfl)
 · dsimp only;rw[hlen,hg,List.map_set];rw[vcells_flat,hfs]at hst;exact hst
 · dsimp only;rw[hlen];exact h.on
 · intro z hz;rcases halone z hz with rfl | ⟨h1,h2⟩
   · exact ownsRow_keep hr tg hgl (by decide)
   · exact ownsRow_keep (ownsRow_turn (h.parts z h1) t (apart_not h2)) tg hgl (by decide)
 · have e:LO++LN.set n x'=(LO++LN).set (LO.length+n) x':=by
    rw[List.set_append_right _ _ (by omega),Nat.add_sub_cancel_left]
   rw[e,List.pairwise_iff_getElem];have hxx:(LO++LN)[LO.length+n]?=some x:=by rw[List.getElem?_append_right (by omega),Nat.add_sub_cancel_left,hx]
   obtain⟨hi2,hxe⟩:=List.getElem?_eq_some_iff.1 hxx;have hp:=List.pairwise_iff_getElem.1 h.alone;intro i j hi' hj' hij;rw[List.length_set]at hi' hj';rw[List.getElem_set,List.getElem_set];have:=hp i j hi' hj' hij;split
   · rename_i e1;rw[if_neg (by omega)];subst e1;rw[hxe]at this;unfold Apart at this ⊢;rw[hb];exact this
   · split
     · rename_i e1;subst e1;rw[hxe]at this;unfold Apart at this ⊢;rw[hb];exact this
     · exact this
def toldL (s:StV) (t part:Int):List PendV:=
 let l:=keepI part ((pendOf s.noes t).getD ⟨0,[]⟩).parts
 if 0<l.length then insK PendV.tid ⟨t,l⟩ (remK PendV.tid t s.noes)else remK PendV.tid t s.noes
theorem told_calls {w:World} {lo b:Nat} {s:StV} {a:Ads} {LW:List (Lay BrV)} {LO LN:List (Lay PendV)} (h:Box w lo b s a LW LO LN) (hre:Rising PendV.tid s.noes) (hle:s.noes.length≤2000) (t part:Int) (hk:keyB PendV.tid s.noes t=true) (hf:∀p∈s.noes,p.parts.length≤100000):
 Calls Tryz.prog 154 #[.pointer (some ⟨b,0,none⟩),.int .i64 t,.int .i64 part] w fun e w'=>e=.returned (.tuple #[])∧∃a' LN',Box w' lo b {s with noes:=toldL s t part} a' LW LO LN'∧Tn lo w w':=by
 obtain⟨p,hp,hpt,hpf⟩:=posK_find hre hk;have hpo:pendOf s.noes t=some p:=hpf;have hlen:s.noes.length=LN.length:=by rw[←h.vn,List.length_map]
 have hx0:∃x,LN[posK PendV.tid t s.noes]?=some x∧x.v=p:=by
  rw[←h.vn,List.getElem?_map]at hp;rw[h.vn]at hp;exact Option.map_eq_some_iff.1 hp
 obtain⟨x,hx,hxv⟩:=hx0;have hpm:=List.mem_of_getElem? hp
 have HTL:Hid (toldL s t part=if 0<(keepI part x.v.parts).length then s.noes.set (posK PendV.tid t s.noes) ⟨t,keepI part x.v.parts⟩else remK PendV.tid t (s.noes.set (posK PendV.tid t s.noes) ⟨t,keepI part x.v.parts⟩)):=η (by
  unfold toldL;rw[hpo,hxv];obtain⟨e1,e2⟩:=set_noes hre hp hpt (keepI part p.parts);rw[e2,e1]
  rfl)
 have hri:Rising PendV.tid (s.noes.set (posK PendV.tid t s.noes) ⟨t,keepI part x.v.parts⟩):=by
  rw[(set_noes hre hp hpt _).1];exact insK_rising (remK_rising hre) (fun y hy=>((remK_mem hre).1 hy).2)
 have hxt:x.v.tid=t:=by rw[hxv,hpt]
 have hxf:x.v.parts.length≤100000:=by rw[hxv];exact hf p hpm
 have hpl:=(List.getElem?_eq_some_iff.1 hp).1;obtain⟨n,hn⟩:=ε (posK PendV.tid t s.noes);rw[←hn]at HTL hri hx hpl;obtain⟨TL,hTL⟩:=ε (toldL s t part);rw[←hTL]at HTL ⊢;obtain⟨kl,hkl⟩:=ε ((keepI part x.v.parts).length);rw[←hkl]at HTL;have HKL:=η hkl;clear hTL hkl;have t0:=Turn.alloc [] w (.cells #[.int .i64 part] 3);have hq0:=cell_new w (.int .i64 part) 3;have HB0:=η (h.still t0);have T0:=η t0;have HLen:=η hlen
 have C1:Hid (∀wx,Turn [] w wx→Calls Tryz.prog 135 #[.slice a.n s.noes.length a.cn,.int .i64 t,.func (.func 119) #[] #[]] wx fun e w'=>e=.returned (.tuple #[.int .i64 (n:Int),.bool true])∧Turn [] wx w'):=η (fun wx tt=>by
  have hb:=h.still tt;have hns:=hb.ns;rw[hlen]at hns;have hT:Tl 2 pairC wx a.n a.cn (LN.map pendP'):=Tl.of_own (n:=2) (f:=pairC) (B:=0) (e:=65) (fun _=>rfl) (by rw[List.length_map];exact row_zero hns);have:=VP.place_calls hT (rising_pds.2 (by rw[h.vn];exact hre)) (by rw[List.length_map,←hlen];omega) t
  rwa[List.length_map,posK_pds,keyB_pds,h.vn,←hlen,hk,←hn]at this)
 have hxm:x∈LO++LN:=List.mem_append.2 (.inr (List.mem_of_getElem? hx))
 have D1:Hid (∀wx,Turn [] (w.alloc (.cells #[.int .i64 part] 3)) wx→Calls Tryz.prog 198 #[.slice x.ao x.v.parts.length x.c,.func (.func 199) #[] #[.pointer (some ⟨w.heap.size,0,none⟩)]] wx fun e w'=>
  ∃v',e=.returned v'∧w'.ownsRow lo 3 1 v' (keepI part x.v.parts).length (i64s (keepI part x.v.parts))∧v'.ownBlock=(partsRow x).ownBlock∧Turn (partsRow x).ownBlock.toList wx w'):=η (fun wx tt=>by
  have hpr:=((HB0.out.still tt).parts x hxm)
  rw[i64s_flat]at hpr
  have:=deleteI_calls hpr part (tt.cell hq0) (fun e=>by
   have hpr0:=h.parts x hxm;rcases hpr0.2 with⟨e1,_⟩ | ⟨g,cap,cur,e1,_,hg,_⟩
   · rw[e1]at e;simp[Value.ownBlock]at e
   · rw[e1]at e;have:g=w.heap.size:=by simpa[Value.ownBlock]using e
     have:=lt_of_heap hg
     omega) hxf
  rw[←i64s_flat]at this
  exact this)
 have W1:=η (fun wx (ax:Ads) (LX:List (Lay PendV)) (q:Box wx lo b {s with noes:=s.noes.set n ⟨t,keepI part x.v.parts⟩} ax LW LO LX)=>box_without_noes q hri (by dsimp only;rw[List.length_set];exact hle) t);have HXX:=η hx;have HXT:=η hxt;have HNS:∃g,a.n=some ⟨g,0,none⟩:=by
  rcases h.ns.2 with⟨_,h0⟩ | ⟨g,cap,cur,e,_⟩
  · omega
  · injection e with e1 _ _
    exact⟨g,e1⟩
 obtain⟨g,hg⟩:=HNS;have HG:=η hg
 have HC:Hid (∀wx,Turn [] w wx→wx.cell? ⟨g,n*2+1,none⟩=some (partsRow x)∧wx.frozen? ⟨g,n*2+1,none⟩=false):=η (fun wx tt=>by
  have hns:=(h.still tt).ns;rw[hlen]at hns;have hT:Tl 2 pendC wx a.n a.cn LN:=Tl.of_own (n:=2) (f:=pendC) (B:=0) (e:=65) (fun _=>rfl) (by have:=row_zero hns;rw[vcells_flat,flat_map]at this;exact this);obtain⟨g',off',e0,hat⟩:=hT.at hx;have hns2:=hns;rw[hg]at e0 hns2;injection e0 with e0
  injection e0 with e1 e2 _
  subst e1 e2;have:=hat 1 _ rfl;rw[Nat.zero_add]at this;refine⟨this,?_⟩;obtain⟨cs,fr,e⟩:=ownsRow_typed hns2 g (by simp[Value.ownBlock]);rcases hns2.2 with⟨e3,_⟩ | ⟨g2,cap,cur,e3,_,hg2,_⟩
  · simp at e3
  · have:g=g2:=by
     injection e3 with e3 _ _
     injection e3 with e3
     injection e3
    subst this
    exact unfrozen_of hg2)
 obtain⟨c0,c1,c2,c3,c4,c5,c6,c7,c8⟩:=nine_of HB0.out.head;rw[hg]at c8;obtain⟨nn,hnn⟩:=ε s.noes.length;rw[hg]at C1;rw[←hnn]at C1 c8 hpl;have hb:0≤(n:Int)∧(n:Int)<(nn:Int):=by omega
 have HNN:=η hnn;clear h hre hle hk hf hp hpt hpf hpo hlen hxv hpm hri hxt hxf hpl hn t0 hq0 hx hxm hg hnn;go_in;go_wp2_with fail;refine(C1.out _ T0.out).mono ?_;rintro e x1 ⟨rfl,t1⟩;have U1:=η t1;clear t1 C1 c0 c1 c2 c3 c4 c5 c6 c7 c8;have B1:=η (HB0.out.still U1.out);obtain⟨c0,c1,c2,c3,c4,c5,c6,c7,c8⟩:=nine_of B1.out.head;rw[HG.out,←HNN.out]at c8;obtain⟨q1,fq⟩:=HC.out _ (T0.out.trans U1.out);unfold partsRow at q1;go_wp2_with fail;refine(D1.out _ U1.out).mono ?_;rintro e x2 ⟨v',rfl,o2,b2,t2⟩;obtain⟨ao',c',rfl⟩:=slice_form o2;obtain⟨R2,B2⟩:=B1.out.setParts (x':=⟨⟨t,keepI part x.v.parts⟩,ao',c'⟩) HXX.out HXT.out.symm t2 o2 b2 HG.out
 have V2:=(Tn.still (lo:=lo) (T0.out.trans U1.out)).trans ((Tn.row (B1.out.parts x (List.mem_append.2 (.inr (List.mem_of_getElem? HXX.out)))) (by decide) t2).trans (Tn.cell (b:=g) (row_lo B1.out.ns g (by rw[HG.out];rfl)) (by
  obtain⟨cs,fr,e⟩:=ownsRow_typed (R2.ns (by decide)) g (by rw[HG.out];simp[Value.ownBlock])
  exact⟨cs,fr,_,e,by decide⟩) (n*2+1) (partsRow ⟨⟨t,keepI part x.v.parts⟩,ao',c'⟩)))
 have hns:=R2.ns (by decide);rw[HG.out]at hns;have hg2:∃cs,x2.heap[g]?=some (.cells cs 65 (0,0))∧n*2+1<cs.size:=by
  rcases hns.2 with⟨e3,_⟩ | ⟨g2,cap,cur,e3,_,hg2,hnc,_,hsz,_⟩
  · simp at e3
  · have:g=g2:=by
     injection e3 with e3 _ _
     injection e3 with e3
     injection e3
    subst this;exact⟨cur,hg2,by have:=HNN.out;omega⟩
 obtain⟨cs,hg2,hcs⟩:=hg2;have f2:x2.frozen? ⟨g,n*2+1,none⟩=false:=unfrozen_of hg2;obtain⟨v2,q2⟩:∃v,x2.cell? ⟨g,n*2+1,none⟩=some v:=⟨_,(cell_of_row x2 g (n*2+1) _ _ _ hg2).trans (Array.getElem?_eq_getElem hcs)⟩
 obtain⟨d0,d1,d2,d3,d4,d5,d6,d7,d8⟩:=nine_of R2.head;rw[HG.out,←HNN.out]at d8;unfold partsRow at B2 V2;dsimp only at B2 V2;rw[←HKL.out]at B2 V2 ⊢;have HB2:=η B2;have HV2:=η V2;clear o2 b2 t2 D1 c0 c1 c2 c3 c4 c5 c6 c7 c8 q1 fq hns hg2 hcs R2 B2 V2 B1;by_cases h0:kl=0
 · subst h0;have HE:Hid (TL=remK PendV.tid t (s.noes.set n ⟨t,keepI part x.v.parts⟩)):=η (by rw[HTL.out,if_neg (by omega)]);obtain⟨e0,e1,e2,e3,e4,e5,e6,e7,e8⟩:=nine_of HB2.out.head;have fr2:∀j,(x2.setCell ⟨g,n*2+1,none⟩ (.slice ao' 0 c')).frozen? ⟨b,j,none⟩=false:=fun j=>unfrozen_of HB2.out.head
   try dsimp only at e0 e1 e2 e3 e4 e5 e6 e7 e8
   rw[List.length_set,HG.out,←HNN.out]at e8;have WC:=W1.out _ _ _ HB2.out
   try dsimp only at WC
   rw[List.length_set,HG.out,←HNN.out]at WC;have WC:=η WC;clear W1;go_wp2_with fail;refine WC.out.mono ?_;rintro e x3 ⟨ao3,c3,rfl,r3,b3,t3⟩;have B3:=η b3;have V3:=η (HV2.out.trans t3);obtain⟨g0,g1,g2,g3,g4,g5,g6,g7,g8⟩:=nine_of r3.head;have fr3:∀j,x3.frozen? ⟨b,j,none⟩=false:=fun j=>unfrozen_of r3.head
   clear r3 b3 t3 WC;go_wp2_with fail;go_end0;exact⟨rfl,_,_,by rw[HE.out];exact B3.out,V3.out⟩
 · have hne:((kl:Int)==0)=false:=by simp;omega
   have HE:Hid (TL=s.noes.set n ⟨t,keepI part x.v.parts⟩):=η (by rw[HTL.out,if_pos (by omega)]);go_wp2_with fail;go_end0;exact⟨rfl,_,_,by rw[HE.out];exact HB2.out,HV2.out⟩
def TnP (lo:Nat) (w w':World):Prop:=∃l,(∀k∈l,lo≤k∧∀cs T fr,w.heap[k]?=some (.cells cs T fr)→T≠45∧T≠37)∧Turn l w w'
theorem TnP.refl (lo:Nat) (w:World):TnP lo w w:=⟨[],by simp,Turn.refl _ _⟩
theorem TnP.tn {lo:Nat} {w w':World} (h:TnP lo w w'):Tn lo w w':=by
 obtain⟨l,h1,h2⟩:=h;exact⟨l,fun k hk=>⟨(h1 k hk).1,fun cs fr e=>((h1 k hk).2 cs _ fr e).2 rfl⟩,h2⟩
theorem TnP.step {lo:Nat} {w x y:World} (h:TnP lo w x) {l:List Nat} (t:Turn l x y) (hl:∀k∈l,lo≤k∧∃cs fr T,x.heap[k]?=some (.cells cs T fr)∧(T≠45∧T≠37)):TnP lo w y:=by
 obtain⟨m,h1,h2⟩:=h;refine⟨m++l,fun k hk=>?_,(h2.mono (l':=m++l) (fun i hi=>.inl (List.mem_append.2 (.inl hi)))).trans t (fun i hi=>.inl (List.mem_append.2 (.inr hi)))⟩;by_cases hm:k∈m
 · exact h1 k hm
 · rcases List.mem_append.1 hk with hk | hk
   · exact absurd hk hm
   · obtain⟨h3,cs,fr,T,h4,h5⟩:=hl k hk;refine⟨h3,fun cs' T' fr' e=>?_⟩;have:=h2.heap e hm;rw[h4]at this;injection this with this
     injection this with _ e2 _
     rw[←e2];exact h5
theorem TnP.still {lo:Nat} {w x y:World} (h:TnP lo w x) (t:Turn [] x y):TnP lo w y:=h.step t (by simp)
theorem come_take (b:Int):∀(l:List (ByteArray×ByteArray)) (i q:Int) (k:Nat) (p:ByteArray×ByteArray),l[k]?=some p→come b i q (l.take (k+1))=come b i q (l.take k)++[⟨makeZ b (i+(k:Int)),p.1,p.2,q+(k:Int),0,0⟩]
 | [],i,q,k,p,h=>by simp at h
 | x::l,i,q,0,p,h=>by
  simp only[List.getElem?_cons_zero,Option.some.injEq]at h;subst h;simp[come]
 | x::l,i,q,k+1,p,h=>by
  rw[List.getElem?_cons_succ]at h;have ih:=come_take b l (i+1) (q+1) k p h;rw[List.take_succ_cons,List.take_succ_cons];unfold come;rw[ih,List.cons_append,show i+1+(k:Int)=i+((k+1:Nat):Int) by omega,show q+1+(k:Int)=q+((k+1:Nat):Int) by omega]
theorem msg_flat (l:List MsgV) (m:MsgV):(l++[m]).flatMap msgC=l.flatMap msgC++msgC m:=by
 rw[List.flatMap_append];simp
theorem step_append_m {ops:Array Oper} {o:Oper} {a:Act} {w:World} {K:Act→World→Prop} {Q:Exit→Act→World→Prop} {E:Prop} (hgd:o.guard=none) (s x:Operand)
 (ho:o.op=.call {callee:=.builtin .append,args:=#[s,x],argTypes:=#[22,22]})
 (v:Value) (l:List MsgV) (hs:a.eval s=v) (hown:w.ownsRow 0 49 6 v l.length (l.flatMap msgC))
 (A:Nat) (m:MsgV) (hx:a.eval x=.slice (some ⟨A,0,none⟩) 1 1) (hc:w.heap[A]?=some (.cells (msgC m).toArray 49)) (hb:l.length≤1000000)
 (h:∀v' w',w'.ownsRow 0 49 6 v' (l++[m]).length ((l++[m]).flatMap msgC)→w.grownBy w' v.ownBlock→(v'.ownBlock=v.ownBlock∨v'.ownBlock=some w.heap.size)→K (a.put o.dst v') w'):
 if Region.wanted o (yielded ops a.tmps)=true then Oper.wp Tryz.prog o a w K Q else E:=by
 have hw:Region.wanted o (yielded ops a.tmps)=true:=by simp[Region.wanted,hgd]
 rw[if_pos hw];obtain⟨i0,hi,hz0,hz1,hz2⟩:=info_parts Tryz.crowMsg;obtain⟨v',w',hr,h2,h3,h4,h5⟩:=run_append_own_at (P:=Tryz.prog) w 0 22 o.type 49 i0 _ 6 64 Tryz.underlying22 hi hz0 hz1 hz2 rfl (by decide) v l.length (l.flatMap msgC) hown ⟨A,0,none⟩ 1 1 (msgC m) rfl (fun j u hj=>by rw[Addr.add_lit,Nat.zero_add,cell_of_row _ _ _ _ _ _ hc];simpa using hj) (by intro u hu;simp[msgC]at hu;rcases hu with rfl | rfl | rfl | rfl | rfl | rfl<;>rfl) (by unfold maxLen;omega) (by omega) (Nat.zero_le _);unfold Oper.wp execOp;simp only[ho,resolve,invoke,builtin,Sem.run_bind,Sem.run_pure,Result.andThen_ok,List.map_toArray,List.map_cons,List.map_nil,hs,hx,hr];exact h v' w' (by rw[List.length_append,msg_flat];exact h2) h3 h5
theorem endWell_calls {w:World} {lo b:Nat} {s:StV} {a:Ads} {LW:List (Lay BrV)} {LO LN:List (Lay PendV)} (h:Box w lo b s a LW LO LN) (hre:Rising EndV.tid s.ends) (hle:s.ends.length≤2000) (hrw:Rising BrV.tid s.waits) (hlw:s.waits.length≤2000) (hro:Rising PendV.tid s.open_) (hlo:s.open_.length≤2000) (hms:s.ms.length≤10000) (hni:0≤s.nextId∧s.nextId≤1099511627776) (hns:0≤s.nextSeq∧s.nextSeq≤1099511627776) (t:Int)
 (Q:List (ByteArray×ByteArray)) (aq:Option Addr) (cq:Nat) (hq:∀wx,TnP lo w wx→Ps wx aq cq Q) (hql:Q.length≤10000):
 Calls Tryz.prog 150 #[.pointer (some ⟨b,0,none⟩),.int .i64 t,.slice aq Q.length cq] w fun e w'=>e=.returned (.tuple #[])∧
  ∃a' LW' LO',Box w' lo b (endS s t true Q) a' LW' LO' LN∧Tn lo w w':=by
 have hsz:=box_lo h;have EC:=η (fun wx (ax:Ads) (ms:List MsgV) (i q:Int) (hb:Box wx lo b {s with ms:=ms,nextId:=i,nextSeq:=q} ax LW LO LN)=>stEnd_calls hb hre hle hrw hlw hro hlo t true)
 have HS:Hid (endS s t true Q={s with ms:=keepM t s.ms++come s.broker s.nextId s.nextSeq Q,nextId:=s.nextId+(Q.length:Int),nextSeq:=s.nextSeq+(Q.length:Int),ends:=insK EndV.tid ⟨t,true⟩ s.ends,waits:=remK BrV.tid t s.waits,open_:=remK PendV.tid t s.open_}):=η (by
  unfold endS;rw[left_true]
  simp)
 rw[HS.out];have hlk:(keepM t s.ms).length≤10000:=Nat.le_trans (List.length_filter_le _ _) hms;have H:=η h;have HQ:=η hq;have hq0:=cell_new w (.int .i64 t) 2;have t0:=Turn.alloc [] w (.cells #[.int .i64 t] 2)
 have D0:=η (deleteM_calls (ownsRow_turn h.ms t0) t hq0 (fun e=>by
  rcases h.ms.2 with⟨e1,_⟩ | ⟨g,cap,cur,e1,_,hg,_⟩
  · rw[e1]at e;simp[Value.ownBlock]at e
  · rw[e1]at e;have:g=w.heap.size:=by simpa[Value.ownBlock]using e
    have:=lt_of_heap hg
    omega) (by omega))
 obtain⟨c0,c1,c2,c3,c4,c5,c6,c7,c8⟩:=nine_of (t0.heap h.head);have T0:=η t0;have LEN:Hid (Q.length≤10000):=η hql;obtain⟨nq,hnq⟩:=ε Q.length;have HNQ:=η hnq;rw[←hnq]at hql;rw[←hnq];clear h hre hle hrw hlw hro hlo hq hnq HS hq0 t0;go_in;go_wp2_with fail;refine D0.out.mono ?_;rintro e x1 ⟨v1,rfl,o1,b1,t1⟩;obtain⟨ao1,k1,rfl⟩:=slice_form o1;have h0:=H.out.still T0.out;have R1:=h0.rest t1 (ownsRow_typed h0.ms) (by decide);have B1:=η (h0.setMs R1 (row_own o1 (lo_or (row_lo h0.ms) (box_lo h0) (.inl b1))))
 have P1:Hid (TnP lo w (x1.setCell ⟨b,4,none⟩ (.slice ao1 (keepM t s.ms).length k1))):=η ((((TnP.refl lo w).still T0.out).step t1 (fun k hk=>⟨row_lo h0.ms k (by simpa using hk),by
  obtain⟨cs,fr,e⟩:=ownsRow_typed h0.ms k hk
  exact⟨cs,fr,_,e,by decide⟩⟩)).step (Turn.setCell (l:=[b]) x1 (by simp) _) (fun k hk=>by
   have:k=b:=by simpa using hk
   subst this
   exact⟨h0.lob,_,_,_,R1.head,by decide⟩))
 have I0:=t1.heap (heap_alloc_new w (.cells #[.int .i64 t] 2)) (fun hm=>by
  obtain⟨cs,fr,e⟩:=ownsRow_typed h0.ms _ hm;rw[heap_alloc_new]at e;injection e with e
  injection e with _ e2 _
  exact absurd e2 (by decide))
 have I1:Hid ((x1.setCell ⟨b,4,none⟩ (.slice ao1 (keepM t s.ms).length k1)).heap[w.heap.size]?=some (.cells #[.int .i64 t] 2)):=η (heap_keep I0 (Turn.setCell (l:=[b]) x1 (by simp) _) (fun k hk=>by
  have:k=b:=by simpa using hk
  subst this
  exact⟨_,_,R1.head⟩) (by decide))
 obtain⟨d0,d1,d2,d3,d4,d5,d6,d7,d8⟩:=nine_of R1.head;have fr1:∀j,x1.frozen? ⟨b,j,none⟩=false:=fun j=>unfrozen_of R1.head
 clear o1 b1 t1 h0 R1 D0 I0 c0 c1 c2 c3 c4 c5 c6 c7 c8 T0;go_wp2_with fail;obtain⟨y0,hy0⟩:=ε (x1.setCell ⟨b,4,none⟩ (.slice ao1 (keepM t s.ms).length k1));rw[←hy0]at B1 P1 I1 ⊢;clear hy0 d0 d1 d2 d3 d4 d5 d6 d7 d8 fr1;go_loopw [19] (fun vi wx=>∃(k:Nat) (ax:Ads),k≤nq∧vi=.int .i64 (k:Int)∧Box wx lo b {s with ms:=keepM t s.ms++come s.broker s.nextId s.nextSeq (Q.take k),nextId:=s.nextId+(k:Int),nextSeq:=s.nextSeq+(k:Int)} ax LW LO LN∧TnP lo w wx∧wx.heap[w.heap.size]?=some (.cells #[.int .i64 t] 2)) (fun vi _=>nq-(intOf vi).toNat)
 case atStart=>exact⟨0,_,by omega,rfl,by simpa[come]using B1.out,P1.out,I1.out⟩
 case round=>
  obtain⟨k,ax,hk,rfl,hb,ht,hi⟩:=hrel;have HI:=η hi;have HT:=η ht;have HB:=η hb;obtain⟨d0,d1,d2,d3,d4,d5,d6,d7,d8⟩:=nine_of hb.head;dsimp only at d0 d1 d2 d3 d4 d5 d6 d7 d8;have hps:=HQ.out wr ht;clear hb ht hi;by_cases hkn:k<nq
  · have hkl:k<Q.length:=by rw[←HNQ.out];exact hkn
    obtain⟨g,off,rfl,-,hat⟩:=hps.at (by intro e;rw[e]at hkl;simp at hkl);obtain⟨q0,q1,-,-⟩:=hat k hkl;have hqk:Q[k]?=some (Q.getD k putNone):=by simp[List.getD,hkl]
    have HCT:=η (come_take s.broker Q s.nextId s.nextSeq k _ hqk);obtain⟨p1,hp1⟩:=ε ((Q.getD k putNone).1);obtain⟨p2,hp2⟩:=ε ((Q.getD k putNone).2);rw[←hp1,←hp2]at HCT;rw[←hp1]at q0;rw[←hp2]at q1;obtain⟨ni,hni2⟩:=ε (s.nextId+(k:Int));obtain⟨ns,hns2⟩:=ε (s.nextSeq+(k:Int));obtain⟨M,hM⟩:=ε (keepM t s.ms++come s.broker s.nextId s.nextSeq (Q.take k));rw[←hni2,←hns2]at HCT;rw[←hni2,←hns2,←hM]at HB;rw[←hni2]at d1;rw[←hns2]at d2;rw[←hM]at d4;have hml:M.length≤100000:=by rw[hM,List.length_append,come_len,List.length_take];omega
    obtain⟨m,hm⟩:∃m:MsgV,m=⟨makeZ s.broker ni,p1,p2,ns,0,0⟩:=⟨_,rfl⟩
    have HMN:Hid (M++[m]=keepM t s.ms++come s.broker s.nextId s.nextSeq (Q.take (k+1))):=η (by rw[HCT.out,hM,hm,List.append_assoc]);have C1:=η (kindMake_calls s.broker ni);obtain⟨mz,hmz⟩:=ε (makeZ s.broker ni);rw[←hmz]at C1 hm;have HMM:=η hm;have hwi:IntKind.i64.wrap (ni+1)=ni+1:=by rw[IntKind.wrap_i64];omega
    have hwq:IntKind.i64.wrap (ns+1)=ns+1:=by rw[IntKind.wrap_i64];omega
    have HNI:Hid (ni+1=s.nextId+((k+1:Nat):Int)):=η (by omega);have HNS:Hid (ns+1=s.nextSeq+((k+1:Nat):Int)):=η (by omega);obtain⟨am,ham⟩:=ε ax.m;obtain⟨cm,hcm⟩:=ε ax.cm;rw[←ham,←hcm]at d4;have TA:=η (Turn.alloc [] wr (.cells #[.string p1,.string p2] 45));have HX:Hid (Box (wr.alloc (.cells #[.string p1,.string p2] 45)) lo b {s with ms:=M,nextId:=ni,nextSeq:=ns} ax LW LO LN):=η (HB.out.still TA.out);have HP:Hid ((wr.alloc (.cells #[.string p1,.string p2] 45)).heap[wr.heap.size]?=some (.cells #[.string p1,.string p2] 45)):=η (heap_alloc_new wr _);have hb:0≤(k:Int)∧(k:Int)<(nq:Int):=by omega
    obtain⟨nm,hnm⟩:=ε M.length;rw[←hnm]at d4;have HNM:=η hnm;have HAM:=η ham;have HCM:=η hcm;have HML:Hid (M.length≤1000000):=η (by omega);clear hat hqk hp1 hp2 hni2 hns2 hM hm hmz hps HCT hnm ham hcm hml hni hns hms hlk hsz;go_wp2_with fail
    have HSX:Hid (∀x,Turn [] (wr.alloc (.cells #[.string p1,.string p2] 45)) x→x.cell? ⟨b,0,none⟩=some (.int .i64 s.broker)∧x.cell? ⟨b,1,none⟩=some (.int .i64 ni)∧x.cell? ⟨b,2,none⟩=some (.int .i64 ns)∧x.cell? ⟨b,4,none⟩=some (.slice am nm cm)∧x.cell? ⟨wr.heap.size,0,none⟩=some (.string p1)∧x.cell? ⟨wr.heap.size,1,none⟩=some (.string p2)):=η (fun x tt=>by
     have e1:=(HX.out.still tt).head;obtain⟨z0,z1,z2,z3,z4,z5,z6,z7,z8⟩:=nine_of e1;have e2:=tt.heap HP.out;refine⟨z0,z1,z2,?_,?_,?_⟩
     · rw[HAM.out,HCM.out,HNM.out];exact z4
     · rw[cell_of_row _ _ _ _ _ _ e2];rfl
     · rw[cell_of_row _ _ _ _ _ _ e2];rfl)
    obtain⟨x0,hx0⟩:=ε (wr.alloc (.cells #[.string p1,.string p2] 45));rw[←hx0]at HSX HX HP TA ⊢;clear hx0 d0 d1 d2 d3 d4 d5 d6 d7 d8 q0 q1;refine Ph.start [27] (fun x=>x.cell? ⟨b,0,none⟩=some (.int .i64 s.broker)∧x.cell? ⟨b,1,none⟩=some (.int .i64 ni)∧x.cell? ⟨b,2,none⟩=some (.int .i64 ns)∧x.cell? ⟨b,4,none⟩=some (.slice am nm cm)∧x.cell? ⟨wr.heap.size,0,none⟩=some (.string p1)∧x.cell? ⟨wr.heap.size,1,none⟩=some (.string p2)) (by kernel_rfl) (HSX.out _ (Turn.drew [] x0)) ?_;intro hS;refine Ph.tq 0 (some 23) hS ?_;simp only[Act.put,σa,σz,σs];refine Ph.tq 1 (some 24) hS ?_;simp only[Act.put,σa,σz,σs];refine Ph.tq 2 (some 25) hS ?_;simp only[Act.put,σa,σz,σs];refine Ph.tq 3 (some 26) hS ?_;simp only[Act.put,σa,σz,σs];refine Ph.tq 4 (some 27) hS ?_;simp only[Act.put,σa,σz,σs];refine Ph.tq 5 (some 28) hS ?_;simp only[Act.put,σa,σz,σs];refine Ph.tq 6 (some 29) hS ?_;simp only[Act.put,σa,σz,σs];refine Ph.tq 7 (some 30) hS ?_;simp only[Act.put,σa,σz,σs];refine Ph.tq 8 (some 31) hS ?_;simp only[Act.put,σa,σz,σs];refine Ph.tq 9 (some 32) hS ?_;simp only[Act.put,σa,σz,σs];refine Ph.tq 10 (some 33) hS ?_;simp only[Act.put,σa,σz,σs];refine Ph.tq 11 (some 34) hS ?_;simp only[Act.put,σa,σz,σs];refine Ph.tq 12 (some 35) hS ?_;simp only[Act.put,σa,σz,σs];refine Ph.tq 14 (some 37) hS ?_;simp only[Act.put,σa,σz,σs];refine Ph.tq 15 (some 38) hS ?_;simp only[Act.put,σa,σz,σs];refine Ph.tq 16 (some 39) hS ?_;simp only[Act.put,σa,σz,σs];refine Ph.tq 17 (some 40) hS ?_;simp only[Act.put,σa,σz,σs];refine Ph.tq 18 (some 41) hS ?_;simp only[Act.put,σa,σz,σs];refine Ph.tq 19 (some 42) hS ?_;simp only[Act.put,σa,σz,σs];refine Ph.tq 20 (some 43) hS ?_;simp only[Act.put,σa,σz,σs];refine Ph.tq 21 (some 44) hS ?_;simp only[Act.put,σa,σz,σs];refine Ph.one (i:=13) (by kernel_rfl) rfl ?_;intro K hK;rw[if_pos (by rfl)];go_simp;refine(C1.out _).mono ?_;rintro e w' ⟨rfl,rfl⟩;dsimp only;refine hK _ _ hS (fun _=>?_);clear hK K;refine Ph.tq 22 (some 45) hS ?_;simp only[Act.put,σa,σz,σs];refine Ph.one (i:=23) (by kernel_rfl) rfl ?_;intro K hK;rw[if_pos (by rfl)];go_simp;obtain⟨z1,hz1⟩:=ε ((x0.alloc (.cells #[.int .i64 mz,.string p1,.string p2,.int .i64 ns,.int .i64 0,.int .i64 0] 49)).drew);have tz:Turn [] x0 z1:=by rw[hz1];exact(Turn.alloc [] x0 _).trans (Turn.drew [] _)
    have hzm:z1.heap[x0.heap.size]?=some (.cells (msgC m).toArray 49):=by rw[hz1,HMM.out];exact heap_alloc_new x0 _
    rw[←hz1];have TZ:=η tz;refine hK _ _ (HSX.out _ tz) (fun hS1=>?_);clear hK K hz1;have hbz:=HX.out.still tz;have hrz:z1.ownsRow 0 49 6 (.slice am nm cm) M.length (M.flatMap msgC):=by
     have:=row_zero hbz.ms;rw[HAM.out,HCM.out,HNM.out];exact this
    have HVE:Hid (Value.slice am nm cm=.slice ax.m M.length ax.cm):=η (by rw[HAM.out,HCM.out,HNM.out]);have HBZ:=η hbz;clear tz hbz;refine Ph.one (i:=24) (by kernel_rfl) rfl ?_;intro K hK;refine step_append_m (by rfl) (.tmp 27) (.tmp 46) (by rfl) (.slice am nm cm) M (by rfl) hrz x0.heap.size m (by rfl) hzm HML.out ?_;intro v8 w8 o8 g8 l8;rw[HVE.out]at g8 l8;have t8:Turn (Value.slice ax.m M.length ax.cm).ownBlock.toList z1 w8:=Turn.grown g8 (fun k hk=>.inl (by simp[hk]));have r8:=HBZ.out.rest t8 (ownsRow_typed HBZ.out.ms) (by decide);obtain⟨a8,c8,rfl⟩:=slice_form o8;have B8:=η (HBZ.out.setMs r8 (row_own o8 (lo_or (row_lo HBZ.out.ms) (box_lo HBZ.out) (by rcases l8 with e | e;exact .inl e;exact .inr ⟨_,e,Nat.le_refl _⟩))));have hp8:=heap_keep ((TZ.out).heap HP.out) t8 (ownsRow_typed HBZ.out.ms) (by decide);have hi8:=heap_keep ((TA.out.trans TZ.out).heap HI.out) t8 (ownsRow_typed HBZ.out.ms) (by decide)
    have P8:Hid (TnP lo w (w8.setCell ⟨b,4,none⟩ (.slice a8 (M++[m]).length c8))):=η ((((HT.out.still TA.out).still TZ.out).step t8 (fun k hk=>⟨row_lo HBZ.out.ms k (by simpa using hk),by
     obtain⟨cs,fr,e⟩:=ownsRow_typed HBZ.out.ms k hk
     exact⟨cs,fr,_,e,by decide⟩⟩)).step (Turn.setCell (l:=[b]) w8 (by simp) _) (fun k hk=>by
      have:k=b:=by simpa using hk
      subst this
      exact⟨HBZ.out.lob,_,_,_,r8.head,by decide⟩))
    have I8:Hid ((w8.setCell ⟨b,4,none⟩ (.slice a8 (M++[m]).length c8)).heap[w.heap.size]?=some (.cells #[.int .i64 t] 2)):=η (heap_keep hi8 (Turn.setCell (l:=[b]) w8 (by simp) _) (fun k hk=>by
     have:k=b:=by simpa using hk
     subst this
     exact⟨_,_,r8.head⟩) (by decide))
    obtain⟨m8,hm8⟩:=ε ((M++[m]).length);obtain⟨z0,z1',z2,z3,z4,z5,z6,z7,z8⟩:=nine_of r8.head;have fr8:∀j,w8.frozen? ⟨b,j,none⟩=false:=fun j=>unfrozen_of r8.head
    rw[←hm8]at B8 P8 I8 ⊢;dsimp only at z0 z1' z2 z3 z4 z5 z6 z7 z8;refine hK _ _ ⟨z0,z1',z2,by rw[z4,←HVE.out],by rw[cell_of_row _ _ _ _ _ _ hp8];rfl,by rw[cell_of_row _ _ _ _ _ _ hp8];rfl⟩ (fun hS8=>?_);clear hK K o8 g8 l8 t8 r8 hp8 hi8 hrz hzm hm8;change Ph _ _ _ _ _ _ _ _ (Act.put _ (some 47) _) _;simp only[Act.put,σa,σz,σs];refine Ph.one (i:=25) (by kernel_rfl) rfl ?_;intro K hK;rw[if_pos (by rfl)];go_simp;refine hK _ _ hS8 (fun _=>?_);clear hK K;refine Ph.tq 26 (some 49) hS8 ?_;simp only[Act.put,σa,σz,σs];refine Ph.tardy (i:=27) (by kernel_rfl) (by kernel_rfl) rfl ?_;intro K hK;rw[if_pos (by rfl)];go_simp;refine hK _ _ (Ph.done (by kernel_rfl) ?_ _);clear hK K;obtain⟨y8,hy8⟩:=ε (w8.setCell ⟨b,4,none⟩ (.slice a8 m8 c8));rw[←hy8]at B8 P8 I8 ⊢;clear hy8 fr8 z0 z1' z2 z3 z4 z5 z6 z7 z8 hS8 hS1 hS;obtain⟨z0,z1',z2,z3,z4,z5,z6,z7,z8⟩:=nine_of B8.out.head;have fr8:∀j,y8.frozen? ⟨b,j,none⟩=false:=fun j=>unfrozen_of B8.out.head
    dsimp only at z0 z1' z2 z3 z4 z5 z6 z7 z8;go_wp2_with fail;have n1:=B8.out.setNum (s':={s with ms:=M++[m],nextId:=ni+1,nextSeq:=ns}) 1 (.int .i64 (ni+1)) rfl rfl rfl rfl rfl rfl;have n2:=n1.setNum (s':={s with ms:=M++[m],nextId:=ni+1,nextSeq:=ns+1}) 2 (.int .i64 (ns+1)) rfl rfl rfl rfl rfl rfl
    have p1':=P8.out.step (Turn.setCell (l:=[b]) (b:=b) (i:=1) y8 (by simp) (.int .i64 (ni+1))) (fun k hk=>by
     have:k=b:=by simpa using hk
     subst this
     exact⟨n1.lob,_,_,_,B8.out.head,by decide⟩)
    have p2':=p1'.step (Turn.setCell (l:=[b]) (b:=b) (i:=2) _ (by simp) (.int .i64 (ns+1))) (fun k hk=>by
     have:k=b:=by simpa using hk
     subst this
     exact⟨n1.lob,_,_,_,n1.head,by decide⟩)
    have i1':=heap_keep I8.out (Turn.setCell (l:=[b]) (b:=b) (i:=1) y8 (by simp) (.int .i64 (ni+1))) (fun k hk=>by
     have:k=b:=by simpa using hk
     subst this
     exact⟨_,_,B8.out.head⟩) (by decide)
    have i2':=heap_keep i1' (Turn.setCell (l:=[b]) (b:=b) (i:=2) _ (by simp) (.int .i64 (ns+1))) (fun k hk=>by
     have:k=b:=by simpa using hk
     subst this
     exact⟨_,_,n1.head⟩) (by decide)
    rw[HMN.out,HNI.out,HNS.out]at n2;have N2:=η n2;have P2:=η p2';have I2:=η i2';rw[HNI.out]at P2 I2;rw[HNS.out]at P2 I2;clear n1 n2 p1' p2' i1' i2';rw[HNI.out,HNS.out];go_roundw
    case rel=>exact⟨k+1,_,by omega,by go_num,N2.out,P2.out,I2.out⟩
    case measure=>simp[intOf];omega
  · have hkk:k=nq:=by omega
    have HE:Hid (Box wr lo b {s with ms:=keepM t s.ms++come s.broker s.nextId s.nextSeq Q,nextId:=s.nextId+(nq:Int),nextSeq:=s.nextSeq+(nq:Int)} ax LW LO LN):=η (by
     have:=HB.out;rw[hkk,List.take_of_length_le (Nat.le_of_eq HNQ.out.symm)]at this
     exact this)
    have hq4:wr.cell? ⟨w.heap.size,0,none⟩=some (.int .i64 t):=by rw[cell_of_row _ _ _ _ _ _ HI.out];rfl
    clear hps;go_wp2_with fail;refine(EC.out _ _ _ _ _ HE.out).mono ?_;rintro e x2 ⟨rfl,a',LW',LO',b2,t2⟩;have B2:=η b2;have T2:=η (HT.out.tn.trans t2);clear b2 t2;go_wp2_with fail;go_end0;exact⟨rfl,a',LW',LO',B2.out,T2.out⟩
end Go.Proofs.YtkjpjfghklgdhaaGreat
