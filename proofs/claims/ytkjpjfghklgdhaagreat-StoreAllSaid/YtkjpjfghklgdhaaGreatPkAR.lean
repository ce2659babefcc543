/-
  PkAR
-/
import Derived.Test.YtkjpjfghklgdhaaGreatPkAQ
import Derived.Deep.CutRange
set_option maxHeartbeats 4000000
set_option maxRecDepth 100000
namespace Go.Proofs.YtkjpjfghklgdhaaGreat
open Go.RowKit Go.Proofs.YtkjpjfghklgdhaaGreat.V
theorem turn5n_calls {w:World} {lo b:Nat} {s:StV} {a:Ads} {LW:List (Lay BrV)} {LO LN:List (Lay PendV)} (h:Box w lo b s a LW LO LN) (hm:MayP s) (t d:Int) (P:List Int) (Q:List (ByteArray×ByteArray)) (ap aq:Option Addr) (cp cq:Nat):
 Calls Tryz.prog 80 #[.pointer (some ⟨b,0,none⟩),.agg #[.int .i64 5,.int .i64 t,.int .i64 d,.bool false,.slice ap P.length cp,.slice aq Q.length cq]] w fun e w'=>e=.returned (.tuple #[])∧∃a' LW' LO' LN',Box w' lo b (endS s t false []) a' LW' LO' LN'∧Tn lo w w':=by
 obtain⟨np,hnp⟩:=ε P.length;obtain⟨nq,hnq⟩:=ε Q.length;have HNP:=η hnp;have HNQ:=η hnq;rw[←hnp,←hnq];have HX:=η (h.still (Turn.alloc [] w (.cells #[.int .i64 5,.int .i64 t,.int .i64 d,.bool false,.slice ap np cp,.slice aq nq cq] 37)));have T0:=η (Turn.alloc [] w (.cells #[.int .i64 5,.int .i64 t,.int .i64 d,.bool false,.slice ap np cp,.slice aq nq cq] 37));have HR:=η (heap_alloc_new w (.cells #[.int .i64 5,.int .i64 t,.int .i64 d,.bool false,.slice ap np cp,.slice aq nq cq] 37));obtain⟨c0,c1,c2,c3,c4,c5,c6,c7,c8⟩:=nine_of HX.out.head;have fr:∀j,(w.alloc (.cells #[.int .i64 5,.int .i64 t,.int .i64 d,.bool false,.slice ap np cp,.slice aq nq cq] 37)).frozen? ⟨b,j,none⟩=false:=fun j=>unfrozen_of HX.out.head
 have C1:=η (endIll_calls HX.out hm.endsR hm.lends hm.waitsR hm.lwaits hm.openR hm.lopen hm.counts (by have:=hm.lms;omega) t);clear h hm hnp hnq;go_in;go_wp2_with fail;refine C1.out.mono ?_;rintro e x1 ⟨rfl,a',LW',LO',b1,t1⟩;have B1:=η b1;have V1:=η ((Tn.still (lo:=lo) T0.out).trans t1);clear b1 t1 C1;go_wp2_with fail;go_end0;exact⟨rfl,_,_,_,_,B1.out,V1.out⟩
theorem getD_mem9 {α:Type} {l:List α} {d:α} {i:Nat} (h:i<l.length):l.getD i d∈l:=by
 rw[show l.getD i d=l[i] by simp[List.getD,h]];exact List.getElem_mem h
theorem puts_sizes {l:List (ByteArray×ByteArray)} (h:putsB l=true):l.length≤10∧∀i,i<l.length→(l.getD i putNone).1.size≤9223372036854775807∧(l.getD i putNone).2.size≤9223372036854775807:=by
 unfold putsB at h;rw[Bool.and_eq_true,decide_eq_true_eq,List.all_eq_true]at h;refine⟨h.2,fun i hi=>?_⟩;have:=h.1 (l.getD i putNone) (getD_mem9 hi);unfold putB queueB bodyB at this;simp only[Bool.and_eq_true,decide_eq_true_eq]at this;omega
theorem turn5y_calls {w:World} {lo b:Nat} {s:StV} {a:Ads} {LW:List (Lay BrV)} {LO LN:List (Lay PendV)} (h:Box w lo b s a LW LO LN) (hm:MayP s) (t d:Int) (P:List Int) (Q:List (ByteArray×ByteArray)) (ap aq:Option Addr) (cp cq:Nat) (hk:keyB BrV.tid s.waits t=true):
 Calls Tryz.prog 80 #[.pointer (some ⟨b,0,none⟩),.agg #[.int .i64 5,.int .i64 t,.int .i64 d,.bool true,.slice ap P.length cp,.slice aq Q.length cq]] w fun e w'=>e=.returned (.tuple #[])∧∃a' LW' LO' LN',Box w' lo b (endS s t true (((waitOf s.waits t).map BrV.puts).getD [])) a' LW' LO' LN'∧Tn lo w w':=by
 obtain⟨p,hp,hpt,hpf⟩:=posK_find hm.waitsR hk;have hpo:waitOf s.waits t=some p:=hpf;rw[hpo];dsimp only[Option.map_some,Option.getD_some];have hx0:∃x,LW[posK BrV.tid t s.waits]?=some x∧x.v=p:=by
  rw[←h.vw,List.getElem?_map]at hp;rw[h.vw]at hp;exact Option.map_eq_some_iff.1 hp
 obtain⟨x,hx,rfl⟩:=hx0;have hxm:=List.mem_of_getElem? hx;have hsz:=puts_sizes (hm.waits x.v (List.mem_of_getElem? hp)).2.2;obtain⟨np,hnp⟩:=ε P.length;obtain⟨nq,hnq⟩:=ε Q.length;have HNP:=η hnp;have HNQ:=η hnq;rw[←hnp,←hnq];have HX:=η (h.still (Turn.alloc [] w (.cells #[.int .i64 5,.int .i64 t,.int .i64 d,.bool true,.slice ap np cp,.slice aq nq cq] 37)));have T0:=η (Turn.alloc [] w (.cells #[.int .i64 5,.int .i64 t,.int .i64 d,.bool true,.slice ap np cp,.slice aq nq cq] 37));have HR:=η (heap_alloc_new w (.cells #[.int .i64 5,.int .i64 t,.int .i64 d,.bool true,.slice ap np cp,.slice aq nq cq] 37));obtain⟨c0,c1,c2,c3,c4,c5,c6,c7,c8⟩:=nine_of HX.out.head;have fr:∀j,(w.alloc (.cells #[.int .i64 5,.int .i64 t,.int .i64 d,.bool true,.slice ap np cp,.slice aq nq cq] 37)).frozen? ⟨b,j,none⟩=false:=fun j=>unfrozen_of HX.out.head
 have C1:Hid (∀wx,Turn [] (w.alloc (.cells #[.int .i64 5,.int .i64 t,.int .i64 d,.bool true,.slice ap np cp,.slice aq nq cq] 37)) wx→Calls Tryz.prog 151 #[.agg (s.cells a),.int .i64 t] wx fun e w'=>e=.returned (.slice x.ao x.v.puts.length x.c)∧Turn [] wx w'):=η (fun wx tt=>by
  have hbx:=HX.out.still tt;have hws:=hbx.ws;have hlen:s.waits.length=LW.length:=by rw[←h.vw,List.length_map]
  exact putsOf_calls h.vw (Tl.of_own (n:=2) (f:=brC) (B:=0) (e:=81) (fun _=>rfl) (by rw[hlen]at hws;have:=row_zero hws;rw[vcells_flat,flat_map]at this;exact this)) hm.waitsR (by have:=hm.lwaits;omega) t hx)
 have C2:=η (fun wx (tt:Turn [] (w.alloc (.cells #[.int .i64 5,.int .i64 t,.int .i64 d,.bool true,.slice ap np cp,.slice aq nq cq] 37)) wx)=>endWell_calls (HX.out.still tt) hm.endsR hm.lends hm.waitsR hm.lwaits hm.openR hm.lopen (by have:=hm.lms;omega) (by have:=hm.id1;have:=hm.id2;omega) (by have:=hm.seq1;have:=hm.seq2;omega) t x.v.puts x.ao x.c (fun wy hty=>by
  obtain⟨l,h1,h2⟩:=hty;have hpr:=(HX.out.still tt).puts x hxm
  exact own_ps (row_zero (ownsRow_turn hpr h2 (fun k hk' hm'=>by
   obtain⟨cs,fr,e⟩:=ownsRow_typed hpr k (Option.mem_toList.2 hk')
   exact((h1 k hm').2 cs _ fr e).1 rfl))) hsz.2) (by have:=hsz.1;omega))
 unfold StV.cells at C1;obtain⟨pn,hpn⟩:=ε x.v.puts.length;rw[←hpn]at C1 C2;clear h hm hnp hnq hk hp hpt hpf hpo hx hxm hsz hpn fr;go_in;go_wp2_with fail;obtain⟨x0,hx0⟩:=ε ((w.alloc (.cells #[.int .i64 5,.int .i64 t,.int .i64 d,.bool true,.slice ap np cp,.slice aq nq cq] 37)));rw[←hx0]at HX T0 HR C1 C2 c0 c1 c2 c3 c4 c5 c6 c7 c8 ⊢;clear hx0
 have HRX:Hid (∀x,Turn [] x0 x→x.cell? ⟨w.heap.size,1,none⟩=some (.int .i64 t)):=η (fun x tt=>by
  have:=tt.heap HR.out
  rw[cell_of_row _ _ _ _ _ _ this];rfl)
 have r1:=HRX.out _ (Turn.refl [] x0)
 go_region_with (first
  | (go_at_call 151;((with_reducible refine(C1.out _ (Turn.drew [] x0)).mono ?_);rintro e x1 ⟨rfl,t1⟩;have U1:=η ((Turn.drew [] x0).trans t1);have r1x:=HRX.out _ U1.out;clear t1))
  | (go_at_call 150;((with_reducible refine(C2.out _ U1.out).mono ?_);rintro e x2 ⟨rfl,a',LW',LO',b2,t2⟩;have B2:=η b2;have V2:=η (((Tn.still (lo:=lo) T0.out).trans (Tn.still U1.out)).trans t2);clear b2 t2)))
 all_goals
  go_wp2_with fail;go_end0;exact⟨rfl,_,_,_,_,B2.out,V2.out⟩
theorem turn8_calls {w:World} {lo b:Nat} {s:StV} {a:Ads} {LW:List (Lay BrV)} {LO LN:List (Lay PendV)} (h:Box w lo b s a LW LO LN) (hm:MayP s) (t d:Int) (y:Bool) (P:List Int) (Q:List (ByteArray×ByteArray)) (ap aq:Option Addr) (cp cq:Nat) (hi:∀wx,Tn lo w wx→Il wx ap cp P) (hl:P.length≤100000):
 Calls Tryz.prog 80 #[.pointer (some ⟨b,0,none⟩),.agg #[.int .i64 8,.int .i64 t,.int .i64 d,.bool y,.slice ap P.length cp,.slice aq Q.length cq]] w fun e w'=>e=.returned (.tuple #[])∧∃a' LW' LO' LN',Box w' lo b (if 0<P.length then {endS s t false []with noes:=insK PendV.tid ⟨t,P⟩ s.noes}else endS s t false []) a' LW' LO' LN'∧Tn lo w w':=by
 obtain⟨np,hnp⟩:=ε P.length;obtain⟨nq,hnq⟩:=ε Q.length;have HNP:=η hnp;have HNQ:=η hnq;rw[←hnp,←hnq];have HX:=η (h.still (Turn.alloc [] w (.cells #[.int .i64 8,.int .i64 t,.int .i64 d,.bool y,.slice ap np cp,.slice aq nq cq] 37)));have T0:=η (Turn.alloc [] w (.cells #[.int .i64 8,.int .i64 t,.int .i64 d,.bool y,.slice ap np cp,.slice aq nq cq] 37));have HR:=η (heap_alloc_new w (.cells #[.int .i64 8,.int .i64 t,.int .i64 d,.bool y,.slice ap np cp,.slice aq nq cq] 37));obtain⟨c0,c1,c2,c3,c4,c5,c6,c7,c8⟩:=nine_of HX.out.head;have fr:∀j,(w.alloc (.cells #[.int .i64 8,.int .i64 t,.int .i64 d,.bool y,.slice ap np cp,.slice aq nq cq] 37)).frozen? ⟨b,j,none⟩=false:=fun j=>unfrozen_of HX.out.head
 have C0:=η (endIll_calls HX.out hm.endsR hm.lends hm.waitsR hm.lwaits hm.openR hm.lopen hm.counts (by have:=hm.lms;omega) t);obtain⟨u,hu⟩:=ε (endS s t false []);have hun:u.noes=s.noes:=by rw[hu];rfl
 have HUN:=η hun;have HNR:=η hm.noesR;have HNL:=η hm.lnoes;rw[←hu]at C0;obtain⟨fin,hfin⟩:=ε ((if 0<P.length then {endS s t false []with noes:=insK PendV.tid ⟨t,P⟩ s.noes}else endS s t false []:StV));have HFIN:Hid (fin=if 0<np then {u with noes:=insK PendV.tid ⟨t,P⟩ s.noes}else u):=η (by rw[hfin,hu,hnp]);have HI:=η hi;have HL:=η hl;have e0:(if 0<np then {endS s t false []with noes:=insK PendV.tid ⟨t,P⟩ s.noes}else endS s t false []:StV)=fin:=by rw[hfin,hnp]
 rw[e0];have hnpb:(np:Int)≤9223372036854775807:=by omega
 clear h hm hnp hnq hu hun hfin hi hl e0 fr;go_in;go_wp2_with fail;refine C0.out.mono ?_;rintro e x1 ⟨rfl,a1,LW1,LO1,b1,t1⟩;have B1:=η b1;have T1:=η ((Tn.still (lo:=lo) T0.out).trans t1);have HR1:=η (t1.record HR.out)
 have RX:Hid (∀x,Turn [] x1 x→x.cell? ⟨w.heap.size,0,none⟩=some (.int .i64 8)∧x.cell? ⟨w.heap.size,1,none⟩=some (.int .i64 t)∧x.cell? ⟨w.heap.size,2,none⟩=some (.int .i64 d)∧x.cell? ⟨w.heap.size,3,none⟩=some (.bool y)∧x.cell? ⟨w.heap.size,4,none⟩=some (.slice ap np cp)∧x.cell? ⟨w.heap.size,5,none⟩=some (.slice aq nq cq)):=η (fun x tt=>by
  have:=tt.heap HR1.out
  refine⟨?_,?_,?_,?_,?_,?_⟩<;>rw[cell_of_row _ _ _ _ _ _ this]<;>rfl)
 obtain⟨m0,m1,m2,m3,m4,m5⟩:=RX.out _ (Turn.refl [] x1);clear b1 t1 C0 c0 c1 c2 c3 c4 c5 c6 c7 c8 HX HR;by_cases hp0:(0:Int)<(np:Int)
 case neg=>
  have dp:decide ((0:Int)<(np:Int))=false:=decide_eq_false hp0;have HE:Hid (fin=u):=η (by rw[HFIN.out,if_neg (by omega)]);go_wp2_with fail;go_end0;exact⟨rfl,_,_,_,_,by rw[HE.out];exact B1.out,T1.out⟩
 have dp:decide ((0:Int)<(np:Int))=true:=decide_eq_true hp0;have HE:Hid (fin={u with noes:=insK PendV.tid ⟨t,P⟩ s.noes}):=η (by rw[HFIN.out,if_pos (by omega)]);have C1:=fun wx (tt:Turn [] x1 wx)=>pendOf_calls ⟨8,t,d,y,P,Q⟩ (ap:=ap) (cp:=cp) aq cq (HI.out wx (T1.out.trans (Tn.still tt))) (by dsimp only;have:=HL.out;omega)
 unfold RecV.cells at C1;dsimp only at C1;rw[←HNP.out,←HNQ.out]at C1;have C1:=η C1
 have C2:Hid (∀wx ao c (hx:Turn [] x1 wx),∀wy,Turn [] wx wy→wy.ownsRow wx.heap.size 3 1 (.slice ao np c) np (i64s P)→Calls Tryz.prog 152 #[.slice a1.n s.noes.length a1.cn,.agg #[.int .i64 t,.slice ao np c],.func (.func 119) #[] #[]] wy fun e w1=>∃ao2 c2,e=.returned (.slice ao2 (insK PendV.tid ⟨t,P⟩ s.noes).length c2)∧Rest w1 lo b u a1 LW1 LO1 LN 65∧
  Box (w1.setCell ⟨b,8,none⟩ (.slice ao2 (insK PendV.tid ⟨t,P⟩ s.noes).length c2)) lo b {u with noes:=insK PendV.tid ⟨t,P⟩ s.noes} {a1 with n:=ao2,cn:=c2} LW1 LO1 (insK (fun y:Lay PendV=>y.v.tid) ⟨⟨t,P⟩,ao,c⟩ LN)∧Tn lo wy (w1.setCell ⟨b,8,none⟩ (.slice ao2 (insK PendV.tid ⟨t,P⟩ s.noes).length c2))∧Turn (Value.slice a1.n s.noes.length a1.cn).ownBlock.toList wy w1):=η (fun wx ao c hx wy hy hr=>by
  have hbx:=B1.out.still hx;have hby:=hbx.still hy;rw[HNP.out]at hr ⊢;have hsz:=box_lo hbx
  have:=box_with_noes hby (by rw[HUN.out];exact HNR.out) (by rw[HUN.out];exact HNL.out) (⟨⟨t,P⟩,ao,c⟩:Lay PendV) (row_own hr (fun k hk=>Nat.le_trans hsz (row_lo hr k hk))) (fun z hz=>by
   have hz2:=hbx.parts z hz;rcases hr.2 with⟨e1,_⟩ | ⟨g,cap,cur,e1,hlo,_⟩
   · exact .inl (by unfold partsRow;rw[e1];rfl)
   · exact new_apart (w:=wx) (g:=g) hz2 (.inr (by unfold partsRow;rw[e1];rfl)) hlo)
  rw[HUN.out]at this
  exact this)
 obtain⟨z0,z1,z2,z3,z4,z5,z6,z7,c8⟩:=nine_of B1.out.head;rw[HUN.out]at c8;obtain⟨no,hno⟩:=ε s.noes.length;rw[←hno]at C2 c8;have HNO:=η hno;obtain⟨ni,hni⟩:=ε ((insK PendV.tid ⟨t,P⟩ s.noes).length);rw[←hni]at C2;clear hno hni z0 z1 z2 z3 z4 z5 z6 z7;go_wp2_with fail
 have HSX:Hid (∀x,Turn [] x1 x→x.cell? ⟨w.heap.size,0,none⟩=some (.int .i64 8)∧x.cell? ⟨w.heap.size,1,none⟩=some (.int .i64 t)∧x.cell? ⟨w.heap.size,2,none⟩=some (.int .i64 d)∧x.cell? ⟨w.heap.size,3,none⟩=some (.bool y)∧x.cell? ⟨w.heap.size,4,none⟩=some (.slice ap np cp)∧x.cell? ⟨w.heap.size,5,none⟩=some (.slice aq nq cq)∧x.cell? ⟨b,8,none⟩=some (.slice a1.n no a1.cn)):=η (fun x tt=>by
  obtain⟨y0,y1,y2,y3,y4,y5⟩:=RX.out _ tt
  exact⟨y0,y1,y2,y3,y4,y5,tt.cell c8⟩)
 clear m0 m1 m2 m3 m4 m5;refine Ph.start [10] (fun x=>x.cell? ⟨w.heap.size,0,none⟩=some (.int .i64 8)∧x.cell? ⟨w.heap.size,1,none⟩=some (.int .i64 t)∧x.cell? ⟨w.heap.size,2,none⟩=some (.int .i64 d)∧x.cell? ⟨w.heap.size,3,none⟩=some (.bool y)∧x.cell? ⟨w.heap.size,4,none⟩=some (.slice ap np cp)∧x.cell? ⟨w.heap.size,5,none⟩=some (.slice aq nq cq)∧x.cell? ⟨b,8,none⟩=some (.slice a1.n no a1.cn)) (by kernel_rfl) (HSX.out _ (Turn.drew [] x1)) ?_;intro hS;refine Ph.tq 0 (some 101) hS ?_;simp only[Act.put,σa,σz,σs];refine Ph.tq 1 (some 102) hS ?_;simp only[Act.put,σa,σz,σs];refine Ph.tq 2 (some 103) hS ?_;simp only[Act.put,σa,σz,σs];refine Ph.tq 3 (some 104) hS ?_;simp only[Act.put,σa,σz,σs];refine Ph.tq 4 (some 105) hS ?_;simp only[Act.put,σa,σz,σs];refine Ph.tq 5 (some 106) hS ?_;simp only[Act.put,σa,σz,σs];refine Ph.one (i:=6) (by kernel_rfl) rfl ?_;intro K hK;rw[if_pos (by rfl)];go_simp;refine(C1.out _ (Turn.drew [] x1)).mono ?_;rintro e x3 ⟨ao,c,rfl,o1,t3⟩;dsimp only;have U1:=η t3;have O1:=η o1;refine hK _ _ (HSX.out _ ((Turn.drew [] x1).trans t3)) (fun hS1=>?_);clear hK K o1 t3;refine Ph.one (i:=7) (by kernel_rfl) rfl ?_;intro K hK;rw[if_pos (by rfl)];go_simp;refine(C2.out _ _ _ (Turn.drew [] x1) _ U1.out O1.out).mono ?_;rintro e x2 ⟨ao2,c2,rfl,r2,b2,t2,tt2⟩;dsimp only;have B2:=η b2;have V2:=η (((T1.out.trans (Tn.still (Turn.drew [] x1))).trans (Tn.still U1.out)).trans t2);obtain⟨d0,d1,d2,d3,d4,d5,d6,d7,d8⟩:=nine_of r2.head;rw[HUN.out,←HNO.out]at d8;have fr:∀j,x2.frozen? ⟨b,j,none⟩=false:=fun j=>unfrozen_of r2.head
 have htp:=ownsRow_typed ((B1.out.still ((Turn.drew [] x1).trans U1.out)).ns);rw[HUN.out,←HNO.out]at htp;have hr2:=heap_keep (((Turn.drew [] x1).trans U1.out).heap HR1.out) tt2 htp (by decide);have hS2:x2.cell? ⟨w.heap.size,0,none⟩=some (.int .i64 8)∧x2.cell? ⟨w.heap.size,1,none⟩=some (.int .i64 t)∧x2.cell? ⟨w.heap.size,2,none⟩=some (.int .i64 d)∧x2.cell? ⟨w.heap.size,3,none⟩=some (.bool y)∧x2.cell? ⟨w.heap.size,4,none⟩=some (.slice ap np cp)∧x2.cell? ⟨w.heap.size,5,none⟩=some (.slice aq nq cq)∧x2.cell? ⟨b,8,none⟩=some (.slice a1.n no a1.cn):=by
  refine⟨?_,?_,?_,?_,?_,?_,d8⟩<;>rw[cell_of_row _ _ _ _ _ _ hr2]<;>rfl
 refine hK _ _ hS2 (fun _=>?_);clear hK K b2 t2 tt2 r2 htp hr2;refine Ph.one (i:=8) (by kernel_rfl) rfl ?_;intro K hK;rw[if_pos (by rfl)];go_simp;refine hK _ _ hS2 (fun _=>?_);clear hK K;refine Ph.tq 9 (some 110) hS2 ?_;simp only[Act.put,σa,σz,σs];refine Ph.tardy (i:=10) (by kernel_rfl) (by kernel_rfl) rfl ?_;intro K hK;rw[if_pos (by rfl)];go_simp;refine hK _ _ (Ph.done (by kernel_rfl) ?_ _);clear hK K;go_wp2_with fail;go_end0;exact⟨rfl,_,_,_,_,by rw[HE.out];exact B2.out,V2.out⟩
theorem sum_take (l:List Nat) {k:Nat} {x:Nat} (h:l[k]?=some x):(l.take (k+1)).sum=(l.take k).sum+x:=by
 rw[List.take_add_one,h,List.sum_append];simp
theorem sum_take_le (l:List Nat) (k:Nat):(l.take k).sum≤l.sum:=by
 have:=congrArg List.sum (List.take_append_drop k l);rw[List.sum_append]at this;omega
theorem hasRoom_calls {w:World} {a:Ads} {s:StV} (h:StIs w a s) (hm:MayP s) (Q:List (ByteArray×ByteArray)) (ao:Option Addr) (c:Nat) (hsum:pending s+Q.length≤1000000):
 Calls Tryz.prog 141 #[.agg (s.cells a),.slice ao Q.length c] w fun e w'=>e=.returned (.bool (fitsB s Q.length))∧Turn [] w w':=by
 have hlen:=h.waits.len;obtain⟨L,hL,hT,-⟩:=h.waits;have T0:=η (Turn.alloc [] w (.cells (s.cells a) 27));have U0:=η (Turn.refl [] (w.alloc (.cells (s.cells a) 27)));have HS:=η (fun wx (t:Turn [] (w.alloc (.cells (s.cells a) 27)) wx)=>h.still (T0.out.trans t));have BX:=η (fun wx (t:Turn [] (w.alloc (.cells (s.cells a) 27)) wx)=>s.boxed a t);have H:=η (fun wx (t:Turn [] (w.alloc (.cells (s.cells a) 27)) wx)=>hT.still (T0.out.trans t));have HL:=η hL;have hi1:=hm.id1;have hi2:=hm.id2;have hs1:=hm.seq1;have hs2:=hm.seq2;have hl1:=hm.lms;obtain⟨l,hl⟩:=ε (s.waits.map fun x=>x.puts.length);obtain⟨q,hq⟩:=ε Q.length;obtain⟨pe,hpe⟩:=ε (pending s);have hle:=sum_take_le l;have hsl:l.sum=pe:=by rw[hpe,hl];rfl
 unfold fitsB;rw[←hpe]at hsum ⊢;rw[←hq]at hsum ⊢;rw[hsl]at hle;have LE:=η hle;have HLL:=η hl;have HSL:=η hsl;obtain⟨ans,ha⟩:=ε (decide (((pe+q:Nat):Int)≤4294967296-s.nextId∧((pe+q:Nat):Int)≤72-(s.ms.length:Int)∧((pe+q:Nat):Int)≤1099511627776-s.nextSeq));have HAns:=η ha;rw[←ha];obtain⟨nm,hnm⟩:=ε s.ms.length;rw[←hnm]at hl1 HAns;obtain⟨n,hn⟩:=ε s.waits.length;have HN:=η hn;unfold StV.cells at*;obtain⟨am,cm,aw,cw,ae,ce,oo,co,an,cn⟩:=a;dsimp only at H BX T0 U0 ⊢;rw[←hn]at hlen ⊢;rw[←hn,←hnm]at H BX T0 U0;rw[←hnm];clear h HS hT hL ha hn hm hq hpe hle hl hsl hnm;go_in;go_wp2_with fail;go_loopw [5,13] (fun vc vi wx=>∃k:Nat,k≤n∧vi=.int .i64 (k:Int)∧vc=.int .i64 ((q+(l.take k).sum:Nat):Int)∧Turn [] (w.alloc (.cells #[.int .i64 s.broker,.int .i64 s.nextId,.int .i64 s.nextSeq,.int .i64 s.tx,.slice am nm cm,.slice aw n cw,.slice ae s.ends.length ce,.slice oo s.open_.length co,.slice an s.noes.length cn] 27)) wx) (fun _ vi _=>n-(intOf vi).toNat)
 case atStart=>exact⟨0,by omega,rfl,by simp,U0.out⟩
 case round=>
  obtain⟨k,hk,rfl,rfl,ht⟩:=hrel;have HT:=η ht;have H2:=H.out wr ht;clear ht;have hlk:=LE.out k;obtain⟨sk,hsk⟩:=ε ((l.take k).sum);have HSK:=η hsk;rw[←hsk]at hlk ⊢;clear hsk;by_cases hkn:k<n
  · have hkl:k<L.length:=by have:=congrArg List.length HL.out;rw[List.length_map]at this;rw[this,←HN.out];exact hkn
    obtain⟨x,hx⟩:∃x,L[k]?=some x:=⟨_,List.getElem?_eq_getElem hkl⟩
    have hxl:l[k]?=some x.v.puts.length:=by rw[HLL.out,List.getElem?_map,←HL.out,List.getElem?_map,hx];rfl
    obtain⟨g,off,rfl,hat⟩:=H2.at hx;have HD:=η (sum_take l hxl);have hlk2:=LE.out (k+1);rw[HD.out,←HSK.out]at hlk2;clear H2 hx hxl;obtain⟨⟨y,P⟩,ao,c⟩:=x;have q0:=hat 0 (.int .i64 y) rfl;have q1:=hat 1 (.slice ao P.length c) rfl;rw[Nat.add_zero]at q0;dsimp only at HD hlk2;obtain⟨pn,hpn⟩:=ε P.length;rw[←hpn]at q1 HD hlk2;have TA:=η (HT.out.trans (Turn.alloc [] wr (.cells #[.int .i64 y,.slice ao pn c] 81)));have hb:0≤(k:Int)∧(k:Int)<(n:Int):=by omega
    obtain⟨cz,hcz⟩:∃z:Nat,z=q+sk:=⟨_,rfl⟩
    rw[←hcz];have hw:IntKind.i64.wrap ((cz:Int)+(pn:Int))=((cz+pn:Nat):Int):=by rw[IntKind.wrap_i64];omega
    have HCZ:=η hcz;clear hat hpn hcz;go_wp2_with fail;go_roundw
    case rel=>exact⟨k+1,by omega,by go_num,by rw[HD.out,←HSK.out,←Nat.add_assoc,←HCZ.out,Int.natCast_add],TA.out⟩
    case measure=>simp[intOf];omega
  · have hkk:k=n:=by omega
    have hskp:sk=pe:=by rw[HSK.out,←HSL.out,List.take_of_length_le (by rw[HLL.out,List.length_map,←HN.out];omega)]
    obtain⟨cz,hcz⟩:∃z:Nat,z=q+sk:=⟨_,rfl⟩
    rw[←hcz];have hcp:cz=pe+q:=by omega
    have HA:Hid (ans=decide ((cz:Int)≤4294967296-s.nextId∧(cz:Int)≤72-(nm:Int)∧(cz:Int)≤1099511627776-s.nextSeq)):=η (by rw[HAns.out,hcp]);have hcm:cz≤1000000:=by omega
    have hw1:IntKind.i64.wrap (4294967296-(cz:Int))=4294967296-(cz:Int):=by rw[IntKind.wrap_i64];omega
    have hw2:IntKind.i64.wrap (1099511627776-(cz:Int))=1099511627776-(cz:Int):=by rw[IntKind.wrap_i64];omega
    have hw3:IntKind.i64.wrap (72-(cz:Int))=72-(cz:Int):=by rw[IntKind.wrap_i64];omega
    obtain⟨b0,b1,b2,b3,b4,b5,b6,b7,b8⟩:=BX.out _ HT.out;clear HAns H2 hcp hskp hcz hlk;by_cases c1:s.nextId≤4294967296-(cz:Int)
    case neg=>
     have HF:Hid (ans=false):=η (by rw[HA.out];exact decide_eq_false (by omega));have d1:decide (s.nextId≤4294967296-(cz:Int))=false:=decide_eq_false c1;clear HA;go_wp2_with fail;go_ret;exact⟨ret_bool HF.out.symm,T0.out.trans HT.out⟩
    have d1:decide (s.nextId≤4294967296-(cz:Int))=true:=decide_eq_true c1;by_cases c2:s.nextSeq≤1099511627776-(cz:Int)
    case neg=>
     have HF:Hid (ans=false):=η (by rw[HA.out];exact decide_eq_false (by omega));have d2:decide (s.nextSeq≤1099511627776-(cz:Int))=false:=decide_eq_false c2;clear HA;go_wp2_with fail;go_ret;exact⟨ret_bool HF.out.symm,T0.out.trans HT.out⟩
    have d2:decide (s.nextSeq≤1099511627776-(cz:Int))=true:=decide_eq_true c2;by_cases c3:(nm:Int)≤72-(cz:Int)
    case neg=>
     have HF:Hid (ans=false):=η (by rw[HA.out];exact decide_eq_false (by omega));have d3:decide ((nm:Int)≤72-(cz:Int))=false:=decide_eq_false c3;clear HA;go_wp2_with fail;go_ret;exact⟨ret_bool HF.out.symm,T0.out.trans HT.out⟩
    have HF:Hid (ans=true):=η (by rw[HA.out];exact decide_eq_true (by omega));have d3:decide ((nm:Int)≤72-(cz:Int))=true:=decide_eq_true c3;clear HA;go_wp2_with fail;go_ret;exact⟨ret_bool HF.out.symm,T0.out.trans HT.out⟩
theorem isFull_calls {w:World} {a:Ads} {s:StV} (h:StIs w a s) (hm:MayP s) (r:RecV) (ap aq:Option Addr) (cp cq:Nat) (hsum:pending s+r.puts.length≤1000000) (hP:(r.parts.length:Int)≤9223372036854775807):
 Calls Tryz.prog 76 #[.agg (s.cells a),.agg (r.cells ap cp aq cq)] w fun e w'=>e=.returned (.bool (fullB s r))∧Turn [] w w':=by
 obtain⟨k,t,d,y,P,Q⟩:=r;unfold RecV.cells;dsimp only at hsum hP ⊢;unfold fullB;dsimp only;obtain⟨np,hnp⟩:=ε P.length;have C1:=fun wx (q:Turn [] w wx)=>hasRoom_calls (h.still q) hm Q aq cq hsum
 obtain⟨nq,hnq⟩:=ε Q.length;rw[←hnq]at C1;rw[←hnp,←hnq];rw[←hnp]at hP;obtain⟨fi,hfi⟩:=ε (fitsB s nq);rw[←hfi]at C1 ⊢;have C1:=η C1;have T0:=η ((Turn.alloc [] w (.cells (s.cells a) 27)).trans (Turn.alloc [] _ (.cells #[.int .i64 k,.int .i64 t,.int .i64 d,.bool y,.slice ap np cp,.slice aq nq cq] 37)));have U0:=η (Turn.refl [] ((w.alloc (.cells (s.cells a) 27)).alloc (.cells #[.int .i64 k,.int .i64 t,.int .i64 d,.bool y,.slice ap np cp,.slice aq nq cq] 37)));have HS:=η (fun wx (tt:Turn [] ((w.alloc (.cells (s.cells a) 27)).alloc (.cells #[.int .i64 k,.int .i64 t,.int .i64 d,.bool y,.slice ap np cp,.slice aq nq cq] 37)) wx)=>h.still (T0.out.trans tt));have BX:=η (fun wx (tt:Turn [] ((w.alloc (.cells (s.cells a) 27)).alloc (.cells #[.int .i64 k,.int .i64 t,.int .i64 d,.bool y,.slice ap np cp,.slice aq nq cq] 37)) wx)=>s.boxed a ((Turn.alloc [] _ _).trans tt))
 have RX:Hid (∀wx,Turn [] ((w.alloc (.cells (s.cells a) 27)).alloc (.cells #[.int .i64 k,.int .i64 t,.int .i64 d,.bool y,.slice ap np cp,.slice aq nq cq] 37)) wx→wx.cell? ⟨w.heap.size+1,0,none⟩=some (.int .i64 k)∧wx.cell? ⟨w.heap.size+1,1,none⟩=some (.int .i64 t)∧wx.cell? ⟨w.heap.size+1,2,none⟩=some (.int .i64 d)∧wx.cell? ⟨w.heap.size+1,3,none⟩=some (.bool y)∧wx.cell? ⟨w.heap.size+1,4,none⟩=some (.slice ap np cp)∧wx.cell? ⟨w.heap.size+1,5,none⟩=some (.slice aq nq cq)):=η (fun wx tt=>by
  have:=heap_alloc_new (w.alloc (.cells (s.cells a) 27)) (.cells #[.int .i64 k,.int .i64 t,.int .i64 d,.bool y,.slice ap np cp,.slice aq nq cq] 37);rw[show(w.alloc (.cells (s.cells a) 27)).heap.size=w.heap.size+1 by simp]at this;have:=tt.heap this
  refine⟨?_,?_,?_,?_,?_,?_⟩<;>rw[cell_of_row _ _ _ _ _ _ this]<;>rfl)
 have hw1:=h.waits.len;have hw2:=h.ends.len;have hw3:=h.open_.len;have hw4:=h.noes.len;unfold StV.cells at*;clear h hm hsum hnp hnq hfi HS;generalize s.waits.length=nw at*;generalize s.ends.length=ne at*;generalize s.open_.length=no at*;generalize s.noes.length=nn at*;by_cases k1:k=1
 case pos=>
  subst k1;go_in;go_wp2_with fail;go_ret;exact⟨ret_bool (by simp),T0.out⟩
 by_cases k4:k=4
 case pos=>
  subst k4;obtain⟨ans,ha⟩:=ε ((decide (2000≤nw) || !fi));have HA:=η ha;rw[if_neg (by omega),if_pos rfl,←ha];clear ha;go_in;by_cases c1:(2000:Int)≤(nw:Int)
  case pos=>
   have d1:decide ((2000:Int)≤(nw:Int))=true:=decide_eq_true c1;have HF:Hid (ans=true):=η (by rw[HA.out];rw[decide_eq_true (by omega)];rfl);clear HA;go_wp2_with fail;go_ret;exact⟨ret_bool HF.out.symm,T0.out.trans U0.out⟩
  have d1:decide ((2000:Int)≤(nw:Int))=false:=decide_eq_false c1;have HA:Hid (ans=!fi):=η (by rw[HA.out,decide_eq_false (by omega),Bool.false_or]);go_wp2_with fail;refine(C1.out _ T0.out).mono ?_;rintro e x1 ⟨rfl,t1⟩;have U1:=η t1;clear t1 C1;cases fi with
  | true=>
   have HF:Hid (ans=false):=η (by rw[HA.out];rfl);clear HA;go_wp2_with fail;go_ret;exact⟨ret_bool HF.out.symm,T0.out.trans U1.out⟩
  | false=>
   have HF:Hid (ans=true):=η (by rw[HA.out];rfl);clear HA;go_wp2_with fail;go_ret;exact⟨ret_bool HF.out.symm,T0.out.trans U1.out⟩
 by_cases k6:k=6
 case pos=>
  subst k6;go_in;go_wp2_with fail;go_ret;exact⟨ret_bool (by simp;omega),T0.out⟩
 by_cases k3:k=3
 case pos=>
  subst k3;go_in;go_wp2_with fail;go_ret;exact⟨ret_bool (by simp;omega),T0.out⟩
 by_cases k5:k=5
 case pos=>
  subst k5;go_in;go_wp2_with fail;go_ret;exact⟨ret_bool (by simp;omega),T0.out⟩
 by_cases k7:k=7
 case pos=>
  subst k7;obtain⟨ans,ha⟩:=ε ((decide (2000≤ne) || !fi));have HA:=η ha;rw[if_neg (by omega),if_neg (by omega),if_neg (by omega),if_neg (by omega),if_pos rfl,←ha];clear ha;go_in;by_cases c1:(2000:Int)≤(ne:Int)
  case pos=>
   have d1:decide ((2000:Int)≤(ne:Int))=true:=decide_eq_true c1;have HF:Hid (ans=true):=η (by rw[HA.out];rw[decide_eq_true (by omega)];rfl);clear HA;go_wp2_with fail;go_ret;exact⟨ret_bool HF.out.symm,T0.out.trans U0.out⟩
  have d1:decide ((2000:Int)≤(ne:Int))=false:=decide_eq_false c1;have HA:Hid (ans=!fi):=η (by rw[HA.out,decide_eq_false (by omega),Bool.false_or]);go_wp2_with fail;refine(C1.out _ T0.out).mono ?_;rintro e x1 ⟨rfl,t1⟩;have U1:=η t1;clear t1 C1;cases fi with
  | true=>
   have HF:Hid (ans=false):=η (by rw[HA.out];rfl);clear HA;go_wp2_with fail;go_ret;exact⟨ret_bool HF.out.symm,T0.out.trans U1.out⟩
  | false=>
   have HF:Hid (ans=true):=η (by rw[HA.out];rfl);clear HA;go_wp2_with fail;go_ret;exact⟨ret_bool HF.out.symm,T0.out.trans U1.out⟩
 by_cases k8:k=8
 case pos=>
  subst k8;obtain⟨ans,ha⟩:=ε ((decide (2000≤ne) || (decide (0<np)&&decide (2000≤nn))));have HA:=η ha;rw[if_neg (by omega),if_neg (by omega),if_neg (by omega),if_neg (by omega),if_neg (by omega),if_pos rfl,←ha];clear ha;go_in;by_cases c1:(2000:Int)≤(ne:Int)
  case pos=>
   have d1:decide ((2000:Int)≤(ne:Int))=true:=decide_eq_true c1;have HF:Hid (ans=true):=η (by rw[HA.out];rw[decide_eq_true (by omega)];rfl);clear HA;go_wp2_with fail;go_ret;exact⟨ret_bool HF.out.symm,T0.out.trans U0.out⟩
  have d1:decide ((2000:Int)≤(ne:Int))=false:=decide_eq_false c1;have HA:Hid (ans=(decide (0<np)&&decide (2000≤nn))):=η (by rw[HA.out,decide_eq_false (by omega),Bool.false_or]);by_cases c2:(0:Int)<(np:Int)
  case neg=>
   have d2:decide ((0:Int)<(np:Int))=false:=decide_eq_false c2;have HF:Hid (ans=false):=η (by rw[HA.out];rw[decide_eq_false (by omega)];rfl);clear HA;go_wp2_with fail;go_ret;exact⟨ret_bool HF.out.symm,T0.out.trans U0.out⟩
  have d2:decide ((0:Int)<(np:Int))=true:=decide_eq_true c2;by_cases c3:(2000:Int)≤(nn:Int)
  case neg=>
   have d3:decide ((2000:Int)≤(nn:Int))=false:=decide_eq_false c3;have HF:Hid (ans=false):=η (by rw[HA.out];rw[decide_eq_true (by omega),decide_eq_false (by omega)];rfl);clear HA;go_wp2_with fail;go_ret;exact⟨ret_bool HF.out.symm,T0.out.trans U0.out⟩
  have d3:decide ((2000:Int)≤(nn:Int))=true:=decide_eq_true c3;have HF:Hid (ans=true):=η (by rw[HA.out];rw[decide_eq_true (by omega),decide_eq_true (by omega)];rfl);clear HA;go_wp2_with fail;go_ret;exact⟨ret_bool HF.out.symm,T0.out.trans U0.out⟩
 have h1:(k==1)=false:=by simpa using k1
 have h4:(k==4)=false:=by simpa using k4
 have h6:(k==6)=false:=by simpa using k6
 have h3:(k==3)=false:=by simpa using k3
 have h5:(k==5)=false:=by simpa using k5
 have h7:(k==7)=false:=by simpa using k7
 have h8:(k==8)=false:=by simpa using k8
 rw[if_neg (by omega),if_neg (by omega),if_neg (by omega),if_neg (by omega),if_neg (by omega),if_neg (by omega)];go_in;go_wp2_with fail;go_ret;exact⟨rfl,T0.out⟩
theorem isMissing_calls {w:World} {a:Ads} {s:StV} (h:StIs w a s) (hm:MayP s) (r:RecV) (ap aq:Option Addr) (cp cq:Nat) (hp:Il w ap cp r.parts) (hr:recB r=true):
 Calls Tryz.prog 73 #[.agg (s.cells a),.agg (r.cells ap cp aq cq)] w fun e w'=>e=.returned (.bool (missB s r))∧Turn [] w w':=by
 obtain⟨k,t,d,y,P,Q⟩:=r;unfold RecV.cells;dsimp only at hp ⊢;obtain⟨ans,ha⟩:=ε (missB s ⟨k,t,d,y,P,Q⟩);have HA:=η ha;rw[←ha]
 have HP1:Hid (k=9→P.length=1):=η (fun e=>by
  subst e;unfold recB at hr;simp at hr
  exact hr.2.2.2.2.1)
 obtain⟨np,hnp⟩:=ε P.length;obtain⟨nq,hnq⟩:=ε Q.length;rw[←hnp,←hnq];rw[←hnp]at HP1;have HNP:=η hnp;have C1:=η (fun wx (q:Turn [] w wx)=>messageAt_calls (h.still q) d);have C2:=η (fun wx (q:Turn [] w wx)=>prepared_calls (h.still q) hm.waitsR (by have:=hm.lwaits;omega) t);have C3:=η (fun wx (q:Turn [] w wx)=>pds_place (h.still q).noes hm.noesR (by have:=hm.lnoes;omega) t);have HIL:=η hp;have HNR:=η hm.noesR;have T0:=η ((Turn.alloc [] w (.cells (s.cells a) 27)).trans (Turn.alloc [] _ (.cells #[.int .i64 k,.int .i64 t,.int .i64 d,.bool y,.slice ap np cp,.slice aq nq cq] 37)));have U0:=η (Turn.refl [] ((w.alloc (.cells (s.cells a) 27)).alloc (.cells #[.int .i64 k,.int .i64 t,.int .i64 d,.bool y,.slice ap np cp,.slice aq nq cq] 37)));have HS:=η (fun wx (tt:Turn [] ((w.alloc (.cells (s.cells a) 27)).alloc (.cells #[.int .i64 k,.int .i64 t,.int .i64 d,.bool y,.slice ap np cp,.slice aq nq cq] 37)) wx)=>h.still (T0.out.trans tt));have BX:=η (fun wx (tt:Turn [] ((w.alloc (.cells (s.cells a) 27)).alloc (.cells #[.int .i64 k,.int .i64 t,.int .i64 d,.bool y,.slice ap np cp,.slice aq nq cq] 37)) wx)=>s.boxed a ((Turn.alloc [] _ _).trans tt))
 have RX:Hid (∀wx,Turn [] ((w.alloc (.cells (s.cells a) 27)).alloc (.cells #[.int .i64 k,.int .i64 t,.int .i64 d,.bool y,.slice ap np cp,.slice aq nq cq] 37)) wx→wx.cell? ⟨w.heap.size+1,0,none⟩=some (.int .i64 k)∧wx.cell? ⟨w.heap.size+1,1,none⟩=some (.int .i64 t)∧wx.cell? ⟨w.heap.size+1,2,none⟩=some (.int .i64 d)∧wx.cell? ⟨w.heap.size+1,3,none⟩=some (.bool y)∧wx.cell? ⟨w.heap.size+1,4,none⟩=some (.slice ap np cp)∧wx.cell? ⟨w.heap.size+1,5,none⟩=some (.slice aq nq cq)):=η (fun wx tt=>by
  have:=heap_alloc_new (w.alloc (.cells (s.cells a) 27)) (.cells #[.int .i64 k,.int .i64 t,.int .i64 d,.bool y,.slice ap np cp,.slice aq nq cq] 37);rw[show(w.alloc (.cells (s.cells a) 27)).heap.size=w.heap.size+1 by simp]at this;have:=tt.heap this
  refine⟨?_,?_,?_,?_,?_,?_⟩<;>rw[cell_of_row _ _ _ _ _ _ this]<;>rfl)
 have HZ:=η (fun wx (tt:Turn [] ((w.alloc (.cells (s.cells a) 27)).alloc (.cells #[.int .i64 k,.int .i64 t,.int .i64 d,.bool y,.slice ap np cp,.slice aq nq cq] 37)) wx)=>(HS.out wx tt).noes);unfold StV.cells at*;clear h hm ha hnp hnq HS hp hr;obtain⟨am,cm,aw,cw,ae,ce,oo,co,an,cn⟩:=a;dsimp only at C1 C2 C3 T0 U0 BX RX HZ ⊢;by_cases k2:k=2
 case pos=>
  subst k2;obtain⟨p,hpp⟩:=ε (placeI (fun m:MsgV=>decide (m.id=d)) s.ms);rw[←hpp]at C1;have HA:Hid (ans=decide (p<0)):=η (by rw[HA.out];unfold missB;rw[if_pos rfl,hpp]);clear hpp;go_in;go_wp2_with fail;refine(C1.out _ T0.out).mono ?_;rintro e x1 ⟨rfl,t1⟩;have U1:=η t1;clear t1 C1;go_wp2_with fail;go_ret;exact⟨ret_bool HA.out.symm,T0.out.trans U1.out⟩
 have h2:(k==2)=false:=by simpa using k2
 by_cases k5:k=5
 case pos=>
  subst k5;obtain⟨p,hpp⟩:=ε (keyB BrV.tid s.waits t);rw[←hpp]at C2;have HA:Hid (ans=!p):=η (by rw[HA.out];unfold missB;rw[if_neg k2,if_pos rfl,hpp]);clear hpp;go_in;go_wp2_with fail;refine(C2.out _ T0.out).mono ?_;rintro e x1 ⟨rfl,t1⟩;have U1:=η t1;clear t1 C2;go_wp2_with fail;go_ret;exact⟨ret_bool HA.out.symm,T0.out.trans U1.out⟩
 have h5:(k==5)=false:=by simpa using k5
 by_cases k9:k=9
 case neg=>
  have h9:(k==9)=false:=by simpa using k9
  have HA:Hid (ans=false):=η (by rw[HA.out];unfold missB;rw[if_neg k2,if_neg k5,if_neg k9]);go_in;go_wp2_with fail;go_ret;exact⟨ret_bool HA.out.symm,T0.out⟩
 subst k9;have hnp1:=HP1.out rfl;subst hnp1;obtain⟨r2,e2⟩:=ε (keyB PendV.tid s.noes t);obtain⟨pz,epz⟩:=ε (posK PendV.tid t s.noes);rw[←e2,←epz]at C3
 have HF1:Hid (r2=false→ans=true):=η (fun hh=>by
  rw[HA.out];have:pendOf s.noes t=none:=List.find?_eq_none.2 fun x hx=>by
   have:=keyB_not.1 (e2.symm.trans hh) x hx;simpa using this
  unfold missB;rw[if_neg k2,if_neg k5,if_pos rfl];dsimp only
  rw[this])
 have HF2:Hid (r2=true→∃x,s.noes[pz]?=some x∧ans=!decide (P.getD 0 0∈x.parts)):=η (fun hh=>by
  obtain⟨x,h1,-,h3⟩:=posK_find HNR.out (e2.symm.trans hh);refine⟨x,by rw[epz];exact h1,?_⟩;have:pendOf s.noes t=some x:=h3;rw[HA.out];unfold missB;rw[if_neg k2,if_neg k5,if_pos rfl];dsimp only
  rw[this])
 clear e2 epz HA HNR;go_in;go_wp2_with fail;refine(C3.out _ T0.out).mono ?_;rintro e x1 ⟨rfl,t1⟩;have U1:=η t1;clear t1 C3;cases r2 with
 | false=>
  have HF:=η (HF1.out rfl);clear HF1 HF2;go_wp2_with fail;go_quiet (fail);go_wp2_with fail;go_ret;exact⟨ret_bool HF.out.symm,T0.out.trans (U1.out.trans (Turn.drewN [] _ _))⟩
 | true=>
  obtain⟨x,hx,hans⟩:=HF2.out rfl;have HF:=η hans;clear HF1 HF2 hans;obtain⟨L,hL,hT,hI⟩:=HZ.out _ U1.out;have hpl:=(List.getElem?_eq_some_iff.1 hx).1;rw[←hL,List.getElem?_map]at hx;obtain⟨y2,hy2,rfl⟩:=Option.map_eq_some_iff.1 hx;obtain⟨g,off,rfl,hat⟩:=hT.at hy2;have z1:=hat 1 (.slice y2.ao y2.v.parts.length y2.c) rfl;have hI2:=hI y2 (List.mem_of_getElem? hy2);obtain⟨b,off2,rfl,-,hat2⟩:=HIL.out.at (by intro e;rw[e]at HNP;have:=HNP.out;simp at this);have q0:=hat2 0 (by rw[←HNP.out];omega);rw[Nat.add_zero]at q0;obtain⟨part,hpart⟩:=ε (P.getD 0 0);have q0:=(T0.out.trans U1.out).cell q0;rw[←hpart]at HF q0;have C4:Hid (∀nq,Calls Tryz.prog 136 #[.slice y2.ao y2.v.parts.length y2.c,.int .i64 part] (x1.drewN nq) fun e w'=>e=.returned (.bool (decide (part∈y2.v.parts)))∧x1.drewN nq=w'):=η (fun nq=>contains_calls part (hI2.turn (Turn.drewN [] x1 nq)));obtain⟨pl,hpl2⟩:=ε y2.v.parts.length;obtain⟨mb,hmb⟩:=ε (decide (part∈y2.v.parts));rw[←hpl2]at z1 C4;rw[←hmb]at C4 HF;have hb2:0≤(pz:Int)∧(pz:Int)<(s.noes.length:Int):=by omega
  obtain⟨b0,b1,b2,b3,b4,b5,b6,b7,b8⟩:=BX.out _ U1.out;obtain⟨m0,m1,m2,m3,m4,m5⟩:=RX.out _ U1.out;clear hat hat2 hT hI hI2 hL hx hy2 hpart hpl2 hmb;go_wp2_with fail;go_quiet ((go_at_call 136;exact(C4.out _).mono fun _ _ h=>⟨h.1,_,h.2.symm⟩));go_wp2_with fail;go_ret;exact⟨ret_bool HF.out.symm,T0.out.trans (U1.out.trans (Turn.drewN [] _ _))⟩
end Go.Proofs.YtkjpjfghklgdhaaGreat
