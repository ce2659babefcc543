/-
  Rmy
-/
import Derived.Test.YtkjpjfghklgdhaaGreatRpd
import Derived.Test.YtkjpjfghklgdhaaGreatPkBF
import Derived.Test.YtkjpjfghklgdhaaGreatRm7
import Derived.Test.YtkjpjfghklgdhaaGreatRm8
set_option maxHeartbeats 16000000
set_option maxRecDepth 100000
namespace Go.Proofs.YtkjpjfghklgdhaaGreat
open Go.RowKit Go.Proofs.YtkjpjfghklgdhaaGreat.V
theorem six_cells_of {w:World} {q:Nat} {u0 u1 u2 u3 u4 u5:Value} {T:TypeId} (h:w.heap[q]?=some (.cells #[u0,u1,u2,u3,u4,u5] T)):w.cell? ⟨q,0,none⟩=some u0∧w.cell? ⟨q,1,none⟩=some u1∧w.cell? ⟨q,2,none⟩=some u2∧w.cell? ⟨q,3,none⟩=some u3∧w.cell? ⟨q,4,none⟩=some u4∧w.cell? ⟨q,5,none⟩=some u5:=
 ⟨cell_in h rfl,cell_in h rfl,cell_in h rfl,cell_in h rfl,cell_in h rfl,cell_in h rfl⟩
theorem refMay_calls {w:World} {a:Ads} {s:StV} (h:StIs w a s) (hf:s.fit):Calls Tryz.prog 19 #[.agg (s.cells a)] w fun e w'=>e=.returned (.bool (mayB s))∧Turn [] w w':=by
 obtain⟨ans,ha⟩:=ε (mayB s);have HA:Hid (ans=(numR s&&(chkAll MsgV.seq (msF s) s.ms&&(chkAll EndV.tid enF s.ends&&(chkAll BrV.tid (waF s) s.waits&&(pendsB s s.open_&&(pendsB s s.noes&&sidesB s))))))):=η (by rw[ha,←mayRefB_is];rfl);rw[←ha];obtain⟨am,cm,aw,cw,ae,ce,ao,co,an,cn⟩:=a;have lm:=h.ms.len;have lw:=h.waits.len;have le:=h.ends.len;have lo:=h.open_.len;have ln:=h.noes.len;have T0:=η (Turn.alloc [] w (.cells (s.cells ⟨am,cm,aw,cw,ae,ce,ao,co,an,cn⟩) 27));have U0:=η (Turn.refl [] (w.alloc (.cells (s.cells ⟨am,cm,aw,cw,ae,ce,ao,co,an,cn⟩) 27)));have BX:=η (fun wx (t:Turn [] (w.alloc (.cells (s.cells ⟨am,cm,aw,cw,ae,ce,ao,co,an,cn⟩) 27)) wx)=>s.boxed _ t);have K1:=η (fun wx=>refBroker_calls s.broker wx);have K2:=η (fun i wx (q:Turn [] w wx)=>refAtMs_calls i (h.still q));have K3:=η (fun i wx (q:Turn [] w wx)=>refAtEnds_calls i (h.still q));have K4:=η (fun wx (q:Turn [] w wx)=>refPends_calls (a:=⟨am,cm,aw,cw,ae,ce,ao,co,an,cn⟩) (s:=s) (h.still q).open_);have K5:=η (fun wx (q:Turn [] w wx)=>refPends_calls (a:=⟨am,cm,aw,cw,ae,ce,ao,co,an,cn⟩) (s:=s) (h.still q).noes);have K6:=η (fun wx (q:Turn [] w wx)=>refSides_calls (h.still q));have HMS:=η (fun wx (q:Turn [] w wx)=>(h.still q).ms);have HES:=η (fun wx (q:Turn [] w wx)=>(h.still q).ends);have HWS:=η (fun wx (q:Turn [] w wx)=>(h.still q).waits);have HFM:=η hf.ms;clear h hf ha;unfold StV.cells at*;dsimp only at*;obtain⟨nm,hnm⟩:=ε s.ms.length;obtain⟨nw,hnw⟩:=ε s.waits.length;obtain⟨ne,hne⟩:=ε s.ends.length;obtain⟨no,hno⟩:=ε s.open_.length;obtain⟨nn,hnn⟩:=ε s.noes.length;have NM:=η hnm;have NW:=η hnw;have NE:=η hne;rw[←hnm]at lm;rw[←hnw]at lw;rw[←hne]at le;rw[←hno]at lo;rw[←hnn]at ln
 have HAN:Hid (¬(1≤s.nextId∧s.nextId≤4294967296∧1≤s.nextSeq∧s.nextSeq≤1099511627776∧0≤s.tx∧s.tx≤200∧nm≤72∧nw≤2000∧ne≤2000∧no≤2000∧nn≤2000)→ans=false):=η (fun e=>by
  rw[HA.out];unfold numR;rw[←hnm,←hnw,←hne,←hno,←hnn,decide_eq_false e,Bool.and_false]
  rfl)
 have HAB:Hid (brokerB s.broker=false→ans=false):=η (fun e=>by rw[HA.out];unfold numR;rw[e];rfl)
 have HAY:Hid (brokerB s.broker=true→(1≤s.nextId∧s.nextId≤4294967296∧1≤s.nextSeq∧s.nextSeq≤1099511627776∧0≤s.tx∧s.tx≤200∧nm≤72∧nw≤2000∧ne≤2000∧no≤2000∧nn≤2000)→numR s=true):=η (fun e1 e=>by
  unfold numR;rw[←hnm,←hnw,←hne,←hno,←hnn,e1,decide_eq_true e]
  rfl)
 obtain⟨xb,hxb⟩:=ε (w.alloc (.cells #[.int .i64 s.broker,.int .i64 s.nextId,.int .i64 s.nextSeq,.int .i64 s.tx,.slice am s.ms.length cm,.slice aw s.waits.length cw,.slice ae s.ends.length ce,.slice ao s.open_.length co,.slice an s.noes.length cn] 27));rw[←hxb]at T0 U0 BX;have HXB:=η hxb;rw[←hnm,←hnw,←hne,←hno,←hnn]at BX K2 K3 K4 K5 K6 HXB ⊢;clear hnm hnw hne hno hnn hxb;obtain⟨r1,e1⟩:=ε (brokerB s.broker);rw[←e1]at K1 HAB HAY;have E1:=η e1;clear e1;go_in;go_upto_region 1 with fail
 rw[←HXB.out];clear HXB;obtain⟨b0,b1,b2,b3,b4,b5,b6,b7,b8⟩:=BX.out _ U0.out;go_wp2_with fail;refine(K1.out _).mono ?_;rintro e x1 ⟨rfl,rfl⟩;clear K1;cases r1 with
 | false=>
  have HF:=η (HAB.out rfl);go_wp2_with fail;go_ret;exact⟨ret_bool HF.out.symm,T0.out⟩
 | true=>
  by_cases q0:s.nextId<1
  case pos=>
   have HF:=η (HAN.out (by omega));go_wp2_with fail;go_ret;exact⟨ret_bool HF.out.symm,T0.out⟩
  by_cases q1:4294967296<s.nextId
  case pos=>
   have HF:=η (HAN.out (by omega));go_wp2_with fail;go_ret;exact⟨ret_bool HF.out.symm,T0.out⟩
  by_cases q2:s.nextSeq<1
  case pos=>
   have HF:=η (HAN.out (by omega));go_wp2_with fail;go_ret;exact⟨ret_bool HF.out.symm,T0.out⟩
  by_cases q3:1099511627776<s.nextSeq
  case pos=>
   have HF:=η (HAN.out (by omega));go_wp2_with fail;go_ret;exact⟨ret_bool HF.out.symm,T0.out⟩
  by_cases q4:s.tx<0
  case pos=>
   have HF:=η (HAN.out (by omega));go_wp2_with fail;go_ret;exact⟨ret_bool HF.out.symm,T0.out⟩
  by_cases q5:200<s.tx
  case pos=>
   have HF:=η (HAN.out (by omega));go_wp2_with fail;go_ret;exact⟨ret_bool HF.out.symm,T0.out⟩
  by_cases q6:(72:Int)<(nm:Int)
  case pos=>
   have HF:=η (HAN.out (by omega));go_wp2_with fail;go_ret;exact⟨ret_bool HF.out.symm,T0.out⟩
  by_cases q7:(2000:Int)<(nw:Int)
  case pos=>
   have HF:=η (HAN.out (by omega));go_wp2_with fail;go_ret;exact⟨ret_bool HF.out.symm,T0.out⟩
  by_cases q8:(2000:Int)<(ne:Int)
  case pos=>
   have HF:=η (HAN.out (by omega));go_wp2_with fail;go_ret;exact⟨ret_bool HF.out.symm,T0.out⟩
  by_cases q9:(2000:Int)<(no:Int)
  case pos=>
   have HF:=η (HAN.out (by omega));go_wp2_with fail;go_ret;exact⟨ret_bool HF.out.symm,T0.out⟩
  by_cases q10:(2000:Int)<(nn:Int)
  case pos=>
   have HF:=η (HAN.out (by omega));go_wp2_with fail;go_ret;exact⟨ret_bool HF.out.symm,T0.out⟩
  have HB:Hid (1≤s.broker∧s.broker≤8):=η (by have:=E1.out;unfold brokerB at this;simpa using this.symm);have HR:Hid (numR s=true):=η (HAY.out rfl (by omega));have HAM:Hid (chkAll MsgV.seq (msF s) s.ms=false→ans=false):=η (fun e=>by rw[HA.out,e,Bool.false_and,Bool.and_false]);have HAS:Hid (chkAll EndV.tid enF s.ends=false→ans=false):=η (fun e=>by rw[HA.out,e,Bool.false_and,Bool.and_false,Bool.and_false]);have HAW:Hid (chkAll BrV.tid (waF s) s.waits=false→ans=false):=η (fun e=>by rw[HA.out,e,Bool.false_and,Bool.and_false,Bool.and_false,Bool.and_false]);have HQ1:=η q2;have HQ2:=η q0;have HNS:Hid (s.nextSeq≤1099511627776∧s.nextId≤4294967296):=η (by omega);clear HAN HAB HAY;go_upto_region 4 with fail
  clear q0 q1 q2 q3 q4 q5 q6 q7 q8 q9 q10 b0 b1 b2 b3 b4 b5 b6 b7 b8;go_loopw [3,4] (fun vi v4 wx=>∃(k:Nat) (u4:Value),u4=v4∧k≤nm∧vi=.int .i64 (k:Int)∧(∀j,j<k→chk MsgV.seq (msF s) s.ms j=true)∧Turn [] xb wx) (fun vi _ _=>nm-(intOf vi).toNat)
  case atStart=>exact⟨0,_,rfl,by omega,rfl,fun j hj=>by omega,U0.out⟩
  case round=>
   obtain⟨k,u4,rfl,hk,rfl,hall,ht⟩:=hrel;have HT:=η ht;have HL:=η hall;clear ht hall;obtain⟨b0,b1,b2,b3,b4,b5,b6,b7,b8⟩:=BX.out _ HT.out;by_cases hkn:k<nm
   · obtain⟨x,hx⟩:∃x,s.ms[k]?=some x:=⟨_,List.getElem?_eq_getElem (by rw[←NM.out];exact hkn)⟩
     obtain⟨g1,o1,rfl,hat⟩:=(HMS.out _ (T0.out.trans HT.out)).at hx;have hok:=HFM.out x (List.mem_of_getElem? hx);have HNX:Hid (chk MsgV.seq (msF s) s.ms k=true→∀j,j<k+1→chk MsgV.seq (msF s) s.ms j=true):=η (fun e=>chk_next e HL.out);have HNF:Hid (chk MsgV.seq (msF s) s.ms k=false→ans=false):=η (fun e=>HAM.out (chkAll_false (by rw[←NM.out];exact hkn) e))
     have HPV:Hid (∀i,k=i+1→∃q:Int,wr.cell? ⟨g1,o1+i*6+3,none⟩=some (.int .i64 q)∧chk MsgV.seq (msF s) s.ms k=(msF s k x&&decide (q<x.seq))):=η (fun i e=>by
      subst e;obtain⟨z,hz⟩:∃z,s.ms[i]?=some z:=⟨_,List.getElem?_eq_getElem (by have:=NM.out;omega)⟩
      obtain⟨g2,o2,e2,hat2⟩:=(HMS.out _ (T0.out.trans HT.out)).at hz;injection e2 with e2
      injection e2 with e3 e4 _
      subst e3 e4
      exact⟨z.seq,hat2 3 (.int .i64 z.seq) rfl,chk_succ hx hz⟩)
     have HZ0:Hid (k=0→chk MsgV.seq (msF s) s.ms k=msF s k x):=η (fun e=>by subst e;exact chk_zero hx);have r0:=hat 0 _ rfl;have r1:=hat 1 _ rfl;have r2:=hat 2 _ rfl;have r3:=hat 3 _ rfl;have r4:=hat 4 _ rfl;have r5:=hat 5 _ rfl;rw[Nat.add_zero]at r0;have hb:0≤(k:Int)∧(k:Int)<(nm:Int):=by omega
     clear hat hx HL;obtain⟨id,qu,bo,sq,ct,by_⟩:=x;dsimp only at r0 r1 r2 r3 r4 r5 hok HPV;obtain⟨ok1,ok2,ok3,ok4,sz1,sz2⟩:=hok;obtain⟨z1,hz1⟩:=ε (placeI (fun m:MsgV=>decide (m.id=id)) s.ms);obtain⟨hz,hhz⟩:=ε (homeZ id);obtain⟨qb,hqb⟩:=ε (queueB qu);obtain⟨bb,hbb⟩:=ε (bodyB bo);obtain⟨tb,htb⟩:=ε (decide (0<homeZ by_));obtain⟨z2,hz2⟩:=ε (placeI (fun m:EndV=>decide (m.tid=by_)) s.ends);obtain⟨eb,heb⟩:=ε (keyB EndV.tid s.ends by_);have HD2:Hid (decide (0≤z2)=eb):=η (by rw[hz2,heb];exact place_key3 EndV.tid _ _)
     have HMF:Hid (∀j,msF s j ⟨id,qu,bo,sq,ct,by_⟩=(decide (1≤sq∧sq<s.nextSeq)&&(decide (z1=(j:Int))&&(decide (hz=s.broker)&&(decide (id<s.broker*4294967296+s.nextId)&&((qb&&bb)&&(decide (0≤ct∧ct≤1000)&&(decide (by_=0) || (tb&&!eb))))))))):=η (fun j=>by
      unfold msF msgOkB putB;dsimp only
      rw[←hz1,←hhz,←hqb,←hbb,←heb,htb])
     have HHZ:=η hhz;obtain⟨cv,hcv⟩:=ε (chk MsgV.seq (msF s) s.ms k);rw[←hcv]at HNX HNF;have HCV:=η hcv;have D2:=η (K2.out id);have D3:=η (K3.out by_);rw[←hz1]at D2;rw[←hz2]at D3;have D4:=η (fun wx=>refHome_calls id wx);rw[←hhz]at D4;have D5:=η (fun wx=>refQueue_calls qu wx sz1);rw[←hqb]at D5;have D6:=η (fun wx=>refBody_calls bo wx);rw[←hbb]at D6;have D7:=η (fun wx=>refTid_calls by_ wx);rw[←htb]at D7;have TY:=η (Turn.alloc [] wr (.cells #[.int .i64 id,.string qu,.string bo,.int .i64 sq,.int .i64 ct,.int .i64 by_] 49));have hy0:=six_cells_of (heap_alloc_new wr (.cells #[.int .i64 id,.string qu,.string bo,.int .i64 sq,.int .i64 ct,.int .i64 by_] 49));clear hz1 hhz hqb hbb htb hz2 heb sz1 sz2 ok2 ok3 ok4 hcv;go_upto_region 7 with fail
     clear b0 b1 b2 b3 b4 b5 b6 b7 b8 r0 r1 r2 r3 r4 r5;obtain⟨b0,b1,b2,b3,b4,b5,b6,b7,b8⟩:=BX.out _ (HT.out.trans TY.out);have HQ:=η (fun(i:Nat) (q:Int) (hq:wr.cell? ⟨g1,o1+i*6+3,none⟩=some (.int .i64 q))=>TY.out.cell hq);have TT:=η (HT.out.trans TY.out);generalize wr.alloc (.cells #[.int .i64 id,.string qu,.string bo,.int .i64 sq,.int .i64 ct,.int .i64 by_] 49)=y at*;obtain⟨m0,m1,m2,m3,m4,m5⟩:=hy0;have F2:=η (fun p:Tw y=>Tw.call (fun x q=>D2.out x (T0.out.trans (TT.out.trans q))) p);have F3:=η (fun p:Tw y=>Tw.call (fun x q=>D3.out x (T0.out.trans (TT.out.trans q))) p);have F4:=η (fun p:Tw y=>Tw.same D4.out p);have F5:=η (fun p:Tw y=>Tw.same D5.out p);have F6:=η (fun p:Tw y=>Tw.same D6.out p);have F7:=η (fun p:Tw y=>Tw.same D7.out p);clear D2 D3 D4 D5 D6 D7 TY;rcases k with _ | k
     · have HZ:=η (HZ0.out rfl);clear HZ0 HPV HQ;refine reg7_zero (c:=cv) b0 b1 b2 b3 b4 b5 b6 b7 b8 m0 m1 m2 m3 m4 m5 F2 F3 F4 F5 F6 F7 hkn HB.out HHZ.out HD2.out lm (by rw[HCV.out,HZ.out,HMF.out]) ?_;intro v84 v85 v86 v87 v88 v89 v90 v91 v92 v93 v94 v95 v96 v97 v98 v99 v100 v101 v102 v103 v104 v105 v106 v107 v108 v109 v110 v111 v112 v113 v114 v115 v116 v117 v118 v119 v120 v121 v122 v123 v124 v125 v126 v127 v128 v129 v130 v131 v132 v133 v134 v135 v136 v137 v138 v139 v140 v141 v142 v143 v144 v145 v146 v147 v148 v149 v150 v151 v152 v153 v154 v155 v156 v157 v158 v159 v160 v161 v162 v163 v164 v165 v166 v167 v168 v169 v170 v171 v172 v173 v174 v175 x t;clear b0 b1 b2 b3 b4 b5 b6 b7 b8 m0 m1 m2 m3 m4 m5 F2 F3 F4 F5 F6 F7;cases cv with
       | false=>
        have HF:=η (HNF.out rfl);clear HNX HNF;go_wp2_with fail;go_ret;exact⟨ret_bool HF.out.symm,T0.out.trans (TT.out.trans t)⟩
       | true=>
        have HX:=η (HNX.out rfl);clear HNX HNF;go_wp2_with fail;go_roundw
        case rel=>exact⟨_+1,_,rfl,by omega,by go_num,HX.out,TT.out.trans t⟩
        case measure=>simp[intOf];omega
     · obtain⟨zq,q0,hcq⟩:=HPV.out k rfl;have q0:=HQ.out _ _ q0;have HZ:=η hcq;clear HZ0 HPV HQ hcq;refine reg7_succ (c:=cv) b0 b1 b2 b3 b4 b5 b6 b7 b8 m0 m1 m2 m3 m4 m5 F2 F3 F4 F5 F6 F7 q0 hkn HB.out HHZ.out HD2.out lm (by rw[HCV.out,HZ.out,HMF.out];rfl) ?_;clear q0;intro v84 v85 v86 v87 v88 v89 v90 v91 v92 v93 v94 v95 v96 v97 v98 v99 v100 v101 v102 v103 v104 v105 v106 v107 v108 v109 v110 v111 v112 v113 v114 v115 v116 v117 v118 v119 v120 v121 v122 v123 v124 v125 v126 v127 v128 v129 v130 v131 v132 v133 v134 v135 v136 v137 v138 v139 v140 v141 v142 v143 v144 v145 v146 v147 v148 v149 v150 v151 v152 v153 v154 v155 v156 v157 v158 v159 v160 v161 v162 v163 v164 v165 v166 v167 v168 v169 v170 v171 v172 v173 v174 v175 x t;clear b0 b1 b2 b3 b4 b5 b6 b7 b8 m0 m1 m2 m3 m4 m5 F2 F3 F4 F5 F6 F7;cases cv with
       | false=>
        have HF:=η (HNF.out rfl);clear HNX HNF;go_wp2_with fail;go_ret;exact⟨ret_bool HF.out.symm,T0.out.trans (TT.out.trans t)⟩
       | true=>
        have HX:=η (HNX.out rfl);clear HNX HNF;go_wp2_with fail;go_roundw
        case rel=>exact⟨_+1,_,rfl,by omega,by go_num,HX.out,TT.out.trans t⟩
        case measure=>simp[intOf];omega
   · have hkk:nm=k:=by omega
     have HM1:Hid (chkAll MsgV.seq (msF s) s.ms=true):=η (chkAll_true (n:=k) (by rw[←hkk];exact NM.out) HL.out);clear HL HAM hkn hk;subst hkk;go_upto_region 10 with fail
     clear b0 b1 b2 b3 b4 b5 b6 b7 b8;go_loopw [5] (fun vi wx=>∃(k:Nat),k≤ne∧vi=.int .i64 (k:Int)∧(∀j,j<k→chk EndV.tid enF s.ends j=true)∧Turn [] xb wx) (fun vi _=>ne-(intOf vi).toNat)
     case atStart=>exact⟨0,by omega,rfl,fun j hj=>by omega,HT.out⟩
     case round=>
      obtain⟨k,hk,rfl,hall,ht⟩:=hrel;have HT:=η ht;have HL:=η hall;clear ht hall;obtain⟨b0,b1,b2,b3,b4,b5,b6,b7,b8⟩:=BX.out _ HT.out;by_cases hkn:k<ne
      · obtain⟨x,hx⟩:∃x,s.ends[k]?=some x:=⟨_,List.getElem?_eq_getElem (by rw[←NE.out];exact hkn)⟩
        obtain⟨g1,o1,rfl,hat⟩:=(HES.out _ (T0.out.trans HT.out)).at hx;have r0:=hat 0 (.int .i64 x.tid) rfl;rw[Nat.add_zero]at r0;have hb:0≤(k:Int)∧(k:Int)<(ne:Int):=by omega
        have HNX:Hid (chk EndV.tid enF s.ends k=true→∀j,j<k+1→chk EndV.tid enF s.ends j=true):=η (fun e=>chk_next e HL.out);have HNF:Hid (chk EndV.tid enF s.ends k=false→ans=false):=η (fun e=>HAS.out (chkAll_false (by rw[←NE.out];exact hkn) e))
        have HPV:Hid (∀i,k=i+1→∃q:Int,wr.cell? ⟨g1,o1+i*2,none⟩=some (.int .i64 q)∧chk EndV.tid enF s.ends k=(enF k x&&decide (q<x.tid))):=η (fun i e=>by
         subst e;obtain⟨z,hz⟩:∃z,s.ends[i]?=some z:=⟨_,List.getElem?_eq_getElem (by have:=NE.out;omega)⟩
         obtain⟨g2,o2,e2,hat2⟩:=(HES.out _ (T0.out.trans HT.out)).at hz;injection e2 with e2
         injection e2 with e3 e4 _
         subst e3 e4;have q0:=hat2 0 (.int .i64 z.tid) rfl;rw[Nat.add_zero]at q0
         exact⟨z.tid,q0,chk_succ hx hz⟩)
        have HZ0:Hid (k=0→chk EndV.tid enF s.ends k=enF k x):=η (fun e=>by subst e;exact chk_zero hx);obtain⟨tt,htt⟩:=ε x.tid;obtain⟨tb,htb⟩:=ε (decide (0<homeZ tt));have HEF:Hid (∀j,enF j x=tb):=η (fun j=>by unfold enF;rw[htb,htt]);have C1:=η (fun wx=>refTid_calls tt wx);rw[←htb]at C1;rw[←htt]at r0 HPV;clear hx hat htt htb HL;go_upto_region 12 with fail
        rcases k with _ | k
        · have HZ:=η (HZ0.out rfl);clear HZ0 HPV;simp only[Nat.zero_mul,Nat.add_zero]at r0;cases tb with
          | false=>
           have HF:=η (HNF.out (by rw[HZ.out,HEF.out]));clear HNX HNF;go_quiet ((go_at_call 56;exact(C1.out _).mono fun _ _ h=>⟨h.1,_,h.2.symm⟩));clear b0 b1 b2 b3 b4 b5 b6 b7 b8 r0 C1;go_wp2_with fail;go_ret;exact⟨ret_bool HF.out.symm,T0.out.trans (HT.out.trans (Turn.drewN [] _ _))⟩
          | true=>
           have HX:=η (HNX.out (by rw[HZ.out,HEF.out]));clear HNX HNF;go_quiet ((go_at_call 56;exact(C1.out _).mono fun _ _ h=>⟨h.1,_,h.2.symm⟩));clear b0 b1 b2 b3 b4 b5 b6 b7 b8 r0 C1;go_wp2_with fail;go_roundw
           case rel=>exact⟨_+1,by omega,by go_num,HX.out,HT.out.trans (Turn.drewN [] _ _)⟩
           case measure=>simp[intOf];omega
        · obtain⟨zq,q0,hcq⟩:=HPV.out k rfl;have HZ:=η hcq;have hkb:((k:Int)+1).toNat=k+1:=by omega
          have hkw:IntKind.i64.wrap (k:Int)=(k:Int):=by rw[IntKind.wrap_i64];omega
          have hk2:0≤(k:Int)+1∧(k:Int)+1<(ne:Int):=by omega
          have hk3:0≤(k:Int)∧(k:Int)<(ne:Int):=by omega
          have hk4:(0:Int)<(k:Int)+1:=by omega
          clear HZ0 HPV hcq;cases tb with
          | false=>
           have HF:=η (HNF.out (by rw[HZ.out,HEF.out];rfl));clear HNX HNF;go_quiet ((go_at_call 56;exact(C1.out _).mono fun _ _ h=>⟨h.1,_,h.2.symm⟩));clear b0 b1 b2 b3 b4 b5 b6 b7 b8 r0 C1;go_wp2_with fail;go_ret;exact⟨ret_bool HF.out.symm,T0.out.trans (HT.out.trans (Turn.drewN [] _ _))⟩
          | true=>
           by_cases h2:zq<tt
           · have n2:¬tt≤zq:=by omega
             have HX:=η (HNX.out (by rw[HZ.out,HEF.out];simp[h2]));clear HNX HNF;go_quiet ((go_at_call 56;exact(C1.out _).mono fun _ _ h=>⟨h.1,_,h.2.symm⟩));clear b0 b1 b2 b3 b4 b5 b6 b7 b8 r0 C1;go_wp2_with fail;go_roundw
             case rel=>exact⟨_+1,by omega,by go_num,HX.out,HT.out.trans (Turn.drewN [] _ _)⟩
             case measure=>simp[intOf];omega
           · have n2:tt≤zq:=by omega
             have HF:=η (HNF.out (by rw[HZ.out];simp[h2]));clear HNX HNF;go_quiet ((go_at_call 56;exact(C1.out _).mono fun _ _ h=>⟨h.1,_,h.2.symm⟩));clear b0 b1 b2 b3 b4 b5 b6 b7 b8 r0 C1;go_wp2_with fail;go_ret;exact⟨ret_bool HF.out.symm,T0.out.trans (HT.out.trans (Turn.drewN [] _ _))⟩
      · have hkk:ne=k:=by omega
        have HM2:Hid (chkAll EndV.tid enF s.ends=true):=η (chkAll_true (n:=k) (by rw[←hkk];exact NE.out) HL.out);clear HL HAS hkn hk;subst hkk;go_upto_region 15 with fail
        clear b0 b1 b2 b3 b4 b5 b6 b7 b8;go_loopw [6,7] (fun vi v7 wx=>∃(k:Nat) (u7:Value),u7=v7∧k≤nw∧vi=.int .i64 (k:Int)∧(∀j,j<k→chk BrV.tid (waF s) s.waits j=true)∧Turn [] xb wx) (fun vi _ _=>nw-(intOf vi).toNat)
        case atStart=>exact⟨0,_,rfl,by omega,rfl,fun j hj=>by omega,HT.out⟩
        case round=>
         obtain⟨k,u7,rfl,hk,rfl,hall,ht⟩:=hrel;have HT:=η ht;have HL:=η hall;clear ht hall;obtain⟨b0,b1,b2,b3,b4,b5,b6,b7,b8⟩:=BX.out _ HT.out;by_cases hkn:k<nw
         · obtain⟨LA,hLA,hTA,hIA⟩:=HWS.out _ (T0.out.trans HT.out);obtain⟨x,hx⟩:∃x,LA[k]?=some x:=⟨_,List.getElem?_eq_getElem (by have:=congrArg List.length hLA;rw[List.length_map]at this;rw[this,←NW.out];exact hkn)⟩
           have hlx:s.waits[k]?=some x.v:=by rw[←hLA,List.getElem?_map,hx];rfl
           obtain⟨g1,o1,rfl,hat⟩:=hTA.at hx;have r0:=hat 0 (.int .i64 x.v.tid) rfl;have r1:=hat 1 (.slice x.ao x.v.puts.length x.c) rfl;rw[Nat.add_zero]at r0;have II:=η (hIA x (List.mem_of_getElem? hx));have hb:0≤(k:Int)∧(k:Int)<(nw:Int):=by omega
           have HNX:Hid (chk BrV.tid (waF s) s.waits k=true→∀j,j<k+1→chk BrV.tid (waF s) s.waits j=true):=η (fun e=>chk_next e HL.out);have HNF:Hid (chk BrV.tid (waF s) s.waits k=false→ans=false):=η (fun e=>HAW.out (chkAll_false (by rw[←NW.out];exact hkn) e))
           have HPV:Hid (∀i,k=i+1→∃q:Int,wr.cell? ⟨g1,o1+i*2,none⟩=some (.int .i64 q)∧chk BrV.tid (waF s) s.waits k=(waF s k x.v&&decide (q<x.v.tid))):=η (fun i e=>by
            subst e;obtain⟨z,hz⟩:∃z,LA[i]?=some z:=⟨_,List.getElem?_eq_getElem (by have:=(List.getElem?_eq_some_iff.1 hx).1;omega)⟩
            have hlz:s.waits[i]?=some z.v:=by rw[←hLA,List.getElem?_map,hz];rfl
            obtain⟨g2,o2,e2,hat2⟩:=hTA.at hz;injection e2 with e2
            injection e2 with e3 e4 _
            subst e3 e4;have q0:=hat2 0 (.int .i64 z.v.tid) rfl;rw[Nat.add_zero]at q0
            exact⟨z.v.tid,q0,chk_succ hlx hlz⟩)
           have HZ0:Hid (k=0→chk BrV.tid (waF s) s.waits k=waF s k x.v):=η (fun e=>by subst e;exact chk_zero hlx);obtain⟨tt,htt⟩:=ε x.v.tid;obtain⟨np,hnp⟩:=ε x.v.puts.length;obtain⟨tb,htb⟩:=ε (decide (0<homeZ tt));obtain⟨eb,heb⟩:=ε (keyB EndV.tid s.ends tt);obtain⟨z2,hz2⟩:=ε (placeI (fun m:EndV=>decide (m.tid=tt)) s.ends);obtain⟨pb,hpb⟩:=ε (putsB x.v.puts);have hd2:decide (0≤z2)=eb:=by rw[hz2,heb];exact place_key3 EndV.tid _ _
           have HEF:Hid (∀j,waF s j x.v=(tb&&(!eb&&pb))):=η (fun j=>by unfold waF;rw[htb,heb,hpb,htt]);have D7:=η (fun wx=>refTid_calls tt wx);have D3:=η (K3.out tt);have D8:=η (fun wx (q:Turn [] wr wx)=>refPuts_calls (II.out.turn q));rw[←htb]at D7;rw[←hz2]at D3;rw[←hnp,←hpb]at D8;rw[←htt]at r0 HPV;rw[←hnp]at r1;have TY:=η (Turn.alloc [] wr (.cells #[.int .i64 tt,.slice x.ao np x.c] 81));obtain⟨p0,p1⟩:=two_new wr (.int .i64 tt) (.slice x.ao np x.c) 81;clear hx hlx hat htt htb heb hz2 hpb hnp hLA hTA hIA II HL;go_upto_region 18 with fail
           clear b0 b1 b2 b3 b4 b5 b6 b7 b8 r0 r1;obtain⟨b0,b1,b2,b3,b4,b5,b6,b7,b8⟩:=BX.out _ (HT.out.trans TY.out);have HQ:=η (fun(i:Nat) (q:Int) (hq:wr.cell? ⟨g1,o1+i*2,none⟩=some (.int .i64 q))=>TY.out.cell hq);have TT:=η (HT.out.trans TY.out);have D8:=η (fun wx (q:Turn [] (wr.alloc (.cells #[.int .i64 tt,.slice x.ao np x.c] 81)) wx)=>D8.out wx (TY.out.trans q));generalize wr.alloc (.cells #[.int .i64 tt,.slice x.ao np x.c] 81)=y at*;replace b0:=fun p:Tw y=>p.cell b0
           replace b1:=fun p:Tw y=>p.cell b1
           replace b2:=fun p:Tw y=>p.cell b2
           replace b3:=fun p:Tw y=>p.cell b3
           replace b4:=fun p:Tw y=>p.cell b4
           replace b5:=fun p:Tw y=>p.cell b5
           replace b6:=fun p:Tw y=>p.cell b6
           replace b7:=fun p:Tw y=>p.cell b7
           replace b8:=fun p:Tw y=>p.cell b8
           replace p0:=fun p:Tw y=>p.cell p0
           replace p1:=fun p:Tw y=>p.cell p1
           have F7:=η (fun p:Tw y=>Tw.same D7.out p);have F3:=η (fun p:Tw y=>Tw.call (fun x q=>D3.out x (T0.out.trans (TT.out.trans q))) p);have F8:=η (fun p:Tw y=>Tw.call D8.out p);refine quiet_lex (by kernel_rfl) ?_;intro LX;clear D3 D7 D8 TY;rcases k with _ | k
           · have HZ:=η (HZ0.out rfl);clear HZ0 HPV HQ;cases tb with
             | false=>
              have HF:=η (HNF.out (by rw[HZ.out,HEF.out];simp));clear HNX HNF;refine quiet_turn (by kernel_rfl) LX.out ?_
              repeat (go_big_quiet_step (first | (go_at_call 57;exact F3.out _) | (go_at_call 58;exact F8.out _) | (go_at_call 56;exact F7.out _)))
              refine wpQuiet_nil ?_;rintro _ ⟨p,rfl⟩;clear b0 b1 b2 b3 b4 b5 b6 b7 b8 p0 p1 F3 F7 F8;go_wp2_with fail;go_ret;exact⟨ret_bool HF.out.symm,T0.out.trans (TT.out.trans p.t)⟩
             | true=>
              cases eb with
              | true=>
               have HF:=η (HNF.out (by rw[HZ.out,HEF.out];simp));clear HNX HNF;refine quiet_turn (by kernel_rfl) LX.out ?_
               repeat (go_big_quiet_step (first | (go_at_call 57;exact F3.out _) | (go_at_call 58;exact F8.out _) | (go_at_call 56;exact F7.out _)))
               refine wpQuiet_nil ?_;rintro _ ⟨p,rfl⟩;clear b0 b1 b2 b3 b4 b5 b6 b7 b8 p0 p1 F3 F7 F8;go_wp2_with fail;go_ret;exact⟨ret_bool HF.out.symm,T0.out.trans (TT.out.trans p.t)⟩
              | false=>
               cases pb with
               | false=>
                have HF:=η (HNF.out (by rw[HZ.out,HEF.out];simp));clear HNX HNF;refine quiet_turn (by kernel_rfl) LX.out ?_
                repeat (go_big_quiet_step (first | (go_at_call 57;exact F3.out _) | (go_at_call 58;exact F8.out _) | (go_at_call 56;exact F7.out _)))
                refine wpQuiet_nil ?_;rintro _ ⟨p,rfl⟩;clear b0 b1 b2 b3 b4 b5 b6 b7 b8 p0 p1 F3 F7 F8;go_wp2_with fail;go_ret;exact⟨ret_bool HF.out.symm,T0.out.trans (TT.out.trans p.t)⟩
               | true=>
                have HX:=η (HNX.out (by rw[HZ.out,HEF.out];simp));clear HNX HNF;refine quiet_turn (by kernel_rfl) LX.out ?_
                repeat (go_big_quiet_step (first | (go_at_call 57;exact F3.out _) | (go_at_call 58;exact F8.out _) | (go_at_call 56;exact F7.out _)))
                refine wpQuiet_nil ?_;rintro _ ⟨p,rfl⟩;clear b0 b1 b2 b3 b4 b5 b6 b7 b8 p0 p1 F3 F7 F8;go_wp2_with fail;go_roundw
                case rel=>exact⟨_+1,_,rfl,by omega,by go_num,HX.out,TT.out.trans p.t⟩
                case measure=>simp[intOf];omega
           · obtain⟨zq,q0,hcq⟩:=HPV.out k rfl;have q0:=HQ.out _ _ q0;replace q0:=fun p:Tw y=>p.cell q0
             have HZ:=η hcq;have hkb:((k:Int)+1).toNat=k+1:=by omega
             have hkw:IntKind.i64.wrap (k:Int)=(k:Int):=by rw[IntKind.wrap_i64];omega
             have hk2:0≤(k:Int)+1∧(k:Int)+1<(nw:Int):=by omega
             have hk3:0≤(k:Int)∧(k:Int)<(nw:Int):=by omega
             have hk4:(0:Int)<(k:Int)+1:=by omega
             clear HZ0 HPV HQ hcq;cases tb with
             | false=>
              have HF:=η (HNF.out (by rw[HZ.out,HEF.out];simp));clear HNX HNF;refine quiet_turn (by kernel_rfl) LX.out ?_
              repeat (go_big_quiet_step (first | (go_at_call 57;exact F3.out _) | (go_at_call 58;exact F8.out _) | (go_at_call 56;exact F7.out _)))
              refine wpQuiet_nil ?_;rintro _ ⟨p,rfl⟩;clear b0 b1 b2 b3 b4 b5 b6 b7 b8 p0 p1 F3 F7 F8;go_wp2_with fail;go_ret;exact⟨ret_bool HF.out.symm,T0.out.trans (TT.out.trans p.t)⟩
             | true=>
              by_cases h2:zq<tt
              · have n2:¬tt≤zq:=by omega
                cases eb with
                | true=>
                 have HF:=η (HNF.out (by rw[HZ.out,HEF.out];simp));clear HNX HNF;refine quiet_turn (by kernel_rfl) LX.out ?_
                 repeat (go_big_quiet_step (first | (go_at_call 57;exact F3.out _) | (go_at_call 58;exact F8.out _) | (go_at_call 56;exact F7.out _)))
                 refine wpQuiet_nil ?_;rintro _ ⟨p,rfl⟩;clear b0 b1 b2 b3 b4 b5 b6 b7 b8 p0 p1 F3 F7 F8;go_wp2_with fail;go_ret;exact⟨ret_bool HF.out.symm,T0.out.trans (TT.out.trans p.t)⟩
                | false=>
                 cases pb with
                 | false=>
                  have HF:=η (HNF.out (by rw[HZ.out,HEF.out];simp));clear HNX HNF;refine quiet_turn (by kernel_rfl) LX.out ?_
                  repeat (go_big_quiet_step (first | (go_at_call 57;exact F3.out _) | (go_at_call 58;exact F8.out _) | (go_at_call 56;exact F7.out _)))
                  refine wpQuiet_nil ?_;rintro _ ⟨p,rfl⟩;clear b0 b1 b2 b3 b4 b5 b6 b7 b8 p0 p1 F3 F7 F8;go_wp2_with fail;go_ret;exact⟨ret_bool HF.out.symm,T0.out.trans (TT.out.trans p.t)⟩
                 | true=>
                  have HX:=η (HNX.out (by rw[HZ.out,HEF.out];simp[h2]));clear HNX HNF;refine quiet_turn (by kernel_rfl) LX.out ?_
                  repeat (go_big_quiet_step (first | (go_at_call 57;exact F3.out _) | (go_at_call 58;exact F8.out _) | (go_at_call 56;exact F7.out _)))
                  refine wpQuiet_nil ?_;rintro _ ⟨p,rfl⟩;clear b0 b1 b2 b3 b4 b5 b6 b7 b8 p0 p1 F3 F7 F8;go_wp2_with fail;go_roundw
                  case rel=>exact⟨_+1,_,rfl,by omega,by go_num,HX.out,TT.out.trans p.t⟩
                  case measure=>simp[intOf];omega
              · have n2:tt≤zq:=by omega
                have HF:=η (HNF.out (by rw[HZ.out];simp[h2]));clear HNX HNF;refine quiet_turn (by kernel_rfl) LX.out ?_
                repeat (go_big_quiet_step (first | (go_at_call 57;exact F3.out _) | (go_at_call 58;exact F8.out _) | (go_at_call 56;exact F7.out _)))
                refine wpQuiet_nil ?_;rintro _ ⟨p,rfl⟩;clear b0 b1 b2 b3 b4 b5 b6 b7 b8 p0 p1 F3 F7 F8;go_wp2_with fail;go_ret;exact⟨ret_bool HF.out.symm,T0.out.trans (TT.out.trans p.t)⟩
         · have hkk:nw=k:=by omega
           have HM3:Hid (chkAll BrV.tid (waF s) s.waits=true):=η (chkAll_true (n:=k) (by rw[←hkk];exact NW.out) HL.out);obtain⟨q1,hq1⟩:=ε (pendsB s s.open_);obtain⟨q2,hq2⟩:=ε (pendsB s s.noes);obtain⟨q3,hq3⟩:=ε (sidesB s);have HF:Hid (ans=(q1&&(q2&&q3))):=η (by rw[HA.out,HR.out,HM1.out,HM2.out,HM3.out,hq1,hq2,hq3];rfl);rw[←hq1]at K4;rw[←hq2]at K5;rw[←hq3]at K6;clear HL HAW hkn hk hq1 hq2 hq3;subst hkk;go_wp2_with fail;refine(K4.out _ (T0.out.trans HT.out)).mono ?_;rintro e x1 ⟨rfl,t1⟩;have U1:=η (HT.out.trans t1);clear t1 b0 b1 b2 b3 b4 b5 b6 b7 b8;cases q1 with
           | false=>
            go_wp2_with fail;go_ret;exact⟨ret_bool HF.out.symm,T0.out.trans U1.out⟩
           | true=>
            obtain⟨b0,b1,b2,b3,b4,b5,b6,b7,b8⟩:=BX.out _ U1.out;go_wp2_with fail;refine(K5.out _ (T0.out.trans U1.out)).mono ?_;rintro e x2 ⟨rfl,t2⟩;have U2:=η (U1.out.trans t2);clear t2 b0 b1 b2 b3 b4 b5 b6 b7 b8;cases q2 with
            | false=>
             go_wp2_with fail;go_ret;exact⟨ret_bool HF.out.symm,T0.out.trans U2.out⟩
            | true=>
             obtain⟨b0,b1,b2,b3,b4,b5,b6,b7,b8⟩:=BX.out _ U2.out;go_wp2_with fail;refine(K6.out _ (T0.out.trans U2.out)).mono ?_;rintro e x3 ⟨rfl,t3⟩;have U3:=η (U2.out.trans t3);clear t3 b0 b1 b2 b3 b4 b5 b6 b7 b8;go_wp2_with fail;go_ret;exact⟨ret_bool HF.out.symm,T0.out.trans U3.out⟩
end Go.Proofs.YtkjpjfghklgdhaaGreat
