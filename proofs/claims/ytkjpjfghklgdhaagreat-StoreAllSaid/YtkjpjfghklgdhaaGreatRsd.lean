/-
  Rsd
-/
import Derived.Test.YtkjpjfghklgdhaaGreatPkAS
import Derived.Test.YtkjpjfghklgdhaaGreatPh2
set_option maxHeartbeats 4000000
set_option maxRecDepth 100000
namespace Go.Proofs.YtkjpjfghklgdhaaGreat
open Go.RowKit Go.Proofs.YtkjpjfghklgdhaaGreat.V
def sideO (s:StV) (p:PendV):Bool:=!keyB EndV.tid s.ends p.tid&&!keyB BrV.tid s.waits p.tid
def sideN (s:StV) (p:PendV):Bool:=match s.ends.find? (fun e=>decide (e.tid=p.tid))with | some e=>!e.yes | none=>false
def sidesB (s:StV):Bool:=s.open_.all (sideO s)&&s.noes.all (sideN s)
theorem all_true {α:Type} {f:α→Bool} {l:List α} {n:Nat} (hn:n=l.length) (h:∀(j:Nat) (p:α),j<n→l[j]?=some p→f p=true):l.all f=true:=by
 rw[List.all_eq_true];intro x hx;obtain⟨i,hi,rfl⟩:=List.getElem_of_mem hx;exact h i _ (by omega) (List.getElem?_eq_getElem hi)
theorem all_false {α:Type} {f:α→Bool} {l:List α} {k:Nat} {p:α} (hp:l[k]?=some p) (h:f p=false):l.all f=false:=by
 rw[Bool.eq_false_iff];intro e;rw[List.all_eq_true]at e;rw[e p (List.mem_of_getElem? hp)]at h;cases h
theorem all_next {α:Type} {f:α→Bool} {l:List α} {k:Nat} {p:α} (hp:l[k]?=some p) (h:f p=true) (hl:∀(j:Nat) (p:α),j<k→l[j]?=some p→f p=true):∀(j:Nat) (p:α),j<k+1→l[j]?=some p→f p=true:=fun j q hj hq=>by
 by_cases e:j=k
 · rw[e,hp]at hq;injection hq with hq
   rw[←hq];exact h
 · exact hl j q (by omega) hq
theorem place_key3 {α:Type} (key:α→Int) (l:List α) (t:Int):decide (0≤placeI (fun x=>decide (key x=t)) l)=keyB key l t:=by
 rcases place_find (fun x=>decide (key x=t)) l with⟨h1,h2⟩ | ⟨k,x,h1,h2,h3⟩
 · rw[decide_eq_false (by omega)];symm;rw[keyB_not];intro x hx;have:=List.find?_eq_none.1 h2 x hx;simpa using this
 · rw[decide_eq_true (by omega)];symm;rw[keyB_iff];exact⟨x,List.mem_of_find?_eq_some h3,by have:=List.find?_some h3;simpa using this⟩
theorem refSides_calls {w:World} {a:Ads} {s:StV} (h:StIs w a s):Calls Tryz.prog 60 #[.agg (s.cells a)] w fun e w'=>e=.returned (.bool (sidesB s))∧Turn [] w w':=by
 obtain⟨ans,ha⟩:=ε (sidesB s);have HA:Hid (ans=(s.open_.all (sideO s)&&s.noes.all (sideN s))):=η ha;rw[←ha];clear ha;have H:=η h;have lo:=h.open_.len;have ln:=h.noes.len;have le:=h.ends.len;have T0:=η (Turn.alloc [] w (.cells (s.cells a) 27));have U0:=η (Turn.refl [] (w.alloc (.cells (s.cells a) 27)));have BX:=η (fun wx (t:Turn [] (w.alloc (.cells (s.cells a) 27)) wx)=>s.boxed a t);have C1:=η (fun id wx (t:Turn [] w wx)=>refAtEnds_calls id (h.still t));have C2:=η (fun id wx (t:Turn [] w wx)=>refAtWaits_calls id (h.still t));unfold StV.cells at*;obtain⟨xb,hxb⟩:=ε (w.alloc (.cells #[.int .i64 s.broker,.int .i64 s.nextId,.int .i64 s.nextSeq,.int .i64 s.tx,.slice a.m s.ms.length a.cm,.slice a.w s.waits.length a.cw,.slice a.e s.ends.length a.ce,.slice a.o s.open_.length a.co,.slice a.n s.noes.length a.cn] 27));rw[←hxb]at T0 U0 BX;have HXB:=η hxb;clear h hxb;obtain⟨no,hno⟩:=ε s.open_.length;obtain⟨nn,hnn⟩:=ε s.noes.length;obtain⟨ne,hne⟩:=ε s.ends.length;have NO:=η hno;have NN:=η hnn;have NE:=η hne;rw[←hno]at lo;rw[←hnn]at ln;rw[←hne]at le;rw[←hno,←hnn,←hne]at BX C1 C2 HXB ⊢;clear hno hnn hne;go_in;go_upto_region 2 with fail
 rw[←HXB.out];clear HXB;go_loopw [3,4] (fun vi v4 wx=>∃(k:Nat) (u4:Value),u4=v4∧k≤no∧vi=.int .i64 (k:Int)∧(∀(j:Nat) (p:PendV),j<k→s.open_[j]?=some p→sideO s p=true)∧Turn [] xb wx) (fun vi _ _=>no-(intOf vi).toNat)
 case atStart=>exact⟨0,_,rfl,by omega,rfl,fun j p hj=>by omega,U0.out⟩
 case round=>
  obtain⟨k,u4,rfl,hk,rfl,hall,ht⟩:=hrel;have HT:=η ht;have HL:=η hall;clear ht hall;obtain⟨b0,b1,b2,b3,b4,b5,b6,b7,b8⟩:=BX.out _ HT.out;by_cases hkn:k<no
  · obtain⟨LA,hLA,hTA,-⟩:=(H.out.still (T0.out.trans HT.out)).open_;obtain⟨x,hx⟩:∃x,LA[k]?=some x:=⟨_,List.getElem?_eq_getElem (by have:=congrArg List.length hLA;rw[List.length_map]at this;rw[this,←NO.out];exact hkn)⟩
    have hlx:s.open_[k]?=some x.v:=by rw[←hLA,List.getElem?_map,hx];rfl
    obtain⟨g1,o1,eg1,hat⟩:=hTA.at hx;have r0:=hat 0 (.int .i64 x.v.tid) rfl;rw[Nat.add_zero]at r0;have hb:0≤(k:Int)∧(k:Int)<(no:Int):=by omega
    have HNX:Hid (sideO s x.v=true→∀(j:Nat) (p:PendV),j<k+1→s.open_[j]?=some p→sideO s p=true):=η (fun e=>all_next hlx e HL.out);have HNF:Hid (sideO s x.v=false→ans=false):=η (fun e=>by rw[HA.out,all_false hlx e];rfl);obtain⟨tt,htt⟩:=ε x.v.tid;have HSO:Hid (sideO s x.v=(!keyB EndV.tid s.ends tt&&!keyB BrV.tid s.waits tt)):=η (by rw[htt];rfl);rw[←htt]at r0;obtain⟨z1,hz1⟩:=ε (placeI (fun m:EndV=>decide (m.tid=tt)) s.ends);obtain⟨z2,hz2⟩:=ε (placeI (fun m:BrV=>decide (m.tid=tt)) s.waits);obtain⟨k1,hk1⟩:=ε (keyB EndV.tid s.ends tt);obtain⟨k2,hk2⟩:=ε (keyB BrV.tid s.waits tt);have d1:decide (0≤z1)=k1:=by rw[hz1,hk1];exact place_key3 EndV.tid _ _
    have d2:decide (0≤z2)=k2:=by rw[hz2,hk2];exact place_key3 BrV.tid _ _
    have D1:=η (C1.out tt);have D2:=η (C2.out tt);rw[←hz1]at D1;rw[←hz2]at D2;rw[←hk1,←hk2]at HSO;rw[eg1]at b7;have EG:=η eg1;clear eg1 hLA hTA hx hlx hat htt hz1 hz2 hk1 hk2 HL;go_upto_region 5 with fail
    rw[←EG.out]at b7;go_wp2_with fail;refine(D1.out _ (T0.out.trans HT.out)).mono ?_;rintro e x1 ⟨rfl,t1⟩;have U1:=η (HT.out.trans t1);clear t1 D1 b0 b1 b2 b3 b4 b5 b6 b7 b8 r0;cases k1 with
    | true=>
     have HF:=η (HNF.out (by rw[HSO.out];rfl));clear HNX HNF;go_wp2_with fail;go_ret;exact⟨ret_bool HF.out.symm,T0.out.trans U1.out⟩
    | false=>
     obtain⟨b0,b1,b2,b3,b4,b5,b6,b7,b8⟩:=BX.out _ U1.out;go_wp2_with fail;refine(D2.out _ (T0.out.trans U1.out)).mono ?_;rintro e x2 ⟨rfl,t2⟩;have U2:=η (U1.out.trans t2);clear t2 D2 b0 b1 b2 b3 b4 b5 b6 b7 b8;cases k2 with
     | true=>
      have HF:=η (HNF.out (by rw[HSO.out];rfl));clear HNX HNF;go_wp2_with fail;go_ret;exact⟨ret_bool HF.out.symm,T0.out.trans U2.out⟩
     | false=>
      have HX:=η (HNX.out (by rw[HSO.out];rfl));clear HNX HNF;go_wp2_with fail;go_roundw
      case rel=>exact⟨k+1,_,rfl,by omega,by go_num,HX.out,U2.out⟩
      case measure=>simp[intOf];omega
  · have hkk:no=k:=by omega
    have HO:Hid (s.open_.all (sideO s)=true):=η (all_true (n:=k) (by rw[←hkk];exact NO.out) HL.out);clear HL hkn hk;subst hkk;go_upto_region 8 with fail
    clear b0 b1 b2 b3 b4 b5 b6 b7 b8;go_loopw [5,6] (fun vi v6 wx=>∃(k:Nat) (u6:Value),u6=v6∧k≤nn∧vi=.int .i64 (k:Int)∧(∀(j:Nat) (p:PendV),j<k→s.noes[j]?=some p→sideN s p=true)∧Turn [] xb wx) (fun vi _ _=>nn-(intOf vi).toNat)
    case atStart=>exact⟨0,_,rfl,by omega,rfl,fun j p hj=>by omega,HT.out⟩
    case round=>
     obtain⟨k,u6,rfl,hk,rfl,hall,ht⟩:=hrel;have HT:=η ht;have HL:=η hall;clear ht hall;obtain⟨b0,b1,b2,b3,b4,b5,b6,b7,b8⟩:=BX.out _ HT.out;by_cases hkn:k<nn
     · obtain⟨LA,hLA,hTA,-⟩:=(H.out.still (T0.out.trans HT.out)).noes;obtain⟨x,hx⟩:∃x,LA[k]?=some x:=⟨_,List.getElem?_eq_getElem (by have:=congrArg List.length hLA;rw[List.length_map]at this;rw[this,←NN.out];exact hkn)⟩
       have hlx:s.noes[k]?=some x.v:=by rw[←hLA,List.getElem?_map,hx];rfl
       obtain⟨g1,o1,eg1,hat⟩:=hTA.at hx;have r0:=hat 0 (.int .i64 x.v.tid) rfl;rw[Nat.add_zero]at r0;have hb:0≤(k:Int)∧(k:Int)<(nn:Int):=by omega
       have HNX:Hid (sideN s x.v=true→∀(j:Nat) (p:PendV),j<k+1→s.noes[j]?=some p→sideN s p=true):=η (fun e=>all_next hlx e HL.out);have HNF:Hid (sideN s x.v=false→ans=false):=η (fun e=>by rw[HA.out,all_false hlx e,Bool.and_false]);obtain⟨tt,htt⟩:=ε x.v.tid;have HSN:Hid (sideN s x.v=match s.ends.find? (fun e=>decide (e.tid=tt))with | some e=>!e.yes | none=>false):=η (by rw[htt];rfl);rw[←htt]at r0;obtain⟨z1,hz1⟩:=ε (placeI (fun m:EndV=>decide (m.tid=tt)) s.ends);have PF:=η (place_find (fun m:EndV=>decide (m.tid=tt)) s.ends);have D1:=C1.out tt;rw[←hz1]at D1 PF;rw[eg1]at D1;have D1:=η D1;rw[eg1]at b8;have HSX:Hid (∀x,Turn [] wr x→x.cell? ⟨w.heap.size,0,none⟩=some (.int .i64 s.broker)∧x.cell? ⟨w.heap.size,1,none⟩=some (.int .i64 s.nextId)∧x.cell? ⟨w.heap.size,2,none⟩=some (.int .i64 s.nextSeq)∧x.cell? ⟨w.heap.size,3,none⟩=some (.int .i64 s.tx)∧x.cell? ⟨w.heap.size,4,none⟩=some (.slice a.m s.ms.length a.cm)∧x.cell? ⟨w.heap.size,5,none⟩=some (.slice a.w s.waits.length a.cw)∧x.cell? ⟨w.heap.size,6,none⟩=some (.slice a.e ne a.ce)∧x.cell? ⟨w.heap.size,7,none⟩=some (.slice a.o no a.co)∧x.cell? ⟨w.heap.size,8,none⟩=some (.slice (some ⟨g1,o1,none⟩) nn a.cn)∧x.cell? ⟨g1,o1+k*2,none⟩=some (.int .i64 tt)):=η (fun x t=>⟨t.cell b0,t.cell b1,t.cell b2,t.cell b3,t.cell b4,t.cell b5,t.cell b6,t.cell b7,t.cell b8,t.cell r0⟩);have EG:=η eg1;clear eg1 hLA hTA hx hlx hat htt hz1 HL;go_upto_region 10 with fail
       clear b0 b1 b2 b3 b4 b5 b6 b7 b8 r0;have TD:=η (Turn.drew [] wr);refine Ph.start [] (fun x=>x.cell? ⟨w.heap.size,0,none⟩=some (.int .i64 s.broker)∧x.cell? ⟨w.heap.size,1,none⟩=some (.int .i64 s.nextId)∧x.cell? ⟨w.heap.size,2,none⟩=some (.int .i64 s.nextSeq)∧x.cell? ⟨w.heap.size,3,none⟩=some (.int .i64 s.tx)∧x.cell? ⟨w.heap.size,4,none⟩=some (.slice a.m s.ms.length a.cm)∧x.cell? ⟨w.heap.size,5,none⟩=some (.slice a.w s.waits.length a.cw)∧x.cell? ⟨w.heap.size,6,none⟩=some (.slice a.e ne a.ce)∧x.cell? ⟨w.heap.size,7,none⟩=some (.slice a.o no a.co)∧x.cell? ⟨w.heap.size,8,none⟩=some (.slice (some ⟨g1,o1,none⟩) nn a.cn)∧x.cell? ⟨g1,o1+k*2,none⟩=some (.int .i64 tt)) (by kernel_rfl) (HSX.out _ TD.out) ?_;intro hS;refine Ph.tq 0 (some 37) hS ?_;simp only[Act.put,σa,σz,σs];refine Ph.tq 1 (some 38) hS ?_;simp only[Act.put,σa,σz,σs];refine Ph.tq 2 (some 39) hS ?_;simp only[Act.put,σa,σz,σs];refine Ph.tq 3 (some 40) hS ?_;simp only[Act.put,σa,σz,σs];refine Ph.tq 4 (some 41) hS ?_;simp only[Act.put,σa,σz,σs];refine Ph.tq 5 (some 42) hS ?_;simp only[Act.put,σa,σz,σs];refine Ph.tq 6 (some 43) hS ?_;simp only[Act.put,σa,σz,σs];refine Ph.one (i:=7) (by kernel_rfl) rfl ?_;intro K hK;rw[if_pos (by rfl)];go_simp;refine(D1.out _ (T0.out.trans (HT.out.trans TD.out))).mono ?_;rintro e x6 ⟨rfl,t6⟩;have T6:=η (TD.out.trans t6);refine hK _ _ (HSX.out _ T6.out) (fun hS6=>?_);clear hK K D1 hS t6;refine Ph.one (i:=8) (by kernel_rfl) rfl ?_;intro K hK;rw[if_pos (by rfl)];go_simp;refine hK _ _ (HSX.out _ T6.out) (fun hS9=>Ph.done (by kernel_rfl) ?_ _);clear hK K hS6 hS9 HSX;have U6:=η (HT.out.trans T6.out);obtain⟨b0,b1,b2,b3,b4,b5,b6,b7,b8⟩:=BX.out _ U6.out;rcases PF.out with⟨hz,hf⟩ | ⟨kk,ev,rfl,hkx,hf⟩
       · have dz:decide (z1<0)=true:=decide_eq_true hz;have HF:=η (HNF.out (by rw[HSN.out,hf]));clear HNX HNF hf PF HSN;go_wp2_with fail;go_ret;exact⟨ret_bool HF.out.symm,T0.out.trans U6.out⟩
       · have dz:decide ((kk:Int)<0)=false:=decide_eq_false (by omega);have hkl:=(List.getElem?_eq_some_iff.1 hkx).1;have hb2:0≤(kk:Int)∧(kk:Int)<(ne:Int):=by have:=NE.out;omega
         obtain⟨g2,o2,eg2,hat2⟩:=(H.out.still (T0.out.trans U6.out)).ends.at hkx;have r1:=hat2 1 (.bool ev.yes) rfl;rw[eg2]at b6;have HSN2:Hid (sideN s x.v=!ev.yes):=η (by rw[HSN.out,hf]);obtain⟨ey,hey⟩:=ε ev.yes;rw[←hey]at r1 HSN2;clear eg2 hat2 hf hkx hey PF HSN hb;cases ey with
         | true=>
          have HF:=η (HNF.out (by rw[HSN2.out];rfl));clear HNX HNF;go_wp2_with fail;go_ret;exact⟨ret_bool HF.out.symm,T0.out.trans U6.out⟩
         | false=>
          have HX:=η (HNX.out (by rw[HSN2.out];rfl));clear HNX HNF;go_wp2_with fail;go_roundw
          case rel=>exact⟨k+1,_,rfl,by omega,by go_num,HX.out,U6.out⟩
          case measure=>simp[intOf];omega
     · have hkk:k=nn:=by omega
       have HNN:Hid (s.noes.all (sideN s)=true):=η (all_true (n:=k) (by rw[hkk];exact NN.out) HL.out);have HF:Hid (ans=true):=η (by rw[HA.out,HO.out,HNN.out];rfl);go_wp2_with fail;go_ret;exact⟨ret_bool HF.out.symm,T0.out.trans HT.out⟩
end Go.Proofs.YtkjpjfghklgdhaaGreat
