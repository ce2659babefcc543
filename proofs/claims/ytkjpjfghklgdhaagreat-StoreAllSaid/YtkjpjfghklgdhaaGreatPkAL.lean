/-
  PkAL
-/
import Derived.Test.YtkjpjfghklgdhaaGreatPkAK
set_option maxHeartbeats 4000000
set_option maxRecDepth 100000
namespace Go.Proofs.YtkjpjfghklgdhaaGreat
open Go.RowKit Go.Proofs.YtkjpjfghklgdhaaGreat.V
theorem mayOpen_calls {w:World} {a:Ads} {s:StV} (h:StIs w a s) (hf:s.fit) (hr:Rising EndV.tid s.ends) (hfew:s.ends.length≤1000000) (hr2:Rising BrV.tid s.waits) (hfew2:s.waits.length≤1000000):Calls Tryz.prog 49 #[.agg (s.cells a)] w fun e w'=>e=.returned (.bool (s.open_.all (openOkB s)))∧Turn [] w w':=by
 have hlen:=h.open_.len;obtain⟨L,hL,hT,hP⟩:=h.open_;have T0:=η (Turn.alloc [] w (.cells (s.cells a) 27));have U0:=η (Turn.refl [] (w.alloc (.cells (s.cells a) 27)));have HS:=η (fun wx (t:Turn [] (w.alloc (.cells (s.cells a) 27)) wx)=>h.still (T0.out.trans t));have BX:=η (fun wx (t:Turn [] (w.alloc (.cells (s.cells a) 27)) wx)=>s.boxed a t);have MC:=η (fun(x:Lay PendV) (hx:x∈L) wx (t:Turn [] (w.alloc (.cells (s.cells a) 27)) wx)=>mayPend_calls s a x.v ((hP x hx).turn (T0.out.trans t)) (hf.open_ x.v (by rw[←hL];exact List.mem_map_of_mem hx)));have EC:=η (fun t wx (tt:Turn [] (w.alloc (.cells (s.cells a) 27)) wx)=>ended_calls (HS.out wx tt) hr hfew t);have PC:=η (fun t wx (tt:Turn [] (w.alloc (.cells (s.cells a) 27)) wx)=>prepared_calls (HS.out wx tt) hr2 hfew2 t);have H:=η (fun wx (t:Turn [] (w.alloc (.cells (s.cells a) 27)) wx)=>hT.still (T0.out.trans t));have HL:=η hL;obtain⟨ok,hok⟩:=ε (openOkB s);have HOK:=η hok;rw[←hok];obtain⟨ans,ha⟩:=ε (s.open_.all ok);have HS0:Hid (ans=(s.open_.drop 0).all ok):=η (by rw[ha];rfl);rw[←ha];obtain⟨n,hn⟩:=ε s.open_.length;have HN:=η hn;unfold StV.cells at*;obtain⟨am,cm,aw,cw,ae,ce,oo,co,an,cn⟩:=a;dsimp only at MC EC PC H BX T0 U0 ⊢;rw[←hn]at hlen ⊢;rw[←hn]at MC EC PC H BX T0 U0;clear h hf HS hT hP hL ha hok hn hr hfew hr2 hfew2;go_in;go_wp2_with fail;go_loopw [8] (fun vi wx=>∃k:Nat,k≤n∧vi=.int .i64 (k:Int)∧ans=(s.open_.drop k).all ok∧Turn [] (w.alloc (.cells #[.int .i64 s.broker,.int .i64 s.nextId,.int .i64 s.nextSeq,.int .i64 s.tx,.slice am s.ms.length cm,.slice aw s.waits.length cw,.slice ae s.ends.length ce,.slice oo n co,.slice an s.noes.length cn] 27)) wx) (fun vi _=>n-(intOf vi).toNat)
 case atStart=>exact⟨0,by omega,rfl,HS0.out,U0.out⟩
 case round=>
  obtain⟨k,hk,rfl,hall,ht⟩:=hrel;have HT:=η ht;have HA:=η hall;have H2:=H.out wr ht;clear hall ht HS0;by_cases hkn:k<n
  · have hkl:k<L.length:=by have:=congrArg List.length HL.out;rw[List.length_map]at this;rw[this,←HN.out];exact hkn
    obtain⟨x,hx⟩:∃x,L[k]?=some x:=⟨_,List.getElem?_eq_getElem hkl⟩
    have hxw:s.open_[k]?=some x.v:=by rw[←HL.out,List.getElem?_map,hx];rfl
    obtain⟨g,off,rfl,hat⟩:=H2.at hx;have MC1:=MC.out x (List.mem_of_getElem? hx);have HD:Hid (ans=((mayPendB s x.v&&(!keyB EndV.tid s.ends x.v.tid&&!keyB BrV.tid s.waits x.v.tid))&&(s.open_.drop (k+1)).all ok)):=η (by rw[HA.out,drop_cons hxw,List.all_cons,HOK.out];rfl);clear H2 hx hxw HA HOK;obtain⟨⟨y,P⟩,ao,c⟩:=x;have q0:=hat 0 (.int .i64 y) rfl;have q1:=hat 1 (.slice ao P.length c) rfl;rw[Nat.add_zero]at q0;dsimp only at MC1 HD;obtain⟨pn,hpn⟩:=ε P.length;rw[←hpn]at MC1 q1;obtain⟨r1,e1⟩:=ε (mayPendB s ⟨y,P⟩);rw[←e1]at MC1 HD;have MC1:=η MC1;have QC:Hid (∀wx,Turn [] (wr.alloc (.cells #[.int .i64 y,.slice ao pn c] 65)) wx→wx.cell? ⟨wr.heap.size,0,none⟩=some (.int .i64 y)∧wx.cell? ⟨wr.heap.size,1,none⟩=some (.slice ao pn c)):=η (fun wx t=>two_of (t.heap (heap_alloc_new wr _)));have TA:=η (Turn.alloc [] wr (.cells #[.int .i64 y,.slice ao pn c] 65));have V0:=η (HT.out.trans TA.out);have hb:0≤(k:Int)∧(k:Int)<(n:Int):=by omega
    clear hat e1 hpn;obtain⟨b0,b1,b2,b3,b4,b5,b6,b7,b8⟩:=BX.out _ V0.out;have EC1:=η (EC.out y);have PC1:=η (PC.out y);obtain⟨r2,e2⟩:=ε (keyB EndV.tid s.ends y);obtain⟨r3,e3⟩:=ε (keyB BrV.tid s.waits y);rw[←e2]at EC1 HD;rw[←e3]at PC1 HD;clear e2 e3;go_wp2_with fail;refine(MC1.out _ V0.out).mono ?_;rintro e x1 ⟨rfl,t1⟩;have U1:=η t1;have V1:=η (V0.out.trans t1);clear t1 MC1 q0 q1 b0 b1 b2 b3 b4 b5 b6 b7 b8;cases r1 with
    | false=>
     have HF:Hid (ans=false):=η (by rw[HD.out];rfl);clear HD;go_wp2_with fail;go_ret;exact⟨ret_bool HF.out.symm,T0.out.trans V1.out⟩
    | true=>
     obtain⟨b0,b1,b2,b3,b4,b5,b6,b7,b8⟩:=BX.out _ V1.out;obtain⟨q0,q1⟩:=QC.out _ U1.out;go_wp2_with fail;refine(EC1.out _ V1.out).mono ?_;rintro e x2 ⟨rfl,t2⟩;have U2:=η (U1.out.trans t2);have V2:=η (V1.out.trans t2);clear t2 EC1 q0 q1 b0 b1 b2 b3 b4 b5 b6 b7 b8;cases r2 with
     | true=>
      have HF:Hid (ans=false):=η (by rw[HD.out];rfl);clear HD;go_wp2_with fail;go_ret;exact⟨ret_bool HF.out.symm,T0.out.trans V2.out⟩
     | false=>
      obtain⟨b0,b1,b2,b3,b4,b5,b6,b7,b8⟩:=BX.out _ V2.out;obtain⟨q0,q1⟩:=QC.out _ U2.out;go_wp2_with fail;refine(PC1.out _ V2.out).mono ?_;rintro e x3 ⟨rfl,t3⟩;have V3:=η (V2.out.trans t3);clear t3 PC1 q0 q1 b0 b1 b2 b3 b4 b5 b6 b7 b8;cases r3 with
      | true=>
       have HF:Hid (ans=false):=η (by rw[HD.out];rfl);clear HD;go_wp2_with fail;go_ret;exact⟨ret_bool HF.out.symm,T0.out.trans V3.out⟩
      | false=>
       have HF:Hid (ans=(s.open_.drop (k+1)).all ok):=η (by rw[HD.out];rfl);clear HD;go_wp2_with fail;go_roundw
       case rel=>exact⟨k+1,by omega,by go_num,HF.out,V3.out⟩
       case measure=>simp[intOf];omega
  · have hkk:k=n:=by omega
    have HF:Hid (ans=true):=η (by rw[HA.out,List.drop_eq_nil_of_le (by rw[←HN.out];omega)];rfl);clear HA H2;go_wp2_with fail;go_ret;exact⟨ret_bool HF.out.symm,T0.out.trans HT.out⟩
theorem mayNoes_calls {w:World} {a:Ads} {s:StV} (h:StIs w a s) (hf:s.fit) (hr:Rising EndV.tid s.ends) (hfew:s.ends.length≤1000000):Calls Tryz.prog 50 #[.agg (s.cells a)] w fun e w'=>e=.returned (.bool (s.noes.all (noOkB s)))∧Turn [] w w':=by
 have hlen:=h.noes.len;obtain⟨L,hL,hT,hP⟩:=h.noes;have T0:=η (Turn.alloc [] w (.cells (s.cells a) 27));have U0:=η (Turn.refl [] (w.alloc (.cells (s.cells a) 27)));have HS:=η (fun wx (t:Turn [] (w.alloc (.cells (s.cells a) 27)) wx)=>h.still (T0.out.trans t));have BX:=η (fun wx (t:Turn [] (w.alloc (.cells (s.cells a) 27)) wx)=>s.boxed a t);have MC:=η (fun(x:Lay PendV) (hx:x∈L) wx (t:Turn [] (w.alloc (.cells (s.cells a) 27)) wx)=>mayPend_calls s a x.v ((hP x hx).turn (T0.out.trans t)) (hf.noes x.v (by rw[←hL];exact List.mem_map_of_mem hx)));have PL:=η (fun t wx (tt:Turn [] (w.alloc (.cells (s.cells a) 27)) wx)=>ends_place (HS.out wx tt).ends hr hfew t);have HE:=η (fun wx (tt:Turn [] (w.alloc (.cells (s.cells a) 27)) wx)=>(HS.out wx tt).ends);have HR:=η hr;have H:=η (fun wx (t:Turn [] (w.alloc (.cells (s.cells a) 27)) wx)=>hT.still (T0.out.trans t));have HL:=η hL;obtain⟨ok,hok⟩:=ε (noOkB s);have HOK:=η hok;rw[←hok];obtain⟨ans,ha⟩:=ε (s.noes.all ok);have HS0:Hid (ans=(s.noes.drop 0).all ok):=η (by rw[ha];rfl);rw[←ha];obtain⟨n,hn⟩:=ε s.noes.length;have HN:=η hn;unfold StV.cells at*;obtain⟨am,cm,aw,cw,ae,ce,oo,co,an,cn⟩:=a;dsimp only at MC PL HE H BX T0 U0 ⊢;rw[←hn]at hlen ⊢;rw[←hn]at MC PL HE H BX T0 U0;clear h hf HS hT hP hL ha hok hn hr hfew;go_in;go_wp2_with fail;go_loopw [10] (fun vi wx=>∃k:Nat,k≤n∧vi=.int .i64 (k:Int)∧ans=(s.noes.drop k).all ok∧Turn [] (w.alloc (.cells #[.int .i64 s.broker,.int .i64 s.nextId,.int .i64 s.nextSeq,.int .i64 s.tx,.slice am s.ms.length cm,.slice aw s.waits.length cw,.slice ae s.ends.length ce,.slice oo s.open_.length co,.slice an n cn] 27)) wx) (fun vi _=>n-(intOf vi).toNat)
 case atStart=>exact⟨0,by omega,rfl,HS0.out,U0.out⟩
 case round=>
  obtain⟨k,hk,rfl,hall,ht⟩:=hrel;have HT:=η ht;have HA:=η hall;have H2:=H.out wr ht;clear hall ht HS0;by_cases hkn:k<n
  · have hkl:k<L.length:=by have:=congrArg List.length HL.out;rw[List.length_map]at this;rw[this,←HN.out];exact hkn
    obtain⟨x,hx⟩:∃x,L[k]?=some x:=⟨_,List.getElem?_eq_getElem hkl⟩
    have hxw:s.noes[k]?=some x.v:=by rw[←HL.out,List.getElem?_map,hx];rfl
    obtain⟨g,off,rfl,hat⟩:=H2.at hx;have MC1:=MC.out x (List.mem_of_getElem? hx);have HD:Hid (ans=((mayPendB s x.v&&s.ends.any fun e=>decide (e.tid=x.v.tid)&&!e.yes)&&(s.noes.drop (k+1)).all ok)):=η (by rw[HA.out,drop_cons hxw,List.all_cons,HOK.out];rfl);clear H2 hx hxw HA HOK;obtain⟨⟨y,P⟩,ao,c⟩:=x;have q0:=hat 0 (.int .i64 y) rfl;have q1:=hat 1 (.slice ao P.length c) rfl;rw[Nat.add_zero]at q0;dsimp only at MC1 HD;obtain⟨pn,hpn⟩:=ε P.length;rw[←hpn]at MC1 q1;obtain⟨r1,e1⟩:=ε (mayPendB s ⟨y,P⟩);rw[←e1]at MC1 HD;have MC1:=η MC1;have QC:Hid (∀wx,Turn [] (wr.alloc (.cells #[.int .i64 y,.slice ao pn c] 65)) wx→wx.cell? ⟨wr.heap.size,0,none⟩=some (.int .i64 y)∧wx.cell? ⟨wr.heap.size,1,none⟩=some (.slice ao pn c)):=η (fun wx t=>two_of (t.heap (heap_alloc_new wr _)));have TA:=η (Turn.alloc [] wr (.cells #[.int .i64 y,.slice ao pn c] 65));have V0:=η (HT.out.trans TA.out);have hb:0≤(k:Int)∧(k:Int)<(n:Int):=by omega
    clear hat e1 hpn;obtain⟨b0,b1,b2,b3,b4,b5,b6,b7,b8⟩:=BX.out _ V0.out;have PL1:=PL.out y;obtain⟨pz,epz⟩:=ε (posK EndV.tid y s.ends);obtain⟨r2,e2⟩:=ε (keyB EndV.tid s.ends y);rw[←epz,←e2]at PL1;have PL1:=η PL1
    have HE1:Hid (r2=true→∃e,s.ends[pz]?=some e∧e.tid=y):=η (fun h=>by
     rw[e2]at h;obtain⟨e,h1,h2,-⟩:=posK_find HR.out h;rw[←epz]at h1
     exact⟨e,h1,h2⟩)
    have HN2:Hid (r2=false→(s.ends.any fun x=>decide (x.tid=y)&&!x.yes)=false):=η (fun h=>noes_none (by rw[←e2];exact h));clear e2 epz;go_wp2_with fail;refine(PL1.out _ V0.out).mono ?_;rintro e x1 ⟨rfl,t1⟩;have U1:=η t1;have V1:=η (V0.out.trans t1);clear t1 PL1 q0 q1 b0 b1 b2 b3 b4 b5 b6 b7 b8;obtain⟨b0,b1,b2,b3,b4,b5,b6,b7,b8⟩:=BX.out _ V1.out;obtain⟨q0,q1⟩:=QC.out _ U1.out;go_wp2_with fail;refine(MC1.out _ V1.out).mono ?_;rintro e x2 ⟨rfl,t2⟩;have U2:=η (U1.out.trans t2);have V2:=η (V1.out.trans t2);clear t2 MC1 q0 q1 b0 b1 b2 b3 b4 b5 b6 b7 b8;cases r1 with
    | false=>
     have HF:Hid (ans=false):=η (by rw[HD.out];rfl);clear HD;go_wp2_with fail;go_ret;exact⟨ret_bool HF.out.symm,T0.out.trans V2.out⟩
    | true=>
     cases r2 with
     | false=>
      have HN3:=η (HN2.out rfl);clear HN2 HE1;have HF:Hid (ans=false):=η (by rw[HD.out];rw[HN3.out];rfl);clear HD;go_wp2_with fail;go_ret;exact⟨ret_bool HF.out.symm,T0.out.trans V2.out⟩
     | true=>
      obtain⟨e,he,het⟩:=HE1.out rfl;have HZ:=η (noes_any HR.out he het);have hpl:=(List.getElem?_eq_some_iff.1 he).1;obtain⟨g2,off2,rfl,hat2⟩:=(HE.out _ V2.out).at he;have z1:=hat2 1 (.bool e.yes) rfl;obtain⟨b0,b1,b2,b3,b4,b5,b6,b7,b8⟩:=BX.out _ V2.out;have hb2:0≤(pz:Int)∧(pz:Int)<(s.ends.length:Int):=by omega
      obtain⟨ye,hye⟩:=ε e.yes;rw[←hye]at z1 HZ;clear HE1 HN2 hat2 he het hye;cases ye with
      | true=>
       have HF:Hid (ans=false):=η (by rw[HD.out];rw[HZ.out];rfl);clear HD;go_wp2_with fail;go_ret;exact⟨ret_bool HF.out.symm,T0.out.trans V2.out⟩
      | false=>
       have HF:Hid (ans=(s.noes.drop (k+1)).all ok):=η (by rw[HD.out,HZ.out];rfl);clear HD HZ;go_wp2_with fail;go_roundw
       case rel=>exact⟨k+1,by omega,by go_num,HF.out,V2.out⟩
       case measure=>simp[intOf];omega
  · have hkk:k=n:=by omega
    have HF:Hid (ans=true):=η (by rw[HA.out,List.drop_eq_nil_of_le (by rw[←HN.out];omega)];rfl);clear HA H2;go_wp2_with fail;go_ret;exact⟨ret_bool HF.out.symm,T0.out.trans HT.out⟩
theorem mayMessage_calls {w:World} {a:Ads} {s:StV} (h:StIs w a s) (hr:Rising EndV.tid s.ends) (hfew:s.ends.length≤1000000) (hbr:0≤s.broker∧s.broker≤100) (hni:0≤s.nextId∧s.nextId≤4294967296) (m:MsgV) (hmi:okI m.id) (hmb:okI m.by_):
 Calls Tryz.prog 125 #[.agg (s.cells a),.agg (msgC m).toArray] w fun e w'=>e=.returned (.bool (msgOkB s m))∧Turn [] w w':=by
 obtain⟨i,qu,bo,sq,cn,by_⟩:=m;unfold msgC;dsimp only at hmi hmb ⊢;have C1:=η (fun wx=>isOwn_calls (w:=wx) s a i hmi);have C2:=η (kindPut_calls qu bo);have C3:=η (fun wx=>kindTid_calls by_ wx hmb);have C4:=η (fun wx (t:Turn [] w wx)=>ended_calls (h.still t) hr hfew by_);unfold msgOkB;dsimp only;obtain⟨r1,e1⟩:=ε (decide (homeZ i=s.broker));obtain⟨r2,e2⟩:=ε (putB (qu,bo));obtain⟨r3,e3⟩:=ε (decide (0<homeZ by_));obtain⟨r4,e4⟩:=ε (keyB EndV.tid s.ends by_);rw[←e1]at C1 ⊢;rw[←e2]at C2 ⊢;rw[←e3]at C3 ⊢;rw[←e4]at C4 ⊢;have T0:=η ((Turn.alloc [] w (.cells (s.cells a) 27)).trans (Turn.alloc [] _ (.cells #[.int .i64 i,.string qu,.string bo,.int .i64 sq,.int .i64 cn,.int .i64 by_] 49)));have U0:=η (Turn.refl [] ((w.alloc (.cells (s.cells a) 27)).alloc (.cells #[.int .i64 i,.string qu,.string bo,.int .i64 sq,.int .i64 cn,.int .i64 by_] 49)));have BX:=η (fun wx (t:Turn [] ((w.alloc (.cells (s.cells a) 27)).alloc (.cells #[.int .i64 i,.string qu,.string bo,.int .i64 sq,.int .i64 cn,.int .i64 by_] 49)) wx)=>s.boxed a ((Turn.alloc [] _ _).trans t))
 have MX:Hid (∀wx,Turn [] ((w.alloc (.cells (s.cells a) 27)).alloc (.cells #[.int .i64 i,.string qu,.string bo,.int .i64 sq,.int .i64 cn,.int .i64 by_] 49)) wx→wx.cell? ⟨w.heap.size+1,0,none⟩=some (.int .i64 i)∧wx.cell? ⟨w.heap.size+1,1,none⟩=some (.string qu)∧wx.cell? ⟨w.heap.size+1,2,none⟩=some (.string bo)∧wx.cell? ⟨w.heap.size+1,3,none⟩=some (.int .i64 sq)∧wx.cell? ⟨w.heap.size+1,4,none⟩=some (.int .i64 cn)∧wx.cell? ⟨w.heap.size+1,5,none⟩=some (.int .i64 by_)):=η (fun wx t=>by
  have:=heap_alloc_new (w.alloc (.cells (s.cells a) 27)) (.cells #[.int .i64 i,.string qu,.string bo,.int .i64 sq,.int .i64 cn,.int .i64 by_] 49);rw[show(w.alloc (.cells (s.cells a) 27)).heap.size=w.heap.size+1 by simp]at this;have:=t.heap this
  refine⟨?_,?_,?_,?_,?_,?_⟩<;>rw[cell_of_row _ _ _ _ _ _ this]<;>rfl)
 have hw1:IntKind.i64.wrap (s.broker*4294967296)=s.broker*4294967296:=by rw[IntKind.wrap_i64];omega
 obtain⟨lim,hlim⟩:=ε (s.broker*4294967296+s.nextId);have hw2:IntKind.i64.wrap (s.broker*4294967296+s.nextId)=lim:=by rw[hlim,IntKind.wrap_i64];omega
 rw[←hlim];obtain⟨ans,ha⟩:=ε ((r1&&(decide (i<lim)&&(r2&&(decide (0≤cn∧cn≤1000)&&(decide (by_=0) || (r3&&!r4)))))));have HA:=η ha;rw[←ha];clear e1 e2 e3 e4 h hr hfew hmi hmb hbr hni hlim ha;unfold StV.cells at*;go_in;obtain⟨b0,b1,b2,b3,b4,b5,b6,b7,b8⟩:=BX.out _ U0.out;obtain⟨m0,m1,m2,m3,m4,m5⟩:=MX.out _ U0.out;go_wp2_with fail;refine(C1.out _).mono ?_;rintro e x1 ⟨rfl,t1⟩;have U1:=η t1;clear t1 C1 b0 b1 b2 b3 b4 b5 b6 b7 b8 m0 m1 m2 m3 m4 m5;cases r1 with
 | false=>
  have HF:Hid (ans=false):=η (by rw[HA.out];rfl);clear HA;go_wp2_with fail;go_ret;exact⟨ret_bool HF.out.symm,T0.out.trans U1.out⟩
 | true=>
  obtain⟨b0,b1,b2,b3,b4,b5,b6,b7,b8⟩:=BX.out _ U1.out;obtain⟨m0,m1,m2,m3,m4,m5⟩:=MX.out _ U1.out;by_cases hl:i<lim
  case neg=>
   have dl:decide (i<lim)=false:=decide_eq_false hl;have HF:Hid (ans=false):=η (by rw[HA.out];first | rfl | simp[hl]);clear HA;go_wp2_with fail;go_ret;exact⟨ret_bool HF.out.symm,T0.out.trans U1.out⟩
  have dl:decide (i<lim)=true:=decide_eq_true hl;go_wp2_with fail;refine(C2.out _).mono ?_;rintro e x2 ⟨rfl,t2⟩;have U2:=η (U1.out.trans t2);clear t2 C2 b0 b1 b2 b3 b4 b5 b6 b7 b8 m0 m1 m2 m3 m4 m5 hw1 hw2;cases r2 with
  | false=>
   have HF:Hid (ans=false):=η (by rw[HA.out];first | rfl | simp);clear HA;go_wp2_with fail;go_ret;exact⟨ret_bool HF.out.symm,T0.out.trans U2.out⟩
  | true=>
   obtain⟨b0,b1,b2,b3,b4,b5,b6,b7,b8⟩:=BX.out _ U2.out;obtain⟨m0,m1,m2,m3,m4,m5⟩:=MX.out _ U2.out;by_cases hc0:0≤cn
   case neg=>
    have dc0:decide (0≤cn)=false:=decide_eq_false hc0;have HF:Hid (ans=false):=η (by rw[HA.out];first | rfl | simp[hc0]);clear HA;go_wp2_with fail;go_ret;exact⟨ret_bool HF.out.symm,T0.out.trans U2.out⟩
   have dc0:decide (0≤cn)=true:=decide_eq_true hc0;by_cases hc1:cn≤1000
   case neg=>
    have dc1:decide (cn≤1000)=false:=decide_eq_false hc1;have HF:Hid (ans=false):=η (by rw[HA.out];first | rfl | simp[hc1]);clear HA;go_wp2_with fail;go_ret;exact⟨ret_bool HF.out.symm,T0.out.trans U2.out⟩
   have dc1:decide (cn≤1000)=true:=decide_eq_true hc1;by_cases hby:by_=0
   case pos=>
    have dby:(by_==0)=true:=by simpa using hby
    have HF:Hid (ans=true):=η (by rw[HA.out];simp[hl,hc0,hc1,hby]);clear HA;go_wp2_with fail;go_ret;exact⟨ret_bool HF.out.symm,T0.out.trans U2.out⟩
   have dby:(by_==0)=false:=by simpa using hby
   have HB:=η (show ans=(r3&&!r4) by rw[HA.out];simp[hl,hc0,hc1,hby]);clear HA;have HA:=HB;clear HB;go_wp2_with fail;refine(C3.out _).mono ?_;rintro e x3 ⟨rfl,rfl⟩;clear C3;cases r3 with
   | false=>
    have HF:Hid (ans=false):=η (by rw[HA.out];rfl);clear HA;go_wp2_with fail;go_ret;exact⟨ret_bool HF.out.symm,T0.out.trans U2.out⟩
   | true=>
    go_wp2_with fail;refine(C4.out _ (T0.out.trans U2.out)).mono ?_;rintro e x4 ⟨rfl,t4⟩;have U4:=η (U2.out.trans t4);clear t4 C4 b0 b1 b2 b3 b4 b5 b6 b7 b8 m0 m1 m2 m3 m4 m5;cases r4 with
    | false=>
     have HF:Hid (ans=true):=η (by rw[HA.out];rfl);clear HA;go_wp2_with fail;go_ret;exact⟨ret_bool HF.out.symm,T0.out.trans U4.out⟩
    | true=>
     have HF:Hid (ans=false):=η (by rw[HA.out];rfl);clear HA;go_wp2_with fail;go_ret;exact⟨ret_bool HF.out.symm,T0.out.trans U4.out⟩
def placesB (all:List MsgV):Nat→List MsgV→Bool
 | _,[]=>true
 | k,m::l=>decide (placeI (fun x:MsgV=>decide (x.id=m.id)) all=(k:Int))&&placesB all (k+1) l
theorem placesB_iff (all:List MsgV):∀(l:List MsgV) (k:Nat),placesB all k l=true↔∀(j:Nat) (m:MsgV),l[j]?=some m→placeI (fun x:MsgV=>decide (x.id=m.id)) all=((k+j:Nat):Int)
 | [],k=>by simp[placesB]
 | m::l,k=>by
  rw[placesB,Bool.and_eq_true,decide_eq_true_eq,placesB_iff all l (k+1)];constructor
  · rintro⟨h1,h2⟩ j x hx;cases j with
    | zero=>simp at hx;rw[←hx];exact h1
    | succ j=>
     have:=h2 j x (by simpa using hx);rw[this];congr 1;omega
  · intro h;refine⟨by have:=h 0 m (by simp);simpa using this,fun j x hx=>?_⟩;have:=h (j+1) x (by simpa using hx);rw[this];congr 1;omega
theorem idsB_places (l:List MsgV):idsB l=placesB l 0 l:=by
 rw[Bool.eq_iff_iff,placesB_iff];constructor
 · intro h j m hm;rw[Nat.zero_add];exact ids_place h hm
 · intro h;refine ids_of_place fun k m hm=>?_
   have:=h k m hm;rwa[Nat.zero_add]at this
theorem mayMessages_calls {w:World} {a:Ads} {s:StV} (h:StIs w a s) (hf:s.fit) (hr:Rising EndV.tid s.ends) (hfew:s.ends.length≤1000000) (hbr:0≤s.broker∧s.broker≤100) (hni:0≤s.nextId∧s.nextId≤4294967296):
 Calls Tryz.prog 51 #[.agg (s.cells a)] w fun e w'=>e=.returned (.bool (decide (s.ms.length≤72)&&(msgsFromB s 0 s.ms&&idsB s.ms)))∧Turn [] w w':=by
 have hlen:=h.ms.len;have T0:=η (Turn.alloc [] w (.cells (s.cells a) 27));have U0:=η (Turn.refl [] (w.alloc (.cells (s.cells a) 27)));have HS:=η (fun wx (t:Turn [] (w.alloc (.cells (s.cells a) 27)) wx)=>h.still (T0.out.trans t));have BX:=η (fun wx (t:Turn [] (w.alloc (.cells (s.cells a) 27)) wx)=>s.boxed a t);have MC:=η (fun(m:MsgV) (hm:m∈s.ms) wx (t:Turn [] (w.alloc (.cells (s.cells a) 27)) wx)=>mayMessage_calls (HS.out wx t) hr hfew hbr hni m (hf.ms m hm).1 (hf.ms m hm).2.2.2.1);have AC:=η (fun i wx (t:Turn [] (w.alloc (.cells (s.cells a) 27)) wx)=>messageAt_calls (HS.out wx t) i);have H:=η (fun wx (t:Turn [] (w.alloc (.cells (s.cells a) 27)) wx)=>(HS.out wx t).ms);rw[idsB_places];obtain⟨ans,ha⟩:=ε ((decide (s.ms.length≤72)&&(msgsFromB s 0 s.ms&&placesB s.ms 0 s.ms)));have HAns:=η ha;rw[←ha];obtain⟨n,hn⟩:=ε s.ms.length;have HN:=η hn;unfold StV.cells at*;obtain⟨am,cm,aw,cw,ae,ce,oo,co,an,cn⟩:=a;dsimp only at MC AC H BX T0 U0 ⊢;rw[←hn]at hlen ⊢;rw[←hn]at MC AC H BX T0 U0;clear h hf hr hfew HS ha hn hbr hni;by_cases hbig:72<n
 · have HF:Hid (ans=false):=η (by rw[HAns.out,←HN.out,decide_eq_false (by omega),Bool.false_and]);go_in;go_wp2_with fail;go_ret;exact⟨ret_bool HF.out.symm,T0.out⟩
 have HS0:Hid (ans=(msgsFromB s 0 (s.ms.drop 0)&&placesB s.ms 0 (s.ms.drop 0))):=η (by rw[HAns.out,←HN.out,decide_eq_true (by omega),Bool.true_and];rfl);clear HAns;go_in;go_wp2_with fail;go_loopw [3,13] (fun vz vi wx=>∃(k:Nat) (z:Int),k≤n∧vi=.int .i64 (k:Int)∧vz=.int .i64 z∧ans=(msgsFromB s z (s.ms.drop k)&&placesB s.ms k (s.ms.drop k))∧Turn [] (w.alloc (.cells #[.int .i64 s.broker,.int .i64 s.nextId,.int .i64 s.nextSeq,.int .i64 s.tx,.slice am n cm,.slice aw s.waits.length cw,.slice ae s.ends.length ce,.slice oo s.open_.length co,.slice an s.noes.length cn] 27)) wx) (fun _ vi _=>n-(intOf vi).toNat)
 case atStart=>exact⟨0,0,by omega,rfl,rfl,HS0.out,U0.out⟩
 case round=>
  obtain⟨k,z,hk,rfl,rfl,hall,ht⟩:=hrel;have HT:=η ht;have HA:=η hall;have H2:=H.out wr ht;clear hall ht HS0;by_cases hkn:k<n
  · have hkl:k<s.ms.length:=by rw[←HN.out];exact hkn
    obtain⟨x,hx⟩:∃x,s.ms[k]?=some x:=⟨_,List.getElem?_eq_getElem hkl⟩
    obtain⟨g,off,rfl,hat⟩:=H2.at hx;have MC1:=MC.out x (List.mem_of_getElem? hx);have AC1:=AC.out x.id;have HD:Hid (ans=((decide (z<x.seq)&&(msgOkB s x&&msgsFromB s x.seq (s.ms.drop (k+1))))&&(decide (placeI (fun y:MsgV=>decide (y.id=x.id)) s.ms=(k:Int))&&placesB s.ms (k+1) (s.ms.drop (k+1))))):=η (by rw[HA.out,drop_cons hx];rfl);clear H2 hx HA;obtain⟨i,qu,bo,sq,ct,by_⟩:=x;have q0:=hat 0 (.int .i64 i) rfl;have q1:=hat 1 (.string qu) rfl;have q2:=hat 2 (.string bo) rfl;have q3:=hat 3 (.int .i64 sq) rfl;have q4:=hat 4 (.int .i64 ct) rfl;have q5:=hat 5 (.int .i64 by_) rfl;rw[Nat.add_zero]at q0;unfold msgC at MC1;dsimp only at MC1 HD AC1;obtain⟨r1,e1⟩:=ε (msgOkB s ⟨i,qu,bo,sq,ct,by_⟩);obtain⟨p,e2⟩:=ε (placeI (fun y:MsgV=>decide (y.id=i)) s.ms);rw[←e1]at MC1 HD;rw[←e2]at AC1 HD;have MC1:=η MC1;have AC1:=η AC1
    have QC:Hid (∀wx,Turn [] (wr.alloc (.cells #[.int .i64 i,.string qu,.string bo,.int .i64 sq,.int .i64 ct,.int .i64 by_] 49)) wx→wx.cell? ⟨wr.heap.size,0,none⟩=some (.int .i64 i)∧wx.cell? ⟨wr.heap.size,1,none⟩=some (.string qu)∧wx.cell? ⟨wr.heap.size,2,none⟩=some (.string bo)∧wx.cell? ⟨wr.heap.size,3,none⟩=some (.int .i64 sq)∧wx.cell? ⟨wr.heap.size,4,none⟩=some (.int .i64 ct)∧wx.cell? ⟨wr.heap.size,5,none⟩=some (.int .i64 by_)):=η (fun wx t=>by
     have:=t.heap (heap_alloc_new wr _)
     refine⟨?_,?_,?_,?_,?_,?_⟩<;>rw[cell_of_row _ _ _ _ _ _ this]<;>rfl)
    have TA:=η (Turn.alloc [] wr (.cells #[.int .i64 i,.string qu,.string bo,.int .i64 sq,.int .i64 ct,.int .i64 by_] 49));have V0:=η (HT.out.trans TA.out);have hb:0≤(k:Int)∧(k:Int)<(n:Int):=by omega
    clear hat e1 e2;by_cases hyz:sq≤z
    · have dz:decide (sq≤z)=true:=decide_eq_true hyz;have HF:Hid (ans=false):=η (by rw[HD.out,decide_eq_false (by omega)];rfl);clear HD;go_wp2_with fail;go_ret;exact⟨ret_bool HF.out.symm,T0.out.trans V0.out⟩
    have dz:decide (sq≤z)=false:=decide_eq_false hyz;have HD:Hid (ans=((r1&&msgsFromB s sq (s.ms.drop (k+1)))&&(decide (p=(k:Int))&&placesB s.ms (k+1) (s.ms.drop (k+1))))):=η (by rw[HD.out,decide_eq_true (by omega),Bool.true_and]);obtain⟨b0,b1,b2,b3,b4,b5,b6,b7,b8⟩:=BX.out _ V0.out;go_wp2_with fail;refine(AC1.out _ V0.out).mono ?_;rintro e x1 ⟨rfl,t1⟩;have U1:=η t1;have V1:=η (V0.out.trans t1);clear t1 AC1 q0 q1 q2 q3 q4 q5 b0 b1 b2 b3 b4 b5 b6 b7 b8;by_cases hpk:p=(k:Int)
    case neg=>
     have hne:(p != (k:Int))=true:=by simpa using hpk
     have HF:Hid (ans=false):=η (by rw[HD.out,decide_eq_false hpk,Bool.false_and,Bool.and_false]);clear HD;go_wp2_with fail;go_ret;exact⟨ret_bool HF.out.symm,T0.out.trans V1.out⟩
    have hne:(p != (k:Int))=false:=by simpa using hpk
    have HD:Hid (ans=((r1&&msgsFromB s sq (s.ms.drop (k+1)))&&placesB s.ms (k+1) (s.ms.drop (k+1)))):=η (by rw[HD.out,decide_eq_true hpk,Bool.true_and]);obtain⟨b0,b1,b2,b3,b4,b5,b6,b7,b8⟩:=BX.out _ V1.out;obtain⟨q0,q1,q2,q3,q4,q5⟩:=QC.out _ U1.out;go_wp2_with fail;refine(MC1.out _ V1.out).mono ?_;rintro e x2 ⟨rfl,t2⟩;have U2:=η (U1.out.trans t2);have V2:=η (V1.out.trans t2);clear t2 MC1 q0 q1 q2 q3 q4 q5 b0 b1 b2 b3 b4 b5 b6 b7 b8;cases r1 with
    | false=>
     have HF:Hid (ans=false):=η (by rw[HD.out];rfl);clear HD;go_wp2_with fail;go_ret;exact⟨ret_bool HF.out.symm,T0.out.trans V2.out⟩
    | true=>
     have HF:Hid (ans=(msgsFromB s sq (s.ms.drop (k+1))&&placesB s.ms (k+1) (s.ms.drop (k+1)))):=η (by rw[HD.out];rfl);clear HD;obtain⟨q0,q1,q2,q3,q4,q5⟩:=QC.out _ U2.out;go_wp2_with fail;go_roundw
     case rel=>exact⟨k+1,sq,by omega,by go_num,rfl,HF.out,V2.out⟩
     case measure=>simp[intOf];omega
  · have hkk:k=n:=by omega
    have HF:Hid (ans=decide (z<s.nextSeq)):=η (by rw[HA.out,List.drop_eq_nil_of_le (by rw[←HN.out];omega)];show(decide (z<s.nextSeq)&&true)=_;rw[Bool.and_true]);clear HA H2;obtain⟨b0,b1,b2,b3,b4,b5,b6,b7,b8⟩:=BX.out _ HT.out;go_wp2_with fail;go_ret;exact⟨ret_bool HF.out.symm,T0.out.trans HT.out⟩
theorem few_of {α:Type} {key:α→Int} {l:List α} (h:risesB key l=true):l.length≤1000000∧Rising key l:=by
 unfold risesB at h;rw[Bool.and_eq_true,decide_eq_true_eq,decide_eq_true_eq]at h;exact⟨by omega,h.2.2⟩
theorem may_calls {w:World} {a:Ads} {s:StV} (h:StIs w a s) (hf:s.fit):Calls Tryz.prog 18 #[.agg (s.cells a)] w fun e w'=>e=.returned (.bool (mayB s))∧Turn [] w w':=by
 rw[←mayOwnB_is];unfold mayOwnB;have T0:=η (Turn.alloc [] w (.cells (s.cells a) 27));have U0:=η (Turn.refl [] (w.alloc (.cells (s.cells a) 27)));have HS:=η (fun wx (t:Turn [] (w.alloc (.cells (s.cells a) 27)) wx)=>h.still (T0.out.trans t));have BX:=η (fun wx (t:Turn [] (w.alloc (.cells (s.cells a) 27)) wx)=>s.boxed a t);have C1:=η (fun wx=>mayNumbers_calls s a wx);have C2:=η (fun wx (t:Turn [] (w.alloc (.cells (s.cells a) 27)) wx)=>mayRise_calls (HS.out wx t) hf)
 have C3:=η (fun(q:riseAllB s=true) wx (t:Turn [] (w.alloc (.cells (s.cells a) 27)) wx)=>by
  unfold riseAllB at q;simp only[Bool.and_eq_true]at q
  exact mayWaits_calls (HS.out wx t) hf (few_of q.2.1).2 (few_of q.2.1).1)
 have C4:=η (fun(q:riseAllB s=true) wx (t:Turn [] (w.alloc (.cells (s.cells a) 27)) wx)=>by
  unfold riseAllB at q;simp only[Bool.and_eq_true]at q
  exact mayOpen_calls (HS.out wx t) hf (few_of q.2.1).2 (few_of q.2.1).1 (few_of q.1).2 (few_of q.1).1)
 have C5:=η (fun(q:riseAllB s=true) wx (t:Turn [] (w.alloc (.cells (s.cells a) 27)) wx)=>by
  unfold riseAllB at q;simp only[Bool.and_eq_true]at q
  exact mayNoes_calls (HS.out wx t) hf (few_of q.2.1).2 (few_of q.2.1).1)
 have C6:=η (fun(q0:numB s=true) (q:riseAllB s=true) wx (t:Turn [] (w.alloc (.cells (s.cells a) 27)) wx)=>by
  unfold riseAllB at q;unfold numB brokerB at q0;simp only[Bool.and_eq_true,decide_eq_true_eq]at q q0
  exact mayMessages_calls (HS.out wx t) hf (few_of q.2.1).2 (few_of q.2.1).1 (by omega) (by omega))
 obtain⟨r1,e1⟩:=ε (numB s);obtain⟨r2,e2⟩:=ε (riseAllB s);obtain⟨r3,e3⟩:=ε (s.waits.all (waitOkB s));obtain⟨r4,e4⟩:=ε (s.open_.all (openOkB s));obtain⟨r5,e5⟩:=ε (s.noes.all (noOkB s));obtain⟨r6,e6⟩:=ε ((decide (s.ms.length≤72)&&(msgsFromB s 0 s.ms&&idsB s.ms)));rw[←e1]at C1 C6 ⊢;rw[←e2]at C2 C3 C4 C5 C6 ⊢;rw[←e3]at C3 ⊢;rw[←e4]at C4 ⊢;rw[←e5]at C5 ⊢;rw[←e6]at C6 ⊢;clear e1 e2 e3 e4 e5 e6 h hf HS;unfold StV.cells at*;go_in;go_wp2_with fail;refine(C1.out _).mono ?_;rintro e x1 ⟨rfl,t1⟩;have U1:=η (U0.out.trans t1);clear t1;cases r1 with
 | false=>
  go_wp2_with fail;go_ret;exact⟨rfl,T0.out.trans U1.out⟩
 | true=>
  have D6:=η (C6.out (by simp));clear C6;obtain⟨b0,b1,b2,b3,b4,b5,b6,b7,b8⟩:=BX.out _ U1.out;go_wp2_with fail;refine(C2.out _ U1.out).mono ?_;rintro e x2 ⟨rfl,t2⟩;have U2:=η (U1.out.trans t2);clear t2 b0 b1 b2 b3 b4 b5 b6 b7 b8;cases r2 with
  | false=>
   go_wp2_with fail;go_ret;exact⟨rfl,T0.out.trans U2.out⟩
  | true=>
   have D3:=η (C3.out (by simp));have D4:=η (C4.out (by simp));have D5:=η (C5.out (by simp));have E6:=η (D6.out (by simp));clear C3 C4 C5 D6;obtain⟨b0,b1,b2,b3,b4,b5,b6,b7,b8⟩:=BX.out _ U2.out;go_wp2_with fail;refine(D3.out _ U2.out).mono ?_;rintro e x3 ⟨rfl,t3⟩;have U3:=η (U2.out.trans t3);clear t3 b0 b1 b2 b3 b4 b5 b6 b7 b8;cases r3 with
   | false=>
    go_wp2_with fail;go_ret;exact⟨rfl,T0.out.trans U3.out⟩
   | true=>
    obtain⟨b0,b1,b2,b3,b4,b5,b6,b7,b8⟩:=BX.out _ U3.out;go_wp2_with fail;refine(D4.out _ U3.out).mono ?_;rintro e x4 ⟨rfl,t4⟩;have U4:=η (U3.out.trans t4);clear t4 b0 b1 b2 b3 b4 b5 b6 b7 b8;cases r4 with
    | false=>
     go_wp2_with fail;go_ret;exact⟨rfl,T0.out.trans U4.out⟩
    | true=>
     obtain⟨b0,b1,b2,b3,b4,b5,b6,b7,b8⟩:=BX.out _ U4.out;go_wp2_with fail;refine(D5.out _ U4.out).mono ?_;rintro e x5 ⟨rfl,t5⟩;have U5:=η (U4.out.trans t5);clear t5 b0 b1 b2 b3 b4 b5 b6 b7 b8;cases r5 with
     | false=>
      go_wp2_with fail;go_ret;exact⟨rfl,T0.out.trans U5.out⟩
     | true=>
      obtain⟨b0,b1,b2,b3,b4,b5,b6,b7,b8⟩:=BX.out _ U5.out;go_wp2_with fail;refine(E6.out _ U5.out).mono ?_;rintro e x6 ⟨rfl,t6⟩;have U6:=η (U5.out.trans t6);clear t6 b0 b1 b2 b3 b4 b5 b6 b7 b8;cases r6<;>
       (go_wp2_with fail
        go_ret
        exact⟨rfl,T0.out.trans U6.out⟩)
def missB (s:StV) (r:RecV):Bool:=
 if r.kind=2 then decide (placeI (fun m:MsgV=>decide (m.id=r.id)) s.ms<0)
 else if r.kind=5 then !keyB BrV.tid s.waits r.tid
 else if r.kind=9 then (match pendOf s.noes r.tid with | none=>true | some p=>!decide (r.parts.getD 0 0∈p.parts))
 else false
def otherB (s:StV) (r:RecV):Bool:=
 if r.kind=1 then decide (r.tid≠makeZ s.broker (s.tx+1))
 else if r.kind=3 then keyB BrV.tid s.waits r.tid || keyB PendV.tid s.open_ r.tid
 else if r.kind=4 then keyB BrV.tid s.waits r.tid || decide (homeZ r.tid=s.broker)
 else if r.kind=6∨r.kind=7∨r.kind=8 then !decide (homeZ r.tid=s.broker) || (keyB BrV.tid s.waits r.tid || (decide (s.broker∈r.parts) || (decide (r.kind=6)&&keyB PendV.tid s.open_ r.tid)))
 else false
def busyB (s:StV) (r:RecV):Bool:=
 if r.kind=2 then (match msgOf s r.id with | none=>false | some m=>(decide (m.by_≠0)&&decide (m.by_≠r.tid)) || (keyB BrV.tid s.waits r.tid || keyB PendV.tid s.open_ r.tid))
 else false
def fullB (s:StV) (r:RecV):Bool:=
 if r.kind=1 then decide (200≤s.tx)
 else if r.kind=4 then decide (2000≤s.waits.length) || !fitsB s r.puts.length
 else if r.kind=6 then decide (2000≤s.open_.length)
 else if r.kind=3∨r.kind=5 then decide (2000≤s.ends.length)
 else if r.kind=7 then decide (2000≤s.ends.length) || !fitsB s r.puts.length
 else if r.kind=8 then decide (2000≤s.ends.length) || (decide (0<r.parts.length)&&decide (2000≤s.noes.length))
 else false
def canOwnE (s:StV) (r:RecV):Int:=
 if recB r=false then 1 else if (decide (r.kind≠9)&&keyB EndV.tid s.ends r.tid)=true then 9 else if missB s r=true then 6 else if otherB s r=true then 12 else if busyB s r=true then 8 else if fullB s r=true then 5 else 0
theorem place_find {α:Type} (p:α→Bool) (l:List α):(placeI p l<0∧l.find? p=none)∨∃(k:Nat) (x:α),placeI p l=(k:Int)∧l[k]?=some x∧l.find? p=some x:=by
 unfold placeI;cases h:l.findIdx? p with
 | none=>
  left;rw[List.findIdx?_eq_none_iff]at h;exact⟨by simp,List.find?_eq_none.2 fun x hx=>by have:=h x hx;simp[this]⟩
 | some i=>
  right;obtain⟨h1,h2,h3⟩:=List.findIdx?_eq_some_iff_getElem.1 h;refine⟨i,l[i],rfl,by simp,?_⟩;rw[List.find?_eq_some_iff_append];refine⟨h2,l.take i,l.drop (i+1),?_,fun y hy=>?_⟩
  · rw[List.getElem_cons_drop,List.take_append_drop]
  · obtain⟨j,hj,rfl⟩:=List.getElem_of_mem hy;rw[List.length_take]at hj;have:=h3 j (by omega);rw[List.getElem_take];simpa using this
theorem kind_of {r:RecV} (h:recB r=true):1≤r.kind∧r.kind≤9:=by
 unfold recB at h;simp only[Bool.and_eq_true]at h;obtain⟨-,-,-,-,-,h⟩:=h
 false_or_by_contra
 rw[if_neg (by omega),if_neg (by omega),if_neg (by omega),if_neg (by omega),if_neg (by omega),if_neg (by omega)]at h;cases h
theorem canOwnE_is (s:StV) (r:RecV):canOwnE s r=canE s r:=by
 unfold canOwnE canE;by_cases h0:recB r=false
 · rw[if_pos h0,if_pos h0]
 rw[if_neg h0,if_neg h0];have hk:=kind_of (by simpa using h0);by_cases h1:r.kind≠9∧keyB EndV.tid s.ends r.tid=true
 · rw[if_pos (by simp[h1.1,h1.2]),if_pos h1]
 rw[if_neg (by simpa using h1),if_neg h1];clear h0 h1;obtain⟨k,t,d,y,P,Q⟩:=r;dsimp only at hk;rcases(by omega:k=1∨k=2∨k=3∨k=4∨k=5∨k=6∨k=7∨k=8∨k=9)with rfl | rfl | rfl | rfl | rfl | rfl | rfl | rfl | rfl
 · simp[missB,otherB,busyB,fullB,fullE]
 · rcases place_find (fun m:MsgV=>decide (m.id=d)) s.ms with⟨h1,h2⟩ | ⟨k,x,h1,h2,h3⟩
   · simp[missB,msgOf,h1,h2]
   · have:¬placeI (fun m:MsgV=>decide (m.id=d)) s.ms<0:=by rw[h1];omega
     simp[missB,otherB,busyB,fullB,fullE,msgOf,h3,this]
 · simp[missB,otherB,busyB,fullB,fullE]
 · simp[missB,otherB,busyB,fullB,fullE]
 · cases hw:keyB BrV.tid s.waits t<;>simp[missB,otherB,busyB,fullB,fullE,hw]
 · simp[missB,otherB,busyB,fullB,fullE]
 · simp[missB,otherB,busyB,fullB,fullE]
 · simp[missB,otherB,busyB,fullB,fullE]
 · cases hp:pendOf s.noes t with
   | none=>simp[missB,hp]
   | some p=>
    by_cases hm:P.getD 0 0∈p.parts
    · simp at hm;simp[missB,otherB,busyB,fullB,fullE,hp,hm]
    · simp at hm;simp[missB,hp,hm]
open Go.RowKit
def cutN (s:ByteArray) (n:Nat):ByteArray:=⟨(s.data.toList.take n).toArray⟩
theorem cutN_ext (s:ByteArray) (n:Nat):s.extract 0 (min (s.size:Int) (n:Int)).toNat=cutN s n:=by
 refine Go.WideShapes.bytes_inj ?_;rw[ByteArray.data_extract,Array.toList_extract];have e:(min (s.size:Int) (n:Int)).toNat=min s.size n:=by omega
 rw[e];show List.take (min s.size n-0) (List.drop 0 s.data.toList)=s.data.toList.take n;rw[List.drop_zero,Nat.sub_zero];by_cases h:s.size≤n
 · rw[Nat.min_eq_left h,List.take_of_length_le (by simp),List.take_of_length_le (by simpa using h)]
 · rw[Nat.min_eq_right (by omega)]
theorem cut8_calls (s:ByteArray) (n:Nat) (w:World) (hs:s.size≤9223372036854775807) (hn:n≤1000):
 Calls Tryz.prog 45 #[.string s,.int .i64 (n:Int)] w fun e w'=>e=.returned (.string (cutN s n))∧w'=w:=by
 have HC:=η (cutN_ext s n);have hb:0≤min (s.size:Int) (n:Int)∧min (s.size:Int) (n:Int)≤(s.size:Int):=by omega
 go_in;go_wp2;go_ret;exact⟨by rw[←HC.out];rfl,rfl⟩
theorem Tryz.putrow:(Tryz.prog.info? 45).map (fun i=>(i.zero,i.size,i.bytes))=some (some (.agg #[.string ⟨#[]⟩,.string ⟨#[]⟩]),2,32):=by kernel_rfl
def pcells (l:List (ByteArray×ByteArray)):List Value:=l.flatMap fun p=>[.string p.1,.string p.2]
theorem pcells_append (a b:List (ByteArray×ByteArray)):pcells (a++b)=pcells a++pcells b:=by simp[pcells]
theorem step_append_put {ops:Array Oper} {o:Oper} {a:Act} {w:World} {K:Act→World→Prop} {Q:Exit→Act→World→Prop} {E:Prop} (hgd:o.guard=none) (s x:Operand)
 (ho:o.op=.call {callee:=.builtin .append,args:=#[s,x],argTypes:=#[35,35]})
 (v:Value) (l:List (ByteArray×ByteArray)) (hs:a.eval s=v) (hown:w.ownsRow 0 45 2 v l.length (pcells l))
 (A:Nat) (p:ByteArray×ByteArray) (hx:a.eval x=.slice (some ⟨A,0,none⟩) 1 1) (hc0:w.cell? ⟨A,0,none⟩=some (.string p.1)) (hc1:w.cell? ⟨A,1,none⟩=some (.string p.2)) (hb:l.length≤1000000)
 (h:∀v' w',w'.ownsRow 0 45 2 v' (l++[p]).length (pcells (l++[p]))→w.grownBy w' v.ownBlock→(v'.ownBlock=v.ownBlock∨v'.ownBlock=some w.heap.size)→K (a.put o.dst v') w'):
 if Region.wanted o (yielded ops a.tmps)=true then Oper.wp Tryz.prog o a w K Q else E:=by
 have hw:Region.wanted o (yielded ops a.tmps)=true:=by simp[Region.wanted,hgd]
 rw[if_pos hw];obtain⟨i0,hi,hz0,hz1,hz2⟩:=info_parts Tryz.putrow;obtain⟨v',w',hr,h2,h3,h4,h5⟩:=run_append_own_at (P:=Tryz.prog) w 0 35 o.type 45 i0 _ 2 32 Tryz.underlying35 hi hz0 hz1 hz2 rfl (by decide) v l.length (pcells l) hown ⟨A,0,none⟩ 1 1 [.string p.1,.string p.2] rfl
  (fun j u hj=>by
   match j,hj with
   | 0,hj=>simp at hj;rw[←hj,Addr.add_lit];exact hc0
   | 1,hj=>simp at hj;rw[←hj,Addr.add_lit];exact hc1
   | j+2,hj=>simp at hj) (by intro u hu;simp at hu;rcases hu with rfl | rfl<;>rfl) (by unfold maxLen;omega) (by omega) (Nat.zero_le _)
 unfold Oper.wp execOp;simp only[ho,resolve,invoke,builtin,Sem.run_bind,Sem.run_pure,Result.andThen_ok,List.map_toArray,List.map_cons,List.map_nil,hs,hx,hr];exact h v' w' (by rw[List.length_append,pcells_append];exact h2) h3 h5
theorem Tryz.introw:(Tryz.prog.info? 3).map (fun i=>(i.zero,i.size,i.bytes))=some (some (.int .i64 0),1,8):=by kernel_rfl
def i64s (l:List Int):List Value:=l.map (Value.int .i64)
theorem i64s_length (l:List Int):(i64s l).length=l.length:=by simp[i64s]
theorem i64s_append (l l2:List Int):i64s (l++l2)=i64s l++i64s l2:=by simp[i64s]
theorem i64s_one (l:List Int):∀u∈i64s l,u.oneCell'=true:=by
 intro u hu;obtain⟨x,-,rfl⟩:=List.mem_map.1 hu;rfl
def Sr (w:World) (ao:Option Addr) (c:Nat) (l:List Int):Prop:=
 (ao=none∧c=0∧l=[])∨∃A:Addr,ao=some A∧∀j,j<l.length→w.cell? (A.add j)=some (.int .i64 (l.getD j 0))
theorem Sr.cells {w:World} {A:Addr} {l:List Int} (h:∀j,j<l.length→w.cell? (A.add j)=some (.int .i64 (l.getD j 0))):∀j u,(i64s l)[j]?=some u→w.cell? (A.add j)=some u:=by
 intro j u hj;have hjl:j<l.length:=by
  have:=(List.getElem?_eq_some_iff.1 hj).1;rwa[i64s_length]at this
 rw[h j hjl];simp only[i64s,List.getElem?_map]at hj;rw[←hj];simp[List.getD,hjl]
theorem Sr.new (w:World) (x:Int) (t:TypeId):Sr (w.alloc (.cells #[.int .i64 x] t)) (some ⟨w.heap.size,0,none⟩) 1 [x]:=by
 refine .inr ⟨_,rfl,fun j hj=>?_⟩;have:j=0:=by simpa using hj
 subst this;rw[Addr.add_lit,World.cell?_alloc_at (hn:=rfl)];rfl
theorem append_ints {w:World} {ops:Array Oper} {rest:List Oper} {o:Oper} {a:Act} {Q:Exit→Act→World→Prop} (hgd:o.guard=none) (s x:Operand)
 (ho:o.op=.call {callee:=.builtin .append,args:=#[s,x],argTypes:=#[34,34]})
 (v:Value) (l:List Int) (hs:a.eval s=v) (hown:w.ownsRow 0 3 1 v l.length (i64s l))
 (ao:Option Addr) (n2 c:Nat) (l2:List Int) (hn2:n2=l2.length) (hx:a.eval x=.slice ao n2 c) (hsl:Sr w ao c l2)
 (hlen:l.length+l2.length≤1000000)
 (h:∀v' w',w'.ownsRow 0 3 1 v' (l++l2).length (i64s (l++l2))→w.grownBy w' v.ownBlock→(v'.ownBlock=v.ownBlock∨v'.ownBlock=some w.heap.size)→wpList Tryz.prog ops Q rest (a.put o.dst v') w'):wpList Tryz.prog ops Q (o::rest) a w:=by
 obtain⟨i0,hi,hz0,hz1,hz2⟩:=info_parts Tryz.introw;subst hn2;rcases hsl with⟨rfl,rfl,rfl⟩ | ⟨A,rfl,hc⟩
 · refine wpList_append_own_none hgd s x 34 ho 0 3 i0 1 Tryz.underlying34 hi v l.length (i64s l) hs hown hx ?_;exact h v w (by simpa using hown) (World.grownBy.refl _ _) (.inl rfl)
 · refine wpList_append_own_at w hgd s x 34 ho 0 3 i0 (.int .i64 0) 1 8 Tryz.underlying34 hi hz0 hz1 hz2 rfl (by decide) v l.length (i64s l) hs hown A l2.length c (i64s l2) hx (by rw[i64s_length];omega)
    (Sr.cells hc) (i64s_one l2) (by unfold maxLen;omega) (by omega) (Nat.zero_le _) ?_
   intro v' w' hown' hg hn hloc;exact h v' w' (by rw[List.length_append,i64s_append];exact hown') hg hloc
theorem row_form {w:World} {base:Nat} {v:Value} {l:List Int} (h:w.ownsRow base 3 1 v l.length (i64s l)):
 ∃ao cp,v=.slice ao l.length cp∧l.length≤cp∧cp≤maxLen∧((ao=none∧l=[]∧cp=0)∨∃g,ao=some ⟨g,0,none⟩∧base≤g∧g<w.heap.size∧∀j,j<l.length→w.cell? ⟨g,j,none⟩=some (.int .i64 (l.getD j 0))):=by
 rcases h.2 with⟨hv,hl⟩ | ⟨g,cap,cur,hv,hB,hg,h1,h2,h3,h4⟩
 · have:l=[]:=List.eq_nil_of_length_eq_zero hl;subst this;exact⟨none,0,hv,Nat.le_refl _,by unfold maxLen;omega,.inl ⟨rfl,rfl,rfl⟩⟩
 · refine⟨_,cap,hv,h1,h2,.inr ⟨g,rfl,hB,lt_of_heap hg,fun j hj=>?_⟩⟩;have:=h.cells (g:=g) (by rw[hv];rfl) j (.int .i64 (l.getD j 0)) (by simp[i64s,List.getD,hj]);simpa[Addr.add_lit]using this
end Go.Proofs.YtkjpjfghklgdhaaGreat
