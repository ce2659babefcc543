/-
  The law 'postillionlaw10.StoreAll' answers true at every input, and each argument reads behind the call as it read before: for every input, no condition.
-/
import Derived.Test.YtkjpjfghklgdhaaGreatYSallB
import Derived.Test.YtkjpjfghklgdhaaGreatYSallC
import Derived.Test.YtkjpjfghklgdhaaGreatPkBD
import Derived.ShutString

set_option maxHeartbeats 16000000
set_option maxRecDepth 100000
namespace Go.Proofs.YtkjpjfghklgdhaaGreat
open Go.RowKit Go.Proofs.YtkjpjfghklgdhaaGreat.V
theorem Rows.lo {w wz:World} {B lo:Nat} {s:StV} {a:Ads} {LW:List (Lay BrV)} {LO LN:List (Lay PendV)} (h:Rows w B s a LW LO LN) (t:Lo lo w wz) (hB:lo≤B):Rows wz B s a LW LO LN:=
 ⟨h.vw,h.vo,h.vn,t.row h.ms hB,t.row h.ws hB,t.row h.es hB,t.row h.os hB,t.row h.ns hB,h.on,fun x hx=>t.row (h.puts x hx) hB,fun x hx=>t.row (h.parts x hx) hB,h.alone⟩
abbrev Cs (U:StV) (a:Ads):Array Value:=#[.int .i64 U.broker,.int .i64 U.nextId,.int .i64 U.nextSeq,.int .i64 U.tx,.slice a.m U.ms.length a.cm,.slice a.w U.waits.length a.cw,.slice a.e U.ends.length a.ce,.slice a.o U.open_.length a.co,.slice a.n U.noes.length a.cn]
theorem mod8 (x:Int):0≤(x.tmod 8+8).tmod 8∧(x.tmod 8+8).tmod 8<8∧-8<x.tmod 8∧x.tmod 8<8:=by
 have h1:=Int.tmod_lt_of_pos x (b:=8) (by omega);have h2:=Int.lt_tmod_of_pos x (b:=8) (by omega);have h3:=Int.tmod_lt_of_pos (x.tmod 8+8) (b:=8) (by omega);have h4:0≤(x.tmod 8+8).tmod 8:=Int.tmod_nonneg _ (by omega);omega
theorem cut_sz2 (l:List (ByteArray×ByteArray)):∀i,i<((l.take 12).map cutP).length→(((l.take 12).map cutP).getD i putNone).1.size≤9223372036854775807∧(((l.take 12).map cutP).getD i putNone).2.size≤9223372036854775807:=fun i hi=>by
 have h12:∀(s:ByteArray) (n:Nat),n≤100→(cutN s n).size≤9223372036854775807:=fun s n hn=>by
  have:(cutN s n).size=(s.data.toList.take n).length:=by
   show(s.data.toList.take n).toArray.size=_;rw[List.size_toArray]
  rw[this,List.length_take];omega
 have e:∃p,((l.take 12).map cutP).getD i putNone=cutP p:=by
  have hi2:i<(l.take 12).length:=by simpa using hi
  exact⟨(l.take 12)[i],by simp only[List.getD,List.getElem?_map,List.getElem?_eq_getElem hi2];rfl⟩
 obtain⟨p,e⟩:=e;rw[e];exact⟨h12 _ _ (by omega),h12 _ _ (by omega)⟩
theorem copy_ly {w wz:World} {B lo:Nat} {s:StV} {a a1:Ads} {LW:List (Lay BrV)} {LO LN:List (Lay PendV)}
  (rm:w.ownsRow B 49 6 (.slice a1.m s.ms.length a1.cm) s.ms.length (s.ms.flatMap msgC)) (rw_:w.ownsRow B 81 2 (.slice a1.w s.waits.length a1.cw) s.waits.length (LW.flatMap brC)) (re:w.ownsRow B 61 2 (.slice a1.e s.ends.length a1.ce) s.ends.length (s.ends.flatMap endC))
  (ro:w.ownsRow B 65 2 (.slice a1.o s.open_.length a1.co) s.open_.length (LO.flatMap pendC)) (rn:w.ownsRow B 65 2 (.slice a1.n s.noes.length a1.cn) s.noes.length (LN.flatMap pendC)) (lz:Lo lo w wz) (hB:lo≤B) (hx:StLy wz a s LW LO LN):StLy wz a1 s LW LO LN:=by
 have e1:s.waits.length=LW.length:=by rw[←hx.vw,List.length_map]
 have e2:s.open_.length=LO.length:=by rw[←hx.vo,List.length_map]
 have e3:s.noes.length=LN.length:=by rw[←hx.vn,List.length_map]
 rw[e1]at rw_;rw[e2]at ro;rw[e3]at rn;exact⟨hx.vw,hx.vo,hx.vn,Tl.of_own (n:=6) (f:=msgC) (fun _=>rfl) (lz.row rm hB),Tl.of_own (n:=2) (f:=endC) (fun _=>rfl) (lz.row re hB),Tl.of_own (n:=2) (f:=brC) (fun _=>rfl) (lz.row rw_ hB),Tl.of_own (n:=2) (f:=pendC) (fun _=>rfl) (lz.row ro hB),Tl.of_own (n:=2) (f:=pendC) (fun _=>rfl) (lz.row rn hB),hx.iw,hx.io,hx.ie⟩
theorem storeAll_walk {w:World} (br:Int) {ao:Option Addr} {c:Nat} {l:List LayR} (h:Rls w ao c l):
  Calls Tryz.prog 4 #[.int .i64 br,.slice ao l.length c] w fun e w'=>e=.returned (.bool true)∧Below w.heap.size w w':=by
 have HL:=η h;have hlen:=h.len;obtain⟨n,hn⟩:=ε l.length;have HN:=η hn;rw[←hn]at hlen ⊢;have hm8:=mod8 br;have HM8:=η hm8;have hw1:IntKind.i64.wrap (br.tmod 8+8)=br.tmod 8+8:=by rw[IntKind.wrap_i64];omega
 have hw2:IntKind.i64.wrap (1+(br.tmod 8+8).tmod 8)=1+(br.tmod 8+8).tmod 8:=by rw[IntKind.wrap_i64];omega
 have hw3:IntKind.i64.wrap (br.tmod 8)=br.tmod 8:=by rw[IntKind.wrap_i64];omega
 have hw4:IntKind.i64.wrap ((br.tmod 8+8).tmod 8)=(br.tmod 8+8).tmod 8:=by rw[IntKind.wrap_i64];omega
 have HNC:=η stNew_calls;have HRN:=η refNew_calls;clear h hn hm8;go_in;go_wp2_with fail;refine(begun10_calls w).mono ?_;rintro e x1 ⟨rfl,t1⟩;have T1:=η t1;clear t1;go_upto_region 5 with fail
 obtain⟨bk,hbk⟩:=ε (1+(br.tmod 8+8).tmod 8);have HBK:Hid (brokerB bk=true):=η (by unfold brokerB;have:=HM8.out;exact decide_eq_true (by omega));rw[←hbk];clear hw1 hw2 hw3 hw4 hbk;go_wp2_with fail;refine(HNC.out bk x1).mono ?_;rintro e x2 ⟨rfl,si,t2⟩;have T2:=η (T1.out.trans t2);have SI:=η si;clear t2 si T1;go_wp2_with fail;refine(HRN.out bk x2).mono ?_;rintro e x3 ⟨rfl,ri,t3⟩;have T3:=η (T2.out.trans t3);have SI3:=η (SI.out.still t3);have RI3:=η ri;obtain⟨NB,hnb⟩:=ε (newS bk);rw[←hnb]at SI3 RI3 ⊢
 have HEM:Hid (NB.ms=[]∧NB.waits=[]∧NB.ends=[]∧NB.open_=[]∧NB.noes=[]):=η (by
  rw[hnb];unfold newS
  split<;>exact⟨rfl,rfl,rfl,rfl,rfl⟩)
 have HNM:Hid (MayP NB∧Roomy NB):=η (by rw[hnb];exact new_may HBK.out);clear t3 ri hnb SI T2 HNC HRN HM8;unfold StV.cells;go_upto_region 6 with fail
 obtain⟨b,hbd⟩:=ε x3.heap.size;have hb6:=(Turn.alloc [] (x3.alloc (.cells (Cs NB noAds) 27)) (.cells (Cs NB noAds) 27)).heap (heap_alloc_new x3 (.cells (Cs NB noAds) 27));have hb7:=heap_alloc_new (x3.alloc (.cells (Cs NB noAds) 27)) (.cells (Cs NB noAds) 27);rw[show(x3.alloc (.cells (Cs NB noAds) 27)).heap.size=x3.heap.size+1 by simp]at hb7;have ta:=(Turn.alloc [] x3 (.cells (Cs NB noAds) 27)).trans (Turn.alloc [] (x3.alloc (.cells (Cs NB noAds) 27)) (.cells (Cs NB noAds) 27));have T5:=η (T3.out.trans ta);have SI5:=η (SI3.out.still ta);have RI5:=η (RI3.out.still ta);have HSZ:Hid (b+1<((x3.alloc (.cells (Cs NB noAds) 27)).alloc (.cells (Cs NB noAds) 27)).heap.size):=η (by rw[hbd];exact lt_of_heap hb7);have HWB:Hid (w.heap.size≤b):=η (by rw[hbd];exact T3.out.size);generalize (x3.alloc (.cells (Cs NB noAds) 27)).alloc (.cells (Cs NB noAds) 27)=x5 at*;rw[←hbd]at hb6 hb7 ⊢;have HB6:=η hb6;have HB7:=η hb7;clear hb6 hb7 ta hbd T3 SI3 RI3;have KN:Hid (∀wz,StLy wz noAds NB [] [] []):=η (fun wz=>⟨by rw[HEM.out.2.1];rfl,by rw[HEM.out.2.2.2.1];rfl,by rw[HEM.out.2.2.2.2];rfl,by rw[HEM.out.1];exact Tl.nil _ _ _,by rw[HEM.out.2.2.1];exact Tl.nil _ _ _,Tl.nil _ _ _,Tl.nil _ _ _,Tl.nil _ _ _,by simp,by simp,by simp⟩);go_wp2_with fail;go_loopw [8] (fun vi wx=>∃(k:Nat) (S:StV) (a b_:Ads) (LW:List (Lay BrV)) (LO LN:List (Lay PendV)),k≤n∧k≤40∧vi=.int .i64 (k:Int)∧(MayP S∧Roomy S)∧wx.heap[b]?=some (.cells (Cs S a) 27)∧wx.heap[b+1]?=some (.cells (Cs S b_) 27)∧(∀wz,Lo x5.heap.size wx wz→StIs wz a S)∧(∀wz,Lo x5.heap.size wx wz→StLy wz b_ S LW LO LN)∧x5.heap.size≤wx.heap.size∧Turn [] w wx) (fun vi _=>40-(RowKit.intOf vi).toNat)
 case atStart=>
  refine⟨0,NB,noAds,noAds,[],[],[],by omega,by omega,rfl,HNM.out,HB6.out,HB7.out,fun wz _=>(KN.out wz).is,fun wz _=>KN.out wz,Nat.le_refl _,T5.out⟩
 case round=>
  obtain⟨k,S,a,b_,LW,LO,LN,hk,hk40,rfl,hmr,hb6,hb7,ka,kb,hsz,ht⟩:=hrel;have HMR:=η hmr;have H6:=η hb6;have H7:=η hb7;have KA:=η ka;have KB:=η kb;have HXS:=η hsz;have HT:=η ht;clear hmr hb6 hb7 ka kb hsz ht HB6 HB7 HNM SI5 RI5 KN HEM T5;by_cases hlt:k<n∧k<40
  · obtain⟨hlt1,hlt2⟩:=hlt;have r1:(k:Int)<(n:Int):=by omega
    have r2:(k:Int)<40:=by omega
    have hkl:k<l.length:=by rw[←HN.out];exact hlt1
    have hne:l≠[]:=by intro e;rw[e]at hkl;simp at hkl
    obtain⟨g,off,hao,hat⟩:=HL.out.at hne;have hok:=HL.out.2 k hkl;have hc:=hat k hkl;obtain⟨⟨⟨k0,t0,d0,y0,P0,Q0⟩,ap,cp,aq,cq⟩,hx⟩:∃x,x=l.getD k layNone:=⟨_,rfl⟩
    rw[←hx]at hok hc;have q0:=HT.out.cell (hc 0 _ rfl);have q1:=HT.out.cell (hc 1 _ rfl);have q2:=HT.out.cell (hc 2 _ rfl);have q3:=HT.out.cell (hc 3 _ rfl);have q4:=HT.out.cell (hc 4 _ rfl);have q5:=HT.out.cell (hc 5 _ rfl);dsimp only at q0 q1 q2 q3 q4 q5;rw[Nat.add_zero]at q0;have CR:=lawRecord_calls (⟨k0,t0,d0,y0,P0,Q0⟩:RecV) (hok.p.turn HT.out) (hok.q.turn HT.out);have HNUM:=η (Il.nums hok.p);have HOK:Hid (okI t0∧okI d0):=η ⟨hok.t,hok.d⟩;unfold RecV.cells recCut at CR;dsimp only at CR HNUM;obtain⟨np0,hnp0⟩:=ε P0.length;obtain⟨nq0,hnq0⟩:=ε Q0.length;rw[←hnp0]at q4 CR;rw[←hnq0]at q5 CR;replace CR:=η CR;have hbk:0≤(k:Int)∧(k:Int)<(n:Int):=by omega
    rw[hao];have HAO:=η hao;clear hat hok hc hx hne hkl hnp0 hnq0 hao;go_upto_region 9 with fail
    go_wp2_with fail;clear q0 q1 q2 q3 q4 q5;refine CR.out.mono ?_;rintro e z1 ⟨ap1,cp1,aq1,cq1,rfl,rp,rq,lp,lq,t1⟩;obtain⟨P1,hP1⟩:=ε (P0.take 9);obtain⟨Q1,hQ1⟩:=ε ((Q0.take 12).map cutP);have HNP:Hid (∀m∈P1,-9223372036854775808≤m∧m≤9223372036854775807):=η (by rw[hP1];exact fun m hm=>HNUM.out m (List.mem_of_mem_take hm));have HSQ:Hid (∀i,i<Q1.length→(Q1.getD i putNone).1.size≤9223372036854775807∧(Q1.getD i putNone).2.size≤9223372036854775807):=η (by rw[hQ1];exact cut_sz2 Q0);rw[←hP1]at rp lp ⊢;rw[←hQ1]at rq lq ⊢;have KP:Hid (∀wz,Lo x5.heap.size z1 wz→Il wz ap1 cp1 P1∧Ps wz aq1 cq1 Q1):=η (fun wz lz=>⟨own_il (row_own10 (lz.row (ownsRow_base rp lp) HXS.out) (Nat.zero_le _)) HNP.out,own_ps (row_own10 (lz.row (ownsRow_base rq lq) HXS.out) (Nat.zero_le _)) HSQ.out⟩);have ta:=Turn.alloc [] z1 (.cells #[.int .i64 k0,.int .i64 t0,.int .i64 d0,.bool y0,.slice ap1 P1.length cp1,.slice aq1 Q1.length cq1] 37);have HB9:=η (heap_alloc_new z1 (.cells #[.int .i64 k0,.int .i64 t0,.int .i64 d0,.bool y0,.slice ap1 P1.length cp1,.slice aq1 Q1.length cq1] 37));have TZ2:=η (t1.trans ta);have LZ12:Hid (Lo x5.heap.size z1 (z1.alloc (.cells #[.int .i64 k0,.int .i64 t0,.int .i64 d0,.bool y0,.slice ap1 P1.length cp1,.slice aq1 Q1.length cq1] 37))):=η (Lo.nil ta);clear hP1 hQ1 rp rq lp lq HNUM CR ta t1;go_upto_region 10 with fail
    generalize z1.alloc (.cells #[.int .i64 k0,.int .i64 t0,.int .i64 d0,.bool y0,.slice ap1 P1.length cp1,.slice aq1 Q1.length cq1] 37)=z2 at*;obtain⟨b9,hb9⟩:=ε z1.heap.size;rw[←hb9]at HB9 ⊢;have H72:=η (TZ2.out.heap H7.out);have H62:=η (TZ2.out.heap H6.out);have SB2:=η (KB.out z2 (Lo.nil TZ2.out));clear hb9;have CC:=refCopy_calls SB2.out.vw SB2.out.vo SB2.out.vn SB2.out.ms.tx SB2.out.tw.tx SB2.out.ends.tx SB2.out.tk.tx SB2.out.tn.tx (by have:=HMR.out.1.lms;omega) (by have:=HMR.out.1.lwaits;rw[←SB2.out.vw,List.length_map]at this;omega) (by have:=HMR.out.1.lends;omega) (by have:=HMR.out.1.lopen;rw[←SB2.out.vo,List.length_map]at this;omega) (by have:=HMR.out.1.lnoes;rw[←SB2.out.vn,List.length_map]at this;omega);unfold StV.cells at CC;replace CC:=η CC;obtain⟨c0,c1,c2,c3,c4,c5,c6,c7,c8⟩:=nine_of H72.out;go_wp2_with fail;clear c0 c1 c2 c3 c4 c5 c6 c7 c8;refine CC.out.mono ?_;rintro e z3 ⟨a10,rfl,rm,rw_,re,ro,rn,-,t3⟩;have KC:Hid (∀wz,Lo x5.heap.size z3 wz→StLy wz b_ S LW LO LN→StLy wz a10 S LW LO LN):=η (fun wz lz hx=>copy_ly rm rw_ re ro rn lz (Nat.le_trans HXS.out TZ2.out.size) hx);have TZ3:=η (TZ2.out.trans t3);have HX3:Hid (x5.heap.size≤z3.heap.size):=η (Nat.le_trans HXS.out TZ3.out.size);have H93:=η (t3.heap HB9.out);have H73:=η (t3.heap H72.out);have H63:=η (t3.heap H62.out);have ta:=Turn.alloc [] z3 (.cells (Cs S a10) 27);have LZ34:Hid (Lo x5.heap.size z3 (z3.alloc (.cells (Cs S a10) 27))):=η (Lo.nil ta);have TZ4:=η (TZ3.out.trans ta);have H10:=η (heap_alloc_new z3 (.cells (Cs S a10) 27));have H94:=η (ta.heap H93.out);have H74:=η (ta.heap H73.out);have H64:=η (ta.heap H63.out);have LZ14:Hid (Lo x5.heap.size z1 (z3.alloc (.cells (Cs S a10) 27))):=η (LZ12.out.trans (Lo.nil (t3.trans ta)));clear rm rw_ re ro rn t3 ta CC SB2 H72 H62 H93 H73 H63 HB9 TZ2 TZ3 LZ12;go_upto_region 11 with fail
    generalize z3.alloc (.cells (Cs S a10) 27)=z4 at*;obtain⟨b10,hb10⟩:=ε z3.heap.size;have HL10:Hid (x5.heap.size≤b10):=η (by rw[hb10];exact HX3.out);rw[←hb10]at H10 ⊢;clear hb10;obtain⟨ce,hce⟩:=ε (canE S ⟨k0,t0,d0,y0,P1,Q1⟩)
    have FC1:Hid (∀wx,Turn [] z4 wx→Calls Tryz.prog 26 #[.agg (Cs S a),.agg #[.int .i64 k0,.int .i64 t0,.int .i64 d0,.bool y0,.slice ap1 P1.length cp1,.slice aq1 Q1.length cq1]] wx fun e w'=>e=.returned (.int .i64 ce)∧Turn [] wx w'):=η (fun wx tt=>by
     have C:=can_calls (KA.out wx (Lo.nil (TZ4.out.trans tt))) HMR.out.1 ⟨k0,t0,d0,y0,P1,Q1⟩ ap1 aq1 cp1 cq1 (KP.out wx (LZ14.out.trans (Lo.nil tt))).1 (KP.out wx (LZ14.out.trans (Lo.nil tt))).2 HOK.out.1 HOK.out.2;rw[hce]
     exact C)
    have FC2:Hid (∀wx,Turn [] z4 wx→Calls Tryz.prog 27 #[.agg (Cs S b_),.agg #[.int .i64 k0,.int .i64 t0,.int .i64 d0,.bool y0,.slice ap1 P1.length cp1,.slice aq1 Q1.length cq1]] wx fun e w'=>e=.returned (.int .i64 ce)∧Turn [] wx w'):=η (fun wx tt=>by
     have C:=refCan_calls (KB.out wx (Lo.nil (TZ4.out.trans tt))).is HMR.out.1 ⟨k0,t0,d0,y0,P1,Q1⟩ ap1 aq1 cp1 cq1 (KP.out wx (LZ14.out.trans (Lo.nil tt))).1 (KP.out wx (LZ14.out.trans (Lo.nil tt))).2;rw[hce]
     exact C)
    have F1:=η (Tw.call FC1.out);have F2:=η (Tw.call FC2.out);clear hce FC1 FC2;obtain⟨c0,c1,c2,c3,c4,c5,c6,c7,c8⟩:=nine_of H64.out;obtain⟨e0,e1,e2,e3,e4,e5,e6,e7,e8⟩:=nine_of H74.out;obtain⟨g0,g1,g2,g3,g4,g5⟩:=six_ofA H94.out;replace c0:=fun p:Tw z4=>p.cell c0
    replace c1:=fun p:Tw z4=>p.cell c1
    replace c2:=fun p:Tw z4=>p.cell c2
    replace c3:=fun p:Tw z4=>p.cell c3
    replace c4:=fun p:Tw z4=>p.cell c4
    replace c5:=fun p:Tw z4=>p.cell c5
    replace c6:=fun p:Tw z4=>p.cell c6
    replace c7:=fun p:Tw z4=>p.cell c7
    replace c8:=fun p:Tw z4=>p.cell c8
    replace e0:=fun p:Tw z4=>p.cell e0
    replace e1:=fun p:Tw z4=>p.cell e1
    replace e2:=fun p:Tw z4=>p.cell e2
    replace e3:=fun p:Tw z4=>p.cell e3
    replace e4:=fun p:Tw z4=>p.cell e4
    replace e5:=fun p:Tw z4=>p.cell e5
    replace e6:=fun p:Tw z4=>p.cell e6
    replace e7:=fun p:Tw z4=>p.cell e7
    replace e8:=fun p:Tw z4=>p.cell e8
    replace g0:=fun p:Tw z4=>p.cell g0
    replace g1:=fun p:Tw z4=>p.cell g1
    replace g2:=fun p:Tw z4=>p.cell g2
    replace g3:=fun p:Tw z4=>p.cell g3
    replace g4:=fun p:Tw z4=>p.cell g4
    replace g5:=fun p:Tw z4=>p.cell g5
    refine quiet_turn (by kernel_rfl) (by kernel_rfl) ?_
    repeat (go_big_quiet_step (first | (go_at_call 26;with_reducible exact F1.out _) | (go_at_call 27;with_reducible exact F2.out _)))
    refine wpQuiet_nil ?_;rintro wp ⟨⟨_,tp⟩,rfl⟩;clear c0 c1 c2 c3 c4 c5 c6 c7 c8 e0 e1 e2 e3 e4 e5 e6 e7 e8 g0 g1 g2 g3 g4 g5 F1 F2;have TZ5:=η (TZ4.out.trans tp);have LZ15:Hid (Lo x5.heap.size z1 wp):=η (LZ14.out.trans (Lo.nil tp));have LZ35:Hid (Lo x5.heap.size z3 wp):=η (LZ34.out.trans (Lo.nil tp));have H95:=η (tp.heap H94.out);have H75:=η (tp.heap H74.out);have H65:=η (tp.heap H64.out);have H105:=η (tp.heap H10.out);clear tp TZ4 LZ14 LZ34 H94 H74 H64 H10;obtain⟨w5,hw5⟩:=ε wp;subst hw5;have CA:=stApply_calls (KA.out w5 (Lo.nil TZ5.out)) HMR.out.1.fit HMR.out.1.few ⟨k0,t0,d0,y0,P1,Q1⟩ ap1 aq1 cp1 cq1 (KP.out w5 LZ15.out).1 (KP.out w5 LZ15.out).2 HOK.out.1 HOK.out.2;obtain⟨U,hU⟩:=ε (applyS S ⟨k0,t0,d0,y0,P1,Q1⟩);have HMU:Hid (MayP U∧Roomy U):=η (by rw[hU];exact applyS_may _ HMR.out.1 HMR.out.2);have HU:=η hU;rw[←hU]at CA;unfold StV.cells RecV.cells at CA;dsimp only at CA;replace CA:=η CA;clear hU;obtain⟨c0,c1,c2,c3,c4,c5,c6,c7,c8⟩:=nine_of H65.out;obtain⟨g0,g1,g2,g3,g4,g5⟩:=six_ofA H95.out;go_wp2_with fail;clear c0 c1 c2 c3 c4 c5 c6 c7 c8 g0 g1 g2 g3 g4 g5;refine CA.out.mono ?_;rintro e z6 ⟨a11,MW,MO,MN,rfl,rr,t6⟩;have RR:=η rr;have ta:=Turn.alloc [] z6 (.cells (Cs U a11) 27);have TZ7:=η ((TZ5.out.trans t6).trans ta);have LZ67:Hid (Lo x5.heap.size z6 (z6.alloc (.cells (Cs U a11) 27))):=η (Lo.nil ta);have LZ17:Hid (Lo x5.heap.size z1 (z6.alloc (.cells (Cs U a11) 27))):=η (LZ15.out.trans (Lo.nil (t6.trans ta)));have LZ37:Hid (Lo x5.heap.size z3 (z6.alloc (.cells (Cs U a11) 27))):=η (LZ35.out.trans (Lo.nil (t6.trans ta)));have T65:Hid (w5.heap.size≤z6.heap.size):=η t6.size;have HX6:Hid (x5.heap.size≤w5.heap.size):=η (Nat.le_trans HXS.out TZ5.out.size);have H11:=η (heap_alloc_new z6 (.cells (Cs U a11) 27));have H97:=η ((t6.trans ta).heap H95.out);have H77:=η ((t6.trans ta).heap H75.out);have H67:=η ((t6.trans ta).heap H65.out);have H107:=η ((t6.trans ta).heap H105.out);clear rr t6 ta CA H95 H75 H65 H105 TZ5 LZ15 LZ35;go_upto_region 14 with fail
    generalize z6.alloc (.cells (Cs U a11) 27)=z7 at*;obtain⟨b11,hb11⟩:=ε z6.heap.size;have HL11:Hid (x5.heap.size≤b11):=η (by rw[hb11];exact Nat.le_trans HX6.out T65.out);rw[←hb11]at H11 ⊢;clear hb11;have CB:=refApply_calls (KB.out z7 (Lo.nil TZ7.out)) HMR.out.1 ⟨k0,t0,d0,y0,P1,Q1⟩ ap1 aq1 cp1 cq1 (KP.out z7 LZ17.out).1 (KP.out z7 LZ17.out).2;rw[←HU.out]at CB;unfold StV.cells RecV.cells at CB;dsimp only at CB;replace CB:=η CB;obtain⟨c0,c1,c2,c3,c4,c5,c6,c7,c8⟩:=nine_of H77.out;obtain⟨g0,g1,g2,g3,g4,g5⟩:=six_ofA H97.out;go_wp2_with fail;clear c0 c1 c2 c3 c4 c5 c6 c7 c8 g0 g1 g2 g3 g4 g5;refine CB.out.mono ?_;rintro e z8 ⟨a14,MW2,MO2,MN2,rfl,up8,t8⟩;have UP8:=η up8;have H78:=η (t8.heap H77.out);have H68:=η (t8.heap H67.out);have H118:=η (t8.heap H11.out);have H108:=η (t8.heap H107.out);have HX7:Hid (x5.heap.size≤z7.heap.size):=η (Nat.le_trans HXS.out TZ7.out.size);have TZ8:=η (TZ7.out.trans t8);have LZ78:Hid (Lo x5.heap.size z7 z8):=η (Lo.nil t8);clear up8 t8 CB H77 H67 H11 H107 H97;obtain⟨c0,c1,c2,c3,c4,c5,c6,c7,c8⟩:=nine_of H78.out;have fr:∀j,z8.frozen? ⟨b+1,j,none⟩=false:=fun j=>unfrozen_of H78.out
    go_upto_region 15 with fail
    clear c0 c1 c2 c3 c4 c5 c6 c7 c8 fr;have TS:=nine_turn z8 (b+1) (.int .i64 U.broker) (.int .i64 U.nextId) (.int .i64 U.nextSeq) (.int .i64 U.tx) (.slice a14.m U.ms.length a14.cm) (.slice a14.w U.waits.length a14.cw) (.slice a14.e U.ends.length a14.ce) (.slice a14.o U.open_.length a14.co) (.slice a14.n U.noes.length a14.cn);have H79:=η (nine_heapC H78.out (.int .i64 U.broker) (.int .i64 U.nextId) (.int .i64 U.nextSeq) (.int .i64 U.tx) (.slice a14.m U.ms.length a14.cm) (.slice a14.w U.waits.length a14.cw) (.slice a14.e U.ends.length a14.ce) (.slice a14.o U.open_.length a14.co) (.slice a14.n U.noes.length a14.cn));unfold nine at TS H79;have HBL:Hid (b<b10∧b<b11∧b+1<b10∧b+1<b11):=η (by have:=HL10.out;have:=HL11.out;have:=HSZ.out;omega);have H69:=η (TS.heap H68.out (by rw[List.mem_singleton];omega));have H119:=η (TS.heap H118.out (by rw[List.mem_singleton];have:=HBL.out;omega));have H109:=η (TS.heap H108.out (by rw[List.mem_singleton];have:=HBL.out;omega));have T9:Hid (Turn [] w (((((((((z8.setCell ⟨b+1,0,none⟩ (.int .i64 U.broker)).setCell ⟨b+1,1,none⟩ (.int .i64 U.nextId)).setCell ⟨b+1,2,none⟩ (.int .i64 U.nextSeq)).setCell ⟨b+1,3,none⟩ (.int .i64 U.tx)).setCell ⟨b+1,4,none⟩ (.slice a14.m U.ms.length a14.cm)).setCell ⟨b+1,5,none⟩ (.slice a14.w U.waits.length a14.cw)).setCell ⟨b+1,6,none⟩ (.slice a14.e U.ends.length a14.ce)).setCell ⟨b+1,7,none⟩ (.slice a14.o U.open_.length a14.co)).setCell ⟨b+1,8,none⟩ (.slice a14.n U.noes.length a14.cn))):=η ((HT.out.trans TZ8.out).trans TS (fun i hi=>.inr (by simp at hi;have:=HWB.out;omega)));have LS:=η (Lo.one (lo:=x5.heap.size) TS HSZ.out);have LZ89:Hid (Lo x5.heap.size z7 (((((((((z8.setCell ⟨b+1,0,none⟩ (.int .i64 U.broker)).setCell ⟨b+1,1,none⟩ (.int .i64 U.nextId)).setCell ⟨b+1,2,none⟩ (.int .i64 U.nextSeq)).setCell ⟨b+1,3,none⟩ (.int .i64 U.tx)).setCell ⟨b+1,4,none⟩ (.slice a14.m U.ms.length a14.cm)).setCell ⟨b+1,5,none⟩ (.slice a14.w U.waits.length a14.cw)).setCell ⟨b+1,6,none⟩ (.slice a14.e U.ends.length a14.ce)).setCell ⟨b+1,7,none⟩ (.slice a14.o U.open_.length a14.co)).setCell ⟨b+1,8,none⟩ (.slice a14.n U.noes.length a14.cn))):=η (LZ78.out.trans LS.out);have LZ69:Hid (Lo x5.heap.size z6 (((((((((z8.setCell ⟨b+1,0,none⟩ (.int .i64 U.broker)).setCell ⟨b+1,1,none⟩ (.int .i64 U.nextId)).setCell ⟨b+1,2,none⟩ (.int .i64 U.nextSeq)).setCell ⟨b+1,3,none⟩ (.int .i64 U.tx)).setCell ⟨b+1,4,none⟩ (.slice a14.m U.ms.length a14.cm)).setCell ⟨b+1,5,none⟩ (.slice a14.w U.waits.length a14.cw)).setCell ⟨b+1,6,none⟩ (.slice a14.e U.ends.length a14.ce)).setCell ⟨b+1,7,none⟩ (.slice a14.o U.open_.length a14.co)).setCell ⟨b+1,8,none⟩ (.slice a14.n U.noes.length a14.cn))):=η (LZ67.out.trans LZ89.out);have LZ39:Hid (Lo x5.heap.size z3 (((((((((z8.setCell ⟨b+1,0,none⟩ (.int .i64 U.broker)).setCell ⟨b+1,1,none⟩ (.int .i64 U.nextId)).setCell ⟨b+1,2,none⟩ (.int .i64 U.nextSeq)).setCell ⟨b+1,3,none⟩ (.int .i64 U.tx)).setCell ⟨b+1,4,none⟩ (.slice a14.m U.ms.length a14.cm)).setCell ⟨b+1,5,none⟩ (.slice a14.w U.waits.length a14.cw)).setCell ⟨b+1,6,none⟩ (.slice a14.e U.ends.length a14.ce)).setCell ⟨b+1,7,none⟩ (.slice a14.o U.open_.length a14.co)).setCell ⟨b+1,8,none⟩ (.slice a14.n U.noes.length a14.cn))):=η (LZ37.out.trans LZ89.out);have LZr9:Hid (Lo x5.heap.size wr (((((((((z8.setCell ⟨b+1,0,none⟩ (.int .i64 U.broker)).setCell ⟨b+1,1,none⟩ (.int .i64 U.nextId)).setCell ⟨b+1,2,none⟩ (.int .i64 U.nextSeq)).setCell ⟨b+1,3,none⟩ (.int .i64 U.tx)).setCell ⟨b+1,4,none⟩ (.slice a14.m U.ms.length a14.cm)).setCell ⟨b+1,5,none⟩ (.slice a14.w U.waits.length a14.cw)).setCell ⟨b+1,6,none⟩ (.slice a14.e U.ends.length a14.ce)).setCell ⟨b+1,7,none⟩ (.slice a14.o U.open_.length a14.co)).setCell ⟨b+1,8,none⟩ (.slice a14.n U.noes.length a14.cn))):=η ((Lo.nil TZ8.out).trans LS.out);have HX9:Hid (x5.heap.size≤(((((((((z8.setCell ⟨b+1,0,none⟩ (.int .i64 U.broker)).setCell ⟨b+1,1,none⟩ (.int .i64 U.nextId)).setCell ⟨b+1,2,none⟩ (.int .i64 U.nextSeq)).setCell ⟨b+1,3,none⟩ (.int .i64 U.tx)).setCell ⟨b+1,4,none⟩ (.slice a14.m U.ms.length a14.cm)).setCell ⟨b+1,5,none⟩ (.slice a14.w U.waits.length a14.cw)).setCell ⟨b+1,6,none⟩ (.slice a14.e U.ends.length a14.ce)).setCell ⟨b+1,7,none⟩ (.slice a14.o U.open_.length a14.co)).setCell ⟨b+1,8,none⟩ (.slice a14.n U.noes.length a14.cn)).heap.size):=η (Nat.le_trans (Nat.le_trans HXS.out TZ8.out.size) TS.size);clear TS H78 H68 H118 H108 TZ7 TZ8 LZ78 LZ67 LZ37 LZ17;generalize ((((((((z8.setCell ⟨b+1,0,none⟩ (.int .i64 U.broker)).setCell ⟨b+1,1,none⟩ (.int .i64 U.nextId)).setCell ⟨b+1,2,none⟩ (.int .i64 U.nextSeq)).setCell ⟨b+1,3,none⟩ (.int .i64 U.tx)).setCell ⟨b+1,4,none⟩ (.slice a14.m U.ms.length a14.cm)).setCell ⟨b+1,5,none⟩ (.slice a14.w U.waits.length a14.cw)).setCell ⟨b+1,6,none⟩ (.slice a14.e U.ends.length a14.ce)).setCell ⟨b+1,7,none⟩ (.slice a14.o U.open_.length a14.co)).setCell ⟨b+1,8,none⟩ (.slice a14.n U.noes.length a14.cn)=z9 at*;have SU:Hid (∀wx,Turn [] z9 wx→StIs wx a11 U):=η (fun wx tt=>(RR.out.lo (LZ69.out.trans (Lo.nil tt)) HX6.out).is HMU.out.1.deep);have SV:Hid (∀wz,Lo x5.heap.size z9 wz→StLy wz a14 U MW2 MO2 MN2):=η (fun wz lz=>UP8.out wz ((LS.out.trans lz).mono HX7.out) (KB.out wz (LZr9.out.trans lz)));have SC:Hid (∀wx,Turn [] z9 wx→StIs wx a10 S):=η (fun wx tt=>(KC.out wx (LZ39.out.trans (Lo.nil tt)) (KB.out wx (LZr9.out.trans (Lo.nil tt)))).is);have SA1:Hid (∀wx,Turn [] z9 wx→StIs wx a S):=η (fun wx tt=>KA.out wx (LZr9.out.trans (Lo.nil tt)))
    have E1:Hid (∀wx,Turn [] z9 wx→Calls Tryz.prog 21 #[.agg (Cs U a11),.agg (Cs U a14)] wx fun e w'=>e=.returned (.bool true)∧Turn [] wx w'):=η (fun wx tt=>by
     have C:=refEq_calls (SU.out wx tt) (SV.out wx (Lo.nil tt)).is
     rwa[(eqStB_iff U U).2 rfl]at C)
    have E2:Hid (∀wx,Turn [] z9 wx→Calls Tryz.prog 21 #[.agg (Cs S a),.agg (Cs S a10)] wx fun e w'=>e=.returned (.bool true)∧Turn [] wx w'):=η (fun wx tt=>by
     have C:=refEq_calls (SA1.out wx tt) (SC.out wx tt)
     rwa[(eqStB_iff S S).2 rfl]at C)
    have E3:Hid (∀wx,Turn [] z9 wx→Calls Tryz.prog 18 #[.agg (Cs U a11)] wx fun e w'=>e=.returned (.bool true)∧Turn [] wx w'):=η (fun wx tt=>by
     have C:=may_calls (SU.out wx tt) HMU.out.1.fit
     rwa[mayB_iff.2 HMU.out.1]at C)
    obtain⟨c0,c1,c2,c3,c4,c5,c6,c7,c8⟩:=nine_of H119.out;obtain⟨e0,e1,e2,e3,e4,e5,e6,e7,e8⟩:=nine_of H79.out;go_wp2_with fail;clear c0 c1 c2 c3 c4 c5 c6 c7 c8 e0 e1 e2 e3 e4 e5 e6 e7 e8;refine(E1.out _ (Turn.refl _ _)).mono ?_;rintro e y1 ⟨rfl,u1⟩;obtain⟨c0,c1,c2,c3,c4,c5,c6,c7,c8⟩:=nine_of (u1.heap H69.out);obtain⟨e0,e1,e2,e3,e4,e5,e6,e7,e8⟩:=nine_of (u1.heap H109.out);have U1:=η u1;clear u1;go_wp2_with fail;clear c0 c1 c2 c3 c4 c5 c6 c7 c8 e0 e1 e2 e3 e4 e5 e6 e7 e8;refine(E2.out _ U1.out).mono ?_;rintro e y2 ⟨rfl,u2⟩;have U2:=η (U1.out.trans u2);clear u2 U1;obtain⟨c0,c1,c2,c3,c4,c5,c6,c7,c8⟩:=nine_of (U2.out.heap H119.out);go_wp2_with fail;clear c0 c1 c2 c3 c4 c5 c6 c7 c8;refine(E3.out _ U2.out).mono ?_;rintro e y3 ⟨rfl,u3⟩;have U3:=η (U2.out.trans u3);clear u3 U2 E1 E2 E3;have H113:=η (U3.out.heap H119.out);have H73:=η (U3.out.heap H79.out);have H63:=η (U3.out.heap H69.out);obtain⟨c0,c1,c2,c3,c4,c5,c6,c7,c8⟩:=nine_of H113.out;obtain⟨e0,e1,e2,e3,e4,e5,e6,e7,e8⟩:=nine_of H63.out;have fr:∀j,y3.frozen? ⟨b,j,none⟩=false:=fun j=>unfrozen_of H63.out
    go_wp2_with fail;clear c0 c1 c2 c3 c4 c5 c6 c7 c8 e0 e1 e2 e3 e4 e5 e6 e7 e8 fr;have TS:=nine_turn y3 b (.int .i64 U.broker) (.int .i64 U.nextId) (.int .i64 U.nextSeq) (.int .i64 U.tx) (.slice a11.m U.ms.length a11.cm) (.slice a11.w U.waits.length a11.cw) (.slice a11.e U.ends.length a11.ce) (.slice a11.o U.open_.length a11.co) (.slice a11.n U.noes.length a11.cn);have HF:=η (nine_heapC H63.out (.int .i64 U.broker) (.int .i64 U.nextId) (.int .i64 U.nextSeq) (.int .i64 U.tx) (.slice a11.m U.ms.length a11.cm) (.slice a11.w U.waits.length a11.cw) (.slice a11.e U.ends.length a11.ce) (.slice a11.o U.open_.length a11.co) (.slice a11.n U.noes.length a11.cn));unfold nine at TS HF;have HF7:=η (TS.heap H73.out (by rw[List.mem_singleton];omega));have LF:=η (Lo.one (lo:=x5.heap.size) TS (by have:=HSZ.out;omega));have L9F:Hid (Lo x5.heap.size z9 (((((((((y3.setCell ⟨b,0,none⟩ (.int .i64 U.broker)).setCell ⟨b,1,none⟩ (.int .i64 U.nextId)).setCell ⟨b,2,none⟩ (.int .i64 U.nextSeq)).setCell ⟨b,3,none⟩ (.int .i64 U.tx)).setCell ⟨b,4,none⟩ (.slice a11.m U.ms.length a11.cm)).setCell ⟨b,5,none⟩ (.slice a11.w U.waits.length a11.cw)).setCell ⟨b,6,none⟩ (.slice a11.e U.ends.length a11.ce)).setCell ⟨b,7,none⟩ (.slice a11.o U.open_.length a11.co)).setCell ⟨b,8,none⟩ (.slice a11.n U.noes.length a11.cn))):=η ((Lo.nil U3.out).trans LF.out);have TF:Hid (Turn [] w (((((((((y3.setCell ⟨b,0,none⟩ (.int .i64 U.broker)).setCell ⟨b,1,none⟩ (.int .i64 U.nextId)).setCell ⟨b,2,none⟩ (.int .i64 U.nextSeq)).setCell ⟨b,3,none⟩ (.int .i64 U.tx)).setCell ⟨b,4,none⟩ (.slice a11.m U.ms.length a11.cm)).setCell ⟨b,5,none⟩ (.slice a11.w U.waits.length a11.cw)).setCell ⟨b,6,none⟩ (.slice a11.e U.ends.length a11.ce)).setCell ⟨b,7,none⟩ (.slice a11.o U.open_.length a11.co)).setCell ⟨b,8,none⟩ (.slice a11.n U.noes.length a11.cn))):=η ((T9.out.trans U3.out).trans TS (fun i hi=>.inr (by simp at hi;have:=HWB.out;omega)));have HXF:Hid (x5.heap.size≤(((((((((y3.setCell ⟨b,0,none⟩ (.int .i64 U.broker)).setCell ⟨b,1,none⟩ (.int .i64 U.nextId)).setCell ⟨b,2,none⟩ (.int .i64 U.nextSeq)).setCell ⟨b,3,none⟩ (.int .i64 U.tx)).setCell ⟨b,4,none⟩ (.slice a11.m U.ms.length a11.cm)).setCell ⟨b,5,none⟩ (.slice a11.w U.waits.length a11.cw)).setCell ⟨b,6,none⟩ (.slice a11.e U.ends.length a11.ce)).setCell ⟨b,7,none⟩ (.slice a11.o U.open_.length a11.co)).setCell ⟨b,8,none⟩ (.slice a11.n U.noes.length a11.cn)).heap.size):=η (Nat.le_trans HX9.out (Nat.le_trans U3.out.size TS.size));clear TS LF;exact⟨⟨k+1,U,a11,a14,MW2,MO2,MN2,by omega,by omega,by go_num,HMU.out,HF.out,HF7.out,fun wz lz=>(RR.out.lo (LZ69.out.trans (L9F.out.trans lz)) HX6.out).is HMU.out.1.deep,fun wz lz=>SV.out wz (L9F.out.trans lz),HXF.out,TF.out⟩,by simp[RowKit.intOf];omega⟩
  · have hout:decide (k<n)=false∨decide (k<40)=false:=by
     by_cases h1:k<n
     · exact .inr (decide_eq_false (fun h2=>hlt ⟨h1,h2⟩))
     · exact .inl (decide_eq_false h1)
    rcases hout with ho | ho
    · have r1:¬(k:Int)<(n:Int):=by have:=of_decide_eq_false ho;omega
      clear ho;go_wp2_with fail;go_ret;exact⟨rfl,HT.out.belowAll⟩
    · have r2:¬(k:Int)<40:=by have:=of_decide_eq_false ho;omega
      by_cases h1:k<n
      · have r1:(k:Int)<(n:Int):=by omega
        clear ho;go_wp2_with fail;go_ret;exact⟨rfl,HT.out.belowAll⟩
      · have r1:¬(k:Int)<(n:Int):=by omega
        clear ho;go_wp2_with fail;go_ret;exact⟨rfl,HT.out.belowAll⟩
end Go.Proofs.YtkjpjfghklgdhaaGreat

set_option maxRecDepth 100000
namespace Go.Proofs.YtkjpjfghklgdhaaGreat.storeAll
open Go.ChangeShapes Go.WideShapes Go.ChangeAt Go.RowKit
open Go.ChangeMaps (open_string shut_string)
set_option linter.unusedVariables false
theorem own:ownKnob Tryz.prog.godebug=none:=by kernel_rfl
theorem laidOut:laidOutB Tryz.prog=true:=closed.p_laidOutB
theorem lifted (os:Os) (started:os.Started) (H:Type) (enc:TypeId×Value→H):
  ReturnsInHanded {} Tryz.checked os 4 .any (Rows.storeAllSpec.pre6 enc Tryz.prog Tryz.f4 Rows.storeAllRow.domain false) (Rows.storeAllSpec.post enc Tryz.prog Tryz.f4 false true false false):=by
 refine returnsInHanded_of_change (C:=Tryz.checked) own started (by kernel_rfl) Tryz.func4
  (ChangeSpec.witness6 (enc:=enc) (C:=Tryz.checked) false ⟨#[],#[.int .i64 0,.slice none 0 0],[]⟩ 8 (by kernel_rfl) (by kernel_rfl) (by kernel_rfl) (by kernel_rfl)) ?_
 intro W base args ds gs before hval0 hW hcnd _;have hval:∀(j:Nat) t v,Tryz.f4.params[j]?=some t→args[j]?=some v→Value.okWide Tryz.prog W .any base t v:=hval0;have hW':=hW;obtain⟨p,q,hA0,hV,rfl,hfz,hnd⟩:=hW;have hA:DataW.TrodAll enc Tryz.prog W 0 (fun _=>true) true Tryz.f4.params.toList args.toList ds p:=hA0;rw[Tryz.params4]at hA hval;obtain⟨v0,vs0,d0,ds0,p0,q0,hargs,rfl,rfl,h0,r0⟩:=trodAll_cons hA;obtain⟨v1,vs1,d1,ds1,p1,q1,rfl,rfl,rfl,h1,r1⟩:=trodAll_cons r0;obtain⟨rfl,rfl,rfl⟩:=trodAll_nil r1;obtain rfl:args=#[v0,v1]:=by cases args;simp_all
 obtain⟨rfl,rfl⟩:=trodVars_none hV;obtain⟨a0,rfl,rfl,rfl,w0⟩:=open_int Tryz.underlying3 (hval 0 3 v0 rfl rfl) h0;obtain⟨a1,len1,cap1,rfl⟩:=okWide_slice Tryz.underlying33 (hval 1 33 v1 rfl rfl);have k1:=h1;have lt1:∀x∈p1,x.block<W.heap.size:=by obtain⟨m,hm⟩:=k1;exact DataW.trod_lt m _ _ _ hm
 obtain⟨l1,rfl,w1⟩:=open_records h1;clear hA0 hval0;refine(storeAll_walk (w:=W) a0 w1).mono fun e W' ⟨he,bel⟩=>?_
 subst he;exact⟨_,rfl,_,_,_,[],_,[],hW',trodAll_mk1 (shut_bool Tryz.underlying4 _),(trodAll_cons_mk (shut_int Tryz.underlying3 w0) (trodAll_cons_mk (Below.trod laidOut (by kernel_rfl) (of_decide_eq_true (by kernel_rfl)) k1 bel lt1) trodAll_mk0)),rfl,bel.frame _,fun h=>by cases h⟩
theorem closed0:(Rows.storeAllRow.wf (OpenSpec.ofChange Rows.storeAllSpec):Bool)=true:=by kernel_rfl
theorem closed3:(Tryz.f4.params.all (Tryz.prog.readableRec ·):Bool)=true:=by kernel_rfl
theorem closed4:(namedTie Tryz.prog Rows.storeAllRow.named Rows.storeAllSpec.vars:Bool)=true:=by kernel_rfl
theorem closed5:((Rows.storeAllRow.stops==[]):Bool)=true:=by kernel_rfl
theorem closed7:((Rows.storeAllRow.knobs==[]):Bool)=true:=by kernel_rfl
theorem closed9:((Rows.storeAllRow.inPlace==Tryz.prog.inPlace 4):Bool)=true:=by kernel_rfl
theorem closed10:((Rows.storeAllRow.unfollowed==Tryz.prog.unfollowed 4):Bool)=true:=by kernel_rfl
theorem closed11:((Rows.storeAllRow.recurses==Tryz.prog.recurses 4):Bool)=true:=by kernel_rfl
theorem closed12:((Rows.storeAllRow.named==Tryz.prog.varsNamed 4):Bool)=true:=by kernel_rfl
theorem closed13:((Rows.storeAllRow.maps==(Tryz.f4.params.toList++Rows.storeAllSpec.plain.varTypes Tryz.prog).any (Tryz.prog.mapsRec ·)):Bool)=true:=by kernel_rfl
theorem closed14:((Rows.storeAllRow.ifaces==(Tryz.f4.params.toList++Rows.storeAllSpec.plain.varTypes Tryz.prog).any (Tryz.prog.ifacesRec ·)):Bool)=true:=by kernel_rfl
theorem closed15:((Rows.storeAllRow.mapsOut==Tryz.prog.mapsAmong Tryz.f4.resultTypes.toList):Bool)=true:=by kernel_rfl
theorem closed16:((Rows.storeAllRow.loops==(Tryz.f4.params.toList++Rows.storeAllSpec.plain.varTypes Tryz.prog).any (Tryz.prog.loopsFrom ·)):Bool)=true:=by kernel_rfl
theorem closed17:((Rows.storeAllRow.wideKeys==(Tryz.f4.params.toList++Rows.storeAllSpec.plain.varTypes Tryz.prog++Tryz.f4.resultTypes.toList).any (Tryz.prog.wideKeysFrom ·)):Bool)=true:=by kernel_rfl
theorem closed18:(Rows.storeAllSpec.vars.all (Tryz.prog.varReadable ·):Bool)=true:=by kernel_rfl
theorem closed19:(Tryz.f4.resultTypes.all (fun t=>Tryz.prog.readableRec t&&decide (t<Tryz.prog.types.size)):Bool)=true:=by kernel_rfl
theorem closed20:((Rows.storeAllRow.ifacesOut==Tryz.f4.resultTypes.toList.any (Tryz.prog.ifacesRec ·)):Bool)=true:=by kernel_rfl
theorem closed21:((Rows.storeAllRow.loopsOut==Tryz.f4.resultTypes.toList.any (Tryz.prog.loopsFrom ·)):Bool)=true:=by kernel_rfl
theorem closed22:((Rows.storeAllRow.plainKeys==Tryz.prog.plainKeys):Bool)=true:=by show(_==_)=true;rw[closed.plainKeys_is];kernel_rfl
theorem closed23:(Rows.storeAllRow.shortTexts.isNone:Bool)=true:=by kernel_rfl
theorem closed26:((Rows.storeAllRow.lifted==Tryz.prog.liftsFinal):Bool)=true:=by show(_==_)=true;rw[closed.lifted_is];kernel_rfl
theorem closed27:((Tryz.prog.make==some Rows.storeAllRow.make):Bool)=true:=by show(_==_)=true;rw[closed.make_is];kernel_rfl
theorem closed28:((Rows.storeAllRow.kinds==(if Rows.storeAllRow.domain.isEmpty then []else Tryz.f4.params.toList.map fun t=>match Tryz.prog.underlying t with | some (.int k)=>some k | _=>none)):Bool)=true:=by kernel_rfl
theorem closed29:((Rows.storeAllRow.pinned==Rows.storeAllRow.pinnedBy):Bool)=true:=by kernel_rfl
theorem closed30:((Rows.storeAllRow.veiled==(Tryz.f4.params.toList++Rows.storeAllSpec.plain.varTypes Tryz.prog++Tryz.f4.resultTypes.toList).any (Tryz.prog.veiledRec ·)):Bool)=true:=by kernel_rfl
theorem closed31:(Rows.storeAllRow.veiledFits Tryz.prog Tryz.f4.params.toList (Tryz.f4.params.toList++Rows.storeAllSpec.plain.varTypes Tryz.prog++Tryz.f4.resultTypes.toList):Bool)=true:=by kernel_rfl
theorem closedAll:joinedFacts Tryz.prog 4 Tryz.f4 Rows.storeAllSpec Rows.storeAllRow=true:=
 joinMk.joined_mk closed0 closed.p_laidOutB closed.p_mapsRowed closed3 closed4 closed5 closed.p_stops closed7 closed.p_stopKnobs closed9 closed10 closed11 closed12 closed13 closed14 closed15 closed16 closed17 closed18 closed19 closed20 closed21 closed22 closed23 closed.p_stopsHeard closed.p_mayEnter closed26 closed27 closed28 closed29 closed30 closed31
theorem over:Rows.storeAllRow.holds Tryz.pinned (OpenSpec.ofChange Rows.storeAllSpec):=
 OpenClaim.holds_of_wide 4 Tryz.f4 rfl rfl rfl rfl rfl rfl rfl ⟨rfl,rfl,rfl,rfl,rfl⟩ rfl rfl rfl rfl rfl (by kernel_rfl) Tryz.func4 closedAll
  (of_decide_eq_true (by kernel_rfl)) (by unfold Func.isWrapper;first | (rw[if_pos (by decide+kernel)];kernel_rfl) | (rw[if_neg (by decide+kernel)];exact⟨rfl,rfl⟩))
  (fun os started H enc _=>lifted os started H enc)
theorem proved:Rows.StoreAllSaid:=over
end Go.Proofs.YtkjpjfghklgdhaaGreat.storeAll
