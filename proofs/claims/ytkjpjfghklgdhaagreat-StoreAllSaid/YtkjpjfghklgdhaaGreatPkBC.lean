/-
  PkBC
-/
import Derived.Test.YtkjpjfghklgdhaaGreatPkBB
set_option maxHeartbeats 8000000
set_option maxRecDepth 100000
namespace Go.Proofs.YtkjpjfghklgdhaaGreat
open Go.RowKit Go.Proofs.YtkjpjfghklgdhaaGreat.V
theorem listB_lay {α:Type} (f:α→List UInt8) {L:List (Lay α)} {l:List α} (h:L.map Lay.v=l):listB (fun x:Lay α=>f x.v) L=listB f l:=by
 subst h;unfold listB;rw[List.length_map,flat_map10]
where
 flat_map10 {α β γ:Type} {f:α→β} {g:β→List γ} {l:List α}:(l.map f).flatMap g=l.flatMap fun x=>g (f x):=by
  induction l with
  | nil=>rfl
  | cons x l ih=>simp[ih]
theorem listB_le {α:Type} (f:α→List UInt8) {m:Nat} (h:∀x,(f x).length≤m) (l:List α) {n:Nat} (hn:l.length≤n):(listB f l).length≤2+n*m:=by
 unfold listB;rw[List.length_append,smallB_len];have h1:=flat_few f l (fun x _=>h x);have h2:l.length*m≤n*m:=Nat.mul_le_mul_right _ hn;omega
theorem stEnc_calls {w:World} {a:Ads} {s:StV} (h:StIs w a s) (hf:s.fit):Calls Tryz.prog 43 #[.agg (s.cells a)] w fun e w'=>∃v,e=.returned v∧(mayB s=true→w'.ownsRow w.heap.size 5 1 v (stBytes s).length (u8s (stBytes s)))∧(mayB s=false→v=.slice none 0 0)∧Turn [] w w':=by
 have C0:=η (fun wx (tt:Turn [] w wx)=>may_calls (h.still tt) hf);have T0:=η (Turn.alloc [] w (.cells (s.cells a) 27));have BX:=η (fun wx (tt:Turn [] (w.alloc (.cells (s.cells a) 27)) wx)=>s.boxed a tt);cases hmb:mayB s with
 | false=>
  rw[hmb]at C0;clear h hf hmb;unfold StV.cells at*;obtain⟨b0,b1,b2,b3,b4,b5,b6,b7,b8⟩:=BX.out _ (Turn.refl _ _);go_in;go_wp2_with fail;refine(C0.out _ T0.out).mono ?_;rintro e x1 ⟨rfl,t1⟩;have T1:=η (T0.out.trans t1);clear t1 C0;go_wp2_with fail;go_ret;exact⟨_,rfl,by simp,fun _=>rfl,T1.out⟩
 | true=>
  have hm:=mayB_iff.1 hmb;rw[hmb]at C0;obtain⟨x0,hx0⟩:=ε (w.alloc (.cells (s.cells a) 27));rw[←hx0]at T0 BX;have h:=h.still T0.out;obtain⟨LW,hlw,tlw,plw⟩:=h.waits;obtain⟨LO,hlo,tlo,plo⟩:=h.open_;obtain⟨LN,hln,tln,pln⟩:=h.noes;have m1:∀m∈s.ms,m.queue.size≤8∧m.body.size≤60:=fun m hmm=>by
   obtain⟨-,-,-,-,hq,hb,-⟩:=hm.ms m hmm;exact putB_sizes (p:=(m.queue,m.body)) (by unfold putB;rw[hq,hb];rfl)
  have CM:=η (fun(wx:World) (tt:Turn [] x0 wx) (v:Value) (l:List UInt8) (hv:wx.ownsRow x0.heap.size 5 1 v l.length (u8s l)) (hb:l.length≤1000000000)=>
   layMessages_calls tt hv h.ms msgB (fun x hx wy p _ o=>layMessage_calls p x o (η (by have:=(m1 x hx).1;unfold maxLen;omega)) (η (by have:=(m1 x hx).2;unfold maxLen;omega)) (by have:=textB_len x.queue;omega) (by have:=textB_len x.body;omega)) hb (by have:=hm.lms;omega) (fun x hx=>by
    have a1:=textB_few (m1 x hx).1 (by omega);have a2:=textB_few (m1 x hx).2 (by omega);unfold msgB;simp only[List.length_append,longB_len,smallB_len]
    omega))
  have CW:=η (fun(wx:World) (tt:Turn [] x0 wx) (v:Value) (l:List UInt8) (hv:wx.ownsRow x0.heap.size 5 1 v l.length (u8s l)) (hb:l.length≤1000000000)=>
   layWaits_calls tt hv tlw (fun x=>waitB x.v) (fun x hx wy p ty o=>layWait_calls p x o ((plw x hx).turn ty) (by
    obtain⟨g1,-,g3⟩:=hm.waits x.v (by rw[←hlw];exact List.mem_map_of_mem hx)
    rw[recB_wait,g3,decide_eq_true g1];rfl) (hf.waits x.v (by rw[←hlw];exact List.mem_map_of_mem hx)) (by
    obtain⟨-,-,g3⟩:=hm.waits x.v (by rw[←hlw];exact List.mem_map_of_mem hx);have:=recBytes_wait_few g3
    omega)) hb (by have:=hm.lwaits;rw[←hlw,List.length_map]at this;omega) (fun x _=>by unfold waitB;have:=textB_len ⟨(recBytes (waitR x.v)).toArray⟩;omega))
  have CE:=η (fun(wx:World) (tt:Turn [] x0 wx) (v:Value) (l:List UInt8) (hv:wx.ownsRow x0.heap.size 5 1 v l.length (u8s l)) (hb:l.length≤1000000000)=>
   layEnds_calls tt hv h.ends endB (fun x _ wy p _ o=>layEnd_calls p x o) hb (by have:=hm.lends;omega) (fun x _=>by unfold endB;simp[longB_len]))
  have cp:∀x:PendV,pendP s.broker x→recB (pendR x)=true∧(recBytes (pendR x)).length≤10000000:=fun x hx=>by
   obtain⟨g1,g2,g3,-⟩:=hx;have g4:0<homeZ x.tid:=by
    rw[g1];have:=hm.broker;unfold brokerB at this;simp at this;omega
   refine⟨by rw[recB_pend,g3,decide_eq_true g2,decide_eq_true g4];rfl,?_⟩;have:=recBytes_pend_few g3;omega
  have CO:=η (fun(wx:World) (tt:Turn [] x0 wx) (v:Value) (l:List UInt8) (hv:wx.ownsRow x0.heap.size 5 1 v l.length (u8s l)) (hb:l.length≤1000000000)=>
   layPends_calls tt hv tlo (fun x=>pendB x.v) (fun x hx wy p ty o=>layPend_calls p x o ((plo x hx).turn ty) (cp x.v (hm.open_ x.v (by rw[←hlo];exact List.mem_map_of_mem hx)).1).1 (hf.open_ x.v (by rw[←hlo];exact List.mem_map_of_mem hx)) (cp x.v (hm.open_ x.v (by rw[←hlo];exact List.mem_map_of_mem hx)).1).2) hb (by have:=hm.lopen;rw[←hlo,List.length_map]at this;omega) (fun x _=>by unfold pendB;have:=textB_len ⟨(recBytes (pendR x.v)).toArray⟩;omega))
  have CN:=η (fun(wx:World) (tt:Turn [] x0 wx) (v:Value) (l:List UInt8) (hv:wx.ownsRow x0.heap.size 5 1 v l.length (u8s l)) (hb:l.length≤1000000000)=>
   layPends_calls tt hv tln (fun x=>pendB x.v) (fun x hx wy p ty o=>layPend_calls p x o ((pln x hx).turn ty) (cp x.v (hm.noes x.v (by rw[←hln];exact List.mem_map_of_mem hx)).1).1 (hf.noes x.v (by rw[←hln];exact List.mem_map_of_mem hx)) (cp x.v (hm.noes x.v (by rw[←hln];exact List.mem_map_of_mem hx)).1).2) hb (by have:=hm.lnoes;rw[←hln,List.length_map]at this;omega) (fun x _=>by unfold pendB;have:=textB_len ⟨(recBytes (pendR x.v)).toArray⟩;omega))
  rw[show LW.length=s.waits.length from by rw[←hlw,List.length_map],listB_lay waitB hlw]at CW;rw[show LO.length=s.open_.length from by rw[←hlo,List.length_map],listB_lay pendB hlo]at CO;rw[show LN.length=s.noes.length from by rw[←hln,List.length_map],listB_lay pendB hln]at CN;have HS:Hid (stBytes s=stNumB s++listB msgB s.ms++listB waitB s.waits++listB endB s.ends++listB pendB s.open_++listB pendB s.noes):=η rfl;have g1:=listB_le msgB (fun x=>by unfold msgB;have:=textB_len x.queue;have:=textB_len x.body;simp only[List.length_append,longB_len,smallB_len];omega:∀x,(msgB x).length≤131102) s.ms hm.lms;have g2:=listB_le waitB (fun x=>textB_len _:∀x,(waitB x).length≤65538) s.waits hm.lwaits;have g3:=listB_le endB (fun x=>by unfold endB;simp[longB_len]:∀x,(endB x).length≤9) s.ends hm.lends;have g4:=listB_le pendB (fun x=>textB_len _:∀x,(pendB x).length≤65538) s.open_ hm.lopen;have g0:(stNumB s).length=20:=rfl;have CL:=η (fun wx=>layNumbers_calls s a wx);obtain⟨ST,hST⟩:=ε (stBytes s);obtain⟨A0,h0⟩:=ε (stNumB s);obtain⟨A1,h1⟩:=ε (listB msgB s.ms);obtain⟨A2,h2⟩:=ε (listB waitB s.waits);obtain⟨A3,h3⟩:=ε (listB endB s.ends);obtain⟨A4,h4⟩:=ε (listB pendB s.open_);obtain⟨A5,h5⟩:=ε (listB pendB s.noes);rw[←hST,←h0,←h1,←h2,←h3,←h4,←h5]at HS;rw[←h0]at g0 CL;rw[←h1]at g1 CM;rw[←h2]at g2 CW;rw[←h3]at g3 CE;rw[←h4]at g4 CO;rw[←h5]at CN;rw[←hST];have G:=η (And.intro g0 (And.intro g1 (And.intro g2 (And.intro g3 g4))));clear hST h0 h1 h2 h3 h4 h5 g0 g1 g2 g3 g4 hm m1 cp tlw plw tlo plo tln pln hlw hlo hln h hf hmb;have CL2:=η (fun wx=>CL.out wx);unfold StV.cells at*;obtain⟨nm,hnm⟩:=ε s.ms.length;rw[←hnm]at CM C0 CL2 hx0 BX ⊢;clear hnm;obtain⟨nw,hnw⟩:=ε s.waits.length;rw[←hnw]at CW C0 CL2 hx0 BX ⊢;clear hnw;obtain⟨ne,hne⟩:=ε s.ends.length;rw[←hne]at CE C0 CL2 hx0 BX ⊢;clear hne;obtain⟨no,hno⟩:=ε s.open_.length;rw[←hno]at CO C0 CL2 hx0 BX ⊢;clear hno;obtain⟨nn,hnn⟩:=ε s.noes.length;rw[←hnn]at CN C0 CL2 hx0 BX ⊢;clear hnn;obtain⟨b0,b1,b2,b3,b4,b5,b6,b7,b8⟩:=BX.out _ (Turn.refl _ _);clear CL;rw[hx0]at b0 b1 b2 b3 b4 b5 b6 b7 b8;go_in;go_wp2_with fail;rw[←hx0];have HX0:=η hx0;clear hx0;refine(C0.out _ T0.out).mono ?_;rintro e x1 ⟨rfl,t1⟩;have U1:=η t1;clear t1 C0 b0 b1 b2 b3 b4 b5 b6 b7 b8;obtain⟨b0,b1,b2,b3,b4,b5,b6,b7,b8⟩:=BX.out _ U1.out;go_wp2_with fail;refine(CL2.out _).mono ?_;rintro e x2 ⟨v2,rfl,r2,t2⟩;have R2:=η (row_own10 r2 U1.out.size);have U2:=η (U1.out.trans t2);clear t2 r2 CL2 b0 b1 b2 b3 b4 b5 b6 b7 b8 U1;obtain⟨b0,b1,b2,b3,b4,b5,b6,b7,b8⟩:=BX.out _ U2.out;go_wp2_with fail;refine(CM.out _ U2.out v2 _ R2.out (by obtain⟨g0,g1,g2,g3,g4⟩:=G.out;first | omega | (simp only[List.length_append];omega))).mono ?_;rintro e x3 ⟨v3,rfl,r3,t3⟩;have R3:=η r3;have U3:=η t3;clear r3 t3 b0 b1 b2 b3 b4 b5 b6 b7 b8;obtain⟨b0,b1,b2,b3,b4,b5,b6,b7,b8⟩:=BX.out _ U3.out;go_wp2_with fail;refine(CW.out _ U3.out v3 _ R3.out (by obtain⟨g0,g1,g2,g3,g4⟩:=G.out;first | omega | (simp only[List.length_append];omega))).mono ?_;rintro e x4 ⟨v4,rfl,r4,t4⟩;have R4:=η r4;have U4:=η t4;clear r4 t4 b0 b1 b2 b3 b4 b5 b6 b7 b8;obtain⟨b0,b1,b2,b3,b4,b5,b6,b7,b8⟩:=BX.out _ U4.out;go_wp2_with fail;refine(CE.out _ U4.out v4 _ R4.out (by obtain⟨g0,g1,g2,g3,g4⟩:=G.out;first | omega | (simp only[List.length_append];omega))).mono ?_;rintro e x5 ⟨v5,rfl,r5,t5⟩;have R5:=η r5;have U5:=η t5;clear r5 t5 b0 b1 b2 b3 b4 b5 b6 b7 b8;obtain⟨b0,b1,b2,b3,b4,b5,b6,b7,b8⟩:=BX.out _ U5.out;go_wp2_with fail;refine(CO.out _ U5.out v5 _ R5.out (by obtain⟨g0,g1,g2,g3,g4⟩:=G.out;first | omega | (simp only[List.length_append];omega))).mono ?_;rintro e x6 ⟨v6,rfl,r6,t6⟩;have R6:=η r6;have U6:=η t6;clear r6 t6 b0 b1 b2 b3 b4 b5 b6 b7 b8;obtain⟨b0,b1,b2,b3,b4,b5,b6,b7,b8⟩:=BX.out _ U6.out;go_wp2_with fail;refine(CN.out _ U6.out v6 _ R6.out (by obtain⟨g0,g1,g2,g3,g4⟩:=G.out;first | omega | (simp only[List.length_append];omega))).mono ?_;rintro e x7 ⟨v7,rfl,r7,t7⟩;have R7:=η r7;have U7:=η t7;clear r7 t7 b0 b1 b2 b3 b4 b5 b6 b7 b8;go_wp2_with fail;go_ret;exact⟨_,rfl,fun _=>by rw[HS.out];exact row_own10 R7.out T0.out.size,by simp,T0.out.trans U7.out⟩
theorem Tl.past {α:Type} {n:Nat} {f:α→List Value} {w w':World} {ao:Option Addr} {c:Nat} {l:List α} (h:Tl n f w ao c l) {m:List Nat} (t:Turn m w w') {q:Nat} (hq:∀A,ao=some A→q≤A.block) (hm:∀i∈m,i<q):Tl n f w' ao c l:=
 h.turn t (fun b off e hb=>by have:=hq _ e;have:=hm b hb;simp at*;omega)
theorem stDec_calls {s:StV} (hm:MayP s) (hf:s.fit) {w:World} {ao:Option Addr} {c:Nat} {L:List UInt8} (hL:L=stBytes s) (hs:Sl w ao c L):
 Calls Tryz.prog 42 #[.slice ao L.length c] w fun e w'=>∃a,e=.returned (.tuple #[.agg (s.cells a),.int .i64 0])∧StIs w' a s∧Turn [] w w':=by
 have hbr:1≤s.broker∧s.broker≤8:=by
  have:=hm.broker;unfold brokerB at this;simpa using this
 have m1:∀m∈s.ms,m.queue.size≤8∧m.body.size≤60∧0≤m.count∧m.count≤1000:=fun m hmm=>by
  obtain⟨-,-,-,-,hq,hb,h1,h2,-⟩:=hm.ms m hmm;have:=putB_sizes (p:=(m.queue,m.body)) (by unfold putB;rw[hq,hb];rfl);exact⟨this.1,this.2,h1,h2⟩
 have cw:∀x∈s.waits,recB (waitR x)=true∧(recBytes (waitR x)).length<65536:=fun x hx=>by
  obtain⟨g1,-,g3⟩:=hm.waits x hx;refine⟨by rw[recB_wait,g3,decide_eq_true g1];rfl,?_⟩;have:=recBytes_wait_few g3;omega
 have cp:∀x:PendV,pendP s.broker x→recB (pendR x)=true∧(recBytes (pendR x)).length<65536:=fun x hx=>by
  obtain⟨g1,g2,g3,-⟩:=hx;have g4:0<homeZ x.tid:=by rw[g1];omega
  refine⟨by rw[recB_pend,g3,decide_eq_true g2,decide_eq_true g4];rfl,?_⟩;have:=recBytes_pend_few g3;omega
 have CM:=η (fun(b:Nat) (r:List UInt8) (wx:World) (i:InIs wx b (listB msgB s.ms++r) false)=>readMs_calls b s.ms r i (by have:=hm.lms;omega) (fun x hx wy r' iy=>(readMessage_calls b x r' iy (hf.ms x hx).1 (by have:=(m1 x hx).1;omega) (by have:=(m1 x hx).2.1;omega) (hf.ms x hx).2.1 (by have:=(m1 x hx).2.2;omega) (hf.ms x hx).2.2.2.1).mono (by
  rintro e w' ⟨rfl,h1,h2⟩
  exact⟨x,rfl,rfl,h1,h2⟩)))
 have CW:=η (fun(b:Nat) (r:List UInt8) (wx:World) (i:InIs wx b (listB waitB s.waits++r) false)=>readWs_calls b s.waits r i (by have:=hm.lwaits;omega) (fun x hx wy r' iy=>(readWait_calls b x r' iy (cw x hx).1 (cw x hx).2).mono (by
  rintro e w' ⟨a1,c1,rfl,h1,h2,h3,h4⟩
  exact⟨⟨x,a1,c1⟩,rfl,rfl,⟨h1,h2⟩,h3,h4⟩)))
 have CE:=η (fun(b:Nat) (r:List UInt8) (wx:World) (i:InIs wx b (listB endB s.ends++r) false)=>readEs_calls b s.ends r i (by have:=hm.lends;omega) (fun x hx wy r' iy=>(readEnd_calls b x r' iy (hf.ends x hx)).mono (by
  rintro e w' ⟨rfl,h1,h2⟩
  exact⟨x,rfl,rfl,h1,h2⟩)))
 have CO:=η (fun(b:Nat) (r:List UInt8) (wx:World) (i:InIs wx b (listB pendB s.open_++r) false)=>readPds_calls b s.open_ r i (by have:=hm.lopen;omega) (fun x hx wy r' iy=>(readPend_calls b x r' iy (cp x (hm.open_ x hx).1).1 (cp x (hm.open_ x hx).1).2).mono (by
  rintro e w' ⟨a1,c1,rfl,h1,h2,h3,h4⟩
  exact⟨⟨x,a1,c1⟩,rfl,rfl,⟨h1,h2⟩,h3,h4⟩)))
 have CN:=η (fun(b:Nat) (r:List UInt8) (wx:World) (i:InIs wx b (listB pendB s.noes++r) false)=>readPds_calls b s.noes r i (by have:=hm.lnoes;omega) (fun x hx wy r' iy=>(readPend_calls b x r' iy (cp x (hm.noes x hx).1).1 (cp x (hm.noes x hx).1).2).mono (by
  rintro e w' ⟨a1,c1,rfl,h1,h2,h3,h4⟩
  exact⟨⟨x,a1,c1⟩,rfl,rfl,⟨h1,h2⟩,h3,h4⟩)))
 have CY:=η (fun wx (a:Ads) (h:StIs wx a s)=>may_calls h hf);have hmb:=mayB_iff.2 hm;rw[hmb]at CY;have HBR:=η hbr;have HTX:Hid (0≤s.tx∧s.tx<65536):=η (by have:=hm.tx1;have:=hm.tx2;omega);have HNI:=η hf.nextId;have HNS:=η hf.nextSeq;have hN:L=smallB s.broker++(longB s.nextId++(longB s.nextSeq++(smallB s.tx++(listB msgB s.ms++(listB waitB s.waits++(listB endB s.ends++(listB pendB s.open_++(listB pendB s.noes++[])))))))):=by
  rw[hL];unfold stBytes stNumB;simp only[List.append_assoc,List.append_nil]
 have C1:Hid (∀o,Calls Tryz.prog 92 #[.slice ao L.length c] (w.alloc o) fun e w'=>e=.returned (.pointer (some ⟨w.heap.size+1,0,none⟩))∧InIs w' (w.heap.size+1) L false∧Below (w.alloc o).heap.size (w.alloc o) w'):=η (fun o=>by
  have:=read_calls ao c L (w.alloc o) (hs.belowAll (new_below w o));have hs:(w.alloc o).heap.size=w.heap.size+1:=by simp
  rw[hs]at this ⊢
  exact this)
 have HN:=η hN;obtain⟨A1,h1⟩:=ε (listB msgB s.ms);obtain⟨A2,h2⟩:=ε (listB waitB s.waits);obtain⟨A3,h3⟩:=ε (listB endB s.ends);obtain⟨A4,h4⟩:=ε (listB pendB s.open_);obtain⟨A5,h5⟩:=ε (listB pendB s.noes);rw[←h1,←h2,←h3,←h4,←h5]at HN;rw[←h1]at CM;rw[←h2]at CW;rw[←h3]at CE;rw[←h4]at CO;rw[←h5]at CN;obtain⟨nl,hnl⟩:=ε L.length;rw[←hnl]at C1 ⊢;clear hm hf hL hs hbr m1 cw cp hmb hN h1 h2 h3 h4 h5 hnl;go_in;go_wp2_with fail;refine(C1.out _).mono ?_;rintro e x1 ⟨rfl,i1,b1⟩;have HB0:Hid (x1.heap[w.heap.size]?=some (.cells #[.int .i64 0,.int .i64 0,.int .i64 0,.int .i64 0,.slice none 0 0,.slice none 0 0,.slice none 0 0,.slice none 0 0,.slice none 0 0] 27)):=η (by rw[b1.block _ (by simp)];exact heap_alloc_new w _);have T1:=η ((Turn.alloc [] w (.cells #[.int .i64 0,.int .i64 0,.int .i64 0,.int .i64 0,.slice none 0 0,.slice none 0 0,.slice none 0 0,.slice none 0 0,.slice none 0 0] 27)).trans (Turn.of_below b1 []));rw[HN.out]at i1;have I1:=η i1;obtain⟨q,hq⟩:=ε (w.heap.size+1);have HQ:=η hq;rw[←hq]at I1 ⊢;have U1:=η (Turn.refl [q] x1);have HQ1:Hid (q<x1.heap.size):=η I1.out.lt;clear b1 i1 C1 hq;go_wp2_with fail;refine(small_at q _ _ _ I1.out (by have:=HBR.out;omega)).mono ?_;rintro e x2 ⟨rfl,i1,t1⟩;have I2:=η i1;have U2:=η (U1.out.trans t1 (fun i hi=>.inl hi));clear i1 t1;go_wp2_with fail;refine(long_at q _ _ _ I2.out HNI.out).mono ?_;rintro e x3 ⟨rfl,i1,t1⟩;have I3:=η i1;have U3:=η (U2.out.trans t1 (fun i hi=>.inl hi));clear i1 t1;go_wp2_with fail;refine(long_at q _ _ _ I3.out HNS.out).mono ?_;rintro e x4 ⟨rfl,i1,t1⟩;have I4:=η i1;have U4:=η (U3.out.trans t1 (fun i hi=>.inl hi));clear i1 t1;go_wp2_with fail;refine(small_at q _ _ _ I4.out HTX.out).mono ?_;rintro e x5 ⟨rfl,i1,t1⟩;have I5:=η i1;have U5:=η (U4.out.trans t1 (fun i hi=>.inl hi));clear i1 t1;go_wp2_with fail;refine(CM.out q _ _ I5.out).mono ?_;rintro e x6 ⟨am,cm,Dm,rfl,vm,lm,fm,i1,t1⟩;have tt:=t1.mono (l':=[q,w.heap.size]) (fun i hi=>.inl (by simp at hi;simp[hi]));have hge:q+1≤x5.heap.size:=Nat.le_trans HQ1.out U5.out.size;have Fm:Hid (∀wy,Turn [q,w.heap.size] x6 wy→Tl 6 msgC wy am cm Dm):=η (fun wy ty=>lm.past ty (q:=q+1) (fun A hA=>Nat.le_trans hge (fm A hA)) (fun i hi=>by have:=HQ.out;simp at hi;omega));have vv:Dm=s.ms:=by simpa using vm
 subst vv;have I6:=η i1;have U6:=η (U5.out.trans t1 (fun i hi=>.inl hi));clear i1 t1 tt hge lm fm vm;go_wp2_with fail;refine(CW.out q _ _ I6.out).mono ?_;rintro e x7 ⟨aw,cw,Dw,rfl,vw,lw,fw,kw,i1,t1⟩;have tt:=t1.mono (l':=[q,w.heap.size]) (fun i hi=>.inl (by simp at hi;simp[hi]));have hge:q+1≤x6.heap.size:=Nat.le_trans HQ1.out U6.out.size;have Fw:Hid (∀wy,Turn [q,w.heap.size] x7 wy→Tl 2 brC wy aw cw Dw):=η (fun wy ty=>lw.past ty (q:=q+1) (fun A hA=>Nat.le_trans hge (fw A hA)) (fun i hi=>by have:=HQ.out;simp at hi;omega))
 have Kw:Hid (∀x∈Dw,∀wy,Turn [q,w.heap.size] x7 wy→Ps wy x.ao x.c x.v.puts):=η (fun x hx wy ty=>(kw x hx).1.turnN ty (fun hne A hA hm=>by
  have h1:=((kw x hx).2 hne A hA).1;have:=HQ.out;simp at hm
  omega))
 have Fm:=η (fun wy (ty:Turn [q,w.heap.size] x7 wy)=>Fm.out wy (tt.trans ty (fun i hi=>.inl hi)));rw[show Dw.length=s.waits.length from by rw[←vw,List.length_map]];have Vw:=η vw;have I7:=η i1;have U7:=η (U6.out.trans t1 (fun i hi=>.inl hi));clear i1 t1 tt hge lw fw kw vw;go_wp2_with fail;refine(CE.out q _ _ I7.out).mono ?_;rintro e x8 ⟨ae,ce,De,rfl,ve,le,fe,i1,t1⟩;have tt:=t1.mono (l':=[q,w.heap.size]) (fun i hi=>.inl (by simp at hi;simp[hi]));have hge:q+1≤x7.heap.size:=Nat.le_trans HQ1.out U7.out.size;have Fe:Hid (∀wy,Turn [q,w.heap.size] x8 wy→Tl 2 endC wy ae ce De):=η (fun wy ty=>le.past ty (q:=q+1) (fun A hA=>Nat.le_trans hge (fe A hA)) (fun i hi=>by have:=HQ.out;simp at hi;omega));have Fm:=η (fun wy (ty:Turn [q,w.heap.size] x8 wy)=>Fm.out wy (tt.trans ty (fun i hi=>.inl hi)));have Fw:=η (fun wy (ty:Turn [q,w.heap.size] x8 wy)=>Fw.out wy (tt.trans ty (fun i hi=>.inl hi)));have Kw:=η (fun x hx wy (ty:Turn [q,w.heap.size] x8 wy)=>Kw.out x hx wy (tt.trans ty (fun i hi=>.inl hi)));have vv:De=s.ends:=by simpa using ve
 subst vv;have I8:=η i1;have U8:=η (U7.out.trans t1 (fun i hi=>.inl hi));clear i1 t1 tt hge le fe ve;go_wp2_with fail;refine(CO.out q _ _ I8.out).mono ?_;rintro e x9 ⟨ao,co,Do,rfl,vo,lo,fo,ko,i1,t1⟩;have tt:=t1.mono (l':=[q,w.heap.size]) (fun i hi=>.inl (by simp at hi;simp[hi]));have hge:q+1≤x8.heap.size:=Nat.le_trans HQ1.out U8.out.size;have Fo:Hid (∀wy,Turn [q,w.heap.size] x9 wy→Tl 2 pendC wy ao co Do):=η (fun wy ty=>lo.past ty (q:=q+1) (fun A hA=>Nat.le_trans hge (fo A hA)) (fun i hi=>by have:=HQ.out;simp at hi;omega))
 have Ko:Hid (∀x∈Do,∀wy,Turn [q,w.heap.size] x9 wy→Il wy x.ao x.c x.v.parts):=η (fun x hx wy ty=>(ko x hx).1.turnN ty (fun hne A hA hm=>by
  have h1:=((ko x hx).2 hne A hA).1;have:=HQ.out;simp at hm
  omega))
 have Fm:=η (fun wy (ty:Turn [q,w.heap.size] x9 wy)=>Fm.out wy (tt.trans ty (fun i hi=>.inl hi)));have Fw:=η (fun wy (ty:Turn [q,w.heap.size] x9 wy)=>Fw.out wy (tt.trans ty (fun i hi=>.inl hi)));have Kw:=η (fun x hx wy (ty:Turn [q,w.heap.size] x9 wy)=>Kw.out x hx wy (tt.trans ty (fun i hi=>.inl hi)));have Fe:=η (fun wy (ty:Turn [q,w.heap.size] x9 wy)=>Fe.out wy (tt.trans ty (fun i hi=>.inl hi)));rw[show Do.length=s.open_.length from by rw[←vo,List.length_map]];have Vo:=η vo;have I9:=η i1;have U9:=η (U8.out.trans t1 (fun i hi=>.inl hi));clear i1 t1 tt hge lo fo ko vo;go_wp2_with fail;refine(CN.out q _ _ I9.out).mono ?_;rintro e x10 ⟨an,cn,Dn,rfl,vn,ln,fn,kn,i1,t1⟩;have tt:=t1.mono (l':=[q,w.heap.size]) (fun i hi=>.inl (by simp at hi;simp[hi]));have hge:q+1≤x9.heap.size:=Nat.le_trans HQ1.out U9.out.size;have Fn:Hid (∀wy,Turn [q,w.heap.size] x10 wy→Tl 2 pendC wy an cn Dn):=η (fun wy ty=>ln.past ty (q:=q+1) (fun A hA=>Nat.le_trans hge (fn A hA)) (fun i hi=>by have:=HQ.out;simp at hi;omega))
 have Kn:Hid (∀x∈Dn,∀wy,Turn [q,w.heap.size] x10 wy→Il wy x.ao x.c x.v.parts):=η (fun x hx wy ty=>(kn x hx).1.turnN ty (fun hne A hA hm=>by
  have h1:=((kn x hx).2 hne A hA).1;have:=HQ.out;simp at hm
  omega))
 have Fm:=η (fun wy (ty:Turn [q,w.heap.size] x10 wy)=>Fm.out wy (tt.trans ty (fun i hi=>.inl hi)));have Fw:=η (fun wy (ty:Turn [q,w.heap.size] x10 wy)=>Fw.out wy (tt.trans ty (fun i hi=>.inl hi)));have Kw:=η (fun x hx wy (ty:Turn [q,w.heap.size] x10 wy)=>Kw.out x hx wy (tt.trans ty (fun i hi=>.inl hi)));have Fe:=η (fun wy (ty:Turn [q,w.heap.size] x10 wy)=>Fe.out wy (tt.trans ty (fun i hi=>.inl hi)));have Fo:=η (fun wy (ty:Turn [q,w.heap.size] x10 wy)=>Fo.out wy (tt.trans ty (fun i hi=>.inl hi)));have Ko:=η (fun x hx wy (ty:Turn [q,w.heap.size] x10 wy)=>Ko.out x hx wy (tt.trans ty (fun i hi=>.inl hi)));rw[show Dn.length=s.noes.length from by rw[←vn,List.length_map]];have Vn:=η vn;have I10:=η i1;have U10:=η (U9.out.trans t1 (fun i hi=>.inl hi));clear i1 t1 tt hge ln fn kn vn;have HST:Hid (∀wy,Turn [q,w.heap.size] x10 wy→StIs wy ⟨am,cm,aw,cw,ae,ce,ao,co,an,cn⟩ s):=η (fun wy ty=>⟨Fm.out wy ty,⟨Dw,Vw.out,Fw.out wy ty,fun x hx=>Kw.out x hx wy ty⟩,Fe.out wy ty,⟨Do,Vo.out,Fo.out wy ty,fun x hx=>Ko.out x hx wy ty⟩,⟨Dn,Vn.out,Fn.out wy ty,fun x hx=>Kn.out x hx wy ty⟩⟩);have HB9:Hid (∀wy,Turn [q] x1 wy→wy.heap[w.heap.size]?=some (.cells #[.int .i64 0,.int .i64 0,.int .i64 0,.int .i64 0,.slice none 0 0,.slice none 0 0,.slice none 0 0,.slice none 0 0,.slice none 0 0] 27)):=η (fun wy ty=>ty.heap HB0.out (by have:=HQ.out;simp;omega));clear Fm Fw Kw Fe Fo Ko Fn Kn Vw Vo Vn CM CW CE CO CN I1 I2 I3 I4 I5 I6 I7 I8 I9 U1 U2 U3 U4 U5 U6 U7 U8 U9;go_wp2_with fail;have TA:=Turn.alloc [] x10 (.cells #[.int .i64 s.broker,.int .i64 s.nextId,.int .i64 s.nextSeq,.int .i64 s.tx,.slice am s.ms.length cm,.slice aw s.waits.length cw,.slice ae s.ends.length ce,.slice ao s.open_.length co,.slice an s.noes.length cn] 27);have BA:=heap_alloc_new x10 (.cells #[.int .i64 s.broker,.int .i64 s.nextId,.int .i64 s.nextSeq,.int .i64 s.tx,.slice am s.ms.length cm,.slice aw s.waits.length cw,.slice ae s.ends.length ce,.slice ao s.open_.length co,.slice an s.noes.length cn] 27);have I11:=I10.out.turn TA (by simp);have TM:Turn [q,w.heap.size] x10 (x10.alloc (.cells #[.int .i64 s.broker,.int .i64 s.nextId,.int .i64 s.nextSeq,.int .i64 s.tx,.slice am s.ms.length cm,.slice aw s.waits.length cw,.slice ae s.ends.length ce,.slice ao s.open_.length co,.slice an s.noes.length cn] 27)):=TA.mono (fun i hi=>by cases hi);have CY1:=CY.out _ _ (HST.out _ TM);unfold StV.cells at CY1;dsimp only at CY1;have CY2:=η CY1;obtain⟨d0,d1,d2,d3,d4,d5,d6,d7,d8⟩:=nine_of BA;have BAA:=η BA;have TMM:=η TM;have U11:=η (U10.out.trans TA);have CE:=η (end_calls q [] false _ I11);rw[show(!false&&decide (([]:List UInt8)=[]))=true from rfl]at CE;clear TA BA I11 TM CY1;refine CE.out.mono ?_;rintro e x11 ⟨rfl,rfl⟩;go_wp2_with fail;refine CY2.out.mono ?_;rintro e x12 ⟨rfl,t12⟩;have U12:=η (U11.out.trans t12);have hb:=HB9.out _ U12.out;obtain⟨z0,z1,z2,z3,z4,z5,z6,z7,z8⟩:=nine_of hb;have fr:∀j,x12.frozen? ⟨w.heap.size,j,none⟩=false:=fun j=>unfrozen_of hb
 have ba:=t12.heap BAA.out;clear d0 d1 d2 d3 d4 d5 d6 d7 d8;obtain⟨d0,d1,d2,d3,d4,d5,d6,d7,d8⟩:=nine_of ba;have NH:=nine_heap hb (.int .i64 s.broker) (.int .i64 s.nextId) (.int .i64 s.nextSeq) (.int .i64 s.tx) (.slice am s.ms.length cm) (.slice aw s.waits.length cw) (.slice ae s.ends.length ce) (.slice ao s.open_.length co) (.slice an s.noes.length cn);have TF:=nine_turn x12 w.heap.size (.int .i64 s.broker) (.int .i64 s.nextId) (.int .i64 s.nextSeq) (.int .i64 s.tx) (.slice am s.ms.length cm) (.slice aw s.waits.length cw) (.slice ae s.ends.length ce) (.slice ao s.open_.length co) (.slice an s.noes.length cn);have IS:=HST.out _ ((TMM.out.trans (t12.mono (l':=[q,w.heap.size]) (fun i hi=>by cases hi)) (fun i hi=>.inl hi)).trans (TF.mono (l':=[q,w.heap.size]) (fun i hi=>.inl (by simp at hi;simp[hi]))) (fun i hi=>.inl hi));have TE:=(T1.out.trans U12.out (fun i hi=>.inr (by have:=HQ.out;simp at hi;omega))).trans TF (fun i hi=>.inr (by simp at hi;omega));unfold nine at NH TF IS TE;have NH:=η NH;have IS:=η IS;have TE:=η TE;clear hb ba TF t12;go_wp2_with fail;refine bodyPost_ret_by (results_row_tmp rfl _ _ w.heap.size 27 _ (0,0) _ rfl NH.out Tryz.underlying27 rfl (by kernel_rfl)) rfl ?_;exact⟨_,rfl,IS.out,TE.out⟩
theorem ps_new (w:World) (p:ByteArray×ByteArray) (h1:p.1.size≤9223372036854775807) (h2:p.2.size≤9223372036854775807):Ps (w.alloc (.cells #[.string p.1,.string p.2] 45)) (some ⟨w.heap.size,0,none⟩) 1 [p]:=by
 have b0:=heap_alloc_new w (.cells #[.string p.1,.string p.2] 45);refine .inr ⟨_,rfl,by simp,by simp[maxLen],fun i hi=>?_⟩;have:i=0:=by simpa using hi
 subst this;refine⟨?_,?_,h1,h2⟩
 · show(w.alloc _).cell? ⟨w.heap.size,0,none⟩=_;rw[cell_of_row _ _ _ _ _ _ b0];rfl
 · show(w.alloc _).cell? ⟨w.heap.size,1,none⟩=_;rw[cell_of_row _ _ _ _ _ _ b0];rfl
theorem il_new (w:World) (n:Int) (T:TypeId) (h:okI n):Il (w.alloc (.cells #[.int .i64 n] T)) (some ⟨w.heap.size,0,none⟩) 1 [n]:=by
 have b0:=heap_alloc_new w (.cells #[.int .i64 n] T);refine .inr ⟨_,rfl,by simp,by simp[maxLen],fun i hi=>?_,fun m hm=>?_⟩
 · have:i=0:=by simpa using hi
   subst this;show(w.alloc _).cell? ⟨w.heap.size,0,none⟩=_;rw[cell_of_row _ _ _ _ _ _ b0];rfl
 · have:m=n:=by simpa using hm
   rw[this];exact h
theorem il_none (w:World):Il w none 0 ([]:List Int):=.inl ⟨rfl,rfl,rfl⟩
theorem ps_none (w:World):Ps w none 0 ([]:List (ByteArray×ByteArray)):=.inl ⟨rfl,rfl,rfl⟩
structure Bx (w:World) (b:Nat) (a:Ads) (s:StV):Prop where
 head:w.heap[b]?=some (.cells (s.cells a) 27)
 is:StIs w a s
theorem Bx.still {w w':World} {b:Nat} {a:Ads} {s:StV} (h:Bx w b a s) (t:Turn [] w w'):Bx w' b a s:=⟨t.heap h.head,h.is.still t⟩
theorem Bx.new {w:World} {a:Ads} {s:StV} (h:StIs w a s):Bx (w.alloc (.cells (s.cells a) 27)) w.heap.size a s:=⟨heap_alloc_new w _,h.still (Turn.alloc [] w _)⟩
theorem apply_at {w:World} {a:Ads} {s:StV} (h:StIs w a s) (hm:MayP s) (r:RecV) (ap aq:Option Addr) (cp cq:Nat) (hp:Il w ap cp r.parts) (hq:Ps w aq cq r.puts) (ht:okI r.tid) (hd:okI r.id) {u:StV} (hu:applyS s r=u) (hmu:MayP u):
 Calls Tryz.prog 28 #[.agg (s.cells a),.agg (r.cells ap cp aq cq)] w fun e w'=>∃a',e=.returned (.agg (u.cells a'))∧StIs w' a' u∧Turn [] w w':=by
 refine(stApply_calls h hm.fit hm.few r ap aq cp cq hp hq ht hd).mono ?_;rw[hu];rintro e w' ⟨a',LW,LO,LN,rfl,hr,ht⟩;exact⟨a',rfl,hr.is hmu.deep,ht⟩
open Go.RowKit
def begR:RecV:=⟨4,8589934597,0,false,[],[(⟨#[113]⟩,⟨#[98]⟩)]⟩
theorem begR_ok:recB begR=true:=by decide+kernel
theorem begR_fit:begR.fit:=by unfold RecV.fit okI begR;simp
theorem recNone_fit:recNone.fit:=by unfold RecV.fit okI recNone;simp
theorem nil_test (w:World) (a:Option Addr) (n c:Nat):(binOp .eql 52 (.slice a n c) (.slice none 0 0)).run Tryz.prog w=.ok (.bool a.isNone) w:=
 Lib.run_eql_slice_nil w _ _ a n c 0 0 Tryz.underlying52
theorem lawBegun_calls (w:World):Calls Tryz.prog 173 #[] w fun e w'=>e=.returned (.bool true)∧Turn [] w w':=by
 have C:=η (begun_calls w);go_in;go_wp2_with fail;refine C.out.mono ?_;rintro e w1 ⟨rfl,hb⟩;have T:=η (Turn.of_below hb []);clear hb;go_wp2;go_ret;exact⟨rfl,T.out⟩
theorem begQ (w:World):Calls Tryz.prog 174 #[.string ⟨#[97,98,99]⟩] w fun e w'=>e=.returned (.bool true)∧Turn [] w w':=by
 have h:=kindQueue_calls ⟨#[97,98,99]⟩ w;rwa[show queueB ⟨#[97,98,99]⟩=true from by decide+kernel]at h
theorem begQ0 (w:World):Calls Tryz.prog 174 #[.string ⟨#[]⟩] w fun e w'=>e=.returned (.bool false)∧Turn [] w w':=by
 have h:=kindQueue_calls ⟨#[]⟩ w;rwa[show queueB ⟨#[]⟩=false from by decide+kernel]at h
theorem begQ1 (w:World):Calls Tryz.prog 174 #[.string ⟨#[65]⟩] w fun e w'=>e=.returned (.bool false)∧Turn [] w w':=by
 have h:=kindQueue_calls ⟨#[65]⟩ w;rwa[show queueB ⟨#[65]⟩=false from by decide+kernel]at h
theorem begB (w:World):Calls Tryz.prog 175 #[.string ⟨#[]⟩] w fun e w'=>e=.returned (.bool true)∧w=w':=by
 have h:=kindBody_calls ⟨#[]⟩ w;rwa[show bodyB ⟨#[]⟩=true from by decide+kernel]at h
theorem begT (w:World):Calls Tryz.prog 131 #[.int .i64 8589934597] w fun e w'=>e=.returned (.bool true)∧w=w':=by
 have h:=kindTid_calls 8589934597 w (by omega);rwa[show decide (0<homeZ 8589934597)=true from by decide+kernel]at h
theorem begT0 (w:World):Calls Tryz.prog 131 #[.int .i64 8589934592] w fun e w'=>e=.returned (.bool false)∧w=w':=by
 have h:=kindTid_calls 8589934592 w (by omega);rwa[show decide (0<homeZ 8589934592)=false from by decide+kernel]at h
theorem begH (w:World):Calls Tryz.prog 176 #[.int .i64 8589934597] w fun e w'=>e=.returned (.int .i64 2)∧w=w':=by
 have h:=kindHome_calls 8589934597 w (by omega);rwa[show homeZ 8589934597=2 from by decide+kernel]at h
theorem begP (w:World):Calls Tryz.prog 177 #[.agg #[.int .i64 5,.int .i64 1,.int .i64 2,.int .i64 8589934597,.int .i64 0,.bool false]] w fun e w'=>e=.returned (.bool true)∧Turn [] w w':=by
 have h:=kindPacket_calls ⟨5,1,2,8589934597,0,false⟩ w (by dsimp only;omega);rwa[show pacB ⟨5,1,2,8589934597,0,false⟩=true from by decide+kernel]at h
theorem begN (w:World):Calls Tryz.prog 71 #[.agg #[.int .i64 0,.int .i64 0,.int .i64 0,.bool false,.slice none 0 0,.slice none 0 0]] w fun e w'=>e=.returned (.bool false)∧Turn [] w w':=by
 have h:=kindRecord_calls recNone (w:=w) (ap:=none) (cp:=0) (aq:=none) (cq:=0) (.inl ⟨rfl,rfl,rfl⟩) (.inl ⟨rfl,rfl,rfl⟩) (by unfold recNone;dsimp only;omega) (by unfold recNone;dsimp only;omega);rwa[show recB recNone=false from by decide+kernel]at h
theorem six_of {w:World} {g:Nat} {v0 v1 v2 v3 v4 v5:Value} {t:TypeId} {fr:Nat×Nat} (h:w.heap[g]?=some (.cells #[v0,v1,v2,v3,v4,v5] t fr)):
 w.cell? ⟨g,0,none⟩=some v0∧w.cell? ⟨g,1,none⟩=some v1∧w.cell? ⟨g,2,none⟩=some v2∧w.cell? ⟨g,3,none⟩=some v3∧w.cell? ⟨g,4,none⟩=some v4∧w.cell? ⟨g,5,none⟩=some v5:=by
 refine⟨?_,?_,?_,?_,?_,?_⟩<;>rw[cell_of_row _ _ _ _ _ _ h]<;>rfl
theorem begun8_calls (F:RecFace) (w:World):Calls Tryz.prog 113 #[] w fun e w'=>e=.returned (.bool true)∧Turn [] w w':=by
 have CM:=η (fun w=>kindMake_calls 2 5 w);rw[show makeZ 2 5=8589934597 from by decide+kernel]at CM;go_in;go_wp2_with fail;refine(CM.out _).mono ?_;rintro e w1 ⟨rfl,rfl⟩;go_wp2_with fail;obtain⟨q,hqd⟩:=ε w.heap.size;obtain⟨w1,hw1⟩:=ε ((w.alloc (.cells #[.string ⟨#[113]⟩,.string ⟨#[98]⟩] 45)).alloc (.cells #[.int .i64 4,.int .i64 8589934597,.int .i64 0,.bool false,.slice none 0 0,.slice (some ⟨w.heap.size,0,none⟩) 1 1] 37));have t1:Turn [] w w1:=by rw[hw1];exact(Turn.alloc [] w _).trans (Turn.alloc [] _ _)
 have b1:w1.heap[q+1]?=some (.cells #[.int .i64 4,.int .i64 8589934597,.int .i64 0,.bool false,.slice none 0 0,.slice (some ⟨q,0,none⟩) 1 1] 37):=by
  rw[hw1,hqd];exact heap_alloc2_new w _ _
 have b0:w1.heap[q]?=some (.cells #[.string ⟨#[113]⟩,.string ⟨#[98]⟩] 45):=by
  rw[hw1,hqd];exact heap_alloc2_old w _ _
 have hps:Ps w1 (some ⟨q,0,none⟩) 1 begR.puts:=.inr ⟨_,rfl,by simp[begR],by simp[maxLen],fun i hi=>by
  have:i=0:=by simpa[begR]using hi
  subst this;refine⟨?_,?_,by decide+kernel,by decide+kernel⟩
  · show w1.cell? ⟨q,0,none⟩=_;rw[cell_of_row _ _ _ _ _ _ b0];rfl
  · show w1.cell? ⟨q,1,none⟩=_
    rw[cell_of_row _ _ _ _ _ _ b0];rfl⟩
 rw[←hw1,←hqd];have T1:=η t1;have B1:=η b1;have HPS:=η hps;clear hw1 hqd t1 b1 b0 hps CM;refine(F.enc begR w1 none 0 (some ⟨q,0,none⟩) 1 (.inl ⟨rfl,rfl,rfl⟩) HPS.out begR_fit).mono ?_;rintro e w2 ⟨v2,rfl,ho,-,t2⟩;obtain⟨a2,c2,rfl,hs2,-⟩:=Sl.of_owns (ho begR_ok);have T2:=η t2;have CD:=η (F.dec (recBytes begR) w2 a2 c2 hs2);obtain⟨n2,hn2⟩:=ε ((recBytes begR).length);rw[←hn2]at CD ⊢;clear ho t2 hs2 hn2;go_wp2_with fail;refine CD.out.mono ?_;rintro e w3 ⟨x,ap,cp,aq,cq,err,rfl,hpx,hqx,-,-,-,t3,hx⟩;have hx2:err=0∧x=begR:=by
  rcases hx with⟨h1,h2,h3⟩ | ⟨h1,h2,h3⟩
  · exact⟨h1,recBytes_inj h2 begR_ok h3⟩
  · exact absurd rfl (h3 begR begR_ok)
 obtain⟨rfl,rfl⟩:=hx2;have T3:=η (T2.out.trans t3);have HPX:=η hpx;have HQX:=η hqx;clear CD hx t3 hpx hqx T2;unfold RecV.cells begR;dsimp only[List.length_nil,List.length_cons];go_wp2_with fail;obtain⟨g,hg⟩:=ε w3.heap.size;obtain⟨w4,hw4⟩:=ε (w3.alloc (.cells #[.int .i64 4,.int .i64 8589934597,.int .i64 0,.bool false,.slice ap 0 cp,.slice aq 1 cq] 37));have t4:Turn [] w3 w4:=by rw[hw4];exact Turn.alloc [] w3 _
 have b4:w4.heap[g]?=some (.cells #[.int .i64 4,.int .i64 8589934597,.int .i64 0,.bool false,.slice ap 0 cp,.slice aq 1 cq] 37):=by
  rw[hw4,hg];exact heap_alloc_new w3 _
 rw[←hw4,←hg];have T4:=η (T3.out.trans t4);have HC:Hid (∀wx,Turn [] w4 wx→wx.heap[g]?=some (.cells #[.int .i64 4,.int .i64 8589934597,.int .i64 0,.bool false,.slice ap 0 cp,.slice aq 1 cq] 37)∧Il wx ap cp begR.parts∧Ps wx aq cq begR.puts):=η (fun wx tx=>⟨tx.heap b4,(HPX.out.turn t4).turn tx,(HQX.out.turn t4).turn tx⟩);have HC1:Hid (∀wx,Turn [] w1 wx→wx.heap[q+1]?=some (.cells #[.int .i64 4,.int .i64 8589934597,.int .i64 0,.bool false,.slice none 0 0,.slice (some ⟨q,0,none⟩) 1 1] 37)∧Ps wx (some ⟨q,0,none⟩) 1 begR.puts):=η (fun wx tx=>⟨tx.heap B1.out,HPS.out.turn tx⟩);clear hw4 hg t4 b4 HPX HQX HPS T3 B1;refine(F.dec [] w4 none 0 (Sl.nil _)).mono ?_;rintro e w5 ⟨x,ap5,cp5,aq5,cq5,err,rfl,-,-,-,-,-,t5,hx⟩;have hx2:err=1∧x=recNone:=by
  rcases hx with⟨h1,h2,h3⟩ | ⟨h1,h2,h3⟩
  · have:=recBytes_long x;rw[h3]at this;simp at this
  · exact⟨h1,h2⟩
 obtain⟨rfl,rfl⟩:=hx2;have T5:=η t5;clear hx t5;unfold RecV.cells recNone;dsimp only[List.length_nil,List.length_cons];go_wp2_with fail;obtain⟨w6,hw6⟩:=ε (w5.alloc (.cells #[.int .i64 0,.int .i64 0,.int .i64 0,.bool false,.slice ap5 0 cp5,.slice aq5 0 cq5] 37));have T6:Hid (Turn [] w4 w6):=η (by rw[hw6];exact T5.out.trans (Turn.alloc [] w5 _));rw[←hw6];clear hw6 T5;refine(lawBegun_calls w6).mono ?_;rintro e w7 ⟨rfl,t7⟩;have T7:=η (T6.out.trans t7);clear t7 T6;go_wp2_with fail;refine(begQ w7).mono ?_;rintro e w8 ⟨rfl,t8⟩;have T8:=η (T7.out.trans t8);clear t8 T7;go_wp2_with fail;refine(begQ0 w8).mono ?_;rintro e w9 ⟨rfl,t9⟩;have T9:=η (T8.out.trans t9);clear t9 T8;go_wp2_with fail;refine(begQ1 w9).mono ?_;rintro e w10 ⟨rfl,t10⟩;have T10:=η (T9.out.trans t10);clear t10 T9;go_wp2_with fail;refine(begB _).mono ?_;rintro e w11 ⟨rfl,rfl⟩;go_wp2_with fail;refine(begT _).mono ?_;rintro e w11 ⟨rfl,rfl⟩;go_wp2_with fail;refine(begH _).mono ?_;rintro e w11 ⟨rfl,rfl⟩;go_wp2_with fail;refine(begT0 _).mono ?_;rintro e w11 ⟨rfl,rfl⟩;obtain⟨x1,x2⟩:=HC1.out w10 (T4.out.trans T10.out);obtain⟨k0,k1,k2,k3,k4,k5⟩:=six_of x1;have HP10:=η x2;clear x1 x2;go_wp2_with fail;have CR:=kindRecord_calls begR (ap:=none) (cp:=0) (.inl ⟨rfl,rfl,rfl⟩) HP10.out (by unfold begR;dsimp only;omega) (by unfold begR;dsimp only;omega);rw[begR_ok]at CR;refine CR.mono ?_;rintro e w12 ⟨rfl,t12⟩;have T12:=η (T10.out.trans t12);clear t12 T10 CR k0 k1 k2 k3 k4 k5;go_wp2_with fail;refine(begN w12).mono ?_;rintro e w13 ⟨rfl,t13⟩;have T13:=η (T12.out.trans t13);clear t13 T12;go_wp2_with fail;refine(begP w13).mono ?_;rintro e w14 ⟨rfl,t14⟩;have T14:=η (T13.out.trans t14);clear t14 T13;obtain⟨x1,x2⟩:=HC1.out w14 (T4.out.trans T14.out);obtain⟨k0,k1,k2,k3,k4,k5⟩:=six_of x1;obtain⟨y1,y2,y3⟩:=HC.out w14 T14.out;obtain⟨m0,m1,m2,m3,m4,m5⟩:=six_of y1;have HP14:=η x2;have HX14:=η y2;have HY14:=η y3;clear x1 x2 y1 y2 y3;go_wp2_with fail;have CE:=F.eq begR begR w14 ap aq none (some ⟨q,0,none⟩) cp cq 0 1 HX14.out HY14.out (.inl ⟨rfl,rfl,rfl⟩) HP14.out;rw[show eqRecB begR begR=true from(eqRecB_iff _ _).2 rfl]at CE;refine CE.mono ?_;rintro e w15 ⟨rfl,t15⟩;have T15:=η (T14.out.trans t15);clear t15 T14 CE k0 k1 k2 k3 k4 k5 m0 m1 m2 m3 m4 m5;go_wp2_with fail;refine(F.enc recNone w15 none 0 none 0 (.inl ⟨rfl,rfl,rfl⟩) (.inl ⟨rfl,rfl,rfl⟩) recNone_fit).mono ?_;rintro e w16 ⟨v16,rfl,-,hv,t16⟩;have hv:=hv (by decide+kernel);subst hv;have T16:=η (T15.out.trans t16);have hnil:=nil_test w16 none 0 0;clear t16 T15;go_wp2;go_ret;exact⟨rfl,T1.out.trans (T4.out.trans T16.out)⟩
theorem recFace:RecFace where
 enc:=fun r w ap cp aq cq hp hq hf=>encode_calls r w ap cp aq cq hp hq hf
 dec:=fun l w ao c h=>decode_calls l w ao c h
 eq:=fun a b _ _ _ _ _ _ _ _ _ h1 h2 h3 h4=>eq_calls a b h1 h2 h3 h4
end Go.Proofs.YtkjpjfghklgdhaaGreat
