/-
  PkAS
-/
import Derived.Test.YtkjpjfghklgdhaaGreatPkAR
set_option maxHeartbeats 4000000
set_option maxRecDepth 100000
namespace Go.Proofs.YtkjpjfghklgdhaaGreat
open Go.RowKit Go.Proofs.YtkjpjfghklgdhaaGreat.V
theorem isOther_calls {w:World} {a:Ads} {s:StV} (h:StIs w a s) (hm:MayP s) (r:RecV) (ap aq:Option Addr) (cp cq:Nat) (hp:Il w ap cp r.parts) (ht:okI r.tid):
 Calls Tryz.prog 74 #[.agg (s.cells a),.agg (r.cells ap cp aq cq)] w fun e w'=>e=.returned (.bool (otherB s r))∧Turn [] w w':=by
 obtain⟨k,t,d,y,P,Q⟩:=r;unfold RecV.cells;dsimp only at hp ht ⊢;obtain⟨ans,ha⟩:=ε (otherB s ⟨k,t,d,y,P,Q⟩);have HA:=η ha;rw[←ha];have C1:=η (fun wx=>kindMake_calls s.broker (s.tx+1) wx);have C2:=fun wx (q:Turn [] w wx)=>prepared_calls (h.still q) hm.waitsR (by have:=hm.lwaits;omega) t
 have C3:=fun wx (q:Turn [] w wx)=>open_calls (h.still q) hm.openR (by have:=hm.lopen;omega) t
 have C4:=fun wx=>isOwn_calls (w:=wx) s a t ht
 have C5:=fun wx (q:Turn [] w wx)=>isPart_calls s a (hp.turn q)
 have hx1:=hm.tx1;have hx2:=hm.tx2;obtain⟨np,hnp⟩:=ε P.length;obtain⟨nq,hnq⟩:=ε Q.length;rw[←hnp]at C5;rw[←hnp,←hnq];obtain⟨mk,emk⟩:=ε (makeZ s.broker (s.tx+1));obtain⟨r2,e2⟩:=ε (keyB BrV.tid s.waits t);obtain⟨r3,e3⟩:=ε (keyB PendV.tid s.open_ t);obtain⟨r4,e4⟩:=ε (decide (homeZ t=s.broker));obtain⟨r5,e5⟩:=ε (decide (s.broker∈P));rw[←emk]at C1;rw[←e2]at C2;rw[←e3]at C3;rw[←e4]at C4;rw[←e5]at C5;have C2:=η C2;have C3:=η C3;have C4:=η C4;have C5:=η C5;have T0:=η ((Turn.alloc [] w (.cells (s.cells a) 27)).trans (Turn.alloc [] _ (.cells #[.int .i64 k,.int .i64 t,.int .i64 d,.bool y,.slice ap np cp,.slice aq nq cq] 37)));have U0:=η (Turn.refl [] ((w.alloc (.cells (s.cells a) 27)).alloc (.cells #[.int .i64 k,.int .i64 t,.int .i64 d,.bool y,.slice ap np cp,.slice aq nq cq] 37)));have HS:=η (fun wx (tt:Turn [] ((w.alloc (.cells (s.cells a) 27)).alloc (.cells #[.int .i64 k,.int .i64 t,.int .i64 d,.bool y,.slice ap np cp,.slice aq nq cq] 37)) wx)=>h.still (T0.out.trans tt));have BX:=η (fun wx (tt:Turn [] ((w.alloc (.cells (s.cells a) 27)).alloc (.cells #[.int .i64 k,.int .i64 t,.int .i64 d,.bool y,.slice ap np cp,.slice aq nq cq] 37)) wx)=>s.boxed a ((Turn.alloc [] _ _).trans tt))
 have RX:Hid (∀wx,Turn [] ((w.alloc (.cells (s.cells a) 27)).alloc (.cells #[.int .i64 k,.int .i64 t,.int .i64 d,.bool y,.slice ap np cp,.slice aq nq cq] 37)) wx→wx.cell? ⟨w.heap.size+1,0,none⟩=some (.int .i64 k)∧wx.cell? ⟨w.heap.size+1,1,none⟩=some (.int .i64 t)∧wx.cell? ⟨w.heap.size+1,2,none⟩=some (.int .i64 d)∧wx.cell? ⟨w.heap.size+1,3,none⟩=some (.bool y)∧wx.cell? ⟨w.heap.size+1,4,none⟩=some (.slice ap np cp)∧wx.cell? ⟨w.heap.size+1,5,none⟩=some (.slice aq nq cq)):=η (fun wx tt=>by
  have:=heap_alloc_new (w.alloc (.cells (s.cells a) 27)) (.cells #[.int .i64 k,.int .i64 t,.int .i64 d,.bool y,.slice ap np cp,.slice aq nq cq] 37);rw[show(w.alloc (.cells (s.cells a) 27)).heap.size=w.heap.size+1 by simp]at this;have:=tt.heap this
  refine⟨?_,?_,?_,?_,?_,?_⟩<;>rw[cell_of_row _ _ _ _ _ _ this]<;>rfl)
 have HB1:Hid (k=1→ans=(t != mk)):=η (fun e=>by rw[HA.out];unfold otherB;dsimp only;subst e;rw[if_pos rfl,emk];by_cases q:t=makeZ s.broker (s.tx+1)<;>simp[q]);have HB3:Hid (k=3→ans=(r2 || r3)):=η (fun e=>by rw[HA.out];unfold otherB;dsimp only;subst e;rw[if_neg (by omega),if_pos rfl,e2,e3]);have HB4:Hid (k=4→ans=(r2 || r4)):=η (fun e=>by rw[HA.out];unfold otherB;dsimp only;subst e;rw[if_neg (by omega),if_neg (by omega),if_pos rfl,e2,e4]);have HB6:Hid (k=6→ans=(!r4 || (r2 || (r5 || r3)))):=η (fun e=>by rw[HA.out];unfold otherB;dsimp only;subst e;rw[if_neg (by omega),if_neg (by omega),if_neg (by omega),if_pos (by omega),e2,e3,e4,e5];simp);have HB7:Hid (k=7∨k=8→ans=(!r4 || (r2 || (r5 || false)))):=η (fun e=>by rw[HA.out];unfold otherB;dsimp only;rcases e with e | e<;>(subst e;rw[if_neg (by omega),if_neg (by omega),if_neg (by omega),if_pos (by omega),e2,e4,e5];simp));have HB0:Hid (k≠1→k≠3→k≠4→¬(k=6∨k=7∨k=8)→ans=false):=η (fun q1 q3 q4 q6=>by rw[HA.out];unfold otherB;dsimp only;rw[if_neg q1,if_neg q3,if_neg q4,if_neg q6]);clear HA;unfold StV.cells at*;clear h hm ha hnp hnq HS hp ht emk e2 e3 e4 e5;by_cases k1:k=1
 case pos=>
  have HF:=η (HB1.out k1);subst k1;clear HB1 HB3 HB4 HB6 HB7 HB0 C2 C3 C4 C5;have hw:IntKind.i64.wrap (s.tx+1)=s.tx+1:=by rw[IntKind.wrap_i64];omega
  go_in;go_wp2_with fail;go_quiet ((go_at_call 137;exact(C1.out _).mono fun _ _ h=>⟨h.1,_,h.2.symm⟩));go_wp2_with fail;go_ret;exact⟨ret_bool HF.out.symm,T0.out.trans (Turn.drewN [] _ _)⟩
 have h1:(k==1)=false:=by simpa using k1
 by_cases k3:k=3
 case pos=>
  have HA:=η (HB3.out k3);subst k3;clear HB1 HB3 HB4 HB6 HB7 HB0 C1 C4 C5;go_in;go_wp2_with fail;refine(C2.out _ T0.out).mono ?_;rintro e x1 ⟨rfl,t1⟩;have U1:=η (U0.out.trans t1);clear t1;cases r2 with
  | true=>
   have HF:Hid (ans=true):=η (by rw[HA.out];rfl);clear HA;go_wp2_with fail;go_ret;exact⟨ret_bool HF.out.symm,T0.out.trans U1.out⟩
  | false=>
   obtain⟨b0,b1,b2,b3,b4,b5,b6,b7,b8⟩:=BX.out _ U1.out;obtain⟨m0,m1,m2,m3,m4,m5⟩:=RX.out _ U1.out;go_wp2_with fail;refine(C3.out _ (T0.out.trans U1.out)).mono ?_;rintro e x2 ⟨rfl,t2⟩;have U2:=η (U1.out.trans t2);clear t2;cases r3 with
   | true=>
    have HF:Hid (ans=true):=η (by rw[HA.out];rfl);clear HA;go_wp2_with fail;go_ret;exact⟨ret_bool HF.out.symm,T0.out.trans U2.out⟩
   | false=>
    have HF:Hid (ans=false):=η (by rw[HA.out];rfl);clear HA;go_wp2_with fail;go_ret;exact⟨ret_bool HF.out.symm,T0.out.trans U2.out⟩
 have h3:(k==3)=false:=by simpa using k3
 by_cases k4:k=4
 case pos=>
  have HA:=η (HB4.out k4);subst k4;clear HB1 HB3 HB4 HB6 HB7 HB0 C1 C3 C5;go_in;go_wp2_with fail;refine(C2.out _ T0.out).mono ?_;rintro e x1 ⟨rfl,t1⟩;have U1:=η (U0.out.trans t1);clear t1;cases r2 with
  | true=>
   have HF:Hid (ans=true):=η (by rw[HA.out];rfl);clear HA;go_wp2_with fail;go_ret;exact⟨ret_bool HF.out.symm,T0.out.trans U1.out⟩
  | false=>
   obtain⟨b0,b1,b2,b3,b4,b5,b6,b7,b8⟩:=BX.out _ U1.out;obtain⟨m0,m1,m2,m3,m4,m5⟩:=RX.out _ U1.out;go_wp2_with fail;refine(C4.out _).mono ?_;rintro e x2 ⟨rfl,t2⟩;have U2:=η (U1.out.trans t2);clear t2;cases r4 with
   | true=>
    have HF:Hid (ans=true):=η (by rw[HA.out];rfl);clear HA;go_wp2_with fail;go_ret;exact⟨ret_bool HF.out.symm,T0.out.trans U2.out⟩
   | false=>
    have HF:Hid (ans=false):=η (by rw[HA.out];rfl);clear HA;go_wp2_with fail;go_ret;exact⟨ret_bool HF.out.symm,T0.out.trans U2.out⟩
 have h4:(k==4)=false:=by simpa using k4
 by_cases k6:k=6
 case pos=>
  have HA:=η (HB6.out k6);subst k6;clear HB1 HB3 HB4 HB6 HB7 HB0 C1;go_in;go_wp2_with fail;refine(C4.out _).mono ?_;rintro e x1 ⟨rfl,t1⟩;have U1:=η (U0.out.trans t1);clear t1;cases r4 with
  | false=>
   have HF:Hid (ans=true):=η (by rw[HA.out];rfl);clear HA;go_wp2_with fail;go_ret;exact⟨ret_bool HF.out.symm,T0.out.trans U1.out⟩
  | true=>
   obtain⟨b0,b1,b2,b3,b4,b5,b6,b7,b8⟩:=BX.out _ U1.out;obtain⟨m0,m1,m2,m3,m4,m5⟩:=RX.out _ U1.out;go_wp2_with fail;refine(C2.out _ (T0.out.trans U1.out)).mono ?_;rintro e x2 ⟨rfl,t2⟩;have U2:=η (U1.out.trans t2);clear t2;clear b0 b1 b2 b3 b4 b5 b6 b7 b8 m0 m1 m2 m3 m4 m5;cases r2 with
   | true=>
    have HF:Hid (ans=true):=η (by rw[HA.out];rfl);clear HA;go_wp2_with fail;go_ret;exact⟨ret_bool HF.out.symm,T0.out.trans U2.out⟩
   | false=>
    obtain⟨b0,b1,b2,b3,b4,b5,b6,b7,b8⟩:=BX.out _ U2.out;obtain⟨m0,m1,m2,m3,m4,m5⟩:=RX.out _ U2.out;go_wp2_with fail;refine(C5.out _ (T0.out.trans U2.out)).mono ?_;rintro e x3 ⟨rfl,t3⟩;have U3:=η (U2.out.trans t3);clear t3;clear b0 b1 b2 b3 b4 b5 b6 b7 b8 m0 m1 m2 m3 m4 m5;cases r5 with
    | true=>
     have HF:Hid (ans=true):=η (by rw[HA.out];rfl);clear HA;go_wp2_with fail;go_ret;exact⟨ret_bool HF.out.symm,T0.out.trans U3.out⟩
    | false=>
     obtain⟨b0,b1,b2,b3,b4,b5,b6,b7,b8⟩:=BX.out _ U3.out;obtain⟨m0,m1,m2,m3,m4,m5⟩:=RX.out _ U3.out;go_wp2_with fail;refine(C3.out _ (T0.out.trans U3.out)).mono ?_;rintro e x4 ⟨rfl,t4⟩;have U4:=η (U3.out.trans t4);clear t4;cases r3 with
     | true=>
      have HF:Hid (ans=true):=η (by rw[HA.out];rfl);clear HA;go_wp2_with fail;go_ret;exact⟨ret_bool HF.out.symm,T0.out.trans U4.out⟩
     | false=>
      have HF:Hid (ans=false):=η (by rw[HA.out];rfl);clear HA;go_wp2_with fail;go_ret;exact⟨ret_bool HF.out.symm,T0.out.trans U4.out⟩
 have h6:(k==6)=false:=by simpa using k6
 by_cases k7:k=7
 case pos=>
  have HA:=η (HB7.out (.inl k7));subst k7;clear HB1 HB3 HB4 HB6 HB7 HB0 C1;go_in;go_wp2_with fail;refine(C4.out _).mono ?_;rintro e x1 ⟨rfl,t1⟩;have U1:=η (U0.out.trans t1);clear t1;cases r4 with
  | false=>
   have HF:Hid (ans=true):=η (by rw[HA.out];rfl);clear HA;go_wp2_with fail;go_ret;exact⟨ret_bool HF.out.symm,T0.out.trans U1.out⟩
  | true=>
   obtain⟨b0,b1,b2,b3,b4,b5,b6,b7,b8⟩:=BX.out _ U1.out;obtain⟨m0,m1,m2,m3,m4,m5⟩:=RX.out _ U1.out;go_wp2_with fail;refine(C2.out _ (T0.out.trans U1.out)).mono ?_;rintro e x2 ⟨rfl,t2⟩;have U2:=η (U1.out.trans t2);clear t2;clear b0 b1 b2 b3 b4 b5 b6 b7 b8 m0 m1 m2 m3 m4 m5;cases r2 with
   | true=>
    have HF:Hid (ans=true):=η (by rw[HA.out];rfl);clear HA;go_wp2_with fail;go_ret;exact⟨ret_bool HF.out.symm,T0.out.trans U2.out⟩
   | false=>
    obtain⟨b0,b1,b2,b3,b4,b5,b6,b7,b8⟩:=BX.out _ U2.out;obtain⟨m0,m1,m2,m3,m4,m5⟩:=RX.out _ U2.out;go_wp2_with fail;refine(C5.out _ (T0.out.trans U2.out)).mono ?_;rintro e x3 ⟨rfl,t3⟩;have U3:=η (U2.out.trans t3);clear t3;clear b0 b1 b2 b3 b4 b5 b6 b7 b8 m0 m1 m2 m3 m4 m5;cases r5 with
    | true=>
     have HF:Hid (ans=true):=η (by rw[HA.out];rfl);clear HA;go_wp2_with fail;go_ret;exact⟨ret_bool HF.out.symm,T0.out.trans U3.out⟩
    | false=>
     obtain⟨b0,b1,b2,b3,b4,b5,b6,b7,b8⟩:=BX.out _ U3.out;obtain⟨m0,m1,m2,m3,m4,m5⟩:=RX.out _ U3.out;have HF:Hid (ans=false):=η (by rw[HA.out];rfl);clear HA;go_wp2_with fail;go_ret;exact⟨ret_bool HF.out.symm,T0.out.trans U3.out⟩
 have h7:(k==7)=false:=by simpa using k7
 by_cases k8:k=8
 case pos=>
  have HA:=η (HB7.out (.inr k8));subst k8;clear HB1 HB3 HB4 HB6 HB7 HB0 C1;go_in;go_wp2_with fail;refine(C4.out _).mono ?_;rintro e x1 ⟨rfl,t1⟩;have U1:=η (U0.out.trans t1);clear t1;cases r4 with
  | false=>
   have HF:Hid (ans=true):=η (by rw[HA.out];rfl);clear HA;go_wp2_with fail;go_ret;exact⟨ret_bool HF.out.symm,T0.out.trans U1.out⟩
  | true=>
   obtain⟨b0,b1,b2,b3,b4,b5,b6,b7,b8⟩:=BX.out _ U1.out;obtain⟨m0,m1,m2,m3,m4,m5⟩:=RX.out _ U1.out;go_wp2_with fail;refine(C2.out _ (T0.out.trans U1.out)).mono ?_;rintro e x2 ⟨rfl,t2⟩;have U2:=η (U1.out.trans t2);clear t2;clear b0 b1 b2 b3 b4 b5 b6 b7 b8 m0 m1 m2 m3 m4 m5;cases r2 with
   | true=>
    have HF:Hid (ans=true):=η (by rw[HA.out];rfl);clear HA;go_wp2_with fail;go_ret;exact⟨ret_bool HF.out.symm,T0.out.trans U2.out⟩
   | false=>
    obtain⟨b0,b1,b2,b3,b4,b5,b6,b7,b8⟩:=BX.out _ U2.out;obtain⟨m0,m1,m2,m3,m4,m5⟩:=RX.out _ U2.out;go_wp2_with fail;refine(C5.out _ (T0.out.trans U2.out)).mono ?_;rintro e x3 ⟨rfl,t3⟩;have U3:=η (U2.out.trans t3);clear t3;clear b0 b1 b2 b3 b4 b5 b6 b7 b8 m0 m1 m2 m3 m4 m5;cases r5 with
    | true=>
     have HF:Hid (ans=true):=η (by rw[HA.out];rfl);clear HA;go_wp2_with fail;go_ret;exact⟨ret_bool HF.out.symm,T0.out.trans U3.out⟩
    | false=>
     obtain⟨b0,b1,b2,b3,b4,b5,b6,b7,b8⟩:=BX.out _ U3.out;obtain⟨m0,m1,m2,m3,m4,m5⟩:=RX.out _ U3.out;have HF:Hid (ans=false):=η (by rw[HA.out];rfl);clear HA;go_wp2_with fail;go_ret;exact⟨ret_bool HF.out.symm,T0.out.trans U3.out⟩
 have h8:(k==8)=false:=by simpa using k8
 have HF:=η (HB0.out k1 k3 k4 (by omega));clear HB1 HB3 HB4 HB6 HB7 HB0 C1 C2 C3 C4 C5;go_in;go_wp2_with fail;go_ret;exact⟨ret_bool HF.out.symm,T0.out⟩
theorem isBusy_calls {w:World} {a:Ads} {s:StV} (h:StIs w a s) (hm:MayP s) (r:RecV) (ap aq:Option Addr) (cp cq:Nat) (hmiss:missB s r=false):
 Calls Tryz.prog 75 #[.agg (s.cells a),.agg (r.cells ap cp aq cq)] w fun e w'=>e=.returned (.bool (busyB s r))∧Turn [] w w':=by
 obtain⟨k,t,d,y,P,Q⟩:=r;unfold RecV.cells;obtain⟨np,hnp⟩:=ε P.length;obtain⟨nq,hnq⟩:=ε Q.length;dsimp only;rw[←hnp,←hnq];by_cases k2:k=2
 case neg=>
  have HF:Hid (busyB s ⟨k,t,d,y,P,Q⟩=false):=η (by unfold busyB;rw[if_neg k2]);rw[HF.out];have h2:(k != 2)=true:=by simpa using k2
  have T0:=η ((Turn.alloc [] w (.cells (s.cells a) 27)).trans (Turn.alloc [] _ (.cells #[.int .i64 k,.int .i64 t,.int .i64 d,.bool y,.slice ap np cp,.slice aq nq cq] 37)));have U0:=η (Turn.refl [] ((w.alloc (.cells (s.cells a) 27)).alloc (.cells #[.int .i64 k,.int .i64 t,.int .i64 d,.bool y,.slice ap np cp,.slice aq nq cq] 37)));have HS:=η (fun wx (tt:Turn [] ((w.alloc (.cells (s.cells a) 27)).alloc (.cells #[.int .i64 k,.int .i64 t,.int .i64 d,.bool y,.slice ap np cp,.slice aq nq cq] 37)) wx)=>h.still (T0.out.trans tt));have BX:=η (fun wx (tt:Turn [] ((w.alloc (.cells (s.cells a) 27)).alloc (.cells #[.int .i64 k,.int .i64 t,.int .i64 d,.bool y,.slice ap np cp,.slice aq nq cq] 37)) wx)=>s.boxed a ((Turn.alloc [] _ _).trans tt))
  have RX:Hid (∀wx,Turn [] ((w.alloc (.cells (s.cells a) 27)).alloc (.cells #[.int .i64 k,.int .i64 t,.int .i64 d,.bool y,.slice ap np cp,.slice aq nq cq] 37)) wx→wx.cell? ⟨w.heap.size+1,0,none⟩=some (.int .i64 k)∧wx.cell? ⟨w.heap.size+1,1,none⟩=some (.int .i64 t)∧wx.cell? ⟨w.heap.size+1,2,none⟩=some (.int .i64 d)∧wx.cell? ⟨w.heap.size+1,3,none⟩=some (.bool y)∧wx.cell? ⟨w.heap.size+1,4,none⟩=some (.slice ap np cp)∧wx.cell? ⟨w.heap.size+1,5,none⟩=some (.slice aq nq cq)):=η (fun wx tt=>by
   have:=heap_alloc_new (w.alloc (.cells (s.cells a) 27)) (.cells #[.int .i64 k,.int .i64 t,.int .i64 d,.bool y,.slice ap np cp,.slice aq nq cq] 37);rw[show(w.alloc (.cells (s.cells a) 27)).heap.size=w.heap.size+1 by simp]at this;have:=tt.heap this
   refine⟨?_,?_,?_,?_,?_,?_⟩<;>rw[cell_of_row _ _ _ _ _ _ this]<;>rfl)
  unfold StV.cells at*;clear h hm hnp hnq HS HF;go_in;go_wp2_with fail;go_ret;exact⟨rfl,T0.out⟩
 subst k2;have hbz:∃(pk:Nat) (m:MsgV),placeI (fun m:MsgV=>decide (m.id=d)) s.ms=(pk:Int)∧s.ms[pk]?=some m∧busyB s ⟨2,t,d,y,P,Q⟩=((decide (m.by_≠0)&&decide (m.by_≠t)) || (keyB BrV.tid s.waits t || keyB PendV.tid s.open_ t)):=by
  unfold missB at hmiss;rw[if_pos rfl,decide_eq_false_iff_not]at hmiss;rcases place_find (fun m:MsgV=>decide (m.id=d)) s.ms with⟨h1,-⟩ | ⟨pk,m,h1,h2,h3⟩
  · exact absurd h1 hmiss
  · refine⟨pk,m,h1,h2,?_⟩;have:msgOf s d=some m:=h3;unfold busyB;rw[if_pos rfl];dsimp only;rw[this]
 obtain⟨pk,m,hpk,hmm,hbz⟩:=hbz;rw[hbz];have hpl:=(List.getElem?_eq_some_iff.1 hmm).1;have C1:=fun wx (q:Turn [] w wx)=>messageAt_calls (h.still q) d
 rw[hpk]at C1;have C1:=η C1;have C2:=fun wx (q:Turn [] w wx)=>prepared_calls (h.still q) hm.waitsR (by have:=hm.lwaits;omega) t
 have C3:=fun wx (q:Turn [] w wx)=>open_calls (h.still q) hm.openR (by have:=hm.lopen;omega) t
 obtain⟨r2,e2⟩:=ε (keyB BrV.tid s.waits t);obtain⟨r3,e3⟩:=ε (keyB PendV.tid s.open_ t);rw[←e2]at C2 ⊢;rw[←e3]at C3 ⊢;have C2:=η C2;have C3:=η C3;have T0:=η ((Turn.alloc [] w (.cells (s.cells a) 27)).trans (Turn.alloc [] _ (.cells #[.int .i64 2,.int .i64 t,.int .i64 d,.bool y,.slice ap np cp,.slice aq nq cq] 37)));have U0:=η (Turn.refl [] ((w.alloc (.cells (s.cells a) 27)).alloc (.cells #[.int .i64 2,.int .i64 t,.int .i64 d,.bool y,.slice ap np cp,.slice aq nq cq] 37)));have HS:=η (fun wx (tt:Turn [] ((w.alloc (.cells (s.cells a) 27)).alloc (.cells #[.int .i64 2,.int .i64 t,.int .i64 d,.bool y,.slice ap np cp,.slice aq nq cq] 37)) wx)=>h.still (T0.out.trans tt));have BX:=η (fun wx (tt:Turn [] ((w.alloc (.cells (s.cells a) 27)).alloc (.cells #[.int .i64 2,.int .i64 t,.int .i64 d,.bool y,.slice ap np cp,.slice aq nq cq] 37)) wx)=>s.boxed a ((Turn.alloc [] _ _).trans tt))
 have RX:Hid (∀wx,Turn [] ((w.alloc (.cells (s.cells a) 27)).alloc (.cells #[.int .i64 2,.int .i64 t,.int .i64 d,.bool y,.slice ap np cp,.slice aq nq cq] 37)) wx→wx.cell? ⟨w.heap.size+1,0,none⟩=some (.int .i64 2)∧wx.cell? ⟨w.heap.size+1,1,none⟩=some (.int .i64 t)∧wx.cell? ⟨w.heap.size+1,2,none⟩=some (.int .i64 d)∧wx.cell? ⟨w.heap.size+1,3,none⟩=some (.bool y)∧wx.cell? ⟨w.heap.size+1,4,none⟩=some (.slice ap np cp)∧wx.cell? ⟨w.heap.size+1,5,none⟩=some (.slice aq nq cq)):=η (fun wx tt=>by
  have:=heap_alloc_new (w.alloc (.cells (s.cells a) 27)) (.cells #[.int .i64 2,.int .i64 t,.int .i64 d,.bool y,.slice ap np cp,.slice aq nq cq] 37);rw[show(w.alloc (.cells (s.cells a) 27)).heap.size=w.heap.size+1 by simp]at this;have:=tt.heap this
  refine⟨?_,?_,?_,?_,?_,?_⟩<;>rw[cell_of_row _ _ _ _ _ _ this]<;>rfl)
 have HZ:=η (fun wx (tt:Turn [] ((w.alloc (.cells (s.cells a) 27)).alloc (.cells #[.int .i64 2,.int .i64 t,.int .i64 d,.bool y,.slice ap np cp,.slice aq nq cq] 37)) wx)=>(HS.out wx tt).ms);obtain⟨by_,hby⟩:=ε m.by_;rw[←hby];have HBY:=η hby;have HMM:=η hmm;unfold StV.cells at*;obtain⟨am,cm,aw,cw,ae,ce,oo,co,an,cn⟩:=a;dsimp only at C1 C2 C3 T0 U0 BX RX HZ ⊢;obtain⟨g,off,rfl,-⟩:=(HZ.out _ U0.out).at hmm
 have HC:Hid (∀wx,Turn [] _ wx→wx.cell? ⟨g,off+pk*6+5,none⟩=some (.int .i64 by_)):=η (fun wx tt=>by
  obtain⟨g',off',e0,hat⟩:=(HZ.out wx tt).at HMM.out;injection e0 with e0
  injection e0 with e1 e2 _
  subst e1 e2;rw[HBY.out]
  exact hat 5 _ rfl)
 obtain⟨nm,hnm⟩:=ε s.ms.length;rw[←hnm]at hpl;rw[←hnm]at C1 C2 C3 T0 U0 BX RX HC ⊢;have hb:0≤(pk:Int)∧(pk:Int)<(nm:Int):=by omega
 clear h hm hnp hnq HS hmiss hbz hpk hmm e2 e3 hby HZ hnm;have c5:=HC.out _ U0.out;have D1:=η (C1.out _ (T0.out.trans (Turn.drew [] _)));obtain⟨xb,hxb⟩:=ε (((w.alloc (.cells #[.int .i64 s.broker,.int .i64 s.nextId,.int .i64 s.nextSeq,.int .i64 s.tx,.slice (some ⟨g,off,none⟩) nm cm,.slice aw s.waits.length cw,.slice ae s.ends.length ce,.slice oo s.open_.length co,.slice an s.noes.length cn] 27)).alloc (.cells #[.int .i64 2,.int .i64 t,.int .i64 d,.bool y,.slice ap np cp,.slice aq nq cq] 37)));have HXB:=η hxb;obtain⟨b0,b1,b2,b3,b4,b5,b6,b7,b8⟩:=BX.out _ U0.out;obtain⟨m0,m1,m2,m3,m4,m5⟩:=RX.out _ U0.out;rw[←hxb]at T0 U0 BX RX HC c5 D1 b0 b1 b2 b3 b4 b5 b6 b7 b8 m0 m1 m2 m3 m4 m5;obtain⟨ans,ha⟩:=ε (((decide (by_≠0)&&decide (by_≠t)) || (r2 || r3)));have HA:=η ha;rw[←ha];clear ha;clear hxb;go_in;go_wp2_with fail;rw[←HXB.out];clear HXB;go_cut [5] from 9 to 17 (fun v5 wx=>v5=.int .i64 by_∧Turn [] xb wx)
 case first=>
  go_region_with ((go_at_call 124;refine D1.out.mono ?_;rintro e x1 ⟨rfl,t1⟩;have U1:=η ((Turn.drew [] xb).trans t1);clear t1;have c5x:=HC.out _ U1.out;obtain⟨z0,z1,z2,z3,z4,z5,z6,z7,z8⟩:=BX.out _ U1.out;obtain⟨y0,y1,y2,y3,y4,y5⟩:=RX.out _ U1.out))
  all_goals
   go_wp2_with fail;go_meet;exact⟨rfl,U1.out⟩
 case rest=>
  obtain⟨rfl,ht⟩:=hcut;have U1:=η ht;clear ht c5 D1;have V1:=η (T0.out.trans U1.out);by_cases q0:by_=0
  case neg=>
   by_cases q1:by_=t
   case neg=>
    have HF:Hid (ans=true):=η (by rw[HA.out];simp[q0,q1]);have n0:(by_ != 0)=true:=by simpa using q0
    have n1:(by_ != t)=true:=by simpa using q1
    clear HA;obtain⟨m0,m1,m2,m3,m4,m5⟩:=RX.out _ U1.out;go_wp2_with fail;go_ret;exact⟨ret_bool HF.out.symm,V1.out⟩
   have HA:Hid (ans=(r2 || r3)):=η (by rw[HA.out];simp[q1]);have n0:(by_ != 0)=true:=by simpa using q0
   have n1:(by_ != t)=false:=by simpa using q1
   obtain⟨b0,b1,b2,b3,b4,b5,b6,b7,b8⟩:=BX.out _ U1.out;obtain⟨m0,m1,m2,m3,m4,m5⟩:=RX.out _ U1.out;go_wp2_with fail;refine(C2.out _ V1.out).mono ?_;rintro e x2 ⟨rfl,t2⟩;have U2:=η (U1.out.trans t2);clear t2;clear b0 b1 b2 b3 b4 b5 b6 b7 b8 m0 m1 m2 m3 m4 m5;cases r2 with
   | true=>
    have HF:Hid (ans=true):=η (by rw[HA.out];rfl);clear HA;go_wp2_with fail;go_ret;exact⟨ret_bool HF.out.symm,T0.out.trans U2.out⟩
   | false=>
    obtain⟨b0,b1,b2,b3,b4,b5,b6,b7,b8⟩:=BX.out _ U2.out;obtain⟨m0,m1,m2,m3,m4,m5⟩:=RX.out _ U2.out;go_wp2_with fail;refine(C3.out _ (T0.out.trans U2.out)).mono ?_;rintro e x3 ⟨rfl,t3⟩;have U3:=η (U2.out.trans t3);clear t3;cases r3 with
    | true=>
     have HF:Hid (ans=true):=η (by rw[HA.out];rfl);clear HA;go_wp2_with fail;go_ret;exact⟨ret_bool HF.out.symm,T0.out.trans U3.out⟩
    | false=>
     have HF:Hid (ans=false):=η (by rw[HA.out];rfl);clear HA;go_wp2_with fail;go_ret;exact⟨ret_bool HF.out.symm,T0.out.trans U3.out⟩
  have HA:Hid (ans=(r2 || r3)):=η (by rw[HA.out];simp[q0]);have n0:(by_ != 0)=false:=by simpa using q0
  obtain⟨b0,b1,b2,b3,b4,b5,b6,b7,b8⟩:=BX.out _ U1.out;obtain⟨m0,m1,m2,m3,m4,m5⟩:=RX.out _ U1.out;go_wp2_with fail;refine(C2.out _ V1.out).mono ?_;rintro e x2 ⟨rfl,t2⟩;have U2:=η (U1.out.trans t2);clear t2;clear b0 b1 b2 b3 b4 b5 b6 b7 b8 m0 m1 m2 m3 m4 m5;cases r2 with
  | true=>
   have HF:Hid (ans=true):=η (by rw[HA.out];rfl);clear HA;go_wp2_with fail;go_ret;exact⟨ret_bool HF.out.symm,T0.out.trans U2.out⟩
  | false=>
   obtain⟨b0,b1,b2,b3,b4,b5,b6,b7,b8⟩:=BX.out _ U2.out;obtain⟨m0,m1,m2,m3,m4,m5⟩:=RX.out _ U2.out;go_wp2_with fail;refine(C3.out _ (T0.out.trans U2.out)).mono ?_;rintro e x3 ⟨rfl,t3⟩;have U3:=η (U2.out.trans t3);clear t3;cases r3 with
   | true=>
    have HF:Hid (ans=true):=η (by rw[HA.out];rfl);clear HA;go_wp2_with fail;go_ret;exact⟨ret_bool HF.out.symm,T0.out.trans U3.out⟩
   | false=>
    have HF:Hid (ans=false):=η (by rw[HA.out];rfl);clear HA;go_wp2_with fail;go_ret;exact⟨ret_bool HF.out.symm,T0.out.trans U3.out⟩
theorem pend_few {s:StV} (hm:MayP s) {n:Nat} (hn:n≤10):pending s+n≤1000000:=by
 have h1:∀(l:List BrV),(∀x∈l,putsB x.puts=true)→(l.map fun x=>x.puts.length).sum≤l.length*10:=by
  intro l
  induction l with
  | nil=>intro _;simp
  | cons x l ih=>
   intro h;have h2:=ih (fun y hy=>h y (by simp[hy]));have h3:=h x (by simp);unfold putsB at h3;simp at h3;simp only[List.map_cons,List.sum_cons,List.length_cons];have:=h3.2;omega
 have:=h1 s.waits (fun x hx=>(hm.waits x hx).2.2);have h4:=hm.lwaits;unfold pending;omega
theorem puts_few {r:RecV} (h:recB r=true):r.puts.length≤10:=by
 unfold recB at h;simp only[Bool.and_eq_true,Bool.or_eq_true,decide_eq_true_eq]at h;obtain⟨-,-,-,h4,-,h6⟩:=h;rcases h4 with h4 | h4
 · have:putsB r.puts=true:=by
    rcases h4 with k | k<;>(rw[k]at h6;simpa using h6)
   unfold putsB at this;simp at this;exact this.2
 · omega
theorem can_calls {w:World} {a:Ads} {s:StV} (h:StIs w a s) (hm:MayP s) (r:RecV) (ap aq:Option Addr) (cp cq:Nat) (hp:Il w ap cp r.parts) (hq:Ps w aq cq r.puts) (ht:okI r.tid) (hd:okI r.id):
 Calls Tryz.prog 26 #[.agg (s.cells a),.agg (r.cells ap cp aq cq)] w fun e w'=>e=.returned (.int .i64 (canE s r))∧Turn [] w w':=by
 rw[←canOwnE_is];obtain⟨ans,ha⟩:=ε (canOwnE s r);have HA:=η ha;rw[←ha];clear ha;have C1:=fun wx (q:Turn [] w wx)=>kindRecord_calls r (hp.turn q) (hq.turn q) ht hd
 have C2:=fun wx (q:Turn [] w wx)=>ended_calls (h.still q) hm.endsR (by have:=hm.lends;omega) r.tid
 have C3:=fun(g:recB r=true) wx (q:Turn [] w wx)=>isMissing_calls (h.still q) hm r ap aq cp cq (hp.turn q) g
 have C4:=fun wx (q:Turn [] w wx)=>isOther_calls (h.still q) hm r ap aq cp cq (hp.turn q) ht
 have C5:=fun(g:missB s r=false) wx (q:Turn [] w wx)=>isBusy_calls (h.still q) hm r ap aq cp cq g
 have C6:=fun(g:recB r=true) wx (q:Turn [] w wx)=>isFull_calls (h.still q) hm r ap aq cp cq (pend_few hm (puts_few g)) hp.len
 obtain⟨r1,e1⟩:=ε (recB r);obtain⟨r2,e2⟩:=ε (keyB EndV.tid s.ends r.tid);obtain⟨r3,e3⟩:=ε (missB s r);obtain⟨r4,e4⟩:=ε (otherB s r);obtain⟨r5,e5⟩:=ε (busyB s r);obtain⟨r6,e6⟩:=ε (fullB s r);have HA:Hid (ans=if r1=false then 1 else if (decide (r.kind≠9)&&r2)=true then 9 else if r3=true then 6 else if r4=true then 12 else if r5=true then 8 else if r6=true then 5 else 0):=η (by rw[HA.out,e1,e2,e3,e4,e5,e6];rfl);rw[←e1]at C1 C3 C6;rw[←e2]at C2;rw[←e3]at C3 C5;rw[←e4]at C4;rw[←e5]at C5;rw[←e6]at C6;clear e1 e2 e3 e4 e5 e6;obtain⟨k,t,d,y,P,Q⟩:=r;unfold RecV.cells;dsimp only at*;unfold RecV.cells at*;obtain⟨np,hnp⟩:=ε P.length;obtain⟨nq,hnq⟩:=ε Q.length;dsimp only at C1 C3 C4 C5 C6 ⊢;rw[←hnp,←hnq]at C1 C3 C4 C5 C6 ⊢;have K1:=η C1;have K2:=η C2;have K3:=η C3;have K4:=η C4;have K5:=η C5;have K6:=η C6;clear C1 C2 C3 C4 C5 C6;have T0:=η ((Turn.alloc [] w (.cells (s.cells a) 27)).trans (Turn.alloc [] _ (.cells #[.int .i64 k,.int .i64 t,.int .i64 d,.bool y,.slice ap np cp,.slice aq nq cq] 37)));have U0:=η (Turn.refl [] ((w.alloc (.cells (s.cells a) 27)).alloc (.cells #[.int .i64 k,.int .i64 t,.int .i64 d,.bool y,.slice ap np cp,.slice aq nq cq] 37)));have HS:=η (fun wx (tt:Turn [] ((w.alloc (.cells (s.cells a) 27)).alloc (.cells #[.int .i64 k,.int .i64 t,.int .i64 d,.bool y,.slice ap np cp,.slice aq nq cq] 37)) wx)=>h.still (T0.out.trans tt));have BX:=η (fun wx (tt:Turn [] ((w.alloc (.cells (s.cells a) 27)).alloc (.cells #[.int .i64 k,.int .i64 t,.int .i64 d,.bool y,.slice ap np cp,.slice aq nq cq] 37)) wx)=>s.boxed a ((Turn.alloc [] _ _).trans tt))
 have RX:Hid (∀wx,Turn [] ((w.alloc (.cells (s.cells a) 27)).alloc (.cells #[.int .i64 k,.int .i64 t,.int .i64 d,.bool y,.slice ap np cp,.slice aq nq cq] 37)) wx→wx.cell? ⟨w.heap.size+1,0,none⟩=some (.int .i64 k)∧wx.cell? ⟨w.heap.size+1,1,none⟩=some (.int .i64 t)∧wx.cell? ⟨w.heap.size+1,2,none⟩=some (.int .i64 d)∧wx.cell? ⟨w.heap.size+1,3,none⟩=some (.bool y)∧wx.cell? ⟨w.heap.size+1,4,none⟩=some (.slice ap np cp)∧wx.cell? ⟨w.heap.size+1,5,none⟩=some (.slice aq nq cq)):=η (fun wx tt=>by
  have:=heap_alloc_new (w.alloc (.cells (s.cells a) 27)) (.cells #[.int .i64 k,.int .i64 t,.int .i64 d,.bool y,.slice ap np cp,.slice aq nq cq] 37);rw[show(w.alloc (.cells (s.cells a) 27)).heap.size=w.heap.size+1 by simp]at this;have:=tt.heap this
  refine⟨?_,?_,?_,?_,?_,?_⟩<;>rw[cell_of_row _ _ _ _ _ _ this]<;>rfl)
 unfold StV.cells at*;clear h hm hnp hnq HS hp hq ht hd;go_in;go_wp2_with fail;refine(K1.out _ T0.out).mono ?_;rintro e x1 ⟨rfl,t1⟩;have U1:=η (U0.out.trans t1);clear t1;cases r1 with
 | false=>
  have HF:Hid (ans=1):=η (by rw[HA.out];rfl);clear HA;go_wp2_with fail;go_ret;exact⟨ret_int HF.out.symm,T0.out.trans U1.out⟩
 | true=>
  have D3:=η (K3.out (by simp));have D6:=η (K6.out (by simp));clear K3 K6 K1;obtain⟨b0,b1,b2,b3,b4,b5,b6,b7,b8⟩:=BX.out _ U1.out;obtain⟨m0,m1,m2,m3,m4,m5⟩:=RX.out _ U1.out;by_cases k9:k=9
  case pos=>
   subst k9;have HA:Hid (ans=if r3=true then 6 else if r4=true then 12 else if r5=true then 8 else if r6=true then 5 else 0):=η (by rw[HA.out];simp);clear K2;go_wp2_with fail;refine(D3.out _ (T0.out.trans U1.out)).mono ?_;rintro e x2 ⟨rfl,t2⟩;have U2:=η (U1.out.trans t2);clear t2;clear b0 b1 b2 b3 b4 b5 b6 b7 b8 m0 m1 m2 m3 m4 m5;cases r3 with
   | true=>
    have HF:Hid (ans=6):=η (by rw[HA.out];rfl);clear HA;go_wp2_with fail;go_ret;exact⟨ret_int HF.out.symm,T0.out.trans U2.out⟩
   | false=>
    have D5:=η (K5.out (by simp));clear K5;obtain⟨b0,b1,b2,b3,b4,b5,b6,b7,b8⟩:=BX.out _ U2.out;obtain⟨m0,m1,m2,m3,m4,m5⟩:=RX.out _ U2.out;go_wp2_with fail;refine(K4.out _ (T0.out.trans U2.out)).mono ?_;rintro e x3 ⟨rfl,t3⟩;have U3:=η (U2.out.trans t3);clear t3;clear b0 b1 b2 b3 b4 b5 b6 b7 b8 m0 m1 m2 m3 m4 m5;cases r4 with
    | true=>
     have HF:Hid (ans=12):=η (by rw[HA.out];rfl);clear HA;go_wp2_with fail;go_ret;exact⟨ret_int HF.out.symm,T0.out.trans U3.out⟩
    | false=>
     obtain⟨b0,b1,b2,b3,b4,b5,b6,b7,b8⟩:=BX.out _ U3.out;obtain⟨m0,m1,m2,m3,m4,m5⟩:=RX.out _ U3.out;go_wp2_with fail;refine(D5.out _ (T0.out.trans U3.out)).mono ?_;rintro e x4 ⟨rfl,t4⟩;have U4:=η (U3.out.trans t4);clear t4;clear b0 b1 b2 b3 b4 b5 b6 b7 b8 m0 m1 m2 m3 m4 m5;cases r5 with
     | true=>
      have HF:Hid (ans=8):=η (by rw[HA.out];rfl);clear HA;go_wp2_with fail;go_ret;exact⟨ret_int HF.out.symm,T0.out.trans U4.out⟩
     | false=>
      obtain⟨b0,b1,b2,b3,b4,b5,b6,b7,b8⟩:=BX.out _ U4.out;obtain⟨m0,m1,m2,m3,m4,m5⟩:=RX.out _ U4.out;go_wp2_with fail;refine(D6.out _ (T0.out.trans U4.out)).mono ?_;rintro e x5 ⟨rfl,t5⟩;have U5:=η (U4.out.trans t5);clear t5;clear b0 b1 b2 b3 b4 b5 b6 b7 b8 m0 m1 m2 m3 m4 m5;cases r6 with
      | true=>
       have HF:Hid (ans=5):=η (by rw[HA.out];rfl);clear HA;go_wp2_with fail;go_ret;exact⟨ret_int HF.out.symm,T0.out.trans U5.out⟩
      | false=>
       have HF:Hid (ans=0):=η (by rw[HA.out];rfl);clear HA;go_wp2_with fail;go_ret;exact⟨ret_int HF.out.symm,T0.out.trans U5.out⟩
  have n9:(k != 9)=true:=by simpa using k9
  have HA:Hid (ans=if r2=true then 9 else if r3=true then 6 else if r4=true then 12 else if r5=true then 8 else if r6=true then 5 else 0):=η (by rw[HA.out];simp[k9]);go_wp2_with fail;refine(K2.out _ (T0.out.trans U1.out)).mono ?_;rintro e x2 ⟨rfl,t2⟩;have U2:=η (U1.out.trans t2);clear t2;clear b0 b1 b2 b3 b4 b5 b6 b7 b8 m0 m1 m2 m3 m4 m5;cases r2 with
  | true=>
   have HF:Hid (ans=9):=η (by rw[HA.out];rfl);clear HA;go_wp2_with fail;go_ret;exact⟨ret_int HF.out.symm,T0.out.trans U2.out⟩
  | false=>
   have HA:Hid (ans=if r3=true then 6 else if r4=true then 12 else if r5=true then 8 else if r6=true then 5 else 0):=η (by rw[HA.out];simp);obtain⟨b0,b1,b2,b3,b4,b5,b6,b7,b8⟩:=BX.out _ U2.out;obtain⟨m0,m1,m2,m3,m4,m5⟩:=RX.out _ U2.out;go_wp2_with fail;refine(D3.out _ (T0.out.trans U2.out)).mono ?_;rintro e x3 ⟨rfl,t3⟩;have U3:=η (U2.out.trans t3);clear t3;clear b0 b1 b2 b3 b4 b5 b6 b7 b8 m0 m1 m2 m3 m4 m5;cases r3 with
   | true=>
    have HF:Hid (ans=6):=η (by rw[HA.out];rfl);clear HA;go_wp2_with fail;go_ret;exact⟨ret_int HF.out.symm,T0.out.trans U3.out⟩
   | false=>
    have D5:=η (K5.out (by simp));clear K5;obtain⟨b0,b1,b2,b3,b4,b5,b6,b7,b8⟩:=BX.out _ U3.out;obtain⟨m0,m1,m2,m3,m4,m5⟩:=RX.out _ U3.out;go_wp2_with fail;refine(K4.out _ (T0.out.trans U3.out)).mono ?_;rintro e x4 ⟨rfl,t4⟩;have U4:=η (U3.out.trans t4);clear t4;clear b0 b1 b2 b3 b4 b5 b6 b7 b8 m0 m1 m2 m3 m4 m5;cases r4 with
    | true=>
     have HF:Hid (ans=12):=η (by rw[HA.out];rfl);clear HA;go_wp2_with fail;go_ret;exact⟨ret_int HF.out.symm,T0.out.trans U4.out⟩
    | false=>
     obtain⟨b0,b1,b2,b3,b4,b5,b6,b7,b8⟩:=BX.out _ U4.out;obtain⟨m0,m1,m2,m3,m4,m5⟩:=RX.out _ U4.out;go_wp2_with fail;refine(D5.out _ (T0.out.trans U4.out)).mono ?_;rintro e x5 ⟨rfl,t5⟩;have U5:=η (U4.out.trans t5);clear t5;clear b0 b1 b2 b3 b4 b5 b6 b7 b8 m0 m1 m2 m3 m4 m5;cases r5 with
     | true=>
      have HF:Hid (ans=8):=η (by rw[HA.out];rfl);clear HA;go_wp2_with fail;go_ret;exact⟨ret_int HF.out.symm,T0.out.trans U5.out⟩
     | false=>
      obtain⟨b0,b1,b2,b3,b4,b5,b6,b7,b8⟩:=BX.out _ U5.out;obtain⟨m0,m1,m2,m3,m4,m5⟩:=RX.out _ U5.out;go_wp2_with fail;refine(D6.out _ (T0.out.trans U5.out)).mono ?_;rintro e x6 ⟨rfl,t6⟩;have U6:=η (U5.out.trans t6);clear t6;clear b0 b1 b2 b3 b4 b5 b6 b7 b8 m0 m1 m2 m3 m4 m5;cases r6 with
      | true=>
       have HF:Hid (ans=5):=η (by rw[HA.out];rfl);clear HA;go_wp2_with fail;go_ret;exact⟨ret_int HF.out.symm,T0.out.trans U6.out⟩
      | false=>
       have HF:Hid (ans=0):=η (by rw[HA.out];rfl);clear HA;go_wp2_with fail;go_ret;exact⟨ret_int HF.out.symm,T0.out.trans U6.out⟩
theorem parts_few {r:RecV} (h:recB r=true):r.parts.length≤7∧(r.kind=9→r.parts.length=1):=by
 unfold recB at h;simp only[Bool.and_eq_true,Bool.or_eq_true,decide_eq_true_eq]at h;obtain⟨-,-,-,-,h5,h6⟩:=h;by_cases k9:r.kind=9
 · rw[if_neg (by omega),if_neg (by omega),if_neg (by omega),if_neg (by omega),if_neg (by omega),if_pos k9]at h6;simp at h6;exact⟨by omega,fun _=>h6.1⟩
 · refine⟨?_,fun e=>absurd e k9⟩;rcases h5 with h5 | h5
   · rcases h5 with k | k | k
     · rw[k]at h6;simp at h6;exact(risingB_iff.1 h6.2).2.2
     · rw[k]at h6;simp at h6;exact(risingB_iff.1 h6).2.2
     · exact absurd k k9
   · omega
theorem turn_calls {w:World} {lo b:Nat} {s:StV} {a:Ads} {LW:List (Lay BrV)} {LO LN:List (Lay PendV)} (h:Box w lo b s a LW LO LN) (hm:MayP s) (r:RecV) (hc:CanP s r) (ap aq:Option Addr) (cp cq:Nat) (hi:∀wx,Tn lo w wx→Il wx ap cp r.parts) (hq:∀wx,Tn lo w wx→Ps wx aq cq r.puts):
 Calls Tryz.prog 80 #[.pointer (some ⟨b,0,none⟩),.agg (r.cells ap cp aq cq)] w fun e w'=>e=.returned (.tuple #[])∧∃a' LW' LO' LN',Box w' lo b (layS s r) a' LW' LO' LN'∧Tn lo w w':=by
 have hk:=kind_of hc.rec_;obtain⟨hpf,hp9⟩:=parts_few hc.rec_;have hqf:=puts_few hc.rec_;have c2:=hc.k2;have c5:=hc.k5;have c9:=hc.k9;have hrec:=hc.rec_;have hi0:=hi w (Tn.refl _ _);have hq0:=hq w (Tn.refl _ _);clear hc;obtain⟨k,t,d,y,P,Q⟩:=r;unfold RecV.cells;dsimp only at*;rcases(by omega:k=1∨k=2∨k=3∨k=4∨k=5∨k=6∨k=7∨k=8∨k=9)with rfl | rfl | rfl | rfl | rfl | rfl | rfl | rfl | rfl
 · exact turn1_calls h hm t d y P Q ap aq cp cq
 · obtain⟨m,hmo,-⟩:=c2 rfl;have hk0:0≤placeI (fun m:MsgV=>decide (m.id=d)) s.ms:=by
    rcases place_find (fun m:MsgV=>decide (m.id=d)) s.ms with⟨-,h2⟩ | ⟨pk,m',h1,-,-⟩
    · unfold msgOf at hmo;rw[h2]at hmo;cases hmo
    · omega
   exact turn2_calls h hm t d y P Q ap aq cp cq hk0
 · exact turn3_calls h hm t d y P Q ap aq cp cq
 · exact turn4_calls h hm t d y P Q ap aq cp cq hq0 (by omega)
 · cases y with
   | true=>exact turn5y_calls h hm t d P Q ap aq cp cq (c5 rfl)
   | false=>
    have e:layS s ⟨5,t,d,false,P,Q⟩=endS s t false []:=by
     show endS s t false _=_;unfold endS;simp
    rw[e];exact turn5n_calls h hm t d P Q ap aq cp cq
 · exact turn6_calls h hm t d y P Q ap aq cp cq hi0 (by omega)
 · exact turn7_calls h hm t d y P Q ap aq cp cq (fun wx tt=>hq wx tt.tn) (by omega)
 · exact turn8_calls h hm t d y P Q ap aq cp cq hi (by omega)
 · obtain⟨p,hpo,-⟩:=c9 rfl;have hkb:keyB PendV.tid s.noes t=true:=by
    obtain⟨h1,h2⟩:=pendOf_some hpo;exact keyB_iff.2 ⟨p,h1,h2⟩
   have e:layS s ⟨9,t,d,y,P,Q⟩={s with noes:=toldL s t (P.getD 0 0)}:=by
    unfold layS toldL keepI;dsimp only;rw[if_neg (by omega),if_neg (by omega),if_neg (by omega),if_neg (by omega),if_neg (by omega),if_neg (by omega),if_neg (by omega),if_neg (by omega)];have ef:(fun n:Int=>decide (n≠P.getD 0 0))=fun m:Int=>!decide (m=P.getD 0 0):=by funext n;simp
    rw[ef];split<;>rfl
   rw[e];exact turn9_calls h hm t d y P Q ap aq cp cq hkb hi0 (by have:=hp9 rfl;omega)
structure Rows (w:World) (lo:Nat) (s:StV) (a:Ads) (LW:List (Lay BrV)) (LO LN:List (Lay PendV)):Prop where
 vw:LW.map Lay.v=s.waits
 vo:LO.map Lay.v=s.open_
 vn:LN.map Lay.v=s.noes
 ms:w.ownsRow lo 49 6 (.slice a.m s.ms.length a.cm) s.ms.length (s.ms.flatMap msgC)
 ws:w.ownsRow lo 81 2 (.slice a.w s.waits.length a.cw) s.waits.length (vcells (LW.map brP))
 es:w.ownsRow lo 61 2 (.slice a.e s.ends.length a.ce) s.ends.length (vcells (s.ends.map endP))
 os:w.ownsRow lo 65 2 (.slice a.o s.open_.length a.co) s.open_.length (vcells (LO.map pendP'))
 ns:w.ownsRow lo 65 2 (.slice a.n s.noes.length a.cn) s.noes.length (vcells (LN.map pendP'))
 on:Apart (.slice a.o s.open_.length a.co) (.slice a.n s.noes.length a.cn)
 puts:∀x∈LW,w.ownsRow lo 45 2 (putsRow x) x.v.puts.length (pcells x.v.puts)
 parts:∀x∈LO++LN,w.ownsRow lo 3 1 (partsRow x) x.v.parts.length (i64s x.v.parts)
 alone:(LO++LN).Pairwise fun x y=>Apart (partsRow x) (partsRow y)
theorem Rows.still {w w1:World} {lo:Nat} {s:StV} {a:Ads} {LW:List (Lay BrV)} {LO LN:List (Lay PendV)} (h:Rows w lo s a LW LO LN) (t:Turn [] w w1):Rows w1 lo s a LW LO LN:=
 ⟨h.vw,h.vo,h.vn,ownsRow_turn h.ms t,ownsRow_turn h.ws t,ownsRow_turn h.es t,ownsRow_turn h.os t,ownsRow_turn h.ns t,h.on,
  fun x hx=>ownsRow_turn (h.puts x hx) t,fun x hx=>ownsRow_turn (h.parts x hx) t,h.alone⟩
theorem Rows.box {w:World} {lo:Nat} {s:StV} {a:Ads} {LW:List (Lay BrV)} {LO LN:List (Lay PendV)} (h:Rows w lo s a LW LO LN) (hlo:lo≤w.heap.size):Box (w.alloc (.cells (s.cells a) 27)) lo w.heap.size s a LW LO LN:=by
 have r:=h.still (Turn.alloc [] w (.cells (s.cells a) 27));exact⟨heap_alloc_new w _,hlo,r.vw,r.vo,r.vn,r.ms,r.ws,r.es,r.os,r.ns,r.on,r.puts,r.parts,r.alone⟩
def noAds:Ads:=⟨none,0,none,0,none,0,none,0,none,0⟩
theorem stNew_calls (n:Int) (w:World):Calls Tryz.prog 22 #[.int .i64 n] w fun e w'=>e=.returned (.agg ((newS n).cells noAds))∧StIs w' noAds (newS n)∧Turn [] w w':=by
 have C1:=η (kindBroker_calls n)
 have HSI:Hid (∀wx,StIs wx noAds (newS n)):=η (fun wx=>by
  have e:(newS n).ms=[]∧(newS n).waits=[]∧(newS n).ends=[]∧(newS n).open_=[]∧(newS n).noes=[]:=by
   unfold newS;split<;>exact⟨rfl,rfl,rfl,rfl,rfl⟩
  obtain⟨e1,e2,e3,e4,e5⟩:=e
  exact⟨by rw[e1];exact Tl.nil _ _ _,⟨[],by rw[e2];rfl,Tl.nil _ _ _,by simp⟩,by rw[e3];exact Tl.nil _ _ _,⟨[],by rw[e4];rfl,Tl.nil _ _ _,by simp⟩,⟨[],by rw[e5];rfl,Tl.nil _ _ _,by simp⟩⟩)
 have HC1:Hid (brokerB n=true→(newS n).cells noAds=#[.int .i64 n,.int .i64 1,.int .i64 1,.int .i64 0,.slice none 0 0,.slice none 0 0,.slice none 0 0,.slice none 0 0,.slice none 0 0]):=η (fun h=>by unfold newS;rw[if_pos h];rfl);have HC2:Hid (brokerB n=false→(newS n).cells noAds=#[.int .i64 0,.int .i64 0,.int .i64 0,.int .i64 0,.slice none 0 0,.slice none 0 0,.slice none 0 0,.slice none 0 0,.slice none 0 0]):=η (fun h=>by unfold newS;rw[if_neg (by rw[h];simp)];rfl);obtain⟨r1,e1⟩:=ε (brokerB n);rw[←e1]at C1 HC1 HC2;obtain⟨st,hst⟩:=ε (newS n);rw[←hst]at HSI HC1 HC2 ⊢;clear e1 hst;have HZ:=heap_alloc_new w (.cells #[.int .i64 0,.int .i64 0,.int .i64 0,.int .i64 0,.slice none 0 0,.slice none 0 0,.slice none 0 0,.slice none 0 0,.slice none 0 0] 27);have T0:=η (Turn.alloc [] w (.cells #[.int .i64 0,.int .i64 0,.int .i64 0,.int .i64 0,.slice none 0 0,.slice none 0 0,.slice none 0 0,.slice none 0 0,.slice none 0 0] 27));have HZ0:=η HZ;cases r1 with
 | false=>
  have HE:=η (HC2.out rfl);rw[HE.out];clear HC1 HC2 HE HZ;go_in;go_wp2_with fail;refine(C1.out _).mono ?_;rintro e x1 ⟨rfl,rfl⟩;clear C1;go_wp2_with fail;refine bodyPost_ret_by (results_cell_row rfl _ _ w.heap.size 27 _ (0,0) _ rfl HZ0.out Tryz.underlying27 rfl (by kernel_rfl)) rfl ?_;exact⟨rfl,HSI.out _,T0.out⟩
 | true=>
  have HE:=η (HC1.out rfl);rw[HE.out];clear HC1 HC2 HE;clear HZ;go_in;go_wp2_with fail;refine(C1.out _).mono ?_;rintro e x1 ⟨rfl,rfl⟩;clear C1;go_wp2_with fail;refine bodyPost_ret_by (results_cell_row rfl _ _ w.heap.size 27 _ (0,0) _ rfl (heap_alloc_new w _) Tryz.underlying27 rfl (by kernel_rfl)) rfl ?_;exact⟨rfl,HSI.out _,Turn.alloc [] w _⟩
end Go.Proofs.YtkjpjfghklgdhaaGreat
