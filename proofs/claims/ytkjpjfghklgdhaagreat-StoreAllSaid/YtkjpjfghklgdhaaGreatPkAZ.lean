/-
  PkAZ
-/
import Derived.Test.YtkjpjfghklgdhaaGreatPkAY
set_option maxHeartbeats 8000000
set_option maxRecDepth 100000
namespace Go.Proofs.YtkjpjfghklgdhaaGreat
open Go.RowKit Go.Proofs.YtkjpjfghklgdhaaGreat.V
theorem stEq_calls {w:World} {a b:Ads} {s u:StV} (h:StIs w a s) (g:StIs w b u):Calls Tryz.prog 20 #[.agg (s.cells a),.agg (u.cells b)] w fun e w'=>e=.returned (.bool (eqStB s u))∧Turn [] w w':=by
 obtain⟨LW,hlw,tlw,plw⟩:=h.waits;obtain⟨MW,hmw,tmw,pmw⟩:=g.waits;obtain⟨LO,hlo,tlo,plo⟩:=h.open_;obtain⟨MO,hmo,tmo,pmo⟩:=g.open_;obtain⟨LN,hln,tln,pln⟩:=h.noes;obtain⟨MN,hmn,tmn,pmn⟩:=g.noes
 have C4:=η (fun wx (tt:Turn [] w wx)=>(sameMs_calls (h.ms.still tt) (g.ms.still tt)).mono (R':=fun e w'=>e=.returned (.bool (decide (s.ms=u.ms)))∧Turn [] wx w') (by
  rintro e w' ⟨rfl,d,rfl⟩
  exact⟨rfl,Turn.drewN [] _ d⟩))
 have C5:=η (fun wx (tt:Turn [] w wx)=>equalWaits_calls (tlw.still tt) (tmw.still tt) (fun x hx=>(plw x hx).turn tt) (fun x hx=>(pmw x hx).turn tt))
 have C6:=η (fun wx (tt:Turn [] w wx)=>(sameEnds_calls (h.ends.still tt) (g.ends.still tt)).mono (R':=fun e w'=>e=.returned (.bool (decide (s.ends=u.ends)))∧Turn [] wx w') (by
  rintro e w' ⟨rfl,d,rfl⟩
  exact⟨rfl,Turn.drewN [] _ d⟩))
 have C7:=η (fun wx (tt:Turn [] w wx)=>equalPends_calls (tlo.still tt) (tmo.still tt) (fun x hx=>(plo x hx).turn tt) (fun x hx=>(pmo x hx).turn tt));have C8:=η (fun wx (tt:Turn [] w wx)=>equalPends_calls (tln.still tt) (tmn.still tt) (fun x hx=>(pln x hx).turn tt) (fun x hx=>(pmn x hx).turn tt));rw[hlw,hmw,(show LW.length=s.waits.length by rw[←hlw,List.length_map]),(show MW.length=u.waits.length by rw[←hmw,List.length_map])]at C5;rw[hlo,hmo,(show LO.length=s.open_.length by rw[←hlo,List.length_map]),(show MO.length=u.open_.length by rw[←hmo,List.length_map])]at C7;rw[hln,hmn,(show LN.length=s.noes.length by rw[←hln,List.length_map]),(show MN.length=u.noes.length by rw[←hmn,List.length_map])]at C8;have HE:Hid (eqStB s u=(decide (s.broker=u.broker)&&(decide (s.nextId=u.nextId)&&(decide (s.nextSeq=u.nextSeq)&&(decide (s.tx=u.tx)&&(decide (s.ms=u.ms)&&(decide (s.waits=u.waits)&&(decide (s.ends=u.ends)&&(decide (s.open_=u.open_)&&decide (s.noes=u.noes)))))))))):=η rfl;obtain⟨ans,ha⟩:=ε (eqStB s u);rw[←ha]at HE ⊢;obtain⟨r4,e4⟩:=ε (decide (s.ms=u.ms));rw[←e4]at C4 HE;obtain⟨r5,e5⟩:=ε (decide (s.waits=u.waits));rw[←e5]at C5 HE;obtain⟨r6,e6⟩:=ε (decide (s.ends=u.ends));rw[←e6]at C6 HE;obtain⟨r7,e7⟩:=ε (decide (s.open_=u.open_));rw[←e7]at C7 HE;obtain⟨r8,e8⟩:=ε (decide (s.noes=u.noes));rw[←e8]at C8 HE;unfold StV.cells;obtain⟨nm,hq⟩:=ε s.ms.length;rw[←hq]at C4 ⊢;clear hq;obtain⟨nw,hq⟩:=ε s.waits.length;rw[←hq]at C5 ⊢;clear hq;obtain⟨ne,hq⟩:=ε s.ends.length;rw[←hq]at C6 ⊢;clear hq;obtain⟨no,hq⟩:=ε s.open_.length;rw[←hq]at C7 ⊢;clear hq;obtain⟨nn,hq⟩:=ε s.noes.length;rw[←hq]at C8 ⊢;clear hq;obtain⟨mm,hq⟩:=ε u.ms.length;rw[←hq]at C4 ⊢;clear hq;obtain⟨mw,hq⟩:=ε u.waits.length;rw[←hq]at C5 ⊢;clear hq;obtain⟨me,hq⟩:=ε u.ends.length;rw[←hq]at C6 ⊢;clear hq;obtain⟨mo,hq⟩:=ε u.open_.length;rw[←hq]at C7 ⊢;clear hq;obtain⟨mn,hq⟩:=ε u.noes.length;rw[←hq]at C8 ⊢;clear hq;have T2:=Turn.alloc [] (w.alloc (.cells #[.int .i64 s.broker,.int .i64 s.nextId,.int .i64 s.nextSeq,.int .i64 s.tx,.slice a.m nm a.cm,.slice a.w nw a.cw,.slice a.e ne a.ce,.slice a.o no a.co,.slice a.n nn a.cn] 27)) (.cells #[.int .i64 u.broker,.int .i64 u.nextId,.int .i64 u.nextSeq,.int .i64 u.tx,.slice b.m mm b.cm,.slice b.w mw b.cw,.slice b.e me b.ce,.slice b.o mo b.co,.slice b.n mn b.cn] 27);have T0:=η ((Turn.alloc [] w (.cells #[.int .i64 s.broker,.int .i64 s.nextId,.int .i64 s.nextSeq,.int .i64 s.tx,.slice a.m nm a.cm,.slice a.w nw a.cw,.slice a.e ne a.ce,.slice a.o no a.co,.slice a.n nn a.cn] 27)).trans T2);have B1:=T2.heap (heap_alloc_new w (.cells #[.int .i64 s.broker,.int .i64 s.nextId,.int .i64 s.nextSeq,.int .i64 s.tx,.slice a.m nm a.cm,.slice a.w nw a.cw,.slice a.e ne a.ce,.slice a.o no a.co,.slice a.n nn a.cn] 27));have B2:=heap_alloc_new (w.alloc (.cells #[.int .i64 s.broker,.int .i64 s.nextId,.int .i64 s.nextSeq,.int .i64 s.tx,.slice a.m nm a.cm,.slice a.w nw a.cw,.slice a.e ne a.ce,.slice a.o no a.co,.slice a.n nn a.cn] 27)) (.cells #[.int .i64 u.broker,.int .i64 u.nextId,.int .i64 u.nextSeq,.int .i64 u.tx,.slice b.m mm b.cm,.slice b.w mw b.cw,.slice b.e me b.ce,.slice b.o mo b.co,.slice b.n mn b.cn] 27);rw[show(w.alloc (.cells #[.int .i64 s.broker,.int .i64 s.nextId,.int .i64 s.nextSeq,.int .i64 s.tx,.slice a.m nm a.cm,.slice a.w nw a.cw,.slice a.e ne a.ce,.slice a.o no a.co,.slice a.n nn a.cn] 27)).heap.size=w.heap.size+1 by simp]at B2;generalize hx0:(w.alloc (.cells #[.int .i64 s.broker,.int .i64 s.nextId,.int .i64 s.nextSeq,.int .i64 s.tx,.slice a.m nm a.cm,.slice a.w nw a.cw,.slice a.e ne a.ce,.slice a.o no a.co,.slice a.n nn a.cn] 27)).alloc (.cells #[.int .i64 u.broker,.int .i64 u.nextId,.int .i64 u.nextSeq,.int .i64 u.tx,.slice b.m mm b.cm,.slice b.w mw b.cw,.slice b.e me b.ce,.slice b.o mo b.co,.slice b.n mn b.cn] 27)=x0 at T0 B1 B2;have BX:=η (fun wx (tt:Turn [] x0 wx)=>nine_of (tt.heap B1));have BY:=η (fun wx (tt:Turn [] x0 wx)=>nine_of (tt.heap B2));have U0:=η (Turn.refl [] x0);rw[←hx0]at T0 U0 BX BY;clear ha e4 e5 e6 e7 e8 tlw tmw plw pmw tlo tmo plo pmo tln tmn pln pmn hlw hmw hlo hmo hln hmn h g T2 B1 B2 hx0 x0;by_cases h0:s.broker=u.broker
 case neg=>
  have HA:Hid (ans=false):=η (by rw[HE.out];simp[h0]);have f0:(s.broker==u.broker)=false:=by simpa using h0
  clear HE h0 C4 C5 C6 C7 C8;go_in;go_wp2_with fail;go_ret;exact⟨ret_bool HA.out.symm,T0.out⟩
 have f0:(s.broker==u.broker)=true:=by simpa using h0
 by_cases h1:s.nextId=u.nextId
 case neg=>
  have HA:Hid (ans=false):=η (by rw[HE.out];simp[h1]);have f1:(s.nextId==u.nextId)=false:=by simpa using h1
  clear HE h0 h1 C4 C5 C6 C7 C8;go_in;go_wp2_with fail;go_ret;exact⟨ret_bool HA.out.symm,T0.out⟩
 have f1:(s.nextId==u.nextId)=true:=by simpa using h1
 by_cases h2:s.nextSeq=u.nextSeq
 case neg=>
  have HA:Hid (ans=false):=η (by rw[HE.out];simp[h2]);have f2:(s.nextSeq==u.nextSeq)=false:=by simpa using h2
  clear HE h0 h1 h2 C4 C5 C6 C7 C8;go_in;go_wp2_with fail;go_ret;exact⟨ret_bool HA.out.symm,T0.out⟩
 have f2:(s.nextSeq==u.nextSeq)=true:=by simpa using h2
 by_cases h3:s.tx=u.tx
 case neg=>
  have HA:Hid (ans=false):=η (by rw[HE.out];simp[h3]);have f3:(s.tx==u.tx)=false:=by simpa using h3
  clear HE h0 h1 h2 h3 C4 C5 C6 C7 C8;go_in;go_wp2_with fail;go_ret;exact⟨ret_bool HA.out.symm,T0.out⟩
 have f3:(s.tx==u.tx)=true:=by simpa using h3
 have HE2:Hid (ans=(r4&&(r5&&(r6&&(r7&&r8))))):=η (by rw[HE.out];simp[h0,h1,h2,h3]);clear HE h0 h1 h2 h3;cases r4 with
 | false=>
  go_in;go_wp2_with fail;refine(C4.out _ (T0.out.trans U0.out)).mono ?_;rintro e x4 ⟨rfl,t4⟩;have U1:=η (U0.out.trans t4);clear t4;obtain⟨c0,c1,c2,c3,c4,c5,c6,c7,c8⟩:=BX.out _ U1.out;obtain⟨d0,d1,d2,d3,d4,d5,d6,d7,d8⟩:=BY.out _ U1.out;go_wp2_with fail;go_ret;exact⟨ret_bool (by rw[HE2.out];rfl),T0.out.trans U1.out⟩
 | true=>
  cases r5 with
  | false=>
   go_in;go_wp2_with fail;refine(C4.out _ (T0.out.trans U0.out)).mono ?_;rintro e x4 ⟨rfl,t4⟩;have U1:=η (U0.out.trans t4);clear t4;obtain⟨c0,c1,c2,c3,c4,c5,c6,c7,c8⟩:=BX.out _ U1.out;obtain⟨d0,d1,d2,d3,d4,d5,d6,d7,d8⟩:=BY.out _ U1.out;go_wp2_with fail;refine(C5.out _ (T0.out.trans U1.out)).mono ?_;rintro e x5 ⟨rfl,t5⟩;have U2:=η (U1.out.trans t5);clear t5;obtain⟨c0,c1,c2,c3,c4,c5,c6,c7,c8⟩:=BX.out _ U2.out;obtain⟨d0,d1,d2,d3,d4,d5,d6,d7,d8⟩:=BY.out _ U2.out;go_wp2_with fail;go_ret;exact⟨ret_bool (by rw[HE2.out];rfl),T0.out.trans U2.out⟩
  | true=>
   cases r6 with
   | false=>
    go_in;go_wp2_with fail;refine(C4.out _ (T0.out.trans U0.out)).mono ?_;rintro e x4 ⟨rfl,t4⟩;have U1:=η (U0.out.trans t4);clear t4;obtain⟨c0,c1,c2,c3,c4,c5,c6,c7,c8⟩:=BX.out _ U1.out;obtain⟨d0,d1,d2,d3,d4,d5,d6,d7,d8⟩:=BY.out _ U1.out;go_wp2_with fail;refine(C5.out _ (T0.out.trans U1.out)).mono ?_;rintro e x5 ⟨rfl,t5⟩;have U2:=η (U1.out.trans t5);clear t5;obtain⟨c0,c1,c2,c3,c4,c5,c6,c7,c8⟩:=BX.out _ U2.out;obtain⟨d0,d1,d2,d3,d4,d5,d6,d7,d8⟩:=BY.out _ U2.out;go_wp2_with fail;refine(C6.out _ (T0.out.trans U2.out)).mono ?_;rintro e x6 ⟨rfl,t6⟩;have U3:=η (U2.out.trans t6);clear t6;obtain⟨c0,c1,c2,c3,c4,c5,c6,c7,c8⟩:=BX.out _ U3.out;obtain⟨d0,d1,d2,d3,d4,d5,d6,d7,d8⟩:=BY.out _ U3.out;go_wp2_with fail;go_ret;exact⟨ret_bool (by rw[HE2.out];rfl),T0.out.trans U3.out⟩
   | true=>
    cases r7 with
    | false=>
     go_in;go_wp2_with fail;refine(C4.out _ (T0.out.trans U0.out)).mono ?_;rintro e x4 ⟨rfl,t4⟩;have U1:=η (U0.out.trans t4);clear t4;obtain⟨c0,c1,c2,c3,c4,c5,c6,c7,c8⟩:=BX.out _ U1.out;obtain⟨d0,d1,d2,d3,d4,d5,d6,d7,d8⟩:=BY.out _ U1.out;go_wp2_with fail;refine(C5.out _ (T0.out.trans U1.out)).mono ?_;rintro e x5 ⟨rfl,t5⟩;have U2:=η (U1.out.trans t5);clear t5;obtain⟨c0,c1,c2,c3,c4,c5,c6,c7,c8⟩:=BX.out _ U2.out;obtain⟨d0,d1,d2,d3,d4,d5,d6,d7,d8⟩:=BY.out _ U2.out;go_wp2_with fail;refine(C6.out _ (T0.out.trans U2.out)).mono ?_;rintro e x6 ⟨rfl,t6⟩;have U3:=η (U2.out.trans t6);clear t6;obtain⟨c0,c1,c2,c3,c4,c5,c6,c7,c8⟩:=BX.out _ U3.out;obtain⟨d0,d1,d2,d3,d4,d5,d6,d7,d8⟩:=BY.out _ U3.out;go_wp2_with fail;refine(C7.out _ (T0.out.trans U3.out)).mono ?_;rintro e x7 ⟨rfl,t7⟩;have U4:=η (U3.out.trans t7);clear t7;obtain⟨c0,c1,c2,c3,c4,c5,c6,c7,c8⟩:=BX.out _ U4.out;obtain⟨d0,d1,d2,d3,d4,d5,d6,d7,d8⟩:=BY.out _ U4.out;go_wp2_with fail;go_ret;exact⟨ret_bool (by rw[HE2.out];rfl),T0.out.trans U4.out⟩
    | true=>
     cases r8 with
     | false=>
      go_in;go_wp2_with fail;refine(C4.out _ (T0.out.trans U0.out)).mono ?_;rintro e x4 ⟨rfl,t4⟩;have U1:=η (U0.out.trans t4);clear t4;obtain⟨c0,c1,c2,c3,c4,c5,c6,c7,c8⟩:=BX.out _ U1.out;obtain⟨d0,d1,d2,d3,d4,d5,d6,d7,d8⟩:=BY.out _ U1.out;go_wp2_with fail;refine(C5.out _ (T0.out.trans U1.out)).mono ?_;rintro e x5 ⟨rfl,t5⟩;have U2:=η (U1.out.trans t5);clear t5;obtain⟨c0,c1,c2,c3,c4,c5,c6,c7,c8⟩:=BX.out _ U2.out;obtain⟨d0,d1,d2,d3,d4,d5,d6,d7,d8⟩:=BY.out _ U2.out;go_wp2_with fail;refine(C6.out _ (T0.out.trans U2.out)).mono ?_;rintro e x6 ⟨rfl,t6⟩;have U3:=η (U2.out.trans t6);clear t6;obtain⟨c0,c1,c2,c3,c4,c5,c6,c7,c8⟩:=BX.out _ U3.out;obtain⟨d0,d1,d2,d3,d4,d5,d6,d7,d8⟩:=BY.out _ U3.out;go_wp2_with fail;refine(C7.out _ (T0.out.trans U3.out)).mono ?_;rintro e x7 ⟨rfl,t7⟩;have U4:=η (U3.out.trans t7);clear t7;obtain⟨c0,c1,c2,c3,c4,c5,c6,c7,c8⟩:=BX.out _ U4.out;obtain⟨d0,d1,d2,d3,d4,d5,d6,d7,d8⟩:=BY.out _ U4.out;go_wp2_with fail;refine(C8.out _ (T0.out.trans U4.out)).mono ?_;rintro e x8 ⟨rfl,t8⟩;have U5:=η (U4.out.trans t8);clear t8;obtain⟨c0,c1,c2,c3,c4,c5,c6,c7,c8⟩:=BX.out _ U5.out;obtain⟨d0,d1,d2,d3,d4,d5,d6,d7,d8⟩:=BY.out _ U5.out;go_wp2_with fail;go_ret;exact⟨ret_bool (by rw[HE2.out];rfl),T0.out.trans U5.out⟩
     | true=>
      go_in;go_wp2_with fail;refine(C4.out _ (T0.out.trans U0.out)).mono ?_;rintro e x4 ⟨rfl,t4⟩;have U1:=η (U0.out.trans t4);clear t4;obtain⟨c0,c1,c2,c3,c4,c5,c6,c7,c8⟩:=BX.out _ U1.out;obtain⟨d0,d1,d2,d3,d4,d5,d6,d7,d8⟩:=BY.out _ U1.out;go_wp2_with fail;refine(C5.out _ (T0.out.trans U1.out)).mono ?_;rintro e x5 ⟨rfl,t5⟩;have U2:=η (U1.out.trans t5);clear t5;obtain⟨c0,c1,c2,c3,c4,c5,c6,c7,c8⟩:=BX.out _ U2.out;obtain⟨d0,d1,d2,d3,d4,d5,d6,d7,d8⟩:=BY.out _ U2.out;go_wp2_with fail;refine(C6.out _ (T0.out.trans U2.out)).mono ?_;rintro e x6 ⟨rfl,t6⟩;have U3:=η (U2.out.trans t6);clear t6;obtain⟨c0,c1,c2,c3,c4,c5,c6,c7,c8⟩:=BX.out _ U3.out;obtain⟨d0,d1,d2,d3,d4,d5,d6,d7,d8⟩:=BY.out _ U3.out;go_wp2_with fail;refine(C7.out _ (T0.out.trans U3.out)).mono ?_;rintro e x7 ⟨rfl,t7⟩;have U4:=η (U3.out.trans t7);clear t7;obtain⟨c0,c1,c2,c3,c4,c5,c6,c7,c8⟩:=BX.out _ U4.out;obtain⟨d0,d1,d2,d3,d4,d5,d6,d7,d8⟩:=BY.out _ U4.out;go_wp2_with fail;refine(C8.out _ (T0.out.trans U4.out)).mono ?_;rintro e x8 ⟨rfl,t8⟩;have U5:=η (U4.out.trans t8);clear t8;obtain⟨c0,c1,c2,c3,c4,c5,c6,c7,c8⟩:=BX.out _ U5.out;obtain⟨d0,d1,d2,d3,d4,d5,d6,d7,d8⟩:=BY.out _ U5.out;go_wp2_with fail;go_ret;exact⟨ret_bool (by rw[HE2.out];rfl),T0.out.trans U5.out⟩
open Go.RowKit
def cutP (p:ByteArray×ByteArray):ByteArray×ByteArray:=(cutN p.1 10,cutN p.2 62)
def recCut (r:RecV):RecV:={r with parts:=r.parts.take 9,puts:=(r.puts.take 12).map cutP}
theorem cell_new2 (w:World) (x y:Value) (t:TypeId):(w.alloc (.cells #[x,y] t)).cell? ⟨w.heap.size,0,none⟩=some x∧(w.alloc (.cells #[x,y] t)).cell? ⟨w.heap.size,1,none⟩=some y:=by
 have h:(w.alloc (.cells #[x,y] t)).heap[w.heap.size]?=some (.cells #[x,y] t):=heap_alloc_new w _;constructor<;>rw[cell_of_row _ _ _ _ _ _ h]<;>rfl
theorem put_up (wr:World) (o:Obj):Turn [] wr (wr.alloc o).drew:=(Turn.alloc [] wr o).trans (Turn.drew [] _)
theorem turn_row {w1 wr w5:World} {o:Obj} {r:Option Nat} (t:Turn [] w1 wr) (g:(wr.alloc o).drew.grownBy w5 r) (h:∀k,r=some k→w1.heap.size≤k):Turn [] w1 w5:=
 (t.trans (put_up wr o)).trans (Turn.grown (l:=r.toList) g (fun k hk=>.inl (by simp[hk]))) (fun i hi=>.inr (h i (by simpa using hi)))
theorem low_row {w1 wr:World} {o:Obj} {a r:Option Nat} (t:Turn [] w1 wr) (h:∀k,r=some k→w1.heap.size≤k) (e:a=r∨a=some (wr.alloc o).drew.heap.size):∀k,a=some k→w1.heap.size≤k:=by
 intro k hk;rcases e with e | e
 · exact h k (e.symm.trans hk)
 · rw[e]at hk;have:=(t.trans (put_up wr o)).size;injection hk with hk
   omega
theorem six_cells (w7:World) (q:Nat) (u0 u1 u2 u3 u4 u5 u6:Value):Turn [q,q+1] w7 (((((((w7.setCell ⟨q,4,none⟩ u0).setCell ⟨q+1,0,none⟩ u1).setCell ⟨q+1,1,none⟩ u2).setCell ⟨q+1,2,none⟩ u3).setCell ⟨q+1,3,none⟩ u4).setCell ⟨q+1,4,none⟩ u5).setCell ⟨q+1,5,none⟩ u6):=by
 have s:=fun(w:World) (i:Nat) (u:Value)=>Turn.setCell (l:=[q,q+1]) (b:=q+1) (i:=i) w (by simp) u
 exact((((((Turn.setCell w7 (by simp) u0).trans (s _ _ u1) (fun i hi=>.inl hi)).trans (s _ _ u2) (fun i hi=>.inl hi)).trans (s _ _ u3) (fun i hi=>.inl hi)).trans (s _ _ u4) (fun i hi=>.inl hi)).trans (s _ _ u5) (fun i hi=>.inl hi)).trans (s _ _ u6) (fun i hi=>.inl hi)
theorem six_heap {w7:World} {q:Nat} {a0 a1 a2 a3 a4 a5:Value} {t:TypeId} (b:w7.heap[q+1]?=some (.cells #[a0,a1,a2,a3,a4,a5] t)) (u0 u1 u2 u3 u4 u5 u6:Value):(((((((w7.setCell ⟨q,4,none⟩ u0).setCell ⟨q+1,0,none⟩ u1).setCell ⟨q+1,1,none⟩ u2).setCell ⟨q+1,2,none⟩ u3).setCell ⟨q+1,3,none⟩ u4).setCell ⟨q+1,4,none⟩ u5).setCell ⟨q+1,5,none⟩ u6).heap[q+1]?=some (.cells #[u1,u2,u3,u4,u5,u6] t):=by
 have e0:=(block_other (show q+1≠q by omega) u0 (i:=4)).trans b;exact block_set (block_set (block_set (block_set (block_set (block_set e0 u1) u2) u3) u4) u5) u6
theorem recsize:(Tryz.prog.info? 37).map (·.size)=some 6:=by kernel_rfl
theorem lawRecord_calls (r:RecV) {w:World} {ap aq:Option Addr} {cp cq:Nat} (hp:Il w ap cp r.parts) (hq:Ps w aq cq r.puts):
 Calls Tryz.prog 24 #[.agg (r.cells ap cp aq cq)] w fun e w'=>∃ap' cp' aq' cq',e=.returned (.agg ((recCut r).cells ap' cp' aq' cq'))∧
  w'.ownsRow 0 3 1 (.slice ap' (r.parts.take 9).length cp') (r.parts.take 9).length (i64s (r.parts.take 9))∧
  w'.ownsRow 0 45 2 (.slice aq' ((r.puts.take 12).map cutP).length cq') ((r.puts.take 12).map cutP).length (pcells ((r.puts.take 12).map cutP))∧
  (∀k,(Value.slice ap' (r.parts.take 9).length cp').ownBlock=some k→w.heap.size≤k)∧(∀k,(Value.slice aq' ((r.puts.take 12).map cutP).length cq').ownBlock=some k→w.heap.size≤k)∧Turn [] w w':=by
 obtain⟨kd,t,d,y,P,Q⟩:=r;have hp:Il w ap cp P:=hp;have hq:Ps w aq cq Q:=hq;have hpl:=hp.len;have hql:=hq.len;have HP:=η hp;have HQ:=η hq;unfold RecV.cells recCut;dsimp only;obtain⟨np,hnp⟩:=ε P.length;obtain⟨nq,hnq⟩:=ε Q.length;have HNP:=η hnp;have HNQ:=η hnq;rw[←hnp]at hpl ⊢;rw[←hnq]at hql ⊢;clear hp hq hnp hnq;go_in;obtain⟨q,hqd⟩:=ε w.heap.size;obtain⟨w1,hw1⟩:=ε ((w.alloc (.cells #[.int .i64 kd,.int .i64 t,.int .i64 d,.bool y,.slice ap np cp,.slice aq nq cq] 37)).alloc (.cells #[.int .i64 0,.int .i64 0,.int .i64 0,.bool false,.slice none 0 0,.slice none 0 0] 37));have t1:Turn [] w w1:=by rw[hw1];exact(Turn.alloc [] w _).trans (Turn.alloc [] _ _)
 have hs1:w1.heap.size=q+2:=by rw[hw1,hqd];simp
 have hr0:w1.heap[q]?=some (.cells #[.int .i64 kd,.int .i64 t,.int .i64 d,.bool y,.slice ap np cp,.slice aq nq cq] 37):=by
  rw[hw1,hqd];exact(Turn.alloc [] _ _).heap (heap_alloc_new w _)
 have hr1:w1.heap[q+1]?=some (.cells #[.int .i64 0,.int .i64 0,.int .i64 0,.bool false,.slice none 0 0,.slice none 0 0] 37):=by
  rw[hw1,hqd,show w.heap.size+1=(w.alloc (.cells #[.int .i64 kd,.int .i64 t,.int .i64 d,.bool y,.slice ap np cp,.slice aq nq cq] 37)).heap.size by simp];exact heap_alloc_new _ _
 have c4:w1.cell? ⟨q,4,none⟩=some (.slice ap np cp):=by rw[cell_of_row _ _ _ _ _ _ hr0];rfl
 have c5:w1.cell? ⟨q,5,none⟩=some (.slice aq nq cq):=by rw[cell_of_row _ _ _ _ _ _ hr0];rfl
 have HP1:=η (HP.out.turn t1);have HQ1:=η (HQ.out.turn t1);have T1:=η t1;have R0:=η hr0;have R1:=η hr1;go_wp2_with fail;rw[←hw1];rw[←hqd];have HQD:=η hqd;clear hw1 t1 hr0 hr1 hqd;go_loopw [3,4] (fun v i wr=>∃k:Nat,k≤nq∧k≤12∧i=.int .i64 k∧wr.ownsRow 0 45 2 v ((Q.take k).map cutP).length (pcells ((Q.take k).map cutP))∧(∀g,v.ownBlock=some g→w1.heap.size≤g)∧Turn [] w1 wr) (fun _ i _=>12-(intOf i).toNat)
 case atStart=>exact⟨0,by omega,by omega,rfl,World.ownsRow_nil _ _ _ _,(by intro g hg;cases hg),Turn.refl _ _⟩
 case round=>
  obtain⟨k,hk1,hk2,rfl,hown,hlow,tr⟩:=hrel;have HO:=η hown;have HL:=η hlow;have TR:=η tr;have c4:=tr.cell c4;have c5':=c5;have c5:=tr.cell c5;clear hown hlow tr;by_cases hlt:k<nq∧k<12
  · obtain⟨hlt1,hlt2⟩:=hlt;have r1:(k:Int)<(nq:Int):=by omega
    have r2:(k:Int)<12:=by omega
    have hkq:k<Q.length:=by have:=HNQ.out;omega
    obtain⟨b,off,ha,hb,hc⟩:=HQ1.out.at (by intro e;rw[e]at hkq;simp at hkq);subst ha;obtain⟨e0,e1,z0,z1⟩:=hc k hkq;have E0:=η e0;have E1:=η e1;have e0:=TR.out.cell e0;have e1:=TR.out.cell e1
    have HT:Hid ((Q.take (k+1)).map cutP=(Q.take k).map cutP++[cutP (Q.getD k putNone)]):=η (by
     rw[List.take_add_one,List.map_append,show Q[k]?=some (Q.getD k putNone) by simp[List.getD,hkq]];rfl)
    have hll:((Q.take k).map cutP).length≤1000000:=by simp;omega
    clear hc;generalize Q.getD k putNone=x at*;obtain⟨L,hL⟩:=ε ((Q.take k).map cutP);rw[←hL]at HO HT hll;obtain⟨x1,x2⟩:=x;simp only at e0 e1 z0 z1 E0 E1;have C1:Hid (∀wx:World,Calls Tryz.prog 45 #[.string x1,.int .i64 10] wx fun e w'=>e=.returned (.string (cutN x1 10))∧w'=wx):=η (fun wx:World=>cut8_calls x1 10 wx z0 (by omega));have C2:Hid (∀wx:World,Calls Tryz.prog 45 #[.string x2,.int .i64 62] wx fun e w'=>e=.returned (.string (cutN x2 62))∧w'=wx):=η (fun wx:World=>cut8_calls x2 62 wx z1 (by omega));have D5:=η c5';clear hL z0 z1 c5';go_wp2_with fail
    go_region_held_law (fun w'=>w'.cell? ⟨q,5,none⟩=some (.slice (some ⟨b,off,none⟩) nq cq)∧w'.cell? ⟨b,off+k*2,none⟩=some (.string x1)∧w'.cell? ⟨b,off+k*2+1,none⟩=some (.string x2))
     (go_keep)
     (first
      | (go_at_call 45;((with_reducible refine(C1.out _).mono ?_);rintro e w' ⟨rfl,rfl⟩))
      | (go_at_call 45;((with_reducible refine(C2.out _).mono ?_);rintro e w' ⟨rfl,rfl⟩))
      | (refine step_append_put rfl (.tmp 16) (.tmp 32) rfl u3 L rfl (ownsRow_turn HO.out (put_up _ _) (fun _ _=>by simp)) wr.heap.size (cutP (x1,x2)) rfl ((Turn.drew [] _).cell (cell_new2 wr _ _ _).1) ((Turn.drew [] _).cell (cell_new2 wr _ _ _).2) hll ?_
         intro v5 w5 ow5 gr5 bl5;have T5:=η (turn_row TR.out gr5 HL.out);have L5:=η (low_row TR.out HL.out bl5);have O5:=η ow5;clear gr5 bl5 ow5;have q5:=T5.out.cell D5.out;have p5:=T5.out.cell E0.out
         have p6:=T5.out.cell E1.out))
    clear q5 p5 p6 c5 e0 e1;go_wp2_with fail;go_roundw
    case rel=>exact⟨k+1,by omega,by omega,by go_num,by rw[HT.out];exact O5.out,L5.out,T5.out⟩
    case measure=>simp[intOf];omega
  · have HK:Hid ((Q.take k).map cutP=(Q.take 12).map cutP):=η (by
     have:=HNQ.out;by_cases h12:k=12
     · rw[h12]
     · rw[List.take_of_length_le (by omega:Q.length≤k),List.take_of_length_le (by omega:Q.length≤12)])
    rw[HK.out]at HO;clear HK;obtain⟨L,hL⟩:=ε ((Q.take 12).map cutP);rw[←hL]at HO;have HLL:=η hL;have h0:=TR.out.heap R0.out;have h1:=TR.out.heap R1.out;obtain⟨aq',cq',hv⟩:∃aq' cq',u3=.slice aq' L.length cq':=by
     rcases HO.out.2 with⟨hv,hl⟩ | ⟨g,cap,cur,hv,_⟩
     · exact⟨none,0,by rw[hv,hl]⟩
     · exact⟨_,_,hv⟩
    subst hv;clear hL;obtain⟨hcp,hSr⟩:np≤cp∧∀wx,Turn [q] wr wx→Sr wx ap cp (P.take 9):=by
     have:=HNP.out;rcases HP.out with⟨rfl,rfl,rfl⟩ | ⟨A,rfl,hle,_,hc,_⟩
     · exact⟨by rw[this];exact Nat.le_refl _,fun wx _=>.inl ⟨rfl,rfl,rfl⟩⟩
     · refine⟨by omega,fun wx tx=>.inr ⟨A,rfl,fun j hj=>?_⟩⟩;rw[List.length_take]at hj;have hcj:=hc j (by omega);have hab:(A.add j).block=A.block:=by unfold Addr.add;split<;>rfl
       have hbl:(A.add j).block<q:=by have:=World.block_lt_of_cell? _ _ hcj;rw[HQD.out];exact this
       rw[show(P.take 9).getD j 0=P.getD j 0 by simp only[List.getD,List.getElem?_take];rw[if_pos (by omega)]];exact tx.cell (TR.out.cell (T1.out.cell hcj)) (by intro hm;have:=List.mem_singleton.1 hm;omega)
    have fz:wr.frozen? ⟨q,5,none⟩=false:=unfrozen_of h0;have hmm:0≤min (np:Int) 9∧min (np:Int) 9≤(cp:Int):=by omega
    have HSr:=η hSr;clear hSr;have hor:¬((k:Int)<(nq:Int))∨((k:Int)<(nq:Int))∧¬((k:Int)<12):=by omega
    rcases hor with r1 | ⟨r1,r2⟩
    all_goals
     go_wp2_with
      (at_builtin
       refine append_ints rfl (.const (.slice none 0 0)) (.tmp 42) rfl (.slice none 0 0) [] rfl (World.ownsRow_nil _ _ _ _) ap (min (np:Int) 9).toNat cp (P.take 9) (by rw[List.length_take,←HNP.out];omega) rfl (HSr.out _ (Turn.setCell wr (by simp) _)) (by simp;omega) ?_;intro v7 w7 o7 g7 l7;obtain⟨ap',cp',rfl,-⟩:=row_form o7;have T7:=η (Turn.grown (l:=[]) g7 (by intro k hk;cases hk));have b0:=T7.out.heap (block_set h0 (Value.slice aq' L.length cq'));have b1:=T7.out.heap ((block_other (by omega) _).trans h1);have fq:w7.frozen? ⟨q,4,none⟩=false:=unfrozen_of b0;have fr:∀j,w7.frozen? ⟨q+1,j,none⟩=false:=fun j=>unfrozen_of b1
       have k0:w7.cell? ⟨q,0,none⟩=some (.int .i64 kd):=by rw[cell_of_row _ _ _ _ _ _ b0];rfl
       have k1:w7.cell? ⟨q,1,none⟩=some (.int .i64 t):=by rw[cell_of_row _ _ _ _ _ _ b0];rfl
       have k2:w7.cell? ⟨q,2,none⟩=some (.int .i64 d):=by rw[cell_of_row _ _ _ _ _ _ b0];rfl
       have k3:w7.cell? ⟨q,3,none⟩=some (.bool y):=by rw[cell_of_row _ _ _ _ _ _ b0];rfl
       have k4:w7.cell? ⟨q,4,none⟩=some (.slice ap np cp):=by rw[cell_of_row _ _ _ _ _ _ b0];rfl
       have k5:w7.cell? ⟨q,5,none⟩=some (.slice aq' L.length cq'):=by rw[cell_of_row _ _ _ _ _ _ b0];rfl
       have m0:w7.cell? ⟨q+1,0,none⟩=some (.int .i64 0):=by rw[cell_of_row _ _ _ _ _ _ b1];rfl
       have m1:w7.cell? ⟨q+1,1,none⟩=some (.int .i64 0):=by rw[cell_of_row _ _ _ _ _ _ b1];rfl
       have m2:w7.cell? ⟨q+1,2,none⟩=some (.int .i64 0):=by rw[cell_of_row _ _ _ _ _ _ b1];rfl
       have m3:w7.cell? ⟨q+1,3,none⟩=some (.bool false):=by rw[cell_of_row _ _ _ _ _ _ b1];rfl
       have m4:w7.cell? ⟨q+1,4,none⟩=some (.slice none 0 0):=by rw[cell_of_row _ _ _ _ _ _ b1];rfl
       have m5:w7.cell? ⟨q+1,5,none⟩=some (.slice none 0 0):=by rw[cell_of_row _ _ _ _ _ _ b1];rfl
       have O7:=η o7;have L7:=η l7;have B1:=η b1
       clear g7 o7 l7 b0 b1)
     have hL2:List.take 12 (List.map cutP Q)=L:=by rw[HLL.out,List.map_take]
     have hL1:min 12 Q.length=L.length:=by rw[HLL.out];simp
     rw[hL1,hL2];have TS:Hid (∀(u0 u1 u2 u3 u4 u5 u6:Value),Turn [q,q+1] w7 (((((((w7.setCell ⟨q,4,none⟩ u0).setCell ⟨q+1,0,none⟩ u1).setCell ⟨q+1,1,none⟩ u2).setCell ⟨q+1,2,none⟩ u3).setCell ⟨q+1,3,none⟩ u4).setCell ⟨q+1,4,none⟩ u5).setCell ⟨q+1,5,none⟩ u6)):=η (fun u0 u1 u2 u3 u4 u5 u6=>six_cells w7 q u0 u1 u2 u3 u4 u5 u6);have T8:=η ((Turn.setCell (l:=[q,q+1]) (b:=q) (i:=5) wr (by simp) (.slice aq' L.length cq')).trans T7.out);have hs8:=TR.out.size;refine bodyPost_ret_by (results_cell_row rfl _ _ (q+1) 37 _ (0,0) _ rfl (six_heap B1.out _ _ _ _ _ _ _) Tryz.underlying37 rfl recsize) rfl ?_;have o7:=O7.out;simp only[List.nil_append,List.length_take]at o7;have hqw:=HQD.out;have l7:∀g,(Value.slice ap' (min 9 P.length) cp').ownBlock=some g→q+2≤g:=by
      intro g hg;rcases L7.out with h | h
      · simp only[List.nil_append,List.length_take]at h;rw[hg]at h;cases h
      · simp only[List.nil_append,List.length_take]at h;rw[hg]at h;injection h with h
        rw[h];have:wr.heap.size≤(wr.setCell ⟨q,5,none⟩ (.slice aq' L.length cq')).heap.size:=by simp[World.setCell]
        omega
     have l8:∀g,(Value.slice aq' L.length cq').ownBlock=some g→q+2≤g:=fun g hg=>by have:=HL.out g hg;omega
     refine⟨ap',cp',aq',cq',rfl,ownsRow_turn o7 (TS.out _ _ _ _ _ _ _) (fun g hg=>by have:=l7 g hg;simp;omega),ownsRow_turn HO.out (T8.out.trans (TS.out _ _ _ _ _ _ _) (fun i hi=>.inl hi)) (fun g hg=>by have:=l8 g hg;simp;omega),fun g hg=>by have:=l7 g hg;omega,fun g hg=>by have:=l8 g hg;omega,?_⟩;exact((T1.out.trans TR.out).trans (T8.out.trans (TS.out _ _ _ _ _ _ _) (fun i hi=>.inl hi)) (fun i hi=>.inr (by simp at hi;omega)))
theorem grown_at {w w':World} {b:Nat} (g:w.grownBy w' (some b)):Turn [b] w w':=Turn.grown g (fun k hk=>.inl (by injection hk with hk;simp[hk]))
theorem InIs.turn {w w':World} {b:Nat} {l:List UInt8} {bad:Bool} {m:List Nat} (h:InIs w b l bad) (t:Turn m w w') (hm:b∉m):InIs w' b l bad:=h.same (t.block b h.lt hm)
theorem row_beside {w wr w3 w5:World} {o:Obj} {v v5:Option Nat} {b:Nat} {l:List UInt8} {bad:Bool} (TR:Turn [b] w wr) (T3:Turn [b] wr w3) (g:(w3.alloc o).grownBy w5 v) (HL:∀k,v=some k→w.heap.size≤k) (hb:b<w.heap.size) (I3:InIs w3 b l bad)
 (l5:v5=v∨v5=some (w3.alloc o).heap.size):Turn [b] w w5∧InIs w5 b l bad∧∀k,v5=some k→w.heap.size≤k:=by
 have ha:Turn v.toList (w3.alloc o) w5:=Turn.grown g (fun k hk=>.inl (by simp[hk]));have hl:∀k∈v.toList,w.heap.size≤k:=fun k hk=>HL k (by simpa using hk)
 have h3:Turn [b] w w3:=TR.trans T3 (fun i hi=>.inl hi);have h4:Turn [b] w (w3.alloc o):=h3.trans (Turn.alloc [] w3 o);refine⟨h4.trans ha (fun i hi=>.inr (hl i hi)),(I3.turn (Turn.alloc [] w3 o) (by simp)).turn ha (fun hm=>by have:=hl b hm;omega),fun k hk=>?_⟩;rcases l5 with h | h
 · exact HL k (h.symm.trans hk)
 · rw[h]at hk;injection hk with hk
   have:=h4.size;omega
theorem readParts_calls (b:Nat) (l:List UInt8) (bad:Bool) (w:World) (h:InIs w b l bad) (X:List Int) (l':List UInt8) (bad':Bool) (hX:rdParts (leN (taken l bad 2)) (after l bad 2) (!canTake l bad 2)=(X,l',bad')):
 Calls Tryz.prog 249 #[.pointer (some ⟨b,0,none⟩)] w fun e w'=>∃ao c,e=.returned (.slice ao X.length c)∧w'.ownsRow 0 3 1 (.slice ao X.length c) X.length (i64s X)∧
  (∀k,(Value.slice ao X.length c).ownBlock=some k→w.heap.size≤k)∧InIs w' b l' bad'∧Turn [b] w w':=by
 have C1:=η (small_in b l bad w h);have hlt:=h.lt;have hn:=small_lt l bad;obtain⟨n0,hn0⟩:=ε (leN (taken l bad 2));rw[←hn0]at C1 hn hX;have HX:=η hX;have HLT:=η hlt;clear h hX hn0 hlt;go_in;go_wp2_with fail;refine C1.out.mono ?_;rintro e w1 ⟨rfl,i1,g1⟩;have I1:=η i1;have T1:=η (grown_at g1);clear i1 g1 C1;go_wp2_with fail
 go_loopw [3,4] (fun v i wr=>∃(n:Nat) (x:List Int) (lx:List UInt8) (bx:Bool),i=.int .i64 (n:Int)∧x.length+n≤n0∧wr.ownsRow 0 3 1 v x.length (i64s x)∧(∀g,v.ownBlock=some g→w.heap.size≤g)∧InIs wr b lx bx∧
  (x++(rdParts n lx bx).1,(rdParts n lx bx).2)=(X,l',bad')∧Turn [b] w wr) (fun _ i _=>(intOf i).toNat)
 case atStart=>exact⟨n0,[],_,_,rfl,by simp,World.ownsRow_nil _ _ _ _,(by intro g hg;cases hg),I1.out,by rw[List.nil_append];exact HX.out,T1.out⟩
 case round=>
  obtain⟨n,x,lx,bx,rfl,hxn,hown,hlow,hin,hrd,tr⟩:=hrel;have HO:=η hown;have HL:=η hlow;have HI:=η hin;have TR:=η tr;clear hown hlow hin tr;cases n with
  | zero=>
   have hx:x=X:=by
    have:=congrArg Prod.fst hrd;simpa[rdParts]using this
   have hl:(lx,bx)=(l',bad'):=by
    have:=congrArg Prod.snd hrd;simpa[rdParts]using this
   injection hl with hl1 hl2
   subst hx hl1 hl2;obtain⟨ao,cp,hv,-⟩:=row_form HO.out;subst hv;clear hrd;go_wp2;go_ret;exact⟨ao,cp,rfl,HO.out,HL.out,HI.out,TR.out⟩
  | succ n=>
  cases bx with
  | true=>
   have hx:x=X:=by
    have:=congrArg Prod.fst hrd;simpa[rdParts]using this
   have hl:(lx,true)=(l',bad'):=by
    have:=congrArg Prod.snd hrd;simpa[rdParts]using this
   injection hl with hl1 hl2
   subst hx hl1 hl2;obtain⟨ao,cp,hv,-⟩:=row_form HO.out;subst hv;have hpos:(0:Int)<((n+1:Nat):Int):=by omega
   clear hrd;go_wp2_with fail;refine(bad_calls b lx true _ HI.out).mono ?_;rintro e w2 ⟨rfl,rfl⟩;go_wp2;go_ret;exact⟨ao,cp,rfl,HO.out,HL.out,HI.out,TR.out⟩
  | false=>
   unfold rdParts at hrd;rw[if_neg (by simp)]at hrd;have hpos:(0:Int)<((n+1:Nat):Int):=by omega
   have hlen:x.length+1≤1000000:=by omega
   have CS:=η (small_in b lx false wr HI.out);obtain⟨y,hy⟩:=ε (leN (taken lx false 2));obtain⟨ly,hly⟩:=ε (after lx false 2);obtain⟨by_,hby⟩:=ε (!canTake lx false 2);rw[←hy,←hly,←hby]at CS hrd;have HR:Hid ((x++[(y:Int)]++(rdParts n ly by_).1,(rdParts n ly by_).2)=(X,l',bad')):=η (by rw[List.append_assoc];exact hrd);clear hrd hy hly hby;go_wp2_with fail;refine(bad_calls b lx false _ HI.out).mono ?_;rintro e w2 ⟨rfl,rfl⟩;go_wp2_with fail;refine CS.out.mono ?_;rintro e w3 ⟨rfl,i3,g3⟩;have I3:=η i3;have T3:=η (grown_at g3);have O3:=η (ownsRow_turn HO.out T3.out (fun k hk hm=>by have:=HL.out k hk;have:=HLT.out;simp at hm;omega));clear i3 g3 CS;go_wp2_with
    (at_builtin
     (refine append_ints rfl (.tmp 16) (.tmp 19) rfl u3 x rfl (ownsRow_turn O3.out (Turn.alloc [] w3 _) (fun _ _=>by simp)) (some ⟨w3.heap.size,0,none⟩) 1 1 [(y:Int)] rfl rfl (Sr.new w3 y _) (by simp;omega) ?_)
     intro v5 w5 o5 g5 l5;have O5:=η o5;have A5:=η (row_beside TR.out T3.out g5 HL.out HLT.out I3.out l5)
     clear o5 g5 l5)
   go_roundw
   case rel=>exact⟨n,x++[(y:Int)],ly,by_,by go_num,by simp;omega,O5.out,A5.out.2.2,A5.out.2.1,HR.out,A5.out.1⟩
   case measure=>simp[intOf]
theorem readPuts_calls (b:Nat) (l:List UInt8) (bad:Bool) (w:World) (h:InIs w b l bad) (X:List (ByteArray×ByteArray)) (l':List UInt8) (bad':Bool) (hX:rdPuts (leN (taken l bad 2)) (after l bad 2) (!canTake l bad 2)=(X,l',bad')):
 Calls Tryz.prog 250 #[.pointer (some ⟨b,0,none⟩)] w fun e w'=>∃ao c,e=.returned (.slice ao X.length c)∧w'.ownsRow 0 45 2 (.slice ao X.length c) X.length (pcells X)∧
  (∀k,(Value.slice ao X.length c).ownBlock=some k→w.heap.size≤k)∧InIs w' b l' bad'∧Turn [b] w w':=by
 have C1:=η (small_in b l bad w h);have hlt:=h.lt;have hn:=small_lt l bad;obtain⟨n0,hn0⟩:=ε (leN (taken l bad 2));rw[←hn0]at C1 hn hX;have HX:=η hX;have HLT:=η hlt;clear h hX hn0 hlt;go_in;go_wp2_with fail;refine C1.out.mono ?_;rintro e w1 ⟨rfl,i1,g1⟩;have I1:=η i1;have T1:=η (grown_at g1);clear i1 g1 C1;go_wp2_with fail
 go_loopw [3,4] (fun v i wr=>∃(n:Nat) (x:List (ByteArray×ByteArray)) (lx:List UInt8) (bx:Bool),i=.int .i64 (n:Int)∧x.length+n≤n0∧wr.ownsRow 0 45 2 v x.length (pcells x)∧(∀g,v.ownBlock=some g→w.heap.size≤g)∧InIs wr b lx bx∧
  (x++(rdPuts n lx bx).1,(rdPuts n lx bx).2)=(X,l',bad')∧Turn [b] w wr) (fun _ i _=>(intOf i).toNat)
 case atStart=>exact⟨n0,[],_,_,rfl,by simp,World.ownsRow_nil _ _ _ _,(by intro g hg;cases hg),I1.out,by rw[List.nil_append];exact HX.out,T1.out⟩
 case round=>
  obtain⟨n,x,lx,bx,rfl,hxn,hown,hlow,hin,hrd,tr⟩:=hrel;have HO:=η hown;have HL:=η hlow;have HI:=η hin;have TR:=η tr;clear hown hlow hin tr;cases n with
  | zero=>
   have hx:x=X:=by
    have:=congrArg Prod.fst hrd;simpa[rdPuts]using this
   have hl:(lx,bx)=(l',bad'):=by
    have:=congrArg Prod.snd hrd;simpa[rdPuts]using this
   injection hl with hl1 hl2
   subst hx hl1 hl2;obtain⟨ao,cp,hv⟩:=put_form HO.out;subst hv;clear hrd;go_wp2;go_ret;exact⟨ao,cp,rfl,HO.out,HL.out,HI.out,TR.out⟩
  | succ n=>
  cases bx with
  | true=>
   have hx:x=X:=by
    have:=congrArg Prod.fst hrd;simpa[rdPuts]using this
   have hl:(lx,true)=(l',bad'):=by
    have:=congrArg Prod.snd hrd;simpa[rdPuts]using this
   injection hl with hl1 hl2
   subst hx hl1 hl2;obtain⟨ao,cp,hv⟩:=put_form HO.out;subst hv;have hpos:(0:Int)<((n+1:Nat):Int):=by omega
   clear hrd;go_wp2_with fail;refine(bad_calls b lx true _ HI.out).mono ?_;rintro e w2 ⟨rfl,rfl⟩;go_wp2;go_ret;exact⟨ao,cp,rfl,HO.out,HL.out,HI.out,TR.out⟩
  | false=>
   unfold rdPuts at hrd;rw[if_neg (by simp)]at hrd;have hpos:(0:Int)<((n+1:Nat):Int):=by omega
   have hlen:x.length+1≤1000000:=by omega
   have CS:=η (text_in b lx false wr HI.out);obtain⟨y,hy⟩:∃y:ByteArray,y=⟨(textT lx false).toArray⟩:=⟨_,rfl⟩
   obtain⟨ly,hly⟩:=ε (textA lx false);obtain⟨by_,hby⟩:=ε (!textC lx false);rw[←hy,←hly,←hby]at CS hrd;have CZ:=η (fun wx o=>text_in b ly by_ wx o);obtain⟨z,hz⟩:∃z:ByteArray,z=⟨(textT ly by_).toArray⟩:=⟨_,rfl⟩
   obtain⟨lz,hlz⟩:=ε (textA ly by_);obtain⟨bz,hbz⟩:=ε (!textC ly by_);rw[←hz,←hlz,←hbz]at CZ hrd;have HR:Hid ((x++[(y,z)]++(rdPuts n lz bz).1,(rdPuts n lz bz).2)=(X,l',bad')):=η (by rw[List.append_assoc];exact hrd);clear hrd hy hly hby hz hlz hbz;go_wp2_with fail;refine(bad_calls b lx false _ HI.out).mono ?_;rintro e w2 ⟨rfl,rfl⟩;go_wp2_with fail;refine CS.out.mono ?_;rintro e w2 ⟨rfl,i2,g2⟩;have I2:=η i2;have T2:=η (grown_at g2);clear i2 g2 CS;go_wp2_with fail;refine(CZ.out _ I2.out).mono ?_;rintro e w3 ⟨rfl,i3,g3⟩;have I3:=η i3;have T3:=η (T2.out.trans (grown_at g3) (fun i hi=>.inl hi));have O3:=η (ownsRow_turn HO.out T3.out (fun k hk hm=>by have:=HL.out k hk;have:=HLT.out;simp at hm;omega));clear i3 g3 CZ I2 T2;go_wp2_with
    (at_builtin
     (refine append_put rfl (.tmp 16) (.tmp 22) rfl u3 x rfl (ownsRow_turn O3.out (Turn.alloc [] w3 _) (fun _ _=>by simp)) w3.heap.size (y,z) rfl (cell_new2 w3 _ _ _).1 (cell_new2 w3 _ _ _).2 (by omega) ?_)
     intro v5 w5 o5 g5 l5;have O5:=η o5;have A5:=η (row_beside TR.out T3.out g5 HL.out HLT.out I3.out l5)
     clear o5 g5 l5)
   go_roundw
   case rel=>exact⟨n,x++[(y,z)],lz,bz,by go_num,by simp;omega,O5.out,A5.out.2.2,A5.out.2.1,HR.out,A5.out.1⟩
   case measure=>simp[intOf]
end Go.Proofs.YtkjpjfghklgdhaaGreat
