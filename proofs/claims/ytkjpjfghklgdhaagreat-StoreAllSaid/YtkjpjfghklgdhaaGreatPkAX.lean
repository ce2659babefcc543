/-
  PkAX
-/
import Derived.Test.YtkjpjfghklgdhaaGreatPkAW
set_option maxHeartbeats 8000000
set_option maxRecDepth 100000
namespace Go.Proofs.YtkjpjfghklgdhaaGreat
open Go.RowKit Go.Proofs.YtkjpjfghklgdhaaGreat.V
def qT:ByteArray:=⟨#[113]⟩
def xT:ByteArray:=⟨#[120]⟩
def bgA:RecV:=⟨4,8589934593,0,false,[],[(qT,xT)]⟩
def bgB:RecV:=⟨5,8589934593,0,true,[],[]⟩
def bgC:RecV:=⟨1,4294967297,0,false,[],[]⟩
def bgD:RecV:=⟨2,4294967297,4294967297,false,[],[]⟩
def bgE:RecV:=⟨8,4294967297,0,false,[2],[]⟩
def bgF:RecV:=⟨3,8589934593,0,false,[],[]⟩
def sN:StV:=⟨1,1,1,0,[],[],[],[],[]⟩
def sA:StV:=⟨1,1,1,0,[],[⟨8589934593,[(qT,xT)]⟩],[],[],[]⟩
def sB:StV:=⟨1,2,2,0,[⟨4294967297,qT,xT,1,0,0⟩],[],[⟨8589934593,true⟩],[],[]⟩
def sC:StV:=⟨1,2,2,1,[⟨4294967297,qT,xT,1,0,0⟩],[],[⟨8589934593,true⟩],[],[]⟩
def sD:StV:=⟨1,2,2,1,[⟨4294967297,qT,xT,1,0,4294967297⟩],[],[⟨8589934593,true⟩],[],[]⟩
def sE:StV:=⟨1,2,2,1,[⟨4294967297,qT,xT,1,1,0⟩],[],[⟨4294967297,false⟩,⟨8589934593,true⟩],[],[⟨4294967297,[2]⟩]⟩
def sZ:StV:=⟨0,0,0,0,[],[],[],[],[]⟩
theorem mN:MayP sN:=mayB_iff.1 (by decide+kernel)
theorem mA:MayP sA:=mayB_iff.1 (by decide+kernel)
theorem mB:MayP sB:=mayB_iff.1 (by decide+kernel)
theorem mC:MayP sC:=mayB_iff.1 (by decide+kernel)
theorem mD:MayP sD:=mayB_iff.1 (by decide+kernel)
theorem mE:MayP sE:=mayB_iff.1 (by decide+kernel)
theorem mZ:mayB sZ=false:=by decide+kernel
theorem newN:newS 1=sN:=(eqStB_iff _ _).1 (by decide+kernel)
theorem stA:applyS sN bgA=sA:=(eqStB_iff _ _).1 (by decide+kernel)
theorem stB:applyS sA bgB=sB:=(eqStB_iff _ _).1 (by decide+kernel)
theorem stC:applyS sB bgC=sC:=(eqStB_iff _ _).1 (by decide+kernel)
theorem stD:applyS sC bgD=sD:=(eqStB_iff _ _).1 (by decide+kernel)
theorem stE:applyS sD bgE=sE:=(eqStB_iff _ _).1 (by decide+kernel)
theorem canF:canE sE bgF=9:=by decide+kernel
theorem eqEE:eqStB sE sE=true:=by decide+kernel
theorem eqED:eqStB sE sD=false:=by decide+kernel
theorem bestB:bestM qT sB.ms=some ⟨4294967297,qT,xT,1,0,0⟩:=by
 have h:(bestM qT sB.ms).map (fun m=>eqMsgB m ⟨4294967297,qT,xT,1,0,0⟩)=some true:=by decide+kernel
 cases hb:bestM qT sB.ms with
 | none=>rw[hb]at h;cases h
 | some m=>
  rw[hb]at h;have h2:eqMsgB m ⟨4294967297,qT,xT,1,0,0⟩=true:=by simpa using h
  rw[(eqMsgB_iff _ _).1 h2]
theorem roomBq:roomB sB [] qT=true:=by decide+kernel
theorem quesB:(queuesQ sB []).length=1:=by decide+kernel
theorem StZ (w:World):StIs w noAds sZ:=⟨Tl.nil _ _ _,⟨[],rfl,Tl.nil _ _ _,by simp⟩,Tl.nil _ _ _,⟨[],rfl,Tl.nil _ _ _,by simp⟩,⟨[],rfl,Tl.nil _ _ _,by simp⟩⟩
theorem fitZ:sZ.fit:=⟨by unfold okI sZ;decide,by unfold okI sZ;decide,by unfold okI sZ;decide,by unfold okI sZ;decide,by simp[sZ],by simp[sZ],by simp[sZ],by simp[sZ],by simp[sZ]⟩
theorem fresh_apart {w:World} {lo' n' z':Nat} {e:TypeId} {v v':Value} {xs':List Value} {g:Nat} (h:w.ownsRow lo' e z' v' n' xs') (hv:v.ownBlock=none∨v.ownBlock=some g) (hg:w.heap.size≤g):Apart v v':=by
 rcases hv with hv | hv
 · exact .inl hv
 · refine .inr fun e1=>?_
   rcases h.2 with⟨e2,_⟩ | ⟨g',cap,cur,e2,_,hg',_⟩
   · rw[hv,e2]at e1;simp[Value.ownBlock]at e1
   · rw[hv,e2]at e1;have:g=g':=by simpa[Value.ownBlock]using e1
     have:=lt_of_heap hg';omega
theorem stClone_calls {w:World} {a:Ads} {s:StV} (h:StIs w a s) (hf:s.few):
 Calls Tryz.prog 79 #[.agg (s.cells a)] w fun e w'=>∃a' LW LO LN,e=.returned (.agg (s.cells a'))∧Rows w' w.heap.size s a' LW LO LN∧Turn [] w w':=by
 obtain⟨L,hL,hT,hI⟩:=h.waits;have hn0:L.length=s.waits.length:=by rw[←hL,List.length_map]
 have C1:=η (fun wx (tt:Turn [] w wx)=>cloneMsg_calls (l:=s.ms.flatMap msgC) (m:=s.ms.length) (by rw[flat_len (n:=6) (f:=msgC) (fun _=>rfl)]) (lay_srcN (n:=6) (f:=msgC) (fun _=>rfl) (h.ms.still tt)).1 (lay_srcN (n:=6) (f:=msgC) (fun _=>rfl) (h.ms.still tt)).2 (cellOne_ms _) (by have:=hf.ms;omega));have C2:=η (fun wx (tt:Turn [] w wx)=>cloneBr_calls (l:=L.flatMap brC) (m:=L.length) (by rw[flat_len (n:=2) (f:=brC) (fun _=>rfl)]) (lay_srcN (n:=2) (f:=brC) (fun _=>rfl) (hT.still tt)).1 (lay_srcN (n:=2) (f:=brC) (fun _=>rfl) (hT.still tt)).2 (cellOne_bs _) (by have:=hf.waits;omega));have C3:=η (fun wx (tt:Turn [] w wx)=>cloneEnd_calls (l:=s.ends.flatMap endC) (m:=s.ends.length) (by rw[flat_len (n:=2) (f:=endC) (fun _=>rfl)]) (lay_srcN (n:=2) (f:=endC) (fun _=>rfl) (h.ends.still tt)).1 (lay_srcN (n:=2) (f:=endC) (fun _=>rfl) (h.ends.still tt)).2 (cellOne_es _) (by have:=hf.ends;omega));have C4:=η (fun wx (tt:Turn [] w wx)=>clonePends_calls (h.open_.still tt) hf.open_ hf.oparts);have C5:=η (fun wx (tt:Turn [] w wx)=>clonePends_calls (h.noes.still tt) hf.noes hf.nparts);have CI:=η (fun(x:Lay BrV) (hx:x∈L) wx (tt:Turn [] w wx)=>clonePuts_calls ((hI x hx).turn tt) (by have:=hf.puts x.v (by rw[←hL];exact List.mem_map_of_mem hx);omega));have HL:=η hL;obtain⟨n,hn⟩:=ε s.waits.length;have HN:=η hn;have HN0:Hid (L.length=n):=η (by rw[hn0,hn]);rw[HN0.out]at C2;have hlen:=h.waits.len;rw[←hn]at hlen;obtain⟨cs,hcs⟩:=ε (s.cells a);have CZ0:Hid (Cz w cs ((w.alloc (.cells cs 27)).alloc (.cells zeroSt 27))):=η (Cz.new w cs);unfold StV.cells at hcs ⊢;rw[←hn]at hcs;rw[←HN.out];rw[hcs]at CZ0;unfold zeroSt at CZ0;clear hL hT hI hn0 hn hcs hf h;obtain⟨nm,hnm⟩:=ε s.ms.length;obtain⟨ne,hne⟩:=ε s.ends.length;obtain⟨no,hno⟩:=ε s.open_.length;obtain⟨nn,hnn⟩:=ε s.noes.length;have HNM:=η hnm;have HNE:=η hne;have HNO:=η hno;have HNN:=η hnn;rw[←hnm]at C1 CZ0 ⊢;rw[←hne]at C3 CZ0 ⊢;rw[←hno]at C4 CZ0 ⊢;rw[←hnn]at C5 CZ0 ⊢;clear hnm hne hno hnn;obtain⟨c0,c1,c2,c3,c4,c5,c6,c7,c8⟩:=nine_of CZ0.out.box;go_in;go_wp2_with fail;generalize hx0:(w.alloc (.cells #[.int .i64 s.broker,.int .i64 s.nextId,.int .i64 s.nextSeq,.int .i64 s.tx,.slice a.m nm a.cm,.slice a.w n a.cw,.slice a.e ne a.ce,.slice a.o no a.co,.slice a.n nn a.cn] 27)).alloc (.cells #[.int .i64 0,.int .i64 0,.int .i64 0,.int .i64 0,.slice none 0 0,.slice none 0 0,.slice none 0 0,.slice none 0 0,.slice none 0 0] 27)=x0 at*;clear hx0 c0 c1 c2 c3 c4 c5 c6 c7 c8;refine(C1.out _ CZ0.out.turn).mono ?_;rintro e x1 ⟨am,cm,rfl,o1,t1⟩;have z1:=CZ0.out.still t1;have hlo0:=CZ0.out.turn.size;have O1:=η (row_own o1 (fun k hk=>Nat.le_trans hlo0 (row_lo o1 k hk)));have f1:∀j,x1.frozen? ⟨w.heap.size,j,none⟩=false:=fun j=>unfrozen_of z1.box
 have Z2:Hid (Cz w #[.int .i64 s.broker,.int .i64 s.nextId,.int .i64 s.nextSeq,.int .i64 s.tx,.slice am nm cm,.slice a.w n a.cw,.slice a.e ne a.ce,.slice a.o no a.co,.slice a.n nn a.cn] (x1.setCell ⟨w.heap.size,4,none⟩ (.slice am nm cm))):=η (z1.set 4 (.slice am nm cm));have M2:=η (row_store (i:=4) O1.out z1.box (by decide) (.slice am nm cm));obtain⟨c0,c1,c2,c3,c4,c5,c6,c7,c8⟩:=nine_of z1.box;clear o1 t1 z1 O1 C1 CZ0;go_wp2_with fail;clear c0 c1 c2 c3 c4 c5 c6 c7 c8 f1;generalize hy2:x1.setCell ⟨w.heap.size,4,none⟩ (.slice am nm cm)=y2 at*;clear hy2;refine(C2.out _ Z2.out.turn).mono ?_;rintro e x2 ⟨aw,cw,rfl,o2,t2⟩;have z3:=Z2.out.still t2;have hlo1:=Z2.out.turn.size;have W3:=row_own o2 (fun k hk=>Nat.le_trans hlo1 (row_lo o2 k hk));have M3:=ownsRow_turn M2.out t2;have f2:∀j,x2.frozen? ⟨w.heap.size,j,none⟩=false:=fun j=>unfrozen_of z3.box
 have Z4:Hid (Cz w #[.int .i64 s.broker,.int .i64 s.nextId,.int .i64 s.nextSeq,.int .i64 s.tx,.slice am nm cm,.slice aw n cw,.slice a.e ne a.ce,.slice a.o no a.co,.slice a.n nn a.cn] (x2.setCell ⟨w.heap.size,5,none⟩ (.slice aw n cw))):=η (z3.set 5 (.slice aw n cw));have W4:=η (row_store (i:=5) W3 z3.box (by decide) (.slice aw n cw));have M4:=η (row_store (i:=5) M3 z3.box (by decide) (.slice aw n cw));obtain⟨c0,c1,c2,c3,c4,c5,c6,c7,c8⟩:=nine_of z3.box;have c5':=(nine_of Z4.out.box).2.2.2.2.2.1;clear o2 t2 z3 W3 M3 C2 M2 Z2 hlo0 hlo1;go_wp2_with fail;clear c0 c1 c2 c3 c4 c5 c6 c7 c8 f2 c5';generalize hy4:x2.setCell ⟨w.heap.size,5,none⟩ (.slice aw n cw)=y4 at*;clear hy4
 have W5:Hid (y4.ownsRow w.heap.size 81 2 (.slice aw n cw) n (vcells (([]++L.drop 0).map brP))):=η (by
  rw[List.nil_append,List.drop_zero,vcells_flat,flat_map]
  exact W4.out)
 clear W4;go_loopw [15] (fun vi wx=>∃(k:Nat) (D:List (Lay BrV)),k≤n∧vi=.int .i64 (k:Int)∧D.length=k∧D.map Lay.v=s.waits.take k∧wx.ownsRow w.heap.size 81 2 (.slice aw n cw) n (vcells ((D++L.drop k).map brP))∧(∀x∈D,wx.ownsRow w.heap.size 45 2 (putsRow x) x.v.puts.length (pcells x.v.puts))∧Cz w #[.int .i64 s.broker,.int .i64 s.nextId,.int .i64 s.nextSeq,.int .i64 s.tx,.slice am nm cm,.slice aw n cw,.slice a.e ne a.ce,.slice a.o no a.co,.slice a.n nn a.cn] wx∧wx.ownsRow w.heap.size 49 6 (.slice am nm cm) nm (s.ms.flatMap msgC)) (fun vi _=>n-(intOf vi).toNat)
 case atStart=>exact⟨0,[],by omega,rfl,rfl,by simp,W5.out,by simp,Z4.out,M4.out⟩
 case round=>
  obtain⟨k,D,hk,rfl,hdl,hdv,hrow,hown,hcz,hms⟩:=hrel;have HROW:=η hrow;have HOWN:=η hown;have HCZ:=η hcz;have HMS:=η hms;have HDV:=η hdv;have HDL:=η hdl;clear hdl hdv hrow hown hcz hms;by_cases hkn:k<n
  · have hkl:k<L.length:=by rw[HN0.out];exact hkn
    obtain⟨x,hx⟩:∃x,L[k]?=some x:=⟨_,List.getElem?_eq_getElem hkl⟩
    have hlx:s.waits[k]?=some x.v:=by rw[←HL.out,List.getElem?_map,hx];rfl
    have hrow:=HROW.out;rcases hrow.2 with⟨_,h0⟩ | ⟨g,cap,cur,e,hlo,hg,hle,hmx,hsz,htk⟩
    · omega
    injection e with e1 _ e3
    subst e1;have hdx:(D++L.drop k)[k]?=some x:=by
     rw[List.getElem?_append_right (by rw[HDL.out];exact Nat.le_refl _),HDL.out,Nat.sub_self,List.getElem?_drop,Nat.add_zero];exact hx
    have q1:∀wy,Turn [] wr wy→wy.cell? ⟨g,k*2+1,none⟩=some (.slice x.ao x.v.puts.length x.c):=fun wy ty=>by
     have hT:Tl 2 brC wr (some ⟨g,0,none⟩) cw (D++L.drop k):=Tl.of_own (n:=2) (f:=brC) (B:=0) (e:=81) (fun _=>rfl) (by
      have:=row_zero hrow;rw[vcells_flat,flat_map]at this;have hl2:(D++L.drop k).length=n:=by rw[List.length_append,List.length_drop,HDL.out,HN0.out];omega
      rw[hl2]
      exact this)
     obtain⟨g',off',e0,hat⟩:=hT.at hdx;injection e0 with e0
     injection e0 with e4 e5 _
     subst e4 e5;have:=hat 1 _ rfl;rw[Nat.zero_add]at this;exact ty.cell this
    have HG:=η hg;have HLO:=η hlo;have hb:0≤(k:Int)∧(k:Int)<(n:Int):=by omega
    have HX:=η hx;have HLX:=η hlx;have HDX:=η hdx;have HSX:Hid (∀wy,Turn [] wr wy→wy.cell? ⟨w.heap.size,5,none⟩=some (.slice (some ⟨g,0,none⟩) n cw)∧wy.cell? ⟨g,k*2+1,none⟩=some (.slice x.ao x.v.puts.length x.c)):=η (fun wy ty=>⟨(nine_of (HCZ.out.still ty).box).2.2.2.2.2.1,q1 wy ty⟩);have CI1:=η (fun wx (tt:Turn [] w wx)=>CI.out x (List.mem_of_getElem? hx) wx tt);clear hrow e3 hg hlo hle hmx hsz htk hx hlx hdx q1;obtain⟨np,hnp⟩:=ε x.v.puts.length;have HNP:=η hnp;rw[←hnp]at HSX CI1;clear hnp;go_wp2_with fail;refine Ph.start [12] (fun wy=>wy.cell? ⟨w.heap.size,5,none⟩=some (.slice (some ⟨g,0,none⟩) n cw)∧wy.cell? ⟨g,k*2+1,none⟩=some (.slice x.ao np x.c)) (by kernel_rfl) (HSX.out _ (Turn.drew [] wr)) ?_;intro hS;refine Ph.tq 0 (some 18) hS ?_;simp only[Act.put,σa,σz,σs];refine Ph.tq 1 (some 19) hS ?_;simp only[Act.put,σa,σz,σs];refine Ph.tq 2 (some 20) hS ?_;simp only[Act.put,σa,σz,σs];refine Ph.tq 3 (some 21) hS ?_;simp only[Act.put,σa,σz,σs];refine Ph.tq 4 (some 22) hS ?_;simp only[Act.put,σa,σz,σs];refine Ph.tq 5 (some 23) hS ?_;simp only[Act.put,σa,σz,σs];refine Ph.tq 6 (some 24) hS ?_;simp only[Act.put,σa,σz,σs];refine Ph.tq 7 (some 25) hS ?_;simp only[Act.put,σa,σz,σs];refine Ph.tq 8 (some 26) hS ?_;simp only[Act.put,σa,σz,σs];refine Ph.one (i:=9) (by kernel_rfl) rfl ?_;intro K hK;rw[if_pos (by rfl)];go_simp;refine(CI1.out _ (HCZ.out.turn.trans (Turn.drew [] wr))).mono ?_;rintro e x3 ⟨ao2,c2,rfl,o3,t3⟩;dsimp only;have U3:=η ((Turn.drew [] wr).trans t3);have O3:=η o3;refine hK _ _ (HSX.out _ U3.out) (fun hS3=>?_);clear hK K o3 t3;refine Ph.one (i:=10) (by kernel_rfl) rfl ?_;intro K hK;rw[if_pos (by rfl)];go_simp;refine hK _ _ hS3 (fun _=>?_);clear hK K;refine Ph.tq 11 (some 29) hS3 ?_;simp only[Act.put,σa,σz,σs];have hg3:=U3.out.heap HG.out;have fr:∀j,x3.frozen? ⟨g,j,none⟩=false:=fun j=>unfrozen_of hg3
    refine Ph.tardy (i:=12) (by kernel_rfl) (by kernel_rfl) rfl ?_;intro K hK;rw[if_pos (by rfl)];go_simp;refine hK _ _ (Ph.done (by kernel_rfl) ?_ _);clear hK K;have hrow3:=ownsRow_turn HROW.out U3.out;have hst:=(hrow3.stored (k*2+1) (.slice ao2 np c2)).1;have hfs:=flat_set (n:=2) (f:=pairC) (fun _=>rfl) ((D++L.drop k).map brP) k 1 (brP x) (brP ⟨x.v,ao2,c2⟩) (.slice ao2 x.v.puts.length c2) (by rw[List.getElem?_map,HDX.out];rfl) (by omega) rfl;rw[←HNP.out]at hfs;rw[vcells_flat,hfs,←List.map_set]at hst;have hset:(D++L.drop k).set k (⟨x.v,ao2,c2⟩:Lay BrV)=(D++[⟨x.v,ao2,c2⟩])++L.drop (k+1):=by
     rw[drop_cons HX.out,List.set_append_right _ _ (by rw[HDL.out];exact Nat.le_refl _),HDL.out,Nat.sub_self,List.set_cons_zero,List.append_assoc];rfl
    rw[hset]at hst;have tg:Turn [g] x3 (x3.setCell ⟨g,k*2+1,none⟩ (.slice ao2 np c2)):=Turn.setCell (l:=[g]) x3 (by simp) _;have hgl:∀k∈[g],∃cs fr,x3.heap[k]?=some (.cells cs 81 fr):=fun k hk=>by
     have:k=g:=by simpa using hk
     rw[this];exact⟨_,_,hg3⟩
    have R3:=η hst;have hwsz:=(HCZ.out.turn.trans (Turn.drew [] wr)).size
    have N3:Hid (∀z∈D++[(⟨x.v,ao2,c2⟩:Lay BrV)],(x3.setCell ⟨g,k*2+1,none⟩ (.slice ao2 np c2)).ownsRow w.heap.size 45 2 (putsRow z) z.v.puts.length (pcells z.v.puts)):=η (fun z hz=>by
     rcases List.mem_append.1 hz with hz | hz
     · exact ownsRow_keep (ownsRow_turn (HOWN.out z hz) U3.out) tg hgl (by decide)
     · have:z=⟨x.v,ao2,c2⟩:=by simpa using hz
       subst this;have o3':=O3.out;rw[HNP.out]at o3'
       exact ownsRow_keep (row_own o3' (fun k hk=>Nat.le_trans hwsz (row_lo o3' k hk))) tg hgl (by decide))
    have M3:=η (ownsRow_keep (ownsRow_turn HMS.out U3.out) tg hgl (by decide));have Z3:=η ((HCZ.out.still U3.out).row tg ⟨_,_,hg3⟩ (by decide) HLO.out);have DV:Hid ((D++[(⟨x.v,ao2,c2⟩:Lay BrV)]).map Lay.v=s.waits.take (k+1)):=η (by rw[List.map_append,HDV.out,List.take_add_one,HLX.out];rfl);have DL:Hid ((D++[(⟨x.v,ao2,c2⟩:Lay BrV)]).length=k+1):=η (by rw[List.length_append,HDL.out];rfl);clear hg3 hrow3 hst hfs hset tg hgl hwsz CI1 hS hS3 HSX fr;go_wp2_with fail;go_roundw
    case rel=>exact⟨k+1,_,by omega,by go_num,DL.out,DV.out,R3.out,N3.out,Z3.out,M3.out⟩
    case measure=>simp[intOf];omega
  · have hkk:k=n:=by omega
    have WR:Hid (wr.ownsRow w.heap.size 81 2 (.slice aw n cw) n (vcells (D.map brP))):=η (by
     have:=HROW.out
     rwa[List.drop_eq_nil_of_le (by rw[HN0.out,hkk];exact Nat.le_refl _),List.append_nil]at this)
    have HV:Hid (D.map Lay.v=s.waits):=η (by rw[HDV.out,List.take_of_length_le (by rw[hkk,HN.out];exact Nat.le_refl _)]);clear HROW HDV HDL;have hz0:=HCZ.out;obtain⟨c0,c1,c2,c3,c4,c5,c6,c7,c8⟩:=nine_of hz0.box;clear hz0;go_wp2_with fail;refine(C3.out _ HCZ.out.turn).mono ?_;rintro e x3 ⟨ae,ce,rfl,o3,t3⟩;clear c0 c1 c2 c3 c4 c5 c6 c7 c8;have z3:=HCZ.out.still t3;have hl3:=HCZ.out.turn.size;have E3:=row_own o3 (fun k hk=>Nat.le_trans hl3 (row_lo o3 k hk));have f3:∀j,x3.frozen? ⟨w.heap.size,j,none⟩=false:=fun j=>unfrozen_of z3.box
    have ht3:Turn [w.heap.size] x3 (x3.setCell ⟨w.heap.size,6,none⟩ (.slice ae ne ce)):=Turn.setCell (l:=[w.heap.size]) x3 (by simp) _;have Z5:Hid (Cz w #[.int .i64 s.broker,.int .i64 s.nextId,.int .i64 s.nextSeq,.int .i64 s.tx,.slice am nm cm,.slice aw n cw,.slice ae ne ce,.slice a.o no a.co,.slice a.n nn a.cn] (x3.setCell ⟨w.heap.size,6,none⟩ (.slice ae ne ce))):=η (z3.set 6 (.slice ae ne ce));have E5:=η (row_store (i:=6) E3 z3.box (by decide) (.slice ae ne ce));have M5:=η (row_store (i:=6) (ownsRow_turn HMS.out t3) z3.box (by decide) (.slice ae ne ce));have W5:=η (row_store (i:=6) (ownsRow_turn WR.out t3) z3.box (by decide) (.slice ae ne ce));have P5:=η (fun x hx=>row_store (i:=6) (ownsRow_turn (HOWN.out x hx) t3) z3.box (by decide) (.slice ae ne ce));obtain⟨c0,c1,c2,c3,c4,c5,c6,c7,c8⟩:=nine_of z3.box;clear o3 t3 z3 E3 ht3 hl3 HCZ HMS WR HOWN C3;go_wp2_with fail;clear c0 c1 c2 c3 c4 c5 c6 c7 c8 f3;generalize hy5:x3.setCell ⟨w.heap.size,6,none⟩ (.slice ae ne ce)=y5 at*;clear hy5;refine(C4.out _ Z5.out.turn).mono ?_;rintro e x4 ⟨ao,co,LO,rfl,vo,o4,p4,l4,t4⟩;have z4:=Z5.out.still t4;have hl4:=Z5.out.turn.size;have Q4:=row_own o4 (fun k hk=>Nat.le_trans hl4 (row_lo o4 k hk));have f4:∀j,x4.frozen? ⟨w.heap.size,j,none⟩=false:=fun j=>unfrozen_of z4.box
    have Z6:Hid (Cz w #[.int .i64 s.broker,.int .i64 s.nextId,.int .i64 s.nextSeq,.int .i64 s.tx,.slice am nm cm,.slice aw n cw,.slice ae ne ce,.slice ao no co,.slice a.n nn a.cn] (x4.setCell ⟨w.heap.size,7,none⟩ (.slice ao no co))):=η (z4.set 7 (.slice ao no co));have Q6:=η (row_store (i:=7) Q4 z4.box (by decide) (.slice ao no co));have I6:=η (fun x hx=>row_store (i:=7) (row_own (p4 x hx) (fun k hk=>Nat.le_trans hl4 (row_lo (p4 x hx) k hk))) z4.box (by decide) (.slice ao no co));have E6:=η (row_store (i:=7) (ownsRow_turn E5.out t4) z4.box (by decide) (.slice ao no co));have M6:=η (row_store (i:=7) (ownsRow_turn M5.out t4) z4.box (by decide) (.slice ao no co));have W6:=η (row_store (i:=7) (ownsRow_turn W5.out t4) z4.box (by decide) (.slice ao no co));have P6:=η (fun x hx=>row_store (i:=7) (ownsRow_turn (P5.out x hx) t4) z4.box (by decide) (.slice ao no co));have VO:=η vo;have L4:=η l4;obtain⟨c0,c1,c2,c3,c4,c5,c6,c7,c8⟩:=nine_of z4.box;clear o4 t4 z4 p4 l4 vo Q4 hl4 E5 M5 W5 P5 Z5 C4;go_wp2_with fail;clear c0 c1 c2 c3 c4 c5 c6 c7 c8 f4;generalize hy6:x4.setCell ⟨w.heap.size,7,none⟩ (.slice ao no co)=y6 at*;clear hy6;refine(C5.out _ Z6.out.turn).mono ?_;rintro e x5 ⟨an,cn,LN,rfl,vn,o5,p5,l5,t5⟩;have z5:=Z6.out.still t5;have hl5:=Z6.out.turn.size;have f5:∀j,x5.frozen? ⟨w.heap.size,j,none⟩=false:=fun j=>unfrozen_of z5.box
    have Z7:Hid (Cz w #[.int .i64 s.broker,.int .i64 s.nextId,.int .i64 s.nextSeq,.int .i64 s.tx,.slice am nm cm,.slice aw n cw,.slice ae ne ce,.slice ao no co,.slice an nn cn] (x5.setCell ⟨w.heap.size,8,none⟩ (.slice an nn cn))):=η (z5.set 8 (.slice an nn cn));have st7:=fun {B:Nat} {e:TypeId} {z n:Nat} {v:Value} {xs:List Value} (h:x5.ownsRow B e z v n xs) (hne:e≠27)=>row_store (i:=8) h z5.box hne (.slice an nn cn)
    have st6:=fun {B:Nat} {e:TypeId} {z n:Nat} {v:Value} {xs:List Value} (h:y6.ownsRow B e z v n xs) (hne:e≠27)=>row_store (i:=8) (ownsRow_turn h t5) z5.box hne (.slice an nn cn)
    have onap:Apart (.slice ao no co) (.slice an nn cn):=by
     refine Apart.symm ?_;rcases o5.2 with⟨e1,_⟩ | ⟨g3,cap3,cur3,e1,hlo3,_⟩
     · exact .inl (by rw[e1];rfl)
     · exact fresh_apart (w:=y6) (g:=g3) Q6.out (.inr (by rw[e1];rfl)) hlo3
    have alone7:(LO++LN).Pairwise fun x y=>Apart (partsRow x) (partsRow y):=by
     rw[List.pairwise_append];refine⟨L4.out,l5,fun y hy z hz=>Apart.symm ?_⟩;rcases(p5 z hz).2 with⟨e1,_⟩ | ⟨g3,cap3,cur3,e1,hlo3,_⟩
     · exact .inl (by rw[e1];rfl)
     · exact new_apart (w:=y6) (g:=g3) (I6.out y hy) (.inr (by rw[e1];rfl)) hlo3
    have RW:Hid (Rows (x5.setCell ⟨w.heap.size,8,none⟩ (.slice an nn cn)) w.heap.size s ⟨am,cm,aw,cw,ae,ce,ao,co,an,cn⟩ D LO LN):=η (by
     refine⟨HV.out,VO.out,vn,?_,?_,?_,?_,?_,?_,fun x hx=>st6 (P6.out x hx) (by decide),fun x hx=>?_,alone7⟩
     · rw[←HNM.out];exact st6 M6.out (by decide)
     · rw[←HN.out];exact st6 W6.out (by decide)
     · rw[←HNE.out,vcells_flat,flat_map];exact st6 E6.out (by decide)
     · rw[←HNO.out];exact st6 Q6.out (by decide)
     · rw[←HNN.out];exact st7 (row_own o5 (fun k hk=>Nat.le_trans hl5 (row_lo o5 k hk))) (by decide)
     · rw[←HNO.out,←HNN.out];exact onap
     · rcases List.mem_append.1 hx with hx | hx
       · exact st6 (I6.out x hx) (by decide)
       · exact st7 (row_own (p5 x hx) (fun k hk=>Nat.le_trans hl5 (row_lo (p5 x hx) k hk))) (by decide))
    obtain⟨c0,c1,c2,c3,c4,c5,c6,c7,c8⟩:=nine_of z5.box;obtain⟨r0,r1,r2,r3,r4,r5,r6,r7,r8⟩:=nine_of z5.res;have HF6:Hid (∀j,x5.frozen? ⟨w.heap.size+1,j,none⟩=false):=η (fun j=>unfrozen_of z5.res);clear o5 t5 z5 p5 l5 vn hl5 st7 st6 onap alone7 E6 M6 W6 P6 Q6 I6 L4 VO HV Z6 C5;have f6:∀j,x5.frozen? ⟨w.heap.size+1,j,none⟩=false:=HF6.out;go_wp2_with fail;have TF:=nine_turn (x5.setCell ⟨w.heap.size,8,none⟩ (.slice an nn cn)) (w.heap.size+1) (.int .i64 s.broker) (.int .i64 s.nextId) (.int .i64 s.nextSeq) (.int .i64 s.tx) (.slice am nm cm) (.slice aw n cw) (.slice ae ne ce) (.slice ao no co) (.slice an nn cn);have NH:=nine_heap Z7.out.res (.int .i64 s.broker) (.int .i64 s.nextId) (.int .i64 s.nextSeq) (.int .i64 s.tx) (.slice am nm cm) (.slice aw n cw) (.slice ae ne ce) (.slice ao no co) (.slice an nn cn);unfold nine at NH TF;refine bodyPost_ret_by (results_cell_row rfl _ _ (w.heap.size+1) 27 _ (0,0) _ rfl NH Tryz.underlying27 rfl (by kernel_rfl)) rfl ?_;refine⟨⟨am,cm,aw,cw,ae,ce,ao,co,an,cn⟩,D,LO,LN,?_,RW.out.past TF ⟨_,_,Z7.out.res⟩,Z7.out.turn.trans TF (fun i hi=>.inr (by simp at hi;omega))⟩;rw[HNM.out,HN.out,HNE.out,HNO.out,HNN.out]
theorem stApply_calls {w:World} {a:Ads} {s:StV} (h:StIs w a s) (hf:s.fit) (hw:s.few) (r:RecV) (ap aq:Option Addr) (cp cq:Nat) (hp:Il w ap cp r.parts) (hq:Ps w aq cq r.puts) (ht:okI r.tid) (hd:okI r.id):
 Calls Tryz.prog 28 #[.agg (s.cells a),.agg (r.cells ap cp aq cq)] w fun e w'=>∃a' LW LO LN,e=.returned (.agg ((applyS s r).cells a'))∧Rows w' w.heap.size (applyS s r) a' LW LO LN∧Turn [] w w':=by
 have C1:=η (fun wx (tt:Turn [] w wx)=>stClone_calls (h.still tt) hw);have C2:=η (fun wx (tt:Turn [] w wx)=>may_calls (h.still tt) hf);have C3:=η (fun(hm:MayP s) wx (tt:Turn [] w wx)=>can_calls (h.still tt) hm r ap aq cp cq (hp.turn tt) (hq.turn tt) ht hd);have C4:=η (fun(wx:World) (lo b:Nat) (a:Ads) (LW:List (Lay BrV)) (LO LN:List (Lay PendV)) (hb:Box wx lo b s a LW LO LN) (hm:MayP s) (hc:CanP s r) (tt:Turn [] w wx) (hlo:w.heap.size≤lo)=>turn_calls hb hm r hc ap aq cp cq (fun wy ty=>hp.turn (ty.close tt hlo)) (fun wy ty=>hq.turn (ty.close tt hlo)));have HM:Hid (mayB s=true→MayP s):=η (fun e=>mayB_iff.1 e);have HC:Hid (canE s r=0→CanP s r):=η (fun e=>canE_zero e);have HA0:Hid (mayB s=false→applyS s r=s):=η (fun e=>by unfold applyS;rw[if_neg (by rw[e];simp)]);have HA1:Hid (canE s r≠0→applyS s r=s):=η (fun e=>by unfold applyS;rw[if_neg (fun q=>e q.2)]);have HA2:Hid (mayB s=true→canE s r=0→applyS s r=layS s r):=η (fun e f=>by unfold applyS;rw[if_pos ⟨e,f⟩]);obtain⟨u,hu⟩:=ε (applyS s r);rw[←hu]at HA0 HA1 HA2 ⊢;obtain⟨lw,hlw⟩:=ε (layS s r);rw[←hlw]at C4 HA2;obtain⟨mb,hmb⟩:=ε (mayB s);rw[←hmb]at C2 HM HA0 HA2;obtain⟨ce,hce⟩:=ε (canE s r);rw[←hce]at C3 HC HA1 HA2;clear hu hlw hmb hce h hf hw hp hq ht hd;have AY0:=η (Ay.new w (s.cells a) (r.cells ap cp aq cq));obtain⟨k,t,d,y,P,Q⟩:=r;unfold RecV.cells at AY0 C3 C4 ⊢;dsimp only at AY0 C3 C4 ⊢;obtain⟨np,hnp⟩:=ε P.length;obtain⟨nq,hnq⟩:=ε Q.length;rw[←hnp,←hnq]at AY0 C3 C4 ⊢;clear hnp hnq;unfold StV.cells at AY0 C1 C2 C3 ⊢;unfold zeroSt at AY0;obtain⟨nm,hqm⟩:=ε s.ms.length;rw[←hqm]at AY0 C1 C2 C3 ⊢;have HQm:=η hqm;clear hqm;obtain⟨nw,hqw⟩:=ε s.waits.length;rw[←hqw]at AY0 C1 C2 C3 ⊢;have HQw:=η hqw;clear hqw;obtain⟨ne,hqe⟩:=ε s.ends.length;rw[←hqe]at AY0 C1 C2 C3 ⊢;have HQe:=η hqe;clear hqe;obtain⟨no,hqo⟩:=ε s.open_.length;rw[←hqo]at AY0 C1 C2 C3 ⊢;have HQo:=η hqo;clear hqo;obtain⟨nn,hqn⟩:=ε s.noes.length;rw[←hqn]at AY0 C1 C2 C3 ⊢;have HQn:=η hqn;clear hqn;obtain⟨c0,c1,c2,c3,c4,c5,c6,c7,c8⟩:=nine_of AY0.out.box;go_in;go_wp2_with fail;generalize hx0:((w.alloc (.cells #[.int .i64 s.broker,.int .i64 s.nextId,.int .i64 s.nextSeq,.int .i64 s.tx,.slice a.m nm a.cm,.slice a.w nw a.cw,.slice a.e ne a.ce,.slice a.o no a.co,.slice a.n nn a.cn] 27)).alloc (.cells #[.int .i64 k,.int .i64 t,.int .i64 d,.bool y,.slice ap np cp,.slice aq nq cq] 37)).alloc (.cells #[.int .i64 0,.int .i64 0,.int .i64 0,.int .i64 0,.slice none 0 0,.slice none 0 0,.slice none 0 0,.slice none 0 0,.slice none 0 0] 27)=x0 at*;clear hx0 c0 c1 c2 c3 c4 c5 c6 c7 c8;refine(C1.out _ AY0.out.turn).mono ?_;rintro e x1 ⟨a1,LW,LO,LN,rfl,R1,t1⟩;have A1:=AY0.out.still t1;have HLT:Hid (w.heap.size+1+1<x0.heap.size):=η (lt_of_heap AY0.out.res);have BX:=R1.box t1.size;unfold StV.cells at BX;rw[←HQm.out,←HQw.out,←HQe.out,←HQo.out,←HQn.out]at BX;have A2:=A1.still (Turn.alloc [] x1 (.cells #[.int .i64 s.broker,.int .i64 s.nextId,.int .i64 s.nextSeq,.int .i64 s.tx,.slice a1.m nm a1.cm,.slice a1.w nw a1.cw,.slice a1.e ne a1.ce,.slice a1.o no a1.co,.slice a1.n nn a1.cn] 27));have HBX:=η BX;have HA2':=η A2;obtain⟨c0,c1,c2,c3,c4,c5,c6,c7,c8⟩:=nine_of A2.box;obtain⟨e0,e1,e2,e3,e4,e5,e6,e7,e8⟩:=nine_of A1.box;clear A1 A2 BX R1 t1 C1 AY0;go_wp2_with fail;clear c0 c1 c2 c3 c4 c5 c6 c7 c8 e0 e1 e2 e3 e4 e5 e6 e7 e8;generalize hx2:x1.alloc (.cells #[.int .i64 s.broker,.int .i64 s.nextId,.int .i64 s.nextSeq,.int .i64 s.tx,.slice a1.m nm a1.cm,.slice a1.w nw a1.cw,.slice a1.e ne a1.ce,.slice a1.o no a1.co,.slice a1.n nn a1.cn] 27)=x2 at*;clear hx2;generalize hbn:x1.heap.size=bn at*;clear hbn;refine(C2.out _ HA2'.out.turn).mono ?_;rintro e x3 ⟨rfl,t3⟩;have A3:=η (HA2'.out.still t3);have B3:=η (HBX.out.still t3);clear t3 HA2' HBX C2;cases mb with
 | false=>
  have HU:=η (HA0.out rfl);have BF:Hid (Box x3 x0.heap.size bn u a1 LW LO LN):=η (by rw[HU.out];exact B3.out);clear HA0 HA1 HA2 HM HC C3 C4 B3 HU;have AYF:=η (A3.out);obtain⟨d0,d1,d2,d3,d4,d5,d6,d7,d8⟩:=nine_of BF.out.head;obtain⟨r0,r1,r2,r3,r4,r5,r6,r7,r8⟩:=nine_of AYF.out.res;have fr:∀j,x3.frozen? ⟨w.heap.size+1+1,j,none⟩=false:=fun j=>unfrozen_of AYF.out.res
  go_wp2_with fail;have TF:=nine_turn x3 (w.heap.size+1+1) (.int .i64 u.broker) (.int .i64 u.nextId) (.int .i64 u.nextSeq) (.int .i64 u.tx) (.slice a1.m u.ms.length a1.cm) (.slice a1.w u.waits.length a1.cw) (.slice a1.e u.ends.length a1.ce) (.slice a1.o u.open_.length a1.co) (.slice a1.n u.noes.length a1.cn);have NH:=nine_heap AYF.out.res (.int .i64 u.broker) (.int .i64 u.nextId) (.int .i64 u.nextSeq) (.int .i64 u.tx) (.slice a1.m u.ms.length a1.cm) (.slice a1.w u.waits.length a1.cw) (.slice a1.e u.ends.length a1.ce) (.slice a1.o u.open_.length a1.co) (.slice a1.n u.noes.length a1.cn);unfold nine at NH TF;refine bodyPost_ret_by (results_cell_row rfl _ _ (w.heap.size+1+1) 27 _ (0,0) _ rfl NH Tryz.underlying27 rfl (by kernel_rfl)) rfl ?_;exact⟨a1,_,_,_,rfl,(BF.out.rows.past TF ⟨_,_,AYF.out.res⟩).low (by have:=HLT.out;omega),AYF.out.turn.trans TF (fun i hi=>.inr (by simp at hi;omega))⟩
 | true=>
  have HMM:=η (HM.out rfl);have HA3:Hid (ce=0→u=lw):=η (fun e=>HA2.out rfl e);clear HM HA2;obtain⟨c0,c1,c2,c3,c4,c5,c6,c7,c8⟩:=nine_of A3.out.box;obtain⟨g0,g1,g2,g3,g4,g5⟩:=six_ofA A3.out.rcd;go_wp2_with fail;clear c0 c1 c2 c3 c4 c5 c6 c7 c8 g0 g1 g2 g3 g4 g5;refine(C3.out HMM.out _ A3.out.turn).mono ?_;rintro e x4 ⟨rfl,t4⟩;have A4:=η (A3.out.still t4);have B4:=η (B3.out.still t4);clear t4 A3 B3 C3 HA0;by_cases hce:ce=0
  · subst hce;have HU:=η (HA3.out rfl);have HCC:=η (HC.out rfl);obtain⟨g0,g1,g2,g3,g4,g5⟩:=six_ofA A4.out.rcd;clear HA1 HA3 HC;go_wp2_with fail;refine(C4.out x4 x0.heap.size bn a1 LW LO LN B4.out HMM.out HCC.out A4.out.turn (by have:=HLT.out;omega)).mono ?_;rintro e x5 ⟨rfl,a5,LW5,LO5,LN5,b5,t5⟩;have A5:=η (A4.out.tn t5 HLT.out);have BF:Hid (Box x5 x0.heap.size bn u a5 LW5 LO5 LN5):=η (by rw[HU.out];exact b5);clear b5 t5 C4 A4 B4 HU HCC HMM g0 g1 g2 g3 g4 g5;have AYF:=η (A5.out);obtain⟨d0,d1,d2,d3,d4,d5,d6,d7,d8⟩:=nine_of BF.out.head;obtain⟨r0,r1,r2,r3,r4,r5,r6,r7,r8⟩:=nine_of AYF.out.res;have fr:∀j,x5.frozen? ⟨w.heap.size+1+1,j,none⟩=false:=fun j=>unfrozen_of AYF.out.res
    go_wp2_with fail;have TF:=nine_turn x5 (w.heap.size+1+1) (.int .i64 u.broker) (.int .i64 u.nextId) (.int .i64 u.nextSeq) (.int .i64 u.tx) (.slice a5.m u.ms.length a5.cm) (.slice a5.w u.waits.length a5.cw) (.slice a5.e u.ends.length a5.ce) (.slice a5.o u.open_.length a5.co) (.slice a5.n u.noes.length a5.cn);have NH:=nine_heap AYF.out.res (.int .i64 u.broker) (.int .i64 u.nextId) (.int .i64 u.nextSeq) (.int .i64 u.tx) (.slice a5.m u.ms.length a5.cm) (.slice a5.w u.waits.length a5.cw) (.slice a5.e u.ends.length a5.ce) (.slice a5.o u.open_.length a5.co) (.slice a5.n u.noes.length a5.cn);unfold nine at NH TF;refine bodyPost_ret_by (results_cell_row rfl _ _ (w.heap.size+1+1) 27 _ (0,0) _ rfl NH Tryz.underlying27 rfl (by kernel_rfl)) rfl ?_;exact⟨a5,_,_,_,rfl,(BF.out.rows.past TF ⟨_,_,AYF.out.res⟩).low (by have:=HLT.out;omega),AYF.out.turn.trans TF (fun i hi=>.inr (by simp at hi;omega))⟩
  · have hne:(ce==0)=false:=by simpa using hce
    have HU:=η (HA1.out hce);have BF:Hid (Box x4 x0.heap.size bn u a1 LW LO LN):=η (by rw[HU.out];exact B4.out);clear HA1 HA3 HMM HC C4 B4 HU hce;have AYF:=η (A4.out);obtain⟨d0,d1,d2,d3,d4,d5,d6,d7,d8⟩:=nine_of BF.out.head;obtain⟨r0,r1,r2,r3,r4,r5,r6,r7,r8⟩:=nine_of AYF.out.res;have fr:∀j,x4.frozen? ⟨w.heap.size+1+1,j,none⟩=false:=fun j=>unfrozen_of AYF.out.res
    go_wp2_with fail;have TF:=nine_turn x4 (w.heap.size+1+1) (.int .i64 u.broker) (.int .i64 u.nextId) (.int .i64 u.nextSeq) (.int .i64 u.tx) (.slice a1.m u.ms.length a1.cm) (.slice a1.w u.waits.length a1.cw) (.slice a1.e u.ends.length a1.ce) (.slice a1.o u.open_.length a1.co) (.slice a1.n u.noes.length a1.cn);have NH:=nine_heap AYF.out.res (.int .i64 u.broker) (.int .i64 u.nextId) (.int .i64 u.nextSeq) (.int .i64 u.tx) (.slice a1.m u.ms.length a1.cm) (.slice a1.w u.waits.length a1.cw) (.slice a1.e u.ends.length a1.ce) (.slice a1.o u.open_.length a1.co) (.slice a1.n u.noes.length a1.cn);unfold nine at NH TF;refine bodyPost_ret_by (results_cell_row rfl _ _ (w.heap.size+1+1) 27 _ (0,0) _ rfl NH Tryz.underlying27 rfl (by kernel_rfl)) rfl ?_;exact⟨a1,_,_,_,rfl,(BF.out.rows.past TF ⟨_,_,AYF.out.res⟩).low (by have:=HLT.out;omega),AYF.out.turn.trans TF (fun i hi=>.inr (by simp at hi;omega))⟩
theorem sameEnds_calls {w:World} {a1 a2:Option Addr} {c1 c2:Nat} {l m:List EndV} (h1:Tl 2 endC w a1 c1 l) (h2:Tl 2 endC w a2 c2 m):Calls Tryz.prog 64 #[.slice a1 l.length c1,.slice a2 m.length c2] w fun e w'=>e=.returned (.bool (decide (l=m)))∧∃d,w'=w.drewN d:=by
 have hlen1:=h1.len;have hlen2:=h2.len;by_cases hlm:l.length=m.length
 · have H1:=η h1;have H2:=η h2;rw[←hlm]at hlen2 ⊢;obtain⟨n,hn⟩:=ε l.length;have HN:=η hn;have HLM:=η hlm;rw[←hn]at hlen1 hlen2 ⊢;obtain⟨ans,ha⟩:=ε (decide (l=m));have HA:=η ha;rw[←ha];clear h1 h2 hn hlm ha;go_in;go_wp2_with fail;go_loopw [13] (fun vi wx=>∃k:Nat,k≤n∧vi=.int .i64 (k:Int)∧(∀i:Nat,i<k→l[i]?=m[i]?)∧∃d,wx=w.drewN d) (fun vi _=>n-(intOf vi).toNat)
   case atStart=>exact⟨0,by omega,rfl,fun i hi=>by omega,0,rfl⟩
   case round=>
    obtain⟨k,hk,rfl,hall,d,rfl⟩:=hrel;have HS:=η hall;clear hall;by_cases hkn:k<n
    · have hkl:k<l.length:=by rw[←HN.out];exact hkn
      have hkm:k<m.length:=by rw[←HLM.out];exact hkl
      obtain⟨p1,hp1⟩:∃x,l[k]?=some x:=⟨_,List.getElem?_eq_getElem hkl⟩
      obtain⟨p2,hp2⟩:∃x,m[k]?=some x:=⟨_,List.getElem?_eq_getElem hkm⟩
      obtain⟨b1,o1,rfl,hat1⟩:=H1.out.at hp1;obtain⟨b2,o2,rfl,hat2⟩:=H2.out.at hp2;have hb:0≤(k:Int)∧(k:Int)<(n:Int):=by omega
      have HF:Hid (p1≠p2→ans=false):=η (fun h=>by
       rw[HA.out];refine decide_eq_false (fun e=>h ?_);rw[e,hp2]at hp1
       exact(Option.some.inj hp1).symm)
      have HS2:Hid (p1=p2→∀i:Nat,i<k+1→l[i]?=m[i]?):=η (fun h i hi=>by
       by_cases e:i=k
       · rw[e,hp1,hp2,h]
       · exact HS.out i (by omega))
      obtain⟨x1,y1⟩:=p1;obtain⟨x2,y2⟩:=p2;have q1_0:=hat1 0 (.int .i64 x1) rfl;have q2_0:=hat2 0 (.int .i64 x2) rfl;have q1_1:=hat1 1 (.bool y1) rfl;have q2_1:=hat2 1 (.bool y2) rfl;rw[Nat.add_zero]at q1_0 q2_0;clear hat1 hat2 hp1 hp2 HS;by_cases hx0:x1=x2
      case neg=>
       have HF2:=η (HF.out (fun e=>hx0 (by injection e)));have hne:(x1==x2)=false:=by simpa using hx0
       clear HS2 HF hx0;go_wp2_with fail;go_quiet (fail);go_wp2_with fail;go_ret;exact⟨ret_bool HF2.out.symm,_,World.drewN_drewN _ _ _⟩
      subst hx0;by_cases hx1:y1=y2
      case neg=>
       have HF2:=η (HF.out (fun e=>hx1 (by injection e)));have hne:(y1==y2)=false:=by simpa using hx1
       clear HS2 HF hx1;go_wp2_with fail;go_quiet (fail);go_wp2_with fail;go_ret;exact⟨ret_bool HF2.out.symm,_,World.drewN_drewN _ _ _⟩
      subst hx1;have HS3:=η (HS2.out rfl);clear HS2 HF;go_wp2_with fail;go_quiet (fail);go_wp2_with fail;go_roundw
      case rel=>exact⟨k+1,by omega,by go_num,HS3.out,_,rfl⟩
      case measure=>simp[intOf];omega
    · have hkk:k=n:=by omega
      have HF:Hid (ans=true):=η (by
       rw[HA.out];refine decide_eq_true (List.ext_getElem? fun i=>?_);by_cases hi:i<k
       · exact HS.out i hi
       · rw[List.getElem?_eq_none (by rw[←HN.out];omega),List.getElem?_eq_none (by rw[←HLM.out,←HN.out];omega)])
      clear HS;go_wp2_with fail;go_ret;exact⟨ret_bool HF.out.symm,_,rfl⟩
 · have HF:Hid (decide (l=m)=false):=η (decide_eq_false (fun e=>hlm (by rw[e])));have hne:((l.length:Int) != (m.length:Int))=true:=by simp;omega
   obtain⟨n,hn⟩:=ε l.length;obtain⟨n2,hn2⟩:=ε m.length;rw[HF.out];rw[←hn,←hn2]at hne;rw[←hn,←hn2];clear h1 h2 hlm hlen1 hlen2 hn hn2;go_in;go_wp2_with fail;go_ret;exact⟨rfl,0,rfl⟩
theorem sameMs_calls {w:World} {a1 a2:Option Addr} {c1 c2:Nat} {l m:List MsgV} (h1:Tl 6 msgC w a1 c1 l) (h2:Tl 6 msgC w a2 c2 m):Calls Tryz.prog 61 #[.slice a1 l.length c1,.slice a2 m.length c2] w fun e w'=>e=.returned (.bool (decide (l=m)))∧∃d,w'=w.drewN d:=by
 have hlen1:=h1.len;have hlen2:=h2.len;by_cases hlm:l.length=m.length
 · have H1:=η h1;have H2:=η h2;rw[←hlm]at hlen2 ⊢;obtain⟨n,hn⟩:=ε l.length;have HN:=η hn;have HLM:=η hlm;rw[←hn]at hlen1 hlen2 ⊢;obtain⟨ans,ha⟩:=ε (decide (l=m));have HA:=η ha;rw[←ha];clear h1 h2 hn hlm ha;go_in;go_wp2_with fail;go_loopw [13] (fun vi wx=>∃k:Nat,k≤n∧vi=.int .i64 (k:Int)∧(∀i:Nat,i<k→l[i]?=m[i]?)∧∃d,wx=w.drewN d) (fun vi _=>n-(intOf vi).toNat)
   case atStart=>exact⟨0,by omega,rfl,fun i hi=>by omega,0,rfl⟩
   case round=>
    obtain⟨k,hk,rfl,hall,d,rfl⟩:=hrel;have HS:=η hall;clear hall;by_cases hkn:k<n
    · have hkl:k<l.length:=by rw[←HN.out];exact hkn
      have hkm:k<m.length:=by rw[←HLM.out];exact hkl
      obtain⟨p1,hp1⟩:∃x,l[k]?=some x:=⟨_,List.getElem?_eq_getElem hkl⟩
      obtain⟨p2,hp2⟩:∃x,m[k]?=some x:=⟨_,List.getElem?_eq_getElem hkm⟩
      obtain⟨b1,o1,rfl,hat1⟩:=H1.out.at hp1;obtain⟨b2,o2,rfl,hat2⟩:=H2.out.at hp2;have hb:0≤(k:Int)∧(k:Int)<(n:Int):=by omega
      have HF:Hid (p1≠p2→ans=false):=η (fun h=>by
       rw[HA.out];refine decide_eq_false (fun e=>h ?_);rw[e,hp2]at hp1
       exact(Option.some.inj hp1).symm)
      have HS2:Hid (p1=p2→∀i:Nat,i<k+1→l[i]?=m[i]?):=η (fun h i hi=>by
       by_cases e:i=k
       · rw[e,hp1,hp2,h]
       · exact HS.out i (by omega))
      obtain⟨i1,u1,o1,s1,c1,y1⟩:=p1;obtain⟨i2,u2,o2,s2,c2,y2⟩:=p2;have q1_0:=hat1 0 (.int .i64 i1) rfl;have q2_0:=hat2 0 (.int .i64 i2) rfl;have q1_1:=hat1 1 (.string u1) rfl;have q2_1:=hat2 1 (.string u2) rfl;have q1_2:=hat1 2 (.string o1) rfl;have q2_2:=hat2 2 (.string o2) rfl;have q1_3:=hat1 3 (.int .i64 s1) rfl;have q2_3:=hat2 3 (.int .i64 s2) rfl;have q1_4:=hat1 4 (.int .i64 c1) rfl;have q2_4:=hat2 4 (.int .i64 c2) rfl;have q1_5:=hat1 5 (.int .i64 y1) rfl;have q2_5:=hat2 5 (.int .i64 y2) rfl;rw[Nat.add_zero]at q1_0 q2_0;clear hat1 hat2 hp1 hp2 HS;by_cases hx0:i1=i2
      case neg=>
       have HF2:=η (HF.out (fun e=>hx0 (by injection e)));have hne:(i1==i2)=false:=by simpa using hx0
       clear HS2 HF hx0;go_wp2_with fail;go_quiet (fail);go_wp2_with fail;go_ret;exact⟨ret_bool HF2.out.symm,_,World.drewN_drewN _ _ _⟩
      subst hx0;by_cases hx1:u1=u2
      case neg=>
       have HF2:=η (HF.out (fun e=>hx1 (by injection e)));have hne:=txt_ne hx1;clear HS2 HF hx1;go_wp2_with fail;go_quiet (fail);go_wp2_with fail;go_ret;exact⟨ret_bool HF2.out.symm,_,World.drewN_drewN _ _ _⟩
      subst hx1;by_cases hx2:o1=o2
      case neg=>
       have HF2:=η (HF.out (fun e=>hx2 (by injection e)));have hne:=txt_ne hx2;clear HS2 HF hx2;go_wp2_with fail;go_quiet (fail);go_wp2_with fail;go_ret;exact⟨ret_bool HF2.out.symm,_,World.drewN_drewN _ _ _⟩
      subst hx2;by_cases hx3:s1=s2
      case neg=>
       have HF2:=η (HF.out (fun e=>hx3 (by injection e)));have hne:(s1==s2)=false:=by simpa using hx3
       clear HS2 HF hx3;go_wp2_with fail;go_quiet (fail);go_wp2_with fail;go_ret;exact⟨ret_bool HF2.out.symm,_,World.drewN_drewN _ _ _⟩
      subst hx3;by_cases hx4:c1=c2
      case neg=>
       have HF2:=η (HF.out (fun e=>hx4 (by injection e)));have hne:(c1==c2)=false:=by simpa using hx4
       clear HS2 HF hx4;go_wp2_with fail;go_quiet (fail);go_wp2_with fail;go_ret;exact⟨ret_bool HF2.out.symm,_,World.drewN_drewN _ _ _⟩
      subst hx4;by_cases hx5:y1=y2
      case neg=>
       have HF2:=η (HF.out (fun e=>hx5 (by injection e)));have hne:(y1==y2)=false:=by simpa using hx5
       clear HS2 HF hx5;go_wp2_with fail;go_quiet (fail);go_wp2_with fail;go_ret;exact⟨ret_bool HF2.out.symm,_,World.drewN_drewN _ _ _⟩
      subst hx5;have HS3:=η (HS2.out rfl);clear HS2 HF;go_wp2_with fail;go_quiet (fail);go_wp2_with fail;go_roundw
      case rel=>exact⟨k+1,by omega,by go_num,HS3.out,_,rfl⟩
      case measure=>simp[intOf];omega
    · have hkk:k=n:=by omega
      have HF:Hid (ans=true):=η (by
       rw[HA.out];refine decide_eq_true (List.ext_getElem? fun i=>?_);by_cases hi:i<k
       · exact HS.out i hi
       · rw[List.getElem?_eq_none (by rw[←HN.out];omega),List.getElem?_eq_none (by rw[←HLM.out,←HN.out];omega)])
      clear HS;go_wp2_with fail;go_ret;exact⟨ret_bool HF.out.symm,_,rfl⟩
 · have HF:Hid (decide (l=m)=false):=η (decide_eq_false (fun e=>hlm (by rw[e])));have hne:((l.length:Int) != (m.length:Int))=true:=by simp;omega
   obtain⟨n,hn⟩:=ε l.length;obtain⟨n2,hn2⟩:=ε m.length;rw[HF.out];rw[←hn,←hn2]at hne;rw[←hn,←hn2];clear h1 h2 hlm hlen1 hlen2 hn hn2;go_in;go_wp2_with fail;go_ret;exact⟨rfl,0,rfl⟩
end Go.Proofs.YtkjpjfghklgdhaaGreat
