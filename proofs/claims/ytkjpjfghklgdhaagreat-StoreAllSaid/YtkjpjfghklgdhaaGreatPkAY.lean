/-
  PkAY
-/
import Derived.Test.YtkjpjfghklgdhaaGreatPkAX
set_option maxHeartbeats 4000000
set_option maxRecDepth 100000
namespace Go.Proofs.YtkjpjfghklgdhaaGreat
open Go.RowKit
theorem sameInts_calls {w:World} {a1 a2:Option Addr} {c1 c2:Nat} {l m:List Int} (h1:Il w a1 c1 l) (h2:Il w a2 c2 m):Calls Tryz.prog 185 #[.slice a1 l.length c1,.slice a2 m.length c2] w fun e w'=>e=.returned (.bool (decide (l=m)))∧∃d,w'=w.drewN d:=by
 have hlen1:=h1.len;have hlen2:=h2.len;by_cases hlm:l.length=m.length
 · have H1:=η h1;have H2:=η h2;rw[←hlm]at hlen2 ⊢;obtain⟨n,hn⟩:=ε l.length;have HN:=η hn;have HLM:=η hlm;rw[←hn]at hlen1 hlen2 ⊢;obtain⟨ans,ha⟩:=ε (decide (l=m));have HA:=η ha;rw[←ha];clear h1 h2 hn hlm ha;go_in;go_wp2_with fail;go_loopw [13] (fun vi wx=>∃k:Nat,k≤n∧vi=.int .i64 (k:Int)∧(∀i,i<k→l.getD i 0=m.getD i 0)∧∃d,wx=w.drewN d) (fun vi _=>n-(intOf vi).toNat)
   case atStart=>exact⟨0,by omega,rfl,fun i hi=>by omega,0,rfl⟩
   case round=>
    obtain⟨k,hk,rfl,hall,d,rfl⟩:=hrel;have HS:=η hall;clear hall;by_cases hkn:k<n
    · have hkl:k<l.length:=by rw[←HN.out];exact hkn
      have hkm:k<m.length:=by rw[←HLM.out];exact hkl
      obtain⟨b1,o1,rfl,-,hat1⟩:=H1.out.at (by intro e;rw[e]at hkl;simp at hkl);obtain⟨b2,o2,rfl,-,hat2⟩:=H2.out.at (by intro e;rw[e]at hkm;simp at hkm);have q1:=hat1 k hkl;have q2:=hat2 k hkm;have hb:0≤(k:Int)∧(k:Int)<(n:Int):=by omega
      by_cases hxy:l.getD k 0=m.getD k 0
      · have HS2:Hid (∀i,i<k+1→l.getD i 0=m.getD i 0):=η (fun i hi=>by
         by_cases e:i=k
         · rw[e];exact hxy
         · exact HS.out i (by omega))
        rw[hxy]at q1;obtain⟨y,hy⟩:=ε (m.getD k 0);rw[←hy]at q1 q2;clear hat1 hat2 hxy hy HS;go_wp2_with fail;go_quiet (fail);go_wp2;go_roundw
        case rel=>exact⟨k+1,by omega,by go_num,HS2.out,_,rfl⟩
        case measure=>simp[intOf];omega
      · have HF:Hid (ans=false):=η (by rw[HA.out];exact decide_eq_false (fun e=>hxy (by rw[e])));obtain⟨x,hx⟩:=ε (l.getD k 0);obtain⟨y,hy⟩:=ε (m.getD k 0);rw[←hx]at q1 hxy;rw[←hy]at q2 hxy;have hne:(x != y)=true:=by simpa using hxy
        clear hat1 hat2 hx hy HS;go_wp2_with fail;go_quiet (fail);go_wp2;go_ret;exact⟨ret_bool HF.out.symm,_,World.drewN_drewN _ _ _⟩
    · have hkk:k=n:=by omega
      have HF:Hid (ans=true):=η (by
       rw[HA.out]
       exact decide_eq_true (list_same HLM.out (by rw[←HN.out,←hkk];exact HS.out)))
      clear HS;go_wp2;go_ret;exact⟨ret_bool HF.out.symm,_,rfl⟩
 · have HF:Hid (decide (l=m)=false):=η (decide_eq_false (fun e=>hlm (by rw[e])));have hne:((l.length:Int) != (m.length:Int))=true:=by simp;omega
   obtain⟨n,hn⟩:=ε l.length;obtain⟨n2,hn2⟩:=ε m.length;rw[HF.out];rw[←hn,←hn2]at hne;rw[←hn,←hn2];clear h1 h2 hlm hlen1 hlen2 hn hn2;go_in;go_wp2;go_ret;exact⟨rfl,0,rfl⟩
theorem samePuts_calls {w:World} {a1 a2:Option Addr} {c1 c2:Nat} {l m:List (ByteArray×ByteArray)} (h1:Ps w a1 c1 l) (h2:Ps w a2 c2 m):Calls Tryz.prog 186 #[.slice a1 l.length c1,.slice a2 m.length c2] w fun e w'=>e=.returned (.bool (decide (l=m)))∧∃d,w'=w.drewN d:=by
 have hlen1:=h1.len;have hlen2:=h2.len;by_cases hlm:l.length=m.length
 · have H1:=η h1;have H2:=η h2;rw[←hlm]at hlen2 ⊢;obtain⟨n,hn⟩:=ε l.length;have HN:=η hn;have HLM:=η hlm;rw[←hn]at hlen1 hlen2 ⊢;obtain⟨ans,ha⟩:=ε (decide (l=m));have HA:=η ha;rw[←ha];clear h1 h2 hn hlm ha;go_in;go_wp2_with fail;go_loopw [13] (fun vi wx=>∃k:Nat,k≤n∧vi=.int .i64 (k:Int)∧(∀i,i<k→l.getD i putNone=m.getD i putNone)∧∃d,wx=w.drewN d) (fun vi _=>n-(intOf vi).toNat)
   case atStart=>exact⟨0,by omega,rfl,fun i hi=>by omega,0,rfl⟩
   case round=>
    obtain⟨k,hk,rfl,hall,d,rfl⟩:=hrel;have HS:=η hall;clear hall;by_cases hkn:k<n
    · have hkl:k<l.length:=by rw[←HN.out];exact hkn
      have hkm:k<m.length:=by rw[←HLM.out];exact hkl
      obtain⟨b1,o1,rfl,-,hat1⟩:=H1.out.at (by intro e;rw[e]at hkl;simp at hkl);obtain⟨b2,o2,rfl,-,hat2⟩:=H2.out.at (by intro e;rw[e]at hkm;simp at hkm);obtain⟨q1,q2,-,-⟩:=hat1 k hkl;obtain⟨q3,q4,-,-⟩:=hat2 k hkm;have hb:0≤(k:Int)∧(k:Int)<(n:Int):=by omega
      obtain⟨p1,hp1⟩:=ε (l.getD k putNone);obtain⟨p2,hp2⟩:=ε (m.getD k putNone);have HF:Hid (p1≠p2→ans=false):=η (fun h=>by rw[HA.out];exact decide_eq_false (fun e=>h (by rw[hp1,hp2,e])))
      have HS2:Hid (p1=p2→∀i,i<k+1→l.getD i putNone=m.getD i putNone):=η (fun h i hi=>by
       by_cases e:i=k
       · rw[e,←hp1,←hp2];exact h
       · exact HS.out i (by omega))
      rw[←hp1]at q1 q2;rw[←hp2]at q3 q4;obtain⟨x1,y1⟩:=p1;obtain⟨x2,y2⟩:=p2;clear hat1 hat2 hp1 hp2 HS;dsimp only at q1 q2 q3 q4;by_cases hx:x1=x2
      · subst hx;by_cases hy:y1=y2
        · subst hy;have HS3:=η (HS2.out rfl);clear HS2 HF;go_wp2_with fail;go_quiet (fail);go_wp2;go_roundw
          case rel=>exact⟨k+1,by omega,by go_num,HS3.out,_,rfl⟩
          case measure=>simp[intOf];omega
        · have HF2:=η (HF.out (fun e=>hy (by cases e;rfl)));have hne:=txt_ne hy;clear HS2 HF hy;go_wp2_with fail;go_quiet (fail);go_wp2;go_ret;exact⟨ret_bool HF2.out.symm,_,World.drewN_drewN _ _ _⟩
      · have HF2:=η (HF.out (fun e=>hx (by cases e;rfl)));have hne:=txt_ne hx;clear HS2 HF hx;go_wp2_with fail;go_quiet (fail);go_wp2;go_ret;exact⟨ret_bool HF2.out.symm,_,World.drewN_drewN _ _ _⟩
    · have hkk:k=n:=by omega
      have HF:Hid (ans=true):=η (by
       rw[HA.out]
       exact decide_eq_true (list_same HLM.out (by rw[←HN.out,←hkk];exact HS.out)))
      clear HS;go_wp2;go_ret;exact⟨ret_bool HF.out.symm,_,rfl⟩
 · have HF:Hid (decide (l=m)=false):=η (decide_eq_false (fun e=>hlm (by rw[e])));have hne:((l.length:Int) != (m.length:Int))=true:=by simp;omega
   obtain⟨n,hn⟩:=ε l.length;obtain⟨n2,hn2⟩:=ε m.length;rw[HF.out];rw[←hn,←hn2]at hne;rw[←hn,←hn2];clear h1 h2 hlm hlen1 hlen2 hn hn2;go_in;go_wp2;go_ret;exact⟨rfl,0,rfl⟩
theorem eq_calls (a b:RecV) {w:World} {p1 q1 p2 q2:Option Addr} {c1 e1 c2 e2:Nat} (hp1:Il w p1 c1 a.parts) (hq1:Ps w q1 e1 a.puts) (hp2:Il w p2 c2 b.parts) (hq2:Ps w q2 e2 b.puts):
 Calls Tryz.prog 127 #[.agg (a.cells p1 c1 q1 e1),.agg (b.cells p2 c2 q2 e2)] w fun e w'=>e=.returned (.bool (eqRecB a b))∧Turn [] w w':=by
 obtain⟨k1,t1,d1,y1,P1,Q1⟩:=a;obtain⟨k2,t2,d2,y2,P2,Q2⟩:=b;have hp1:Il w p1 c1 P1:=hp1;have hq1:Ps w q1 e1 Q1:=hq1;have hp2:Il w p2 c2 P2:=hp2;have hq2:Ps w q2 e2 Q2:=hq2;have CI:Hid (∀wx,Turn [] w wx→Calls Tryz.prog 185 #[.slice p1 P1.length c1,.slice p2 P2.length c2] wx fun e w'=>e=.returned (.bool (decide (P1=P2)))∧∃d,w'=wx.drewN d):=η (fun wx tw=>sameInts_calls (hp1.turn tw) (hp2.turn tw));have CP:Hid (∀wx,Turn [] w wx→Calls Tryz.prog 186 #[.slice q1 Q1.length e1,.slice q2 Q2.length e2] wx fun e w'=>e=.returned (.bool (decide (Q1=Q2)))∧∃d,w'=wx.drewN d):=η (fun wx tw=>samePuts_calls (hq1.turn tw) (hq2.turn tw));have HE:Hid (eqRecB ⟨k1,t1,d1,y1,P1,Q1⟩ ⟨k2,t2,d2,y2,P2,Q2⟩=(decide (k1=k2)&&(decide (t1=t2)&&(decide (d1=d2)&&(decide (y1=y2)&&(decide (P1=P2)&&decide (Q1=Q2))))))):=η rfl;obtain⟨ans,ha⟩:=ε (eqRecB ⟨k1,t1,d1,y1,P1,Q1⟩ ⟨k2,t2,d2,y2,P2,Q2⟩);obtain⟨r1,h1⟩:=ε (decide (P1=P2));obtain⟨r2,h2⟩:=ε (decide (Q1=Q2));rw[←h1]at CI HE;rw[←h2]at CP HE;rw[←ha]at HE ⊢;unfold RecV.cells;show Calls _ _ #[.agg #[.int .i64 k1,.int .i64 t1,.int .i64 d1,.bool y1,.slice p1 P1.length c1,.slice q1 Q1.length e1],.agg #[.int .i64 k2,.int .i64 t2,.int .i64 d2,.bool y2,.slice p2 P2.length c2,.slice q2 Q2.length e2]] _ _;obtain⟨n1,hn1⟩:=ε P1.length;obtain⟨n2,hn2⟩:=ε Q1.length;obtain⟨n3,hn3⟩:=ε P2.length;obtain⟨n4,hn4⟩:=ε Q2.length;rw[←hn1,←hn3]at CI;rw[←hn2,←hn4]at CP;rw[←hn1,←hn2,←hn3,←hn4];have T2:∀o o',Turn [] w ((w.alloc o).alloc o'):=fun o o'=>(Turn.alloc [] w o).trans (Turn.alloc [] _ o')
 have HT2:=η T2;clear hp1 hq1 hp2 hq2 ha h1 h2 hn1 hn2 hn3 hn4 T2;by_cases hk:k1=k2
 · by_cases ht:t1=t2
   · by_cases hd:d1=d2
     · by_cases hy:y1=y2
       · subst hk ht hd hy;have HE2:Hid (ans=(r1&&r2)):=η (by rw[HE.out];simp);clear HE;cases r1 with
         | true=>
          go_in;go_wp2_with fail;refine(CI.out _ (HT2.out _ _)).mono ?_;rintro e w1 ⟨rfl,dd,rfl⟩;go_wp2_with fail;refine(CP.out _ ((HT2.out _ _).trans (Turn.drewN [] _ dd))).mono ?_;rintro e w1 ⟨rfl,dd2,rfl⟩;go_wp2;go_ret;exact⟨ret_bool (by rw[HE2.out];simp),(HT2.out _ _).trans (Turn.drewN [] _ _)⟩
         | false=>
          go_in;go_wp2_with fail;refine(CI.out _ (HT2.out _ _)).mono ?_;rintro e w1 ⟨rfl,dd,rfl⟩;go_wp2;go_ret;exact⟨ret_bool (by rw[HE2.out];simp),(HT2.out _ _).trans (Turn.drewN [] _ dd)⟩
       · have HA:Hid (ans=false):=η (by rw[HE.out];simp[hy]);have f4:(y1==y2)=false:=by simpa using hy
         subst hk ht hd;clear HE hy;go_in;go_wp2
         all_goals go_ret
         all_goals exact⟨ret_bool HA.out.symm,HT2.out _ _⟩
     · have HA:Hid (ans=false):=η (by rw[HE.out];simp[hd]);have f3:(d1==d2)=false:=by simpa using hd
       subst hk ht;clear HE hd;go_in;go_wp2
       all_goals go_ret
       all_goals exact⟨ret_bool HA.out.symm,HT2.out _ _⟩
   · have HA:Hid (ans=false):=η (by rw[HE.out];simp[ht]);have f2:(t1==t2)=false:=by simpa using ht
     subst hk;clear HE ht;go_in;go_wp2
     all_goals go_ret
     all_goals exact⟨ret_bool HA.out.symm,HT2.out _ _⟩
 · have HA:Hid (ans=false):=η (by rw[HE.out];simp[hk]);have f1:(k1==k2)=false:=by simpa using hk
   clear HE hk;go_in;go_wp2
   all_goals go_ret
   all_goals exact⟨ret_bool HA.out.symm,HT2.out _ _⟩
open Go.RowKit Go.Proofs.YtkjpjfghklgdhaaGreat.V
theorem eqRecB_wait (x y:BrV):eqRecB (waitR x) (waitR y)=decide (x=y):=by
 obtain⟨t1,P1⟩:=x;obtain⟨t2,P2⟩:=y;refine Bool.eq_iff_iff.2 ?_;simp[eqRecB,waitR];exact⟨fun⟨a,b⟩=>⟨of_decide_eq_true a,of_decide_eq_true b⟩,fun⟨a,b⟩=>⟨decide_eq_true a,decide_eq_true b⟩⟩
theorem eqRecB_pend (x y:PendV):eqRecB (pendR x) (pendR y)=decide (x=y):=by
 obtain⟨t1,P1⟩:=x;obtain⟨t2,P2⟩:=y;refine Bool.eq_iff_iff.2 ?_;simp[eqRecB,pendR];exact⟨fun⟨a,b⟩=>⟨of_decide_eq_true a,of_decide_eq_true b⟩,fun⟨a,b⟩=>⟨decide_eq_true a,decide_eq_true b⟩⟩
theorem sameWait_calls {w:World} (x y:Lay BrV) (hx:Ps w x.ao x.c x.v.puts) (hy:Ps w y.ao y.c y.v.puts):
 Calls Tryz.prog 63 #[.agg #[.int .i64 x.v.tid,.slice x.ao x.v.puts.length x.c],.agg #[.int .i64 y.v.tid,.slice y.ao y.v.puts.length y.c]] w fun e w'=>e=.returned (.bool (decide (x.v=y.v)))∧Turn [] w w':=by
 have CX:=η (waitRecord_calls x.v x.ao x.c);have CY:=η (waitRecord_calls y.v y.ao y.c);have CE:=η (fun wx (tt:Turn [] w wx)=>eq_calls (waitR x.v) (waitR y.v) (p1:=none) (c1:=0) (p2:=none) (c2:=0) (.inl ⟨rfl,rfl,rfl⟩) (hx.turn tt) (.inl ⟨rfl,rfl,rfl⟩) (hy.turn tt));rw[eqRecB_wait]at CE;obtain⟨ans,ha⟩:=ε (decide (x.v=y.v));obtain⟨rx,hrx⟩:=ε ((waitR x.v).cells none 0 x.ao x.c);obtain⟨ry,hry⟩:=ε ((waitR y.v).cells none 0 y.ao y.c);rw[←ha]at CE ⊢;rw[←hrx]at CX CE;rw[←hry]at CY CE;clear ha hrx hry hx hy;obtain⟨⟨tx,Px⟩,ax,cx⟩:=x;obtain⟨⟨ty,Py⟩,ay,cy⟩:=y;dsimp only at CX CY CE ⊢;obtain⟨nx,hnx⟩:=ε Px.length;obtain⟨ny,hny⟩:=ε Py.length;rw[←hnx]at CX ⊢;rw[←hny]at CY ⊢;clear hnx hny Px Py;have B1:=heap_alloc_new w (.cells #[.int .i64 tx,.slice ax nx cx] 81);have T2:=Turn.alloc [] (w.alloc (.cells #[.int .i64 tx,.slice ax nx cx] 81)) (.cells #[.int .i64 ty,.slice ay ny cy] 81);have B2:=heap_alloc_new (w.alloc (.cells #[.int .i64 tx,.slice ax nx cx] 81)) (.cells #[.int .i64 ty,.slice ay ny cy] 81);rw[show(w.alloc (.cells #[.int .i64 tx,.slice ax nx cx] 81)).heap.size=w.heap.size+1 by simp]at B2;have HB1:=η (T2.heap B1);have HB2:=η B2;have T0:=η ((Turn.alloc [] w (.cells #[.int .i64 tx,.slice ax nx cx] 81)).trans T2);clear B1 T2 B2;go_in;go_wp2_with fail;obtain⟨x0,hx0⟩:=ε ((w.alloc (.cells #[.int .i64 tx,.slice ax nx cx] 81)).alloc (.cells #[.int .i64 ty,.slice ay ny cy] 81));rw[←hx0]at HB1 HB2 T0 ⊢;clear hx0
 have HSX:Hid (∀x,Turn [] x0 x→x.cell? ⟨w.heap.size,0,none⟩=some (.int .i64 tx)∧x.cell? ⟨w.heap.size,1,none⟩=some (.slice ax nx cx)∧x.cell? ⟨w.heap.size+1,0,none⟩=some (.int .i64 ty)∧x.cell? ⟨w.heap.size+1,1,none⟩=some (.slice ay ny cy)):=η (fun x tt=>by
  obtain⟨d0,d1⟩:=two_of (tt.heap HB1.out);obtain⟨d2,d3⟩:=two_of (tt.heap HB2.out)
  exact⟨d0,d1,d2,d3⟩)
 refine Ph.start [] (fun x=>x.cell? ⟨w.heap.size,0,none⟩=some (.int .i64 tx)∧x.cell? ⟨w.heap.size,1,none⟩=some (.slice ax nx cx)∧x.cell? ⟨w.heap.size+1,0,none⟩=some (.int .i64 ty)∧x.cell? ⟨w.heap.size+1,1,none⟩=some (.slice ay ny cy)) (by kernel_rfl) (HSX.out _ (Turn.drew [] x0)) ?_;intro hS;have U0:=η (Turn.drew [] x0);refine Ph.tq 0 (some 5) hS ?_;simp only[Act.put,σa,σz,σs];refine Ph.tq 2 (some 7) hS ?_;simp only[Act.put,σa,σz,σs];refine Ph.one (i:=1) (by kernel_rfl) rfl ?_;intro K hK;rw[if_pos (by rfl)];go_simp;refine(CX.out _).mono ?_;rintro e x1 ⟨rfl,t1⟩;dsimp only;have U1:=η (U0.out.trans t1);refine hK _ _ (HSX.out _ U1.out) (fun hS1=>?_);clear hK K t1;refine Ph.one (i:=3) (by kernel_rfl) rfl ?_;intro K hK;rw[if_pos (by rfl)];go_simp;refine(CY.out _).mono ?_;rintro e x2 ⟨rfl,t2⟩;dsimp only;have U2:=η (U1.out.trans t2);refine hK _ _ (HSX.out _ U2.out) (fun hS2=>?_);clear hK K t2;refine Ph.one (i:=4) (by kernel_rfl) rfl ?_;intro K hK;rw[if_pos (by rfl)];go_simp;refine(CE.out _ (T0.out.trans U2.out)).mono ?_;rintro e x9 ⟨rfl,t9⟩;dsimp only;have U9:=η (U2.out.trans t9);refine hK _ _ (HSX.out _ U9.out) (fun hS9=>?_);clear hK K t9;refine Ph.one (i:=5) (by kernel_rfl) rfl ?_;intro K hK;rw[if_pos (by rfl)];go_simp;refine hK _ _ hS9 (fun _=>Ph.done (by kernel_rfl) ?_ _);clear hK K;go_wp2_with fail;go_ret;exact⟨rfl,T0.out.trans U9.out⟩
theorem samePend_calls {w:World} (x y:Lay PendV) (hx:Il w x.ao x.c x.v.parts) (hy:Il w y.ao y.c y.v.parts):
 Calls Tryz.prog 66 #[.agg #[.int .i64 x.v.tid,.slice x.ao x.v.parts.length x.c],.agg #[.int .i64 y.v.tid,.slice y.ao y.v.parts.length y.c]] w fun e w'=>e=.returned (.bool (decide (x.v=y.v)))∧Turn [] w w':=by
 have CX:=η (pendRecord_calls x.v x.ao x.c);have CY:=η (pendRecord_calls y.v y.ao y.c);have CE:=η (fun wx (tt:Turn [] w wx)=>eq_calls (pendR x.v) (pendR y.v) (q1:=none) (e1:=0) (q2:=none) (e2:=0) (hx.turn tt) (.inl ⟨rfl,rfl,rfl⟩) (hy.turn tt) (.inl ⟨rfl,rfl,rfl⟩));rw[eqRecB_pend]at CE;obtain⟨ans,ha⟩:=ε (decide (x.v=y.v));obtain⟨rx,hrx⟩:=ε ((pendR x.v).cells x.ao x.c none 0);obtain⟨ry,hry⟩:=ε ((pendR y.v).cells y.ao y.c none 0);rw[←ha]at CE ⊢;rw[←hrx]at CX CE;rw[←hry]at CY CE;clear ha hrx hry hx hy;obtain⟨⟨tx,Px⟩,ax,cx⟩:=x;obtain⟨⟨ty,Py⟩,ay,cy⟩:=y;dsimp only at CX CY CE ⊢;obtain⟨nx,hnx⟩:=ε Px.length;obtain⟨ny,hny⟩:=ε Py.length;rw[←hnx]at CX ⊢;rw[←hny]at CY ⊢;clear hnx hny Px Py;have B1:=heap_alloc_new w (.cells #[.int .i64 tx,.slice ax nx cx] 65);have T2:=Turn.alloc [] (w.alloc (.cells #[.int .i64 tx,.slice ax nx cx] 65)) (.cells #[.int .i64 ty,.slice ay ny cy] 65);have B2:=heap_alloc_new (w.alloc (.cells #[.int .i64 tx,.slice ax nx cx] 65)) (.cells #[.int .i64 ty,.slice ay ny cy] 65);rw[show(w.alloc (.cells #[.int .i64 tx,.slice ax nx cx] 65)).heap.size=w.heap.size+1 by simp]at B2;have HB1:=η (T2.heap B1);have HB2:=η B2;have T0:=η ((Turn.alloc [] w (.cells #[.int .i64 tx,.slice ax nx cx] 65)).trans T2);clear B1 T2 B2;go_in;go_wp2_with fail;obtain⟨x0,hx0⟩:=ε ((w.alloc (.cells #[.int .i64 tx,.slice ax nx cx] 65)).alloc (.cells #[.int .i64 ty,.slice ay ny cy] 65));rw[←hx0]at HB1 HB2 T0 ⊢;clear hx0
 have HSX:Hid (∀x,Turn [] x0 x→x.cell? ⟨w.heap.size,0,none⟩=some (.int .i64 tx)∧x.cell? ⟨w.heap.size,1,none⟩=some (.slice ax nx cx)∧x.cell? ⟨w.heap.size+1,0,none⟩=some (.int .i64 ty)∧x.cell? ⟨w.heap.size+1,1,none⟩=some (.slice ay ny cy)):=η (fun x tt=>by
  obtain⟨d0,d1⟩:=two_of (tt.heap HB1.out);obtain⟨d2,d3⟩:=two_of (tt.heap HB2.out)
  exact⟨d0,d1,d2,d3⟩)
 refine Ph.start [] (fun x=>x.cell? ⟨w.heap.size,0,none⟩=some (.int .i64 tx)∧x.cell? ⟨w.heap.size,1,none⟩=some (.slice ax nx cx)∧x.cell? ⟨w.heap.size+1,0,none⟩=some (.int .i64 ty)∧x.cell? ⟨w.heap.size+1,1,none⟩=some (.slice ay ny cy)) (by kernel_rfl) (HSX.out _ (Turn.drew [] x0)) ?_;intro hS;have U0:=η (Turn.drew [] x0);refine Ph.tq 0 (some 5) hS ?_;simp only[Act.put,σa,σz,σs];refine Ph.tq 2 (some 7) hS ?_;simp only[Act.put,σa,σz,σs];refine Ph.one (i:=1) (by kernel_rfl) rfl ?_;intro K hK;rw[if_pos (by rfl)];go_simp;refine(CX.out _).mono ?_;rintro e x1 ⟨rfl,t1⟩;dsimp only;have U1:=η (U0.out.trans t1);refine hK _ _ (HSX.out _ U1.out) (fun hS1=>?_);clear hK K t1;refine Ph.one (i:=3) (by kernel_rfl) rfl ?_;intro K hK;rw[if_pos (by rfl)];go_simp;refine(CY.out _).mono ?_;rintro e x2 ⟨rfl,t2⟩;dsimp only;have U2:=η (U1.out.trans t2);refine hK _ _ (HSX.out _ U2.out) (fun hS2=>?_);clear hK K t2;refine Ph.one (i:=4) (by kernel_rfl) rfl ?_;intro K hK;rw[if_pos (by rfl)];go_simp;refine(CE.out _ (T0.out.trans U2.out)).mono ?_;rintro e x9 ⟨rfl,t9⟩;dsimp only;have U9:=η (U2.out.trans t9);refine hK _ _ (HSX.out _ U9.out) (fun hS9=>?_);clear hK K t9;refine Ph.one (i:=5) (by kernel_rfl) rfl ?_;intro K hK;rw[if_pos (by rfl)];go_simp;refine hK _ _ hS9 (fun _=>Ph.done (by kernel_rfl) ?_ _);clear hK K;go_wp2_with fail;go_ret;exact⟨rfl,T0.out.trans U9.out⟩
theorem sameWait_enter (args:Array Value) (w:World):(callFunc 63 args).run Tryz.prog w=.ok (.enter 63 args) w:=
 enter_run Tryz.func63 (by kernel_rfl) (by kernel_rfl) args w
theorem equalWaits_calls {w:World} {a1 a2:Option Addr} {c1 c2:Nat} {l m:List (Lay BrV)} (h1:Tl 2 brC w a1 c1 l) (h2:Tl 2 brC w a2 c2 m) (p1:∀x∈l,Ps w x.ao x.c x.v.puts) (p2:∀x∈m,Ps w x.ao x.c x.v.puts):
 Calls Tryz.prog 62 #[.slice a1 l.length c1,.slice a2 m.length c2,.func (.func 63) #[] #[]] w fun e w'=>e=.returned (.bool (decide (l.map Lay.v=m.map Lay.v)))∧Turn [] w w':=by
 have hlen1:=h1.len;have hlen2:=h2.len;by_cases hlm:l.length=m.length
 · have H1:=η h1;have H2:=η h2;have P1:=η p1;have P2:=η p2;rw[←hlm]at hlen2 ⊢;obtain⟨n,hn⟩:=ε l.length;have HN:=η hn;have HLM:=η hlm;rw[←hn]at hlen1 hlen2 ⊢;obtain⟨ans,ha⟩:=ε (decide (l.map Lay.v=m.map Lay.v));have HA:=η ha;rw[←ha];have EN:=sameWait_enter;clear h1 h2 hn hlm ha p1 p2;go_in;go_wp2_with fail;go_loopw [17] (fun vi wx=>∃k:Nat,k≤n∧vi=.int .i64 (k:Int)∧(∀i:Nat,i<k→(l[i]?).map Lay.v=(m[i]?).map Lay.v)∧Turn [] w wx) (fun vi _=>n-(intOf vi).toNat)
   case atStart=>exact⟨0,by omega,rfl,fun i hi=>by omega,Turn.refl _ _⟩
   case round=>
    obtain⟨k,hk,rfl,hall,ht⟩:=hrel;have HS:=η hall;have HT:=η ht;have HA1:=H1.out.still ht;have HA2:=H2.out.still ht;clear hall ht;by_cases hkn:k<n
    · have hkl:k<l.length:=by rw[←HN.out];exact hkn
      have hkm:k<m.length:=by rw[←HLM.out];exact hkl
      obtain⟨x,hx⟩:∃x,l[k]?=some x:=⟨_,List.getElem?_eq_getElem hkl⟩
      obtain⟨y,hy⟩:∃x,m[k]?=some x:=⟨_,List.getElem?_eq_getElem hkm⟩
      obtain⟨b1,o1,rfl,hat1⟩:=HA1.at hx;obtain⟨b2,o2,rfl,hat2⟩:=HA2.at hy;have hb:0≤(k:Int)∧(k:Int)<(n:Int):=by omega
      have HF:Hid (x.v≠y.v→ans=false):=η (fun h=>by
       rw[HA.out];refine decide_eq_false (fun e=>h ?_);have e2:=congrArg (fun q=>q[k]?) e;simp only[List.getElem?_map,hx,hy,Option.map_some]at e2
       exact Option.some.inj e2)
      have HS2:Hid (x.v=y.v→∀i:Nat,i<k+1→(l[i]?).map Lay.v=(m[i]?).map Lay.v):=η (fun h i hi=>by
       by_cases e:i=k
       · rw[e,hx,hy,Option.map_some,Option.map_some,h]
       · exact HS.out i (by omega))
      have CS:=η (fun wx (tt:Turn [] w wx)=>sameWait_calls x y ((P1.out x (List.mem_of_getElem? hx)).turn tt) ((P2.out y (List.mem_of_getElem? hy)).turn tt));obtain⟨r,hr⟩:=ε (decide (x.v=y.v));have HR:=η hr;rw[←hr]at CS;have q1_0:=hat1 0 (.int .i64 x.v.tid) rfl;have q1_1:=hat1 1 (.slice x.ao x.v.puts.length x.c) rfl;have q2_0:=hat2 0 (.int .i64 y.v.tid) rfl;have q2_1:=hat2 1 (.slice y.ao y.v.puts.length y.c) rfl;rw[Nat.add_zero]at q1_0 q2_0;obtain⟨tx,htx⟩:=ε x.v.tid;obtain⟨ty,hty⟩:=ε y.v.tid;obtain⟨nx,hnx⟩:=ε x.v.puts.length;obtain⟨ny,hny⟩:=ε y.v.puts.length;rw[←htx]at q1_0 CS;rw[←hty]at q2_0 CS;rw[←hnx]at q1_1 CS;rw[←hny]at q2_1 CS;have tb:=Turn.alloc [] wr (.cells #[.int .i64 tx,.slice x.ao nx x.c] 81);have q3_0:=tb.cell q2_0;have q3_1:=tb.cell q2_1;have TB:=η ((HT.out.trans tb).trans (Turn.alloc [] _ (.cells #[.int .i64 ty,.slice y.ao ny y.c] 81)));clear hat1 hat2 hx hy HS hr htx hty hnx hny HA1 HA2 tb;go_wp2_with fail;refine(CS.out _ TB.out).mono ?_;rintro e x1 ⟨rfl,t1⟩;have T1:=η (TB.out.trans t1);clear t1 CS q1_0 q1_1 q2_0 q2_1 q3_0 q3_1 TB;cases r with
      | false=>
       have HF2:=η (HF.out (of_decide_eq_false HR.out.symm));clear HS2 HF;go_wp2_with fail;go_ret;exact⟨ret_bool HF2.out.symm,T1.out⟩
      | true=>
       have HS3:=η (HS2.out (of_decide_eq_true HR.out.symm));clear HS2 HF;go_wp2_with fail;go_roundw
       case rel=>exact⟨k+1,by omega,by go_num,HS3.out,T1.out⟩
       case measure=>simp[intOf];omega
    · have hkk:k=n:=by omega
      have HF:Hid (ans=true):=η (by
       rw[HA.out];refine decide_eq_true (List.ext_getElem? fun i=>?_);rw[List.getElem?_map,List.getElem?_map];by_cases hi:i<k
       · exact HS.out i hi
       · rw[List.getElem?_eq_none (by rw[←HN.out];omega),List.getElem?_eq_none (by rw[←HLM.out,←HN.out];omega)])
      clear HS HA1 HA2;go_wp2_with fail;go_ret;exact⟨ret_bool HF.out.symm,HT.out⟩
 · have HF:Hid (decide (l.map Lay.v=m.map Lay.v)=false):=η (decide_eq_false (fun e=>hlm (by have:=congrArg List.length e;simpa using this)));have hne:((l.length:Int) != (m.length:Int))=true:=by simp;omega
   obtain⟨n,hn⟩:=ε l.length;obtain⟨n2,hn2⟩:=ε m.length;rw[HF.out];rw[←hn,←hn2]at hne;rw[←hn,←hn2];clear h1 h2 hlm hlen1 hlen2 hn hn2 p1 p2;go_in;go_wp2_with fail;go_ret;exact⟨rfl,Turn.refl _ _⟩
theorem samePend_enter (args:Array Value) (w:World):(callFunc 66 args).run Tryz.prog w=.ok (.enter 66 args) w:=
 enter_run Tryz.func66 (by kernel_rfl) (by kernel_rfl) args w
theorem equalPends_calls {w:World} {a1 a2:Option Addr} {c1 c2:Nat} {l m:List (Lay PendV)} (h1:Tl 2 pendC w a1 c1 l) (h2:Tl 2 pendC w a2 c2 m) (p1:∀x∈l,Il w x.ao x.c x.v.parts) (p2:∀x∈m,Il w x.ao x.c x.v.parts):
 Calls Tryz.prog 65 #[.slice a1 l.length c1,.slice a2 m.length c2,.func (.func 66) #[] #[]] w fun e w'=>e=.returned (.bool (decide (l.map Lay.v=m.map Lay.v)))∧Turn [] w w':=by
 have hlen1:=h1.len;have hlen2:=h2.len;by_cases hlm:l.length=m.length
 · have H1:=η h1;have H2:=η h2;have P1:=η p1;have P2:=η p2;rw[←hlm]at hlen2 ⊢;obtain⟨n,hn⟩:=ε l.length;have HN:=η hn;have HLM:=η hlm;rw[←hn]at hlen1 hlen2 ⊢;obtain⟨ans,ha⟩:=ε (decide (l.map Lay.v=m.map Lay.v));have HA:=η ha;rw[←ha];have EN:=samePend_enter;clear h1 h2 hn hlm ha p1 p2;go_in;go_wp2_with fail;go_loopw [17] (fun vi wx=>∃k:Nat,k≤n∧vi=.int .i64 (k:Int)∧(∀i:Nat,i<k→(l[i]?).map Lay.v=(m[i]?).map Lay.v)∧Turn [] w wx) (fun vi _=>n-(intOf vi).toNat)
   case atStart=>exact⟨0,by omega,rfl,fun i hi=>by omega,Turn.refl _ _⟩
   case round=>
    obtain⟨k,hk,rfl,hall,ht⟩:=hrel;have HS:=η hall;have HT:=η ht;have HA1:=H1.out.still ht;have HA2:=H2.out.still ht;clear hall ht;by_cases hkn:k<n
    · have hkl:k<l.length:=by rw[←HN.out];exact hkn
      have hkm:k<m.length:=by rw[←HLM.out];exact hkl
      obtain⟨x,hx⟩:∃x,l[k]?=some x:=⟨_,List.getElem?_eq_getElem hkl⟩
      obtain⟨y,hy⟩:∃x,m[k]?=some x:=⟨_,List.getElem?_eq_getElem hkm⟩
      obtain⟨b1,o1,rfl,hat1⟩:=HA1.at hx;obtain⟨b2,o2,rfl,hat2⟩:=HA2.at hy;have hb:0≤(k:Int)∧(k:Int)<(n:Int):=by omega
      have HF:Hid (x.v≠y.v→ans=false):=η (fun h=>by
       rw[HA.out];refine decide_eq_false (fun e=>h ?_);have e2:=congrArg (fun q=>q[k]?) e;simp only[List.getElem?_map,hx,hy,Option.map_some]at e2
       exact Option.some.inj e2)
      have HS2:Hid (x.v=y.v→∀i:Nat,i<k+1→(l[i]?).map Lay.v=(m[i]?).map Lay.v):=η (fun h i hi=>by
       by_cases e:i=k
       · rw[e,hx,hy,Option.map_some,Option.map_some,h]
       · exact HS.out i (by omega))
      have CS:=η (fun wx (tt:Turn [] w wx)=>samePend_calls x y ((P1.out x (List.mem_of_getElem? hx)).turn tt) ((P2.out y (List.mem_of_getElem? hy)).turn tt));obtain⟨r,hr⟩:=ε (decide (x.v=y.v));have HR:=η hr;rw[←hr]at CS;have q1_0:=hat1 0 (.int .i64 x.v.tid) rfl;have q1_1:=hat1 1 (.slice x.ao x.v.parts.length x.c) rfl;have q2_0:=hat2 0 (.int .i64 y.v.tid) rfl;have q2_1:=hat2 1 (.slice y.ao y.v.parts.length y.c) rfl;rw[Nat.add_zero]at q1_0 q2_0;obtain⟨tx,htx⟩:=ε x.v.tid;obtain⟨ty,hty⟩:=ε y.v.tid;obtain⟨nx,hnx⟩:=ε x.v.parts.length;obtain⟨ny,hny⟩:=ε y.v.parts.length;rw[←htx]at q1_0 CS;rw[←hty]at q2_0 CS;rw[←hnx]at q1_1 CS;rw[←hny]at q2_1 CS;have tb:=Turn.alloc [] wr (.cells #[.int .i64 tx,.slice x.ao nx x.c] 65);have q3_0:=tb.cell q2_0;have q3_1:=tb.cell q2_1;have TB:=η ((HT.out.trans tb).trans (Turn.alloc [] _ (.cells #[.int .i64 ty,.slice y.ao ny y.c] 65)));clear hat1 hat2 hx hy HS hr htx hty hnx hny HA1 HA2 tb;go_wp2_with fail;refine(CS.out _ TB.out).mono ?_;rintro e x1 ⟨rfl,t1⟩;have T1:=η (TB.out.trans t1);clear t1 CS q1_0 q1_1 q2_0 q2_1 q3_0 q3_1 TB;cases r with
      | false=>
       have HF2:=η (HF.out (of_decide_eq_false HR.out.symm));clear HS2 HF;go_wp2_with fail;go_ret;exact⟨ret_bool HF2.out.symm,T1.out⟩
      | true=>
       have HS3:=η (HS2.out (of_decide_eq_true HR.out.symm));clear HS2 HF;go_wp2_with fail;go_roundw
       case rel=>exact⟨k+1,by omega,by go_num,HS3.out,T1.out⟩
       case measure=>simp[intOf];omega
    · have hkk:k=n:=by omega
      have HF:Hid (ans=true):=η (by
       rw[HA.out];refine decide_eq_true (List.ext_getElem? fun i=>?_);rw[List.getElem?_map,List.getElem?_map];by_cases hi:i<k
       · exact HS.out i hi
       · rw[List.getElem?_eq_none (by rw[←HN.out];omega),List.getElem?_eq_none (by rw[←HLM.out,←HN.out];omega)])
      clear HS HA1 HA2;go_wp2_with fail;go_ret;exact⟨ret_bool HF.out.symm,HT.out⟩
 · have HF:Hid (decide (l.map Lay.v=m.map Lay.v)=false):=η (decide_eq_false (fun e=>hlm (by have:=congrArg List.length e;simpa using this)));have hne:((l.length:Int) != (m.length:Int))=true:=by simp;omega
   obtain⟨n,hn⟩:=ε l.length;obtain⟨n2,hn2⟩:=ε m.length;rw[HF.out];rw[←hn,←hn2]at hne;rw[←hn,←hn2];clear h1 h2 hlm hlen1 hlen2 hn hn2 p1 p2;go_in;go_wp2_with fail;go_ret;exact⟨rfl,Turn.refl _ _⟩
end Go.Proofs.YtkjpjfghklgdhaaGreat
