/-
  Rpd
-/
import Derived.Test.YtkjpjfghklgdhaaGreatRmv
set_option maxHeartbeats 4000000
set_option maxRecDepth 100000
namespace Go.Proofs.YtkjpjfghklgdhaaGreat
open Go.RowKit Go.Proofs.YtkjpjfghklgdhaaGreat.V
theorem two_new (w:World) (x y:Value) (t:TypeId):(w.alloc (.cells #[x,y] t)).cell? ⟨w.heap.size,0,none⟩=some x∧(w.alloc (.cells #[x,y] t)).cell? ⟨w.heap.size,1,none⟩=some y:=by
 have h:(w.alloc (.cells #[x,y] t)).heap[w.heap.size]?=some (.cells #[x,y] t):=heap_alloc_new w _;constructor<;>rw[cell_of_row _ _ _ _ _ _ h]<;>rfl
theorem refPends_calls {w:World} {a:Ads} {s:StV} {ao:Option Addr} {c:Nat} {l:List PendV} (h:Pds w ao c l):Calls Tryz.prog 59 #[.agg (s.cells a),.slice ao l.length c] w fun e w'=>e=.returned (.bool (pendsB s l))∧Turn [] w w':=by
 obtain⟨ans,ha⟩:=ε (pendsB s l);have HA:Hid (ans=chkAll PendV.tid (pdF s) l):=η ha;rw[←ha];have hlen:=h.len;obtain⟨LA,hLA,hTA,hIA⟩:=h;have H:=η hTA;have HI:=η hIA;have HLA:=η hLA;have T0:=η (Turn.alloc [] w (.cells (s.cells a) 27));have U0:=η (Turn.refl [] (w.alloc (.cells (s.cells a) 27)));have BX:=η (fun wx (t:Turn [] (w.alloc (.cells (s.cells a) 27)) wx)=>s.boxed a t);clear ha hLA hTA hIA;unfold StV.cells at*;obtain⟨xb,hxb⟩:=ε (w.alloc (.cells #[.int .i64 s.broker,.int .i64 s.nextId,.int .i64 s.nextSeq,.int .i64 s.tx,.slice a.m s.ms.length a.cm,.slice a.w s.waits.length a.cw,.slice a.e s.ends.length a.ce,.slice a.o s.open_.length a.co,.slice a.n s.noes.length a.cn] 27));rw[←hxb]at T0 U0 BX;have HXB:=η hxb;obtain⟨n,hn⟩:=ε l.length;have HN:Hid (n=l.length∧n=LA.length):=η ⟨hn,by rw[hn,←HLA.out,List.length_map]⟩;rw[←hn]at hlen ⊢;clear hn hxb;go_in;go_upto_region 2 with fail
 rw[←HXB.out];clear HXB;go_loopw [5,6] (fun vi v6 wx=>∃(k:Nat) (u6:Value),u6=v6∧k≤n∧vi=.int .i64 (k:Int)∧(∀j,j<k→chk PendV.tid (pdF s) l j=true)∧Turn [] xb wx) (fun vi _ _=>n-(intOf vi).toNat)
 case atStart=>exact⟨0,_,rfl,by omega,rfl,fun j hj=>by omega,U0.out⟩
 case round=>
  obtain⟨k,u6,rfl,hk,rfl,hall,ht⟩:=hrel;have HT:=η ht;have HL:=η hall;clear ht hall;by_cases hkn:k<n
  · obtain⟨x,hx⟩:∃x,LA[k]?=some x:=⟨_,List.getElem?_eq_getElem (by rw[←HN.out.2];exact hkn)⟩
    have hlx:l[k]?=some x.v:=by rw[←HLA.out,List.getElem?_map,hx];rfl
    obtain⟨g1,o1,rfl,hat⟩:=(H.out.still (T0.out.trans HT.out)).at hx;have r0:=hat 0 (.int .i64 x.v.tid) rfl;have r1:=hat 1 (.slice x.ao x.v.parts.length x.c) rfl;rw[Nat.add_zero]at r0;have hb:0≤(k:Int)∧(k:Int)<(n:Int):=by omega
    have HNX:Hid (chk PendV.tid (pdF s) l k=true→∀j,j<k+1→chk PendV.tid (pdF s) l j=true):=η (fun e=>chk_next e HL.out);have HNF:Hid (chk PendV.tid (pdF s) l k=false→ans=false):=η (fun e=>by rw[HA.out];exact chkAll_false (by rw[←HN.out.1];exact hkn) e);have II:=η (HI.out x (List.mem_of_getElem? hx));obtain⟨tt,htt⟩:=ε x.v.tid;obtain⟨np,hnp⟩:=ε x.v.parts.length;obtain⟨hz,hhz⟩:=ε (homeZ tt);obtain⟨rb,hrb⟩:=ε (risingB x.v.parts);obtain⟨mb,hmb⟩:=ε (decide (s.broker∈x.v.parts));have HPD:Hid (∀j,pdF s j x.v=(decide (hz=s.broker)&&(decide (0<np)&&(rb&&!mb)))):=η (fun j=>by unfold pdF;rw[←htt,←hhz,←hnp,←hrb,←hmb])
    have HPV:Hid (∀i,k=i+1→∃q:Int,wr.cell? ⟨g1,o1+i*2,none⟩=some (.int .i64 q)∧chk PendV.tid (pdF s) l k=(pdF s k x.v&&decide (q<tt))):=η (fun i e=>by
     subst e;obtain⟨z,hz⟩:∃z,LA[i]?=some z:=⟨_,List.getElem?_eq_getElem (by have:=HN.out.2;omega)⟩
     have hlz:l[i]?=some z.v:=by rw[←HLA.out,List.getElem?_map,hz];rfl
     obtain⟨g2,o2,e2,hat2⟩:=(H.out.still (T0.out.trans HT.out)).at hz;injection e2 with e2
     injection e2 with e3 e4 _
     subst e3 e4;have q0:=hat2 0 (.int .i64 z.v.tid) rfl;rw[Nat.add_zero]at q0
     exact⟨z.v.tid,q0,by rw[chk_succ hlx hlz,←htt]⟩)
    have HZ0:Hid (k=0→chk PendV.tid (pdF s) l k=pdF s k x.v):=η (fun e=>by subst e;exact chk_zero hlx);have C1:=η (fun wx=>refHome_calls tt wx);have C2:=η (fun wx (q:Turn [] w wx)=>refRising_calls (II.out.turn q));have C3:=η (fun wx (q:Turn [] w wx)=>refHas_calls s.broker (II.out.turn q));rw[←hhz]at C1;rw[←hnp,←hrb]at C2;rw[←hnp,←hmb]at C3;rw[←htt]at r0;rw[←hnp]at r1;have hnpl:(np:Int)≤9223372036854775807:=by rw[hnp];exact II.out.len
    clear hx hlx hat htt hnp hhz hrb hmb II HL;go_upto_region 5 with fail
    have TY:=η (Turn.alloc [] wr (.cells #[.int .i64 tt,.slice x.ao np x.c] 65));obtain⟨p0,p1⟩:=two_new wr (.int .i64 tt) (.slice x.ao np x.c) 65;obtain⟨b0,b1,b2,b3,b4,b5,b6,b7,b8⟩:=BX.out _ (HT.out.trans TY.out);have HQ:=η (fun(i:Nat) (q:Int) (hq:wr.cell? ⟨g1,o1+i*2,none⟩=some (.int .i64 q))=>TY.out.cell hq);have HC2:=η (fun nq=>C2.out _ ((T0.out.trans (HT.out.trans TY.out)).trans (Turn.drewN [] _ nq)));have HC3:=η (fun nq=>C3.out _ ((T0.out.trans (HT.out.trans TY.out)).trans (Turn.drewN [] _ nq)));have TT:=η (HT.out.trans TY.out);clear C2 C3 r0 r1 b1 b2 b3 b4 b5 b6 b7 b8;generalize wr.alloc (.cells #[.int .i64 tt,.slice x.ao np x.c] 65)=y at*;clear TY;rcases k with _ | k
    · have HZ:=η (HZ0.out rfl);clear HZ0 HPV HQ;by_cases h1:hz=s.broker
      · have n1:(hz != s.broker)=false:=by simpa using h1
        by_cases h3:0<np
        · have n3:¬((np:Int)<1):=by omega
          cases rb with
          | false=>
           have HF:=η (HNF.out (by rw[HZ.out,HPD.out];simp));clear HNX HNF HPD;go_quiet (first | (go_at_call 53;exact(C1.out _).mono fun _ _ h=>⟨h.1,_,h.2.symm⟩) | (go_at_call 86;exact(HC2.out _).mono fun _ _ h=>⟨h.1,_,h.2.choose_spec.trans (World.drewN_drewN _ _ _)⟩) | (go_at_call 77;exact(HC3.out _).mono fun _ _ h=>⟨h.1,_,h.2.symm⟩));go_wp2_with fail;go_ret;exact⟨ret_bool HF.out.symm,T0.out.trans (TT.out.trans (Turn.drewN [] _ _))⟩
          | true=>
           cases mb with
           | true=>
            have HF:=η (HNF.out (by rw[HZ.out,HPD.out];simp));clear HNX HNF HPD;go_quiet (first | (go_at_call 53;exact(C1.out _).mono fun _ _ h=>⟨h.1,_,h.2.symm⟩) | (go_at_call 86;exact(HC2.out _).mono fun _ _ h=>⟨h.1,_,h.2.choose_spec.trans (World.drewN_drewN _ _ _)⟩) | (go_at_call 77;exact(HC3.out _).mono fun _ _ h=>⟨h.1,_,h.2.symm⟩));go_wp2_with fail;go_ret;exact⟨ret_bool HF.out.symm,T0.out.trans (TT.out.trans (Turn.drewN [] _ _))⟩
           | false=>
            have HX:=η (HNX.out (by rw[HZ.out,HPD.out];simp[h3,h1]));clear HNX HNF HPD;go_quiet (first | (go_at_call 53;exact(C1.out _).mono fun _ _ h=>⟨h.1,_,h.2.symm⟩) | (go_at_call 86;exact(HC2.out _).mono fun _ _ h=>⟨h.1,_,h.2.choose_spec.trans (World.drewN_drewN _ _ _)⟩) | (go_at_call 77;exact(HC3.out _).mono fun _ _ h=>⟨h.1,_,h.2.symm⟩));go_wp2_with fail;go_roundw
            case rel=>exact⟨_+1,_,rfl,by omega,by go_num,HX.out,TT.out.trans (Turn.drewN [] _ _)⟩
            case measure=>simp[intOf];omega
        · have n3:(np:Int)<1:=by omega
          have HF:=η (HNF.out (by rw[HZ.out,HPD.out];simp[h3]));clear HNX HNF HPD;go_quiet (first | (go_at_call 53;exact(C1.out _).mono fun _ _ h=>⟨h.1,_,h.2.symm⟩) | (go_at_call 86;exact(HC2.out _).mono fun _ _ h=>⟨h.1,_,h.2.choose_spec.trans (World.drewN_drewN _ _ _)⟩) | (go_at_call 77;exact(HC3.out _).mono fun _ _ h=>⟨h.1,_,h.2.symm⟩));go_wp2_with fail;go_ret;exact⟨ret_bool HF.out.symm,T0.out.trans (TT.out.trans (Turn.drewN [] _ _))⟩
      · have n1:(hz != s.broker)=true:=by simpa using h1
        have HF:=η (HNF.out (by rw[HZ.out,HPD.out];simp[h1]));clear HNX HNF HPD;go_quiet (first | (go_at_call 53;exact(C1.out _).mono fun _ _ h=>⟨h.1,_,h.2.symm⟩) | (go_at_call 86;exact(HC2.out _).mono fun _ _ h=>⟨h.1,_,h.2.choose_spec.trans (World.drewN_drewN _ _ _)⟩) | (go_at_call 77;exact(HC3.out _).mono fun _ _ h=>⟨h.1,_,h.2.symm⟩));go_wp2_with fail;go_ret;exact⟨ret_bool HF.out.symm,T0.out.trans (TT.out.trans (Turn.drewN [] _ _))⟩
    · obtain⟨zq,hq,hcq⟩:=HPV.out k rfl;have q0:=HQ.out _ _ hq;have HZ:=η hcq;have hkb:((k:Int)+1).toNat=k+1:=by omega
      have hkw:IntKind.i64.wrap (k:Int)=(k:Int):=by rw[IntKind.wrap_i64];omega
      have hk2:0≤(k:Int)+1∧(k:Int)+1<(n:Int):=by omega
      have hk3:0≤(k:Int)∧(k:Int)<(n:Int):=by omega
      have hk4:(0:Int)<(k:Int)+1:=by omega
      clear HZ0 HPV HQ hq hcq;by_cases h1:hz=s.broker
      · have n1:(hz != s.broker)=false:=by simpa using h1
        by_cases h2:zq<tt
        · have n2:¬tt≤zq:=by omega
          by_cases h3:0<np
          · have n3:¬((np:Int)<1):=by omega
            cases rb with
            | false=>
             have HF:=η (HNF.out (by rw[HZ.out,HPD.out];simp));clear HNX HNF HPD;go_quiet (first | (go_at_call 53;exact(C1.out _).mono fun _ _ h=>⟨h.1,_,h.2.symm⟩) | (go_at_call 86;exact(HC2.out _).mono fun _ _ h=>⟨h.1,_,h.2.choose_spec.trans (World.drewN_drewN _ _ _)⟩) | (go_at_call 77;exact(HC3.out _).mono fun _ _ h=>⟨h.1,_,h.2.symm⟩));go_wp2_with fail;go_ret;exact⟨ret_bool HF.out.symm,T0.out.trans (TT.out.trans (Turn.drewN [] _ _))⟩
            | true=>
             cases mb with
             | true=>
              have HF:=η (HNF.out (by rw[HZ.out,HPD.out];simp));clear HNX HNF HPD;go_quiet (first | (go_at_call 53;exact(C1.out _).mono fun _ _ h=>⟨h.1,_,h.2.symm⟩) | (go_at_call 86;exact(HC2.out _).mono fun _ _ h=>⟨h.1,_,h.2.choose_spec.trans (World.drewN_drewN _ _ _)⟩) | (go_at_call 77;exact(HC3.out _).mono fun _ _ h=>⟨h.1,_,h.2.symm⟩));go_wp2_with fail;go_ret;exact⟨ret_bool HF.out.symm,T0.out.trans (TT.out.trans (Turn.drewN [] _ _))⟩
             | false=>
              have HX:=η (HNX.out (by rw[HZ.out,HPD.out];simp[h3,h1,h2]));clear HNX HNF HPD;go_quiet (first | (go_at_call 53;exact(C1.out _).mono fun _ _ h=>⟨h.1,_,h.2.symm⟩) | (go_at_call 86;exact(HC2.out _).mono fun _ _ h=>⟨h.1,_,h.2.choose_spec.trans (World.drewN_drewN _ _ _)⟩) | (go_at_call 77;exact(HC3.out _).mono fun _ _ h=>⟨h.1,_,h.2.symm⟩));go_wp2_with fail;go_roundw
              case rel=>exact⟨_+1,_,rfl,by omega,by go_num,HX.out,TT.out.trans (Turn.drewN [] _ _)⟩
              case measure=>simp[intOf];omega
          · have n3:(np:Int)<1:=by omega
            have HF:=η (HNF.out (by rw[HZ.out,HPD.out];simp[h3]));clear HNX HNF HPD;go_quiet (first | (go_at_call 53;exact(C1.out _).mono fun _ _ h=>⟨h.1,_,h.2.symm⟩) | (go_at_call 86;exact(HC2.out _).mono fun _ _ h=>⟨h.1,_,h.2.choose_spec.trans (World.drewN_drewN _ _ _)⟩) | (go_at_call 77;exact(HC3.out _).mono fun _ _ h=>⟨h.1,_,h.2.symm⟩));go_wp2_with fail;go_ret;exact⟨ret_bool HF.out.symm,T0.out.trans (TT.out.trans (Turn.drewN [] _ _))⟩
        · have n2:tt≤zq:=by omega
          have HF:=η (HNF.out (by rw[HZ.out];simp[h2]));clear HNX HNF HPD;go_quiet (first | (go_at_call 53;exact(C1.out _).mono fun _ _ h=>⟨h.1,_,h.2.symm⟩) | (go_at_call 86;exact(HC2.out _).mono fun _ _ h=>⟨h.1,_,h.2.choose_spec.trans (World.drewN_drewN _ _ _)⟩) | (go_at_call 77;exact(HC3.out _).mono fun _ _ h=>⟨h.1,_,h.2.symm⟩));go_wp2_with fail;go_ret;exact⟨ret_bool HF.out.symm,T0.out.trans (TT.out.trans (Turn.drewN [] _ _))⟩
      · have n1:(hz != s.broker)=true:=by simpa using h1
        have HF:=η (HNF.out (by rw[HZ.out,HPD.out];simp[h1]));clear HNX HNF HPD;go_quiet (first | (go_at_call 53;exact(C1.out _).mono fun _ _ h=>⟨h.1,_,h.2.symm⟩) | (go_at_call 86;exact(HC2.out _).mono fun _ _ h=>⟨h.1,_,h.2.choose_spec.trans (World.drewN_drewN _ _ _)⟩) | (go_at_call 77;exact(HC3.out _).mono fun _ _ h=>⟨h.1,_,h.2.symm⟩));go_wp2_with fail;go_ret;exact⟨ret_bool HF.out.symm,T0.out.trans (TT.out.trans (Turn.drewN [] _ _))⟩
  · have hkk:k=n:=by omega
    have HF:Hid (ans=true):=η (by rw[HA.out];exact chkAll_true (n:=k) (by rw[hkk];exact HN.out.1) HL.out);go_wp2_with fail;go_ret;exact⟨ret_bool HF.out.symm,T0.out.trans HT.out⟩
end Go.Proofs.YtkjpjfghklgdhaaGreat
