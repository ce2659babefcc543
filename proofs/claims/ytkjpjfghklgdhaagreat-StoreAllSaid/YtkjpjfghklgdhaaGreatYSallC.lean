/-
  The reference's Eq and New; a slice of records; states that may be stay so.
-/
import Derived.Test.YtkjpjfghklgdhaaGreatYSallA

set_option maxHeartbeats 4000000
set_option maxRecDepth 100000
namespace Go.Proofs.YtkjpjfghklgdhaaGreat
open Go.RowKit Go.Proofs.YtkjpjfghklgdhaaGreat.V
theorem getD_ext {α:Type} {d:α}:∀{l m:List α},l.length=m.length→(∀j,j<l.length→l.getD j d=m.getD j d)→l=m:=fun {l m} h1 h2=>by
 apply List.ext_getElem h1;intro i hi hj;have:=h2 i hi;simpa[List.getD,hi,hj]using this
theorem refEqMessage_calls (m x:MsgV) (w:World):Calls Tryz.prog 68 #[.agg (msgC m).toArray,.agg (msgC x).toArray] w fun e w'=>e=.returned (.bool (eqMsgB m x))∧Turn [] w w':=by
 obtain⟨a0,a1,a2,a3,a4,a5⟩:=m;obtain⟨b0,b1,b2,b3,b4,b5⟩:=x;obtain⟨ans,ha⟩:=ε (eqMsgB ⟨a0,a1,a2,a3,a4,a5⟩ ⟨b0,b1,b2,b3,b4,b5⟩);have HA:Hid (ans=(decide (a0=b0)&&(decide (a1=b1)&&(decide (a2=b2)&&(decide (a3=b3)&&(decide (a4=b4)&&decide (a5=b5))))))):=η ha;rw[←ha];have T0:=η ((Turn.alloc [] w (.cells #[.int .i64 a0,.string a1,.string a2,.int .i64 a3,.int .i64 a4,.int .i64 a5] 49)).trans (Turn.alloc [] _ (.cells #[.int .i64 b0,.string b1,.string b2,.int .i64 b3,.int .i64 b4,.int .i64 b5] 49)));rw[show(msgC ⟨a0,a1,a2,a3,a4,a5⟩).toArray=#[.int .i64 a0,.string a1,.string a2,.int .i64 a3,.int .i64 a4,.int .i64 a5] from rfl,show(msgC ⟨b0,b1,b2,b3,b4,b5⟩).toArray=#[.int .i64 b0,.string b1,.string b2,.int .i64 b3,.int .i64 b4,.int .i64 b5] from rfl];clear ha;go_in;by_cases h0:a0=b0
 case neg=>
  have n0:(a0==b0)=false:=by simpa using h0
  have HF:Hid (ans=false):=η (by rw[HA.out];simp[h0]);clear HA h0;go_wp2_with fail;go_ret;exact⟨ret_bool HF.out.symm,T0.out⟩
 subst h0;by_cases h1:a1=b1
 case neg=>
  have n1:=txt_ne h1;have HF:Hid (ans=false):=η (by rw[HA.out];simp[h1]);clear HA h1;go_wp2_with fail;go_ret;exact⟨ret_bool HF.out.symm,T0.out⟩
 subst h1;by_cases h2:a2=b2
 case neg=>
  have n2:=txt_ne h2;have HF:Hid (ans=false):=η (by rw[HA.out];simp[h2]);clear HA h2;go_wp2_with fail;go_ret;exact⟨ret_bool HF.out.symm,T0.out⟩
 subst h2;by_cases h3:a3=b3
 case neg=>
  have n3:(a3==b3)=false:=by simpa using h3
  have HF:Hid (ans=false):=η (by rw[HA.out];simp[h3]);clear HA h3;go_wp2_with fail;go_ret;exact⟨ret_bool HF.out.symm,T0.out⟩
 subst h3;by_cases h4:a4=b4
 case neg=>
  have n4:(a4==b4)=false:=by simpa using h4
  have HF:Hid (ans=false):=η (by rw[HA.out];simp[h4]);clear HA h4;go_wp2_with fail;go_ret;exact⟨ret_bool HF.out.symm,T0.out⟩
 subst h4;by_cases h5:a5=b5
 case neg=>
  have n5:(a5==b5)=false:=by simpa using h5
  have HF:Hid (ans=false):=η (by rw[HA.out];simp[h5]);clear HA h5;go_wp2_with fail;go_ret;exact⟨ret_bool HF.out.symm,T0.out⟩
 subst h5;have HF:Hid (ans=true):=η (by rw[HA.out];simp);clear HA;go_wp2_with fail;go_ret;exact⟨ret_bool (by rw[HF.out]),T0.out⟩
theorem refEqInts_calls {w:World} {ao bo:Option Addr} {c d:Nat} {l m:List Int} (h:Il w ao c l) (g:Il w bo d m):Calls Tryz.prog 129 #[.slice ao l.length c,.slice bo m.length d] w fun e w'=>e=.returned (.bool (decide (l=m)))∧Turn [] w w':=by
 have hlen:=h.len;have glen:=g.len;have H:=η h;have G:=η g;obtain⟨ans,ha⟩:=ε (decide (l=m));have HA:=η ha;rw[←ha];clear h g ha;go_in;by_cases hl:l.length=m.length
 case neg=>
  have n0:((l.length:Int) != (m.length:Int))=true:=by simp;omega
  have n1:(l.length==m.length)=false:=by simpa using hl
  have HF:Hid (ans=false):=η (by rw[HA.out];exact decide_eq_false (fun e=>hl (by rw[e])));clear HA;go_wp2_with fail;go_ret;exact⟨ret_bool HF.out.symm,Turn.refl _ _⟩
 obtain⟨n,hn⟩:=ε l.length;have HN:Hid (n=l.length∧n=m.length):=η ⟨hn,by rw[hn,hl]⟩;rw[←hl,←hn];rw[←hn]at hlen;clear hl hn glen;go_wp2_with fail;go_loopw [5] (fun vi wx=>∃k:Nat,k≤n∧vi=.int .i64 (k:Int)∧(∀j,j<k→l.getD j 0=m.getD j 0)∧Turn [] w wx) (fun vi _=>n-(intOf vi).toNat)
 case atStart=>exact⟨0,by omega,rfl,fun j hj=>by omega,Turn.refl _ _⟩
 case round=>
  obtain⟨k,hk,rfl,hall,ht⟩:=hrel;have HT:=η ht;have HL:=η hall;clear ht hall;by_cases hkn:k<n
  · obtain⟨gb,off,rfl,-,hat⟩:=(H.out.turn HT.out).at (by intro e;have:=HN.out.1;rw[e]at this;simp at this;omega);obtain⟨gb2,off2,rfl,-,hat2⟩:=(G.out.turn HT.out).at (by intro e;have:=HN.out.2;rw[e]at this;simp at this;omega);have q1:=hat k (by rw[←HN.out.1];exact hkn);have q2:=hat2 k (by rw[←HN.out.2];exact hkn);have hb:0≤(k:Int)∧(k:Int)<(n:Int):=by omega
    clear hat hat2;by_cases hxy:l.getD k 0=m.getD k 0
    · have HX:Hid (∀j,j<k+1→l.getD j 0=m.getD j 0):=η (fun j hj=>by
       by_cases e:j=k
       · rw[e];exact hxy
       · exact HL.out j (by omega))
      rw[←hxy]at q2;obtain⟨y,hy⟩:=ε (l.getD k 0);rw[←hy]at q1 q2;clear hxy hy HL;go_wp2_with fail;go_quiet (fail);go_wp2_with fail;go_roundw
      case rel=>exact⟨k+1,by omega,by go_num,HX.out,HT.out.trans (Turn.drewN [] _ _)⟩
      case measure=>simp[intOf];omega
    · have HF:Hid (ans=false):=η (by rw[HA.out];exact decide_eq_false (fun e=>hxy (by rw[e])));obtain⟨y,hy⟩:=ε (l.getD k 0);obtain⟨z,hz⟩:=ε (m.getD k 0);rw[←hy]at q1 hxy;rw[←hz]at q2 hxy;have hne:(y==z)=false:=by simpa using hxy
      have hne2:(y != z)=true:=by simpa using hxy
      clear hy hz hxy HL;go_wp2_with fail;go_quiet (fail);go_wp2_with fail;go_ret;exact⟨ret_bool HF.out.symm,HT.out.trans (Turn.drewN [] _ _)⟩
  · have hkk:k=n:=by omega
    have HF:Hid (ans=true):=η (by
     rw[HA.out]
     exact decide_eq_true (getD_ext (d:=0) (by rw[←HN.out.1,←HN.out.2]) (fun j hj=>HL.out j (by rw[hkk,HN.out.1];exact hj))))
    clear HL;go_wp2_with fail;go_ret;exact⟨ret_bool HF.out.symm,HT.out⟩
theorem refEqPuts_calls {w:World} {ao bo:Option Addr} {c d:Nat} {l m:List (ByteArray×ByteArray)} (h:Ps w ao c l) (g:Ps w bo d m):Calls Tryz.prog 69 #[.slice ao l.length c,.slice bo m.length d] w fun e w'=>e=.returned (.bool (decide (l=m)))∧Turn [] w w':=by
 have hlen:=h.len;have glen:=g.len;have H:=η h;have G:=η g;obtain⟨ans,ha⟩:=ε (decide (l=m));have HA:=η ha;rw[←ha];clear h g ha;go_in;by_cases hl:l.length=m.length
 case neg=>
  have n0:((l.length:Int) != (m.length:Int))=true:=by simp;omega
  have n1:(l.length==m.length)=false:=by simpa using hl
  have HF:Hid (ans=false):=η (by rw[HA.out];exact decide_eq_false (fun e=>hl (by rw[e])));clear HA;go_wp2_with fail;go_ret;exact⟨ret_bool HF.out.symm,Turn.refl _ _⟩
 obtain⟨n,hn⟩:=ε l.length;have HN:Hid (n=l.length∧n=m.length):=η ⟨hn,by rw[hn,hl]⟩;rw[←hl,←hn];rw[←hn]at hlen;clear hl hn glen;go_wp2_with fail;go_loopw [5] (fun vi wx=>∃k:Nat,k≤n∧vi=.int .i64 (k:Int)∧(∀j,j<k→l.getD j putNone=m.getD j putNone)∧Turn [] w wx) (fun vi _=>n-(intOf vi).toNat)
 case atStart=>exact⟨0,by omega,rfl,fun j hj=>by omega,Turn.refl _ _⟩
 case round=>
  obtain⟨k,hk,rfl,hall,ht⟩:=hrel;have HT:=η ht;have HL:=η hall;clear ht hall;by_cases hkn:k<n
  · obtain⟨gb,off,rfl,-,hat⟩:=(H.out.turn HT.out).at (by intro e;have:=HN.out.1;rw[e]at this;simp at this;omega);obtain⟨gb2,off2,rfl,-,hat2⟩:=(G.out.turn HT.out).at (by intro e;have:=HN.out.2;rw[e]at this;simp at this;omega);obtain⟨q1,q2,-,-⟩:=hat k (by rw[←HN.out.1];exact hkn);obtain⟨p1,p2,-,-⟩:=hat2 k (by rw[←HN.out.2];exact hkn);have hb:0≤(k:Int)∧(k:Int)<(n:Int):=by omega
    obtain⟨x,hx⟩:=ε (l.getD k putNone);obtain⟨z,hz⟩:=ε (m.getD k putNone);rw[←hx]at q1 q2;rw[←hz]at p1 p2
    have HXZ:Hid (x=z→∀j,j<k+1→l.getD j putNone=m.getD j putNone):=η (fun hxz j hj=>by
     by_cases e:j=k
     · rw[e,←hx,←hz];exact hxz
     · exact HL.out j (by omega))
    have HNF:Hid (x≠z→ans=false):=η (fun hne=>by rw[HA.out];exact decide_eq_false (fun e=>hne (by rw[hx,hz,e])));clear hat hat2 hx hz HL;obtain⟨x1,x2⟩:=x;obtain⟨z1,z2⟩:=z;dsimp only at q1 q2 p1 p2;by_cases h1:x1=z1
    · subst h1;by_cases h2:x2=z2
      · subst h2;have HX:=η (HXZ.out rfl);clear HXZ HNF;go_wp2_with fail;go_quiet (fail);go_wp2_with fail;go_roundw
        case rel=>exact⟨k+1,by omega,by go_num,HX.out,HT.out.trans (Turn.drewN [] _ _)⟩
        case measure=>simp[intOf];omega
      · have HF:=η (HNF.out (by simp[h2]));have n2:=txt_ne h2;clear HXZ HNF h2;go_wp2_with fail;go_quiet (fail);go_wp2_with fail;go_ret;exact⟨ret_bool HF.out.symm,HT.out.trans (Turn.drewN [] _ _)⟩
    · have HF:=η (HNF.out (by simp[h1]));have n1:=txt_ne h1;clear HXZ HNF h1;go_wp2_with fail;go_quiet (fail);go_wp2_with fail;go_ret;exact⟨ret_bool HF.out.symm,HT.out.trans (Turn.drewN [] _ _)⟩
  · have hkk:k=n:=by omega
    have HF:Hid (ans=true):=η (by
     rw[HA.out]
     exact decide_eq_true (getD_ext (d:=putNone) (by rw[←HN.out.1,←HN.out.2]) (fun j hj=>HL.out j (by rw[hkk,HN.out.1];exact hj))))
    clear HL;go_wp2_with fail;go_ret;exact⟨ret_bool HF.out.symm,HT.out⟩
end Go.Proofs.YtkjpjfghklgdhaaGreat

set_option maxHeartbeats 4000000
set_option maxRecDepth 100000
namespace Go.Proofs.YtkjpjfghklgdhaaGreat
open Go.RowKit Go.Proofs.YtkjpjfghklgdhaaGreat.V
theorem refEqPends_calls {w:World} {ao bo:Option Addr} {c d:Nat} {l m:List PendV} (h:Pds w ao c l) (g:Pds w bo d m):Calls Tryz.prog 67 #[.slice ao l.length c,.slice bo m.length d] w fun e w'=>e=.returned (.bool (decide (l=m)))∧Turn [] w w':=by
 have hlen:=h.len;have glen:=g.len;obtain⟨LA,hLA,hTA,hIA⟩:=h;obtain⟨LB,hLB,hTB,hIB⟩:=g;have H:=η hTA;have G:=η hTB;have HI:=η hIA;have GI:=η hIB;have HLA:=η hLA;have HLB:=η hLB;obtain⟨ans,ha⟩:=ε (decide (l=m));have HA:=η ha;rw[←ha];clear hLA hTA hIA hLB hTB hIB ha;go_in;by_cases hl:l.length=m.length
 case neg=>
  have n0:((l.length:Int) != (m.length:Int))=true:=by simp;omega
  have n1:(l.length==m.length)=false:=by simpa using hl
  have HF:Hid (ans=false):=η (by rw[HA.out];exact decide_eq_false (fun e=>hl (by rw[e])));clear HA;go_wp2_with fail;go_ret;exact⟨ret_bool HF.out.symm,Turn.refl _ _⟩
 obtain⟨n,hn⟩:=ε l.length;have HN:Hid (n=l.length∧n=m.length∧n=LA.length∧n=LB.length):=η ⟨hn,by rw[hn,hl],by rw[hn,←HLA.out,List.length_map],by rw[hn,hl,←HLB.out,List.length_map]⟩;rw[←hl,←hn];rw[←hn]at hlen;clear hl hn glen;go_wp2_with fail;go_loopw [5] (fun vi wx=>∃k:Nat,k≤n∧vi=.int .i64 (k:Int)∧(∀j,j<k→l[j]?=m[j]?)∧Turn [] w wx) (fun vi _=>n-(intOf vi).toNat)
 case atStart=>exact⟨0,by omega,rfl,fun j hj=>by omega,Turn.refl _ _⟩
 case round=>
  obtain⟨k,hk,rfl,hall,ht⟩:=hrel;have HT:=η ht;have HL:=η hall;clear ht hall;by_cases hkn:k<n
  · obtain⟨x,hx⟩:∃x,LA[k]?=some x:=⟨_,List.getElem?_eq_getElem (by rw[←HN.out.2.2.1];exact hkn)⟩
    obtain⟨z,hz⟩:∃z,LB[k]?=some z:=⟨_,List.getElem?_eq_getElem (by rw[←HN.out.2.2.2];exact hkn)⟩
    have hlx:l[k]?=some x.v:=by rw[←HLA.out,List.getElem?_map,hx];rfl
    have hmz:m[k]?=some z.v:=by rw[←HLB.out,List.getElem?_map,hz];rfl
    obtain⟨g1,o1,rfl,hat⟩:=(H.out.still HT.out).at hx;obtain⟨g2,o2,rfl,hat2⟩:=(G.out.still HT.out).at hz;have q0:=hat 0 (.int .i64 x.v.tid) rfl;have q1:=hat 1 (.slice x.ao x.v.parts.length x.c) rfl;have p0:=hat2 0 (.int .i64 z.v.tid) rfl;have p1:=hat2 1 (.slice z.ao z.v.parts.length z.c) rfl;rw[Nat.add_zero]at q0 p0;have hb:0≤(k:Int)∧(k:Int)<(n:Int):=by omega
    have HXZ:Hid (x.v=z.v→∀j,j<k+1→l[j]?=m[j]?):=η (fun hxz j hj=>by
     by_cases e:j=k
     · rw[e,hlx,hmz,hxz]
     · exact HL.out j (by omega))
    have HNF:Hid (x.v≠z.v→ans=false):=η (fun hne=>by
     rw[HA.out]
     exact decide_eq_false (fun e=>hne (by rw[e,hmz]at hlx;exact(Option.some.inj hlx).symm)))
    have CI:=fun wx (t:Turn [] w wx)=>refEqInts_calls ((HI.out x (List.mem_of_getElem? hx)).turn t) ((GI.out z (List.mem_of_getElem? hz)).turn t)
    obtain⟨⟨xt,xp⟩,xa,xc⟩:=x;obtain⟨⟨zt,zp⟩,za,zc⟩:=z;dsimp only at q0 q1 p0 p1 HXZ HNF CI;obtain⟨nx,hnx⟩:=ε xp.length;obtain⟨nz,hnz⟩:=ε zp.length;obtain⟨eb,heb⟩:=ε (decide (xp=zp));rw[←hnx]at q1;rw[←hnz]at p1;rw[←hnx,←hnz,←heb]at CI;have HEB:=η heb;have C1:=η CI;clear hat hat2 hx hz HL hlx hmz CI hnx hnz heb;by_cases h1:xt=zt
    · subst h1;go_upto_region 6 with fail
      have HSX:Hid (∀x,Turn [] wr x→x.cell? ⟨g1,o1+k*2,none⟩=some (.int .i64 xt)∧x.cell? ⟨g1,o1+k*2+1,none⟩=some (.slice xa nx xc)∧x.cell? ⟨g2,o2+k*2,none⟩=some (.int .i64 xt)∧x.cell? ⟨g2,o2+k*2+1,none⟩=some (.slice za nz zc)):=η (fun x t=>⟨t.cell q0,t.cell q1,t.cell p0,t.cell p1⟩);clear q0 q1 p0 p1;have TD:=η (Turn.drew [] wr);refine Ph.start [] (fun x=>x.cell? ⟨g1,o1+k*2,none⟩=some (.int .i64 xt)∧x.cell? ⟨g1,o1+k*2+1,none⟩=some (.slice xa nx xc)∧x.cell? ⟨g2,o2+k*2,none⟩=some (.int .i64 xt)∧x.cell? ⟨g2,o2+k*2+1,none⟩=some (.slice za nz zc)) (by kernel_rfl) (HSX.out _ TD.out) ?_;intro hS;refine Ph.tq 0 (some 17) hS ?_;simp only[Act.put,σa,σz,σs];refine Ph.tq 1 (some 18) hS ?_;simp only[Act.put,σa,σz,σs];refine Ph.tq 2 (some 19) hS ?_;simp only[Act.put,σa,σz,σs];refine Ph.tq 3 (some 20) hS ?_;simp only[Act.put,σa,σz,σs];refine Ph.tq 4 (some 21) hS ?_;simp only[Act.put,σa,σz,σs];refine Ph.tq 5 (some 22) hS ?_;simp only[Act.put,σa,σz,σs];refine Ph.tq 6 (some 23) hS ?_;simp only[Act.put,σa,σz,σs];refine Ph.tq 7 (some 24) hS ?_;simp only[Act.put,σa,σz,σs];refine Ph.tq 8 (some 25) hS ?_;simp only[Act.put,σa,σz,σs];refine Ph.tq 9 (some 26) hS ?_;simp only[Act.put,σa,σz,σs];refine Ph.tq 10 (some 27) hS ?_;simp only[Act.put,σa,σz,σs];refine Ph.tq 11 (some 28) hS ?_;simp only[Act.put,σa,σz,σs];refine Ph.tq 12 (some 29) hS ?_;simp only[Act.put,σa,σz,σs];refine Ph.tq 13 (some 30) hS ?_;simp only[Act.put,σa,σz,σs];refine Ph.tq 14 (some 31) hS ?_;simp only[Act.put,σa,σz,σs];refine Ph.tq 15 (some 32) hS ?_;simp only[Act.put,σa,σz,σs];refine Ph.tq 16 (some 33) hS ?_;simp only[Act.put,σa,σz,σs];refine Ph.tq 17 (some 34) hS ?_;simp only[Act.put,σa,σz,σs];refine Ph.tq 18 (some 35) hS ?_;simp only[Act.put,σa,σz,σs];refine Ph.tq 19 (some 36) hS ?_;simp only[Act.put,σa,σz,σs];refine Ph.tq 20 (some 37) hS ?_;simp only[Act.put,σa,σz,σs];refine Ph.tq 21 (some 38) hS ?_;simp only[Act.put,σa,σz,σs];refine Ph.one (i:=22) (by kernel_rfl) rfl ?_;intro K hK;rw[if_pos (by rfl)];go_simp;refine(C1.out _ (HT.out.trans TD.out)).mono ?_;rintro e x6 ⟨rfl,t6⟩;have T6:=η (TD.out.trans t6);refine hK _ _ (HSX.out _ T6.out) (fun hS6=>?_);clear hK K C1 hS t6;cases eb with
      | true=>
       have hpz:xp=zp:=by have:=HEB.out;exact of_decide_eq_true this.symm
       subst hpz;have HX:=η (HXZ.out rfl);clear HXZ HNF;refine Ph.tq 23 (some 40) hS6 ?_;simp only[Act.put,σa,σz,σs];refine Ph.one (i:=24) (by kernel_rfl) rfl ?_;intro K hK;rw[if_pos (by rfl)];go_simp;refine hK _ _ (HSX.out _ T6.out) (fun _=>Ph.done (by kernel_rfl) ?_ _);clear hK K hS6;go_wp2_with fail;go_roundw
       case rel=>exact⟨k+1,by omega,by go_num,HX.out,HT.out.trans T6.out⟩
       case measure=>simp[intOf];omega
      | false=>
       have HF:=η (HNF.out (by have:=HEB.out;intro e;injection e with e1 e2;exact absurd e2 (of_decide_eq_false this.symm)));clear HXZ HNF;refine Ph.tq 23 (some 40) hS6 ?_;simp only[Act.put,σa,σz,σs];refine Ph.one (i:=24) (by kernel_rfl) rfl ?_;intro K hK;rw[if_pos (by rfl)];go_simp;refine hK _ _ (HSX.out _ T6.out) (fun _=>Ph.done (by kernel_rfl) ?_ _);clear hK K hS6;go_wp2_with fail;go_ret;exact⟨ret_bool HF.out.symm,HT.out.trans T6.out⟩
    · have HF:=η (HNF.out (by simp[h1]));have n1:(xt==zt)=false:=by simpa using h1
      have n2:(xt != zt)=true:=by simpa using h1
      clear HXZ HNF h1 C1;go_wp2_with fail;go_quiet (fail);go_wp2_with fail;go_ret;exact⟨ret_bool HF.out.symm,HT.out.trans (Turn.drewN [] _ _)⟩
  · have hkk:k=n:=by omega
    have HF:Hid (ans=true):=η (by
     rw[HA.out];refine decide_eq_true (List.ext_getElem? fun j=>?_);by_cases hj:j<n
     · exact HL.out j (by omega)
     · rw[List.getElem?_eq_none (by rw[←HN.out.1];omega),List.getElem?_eq_none (by rw[←HN.out.2.1];omega)])
    clear HL;go_wp2_with fail;go_ret;exact⟨ret_bool HF.out.symm,HT.out⟩
end Go.Proofs.YtkjpjfghklgdhaaGreat

set_option maxHeartbeats 8000000
set_option maxRecDepth 100000
namespace Go.Proofs.YtkjpjfghklgdhaaGreat
open Go.RowKit Go.Proofs.YtkjpjfghklgdhaaGreat.V
theorem box2 (w x:World) (cs ds:Array Value) (T:TypeId) (t:Turn [] ((w.alloc (.cells cs T)).alloc (.cells ds T)) x):x.heap[w.heap.size]?=some (.cells cs T)∧x.heap[w.heap.size+1]?=some (.cells ds T):=by
 refine⟨t.heap ((Turn.alloc [] _ _).heap (heap_alloc_new w _)),t.heap ?_⟩;have:=heap_alloc_new (w.alloc (.cells cs T)) (.cells ds T);rwa[show(w.alloc (.cells cs T)).heap.size=w.heap.size+1 by simp]at this
theorem refEq_calls {w:World} {a b:Ads} {s u:StV} (h:StIs w a s) (g:StIs w b u):Calls Tryz.prog 21 #[.agg (s.cells a),.agg (u.cells b)] w fun e w'=>e=.returned (.bool (eqStB s u))∧Turn [] w w':=by
 obtain⟨ans,ha⟩:=ε (eqStB s u);have HA:Hid (ans=true↔s=u):=η (by rw[ha];exact eqStB_iff s u);rw[←ha];clear ha;have HS:=η h;have GS:=η g;have l1:=h.ms.len;have l2:=h.waits.len;have l3:=h.ends.len;have l4:=h.open_.len;have l5:=h.noes.len;have C1:=η (fun wx (t:Turn [] w wx)=>refEqPends_calls (h.still t).open_ (g.still t).open_);have C2:=η (fun wx (t:Turn [] w wx)=>refEqPends_calls (h.still t).noes (g.still t).noes);obtain⟨xm,xcm,xw,xcw,xe,xce,xo,xco,xn,xcn⟩:=a;obtain⟨ym,ycm,yw,ycw,ye,yce,yo,yco,yn,ycn⟩:=b;obtain⟨a0,a1,a2,a3,am,aw,ae,ao,an⟩:=s;obtain⟨b0,b1,b2,b3,bm,bw,be,bo,bn⟩:=u;unfold StV.cells;dsimp only at*;obtain⟨p1,hp1⟩:=ε (decide (ao=bo));obtain⟨p2,hp2⟩:=ε (decide (an=bn));rw[←hp1]at C1;rw[←hp2]at C2;have HP1:=η hp1;have HP2:=η hp2;obtain⟨nam,hnam⟩:=ε am.length;obtain⟨naw,hnaw⟩:=ε aw.length;obtain⟨nae,hnae⟩:=ε ae.length;obtain⟨nao,hnao⟩:=ε ao.length;obtain⟨nan,hnan⟩:=ε an.length;obtain⟨nbm,hnbm⟩:=ε bm.length;obtain⟨nbw,hnbw⟩:=ε bw.length;obtain⟨nbe,hnbe⟩:=ε be.length;obtain⟨nbo,hnbo⟩:=ε bo.length;obtain⟨nbn,hnbn⟩:=ε bn.length;rw[←hnao,←hnbo]at C1;rw[←hnan,←hnbn]at C2;rw[←hnam]at l1;rw[←hnaw]at l2;rw[←hnae]at l3;rw[←hnam,←hnaw,←hnae,←hnao,←hnan,←hnbm,←hnbw,←hnbe,←hnbo,←hnbn];have HNM:=η (And.intro hnam hnbm);have HNW:=η (And.intro hnaw hnbw);have HNE:=η (And.intro hnae hnbe);clear h g l4 l5 hp1 hp2 hnam hnaw hnae hnao hnan hnbm hnbw hnbe hnbo hnbn;have T0:=η ((Turn.alloc [] w (.cells #[.int .i64 a0,.int .i64 a1,.int .i64 a2,.int .i64 a3,.slice xm nam xcm,.slice xw naw xcw,.slice xe nae xce,.slice xo nao xco,.slice xn nan xcn] 27)).trans (Turn.alloc [] _ (.cells #[.int .i64 b0,.int .i64 b1,.int .i64 b2,.int .i64 b3,.slice ym nbm ycm,.slice yw nbw ycw,.slice ye nbe yce,.slice yo nbo yco,.slice yn nbn ycn] 27)));have U0:=η (Turn.refl [] ((w.alloc (.cells #[.int .i64 a0,.int .i64 a1,.int .i64 a2,.int .i64 a3,.slice xm nam xcm,.slice xw naw xcw,.slice xe nae xce,.slice xo nao xco,.slice xn nan xcn] 27)).alloc (.cells #[.int .i64 b0,.int .i64 b1,.int .i64 b2,.int .i64 b3,.slice ym nbm ycm,.slice yw nbw ycw,.slice ye nbe yce,.slice yo nbo yco,.slice yn nbn ycn] 27)))
 have HSX:Hid (∀x,Turn [] ((w.alloc (.cells #[.int .i64 a0,.int .i64 a1,.int .i64 a2,.int .i64 a3,.slice xm nam xcm,.slice xw naw xcw,.slice xe nae xce,.slice xo nao xco,.slice xn nan xcn] 27)).alloc (.cells #[.int .i64 b0,.int .i64 b1,.int .i64 b2,.int .i64 b3,.slice ym nbm ycm,.slice yw nbw ycw,.slice ye nbe yce,.slice yo nbo yco,.slice yn nbn ycn] 27)) x→x.cell? ⟨w.heap.size,0,none⟩=some (.int .i64 a0)∧x.cell? ⟨w.heap.size,1,none⟩=some (.int .i64 a1)∧x.cell? ⟨w.heap.size,2,none⟩=some (.int .i64 a2)∧x.cell? ⟨w.heap.size,3,none⟩=some (.int .i64 a3)∧x.cell? ⟨w.heap.size,4,none⟩=some (.slice xm nam xcm)∧x.cell? ⟨w.heap.size,5,none⟩=some (.slice xw naw xcw)∧x.cell? ⟨w.heap.size,6,none⟩=some (.slice xe nae xce)∧x.cell? ⟨w.heap.size,7,none⟩=some (.slice xo nao xco)∧x.cell? ⟨w.heap.size,8,none⟩=some (.slice xn nan xcn)∧x.cell? ⟨w.heap.size+1,0,none⟩=some (.int .i64 b0)∧x.cell? ⟨w.heap.size+1,1,none⟩=some (.int .i64 b1)∧x.cell? ⟨w.heap.size+1,2,none⟩=some (.int .i64 b2)∧x.cell? ⟨w.heap.size+1,3,none⟩=some (.int .i64 b3)∧x.cell? ⟨w.heap.size+1,4,none⟩=some (.slice ym nbm ycm)∧x.cell? ⟨w.heap.size+1,5,none⟩=some (.slice yw nbw ycw)∧x.cell? ⟨w.heap.size+1,6,none⟩=some (.slice ye nbe yce)∧x.cell? ⟨w.heap.size+1,7,none⟩=some (.slice yo nbo yco)∧x.cell? ⟨w.heap.size+1,8,none⟩=some (.slice yn nbn ycn)):=η (fun x t=>by
  obtain⟨h1,h2⟩:=box2 w x _ _ _ t;obtain⟨c0,c1,c2,c3,c4,c5,c6,c7,c8⟩:=nine_of h1;obtain⟨d0,d1,d2,d3,d4,d5,d6,d7,d8⟩:=nine_of h2
  exact⟨c0,c1,c2,c3,c4,c5,c6,c7,c8,d0,d1,d2,d3,d4,d5,d6,d7,d8⟩)
 obtain⟨xb,hxb⟩:=ε (((w.alloc (.cells #[.int .i64 a0,.int .i64 a1,.int .i64 a2,.int .i64 a3,.slice xm nam xcm,.slice xw naw xcw,.slice xe nae xce,.slice xo nao xco,.slice xn nan xcn] 27)).alloc (.cells #[.int .i64 b0,.int .i64 b1,.int .i64 b2,.int .i64 b3,.slice ym nbm ycm,.slice yw nbw ycw,.slice ye nbe yce,.slice yo nbo yco,.slice yn nbn ycn] 27)));rw[←hxb]at T0 U0 HSX;have HXB:=η hxb;clear hxb;go_in;by_cases h0:a0=b0
 case neg=>
  have n0:(a0==b0)=false:=by simpa using h0
  have HF:Hid (ans=false):=η (Bool.eq_false_iff.2 (fun e=>by have:=HA.out.1 e;injection this with e0 e1 e2 e3;exact h0 e0));clear HA;go_wp2_with fail;go_ret;exact⟨ret_bool HF.out.symm,by rw[HXB.out]at T0;exact T0.out⟩
 subst h0;by_cases h1:a1=b1
 case neg=>
  have n1:(a1==b1)=false:=by simpa using h1
  have HF:Hid (ans=false):=η (Bool.eq_false_iff.2 (fun e=>by have:=HA.out.1 e;injection this with e0 e1 e2 e3;exact h1 e1));clear HA;go_wp2_with fail;go_ret;exact⟨ret_bool HF.out.symm,by rw[HXB.out]at T0;exact T0.out⟩
 subst h1;by_cases h2:a2=b2
 case neg=>
  have n2:(a2==b2)=false:=by simpa using h2
  have HF:Hid (ans=false):=η (Bool.eq_false_iff.2 (fun e=>by have:=HA.out.1 e;injection this with e0 e1 e2 e3;exact h2 e2));clear HA;go_wp2_with fail;go_ret;exact⟨ret_bool HF.out.symm,by rw[HXB.out]at T0;exact T0.out⟩
 subst h2;by_cases h3:a3=b3
 case neg=>
  have n3:(a3==b3)=false:=by simpa using h3
  have HF:Hid (ans=false):=η (Bool.eq_false_iff.2 (fun e=>by have:=HA.out.1 e;injection this with e0 e1 e2 e3;exact h3 e3));clear HA;go_wp2_with fail;go_ret;exact⟨ret_bool HF.out.symm,by rw[HXB.out]at T0;exact T0.out⟩
 subst h3;by_cases hm:nam=nbm
 case neg=>
  have nm:(nam==nbm)=false:=by simpa using hm
  have mm:((nam:Int)==(nbm:Int))=false:=by simp;omega
  have HF:Hid (ans=false):=η (Bool.eq_false_iff.2 (fun e=>by have:=HA.out.1 e;injection this with e0 e1 e2 e3 e4 e5 e6;exact hm (by rw[HNM.out.1,HNM.out.2,e4])));clear HA;go_wp2_with fail;go_ret;exact⟨ret_bool HF.out.symm,by rw[HXB.out]at T0;exact T0.out⟩
 subst hm;by_cases hw:naw=nbw
 case neg=>
  have nw:(naw==nbw)=false:=by simpa using hw
  have mw:((naw:Int)==(nbw:Int))=false:=by simp;omega
  have HF:Hid (ans=false):=η (Bool.eq_false_iff.2 (fun e=>by have:=HA.out.1 e;injection this with e0 e1 e2 e3 e4 e5 e6;exact hw (by rw[HNW.out.1,HNW.out.2,e5])));clear HA;go_wp2_with fail;go_ret;exact⟨ret_bool HF.out.symm,by rw[HXB.out]at T0;exact T0.out⟩
 subst hw;by_cases he:nae=nbe
 case neg=>
  have ne:(nae==nbe)=false:=by simpa using he
  have me:((nae:Int)==(nbe:Int))=false:=by simp;omega
  have HF:Hid (ans=false):=η (Bool.eq_false_iff.2 (fun e=>by have:=HA.out.1 e;injection this with e0 e1 e2 e3 e4 e5 e6;exact he (by rw[HNE.out.1,HNE.out.2,e6])));clear HA;go_wp2_with fail;go_ret;exact⟨ret_bool HF.out.symm,by rw[HXB.out]at T0;exact T0.out⟩
 subst he;go_wp2_with fail;rw[←HXB.out];clear HXB;refine(C1.out _ T0.out).mono ?_;rintro e x1 ⟨rfl,t1⟩;have U1:=η (U0.out.trans t1);clear t1 C1;obtain⟨c0,c1,c2,c3,c4,c5,c6,c7,c8,d0,d1,d2,d3,d4,d5,d6,d7,d8⟩:=HSX.out _ U1.out;cases p1 with
 | false=>
  have HF:Hid (ans=false):=η (Bool.eq_false_iff.2 (fun e=>by have:=HA.out.1 e;injection this with _ _ _ _ _ _ _ q7;exact absurd q7 (of_decide_eq_false HP1.out.symm)));clear HA;go_wp2_with fail;go_ret;exact⟨ret_bool HF.out.symm,T0.out.trans U1.out⟩
 | true=>
  have LO:=η (of_decide_eq_true HP1.out.symm);go_wp2_with fail;refine(C2.out _ (T0.out.trans U1.out)).mono ?_;rintro e x2 ⟨rfl,t2⟩;have U2:=η (U1.out.trans t2);clear t2 C2;clear c0 c1 c2 c3 c4 c5 c6 c7 c8 d0 d1 d2 d3 d4 d5 d6 d7 d8;cases p2 with
  | false=>
   have HF:Hid (ans=false):=η (Bool.eq_false_iff.2 (fun e=>by have:=HA.out.1 e;injection this with _ _ _ _ _ _ _ _ q8;exact absurd q8 (of_decide_eq_false HP2.out.symm)));clear HA;go_wp2_with fail;go_ret;exact⟨ret_bool HF.out.symm,T0.out.trans U2.out⟩
  | true=>
   have LN:=η (of_decide_eq_true HP2.out.symm);clear HP1 HP2;go_upto_region 4 with fail
   go_loopw [5] (fun vi wx=>∃k:Nat,k≤nam∧vi=.int .i64 (k:Int)∧(∀j,j<k→am[j]?=bm[j]?)∧Turn [] xb wx) (fun vi _=>nam-(intOf vi).toNat)
   case atStart=>exact⟨0,by omega,rfl,fun j hj=>by omega,U2.out⟩
   case round=>
    obtain⟨k,hk,rfl,hall,ht⟩:=hrel;have HT:=η ht;have HL:=η hall;clear ht hall;obtain⟨c0,c1,c2,c3,c4,c5,c6,c7,c8,d0,d1,d2,d3,d4,d5,d6,d7,d8⟩:=HSX.out _ HT.out;by_cases hkn:k<nam
    · obtain⟨x,hlx⟩:∃x,am[k]?=some x:=⟨_,List.getElem?_eq_getElem (by rw[←HNM.out.1];exact hkn)⟩
      obtain⟨z,hmz⟩:∃z,bm[k]?=some z:=⟨_,List.getElem?_eq_getElem (by rw[←HNM.out.2];exact hkn)⟩
      have hb:0≤(k:Int)∧(k:Int)<(nam:Int):=by omega
      obtain⟨g1,o1,eg1,hat⟩:=(HS.out.still (T0.out.trans HT.out)).ms.at hlx;obtain⟨g2,o2,eg2,hat2⟩:=(GS.out.still (T0.out.trans HT.out)).ms.at hmz;dsimp only at eg1 eg2
      have HXZ:Hid (x=z→∀j,j<k+1→am[j]?=bm[j]?):=η (fun hxz j hj=>by
       by_cases e:j=k
       · rw[e,hlx,hmz,hxz]
       · exact HL.out j (by omega))
      have HNF:Hid (¬x=z→ans=false):=η (fun hne=>Bool.eq_false_iff.2 (fun e=>by
       have e:=HA.out.1 e;injection e with _ _ _ _ q4 q5 q6
       refine hne ?_;have:am=bm:=by assumption
       rw[this,hmz]at hlx
       exact(Option.some.inj hlx).symm))
      have CM:=η (fun wx=>refEqMessage_calls x z wx);obtain⟨p0,p1,p2,p3,p4,p5⟩:=x;obtain⟨q0,q1,q2,q3,q4,q5⟩:=z;have r0:=hat 0 (.int .i64 p0) rfl;have t0:=hat2 0 (.int .i64 q0) rfl;have r1:=hat 1 (.string p1) rfl;have t1:=hat2 1 (.string q1) rfl;have r2:=hat 2 (.string p2) rfl;have t2:=hat2 2 (.string q2) rfl;have r3:=hat 3 (.int .i64 p3) rfl;have t3:=hat2 3 (.int .i64 q3) rfl;have r4:=hat 4 (.int .i64 p4) rfl;have t4:=hat2 4 (.int .i64 q4) rfl;have r5:=hat 5 (.int .i64 p5) rfl;have t5:=hat2 5 (.int .i64 q5) rfl;rw[Nat.add_zero]at r0 t0;rw[eg1]at c4;rw[eg2]at d4;obtain⟨eb,heb⟩:=ε (eqMsgB ⟨p0,p1,p2,p3,p4,p5⟩ ⟨q0,q1,q2,q3,q4,q5⟩);have HEB:Hid (eb=true↔(⟨p0,p1,p2,p3,p4,p5⟩:MsgV)=⟨q0,q1,q2,q3,q4,q5⟩):=η (by rw[heb];exact eqMsgB_iff _ _);rw[←heb]at CM;have HS6:Hid (∀x,Turn [] wr x→x.cell? ⟨w.heap.size,4,none⟩=some (.slice (some ⟨g1,o1,none⟩) nam xcm)∧x.cell? ⟨w.heap.size+1,4,none⟩=some (.slice (some ⟨g2,o2,none⟩) nam ycm)∧x.cell? ⟨g1,o1+k*6,none⟩=some (.int .i64 p0)∧x.cell? ⟨g1,o1+k*6+1,none⟩=some (.string p1)∧x.cell? ⟨g1,o1+k*6+2,none⟩=some (.string p2)∧x.cell? ⟨g1,o1+k*6+3,none⟩=some (.int .i64 p3)∧x.cell? ⟨g1,o1+k*6+4,none⟩=some (.int .i64 p4)∧x.cell? ⟨g1,o1+k*6+5,none⟩=some (.int .i64 p5)∧x.cell? ⟨g2,o2+k*6,none⟩=some (.int .i64 q0)∧x.cell? ⟨g2,o2+k*6+1,none⟩=some (.string q1)∧x.cell? ⟨g2,o2+k*6+2,none⟩=some (.string q2)∧x.cell? ⟨g2,o2+k*6+3,none⟩=some (.int .i64 q3)∧x.cell? ⟨g2,o2+k*6+4,none⟩=some (.int .i64 q4)∧x.cell? ⟨g2,o2+k*6+5,none⟩=some (.int .i64 q5)):=η (fun x t=>⟨t.cell c4,t.cell d4,t.cell r0,t.cell r1,t.cell r2,t.cell r3,t.cell r4,t.cell r5,t.cell t0,t.cell t1,t.cell t2,t.cell t3,t.cell t4,t.cell t5⟩);clear hat hat2 hlx hmz heb HL r0 r1 r2 r3 r4 r5 t0 t1 t2 t3 t4 t5 d0 d1 d2 d3 d5 d6 d7 d8 c0 c1 c2 c3 c5 c6 c7 c8;go_upto_region 6 with fail
      clear c4 d4;have TD:=η (Turn.drew [] wr);refine Ph.start [] (fun x=>x.cell? ⟨w.heap.size,4,none⟩=some (.slice (some ⟨g1,o1,none⟩) nam xcm)∧x.cell? ⟨w.heap.size+1,4,none⟩=some (.slice (some ⟨g2,o2,none⟩) nam ycm)∧x.cell? ⟨g1,o1+k*6,none⟩=some (.int .i64 p0)∧x.cell? ⟨g1,o1+k*6+1,none⟩=some (.string p1)∧x.cell? ⟨g1,o1+k*6+2,none⟩=some (.string p2)∧x.cell? ⟨g1,o1+k*6+3,none⟩=some (.int .i64 p3)∧x.cell? ⟨g1,o1+k*6+4,none⟩=some (.int .i64 p4)∧x.cell? ⟨g1,o1+k*6+5,none⟩=some (.int .i64 p5)∧x.cell? ⟨g2,o2+k*6,none⟩=some (.int .i64 q0)∧x.cell? ⟨g2,o2+k*6+1,none⟩=some (.string q1)∧x.cell? ⟨g2,o2+k*6+2,none⟩=some (.string q2)∧x.cell? ⟨g2,o2+k*6+3,none⟩=some (.int .i64 q3)∧x.cell? ⟨g2,o2+k*6+4,none⟩=some (.int .i64 q4)∧x.cell? ⟨g2,o2+k*6+5,none⟩=some (.int .i64 q5)) (by kernel_rfl) (HS6.out _ TD.out) ?_;intro hS;refine Ph.tq 0 (some 84) hS ?_;simp only[Act.put,σa,σz,σs];refine Ph.tq 1 (some 85) hS ?_;simp only[Act.put,σa,σz,σs];refine Ph.tq 2 (some 86) hS ?_;simp only[Act.put,σa,σz,σs];refine Ph.tq 3 (some 87) hS ?_;simp only[Act.put,σa,σz,σs];refine Ph.tq 4 (some 88) hS ?_;simp only[Act.put,σa,σz,σs];refine Ph.tq 5 (some 89) hS ?_;simp only[Act.put,σa,σz,σs];refine Ph.tq 6 (some 90) hS ?_;simp only[Act.put,σa,σz,σs];refine Ph.tq 7 (some 91) hS ?_;simp only[Act.put,σa,σz,σs];refine Ph.tq 8 (some 92) hS ?_;simp only[Act.put,σa,σz,σs];refine Ph.tq 9 (some 93) hS ?_;simp only[Act.put,σa,σz,σs];refine Ph.one (i:=10) (by kernel_rfl) rfl ?_;intro K hK;rw[if_pos (by rfl)];go_simp;refine(CM.out _).mono ?_;rintro e x6 ⟨rfl,t6⟩;have T6:=η (TD.out.trans t6);refine hK _ _ (HS6.out _ T6.out) (fun hS6=>?_);clear hK K CM hS t6;cases eb with
      | true=>
       have HX:=η (HXZ.out (HEB.out.1 rfl));clear HXZ HNF;refine Ph.one (i:=11) (by kernel_rfl) rfl ?_;intro K hK;rw[if_pos (by rfl)];go_simp;refine hK _ _ (HS6.out _ T6.out) (fun _=>Ph.done (by kernel_rfl) ?_ _);clear hK K hS6;go_wp2_with fail;go_roundw
       case rel=>exact⟨k+1,by omega,by go_num,HX.out,HT.out.trans T6.out⟩
       case measure=>simp[intOf];omega
      | false=>
       have HF:=η (HNF.out (fun e=>by have:=HEB.out.2 e;cases this));clear HXZ HNF;refine Ph.one (i:=11) (by kernel_rfl) rfl ?_;intro K hK;rw[if_pos (by rfl)];go_simp;refine hK _ _ (HS6.out _ T6.out) (fun _=>Ph.done (by kernel_rfl) ?_ _);clear hK K hS6;go_wp2_with fail;go_ret;exact⟨ret_bool HF.out.symm,T0.out.trans (HT.out.trans T6.out)⟩
    · have hkk:k=nam:=by omega
      have Eam:Hid (am=bm):=η (List.ext_getElem? fun j=>by
       by_cases hj:j<nam
       · exact HL.out j (by omega)
       · rw[List.getElem?_eq_none (by rw[←HNM.out.1];omega),List.getElem?_eq_none (by rw[←HNM.out.2];omega)])
      clear HL hkn hk;subst hkk;go_upto_region 9 with fail
      clear c0 c1 c2 c3 c4 c5 c6 c7 c8 d0 d1 d2 d3 d4 d5 d6 d7 d8;go_loopw [6] (fun vi wx=>∃k:Nat,k≤naw∧vi=.int .i64 (k:Int)∧(∀j,j<k→aw[j]?=bw[j]?)∧Turn [] xb wx) (fun vi _=>naw-(intOf vi).toNat)
      case atStart=>exact⟨0,by omega,rfl,fun j hj=>by omega,HT.out⟩
      case round=>
       obtain⟨k,hk,rfl,hall,ht⟩:=hrel;have HT:=η ht;have HL:=η hall;clear ht hall;obtain⟨c0,c1,c2,c3,c4,c5,c6,c7,c8,d0,d1,d2,d3,d4,d5,d6,d7,d8⟩:=HSX.out _ HT.out;by_cases hkn:k<naw
       · obtain⟨LA,hLA,hTA,hIA⟩:=(HS.out.still (T0.out.trans HT.out)).waits;obtain⟨LB,hLB,hTB,hIB⟩:=(GS.out.still (T0.out.trans HT.out)).waits;dsimp only at hLA hLB hTA hTB;have hna:LA.length=naw:=by rw[HNW.out.1,←hLA,List.length_map]
         have hnb:LB.length=naw:=by rw[HNW.out.2,←hLB,List.length_map]
         obtain⟨x,hx⟩:∃x,LA[k]?=some x:=⟨_,List.getElem?_eq_getElem (by omega)⟩
         obtain⟨z,hz⟩:∃z,LB[k]?=some z:=⟨_,List.getElem?_eq_getElem (by omega)⟩
         have hlx:aw[k]?=some x.v:=by rw[←hLA,List.getElem?_map,hx];rfl
         have hmz:bw[k]?=some z.v:=by rw[←hLB,List.getElem?_map,hz];rfl
         obtain⟨g1,o1,eg1,hat⟩:=hTA.at hx;obtain⟨g2,o2,eg2,hat2⟩:=hTB.at hz;have r0:=hat 0 (.int .i64 x.v.tid) rfl;have r1:=hat 1 (.slice x.ao x.v.puts.length x.c) rfl;have t0:=hat2 0 (.int .i64 z.v.tid) rfl;have t1:=hat2 1 (.slice z.ao z.v.puts.length z.c) rfl;rw[Nat.add_zero]at r0 t0;have hb:0≤(k:Int)∧(k:Int)<(naw:Int):=by omega
         have HXZ:Hid (x.v=z.v→∀j,j<k+1→aw[j]?=bw[j]?):=η (fun hxz j hj=>by
          by_cases e:j=k
          · rw[e,hlx,hmz,hxz]
          · exact HL.out j (by omega))
         have HNF:Hid (¬x.v=z.v→ans=false):=η (fun hne=>Bool.eq_false_iff.2 (fun e=>by
          have e:=HA.out.1 e;injection e with _ _ _ _ q4 q5 q6
          refine hne ?_;have:aw=bw:=by assumption
          rw[this,hmz]at hlx
          exact(Option.some.inj hlx).symm))
         have CI:=fun wx (t:Turn [] wr wx)=>refEqPuts_calls ((hIA x (List.mem_of_getElem? hx)).turn t) ((hIB z (List.mem_of_getElem? hz)).turn t)
         clear hLA hTA hIA hLB hTB hIB hna hnb;obtain⟨⟨xt,xp⟩,xa,xc⟩:=x;obtain⟨⟨zt,zp⟩,za,zc⟩:=z;dsimp only at r0 r1 t0 t1 HXZ HNF CI;obtain⟨nx,hnx⟩:=ε xp.length;obtain⟨nz,hnz⟩:=ε zp.length;obtain⟨eb,heb⟩:=ε (decide (xp=zp));rw[←hnx]at r1;rw[←hnz]at t1;rw[←hnx,←hnz,←heb]at CI;have HEB:=η heb;have CI:=η CI;rw[eg1]at c5;rw[eg2]at d5;clear hat hat2 hx hz HL hlx hmz hnx hnz heb d0 d1 d2 d3 d4 d6 d7 d8 c0 c1 c2 c3 c4 c6 c7 c8;by_cases h1:xt=zt
         · subst h1;have HS6:Hid (∀x,Turn [] wr x→x.cell? ⟨w.heap.size,5,none⟩=some (.slice (some ⟨g1,o1,none⟩) naw xcw)∧x.cell? ⟨w.heap.size+1,5,none⟩=some (.slice (some ⟨g2,o2,none⟩) naw ycw)∧x.cell? ⟨g1,o1+k*2,none⟩=some (.int .i64 xt)∧x.cell? ⟨g1,o1+k*2+1,none⟩=some (.slice xa nx xc)∧x.cell? ⟨g2,o2+k*2,none⟩=some (.int .i64 xt)∧x.cell? ⟨g2,o2+k*2+1,none⟩=some (.slice za nz zc)):=η (fun x t=>⟨t.cell c5,t.cell d5,t.cell r0,t.cell r1,t.cell t0,t.cell t1⟩);clear r0 r1 t0 t1;go_upto_region 11 with fail
           clear c5 d5;have TD:=η (Turn.drew [] wr);refine Ph.start [] (fun x=>x.cell? ⟨w.heap.size,5,none⟩=some (.slice (some ⟨g1,o1,none⟩) naw xcw)∧x.cell? ⟨w.heap.size+1,5,none⟩=some (.slice (some ⟨g2,o2,none⟩) naw ycw)∧x.cell? ⟨g1,o1+k*2,none⟩=some (.int .i64 xt)∧x.cell? ⟨g1,o1+k*2+1,none⟩=some (.slice xa nx xc)∧x.cell? ⟨g2,o2+k*2,none⟩=some (.int .i64 xt)∧x.cell? ⟨g2,o2+k*2+1,none⟩=some (.slice za nz zc)) (by kernel_rfl) (HS6.out _ TD.out) ?_;intro hS;refine Ph.tq 0 (some 103) hS ?_;simp only[Act.put,σa,σz,σs];refine Ph.tq 1 (some 104) hS ?_;simp only[Act.put,σa,σz,σs];refine Ph.tq 2 (some 105) hS ?_;simp only[Act.put,σa,σz,σs];refine Ph.tq 3 (some 106) hS ?_;simp only[Act.put,σa,σz,σs];refine Ph.tq 4 (some 107) hS ?_;simp only[Act.put,σa,σz,σs];refine Ph.tq 5 (some 108) hS ?_;simp only[Act.put,σa,σz,σs];refine Ph.tq 6 (some 109) hS ?_;simp only[Act.put,σa,σz,σs];refine Ph.tq 7 (some 110) hS ?_;simp only[Act.put,σa,σz,σs];refine Ph.tq 8 (some 111) hS ?_;simp only[Act.put,σa,σz,σs];refine Ph.tq 9 (some 112) hS ?_;simp only[Act.put,σa,σz,σs];refine Ph.tq 10 (some 113) hS ?_;simp only[Act.put,σa,σz,σs];refine Ph.tq 11 (some 114) hS ?_;simp only[Act.put,σa,σz,σs];refine Ph.tq 12 (some 115) hS ?_;simp only[Act.put,σa,σz,σs];refine Ph.tq 13 (some 116) hS ?_;simp only[Act.put,σa,σz,σs];refine Ph.tq 14 (some 117) hS ?_;simp only[Act.put,σa,σz,σs];refine Ph.tq 15 (some 118) hS ?_;simp only[Act.put,σa,σz,σs];refine Ph.tq 16 (some 119) hS ?_;simp only[Act.put,σa,σz,σs];refine Ph.tq 17 (some 120) hS ?_;simp only[Act.put,σa,σz,σs];refine Ph.tq 18 (some 121) hS ?_;simp only[Act.put,σa,σz,σs];refine Ph.tq 19 (some 122) hS ?_;simp only[Act.put,σa,σz,σs];refine Ph.tq 20 (some 123) hS ?_;simp only[Act.put,σa,σz,σs];refine Ph.tq 21 (some 124) hS ?_;simp only[Act.put,σa,σz,σs];refine Ph.tq 22 (some 125) hS ?_;simp only[Act.put,σa,σz,σs];refine Ph.tq 23 (some 126) hS ?_;simp only[Act.put,σa,σz,σs];refine Ph.tq 24 (some 127) hS ?_;simp only[Act.put,σa,σz,σs];refine Ph.tq 25 (some 128) hS ?_;simp only[Act.put,σa,σz,σs];refine Ph.one (i:=26) (by kernel_rfl) rfl ?_;intro K hK;rw[if_pos (by rfl)];go_simp;refine(CI.out _ TD.out).mono ?_;rintro e x6 ⟨rfl,t6⟩;have T6:=η (TD.out.trans t6);refine hK _ _ (HS6.out _ T6.out) (fun hS6=>?_);clear hK K CI hS t6;cases eb with
           | true=>
            have hpz:xp=zp:=of_decide_eq_true HEB.out.symm;subst hpz;have HX:=η (HXZ.out rfl);clear HXZ HNF;refine Ph.tq 27 (some 130) hS6 ?_;simp only[Act.put,σa,σz,σs];refine Ph.one (i:=28) (by kernel_rfl) rfl ?_;intro K hK;rw[if_pos (by rfl)];go_simp;refine hK _ _ (HS6.out _ T6.out) (fun _=>Ph.done (by kernel_rfl) ?_ _);clear hK K hS6;go_wp2_with fail;go_roundw
            case rel=>exact⟨k+1,by omega,by go_num,HX.out,HT.out.trans T6.out⟩
            case measure=>simp[intOf];omega
           | false=>
            have HF:=η (HNF.out (fun e=>by injection e with e1 e2;exact absurd e2 (of_decide_eq_false HEB.out.symm)));clear HXZ HNF;refine Ph.tq 27 (some 130) hS6 ?_;simp only[Act.put,σa,σz,σs];refine Ph.one (i:=28) (by kernel_rfl) rfl ?_;intro K hK;rw[if_pos (by rfl)];go_simp;refine hK _ _ (HS6.out _ T6.out) (fun _=>Ph.done (by kernel_rfl) ?_ _);clear hK K hS6;go_wp2_with fail;go_ret;exact⟨ret_bool HF.out.symm,T0.out.trans (HT.out.trans T6.out)⟩
         · have HF:=η (HNF.out (by simp[h1]));have n1:(xt==zt)=false:=by simpa using h1
           have n2:(xt != zt)=true:=by simpa using h1
           clear HXZ HNF h1 CI;go_wp2_with fail;go_quiet (fail);go_wp2_with fail;go_ret;exact⟨ret_bool HF.out.symm,T0.out.trans (HT.out.trans (Turn.drewN [] _ _))⟩
       · have hkk:k=naw:=by omega
         have Eaw:Hid (aw=bw):=η (List.ext_getElem? fun j=>by
          by_cases hj:j<naw
          · exact HL.out j (by omega)
          · rw[List.getElem?_eq_none (by rw[←HNW.out.1];omega),List.getElem?_eq_none (by rw[←HNW.out.2];omega)])
         clear HL hkn hk;subst hkk;go_upto_region 14 with fail
         clear c0 c1 c2 c3 c4 c5 c6 c7 c8 d0 d1 d2 d3 d4 d5 d6 d7 d8;go_loopw [7] (fun vi wx=>∃k:Nat,k≤nae∧vi=.int .i64 (k:Int)∧(∀j,j<k→ae[j]?=be[j]?)∧Turn [] xb wx) (fun vi _=>nae-(intOf vi).toNat)
         case atStart=>exact⟨0,by omega,rfl,fun j hj=>by omega,HT.out⟩
         case round=>
          obtain⟨k,hk,rfl,hall,ht⟩:=hrel;have HT:=η ht;have HL:=η hall;clear ht hall;obtain⟨c0,c1,c2,c3,c4,c5,c6,c7,c8,d0,d1,d2,d3,d4,d5,d6,d7,d8⟩:=HSX.out _ HT.out;by_cases hkn:k<nae
          · obtain⟨x,hlx⟩:∃x,ae[k]?=some x:=⟨_,List.getElem?_eq_getElem (by rw[←HNE.out.1];exact hkn)⟩
            obtain⟨z,hmz⟩:∃z,be[k]?=some z:=⟨_,List.getElem?_eq_getElem (by rw[←HNE.out.2];exact hkn)⟩
            have hb:0≤(k:Int)∧(k:Int)<(nae:Int):=by omega
            obtain⟨g1,o1,eg1,hat⟩:=(HS.out.still (T0.out.trans HT.out)).ends.at hlx;obtain⟨g2,o2,eg2,hat2⟩:=(GS.out.still (T0.out.trans HT.out)).ends.at hmz;dsimp only at eg1 eg2
            have HXZ:Hid (x=z→∀j,j<k+1→ae[j]?=be[j]?):=η (fun hxz j hj=>by
             by_cases e:j=k
             · rw[e,hlx,hmz,hxz]
             · exact HL.out j (by omega))
            have HNF:Hid (¬x=z→ans=false):=η (fun hne=>Bool.eq_false_iff.2 (fun e=>by
             have e:=HA.out.1 e;injection e with _ _ _ _ q4 q5 q6
             refine hne ?_;have:ae=be:=by assumption
             rw[this,hmz]at hlx
             exact(Option.some.inj hlx).symm))
            obtain⟨xt,xy⟩:=x;obtain⟨zt,zy⟩:=z;have r0:=hat 0 (.int .i64 xt) rfl;have r1:=hat 1 (.bool xy) rfl;have t0:=hat2 0 (.int .i64 zt) rfl;have t1:=hat2 1 (.bool zy) rfl;rw[Nat.add_zero]at r0 t0;rw[eg1]at c6;rw[eg2]at d6;clear hat hat2 hlx hmz HL d0 d1 d2 d3 d4 d5 d7 d8 c0 c1 c2 c3 c4 c5 c7 c8;by_cases h1:xt=zt
            · subst h1;by_cases h2:xy=zy
              · subst h2;have HX:=η (HXZ.out rfl);have nb:(xy != xy)=false:=by simp
                have nb2:(xy==xy)=true:=by simp
                clear HXZ HNF;go_wp2_with fail;go_quiet (fail);go_wp2_with fail;go_roundw
                case rel=>exact⟨k+1,by omega,by go_num,HX.out,HT.out.trans (Turn.drewN [] _ _)⟩
                case measure=>simp[intOf];omega
              · have HF:=η (HNF.out (by simp[h2]));have nb:(xy != zy)=true:=by simpa using h2
                have nb2:(xy==zy)=false:=by simpa using h2
                clear HXZ HNF h2;go_wp2_with fail;go_quiet (fail);go_wp2_with fail;go_ret;exact⟨ret_bool HF.out.symm,T0.out.trans (HT.out.trans (Turn.drewN [] _ _))⟩
            · have HF:=η (HNF.out (by simp[h1]));have n1:(xt==zt)=false:=by simpa using h1
              have n2:(xt != zt)=true:=by simpa using h1
              clear HXZ HNF h1;go_wp2_with fail;go_quiet (fail);go_wp2_with fail;go_ret;exact⟨ret_bool HF.out.symm,T0.out.trans (HT.out.trans (Turn.drewN [] _ _))⟩
          · have hkk:k=nae:=by omega
            have Eae:Hid (ae=be):=η (List.ext_getElem? fun j=>by
             by_cases hj:j<nae
             · exact HL.out j (by omega)
             · rw[List.getElem?_eq_none (by rw[←HNE.out.1];omega),List.getElem?_eq_none (by rw[←HNE.out.2];omega)])
            clear HL hkn hk;subst hkk;have HF:Hid (ans=true):=η (HA.out.2 (by rw[Eam.out,Eaw.out,Eae.out,LO.out,LN.out]));go_wp2_with fail;go_ret;exact⟨ret_bool HF.out.symm,T0.out.trans HT.out⟩
end Go.Proofs.YtkjpjfghklgdhaaGreat

set_option maxRecDepth 100000
namespace Go.Proofs.YtkjpjfghklgdhaaGreat
open Go.RowKit Go.Proofs.YtkjpjfghklgdhaaGreat.V
theorem refNew_calls (n:Int) (w:World):Calls Tryz.prog 23 #[.int .i64 n] w fun e w'=>e=.returned (.agg ((newS n).cells noAds))∧StIs w' noAds (newS n)∧Turn [] w w':=by
 have C1:=η (refBroker_calls n)
 have HSI:Hid (∀wx,StIs wx noAds (newS n)):=η (fun wx=>by
  have e:(newS n).ms=[]∧(newS n).waits=[]∧(newS n).ends=[]∧(newS n).open_=[]∧(newS n).noes=[]:=by
   unfold newS;split<;>exact⟨rfl,rfl,rfl,rfl,rfl⟩
  obtain⟨e1,e2,e3,e4,e5⟩:=e
  exact⟨by rw[e1];exact Tl.nil _ _ _,⟨[],by rw[e2];rfl,Tl.nil _ _ _,by simp⟩,by rw[e3];exact Tl.nil _ _ _,⟨[],by rw[e4];rfl,Tl.nil _ _ _,by simp⟩,⟨[],by rw[e5];rfl,Tl.nil _ _ _,by simp⟩⟩)
 have HC1:Hid (brokerB n=true→(newS n).cells noAds=#[.int .i64 n,.int .i64 1,.int .i64 1,.int .i64 0,.slice none 0 0,.slice none 0 0,.slice none 0 0,.slice none 0 0,.slice none 0 0]):=η (fun h=>by unfold newS;rw[if_pos h];rfl);have HC2:Hid (brokerB n=false→(newS n).cells noAds=#[.int .i64 0,.int .i64 0,.int .i64 0,.int .i64 0,.slice none 0 0,.slice none 0 0,.slice none 0 0,.slice none 0 0,.slice none 0 0]):=η (fun h=>by unfold newS;rw[if_neg (by rw[h];simp)];rfl);obtain⟨r1,e1⟩:=ε (brokerB n);rw[←e1]at C1 HC1 HC2;obtain⟨st,hst⟩:=ε (newS n);rw[←hst]at HSI HC1 HC2 ⊢;clear e1 hst;have HZ:=heap_alloc_new w (.cells #[.int .i64 0,.int .i64 0,.int .i64 0,.int .i64 0,.slice none 0 0,.slice none 0 0,.slice none 0 0,.slice none 0 0,.slice none 0 0] 27);have T0:=η (Turn.alloc [] w (.cells #[.int .i64 0,.int .i64 0,.int .i64 0,.int .i64 0,.slice none 0 0,.slice none 0 0,.slice none 0 0,.slice none 0 0,.slice none 0 0] 27));have HZ0:=η HZ;cases r1 with
 | false=>
  have HE:=η (HC2.out rfl);rw[HE.out];clear HC1 HC2 HE HZ;go_in;go_wp2_with fail;refine(C1.out _).mono ?_;rintro e x1 ⟨rfl,rfl⟩;clear C1;go_wp2_with fail;refine bodyPost_ret_by (results_cell_row rfl _ _ w.heap.size 27 _ (0,0) _ rfl HZ0.out Tryz.underlying27 rfl (by kernel_rfl)) rfl ?_;exact⟨rfl,HSI.out _,T0.out⟩
 | true=>
  have HE:=η (HC1.out rfl);rw[HE.out];clear HC1 HC2 HE;clear HZ;go_in;go_wp2_with fail;refine(C1.out _).mono ?_;rintro e x1 ⟨rfl,rfl⟩;clear C1;go_wp2_with fail;refine bodyPost_ret_by (results_cell_row rfl _ _ w.heap.size 27 _ (0,0) _ rfl (heap_alloc_new w _) Tryz.underlying27 rfl (by kernel_rfl)) rfl ?_;exact⟨rfl,HSI.out _,Turn.alloc [] w _⟩
end Go.Proofs.YtkjpjfghklgdhaaGreat

set_option maxRecDepth 100000
namespace Go.Proofs.YtkjpjfghklgdhaaGreat
open Go.RowKit Go.ChangeShapes Go.WideShapes Go.ChangeAt Go.Deep
structure LayR where
 v:RecV
 ap:Option Addr
 cp:Nat
 aq:Option Addr
 cq:Nat
def recC (x:LayR):List Value:=[.int .i64 x.v.kind,.int .i64 x.v.tid,.int .i64 x.v.id,.bool x.v.yes,.slice x.ap x.v.parts.length x.cp,.slice x.aq x.v.puts.length x.cq]
structure RecOk (w:World) (x:LayR):Prop where
 p:Il w x.ap x.cp x.v.parts
 q:Ps w x.aq x.cq x.v.puts
 t:okI x.v.tid
 d:okI x.v.id
def layNone:LayR:=⟨⟨0,0,0,false,[],[]⟩,none,0,none,0⟩
def Rls (w:World) (ao:Option Addr) (c:Nat) (l:List LayR):Prop:=
 ((ao=none∧c=0∧l=[])∨
 ∃A:Addr,ao=some A∧l.length≤c∧c≤maxLen∧∀i,i<l.length→∀j u,(recC (l.getD i layNone))[j]?=some u→w.cell? ((A.add (i*6)).add j)=some u)∧∀i,i<l.length→RecOk w (l.getD i layNone)
theorem Rls.at {w:World} {ao:Option Addr} {c:Nat} {l:List LayR} (h:Rls w ao c l) (hl:l≠[]):∃b off,ao=some ⟨b,off,none⟩∧∀i,i<l.length→∀j u,(recC (l.getD i layNone))[j]?=some u→w.cell? ⟨b,off+i*6+j,none⟩=some u:=by
 rcases h.1 with⟨_,_,h⟩ | ⟨A,rfl,_,_,hc⟩
 · exact absurd h hl
 · obtain⟨b,off,spot⟩:=A;have h0:=hc 0 (List.length_pos_iff.2 hl) 0 _ rfl;have hs:spot=none:=by simpa[Addr.add]using World.cell?_spot h0
   subst hs
   exact⟨b,off,rfl,fun i hi j u hu=>by
    have:=hc i hi j u hu
    rwa[Addr.add_lit,Addr.add_lit]at this⟩
theorem Rls.len {w:World} {ao:Option Addr} {c:Nat} {l:List LayR} (h:Rls w ao c l):(l.length:Int)≤9223372036854775807:=by
 rcases h.1 with⟨_,_,rfl⟩ | ⟨A,_,q1,q2,_⟩
 · simp
 · unfold maxLen at q2;omega
theorem open_records {H:Type} {enc:TypeId×Value→H} {W:World} {a:Option Addr} {len cap:Nat} {d:DataW H} {p:List MemPlace}
  (h:DataW.Trod enc Tryz.prog W 0 (fun _=>true) true 33 (.slice a len cap) d p):∃l:List LayR,len=l.length∧Rls W a cap l:=by
 obtain⟨fuel,hf⟩:=h;rcases open_slice Tryz.underlying33 hf with⟨hcs,_⟩ | ⟨x,l,c,m,n,E,Pl,hcs,_,hl,hm,hmm,_,hel⟩
 · simp[Value.cells]at hcs;obtain⟨rfl,rfl,rfl⟩:=hcs;exact⟨[],rfl,.inl ⟨rfl,rfl,rfl⟩,by simp⟩
 · simp[Value.cells]at hcs;obtain⟨rfl,rfl,rfl⟩:=hcs;simp only[if_true]at hmm;rw[cells6R]at hel
   obtain⟨ps,hol,hop⟩:=exists_list layNone (fun i (y:LayR)=>(∀j u,(recC y)[j]?=some u→W.cell? ((x.add (i*6)).add j)=some u)∧RecOk W y) len (by
    intro i hi;obtain⟨cs,hc,ht⟩:=hel i (by omega);obtain⟨y0,y1,y2,y3,y4,y5,k,hlen,t0,t1,t2,t3,t4,t5⟩:=trod_struct6 Tryz.underlying37 ht;rw[cells6R]at hlen;obtain⟨_,_,hat⟩:=World.cells?_some hc
    match cs,hlen with
    | [v0,v1,v2,v3,v4,v5],_=>
     dsimp only at t0 t1 t2 t3 t4 t5;rw[cells1I]at t0;rw[cells1L]at t1 t2;rw[cells1B]at t3;rw[cells1P]at t4;rw[cells1Q]at t5;simp only[List.drop_zero,List.drop_succ_cons,List.take_succ_cons,List.take_zero]at t0 t1 t2 t3 t4 t5;obtain⟨kd,e0,-,w0⟩:=DataW.trod_int Tryz.underlying3 t0;obtain⟨td,e1,-,w1⟩:=DataW.trod_int Tryz.underlying2 t1;obtain⟨id,e2,-,w2⟩:=DataW.trod_int Tryz.underlying2 t2;obtain⟨yes,e3,-⟩:=DataW.trod_bool Tryz.underlying4 t3;obtain⟨ap,cp,P,e4,hp⟩:=field_ints t4;obtain⟨aq,cq,Q,e5,hq⟩:=field_puts t5;simp only[List.cons.injEq,and_true]at e0 e1 e2 e3;subst e0 e1 e2 e3 e4 e5;refine⟨⟨⟨kd,td,id,yes,P,Q⟩,ap,cp,aq,cq⟩,?_,hp,hq,bounds_i64 w1,bounds_i64 w2⟩;intro j u hu
     match j,hu with
     | 0,hu | 1,hu | 2,hu | 3,hu | 4,hu | 5,hu=>
      simp[recC]at hu;subst hu;exact hat _ (by omega)
     | j+6,hu=>simp[recC]at hu)
   exact⟨ps,hol.symm,.inr ⟨x,rfl,by omega,hm,fun i hi=>(hop i (by omega)).1⟩,fun i hi=>(hop i (by omega)).2⟩
theorem remK_len_le {α:Type} {key:α→Int} {t:Int} {l:List α}:(remK key t l).length≤l.length:=remK_sub.length_le
theorem keyB_ins {α:Type} {key:α→Int} {x:α} {l:List α} {t:Int} (h:keyB key l t=false) (hx:key x≠t):keyB key (insK key x l) t=false:=by
 rw[keyB_not]at h ⊢;intro y hy;rcases insK_mem.1 hy with rfl | hy
 · exact hx
 · exact h y hy
theorem keyB_rem {α:Type} {key:α→Int} {l:List α} {t u:Int} (h:keyB key l t=false):keyB key (remK key u l) t=false:=by
 rw[keyB_not]at h ⊢;intro y hy;exact h y (remK_sub.mem hy)
theorem left_spec {t:Int} {yes:Bool}:∀{l:List MsgV} {m:MsgV},m∈left t yes l→∃m0∈l,(m=m0∧m0.by_≠t)∨(yes=false∧m=back m0∧m0.by_=t)
 | [],m,h=>by simp[left]at h
 | x::l,m,h=>by
  unfold left at h;by_cases hx:x.by_=t
  · rw[if_pos hx]at h;cases yes with
    | true=>
     rw[if_pos rfl]at h;obtain⟨m0,h0,h1⟩:=left_spec h;exact⟨m0,by simp[h0],h1⟩
    | false=>
     rw[if_neg (by simp)]at h;rcases List.mem_cons.1 h with rfl | h
     · exact⟨x,by simp,.inr ⟨rfl,rfl,hx⟩⟩
     · obtain⟨m0,h0,h1⟩:=left_spec h;exact⟨m0,by simp[h0],h1⟩
  · rw[if_neg hx]at h;rcases List.mem_cons.1 h with rfl | h
    · exact⟨m,by simp,.inl ⟨rfl,hx⟩⟩
    · obtain⟨m0,h0,h1⟩:=left_spec h;exact⟨m0,by simp[h0],h1⟩
theorem left_keys {β:Type} (f:MsgV→β) (hf:∀m,f (back m)=f m) (t:Int) (yes:Bool):∀l:List MsgV,((left t yes l).map f).Sublist (l.map f)
 | []=>by simp[left]
 | x::l=>by
  unfold left;by_cases hx:x.by_=t
  · rw[if_pos hx];cases yes with
    | true=>
     rw[if_pos rfl];exact(left_keys f hf t true l).cons _
    | false=>
     rw[if_neg (by simp),List.map_cons,List.map_cons,hf];exact(left_keys f hf t false l).cons_cons _
  · rw[if_neg hx];exact(left_keys f hf t yes l).cons_cons _
theorem left_len (t:Int) (yes:Bool) (l:List MsgV):(left t yes l).length≤l.length:=by
 have:=(left_keys (fun m=>m.id) (fun _=>rfl) t yes l).length_le;simpa using this
theorem makeZ_at {b i:Int} (hb:brokerB b=true) (h1:1≤i) (h2:i<4294967296):makeZ b i=b*4294967296+i:=by
 unfold makeZ;rw[if_pos ⟨hb,h1,h2⟩]
theorem come_spec {b:Int} (hb:brokerB b=true):∀{l:List (ByteArray×ByteArray)} {i q:Int},1≤i→i+(l.length:Int)≤4294967296→∀m∈come b i q l,q≤m.seq∧m.seq<q+(l.length:Int)∧b*4294967296+i≤m.id∧m.id<b*4294967296+i+(l.length:Int)∧(m.queue,m.body)∈l∧m.count=0∧m.by_=0
 | [],_,_,_,_,m,h=>by simp[come]at h
 | p::l,i,q,h1,h2,m,h=>by
  simp only[List.length_cons,Int.natCast_add,Int.natCast_one]at h2 ⊢;unfold come at h;rcases List.mem_cons.1 h with rfl | h
  · rw[makeZ_at hb h1 (by omega)];refine⟨by dsimp only;omega,by dsimp only;omega,by dsimp only;omega,by dsimp only;omega,by simp,rfl,rfl⟩
  · obtain⟨a1,a2,a3,a4,a5,a6,a7⟩:=come_spec hb (i:=i+1) (q:=q+1) (by omega) (by omega) m h;exact⟨by omega,by omega,by omega,by omega,List.mem_cons_of_mem _ a5,a6,a7⟩
theorem come_rising {b:Int} (hb:brokerB b=true):∀{l:List (ByteArray×ByteArray)} {i q:Int},1≤i→i+(l.length:Int)≤4294967296→Rising MsgV.seq (come b i q l)∧(come b i q l).Pairwise (fun a c=>a.id≠c.id)
 | [],_,_,_,_=>by simp[come]
 | p::l,i,q,h1,h2=>by
  simp only[List.length_cons,Int.natCast_add,Int.natCast_one]at h2;unfold come;have hs:=come_spec hb (l:=l) (i:=i+1) (q:=q+1) (by omega) (by omega);obtain⟨r1,r2⟩:=come_rising hb (l:=l) (i:=i+1) (q:=q+1) (by omega) (by omega);refine⟨List.pairwise_cons.2 ⟨fun m hm=>?_,r1⟩,List.pairwise_cons.2 ⟨fun m hm=>?_,r2⟩⟩
  · have:=(hs m hm).1;dsimp only;omega
  · have:=(hs m hm).2.2.1;dsimp only;rw[makeZ_at hb h1 (by omega)];omega
theorem home_of {b t:Int} (hb:brokerB b=true) (h1:b*4294967296<t) (h2:t<b*4294967296+4294967296):homeZ t=b:=by
 have hb:=of_decide_eq_true hb;exact(homeZ_is hb.1 hb.2).2 ⟨h1,h2⟩
theorem endS_may {s:StV} {t:Int} {yes:Bool} {l:List (ByteArray×ByteArray)} (h:MayP s) (ht:0<homeZ t) (hn:keyB EndV.tid s.ends t=false) (he:s.ends.length<2000) (hl:yes=true→∀p∈l,putB p=true)
  (hr:yes=true→s.ms.length+l.length≤72∧s.nextId+(l.length:Int)≤4294967296∧s.nextSeq+(l.length:Int)≤1099511627776):MayP (endS s t yes l):=by
 have hd:∃d:Nat,d=(if yes=true then l.length else 0):=⟨_,rfl⟩
 obtain⟨d,hd⟩:=hd;have hdi:(if yes=true then (l.length:Int)else 0)=(d:Int):=by rw[hd];split<;>simp
 have hroom:s.ms.length+d≤72∧s.nextId+(d:Int)≤4294967296∧s.nextSeq+(d:Int)≤1099511627776:=by
  rw[hd];split
  · exact hr ‹_›
  · have:=h.lms;have:=h.id2;have:=h.seq2;omega
 obtain⟨c,hc⟩:=ε ((if yes=true then come s.broker s.nextId s.nextSeq l else []));have hcl:c.length=d:=by rw[hc,hd];split<;>simp[come_len]
 have hcs:∀m∈c,s.nextSeq≤m.seq∧m.seq<s.nextSeq+(d:Int)∧s.broker*4294967296+s.nextId≤m.id∧m.id<s.broker*4294967296+s.nextId+(d:Int)∧putB (m.queue,m.body)=true∧m.count=0∧m.by_=0:=by
  intro m hm;rw[hc]at hm;by_cases hy:yes=true
  · rw[if_pos hy]at hm hd;subst hd;obtain⟨a1,a2,a3,a4,a5,a6,a7⟩:=come_spec h.broker h.id1 hroom.2.1 m hm;exact⟨a1,a2,a3,a4,hl hy _ a5,a6,a7⟩
  · rw[if_neg hy]at hm;cases hm
 have hcr:Rising MsgV.seq c∧c.Pairwise (fun a b=>a.id≠b.id):=by
  rw[hc];by_cases hy:yes=true
  · rw[if_pos hy];rw[if_pos hy]at hd;subst hd;exact come_rising h.broker h.id1 hroom.2.1
  · rw[if_neg hy];simp
 have hms:(endS s t yes l).ms=left t yes s.ms++c:=by rw[hc];rfl
 have hni:(endS s t yes l).nextId=s.nextId+(d:Int):=by rw[←hdi];rfl
 have hns:(endS s t yes l).nextSeq=s.nextSeq+(d:Int):=by rw[←hdi];rfl
 have hen:(endS s t yes l).ends=insK EndV.tid ⟨t,yes⟩ s.ends:=rfl;have hll:=left_len t yes s.ms;have hid1:=h.id1;have hseq1:=h.seq1;have hb:=of_decide_eq_true h.broker;have hout:∀u:Int,u≠t→keyB EndV.tid s.ends u=false→keyB EndV.tid (insK EndV.tid ⟨t,yes⟩ s.ends) u=false:=fun u hu h0=>keyB_ins h0 (fun e=>hu e.symm)
 refine⟨h.broker,by rw[hni];omega,by rw[hni];omega,by rw[hns];omega,by rw[hns];omega,h.tx1,h.tx2,by rw[hms,List.length_append];omega,Nat.le_trans remK_len_le h.lwaits,by rw[hen,insK_len];omega,Nat.le_trans remK_len_le h.lopen,h.lnoes,?_,?_,?_,?_,?_,?_,remK_rising h.waitsR,?_,remK_rising h.openR,?_,h.noesR⟩
 · intro m hm;rw[hms]at hm;unfold msgP;rw[hni,hns,hen];rcases List.mem_append.1 hm with hm | hm
   · obtain⟨m0,h0,hcase⟩:=left_spec hm;obtain⟨p1,p2,p3,p4,p5,p6,p7,p8,p9⟩:=h.ms m0 h0;rcases hcase with⟨rfl,hby⟩ | ⟨-,rfl,hby⟩
     · refine⟨p1,by omega,p3,?_,p5,p6,p7,p8,?_⟩
       · show m.id-s.broker*4294967296<_;omega
       · rcases p9 with p9 | ⟨p9,p10⟩
         · exact .inl p9
         · exact .inr ⟨p9,hout _ hby p10⟩
     · refine⟨p1,by show m0.seq<_;omega,p3,?_,p5,p6,?_,?_,.inl rfl⟩
       · show m0.id-s.broker*4294967296<_;omega
       · show 0≤min 1000 (m0.count+1);omega
       · show min 1000 (m0.count+1)≤1000;omega
   · obtain⟨a1,a2,a3,a4,a5,a6,a7⟩:=hcs m hm;unfold putB at a5;simp only[Bool.and_eq_true]at a5;refine⟨by omega,a2,(show homeZ m.id=s.broker from home_of h.broker (by omega) (by omega)),?_,a5.1,a5.2,by omega,by omega,.inl a7⟩;show m.id-s.broker*4294967296<_;omega
 · rw[hms];refine List.pairwise_append.2 ⟨?_,hcr.1,fun a ha c hc=>?_⟩
   · have:=List.pairwise_map.1 ((List.pairwise_map (R:=fun a b:Int=>a<b) (f:=MsgV.seq)).2 h.seqs |>.sublist (left_keys MsgV.seq (fun _=>rfl) t yes s.ms));exact this
   · obtain⟨m0,h0,hcase⟩:=left_spec ha;have h1:=(h.ms m0 h0).2.1;have h2:=(hcs c hc).1;have h3:a.seq=m0.seq:=by
      rcases hcase with⟨rfl,-⟩ | ⟨-,rfl,-⟩<;>rfl
     omega
 · rw[hms];refine List.pairwise_append.2 ⟨?_,hcr.2,fun a ha c hc=>?_⟩
   · have:=List.pairwise_map.1 ((List.pairwise_map (R:=fun a b:Int=>a≠b) (f:=MsgV.id)).2 h.ids |>.sublist (left_keys MsgV.id (fun _=>rfl) t yes s.ms));exact this
   · obtain⟨m0,h0,hcase⟩:=left_spec ha;have h1:=(h.ms m0 h0).2.2.2.1;have h2:=(hcs c hc).2.2.1;have h3:a.id=m0.id:=by
      rcases hcase with⟨rfl,-⟩ | ⟨-,rfl,-⟩<;>rfl
     omega
 · intro e he;rw[hen]at he;rcases insK_mem.1 he with rfl | he
   · exact ht
   · exact h.ends e he
 · rw[hen];exact insK_rising h.endsR (keyB_not.1 hn)
 · intro x hx;obtain⟨h1,h2⟩:=(remK_mem h.waitsR).1 hx;obtain⟨a1,a2,a3⟩:=h.waits x h1;exact⟨a1,hout _ h2 a2,a3⟩
 · intro p hp;obtain⟨h1,h2⟩:=(remK_mem h.openR).1 hp;obtain⟨a1,a2,a3⟩:=h.open_ p h1;exact⟨a1,hout _ h2 a2,keyB_rem a3⟩
 · intro p hp;obtain⟨a1,e,he,a2,a3⟩:=h.noes p hp;exact⟨a1,e,insK_mem.2 (.inr he),a2,a3⟩
structure Roomy (s:StV):Prop where
 ms:s.ms.length+pending s≤72
 id:s.nextId+(pending s:Int)≤4294967296
 seq:s.nextSeq+(pending s:Int)≤1099511627776
theorem sum_ins (x:BrV):∀l:List BrV,((insK BrV.tid x l).map fun y=>y.puts.length).sum=x.puts.length+(l.map fun y=>y.puts.length).sum
 | []=>by simp[insK]
 | z::l=>by
  rw[insK_cons];split
  · rw[List.map_cons,List.sum_cons,sum_ins x l,List.map_cons,List.sum_cons];omega
  · simp
theorem sum_rem (t:Int):∀l:List BrV,((remK BrV.tid t l).map fun y=>y.puts.length).sum+(((waitOf l t).map BrV.puts).getD []).length=(l.map fun y=>y.puts.length).sum
 | []=>by simp[remK,waitOf]
 | z::l=>by
  unfold remK waitOf;by_cases hz:z.tid=t
  · rw[List.eraseP_cons_of_pos (by simpa using hz),List.find?_cons_of_pos (by simpa using hz)];simp;omega
  · rw[List.eraseP_cons_of_neg (by simpa using hz),List.find?_cons_of_neg (by simpa using hz)];have ih:=sum_rem t l;unfold remK waitOf at ih;simp only[List.map_cons,List.sum_cons];omega
theorem endS_roomy {s:StV} {t:Int} {yes:Bool} {l:List (ByteArray×ByteArray)} (h:Roomy s) (hr:yes=true→s.ms.length+(l.length+((remK BrV.tid t s.waits).map fun y=>y.puts.length).sum)≤72∧s.nextId+((l.length+((remK BrV.tid t s.waits).map fun y=>y.puts.length).sum:Nat):Int)≤4294967296∧
  s.nextSeq+((l.length+((remK BrV.tid t s.waits).map fun y=>y.puts.length).sum:Nat):Int)≤1099511627776):Roomy (endS s t yes l):=by
 have hs:=sum_rem t s.waits;have hp:pending (endS s t yes l)=((remK BrV.tid t s.waits).map fun y=>y.puts.length).sum:=rfl;have hp0:pending s=(s.waits.map fun y=>y.puts.length).sum:=rfl;have hll:=left_len t yes s.ms;obtain⟨h1,h2,h3⟩:=h;cases yes with
 | true=>
  obtain⟨r1,r2,r3⟩:=hr rfl;refine⟨?_,?_,?_⟩
  · rw[hp];show(left t true s.ms++(if true=true then come s.broker s.nextId s.nextSeq l else [])).length+_≤72;rw[if_pos rfl,List.length_append,come_len];omega
  · rw[hp];show s.nextId+(if true=true then (l.length:Int)else 0)+_≤_;rw[if_pos rfl];omega
  · rw[hp];show s.nextSeq+(if true=true then (l.length:Int)else 0)+_≤_;rw[if_pos rfl];omega
 | false=>
  refine⟨?_,?_,?_⟩
  · rw[hp];show(left t false s.ms++(if false=true then come s.broker s.nextId s.nextSeq l else [])).length+_≤72;rw[if_neg (by simp),List.length_append,List.length_nil];omega
  · rw[hp];show s.nextId+(if false=true then (l.length:Int)else 0)+_≤_;rw[if_neg (by simp)];omega
  · rw[hp];show s.nextSeq+(if false=true then (l.length:Int)else 0)+_≤_;rw[if_neg (by simp)];omega
theorem new_may {b:Int} (h:brokerB b=true):MayP (newS b)∧Roomy (newS b):=by
 unfold newS;rw[if_pos h];exact⟨⟨h,by dsimp only;omega,by dsimp only;omega,by dsimp only;omega,by dsimp only;omega,by dsimp only;omega,by dsimp only;omega,by simp,by simp,by simp,by simp,by simp,by simp,by simp,by simp,by simp,by simp,by simp,by simp,by simp,by simp,by simp,by simp⟩,⟨by simp[pending],by simp[pending],by simp[pending]⟩⟩
theorem pendP_filter {b:Int} {p:PendV} (h:pendP b p) (f:Int→Bool) (hl:0<(p.parts.filter f).length):pendP b ⟨p.tid,p.parts.filter f⟩:=by
 obtain⟨h1,h2,h3,h4⟩:=h;obtain⟨a1,a2,a3⟩:=risingB_iff.1 h3;refine⟨h1,hl,risingB_iff.2 ⟨fun x hx=>a1 x (List.mem_filter.1 hx).1,a2.filter _,Nat.le_trans (List.length_filter_le _ _) a3⟩,fun hm=>h4 (List.mem_filter.1 hm).1⟩
theorem remK_len {α:Type} {key:α→Int} {t:Int} {l:List α} (h:∃x∈l,key x=t):(remK key t l).length+1=l.length:=by
 obtain⟨x,hx,ht⟩:=h;unfold remK;have:=List.length_eraseP_of_mem (p:=fun y=>decide (key y=t)) hx (by simpa using ht);have hp:=List.length_pos_of_mem hx;omega
theorem fullE_no {s:StV} {r:RecV} (h:fullE s r=0):(r.kind=3∨r.kind=5∨r.kind=7∨r.kind=8→s.ends.length<2000)∧(r.kind=4→s.waits.length<2000)∧(r.kind=6→s.open_.length<2000)∧(r.kind=8→0<r.parts.length→s.noes.length<2000)∧(r.kind=4∨r.kind=7→fitsB s r.puts.length=true):=by
 unfold fullE at h;split at h
 · cases h
 · rename_i hn;refine⟨fun hk=>?_,fun hk=>?_,fun hk=>?_,fun hk hp=>?_,fun hk=>?_⟩
   · exact Nat.lt_of_not_le (fun hl=>hn (.inl ⟨hk,hl⟩))
   · exact Nat.lt_of_not_le (fun hl=>hn (.inr (.inl ⟨hk,hl⟩)))
   · exact Nat.lt_of_not_le (fun hl=>hn (.inr (.inr (.inl ⟨hk,hl⟩))))
   · exact Nat.lt_of_not_le (fun hl=>hn (.inr (.inr (.inr (.inl ⟨hk,hp,hl⟩)))))
   · cases hf:fitsB s r.puts.length with
     | true=>rfl
     | false=>exact absurd (.inr (.inr (.inr (.inr ⟨hk,hf⟩)))) hn
theorem fitsB_says {s:StV} {n:Nat} (h:fitsB s n=true):s.ms.length+(pending s+n)≤72∧s.nextId+((pending s+n:Nat):Int)≤4294967296∧s.nextSeq+((pending s+n:Nat):Int)≤1099511627776:=by
 have:=of_decide_eq_true h;omega
theorem take_map (s:StV) (i t:Int):(s.ms.map fun m=>if m.id=i then {m with by_:=t}else m).map MsgV.id=s.ms.map MsgV.id∧(s.ms.map fun m=>if m.id=i then {m with by_:=t}else m).map MsgV.seq=s.ms.map MsgV.seq:=by
 constructor
 · rw[List.map_map];refine List.map_congr_left (fun m _=>?_);show MsgV.id (if m.id=i then _ else m)=m.id;split<;>rfl
 · rw[List.map_map];refine List.map_congr_left (fun m _=>?_);show MsgV.seq (if m.id=i then _ else m)=m.seq;split<;>rfl
theorem layS_may {s:StV} {r:RecV} (h:MayP s) (hr:Roomy s) (hc:CanP s r):MayP (layS s r)∧Roomy (layS s r):=by
 obtain⟨c4,c6,c68,ct⟩:=recB_kind hc.rec_;obtain⟨f1,f2,f3,f4,f5⟩:=fullE_no hc.full;have hsum:=sum_rem r.tid s.waits;have hp0:pending s=(s.waits.map fun y=>y.puts.length).sum:=rfl;unfold layS;by_cases k1:r.kind=1
 · rw[if_pos k1];obtain⟨-,a2⟩:=hc.k1 k1;have:=h.tx1;exact⟨⟨h.broker,h.id1,h.id2,h.seq1,h.seq2,by show 0≤s.tx+1;omega,by show s.tx+1≤200;omega,h.lms,h.lwaits,h.lends,h.lopen,h.lnoes,h.ms,h.seqs,h.ids,h.ends,h.endsR,h.waits,h.waitsR,h.open_,h.openR,h.noes,h.noesR⟩,⟨hr.ms,hr.id,hr.seq⟩⟩
 rw[if_neg k1];by_cases k2:r.kind=2
 · rw[if_pos k2];have hov:=hc.over (by omega);obtain⟨e1,e2⟩:=take_map s r.id r.tid;refine⟨⟨h.broker,h.id1,h.id2,h.seq1,h.seq2,h.tx1,h.tx2,by show(s.ms.map _).length≤72;rw[List.length_map];exact h.lms,h.lwaits,h.lends,h.lopen,h.lnoes,?_,?_,?_,h.ends,h.endsR,h.waits,h.waitsR,h.open_,h.openR,h.noes,h.noesR⟩,⟨by show(s.ms.map _).length+pending s≤72;rw[List.length_map];exact hr.ms,hr.id,hr.seq⟩⟩
   · intro m hm;obtain⟨m0,h0,rfl⟩:=List.mem_map.1 hm;obtain⟨p1,p2,p3,p4,p5,p6,p7,p8,p9⟩:=h.ms m0 h0;split
     · exact⟨p1,p2,p3,p4,p5,p6,p7,p8,.inr ⟨ct,hov⟩⟩
     · exact⟨p1,p2,p3,p4,p5,p6,p7,p8,p9⟩
   · have:=(List.pairwise_map (R:=fun a b:Int=>a<b) (f:=MsgV.seq)).2 h.seqs;rw[←e2]at this;exact List.pairwise_map.1 this
   · have:=(List.pairwise_map (R:=fun a b:Int=>a≠b) (f:=MsgV.id)).2 h.ids;rw[←e1]at this;exact List.pairwise_map.1 this
 rw[if_neg k2];by_cases k3:r.kind=3
 · rw[if_pos k3];exact⟨endS_may h ct (hc.over (by omega)) (f1 (by omega)) (by simp) (by simp),endS_roomy hr (by simp)⟩
 rw[if_neg k3];by_cases k4:r.kind=4
 · rw[if_pos k4];obtain⟨a1,a2⟩:=hc.k4 k4;obtain⟨b1,b2,b3⟩:=fitsB_says (f5 (by omega));have hov:=hc.over (by omega);have hs:pending {s with waits:=insK BrV.tid ⟨r.tid,r.puts⟩ s.waits}=r.puts.length+pending s:=sum_ins ⟨r.tid,r.puts⟩ s.waits;refine⟨⟨h.broker,h.id1,h.id2,h.seq1,h.seq2,h.tx1,h.tx2,h.lms,?_,h.lends,h.lopen,h.lnoes,h.ms,h.seqs,h.ids,h.ends,h.endsR,?_,insK_rising h.waitsR (keyB_not.1 a1),?_,h.openR,h.noes,h.noesR⟩,⟨?_,?_,?_⟩⟩
   · show(insK BrV.tid ⟨r.tid,r.puts⟩ s.waits).length≤2000;rw[insK_len];exact f2 k4
   · intro x hx;rcases insK_mem.1 hx with rfl | hx
     · exact⟨ct,hov,c4 (.inl k4)⟩
     · exact h.waits x hx
   · intro p hp;obtain⟨p1,p2,p3⟩:=h.open_ p hp;refine⟨p1,p2,keyB_ins p3 (fun e=>a2 ?_)⟩;have e:r.tid=p.tid:=e;rw[e];exact p1.1
   · rw[hs];show s.ms.length+_≤72;omega
   · rw[hs];show s.nextId+_≤_;omega
   · rw[hs];show s.nextSeq+_≤_;omega
 rw[if_neg k4];by_cases k5:r.kind=5
 · rw[if_pos k5];obtain⟨x,hx,hxt,hw⟩:=waitOf_some (hc.k5 k5);rw[hw]at hsum ⊢;simp only[Option.map_some,Option.getD_some]at hsum ⊢;obtain⟨q1,q2,q3⟩:=h.waits x hx;obtain⟨r1,r2,r3⟩:=hr;exact⟨endS_may h ct (hc.over (by omega)) (f1 (by omega)) (fun _=>(putsB_says q3).1) (fun _=>by omega),endS_roomy ⟨r1,r2,r3⟩ (fun _=>by omega)⟩
 rw[if_neg k5];by_cases k6:r.kind=6
 · rw[if_pos k6];obtain⟨a1,a2,a3,a4⟩:=hc.k678 (.inl k6);refine⟨⟨h.broker,h.id1,h.id2,h.seq1,h.seq2,h.tx1,h.tx2,h.lms,h.lwaits,h.lends,?_,h.lnoes,h.ms,h.seqs,h.ids,h.ends,h.endsR,h.waits,h.waitsR,?_,insK_rising h.openR (keyB_not.1 (a4 k6)),h.noes,h.noesR⟩,⟨hr.ms,hr.id,hr.seq⟩⟩
   · show(insK PendV.tid ⟨r.tid,r.parts⟩ s.open_).length≤2000;rw[insK_len];exact f3 k6
   · intro p hp;rcases insK_mem.1 hp with rfl | hp
     · exact⟨⟨a1,c6 k6,c68 (.inl k6),a3⟩,hc.over (by omega),a2⟩
     · exact h.open_ p hp
 rw[if_neg k6];by_cases k7:r.kind=7
 · rw[if_pos k7];obtain⟨b1,b2,b3⟩:=fitsB_says (f5 (by omega));exact⟨endS_may h ct (hc.over (by omega)) (f1 (by omega)) (fun _=>(putsB_says (c4 (.inr k7))).1) (fun _=>by omega),endS_roomy hr (fun _=>by omega)⟩
 rw[if_neg k7];by_cases k8:r.kind=8
 · rw[if_pos k8];obtain⟨a1,a2,a3,-⟩:=hc.k678 (.inr (.inr k8));have hm:=endS_may (yes:=false) (l:=[]) h ct (hc.over (by omega)) (f1 (by omega)) (by simp) (by simp);have hro:=endS_roomy (t:=r.tid) (yes:=false) (l:=[]) hr (by simp);dsimp only;split
   · rename_i hpos;refine⟨⟨hm.broker,hm.id1,hm.id2,hm.seq1,hm.seq2,hm.tx1,hm.tx2,hm.lms,hm.lwaits,hm.lends,hm.lopen,?_,hm.ms,hm.seqs,hm.ids,hm.ends,hm.endsR,hm.waits,hm.waitsR,hm.open_,hm.openR,?_,?_⟩,⟨hro.ms,hro.id,hro.seq⟩⟩
     · show(insK PendV.tid ⟨r.tid,r.parts⟩ s.noes).length≤2000;rw[insK_len];exact f4 k8 hpos
     · intro p hp;rcases insK_mem.1 hp with rfl | hp
       · exact⟨⟨a1,hpos,c68 (.inr k8),a3⟩,⟨r.tid,false⟩,insK_mem.2 (.inl rfl),rfl,rfl⟩
       · exact hm.noes p hp
     · refine insK_rising h.noesR (fun p hp e=>?_);obtain⟨-,x,hx,hxt,-⟩:=h.noes p hp;exact keyB_not.1 (hc.over (by omega)) x hx (hxt.trans e)
   · exact⟨hm,hro⟩
 rw[if_neg k8];have k9:r.kind=9:=by
  obtain⟨z1,z9,-⟩:=recB_says hc.rec_;omega
 obtain⟨p,hp,hin⟩:=hc.k9 k9;obtain⟨hpm,hpt⟩:=pendOf_some hp;rw[hp];simp only[Option.getD_some];obtain⟨pp,x,hx,hxt,hxy⟩:=h.noes p hpm;have hrl:=remK_len (key:=PendV.tid) (t:=r.tid) (l:=s.noes) ⟨p,hpm,hpt⟩;have hln:=h.lnoes;split
 · rename_i hpos;refine⟨⟨h.broker,h.id1,h.id2,h.seq1,h.seq2,h.tx1,h.tx2,h.lms,h.lwaits,h.lends,h.lopen,?_,h.ms,h.seqs,h.ids,h.ends,h.endsR,h.waits,h.waitsR,h.open_,h.openR,?_,?_⟩,⟨hr.ms,hr.id,hr.seq⟩⟩
   · show(insK PendV.tid _ (remK PendV.tid r.tid s.noes)).length≤2000;rw[insK_len];omega
   · intro z hz;rcases insK_mem.1 hz with rfl | hz
     · have:=pendP_filter pp (fun n=>decide (n≠r.parts.getD 0 0)) hpos;rw[hpt]at this;exact⟨this,x,hx,hxt.trans hpt,hxy⟩
     · exact h.noes z ((remK_mem h.noesR).1 hz).1
   · exact insK_rising (remK_rising h.noesR) (fun z hz=>((remK_mem h.noesR).1 hz).2)
 · refine⟨⟨h.broker,h.id1,h.id2,h.seq1,h.seq2,h.tx1,h.tx2,h.lms,h.lwaits,h.lends,h.lopen,Nat.le_trans remK_len_le h.lnoes,h.ms,h.seqs,h.ids,h.ends,h.endsR,h.waits,h.waitsR,h.open_,h.openR,?_,remK_rising h.noesR⟩,⟨hr.ms,hr.id,hr.seq⟩⟩;intro z hz;exact h.noes z ((remK_mem h.noesR).1 hz).1
theorem applyS_may {s:StV} (r:RecV) (h:MayP s) (hr:Roomy s):MayP (applyS s r)∧Roomy (applyS s r):=by
 unfold applyS;split
 · rename_i hc;exact layS_may h hr (canE_zero hc.2)
 · exact⟨h,hr⟩
end Go.Proofs.YtkjpjfghklgdhaaGreat
