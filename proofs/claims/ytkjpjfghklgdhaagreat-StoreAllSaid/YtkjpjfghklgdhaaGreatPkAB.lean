/-
  PkAB
-/
import Derived.Test.YtkjpjfghklgdhaaGreatPkAA
set_option maxHeartbeats 4000000
set_option maxRecDepth 100000
namespace Go.Proofs.YtkjpjfghklgdhaaGreat
open Go.RowKit
structure RecV where
 kind:Int
 tid:Int
 id:Int
 yes:Bool
 parts:List Int
 puts:List (ByteArray×ByteArray)
structure PacV where
 kind:Int
 src:Int
 dst:Int
 tid:Int
 n:Int
 yes:Bool
def tidB (t:Int):Bool:=decide (0<homeZ t)
def pacB (p:PacV):Bool:=
 decide (1≤p.kind∧p.kind≤5)&&(brokerB p.src&&(brokerB p.dst&&(tidB p.tid&&((!p.yes || decide (p.kind=2∨p.kind=3))&&(if p.kind=1 then decide (1≤p.n∧p.n≤10)else decide (p.n=0))))))
def PacV.cells (p:PacV):Array Value:=#[.int .i64 p.kind,.int .i64 p.src,.int .i64 p.dst,.int .i64 p.tid,.int .i64 p.n,.bool p.yes]
def recB (r:RecV):Bool:=
 tidB r.tid&&((decide (r.kind=2) || decide (r.id=0))&&((decide (r.kind=5) || !r.yes)&&((decide (r.kind=4∨r.kind=7) || decide (r.puts.length=0))&&((decide (r.kind=6∨r.kind=8∨r.kind=9) || decide (r.parts.length=0))&&
  (if r.kind=1∨r.kind=3∨r.kind=5 then true else if r.kind=2 then tidB r.id else if r.kind=4∨r.kind=7 then putsB r.puts
   else if r.kind=6 then (decide (0<r.parts.length)&&risingB r.parts)else if r.kind=8 then risingB r.parts else if r.kind=9 then (decide (r.parts.length=1)&&brokerB (r.parts.getD 0 0))else false)))))
def RecV.cells (r:RecV) (ap:Option Addr) (cp:Nat) (aq:Option Addr) (cq:Nat):Array Value:=#[.int .i64 r.kind,.int .i64 r.tid,.int .i64 r.id,.bool r.yes,.slice ap r.parts.length cp,.slice aq r.puts.length cq]
theorem refRecord_calls (r:RecV) {w:World} {ap aq:Option Addr} {cp cq:Nat} (hp:Il w ap cp r.parts) (hq:Ps w aq cq r.puts):
 Calls Tryz.prog 35 #[.agg (r.cells ap cp aq cq)] w fun e w'=>e=.returned (.bool (recB r))∧Turn [] w w':=by
 obtain⟨kd,t,d,y,P,Q⟩:=r;have hp:Il w ap cp P:=hp;have hq:Ps w aq cq Q:=hq;have hpl:=hp.len;have hql:=hq.len;have CT:=η (fun w=>refTid_calls t w);have CD:=η (fun w=>refTid_calls d w)
 have CP:Hid (∀wx,Turn [] w wx→Calls Tryz.prog 58 #[.slice aq Q.length cq] wx fun e w'=>e=.returned (.bool (putsB Q))∧Hid (Turn [] w w')):=η (fun wx tw=>by
  refine(refPuts_calls (hq.turn tw)).mono ?_;rintro e w' ⟨rfl,q⟩
  exact⟨rfl,η (tw.trans q)⟩)
 have CR:Hid (∀wx,Turn [] w wx→Calls Tryz.prog 86 #[.slice ap P.length cp] wx fun e w'=>e=.returned (.bool (risingB P))∧Hid (Turn [] w w')):=η (fun wx tw=>by
  have hpx:Il wx ap cp P:=by
   rcases hp with h | ⟨A,h1,h2,h3,h4,h5⟩
   · exact .inl h
   · exact .inr ⟨A,h1,h2,h3,fun i hi=>tw.cell (h4 i hi),h5⟩
  refine(refRising_calls hpx).mono ?_;rintro e w' ⟨rfl,dd,rfl⟩
  exact⟨rfl,η (tw.trans (Turn.drewN [] wx dd))⟩)
 have HR:Hid (recB ⟨kd,t,d,y,P,Q⟩=(decide (0<homeZ t)&&((decide (kd=2) || decide (d=0))&&((decide (kd=5) || !y)&&((decide (kd=4∨kd=7) || decide (Q.length=0))&&((decide (kd=6∨kd=8∨kd=9) || decide (P.length=0))&&
  (if kd=1∨kd=3∨kd=5 then true else if kd=2 then decide (0<homeZ d)else if kd=4∨kd=7 then putsB Q
   else if kd=6 then (decide (0<P.length)&&risingB P)else if kd=8 then risingB P else if kd=9 then (decide (P.length=1)&&brokerB (P.getD 0 0))else false))))))):=η rfl
 obtain⟨ans,ha⟩:=ε (recB ⟨kd,t,d,y,P,Q⟩);obtain⟨r1,h1⟩:=ε (decide (0<homeZ t));obtain⟨r2,h2⟩:=ε (decide (0<homeZ d));obtain⟨r3,h3⟩:=ε (putsB Q);obtain⟨r4,h4⟩:=ε (risingB P);rw[←h1]at CT HR;rw[←h2]at CD HR;rw[←h3]at CP HR;rw[←h4]at CR HR;rw[←ha]at HR ⊢;have HPA:=η hp;unfold RecV.cells;show Calls _ _ #[.agg #[.int .i64 kd,.int .i64 t,.int .i64 d,.bool y,.slice ap P.length cp,.slice aq Q.length cq]] _ _;have HB0:=η (fun w=>refBroker_calls (P.getD 0 0) w);obtain⟨r5,h5⟩:=ε (brokerB (P.getD 0 0));rw[←h5]at HB0 HR;obtain⟨x0,hx0⟩:=ε (P.getD 0 0);have HX0:=η hx0;rw[←hx0]at HB0;obtain⟨np,hnp⟩:=ε P.length;have HNP:=η hnp;obtain⟨nq,hnq⟩:=ε Q.length;rw[←hnp]at hpl CR HR ⊢;rw[←hnq]at hql CP HR ⊢;clear h1 h2 h3 h4 h5 ha hp hq hx0 hnp hnq;cases r1 with
 | false=>
  have HA:Hid (ans=false):=η (by rw[HR.out];rfl);clear HR;go_in;go_wp2_with fail;refine(CT.out _).mono ?_;rintro e w1 ⟨rfl,rfl⟩;go_wp2;go_ret;exact⟨ret_bool HA.out.symm,Turn.alloc [] w _⟩
 | true=>
 have hkd:kd=1∨kd=2∨kd=3∨kd=4∨kd=5∨kd=6∨kd=7∨kd=8∨(kd≠9∧(kd<1∨9<kd))∨kd=9:=by omega
 have hnq0:(nq:Int)=0∨0<(nq:Int):=by omega
 have hnp0:(np:Int)=0∨0<(np:Int):=by omega
 rcases hkd with rfl | rfl | rfl | rfl | rfl | rfl | rfl | rfl | ⟨hk9,hkd⟩ | rfl
 rotate_left 8
 · have e1:¬kd=1:=by omega
   have e2:¬kd=2:=by omega
   have e3:¬kd=3:=by omega
   have e4:¬kd=4:=by omega
   have e5:¬kd=5:=by omega
   have e6:¬kd=6:=by omega
   have e7:¬kd=7:=by omega
   have e8:¬kd=8:=by omega
   have HA:Hid (ans=false):=η (by rw[HR.out];simp[e1,e2,e3,e4,e5,e6,e7,e8,hk9]);have f1:(kd==1)=false:=by simpa using e1
   have f2:(kd==2)=false:=by simpa using e2
   have f3:(kd==3)=false:=by simpa using e3
   have f4:(kd==4)=false:=by simpa using e4
   have f5:(kd==5)=false:=by simpa using e5
   have f6:(kd==6)=false:=by simpa using e6
   have f7:(kd==7)=false:=by simpa using e7
   have f8:(kd==8)=false:=by simpa using e8
   have f9:(kd==9)=false:=by simpa using hk9
   have g2:(kd != 2)=true:=by simpa using e2
   have g4:(kd != 4)=true:=by simpa using e4
   have g5:(kd != 5)=true:=by simpa using e5
   have g6:(kd != 6)=true:=by simpa using e6
   have g7:(kd != 7)=true:=by simpa using e7
   have g8:(kd != 8)=true:=by simpa using e8
   have g9:(kd != 9)=true:=by simpa using hk9
   clear HR hkd e1 e2 e3 e4 e5 e6 e7 e8 hk9;go_in;go_wp2_with fail;refine(CT.out _).mono ?_;rintro e w1 ⟨rfl,rfl⟩;clear CT;go_wp2
   all_goals go_ret
   all_goals exact⟨ret_bool HA.out.symm,Turn.alloc [] w _⟩
 · by_cases hp1:np=1
   · have HA:Hid (ans=(decide (d=0)&&(!y&&(decide (nq=0)&&r5)))):=η (by rw[HR.out,hp1];simp);obtain⟨b,off,rfl,-,hat⟩:=HPA.out.at (by intro e;have:=HNP.out;rw[e,hp1]at this;simp at this);have h0:=hat 0 (by rw[←HNP.out];omega);rw[Nat.add_zero,←HX0.out]at h0;have h0a:∀o:Obj,(w.alloc o).cell? ⟨b,off,none⟩=some (.int .i64 x0):=fun o=>(Turn.alloc [] w o).cell h0
     subst hp1;clear HR hat;go_in;go_wp2_with fail;refine(CT.out _).mono ?_;rintro e w1 ⟨rfl,rfl⟩;clear CT;go_wp2_with(go_at_call 52;refine(HB0.out _).mono ?_;rintro e w2 ⟨rfl,rfl⟩)
     all_goals go_ret
     all_goals refine⟨ret_bool ?_,Turn.alloc [] w _⟩
     all_goals rw[HA.out]
     all_goals first
      | rfl
      | (simp_all;done)
      | (rw[Bool.eq_iff_iff];simp;omega)
   · have HA:Hid (ans=false):=η (by rw[HR.out];simp[hp1]);have hp2:((np:Int)==1)=false:=by simp;omega
     clear HR hp1;go_in;go_wp2_with fail;refine(CT.out _).mono ?_;rintro e w1 ⟨rfl,rfl⟩;clear CT;go_wp2
     all_goals go_ret
     all_goals exact⟨ret_bool HA.out.symm,Turn.alloc [] w _⟩
 all_goals simp at HR
 all_goals
  go_in;go_wp2_with fail;refine(CT.out _).mono ?_;rintro e w1 ⟨rfl,rfl⟩;clear CT
  go_wp2_with(first
   | (go_at_call 56;refine(CD.out _).mono ?_;rintro e w2 ⟨rfl,rfl⟩;have T2:=η (Turn.alloc [] w (.cells #[.int .i64 0] 0)))
   | (go_at_call 58;refine(CP.out _ ?ht).mono ?_;(case ht=>exact Turn.alloc [] w _);rintro e w2 ⟨rfl,T2⟩)
   | (go_at_call 86;refine(CR.out _ ?ht).mono ?_;(case ht=>exact Turn.alloc [] w _);rintro e w2 ⟨rfl,T2⟩))
 all_goals go_ret
 all_goals refine⟨ret_bool ?_,by first | exact Turn.alloc [] w _ | exact T2.out⟩
 all_goals rw[HR.out]
 all_goals first
  | rfl
  | (simp_all;done)
  | (rw[Bool.eq_iff_iff];simp;omega)
theorem txt_ne {x y:ByteArray} (h:x≠y):(x.toList==y.toList)=false:=by
 rw[beq_eq_false_iff_ne];intro e;exact h (Go.WideShapes.bytes_inj (by simpa[ByteArray.toList_eq]using e))
theorem list_same {α:Type} {d:α} {l m:List α} (hl:l.length=m.length) (h:∀i,i<l.length→l.getD i d=m.getD i d):l=m:=by
 apply List.ext_getElem hl;intro i h1 h2;have:=h i h1;simpa[List.getD,h1,h2]using this
theorem Il.turn {w w':World} {ao:Option Addr} {c:Nat} {l:List Int} (h:Il w ao c l) (t:Turn [] w w'):Il w' ao c l:=by
 rcases h with h | ⟨A,h1,h2,h3,h4,h5⟩
 · exact .inl h
 · exact .inr ⟨A,h1,h2,h3,fun i hi=>t.cell (h4 i hi),h5⟩
def eqRecB (a b:RecV):Bool:=decide (a.kind=b.kind)&&(decide (a.tid=b.tid)&&(decide (a.id=b.id)&&(decide (a.yes=b.yes)&&(decide (a.parts=b.parts)&&decide (a.puts=b.puts)))))
theorem eqRecB_iff (a b:RecV):eqRecB a b=true↔a=b:=by
 obtain⟨k1,t1,d1,y1,p1,q1⟩:=a;obtain⟨k2,t2,d2,y2,p2,q2⟩:=b;simp[eqRecB]
structure OwnV where
 id:Bool
 yes:Bool
 least:Int
 most:Int
 puts:Int
def OwnV.cells (o:OwnV):Array Value:=#[.bool o.id,.bool o.yes,.int .i64 o.least,.int .i64 o.most,.int .i64 o.puts]
def ownV (k:Int):OwnV:=
 if k=2 then ⟨true,false,0,0,0⟩else if k=4∨k=7 then ⟨false,false,0,0,10⟩else if k=5 then ⟨false,true,0,0,0⟩
 else if k=6 then ⟨false,false,1,7,0⟩else if k=8 then ⟨false,false,0,7,0⟩else if k=9 then ⟨false,false,1,1,0⟩else ⟨false,false,0,0,0⟩
theorem ownsize:(Tryz.prog.info? 151).map (·.size)=some 5:=by kernel_rfl
theorem results_row_tmp {P:Program} {fn:Func} {p u:Tmp} {ty:TypeId} (h:fn.results=#[.cell p ty,.tmp u]) (tmps:Array Value) (w:World) (g:Nat) (t:TypeId) (cs:Array Value) (fr:Nat×Nat) (d:TypeDesc)
 (hp:tmps.getD p undef=.pointer (some ⟨g,0,none⟩)) (hg:w.heap[g]?=some (.cells cs t fr))
 (hu:P.underlying ty=some d) (hd:(match d with | .struct _ | .array _ _=>true | _=>false)=true) (hi:(P.info? ty).map (·.size)=some cs.size):
 (results fn tmps).run P w=.ok (.tuple #[.agg cs,tmps.getD u undef]) w:=by
 rw[results_cell_tmp h,hp];simp[asAddr,Result.andThen,run_loadVar_row w g t ty cs fr d hg hu hd hi]
theorem ownOf_calls (k:Int) (w:World):Calls Tryz.prog 130 #[.int .i64 k] w fun e w'=>e=.returned (.tuple #[.agg (ownV k).cells,.bool (decide (1≤k∧k≤9))])∧Turn [] w w':=by
 have hk:k=1∨k=2∨k=3∨k=4∨k=5∨k=6∨k=7∨k=8∨k=9∨(k<1∨9<k):=by omega
 rcases hk with rfl | rfl | rfl | rfl | rfl | rfl | rfl | rfl | rfl | hk
 rotate_left 9
 · have HO:Hid (ownV k=⟨false,false,0,0,0⟩):=η (by unfold ownV;repeat rw[if_neg (by omega)]);have HD:Hid (decide (1≤k∧k≤9)=false):=η (decide_eq_false (by omega));rw[HO.out,HD.out];have f1:(k==1)=false:=by simp;omega
   have f2:(k==2)=false:=by simp;omega
   have f3:(k==3)=false:=by simp;omega
   have f4:(k==4)=false:=by simp;omega
   have f5:(k==5)=false:=by simp;omega
   have f6:(k==6)=false:=by simp;omega
   have f7:(k==7)=false:=by simp;omega
   have f8:(k==8)=false:=by simp;omega
   have f9:(k==9)=false:=by simp;omega
   clear hk HO HD;go_in;go_wp2;refine bodyPost_ret_by (results_row_tmp rfl _ _ w.heap.size 151 _ (0,0) _ rfl (heap_alloc_new w _) Tryz.underlying151 rfl ownsize) rfl ?_;exact⟨rfl,Turn.alloc [] w _⟩
 all_goals
  go_in;go_wp2;refine bodyPost_ret_by (results_row_tmp rfl _ _ w.heap.size 151 _ (0,0) _ rfl (heap_alloc_new w _) Tryz.underlying151 rfl ownsize) rfl ?_;exact⟨rfl,Turn.alloc [] w _⟩
def idB (o:OwnV) (d:Int):Bool:=if o.id then tidB d else decide (d=0)
theorem ownId_calls (o:OwnV) (d:Int) (w:World) (hd:-9223372036854775808≤d∧d≤9223372036854775807):Calls Tryz.prog 132 #[.agg o.cells,.int .i64 d] w fun e w'=>e=.returned (.bool (idB o d))∧Turn [] w w':=by
 obtain⟨oi,oy,ol,om,op⟩:=o;have C:=η (fun w=>kindTid_calls d w hd);unfold OwnV.cells idB tidB;dsimp only;cases oi with
 | true=>
  rw[if_pos rfl];go_in;go_wp2_with fail;refine(C.out _).mono ?_;rintro e w1 ⟨rfl,rfl⟩;go_wp2;go_ret;exact⟨rfl,Turn.alloc [] w _⟩
 | false=>
  rw[if_neg (by simp)];go_in;go_wp2;go_ret;exact⟨ret_bool (by rw[Bool.eq_iff_iff];simp),Turn.alloc [] w _⟩
def partsB (o:OwnV) (l:List Int):Bool:=decide (o.least≤(l.length:Int)∧(l.length:Int)≤o.most)&&decide (∀i,i<l.length→brokerB (l.getD i 0)=true∧(0<i→l.getD (i-1) 0<l.getD i 0))
theorem part_bad {l:List Int} {n k:Nat} {z:Int} (hk:k<n) (hz:z=if k=0 then 0 else l.getD (k-1) 0) (h:¬(z<l.getD k 0∧brokerB (l.getD k 0)=true)):
 decide (∀i,i<n→brokerB (l.getD i 0)=true∧(0<i→l.getD (i-1) 0<l.getD i 0))=false:=by
 refine decide_eq_false (fun h1=>h ?_);obtain⟨h2,h3⟩:=h1 k hk;refine⟨?_,h2⟩;by_cases e:k=0
 · rw[hz,if_pos e];have:=of_decide_eq_true h2;omega
 · rw[hz,if_neg e];exact h3 (by omega)
theorem part_next {l:List Int} {k:Nat} {z:Int} (hz:z=if k=0 then 0 else l.getD (k-1) 0) (hall:∀i,i<k→brokerB (l.getD i 0)=true∧(0<i→l.getD (i-1) 0<l.getD i 0)) (h:z<l.getD k 0∧brokerB (l.getD k 0)=true):
 ∀i,i<k+1→brokerB (l.getD i 0)=true∧(0<i→l.getD (i-1) 0<l.getD i 0):=by
 intro i hi;by_cases e:i=k
 · subst e;refine⟨h.2,fun h0=>?_⟩;rw[hz,if_neg (by omega)]at h;exact h.1
 · exact hall i (by omega)
theorem ownParts_calls (o:OwnV) {w:World} {ao:Option Addr} {c:Nat} {l:List Int} (h:Il w ao c l):Calls Tryz.prog 133 #[.agg o.cells,.slice ao l.length c] w fun e w'=>e=.returned (.bool (partsB o l))∧Turn [] w w':=by
 have hlen:=h.len;have H:=η h;obtain⟨oi,oy,ol,om,op⟩:=o;unfold OwnV.cells partsB;dsimp only;obtain⟨n,hn⟩:=ε l.length;have HN:=η hn;rw[←hn]at hlen ⊢;clear h hn;by_cases h1:(n:Int)<ol
 · have HB:Hid (decide (ol≤(n:Int)∧(n:Int)≤om)=false):=η (decide_eq_false (by omega));rw[HB.out,Bool.false_and];go_in;go_wp2;go_ret;exact⟨ret_bool rfl,Turn.alloc [] w _⟩
 by_cases h2:om<(n:Int)
 · have HB:Hid (decide (ol≤(n:Int)∧(n:Int)≤om)=false):=η (decide_eq_false (by omega));rw[HB.out,Bool.false_and];go_in;go_wp2;go_ret;exact⟨ret_bool rfl,Turn.alloc [] w _⟩
 have HB:Hid (decide (ol≤(n:Int)∧(n:Int)≤om)=true):=η (decide_eq_true (by omega));rw[HB.out,Bool.true_and];obtain⟨ans,ha⟩:=ε (decide (∀i,i<n→brokerB (l.getD i 0)=true∧(0<i→l.getD (i-1) 0<l.getD i 0)));have HA:=η ha;rw[←ha];clear ha HB;go_in;go_wp2_with fail
 go_loop [5,22] (fun v vi=>∃(k:Nat) (z:Int),k≤n∧vi=.int .i64 (k:Int)∧v=.int .i64 z∧(z=if k=0 then 0 else l.getD (k-1) 0)∧(∀i,i<k→brokerB (l.getD i 0)=true∧(0<i→l.getD (i-1) 0<l.getD i 0))) (fun _ vi=>n-(intOf vi).toNat)
 case atStart=>exact⟨0,0,by omega,rfl,rfl,rfl,fun i hi=>by omega⟩
 case round=>
  obtain⟨k,z,hk,rfl,rfl,hz,hall⟩:=hrel;have HL:=η hall;have HZ:=η hz;clear hall hz;by_cases hkn:k<n
  · have hkl:k<l.length:=by rw[←HN.out];exact hkn
    obtain⟨b,off,rfl,-,hat⟩:=(H.out.turn (Turn.alloc [] w (.cells #[.bool oi,.bool oy,.int .i64 ol,.int .i64 om,.int .i64 op] 151))).at (by intro e;rw[e]at hkl;simp at hkl);have h0:=hat k hkl;have C:=η (fun w=>kindBroker_calls (l.getD k 0) w);have hb:0≤(k:Int)∧(k:Int)<(n:Int):=by omega
    have HB:=η (fun h=>HA.out.trans (part_bad hkn HZ.out h));have HX:=η (fun h=>part_next HZ.out HL.out h);have HY:Hid (l.getD k 0=if k+1=0 then 0 else l.getD (k+1-1) 0):=η (by rw[if_neg (by omega),Nat.add_sub_cancel]);obtain⟨y,hy⟩:=ε (l.getD k 0);rw[←hy]at h0 C HB HX HY;clear hat hy;by_cases hyz:y≤z
    · have HF:=η (HB.out (fun h=>by omega));clear HB HX C;go_wp2;go_ret;exact⟨ret_bool HF.out.symm,Turn.alloc [] w _⟩
    · cases hr:brokerB y with
      | true=>
       have HN2:=η (HX.out ⟨by omega,hr⟩);rw[hr]at C;clear HB HX hr;go_wp2_with fail;refine(C.out _).mono ?_;rintro e w1 ⟨rfl,rfl⟩;go_wp2
       go_round
       case rel=>exact⟨k+1,y,by omega,by go_num,rfl,HY.out,HN2.out⟩
       case measure=>simp[intOf];omega
      | false=>
       have HF:=η (HB.out (fun h=>by rw[hr]at h;simp at h));rw[hr]at C;clear HB HX hr;go_wp2_with fail;refine(C.out _).mono ?_;rintro e w1 ⟨rfl,rfl⟩;go_wp2;go_ret;exact⟨ret_bool HF.out.symm,Turn.alloc [] w _⟩
  · have hkk:k=n:=by omega
    have HF:Hid (ans=true):=η (by rw[HA.out];exact decide_eq_true (fun i hi=>HL.out i (by omega)));clear hkk HL HZ;go_wp2;go_ret;exact⟨ret_bool HF.out.symm,Turn.alloc [] w _⟩
def oputsB (o:OwnV) (l:List (ByteArray×ByteArray)):Bool:=decide ((l.length:Int)≤o.puts)&&l.all putB
theorem oputs_bad {l:List (ByteArray×ByteArray)} {k:Nat} (hk:k<l.length) (h2:putB (l.getD k putNone)=false):l.all putB=false:=by
 have e:l.getD k putNone=l[k]:=by simp[List.getD,hk]
 rw[e]at h2;rw[List.all_eq_false];exact⟨l[k],List.getElem_mem hk,by rw[h2];simp⟩
theorem ownPuts_calls (o:OwnV) {w:World} {ao:Option Addr} {c:Nat} {l:List (ByteArray×ByteArray)} (h:Ps w ao c l):Calls Tryz.prog 134 #[.agg o.cells,.slice ao l.length c] w fun e w'=>e=.returned (.bool (oputsB o l))∧Turn [] w w':=by
 have hlen:=h.len;have H:=η h;obtain⟨oi,oy,ol,om,op⟩:=o;unfold OwnV.cells oputsB;dsimp only;obtain⟨n,hn⟩:=ε l.length;have HN:=η hn;rw[←hn]at hlen ⊢;clear h hn;by_cases h1:op<(n:Int)
 · have HB:Hid (decide ((n:Int)≤op)=false):=η (decide_eq_false (by omega));rw[HB.out,Bool.false_and];go_in;go_wp2;go_ret;exact⟨ret_bool rfl,Turn.alloc [] w _⟩
 have HB:Hid (decide ((n:Int)≤op)=true):=η (decide_eq_true (by omega));rw[HB.out,Bool.true_and];obtain⟨w1,hw1⟩:=ε (w.alloc (.cells #[.bool oi,.bool oy,.int .i64 ol,.int .i64 om,.int .i64 op] 151));have T1:Hid (Turn [] w w1):=η (by rw[hw1];exact Turn.alloc [] w _);go_in;go_wp2_with fail;rw[←hw1];clear hw1;go_loopw [14] (fun vi wx=>∃k:Nat,k≤n∧vi=.int .i64 (k:Int)∧(l.take k).all putB=true∧Turn [] w wx) (fun vi _=>n-(intOf vi).toNat)
 case atStart=>exact⟨0,by omega,rfl,rfl,T1.out⟩
 case round=>
  obtain⟨k,hk,rfl,hall,ht⟩:=hrel;have HA:=η hall;have T:=η ht;clear hall ht;by_cases hkn:k<n
  · have hkl:k<l.length:=by rw[←HN.out];exact hkn
    obtain⟨b,off,rfl,-,hat⟩:=(H.out.turn T.out).at (by intro e;rw[e]at hkl;simp at hkl);obtain⟨h0,h1,hs0,-⟩:=hat k hkl;have C:=η (fun w=>kindPut_calls (l.getD k putNone).1 (l.getD k putNone).2 w);have HB:=η (fun h=>oputs_bad hkl h);have HX:=η (fun h=>puts_next hkl HA.out h);obtain⟨q,hq⟩:=ε ((l.getD k putNone).1);obtain⟨y,hy⟩:=ε ((l.getD k putNone).2);have hqy:l.getD k putNone=(q,y):=by rw[hq,hy]
    rw[←hq]at h0 C;rw[←hy]at h1 C;rw[hqy]at HB HX;have hb:0≤(k:Int)∧(k:Int)<(n:Int):=by omega
    clear hat hq hy hqy hs0;obtain⟨r,hr⟩:=ε (putB (q,y));rw[←hr]at C HB HX;clear hr;cases r with
    | true=>
     go_wp2_with fail;refine(C.out _).mono ?_;rintro e w2 ⟨rfl,t2⟩;have T2:=η ((T.out.trans (Turn.alloc [] wr (.cells #[.string q,.string y] 45))).trans t2);have HX2:=η (HX.out trivial);clear t2 C HB HX;go_wp2;go_roundw
     case rel=>exact⟨k+1,by omega,by go_num,HX2.out,T2.out⟩
     case measure=>simp[intOf];omega
    | false=>
     go_wp2_with fail;refine(C.out _).mono ?_;rintro e w2 ⟨rfl,t2⟩;have T2:=η ((T.out.trans (Turn.alloc [] wr (.cells #[.string q,.string y] 45))).trans t2);have HB2:=η (HB.out trivial);clear t2 C HB HX;go_wp2;go_ret;exact⟨ret_bool HB2.out.symm,T2.out⟩
  · have hkk:k=n:=by omega
    have hall:l.all putB=true:=by have:=HA.out;rwa[hkk,HN.out,List.take_length]at this
    have HO:=η hall;clear hall HA hkk;go_wp2;go_ret;exact⟨ret_bool HO.out.symm,T.out⟩
theorem parts_none (o:OwnV) (h1:o.least=0) (h2:o.most=0) (l:List Int):partsB o l=decide (l.length=0):=by
 unfold partsB;rw[h1,h2];by_cases h:l.length=0
 · have:l=[]:=List.length_eq_zero_iff.1 h;subst this;simp
 · rw[decide_eq_false (by omega),Bool.false_and,decide_eq_false h]
theorem parts_some (o:OwnV) (h2:o.most=7) (l:List Int):partsB o l=(decide (o.least≤(l.length:Int))&&risingB l):=by
 unfold partsB risingB;rw[h2];by_cases h:l.length≤7
 · rw[decide_eq_true h,Bool.and_true];congr 1;rw[Bool.eq_iff_iff];simp;omega
 · rw[decide_eq_false (by omega),decide_eq_false h,Bool.false_and,Bool.and_false,Bool.and_false]
theorem parts_one (o:OwnV) (h2:o.most=1) (h1:o.least=1) (l:List Int):partsB o l=(decide (l.length=1)&&brokerB (l.getD 0 0)):=by
 unfold partsB;rw[h1,h2];by_cases h:l.length=1
 · rw[decide_eq_true (by omega),Bool.true_and,decide_eq_true h,Bool.true_and,h,Bool.eq_iff_iff,decide_eq_true_eq]
   exact⟨fun h=>(h 0 (by omega)).1,fun h i hi=>by
    have:i=0:=by omega
    subst this
    exact⟨h,fun h=>by omega⟩⟩
 · rw[decide_eq_false (by omega),Bool.false_and,decide_eq_false h,Bool.false_and]
theorem oputs_none (o:OwnV) (h:o.puts=0) (l:List (ByteArray×ByteArray)):oputsB o l=decide (l.length=0):=by
 unfold oputsB;rw[h];by_cases h:l.length=0
 · have:l=[]:=List.length_eq_zero_iff.1 h;subst this;simp
 · rw[decide_eq_false (by omega),Bool.false_and,decide_eq_false h]
theorem oputs_some (o:OwnV) (h:o.puts=10) (l:List (ByteArray×ByteArray)):oputsB o l=putsB l:=by
 unfold oputsB putsB;rw[h,Bool.and_comm];congr 1;rw[Bool.eq_iff_iff];simp;omega
theorem least_one (l:List Int):decide ((1:Int)≤(l.length:Int))=decide (0<l.length):=by
 rw[Bool.eq_iff_iff];simp;omega
theorem least_none (l:List Int):decide ((0:Int)≤(l.length:Int))=true:=decide_eq_true (by omega)
theorem recB_own (k t d:Int) (y:Bool) (P:List Int) (Q:List (ByteArray×ByteArray)):recB ⟨k,t,d,y,P,Q⟩=(decide (1≤k∧k≤9)&&(tidB t&&(idB (ownV k) d&&(((ownV k).yes || !y)&&(partsB (ownV k) P&&oputsB (ownV k) Q))))):=by
 have hk:k=1∨k=2∨k=3∨k=4∨k=5∨k=6∨k=7∨k=8∨k=9∨(k<1∨9<k):=by omega
 unfold recB;dsimp only;generalize hz:decide (d=0)=z;generalize hzp:decide (P.length=0)=zp;generalize hzq:decide (Q.length=0)=zq;generalize tidB t=bt;rcases hk with rfl | rfl | rfl | rfl | rfl | rfl | rfl | rfl | rfl | hk
 · rw[parts_none _ rfl rfl,oputs_none _ rfl,hzp,hzq];simp[idB,ownV,hz];cases bt<;>cases z<;>cases y<;>cases zp<;>cases zq<;>rfl
 · rw[parts_none _ rfl rfl,oputs_none _ rfl,hzp,hzq];simp[idB,ownV];generalize tidB d=bd;cases bt<;>cases bd<;>cases y<;>cases zp<;>cases zq<;>rfl
 · rw[parts_none _ rfl rfl,oputs_none _ rfl,hzp,hzq];simp[idB,ownV,hz];cases bt<;>cases z<;>cases y<;>cases zp<;>cases zq<;>rfl
 · rw[parts_none _ rfl rfl,oputs_some _ rfl,hzp];simp[idB,ownV,hz]
 · rw[parts_none _ rfl rfl,oputs_none _ rfl,hzp,hzq];simp[idB,ownV,hz];cases bt<;>cases z<;>cases y<;>cases zp<;>cases zq<;>rfl
 · rw[parts_some _ rfl,oputs_none _ rfl,hzq,show(ownV 6).least=1 from rfl,least_one];simp[idB,ownV,hz];generalize decide (0<P.length)=l1;generalize risingB P=rp;cases bt<;>cases z<;>cases y<;>cases l1<;>cases rp<;>cases zq<;>rfl
 · rw[parts_none _ rfl rfl,oputs_some _ rfl,hzp];simp[idB,ownV,hz]
 · rw[parts_some _ rfl,oputs_none _ rfl,hzq,show(ownV 8).least=0 from rfl,least_none];simp[idB,ownV,hz];generalize risingB P=rp;cases bt<;>cases z<;>cases y<;>cases rp<;>cases zq<;>rfl
 · rw[parts_one _ rfl rfl,oputs_none _ rfl,hzq];simp only[idB,ownV,hz];generalize decide (P.length=1)=l1;generalize brokerB (P.getD 0 0)=rp;cases bt<;>cases z<;>cases y<;>cases l1<;>cases rp<;>cases zq<;>rfl
 · rw[decide_eq_false (by omega:¬(1≤k∧k≤9)),Bool.false_and];simp only[if_neg (by omega:¬(k=1∨k=3∨k=5)),if_neg (by omega:¬k=2),if_neg (by omega:¬(k=4∨k=7)),if_neg (by omega:¬k=6),if_neg (by omega:¬k=8),if_neg (by omega:¬k=9),Bool.and_false]
theorem kindRecord_calls (r:RecV) {w:World} {ap aq:Option Addr} {cp cq:Nat} (hp:Il w ap cp r.parts) (hq:Ps w aq cq r.puts) (ht:-9223372036854775808≤r.tid∧r.tid≤9223372036854775807) (hd:-9223372036854775808≤r.id∧r.id≤9223372036854775807):
 Calls Tryz.prog 71 #[.agg (r.cells ap cp aq cq)] w fun e w'=>e=.returned (.bool (recB r))∧Turn [] w w':=by
 obtain⟨k,t,d,y,P,Q⟩:=r;have hp:Il w ap cp P:=hp;have hq:Ps w aq cq Q:=hq;have hpl:=hp.len;have hql:=hq.len;have HR:=η (recB_own k t d y P Q);rw[HR.out];have CO:=η (fun w=>ownOf_calls k w);obtain⟨o,ho⟩:=ε (ownV k);rw[←ho]at CO ⊢;have CT:=η (fun w=>kindTid_calls t w ht);have CI:=η (fun w=>ownId_calls o d w hd);have CP:=η (fun wx (tx:Turn [] w wx)=>ownParts_calls o (hp.turn tx));have CQ:=η (fun wx (tx:Turn [] w wx)=>ownPuts_calls o (hq.turn tx));unfold tidB;obtain⟨r0,h0⟩:=ε (decide (1≤k∧k≤9));obtain⟨r1,h1⟩:=ε (decide (0<homeZ t));obtain⟨r2,h2⟩:=ε (idB o d);obtain⟨r4,h4⟩:=ε (partsB o P);obtain⟨r5,h5⟩:=ε (oputsB o Q);rw[←h0]at CO;rw[←h1]at CT;rw[←h2]at CI;rw[←h4]at CP;rw[←h5]at CQ;rw[←h0,←h1,←h2,←h4,←h5];unfold RecV.cells;dsimp only;obtain⟨np,hnp⟩:=ε P.length;obtain⟨nq,hnq⟩:=ε Q.length;rw[←hnp]at hpl CP ⊢;rw[←hnq]at hql CQ ⊢;clear h0 h1 h2 h4 h5 ho hnp hnq hp hq HR;obtain⟨oi,oy,ol,om,op⟩:=o;unfold OwnV.cells at CO CI CP CQ;dsimp only at CO CI CP CQ ⊢;obtain⟨q,hqd⟩:=ε w.heap.size;obtain⟨w1,hw1⟩:=ε (w.alloc (.cells #[.int .i64 k,.int .i64 t,.int .i64 d,.bool y,.slice ap np cp,.slice aq nq cq] 37));have t1:Turn [] w w1:=by rw[hw1];exact Turn.alloc [] w _
 have b1:w1.heap[q]?=some (.cells #[.int .i64 k,.int .i64 t,.int .i64 d,.bool y,.slice ap np cp,.slice aq nq cq] 37):=by rw[hw1,hqd];exact heap_alloc_new w _
 have T1:=η t1;have B1:=η b1;go_in;go_wp2_with fail;rw[←hw1];clear hw1 t1 b1;refine(CO.out _).mono ?_;rintro e w2 ⟨rfl,t2⟩;have T2:=η (T1.out.trans t2);have b2:=t2.heap B1.out;have B2:=η b2;clear t2 b2;have T3:Hid (∀o:Obj,Turn [] w (w2.alloc o)):=η (fun o=>T2.out.trans (Turn.alloc [] w2 o));cases r0 with
 | false=>
  go_wp2;go_ret;exact⟨ret_bool (by simp),T3.out _⟩
 | true=>
 have B3:Hid (∀o:Obj,(w2.alloc o).heap[q]?=_):=η (fun o=>(Turn.alloc [] w2 o).heap B2.out);have e1:∀o:Obj,(w2.alloc o).cell? ⟨q,1,none⟩=some (.int .i64 t):=fun o=>by rw[cell_of_row _ _ _ _ _ _ (B3.out o)];rfl
 have e2:∀o:Obj,(w2.alloc o).cell? ⟨q,2,none⟩=some (.int .i64 d):=fun o=>by rw[cell_of_row _ _ _ _ _ _ (B3.out o)];rfl
 rw[hqd]at e1 e2;go_wp2_with fail;refine(CT.out _).mono ?_;rintro e w3 ⟨rfl,rfl⟩;cases r1 with
 | false=>
  go_wp2;go_ret;exact⟨ret_bool (by simp),T3.out _⟩
 | true=>
 go_wp2_with fail;refine(CI.out _).mono ?_;rintro e w4 ⟨rfl,t4⟩;have T4:=η ((T3.out _).trans t4);have b4:=t4.heap (B3.out _);have B4:=η b4;have d4:=t4.heap (heap_alloc_new w2 (.cells #[.bool oi,.bool oy,.int .i64 ol,.int .i64 om,.int .i64 op] 151));have D4:=η d4;clear t4 b4 d4 e1 e2;cases r2 with
 | false=>
  go_wp2;go_ret;exact⟨ret_bool (by simp),T4.out⟩
 | true=>
 have e3:w4.cell? ⟨q,3,none⟩=some (.bool y):=by rw[cell_of_row _ _ _ _ _ _ B4.out];rfl
 have e4:w4.cell? ⟨q,4,none⟩=some (.slice ap np cp):=by rw[cell_of_row _ _ _ _ _ _ B4.out];rfl
 have g0:w4.cell? ⟨w2.heap.size,0,none⟩=some (.bool oi):=by rw[cell_of_row _ _ _ _ _ _ D4.out];rfl
 have g1:w4.cell? ⟨w2.heap.size,1,none⟩=some (.bool oy):=by rw[cell_of_row _ _ _ _ _ _ D4.out];rfl
 have g2:w4.cell? ⟨w2.heap.size,2,none⟩=some (.int .i64 ol):=by rw[cell_of_row _ _ _ _ _ _ D4.out];rfl
 have g3:w4.cell? ⟨w2.heap.size,3,none⟩=some (.int .i64 om):=by rw[cell_of_row _ _ _ _ _ _ D4.out];rfl
 have g4:w4.cell? ⟨w2.heap.size,4,none⟩=some (.int .i64 op):=by rw[cell_of_row _ _ _ _ _ _ D4.out];rfl
 rw[hqd]at e3 e4;have HB4:Hid (∀wx,Turn [] w4 wx→wx.cell? ⟨q,5,none⟩=some (.slice aq nq cq)):=η (fun wx tx=>by rw[cell_of_row _ _ _ _ _ _ (tx.heap B4.out)];rfl);rw[hqd]at HB4;have HD1:Hid (∀wx,Turn [] w4 wx→wx.cell? ⟨w2.heap.size,1,none⟩=some (.bool oy)):=η (fun wx tx=>by rw[cell_of_row _ _ _ _ _ _ (tx.heap D4.out)];rfl);cases oy<;>cases y
 case false.true=>
  go_wp2;go_ret;exact⟨ret_bool (by simp),T4.out⟩
 all_goals
  go_wp2_with fail;refine(CP.out _ T4.out).mono ?_;rintro e w5 ⟨rfl,t5⟩;have T5:=η (T4.out.trans t5);have e5:=HB4.out w5 t5;have d5:=t5.heap D4.out;have k0:w5.cell? ⟨w2.heap.size,0,none⟩=some (.bool oi):=by rw[cell_of_row _ _ _ _ _ _ d5];rfl
  have k1:=HD1.out w5 t5;have k2:w5.cell? ⟨w2.heap.size,2,none⟩=some (.int .i64 ol):=by rw[cell_of_row _ _ _ _ _ _ d5];rfl
  have k3:w5.cell? ⟨w2.heap.size,3,none⟩=some (.int .i64 om):=by rw[cell_of_row _ _ _ _ _ _ d5];rfl
  have k4:w5.cell? ⟨w2.heap.size,4,none⟩=some (.int .i64 op):=by rw[cell_of_row _ _ _ _ _ _ d5];rfl
  clear t5 d5 e3 e4 g0 g1 g2 g3 g4;cases r4 with
  | false=>
   go_wp2;go_ret;exact⟨ret_bool (by simp),T5.out⟩
  | true=>
  go_wp2_with fail;refine(CQ.out _ T5.out).mono ?_;rintro e w6 ⟨rfl,t6⟩;have T6:=η (T5.out.trans t6);clear t6 e5 k0 k1 k2 k3 k4;go_wp2;go_ret;exact⟨ret_bool (by simp),T6.out⟩
theorem kindPacket_calls (p:PacV) (w:World) (ht:-9223372036854775808≤p.tid∧p.tid≤9223372036854775807):Calls Tryz.prog 177 #[.agg p.cells] w fun e w'=>e=.returned (.bool (pacB p))∧Turn [] w w':=by
 obtain⟨kd,a,b,t,n,y⟩:=p;have C1:=η (fun w=>kindBroker_calls a w);have C2:=η (fun w=>kindBroker_calls b w);have C3:=η (fun w=>kindTid_calls t w ht);have HP:Hid (pacB ⟨kd,a,b,t,n,y⟩=(decide (1≤kd∧kd≤5)&&(brokerB a&&(brokerB b&&(decide (0<homeZ t)&&((!y || decide (kd=2∨kd=3))&&(if kd=1 then decide (1≤n∧n≤10)else decide (n=0)))))))):=η rfl;obtain⟨r1,h1⟩:=ε (brokerB a);obtain⟨r2,h2⟩:=ε (brokerB b);obtain⟨r3,h3⟩:=ε (decide (0<homeZ t));rw[←h1]at C1 HP;rw[←h2]at C2 HP;rw[←h3]at C3 HP;obtain⟨ans,ha⟩:=ε (pacB ⟨kd,a,b,t,n,y⟩);rw[←ha]at HP ⊢;clear h1 h2 h3 ha;unfold PacV.cells;cases r1 with
 | false=>
  have HA:Hid (ans=false):=η (by rw[HP.out];simp);clear HP;go_in;go_wp2_with fail;refine(C1.out _).mono ?_;rintro e w1 ⟨rfl,rfl⟩;go_wp2;go_ret;exact⟨ret_bool HA.out.symm,Turn.alloc [] w _⟩
 | true=>
 cases r2 with
 | false=>
  have HA:Hid (ans=false):=η (by rw[HP.out];simp);clear HP;go_in;go_wp2_with fail;refine(C1.out _).mono ?_;rintro e w1 ⟨rfl,rfl⟩;go_wp2_with fail;refine(C2.out _).mono ?_;rintro e w1 ⟨rfl,rfl⟩;go_wp2;go_ret;exact⟨ret_bool HA.out.symm,Turn.alloc [] w _⟩
 | true=>
 cases r3 with
 | false=>
  have HA:Hid (ans=false):=η (by rw[HP.out];simp);clear HP;go_in;go_wp2_with fail;refine(C1.out _).mono ?_;rintro e w1 ⟨rfl,rfl⟩;go_wp2_with fail;refine(C2.out _).mono ?_;rintro e w1 ⟨rfl,rfl⟩;go_wp2_with fail;refine(C3.out _).mono ?_;rintro e w1 ⟨rfl,rfl⟩;go_wp2;go_ret;exact⟨ret_bool HA.out.symm,Turn.alloc [] w _⟩
 | true=>
 have hkd:kd=1∨kd=2∨kd=3∨kd=4∨kd=5∨(kd<1∨5<kd):=by omega
 rcases hkd with rfl | rfl | rfl | rfl | rfl | hk
 rotate_left 5
 · have HA:Hid (ans=false):=η (by rw[HP.out,decide_eq_false (by omega)];rfl);have f1:(kd==1)=false:=by simp;omega
   have f2:(kd==2)=false:=by simp;omega
   have f3:(kd==3)=false:=by simp;omega
   have f4:(kd==4)=false:=by simp;omega
   have f5:(kd==5)=false:=by simp;omega
   clear HP hk;go_in;go_wp2_with fail;refine(C1.out _).mono ?_;rintro e w1 ⟨rfl,rfl⟩;go_wp2_with fail;refine(C2.out _).mono ?_;rintro e w1 ⟨rfl,rfl⟩;go_wp2_with fail;refine(C3.out _).mono ?_;rintro e w1 ⟨rfl,rfl⟩;go_wp2;go_ret;exact⟨ret_bool HA.out.symm,Turn.alloc [] w _⟩
 all_goals cases y
 all_goals simp at HP
 all_goals
  go_in;go_wp2_with fail;refine(C1.out _).mono ?_;rintro e w1 ⟨rfl,rfl⟩;go_wp2_with fail;refine(C2.out _).mono ?_;rintro e w1 ⟨rfl,rfl⟩;go_wp2_with fail;refine(C3.out _).mono ?_;rintro e w1 ⟨rfl,rfl⟩;go_wp2
 all_goals
  go_ret
 all_goals
  refine⟨ret_bool ?_,Turn.alloc [] w _⟩
 all_goals rw[HP.out]
 all_goals first
  | rfl
  | (rw[Bool.eq_iff_iff];simp;omega)
  | (rw[Bool.eq_iff_iff];simp)
end Go.Proofs.YtkjpjfghklgdhaaGreat
