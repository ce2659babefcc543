/-
  PkAJ
-/
import Derived.Test.YtkjpjfghklgdhaaGreatPkAI
set_option maxHeartbeats 2000000
set_option maxRecDepth 100000
namespace Go.Proofs.YtkjpjfghklgdhaaGreat.VP
open Go.RowKit Go.Proofs.YtkjpjfghklgdhaaGreat.V
def tidF:Value:=.func (.func 119) #[] #[]
theorem tid_calls (t:Int) (v:Value) (w:World):Calls Tryz.prog 119 #[.agg #[.int .i64 t,v]] w fun e w'=>e=.returned (.int .i64 t)∧Turn [] w w':=by
 go_in;go_wp2;go_ret;exact⟨rfl,Turn.alloc [] w _⟩
theorem tid_enter (args:Array Value) (w:World):(callFunc 119 args).run Tryz.prog w=.ok (.enter 119 args) w:=
 enter_run Tryz.func119 (by kernel_rfl) (by kernel_rfl) args w
theorem close_enter (args:Array Value) (w:World):(callFunc 188 args).run Tryz.prog w=.ok (.enter 188 args) w:=
 enter_run Tryz.func188 (by kernel_rfl) (by kernel_rfl) args w
theorem close_calls (y:Int) (v:Value) (t:Int) {q:Nat} {w:World} (hq:w.cell? ⟨q,0,none⟩=some tidF):Calls Tryz.prog 188 #[.agg #[.int .i64 y,v],.int .i64 t,.pointer (some ⟨q,0,none⟩)] w fun e w'=>e=.returned (.int .i64 (cmpZ y t))∧Turn [] w w':=by
 have T:=η (tid_calls y v);have EN:=tid_enter;have C:=η (compare_i64 y t);obtain⟨c,hc⟩:=ε (cmpZ y t);rw[←hc]at C ⊢;unfold tidF at hq;have hq1:=(Turn.alloc [] w (.cells #[.int .i64 y,v] 65)).cell hq;clear hc;go_in;go_wp2_with fail;refine(T.out _).mono ?_;rintro e w1 ⟨rfl,t1⟩;have T1:=η ((Turn.alloc [] w _).trans t1);clear t1 T hq hq1;go_wp2_with fail;refine(C.out _).mono ?_;rintro e w2 ⟨rfl,rfl⟩;go_wp2;go_ret;exact⟨rfl,T1.out⟩
theorem bs_calls {w:World} {ao:Option Addr} {cp:Nat} {K:List (Int×Value)} (h:Tl 2 pairC w ao cp K) (hfew:K.length≤1000000) (t:Int) {q:Nat} (hq:w.cell? ⟨q,0,none⟩=some tidF) {m:Nat} (hm:m≤K.length)
 (hlo:∀(i:Nat) x,i<m→K[i]?=some x→x.1<t) (hhi:∀(i:Nat) x,m≤i→K[i]?=some x→t≤x.1):
 Calls Tryz.prog 187 #[.slice ao K.length cp,.int .i64 t,.func (.func 188) #[] #[.pointer (some ⟨q,0,none⟩)]] w fun e w'=>
  e=.returned (.tuple #[.int .i64 (m:Int),.bool (K[m]?.any fun x=>decide (x.1=t))])∧Turn [] w w':=by
 obtain⟨n,hn⟩:=ε K.length;have H:=η h;have HN:=η hn;have EN:=close_enter;have LO:=η hlo;have HI:=η hhi;have HQ:=η hq;obtain⟨r,hr⟩:=ε ((K[m]?.any fun x=>decide (x.1=t)));have HR:=η hr;rw[←hr];rw[←hn]at hm hfew ⊢;clear h hn hlo hhi hr hq;go_in;go_wp2_with fail;go_loopw [9,10] (fun vi vj wx=>∃i j:Nat,i≤m∧m≤j∧j≤n∧vi=.int .i64 (i:Int)∧vj=.int .i64 (j:Int)∧Turn [] w wx) (fun vi vj _=>(intOf vj).toNat-(intOf vi).toNat)
 case atStart=>exact⟨0,n,by omega,hm,Nat.le_refl _,rfl,rfl,Turn.refl _ _⟩
 case round=>
  obtain⟨i,j,hi,hj,hjn,rfl,rfl,ht⟩:=hrel;have HT:=η ht;have H2:=H.out.still ht;have hq2:=ht.cell HQ.out;clear ht;by_cases hij:i<j
  · obtain⟨h,hh⟩:=ε ((i+j) / 2);have hih:i≤h∧h<j:=by omega
    have hh':((i:Int)+(j:Int)) / 2=(h:Int):=by omega
    clear hh;have hhk:h<K.length:=by rw[←HN.out];omega
    obtain⟨x,hx⟩:∃x,K[h]?=some x:=⟨_,List.getElem?_eq_getElem hhk⟩
    obtain⟨g,off,rfl,hat⟩:=H2.at hx;have hk0:=hat 0 (.int .i64 x.1) rfl;have hk1:=hat 1 x.2 rfl;rw[Nat.add_zero]at hk0;have LO1:=fun hhm:h<m=>LO.out h x hhm hx
    have HI1:=fun hhm:m≤h=>HI.out h x hhm hx
    obtain⟨y,v⟩:=x;dsimp only at hk0 hk1 LO1 HI1;have hb:0≤(h:Int)∧(h:Int)<(n:Int):=by omega
    have C:=η (close_calls y v t hq2);by_cases hg:y<t
    · have hhm:h<m:=by
       false_or_by_contra
       have:=HI1 (by omega);omega
      have hg2:cmpZ y t<0:=cmpZ_lt.2 hg;obtain⟨c,hc⟩:=ε (cmpZ y t);rw[←hc]at C hg2;clear hat hx hc hg LO1 HI1 H2 hq2;go_wp2_with fail;refine C.out.mono ?_;rintro e x1 ⟨rfl,t1⟩;have T1:=η (HT.out.trans t1);clear t1 C;go_wp2;go_roundw
      case rel=>exact⟨h+1,j,by omega,hj,hjn,by go_num,rfl,T1.out⟩
      case measure=>simp[intOf];omega
    · have hhm:m≤h:=by
       false_or_by_contra
       have:=LO1 (by omega);omega
      have hg2:¬cmpZ y t<0:=fun e=>hg (cmpZ_lt.1 e)
      obtain⟨c,hc⟩:=ε (cmpZ y t);rw[←hc]at C hg2;clear hat hx hc hg LO1 HI1 H2 hq2;go_wp2_with fail;refine C.out.mono ?_;rintro e x1 ⟨rfl,t1⟩;have T1:=η (HT.out.trans t1);clear t1 C;go_wp2;go_roundw
      case rel=>exact⟨i,h,hi,hhm,by omega,rfl,rfl,T1.out⟩
      case measure=>simp[intOf];omega
  · have him:i=m:=by omega
    subst him;by_cases hin:i<n
    · have hik:i<K.length:=by rw[←HN.out];exact hin
      obtain⟨x,hx⟩:∃x,K[i]?=some x:=⟨_,List.getElem?_eq_getElem hik⟩
      obtain⟨g,off,rfl,hat⟩:=H2.at hx;have hk0:=hat 0 (.int .i64 x.1) rfl;have hk1:=hat 1 x.2 rfl;rw[Nat.add_zero]at hk0;have HR2:Hid (r=(cmpZ x.1 t==0)):=η (by rw[HR.out,hx,cmpZ_zero];rfl);obtain⟨y,v⟩:=x;dsimp only at hk0 hk1 HR2;have hb:0≤(i:Int)∧(i:Int)<(n:Int):=by omega
      have hin1:decide ((i:Int)<(n:Int))=true:=by simp;omega
      have C:=η (close_calls y v t hq2);obtain⟨c,hc⟩:=ε (cmpZ y t);rw[←hc]at C HR2;clear hat hx hc H2 hq2;go_wp2_with fail;refine C.out.mono ?_;rintro e x1 ⟨rfl,t1⟩;have T1:=η (HT.out.trans t1);clear t1 C;go_wp2
      go_ret2
      exact⟨by rw[HR2.out];rfl,T1.out⟩
    · have hin1:decide ((i:Int)<(n:Int))=false:=by simp;omega
      have HR2:Hid (r=false):=η (by rw[HR.out,List.getElem?_eq_none (by rw[←HN.out];omega)];rfl);clear H2 hq2;go_wp2
      go_ret2
      exact⟨by rw[HR2.out];rfl,HT.out⟩
theorem place_calls {w:World} {ao:Option Addr} {cp:Nat} {K:List (Int×Value)} (h:Tl 2 pairC w ao cp K) (hr:Rising Prod.fst K) (hfew:K.length≤1000000) (t:Int):
 Calls Tryz.prog 135 #[.slice ao K.length cp,.int .i64 t,tidF] w fun e w'=>
  e=.returned (.tuple #[.int .i64 (posK Prod.fst t K:Int),.bool (keyB Prod.fst K t)])∧Turn [] w w':=by
 have t0:=Turn.alloc [] w (.cells #[tidF] 140);have hq:(w.alloc (.cells #[tidF] 140)).cell? ⟨w.heap.size,0,none⟩=some tidF:=by
  rw[cell_of_row _ _ _ _ _ _ (heap_alloc_new w _)];rfl
 have BC:=η (bs_calls (h.still t0) hfew t hq (posK_le Prod.fst t K) (fun i x hi hx=>posK_lo hi hx) (fun i x hi hx=>posK_hi hr hi hx));rw[posK_at hr]at BC;have T0:=η t0;obtain⟨p,hp⟩:=ε (posK Prod.fst t K);obtain⟨b,hb⟩:=ε (keyB Prod.fst K t);rw[←hp,←hb]at BC ⊢;obtain⟨n,hn⟩:=ε K.length;rw[←hn]at BC ⊢;unfold tidF at BC ⊢;clear h hr hfew t0 hq hp hb hn;go_in;go_wp2_with fail;refine BC.out.mono ?_;rintro e w1 ⟨rfl,t1⟩;have T1:=η (T0.out.trans t1);clear t1 BC T0;go_wp2
 go_ret2
 exact⟨rfl,T1.out⟩
def Form (K:List (Int×Value)):Prop:=∀p∈K,∃(a:Option Addr) (n c:Nat),p.2=.slice a n c
theorem rises_calls {w:World} {ao:Option Addr} {cp:Nat} {K:List (Int×Value)} (h:Tl 2 pairC w ao cp K) (hform:Form K) (hok:∀p∈K,-9223372036854775808≤p.1∧p.1≤9223372036854775807):
 Calls Tryz.prog 118 #[.slice ao K.length cp,tidF] w fun e w'=>e=.returned (.bool (decide (K.length≤2000)&&risesFrom 0 K))∧Turn [] w w':=by
 have hlen:=h.len;obtain⟨n,hn⟩:=ε K.length;have H:=η h;have HN:=η hn;have OK:=η hok;have FM:=η hform;have EN:=tid_enter;obtain⟨ans,ha⟩:=ε ((decide (K.length≤2000)&&risesFrom 0 K));have HA:=η ha;rw[←ha];rw[←hn]at hlen ⊢;unfold tidF;clear h hn hok ha hform;by_cases hbig:2000<n
 · have HF:Hid (ans=false):=η (by rw[HA.out,←HN.out,decide_eq_false (by omega),Bool.false_and]);go_in;go_wp2;go_ret;exact⟨ret_bool HF.out.symm,Turn.refl _ _⟩
 · have HS:Hid (ans=risesFrom 0 (K.drop 0)):=η (by rw[HA.out,←HN.out,decide_eq_true (by omega),Bool.true_and];rfl);go_in;go_wp2_with fail;go_loopw [5,14] (fun vz vi wx=>∃(k:Nat) (z:Int),k≤n∧vi=.int .i64 (k:Int)∧vz=.int .i64 z∧ans=risesFrom z (K.drop k)∧Turn [] w wx) (fun _ vi _=>n-(intOf vi).toNat)
   case atStart=>exact⟨0,0,by omega,rfl,rfl,HS.out,Turn.refl _ _⟩
   case round=>
    obtain⟨k,z,hk,rfl,rfl,hall,ht⟩:=hrel;have HT:=η ht;have H2:=H.out.still ht;have HL:=η hall;clear hall ht HS;by_cases hkn:k<n
    · have hkl:k<K.length:=by rw[←HN.out];exact hkn
      obtain⟨x,hx⟩:∃x,K[k]?=some x:=⟨_,List.getElem?_eq_getElem hkl⟩
      obtain⟨g,off,rfl,hat⟩:=H2.at hx;have hk0:=hat 0 (.int .i64 x.1) rfl;have hk1:=hat 1 x.2 rfl;rw[Nat.add_zero]at hk0;have hox:=OK.out x (List.mem_of_getElem? hx);have hfx:=FM.out x (List.mem_of_getElem? hx);have HD:Hid (ans=risesFrom z (x::K.drop (k+1))):=η (by rw[HL.out,drop_cons hx]);clear H2 hx hat HL;obtain⟨y,v⟩:=x;dsimp only at hk0 hk1 hox HD hfx;obtain⟨va,vn,vc,rfl⟩:=hfx;have hb:0≤(k:Int)∧(k:Int)<(n:Int):=by omega
      have C:=η (tid_calls y (.slice va vn vc));have KT:=η (fun wx=>kindTid_calls y wx hox);obtain⟨kt,hkt⟩:=ε (decide (0<homeZ y));have HKT:=η hkt;rw[←hkt]at KT;clear hkt hox;go_wp2_with fail;refine(C.out _).mono ?_;rintro e x1 ⟨rfl,t1⟩;have T1:=η ((HT.out.trans (Turn.alloc [] _ _)).trans t1);clear t1 C hk0 hk1;by_cases hyz:y≤z
      · have HF:Hid (ans=false):=η (by rw[HD.out];show(decide (z<y)&&_)=false;rw[decide_eq_false (by omega),Bool.false_and]);have hd:decide (y≤z)=true:=by simpa using hyz
        clear HD;go_wp2_with fail;go_ret;exact⟨ret_bool HF.out.symm,T1.out⟩
      · have hd:decide (y≤z)=false:=by simpa using hyz
        cases hkt:kt with
        | false=>
         have HF:Hid (ans=false):=η (by rw[HD.out];show(decide (z<y)&&(decide (0<homeZ y)&&_))=false;rw[←HKT.out,hkt,Bool.false_and,Bool.and_false]);rw[hkt]at KT;clear HD hkt HKT;go_wp2_with fail;refine(KT.out _).mono ?_;rintro e x2 ⟨rfl,rfl⟩;clear KT;go_wp2_with fail;go_ret;exact⟨ret_bool HF.out.symm,T1.out⟩
        | true=>
         have HF:Hid (ans=risesFrom y (K.drop (k+1))):=η (by rw[HD.out];show(decide (z<y)&&(decide (0<homeZ y)&&_))=_;rw[←HKT.out,hkt,decide_eq_true (by omega),Bool.true_and,Bool.true_and]);rw[hkt]at KT;clear HD hkt HKT;go_wp2_with fail;refine(KT.out _).mono ?_;rintro e x2 ⟨rfl,rfl⟩;clear KT;go_wp2_with fail;go_roundw
         case rel=>exact⟨k+1,y,by omega,by go_num,rfl,HF.out,T1.out⟩
         case measure=>simp[intOf];omega
    · have hkk:k=n:=by omega
      have HF:Hid (ans=true):=η (by
       rw[HL.out,List.drop_eq_nil_of_le (by rw[←HN.out];omega)];rfl)
      clear HL H2;go_wp2;go_ret;exact⟨ret_bool HF.out.symm,HT.out⟩
theorem row_tl {w:World} {ao:Option Addr} {n c:Nat} {K:List (Int×Value)} (hn:n=K.length) (h:w.ownsRow 0 65 2 (.slice ao n c) K.length (vcells K)):Tl 2 pairC w ao c K:=by
 subst hn;exact Tl.of_own (n:=2) (f:=pairC) (B:=0) (e:=65) (fun _=>rfl) h
theorem with_calls {w:World} {v:Value} {K:List (Int×Value)} (h:w.ownsRow 0 65 2 v K.length (vcells K)) (hr:Rising Prod.fst K) (hfew:K.length≤2000) (hO:Ones K) (y:Int) (va:Option Addr) (vn vc:Nat):
 Calls Tryz.prog 152 #[v,.agg #[.int .i64 y,.slice va vn vc],tidF] w fun e w'=>
  ∃v',e=.returned v'∧w'.ownsRow 0 65 2 v' (K.length+1) (vcells (insV K (posK Prod.fst y K) (y,.slice va vn vc)))∧(v'.ownBlock=v.ownBlock∨∃q,v'.ownBlock=some q∧w.heap.size≤q)∧Turn v.ownBlock.toList w w':=by
 obtain⟨ao,c,rfl,hle,hmx,-⟩:=pairs_at h;have hpm:=posK_le Prod.fst y K;obtain⟨m,hm⟩:=ε (posK Prod.fst y K);have C0:=η (tid_calls y (.slice va vn vc));have EN:=tid_enter;have C1:=fun wx (t:Turn [] w wx)=>place_calls (K:=K) (row_tl rfl (ownsRow_turn h t)) hr (by omega) y
 obtain⟨kb,hkb⟩:=ε (keyB Prod.fst K y);rw[←hm]at hpm ⊢;rw[←hm,←hkb]at C1;have C1:=η C1;have H:=η h;obtain⟨ob,hob⟩:=ε ((Value.slice ao K.length c).ownBlock);have HOB:=η hob
 have HLT:Hid (∀k,ob=some k→k<w.heap.size):=η (fun k hk=>by
  rcases h.2 with⟨e,_⟩ | ⟨g,cap,cur,e,_,hg,_⟩
  · rw[hob,e]at hk;simp[Value.ownBlock]at hk
  · rw[hob,e]at hk;have:g=k:=by simpa[Value.ownBlock]using hk
    rw[←this]
    exact lt_of_heap hg)
 have IC:Hid (∀wx,Turn [] w wx→Calls Tryz.prog 197 #[.slice ao K.length c,.int .i64 (m:Int),.slice (some ⟨wx.heap.size,0,none⟩) 1 1] (wx.alloc (.cells #[.int .i64 y,.slice va vn vc] 65)) fun e w'=>
  ∃v',e=.returned v'∧w'.ownsRow 0 65 2 v' (K.length+1) (vcells (insV K m (y,.slice va vn vc)))∧(v'.ownBlock=ob∨v'.ownBlock=some (wx.heap.size+1))∧Turn ob.toList (wx.alloc (.cells #[.int .i64 y,.slice va vn vc] 65)) w'):=η (fun wx t=>by
  have:=insert_calls (i:=m) (ownsRow_turn h (t.trans (Turn.alloc [] wx (.cells #[.int .i64 y,.slice va vn vc] 65)))) hfew hpm (y,.slice va vn vc) rfl hO (heap_alloc_new wx _) (fun e=>by
   have:=HLT.out _ (HOB.out.trans e);have:=t.size
   omega)
  rw[←hob,show(wx.alloc (.cells #[.int .i64 y,.slice va vn vc] 65)).heap.size=wx.heap.size+1 by simp]at this
  exact this)
 rw[←hob];have TO:Hid (∀wx w' o,Turn [] w wx→Turn ob.toList (wx.alloc o) w'→Turn ob.toList w w'):=η (fun wx w' o t1 t2=>((t1.mono (by simp)).trans (Turn.alloc _ wx o) (fun i hi=>.inl hi)).trans t2 (fun i hi=>.inl hi));obtain⟨n,hn⟩:=ε K.length;rw[←hn]at C1 IC ⊢
 have B0:Hid (∀wx,Turn [] (w.alloc (.cells #[.int .i64 y,.slice va vn vc] 65)) wx→wx.cell? ⟨w.heap.size,0,none⟩=some (.int .i64 y)∧wx.cell? ⟨w.heap.size,1,none⟩=some (.slice va vn vc)):=η (fun wx t=>by
  have:=t.heap (heap_alloc_new w _)
  refine⟨?_,?_⟩<;>rw[cell_of_row _ _ _ _ _ _ this]<;>rfl)
 have T0:=η (Turn.alloc [] w (.cells #[.int .i64 y,.slice va vn vc] 65));unfold tidF at*;clear h hr hfew hO hm hkb hob hn hle hmx hpm H HOB HLT;go_in;go_wp2_with fail;refine(C0.out _).mono ?_;rintro e x1 ⟨rfl,t1⟩;have U1:=η t1;clear t1 C0;go_wp2_with fail;refine(C1.out _ (T0.out.trans U1.out)).mono ?_;rintro e x2 ⟨rfl,t2⟩;have U2:=η (U1.out.trans t2);have V2:=η (T0.out.trans U2.out);clear t2 C1;obtain⟨q0,q1⟩:=B0.out _ U2.out;go_wp2_with fail;refine(IC.out _ V2.out).mono ?_;rintro e x3 ⟨v',rfl,r3,b3,t3⟩;have R3:=η r3
 have B3:Hid (v'.ownBlock=ob∨∃q,v'.ownBlock=some q∧w.heap.size≤q):=η (by
  rcases b3 with b | b
  · exact .inl b
  · exact .inr ⟨_,b,by have:=V2.out.size;omega⟩)
 have T3:=η (TO.out _ _ _ V2.out t3);clear r3 b3 t3 IC q0 q1;go_wp2_with fail;go_ret;exact⟨v',rfl,R3.out,B3.out,T3.out⟩
theorem without_calls {w:World} {v:Value} {K:List (Int×Value)} (h:w.ownsRow 0 65 2 v K.length (vcells K)) (hr:Rising Prod.fst K) (hfew:K.length≤2000) (hO:Ones K) (y:Int):
 Calls Tryz.prog 200 #[v,.int .i64 y,tidF] w fun e w'=>
  ∃v',e=.returned v'∧w'.ownsRow 0 65 2 v' (remK Prod.fst y K).length (vcells (remK Prod.fst y K))∧v'.ownBlock=v.ownBlock∧Turn v.ownBlock.toList w w':=by
 obtain⟨ao,c,rfl,hle,hmx,-⟩:=pairs_at h;have hpm:=posK_le Prod.fst y K;obtain⟨m,hm⟩:=ε (posK Prod.fst y K);have C1:=place_calls (K:=K) (row_tl rfl h) hr (by omega) y;obtain⟨kb,hkb⟩:=ε (keyB Prod.fst K y);rw[←hm]at hpm;rw[←hm,←hkb]at C1;have C1:=η C1;have H:=η h;cases kb with
 | false=>
  have HK:Hid (remK Prod.fst y K=K):=η (remK_none hkb.symm);rw[HK.out];have HN:Hid (∀x1,Turn [] w x1→x1.ownsRow 0 65 2 (.slice ao K.length c) K.length (vcells K)):=η (fun x1 t=>ownsRow_turn h t);obtain⟨n,hn⟩:=ε K.length;rw[←hn]at C1 HN ⊢;unfold tidF at*;clear h hr hfew hO hm hkb hle hmx hpm H HK hn;go_in;go_wp2_with fail;refine C1.out.mono ?_;rintro e x1 ⟨rfl,t1⟩;have U1:=η t1;clear t1 C1;go_wp2_with fail;go_ret;exact⟨_,rfl,HN.out _ U1.out,rfl,U1.out.mono (by simp)⟩
 | true=>
  have hmk:m<K.length:=by
   obtain⟨x,hx,-,-⟩:=posK_find hr hkb.symm;rw[←hm]at hx;exact(List.getElem?_eq_some_iff.1 hx).1
  have HK:Hid (remK Prod.fst y K=delV K m):=η (by rw[remK_pos hr hkb.symm,←hm];rfl);rw[HK.out]
  have DC:Hid (∀wx,Turn [] w wx→Calls Tryz.prog 239 #[.slice ao K.length c,.int .i64 (m:Int),.int .i64 ((m:Int)+1)] wx fun e w'=>
   ∃v',e=.returned v'∧w'.ownsRow 0 65 2 v' (delV K m).length (vcells (delV K m))∧v'.ownBlock=(Value.slice ao K.length c).ownBlock∧Turn (Value.slice ao K.length c).ownBlock.toList wx w'):=η (fun wx t=>delete_calls hO (ownsRow_turn h t) hfew hmk)
  obtain⟨n,hn⟩:=ε K.length;rw[←hn]at C1 DC ⊢;have hw:IntKind.i64.wrap ((m:Int)+1)=(m:Int)+1:=by rw[IntKind.wrap_i64];omega
  unfold tidF at*;clear h hr hO hm hkb hle hmx H HK hn hmk hfew hpm;go_in;go_wp2_with fail;refine C1.out.mono ?_;rintro e x1 ⟨rfl,t1⟩;have U1:=η t1;clear t1 C1;go_wp2_with fail;refine(DC.out _ U1.out).mono ?_;rintro e x2 ⟨v',rfl,r2,b2,t2⟩;have R2:=η r2;have B2:=η b2;have T2:=η ((U1.out.mono (l':=(Value.slice ao n c).ownBlock.toList) (by simp)).trans t2 (fun i hi=>.inl hi));clear r2 b2 t2 DC;go_wp2_with fail;go_ret;exact⟨v',rfl,R2.out,B2.out,T2.out⟩
end Go.Proofs.YtkjpjfghklgdhaaGreat.VP
namespace Go.Proofs.YtkjpjfghklgdhaaGreat
open Go.RowKit
def placeI {α:Type} (p:α→Bool) (l:List α):Int:=match l.findIdx? p with | some i=>(i:Int) | none=>-1
theorem place_hit {α:Type} {p:α→Bool} {l:List α} {k:Nat} {x:α} (hx:l[k]?=some x) (hp:p x=true) (hall:∀(i:Nat) (y:α),i<k→l[i]?=some y→p y=false):placeI p l=(k:Int):=by
 unfold placeI;have hk:k<l.length:=(List.getElem?_eq_some_iff.1 hx).1;have hxk:l[k]=x:=(List.getElem?_eq_some_iff.1 hx).2;have:l.findIdx? p=some k:=by
  rw[List.findIdx?_eq_some_iff_getElem];refine⟨hk,by rw[hxk];exact hp,fun j hj=>?_⟩;have:=hall j l[j] hj (by simp);simp[this]
 rw[this]
theorem place_none {α:Type} {p:α→Bool} {l:List α} (hall:∀(i:Nat) (y:α),l[i]?=some y→p y=false):placeI p l=-1:=by
 unfold placeI;have:l.findIdx? p=none:=by
  rw[List.findIdx?_eq_none_iff];intro x hx;obtain⟨i,hi,rfl⟩:=List.getElem_of_mem hx;exact hall i l[i] (by simp[hi])
 rw[this]
theorem refHas_calls {w:World} {ao:Option Addr} {c:Nat} {l:List Int} (n:Int) (h:Il w ao c l):Calls Tryz.prog 77 #[.slice ao l.length c,.int .i64 n] w fun e w'=>e=.returned (.bool (decide (n∈l)))∧w=w':=by
 have hlen:=h.len;have H:=η h;obtain⟨m,hm⟩:=ε l.length;have HN:=η hm;rw[←hm]at hlen ⊢;obtain⟨ans,ha⟩:=ε (decide (n∈l));have HA:=η ha;rw[←ha];clear h hm ha;go_in;go_wp2_with fail
 go_loop [5] (fun i=>∃k:Nat,k≤m∧i=.int .i64 (k:Int)∧∀j,j<k→l.getD j 0≠n) (fun i=>m-(intOf i).toNat)
 case atStart=>exact⟨0,by omega,rfl,fun j hj=>by omega⟩
 case round=>
  obtain⟨k,hk,rfl,hall⟩:=hrel;have HL:=η hall;clear hall;by_cases hkn:k<m
  · have hkl:k<l.length:=by rw[←HN.out];exact hkn
    obtain⟨b,off,rfl,-,hat⟩:=H.out.at (by intro e;rw[e]at hkl;simp at hkl);have q1:=hat k hkl;have hb:0≤(k:Int)∧(k:Int)<(m:Int):=by omega
    by_cases hxy:l.getD k 0=n
    · have HF:Hid (ans=true):=η (by
       rw[HA.out];refine decide_eq_true ?_;rw[←hxy,show l.getD k 0=l[k] by simp[List.getD,hkl]]
       exact List.getElem_mem hkl)
      rw[hxy]at q1;clear hat hxy HL;go_wp2;go_ret;exact⟨ret_bool HF.out.symm,rfl⟩
    · have HX:Hid (∀j,j<k+1→l.getD j 0≠n):=η (fun j hj=>by
       by_cases e:j=k
       · rw[e];exact hxy
       · exact HL.out j (by omega))
      obtain⟨y,hy⟩:=ε (l.getD k 0);rw[←hy]at q1 hxy;have hne:(y==n)=false:=by simpa using hxy
      clear hat hy HL hxy;go_wp2
      go_round
      case rel=>exact⟨k+1,by omega,by go_num,HX.out⟩
      case measure=>simp[intOf];omega
  · have hkk:k=m:=by omega
    have HF:Hid (ans=false):=η (by
     rw[HA.out];refine decide_eq_false (fun hm=>?_);obtain⟨i,hi,e⟩:=List.getElem_of_mem hm
     exact HL.out i (by rw[hkk,HN.out];exact hi) (by simp[List.getD,hi,e]))
    clear HL;go_wp2;go_ret;exact⟨ret_bool HF.out.symm,rfl⟩
theorem nine_of {w:World} {g:Nat} {v0 v1 v2 v3 v4 v5 v6 v7 v8:Value} {t:TypeId} (h:w.heap[g]?=some (.cells #[v0,v1,v2,v3,v4,v5,v6,v7,v8] t)):
 w.cell? ⟨g,0,none⟩=some v0∧w.cell? ⟨g,1,none⟩=some v1∧w.cell? ⟨g,2,none⟩=some v2∧w.cell? ⟨g,3,none⟩=some v3∧w.cell? ⟨g,4,none⟩=some v4∧w.cell? ⟨g,5,none⟩=some v5∧w.cell? ⟨g,6,none⟩=some v6∧w.cell? ⟨g,7,none⟩=some v7∧w.cell? ⟨g,8,none⟩=some v8:=by
 refine⟨?_,?_,?_,?_,?_,?_,?_,?_,?_⟩<;>rw[cell_of_row _ _ _ _ _ _ h]<;>rfl
theorem refAtMs_calls {w:World} {a:Ads} {s:StV} (id:Int) (h:StIs w a s):Calls Tryz.prog 33 #[.agg (s.cells a),.int .i64 id] w fun e w'=>e=.returned (.int .i64 (placeI (fun m=>decide (m.id=id)) s.ms))∧Turn [] w w':=by
 have hlen:=h.ms.len;have H:=η (h.ms.still (Turn.alloc [] w (.cells (s.cells a) 27)));obtain⟨ans,ha⟩:=ε (placeI (fun m=>decide (m.id=id)) s.ms);have HA:=η ha;rw[←ha];obtain⟨b,ni,ns,tx,ms,ws,es,os,zs⟩:=s;obtain⟨am,cm,aw,cw,ae,ce,ao,co,an,cn⟩:=a;dsimp only at hlen H HA;unfold StV.cells at H ⊢;dsimp only at H ⊢;obtain⟨n,hn⟩:=ε ms.length;have HN:=η hn;rw[←hn]at hlen H ⊢;generalize ws.length=nw at*;generalize es.length=ne at*;generalize os.length=no at*;generalize zs.length=nz at*;clear h ha hn;go_in;go_wp2_with fail
 go_loop [5] (fun i=>∃k:Nat,k≤n∧i=.int .i64 (k:Int)∧∀(j:Nat) (y:MsgV),j<k→ms[j]?=some y→(fun m:MsgV=>decide (m.id=id)) y=false) (fun i=>n-(intOf i).toNat)
 case atStart=>exact⟨0,by omega,rfl,fun j y hj=>by omega⟩
 case round=>
  obtain⟨k,hk,rfl,hall⟩:=hrel;have HL:=η hall;clear hall;by_cases hkn:k<n
  · have hkl:k<ms.length:=by rw[←HN.out];exact hkn
    obtain⟨m,hm⟩:∃m,ms[k]?=some m:=⟨_,List.getElem?_eq_getElem hkl⟩
    obtain⟨g,off,rfl,hat⟩:=H.out.at hm;have q0:=hat 0 (.int .i64 m.id) rfl;rw[Nat.add_zero]at q0;have hb:0≤(k:Int)∧(k:Int)<(n:Int):=by omega
    by_cases hxy:m.id=id
    · have HF:Hid (ans=(k:Int)):=η (by rw[HA.out];exact place_hit hm (by simpa using hxy) HL.out);rw[hxy]at q0;clear hat hxy HL hm;go_wp2;go_ret;exact⟨ret_int HF.out.symm,Turn.alloc [] w _⟩
    · have HX:Hid (∀(j:Nat) (y:MsgV),j<k+1→ms[j]?=some y→(fun m:MsgV=>decide (m.id=id)) y=false):=η (fun j y hj hy=>by
       by_cases e:j=k
       · rw[e,hm]at hy;injection hy with hy
         rw[←hy];simpa using hxy
       · exact HL.out j y (by omega) hy)
      obtain⟨y,hy⟩:=ε m.id;rw[←hy]at q0 hxy;have hne:(y==id)=false:=by simpa using hxy
      clear hat hy HL hxy hm;go_wp2
      go_round
      case rel=>exact⟨k+1,by omega,by go_num,HX.out⟩
      case measure=>simp[intOf];omega
  · have hkk:k=n:=by omega
    have HF:Hid (ans=-1):=η (by
     rw[HA.out];refine place_none (fun i y hy=>HL.out i y ?_ hy);have:=(List.getElem?_eq_some_iff.1 hy).1;rw[hkk,HN.out]
     exact this)
    clear HL;go_wp2;go_ret;exact⟨ret_int HF.out.symm,Turn.alloc [] w _⟩
theorem refAtEnds_calls {w:World} {a:Ads} {s:StV} (id:Int) (h:StIs w a s):Calls Tryz.prog 57 #[.agg (s.cells a),.int .i64 id] w fun e w'=>e=.returned (.int .i64 (placeI (fun m=>decide (m.tid=id)) s.ends))∧Turn [] w w':=by
 have hlen:=h.ends.len;have H:=η (h.ends.still (Turn.alloc [] w (.cells (s.cells a) 27)));obtain⟨ans,ha⟩:=ε (placeI (fun m=>decide (m.tid=id)) s.ends);have HA:=η ha;rw[←ha];obtain⟨b,ni,ns,tx,ms,ws,es,os,zs⟩:=s;obtain⟨am,cm,aw,cw,ae,ce,ao,co,an,cn⟩:=a;dsimp only at hlen H HA;unfold StV.cells at H ⊢;dsimp only at H ⊢;obtain⟨n,hn⟩:=ε es.length;have HN:=η hn;rw[←hn]at hlen H ⊢;generalize ws.length=nw at*;generalize ms.length=nm at*;generalize os.length=no at*;generalize zs.length=nz at*;clear h ha hn;go_in;go_wp2_with fail
 go_loop [5] (fun i=>∃k:Nat,k≤n∧i=.int .i64 (k:Int)∧∀(j:Nat) (y:EndV),j<k→es[j]?=some y→(fun m:EndV=>decide (m.tid=id)) y=false) (fun i=>n-(intOf i).toNat)
 case atStart=>exact⟨0,by omega,rfl,fun j y hj=>by omega⟩
 case round=>
  obtain⟨k,hk,rfl,hall⟩:=hrel;have HL:=η hall;clear hall;by_cases hkn:k<n
  · have hkl:k<es.length:=by rw[←HN.out];exact hkn
    obtain⟨m,hm⟩:∃m,es[k]?=some m:=⟨_,List.getElem?_eq_getElem hkl⟩
    obtain⟨g,off,rfl,hat⟩:=H.out.at hm;have q0:=hat 0 (.int .i64 m.tid) rfl;rw[Nat.add_zero]at q0;have hb:0≤(k:Int)∧(k:Int)<(n:Int):=by omega
    by_cases hxy:m.tid=id
    · have HF:Hid (ans=(k:Int)):=η (by rw[HA.out];exact place_hit hm (by simpa using hxy) HL.out);rw[hxy]at q0;clear hat hxy HL hm;go_wp2;go_ret;exact⟨ret_int HF.out.symm,Turn.alloc [] w _⟩
    · have HX:Hid (∀(j:Nat) (y:EndV),j<k+1→es[j]?=some y→(fun m:EndV=>decide (m.tid=id)) y=false):=η (fun j y hj hy=>by
       by_cases e:j=k
       · rw[e,hm]at hy;injection hy with hy
         rw[←hy];simpa using hxy
       · exact HL.out j y (by omega) hy)
      obtain⟨y,hy⟩:=ε m.tid;rw[←hy]at q0 hxy;have hne:(y==id)=false:=by simpa using hxy
      clear hat hy HL hxy hm;go_wp2
      go_round
      case rel=>exact⟨k+1,by omega,by go_num,HX.out⟩
      case measure=>simp[intOf];omega
  · have hkk:k=n:=by omega
    have HF:Hid (ans=-1):=η (by
     rw[HA.out];refine place_none (fun i y hy=>HL.out i y ?_ hy);have:=(List.getElem?_eq_some_iff.1 hy).1;rw[hkk,HN.out]
     exact this)
    clear HL;go_wp2;go_ret;exact⟨ret_int HF.out.symm,Turn.alloc [] w _⟩
theorem refAtWaits_calls {w:World} {a:Ads} {s:StV} (id:Int) (h:StIs w a s):Calls Tryz.prog 39 #[.agg (s.cells a),.int .i64 id] w fun e w'=>e=.returned (.int .i64 (placeI (fun m=>decide (m.tid=id)) s.waits))∧Turn [] w w':=by
 have hlen:=h.waits.len;obtain⟨L,hL,hT,-⟩:=h.waits;have H:=η (hT.still (Turn.alloc [] w (.cells (s.cells a) 27)));have HL0:=η hL;clear hT hL;obtain⟨ans,ha⟩:=ε (placeI (fun m=>decide (m.tid=id)) s.waits);have HA:=η ha;rw[←ha];obtain⟨b,ni,ns,tx,ms,ws,es,os,zs⟩:=s;obtain⟨am,cm,aw,cw,ae,ce,ao,co,an,cn⟩:=a;dsimp only at hlen H HA HL0;unfold StV.cells at H ⊢;dsimp only at H ⊢;obtain⟨n,hn⟩:=ε ws.length;have HN:=η hn;rw[←hn]at hlen H ⊢;generalize ms.length=nm at*;generalize es.length=ne at*;generalize os.length=no at*;generalize zs.length=nz at*;clear h ha hn;go_in;go_wp2_with fail
 go_loop [5] (fun i=>∃k:Nat,k≤n∧i=.int .i64 (k:Int)∧∀(j:Nat) (y:BrV),j<k→ws[j]?=some y→(fun m:BrV=>decide (m.tid=id)) y=false) (fun i=>n-(intOf i).toNat)
 case atStart=>exact⟨0,by omega,rfl,fun j y hj=>by omega⟩
 case round=>
  obtain⟨k,hk,rfl,hall⟩:=hrel;have HL:=η hall;clear hall;by_cases hkn:k<n
  · have hkl:k<L.length:=by have:=congrArg List.length HL0.out;rw[List.length_map]at this;rw[this,←HN.out];exact hkn
    obtain⟨m,hm0⟩:∃m,L[k]?=some m:=⟨_,List.getElem?_eq_getElem hkl⟩
    have hm:ws[k]?=some m.v:=by rw[←HL0.out,List.getElem?_map,hm0];rfl
    obtain⟨g,off,rfl,hat⟩:=H.out.at hm0;have q0:=hat 0 (.int .i64 m.v.tid) rfl;rw[Nat.add_zero]at q0;have hb:0≤(k:Int)∧(k:Int)<(n:Int):=by omega
    by_cases hxy:m.v.tid=id
    · have HF:Hid (ans=(k:Int)):=η (by rw[HA.out];exact place_hit hm (by simpa using hxy) HL.out);rw[hxy]at q0;clear hat hxy HL hm hm0;go_wp2;go_ret;exact⟨ret_int HF.out.symm,Turn.alloc [] w _⟩
    · have HX:Hid (∀(j:Nat) (y:BrV),j<k+1→ws[j]?=some y→(fun m:BrV=>decide (m.tid=id)) y=false):=η (fun j y hj hy=>by
       by_cases e:j=k
       · rw[e,hm]at hy;injection hy with hy
         rw[←hy];simpa using hxy
       · exact HL.out j y (by omega) hy)
      obtain⟨y,hy⟩:=ε m.v.tid;rw[←hy]at q0 hxy;have hne:(y==id)=false:=by simpa using hxy
      clear hat hy HL hxy hm hm0;go_wp2
      go_round
      case rel=>exact⟨k+1,by omega,by go_num,HX.out⟩
      case measure=>simp[intOf];omega
  · have hkk:k=n:=by omega
    have HF:Hid (ans=-1):=η (by
     rw[HA.out];refine place_none (fun i y hy=>HL.out i y ?_ hy);have:=(List.getElem?_eq_some_iff.1 hy).1;rw[hkk,HN.out]
     exact this)
    clear HL;go_wp2;go_ret;exact⟨ret_int HF.out.symm,Turn.alloc [] w _⟩
def numB (s:StV):Bool:=brokerB s.broker&&decide (1≤s.nextId∧s.nextId≤4294967296∧1≤s.nextSeq∧s.nextSeq≤1099511627776∧0≤s.tx∧s.tx≤200)
def risesB {α:Type} (key:α→Int) (l:List α):Bool:=decide (l.length≤2000)&&decide ((∀x∈l,0<homeZ (key x))∧Rising key l)
def riseAllB (s:StV):Bool:=risesB BrV.tid s.waits&&(risesB EndV.tid s.ends&&(risesB PendV.tid s.open_&&risesB PendV.tid s.noes))
def waitR (x:BrV):RecV:=⟨4,x.tid,0,false,[],x.puts⟩
def pendR (x:PendV):RecV:=⟨6,x.tid,0,false,x.parts,[]⟩
def waitOkB (s:StV) (x:BrV):Bool:=recB (waitR x)&&!keyB EndV.tid s.ends x.tid
def mayPendB (s:StV) (p:PendV):Bool:=decide (homeZ p.tid=s.broker)&&(recB (pendR p)&&!decide (s.broker∈p.parts))
def openOkB (s:StV) (p:PendV):Bool:=mayPendB s p&&(!keyB EndV.tid s.ends p.tid&&!keyB BrV.tid s.waits p.tid)
def noOkB (s:StV) (p:PendV):Bool:=mayPendB s p&&s.ends.any fun e=>decide (e.tid=p.tid)&&!e.yes
def msgOkB (s:StV) (m:MsgV):Bool:=
 decide (homeZ m.id=s.broker)&&(decide (m.id<s.broker*4294967296+s.nextId)&&(putB (m.queue,m.body)&&(decide (0≤m.count∧m.count≤1000)&&(decide (m.by_=0) || (decide (0<homeZ m.by_)&&!keyB EndV.tid s.ends m.by_)))))
def msgsFromB (s:StV) (last:Int):List MsgV→Bool
 | []=>decide (last<s.nextSeq)
 | m::l=>decide (last<m.seq)&&(msgOkB s m&&msgsFromB s m.seq l)
def idsB (l:List MsgV):Bool:=decide (l.Pairwise fun a b=>a.id≠b.id)
def mayOwnB (s:StV):Bool:=
 numB s&&(riseAllB s&&(s.waits.all (waitOkB s)&&(s.open_.all (openOkB s)&&(s.noes.all (noOkB s)&&(decide (s.ms.length≤72)&&(msgsFromB s 0 s.ms&&idsB s.ms))))))
theorem recB_wait (x:BrV):recB (waitR x)=(decide (0<homeZ x.tid)&&putsB x.puts):=by
 unfold recB waitR tidB;simp
theorem recB_pend (x:PendV):recB (pendR x)=(decide (0<homeZ x.tid)&&(decide (0<x.parts.length)&&risingB x.parts)):=by
 unfold recB pendR tidB;simp
theorem msgOkB_iff {s:StV} {m:MsgV}:msgOkB s m=true↔(homeZ m.id=s.broker∧m.id-s.broker*4294967296<s.nextId∧queueB m.queue=true∧bodyB m.body=true∧0≤m.count∧m.count≤1000∧(m.by_=0∨(0<homeZ m.by_∧keyB EndV.tid s.ends m.by_=false))):=by
 unfold msgOkB putB;simp only[Bool.and_eq_true,Bool.or_eq_true,decide_eq_true_eq,Bool.not_eq_true'];constructor
 · rintro⟨h1,h2,⟨h3,h4⟩,⟨h5,h6⟩,h7⟩;exact⟨h1,by omega,h3,h4,h5,h6,h7⟩
 · rintro⟨h1,h2,h3,h4,h5,h6,h7⟩;exact⟨h1,by omega,⟨h3,h4⟩,⟨h5,h6⟩,h7⟩
theorem msgsFromB_iff {s:StV}:∀{l:List MsgV} {last:Int},msgsFromB s last l=true↔(last<s.nextSeq∧(∀m∈l,last<m.seq∧m.seq<s.nextSeq∧msgOkB s m=true)∧Rising MsgV.seq l)
 | [],last=>by simp[msgsFromB]
 | m::l,last=>by
  rw[msgsFromB,Bool.and_eq_true,Bool.and_eq_true,decide_eq_true_eq,msgsFromB_iff];constructor
  · rintro⟨h1,h2,h3,h4,h5⟩;refine⟨by omega,fun x hx=>?_,List.pairwise_cons.2 ⟨fun x hx=>(h4 x hx).1,h5⟩⟩;rcases List.mem_cons.1 hx with rfl | hx
    · exact⟨h1,h3,h2⟩
    · have:=h4 x hx;exact⟨by omega,this.2.1,this.2.2⟩
  · rintro⟨h1,h2,h3⟩;obtain⟨h4,h5⟩:=List.pairwise_cons.1 h3;have hm:=h2 m (by simp);exact⟨hm.1,hm.2.2,hm.2.1,fun x hx=>⟨h4 x hx,(h2 x (by simp[hx])).2.1,(h2 x (by simp[hx])).2.2⟩,h5⟩
theorem mayPendB_iff {s:StV} {p:PendV} (hb:brokerB s.broker=true):mayPendB s p=true↔pendP s.broker p:=by
 unfold mayPendB pendP;rw[recB_pend];simp only[Bool.and_eq_true,decide_eq_true_eq,Bool.not_eq_true',decide_eq_false_iff_not];have hb':1≤s.broker:=by unfold brokerB at hb;simp at hb;exact hb.1
 constructor
 · rintro⟨h1,⟨h2,h3,h4⟩,h5⟩;exact⟨h1,h3,h4,h5⟩
 · rintro⟨h1,h3,h4,h5⟩;exact⟨h1,⟨by omega,h3,h4⟩,h5⟩
theorem mayOwnB_iff {s:StV}:mayOwnB s=true↔MayP s:=by
 unfold mayOwnB numB riseAllB risesB idsB;simp only[Bool.and_eq_true,decide_eq_true_eq,List.all_eq_true];rw[msgsFromB_iff];constructor
 · rintro⟨⟨h0,h1,h2,h3,h4,h5,h6⟩,⟨⟨w1,w2,w3⟩,⟨e1,e2,e3⟩,⟨o1,o2,o3⟩,n1,n2,n3⟩,hw,ho,hn,hl,⟨-,hm,hr⟩,hi⟩;refine⟨h0,h1,h2,h3,h4,h5,h6,hl,w1,e1,o1,n1,fun m hm'=>?_,hr,hi,e2,e3,fun x hx=>?_,w3,fun p hp=>?_,o3,fun p hp=>?_,n3⟩
   · obtain⟨q1,q2,q3⟩:=hm m hm';exact⟨by omega,q2,msgOkB_iff.1 q3⟩
   · have:=hw x hx;unfold waitOkB at this;rw[recB_wait]at this;simp only[Bool.and_eq_true,decide_eq_true_eq,Bool.not_eq_true']at this;exact⟨w2 x hx,this.2,this.1.2⟩
   · have:=ho p hp;unfold openOkB at this;simp only[Bool.and_eq_true,Bool.not_eq_true']at this;exact⟨(mayPendB_iff h0).1 this.1,this.2.1,this.2.2⟩
   · have:=hn p hp;unfold noOkB at this;simp only[Bool.and_eq_true,List.any_eq_true,decide_eq_true_eq,Bool.not_eq_true']at this;exact⟨(mayPendB_iff h0).1 this.1,this.2⟩
 · intro h;refine⟨⟨h.broker,h.id1,h.id2,h.seq1,h.seq2,h.tx1,h.tx2⟩,⟨⟨h.lwaits,fun x hx=>(h.waits x hx).1,h.waitsR⟩,⟨h.lends,h.ends,h.endsR⟩,⟨h.lopen,fun p hp=>?_,h.openR⟩,h.lnoes,fun p hp=>?_,h.noesR⟩,fun x hx=>?_,fun p hp=>?_,fun p hp=>?_,h.lms,⟨?_,fun m hm=>?_,h.seqs⟩,h.ids⟩
   · have h1:=(h.open_ p hp).1.1;have:=h.broker;unfold brokerB at this;simp at this;omega
   · have h1:=(h.noes p hp).1.1;have:=h.broker;unfold brokerB at this;simp at this;omega
   · unfold waitOkB;rw[recB_wait];obtain⟨q1,q2,q3⟩:=h.waits x hx;simp[q1,q2,q3]
   · unfold openOkB;obtain⟨q1,q2,q3⟩:=h.open_ p hp;rw[(mayPendB_iff h.broker).2 q1,q2,q3];rfl
   · unfold noOkB;obtain⟨q1,q2⟩:=h.noes p hp;rw[(mayPendB_iff h.broker).2 q1];simp only[Bool.true_and,List.any_eq_true,Bool.and_eq_true,decide_eq_true_eq,Bool.not_eq_true'];exact q2
   · have:=h.seq1;omega
   · obtain⟨q1,q2,q3⟩:=h.ms m hm;exact⟨by omega,q2,msgOkB_iff.2 q3⟩
theorem mayOwnB_is (s:StV):mayOwnB s=mayB s:=by
 rw[Bool.eq_iff_iff,mayOwnB_iff,mayB_iff]
theorem ids_place {l:List MsgV} (h:idsB l=true) {k:Nat} {m:MsgV} (hm:l[k]?=some m):placeI (fun x:MsgV=>decide (x.id=m.id)) l=(k:Int):=by
 unfold idsB at h;rw[decide_eq_true_eq,List.pairwise_iff_getElem]at h;refine place_hit hm (by simp) (fun i y hi hy=>?_);obtain⟨h1,rfl⟩:=List.getElem?_eq_some_iff.1 hy;obtain⟨h2,rfl⟩:=List.getElem?_eq_some_iff.1 hm;simpa using h i k h1 h2 hi
theorem ids_of_place {l:List MsgV} (h:∀(k:Nat) (m:MsgV),l[k]?=some m→placeI (fun x:MsgV=>decide (x.id=m.id)) l=(k:Int)):idsB l=true:=by
 unfold idsB;rw[decide_eq_true_eq,List.pairwise_iff_getElem];intro i j hi hj hij e;have h1:=h i l[i] (by simp);have h2:=h j l[j] (by simp);rw[e,h2]at h1;omega
end Go.Proofs.YtkjpjfghklgdhaaGreat
