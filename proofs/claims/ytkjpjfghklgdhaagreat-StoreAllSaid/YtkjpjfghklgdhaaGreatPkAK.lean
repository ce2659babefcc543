/-
  PkAK
-/
import Derived.Test.YtkjpjfghklgdhaaGreatPkAJ
set_option maxHeartbeats 2000000
set_option maxRecDepth 100000
namespace Go.Proofs.YtkjpjfghklgdhaaGreat
open Go.RowKit Go.Proofs.YtkjpjfghklgdhaaGreat.V
theorem ends_form (l:List EndV):VE.Form (l.map endP):=fun p hp=>by
 obtain⟨x,-,rfl⟩:=List.mem_map.1 hp;exact⟨_,rfl⟩
theorem brs_form (l:List (Lay BrV)):VB.Form (l.map brP):=fun p hp=>by
 obtain⟨x,-,rfl⟩:=List.mem_map.1 hp;exact⟨_,_,_,rfl⟩
theorem pds_form (l:List (Lay PendV)):VP.Form (l.map pendP'):=fun p hp=>by
 obtain⟨x,-,rfl⟩:=List.mem_map.1 hp;exact⟨_,_,_,rfl⟩
theorem rising_ends {l:List EndV}:Rising Prod.fst (l.map endP)↔Rising EndV.tid l:=rising_map _ _ _
theorem rising_brs {l:List (Lay BrV)}:Rising Prod.fst (l.map brP)↔Rising BrV.tid (l.map Lay.v):=by
 rw[rising_map,rising_map];exact Iff.rfl
theorem rising_pds {l:List (Lay PendV)}:Rising Prod.fst (l.map pendP')↔Rising PendV.tid (l.map Lay.v):=by
 rw[rising_map,rising_map];exact Iff.rfl
theorem keyB_ends (l:List EndV) (t:Int):keyB Prod.fst (l.map endP) t=keyB EndV.tid l t:=keyB_map _ _ _ _
theorem keyB_brs (l:List (Lay BrV)) (t:Int):keyB Prod.fst (l.map brP) t=keyB BrV.tid (l.map Lay.v) t:=by
 rw[keyB_map,keyB_map];rfl
theorem keyB_pds (l:List (Lay PendV)) (t:Int):keyB Prod.fst (l.map pendP') t=keyB PendV.tid (l.map Lay.v) t:=by
 rw[keyB_map,keyB_map];rfl
theorem posK_ends (l:List EndV) (t:Int):posK Prod.fst t (l.map endP)=posK EndV.tid t l:=posK_map _ _ _ _
theorem posK_brs (l:List (Lay BrV)) (t:Int):posK Prod.fst t (l.map brP)=posK BrV.tid t (l.map Lay.v):=by
 rw[posK_map,posK_map];rfl
theorem posK_pds (l:List (Lay PendV)) (t:Int):posK Prod.fst t (l.map pendP')=posK PendV.tid t (l.map Lay.v):=by
 rw[posK_map,posK_map];rfl
theorem ends_place {w:World} {ao:Option Addr} {c:Nat} {l:List EndV} (h:Tl 2 endC w ao c l) (hr:Rising EndV.tid l) (hfew:l.length≤1000000) (t:Int):
 Calls Tryz.prog 123 #[.slice ao l.length c,.int .i64 t,.func (.func 117) #[] #[]] w fun e w'=>e=.returned (.tuple #[.int .i64 (posK EndV.tid t l:Int),.bool (keyB EndV.tid l t)])∧Turn [] w w':=by
 have:=VE.place_calls (h.ends) (rising_ends.2 hr) (by rw[List.length_map];exact hfew) t;rwa[List.length_map,posK_ends,keyB_ends]at this
theorem brs_place {w:World} {ao:Option Addr} {c:Nat} {l:List BrV} (h:Ws w ao c l) (hr:Rising BrV.tid l) (hfew:l.length≤1000000) (t:Int):
 Calls Tryz.prog 178 #[.slice ao l.length c,.int .i64 t,.func (.func 115) #[] #[]] w fun e w'=>e=.returned (.tuple #[.int .i64 (posK BrV.tid t l:Int),.bool (keyB BrV.tid l t)])∧Turn [] w w':=by
 obtain⟨L,rfl,hT,-⟩:=h;have:=VB.place_calls (hT.brs) (rising_brs.2 hr) (by rw[List.length_map]at hfew ⊢;exact hfew) t;rwa[List.length_map,posK_brs,keyB_brs,←List.length_map (f:=Lay.v)]at this
theorem pds_place {w:World} {ao:Option Addr} {c:Nat} {l:List PendV} (h:Pds w ao c l) (hr:Rising PendV.tid l) (hfew:l.length≤1000000) (t:Int):
 Calls Tryz.prog 135 #[.slice ao l.length c,.int .i64 t,.func (.func 119) #[] #[]] w fun e w'=>e=.returned (.tuple #[.int .i64 (posK PendV.tid t l:Int),.bool (keyB PendV.tid l t)])∧Turn [] w w':=by
 obtain⟨L,rfl,hT,-⟩:=h;have:=VP.place_calls (hT.pds) (rising_pds.2 hr) (by rw[List.length_map]at hfew ⊢;exact hfew) t;rwa[List.length_map,posK_pds,keyB_pds,←List.length_map (f:=Lay.v)]at this
theorem ended_calls {w:World} {a:Ads} {s:StV} (h:StIs w a s) (hr:Rising EndV.tid s.ends) (hfew:s.ends.length≤1000000) (t:Int):Calls Tryz.prog 72 #[.agg (s.cells a),.int .i64 t] w fun e w'=>e=.returned (.bool (keyB EndV.tid s.ends t))∧Turn [] w w':=by
 have T0:=η (Turn.alloc [] w (.cells (s.cells a) 27));have C:=η (ends_place ((h.still T0.out).ends) hr hfew t);obtain⟨b,hb⟩:=ε (keyB EndV.tid s.ends t);obtain⟨p,hp⟩:=ε (posK EndV.tid t s.ends);rw[←hb,←hp]at C;rw[←hb];clear h hr hfew hb hp;unfold StV.cells at*;go_in;go_wp2_with fail;refine C.out.mono ?_;rintro e w1 ⟨rfl,t1⟩;have T1:=η (T0.out.trans t1);clear t1 C T0;go_wp2_with fail;go_ret;exact⟨rfl,T1.out⟩
theorem prepared_calls {w:World} {a:Ads} {s:StV} (h:StIs w a s) (hr:Rising BrV.tid s.waits) (hfew:s.waits.length≤1000000) (t:Int):Calls Tryz.prog 122 #[.agg (s.cells a),.int .i64 t] w fun e w'=>e=.returned (.bool (keyB BrV.tid s.waits t))∧Turn [] w w':=by
 have T0:=η (Turn.alloc [] w (.cells (s.cells a) 27));have C:=η (brs_place ((h.still T0.out).waits) hr hfew t);obtain⟨b,hb⟩:=ε (keyB BrV.tid s.waits t);obtain⟨p,hp⟩:=ε (posK BrV.tid t s.waits);rw[←hb,←hp]at C;rw[←hb];clear h hr hfew hb hp;unfold StV.cells at*;go_in;go_wp2_with fail;refine C.out.mono ?_;rintro e w1 ⟨rfl,t1⟩;have T1:=η (T0.out.trans t1);clear t1 C T0;go_wp2_with fail;go_ret;exact⟨rfl,T1.out⟩
theorem open_calls {w:World} {a:Ads} {s:StV} (h:StIs w a s) (hr:Rising PendV.tid s.open_) (hfew:s.open_.length≤1000000) (t:Int):Calls Tryz.prog 138 #[.agg (s.cells a),.int .i64 t] w fun e w'=>e=.returned (.bool (keyB PendV.tid s.open_ t))∧Turn [] w w':=by
 have T0:=η (Turn.alloc [] w (.cells (s.cells a) 27));have C:=η (pds_place ((h.still T0.out).open_) hr hfew t);obtain⟨b,hb⟩:=ε (keyB PendV.tid s.open_ t);obtain⟨p,hp⟩:=ε (posK PendV.tid t s.open_);rw[←hb,←hp]at C;rw[←hb];clear h hr hfew hb hp;unfold StV.cells at*;go_in;go_wp2_with fail;refine C.out.mono ?_;rintro e w1 ⟨rfl,t1⟩;have T1:=η (T0.out.trans t1);clear t1 C T0;go_wp2_with fail;go_ret;exact⟨rfl,T1.out⟩
theorem cell_new (w:World) (x:Value) (t:TypeId):(w.alloc (.cells #[x] t)).cell? ⟨w.heap.size,0,none⟩=some x:=by
 have h:(w.alloc (.cells #[x] t)).heap[w.heap.size]?=some (.cells #[x] t):=by
  show(w.heap.push (.cells #[x] t))[w.heap.size]?=_;exact Array.getElem?_push_size
 unfold World.cell?;rw[h];rfl
theorem idF_enter (args:Array Value) (w:World):(callFunc 183 args).run Tryz.prog w=.ok (.enter 183 args) w:=
 enter_run Tryz.func183 (by kernel_rfl) (by kernel_rfl) args w
theorem idF_calls (m:MsgV) (t:Int) {q:Nat} {w:World} (hq:w.cell? ⟨q,0,none⟩=some (.int .i64 t)):Calls Tryz.prog 183 #[.agg (msgC m).toArray,.pointer (some ⟨q,0,none⟩)] w fun e w'=>e=.returned (.bool (decide (m.id=t)))∧Turn [] w w':=by
 obtain⟨i,qu,bo,sq,co,by_⟩:=m;have hq1:=(Turn.alloc [] w (.cells #[.int .i64 i,.string qu,.string bo,.int .i64 sq,.int .i64 co,.int .i64 by_] 49)).cell hq;unfold msgC;dsimp only;go_in;go_wp2_with fail;go_ret;exact⟨ret_bool (by first | rfl | simp),Turn.alloc [] w _⟩
theorem indexId_calls {w:World} {ao:Option Addr} {cp:Nat} {l:List MsgV} (h:Tl 6 msgC w ao cp l) (t:Int) {q:Nat} (hq:w.cell? ⟨q,0,none⟩=some (.int .i64 t)):
 Calls Tryz.prog 182 #[.slice ao l.length cp,.func (.func 183) #[] #[.pointer (some ⟨q,0,none⟩)]] w fun e w'=>e=.returned (.int .i64 (placeI (fun m:MsgV=>decide (m.id=t)) l))∧Turn [] w w':=by
 have hlen:=h.len;have H:=η h;have HQ:=η hq;have EN:=idF_enter;obtain⟨ans,ha⟩:=ε (placeI (fun m:MsgV=>decide (m.id=t)) l);have HA:=η ha;rw[←ha];obtain⟨n,hn⟩:=ε l.length;have HN:=η hn;rw[←hn]at hlen ⊢;clear h hn ha hq;go_in;go_wp2_with fail;go_loopw [8] (fun vi wx=>∃k:Nat,k≤n∧vi=.int .i64 (k:Int)∧(∀(j:Nat) (y:MsgV),j<k→l[j]?=some y→(fun m:MsgV=>decide (m.id=t)) y=false)∧Turn [] w wx) (fun vi _=>n-(intOf vi).toNat)
 case atStart=>exact⟨0,by omega,rfl,fun j y hj=>by omega,Turn.refl _ _⟩
 case round=>
  obtain⟨k,hk,rfl,hall,ht⟩:=hrel;have HT:=η ht;have H2:=H.out.still ht;have hq2:=ht.cell HQ.out;have HL:=η hall;clear hall ht;by_cases hkn:k<n
  · have hkl:k<l.length:=by rw[←HN.out];exact hkn
    obtain⟨m,hm⟩:∃m,l[k]?=some m:=⟨_,List.getElem?_eq_getElem hkl⟩
    obtain⟨g,off,rfl,hat⟩:=H2.at hm;have C:=η (idF_calls m t hq2);have q0:=hat 0 (.int .i64 m.id) rfl;have q1:=hat 1 (.string m.queue) rfl;have q2:=hat 2 (.string m.body) rfl;have q3:=hat 3 (.int .i64 m.seq) rfl;have q4:=hat 4 (.int .i64 m.count) rfl;have q5:=hat 5 (.int .i64 m.by_) rfl;rw[Nat.add_zero]at q0;have hb:0≤(k:Int)∧(k:Int)<(n:Int):=by omega
    have HX:Hid (decide (m.id=t)=false→∀(j:Nat) (y:MsgV),j<k+1→l[j]?=some y→(fun m:MsgV=>decide (m.id=t)) y=false):=η (fun hne j y hj hy=>by
     by_cases e:j=k
     · rw[e,hm]at hy;injection hy with hy
       rw[←hy];exact hne
     · exact HL.out j y (by omega) hy)
    have HF:Hid (decide (m.id=t)=true→ans=(k:Int)):=η (fun he=>by rw[HA.out];exact place_hit hm he HL.out);obtain⟨i,qu,bo,sq,co,by_⟩:=m;unfold msgC at C;dsimp only at q0 q1 q2 q3 q4 q5 HX HF C;obtain⟨c,hc⟩:=ε (decide (i=t));rw[←hc]at C HX HF;clear hat hm hc H2 hq2 HL;cases c with
    | true=>
     have HF2:=η (HF.out rfl);clear HF HX;go_wp2_with fail;refine C.out.mono ?_;rintro e x1 ⟨rfl,t1⟩;have T1:=η (HT.out.trans t1);clear t1 C;go_wp2_with fail;go_ret;exact⟨ret_int HF2.out.symm,T1.out⟩
    | false=>
     have HX2:=η (HX.out rfl);clear HF HX;go_wp2_with fail;refine C.out.mono ?_;rintro e x1 ⟨rfl,t1⟩;have T1:=η (HT.out.trans t1);clear t1 C;go_wp2_with fail;go_roundw
     case rel=>exact⟨k+1,by omega,by go_num,HX2.out,T1.out⟩
     case measure=>simp[intOf];omega
  · have hkk:k=n:=by omega
    have HF:Hid (ans=-1):=η (by
     rw[HA.out];refine place_none (fun i y hy=>HL.out i y ?_ hy);have:=(List.getElem?_eq_some_iff.1 hy).1;rw[hkk,HN.out]
     exact this)
    clear HL H2 hq2;go_wp2_with fail;go_ret;exact⟨ret_int HF.out.symm,HT.out⟩
theorem messageAt_calls {w:World} {a:Ads} {s:StV} (h:StIs w a s) (t:Int):Calls Tryz.prog 124 #[.agg (s.cells a),.int .i64 t] w fun e w'=>e=.returned (.int .i64 (placeI (fun m:MsgV=>decide (m.id=t)) s.ms))∧Turn [] w w':=by
 have t0:=(Turn.alloc [] w (.cells (s.cells a) 27)).trans (Turn.alloc [] _ (.cells #[.int .i64 t] 2));have hq:=cell_new (w.alloc (.cells (s.cells a) 27)) (.int .i64 t) 2;rw[show(w.alloc (.cells (s.cells a) 27)).heap.size=w.heap.size+1 by simp]at hq;have C:=η (indexId_calls ((h.still t0).ms) t hq);have T0:=η t0;obtain⟨b,hb⟩:=ε (placeI (fun m:MsgV=>decide (m.id=t)) s.ms);rw[←hb]at C ⊢;clear h hb t0 hq;unfold StV.cells at*;go_in;go_wp2_with fail;refine C.out.mono ?_;rintro e w1 ⟨rfl,t1⟩;have T1:=η (T0.out.trans t1);clear t1 C T0;go_wp2_with fail;go_ret;exact⟨rfl,T1.out⟩
theorem isOwn_calls {w:World} (s:StV) (a:Ads) (t:Int) (ht:-9223372036854775808≤t∧t≤9223372036854775807):Calls Tryz.prog 139 #[.agg (s.cells a),.int .i64 t] w fun e w'=>e=.returned (.bool (decide (homeZ t=s.broker)))∧Turn [] w w':=by
 have C:=η (fun wx=>kindHome_calls t wx ht);obtain⟨b,hb⟩:=ε (homeZ t);have T0:=η (fun n=>(Turn.alloc [] w (.cells (s.cells a) 27)).trans (Turn.drewN [] _ n));rw[←hb]at C ⊢;obtain⟨br,ni,ns,tx,ms,ws,es,os,zs⟩:=s;clear hb ht;unfold StV.cells at*;dsimp only;have hbool:(b==br)=decide (b=br):=by by_cases e:b=br<;>simp[e]
 go_in;go_wp2_with fail;go_quiet ((go_at_call 176;exact(C.out _).mono fun _ _ h=>⟨h.1,_,h.2.symm⟩));go_wp2_with fail;go_ret;exact⟨ret_bool (by first | exact hbool | rfl),T0.out _⟩
theorem index_calls {w:World} {ao:Option Addr} {c:Nat} {l:List Int} (n:Int) (h:Il w ao c l):Calls Tryz.prog 189 #[.slice ao l.length c,.int .i64 n] w fun e w'=>e=.returned (.int .i64 (placeI (fun x:Int=>decide (x=n)) l))∧w=w':=by
 have hlen:=h.len;have H:=η h;obtain⟨ans,ha⟩:=ε (placeI (fun x:Int=>decide (x=n)) l);have HA:=η ha;rw[←ha];obtain⟨m,hm⟩:=ε l.length;have HN:=η hm;rw[←hm]at hlen ⊢;clear h hm ha;go_in;go_wp2_with fail
 go_loop [8] (fun i=>∃k:Nat,k≤m∧i=.int .i64 (k:Int)∧∀(j:Nat) (y:Int),j<k→l[j]?=some y→(fun x:Int=>decide (x=n)) y=false) (fun i=>m-(intOf i).toNat)
 case atStart=>exact⟨0,by omega,rfl,fun j y hj=>by omega⟩
 case round=>
  obtain⟨k,hk,rfl,hall⟩:=hrel;have HL:=η hall;clear hall;by_cases hkn:k<m
  · have hkl:k<l.length:=by rw[←HN.out];exact hkn
    obtain⟨b,off,rfl,-,hat⟩:=H.out.at (by intro e;rw[e]at hkl;simp at hkl);have q1:=hat k hkl;have hx:l[k]?=some (l.getD k 0):=by simp[List.getD,hkl]
    obtain⟨y,hy⟩:=ε (l.getD k 0);rw[←hy]at q1 hx;have hb:0≤(k:Int)∧(k:Int)<(m:Int):=by omega
    by_cases hxy:y=n
    · have HF:Hid (ans=(k:Int)):=η (by rw[HA.out];exact place_hit hx (by simpa using hxy) HL.out);rw[hxy]at q1;clear hat hxy HL hy hx;go_wp2_with fail;go_ret;exact⟨ret_int HF.out.symm,rfl⟩
    · have HX:Hid (∀(j:Nat) (y:Int),j<k+1→l[j]?=some y→(fun x:Int=>decide (x=n)) y=false):=η (fun j z hj hz=>by
       by_cases e:j=k
       · rw[e,hx]at hz;injection hz with hz
         rw[←hz];simpa using hxy
       · exact HL.out j z (by omega) hz)
      have hne:(n==y)=false:=by simpa using fun e:n=y=>hxy e.symm
      clear hat hy HL hxy hx;go_wp2_with fail
      go_round
      case rel=>exact⟨k+1,by omega,by go_num,HX.out⟩
      case measure=>simp[intOf];omega
  · have hkk:k=m:=by omega
    have HF:Hid (ans=-1):=η (by
     rw[HA.out];refine place_none (fun i y hy=>HL.out i y ?_ hy);have:=(List.getElem?_eq_some_iff.1 hy).1;rw[hkk,HN.out]
     exact this)
    clear HL;go_wp2_with fail;go_ret;exact⟨ret_int HF.out.symm,rfl⟩
theorem placeI_mem (n:Int) (l:List Int):decide (0≤placeI (fun x:Int=>decide (x=n)) l)=decide (n∈l):=by
 unfold placeI;cases h:l.findIdx? (fun x:Int=>decide (x=n))with
 | none=>
  rw[List.findIdx?_eq_none_iff]at h;have:n∉l:=fun hm=>by have:=h n hm;simp at this
  simp[this]
 | some i=>
  obtain⟨h1,h2,-⟩:=List.findIdx?_eq_some_iff_getElem.1 h;have:n∈l:=by rw[←(by simpa using h2:l[i]=n)];exact List.getElem_mem h1
  simp[this]
theorem contains_calls {w:World} {ao:Option Addr} {c:Nat} {l:List Int} (n:Int) (h:Il w ao c l):Calls Tryz.prog 136 #[.slice ao l.length c,.int .i64 n] w fun e w'=>e=.returned (.bool (decide (n∈l)))∧w=w':=by
 have C:=η (index_calls n h);rw[←placeI_mem];obtain⟨p,hp⟩:=ε (placeI (fun x:Int=>decide (x=n)) l);rw[←hp]at C ⊢;obtain⟨m,hm⟩:=ε l.length;rw[←hm]at C ⊢;clear h hp hm;go_in;go_wp2_with fail;refine C.out.mono ?_;rintro e w1 ⟨rfl,rfl⟩;go_wp2_with fail;go_ret;exact⟨ret_bool (by first | rfl | simp),rfl⟩
theorem isPart_calls {w:World} (s:StV) (a:Ads) {ao:Option Addr} {c:Nat} {l:List Int} (h:Il w ao c l):Calls Tryz.prog 140 #[.agg (s.cells a),.slice ao l.length c] w fun e w'=>e=.returned (.bool (decide (s.broker∈l)))∧Turn [] w w':=by
 have T0:=η (Turn.alloc [] w (.cells (s.cells a) 27));have C:=η (contains_calls s.broker (h.turn T0.out));obtain⟨r,hr⟩:=ε (decide (s.broker∈l));rw[←hr]at C ⊢;obtain⟨m,hm⟩:=ε l.length;rw[←hm]at C ⊢;clear h hr hm;unfold StV.cells at*;go_in;go_wp2_with fail;refine C.out.mono ?_;rintro e w1 ⟨rfl,rfl⟩;go_wp2_with fail;go_ret;exact⟨rfl,T0.out⟩
theorem StV.boxed {w:World} (s:StV) (a:Ads) {wx:World} (t:Turn [] (w.alloc (.cells (s.cells a) 27)) wx):
 wx.cell? ⟨w.heap.size,0,none⟩=some (.int .i64 s.broker)∧wx.cell? ⟨w.heap.size,1,none⟩=some (.int .i64 s.nextId)∧wx.cell? ⟨w.heap.size,2,none⟩=some (.int .i64 s.nextSeq)∧wx.cell? ⟨w.heap.size,3,none⟩=some (.int .i64 s.tx)∧wx.cell? ⟨w.heap.size,4,none⟩=some (.slice a.m s.ms.length a.cm)∧wx.cell? ⟨w.heap.size,5,none⟩=some (.slice a.w s.waits.length a.cw)∧wx.cell? ⟨w.heap.size,6,none⟩=some (.slice a.e s.ends.length a.ce)∧wx.cell? ⟨w.heap.size,7,none⟩=some (.slice a.o s.open_.length a.co)∧wx.cell? ⟨w.heap.size,8,none⟩=some (.slice a.n s.noes.length a.cn):=
 nine_of (t.heap (heap_alloc_new w _))
theorem risesB_pairs {α:Type} (key:α→Int) (f:α→Int×Value) (hf:∀x,(f x).1=key x) (l:List α):(decide ((l.map f).length≤2000)&&risesFrom 0 (l.map f))=risesB key l:=by
 unfold risesB;rw[risesFrom_zero,List.length_map];congr 1;rw[decide_eq_decide,rising_map];have e:(fun x=>Prod.fst (f x))=key:=funext hf;rw[e];constructor
 · rintro⟨h1,h2⟩;exact⟨fun x hx=>by have:=h1 (f x) (List.mem_map_of_mem hx);rwa[hf]at this,h2⟩
 · rintro⟨h1,h2⟩;refine⟨fun p hp=>?_,h2⟩;obtain⟨x,hx,rfl⟩:=List.mem_map.1 hp;rw[hf];exact h1 x hx
theorem risesB_lay {α:Type} (key:α→Int) (L:List (Lay α)):risesB (fun x:Lay α=>key x.v) L=risesB key (L.map Lay.v):=by
 unfold risesB;rw[List.length_map];congr 1;rw[decide_eq_decide,rising_map];constructor
 · rintro⟨h1,h2⟩;refine⟨fun p hp=>?_,h2⟩;obtain⟨x,hx,rfl⟩:=List.mem_map.1 hp;exact h1 x hx
 · rintro⟨h1,h2⟩;exact⟨fun x hx=>h1 x.v (List.mem_map_of_mem hx),h2⟩
theorem ends_rises {w:World} {ao:Option Addr} {c:Nat} {l:List EndV} (h:Tl 2 endC w ao c l) (hok:∀x∈l,okI x.tid):
 Calls Tryz.prog 116 #[.slice ao l.length c,.func (.func 117) #[] #[]] w fun e w'=>e=.returned (.bool (risesB EndV.tid l))∧Turn [] w w':=by
 have:=VE.rises_calls h.ends (ends_form l) (fun p hp=>by obtain⟨x,hx,rfl⟩:=List.mem_map.1 hp;exact hok x hx);rwa[risesB_pairs EndV.tid endP (fun _=>rfl),List.length_map]at this
theorem brs_rises {w:World} {ao:Option Addr} {c:Nat} {l:List BrV} (h:Ws w ao c l) (hok:∀x∈l,okI x.tid):
 Calls Tryz.prog 114 #[.slice ao l.length c,.func (.func 115) #[] #[]] w fun e w'=>e=.returned (.bool (risesB BrV.tid l))∧Turn [] w w':=by
 obtain⟨L,rfl,hT,-⟩:=h;have:=VB.rises_calls hT.brs (brs_form L) (fun p hp=>by obtain⟨x,hx,rfl⟩:=List.mem_map.1 hp;exact hok x.v (List.mem_map_of_mem hx));rwa[risesB_pairs (fun x:Lay BrV=>x.v.tid) brP (fun _=>rfl),risesB_lay,List.length_map,←List.length_map (f:=Lay.v)]at this
theorem pds_rises {w:World} {ao:Option Addr} {c:Nat} {l:List PendV} (h:Pds w ao c l) (hok:∀x∈l,okI x.tid):
 Calls Tryz.prog 118 #[.slice ao l.length c,.func (.func 119) #[] #[]] w fun e w'=>e=.returned (.bool (risesB PendV.tid l))∧Turn [] w w':=by
 obtain⟨L,rfl,hT,-⟩:=h;have:=VP.rises_calls hT.pds (pds_form L) (fun p hp=>by obtain⟨x,hx,rfl⟩:=List.mem_map.1 hp;exact hok x.v (List.mem_map_of_mem hx));rwa[risesB_pairs (fun x:Lay PendV=>x.v.tid) pendP' (fun _=>rfl),risesB_lay,List.length_map,←List.length_map (f:=Lay.v)]at this
theorem mayRise_calls {w:World} {a:Ads} {s:StV} (h:StIs w a s) (hf:s.fit):Calls Tryz.prog 47 #[.agg (s.cells a)] w fun e w'=>e=.returned (.bool (riseAllB s))∧Turn [] w w':=by
 have T0:=η (Turn.alloc [] w (.cells (s.cells a) 27));have U0:=η (Turn.refl [] (w.alloc (.cells (s.cells a) 27)));have HS:=η (fun wx (t:Turn [] (w.alloc (.cells (s.cells a) 27)) wx)=>h.still (T0.out.trans t));have BX:=η (fun wx (t:Turn [] (w.alloc (.cells (s.cells a) 27)) wx)=>s.boxed a t);have C1:=η (fun wx (t:Turn [] (w.alloc (.cells (s.cells a) 27)) wx)=>brs_rises (HS.out wx t).waits hf.waits);have C2:=η (fun wx (t:Turn [] (w.alloc (.cells (s.cells a) 27)) wx)=>ends_rises (HS.out wx t).ends hf.ends);have C3:=η (fun wx (t:Turn [] (w.alloc (.cells (s.cells a) 27)) wx)=>pds_rises (HS.out wx t).open_ hf.open_);have C4:=η (fun wx (t:Turn [] (w.alloc (.cells (s.cells a) 27)) wx)=>pds_rises (HS.out wx t).noes hf.noes);unfold riseAllB;obtain⟨r1,e1⟩:=ε (risesB BrV.tid s.waits);obtain⟨r2,e2⟩:=ε (risesB EndV.tid s.ends);obtain⟨r3,e3⟩:=ε (risesB PendV.tid s.open_);obtain⟨r4,e4⟩:=ε (risesB PendV.tid s.noes);rw[←e1]at C1 ⊢;rw[←e2]at C2 ⊢;rw[←e3]at C3 ⊢;rw[←e4]at C4 ⊢;clear e1 e2 e3 e4 h hf HS;unfold StV.cells at*;go_in;cases r1 with
 | false=>
  go_wp2_with fail;refine(C1.out _ U0.out).mono ?_;rintro e x1 ⟨rfl,t1⟩;have U1:=η (U0.out.trans t1);clear t1;obtain⟨b0,b1,b2,b3,b4,b5,b6,b7,b8⟩:=BX.out _ U1.out;go_wp2_with fail;go_ret;exact⟨rfl,T0.out.trans U1.out⟩
 | true=>
  cases r2 with
  | false=>
   go_wp2_with fail;refine(C1.out _ U0.out).mono ?_;rintro e x1 ⟨rfl,t1⟩;have U1:=η (U0.out.trans t1);clear t1;obtain⟨b0,b1,b2,b3,b4,b5,b6,b7,b8⟩:=BX.out _ U1.out;go_wp2_with fail;refine(C2.out _ U1.out).mono ?_;rintro e x2 ⟨rfl,t2⟩;have U2:=η (U1.out.trans t2);clear t2;obtain⟨b0,b1,b2,b3,b4,b5,b6,b7,b8⟩:=BX.out _ U2.out;go_wp2_with fail;go_ret;exact⟨rfl,T0.out.trans U2.out⟩
  | true=>
   cases r3 with
   | false=>
    go_wp2_with fail;refine(C1.out _ U0.out).mono ?_;rintro e x1 ⟨rfl,t1⟩;have U1:=η (U0.out.trans t1);clear t1;obtain⟨b0,b1,b2,b3,b4,b5,b6,b7,b8⟩:=BX.out _ U1.out;go_wp2_with fail;refine(C2.out _ U1.out).mono ?_;rintro e x2 ⟨rfl,t2⟩;have U2:=η (U1.out.trans t2);clear t2;obtain⟨b0,b1,b2,b3,b4,b5,b6,b7,b8⟩:=BX.out _ U2.out;go_wp2_with fail;refine(C3.out _ U2.out).mono ?_;rintro e x3 ⟨rfl,t3⟩;have U3:=η (U2.out.trans t3);clear t3;obtain⟨b0,b1,b2,b3,b4,b5,b6,b7,b8⟩:=BX.out _ U3.out;go_wp2_with fail;go_ret;exact⟨rfl,T0.out.trans U3.out⟩
   | true=>
    cases r4 with
    | false=>
     go_wp2_with fail;refine(C1.out _ U0.out).mono ?_;rintro e x1 ⟨rfl,t1⟩;have U1:=η (U0.out.trans t1);clear t1;obtain⟨b0,b1,b2,b3,b4,b5,b6,b7,b8⟩:=BX.out _ U1.out;go_wp2_with fail;refine(C2.out _ U1.out).mono ?_;rintro e x2 ⟨rfl,t2⟩;have U2:=η (U1.out.trans t2);clear t2;obtain⟨b0,b1,b2,b3,b4,b5,b6,b7,b8⟩:=BX.out _ U2.out;go_wp2_with fail;refine(C3.out _ U2.out).mono ?_;rintro e x3 ⟨rfl,t3⟩;have U3:=η (U2.out.trans t3);clear t3;obtain⟨b0,b1,b2,b3,b4,b5,b6,b7,b8⟩:=BX.out _ U3.out;go_wp2_with fail;refine(C4.out _ U3.out).mono ?_;rintro e x4 ⟨rfl,t4⟩;have U4:=η (U3.out.trans t4);clear t4;go_wp2_with fail;go_ret;exact⟨rfl,T0.out.trans U4.out⟩
    | true=>
     go_wp2_with fail;refine(C1.out _ U0.out).mono ?_;rintro e x1 ⟨rfl,t1⟩;have U1:=η (U0.out.trans t1);clear t1;obtain⟨b0,b1,b2,b3,b4,b5,b6,b7,b8⟩:=BX.out _ U1.out;go_wp2_with fail;refine(C2.out _ U1.out).mono ?_;rintro e x2 ⟨rfl,t2⟩;have U2:=η (U1.out.trans t2);clear t2;obtain⟨b0,b1,b2,b3,b4,b5,b6,b7,b8⟩:=BX.out _ U2.out;go_wp2_with fail;refine(C3.out _ U2.out).mono ?_;rintro e x3 ⟨rfl,t3⟩;have U3:=η (U2.out.trans t3);clear t3;obtain⟨b0,b1,b2,b3,b4,b5,b6,b7,b8⟩:=BX.out _ U3.out;go_wp2_with fail;refine(C4.out _ U3.out).mono ?_;rintro e x4 ⟨rfl,t4⟩;have U4:=η (U3.out.trans t4);clear t4;go_wp2_with fail;go_ret;exact⟨rfl,T0.out.trans U4.out⟩
theorem mayNumbers_calls (s:StV) (a:Ads) (w:World):Calls Tryz.prog 46 #[.agg (s.cells a)] w fun e w'=>e=.returned (.bool (numB s))∧Turn [] w w':=by
 have T0:=η (Turn.alloc [] w (.cells (s.cells a) 27));have C1:=η (kindBroker_calls s.broker);unfold numB;obtain⟨r1,e1⟩:=ε (brokerB s.broker);obtain⟨ans,ha⟩:=ε (decide (1≤s.nextId∧s.nextId≤4294967296∧1≤s.nextSeq∧s.nextSeq≤1099511627776∧0≤s.tx∧s.tx≤200));have HA:=η ha;rw[←e1]at C1 ⊢;rw[←ha];clear e1 ha;unfold StV.cells at*;go_in;cases r1 with
 | false=>
  go_wp2_with fail;refine(C1.out _).mono ?_;rintro e x1 ⟨rfl,rfl⟩;go_wp2_with fail;go_ret;exact⟨rfl,T0.out⟩
 | true=>
  by_cases h0:1≤s.nextId
  · have d0:decide (1≤s.nextId)=true:=decide_eq_true h0;by_cases h1:s.nextId≤4294967296
    · have d1:decide (s.nextId≤4294967296)=true:=decide_eq_true h1;by_cases h2:1≤s.nextSeq
      · have d2:decide (1≤s.nextSeq)=true:=decide_eq_true h2;by_cases h3:s.nextSeq≤1099511627776
        · have d3:decide (s.nextSeq≤1099511627776)=true:=decide_eq_true h3;by_cases h4:0≤s.tx
          · have d4:decide (0≤s.tx)=true:=decide_eq_true h4;by_cases h5:s.tx≤200
            · have d5:decide (s.tx≤200)=true:=decide_eq_true h5;go_wp2_with fail;refine(C1.out _).mono ?_;rintro e x1 ⟨rfl,rfl⟩;go_wp2_with fail;go_ret;exact⟨ret_bool (by rw[HA.out];first | (symm;exact decide_eq_true (by omega)) | (symm;exact decide_eq_false (by omega)) | simp_all),T0.out⟩
            · have d5:decide (s.tx≤200)=false:=decide_eq_false h5;go_wp2_with fail;refine(C1.out _).mono ?_;rintro e x1 ⟨rfl,rfl⟩;go_wp2_with fail;go_ret;exact⟨ret_bool (by rw[HA.out];first | (symm;exact decide_eq_true (by omega)) | (symm;exact decide_eq_false (by omega)) | simp_all),T0.out⟩
          · have d4:decide (0≤s.tx)=false:=decide_eq_false h4;go_wp2_with fail;refine(C1.out _).mono ?_;rintro e x1 ⟨rfl,rfl⟩;go_wp2_with fail;go_ret;exact⟨ret_bool (by rw[HA.out];first | (symm;exact decide_eq_true (by omega)) | (symm;exact decide_eq_false (by omega)) | simp_all),T0.out⟩
        · have d3:decide (s.nextSeq≤1099511627776)=false:=decide_eq_false h3;go_wp2_with fail;refine(C1.out _).mono ?_;rintro e x1 ⟨rfl,rfl⟩;go_wp2_with fail;go_ret;exact⟨ret_bool (by rw[HA.out];first | (symm;exact decide_eq_true (by omega)) | (symm;exact decide_eq_false (by omega)) | simp_all),T0.out⟩
      · have d2:decide (1≤s.nextSeq)=false:=decide_eq_false h2;go_wp2_with fail;refine(C1.out _).mono ?_;rintro e x1 ⟨rfl,rfl⟩;go_wp2_with fail;go_ret;exact⟨ret_bool (by rw[HA.out];first | (symm;exact decide_eq_true (by omega)) | (symm;exact decide_eq_false (by omega)) | simp_all),T0.out⟩
    · have d1:decide (s.nextId≤4294967296)=false:=decide_eq_false h1;go_wp2_with fail;refine(C1.out _).mono ?_;rintro e x1 ⟨rfl,rfl⟩;go_wp2_with fail;go_ret;exact⟨ret_bool (by rw[HA.out];first | (symm;exact decide_eq_true (by omega)) | (symm;exact decide_eq_false (by omega)) | simp_all),T0.out⟩
  · have d0:decide (1≤s.nextId)=false:=decide_eq_false h0;go_wp2_with fail;refine(C1.out _).mono ?_;rintro e x1 ⟨rfl,rfl⟩;go_wp2_with fail;go_ret;exact⟨ret_bool (by rw[HA.out];first | (symm;exact decide_eq_true (by omega)) | (symm;exact decide_eq_false (by omega)) | simp_all),T0.out⟩
theorem waitRecord_calls (x:BrV) (ao:Option Addr) (c:Nat) (w:World):Calls Tryz.prog 120 #[.agg #[.int .i64 x.tid,.slice ao x.puts.length c]] w fun e w'=>e=.returned (.agg ((waitR x).cells none 0 ao c))∧Turn [] w w':=by
 obtain⟨n,hn⟩:=ε x.puts.length;have HC:Hid ((waitR x).cells none 0 ao c=#[.int .i64 4,.int .i64 x.tid,.int .i64 0,.bool false,.slice none 0 0,.slice ao n c]):=η (by rw[hn];rfl);have T2:Hid (∀o o',Turn [] w ((w.alloc o).alloc o')):=η (fun o o'=>(Turn.alloc [] w o).trans (Turn.alloc [] _ o'));rw[HC.out,←hn];clear hn HC;go_in;go_wp2_with fail;refine bodyPost_ret_by (results_cell_row rfl _ _ (w.heap.size+1) 37 _ (0,0) _ rfl (by first | exact heap_alloc_new (w.alloc _) _ | (rw[show w.heap.size+1=(w.alloc _).heap.size from by simp];exact heap_alloc_new (w.alloc _) _)) Tryz.underlying37 rfl (by kernel_rfl)) rfl ?_;exact⟨rfl,T2.out _ _⟩
theorem pendRecord_calls (x:PendV) (ao:Option Addr) (c:Nat) (w:World):Calls Tryz.prog 128 #[.agg #[.int .i64 x.tid,.slice ao x.parts.length c]] w fun e w'=>e=.returned (.agg ((pendR x).cells ao c none 0))∧Turn [] w w':=by
 obtain⟨n,hn⟩:=ε x.parts.length;have HC:Hid ((pendR x).cells ao c none 0=#[.int .i64 6,.int .i64 x.tid,.int .i64 0,.bool false,.slice ao n c,.slice none 0 0]):=η (by rw[hn];rfl);have T2:Hid (∀o o',Turn [] w ((w.alloc o).alloc o')):=η (fun o o'=>(Turn.alloc [] w o).trans (Turn.alloc [] _ o'));rw[HC.out,←hn];clear hn HC;go_in;go_wp2_with fail;refine bodyPost_ret_by (results_cell_row rfl _ _ (w.heap.size+1) 37 _ (0,0) _ rfl (by first | exact heap_alloc_new (w.alloc _) _ | (rw[show w.heap.size+1=(w.alloc _).heap.size from by simp];exact heap_alloc_new (w.alloc _) _)) Tryz.underlying37 rfl (by kernel_rfl)) rfl ?_;exact⟨rfl,T2.out _ _⟩
theorem two_of {w:World} {g:Nat} {v0 v1:Value} {t:TypeId} (h:w.heap[g]?=some (.cells #[v0,v1] t)):w.cell? ⟨g,0,none⟩=some v0∧w.cell? ⟨g,1,none⟩=some v1:=by
 refine⟨?_,?_⟩<;>rw[cell_of_row _ _ _ _ _ _ h]<;>rfl
theorem mayWaits_calls {w:World} {a:Ads} {s:StV} (h:StIs w a s) (hf:s.fit) (hr:Rising EndV.tid s.ends) (hfew:s.ends.length≤1000000):Calls Tryz.prog 48 #[.agg (s.cells a)] w fun e w'=>e=.returned (.bool (s.waits.all (waitOkB s)))∧Turn [] w w':=by
 have hlen:=h.waits.len;obtain⟨L,hL,hT,hP⟩:=h.waits;have T0:=η (Turn.alloc [] w (.cells (s.cells a) 27));have U0:=η (Turn.refl [] (w.alloc (.cells (s.cells a) 27)));have HS:=η (fun wx (t:Turn [] (w.alloc (.cells (s.cells a) 27)) wx)=>h.still (T0.out.trans t));have BX:=η (fun wx (t:Turn [] (w.alloc (.cells (s.cells a) 27)) wx)=>s.boxed a t);have KR:=η (fun(x:Lay BrV) (hx:x∈L) wx (t:Turn [] (w.alloc (.cells (s.cells a) 27)) wx)=>kindRecord_calls (waitR x.v) (w:=wx) (ap:=none) (cp:=0) (aq:=x.ao) (cq:=x.c) (.inl ⟨rfl,rfl,rfl⟩) ((hP x hx).turn (T0.out.trans t)) (hf.waits x.v (by rw[←hL];exact List.mem_map_of_mem hx)) (by show _≤(0:Int)∧(0:Int)≤_;omega));have EC:=η (fun t wx (tt:Turn [] (w.alloc (.cells (s.cells a) 27)) wx)=>ended_calls (HS.out wx tt) hr hfew t);have H:=η (fun wx (t:Turn [] (w.alloc (.cells (s.cells a) 27)) wx)=>hT.still (T0.out.trans t));have HL:=η hL;obtain⟨ok,hok⟩:=ε (waitOkB s);have HOK:=η hok;rw[←hok];obtain⟨ans,ha⟩:=ε (s.waits.all ok);have HS0:Hid (ans=(s.waits.drop 0).all ok):=η (by rw[ha];rfl);rw[←ha];obtain⟨n,hn⟩:=ε s.waits.length;have HN:=η hn;unfold StV.cells at*;obtain⟨am,cm,aw,cw,ae,ce,oo,co,an,cn⟩:=a;dsimp only at KR EC H BX T0 U0 ⊢;rw[←hn]at hlen ⊢;rw[←hn]at KR EC H BX T0 U0;clear h hf hr hfew HS hT hP hL ha hok hn;go_in;go_wp2_with fail;go_loopw [8] (fun vi wx=>∃k:Nat,k≤n∧vi=.int .i64 (k:Int)∧ans=(s.waits.drop k).all ok∧Turn [] (w.alloc (.cells #[.int .i64 s.broker,.int .i64 s.nextId,.int .i64 s.nextSeq,.int .i64 s.tx,.slice am s.ms.length cm,.slice aw n cw,.slice ae s.ends.length ce,.slice oo s.open_.length co,.slice an s.noes.length cn] 27)) wx) (fun vi _=>n-(intOf vi).toNat)
 case atStart=>exact⟨0,by omega,rfl,HS0.out,U0.out⟩
 case round=>
  obtain⟨k,hk,rfl,hall,ht⟩:=hrel;have HT:=η ht;have HA:=η hall;have H2:=H.out wr ht;clear hall ht HS0;by_cases hkn:k<n
  · have hkl:k<L.length:=by have:=congrArg List.length HL.out;rw[List.length_map]at this;rw[this,←HN.out];exact hkn
    obtain⟨x,hx⟩:∃x,L[k]?=some x:=⟨_,List.getElem?_eq_getElem hkl⟩
    have hxw:s.waits[k]?=some x.v:=by rw[←HL.out,List.getElem?_map,hx];rfl
    obtain⟨g,off,rfl,hat⟩:=H2.at hx;have KR1:=KR.out x (List.mem_of_getElem? hx);have HD:Hid (ans=((recB (waitR x.v)&&!keyB EndV.tid s.ends x.v.tid)&&(s.waits.drop (k+1)).all ok)):=η (by rw[HA.out,drop_cons hxw,List.all_cons,HOK.out];rfl);clear H2 hx hxw HA HOK;obtain⟨⟨y,P⟩,ao,c⟩:=x;have q0:=hat 0 (.int .i64 y) rfl;have q1:=hat 1 (.slice ao P.length c) rfl;rw[Nat.add_zero]at q0;have C1:=waitRecord_calls ⟨y,P⟩ ao c;rw[show(waitR ⟨y,P⟩).cells none 0 ao c=#[.int .i64 4,.int .i64 y,.int .i64 0,.bool false,.slice none 0 0,.slice ao P.length c] from rfl]at C1;dsimp only at KR1 HD C1;rw[show(waitR ⟨y,P⟩).cells none 0 ao c=#[.int .i64 4,.int .i64 y,.int .i64 0,.bool false,.slice none 0 0,.slice ao P.length c] from rfl]at KR1;obtain⟨pn,hpn⟩:=ε P.length;rw[←hpn]at KR1 C1 q1;have EC1:=EC.out y;obtain⟨r1,e1⟩:=ε (recB (waitR ⟨y,P⟩));obtain⟨r2,e2⟩:=ε (keyB EndV.tid s.ends y);rw[←e1]at KR1 HD;rw[←e2]at EC1 HD;have C1:=η C1;have KR1:=η KR1;have EC1:=η EC1;have QC:Hid (∀wx,Turn [] (wr.alloc (.cells #[.int .i64 y,.slice ao pn c] 81)) wx→wx.cell? ⟨wr.heap.size,0,none⟩=some (.int .i64 y)):=η (fun wx t=>(two_of (t.heap (heap_alloc_new wr _))).1);have TA:=η (Turn.alloc [] wr (.cells #[.int .i64 y,.slice ao pn c] 81));have hb:0≤(k:Int)∧(k:Int)<(n:Int):=by omega
    clear hat e1 e2 hpn;go_wp2_with fail;refine(C1.out _).mono ?_;rintro e x1 ⟨rfl,t1⟩;have U1:=η t1;clear t1 C1 q0 q1;go_wp2_with fail;refine(KR1.out _ (HT.out.trans (TA.out.trans U1.out))).mono ?_;rintro e x2 ⟨rfl,t2⟩;have U2:=η (U1.out.trans t2);clear t2 KR1;have V2:=η (HT.out.trans (TA.out.trans U2.out));have qc:=QC.out _ U2.out;obtain⟨b0,b1,b2,b3,b4,b5,b6,b7,b8⟩:=BX.out _ V2.out;cases r1 with
    | false=>
     have HF:Hid (ans=false):=η (by rw[HD.out];rfl);clear HD;go_wp2_with fail;go_ret;exact⟨ret_bool HF.out.symm,T0.out.trans V2.out⟩
    | true=>
     go_wp2_with fail;refine(EC1.out _ V2.out).mono ?_;rintro e x3 ⟨rfl,t3⟩;have V3:=η (V2.out.trans t3);clear t3 EC1 b0 b1 b2 b3 b4 b5 b6 b7 b8 qc;cases r2 with
     | true=>
      have HF:Hid (ans=false):=η (by rw[HD.out];rfl);clear HD;go_wp2_with fail;go_ret;exact⟨ret_bool HF.out.symm,T0.out.trans V3.out⟩
     | false=>
      have HF:Hid (ans=(s.waits.drop (k+1)).all ok):=η (by rw[HD.out];rfl);clear HD;go_wp2_with fail;go_roundw
      case rel=>exact⟨k+1,by omega,by go_num,HF.out,V3.out⟩
      case measure=>simp[intOf];omega
  · have hkk:k=n:=by omega
    have HF:Hid (ans=true):=η (by rw[HA.out,List.drop_eq_nil_of_le (by rw[←HN.out];omega)];rfl);clear HA H2;go_wp2_with fail;go_ret;exact⟨ret_bool HF.out.symm,T0.out.trans HT.out⟩
theorem mayPend_calls (s:StV) (a:Ads) (p:PendV) {w:World} {ao:Option Addr} {c:Nat} (hi:Il w ao c p.parts) (ht:okI p.tid):Calls Tryz.prog 121 #[.agg (s.cells a),.agg #[.int .i64 p.tid,.slice ao p.parts.length c]] w fun e w'=>e=.returned (.bool (mayPendB s p))∧Turn [] w w':=by
 unfold mayPendB;obtain⟨y,P⟩:=p;dsimp only at hi ht ⊢;have C1:=fun wx=>isOwn_calls (w:=wx) s a y ht
 have C2:=pendRecord_calls ⟨y,P⟩ ao c;have C3:=fun wx (t:Turn [] w wx)=>kindRecord_calls (pendR ⟨y,P⟩) (w:=wx) (ap:=ao) (cp:=c) (aq:=none) (cq:=0) (hi.turn t) (.inl ⟨rfl,rfl,rfl⟩) ht (by show _≤(0:Int)∧(0:Int)≤_;omega)
 have C4:=fun wx (t:Turn [] w wx)=>isPart_calls s a (hi.turn t)
 rw[show(pendR ⟨y,P⟩).cells ao c none 0=#[.int .i64 6,.int .i64 y,.int .i64 0,.bool false,.slice ao P.length c,.slice none 0 0] from rfl]at C2 C3;dsimp only at C2;obtain⟨pn,hpn⟩:=ε P.length;rw[←hpn]at C2 C3 C4 ⊢;obtain⟨r1,e1⟩:=ε (decide (homeZ y=s.broker));obtain⟨r2,e2⟩:=ε (recB (pendR ⟨y,P⟩));obtain⟨r3,e3⟩:=ε (decide (s.broker∈P));rw[←e1,←e2,←e3];rw[←e1]at C1;rw[←e2]at C3;rw[←e3]at C4;clear e1 e2 e3 hpn hi ht;have C1:=η C1;have C2:=η C2;have C3:=η C3;have C4:=η C4;have T0:=η ((Turn.alloc [] w (.cells (s.cells a) 27)).trans (Turn.alloc [] _ (.cells #[.int .i64 y,.slice ao pn c] 65)));have U0:=η (Turn.refl [] ((w.alloc (.cells (s.cells a) 27)).alloc (.cells #[.int .i64 y,.slice ao pn c] 65)));have BX:=η (fun wx (t:Turn [] ((w.alloc (.cells (s.cells a) 27)).alloc (.cells #[.int .i64 y,.slice ao pn c] 65)) wx)=>s.boxed a ((Turn.alloc [] _ _).trans t))
 have PX:Hid (∀wx,Turn [] ((w.alloc (.cells (s.cells a) 27)).alloc (.cells #[.int .i64 y,.slice ao pn c] 65)) wx→wx.cell? ⟨w.heap.size+1,0,none⟩=some (.int .i64 y)∧wx.cell? ⟨w.heap.size+1,1,none⟩=some (.slice ao pn c)):=η (fun wx t=>by
  have:=heap_alloc_new (w.alloc (.cells (s.cells a) 27)) (.cells #[.int .i64 y,.slice ao pn c] 65);rw[show(w.alloc (.cells (s.cells a) 27)).heap.size=w.heap.size+1 by simp]at this
  exact two_of (t.heap this))
 unfold StV.cells at*;go_in;obtain⟨b0,b1,b2,b3,b4,b5,b6,b7,b8⟩:=BX.out _ U0.out;obtain⟨p0,p1⟩:=PX.out _ U0.out;go_wp2_with fail;refine(C1.out _).mono ?_;rintro e x1 ⟨rfl,t1⟩;have U1:=η t1;clear t1 C1 b0 b1 b2 b3 b4 b5 b6 b7 b8 p0 p1;cases r1 with
 | false=>
  go_wp2_with fail;go_ret;exact⟨rfl,T0.out.trans U1.out⟩
 | true=>
  obtain⟨p0,p1⟩:=PX.out _ U1.out;go_wp2_with fail;refine(C2.out _).mono ?_;rintro e x2 ⟨rfl,t2⟩;have U2:=η (U1.out.trans t2);clear t2 C2 p0 p1;go_wp2_with fail;refine(C3.out _ (T0.out.trans U2.out)).mono ?_;rintro e x3 ⟨rfl,t3⟩;have U3:=η (U2.out.trans t3);clear t3 C3;cases r2 with
  | false=>
   go_wp2_with fail;go_ret;exact⟨rfl,T0.out.trans U3.out⟩
  | true=>
   obtain⟨b0,b1,b2,b3,b4,b5,b6,b7,b8⟩:=BX.out _ U3.out;obtain⟨p0,p1⟩:=PX.out _ U3.out;go_wp2_with fail;refine(C4.out _ (T0.out.trans U3.out)).mono ?_;rintro e x4 ⟨rfl,t4⟩;have U4:=η (U3.out.trans t4);clear t4 C4;cases r3<;>
    (go_wp2_with fail
     go_ret
     exact⟨rfl,T0.out.trans U4.out⟩)
theorem noes_any {l:List EndV} (hr:Rising EndV.tid l) {t:Int} {e:EndV} {i:Nat} (hi:l[i]?=some e) (he:e.tid=t):(l.any fun x=>decide (x.tid=t)&&!x.yes)=!e.yes:=by
 rw[Bool.eq_iff_iff,List.any_eq_true];constructor
 · rintro⟨x,hx,h1⟩;rw[Bool.and_eq_true,decide_eq_true_eq]at h1;have:x=e:=by
    obtain⟨j,hj,rfl⟩:=List.getElem_of_mem hx;obtain⟨hi',rfl⟩:=List.getElem?_eq_some_iff.1 hi;have hp:=List.pairwise_iff_getElem.1 hr;rcases Nat.lt_trichotomy i j with h | h | h
    · have:=hp i j hi' hj h;omega
    · subst h;rfl
    · have:=hp j i hj hi' h;omega
   rw[←this];exact h1.2
 · intro h1;exact⟨e,List.mem_of_getElem? hi,by simp[he,h1]⟩
theorem noes_none {l:List EndV} {t:Int} (h:keyB EndV.tid l t=false):(l.any fun x=>decide (x.tid=t)&&!x.yes)=false:=by
 rw[List.any_eq_false];intro x hx;have:=keyB_not.1 h x hx;simp[this]
end Go.Proofs.YtkjpjfghklgdhaaGreat
