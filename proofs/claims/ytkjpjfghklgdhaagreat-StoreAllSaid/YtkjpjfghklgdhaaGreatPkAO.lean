/-
  PkAO
-/
import Derived.Test.YtkjpjfghklgdhaaGreatPkAN
set_option maxHeartbeats 4000000
set_option maxRecDepth 100000
namespace Go.Proofs.YtkjpjfghklgdhaaGreat
open Go
section
variable {P : Program} {md : Region.Mode} {ops : Array Oper} {Q : Exit → Act → World → Prop} {S : World → Prop} {late : List Nat}
def Ph (P:Program) (md:Region.Mode) (ops:Array Oper) (Q:Exit→Act→World→Prop) (S:World→Prop) (late:List Nat):Nat→Array Bool→Act→World→Prop
 | 0,L,a,w=>Region.ready md ops L=[]∧Q .normal a w
 | k+1,L,a,w=>(Region.ready md ops L=[]→Q .normal a w)∧∀j,j∈Region.ready md ops L→wpOp P ops Q j (fun b x=>(j∈late∨S x)∧Ph P md ops Q S late k (L.setIfInBounds j true) b x) a w
theorem Ph.any:∀(k:Nat) (L:Array Bool) (a:Act) (w:World),Ph P md ops Q S late k L a w→wpAny P md ops Q k L a w
 | 0,_,_,_,h=>h
 | k+1,_,_,_,h=>⟨h.1,fun j hj=>wpOp_mono (fun b x hb=>Ph.any k _ b x hb.2) (h.2 j hj)⟩
theorem not_both {i j:Nat} {L:Array Bool} (hw:Region.waitsFor md ops j i=true) (hi:i∈Region.ready md ops L):j∉Region.ready md ops L:=by
 intro hj;obtain⟨oj,hoj,e,he,hb,hei⟩:=Region.waitsFor_spec hw;obtain⟨-,o2,ho2,hall⟩:=mem_ready.1 hj;rw[hoj]at ho2;cases ho2;have h1:=hall e he hb;have h0:=(mem_ready.1 hi).1;rw[hei]at h1;by_cases hlt:i<L.size
 · simp[hlt]at h0 h1;rw[h0]at h1;cases h1
 · simp[Array.getElem?_eq_none (by omega:L.size≤i)]at h1
theorem Ph.early {i:Nat} {oi:Oper} {v:Value} (hi:ops[i]?=some oi) (hs:Region.noSelect ops=true) (hw:(late.all fun j=>Region.waitsFor md ops j i)=true)
 (hQ:∀c a w,Q (.panic c) (a.put oi.dst v) w→Q (.panic c) a w):∀(k:Nat) (L:Array Bool) (a:Act) (w:World),
 (∀j oj,ops[j]?=some oj→j≠i→L.getD j true=false→(∀e∈oj.after,Region.binds md e=true→e.on≠i)→oi.apart ops oj=true)→
 i∈Region.ready md ops L→YieldsIf P ops S oi v a→S w→Ph P md ops Q S late k (L.setIfInBounds i true) (a.put oi.dst v) w→Ph P md ops Q S late (k+1) L a w:=by
 have hsel:=Region.noSelect_spec hs;intro k
 induction k with
 | zero=>
  intro L a w _ hr hy hS H;constructor
  · intro h;rw[h]at hr;cases hr
  · intro j hj;have hji:j=i:=by
     false_or_by_contra
     rename_i hne;have h1:=ready_mono hj hne;rw[H.1]at h1;cases h1
    subst hji;exact hy.wpOp hi hS ⟨.inr hS,H⟩
 | succ k ih=>
  intro L a w hfree hr hy hS H;constructor
  · intro h;rw[h]at hr;cases hr
  · intro j hj;by_cases hji:j=i
    · subst hji;exact hy.wpOp hi hS ⟨.inr hS,H⟩
    · have hjn:j∉late:=fun e=>not_both (List.all_eq_true.1 hw j e) hr hj
      obtain⟨hun,oj,hoj,hall⟩:=mem_ready.1 hj;have hno:∀e∈oj.after,Region.binds md e=true→e.on≠i:=by
       intro e he hb hei;refine not_both (j:=j) ?_ hr hj;unfold Region.waitsFor;rw[hoj];exact Array.any_eq_true'.2 ⟨e,he,by simp[hb,hei]⟩
      have h2:=wpOp_putIf hoj (hfree j oj hoj hji hun hno) (fun cs b=>hsel i oi cs b hi) (fun cs b=>hsel j oj cs b hoj) hQ hy (H.2 j (ready_mono hj hji));refine wpOp_mono (fun b x hb=>?_) h2;obtain⟨hy2,hS2,hP2⟩:=hb;have hSx:S x:=hS2.resolve_left hjn;refine⟨.inr hSx,ih _ b x ?_ (ready_mono hr (Ne.symm hji)) hy2 hSx ?_⟩
      · intro m om hm hmi hmu hmo;refine hfree m om hm hmi ?_ hmo;by_cases hjm:j=m
        · rw[←hjm];exact hun
        · rwa[getD_set_ne true hjm]at hmu
      · rwa[Array.setIfInBounds_comm _ _ hji]
theorem Ph.take {i k:Nat} {oi:Oper} {d:Option Tmp} {v:Value} {L:Array Bool} {a:Act} {w:World} (hi:ops[i]?=some oi) (hd:oi.dst=d) (hs:Region.noSelect ops=true) (hw:(late.all fun j=>Region.waitsFor md ops j i)=true) (hf:Region.free md ops L i=true)
 (hr:(Region.ready md ops L).contains i=true) (hQ:∀c a w,Q (.panic c) (a.put d v) w→Q (.panic c) a w) (hwt:Region.wanted oi (yielded ops a.tmps)=true) (hS:S w)
 (hy:∀x,S x→(execOp a.eval oi).run P x=.ok (.value v) x)
 (h:Ph P md ops Q S late k (L.setIfInBounds i true) (a.put d v) w):Ph P md ops Q S late (k+1) L a w:=by
 subst hd;exact Ph.early hi hs hw hQ k L a w (Region.free_spec hi hf) (by simpa using hr) (.inl ⟨hwt,hy⟩) hS h
theorem Ph.tq (i:Nat) (d:Option Tmp) {k:Nat} {oi:Oper} {v:Value} {L:Array Bool} {a:Act} {w:World} (hS:S w) (h:Ph P md ops Q S late k (L.setIfInBounds i true) (a.put d v) w)
 (hi:ops[i]?=some oi:=by rfl) (hy:∀x,S x→(execOp a.eval oi).run P x=.ok (.value v) x:=by(intro x hx;(repeat obtain⟨_,hx⟩:=hx);go_simp;try with_reducible rfl)) (hd:oi.dst=d:=by rfl) (hs:Region.noSelect ops=true:=by kernel_rfl) (hw:(late.all fun j=>Region.waitsFor md ops j i)=true:=by kernel_rfl) (hf:Region.free md ops L i=true:=by kernel_rfl)
 (hr:(Region.ready md ops L).contains i=true:=by kernel_rfl) (hQ:∀c a w,Q (.panic c) (a.put d v) w→Q (.panic c) a w:=by exact fun _ _ _ h=>h) (hwt:Region.wanted oi (yielded ops a.tmps)=true:=by rfl):Ph P md ops Q S late (k+1) L a w:=Ph.take hi hd hs hw hf hr hQ hwt hS hy h
theorem Ph.one {i k:Nat} {oi:Oper} {L:Array Bool} {a:Act} {w:World} (hr:Region.ready md ops L=[i]) (hi:ops[i]?=some oi)
 (h:∀K:Act→World→Prop,(∀b x,S x→(S x→Ph P md ops Q S late k (L.setIfInBounds i true) b x)→K b x)→if Region.wanted oi (yielded ops a.tmps)=true then Oper.wp P oi a w K Q else K (a.put oi.dst undef) w):
 Ph P md ops Q S late (k+1) L a w:=by
 refine⟨fun h0=>(by rw[hr]at h0;cases h0),fun j hj=>?_⟩;rw[hr]at hj;have hji:j=i:=by simpa using hj
 subst hji;exact wpOp_step hi (fun K hK=>h K (fun b x hS hP=>hK b x ⟨.inr hS,hP hS⟩))
theorem Ph.tardy {i k:Nat} {oi:Oper} {L:Array Bool} {a:Act} {w:World} (hr:Region.ready md ops L=[i]) (hl:late.contains i=true) (hi:ops[i]?=some oi)
 (h:∀K:Act→World→Prop,(∀b x,Ph P md ops Q S late k (L.setIfInBounds i true) b x→K b x)→if Region.wanted oi (yielded ops a.tmps)=true then Oper.wp P oi a w K Q else K (a.put oi.dst undef) w):
 Ph P md ops Q S late (k+1) L a w:=by
 refine⟨fun h0=>(by rw[hr]at h0;cases h0),fun j hj=>?_⟩;rw[hr]at hj;have hji:j=i:=by simpa using hj
 subst hji;exact wpOp_step hi (fun K hK=>h K (fun b x hP=>hK b x ⟨.inl (by simpa using hl),hP⟩))
theorem Ph.done {L:Array Bool} {a:Act} {w:World} (hr:Region.ready md ops L=[]) (h:Q .normal a w):∀k,Ph P md ops Q S late k L a w
 | 0=>⟨hr,h⟩
 | _+1=>⟨fun _=>h,fun j hj=>by rw[hr]at hj;cases hj⟩
theorem Ph.start {id:Nat} {a:Act} {w:World} (late:List Nat) (S:World→Prop) (hm:P.follows .mixedOrders=true) (hS:S w.drew)
 (h:S w.drew→Ph P .any ops Q S late ops.size (Array.replicate ops.size false) a w.drew):(Code.region id ops true).wp P Q a w:=
 wp_region_any hm (Ph.any _ _ _ _ (h hS))
end
open Go.RowKit Go.Proofs.YtkjpjfghklgdhaaGreat.V
theorem i64s_at (P:List Int) (j:Nat) (v:Value) (h:(i64s P)[j]?=some v):j<P.length∧v=.int .i64 (P.getD j 0):=by
 unfold i64s at h;rw[List.getElem?_map]at h;obtain⟨x,hx,rfl⟩:=Option.map_eq_some_iff.1 h;obtain⟨h1,rfl⟩:=List.getElem?_eq_some_iff.1 hx;exact⟨h1,by simp[List.getD,h1]⟩
theorem cloneParts_calls {w:World} {ao:Option Addr} {c:Nat} {P:List Int} (h:Il w ao c P) (hf:P.length≤1000000):
 Calls Tryz.prog 192 #[.slice ao P.length c] w fun e w'=>∃ao' c',e=.returned (.slice ao' P.length c')∧w'.ownsRow w.heap.size 3 1 (.slice ao' P.length c') P.length (i64s P)∧Turn [] w w':=by
 refine cloneInt_calls (by rw[i64s_length];omega) ?_ ?_ (i64s_one P) hf
 · intro e;rcases h with⟨_,h2,h3⟩ | ⟨A,h1,_⟩
   · exact⟨by rw[h3];rfl,h2⟩
   · rw[e]at h1;cases h1
 · intro A e j v hj;obtain⟨h1,rfl⟩:=i64s_at P j v hj;rcases h with⟨h2,_,h3⟩ | ⟨A',h2,_,_,h4,_⟩
   · rw[h3]at h1;simp at h1
   · rw[e]at h2;injection h2 with h2
     rw[h2];exact h4 j h1
theorem pcells_split:∀(l:List (ByteArray×ByteArray)) (j:Nat) (v:Value),(pcells l)[j]?=some v→∃i,i<l.length∧((j=i*2∧v=.string (l.getD i putNone).1)∨(j=i*2+1∧v=.string (l.getD i putNone).2))
 | [],j,v,h=>by simp[pcells]at h
 | p::l,0,v,h=>⟨0,by simp,.inl ⟨rfl,by simp[pcells]at h;exact h.symm⟩⟩
 | p::l,1,v,h=>⟨0,by simp,.inr ⟨rfl,by simp[pcells]at h;exact h.symm⟩⟩
 | p::l,j+2,v,h=>by
  have e:pcells (p::l)=.string p.1::.string p.2::pcells l:=rfl;rw[e]at h;obtain⟨i,h1,h2⟩:=pcells_split l j v (by simpa using h);refine⟨i+1,by simp;omega,?_⟩;rcases h2 with⟨h3,h4⟩ | ⟨h3,h4⟩
  · exact .inl ⟨by omega,h4⟩
  · exact .inr ⟨by omega,h4⟩
theorem pcells_len (l:List (ByteArray×ByteArray)):(pcells l).length=l.length*2:=by
 unfold pcells
 induction l with
 | nil=>rfl
 | cons p l ih=>rw[List.flatMap_cons,List.length_append,ih,List.length_cons];simp;omega
theorem pcells_one (l:List (ByteArray×ByteArray)):∀v∈pcells l,v.oneCell'=true:=by
 intro v hv;obtain⟨p,-,hp⟩:=List.mem_flatMap.1 hv;simp at hp;rcases hp with rfl | rfl<;>rfl
theorem clonePuts_calls {w:World} {ao:Option Addr} {c:Nat} {Q:List (ByteArray×ByteArray)} (h:Ps w ao c Q) (hf:Q.length≤1000000):
 Calls Tryz.prog 145 #[.slice ao Q.length c] w fun e w'=>∃ao' c',e=.returned (.slice ao' Q.length c')∧w'.ownsRow w.heap.size 45 2 (.slice ao' Q.length c') Q.length (pcells Q)∧Turn [] w w':=by
 refine clonePut_calls (pcells_len Q) ?_ ?_ (pcells_one Q) hf
 · intro e;rcases h with⟨_,h2,h3⟩ | ⟨A,h1,_⟩
   · exact⟨by rw[h3];rfl,h2⟩
   · rw[e]at h1;cases h1
 · intro A e j v hj;obtain⟨i,h1,h2⟩:=pcells_split Q j v hj;rcases h with⟨_,_,h3⟩ | ⟨A',h3,_,_,h4⟩
   · rw[h3]at h1;simp at h1
   · rw[e]at h3;injection h3 with h3
     rw[h3];obtain⟨g1,g2,-,-⟩:=h4 i h1;rcases h2 with⟨rfl,rfl⟩ | ⟨rfl,rfl⟩
     · exact g1
     · rw[←Addr.add_add];exact g2
theorem pendOf_calls {w:World} (r:RecV) {ap:Option Addr} {cp:Nat} (aq:Option Addr) (cq:Nat) (hp:Il w ap cp r.parts) (hf:r.parts.length≤1000000):
 Calls Tryz.prog 153 #[.agg (r.cells ap cp aq cq)] w fun e w'=>∃ao c,e=.returned (.agg #[.int .i64 r.tid,.slice ao r.parts.length c])∧w'.ownsRow w.heap.size 3 1 (.slice ao r.parts.length c) r.parts.length (i64s r.parts)∧Turn [] w w':=by
 obtain⟨k,t,d,y,P,Q⟩:=r;unfold RecV.cells;dsimp only at hp hf ⊢;have C1:=η (fun wx (tt:Turn [] w wx)=>cloneParts_calls (hp.turn tt) hf);obtain⟨np,hnp⟩:=ε P.length;obtain⟨nq,hnq⟩:=ε Q.length;rw[←hnp]at C1;rw[←hnp,←hnq];have B1:=heap_alloc_new w (.cells #[.int .i64 k,.int .i64 t,.int .i64 d,.bool y,.slice ap np cp,.slice aq nq cq] 37);have T1:=Turn.alloc [] w (.cells #[.int .i64 k,.int .i64 t,.int .i64 d,.bool y,.slice ap np cp,.slice aq nq cq] 37);have B2:=heap_alloc_new (w.alloc (.cells #[.int .i64 k,.int .i64 t,.int .i64 d,.bool y,.slice ap np cp,.slice aq nq cq] 37)) (.cells #[.int .i64 0,.slice none 0 0] 65);have T2:=Turn.alloc [] (w.alloc (.cells #[.int .i64 k,.int .i64 t,.int .i64 d,.bool y,.slice ap np cp,.slice aq nq cq] 37)) (.cells #[.int .i64 0,.slice none 0 0] 65);rw[show(w.alloc (.cells #[.int .i64 k,.int .i64 t,.int .i64 d,.bool y,.slice ap np cp,.slice aq nq cq] 37)).heap.size=w.heap.size+1 by simp]at B2;have HB1:=η (T2.heap B1);have HB2:=η B2;have HT:=η (T1.trans T2);clear hp hf hnp hnq B1 B2 T1 T2;go_in;go_wp2_with fail;obtain⟨x0,hx0⟩:=ε ((w.alloc (.cells #[.int .i64 k,.int .i64 t,.int .i64 d,.bool y,.slice ap np cp,.slice aq nq cq] 37)).alloc (.cells #[.int .i64 0,.slice none 0 0] 65));rw[←hx0]at HB1 HB2 HT ⊢;clear hx0
 have HSX:Hid (∀x,Turn [] x0 x→x.cell? ⟨w.heap.size,1,none⟩=some (.int .i64 t)∧x.cell? ⟨w.heap.size,4,none⟩=some (.slice ap np cp)):=η (fun x tt=>by
  have:=tt.heap HB1.out
  refine⟨?_,?_⟩<;>rw[cell_of_row _ _ _ _ _ _ this]<;>rfl)
 refine Ph.start [6] (fun x=>x.cell? ⟨w.heap.size,1,none⟩=some (.int .i64 t)∧x.cell? ⟨w.heap.size,4,none⟩=some (.slice ap np cp)) (by kernel_rfl) (HSX.out _ (Turn.drew [] x0)) ?_;intro hS;refine Ph.tq 0 (some 3) hS ?_;simp only[Act.put,σa,σz,σs];refine Ph.tq 1 (some 4) hS ?_;simp only[Act.put,σa,σz,σs];refine Ph.tq 2 (some 5) hS ?_;simp only[Act.put,σa,σz,σs];refine Ph.tq 3 (some 6) hS ?_;simp only[Act.put,σa,σz,σs];refine Ph.one (i:=4) (by kernel_rfl) rfl ?_;intro K hK;rw[if_pos (by rfl)];go_simp;refine(C1.out _ (HT.out.trans (Turn.drew [] x0))).mono ?_;rintro e x1 ⟨ao,c,rfl,o1,t1⟩;dsimp only;have U1:=η ((Turn.drew [] x0).trans t1);have O1:=η o1;refine hK _ _ (HSX.out _ U1.out) (fun hS1=>?_);clear hK K o1 t1;refine Ph.tq 5 (some 8) hS1 ?_;simp only[Act.put,σa,σz,σs];have h2:=U1.out.heap HB2.out;obtain⟨z0,z1⟩:=two_of h2;have fr:∀j,x1.frozen? ⟨w.heap.size+1,j,none⟩=false:=fun j=>unfrozen_of h2
 have H2:=η h2;refine Ph.tardy (i:=6) (by kernel_rfl) (by kernel_rfl) rfl ?_;intro K hK;rw[if_pos (by rfl)];go_simp;refine hK _ _ (Ph.done (by kernel_rfl) ?_ _);clear hK K h2;go_wp2_with fail;have H3:=block_set (block_set (i:=0) H2.out (.int .i64 t)) (i:=1) (.slice ao np c);have hts:Turn [w.heap.size+1] x1 ((x1.setCell ⟨w.heap.size+1,0,none⟩ (.int .i64 t)).setCell ⟨w.heap.size+1,1,none⟩ (.slice ao np c)):=(Turn.setCell (l:=[w.heap.size+1]) x1 (by simp) _).trans (Turn.setCell (l:=[w.heap.size+1]) _ (by simp) _) (fun i hi=>.inl hi);refine bodyPost_ret_by (results_cell_row rfl _ _ (w.heap.size+1) 65 _ (0,0) _ rfl H3 Tryz.underlying65 rfl (by kernel_rfl)) rfl ?_
 refine⟨ao,c,rfl,row_own (ownsRow_keep O1.out hts (fun k hk=>by
  have:k=w.heap.size+1:=by simpa using hk
  subst this
  exact⟨_,_,H2.out⟩) (by decide)) (fun k hk=>by
   have:=row_lo O1.out k hk;have:=HT.out.size;have e:x0.drew.heap.size=x0.heap.size:=rfl
   omega),((HT.out.trans U1.out).trans hts (fun i hi=>by
    have:i=w.heap.size+1:=by simpa using hi
    exact .inr (by omega)))⟩
def intC (x:Int):List Value:=[.int .i64 x]
theorem i64s_flat (P:List Int):i64s P=P.flatMap intC:=by
 unfold i64s
 induction P with
 | nil=>rfl
 | cons x P ih=>rw[List.map_cons,List.flatMap_cons,ih];rfl
def keepI (t:Int) (l:List Int):List Int:=l.filter fun m=>!decide (m=t)
theorem keepI_take {t:Int} {l:List Int} {k:Nat} {m:Int} (h:l[k]?=some m):keepI t (l.take (k+1))=keepI t (l.take k)++(if m=t then []else [m]):=by
 unfold keepI;rw[List.take_add_one,h,List.filter_append];congr 1;by_cases e:m=t<;>simp[e]
theorem toldF_enter (args:Array Value) (w:World):(callFunc 199 args).run Tryz.prog w=.ok (.enter 199 args) w:=
 enter_run Tryz.func199 (by kernel_rfl) (by kernel_rfl) args w
theorem toldF_calls (m t:Int) {q:Nat} {w:World} (hq:w.cell? ⟨q,0,none⟩=some (.int .i64 t)):Calls Tryz.prog 199 #[.int .i64 m,.pointer (some ⟨q,0,none⟩)] w fun e w'=>e=.returned (.bool (decide (m=t)))∧w=w':=by
 go_in;go_wp2_with fail;go_ret;exact⟨ret_bool (by first | rfl | (by_cases e:m=t<;>simp[e])),rfl⟩
theorem indexI_calls {w:World} {ao:Option Addr} {cp:Nat} {l:List Int} (h:Tl 1 intC w ao cp l) (t:Int) {q:Nat} (hq:w.cell? ⟨q,0,none⟩=some (.int .i64 t)):
 Calls Tryz.prog 238 #[.slice ao l.length cp,.func (.func 199) #[] #[.pointer (some ⟨q,0,none⟩)]] w fun e w'=>e=.returned (.int .i64 (placeI (fun m:Int=>decide (m=t)) l))∧w=w':=by
 have hlen:=h.len;have H:=η h;have EN:=toldF_enter;have CF:=η (fun m=>toldF_calls m t hq);obtain⟨ans,ha⟩:=ε (placeI (fun m:Int=>decide (m=t)) l);have HA:=η ha;rw[←ha];obtain⟨n,hn⟩:=ε l.length;have HN:=η hn;rw[←hn]at hlen ⊢;clear h hn ha hq;go_in;go_wp2_with fail
 go_loop [8] (fun vi=>∃k:Nat,k≤n∧vi=.int .i64 (k:Int)∧(∀(j:Nat) (y:Int),j<k→l[j]?=some y→(fun m:Int=>decide (m=t)) y=false)) (fun vi=>n-(intOf vi).toNat)
 case atStart=>exact⟨0,by omega,rfl,fun j y hj=>by omega⟩
 case round=>
  obtain⟨k,hk,rfl,hall⟩:=hrel;have HL:=η hall;clear hall;by_cases hkn:k<n
  · have hkl:k<l.length:=by rw[←HN.out];exact hkn
    obtain⟨m,hm⟩:∃m,l[k]?=some m:=⟨_,List.getElem?_eq_getElem hkl⟩
    obtain⟨g,off,rfl,hat⟩:=H.out.at hm;have q0:=hat 0 (.int .i64 m) rfl;rw[Nat.add_zero,Nat.mul_one]at q0;have hb:0≤(k:Int)∧(k:Int)<(n:Int):=by omega
    have HX:Hid (decide (m=t)=false→∀(j:Nat) (y:Int),j<k+1→l[j]?=some y→(fun m:Int=>decide (m=t)) y=false):=η (fun hne j y hj hy=>by
     by_cases e:j=k
     · rw[e,hm]at hy;injection hy with hy
       rw[←hy];exact hne
     · exact HL.out j y (by omega) hy)
    have HF:Hid (decide (m=t)=true→ans=(k:Int)):=η (fun he=>by rw[HA.out];exact place_hit hm he HL.out);have C:=CF.out m;obtain⟨c,hc⟩:=ε (decide (m=t));rw[←hc]at C HX HF;have C:=η C;clear hat hm hc HL;cases c with
    | true=>
     have HF2:=η (HF.out rfl);clear HF HX;go_wp2_with fail;refine C.out.mono ?_;rintro e x1 ⟨rfl,rfl⟩;go_wp2_with fail;go_ret;exact⟨ret_int HF2.out.symm,rfl⟩
    | false=>
     have HX2:=η (HX.out rfl);clear HF HX;go_wp2_with fail;refine C.out.mono ?_;rintro e x1 ⟨rfl,rfl⟩;go_wp2_with fail
     go_round
     case rel=>exact⟨k+1,by omega,by go_num,HX2.out⟩
     case measure=>simp[intOf];omega
  · have hkk:k=n:=by omega
    have HF:Hid (ans=-1):=η (by
     rw[HA.out];refine place_none (fun i y hy=>HL.out i y ?_ hy);have:=(List.getElem?_eq_some_iff.1 hy).1;rw[hkk,HN.out]
     exact this)
    clear HL;go_wp2_with fail;go_ret;exact⟨ret_int HF.out.symm,rfl⟩
theorem deleteI_calls {w:World} {lo:Nat} {v:Value} {l:List Int} (h:w.ownsRow lo 3 1 v l.length (l.flatMap intC)) (t:Int) {q:Nat} (hq:w.cell? ⟨q,0,none⟩=some (.int .i64 t)) (hqo:v.ownBlock≠some q) (hfew:l.length≤100000):
 Calls Tryz.prog 198 #[v,.func (.func 199) #[] #[.pointer (some ⟨q,0,none⟩)]] w fun e w'=>
  ∃v',e=.returned v'∧w'.ownsRow lo 3 1 v' (keepI t l).length ((keepI t l).flatMap intC)∧v'.ownBlock=v.ownBlock∧Turn v.ownBlock.toList w w':=by
 have hform:∃ao c,v=.slice ao l.length c:=by
  rcases h.2 with⟨hv,h0⟩ | ⟨g,cap,cur,hv,_⟩
  · exact⟨none,0,by rw[hv,h0]⟩
  · exact⟨_,_,hv⟩
 obtain⟨ao,c,rfl⟩:=hform;have htl:Tl 1 intC w ao c l:=Tl.of_own (n:=1) (f:=intC) (fun _=>rfl) h;have C1:=η (indexI_calls htl t hq);by_cases hnone:placeI (fun m:Int=>decide (m=t)) l=-1
 case pos=>
  have HK:Hid (keepI t l=l):=η (by
   rcases place_find (fun m:Int=>decide (m=t)) l with⟨-,h2⟩ | ⟨k,x,h1,-,-⟩
   · unfold keepI;rw[List.find?_eq_none]at h2;exact List.filter_eq_self.2 fun x hx=>by have:=h2 x hx;simpa using this
   · rw[h1]at hnone;omega)
  rw[HK.out];rw[hnone]at C1;have HR:Hid (∀x1,Turn [] w x1→x1.ownsRow lo 3 1 (.slice ao l.length c) l.length (l.flatMap intC)):=η (fun x1 tt=>ownsRow_turn h tt);obtain⟨n,hn⟩:=ε l.length;rw[←hn]at C1 HR ⊢;clear h htl hq hqo hfew hnone HK hn;go_in;go_wp2_with fail;refine C1.out.mono ?_;rintro e x1 ⟨rfl,rfl⟩;have U1:=η (Turn.refl [] w);clear C1;go_wp2_with fail;go_ret;exact⟨_,rfl,HR.out _ U1.out,rfl,U1.out.mono (by simp)⟩
 rcases place_find (fun m:Int=>decide (m=t)) l with⟨h1,h2⟩ | ⟨i0,x0,hi1,hi2,hi3⟩
 · exfalso;unfold placeI at h1 hnone;cases hz:l.findIdx? (fun m:Int=>decide (m=t))with
   | none=>rw[hz]at hnone;exact hnone rfl
   | some z=>rw[hz]at h1;simp at h1;omega
 rw[hi1]at C1;have hi0n:=(List.getElem?_eq_some_iff.1 hi2).1;have hx0:x0=t:=by have:=List.find?_some hi3;simpa using this
 have hk0:keepI t (l.take i0)=l.take i0:=by
  unfold keepI;refine List.filter_eq_self.2 fun x hx=>?_
  obtain⟨j,hj,rfl⟩:=List.getElem_of_mem hx;rw[List.length_take]at hj;unfold placeI at hi1;cases hz:l.findIdx? (fun m:Int=>decide (m=t))with
  | none=>rw[hz]at hi1;simp at hi1
  | some z=>
   rw[hz]at hi1;have e:z=i0:=by simp at hi1;omega
   obtain⟨g1,g2,h3⟩:=List.findIdx?_eq_some_iff_getElem.1 hz;have:=h3 j (by omega);rw[List.getElem_take];simpa using this
 rcases h.2 with⟨e,h0⟩ | ⟨g,cap,cur,e,hlo,hg,hle,hmx,hsz,htk⟩
 · omega
 injection e with e1 _ e3
 subst e1 e3;have hgw:=lt_of_heap hg;have hgq:q≠g:=fun e=>hqo (by rw[e];rfl)
 have hat0:=AtRow.of_take (f:=intC) (fun _=>rfl) htk;obtain⟨n,hn⟩:=ε l.length;have HN:=η hn;rw[←hn]at C1 hfew hle hi0n ⊢;have HQ:=η hq;have EN:=toldF_enter;have HLO:=η hlo;have HX0:=η hx0;have HI2:=η hi2;have HK0:=η hk0
 have R0:Hid (∀x1,Turn [] w x1→∃cur',x1.heap[g]?=some (.cells cur' 3 (0,0))∧cur'.size=c*1∧AtRow 1 intC cur' 0 (keepI t (l.take (i0+1)))∧(∀k x,i0+1≤k→l[k]?=some x→∀j u,(intC x)[j]?=some u→cur'[k*1+j]?=some u)):=η (fun x1 tt=>by
  refine⟨cur,tt.heap hg,hsz,?_,fun k x _ hx j u hu=>?_⟩
  · rw[keepI_take hi2,if_pos hx0,List.append_nil,hk0];intro i x hx j u hu;rw[List.getElem?_take]at hx;split at hx
    · exact hat0 i x hx j u hu
    · cases hx
  · have:=hat0 k x hx j u hu
    rwa[Nat.zero_add]at this)
 have HSZ:=η hsz;unfold maxLen at hmx;have hw0:IntKind.i64.wrap ((i0:Int)+1)=((i0+1:Nat):Int):=by rw[IntKind.wrap_i64];omega
 have hk1:(keepI t (l.take (i0+1))).length=i0:=by rw[keepI_take hi2,if_pos hx0,List.append_nil,hk0,List.length_take];omega
 have HK1:=η hk1;have hneg:((i0:Int)==-1)=false:=by first | (simp;done) | (simp;omega)
 rw[show(Value.slice (some ⟨g,0,none⟩) n c).ownBlock=some g from rfl,show(some g).toList=[g] from rfl];clear h htl hq hqo hnone hn hi1 hi2 hi3 hx0 hk0 hg htk hat0 hlo hsz hk1;go_in;go_wp2_with fail;refine C1.out.mono ?_;rintro e x1 ⟨rfl,rfl⟩;have U1:=η (Turn.refl [] w);clear C1;go_wp2_with fail
 go_loopw [5,6] (fun vi vj wx=>∃j:Nat,i0+1≤j∧j≤n∧vj=.int .i64 (j:Int)∧vi=.int .i64 ((keepI t (l.take j)).length:Int)∧(keepI t (l.take j)).length<j∧Turn [g] w wx∧
  ∃cur',wx.heap[g]?=some (.cells cur' 3 (0,0))∧cur'.size=c*1∧AtRow 1 intC cur' 0 (keepI t (l.take j))∧(∀k x,j≤k→l[k]?=some x→∀d u,(intC x)[d]?=some u→cur'[k*1+d]?=some u)) (fun _ vj _=>n-(intOf vj).toNat)
 case atStart=>exact⟨i0+1,by omega,by omega,rfl,by rw[HK1.out],by rw[HK1.out];omega,U1.out.mono (by simp),R0.out _ U1.out⟩
 case round=>
  obtain⟨j,hj1,hjn,rfl,rfl,hkl,ht,cur',hg',hsz',hk',hrest⟩:=hrel;have HT:=η ht;have HG:=η hg';have HKK:=η hk';have HRR:=η hrest;obtain⟨z,hz⟩:=ε ((keepI t (l.take j)).length);have HZ:=η hz;rw[←hz]at hkl ⊢;have hq2:=ht.cell HQ.out (by simpa using hgq);clear ht hg' hk' hrest hz;by_cases hjl:j<n
  · have hjl2:j<l.length:=by rw[←HN.out];exact hjl
    obtain⟨m,hm⟩:∃m,l[j]?=some m:=⟨_,List.getElem?_eq_getElem hjl2⟩
    have hc:=fun d u hu=>(cell_of_row wr g (j*1+d) _ _ _ HG.out).trans (HRR.out j m (Nat.le_refl _) hm d u hu)
    have q0:=hc 0 (.int .i64 m) rfl;rw[Nat.add_zero,Nat.mul_one]at q0;have HZN:=η (keepI_take (t:=t) hm);have hzn:z*1+1≤c*1:=by omega
    have hb:0≤(j:Int)∧(j:Int)<(n:Int):=by omega
    have hb3:0≤(z:Int)∧(z:Int)<(n:Int):=by omega
    have C:=toldF_calls m t hq2;have hwj:IntKind.i64.wrap ((j:Int)+1)=((j+1:Nat):Int):=by rw[IntKind.wrap_i64];omega
    have hwz:IntKind.i64.wrap ((z:Int)+1)=((z+1:Nat):Int):=by rw[IntKind.wrap_i64];omega
    obtain⟨r,hr⟩:=ε (decide (m=t));have HR:=η hr;rw[←hr]at C;have C:=η C;clear hc hq2 hm hr;go_wp2_with fail;refine C.out.mono ?_;rintro e x2 ⟨rfl,rfl⟩;clear C;cases r with
    | true=>
     have hbt:m=t:=by have:=HR.out;simpa using this.symm
     have HK2:Hid (keepI t (l.take (j+1))=keepI t (l.take j)):=η (by rw[HZN.out,if_pos hbt,List.append_nil]);clear HZN hbt HR;go_wp2_with fail;go_roundw
     case rel=>exact⟨j+1,by omega,by omega,by go_num,by rw[HK2.out,←HZ.out],by rw[HK2.out,←HZ.out];omega,HT.out,cur',HG.out,hsz',by rw[HK2.out];exact HKK.out,fun k x hk hx=>HRR.out k x (by omega) hx⟩
     case measure=>simp[intOf];omega
    | false=>
     have hbt:m≠t:=by have:=HR.out;simpa using this.symm
     have HK2:Hid (keepI t (l.take (j+1))=keepI t (l.take j)++[m]):=η (by rw[HZN.out,if_neg hbt]);clear HZN hbt HR;have fra:∀j,wr.frozen? ⟨g,j,none⟩=false:=fun j=>unfrozen_of HG.out
     obtain⟨v0,e0⟩:∃v,wr.cell? ⟨g,z,none⟩=some v:=⟨_,(cell_of_row wr g z _ _ _ HG.out).trans (Array.getElem?_eq_getElem (by omega))⟩
     have F1:=η (block_set (i:=z) HG.out (.int .i64 m));have S6:=η (Turn.setCell (l:=[g]) (b:=g) (i:=z) wr (by simp) (.int .i64 m));go_wp2_with fail;go_roundw
     case rel=>
      refine⟨j+1,by omega,by omega,by go_num,by rw[HK2.out,List.length_append,←HZ.out];go_num,by rw[HK2.out,List.length_append,←HZ.out];simp;omega,HT.out.trans S6.out (fun i hi=>.inl hi),_,F1.out,by simp;omega,?_,fun k x hk hx d u hu=>?_⟩
      · rw[HK2.out];intro k x hx d u hu;have hd:d<1:=(List.getElem?_eq_some_iff.1 hu).1;by_cases hkz:k<z
        · rw[List.getElem?_append_left (by rw[←HZ.out];exact hkz)]at hx;have:=HKK.out k x hx d u hu;rw[Array.getElem?_setIfInBounds,if_neg (by omega)];exact this
        · rw[List.getElem?_append_right (by rw[←HZ.out];omega),←HZ.out]at hx;have hkz2:k=z:=by
           have:=(List.getElem?_eq_some_iff.1 hx).1;simp at this;omega
          subst hkz2;rw[Nat.sub_self,List.getElem?_cons_zero]at hx;have hx:=Option.some.inj hx;rw[←hx]at hu;have hd0:d=0:=by omega
          subst hd0;have hu:=Option.some.inj hu;rw[Array.getElem?_setIfInBounds,if_pos (by omega),if_pos (by omega),hu]
      · have hd:d<1:=(List.getElem?_eq_some_iff.1 hu).1;rw[Array.getElem?_setIfInBounds,if_neg (by omega)];exact HRR.out k x (by omega) hx d u hu
     case measure=>simp[intOf];omega
  · have hjj:j=n:=by omega
    have HKL:Hid (keepI t l=keepI t (l.take j)):=η (by rw[List.take_of_length_le (by rw[hjj,HN.out];exact Nat.le_refl _)]);obtain⟨ii,hi,hz0,hz1,hz2⟩:=info_parts Tryz.crowInt;have hzl:(Builtin.zeroCells (Value.int .i64 0).cells (n-z)).toList.length=(n-z)*1:=by
     rw[Array.length_toList,size_zeroCells];rfl
    have hcl:=run_clear_rowN (P:=Tryz.prog) wr 34 0 3 g (z*1) (n-z) (c-z) cur' _ _ ii Tryz.underlying34 hi hz0 (by omega) HG.out _ rfl (by rw[hzl,Array.length_toList.symm,Array.length_toList,hsz'];omega) (zeros_one _ (by simp[Value.cells]) (by intro u hu;simp[Value.cells]at hu;rw[hu];rfl) _);obtain⟨cs,hcs⟩:=ε ((cur'.toList.take (z*1)++(Builtin.zeroCells (Value.int .i64 0).cells (n-z)).toList++cur'.toList.drop (z*1+(Builtin.zeroCells (Value.int .i64 0).cells (n-z)).toList.length)).toArray);rw[←hcs]at hcl;have hcsz:cs.size=c*1:=by
     rw[hcs];simp only[List.size_toArray,List.length_append,List.length_take,List.length_drop,hzl,Array.length_toList,hsz'];omega
    have hct:cs.toList.take (z*1)=(keepI t l).flatMap intC:=by
     rw[hcs,HKL.out];have:=AtRow.take (n:=1) (f:=intC) (fun _=>rfl) HKK.out;rw[←HZ.out]at this;rw[show(List.toArray _).toList=_ from rfl,List.append_assoc,List.take_left' (by rw[List.length_take,Array.length_toList,hsz'];omega)];exact this
    have RR:Hid ((wr.setRow g cs).ownsRow lo 3 1 (.slice (some ⟨g,0,none⟩) z c) (keepI t l).length ((keepI t l).flatMap intC)):=η (by
     have hzl2:(keepI t l).length=z:=by rw[HKL.out,←HZ.out]
     rw[hzl2]
     exact⟨by rw[flat_len (n:=1) (f:=intC) (fun _=>rfl),hzl2],.inr ⟨g,c,cs,rfl,HLO.out,setRow_heap _ _ _ _ _ _ HG.out,by omega,by unfold maxLen;omega,hcsz,hct⟩⟩)
    have TT:=η (HT.out.trans (Turn.setRow (l:=[g]) wr (g:=g) (by simp) cs) (fun i hi=>.inl hi));rw[Nat.mul_one]at hcl;have HCL:=η hcl;have hb1:(0:Int)≤(z:Int):=by omega
    have hb2:(z:Int)≤(n:Int):=by omega
    have hb3:¬c=z:=by omega
    clear hcl hcs hcsz hct hzl hi hz0 hz1 hz2 hq2;go_wp2_with fail;rw[HCL.out];go_wp2_with fail;go_ret;exact⟨_,rfl,RR.out,rfl,TT.out⟩
theorem putsOf_calls {w:World} {a:Ads} {s:StV} {LW:List (Lay BrV)} (hv:LW.map Lay.v=s.waits) (hT:Tl 2 brC w a.w a.cw LW) (hr:Rising BrV.tid s.waits) (hfew:s.waits.length≤1000000) (t:Int) {x:Lay BrV} (hx:LW[posK BrV.tid t s.waits]?=some x):
 Calls Tryz.prog 151 #[.agg (s.cells a),.int .i64 t] w fun e w'=>e=.returned (.slice x.ao x.v.puts.length x.c)∧Turn [] w w':=by
 have T0:=η (Turn.alloc [] w (.cells (s.cells a) 27));have U0:=η (Turn.refl [] (w.alloc (.cells (s.cells a) 27)));have BX:=η (fun wx (t:Turn [] (w.alloc (.cells (s.cells a) 27)) wx)=>s.boxed a t);have hlen:s.waits.length=LW.length:=by rw[←hv,List.length_map]
 have C1:Hid (∀wx,Turn [] w wx→Calls Tryz.prog 178 #[.slice a.w s.waits.length a.cw,.int .i64 t,.func (.func 115) #[] #[]] wx fun e w'=>e=.returned (.tuple #[.int .i64 (posK BrV.tid t s.waits:Int),.bool (keyB BrV.tid s.waits t)])∧Turn [] wx w'):=η (fun wx tt=>by
  have:=VB.place_calls (hT.still tt).brs (rising_brs.2 (by rw[hv];exact hr)) (by rw[List.length_map,←hlen];exact hfew) t
  rwa[List.length_map,posK_brs,keyB_brs,hv,←hlen]at this)
 have HT:=η hT;have HX:=η hx;have hpl:=(List.getElem?_eq_some_iff.1 hx).1;rw[←hlen]at hpl;obtain⟨pz,epz⟩:=ε (posK BrV.tid t s.waits);obtain⟨kb,ekb⟩:=ε (keyB BrV.tid s.waits t);rw[←epz,←ekb]at C1;rw[←epz]at hpl HX;unfold StV.cells at*;obtain⟨am,cm,aw,cw,ae,ce,oo,co,an,cn⟩:=a;dsimp only at C1 HT T0 U0 BX ⊢;obtain⟨g,off,rfl,-⟩:=HT.out.at HX.out
 have HC:Hid (∀wx,Turn [] w wx→wx.cell? ⟨g,off+pz*2+1,none⟩=some (.slice x.ao x.v.puts.length x.c)):=η (fun wx tt=>by
  obtain⟨g',off',e0,hat⟩:=(HT.out.still tt).at HX.out;injection e0 with e0
  injection e0 with e1 e2 _
  subst e1 e2
  exact hat 1 _ rfl)
 obtain⟨n,hn⟩:=ε s.waits.length;rw[←hn]at C1 T0 U0 BX hpl ⊢;have hb:0≤(pz:Int)∧(pz:Int)<(n:Int):=by omega
 obtain⟨pn,hpn⟩:=ε x.v.puts.length;rw[←hpn]at HC ⊢;clear hv hT hr hfew hx hlen epz ekb hn hpn HX;go_in;go_wp2_with fail;refine(C1.out _ T0.out).mono ?_;rintro e x1 ⟨rfl,t1⟩;have U1:=η t1;clear t1 C1;obtain⟨b0,b1,b2,b3,b4,b5,b6,b7,b8⟩:=BX.out _ U1.out;have c1:=HC.out _ (T0.out.trans U1.out);go_wp2_with fail;go_ret;exact⟨rfl,T0.out.trans U1.out⟩
def backIf (t:Int) (m:MsgV):MsgV:=if m.by_=t then back m else m
theorem left_false (t:Int) (l:List MsgV):left t false l=l.map (backIf t):=by
 induction l with
 | nil=>rfl
 | cons m l ih=>
  unfold left;rw[List.map_cons,ih];unfold backIf;by_cases e:m.by_=t
  · rw[if_pos e,if_pos e,if_neg (by simp)]
  · rw[if_neg e,if_neg e]
def midB (t:Int) (l:List MsgV) (k:Nat):List MsgV:=(l.take k).map (backIf t)++l.drop k
theorem midB_len (t:Int) (l:List MsgV) (k:Nat):(midB t l k).length=l.length:=by
 unfold midB;rw[List.length_append,List.length_map,List.length_take,List.length_drop];omega
theorem midB_at {t:Int} {l:List MsgV} {k:Nat} {m:MsgV} (h:l[k]?=some m):(midB t l k)[k]?=some m:=by
 unfold midB;have hk:=(List.getElem?_eq_some_iff.1 h).1;rw[List.getElem?_append_right (by rw[List.length_map,List.length_take];omega),List.length_map,List.length_take,Nat.min_eq_left (by omega),Nat.sub_self,List.getElem?_drop,Nat.add_zero];exact h
theorem midB_next {t:Int} {l:List MsgV} {k:Nat} {m:MsgV} (h:l[k]?=some m):midB t l (k+1)=(midB t l k).set k (backIf t m):=by
 unfold midB;have hk:=(List.getElem?_eq_some_iff.1 h).1;rw[List.take_add_one,h,List.map_append,drop_cons h];rw[List.set_append_right _ _ (by rw[List.length_map,List.length_take];omega),List.length_map,List.length_take,Nat.min_eq_left (by omega),Nat.sub_self];simp
theorem midB_zero (t:Int) (l:List MsgV):midB t l 0=l:=by unfold midB;simp
theorem midB_end {t:Int} {l:List MsgV} {k:Nat} (h:l.length≤k):midB t l k=l.map (backIf t):=by
 unfold midB;rw[List.take_of_length_le h,List.drop_eq_nil_of_le h,List.append_nil]
theorem flat_set {α:Type} {n:Nat} {f:α→List Value} (hf:∀x,(f x).length=n):∀(l:List α) (k j:Nat) (x x':α) (u:Value),l[k]?=some x→j<n→f x'=(f x).set j u→(l.flatMap f).set (k*n+j) u=(l.set k x').flatMap f
 | [],k,j,x,x',u,h,_,_=>by simp at h
 | y::l,0,j,x,x',u,h,hj,he=>by
  simp only[List.getElem?_cons_zero,Option.some.injEq]at h;subst h;rw[List.flatMap_cons,List.set_cons_zero,List.flatMap_cons,he,Nat.zero_mul,Nat.zero_add,List.set_append_left _ _ (by rw[hf];exact hj)]
 | y::l,k+1,j,x,x',u,h,hj,he=>by
  rw[List.getElem?_cons_succ]at h;have ih:=flat_set hf l k j x x' u h hj he;rw[List.flatMap_cons,List.set_cons_succ,List.flatMap_cons,←ih,List.set_append_right _ _ (by rw[hf,Nat.add_mul,Nat.one_mul];omega),hf];congr 2;rw[Nat.add_mul,Nat.one_mul];omega
theorem Box.inMs {w w1:World} {lo b:Nat} {s:StV} {a:Ads} {LW:List (Lay BrV)} {LO LN:List (Lay PendV)} (h:Box w lo b s a LW LO LN) {M:List MsgV} (hl:M.length=s.ms.length) (t:Turn (Value.slice a.m s.ms.length a.cm).ownBlock.toList w w1)
 (hr:w1.ownsRow lo 49 6 (.slice a.m M.length a.cm) M.length (M.flatMap msgC)):Box w1 lo b {s with ms:=M} a LW LO LN:=by
 have r:=h.rest t (ownsRow_typed h.ms) (by decide);refine⟨?_,h.lob,h.vw,h.vo,h.vn,hr,r.ws (by decide),r.es (by decide),r.os (by decide),r.ns (by decide),h.on,r.puts (by decide),r.parts (by decide),h.alone⟩;have:=r.head;unfold StV.cells at this ⊢;dsimp only;rw[hl];exact this
theorem msgC_len (x:MsgV):(msgC x).length=6:=rfl
theorem endIll_calls {w:World} {lo b:Nat} {s:StV} {a:Ads} {LW:List (Lay BrV)} {LO LN:List (Lay PendV)} (h:Box w lo b s a LW LO LN) (hre:Rising EndV.tid s.ends) (hle:s.ends.length≤2000) (hrw:Rising BrV.tid s.waits) (hlw:s.waits.length≤2000) (hro:Rising PendV.tid s.open_) (hlo:s.open_.length≤2000) (hcn:∀m∈s.ms,0≤m.count∧m.count≤1000000) (hms:s.ms.length≤100000) (t:Int):
 Calls Tryz.prog 148 #[.pointer (some ⟨b,0,none⟩),.int .i64 t] w fun e w'=>e=.returned (.tuple #[])∧
  ∃a' LW' LO',Box w' lo b (endS s t false []) a' LW' LO' LN∧Tn lo w w':=by
 have EC:=η (fun wx (q:Box wx lo b {s with ms:=s.ms.map (backIf t)} a LW LO LN)=>stEnd_calls q hre hle hrw hlw hro hlo t false)
 have HS:Hid (endS s t false []={s with ms:=s.ms.map (backIf t),ends:=insK EndV.tid ⟨t,false⟩ s.ends,waits:=remK BrV.tid t s.waits,open_:=remK PendV.tid t s.open_}):=η (by
  unfold endS;rw[left_false]
  simp)
 rw[HS.out];have H:=η h;have CN:=η hcn;obtain⟨n,hn⟩:=ε s.ms.length;have HN:=η hn;rw[←hn]at hms;obtain⟨c0,c1,c2,c3,c4,c5,c6,c7,c8⟩:=nine_of h.head;rw[←hn]at c4;clear h hre hle hrw hlw hro hlo hcn hn HS;go_in;go_wp2_with fail;go_loopw [11] (fun vi wx=>∃k:Nat,k≤n∧vi=.int .i64 (k:Int)∧Box wx lo b {s with ms:=midB t s.ms k} a LW LO LN∧Tn lo w wx) (fun vi _=>n-(intOf vi).toNat)
 case atStart=>exact⟨0,by omega,rfl,by rw[midB_zero];exact H.out,Tn.refl _ _⟩
 case round=>
  obtain⟨k,hk,rfl,hb,ht⟩:=hrel;have HB:=η hb;have HT:=η ht;obtain⟨d0,d1,d2,d3,d4,d5,d6,d7,d8⟩:=nine_of hb.head;dsimp only at d0 d1 d2 d3 d4 d5 d6 d7 d8;rw[midB_len,←HN.out]at d4;clear hb ht;by_cases hkn:k<n
  · have hkl:k<s.ms.length:=by rw[←HN.out];exact hkn
    obtain⟨m,hm⟩:∃m,s.ms[k]?=some m:=⟨_,List.getElem?_eq_getElem hkl⟩
    have HM:=η (midB_at (t:=t) hm);have HX:=η (midB_next (t:=t) hm);have hcm:=CN.out m (List.mem_of_getElem? hm);have hrow:=HB.out.ms;dsimp only at hrow;have htl:Tl 6 msgC wr a.m a.cm (midB t s.ms k):=Tl.of_own (n:=6) (f:=msgC) (fun _=>rfl) hrow;rcases hrow.2 with⟨e,h0⟩ | ⟨g,cap,cur,e,hlo,hg,hle,hmx,hsz,htk⟩
    · rw[midB_len]at h0;omega
    injection e with e1 _ e3
    have q5:wr.cell? ⟨g,k*6+5,none⟩=some (.int .i64 m.by_):=by
     obtain⟨g',off',e0,hat⟩:=htl.at HM.out;rw[e1]at e0;injection e0 with e0
     injection e0 with e4 e5 _
     subst e4 e5;have:=hat 5 _ rfl;rwa[Nat.zero_add]at this
    have q4:wr.cell? ⟨g,k*6+4,none⟩=some (.int .i64 m.count):=by
     obtain⟨g',off',e0,hat⟩:=htl.at HM.out;rw[e1]at e0;injection e0 with e0
     injection e0 with e4 e5 _
     subst e4 e5;have:=hat 4 _ rfl;rwa[Nat.zero_add]at this
    have hfr:∀j,wr.frozen? ⟨g,j,none⟩=false:=fun j=>unfrozen_of hg
    have HROW:Hid (wr.ownsRow lo 49 6 (.slice (some ⟨g,0,none⟩) (midB t s.ms k).length a.cm) (midB t s.ms k).length ((midB t s.ms k).flatMap msgC)):=η (by rw[←e1];exact hrow);have HE1:=η e1;rw[e1]at d4;have hb:0≤(k:Int)∧(k:Int)<(n:Int):=by omega
    obtain⟨i,qu,bo,sq,co,by_⟩:=m;dsimp only at q4 q5 hcm;have HGG:=η hg;clear hrow htl e1 e3 hg hle hmx hsz htk;by_cases hbt:by_=t
    · subst hbt;obtain⟨cz,hcz⟩:=ε (min (co+1) 1000);have hw:IntKind.i64.wrap (co+1)=co+1:=by rw[IntKind.wrap_i64];omega
      have S1:=η (HROW.out.stored (k*6+5) (.int .i64 0)).1;have hs1:=flat_set msgC_len (midB by_ s.ms k) k 5 _ ⟨i,qu,bo,sq,co,0⟩ (.int .i64 0) HM.out (by omega) rfl;rw[hs1]at S1;have hk2:k<(midB by_ s.ms k).length:=by rw[midB_len];exact hkl
      have S2:=η (S1.out.stored (k*6+4) (.int .i64 cz)).1;have hs2:=flat_set msgC_len ((midB by_ s.ms k).set k ⟨i,qu,bo,sq,co,0⟩) k 4 ⟨i,qu,bo,sq,co,0⟩ ⟨i,qu,bo,sq,cz,0⟩ (.int .i64 cz) (by rw[List.getElem?_set_self hk2]) (by omega) rfl;rw[hs2,List.set_set]at S2;have hbk:backIf by_ ⟨i,qu,bo,sq,co,by_⟩=⟨i,qu,bo,sq,cz,0⟩:=by
       unfold backIf back;rw[if_pos rfl,hcz];simp only[MsgV.mk.injEq,and_true,true_and];omega
      rw[hbk]at HX;rw[←HX.out]at S2;have hlx:(midB by_ s.ms k).length=(midB by_ s.ms (k+1)).length:=by rw[midB_len,midB_len]
      rw[hlx]at S2;have TT:Hid (Turn [g] wr ((wr.setCell ⟨g,k*6+5,none⟩ (.int .i64 0)).setCell ⟨g,k*6+4,none⟩ (.int .i64 cz))):=η ((Turn.setCell (l:=[g]) wr (by simp) _).trans (Turn.setCell (l:=[g]) _ (by simp) _) (fun i hi=>.inl hi))
      have B2:Hid (Box ((wr.setCell ⟨g,k*6+5,none⟩ (.int .i64 0)).setCell ⟨g,k*6+4,none⟩ (.int .i64 cz)) lo b {s with ms:=midB by_ s.ms (k+1)} a LW LO LN):=η (by
       have:=HB.out.inMs (M:=midB by_ s.ms (k+1)) hlx.symm (by rw[HE1.out];exact TT.out) (by rw[HE1.out];exact S2.out)
       exact this)
      have V2:=η (HT.out.trans (Tn.of TT.out (by simp;exact hlo) (fun k hk=>by
       have:k=g:=by simpa using hk
       rw[this];exact⟨_,_,_,HGG.out,by decide⟩)))
      clear hs1 hs2 hbk hlx hk2 S1 S2 hcm;have HCZ:=η hcz;clear hcz;go_wp2_with fail;go_roundw
      case rel=>exact⟨k+1,by omega,by go_num,by rw[←HCZ.out];exact B2.out,by rw[←HCZ.out];exact V2.out⟩
      case measure=>simp[intOf];omega
    · have hne:(by_==t)=false:=by simpa using hbt
      have HX2:Hid (midB t s.ms (k+1)=midB t s.ms k):=η (by
       rw[HX.out];unfold backIf;rw[if_neg hbt];obtain⟨h1,h2⟩:=List.getElem?_eq_some_iff.1 HM.out;exact List.ext_getElem? fun j=>by
        rw[List.getElem?_set];split
        · rename_i e;subst e;rw[HM.out];first | done | simp[h1]
        · rfl)
      clear hbt;go_wp2_with fail;go_roundw
      case rel=>exact⟨k+1,by omega,by go_num,by rw[HX2.out];exact HB.out,HT.out⟩
      case measure=>simp[intOf];omega
  · have hkk:k=n:=by omega
    have HE:Hid (Box wr lo b {s with ms:=s.ms.map (backIf t)} a LW LO LN):=η (by rw[←midB_end (k:=k) (Nat.le_of_eq (by rw[hkk,HN.out]))];exact HB.out);go_wp2_with fail;refine(EC.out _ HE.out).mono ?_;rintro e x1 ⟨rfl,a',LW',LO',b1,t1⟩;have B1:=η b1;have T1:=η (HT.out.trans t1);clear b1 t1;go_wp2_with fail;go_end0;exact⟨rfl,a',LW',LO',B1.out,T1.out⟩
end Go.Proofs.YtkjpjfghklgdhaaGreat
