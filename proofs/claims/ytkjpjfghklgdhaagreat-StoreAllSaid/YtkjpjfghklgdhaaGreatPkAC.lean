/-
  PkAC
-/
import Derived.Test.YtkjpjfghklgdhaaGreatChecked
import Derived.Test.YtkjpjfghklgdhaaGreatPkAB
import Derived.ProofKit
import Derived.OpenShut
import Derived.Deep.Grids
import Derived.Deep.Strs
import Derived.Lib.AppendZeros
import Derived.Laws.AppendOwnNone
set_option maxHeartbeats 1000000
set_option maxRecDepth 100000
namespace Go.Proofs.YtkjpjfghklgdhaaGreat
open Go.RowKit Go.ChangeShapes Go.WideShapes Go.ChangeAt Go.Deep
theorem exists_list {α:Type} (d:α) (P:Nat→α→Prop):∀n,(∀i,i<n→∃x,P i x)→∃l:List α,l.length=n∧∀i,i<n→P i (l.getD i d)
 | 0,_=>⟨[],rfl,fun i hi=>by omega⟩
 | n+1,h=>by
  obtain⟨l,hl,hp⟩:=exists_list d P n (fun i hi=>h i (by omega));obtain⟨x,hx⟩:=h n (by omega);refine⟨l++[x],by simp[hl],fun i hi=>?_⟩;by_cases e:i<n
  · have:(l++[x]).getD i d=l.getD i d:=by simp[List.getD,List.getElem?_append,hl,e]
    rw[this];exact hp i e
  · obtain rfl:i=n:=by omega
    have:(l++[x]).getD i d=x:=by simp[List.getD,←hl]
    rw[this];exact hx
section
variable {H : Type} {enc : TypeId × Value → H} {P : Program} {w : World} {base : Nat} {spare : Nat → Bool} {held : Bool}
theorem trod_struct6 {t:TypeId} {f0 f1 f2 f3 f4 f5:Field} {fuel:Nat} {cs:List Value} {x:DataW H×List MemPlace} (ht:P.underlying t=some (.struct #[f0,f1,f2,f3,f4,f5])) (h:DataW.trod enc P w base spare held fuel t cs=some x):
 ∃y0 y1 y2 y3 y4 y5 n,cs.length=P.cellsOf t∧DataW.trod enc P w base spare held n f0.type ((cs.drop f0.offset).take (P.cellsOf f0.type))=some y0∧
  DataW.trod enc P w base spare held n f1.type ((cs.drop f1.offset).take (P.cellsOf f1.type))=some y1∧DataW.trod enc P w base spare held n f2.type ((cs.drop f2.offset).take (P.cellsOf f2.type))=some y2∧
  DataW.trod enc P w base spare held n f3.type ((cs.drop f3.offset).take (P.cellsOf f3.type))=some y3∧DataW.trod enc P w base spare held n f4.type ((cs.drop f4.offset).take (P.cellsOf f4.type))=some y4∧
  DataW.trod enc P w base spare held n f5.type ((cs.drop f5.offset).take (P.cellsOf f5.type))=some y5:=by
 obtain⟨xs,n,_,rfl,hl,hlen,hf⟩:=DataW.trod_struct ht h
 match xs,hlen with
 | [y0,y1,y2,y3,y4,y5],_=>exact⟨y0,y1,y2,y3,y4,y5,n,hl,by simpa using hf 0 f0 rfl,by simpa using hf 1 f1 rfl,by simpa using hf 2 f2 rfl,by simpa using hf 3 f3 rfl,by simpa using hf 4 f4 rfl,by simpa using hf 5 f5 rfl⟩
end
theorem cells1I:Tryz.prog.cellsOf 3=1:=by kernel_rfl
theorem cells1L:Tryz.prog.cellsOf 2=1:=by kernel_rfl
theorem cells1B:Tryz.prog.cellsOf 4=1:=by kernel_rfl
theorem cells1S:Tryz.prog.cellsOf 9=1:=by kernel_rfl
theorem cells1P:Tryz.prog.cellsOf 34=1:=by kernel_rfl
theorem cells1Q:Tryz.prog.cellsOf 35=1:=by kernel_rfl
theorem cells2Put:Tryz.prog.cellsOf 45=2:=by kernel_rfl
theorem cells6R:Tryz.prog.cellsOf 37=6:=by kernel_rfl
theorem field_ints {H:Type} {enc:TypeId×Value→H} {W:World} {v:Value} {fuel:Nat} {y:DataW H×List MemPlace}
 (hf:DataW.trod enc Tryz.prog W 0 (fun _=>true) true fuel 34 [v]=some y):∃a c l,v=.slice a l.length c∧Il W a c l:=by
 rcases open_ints Tryz.underlying34 Tryz.underlying3 (by kernel_rfl) hf with⟨hcs,_⟩ | ⟨x,l,c,zs,hcs,_,hl,hm,hz,_,hcell,hwz⟩
 · simp at hcs;exact⟨none,0,[],by rw[hcs];rfl,.inl ⟨rfl,rfl,rfl⟩⟩
 · simp at hcs;simp only[if_true]at hz;have hln:(zs.take l).length=l:=by simp;omega
   refine⟨some x,c,zs.take l,by rw[hcs,hln],.inr ⟨x,rfl,by omega,hm,fun i hi=>?_,fun n hn=>bounds_i64 (hwz n (List.mem_of_mem_take hn))⟩⟩;have hi2:i<l:=by omega
   rw[hcell i (by omega)];simp[List.getD,hi2]
theorem field_puts {H:Type} {enc:TypeId×Value→H} {W:World} {v:Value} {fuel:Nat} {y:DataW H×List MemPlace}
 (hf:DataW.trod enc Tryz.prog W 0 (fun _=>true) true fuel 35 [v]=some y):∃a c l,v=.slice a l.length c∧Ps W a c l:=by
 rcases open_slice Tryz.underlying35 hf with⟨hcs,_⟩ | ⟨x,len,c,m,n,D,Pl,hcs,_,hl,hm,hmm,_,hel⟩
 · simp at hcs;exact⟨none,0,[],by rw[hcs];rfl,.inl ⟨rfl,rfl,rfl⟩⟩
 · simp at hcs;simp only[if_true]at hmm;rw[cells2Put]at hel
   obtain⟨ps,hol,hop⟩:=exists_list putNone (fun i (p:ByteArray×ByteArray)=>W.cell? (x.add (i*2))=some (.string p.1)∧W.cell? ((x.add (i*2)).add 1)=some (.string p.2)∧p.1.size≤9223372036854775807∧p.2.size≤9223372036854775807) len (by
    intro i hi;obtain⟨cs,hc,ht⟩:=hel i (by omega);obtain⟨y0,y1,k,_,hlen,t0,t1⟩:=trod_struct2 Tryz.underlying45 ht;rw[cells2Put]at hlen;obtain⟨_,_,hat⟩:=World.cells?_some hc
    match cs,hlen with
    | [v0,v1],_=>
     obtain⟨s0,e0,_,w0⟩:=DataW.trod_string Tryz.underlying9 t0;obtain⟨s1,e1,_,w1⟩:=DataW.trod_string Tryz.underlying9 t1;have q0:=hat 0 (by omega);have q1:=hat 1 (by omega);dsimp only at e0 e1;rw[cells1S]at e0 e1;simp only[List.drop_zero,List.drop_succ_cons,List.take_succ_cons,List.take_zero,List.cons.injEq,and_true]at e0 e1;subst e0 e1;have a0:(x.add (i*2)).add 0=x.add (i*2):=by simp[Addr.add]
     rw[a0]at q0;unfold maxLen at w0 w1
     exact⟨(s0,s1),q0,q1,by show s0.size≤_;omega,by show s1.size≤_;omega⟩)
   refine⟨some x,c,ps,by rw[hcs,hol],.inr ⟨x,rfl,by omega,hm,fun i hi=>hop i (by omega)⟩⟩
def okI (x:Int):Prop:=-9223372036854775808≤x∧x≤9223372036854775807
open Go.RowKit
def u8s (l:List UInt8):List Value:=l.map fun b=>Value.int .u8 (b.toNat:Int)
def Sl (w:World) (ao:Option Addr) (c:Nat) (l:List UInt8):Prop:=
 (ao=none∧c=0∧l=[])∨
 ∃A:Addr,ao=some A∧l.length≤c∧c≤maxLen∧∀i,i<l.length→w.cell? (A.add i)=some (.int .u8 ((l.getD i 0).toNat:Int))
theorem add_block (A:Addr) (i:Nat):(A.add i).block=A.block:=by
 unfold Addr.add;split<;>rfl
theorem u8s_length (l:List UInt8):(u8s l).length=l.length:=by simp[u8s]
theorem u8s_append (a b:List UInt8):u8s (a++b)=u8s a++u8s b:=by simp[u8s]
theorem u8s_oneCell (l:List UInt8):∀u∈u8s l,u.oneCell'=true:=by
 intro u hu;obtain⟨_,_,rfl⟩:=List.mem_map.1 hu;rfl
theorem u8s_at {l:List UInt8} {i:Nat} (h:i<l.length):(u8s l)[i]?=some (.int .u8 ((l.getD i 0).toNat:Int)):=by
 simp[u8s,List.getD,h]
theorem Sl.nil (w:World):Sl w none 0 []:=.inl ⟨rfl,rfl,rfl⟩
theorem Sl.le {w:World} {ao:Option Addr} {c:Nat} {l:List UInt8} (h:Sl w ao c l):l.length≤c∧c≤maxLen:=by
 rcases h with⟨_,rfl,rfl⟩ | ⟨A,_,h1,h2,_⟩
 · exact⟨by simp,by unfold maxLen;omega⟩
 · exact⟨h1,h2⟩
theorem Sl.cells {w:World} {A:Addr} {c:Nat} {l:List UInt8} (h:Sl w (some A) c l):∀j u,(u8s l)[j]?=some u→w.cell? (A.add j)=some u:=by
 intro j u hu;rcases h with⟨h,_⟩ | ⟨A',hA,_,_,hc⟩
 · cases h
 · cases hA;have hj:j<l.length:=by have:=(List.getElem?_eq_some_iff.1 hu).1;simpa[u8s]using this
   rw[u8s_at hj]at hu;rw[hc j hj];exact hu
theorem Sl.below {w w':World} {B:Nat} {ao:Option Addr} {c:Nat} {l:List UInt8} (h:Sl w ao c l) (hb:Below B w w') (hB:∀A,ao=some A→l≠[]→A.block<B):Sl w' ao c l:=by
 rcases h with h | ⟨A,hA,h1,h2,hc⟩
 · exact .inl h
 · refine .inr ⟨A,hA,h1,h2,fun i hi=>?_⟩;rw[hb.cell (p:=A.add i) (by rw[add_block];exact hB A hA (by intro e;subst e;simp at hi))];exact hc i hi
theorem Sl.lt {w:World} {A:Addr} {c:Nat} {l:List UInt8} (h:Sl w (some A) c l) (hl:l≠[]):A.block<w.heap.size:=by
 rcases h with⟨h,_⟩ | ⟨A',hA,_,_,hc⟩
 · cases h
 · cases hA;have:=hc 0 (List.length_pos_iff.2 hl);have:=World.block_lt_of_cell? _ _ this;rwa[add_block]at this
theorem Sl.belowAll {w w':World} {ao:Option Addr} {c:Nat} {l:List UInt8} (h:Sl w ao c l) (hb:Below w.heap.size w w'):Sl w' ao c l:=
 h.below hb (by
  intro A hA hl;subst hA
  exact h.lt hl)
theorem Sl.of_owns {w:World} {B e n:Nat} {v:Value} {l:List UInt8} (h:w.ownsRow B e 1 v n (u8s l)):∃ao c,v=.slice ao l.length c∧Sl w ao c l∧(∀A,ao=some A→B≤A.block):=by
 have hn:n=l.length:=by have:=h.1;rw[u8s_length]at this;omega
 subst hn;rcases h.2 with⟨rfl,h0⟩ | ⟨g,cap,cur,rfl,hB,hg,hle,hm,hs,htk⟩
 · have:l=[]:=List.eq_nil_of_length_eq_zero h0;subst this;exact⟨none,0,rfl,Sl.nil _,by intro A hA;cases hA⟩
 · refine⟨_,cap,rfl,.inr ⟨_,rfl,hle,hm,fun i hi=>?_⟩,by intro A hA;cases hA;exact hB⟩;have:=h.cellAt i (by omega);rw[u8s_at hi]at this;rw[Addr.add_lit,Nat.zero_add];exact this
theorem Tryz.u8row:(Tryz.prog.info? 5).map (fun i=>(i.zero,i.size,i.bytes))=some (some (.int .u8 0),1,1):=by kernel_rfl
theorem append_bytes {w:World} {ops:Array Oper} {rest:List Oper} {o:Oper} {a:Act} {Q:Exit→Act→World→Prop} (hgd:o.guard=none) (s x:Operand)
 (ho:o.op=.call {callee:=.builtin .append,args:=#[s,x],argTypes:=#[52,52]})
 (base:Nat) (v:Value) (l:List UInt8) (hs:a.eval s=v) (hown:w.ownsRow base 5 1 v l.length (u8s l))
 (ao:Option Addr) (c:Nat) (l2:List UInt8) (hx:a.eval x=.slice ao l2.length c) (hsl:Sl w ao c l2)
 (hbytes:l.length+l2.length≤140737488355328) (hbase:base≤w.heap.size)
 (h:∀v' w',w'.ownsRow base 5 1 v' (l++l2).length (u8s (l++l2))→w.grownBy w' v.ownBlock→(v'=.slice none 0 0↔v=.slice none 0 0∧l2.length=0)→wpList Tryz.prog ops Q rest (a.put o.dst v') w'):wpList Tryz.prog ops Q (o::rest) a w:=by
 obtain⟨i0,hi,hz0,hz1,hz2⟩:=info_parts Tryz.u8row;rcases hsl with⟨rfl,rfl,rfl⟩ | ⟨A,rfl,h1,h2,hc⟩
 · refine wpList_append_own_none hgd s x 52 ho base 5 i0 1 Tryz.underlying52 hi v l.length (u8s l) hs hown hx ?_;have:=h v w (by simpa using hown) (World.grownBy.refl _ _) ⟨fun h=>⟨h,rfl⟩,fun h=>h.1⟩;exact this
 · refine wpList_append_own w hgd s x 52 ho base 5 i0 (.int .u8 0) 1 1 Tryz.underlying52 hi hz0 hz1 hz2 rfl (by decide) v l.length (u8s l) hs hown A l2.length c (u8s l2) hx (by rw[u8s_length];omega)
    (Sl.cells (.inr ⟨A,rfl,h1,h2,hc⟩)) (u8s_oneCell l2) (by unfold maxLen;omega) (by omega) hbase ?_
   intro v' w' hown' hg hn;exact h v' w' (by rw[List.length_append,u8s_append];exact hown') hg hn
theorem grow_calls (n:Nat) (w:World) (hn:n≤140737488355328):
 Calls Tryz.prog 259 #[.slice none 0 0,.int .i64 (n:Int)] w fun e w'=>∃v,e=.returned v∧w'.ownsRow w.heap.size 5 1 v 0 []∧Below w.heap.size w w':=by
 obtain⟨i0,hi,hz0,hz1,hz2⟩:=info_parts Tryz.u8row;by_cases h0:n=0
 · subst h0;go_in;go_wp2;go_ret;exact⟨_,rfl,World.ownsRow_nil _ _ _ _,Below.refl _ _⟩
 · have hrun:=Lib.run_append_nil_zeros (P:=Tryz.prog) w 52 3 52 5 i0 (.int .u8 0) .i64 .i64 Tryz.underlying52 Tryz.underlying3 hi hz0 n (by omega) (by omega) (by omega) (by rw[hz2];omega);have hpos:(0:Int)<(n:Int):=by omega
   go_in;go_wp2_with(at_builtin;refine Lib.wpList_append_run _ rfl (.tmp 20) (.tmp 21) 52 3 rfl _ _ rfl rfl _ _ hrun ?_);go_ret;have hcap:=grownCap_ge w n 0 5;have hmax:=grownCap_le_maxLen w n 0 5 (by unfold maxLen;omega);refine⟨_,rfl,(World.ownsRow_made w _ _ (Nat.le_refl _) hmax ?_).drew,((Below.refl _ _).alloc (Nat.le_refl _) _).drew⟩;rw[Array.size_append,size_zeroCells,size_zeroCells];show n*1+(grownCap w n 0 5-n)*1=grownCap w n 0 5*1;omega
theorem concat_calls (sb so:Nat) (cc:Nat) (a1 a2:Option Addr) (c1 c2:Nat) (l1 l2:List UInt8) (w:World)
 (hs1:w.cell? ⟨sb,so,none⟩=some (.slice a1 l1.length c1)) (hs2:w.cell? ⟨sb,so+1,none⟩=some (.slice a2 l2.length c2)) (h1:Sl w a1 c1 l1) (h2:Sl w a2 c2 l2)
 (hb:l1.length+l2.length≤140737488355328):
 Calls Tryz.prog 251 #[.slice (some ⟨sb,so,none⟩) 2 cc] w fun e w'=>∃v,e=.returned v∧w'.ownsRow w.heap.size 5 1 v (l1++l2).length (u8s (l1++l2))∧Below w.heap.size w w':=by
 go_in;go_wp2_with fail;refine wp_loop_rounds 3 ?_;rw[rounds_succ];go_wp2_with fail;rw[rounds_succ];go_wp2_with fail;rw[rounds_succ];go_wp2_with fail;refine(grow_calls (l1.length+l2.length) _ hb).mono ?_;rintro e w1 ⟨v0,rfl,hown0,hb0⟩;have hs1':=(hb0.cell (p:=⟨sb,so,none⟩) (World.block_lt_of_cell? _ _ hs1)).trans hs1;have hs2':=(hb0.cell (p:=⟨sb,so+1,none⟩) (World.block_lt_of_cell? _ _ hs2)).trans hs2;have h1':=h1.belowAll hb0;have h2':=h2.belowAll hb0;have hsz0:=hb0.size;go_wp2_with fail;refine wp_loop_rounds 3 ?_;rw[rounds_succ];go_wp2_with(at_builtin;refine append_bytes rfl (.tmp 31) (.tmp 32) rfl w.heap.size v0 [] rfl hown0 a1 c1 l1 rfl h1' (by simp;omega) hsz0 ?_);intro v1 w2 hown1 hg1 _;have hlt:∀k,v0.ownBlock=some k→w.heap.size≤k:=fun k hk=>(hown0.lt k hk).1
 have hb1:Below w.heap.size w w2:=hb0.grown hg1 hsz0 hlt;have hs2'':=(hb1.cell (p:=⟨sb,so+1,none⟩) (World.block_lt_of_cell? _ _ hs2)).trans hs2;have h2'':=h2.belowAll hb1;have hsz1:=hb1.size;have hlt1:∀k,v1.ownBlock=some k→w.heap.size≤k:=fun k hk=>(hown1.lt k hk).1
 clear hs1' hs2' h1' h2' hg1 hown0 hb0 hlt;go_wp2_with fail;rw[rounds_succ];go_wp2_with(at_builtin;refine append_bytes rfl (.tmp 31) (.tmp 32) rfl w.heap.size v1 l1 rfl hown1 a2 c2 l2 rfl h2'' (by omega) hsz1 ?_);intro v2 w3 hown2 hg2 _;have hb2:Below w.heap.size w w3:=hb1.grown hg2 hsz1 hlt1;clear hs2'' h2'' hg2 hown1 hb1 hlt1;go_wp2_with fail;rw[rounds_succ];go_wp2_with fail;go_ret;exact⟨v2,rfl,by rw[List.length_append];exact hown2,hb2⟩
structure Only (p:Addr) (w w':World):Prop where
 os:w'.os=w.os
 tape:w'.tape=w.tape
 output:w'.output=w.output
 size:w.heap.size≤w'.heap.size
 block:∀k,k<w.heap.size→k≠p.block→w'.heap[k]?=w.heap[k]?
 cell:∀q:Addr,q.block<w.heap.size→q≠p→w'.cell? q=w.cell? q
 frozen:∀q:Addr,q.block<w.heap.size→w'.frozen? q=w.frozen? q
theorem new_below (w:World) (o:Obj):Below w.heap.size w (w.alloc o):=(Below.refl _ _).alloc (Nat.le_refl _) o
theorem Only.trans {p:Addr} {a b c:World} (h:Only p a b) (k:Only p b c):Only p a c:=
 ⟨k.os.trans h.os,k.tape.trans h.tape,k.output.trans h.output,Nat.le_trans h.size k.size,
  fun i hi hp=>(k.block i (Nat.lt_of_lt_of_le hi h.size) hp).trans (h.block i hi hp),
  fun q hq hp=>(k.cell q (Nat.lt_of_lt_of_le hq h.size) hp).trans (h.cell q hq hp),
  fun q hq=>(k.frozen q (Nat.lt_of_lt_of_le hq h.size)).trans (h.frozen q hq)⟩
theorem Only.of_below {p:Addr} {w w':World} (h:Below w.heap.size w w'):Only p w w':=
 ⟨h.os,h.tape,h.output,h.size,fun k hk _=>h.block k hk,fun _ hq _=>h.cell hq,fun _ hq=>h.frozen hq⟩
theorem Only.below {p:Addr} {B:Nat} {a w w':World} (h:Only p w w') (hp:B≤p.block) (hB:B≤w.heap.size) (hb:Below B a w):Below B a w':=
 hb.trans ⟨h.os,h.tape,h.output,h.size,fun k hk=>h.block k (by omega) (by omega)⟩
theorem Only.store {p:Addr} {w w1:World} (h:Below w.heap.size w w1) (v:Value):Only p w (w1.setCell p v):=by
 refine⟨h.os,h.tape,h.output,by simpa[World.setCell]using h.size,fun k hk hp=>?_,fun q hq hp=>?_,fun q hq=>?_⟩
 · rw[Below.heap_setCell _ _ _ _ hp];exact h.block k hk
 · rw[←h.cell hq];exact World.cell?_setCell_other _ _ _ _ (Ne.symm hp)
 · rw[←h.frozen hq];exact World.frozen?_setCell ..
structure OnlyN (p:Addr) (w w':World):Prop extends Only p w w' where
 fresh:∀ao n c A,w'.cell? p=some (.slice ao n c)→ao=some A→w.heap.size≤A.block
theorem Sl.only {p:Addr} {w w':World} {ao:Option Addr} {c:Nat} {l:List UInt8} (h:Sl w ao c l) (ho:Only p w w') {v:Value} (hp:w.cell? p=some v) (hv:∀n,v≠.int .u8 n):Sl w' ao c l:=by
 rcases h with h | ⟨A,hA,h1,h2,hc⟩
 · exact .inl h
 · refine .inr ⟨A,hA,h1,h2,fun i hi=>?_⟩;have hu:=hc i hi
   rw[ho.cell _ (World.block_lt_of_cell? _ _ hu) (by
    intro e;rw[e,hp]at hu
    exact hv _ (Option.some.inj hu))]
   exact hu
theorem own_below {w w':World} {B e s n:Nat} {v:Value} {xs:List Value} (h:w.ownsRow B e s v n xs) (hb:Below w.heap.size w w'):w'.ownsRow B e s v n xs:=by
 refine⟨h.1,?_⟩;rcases h.2 with h0 | ⟨g,cap,cur,hv,hB,hg,rest⟩
 · exact .inl h0
 · exact .inr ⟨g,cap,cur,hv,hB,(hb.block g (Array.getElem?_eq_some_iff.1 hg).1).trans hg,rest⟩
theorem own_zero {w:World} {B e s n:Nat} {v:Value} {xs:List Value} (h:w.ownsRow B e s v n xs):w.ownsRow 0 e s v n xs:=by
 refine⟨h.1,?_⟩;rcases h.2 with h0 | ⟨g,cap,cur,hv,hB,rest⟩
 · exact .inl h0
 · exact .inr ⟨g,cap,cur,hv,Nat.zero_le _,rest⟩
def OutIs (w:World) (p:Addr) (l:List UInt8):Prop:=
 ∃ao c,w.cell? p=some (.slice ao l.length c)∧Sl w ao c l∧w.frozen? p=false∧w.ownsRow 0 5 1 (.slice ao l.length c) l.length (u8s l)
theorem put_calls (ob oo:Nat) (a1 a2:Option Addr) (c1 c2:Nat) (l1 l2:List UInt8) (w:World)
 (hp:w.cell? ⟨ob,oo,none⟩=some (.slice a1 l1.length c1)) (hf:w.frozen? ⟨ob,oo,none⟩=false) (h1:Sl w a1 c1 l1) (h2:Sl w a2 c2 l2)
 (hb:l1.length+l2.length≤140737488355328):
 Calls Tryz.prog 224 #[.pointer (some ⟨ob,oo,none⟩),.slice a2 l2.length c2] w fun e w'=>e=.returned (.tuple #[])∧OutIs w' ⟨ob,oo,none⟩ (l1++l2)∧OnlyN ⟨ob,oo,none⟩ w w':=by
 have hlt:=World.block_lt_of_cell? _ _ hp;go_in;go_wp2_with fail;have hA:∀o,Sl (w.alloc o) a1 c1 l1:=fun o=>h1.belowAll ((Below.refl _ _).alloc (Nat.le_refl _) o)
 have hB:∀o,Sl (w.alloc o) a2 c2 l2:=fun o=>h2.belowAll ((Below.refl _ _).alloc (Nat.le_refl _) o)
 refine(concat_calls w.heap.size 0 2 a1 a2 c1 c2 l1 l2 _ (by go_simp) (by go_simp) (hA _) (hB _) hb).mono ?_;rintro e w1 ⟨v,rfl,hown,hbel⟩;have hb1:Below w.heap.size w w1:=((Below.refl _ _).alloc (Nat.le_refl _) _).trans (hbel.mono (by simp));have hp1:=(hb1.cell (p:=⟨ob,oo,none⟩) hlt).trans hp;have hf1:=(hb1.frozen (p:=⟨ob,oo,none⟩) hlt).trans hf;obtain⟨ao,c,hv,hsl,hnew⟩:=Sl.of_owns hown;have HNew:=η hnew;clear hnew;subst hv;have HOwn:=η (own_zero (ownsRow_setCell_below hown (a:=⟨ob,oo,none⟩) (Nat.lt_of_lt_of_le hlt (new_below w _).size) (.slice ao (l1++l2).length c)));go_wp2_with fail;go_end0;have ho:=Only.store (p:=⟨ob,oo,none⟩) hb1 (.slice ao (l1++l2).length c);rw[←List.length_append];refine⟨rfl,⟨ao,c,World.cell?_setCell_same _ _ _ hp1,?_,by rw[World.frozen?_setCell];exact hf1,HOwn.out⟩,ho,fun ao' n' c' A h1 h2=>?_⟩;exact hsl.only (p:=⟨ob,oo,none⟩) ⟨rfl,rfl,rfl,by simp[World.setCell],fun k _ hk=>Below.heap_setCell _ _ _ _ hk,fun q _ hq=>World.cell?_setCell_other _ _ _ _ (Ne.symm hq),fun q _=>World.frozen?_setCell ..⟩ hp1 (by intro n h;cases h);rw[World.cell?_setCell_same _ _ _ hp1]at h1;injection h1 with h1
 injection h1 with e1 e2 e3
 rw[←e1]at h2;exact Nat.le_trans (new_below w _).size (HNew.out A h2)
theorem OutIs.alloc {w:World} {p:Addr} {l:List UInt8} (h:OutIs w p l) {w':World} (hb:Below w.heap.size w w'):OutIs w' p l:=by
 obtain⟨ao,c,hp,hs,hf,hw⟩:=h;have hlt:=World.block_lt_of_cell? _ _ hp;exact⟨ao,c,(hb.cell hlt).trans hp,hs.belowAll hb,(hb.frozen hlt).trans hf,own_below hw hb⟩
theorem put_out (ob oo:Nat) (a2:Option Addr) (c2 n2:Nat) (l1 l2:List UInt8) (w:World) (ho:OutIs w ⟨ob,oo,none⟩ l1) (hn:l2.length=n2) (h2:Sl w a2 c2 l2)
 (hb:l1.length+l2.length≤140737488355328):
 Calls Tryz.prog 224 #[.pointer (some ⟨ob,oo,none⟩),.slice a2 n2 c2] w fun e w'=>e=.returned (.tuple #[])∧OutIs w' ⟨ob,oo,none⟩ (l1++l2)∧OnlyN ⟨ob,oo,none⟩ w w':=by
 obtain⟨a1,c1,hp,hs,hf,-⟩:=ho;subst hn;exact put_calls ob oo a1 a2 c1 c2 l1 l2 w hp hf hs h2 hb
theorem OnlyN.after_alloc {p:Addr} {w w':World} {o:Obj} (h:OnlyN p (w.alloc o) w'):OnlyN p w w':=
 ⟨(Only.of_below (new_below w o)).trans h.toOnly,fun ao n c A h1 h2=>Nat.le_trans (new_below w o).size (h.fresh ao n c A h1 h2)⟩
theorem Sl.made (w:World) (cs:Array Value) (e:TypeId) (l:List UInt8) (h:cs.toList=u8s l) (hm:l.length≤maxLen):Sl (w.alloc (.cells cs e)) (some ⟨w.heap.size,0,none⟩) l.length l:=by
 refine .inr ⟨_,rfl,Nat.le_refl _,hm,fun i hi=>?_⟩;rw[Addr.add_lit,Nat.zero_add,World.cell?_alloc_at (hn:=rfl)];rw[←u8s_at hi,←h];simp
theorem Sl.bytes (w:World) (x:ByteArray) (cap:Nat) (e:TypeId) (fr:Nat×Nat) (h:x.size≤cap) (hm:cap≤maxLen):
 Sl (w.alloc (.cells (bytesRow x cap) e fr)).drew (some ⟨w.heap.size,0,none⟩) cap x.data.toList:=by
 refine .inr ⟨_,rfl,by simpa using h,hm,fun i hi=>?_⟩;have hi':i<x.data.size:=by simpa using hi
 rw[Addr.add_lit,Nat.zero_add];show(w.alloc (.cells (bytesRow x cap) e fr)).cell? _=_;rw[World.cell?_alloc_mark,bytesRow_at x cap i hi'];simp[List.getD];rw[Array.getElem?_eq_getElem hi'];rfl
theorem extract_front (s:ByteArray) (n:Nat):(s.extract 0 n).data.toList=s.data.toList.take n:=by
 rw[ByteArray.data_extract,Array.toList_extract];simp[List.extract]
def smallB (n:Int):List UInt8:=[UInt8.ofNat (n%256).toNat,UInt8.ofNat (n / 256%256).toNat]
theorem u8_ofNat {n:Int} (h0:0≤n) (h1:n<256):((UInt8.ofNat n.toNat).toNat:Int)=n:=by
 rw[UInt8.toNat_ofNat'];omega
theorem smallB_cells (n:Int):u8s (smallB n)=[.int .u8 (n%256),.int .u8 (n / 256%256)]:=by
 unfold u8s smallB;simp only[List.map_cons,List.map_nil];rw[u8_ofNat (by omega) (by omega),u8_ofNat (by omega) (by omega)]
theorem small_out (ob oo:Nat) (l:List UInt8) (n:Int) (w:World) (ho:OutIs w ⟨ob,oo,none⟩ l) (hb:l.length≤140737488000000):
 Calls Tryz.prog 168 #[.pointer (some ⟨ob,oo,none⟩),.int .i64 n] w fun e w'=>e=.returned (.tuple #[])∧OutIs w' ⟨ob,oo,none⟩ (l++smallB n)∧OnlyN ⟨ob,oo,none⟩ w w':=by
 go_in;go_wp2_with fail;refine(put_out ob oo _ 2 2 l (smallB n) _ (ho.alloc (new_below _ _)) rfl (Sl.made w _ 5 (smallB n) (smallB_cells n).symm (by simp[smallB,maxLen])) (by simp[smallB];omega)).mono ?_;rintro e w1 ⟨rfl,hout,hon⟩;have HO:=η hout;clear hout;go_wp2_with fail;go_end0;exact⟨rfl,HO.out,hon.after_alloc⟩
theorem truth_out (ob oo:Nat) (l:List UInt8) (b:Bool) (w:World) (ho:OutIs w ⟨ob,oo,none⟩ l) (hb:l.length≤140737488000000):
 Calls Tryz.prog 172 #[.pointer (some ⟨ob,oo,none⟩),.bool b] w fun e w'=>e=.returned (.tuple #[])∧OutIs w' ⟨ob,oo,none⟩ (l++[if b then 1 else 0])∧OnlyN ⟨ob,oo,none⟩ w w':=by
 cases b
 · have hs:=Sl.made w #[.int .u8 0] 5 [0] rfl (by decide);go_in;go_wp2_with fail;refine(put_out ob oo _ 1 1 l [0] _ (ho.alloc (new_below _ _)) rfl hs (by simp;omega)).mono ?_;rintro e w1 ⟨rfl,hout,hon⟩;have HO:=η hout;clear hout;go_wp2_with fail;go_end0;exact⟨rfl,HO.out,hon.after_alloc⟩
 · have hs:=Sl.made w #[.int .u8 1] 5 [1] rfl (by decide);go_in;go_wp2_with fail;refine(put_out ob oo _ 1 1 l [1] _ (ho.alloc (new_below _ _)) rfl hs (by simp;omega)).mono ?_;rintro e w1 ⟨rfl,hout,hon⟩;have HO:=η hout;clear hout;go_wp2_with fail;go_end0;exact⟨rfl,HO.out,hon.after_alloc⟩
def longB (n:Int):List UInt8:=[UInt8.ofNat (n%256).toNat,UInt8.ofNat (n / 256%256).toNat,UInt8.ofNat (n / 65536%256).toNat,UInt8.ofNat (n / 16777216%256).toNat,
 UInt8.ofNat (n / 4294967296%256).toNat,UInt8.ofNat (n / 1099511627776%256).toNat,UInt8.ofNat (n / 281474976710656%256).toNat,UInt8.ofNat (n / 72057594037927936%256).toNat]
theorem longB_cells (n:Int):u8s (longB n)=[.int .u8 (n%256),.int .u8 (n / 256%256),.int .u8 (n / 65536%256),.int .u8 (n / 16777216%256),
 .int .u8 (n / 4294967296%256),.int .u8 (n / 1099511627776%256),.int .u8 (n / 281474976710656%256),.int .u8 (n / 72057594037927936%256)]:=by
 unfold u8s longB;simp only[List.map_cons,List.map_nil]
 repeat rw[u8_ofNat (by omega) (by omega)]
theorem long_out (ob oo:Nat) (l:List UInt8) (n:Int) (w:World) (ho:OutIs w ⟨ob,oo,none⟩ l) (hb:l.length≤140737488000000):
 Calls Tryz.prog 169 #[.pointer (some ⟨ob,oo,none⟩),.int .i64 n] w fun e w'=>e=.returned (.tuple #[])∧OutIs w' ⟨ob,oo,none⟩ (l++longB n)∧OnlyN ⟨ob,oo,none⟩ w w':=by
 go_in;go_wp2_with fail;refine wp_loop_rounds 9 ?_
 iterate 9 (rw[rounds_succ];go_wp2_with fail)
 refine(put_out ob oo _ 8 8 l (longB n) _ (ho.alloc (new_below _ _)) rfl (Sl.made w _ _ (longB n) (longB_cells n).symm (by simp[longB,maxLen])) (by simp[longB];omega)).mono ?_;rintro e w1 ⟨rfl,hout,hon⟩;have HO:=η hout;clear hout;go_wp2_with fail;go_end0;exact⟨rfl,HO.out,hon.after_alloc⟩
def textB (s:ByteArray):List UInt8:=smallB (s.size%65536:Nat)++s.data.toList.take (s.size%65536)
theorem text_out (ob oo:Nat) (l:List UInt8) (s:ByteArray) (w:World) (ho:OutIs w ⟨ob,oo,none⟩ l) (_hs:s.size≤maxLen) (hb:l.length≤140737487000000):
 Calls Tryz.prog 170 #[.pointer (some ⟨ob,oo,none⟩),.string s] w fun e w'=>e=.returned (.tuple #[])∧OutIs w' ⟨ob,oo,none⟩ (l++textB s)∧OnlyN ⟨ob,oo,none⟩ w w':=by
 unfold maxLen at _hs;have h16:wrap64 (IntKind.u16.wrap (s.size:Int))=((s.size%65536:Nat):Int):=by
  rw[IntKind.wrap_u16];have:=IntWalk.wrap64_in ((s.size:Int)%65536) ⟨by omega,by omega⟩;rw[this];omega
 have hconv:=fun(wx:World) (x:ByteArray)=>run_bytes_of_string (P:=Tryz.prog) wx 9 52 5 x Tryz.underlying9 Tryz.underlying52 Tryz.underlying5
 have hlt:s.size%65536<65536:=Nat.mod_lt _ (by omega);have hle:s.size%65536≤s.size:=Nat.mod_le _ _;unfold textB;generalize s.size%65536=n at*;have hle':((n:Nat):Int)≤(s.size:Int):=by omega
 go_in;go_wp2_with fail;refine(small_out ob oo l n _ ho (by omega)).mono ?_;rintro e w1 ⟨rfl,hout,hon⟩;have HO:=η hout;clear hout;go_wp2_with fail;have hx:(s.extract 0 n).size=n:=by rw[ByteArray.size_extract];omega
 have hd:(s.extract 0 n).data.toList.length=n:=by rw[←hx];simp
 have hcap:=grownCap_ge w1 n 0 5;have hmax:=grownCap_le_maxLen w1 n 0 5 (by unfold maxLen;omega);refine(put_out ob oo _ _ n (l++smallB n) (s.extract 0 n).data.toList _ (HO.out.alloc (new_below _ _).drew) hd (Sl.bytes w1 (s.extract 0 n) _ _ _ (by omega) hmax) (by rw[hd];simp[smallB];omega)).mono ?_;rintro e w2 ⟨rfl,hout2,hon2⟩;have HO2:=η hout2;clear hout2 hconv;go_wp2_with fail;go_end0;refine⟨rfl,?_,⟨hon.toOnly.trans ((Only.of_below (new_below _ _).drew).trans hon2.toOnly),fun ao n c A h1 h2=>Nat.le_trans hon.size (Nat.le_trans (new_below _ _).drew.size (hon2.fresh ao n c A h1 h2))⟩⟩;rw[←List.append_assoc,←extract_front];exact HO2.out
end Go.Proofs.YtkjpjfghklgdhaaGreat
