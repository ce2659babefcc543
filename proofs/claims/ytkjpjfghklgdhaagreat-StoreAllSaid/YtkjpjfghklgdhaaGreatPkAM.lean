/-
  PkAM
-/
import Derived.Test.YtkjpjfghklgdhaaGreatPkAL
set_option maxHeartbeats 2000000
set_option maxRecDepth 100000
namespace Go.Proofs.YtkjpjfghklgdhaaGreat
open Go.RowKit
theorem own_il {w:World} {ao:Option Addr} {c:Nat} {l:List Int} (h:w.ownsRow 0 3 1 (.slice ao l.length c) l.length (i64s l)) (hb:∀n∈l,-9223372036854775808≤n∧n≤9223372036854775807):Il w ao c l:=by
 obtain⟨ao',c',e,h1,h2,h3⟩:=row_form h;injection e with e1 e2 e3
 subst e1 e3;rcases h3 with⟨h4,h5,h6⟩ | ⟨g,h4,-,-,h5⟩
 · exact .inl ⟨h4,h6,h5⟩
 · exact .inr ⟨_,h4,h1,h2,fun i hi=>by rw[Addr.add_lit,Nat.zero_add];exact h5 i hi,hb⟩
theorem pcells_at:∀(l:List (ByteArray×ByteArray)) (i:Nat),i<l.length→(pcells l)[i*2]?=some (.string (l.getD i putNone).1)∧(pcells l)[i*2+1]?=some (.string (l.getD i putNone).2)
 | [],_,h=>by simp at h
 | p::l,0,_=>⟨rfl,rfl⟩
 | p::l,i+1,h=>by
  have:=pcells_at l i (by simpa using h);have e:pcells (p::l)=.string p.1::.string p.2::pcells l:=rfl;rw[e,show(i+1)*2=i*2+1+1 by omega];exact this
theorem own_ps {w:World} {ao:Option Addr} {c:Nat} {l:List (ByteArray×ByteArray)} (h:w.ownsRow 0 45 2 (.slice ao l.length c) l.length (pcells l)) (hb:∀i,i<l.length→(l.getD i putNone).1.size≤9223372036854775807∧(l.getD i putNone).2.size≤9223372036854775807):Ps w ao c l:=by
 rcases h.2 with⟨e,h0⟩ | ⟨g,cap,cur,e,_,hg,h1,h2,h3,h4⟩
 · injection e with e1 e2 e3
   exact .inl ⟨e1,e3,List.eq_nil_of_length_eq_zero h0⟩
 · injection e with e1 e2 e3
   subst e1 e3;refine .inr ⟨_,rfl,h1,h2,fun i hi=>?_⟩;obtain⟨p1,p2⟩:=pcells_at l i hi;rw[Addr.add_lit,Addr.add_lit,Nat.zero_add];exact⟨(h.cellAt (i*2) (by omega)).trans p1,(h.cellAt (i*2+1) (by omega)).trans p2,(hb i hi).1,(hb i hi).2⟩
theorem put_form {w:World} {base:Nat} {v:Value} {l:List (ByteArray×ByteArray)} (h:w.ownsRow base 45 2 v l.length (pcells l)):∃ao cp,v=.slice ao l.length cp:=by
 rcases h.2 with⟨hv,hl⟩ | ⟨g,cap,cur,hv,_⟩
 · exact⟨none,0,by rw[hv,hl]⟩
 · exact⟨_,_,hv⟩
theorem append_put {w:World} {ops:Array Oper} {rest:List Oper} {o:Oper} {a:Act} {Q:Exit→Act→World→Prop} (hgd:o.guard=none) (s x:Operand)
 (ho:o.op=.call {callee:=.builtin .append,args:=#[s,x],argTypes:=#[35,35]})
 (v:Value) (l:List (ByteArray×ByteArray)) (hs:a.eval s=v) (hown:w.ownsRow 0 45 2 v l.length (pcells l))
 (A:Nat) (p:ByteArray×ByteArray) (hx:a.eval x=.slice (some ⟨A,0,none⟩) 1 1) (hc0:w.cell? ⟨A,0,none⟩=some (.string p.1)) (hc1:w.cell? ⟨A,1,none⟩=some (.string p.2)) (hb:l.length≤1000000)
 (h:∀v' w',w'.ownsRow 0 45 2 v' (l++[p]).length (pcells (l++[p]))→w.grownBy w' v.ownBlock→(v'.ownBlock=v.ownBlock∨v'.ownBlock=some w.heap.size)→wpList Tryz.prog ops Q rest (a.put o.dst v') w'):wpList Tryz.prog ops Q (o::rest) a w:=by
 obtain⟨i0,hi,hz0,hz1,hz2⟩:=info_parts Tryz.putrow;refine wpList_append_own_at w hgd s x 35 ho 0 45 i0 _ 2 32 Tryz.underlying35 hi hz0 hz1 hz2 rfl (by decide) v l.length (pcells l) hs hown ⟨A,0,none⟩ 1 1 [.string p.1,.string p.2] hx rfl
  (fun j u hj=>by
   match j,hj with
   | 0,hj=>simp at hj;rw[←hj,Addr.add_lit];exact hc0
   | 1,hj=>simp at hj;rw[←hj,Addr.add_lit];exact hc1
   | j+2,hj=>simp at hj) (by intro u hu;simp at hu;rcases hu with rfl | rfl<;>rfl) (by unfold maxLen;omega) (by omega) (Nat.zero_le _) ?_
 intro v' w' h2 h3 _ h5;exact h v' w' (by rw[List.length_append,pcells_append];exact h2) h3 h5
open Go.RowKit Go.Proofs.YtkjpjfghklgdhaaGreat.V
def Apart (v v':Value):Prop:=v.ownBlock=none∨v.ownBlock≠v'.ownBlock
theorem Apart.symm {v v':Value} (h:Apart v v'):Apart v' v:=by
 unfold Apart at*;rcases h with h | h
 · by_cases e:v'.ownBlock=none
   · exact .inl e
   · exact .inr (by rw[h];exact e)
 · exact .inr (fun e=>h e.symm)
def putsRow (x:Lay BrV):Value:=.slice x.ao x.v.puts.length x.c
def partsRow (x:Lay PendV):Value:=.slice x.ao x.v.parts.length x.c
theorem ownsRow_typed {w:World} {B:Nat} {T:TypeId} {z n:Nat} {v:Value} {xs:List Value} (h:w.ownsRow B T z v n xs):∀k∈v.ownBlock.toList,∃cs fr,w.heap[k]?=some (.cells cs T fr):=by
 intro k hk;rcases h.2 with⟨rfl,_⟩ | ⟨g,cap,cur,rfl,_,hg,_⟩
 · simp[Value.ownBlock]at hk
 · have:k=g:=by simpa[Value.ownBlock]using hk
   subst this;exact⟨_,_,hg⟩
theorem ownsRow_keep {l:List Nat} {w w1:World} {B:Nat} {e T:TypeId} {z n:Nat} {v:Value} {xs:List Value} (h:w.ownsRow B e z v n xs) (t:Turn l w w1) (hl:∀k∈l,∃cs fr,w.heap[k]?=some (.cells cs T fr)) (hne:e≠T):w1.ownsRow B e z v n xs:=
 ownsRow_turn h t fun k hk hm=>by
  obtain⟨cs,fr,h1⟩:=hl k hm;rcases h.2 with⟨rfl,_⟩ | ⟨g,cap,cur,rfl,_,hg,_⟩
  · simp[Value.ownBlock]at hk
  · have:g=k:=by simpa[Value.ownBlock]using hk
    subst this;rw[hg]at h1;injection h1 with h1
    injection h1 with _ h2 _
    exact hne h2
theorem heap_keep {l:List Nat} {w w1:World} {b:Nat} {cs:Array Value} {e T:TypeId} (h:w.heap[b]?=some (.cells cs e)) (t:Turn l w w1) (hl:∀k∈l,∃cs fr,w.heap[k]?=some (.cells cs T fr)) (hne:e≠T):w1.heap[b]?=some (.cells cs e):=
 t.heap h fun hm=>by
  obtain⟨cs',fr,h1⟩:=hl b hm;rw[h]at h1;injection h1 with h1
  injection h1 with _ h2 _
  exact hne h2
structure Box (w:World) (lo b:Nat) (s:StV) (a:Ads) (LW:List (Lay BrV)) (LO LN:List (Lay PendV)):Prop where
 head:w.heap[b]?=some (.cells (s.cells a) 27)
 lob:lo≤b
 vw:LW.map Lay.v=s.waits
 vo:LO.map Lay.v=s.open_
 vn:LN.map Lay.v=s.noes
 ms:w.ownsRow lo 49 6 (.slice a.m s.ms.length a.cm) s.ms.length (s.ms.flatMap msgC)
 ws:w.ownsRow lo 81 2 (.slice a.w s.waits.length a.cw) s.waits.length (vcells (LW.map brP))
 es:w.ownsRow lo 61 2 (.slice a.e s.ends.length a.ce) s.ends.length (vcells (s.ends.map endP))
 os:w.ownsRow lo 65 2 (.slice a.o s.open_.length a.co) s.open_.length (vcells (LO.map pendP'))
 ns:w.ownsRow lo 65 2 (.slice a.n s.noes.length a.cn) s.noes.length (vcells (LN.map pendP'))
 on:Apart (.slice a.o s.open_.length a.co) (.slice a.n s.noes.length a.cn)
 puts:∀x∈LW,w.ownsRow lo 45 2 (putsRow x) x.v.puts.length (pcells x.v.puts)
 parts:∀x∈LO++LN,w.ownsRow lo 3 1 (partsRow x) x.v.parts.length (i64s x.v.parts)
 alone:(LO++LN).Pairwise fun x y=>Apart (partsRow x) (partsRow y)
structure Rest (w:World) (lo b:Nat) (s:StV) (a:Ads) (LW:List (Lay BrV)) (LO LN:List (Lay PendV)) (T:TypeId):Prop where
 head:w.heap[b]?=some (.cells (s.cells a) 27)
 ms:49≠T→w.ownsRow lo 49 6 (.slice a.m s.ms.length a.cm) s.ms.length (s.ms.flatMap msgC)
 ws:81≠T→w.ownsRow lo 81 2 (.slice a.w s.waits.length a.cw) s.waits.length (vcells (LW.map brP))
 es:61≠T→w.ownsRow lo 61 2 (.slice a.e s.ends.length a.ce) s.ends.length (vcells (s.ends.map endP))
 os:65≠T→w.ownsRow lo 65 2 (.slice a.o s.open_.length a.co) s.open_.length (vcells (LO.map pendP'))
 ns:65≠T→w.ownsRow lo 65 2 (.slice a.n s.noes.length a.cn) s.noes.length (vcells (LN.map pendP'))
 puts:45≠T→∀x∈LW,w.ownsRow lo 45 2 (putsRow x) x.v.puts.length (pcells x.v.puts)
 parts:3≠T→∀x∈LO++LN,w.ownsRow lo 3 1 (partsRow x) x.v.parts.length (i64s x.v.parts)
theorem Box.rest {w w1:World} {lo b:Nat} {s:StV} {a:Ads} {LW:List (Lay BrV)} {LO LN:List (Lay PendV)} (h:Box w lo b s a LW LO LN) {l:List Nat} (t:Turn l w w1) {T:TypeId} (hl:∀k∈l,∃cs fr,w.heap[k]?=some (.cells cs T fr)) (hT:27≠T):Rest w1 lo b s a LW LO LN T where
 head:=heap_keep h.head t hl hT
 ms:=fun hne=>ownsRow_keep h.ms t hl hne
 ws:=fun hne=>ownsRow_keep h.ws t hl hne
 es:=fun hne=>ownsRow_keep h.es t hl hne
 os:=fun hne=>ownsRow_keep h.os t hl hne
 ns:=fun hne=>ownsRow_keep h.ns t hl hne
 puts:=fun hne x hx=>ownsRow_keep (h.puts x hx) t hl hne
 parts:=fun hne x hx=>ownsRow_keep (h.parts x hx) t hl hne
theorem Box.still {w w1:World} {lo b:Nat} {s:StV} {a:Ads} {LW:List (Lay BrV)} {LO LN:List (Lay PendV)} (h:Box w lo b s a LW LO LN) (t:Turn [] w w1):Box w1 lo b s a LW LO LN:=
 ⟨t.heap h.head,h.lob,h.vw,h.vo,h.vn,ownsRow_turn h.ms t,ownsRow_turn h.ws t,ownsRow_turn h.es t,ownsRow_turn h.os t,ownsRow_turn h.ns t,h.on,
  fun x hx=>ownsRow_turn (h.puts x hx) t,fun x hx=>ownsRow_turn (h.parts x hx) t,h.alone⟩
theorem row_store {w:World} {b i:Nat} {cs:Array Value} {B:Nat} {e:TypeId} {z n:Nat} {v:Value} {xs:List Value} (h:w.ownsRow B e z v n xs) (hb:w.heap[b]?=some (.cells cs 27)) (hne:e≠27) (u:Value):(w.setCell ⟨b,i,none⟩ u).ownsRow B e z v n xs:=
 ownsRow_keep h (Turn.setCell (l := [b]) w (by simp) u) (fun k hk => by have : k = b := by simpa using hk
                                                                        rw[this];exact⟨_,_,hb⟩) hne
theorem Box.setEnds {w w1:World} {lo b:Nat} {s:StV} {a:Ads} {LW:List (Lay BrV)} {LO LN:List (Lay PendV)} (h:Box w lo b s a LW LO LN) (r:Rest w1 lo b s a LW LO LN 61) {E:List EndV} {ao:Option Addr} {c:Nat}
 (hr:w1.ownsRow lo 61 2 (.slice ao E.length c) E.length (vcells (E.map endP))):Box (w1.setCell ⟨b,6,none⟩ (.slice ao E.length c)) lo b {s with ends:=E} {a with e:=ao,ce:=c} LW LO LN:=
 ⟨block_set r.head _,h.lob,h.vw,h.vo,h.vn,row_store (r.ms (by decide)) r.head (by decide) _,row_store (r.ws (by decide)) r.head (by decide) _,row_store hr r.head (by decide) _,row_store (r.os (by decide)) r.head (by decide) _,row_store (r.ns (by decide)) r.head (by decide) _,h.on,
  fun x hx=>row_store (r.puts (by decide) x hx) r.head (by decide) _,fun x hx=>row_store (r.parts (by decide) x hx) r.head (by decide) _,h.alone⟩
theorem Box.setMs {w w1:World} {lo b:Nat} {s:StV} {a:Ads} {LW:List (Lay BrV)} {LO LN:List (Lay PendV)} (h:Box w lo b s a LW LO LN) (r:Rest w1 lo b s a LW LO LN 49) {M:List MsgV} {ao:Option Addr} {c:Nat}
 (hr:w1.ownsRow lo 49 6 (.slice ao M.length c) M.length (M.flatMap msgC)):Box (w1.setCell ⟨b,4,none⟩ (.slice ao M.length c)) lo b {s with ms:=M} {a with m:=ao,cm:=c} LW LO LN:=
 ⟨block_set r.head _,h.lob,h.vw,h.vo,h.vn,row_store hr r.head (by decide) _,row_store (r.ws (by decide)) r.head (by decide) _,row_store (r.es (by decide)) r.head (by decide) _,row_store (r.os (by decide)) r.head (by decide) _,row_store (r.ns (by decide)) r.head (by decide) _,h.on,
  fun x hx=>row_store (r.puts (by decide) x hx) r.head (by decide) _,fun x hx=>row_store (r.parts (by decide) x hx) r.head (by decide) _,h.alone⟩
theorem Box.setWaits {w w1:World} {lo b:Nat} {s:StV} {a:Ads} {LW LW':List (Lay BrV)} {LO LN:List (Lay PendV)} (h:Box w lo b s a LW LO LN) (r:Rest w1 lo b s a LW LO LN 81) {E:List BrV} {ao:Option Addr} {c:Nat} (hv:LW'.map Lay.v=E)
 (hr:w1.ownsRow lo 81 2 (.slice ao E.length c) E.length (vcells (LW'.map brP))) (hp:∀x∈LW',x∈LW∨w1.ownsRow lo 45 2 (putsRow x) x.v.puts.length (pcells x.v.puts)):Box (w1.setCell ⟨b,5,none⟩ (.slice ao E.length c)) lo b {s with waits:=E} {a with w:=ao,cw:=c} LW' LO LN:=
 ⟨block_set r.head _,h.lob,hv,h.vo,h.vn,row_store (r.ms (by decide)) r.head (by decide) _,row_store hr r.head (by decide) _,row_store (r.es (by decide)) r.head (by decide) _,row_store (r.os (by decide)) r.head (by decide) _,row_store (r.ns (by decide)) r.head (by decide) _,h.on,
  fun x hx=>row_store (by rcases hp x hx with h1 | h1;exact r.puts (by decide) x h1;exact h1) r.head (by decide) _,fun x hx=>row_store (r.parts (by decide) x hx) r.head (by decide) _,h.alone⟩
theorem Box.setNum {w:World} {lo b:Nat} {s s':StV} {a:Ads} {LW:List (Lay BrV)} {LO LN:List (Lay PendV)} (h:Box w lo b s a LW LO LN) (i:Nat) (u:Value) (hc:(s.cells a).setIfInBounds i u=s'.cells a) (e1:s'.ms=s.ms) (e2:s'.waits=s.waits) (e3:s'.ends=s.ends) (e4:s'.open_=s.open_) (e5:s'.noes=s.noes):Box (w.setCell ⟨b,i,none⟩ u) lo b s' a LW LO LN:=by
 refine⟨by rw[←hc];exact block_set h.head _,h.lob,by rw[e2];exact h.vw,by rw[e4];exact h.vo,by rw[e5];exact h.vn,by rw[e1];exact row_store h.ms h.head (by decide) _,by rw[e2];exact row_store h.ws h.head (by decide) _,by rw[e3];exact row_store h.es h.head (by decide) _,by rw[e4];exact row_store h.os h.head (by decide) _,by rw[e5];exact row_store h.ns h.head (by decide) _,by rw[e4,e5];exact h.on,fun x hx=>row_store (h.puts x hx) h.head (by decide) _,fun x hx=>row_store (h.parts x hx) h.head (by decide) _,h.alone⟩
theorem Box.setOpen {w w1:World} {lo b:Nat} {s:StV} {a:Ads} {LW:List (Lay BrV)} {LO LO' LN:List (Lay PendV)} (h:Box w lo b s a LW LO LN) (r:Rest w1 lo b s a LW LO LN 65) {E:List PendV} {ao:Option Addr} {c:Nat} (hv:LO'.map Lay.v=E)
 (hn:w1.ownsRow lo 65 2 (.slice a.n s.noes.length a.cn) s.noes.length (vcells (LN.map pendP')))
 (hr:w1.ownsRow lo 65 2 (.slice ao E.length c) E.length (vcells (LO'.map pendP'))) (hon:Apart (.slice ao E.length c) (.slice a.n s.noes.length a.cn))
 (hp:∀x∈LO',x∈LO∨w1.ownsRow lo 3 1 (partsRow x) x.v.parts.length (i64s x.v.parts)) (hal:(LO'++LN).Pairwise fun x y=>Apart (partsRow x) (partsRow y)):
 Box (w1.setCell ⟨b,7,none⟩ (.slice ao E.length c)) lo b {s with open_:=E} {a with o:=ao,co:=c} LW LO' LN:=
 ⟨block_set r.head _,h.lob,h.vw,hv,h.vn,row_store (r.ms (by decide)) r.head (by decide) _,row_store (r.ws (by decide)) r.head (by decide) _,row_store (r.es (by decide)) r.head (by decide) _,row_store hr r.head (by decide) _,row_store hn r.head (by decide) _,hon,
  fun x hx=>row_store (r.puts (by decide) x hx) r.head (by decide) _,fun x hx=>row_store (by
   rcases List.mem_append.1 hx with h1 | h1
   · rcases hp x h1 with h2 | h2
     · exact r.parts (by decide) x (List.mem_append.2 (.inl h2))
     · exact h2
   · exact r.parts (by decide) x (List.mem_append.2 (.inr h1))) r.head (by decide) _,hal⟩
theorem Box.setNoes {w w1:World} {lo b:Nat} {s:StV} {a:Ads} {LW:List (Lay BrV)} {LO LN LN':List (Lay PendV)} (h:Box w lo b s a LW LO LN) (r:Rest w1 lo b s a LW LO LN 65) {E:List PendV} {ao:Option Addr} {c:Nat} (hv:LN'.map Lay.v=E)
 (ho:w1.ownsRow lo 65 2 (.slice a.o s.open_.length a.co) s.open_.length (vcells (LO.map pendP')))
 (hr:w1.ownsRow lo 65 2 (.slice ao E.length c) E.length (vcells (LN'.map pendP'))) (hon:Apart (.slice a.o s.open_.length a.co) (.slice ao E.length c))
 (hp:∀x∈LN',x∈LN∨w1.ownsRow lo 3 1 (partsRow x) x.v.parts.length (i64s x.v.parts)) (hal:(LO++LN').Pairwise fun x y=>Apart (partsRow x) (partsRow y)):
 Box (w1.setCell ⟨b,8,none⟩ (.slice ao E.length c)) lo b {s with noes:=E} {a with n:=ao,cn:=c} LW LO LN':=
 ⟨block_set r.head _,h.lob,h.vw,h.vo,hv,row_store (r.ms (by decide)) r.head (by decide) _,row_store (r.ws (by decide)) r.head (by decide) _,row_store (r.es (by decide)) r.head (by decide) _,row_store ho r.head (by decide) _,row_store hr r.head (by decide) _,hon,
  fun x hx=>row_store (r.puts (by decide) x hx) r.head (by decide) _,fun x hx=>row_store (by
   rcases List.mem_append.1 hx with h1 | h1
   · exact r.parts (by decide) x (List.mem_append.2 (.inl h1))
   · rcases hp x h1 with h2 | h2
     · exact r.parts (by decide) x (List.mem_append.2 (.inr h2))
     · exact h2) r.head (by decide) _,hal⟩
structure StV.deep (s:StV):Prop where
 puts:∀x∈s.waits,∀i,i<x.puts.length→(x.puts.getD i putNone).1.size≤9223372036854775807∧(x.puts.getD i putNone).2.size≤9223372036854775807
 open_:∀x∈s.open_,∀n∈x.parts,-9223372036854775808≤n∧n≤9223372036854775807
 noes:∀x∈s.noes,∀n∈x.parts,-9223372036854775808≤n∧n≤9223372036854775807
theorem Ps.sizes {w:World} {ao:Option Addr} {c:Nat} {l:List (ByteArray×ByteArray)} (h:Ps w ao c l):∀i,i<l.length→(l.getD i putNone).1.size≤9223372036854775807∧(l.getD i putNone).2.size≤9223372036854775807:=by
 rcases h with⟨_,_,rfl⟩ | ⟨A,_,_,_,h⟩
 · intro i hi;simp at hi
 · exact fun i hi=>(h i hi).2.2
theorem vcells_flat (K:List (Int×Value)):vcells K=K.flatMap pairC:=rfl
theorem flat_map {α β γ:Type} (f:α→β) (g:β→List γ) (l:List α):(l.map f).flatMap g=l.flatMap fun x=>g (f x):=by
 induction l with
 | nil=>rfl
 | cons x l ih=>simp[ih]
theorem byF_enter (args:Array Value) (w:World):(callFunc 196 args).run Tryz.prog w=.ok (.enter 196 args) w:=
 enter_run Tryz.func196 (by kernel_rfl) (by kernel_rfl) args w
theorem byF_calls (m:MsgV) (t:Int) {q:Nat} {w:World} (hq:w.cell? ⟨q,0,none⟩=some (.int .i64 t)):Calls Tryz.prog 196 #[.agg (msgC m).toArray,.pointer (some ⟨q,0,none⟩)] w fun e w'=>e=.returned (.bool (decide (m.by_=t)))∧Turn [] w w':=by
 obtain⟨i,qu,bo,sq,co,by_⟩:=m;have hq1:=(Turn.alloc [] w (.cells #[.int .i64 i,.string qu,.string bo,.int .i64 sq,.int .i64 co,.int .i64 by_] 49)).cell hq;unfold msgC;dsimp only;go_in;go_wp2_with fail;go_ret;exact⟨ret_bool (by first | rfl | simp),Turn.alloc [] w _⟩
theorem indexBy_calls {w:World} {ao:Option Addr} {cp:Nat} {l:List MsgV} (h:Tl 6 msgC w ao cp l) (t:Int) {q:Nat} (hq:w.cell? ⟨q,0,none⟩=some (.int .i64 t)):
 Calls Tryz.prog 182 #[.slice ao l.length cp,.func (.func 196) #[] #[.pointer (some ⟨q,0,none⟩)]] w fun e w'=>e=.returned (.int .i64 (placeI (fun m:MsgV=>decide (m.by_=t)) l))∧Turn [] w w':=by
 have hlen:=h.len;have H:=η h;have HQ:=η hq;have EN:=byF_enter;obtain⟨ans,ha⟩:=ε (placeI (fun m:MsgV=>decide (m.by_=t)) l);have HA:=η ha;rw[←ha];obtain⟨n,hn⟩:=ε l.length;have HN:=η hn;rw[←hn]at hlen ⊢;clear h hn ha hq;go_in;go_wp2_with fail;go_loopw [8] (fun vi wx=>∃k:Nat,k≤n∧vi=.int .i64 (k:Int)∧(∀(j:Nat) (y:MsgV),j<k→l[j]?=some y→(fun m:MsgV=>decide (m.by_=t)) y=false)∧Turn [] w wx) (fun vi _=>n-(intOf vi).toNat)
 case atStart=>exact⟨0,by omega,rfl,fun j y hj=>by omega,Turn.refl _ _⟩
 case round=>
  obtain⟨k,hk,rfl,hall,ht⟩:=hrel;have HT:=η ht;have H2:=H.out.still ht;have hq2:=ht.cell HQ.out;have HL:=η hall;clear hall ht;by_cases hkn:k<n
  · have hkl:k<l.length:=by rw[←HN.out];exact hkn
    obtain⟨m,hm⟩:∃m,l[k]?=some m:=⟨_,List.getElem?_eq_getElem hkl⟩
    obtain⟨g,off,rfl,hat⟩:=H2.at hm;have C:=η (byF_calls m t hq2);have q0:=hat 0 (.int .i64 m.id) rfl;have q1:=hat 1 (.string m.queue) rfl;have q2:=hat 2 (.string m.body) rfl;have q3:=hat 3 (.int .i64 m.seq) rfl;have q4:=hat 4 (.int .i64 m.count) rfl;have q5:=hat 5 (.int .i64 m.by_) rfl;rw[Nat.add_zero]at q0;have hb:0≤(k:Int)∧(k:Int)<(n:Int):=by omega
    have HX:Hid (decide (m.by_=t)=false→∀(j:Nat) (y:MsgV),j<k+1→l[j]?=some y→(fun m:MsgV=>decide (m.by_=t)) y=false):=η (fun hne j y hj hy=>by
     by_cases e:j=k
     · rw[e,hm]at hy;injection hy with hy
       rw[←hy];exact hne
     · exact HL.out j y (by omega) hy)
    have HF:Hid (decide (m.by_=t)=true→ans=(k:Int)):=η (fun he=>by rw[HA.out];exact place_hit hm he HL.out);obtain⟨i,qu,bo,sq,co,by_⟩:=m;unfold msgC at C;dsimp only at q0 q1 q2 q3 q4 q5 HX HF C;obtain⟨c,hc⟩:=ε (decide (by_=t));rw[←hc]at C HX HF;clear hat hm hc H2 hq2 HL;cases c with
    | true=>
     have HF2:=η (HF.out rfl);clear HF HX;go_wp2_with fail;refine C.out.mono ?_;rintro e x1 ⟨rfl,t1⟩;have T1:=η (HT.out.trans t1);clear t1 C;go_wp2_with fail;go_ret;exact⟨ret_int HF2.out.symm,T1.out⟩
    | false=>
     have HX2:=η (HX.out rfl);clear HF HX;go_wp2_with fail;refine C.out.mono ?_;rintro e x1 ⟨rfl,t1⟩;have T1:=η (HT.out.trans t1);clear t1 C;go_wp2_with fail;go_roundw
     case rel=>exact⟨k+1,by omega,by go_num,HX2.out,T1.out⟩
     case measure=>simp[intOf];omega
  · have hkk:k=n:=by omega
    have HF:Hid (ans=-1):=η (by
     rw[HA.out];refine place_none (fun i y hy=>HL.out i y ?_ hy);have:=(List.getElem?_eq_some_iff.1 hy).1;rw[hkk,HN.out]
     exact this)
    clear HL H2 hq2;go_wp2_with fail;go_ret;exact⟨ret_int HF.out.symm,HT.out⟩
theorem Tl.flat {α:Type} {n:Nat} {f:α→List Value} (hf:∀x,(f x).length=n) {w:World} {b off c:Nat} {l:List α} (h:Tl n f w (some ⟨b,off,none⟩) c l):∀j v,(l.flatMap f)[j]?=some v→w.cell? ((⟨b,off,none⟩:Addr).add j)=some v:=by
 rcases h with⟨h1,_⟩ | ⟨b',off',h1,h2,h3,h4⟩
 · cases h1
 · injection h1 with h1
   injection h1 with e1 e2 _
   subst e1 e2;intro j v hv;obtain⟨i,k,x,e,hx,hk⟩:=flat_split f hf l j v hv;have:=h4 i x hx k v hk;rw[Addr.add_lit,e,←Nat.add_assoc];exact this
where
 flat_split {α:Type} {n:Nat} (f:α→List Value) (hf:∀x,(f x).length=n):∀(l:List α) (j:Nat) (v:Value),(l.flatMap f)[j]?=some v→∃i k x,j=i*n+k∧l[i]?=some x∧(f x)[k]?=some v
  | [],j,v,h=>by simp at h
  | y::l,j,v,h=>by
   rw[List.flatMap_cons]at h;by_cases hj:j<(f y).length
   · rw[List.getElem?_append_left hj]at h;exact⟨0,j,y,by simp,rfl,h⟩
   · rw[List.getElem?_append_right (by omega)]at h;obtain⟨i,k,x,e,hx,hk⟩:=flat_split f hf l _ v h;refine⟨i+1,k,x,?_,by simpa using hx,hk⟩;have:=hf y;rw[Nat.add_mul,Nat.one_mul];omega
theorem flat_len {α:Type} {n:Nat} {f:α→List Value} (hf:∀x,(f x).length=n) (l:List α):(l.flatMap f).length=l.length*n:=by
 induction l with
 | nil=>simp
 | cons x l ih=>rw[List.flatMap_cons,List.length_append,ih,hf,List.length_cons,Nat.add_mul,Nat.one_mul];omega
theorem Tryz.crowMsg:(Tryz.prog.info? 49).map (fun i=>(i.zero,i.size,i.bytes))=some (some (.agg #[.int .i64 0,.string ⟨#[]⟩,.string ⟨#[]⟩,.int .i64 0,.int .i64 0,.int .i64 0]),6,64):=by kernel_rfl
theorem cloneMsg_calls {w:World} {ao:Option Addr} {c:Nat} {l:List Value} {m:Nat} (hl:l.length=m*6) (hnil:ao=none→m=0∧c=0) (hsrc:∀A,ao=some A→∀j v,l[j]?=some v→w.cell? (A.add j)=some v) (h1:∀v∈l,v.oneCell'=true) (hfew:m≤1000000):
 Calls Tryz.prog 143 #[.slice ao m c] w fun e w'=>∃ao' c',e=.returned (.slice ao' m c')∧w'.ownsRow w.heap.size 49 6 (.slice ao' m c') m l∧Turn [] w w':=by
 cases ao with
 | none=>
  obtain⟨rfl,rfl⟩:=hnil rfl;have hl0:l=[]:=List.eq_nil_of_length_eq_zero (by omega);subst hl0;clear hsrc hnil h1 hl hfew;have q:(binOp .eql 22 (.slice none 0 0) (.slice none 0 0)).run Tryz.prog w=.ok (.bool true) w:=Lib.run_eql_slice_nil w _ _ none 0 0 0 0 Tryz.underlying22;go_in;go_wp2_with fail;go_ret;exact⟨none,0,rfl,World.ownsRow_nil _ _ _ _,Turn.refl _ _⟩
 | some A=>
  have q:(binOp .eql 22 (.slice (some A) m c) (.slice none 0 0)).run Tryz.prog w=.ok (.bool false) w:=Lib.run_eql_slice_nil w _ _ (some A) m c 0 0 Tryz.underlying22;obtain⟨i0,hi,hz0,hz1,hz2⟩:=info_parts Tryz.crowMsg;have HI:=η hi;have HL:=η hl;have H1:=η h1;have HS:=η (hsrc A rfl);clear hsrc hnil h1 hl hi;go_in;have O0:Hid ((w.alloc (.cells #[] 49)).ownsRow w.heap.size 49 6 (.slice (some ⟨w.heap.size,0,none⟩) 0 0) 0 []):=η ⟨rfl,.inr ⟨w.heap.size,0,#[],rfl,Nat.le_refl _,heap_alloc_new w _,Nat.le_refl _,by unfold maxLen;omega,rfl,rfl⟩⟩;have T0:=η (Turn.alloc [] w (.cells #[] 49));have HX:Hid (∀j v,l[j]?=some v→(w.alloc (.cells #[] 49)).cell? (A.add j)=some v):=η (fun j v hv=>T0.out.cell (HS.out j v hv));go_wp2_with(at_builtin;refine wpList_append_own_at (w.alloc (.cells #[] 49)) rfl (.tmp 5) (.tmp 6) 22 rfl w.heap.size 49 i0 _ 6 64 Tryz.underlying22 HI.out hz0 hz1 hz2 rfl (by decide) (.slice (some ⟨w.heap.size,0,none⟩) 0 0) 0 [] rfl O0.out A m c l rfl HL.out HX.out H1.out (by unfold maxLen;omega) (by omega) (by simp) ?_)
  all_goals
   intro v' w' o1 o2 _ o4
   try rw[List.nil_append,Nat.zero_add]at o1
   have hform:∃ao' c',v'=.slice ao' m c':=by
    rcases o1.2 with⟨hv,h0⟩ | ⟨g,cap,cur,hv,_⟩
    · exact⟨none,0,by rw[hv,h0]⟩
    · exact⟨_,_,hv⟩
   obtain⟨ao',c',rfl⟩:=hform;have O1:=η o1;have T2:=η (T0.out.trans (Turn.grown (l:=[w.heap.size]) o2 (fun k hk=>.inl (by simp[Value.ownBlock]at hk;simp[hk]))) (fun i hi=>.inr (by simp at hi;omega)));clear o1 o2 o4;go_wp2_with fail;go_ret;exact⟨_,_,rfl,O1.out,T2.out⟩
theorem Tryz.crowBr:(Tryz.prog.info? 81).map (fun i=>(i.zero,i.size,i.bytes))=some (some (.agg #[.int .i64 0,.slice none 0 0]),2,32):=by kernel_rfl
theorem cloneBr_calls {w:World} {ao:Option Addr} {c:Nat} {l:List Value} {m:Nat} (hl:l.length=m*2) (hnil:ao=none→m=0∧c=0) (hsrc:∀A,ao=some A→∀j v,l[j]?=some v→w.cell? (A.add j)=some v) (h1:∀v∈l,v.oneCell'=true) (hfew:m≤1000000):
 Calls Tryz.prog 144 #[.slice ao m c] w fun e w'=>∃ao' c',e=.returned (.slice ao' m c')∧w'.ownsRow w.heap.size 81 2 (.slice ao' m c') m l∧Turn [] w w':=by
 cases ao with
 | none=>
  obtain⟨rfl,rfl⟩:=hnil rfl;have hl0:l=[]:=List.eq_nil_of_length_eq_zero (by omega);subst hl0;clear hsrc hnil h1 hl hfew;have q:(binOp .eql 23 (.slice none 0 0) (.slice none 0 0)).run Tryz.prog w=.ok (.bool true) w:=Lib.run_eql_slice_nil w _ _ none 0 0 0 0 Tryz.underlying23;go_in;go_wp2_with fail;go_ret;exact⟨none,0,rfl,World.ownsRow_nil _ _ _ _,Turn.refl _ _⟩
 | some A=>
  have q:(binOp .eql 23 (.slice (some A) m c) (.slice none 0 0)).run Tryz.prog w=.ok (.bool false) w:=Lib.run_eql_slice_nil w _ _ (some A) m c 0 0 Tryz.underlying23;obtain⟨i0,hi,hz0,hz1,hz2⟩:=info_parts Tryz.crowBr;have HI:=η hi;have HL:=η hl;have H1:=η h1;have HS:=η (hsrc A rfl);clear hsrc hnil h1 hl hi;go_in;have O0:Hid ((w.alloc (.cells #[] 81)).ownsRow w.heap.size 81 2 (.slice (some ⟨w.heap.size,0,none⟩) 0 0) 0 []):=η ⟨rfl,.inr ⟨w.heap.size,0,#[],rfl,Nat.le_refl _,heap_alloc_new w _,Nat.le_refl _,by unfold maxLen;omega,rfl,rfl⟩⟩;have T0:=η (Turn.alloc [] w (.cells #[] 81));have HX:Hid (∀j v,l[j]?=some v→(w.alloc (.cells #[] 81)).cell? (A.add j)=some v):=η (fun j v hv=>T0.out.cell (HS.out j v hv));go_wp2_with(at_builtin;refine wpList_append_own_at (w.alloc (.cells #[] 81)) rfl (.tmp 5) (.tmp 6) 23 rfl w.heap.size 81 i0 _ 2 32 Tryz.underlying23 HI.out hz0 hz1 hz2 rfl (by decide) (.slice (some ⟨w.heap.size,0,none⟩) 0 0) 0 [] rfl O0.out A m c l rfl HL.out HX.out H1.out (by unfold maxLen;omega) (by omega) (by simp) ?_)
  all_goals
   intro v' w' o1 o2 _ o4
   try rw[List.nil_append,Nat.zero_add]at o1
   have hform:∃ao' c',v'=.slice ao' m c':=by
    rcases o1.2 with⟨hv,h0⟩ | ⟨g,cap,cur,hv,_⟩
    · exact⟨none,0,by rw[hv,h0]⟩
    · exact⟨_,_,hv⟩
   obtain⟨ao',c',rfl⟩:=hform;have O1:=η o1;have T2:=η (T0.out.trans (Turn.grown (l:=[w.heap.size]) o2 (fun k hk=>.inl (by simp[Value.ownBlock]at hk;simp[hk]))) (fun i hi=>.inr (by simp at hi;omega)));clear o1 o2 o4;go_wp2_with fail;go_ret;exact⟨_,_,rfl,O1.out,T2.out⟩
theorem Tryz.crowEnd:(Tryz.prog.info? 61).map (fun i=>(i.zero,i.size,i.bytes))=some (some (.agg #[.int .i64 0,.bool false]),2,16):=by kernel_rfl
theorem cloneEnd_calls {w:World} {ao:Option Addr} {c:Nat} {l:List Value} {m:Nat} (hl:l.length=m*2) (hnil:ao=none→m=0∧c=0) (hsrc:∀A,ao=some A→∀j v,l[j]?=some v→w.cell? (A.add j)=some v) (h1:∀v∈l,v.oneCell'=true) (hfew:m≤1000000):
 Calls Tryz.prog 146 #[.slice ao m c] w fun e w'=>∃ao' c',e=.returned (.slice ao' m c')∧w'.ownsRow w.heap.size 61 2 (.slice ao' m c') m l∧Turn [] w w':=by
 cases ao with
 | none=>
  obtain⟨rfl,rfl⟩:=hnil rfl;have hl0:l=[]:=List.eq_nil_of_length_eq_zero (by omega);subst hl0;clear hsrc hnil h1 hl hfew;have q:(binOp .eql 24 (.slice none 0 0) (.slice none 0 0)).run Tryz.prog w=.ok (.bool true) w:=Lib.run_eql_slice_nil w _ _ none 0 0 0 0 Tryz.underlying24;go_in;go_wp2_with fail;go_ret;exact⟨none,0,rfl,World.ownsRow_nil _ _ _ _,Turn.refl _ _⟩
 | some A=>
  have q:(binOp .eql 24 (.slice (some A) m c) (.slice none 0 0)).run Tryz.prog w=.ok (.bool false) w:=Lib.run_eql_slice_nil w _ _ (some A) m c 0 0 Tryz.underlying24;obtain⟨i0,hi,hz0,hz1,hz2⟩:=info_parts Tryz.crowEnd;have HI:=η hi;have HL:=η hl;have H1:=η h1;have HS:=η (hsrc A rfl);clear hsrc hnil h1 hl hi;go_in;have O0:Hid ((w.alloc (.cells #[] 61)).ownsRow w.heap.size 61 2 (.slice (some ⟨w.heap.size,0,none⟩) 0 0) 0 []):=η ⟨rfl,.inr ⟨w.heap.size,0,#[],rfl,Nat.le_refl _,heap_alloc_new w _,Nat.le_refl _,by unfold maxLen;omega,rfl,rfl⟩⟩;have T0:=η (Turn.alloc [] w (.cells #[] 61));have HX:Hid (∀j v,l[j]?=some v→(w.alloc (.cells #[] 61)).cell? (A.add j)=some v):=η (fun j v hv=>T0.out.cell (HS.out j v hv));go_wp2_with(at_builtin;refine wpList_append_own_at (w.alloc (.cells #[] 61)) rfl (.tmp 5) (.tmp 6) 24 rfl w.heap.size 61 i0 _ 2 16 Tryz.underlying24 HI.out hz0 hz1 hz2 rfl (by decide) (.slice (some ⟨w.heap.size,0,none⟩) 0 0) 0 [] rfl O0.out A m c l rfl HL.out HX.out H1.out (by unfold maxLen;omega) (by omega) (by simp) ?_)
  all_goals
   intro v' w' o1 o2 _ o4
   try rw[List.nil_append,Nat.zero_add]at o1
   have hform:∃ao' c',v'=.slice ao' m c':=by
    rcases o1.2 with⟨hv,h0⟩ | ⟨g,cap,cur,hv,_⟩
    · exact⟨none,0,by rw[hv,h0]⟩
    · exact⟨_,_,hv⟩
   obtain⟨ao',c',rfl⟩:=hform;have O1:=η o1;have T2:=η (T0.out.trans (Turn.grown (l:=[w.heap.size]) o2 (fun k hk=>.inl (by simp[Value.ownBlock]at hk;simp[hk]))) (fun i hi=>.inr (by simp at hi;omega)));clear o1 o2 o4;go_wp2_with fail;go_ret;exact⟨_,_,rfl,O1.out,T2.out⟩
theorem Tryz.crowPd:(Tryz.prog.info? 65).map (fun i=>(i.zero,i.size,i.bytes))=some (some (.agg #[.int .i64 0,.slice none 0 0]),2,32):=by kernel_rfl
theorem clonePd_calls {w:World} {ao:Option Addr} {c:Nat} {l:List Value} {m:Nat} (hl:l.length=m*2) (hnil:ao=none→m=0∧c=0) (hsrc:∀A,ao=some A→∀j v,l[j]?=some v→w.cell? (A.add j)=some v) (h1:∀v∈l,v.oneCell'=true) (hfew:m≤1000000):
 Calls Tryz.prog 191 #[.slice ao m c] w fun e w'=>∃ao' c',e=.returned (.slice ao' m c')∧w'.ownsRow w.heap.size 65 2 (.slice ao' m c') m l∧Turn [] w w':=by
 cases ao with
 | none=>
  obtain⟨rfl,rfl⟩:=hnil rfl;have hl0:l=[]:=List.eq_nil_of_length_eq_zero (by omega);subst hl0;clear hsrc hnil h1 hl hfew;have q:(binOp .eql 25 (.slice none 0 0) (.slice none 0 0)).run Tryz.prog w=.ok (.bool true) w:=Lib.run_eql_slice_nil w _ _ none 0 0 0 0 Tryz.underlying25;go_in;go_wp2_with fail;go_ret;exact⟨none,0,rfl,World.ownsRow_nil _ _ _ _,Turn.refl _ _⟩
 | some A=>
  have q:(binOp .eql 25 (.slice (some A) m c) (.slice none 0 0)).run Tryz.prog w=.ok (.bool false) w:=Lib.run_eql_slice_nil w _ _ (some A) m c 0 0 Tryz.underlying25;obtain⟨i0,hi,hz0,hz1,hz2⟩:=info_parts Tryz.crowPd;have HI:=η hi;have HL:=η hl;have H1:=η h1;have HS:=η (hsrc A rfl);clear hsrc hnil h1 hl hi;go_in;have O0:Hid ((w.alloc (.cells #[] 65)).ownsRow w.heap.size 65 2 (.slice (some ⟨w.heap.size,0,none⟩) 0 0) 0 []):=η ⟨rfl,.inr ⟨w.heap.size,0,#[],rfl,Nat.le_refl _,heap_alloc_new w _,Nat.le_refl _,by unfold maxLen;omega,rfl,rfl⟩⟩;have T0:=η (Turn.alloc [] w (.cells #[] 65));have HX:Hid (∀j v,l[j]?=some v→(w.alloc (.cells #[] 65)).cell? (A.add j)=some v):=η (fun j v hv=>T0.out.cell (HS.out j v hv));go_wp2_with(at_builtin;refine wpList_append_own_at (w.alloc (.cells #[] 65)) rfl (.tmp 5) (.tmp 6) 25 rfl w.heap.size 65 i0 _ 2 32 Tryz.underlying25 HI.out hz0 hz1 hz2 rfl (by decide) (.slice (some ⟨w.heap.size,0,none⟩) 0 0) 0 [] rfl O0.out A m c l rfl HL.out HX.out H1.out (by unfold maxLen;omega) (by omega) (by simp) ?_)
  all_goals
   intro v' w' o1 o2 _ o4
   try rw[List.nil_append,Nat.zero_add]at o1
   have hform:∃ao' c',v'=.slice ao' m c':=by
    rcases o1.2 with⟨hv,h0⟩ | ⟨g,cap,cur,hv,_⟩
    · exact⟨none,0,by rw[hv,h0]⟩
    · exact⟨_,_,hv⟩
   obtain⟨ao',c',rfl⟩:=hform;have O1:=η o1;have T2:=η (T0.out.trans (Turn.grown (l:=[w.heap.size]) o2 (fun k hk=>.inl (by simp[Value.ownBlock]at hk;simp[hk]))) (fun i hi=>.inr (by simp at hi;omega)));clear o1 o2 o4;go_wp2_with fail;go_ret;exact⟨_,_,rfl,O1.out,T2.out⟩
theorem Tryz.crowPut:(Tryz.prog.info? 45).map (fun i=>(i.zero,i.size,i.bytes))=some (some (.agg #[.string ⟨#[]⟩,.string ⟨#[]⟩]),2,32):=by kernel_rfl
theorem clonePut_calls {w:World} {ao:Option Addr} {c:Nat} {l:List Value} {m:Nat} (hl:l.length=m*2) (hnil:ao=none→m=0∧c=0) (hsrc:∀A,ao=some A→∀j v,l[j]?=some v→w.cell? (A.add j)=some v) (h1:∀v∈l,v.oneCell'=true) (hfew:m≤1000000):
 Calls Tryz.prog 145 #[.slice ao m c] w fun e w'=>∃ao' c',e=.returned (.slice ao' m c')∧w'.ownsRow w.heap.size 45 2 (.slice ao' m c') m l∧Turn [] w w':=by
 cases ao with
 | none=>
  obtain⟨rfl,rfl⟩:=hnil rfl;have hl0:l=[]:=List.eq_nil_of_length_eq_zero (by omega);subst hl0;clear hsrc hnil h1 hl hfew;have q:(binOp .eql 35 (.slice none 0 0) (.slice none 0 0)).run Tryz.prog w=.ok (.bool true) w:=Lib.run_eql_slice_nil w _ _ none 0 0 0 0 Tryz.underlying35;go_in;go_wp2_with fail;go_ret;exact⟨none,0,rfl,World.ownsRow_nil _ _ _ _,Turn.refl _ _⟩
 | some A=>
  have q:(binOp .eql 35 (.slice (some A) m c) (.slice none 0 0)).run Tryz.prog w=.ok (.bool false) w:=Lib.run_eql_slice_nil w _ _ (some A) m c 0 0 Tryz.underlying35;obtain⟨i0,hi,hz0,hz1,hz2⟩:=info_parts Tryz.crowPut;have HI:=η hi;have HL:=η hl;have H1:=η h1;have HS:=η (hsrc A rfl);clear hsrc hnil h1 hl hi;go_in;have O0:Hid ((w.alloc (.cells #[] 45)).ownsRow w.heap.size 45 2 (.slice (some ⟨w.heap.size,0,none⟩) 0 0) 0 []):=η ⟨rfl,.inr ⟨w.heap.size,0,#[],rfl,Nat.le_refl _,heap_alloc_new w _,Nat.le_refl _,by unfold maxLen;omega,rfl,rfl⟩⟩;have T0:=η (Turn.alloc [] w (.cells #[] 45));have HX:Hid (∀j v,l[j]?=some v→(w.alloc (.cells #[] 45)).cell? (A.add j)=some v):=η (fun j v hv=>T0.out.cell (HS.out j v hv));go_wp2_with(at_builtin;refine wpList_append_own_at (w.alloc (.cells #[] 45)) rfl (.tmp 5) (.tmp 6) 35 rfl w.heap.size 45 i0 _ 2 32 Tryz.underlying35 HI.out hz0 hz1 hz2 rfl (by decide) (.slice (some ⟨w.heap.size,0,none⟩) 0 0) 0 [] rfl O0.out A m c l rfl HL.out HX.out H1.out (by unfold maxLen;omega) (by omega) (by simp) ?_)
  all_goals
   intro v' w' o1 o2 _ o4
   try rw[List.nil_append,Nat.zero_add]at o1
   have hform:∃ao' c',v'=.slice ao' m c':=by
    rcases o1.2 with⟨hv,h0⟩ | ⟨g,cap,cur,hv,_⟩
    · exact⟨none,0,by rw[hv,h0]⟩
    · exact⟨_,_,hv⟩
   obtain⟨ao',c',rfl⟩:=hform;have O1:=η o1;have T2:=η (T0.out.trans (Turn.grown (l:=[w.heap.size]) o2 (fun k hk=>.inl (by simp[Value.ownBlock]at hk;simp[hk]))) (fun i hi=>.inr (by simp at hi;omega)));clear o1 o2 o4;go_wp2_with fail;go_ret;exact⟨_,_,rfl,O1.out,T2.out⟩
theorem Tryz.crowInt:(Tryz.prog.info? 3).map (fun i=>(i.zero,i.size,i.bytes))=some (some (.int .i64 0),1,8):=by kernel_rfl
theorem cloneInt_calls {w:World} {ao:Option Addr} {c:Nat} {l:List Value} {m:Nat} (hl:l.length=m*1) (hnil:ao=none→m=0∧c=0) (hsrc:∀A,ao=some A→∀j v,l[j]?=some v→w.cell? (A.add j)=some v) (h1:∀v∈l,v.oneCell'=true) (hfew:m≤1000000):
 Calls Tryz.prog 192 #[.slice ao m c] w fun e w'=>∃ao' c',e=.returned (.slice ao' m c')∧w'.ownsRow w.heap.size 3 1 (.slice ao' m c') m l∧Turn [] w w':=by
 cases ao with
 | none=>
  obtain⟨rfl,rfl⟩:=hnil rfl;have hl0:l=[]:=List.eq_nil_of_length_eq_zero (by omega);subst hl0;clear hsrc hnil h1 hl hfew;have q:(binOp .eql 34 (.slice none 0 0) (.slice none 0 0)).run Tryz.prog w=.ok (.bool true) w:=Lib.run_eql_slice_nil w _ _ none 0 0 0 0 Tryz.underlying34;go_in;go_wp2_with fail;go_ret;exact⟨none,0,rfl,World.ownsRow_nil _ _ _ _,Turn.refl _ _⟩
 | some A=>
  have q:(binOp .eql 34 (.slice (some A) m c) (.slice none 0 0)).run Tryz.prog w=.ok (.bool false) w:=Lib.run_eql_slice_nil w _ _ (some A) m c 0 0 Tryz.underlying34;obtain⟨i0,hi,hz0,hz1,hz2⟩:=info_parts Tryz.crowInt;have HI:=η hi;have HL:=η hl;have H1:=η h1;have HS:=η (hsrc A rfl);clear hsrc hnil h1 hl hi;go_in;have O0:Hid ((w.alloc (.cells #[] 3)).ownsRow w.heap.size 3 1 (.slice (some ⟨w.heap.size,0,none⟩) 0 0) 0 []):=η ⟨rfl,.inr ⟨w.heap.size,0,#[],rfl,Nat.le_refl _,heap_alloc_new w _,Nat.le_refl _,by unfold maxLen;omega,rfl,rfl⟩⟩;have T0:=η (Turn.alloc [] w (.cells #[] 3));have HX:Hid (∀j v,l[j]?=some v→(w.alloc (.cells #[] 3)).cell? (A.add j)=some v):=η (fun j v hv=>T0.out.cell (HS.out j v hv));go_wp2_with(at_builtin;refine wpList_append_own_at (w.alloc (.cells #[] 3)) rfl (.tmp 5) (.tmp 6) 34 rfl w.heap.size 3 i0 _ 1 8 Tryz.underlying34 HI.out hz0 hz1 hz2 rfl (by decide) (.slice (some ⟨w.heap.size,0,none⟩) 0 0) 0 [] rfl O0.out A m c l rfl HL.out HX.out H1.out (by unfold maxLen;omega) (by omega) (by simp) ?_)
  all_goals
   intro v' w' o1 o2 _ o4
   try rw[List.nil_append,Nat.zero_add]at o1
   have hform:∃ao' c',v'=.slice ao' m c':=by
    rcases o1.2 with⟨hv,h0⟩ | ⟨g,cap,cur,hv,_⟩
    · exact⟨none,0,by rw[hv,h0]⟩
    · exact⟨_,_,hv⟩
   obtain⟨ao',c',rfl⟩:=hform;have O1:=η o1;have T2:=η (T0.out.trans (Turn.grown (l:=[w.heap.size]) o2 (fun k hk=>.inl (by simp[Value.ownBlock]at hk;simp[hk]))) (fun i hi=>.inr (by simp at hi;omega)));clear o1 o2 o4;go_wp2_with fail;go_ret;exact⟨_,_,rfl,O1.out,T2.out⟩
end Go.Proofs.YtkjpjfghklgdhaaGreat
