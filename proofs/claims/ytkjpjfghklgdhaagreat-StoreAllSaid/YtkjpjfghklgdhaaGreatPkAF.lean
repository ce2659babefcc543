/-
  PkAF
-/
import Derived.StillTail
import Derived.Deep.RegionHeld3
import Derived.Great.Frames
import Derived.Test.YtkjpjfghklgdhaaGreatPkAE
import Derived.Lib.Overlaps
import Derived.Lib.AppendZerosOnto
set_option maxHeartbeats 2000000
set_option maxRecDepth 100000
namespace Go.Proofs.YtkjpjfghklgdhaaGreat
open Go
section
variable {P : Program} {md : Region.Mode} {ops : Array Oper} {Q : Exit → Act → World → Prop}
theorem any_take {i k:Nat} {oi:Oper} {d:Option Tmp} {v:Value} {L:Array Bool} {a:Act} {w:World} (hi:ops[i]?=some oi) (hd:oi.dst=d) (hs:Region.noSelect ops=true) (hf:Region.free md ops L i=true)
 (hr:(Region.ready md ops L).contains i=true) (hQ:∀c a w,Q (.panic c) (a.put d v) w→Q (.panic c) a w) (hwt:Region.wanted oi (yielded ops a.tmps)=true)
 (hy:∀x,(execOp a.eval oi).run P x=.ok (.value v) x)
 (h:wpAny P md ops Q k (L.setIfInBounds i true) (a.put d v) w):wpAny P md ops Q (k+1) L a w:=by
 subst hd;exact wpAny_take hi hs hf hr hQ (.inl ⟨hwt,hy⟩) h
theorem any_tq (i:Nat) (d:Option Tmp) {k:Nat} {oi:Oper} {v:Value} {L:Array Bool} {a:Act} {w:World} (h:wpAny P md ops Q k (L.setIfInBounds i true) (a.put d v) w)
 (hi:ops[i]?=some oi:=by rfl) (hy:∀x,(execOp a.eval oi).run P x=.ok (.value v) x:=by(intro wz;go_simp;try with_reducible rfl)) (hd:oi.dst=d:=by rfl) (hs:Region.noSelect ops=true:=by kernel_rfl) (hf:Region.free md ops L i=true:=by kernel_rfl)
 (hr:(Region.ready md ops L).contains i=true:=by kernel_rfl) (hQ:∀c a w,Q (.panic c) (a.put d v) w→Q (.panic c) a w:=by exact fun _ _ _ h=>h) (hwt:Region.wanted oi (yielded ops a.tmps)=true:=by rfl):wpAny P md ops Q (k+1) L a w:=any_take hi hd hs hf hr hQ hwt hy h
theorem any_one {i k:Nat} {oi:Oper} {L:Array Bool} {a:Act} {w:World} (hr:Region.ready md ops L=[i]) (hi:ops[i]?=some oi)
 (h:∀K:Act→World→Prop,(∀b x,wpAny P md ops Q k (L.setIfInBounds i true) b x→K b x)→if Region.wanted oi (yielded ops a.tmps)=true then Oper.wp P oi a w K Q else K (a.put oi.dst undef) w):
 wpAny P md ops Q (k+1) L a w:=by
 refine⟨fun h0=>(by rw[hr]at h0;cases h0),fun j hj=>?_⟩;rw[hr]at hj;have hji:j=i:=by simpa using hj
 subst hji;exact wpOp_step hi h
theorem any_done {L:Array Bool} {a:Act} {w:World} (hr:Region.ready md ops L=[]) (h:Q .normal a w):∀k,wpAny P md ops Q k L a w
 | 0=>⟨hr,h⟩
 | _+1=>⟨fun _=>h,fun j hj=>by rw[hr]at hj;cases hj⟩
end
theorem enter_run {P:Program} {f:FuncId} {fn:Func} (hf:P.funcs[f]?=some fn) (hname:(fn.name== "runtime.NumGoroutine")=false) (hb:fn.body.isNone=false) (args:Array Value) (w:World):
 (callFunc f args).run P w=.ok (.enter f args) w:=by
 have h1:(fn.name= "runtime.NumGoroutine")=False:=by simpa using hname
 cases h2:fn.body with
 | none=>rw[h2]at hb;cases hb
 | some c=>simp[callFunc,hf,h1,h2]
theorem step_append {P:Program} {ops:Array Oper} {o:Oper} {a:Act} {w:World} {K:Act→World→Prop} {Q:Exit→Act→World→Prop} {E:Prop} (hw:Region.wanted o (yielded ops a.tmps)=true)
 (d x:Operand) (dT sT:TypeId) (hop:o.op=Op.call {callee:=Callee.builtin Builtin.append,args:=#[d,x],argTypes:=#[dT,sT]})
 (v u:Value) (hd:a.eval d=v) (hx:a.eval x=u) {v':Value} {w':World} (hr:(Builtin.append_ #[dT,sT] o.type #[v,u]).run P w=.ok v' w') (hK:K (a.put o.dst v') w'):
 if Region.wanted o (yielded ops a.tmps)=true then Oper.wp P o a w K Q else E:=by
 rw[if_pos hw];unfold Oper.wp execOp;simp only[hop,resolve,invoke,builtin,Sem.run_bind,Sem.run_pure,Result.andThen_ok,List.map_toArray,List.map_cons,List.map_nil,hd,hx,hr];exact hK
theorem step_copy {P:Program} {ops:Array Oper} {o:Oper} {a:Act} {w:World} {K:Act→World→Prop} {Q:Exit→Act→World→Prop} {E:Prop} (hw:Region.wanted o (yielded ops a.tmps)=true)
 (d x:Operand) (dT sT:TypeId) (hop:o.op=Op.call {callee:=Callee.builtin Builtin.copy,args:=#[d,x],argTypes:=#[dT,sT]})
 (v u:Value) (hd:a.eval d=v) (hx:a.eval x=u) {v':Value} {w':World} (hr:(Builtin.copy_ #[dT,sT] o.type #[v,u]).run P w=.ok v' w') (hK:K (a.put o.dst v') w'):
 if Region.wanted o (yielded ops a.tmps)=true then Oper.wp P o a w K Q else E:=by
 rw[if_pos hw];unfold Oper.wp;simp[execOp,hop,resolve,invoke,builtin,hd,hx,hr,Result.andThen];exact hK
end Go.Proofs.YtkjpjfghklgdhaaGreat
namespace Go.Proofs.YtkjpjfghklgdhaaGreat.V
open Go.RowKit
def vcells (K:List (Int×Value)):List Value:=K.flatMap fun p=>[.int .i64 p.1,p.2]
theorem vcells_length (K:List (Int×Value)):(vcells K).length=K.length*2:=by
 induction K with
 | nil=>rfl
 | cons p K ih=>simp only[vcells,List.flatMap_cons,List.length_append,List.length_cons,List.length_nil]at ih ⊢;omega
theorem vcells_at:∀(K:List (Int×Value)) (i:Nat) (h:i<K.length),(vcells K)[2*i]?=some (.int .i64 K[i].1)∧(vcells K)[2*i+1]?=some (K[i].2)
 | p::K,0,_=>⟨rfl,rfl⟩
 | p::K,i+1,h=>by
  have ih:=vcells_at K i (by simpa using h);have e:vcells (p::K)=.int .i64 p.1::p.2::vcells K:=rfl;rw[e,show 2*(i+1)=2*i+1+1 by omega,show 2*i+1+1+1=(2*i+1)+1+1 by omega];simpa using ih
theorem Turn.setRow {l:List Nat} (w:World) {g:Nat} (hg:g∈l) (cs:Array Value):Turn l w (w.setRow g cs):=by
 refine⟨rfl,rfl,rfl,by simp[World.setRow],fun k hk hn=>?_⟩;simp only[World.setRow,Array.getElem?_modify];rw[if_neg (by intro e;exact hn (by rw[←e];exact hg))]
theorem run_copy_rowN {P:Program} (w:World) (dT sT ty elem:TypeId) (g o dLen dCap:Nat) (a:Addr) (sLen sCap sz m:Nat) (cur:Array Value) (t:TypeId) (cs:List Value)
 (hu:P.underlying dT=some (.slice elem)) (hs:(P.info? elem).map (·.size)=some sz)
 (hg:w.heap[g]?=some (.cells cur t (0,0))) (hm:m=Nat.min sLen dLen) (hn:cs.length=m*sz)
 (hsrc:∀j v,cs[j]?=some v→w.cell? (a.add j)=some v) (hfit:o+cs.length≤cur.size) (h1:∀v∈cs,v.oneCell'=true):
 (Builtin.copy_ #[dT,sT] ty #[.slice (some ⟨g,o,none⟩) dLen dCap,.slice (some a) sLen sCap]).run P w=
  .ok (.int .i64 (m:Int)) (w.setRow g (cur.toList.take o++cs++cur.toList.drop (o+cs.length)).toArray):=by
 have hl:=run_loadCells_list (P:=P) w a cs hsrc;have hst:=run_storeCells_at P g o t cs 0 cur w hg (by simpa using hfit) h1;cases hq:P.info? elem with
 | none=>simp[hq]at hs
 | some i=>
  have hi:i.size=sz:=by simpa[hq]using hs
  rw[hn]at hl;simp[Builtin.copy_,run_underlying hu,Builtin.lenOf,Builtin.firstCells,sizeOf,typeInfo,hq,hi,←hm,hl,hst,goInt]
theorem vcells_append (A B:List (Int×Value)):vcells (A++B)=vcells A++vcells B:=by simp[vcells]
theorem vcells_take:∀(K:List (Int×Value)) (i:Nat),vcells (K.take i)=(vcells K).take (i*2)
 | [],i=>by simp[vcells]
 | p::K,0=>by simp[vcells]
 | p::K,i+1=>by
  have ih:=vcells_take K i;have e:vcells (p::K)=.int .i64 p.1::p.2::vcells K:=rfl;have e2:vcells (p::K.take i)=.int .i64 p.1::p.2::vcells (K.take i):=rfl;rw[List.take_succ_cons,e2,e,show(i+1)*2=i*2+1+1 by omega,List.take_succ_cons,List.take_succ_cons,ih]
theorem vcells_drop:∀(K:List (Int×Value)) (i:Nat),vcells (K.drop i)=(vcells K).drop (i*2)
 | [],i=>by simp[vcells]
 | p::K,0=>by simp
 | p::K,i+1=>by
  have ih:=vcells_drop K i;have e:vcells (p::K)=.int .i64 p.1::p.2::vcells K:=rfl;rw[List.drop_succ_cons,e,show(i+1)*2=i*2+1+1 by omega,List.drop_succ_cons,List.drop_succ_cons,ih]
def insV (K:List (Int×Value)) (i:Nat) (p:Int×Value):List (Int×Value):=K.take i++p::K.drop i
theorem insV_end (K:List (Int×Value)) (p:Int×Value):insV K K.length p=K++[p]:=by simp[insV]
theorem insV_length {K:List (Int×Value)} {i:Nat} (h:i≤K.length) (p:Int×Value):(insV K i p).length=K.length+1:=by simp[insV];omega
theorem vcells_ins (K:List (Int×Value)) (i:Nat) (p:Int×Value):vcells (insV K i p)=(vcells K).take (i*2)++[.int .i64 p.1,p.2]++(vcells K).drop (i*2):=by
 rw[insV,vcells_append,vcells_take,←vcells_drop,List.append_assoc];rfl
theorem shift_row {C L:List Value} {i n:Nat} {a b:Value} (hL:C.take (n*2)=L) (hl:L.length=n*2) (hi:i<n) (hC:(n+1)*2≤C.length) {C1 C2:List Value}
 (h1:C1=C.take ((i+1)*2)++L.drop (i*2)++C.drop ((i+1)*2+(L.drop (i*2)).length)) (h2:C2=C1.take (i*2)++[a,b]++C1.drop (i*2+2)):
 C1.length=C.length∧C2.length=C.length∧C2.take ((n+1)*2)=L.take (i*2)++[a,b]++L.drop (i*2):=by
 have hdl:(L.drop (i*2)).length=n*2-i*2:=by rw[List.length_drop,hl]
 have htl:(C.take ((i+1)*2)).length=(i+1)*2:=by rw[List.length_take];omega
 have hl1:C1.length=C.length:=by
  rw[h1];simp only[List.length_append,List.length_take,List.length_drop];omega
 have e1:C1.take (i*2)=L.take (i*2):=by
  rw[h1,List.append_assoc,List.take_append_of_le_length (by omega),List.take_take,Nat.min_eq_left (by omega),←hL,List.take_take,Nat.min_eq_left (by omega)]
 have e2:C1.drop (i*2+2)=L.drop (i*2)++C.drop ((i+1)*2+(L.drop (i*2)).length):=by
  rw[h1,List.append_assoc];exact List.drop_left' (by omega)
 have e3:C2=(L.take (i*2)++[a,b]++L.drop (i*2))++C.drop ((i+1)*2+(L.drop (i*2)).length):=by
  rw[h2,e1,e2,←List.append_assoc]
 have hl3:(L.take (i*2)++[a,b]++L.drop (i*2)).length=(n+1)*2:=by
  rw[List.length_append,List.length_append,hdl,List.length_take];simp;omega
 refine⟨hl1,?_,?_⟩
 · rw[e3,List.length_append,hl3,List.length_drop,hdl];omega
 · rw[e3,List.take_left' hl3]
theorem Turn.rows {l:List Nat} {w w1 w2:World} {g:Nat} (hg:g∈l) (t:Turn l w w1) (e:∃cs,w2=w1.setRow g cs):Turn l w w2:=by
 obtain⟨cs,rfl⟩:=e;exact t.trans (Turn.setRow w1 hg cs) (fun i hi=>.inl hi)
theorem grown_row {C L:List Value} {i n:Nat} {a b:Value} (hl:L.length=n*2) (hi:i<n) (hC:(n+1)*2≤C.length) (hL:C.take (i*2)=L.take (i*2)) {C1 C2:List Value}
 (h1:C1=C.take (i*2)++[a,b]++C.drop (i*2+2)) (h2:C2=C1.take ((i+1)*2)++L.drop (i*2)++C1.drop ((i+1)*2+(L.drop (i*2)).length)):
 C1.length=C.length∧C2.length=C.length∧C2.take ((n+1)*2)=L.take (i*2)++[a,b]++L.drop (i*2):=by
 have hdl:(L.drop (i*2)).length=n*2-i*2:=by rw[List.length_drop,hl]
 have htl:(C.take (i*2)++[a,b]).length=(i+1)*2:=by
  rw[List.length_append,List.length_take];simp;omega
 have hl1:C1.length=C.length:=by
  rw[h1];simp only[List.length_append,List.length_take,List.length_drop,List.length_cons,List.length_nil];omega
 have e1:C1.take ((i+1)*2)=L.take (i*2)++[a,b]:=by
  rw[h1,List.take_left' htl,hL]
 have hl3:(L.take (i*2)++[a,b]++L.drop (i*2)).length=(n+1)*2:=by
  rw[List.length_append,List.length_append,hdl,List.length_take];simp;omega
 rw[e1]at h2;refine⟨hl1,?_,?_⟩
 · rw[h2,List.length_append,hl3,List.length_drop,hdl];omega
 · rw[h2,List.take_left' hl3]
theorem run_append_rowN {P:Program} (w:World) (dT sT ty elem:TypeId) (g sLen sCap:Nat) (a:Addr) (xLen xCap sz:Nat) (cur:Array Value) (t:TypeId) (cs:List Value) (i0:TypeInfo)
 (hu:P.underlying dT=some (.slice elem)) (hu2:P.underlying sT=some (.slice elem)) (hi:P.info? elem=some i0) (hs:i0.size=sz)
 (hg:w.heap[g]?=some (.cells cur t (0,0))) (hn:cs.length=xLen*sz) (hroom:sLen+xLen≤sCap)
 (hsrc:∀j v,cs[j]?=some v→w.cell? (a.add j)=some v) (hfit:sLen*sz+cs.length≤cur.size) (h1:∀v∈cs,v.oneCell'=true):
 (Builtin.append_ #[dT,sT] ty #[.slice (some ⟨g,0,none⟩) sLen sCap,.slice (some a) xLen xCap]).run P w=
  .ok (.slice (some ⟨g,0,none⟩) (sLen+xLen) sCap) (w.setRow g (cur.toList.take (sLen*sz)++cs++cur.toList.drop (sLen*sz+cs.length)).toArray):=by
 have hl:=run_loadCells_list (P:=P) w a cs hsrc;have hst:=run_storeCells_at P g (sLen*sz) t cs 0 cur w hg (by simpa using hfit) h1;rw[hn]at hl;have e0:(⟨g,0,none⟩:Addr).add (sLen*sz)=⟨g,sLen*sz,none⟩:=by rw[Addr.add_lit,Nat.zero_add]
 simp[Builtin.append_,run_underlying hu,run_underlying hu2,sizeOf,typeInfo,hi,hs,Builtin.lenOf,Builtin.firstCells,hroom,hl,e0];simp at hst;rw[hst];rfl
theorem run_clear_rowN {P:Program} (w:World) (dT ty elem:TypeId) (g o n c:Nat) (cur:Array Value) (t:TypeId) (z:Value) (i0:TypeInfo)
 (hu:P.underlying dT=some (.slice elem)) (hi:P.info? elem=some i0) (hz:i0.zero=some z) (hn:0<n)
 (hg:w.heap[g]?=some (.cells cur t (0,0))) (zs:List Value) (hzs:(Builtin.zeroCells z.cells n).toList=zs) (hfit:o+zs.length≤cur.size) (h1:∀v∈zs,v.oneCell'=true):
 (Builtin.clear_ #[dT] ty #[.slice (some ⟨g,o,none⟩) n c]).run P w=
  .ok (.tuple #[]) (w.setRow g (cur.toList.take o++zs++cur.toList.drop (o+zs.length)).toArray):=by
 have hst:=run_storeCells_at P g o t zs 0 cur w hg (by simpa using hfit) h1;cases n with
 | zero=>omega
 | succ n=>
  simp[Builtin.clear_,run_underlying hu,zeroValue,typeInfo,hi,hz,hzs];simp at hst;rw[hst];rfl
def delV (K:List (Int×Value)) (i:Nat):List (Int×Value):=K.take i++K.drop (i+1)
theorem delV_length {K:List (Int×Value)} {i:Nat} (h:i<K.length):(delV K i).length=K.length-1:=by simp[delV];omega
theorem vcells_del (K:List (Int×Value)) (i:Nat):vcells (delV K i)=(vcells K).take (i*2)++(vcells K).drop ((i+1)*2):=by
 rw[delV,vcells_append,vcells_take,vcells_drop]
theorem del_row {C L:List Value} {i n:Nat} (hL:C.take (n*2)=L) (hl:L.length=n*2) (hi:i<n) {C1 C2 zs:List Value} (hz:zs.length=2)
 (hC:n*2≤C.length)
 (h1:C1=C.take (i*2)++L.drop ((i+1)*2)++C.drop (i*2+(L.drop ((i+1)*2)).length)) (h2:C2=C1.take ((n-1)*2)++zs++C1.drop ((n-1)*2+zs.length)):
 C1.length=C.length∧C2.length=C.length∧C2.take ((n-1)*2)=L.take (i*2)++L.drop ((i+1)*2):=by
 have hdl:(L.drop ((i+1)*2)).length=n*2-(i+1)*2:=by rw[List.length_drop,hl]
 have htl:(C.take (i*2)).length=i*2:=by rw[List.length_take];omega
 have e0:C.take (i*2)=L.take (i*2):=by rw[←hL,List.take_take,Nat.min_eq_left (by omega)]
 have hl1:C1.length=C.length:=by
  rw[h1];simp only[List.length_append,List.length_take,List.length_drop];omega
 have hA:(C.take (i*2)++L.drop ((i+1)*2)).length=(n-1)*2:=by rw[List.length_append,htl,hdl];omega
 have e1:C1.take ((n-1)*2)=L.take (i*2)++L.drop ((i+1)*2):=by rw[h1,List.take_left' hA,e0]
 have hA':(L.take (i*2)++L.drop ((i+1)*2)).length=(n-1)*2:=by rw[←e0];exact hA
 rw[e1]at h2;refine⟨hl1,?_,?_⟩
 · rw[h2,List.length_append,List.length_append,hA',hz,List.length_drop,hl1];omega
 · rw[h2,List.append_assoc,List.take_left' hA']
def Ones (K:List (Int×Value)):Prop:=∀p∈K,p.2.oneCell'=true
theorem vcells_one {K:List (Int×Value)} (h1:Ones K):∀v∈vcells K,v.oneCell'=true:=by
 intro v hv;obtain⟨p,hp0,hp⟩:=List.mem_flatMap.1 hv;simp at hp;rcases hp with rfl | rfl
 · rfl
 · exact h1 p hp0
theorem pairs_at {w:World} {t:TypeId} {v:Value} {K:List (Int×Value)} (h:w.ownsRow 0 t 2 v K.length (vcells K)):
 ∃ao cap,v=.slice ao K.length cap∧K.length≤cap∧cap≤maxLen∧∀i (hi:i<K.length),∃g,ao=some ⟨g,0,none⟩∧w.cell? ⟨g,i*2,none⟩=some (.int .i64 K[i].1)∧w.cell? ⟨g,i*2+1,none⟩=some K[i].2:=by
 rcases h.2 with⟨rfl,h0⟩ | ⟨g,cap,cur,rfl,_,hg,hle,hmx,hsz,htk⟩
 · exact⟨none,0,by rw[h0],by omega,by unfold maxLen;omega,fun i hi=>by omega⟩
 · refine⟨_,cap,rfl,hle,hmx,fun i hi=>⟨g,rfl,?_,?_⟩⟩
   · have h1:=(vcells_at K i hi).1;rw[←htk,List.getElem?_take_of_lt (by omega)]at h1;rw[Nat.mul_comm]at h1;simp[World.cell?,hg];simpa using h1
   · have h1:=(vcells_at K i hi).2;rw[←htk,List.getElem?_take_of_lt (by omega)]at h1;rw[Nat.mul_comm]at h1;simp[World.cell?,hg];simpa using h1
end Go.Proofs.YtkjpjfghklgdhaaGreat.V
namespace Go.Proofs.YtkjpjfghklgdhaaGreat.VE
open Go.RowKit Go.Proofs.YtkjpjfghklgdhaaGreat.V
theorem Tryz.krowVE:(Tryz.prog.info? 61).map (fun i=>(i.zero,i.size,i.bytes))=some (some (.agg #[.int .i64 0,.bool false]),2,16):=by kernel_rfl
theorem Tryz.ksizeVE:(Tryz.prog.info? 61).map (·.size)=some 2:=by kernel_rfl
theorem insert_end {w:World} {v:Value} {K:List (Int×Value)} (h:w.ownsRow 0 61 2 v K.length (vcells K)) (hfew:K.length≤2000) (p:Int×Value) (hp1:p.2.oneCell'=true) {tb:Nat}
 (hx:w.cell? ⟨tb,0,none⟩=some (.int .i64 p.1)) (hy:w.cell? ⟨tb,1,none⟩=some (p.2)):
 Calls Tryz.prog 253 #[v,.int .i64 (K.length:Int),.slice (some ⟨tb,0,none⟩) 1 1] w fun e w'=>
  ∃v',e=.returned v'∧w'.ownsRow 0 61 2 v' (K.length+1) (vcells (insV K K.length p))∧(v'.ownBlock=v.ownBlock∨v'.ownBlock=some w.heap.size)∧Turn v.ownBlock.toList w w':=by
 obtain⟨i0,hi,hz0,hz1,hz2⟩:=info_parts Tryz.krowVE;have HR:=η h;obtain⟨n,hn⟩:=ε K.length;have HN:=η hn;have HI:=η hi
 have HX:Hid (∀j u,[Value.int .i64 p.1,p.2][j]?=some u→w.cell? ((⟨tb,0,none⟩:Addr).add j)=some u):=η (fun j u hj=>by
  match j,hj with
  | 0,hj=>simp at hj;rw[←hj,Addr.add_lit];exact hx
  | 1,hj=>simp at hj;rw[←hj,Addr.add_lit];exact hy
  | j+2,hj=>simp at hj)
 have HO:Hid (∀u∈[Value.int .i64 p.1,p.2],u.oneCell'=true):=η (by intro u hu;simp at hu;rcases hu with rfl | rfl<;>first | rfl | exact hp1);have hvs:∃ao cap,v=.slice ao K.length cap∧K.length≤cap∧cap≤maxLen:=by
  rcases h.2 with⟨rfl,h0⟩ | ⟨g,cap,cur,rfl,_,_,hle,hmx,_⟩
  · exact⟨none,0,by rw[h0],by omega,by unfold maxLen;omega⟩
  · exact⟨_,cap,rfl,hle,hmx⟩
 obtain⟨ao,cap,rfl,hle,hmx⟩:=hvs;unfold maxLen at hmx;rw[←hn]at hle hfew ⊢;obtain⟨ob,hob⟩:=ε ((Value.slice ao n cap).ownBlock);have HE:=η (show ∀c',(Value.slice ao n c').ownBlock=ob from fun _=>by rw[hob];cases ao<;>rfl);rw[←hob];clear h hn hi hx hy hob;go_in;go_wp2_with(at_builtin;refine wpList_append_own_at w rfl (.tmp 23) (.tmp 24) 24 rfl 0 61 i0 _ 2 16 Tryz.underlying24 HI.out hz0 hz1 hz2 rfl (by decide) (.slice ao n cap) n (vcells K) rfl (by rw[HN.out];exact HR.out) ⟨tb,0,none⟩ 1 1 [.int .i64 p.1,p.2] rfl rfl HX.out HO.out (by unfold maxLen;omega) (by omega) (Nat.zero_le _) ?_)
 all_goals
  intro v' w' h1 h2 _ h4;rw[HE.out]at h2 h4;have H1:Hid (w'.ownsRow 0 61 2 v' (n+1) (vcells (insV K n p))):=η (by rw[HN.out,insV_end,vcells_append,←HN.out];exact h1);have H2:=η (Turn.grown h2 (fun k hk=>.inl (Option.mem_toList.2 hk)));have H4:=η h4;clear h1 h2 h4;go_wp2;go_ret;exact⟨v',rfl,H1.out,H4.out,H2.out⟩
theorem insert_shift {w:World} {g cap:Nat} {cur:Array Value} {K:List (Int×Value)} (hg:w.heap[g]?=some (.cells cur 61 (0,0))) (hsz:cur.size=cap*2) (htk:cur.toList.take (K.length*2)=vcells K) (hfew:K.length≤2000) (hmx:cap≤maxLen) {i:Nat} (hi:i<K.length) (hroom:K.length+1≤cap) (p:Int×Value) (hp1:p.2.oneCell'=true) (hO:Ones K) {tb:Nat}
 (ht:w.heap[tb]?=some (.cells #[.int .i64 p.1,p.2] 61)) (hne:tb≠g):
 Calls Tryz.prog 253 #[.slice (some ⟨g,0,none⟩) K.length cap,.int .i64 (i:Int),.slice (some ⟨tb,0,none⟩) 1 1] w fun e w'=>
  e=.returned (.slice (some ⟨g,0,none⟩) (K.length+1) cap)∧w'.ownsRow 0 61 2 (.slice (some ⟨g,0,none⟩) (K.length+1) cap) (K.length+1) (vcells (insV K i p))∧Turn [g] w w':=by
 obtain⟨n,hn⟩:=ε K.length;have hkl:=vcells_length K;unfold maxLen at hmx;have hov:∀lb cb,(callFunc 261 #[.slice (some ⟨tb,0,none⟩) 1 1,.slice (some ⟨g,(i+1)*2,none⟩) lb cb]).run Tryz.prog w=.ok (.value (.bool false)) w:=fun lb cb=>by
  have hsa:w.shape? tb=some (61,2):=by simp[World.shape?,ht]
  have hsb:w.shape? g=some (61,cap*2):=by simp[World.shape?,hg,hsz]
  rw[run_callFunc_extern Tryz.func261 (by kernel_rfl) (by kernel_rfl) (by kernel_rfl) (e:=Extern.SlicesOverlaps.overlaps #[24,24] #[4]) (by kernel_rfl),
   Lib.run_overlaps_apart w 24 4 61 Tryz.underlying24 2 (fun _=>by kernel_rfl) ⟨tb,0,none⟩ ⟨g,(i+1)*2,none⟩ 1 1 lb cb hne _ _ 2 (cap*2) hsa hsb (by omega) (by simp[World.frozen?,ht]) (by simp[World.frozen?,ht])]
  rfl
 have HN:=η hn;rw[←hn]at hi hroom hfew htk hkl ⊢;clear hn;go_in;have hb3:(i:Int)≤(n:Int):=by omega
 have hz2:((i:Int)==(n:Int))=false:=by simp;omega
 have hz3:¬(cap:Int)<(n:Int)+1:=by omega
 have hw1:IntKind.i64.wrap ((i:Int)+1)=(i:Int)+1:=by rw[IntKind.wrap_i64];omega
 have htn:((i:Int)+1).toNat=i+1:=by omega
 have hb1:(0:Int)≤(i:Int)+1:=by omega
 have hin:i≤n:=by omega
 have hb5:(i:Int)≤(n:Int)+1:=by omega
 have hb2:¬cap=i+1:=by omega
 have hb4:¬cap=i:=by omega
 go_wp2_with fail;refine wp_region_any (by kernel_rfl) ?_;refine any_tq 0 (some 69) ?_;simp only[Act.put,σa,σz,σs];refine any_tq 1 (some 70) ?_;simp only[Act.put,σa,σz,σs];refine any_tq 2 (some 71) ?_;simp only[Act.put,σa,σz,σs];refine any_tq 3 (some 72) ?_;simp only[Act.put,σa,σz,σs];refine any_take (i:=4) (d:=some 73) (v:=.slice (some ⟨g,(i+1)*2,none⟩) (n-i) (cap-(i+1))) rfl (by rfl) (by kernel_rfl) (by kernel_rfl) (by kernel_rfl) (fun _ _ _ h=>h) (by rfl) ?_ ?_
 · intro wz;go_simp
 simp only[Act.put,σa,σz,σs];refine any_tq 5 (some 74) ?_;simp only[Act.put,σa,σz,σs];refine any_tq 6 (some 75) ?_;simp only[Act.put,σa,σz,σs];refine any_take (i:=7) (d:=some 76) (v:=.slice (some ⟨g,i*2,none⟩) (n+1-i) (cap-i)) rfl (by rfl) (by kernel_rfl) (by kernel_rfl) (by kernel_rfl) (fun _ _ _ h=>h) (by rfl) ?_ ?_
 · intro wz;go_simp
 simp only[Act.put,σa,σz,σs];obtain⟨L,hL⟩:=ε (vcells K);rw[←hL]at htk hkl;obtain⟨C1,hC1⟩:=ε (cur.toList.take ((i+1)*2)++L.drop (i*2)++cur.toList.drop ((i+1)*2+(L.drop (i*2)).length));obtain⟨C2,hC2⟩:=ε (C1.take (i*2)++[.int .i64 p.1,p.2]++C1.drop (i*2+2));obtain⟨hl1,hl2,htk2⟩:=shift_row htk hkl hi (by rw[Array.length_toList];omega) hC1 hC2;have hg0:w.drew.heap[g]?=some (.cells cur 61 (0,0)):=hg;have hdl:(L.drop (i*2)).length=(n-i)*2:=by rw[List.length_drop,hkl];omega
 have hcp1:=run_copy_rowN (P:=Tryz.prog) w.drew 24 24 3 61 g ((i+1)*2) (n-i) (cap-(i+1)) ⟨g,i*2,none⟩ (n+1-i) (cap-i) 2 (n-i) cur _ (L.drop (i*2)) Tryz.underlying24 Tryz.ksizeVE hg0
  (by simp only[Nat.min_def];split<;>omega) hdl
  (fun j v hj=>by
   rw[Addr.add_lit,cell_of_row _ _ _ _ _ _ hg0];rw[List.getElem?_drop,←htk]at hj;have h9:i*2+j<n*2:=by
    rcases Nat.lt_or_ge (i*2+j) (n*2)with h | h
    · exact h
    · rw[List.getElem?_eq_none (by rw[List.length_take];omega)]at hj;cases hj
   rw[List.getElem?_take_of_lt h9]at hj
   simpa using hj)
  (by rw[hdl,hsz];omega) (fun v hv=>vcells_one hO v (by rw[←hL];exact List.mem_of_mem_drop hv))
 rw[←hC1]at hcp1;obtain⟨W1,hW1⟩:=ε (w.drew.setRow g C1.toArray);rw[←hW1]at hcp1;have hg1:W1.heap[g]?=some (.cells C1.toArray 61 (0,0)):=by rw[hW1];exact setRow_heap _ _ _ _ _ _ hg0
 have t1:Turn [g] w W1:=Turn.rows (by simp) (Turn.drew _ w) ⟨_,hW1⟩;have ht1:=t1.heap ht (by simpa using hne);have hcp2:=run_copy_rowN (P:=Tryz.prog) W1 24 24 3 61 g (i*2) (n+1-i) (cap-i) ⟨tb,0,none⟩ 1 1 2 1 C1.toArray _ [.int .i64 p.1,p.2] Tryz.underlying24 Tryz.ksizeVE hg1
  (by simp only[Nat.min_def];split<;>omega) rfl
  (fun j v hj=>by
   rw[Addr.add_lit,cell_of_row _ _ _ _ _ _ ht1]
   match j,hj with
   | 0,hj=>simpa using hj
   | 1,hj=>simpa using hj
   | j+2,hj=>simp at hj)
  (by simp[hl1,hsz];omega) (by intro u hu;simp at hu;rcases hu with rfl | rfl<;>first | rfl | exact hp1)
 have e2:(C1.toArray.toList.take (i*2)++[.int .i64 p.1,p.2]++C1.toArray.toList.drop (i*2+[Value.int .i64 p.1,p.2].length))=C2:=by rw[hC2];rfl
 rw[e2]at hcp2;obtain⟨W2,hW2⟩:=ε (W1.setRow g C2.toArray);rw[←hW2]at hcp2;have HCP2:=η hcp2;have T2:=η (Turn.rows (g:=g) (by simp) t1 ⟨_,hW2⟩)
 have R2:Hid (W2.ownsRow 0 61 2 (.slice (some ⟨g,0,none⟩) (n+1) cap) (n+1) (vcells (insV K i p))):=η (by
  refine⟨by rw[vcells_length,insV_length (by rw[←HN.out];omega),HN.out],.inr ⟨g,cap,C2.toArray,rfl,Nat.zero_le _,by rw[hW2];exact setRow_heap _ _ _ _ _ _ hg1,hroom,by unfold maxLen;omega,by simp[hl2,hsz],?_⟩⟩;rw[vcells_ins,←hL]
  exact htk2)
 refine any_one (i:=8) (by kernel_rfl) (by rfl) (fun KK hKK=>?_);refine step_copy (by rfl) (.tmp 73) (.tmp 76) 24 24 rfl _ _ rfl rfl hcp1 ?_;refine hKK _ _ ?_;show wpAny _ _ _ _ _ _ (Act.put _ (some 77) _) _;simp only[Act.put,σa,σz,σs];refine any_done (by kernel_rfl) ?_ _;clear hcp1 hcp2 hg0 hg1 hC1 hC2 hl1 hl2 htk2 t1 ht1 hW1 hW2 hdl e2 hg ht hsz htk hkl hL;go_wp2_with fail;rw[HCP2.out];go_wp2;go_ret;exact⟨rfl,R2.out,T2.out⟩
theorem insert_grow {w:World} {g cap:Nat} {cur:Array Value} {K:List (Int×Value)} (hg:w.heap[g]?=some (.cells cur 61 (0,0))) (htk:cur.toList.take (K.length*2)=vcells K) (hfew:K.length≤2000) {i:Nat} (hi:i<K.length) (hle:K.length≤cap) (hroom:cap<K.length+1) (p:Int×Value) (hp1:p.2.oneCell'=true) (hO:Ones K) {tb:Nat}
 (ht:w.heap[tb]?=some (.cells #[.int .i64 p.1,p.2] 61)):
 Calls Tryz.prog 253 #[.slice (some ⟨g,0,none⟩) K.length cap,.int .i64 (i:Int),.slice (some ⟨tb,0,none⟩) 1 1] w fun e w'=>
  ∃G,e=.returned (.slice (some ⟨w.heap.size,0,none⟩) (K.length+1) G)∧w'.ownsRow 0 61 2 (.slice (some ⟨w.heap.size,0,none⟩) (K.length+1) G) (K.length+1) (vcells (insV K i p))∧Turn [] w w':=by
 obtain⟨n,hn⟩:=ε K.length;have hkl:=vcells_length K;have HN:=η hn;obtain⟨L,hL⟩:=ε (vcells K);rw[←hL]at htk hkl;rw[←hn]at hi hroom hle hfew htk hkl ⊢;clear hn;obtain⟨i0,hi0,hz0,hz1,hz2⟩:=info_parts Tryz.krowVE;have hgw:g<w.heap.size:=lt_of_heap hg;have htw:tb<w.heap.size:=lt_of_heap ht;have hold:(Builtin.firstCells i0.size i (.slice (some ⟨g,0,none⟩) i cap)).run Tryz.prog w.drew=.ok (L.take (i*2)).toArray w.drew:=by
  rw[hz1]
  exact run_firstCells_some w.drew 2 i ⟨g,0,none⟩ i cap (L.take (i*2)) (by rw[List.length_take];omega) (fun j v hj=>by
   have hg0:w.drew.heap[g]?=some (.cells cur 61 (0,0)):=hg;rw[Addr.add_lit,Nat.zero_add,cell_of_row _ _ _ _ _ _ hg0];rw[←htk,List.take_take,Nat.min_eq_left (by omega)]at hj;have h9:j<i*2:=by
    rcases Nat.lt_or_ge j (i*2)with h | h
    · exact h
    · rw[List.getElem?_eq_none (by rw[List.length_take];omega)]at hj;cases hj
   rw[List.getElem?_take_of_lt h9]at hj
   simpa using hj)
 obtain⟨q,hq⟩:=ε w.heap.size;have hrz:=Lib.run_append_grow_zeros w 24 3 24 61 i0 _ .i64 .i64 Tryz.underlying24 Tryz.underlying3 hi0 hz0 (some ⟨g,0,none⟩) i cap (L.take (i*2)) hold (n+1-i) (by omega) (by omega) (by omega) (by omega) (by rw[hz2];omega) (by rw[hz2];exact growslice_fits (by omega) (by omega));rw[show i+(n+1-i)=n+1 by omega,←hq]at hrz;obtain⟨G,hG⟩:=ε (grownCap w (n+1) cap 61);have hGn:n+1≤G:=by rw[hG];exact grownCap_ge w _ _ _
 have hG63:G≤maxLen:=by rw[hG];exact grownCap_le_maxLen w (n+1) cap 61 (by unfold maxLen;omega)
 rw[←hG]at hrz;obtain⟨ROW,hROW⟩:∃ROW:Array Value,ROW=(L.take (i*2)).toArray++Builtin.zeroCells (Value.agg #[.int .i64 0,.bool false]).cells (n+1-i)++Builtin.zeroCells (Value.agg #[.int .i64 0,.bool false]).cells (G-(n+1)):=⟨_,rfl⟩
 rw[←hROW]at hrz;have hRs:ROW.size=G*2:=by
  rw[hROW];simp[Builtin.zeroCells,Value.cells];omega
 have hRt:ROW.toList.take (i*2)=L.take (i*2):=by
  rw[hROW];simp only[Array.toList_append,List.append_assoc];exact List.take_left' (by rw[List.length_take];omega)
 obtain⟨C1,hC1⟩:=ε (ROW.toList.take (i*2)++[.int .i64 p.1,p.2]++ROW.toList.drop (i*2+2));obtain⟨C2,hC2⟩:=ε (C1.take ((i+1)*2)++L.drop (i*2)++C1.drop ((i+1)*2+(L.drop (i*2)).length));obtain⟨hl1,hl2,htk2⟩:=grown_row hkl hi (by rw[Array.length_toList,hRs];omega) hRt hC1 hC2;have hRl:ROW.toList.length=G*2:=by rw[Array.length_toList];exact hRs
 rw[hRl]at hl1 hl2;clear hRl;obtain⟨W1,hW1⟩:=ε (w.drew.alloc (.cells ROW 61));rw[←hW1]at hrz;have t1:Turn [] w W1:=by rw[hW1];exact(Turn.drew [] w).trans (Turn.alloc [] _ _)
 have hg1:W1.heap[q]?=some (.cells ROW 61 (0,0)):=by rw[hW1,hq];exact heap_alloc_new w.drew _
 have hcp1:=run_copy_rowN (P:=Tryz.prog) W1 24 24 3 61 q (i*2) (n+1-i) (G-i) ⟨tb,0,none⟩ 1 1 2 1 ROW _ [.int .i64 p.1,p.2] Tryz.underlying24 Tryz.ksizeVE hg1
  (by simp only[Nat.min_def];split<;>omega) rfl
  (fun j v hj=>by
   rw[Addr.add_lit,cell_of_row _ _ _ _ _ _ (t1.heap ht)]
   match j,hj with
   | 0,hj=>simpa using hj
   | 1,hj=>simpa using hj
   | j+2,hj=>simp at hj)
  (by simp[hRs];omega) (by intro u hu;simp at hu;rcases hu with rfl | rfl<;>first | rfl | exact hp1)
 have e1:(ROW.toList.take (i*2)++[.int .i64 p.1,p.2]++ROW.toList.drop (i*2+[Value.int .i64 p.1,p.2].length))=C1:=by rw[hC1];rfl
 rw[e1]at hcp1;obtain⟨W2,hW2⟩:=ε (W1.setRow q C1.toArray);rw[←hW2]at hcp1;have hg2:W2.heap[q]?=some (.cells C1.toArray 61 (0,0)):=by rw[hW2];exact setRow_heap _ _ _ _ _ _ hg1
 have t2:Turn [q] w W2:=Turn.rows (by simp) (t1.mono (by simp)) ⟨_,hW2⟩;have hdl:(L.drop (i*2)).length=(n-i)*2:=by rw[List.length_drop,hkl];omega
 have hgo:=t2.heap hg (by simp;omega);have hcp2:=run_copy_rowN (P:=Tryz.prog) W2.drew 24 24 3 61 q ((i+1)*2) (n-i) (G-(i+1)) ⟨g,i*2,none⟩ (n-i) (cap-i) 2 (n-i) C1.toArray _ (L.drop (i*2)) Tryz.underlying24 Tryz.ksizeVE hg2
  (by simp) hdl
  (fun j v hj=>by
   have hgo':W2.drew.heap[g]?=some (.cells cur 61 (0,0)):=hgo;rw[Addr.add_lit,cell_of_row _ _ _ _ _ _ hgo'];rw[List.getElem?_drop,←htk]at hj;have h9:i*2+j<n*2:=by
    rcases Nat.lt_or_ge (i*2+j) (n*2)with h | h
    · exact h
    · rw[List.getElem?_eq_none (by rw[List.length_take];omega)]at hj;cases hj
   rw[List.getElem?_take_of_lt h9]at hj
   simpa using hj)
  (by rw[hdl];simp[hl1];omega) (fun v hv=>vcells_one hO v (by rw[←hL];exact List.mem_of_mem_drop hv))
 rw[show C1.toArray.toList=C1 from rfl,←hC2]at hcp2;obtain⟨W3,hW3⟩:=ε (W2.drew.setRow q C2.toArray);rw[←hW3]at hcp2;have HRZ:=η hrz;have HCP1:=η hcp1;have HCP2:=η hcp2;have T3:Hid (Turn [] w W3):=η ((Turn.rows (g:=q) (by simp) (t2.trans (Turn.drew [q] W2) (fun i hi=>.inl hi)) ⟨_,hW3⟩).mono (fun k hk=>.inr (by rw[List.mem_singleton.1 hk,hq];exact Nat.le_refl _)))
 have R3:Hid (W3.ownsRow 0 61 2 (.slice (some ⟨q,0,none⟩) (n+1) G) (n+1) (vcells (insV K i p))):=η (by
  refine⟨by rw[vcells_length,insV_length (by rw[←HN.out];omega),HN.out],.inr ⟨q,G,C2.toArray,rfl,Nat.zero_le _,by rw[hW3];exact setRow_heap W2.drew _ _ _ _ _ hg2,hGn,hG63,by simp[hl2],?_⟩⟩;rw[vcells_ins,←hL]
  exact htk2)
 rw[←hq];unfold maxLen at hG63;clear hrz hcp1 hcp2 hg1 hg2 hC1 hC2 hl1 hl2 htk2 t1 t2 hW1 hW2 hW3 hdl e1 hg ht htk hkl hL hold hROW hRs hRt hgo hG hq hi0 hz0 hz1 hz2;go_in;have hb3:(i:Int)≤(n:Int):=by omega
 have hz2:((i:Int)==(n:Int))=false:=by simp;omega
 have hz3:(cap:Int)<(n:Int)+1:=by omega
 have hw1:IntKind.i64.wrap ((i:Int)+1)=(i:Int)+1:=by rw[IntKind.wrap_i64];omega
 have htn:((i:Int)+1).toNat=i+1:=by omega
 have hb1:(0:Int)≤(i:Int)+1:=by omega
 have hin:i≤n:=by omega
 have hb5:(i:Int)≤(n:Int)+1:=by omega
 have hb4:¬cap=i:=by omega
 have hb6:¬G=i:=by omega
 have hb7:¬G=i+1:=by omega
 have hkk:(n:Int)+1-(i:Int)=((n+1-i:Nat):Int):=by omega
 go_wp2_with(at_builtin;refine Lib.wpList_append_run w rfl (.tmp 34) (.tmp 39) 24 3 rfl _ _ rfl rfl _ _ HRZ.out ?_);rw[HCP1.out];go_wp2_with fail;refine wp_region_any (by kernel_rfl) ?_;refine any_tq 0 (some 46) ?_;simp only[Act.put,σa,σz,σs];refine any_tq 1 (some 47) ?_;simp only[Act.put,σa,σz,σs];refine any_tq 2 (some 48) ?_;simp only[Act.put,σa,σz,σs];refine any_tq 3 (some 49) ?_;simp only[Act.put,σa,σz,σs];refine any_take (i:=4) (d:=some 50) (v:=.slice (some ⟨q,(i+1)*2,none⟩) (n-i) (G-(i+1))) rfl (by rfl) (by kernel_rfl) (by kernel_rfl) (by kernel_rfl) (fun _ _ _ h=>h) (by rfl) ?_ ?_
 · intro wz;go_simp
 simp only[Act.put,σa,σz,σs];refine any_tq 5 (some 51) ?_;simp only[Act.put,σa,σz,σs];refine any_tq 6 (some 52) ?_;simp only[Act.put,σa,σz,σs];refine any_take (i:=7) (d:=some 53) (v:=.slice (some ⟨g,i*2,none⟩) (n-i) (cap-i)) rfl (by rfl) (by kernel_rfl) (by kernel_rfl) (by kernel_rfl) (fun _ _ _ h=>h) (by rfl) ?_ ?_
 · intro wz;go_simp
 simp only[Act.put,σa,σz,σs];refine any_one (i:=8) (by kernel_rfl) (by rfl) (fun KK hKK=>?_);refine step_copy (by rfl) (.tmp 50) (.tmp 53) 24 24 rfl _ _ rfl rfl HCP2.out ?_;refine hKK _ _ ?_;show wpAny _ _ _ _ _ _ (Act.put _ (some 54) _) _;simp only[Act.put,σa,σz,σs];refine any_done (by kernel_rfl) ?_ _;go_wp2;go_ret;exact⟨G,rfl,R3.out,T3.out⟩
theorem insert_calls {w:World} {v:Value} {K:List (Int×Value)} (h:w.ownsRow 0 61 2 v K.length (vcells K)) (hfew:K.length≤2000) {i:Nat} (hi:i≤K.length) (p:Int×Value) (hp1:p.2.oneCell'=true) (hO:Ones K) {tb:Nat}
 (ht:w.heap[tb]?=some (.cells #[.int .i64 p.1,p.2] 61)) (hne:v.ownBlock≠some tb):
 Calls Tryz.prog 253 #[v,.int .i64 (i:Int),.slice (some ⟨tb,0,none⟩) 1 1] w fun e w'=>
  ∃v',e=.returned v'∧w'.ownsRow 0 61 2 v' (K.length+1) (vcells (insV K i p))∧(v'.ownBlock=v.ownBlock∨v'.ownBlock=some w.heap.size)∧Turn v.ownBlock.toList w w':=by
 by_cases hin:i=K.length
 · subst hin;exact insert_end h hfew p hp1 (by rw[cell_of_row _ _ _ _ _ _ ht];rfl) (by rw[cell_of_row _ _ _ _ _ _ ht];rfl)
 · rcases h.2 with⟨rfl,h0⟩ | ⟨g,cap,cur,rfl,_,hg,hle,hmx,hsz,htk⟩
   · omega
   · by_cases hroom:K.length+1≤cap
     · refine(insert_shift hg hsz htk hfew hmx (by omega) hroom p hp1 hO ht (fun e=>hne (by rw[e];rfl))).mono ?_;rintro e w' ⟨rfl,hr,t⟩;exact⟨_,rfl,hr,.inl rfl,t⟩
     · refine(insert_grow hg htk hfew (by omega) hle (by omega) p hp1 hO ht).mono ?_;rintro e w' ⟨G,rfl,hr,t⟩;exact⟨_,rfl,hr,.inr rfl,t.mono (by simp)⟩
end Go.Proofs.YtkjpjfghklgdhaaGreat.VE
