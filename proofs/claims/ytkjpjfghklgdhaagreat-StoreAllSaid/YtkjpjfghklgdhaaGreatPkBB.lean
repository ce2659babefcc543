/-
  PkBB
-/
import Derived.Test.YtkjpjfghklgdhaaGreatPkBA
set_option maxHeartbeats 4000000
set_option maxRecDepth 100000
namespace Go.Proofs.YtkjpjfghklgdhaaGreat
open Go.RowKit Go.Proofs.YtkjpjfghklgdhaaGreat.V
theorem readWait_calls (b:Nat) (x:BrV) (r:List UInt8) {w:World} (h:InIs w b (waitB x++r) false) (hrec:recB (waitR x)=true) (hlen:(recBytes (waitR x)).length<65536):
 Calls Tryz.prog 98 #[.pointer (some ⟨b,0,none⟩)] w fun e w'=>∃ao c,e=.returned (.agg #[.int .i64 x.tid,.slice ao x.puts.length c])∧Ps w' ao c x.puts∧(x.puts≠[]→∀A,ao=some A→w.heap.size≤A.block∧A.block<w'.heap.size)∧InIs w' b r false∧Turn [b] w w':=by
 have h0:InIs w b (textB ⟨(recBytes (waitR x)).toArray⟩++r) false:=h;have HLT:=η h.lt;have i0:=h0.turn (Turn.alloc [] w (.cells #[.int .i64 0,.slice none 0 0] 81)) (by simp);have HB:Hid (∀wx,Turn [b] (w.alloc (.cells #[.int .i64 0,.slice none 0 0] 81)) wx→wx.heap[w.heap.size]?=some (.cells #[.int .i64 0,.slice none 0 0] 81)):=η (fun wx tt=>tt.heap (heap_alloc_new w _) (by have:=HLT.out;simp;omega));have T0:=η (Turn.alloc [] w (.cells #[.int .i64 0,.slice none 0 0] 81));have I0:=η i0;have U0:=η (Turn.refl [b] (w.alloc (.cells #[.int .i64 0,.slice none 0 0] 81)));have HR:=η hrec;have HINJ:Hid (∀y:RecV,recB y=true→recBytes y=recBytes (waitR x)→y=waitR x):=η (fun y hy e=>recBytes_inj hy hrec e);have hconv:=fun(wx:World) (y:ByteArray)=>run_bytes_of_string (P:=Tryz.prog) wx 9 52 5 y Tryz.underlying9 Tryz.underlying52 Tryz.underlying5
 have HS:Hid ((⟨(recBytes (waitR x)).toArray⟩:ByteArray).size<65536):=η (by simpa[ByteArray.size]using hlen);have HDT:Hid ((⟨(recBytes (waitR x)).toArray⟩:ByteArray).data.toList=recBytes (waitR x)):=η (by simp);obtain⟨R,hR⟩:=ε (recBytes (waitR x));rw[←hR]at HINJ HDT hlen;obtain⟨tx,htx⟩:=ε ((⟨(recBytes (waitR x)).toArray⟩:ByteArray));rw[←htx]at I0 HS;rw[←hR]at htx;rw[←htx]at HDT;have HRB:=η hR;clear h h0 i0 hR htx hrec;go_in;go_wp2_with fail;refine(text_at b _ _ _ I0.out HS.out).mono ?_;rintro e x1 ⟨rfl,i1,t1⟩;have I1:=η i1;have U1:=η (U0.out.trans t1 (fun i hi=>.inl hi));clear i1 t1;go_wp2_with fail;have hcap:=grownCap_ge x1 tx.size 0 5;have hmax:=grownCap_le_maxLen x1 tx.size 0 5 (by have:=HS.out;unfold maxLen;omega);have sl:=Sl.bytes x1 tx _ 5 ((bytesRow tx (grownCap x1 tx.size 0 5)).size,(bytesRow tx (grownCap x1 tx.size 0 5)).size+1) (by omega) hmax;rw[HDT.out]at sl;have hsz:tx.size=R.length:=by rw[←HDT.out,Array.length_toList];rfl
 have CD:=η (decode_calls R _ _ _ sl);rw[←hsz]at CD;have TA:Hid (∀o,Turn [] x1 (x1.alloc o).drew):=η (fun o=>(Turn.alloc [] x1 o).trans (Turn.drew [] _));have HSX:Hid (∀o,(x1.alloc o).drew.heap.size=x1.heap.size+1):=η (fun o=>by show(x1.alloc o).heap.size=_;simp);clear sl hcap hmax hsz hconv;refine CD.out.mono ?_;rintro e x2 ⟨y,ap,cp,aq,cq,err,rfl,hp,hq,-,fp,fq,t2,hx⟩;clear CD;rcases hx with⟨rfl,hr,hby⟩ | ⟨-,-,hno⟩
 · have hyx:=HINJ.out y hr hby;subst hyx;have T2:=η ((TA.out _).trans t2);have I2:=η (I1.out.turn T2.out (by simp));have U2:=η (U1.out.trans T2.out);have T3:=η (Turn.alloc [] x2 (.cells ((waitR x).cells ap cp aq cq) 37));have HQ:=η (hq.turn T3.out)
   have HFR:Hid (∀A,aq=some A→w.heap.size<A.block):=η (fun A hA=>by
    have h1:=fq A hA;rw[HSX.out]at h1;have h2:=lt_of_heap (HB.out _ U1.out)
    omega)
   have hb:=T3.out.heap (HB.out _ U2.out);have hr3:=heap_alloc_new x2 (.cells ((waitR x).cells ap cp aq cq) 37);have I3:=η (I2.out.turn T3.out (by simp));have HLE:Hid (w.heap.size<x2.heap.size):=η (lt_of_heap (HB.out _ U2.out))
   have HP9:Hid (∀A,x.puts≠[]→aq=some A→A.block<x2.heap.size):=η (fun A hne hA=>by
    obtain⟨bb,off,e1,e2,-⟩:=hq.at hne;have:A=⟨bb,off,none⟩:=by rw[hA]at e1;exact Option.some.inj e1
    subst this
    exact e2)
   unfold RecV.cells waitR at hr3;dsimp only[List.length_nil]at hr3;obtain⟨g0,g1,g2,g3,g4,g5⟩:=six_ofA hr3;obtain⟨c0,c1⟩:=two_of10 hb;have hb3:∀j,(x2.alloc (.cells ((waitR x).cells ap cp aq cq) 37)).frozen? ⟨w.heap.size,j,none⟩=false:=fun j=>unfrozen_of hb
   have NH:=η (two_put hb (.int .i64 x.tid) (.slice aq x.puts.length cq));have TF:=η (two_turn (x2.alloc (.cells ((waitR x).cells ap cp aq cq) 37)) w.heap.size (.int .i64 x.tid) (.slice aq x.puts.length cq));unfold RecV.cells waitR at hb3 c0 c1 NH TF T3 HQ I3 ⊢;dsimp only[List.length_nil]at hb3 c0 c1 NH TF T3 HQ I3 ⊢;clear hp hq fp fq t2 hr hby HINJ HRB HDT TA HSX hb hr3;go_wp2_with fail;refine bodyPost_ret_by (results_cell_row rfl _ _ w.heap.size 81 _ (0,0) _ rfl NH.out Tryz.underlying81 rfl (by kernel_rfl)) rfl ?_;have T4:=η (T3.out.mono (l':=[w.heap.size]) (fun i hi=>by cases hi));refine⟨_,_,rfl,HQ.out.turnN TF.out (fun hne A hA=>?_),fun hne A hA=>⟨Nat.le_of_lt (HFR.out A hA),?_⟩,I3.out.turn TF.out (by have:=HLT.out;simp;omega),?_⟩
   · have h1:=HFR.out A hA;simp;omega
   · have h1:=HP9.out A hne hA;have h2:=(T4.out.trans TF.out (fun i hi=>.inl hi)).size;omega
   · exact((((T0.out.mono (l':=[b]) (fun i hi=>by cases hi)).trans U2.out (fun i hi=>.inl hi)).trans (T3.out.mono (l':=[b]) (fun i hi=>by cases hi)) (fun i hi=>.inl hi))).trans TF.out (fun i hi=>.inr (by simp at hi;omega))
 · exact absurd HRB.out.symm (hno _ HR.out)
theorem readPend_calls (b:Nat) (x:PendV) (r:List UInt8) {w:World} (h:InIs w b (pendB x++r) false) (hrec:recB (pendR x)=true) (hlen:(recBytes (pendR x)).length<65536):
 Calls Tryz.prog 102 #[.pointer (some ⟨b,0,none⟩)] w fun e w'=>∃ao c,e=.returned (.agg #[.int .i64 x.tid,.slice ao x.parts.length c])∧Il w' ao c x.parts∧(x.parts≠[]→∀A,ao=some A→w.heap.size≤A.block∧A.block<w'.heap.size)∧InIs w' b r false∧Turn [b] w w':=by
 have h0:InIs w b (textB ⟨(recBytes (pendR x)).toArray⟩++r) false:=h;have HLT:=η h.lt;have i0:=h0.turn (Turn.alloc [] w (.cells #[.int .i64 0,.slice none 0 0] 65)) (by simp);have HB:Hid (∀wx,Turn [b] (w.alloc (.cells #[.int .i64 0,.slice none 0 0] 65)) wx→wx.heap[w.heap.size]?=some (.cells #[.int .i64 0,.slice none 0 0] 65)):=η (fun wx tt=>tt.heap (heap_alloc_new w _) (by have:=HLT.out;simp;omega));have T0:=η (Turn.alloc [] w (.cells #[.int .i64 0,.slice none 0 0] 65));have I0:=η i0;have U0:=η (Turn.refl [b] (w.alloc (.cells #[.int .i64 0,.slice none 0 0] 65)));have HR:=η hrec;have HINJ:Hid (∀y:RecV,recB y=true→recBytes y=recBytes (pendR x)→y=pendR x):=η (fun y hy e=>recBytes_inj hy hrec e);have hconv:=fun(wx:World) (y:ByteArray)=>run_bytes_of_string (P:=Tryz.prog) wx 9 52 5 y Tryz.underlying9 Tryz.underlying52 Tryz.underlying5
 have HS:Hid ((⟨(recBytes (pendR x)).toArray⟩:ByteArray).size<65536):=η (by simpa[ByteArray.size]using hlen);have HDT:Hid ((⟨(recBytes (pendR x)).toArray⟩:ByteArray).data.toList=recBytes (pendR x)):=η (by simp);obtain⟨R,hR⟩:=ε (recBytes (pendR x));rw[←hR]at HINJ HDT hlen;obtain⟨tx,htx⟩:=ε ((⟨(recBytes (pendR x)).toArray⟩:ByteArray));rw[←htx]at I0 HS;rw[←hR]at htx;rw[←htx]at HDT;have HRB:=η hR;clear h h0 i0 hR htx hrec;go_in;go_wp2_with fail;refine(text_at b _ _ _ I0.out HS.out).mono ?_;rintro e x1 ⟨rfl,i1,t1⟩;have I1:=η i1;have U1:=η (U0.out.trans t1 (fun i hi=>.inl hi));clear i1 t1;go_wp2_with fail;have hcap:=grownCap_ge x1 tx.size 0 5;have hmax:=grownCap_le_maxLen x1 tx.size 0 5 (by have:=HS.out;unfold maxLen;omega);have sl:=Sl.bytes x1 tx _ 5 ((bytesRow tx (grownCap x1 tx.size 0 5)).size,(bytesRow tx (grownCap x1 tx.size 0 5)).size+1) (by omega) hmax;rw[HDT.out]at sl;have hsz:tx.size=R.length:=by rw[←HDT.out,Array.length_toList];rfl
 have CD:=η (decode_calls R _ _ _ sl);rw[←hsz]at CD;have TA:Hid (∀o,Turn [] x1 (x1.alloc o).drew):=η (fun o=>(Turn.alloc [] x1 o).trans (Turn.drew [] _));have HSX:Hid (∀o,(x1.alloc o).drew.heap.size=x1.heap.size+1):=η (fun o=>by show(x1.alloc o).heap.size=_;simp);clear sl hcap hmax hsz hconv;refine CD.out.mono ?_;rintro e x2 ⟨y,ap,cp,aq,cq,err,rfl,hp,hq,-,fp,fq,t2,hx⟩;clear CD;rcases hx with⟨rfl,hr,hby⟩ | ⟨-,-,hno⟩
 · have hyx:=HINJ.out y hr hby;subst hyx;have T2:=η ((TA.out _).trans t2);have I2:=η (I1.out.turn T2.out (by simp));have U2:=η (U1.out.trans T2.out);have T3:=η (Turn.alloc [] x2 (.cells ((pendR x).cells ap cp aq cq) 37));have HQ:=η (hp.turn T3.out)
   have HFR:Hid (∀A,ap=some A→w.heap.size<A.block):=η (fun A hA=>by
    have h1:=fp A hA;rw[HSX.out]at h1;have h2:=lt_of_heap (HB.out _ U1.out)
    omega)
   have hb:=T3.out.heap (HB.out _ U2.out);have hr3:=heap_alloc_new x2 (.cells ((pendR x).cells ap cp aq cq) 37);have I3:=η (I2.out.turn T3.out (by simp));have HLE:Hid (w.heap.size<x2.heap.size):=η (lt_of_heap (HB.out _ U2.out))
   have HP9:Hid (∀A,x.parts≠[]→ap=some A→A.block<x2.heap.size):=η (fun A hne hA=>by
    obtain⟨bb,off,e1,e2,-⟩:=hp.at hne;have:A=⟨bb,off,none⟩:=by rw[hA]at e1;exact Option.some.inj e1
    subst this
    exact e2)
   unfold RecV.cells pendR at hr3;dsimp only[List.length_nil]at hr3;obtain⟨g0,g1,g2,g3,g4,g5⟩:=six_ofA hr3;obtain⟨c0,c1⟩:=two_of10 hb;have hb3:∀j,(x2.alloc (.cells ((pendR x).cells ap cp aq cq) 37)).frozen? ⟨w.heap.size,j,none⟩=false:=fun j=>unfrozen_of hb
   have NH:=η (two_put hb (.int .i64 x.tid) (.slice ap x.parts.length cp));have TF:=η (two_turn (x2.alloc (.cells ((pendR x).cells ap cp aq cq) 37)) w.heap.size (.int .i64 x.tid) (.slice ap x.parts.length cp));unfold RecV.cells pendR at hb3 c0 c1 NH TF T3 HQ I3 ⊢;dsimp only[List.length_nil]at hb3 c0 c1 NH TF T3 HQ I3 ⊢;clear hp hq fp fq t2 hr hby HINJ HRB HDT TA HSX hb hr3;go_wp2_with fail;refine bodyPost_ret_by (results_cell_row rfl _ _ w.heap.size 65 _ (0,0) _ rfl NH.out Tryz.underlying65 rfl (by kernel_rfl)) rfl ?_;have T4:=η (T3.out.mono (l':=[w.heap.size]) (fun i hi=>by cases hi));refine⟨_,_,rfl,HQ.out.turnN TF.out (fun hne A hA=>?_),fun hne A hA=>⟨Nat.le_of_lt (HFR.out A hA),?_⟩,I3.out.turn TF.out (by have:=HLT.out;simp;omega),?_⟩
   · have h1:=HFR.out A hA;simp;omega
   · have h1:=HP9.out A hne hA;have h2:=(T4.out.trans TF.out (fun i hi=>.inl hi)).size;omega
   · exact((((T0.out.mono (l':=[b]) (fun i hi=>by cases hi)).trans U2.out (fun i hi=>.inl hi)).trans (T3.out.mono (l':=[b]) (fun i hi=>by cases hi)) (fun i hi=>.inl hi))).trans TF.out (fun i hi=>.inr (by simp at hi;omega))
 · exact absurd HRB.out.symm (hno _ HR.out)
theorem append_msg {w:World} {ops:Array Oper} {rest:List Oper} {o:Oper} {a:Act} {Q:Exit→Act→World→Prop} (hgd:o.guard=none) (s x:Operand)
 (ho:o.op=.call {callee:=.builtin .append,args:=#[s,x],argTypes:=#[22,22]})
 (v:Value) (l:List (MsgV)) (hs:a.eval s=v) (hown:w.ownsRow 0 49 6 v l.length (l.flatMap msgC))
 (g:Nat) (m:MsgV) (hx:a.eval x=.slice (some ⟨g,0,none⟩) 1 1) (hc:w.heap[g]?=some (.cells (msgC m).toArray 49)) (hb:l.length≤1000000)
 (h:∀v' w',w'.ownsRow 0 49 6 v' (l++[m]).length ((l++[m]).flatMap msgC)→w.grownBy w' v.ownBlock→(v'.ownBlock=v.ownBlock∨v'.ownBlock=some w.heap.size)→wpList Tryz.prog ops Q rest (a.put o.dst v') w'):wpList Tryz.prog ops Q (o::rest) a w:=by
 obtain⟨i0,hi,hz0,hz1,hz2⟩:=info_parts Tryz.crowMsg;refine wpList_append_own_at w hgd s x 22 ho 0 49 i0 _ 6 64 Tryz.underlying22 hi hz0 hz1 hz2 rfl (by decide) v l.length (l.flatMap msgC) hs hown ⟨g,0,none⟩ 1 1 (msgC m) hx rfl
  (fun j u hj=>by rw[Addr.add_lit,Nat.zero_add,cell_of_row _ _ _ _ _ _ hc];simpa using hj) (by intro u hu;simp[msgC]at hu;rcases hu with rfl | rfl | rfl | rfl | rfl | rfl<;>rfl) (by unfold maxLen;omega) (by omega) (Nat.zero_le _) ?_
 intro v' w' h2 h3 _ h5;exact h v' w' (by rw[List.length_append,List.flatMap_append,show[m].flatMap msgC=msgC m by simp];exact h2) h3 h5
theorem append_br {w:World} {ops:Array Oper} {rest:List Oper} {o:Oper} {a:Act} {Q:Exit→Act→World→Prop} (hgd:o.guard=none) (s x:Operand)
 (ho:o.op=.call {callee:=.builtin .append,args:=#[s,x],argTypes:=#[23,23]})
 (v:Value) (l:List (Lay BrV)) (hs:a.eval s=v) (hown:w.ownsRow 0 81 2 v l.length (l.flatMap brC))
 (g:Nat) (m:Lay BrV) (hx:a.eval x=.slice (some ⟨g,0,none⟩) 1 1) (hc:w.heap[g]?=some (.cells (brC m).toArray 81)) (hb:l.length≤1000000)
 (h:∀v' w',w'.ownsRow 0 81 2 v' (l++[m]).length ((l++[m]).flatMap brC)→w.grownBy w' v.ownBlock→(v'.ownBlock=v.ownBlock∨v'.ownBlock=some w.heap.size)→wpList Tryz.prog ops Q rest (a.put o.dst v') w'):wpList Tryz.prog ops Q (o::rest) a w:=by
 obtain⟨i0,hi,hz0,hz1,hz2⟩:=info_parts Tryz.crowBr;refine wpList_append_own_at w hgd s x 23 ho 0 81 i0 _ 2 32 Tryz.underlying23 hi hz0 hz1 hz2 rfl (by decide) v l.length (l.flatMap brC) hs hown ⟨g,0,none⟩ 1 1 (brC m) hx rfl
  (fun j u hj=>by rw[Addr.add_lit,Nat.zero_add,cell_of_row _ _ _ _ _ _ hc];simpa using hj) (by intro u hu;simp[brC]at hu;rcases hu with rfl | rfl<;>rfl) (by unfold maxLen;omega) (by omega) (Nat.zero_le _) ?_
 intro v' w' h2 h3 _ h5;exact h v' w' (by rw[List.length_append,List.flatMap_append,show[m].flatMap brC=brC m by simp];exact h2) h3 h5
theorem append_end {w:World} {ops:Array Oper} {rest:List Oper} {o:Oper} {a:Act} {Q:Exit→Act→World→Prop} (hgd:o.guard=none) (s x:Operand)
 (ho:o.op=.call {callee:=.builtin .append,args:=#[s,x],argTypes:=#[24,24]})
 (v:Value) (l:List (EndV)) (hs:a.eval s=v) (hown:w.ownsRow 0 61 2 v l.length (l.flatMap endC))
 (g:Nat) (m:EndV) (hx:a.eval x=.slice (some ⟨g,0,none⟩) 1 1) (hc:w.heap[g]?=some (.cells (endC m).toArray 61)) (hb:l.length≤1000000)
 (h:∀v' w',w'.ownsRow 0 61 2 v' (l++[m]).length ((l++[m]).flatMap endC)→w.grownBy w' v.ownBlock→(v'.ownBlock=v.ownBlock∨v'.ownBlock=some w.heap.size)→wpList Tryz.prog ops Q rest (a.put o.dst v') w'):wpList Tryz.prog ops Q (o::rest) a w:=by
 obtain⟨i0,hi,hz0,hz1,hz2⟩:=info_parts Tryz.crowEnd;refine wpList_append_own_at w hgd s x 24 ho 0 61 i0 _ 2 16 Tryz.underlying24 hi hz0 hz1 hz2 rfl (by decide) v l.length (l.flatMap endC) hs hown ⟨g,0,none⟩ 1 1 (endC m) hx rfl
  (fun j u hj=>by rw[Addr.add_lit,Nat.zero_add,cell_of_row _ _ _ _ _ _ hc];simpa using hj) (by intro u hu;simp[endC]at hu;rcases hu with rfl | rfl<;>rfl) (by unfold maxLen;omega) (by omega) (Nat.zero_le _) ?_
 intro v' w' h2 h3 _ h5;exact h v' w' (by rw[List.length_append,List.flatMap_append,show[m].flatMap endC=endC m by simp];exact h2) h3 h5
theorem append_pd {w:World} {ops:Array Oper} {rest:List Oper} {o:Oper} {a:Act} {Q:Exit→Act→World→Prop} (hgd:o.guard=none) (s x:Operand)
 (ho:o.op=.call {callee:=.builtin .append,args:=#[s,x],argTypes:=#[25,25]})
 (v:Value) (l:List (Lay PendV)) (hs:a.eval s=v) (hown:w.ownsRow 0 65 2 v l.length (l.flatMap pendC))
 (g:Nat) (m:Lay PendV) (hx:a.eval x=.slice (some ⟨g,0,none⟩) 1 1) (hc:w.heap[g]?=some (.cells (pendC m).toArray 65)) (hb:l.length≤1000000)
 (h:∀v' w',w'.ownsRow 0 65 2 v' (l++[m]).length ((l++[m]).flatMap pendC)→w.grownBy w' v.ownBlock→(v'.ownBlock=v.ownBlock∨v'.ownBlock=some w.heap.size)→wpList Tryz.prog ops Q rest (a.put o.dst v') w'):wpList Tryz.prog ops Q (o::rest) a w:=by
 obtain⟨i0,hi,hz0,hz1,hz2⟩:=info_parts Tryz.crowPd;refine wpList_append_own_at w hgd s x 25 ho 0 65 i0 _ 2 32 Tryz.underlying25 hi hz0 hz1 hz2 rfl (by decide) v l.length (l.flatMap pendC) hs hown ⟨g,0,none⟩ 1 1 (pendC m) hx rfl
  (fun j u hj=>by rw[Addr.add_lit,Nat.zero_add,cell_of_row _ _ _ _ _ _ hc];simpa using hj) (by intro u hu;simp[pendC]at hu;rcases hu with rfl | rfl<;>rfl) (by unfold maxLen;omega) (by omega) (Nat.zero_le _) ?_
 intro v' w' h2 h3 _ h5;exact h v' w' (by rw[List.length_append,List.flatMap_append,show[m].flatMap pendC=pendC m by simp];exact h2) h3 h5
theorem readMessage_enter (args:Array Value) (w:World):(callFunc 96 args).run Tryz.prog w=.ok (.enter 96 args) w:=
 enter_run Tryz.func96 (by kernel_rfl) (by kernel_rfl) args w
theorem readMs_calls (b:Nat) (l:List MsgV) (r:List UInt8) {w:World} (h:InIs w b (listB msgB l++r) false) (hn:l.length≤60000)
 (CR:∀x∈l,∀wx r',InIs wx b (msgB x++r') false→Calls Tryz.prog 96 #[.pointer (some ⟨b,0,none⟩)] wx fun e w'=>∃y:MsgV,y=x∧e=.returned (.agg (msgC y).toArray)∧InIs w' b r' false∧Turn [b] wx w'):
 Calls Tryz.prog 95 #[.pointer (some ⟨b,0,none⟩),.func (.func 96) #[] #[]] w fun e w'=>∃(ao:Option Addr) (c:Nat) (D:List (MsgV)),e=.returned (.slice ao D.length c)∧D.map (fun y=>y)=l∧Tl 6 msgC w' ao c D∧(∀A,ao=some A→w.heap.size≤A.block)∧InIs w' b r false∧Turn [b] w w':=by
 have h0:InIs w b (smallB (l.length:Nat)++(l.flatMap msgB++r)) false:=by
  have:=h;unfold listB at this;simpa only[List.append_assoc]using this
 have HLT:=η h.lt;have C1:=η (small_at b (l.length:Nat) _ w h0 (by omega));have HCR:=η CR;have EN:=readMessage_enter;obtain⟨n,hnn⟩:=ε l.length;have HN:=η hnn;rw[←hnn]at C1 hn;clear h h0 CR hnn;go_in;go_wp2_with fail;refine C1.out.mono ?_;rintro e w1 ⟨rfl,i1,t1⟩;have I1:=η i1;have T1:=η t1;clear i1 t1 C1;go_wp2_with fail;go_loopw [5,6] (fun v i wr=>∃(j:Nat) (D:List (MsgV)) (u:Value),i=.int .i64 (j:Int)∧u=v∧D.length+j=n∧D.map (fun y=>y)=l.take D.length∧wr.ownsRow 0 49 6 u D.length (D.flatMap msgC)∧(∀g,u.ownBlock=some g→w.heap.size≤g)∧InIs wr b ((l.drop D.length).flatMap msgB++r) false∧Turn [b] w wr) (fun _ i _=>(intOf i).toNat)
 case atStart=>exact⟨n,[],.slice none 0 0,rfl,rfl,by simp,by simp,World.ownsRow_nil _ _ _ _,(by intro g hg;cases hg),by simpa using I1.out,T1.out⟩
 case round=>
  clear I1 T1;obtain⟨j,D,u,rfl,rfl,hj,hdv,hown,hlow,hin,tr⟩:=hrel;have HO:=η hown;have HL:=η hlow;have HI:=η hin;have HDV:=η hdv;have TR:=η tr;clear hown hlow hin tr hdv;cases j with
  | zero=>
   have hdn:D.length=l.length:=by rw[←HN.out];omega
   have HV2:Hid (D.map (fun y=>y)=l):=η (by rw[HDV.out,hdn,List.take_length])
   have HI2:Hid (InIs wr b r false):=η (by
    have:=HI.out;rw[hdn,List.drop_length]at this
    simpa using this)
   have ho:=HO.out;obtain⟨ao,cp,hv⟩:=slice_form ho;have HT2:Hid (Tl 6 msgC wr ao cp D):=η (by rw[hv]at ho;exact Tl.of_own (n:=6) (f:=msgC) (fun _=>rfl) ho);have HLA:Hid (∀A,ao=some A→w.heap.size≤A.block):=η (fun A hA=>HL.out A.block (by rw[hv,hA];rfl));rw[hv];clear ho hv hdn;go_wp2_with fail;go_ret;exact⟨ao,cp,D,rfl,HV2.out,HT2.out,HLA.out,HI2.out,TR.out⟩
  | succ j=>
   have hkl:D.length<l.length:=by rw[←HN.out];omega
   obtain⟨x,hx⟩:∃x,l[D.length]?=some x:=⟨_,List.getElem?_eq_getElem hkl⟩
   have i0:=HI.out;rw[drop_cons hx,List.flatMap_cons,List.append_assoc]at i0;have CX:=η (HCR.out x (List.mem_of_getElem? hx) wr _ i0);have hpos:(0:Int)<((j+1:Nat):Int):=by omega
   have hlen:D.length≤1000000:=by omega
   have HX:=η hx;have HLEN:=η hlen;clear i0 hx hkl hlen;go_wp2_with fail;refine(bad_calls b _ false _ HI.out).mono ?_;rintro e w2 ⟨rfl,rfl⟩;go_wp2_with fail;refine CX.out.mono ?_;rintro e w3 ⟨y,hyx,rfl,i3,t3⟩;have I3:=η i3;have T3:=η t3;have O3:=η (ownsRow_turn HO.out t3 (fun k hk hm=>by have:=HL.out k hk;have:=HLT.out;simp at hm;omega));have B3:=η (heap_alloc_new w3 (.cells (msgC y).toArray 49));have R3:=η (ownsRow_turn O3.out (Turn.alloc [] w3 (.cells (msgC y).toArray 49)));have HYX:=η hyx;clear i3 t3 CX hyx;have HC:Hid ((msgC y).toArray=#[.int .i64 y.id,.string y.queue,.string y.body,.int .i64 y.seq,.int .i64 y.count,.int .i64 y.by_]):=η rfl;rw[HC.out]at B3 R3 ⊢
   have HVN:Hid (∀v,Value.ownBlock v=u.ownBlock→∀k,v.ownBlock=some k→k<wr.heap.size):=η (fun v e k hk=>by
    rw[e]at hk;obtain⟨cs,fr,e2⟩:=ownsRow_typed HO.out k (by rw[hk];simp)
    exact lt_of_heap e2)
   go_wp2_with(at_builtin;refine append_msg rfl (.tmp 18) (.tmp 22) rfl u D rfl R3.out w3.heap.size y rfl (by rw[HC.out];exact B3.out) HLEN.out ?_;intro v5 w5 o5 g5 l5);have A5:=η (row_beside TR.out T3.out g5 HL.out HLT.out I3.out l5);have O5:=η o5
   have DV5:Hid ((D++[y]).map (fun y=>y)=l.take (D++[y]).length):=η (by
    rw[List.map_append,HDV.out,List.length_append,List.length_singleton,List.take_add_one,HX.out]
    simp[HYX.out])
   have I5:Hid (InIs w5 b ((l.drop (D++[y]).length).flatMap msgB++r) false):=η (by
    rw[List.length_append,List.length_singleton]
    exact A5.out.2.1)
   clear o5 g5 l5 HVN;go_wp2_with fail;go_roundw
   case rel=>exact⟨j,_,_,by go_num,rfl,by rw[List.length_append];simp;omega,DV5.out,O5.out,A5.out.2.2,I5.out,A5.out.1⟩
   case measure=>simp[intOf]
theorem readWait_enter (args:Array Value) (w:World):(callFunc 98 args).run Tryz.prog w=.ok (.enter 98 args) w:=
 enter_run Tryz.func98 (by kernel_rfl) (by kernel_rfl) args w
theorem readWs_calls (b:Nat) (l:List BrV) (r:List UInt8) {w:World} (h:InIs w b (listB waitB l++r) false) (hn:l.length≤60000)
 (CR:∀x∈l,∀wx r',InIs wx b (waitB x++r') false→Calls Tryz.prog 98 #[.pointer (some ⟨b,0,none⟩)] wx fun e w'=>∃y:Lay BrV,y.v=x∧e=.returned (.agg (brC y).toArray)∧(Ps w' y.ao y.c y.v.puts∧(y.v.puts≠[]→∀A,y.ao=some A→wx.heap.size≤A.block∧A.block<w'.heap.size))∧InIs w' b r' false∧Turn [b] wx w'):
 Calls Tryz.prog 97 #[.pointer (some ⟨b,0,none⟩),.func (.func 98) #[] #[]] w fun e w'=>∃(ao:Option Addr) (c:Nat) (D:List (Lay BrV)),e=.returned (.slice ao D.length c)∧D.map (fun y=>y.v)=l∧Tl 2 brC w' ao c D∧(∀A,ao=some A→w.heap.size≤A.block)∧(∀y∈D,Ps w' y.ao y.c y.v.puts∧(y.v.puts≠[]→∀A,y.ao=some A→w.heap.size≤A.block∧A.block<w'.heap.size))∧InIs w' b r false∧Turn [b] w w':=by
 have h0:InIs w b (smallB (l.length:Nat)++(l.flatMap waitB++r)) false:=by
  have:=h;unfold listB at this;simpa only[List.append_assoc]using this
 have HLT:=η h.lt;have C1:=η (small_at b (l.length:Nat) _ w h0 (by omega));have HCR:=η CR;have EN:=readWait_enter;obtain⟨n,hnn⟩:=ε l.length;have HN:=η hnn;rw[←hnn]at C1 hn;clear h h0 CR hnn;go_in;go_wp2_with fail;refine C1.out.mono ?_;rintro e w1 ⟨rfl,i1,t1⟩;have I1:=η i1;have T1:=η t1;clear i1 t1 C1;go_wp2_with fail;go_loopw [5,6] (fun v i wr=>∃(j:Nat) (D:List (Lay BrV)) (u:Value),i=.int .i64 (j:Int)∧u=v∧D.length+j=n∧D.map (fun y=>y.v)=l.take D.length∧wr.ownsRow 0 81 2 u D.length (D.flatMap brC)∧(∀g,u.ownBlock=some g→w.heap.size≤g)∧InIs wr b ((l.drop D.length).flatMap waitB++r) false∧(∀y∈D,Ps wr y.ao y.c y.v.puts∧(y.v.puts≠[]→∀A,y.ao=some A→w.heap.size≤A.block∧A.block<wr.heap.size∧u.ownBlock≠some A.block))∧Turn [b] w wr) (fun _ i _=>(intOf i).toNat)
 case atStart=>exact⟨n,[],.slice none 0 0,rfl,rfl,by simp,by simp,World.ownsRow_nil _ _ _ _,(by intro g hg;cases hg),by simpa using I1.out,by simp,T1.out⟩
 case round=>
  clear I1 T1;obtain⟨j,D,u,rfl,rfl,hj,hdv,hown,hlow,hin,hkeep,tr⟩:=hrel;have HO:=η hown;have HL:=η hlow;have HI:=η hin;have HDV:=η hdv;have TR:=η tr;have HK:=η hkeep;clear hown hlow hin tr hdv hkeep;cases j with
  | zero=>
   have hdn:D.length=l.length:=by rw[←HN.out];omega
   have HV2:Hid (D.map (fun y=>y.v)=l):=η (by rw[HDV.out,hdn,List.take_length])
   have HI2:Hid (InIs wr b r false):=η (by
    have:=HI.out;rw[hdn,List.drop_length]at this
    simpa using this)
   have ho:=HO.out;obtain⟨ao,cp,hv⟩:=slice_form ho;have HT2:Hid (Tl 2 brC wr ao cp D):=η (by rw[hv]at ho;exact Tl.of_own (n:=2) (f:=brC) (fun _=>rfl) ho);have HLA:Hid (∀A,ao=some A→w.heap.size≤A.block):=η (fun A hA=>HL.out A.block (by rw[hv,hA];rfl));rw[hv];clear ho hv hdn;go_wp2_with fail;go_ret;exact⟨ao,cp,D,rfl,HV2.out,HT2.out,HLA.out,fun y hy=>⟨(HK.out y hy).1,fun hne A hA=>⟨((HK.out y hy).2 hne A hA).1,((HK.out y hy).2 hne A hA).2.1⟩⟩,HI2.out,TR.out⟩
  | succ j=>
   have hkl:D.length<l.length:=by rw[←HN.out];omega
   obtain⟨x,hx⟩:∃x,l[D.length]?=some x:=⟨_,List.getElem?_eq_getElem hkl⟩
   have i0:=HI.out;rw[drop_cons hx,List.flatMap_cons,List.append_assoc]at i0;have CX:=η (HCR.out x (List.mem_of_getElem? hx) wr _ i0);have hpos:(0:Int)<((j+1:Nat):Int):=by omega
   have hlen:D.length≤1000000:=by omega
   have HX:=η hx;have HLEN:=η hlen;clear i0 hx hkl hlen;go_wp2_with fail;refine(bad_calls b _ false _ HI.out).mono ?_;rintro e w2 ⟨rfl,rfl⟩;go_wp2_with fail;refine CX.out.mono ?_;rintro e w3 ⟨y,hyx,rfl,⟨ky,fy⟩,i3,t3⟩;have I3:=η i3;have T3:=η t3;have O3:=η (ownsRow_turn HO.out t3 (fun k hk hm=>by have:=HL.out k hk;have:=HLT.out;simp at hm;omega));have B3:=η (heap_alloc_new w3 (.cells (brC y).toArray 81));have R3:=η (ownsRow_turn O3.out (Turn.alloc [] w3 (.cells (brC y).toArray 81)));have KY:=η ky;have FY:=η fy;have HYX:=η hyx;clear i3 t3 CX hyx ky fy;have HC:Hid ((brC y).toArray=#[.int .i64 y.v.tid,.slice y.ao y.v.puts.length y.c]):=η rfl;rw[HC.out]at B3 R3 ⊢
   have HVN:Hid (∀v,Value.ownBlock v=u.ownBlock→∀k,v.ownBlock=some k→k<wr.heap.size):=η (fun v e k hk=>by
    rw[e]at hk;obtain⟨cs,fr,e2⟩:=ownsRow_typed HO.out k (by rw[hk];simp)
    exact lt_of_heap e2)
   go_wp2_with(at_builtin;refine append_br rfl (.tmp 18) (.tmp 22) rfl u D rfl R3.out w3.heap.size y rfl (by rw[HC.out];exact B3.out) HLEN.out ?_;intro v5 w5 o5 g5 l5);have A5:=η (row_beside TR.out T3.out g5 HL.out HLT.out I3.out l5);have O5:=η o5
   have DV5:Hid ((D++[y]).map (fun y=>y.v)=l.take (D++[y]).length):=η (by
    rw[List.map_append,HDV.out,List.length_append,List.length_singleton,List.take_add_one,HX.out]
    simp[HYX.out])
   have I5:Hid (InIs w5 b ((l.drop (D++[y]).length).flatMap waitB++r) false):=η (by
    rw[List.length_append,List.length_singleton]
    exact A5.out.2.1)
   have TG:=Turn.grown (l:=u.ownBlock.toList) g5 (fun k hk=>.inl (by simp[hk]));have TY0:=(Turn.alloc [] w3 (.cells #[.int .i64 y.v.tid,.slice y.ao y.v.puts.length y.c] 81)).mono (l':=u.ownBlock.toList) (fun i hi=>by cases hi);have TY:=TY0.trans TG (fun i hi=>.inl hi);have TZ:=(T3.out.mono (l':=b::u.ownBlock.toList) (fun i hi=>.inl (by simp at hi;simp[hi]))).trans TY (fun i hi=>.inl (by simp;exact .inr (by simpa using hi)));have s1:=TR.out.size;have s2:=T3.out.size;have s3:=TY.size;have hsz:(w3.alloc (.cells #[.int .i64 y.v.tid,.slice y.ao y.v.puts.length y.c] 81)).heap.size=w3.heap.size+1:=by simp
   have K5:Hid (∀z∈D++[y],Ps w5 z.ao z.c z.v.puts∧(z.v.puts≠[]→∀A,z.ao=some A→w.heap.size≤A.block∧A.block<w5.heap.size∧v5.ownBlock≠some A.block)):=η (fun z hz=>by
    rcases List.mem_append.1 hz with hz | hz
    · obtain⟨k1,k2⟩:=HK.out z hz;refine⟨k1.turnN TZ (fun hne A hA hm=>?_),fun hne A hA=>?_⟩
      · obtain⟨q1,q2,q3⟩:=k2 hne A hA;rcases List.mem_cons.1 hm with e | hm
        · have:=HLT.out;omega
        · exact q3 (by simpa using hm)
      · obtain⟨q1,q2,q3⟩:=k2 hne A hA;refine⟨q1,by omega,?_⟩;rcases l5 with e | e
        · rw[e];exact q3
        · rw[e,hsz];intro e2;have:=Option.some.inj e2;omega
    · have hzy:z=y:=by simpa using hz
      subst hzy;refine⟨KY.out.turnN TY (fun hne A hA hm=>?_),fun hne A hA=>?_⟩
      · have q1:=(FY.out hne A hA).1;have q2:=HVN.out u rfl A.block (by simpa using hm);omega
      · obtain⟨q1,q2⟩:=FY.out hne A hA;refine⟨by omega,by omega,?_⟩;rcases l5 with e | e
        · intro e2;have:=HVN.out v5 e A.block e2;omega
        · rw[e,hsz];intro e2;have:=Option.some.inj e2
          omega)
   clear TG TY0 TY TZ s1 s2 s3 hsz;clear o5 g5 l5 HVN;go_wp2_with fail;go_roundw
   case rel=>exact⟨j,_,_,by go_num,rfl,by rw[List.length_append];simp;omega,DV5.out,O5.out,A5.out.2.2,I5.out,K5.out,A5.out.1⟩
   case measure=>simp[intOf]
theorem readEnd_enter (args:Array Value) (w:World):(callFunc 100 args).run Tryz.prog w=.ok (.enter 100 args) w:=
 enter_run Tryz.func100 (by kernel_rfl) (by kernel_rfl) args w
theorem readEs_calls (b:Nat) (l:List EndV) (r:List UInt8) {w:World} (h:InIs w b (listB endB l++r) false) (hn:l.length≤60000)
 (CR:∀x∈l,∀wx r',InIs wx b (endB x++r') false→Calls Tryz.prog 100 #[.pointer (some ⟨b,0,none⟩)] wx fun e w'=>∃y:EndV,y=x∧e=.returned (.agg (endC y).toArray)∧InIs w' b r' false∧Turn [b] wx w'):
 Calls Tryz.prog 99 #[.pointer (some ⟨b,0,none⟩),.func (.func 100) #[] #[]] w fun e w'=>∃(ao:Option Addr) (c:Nat) (D:List (EndV)),e=.returned (.slice ao D.length c)∧D.map (fun y=>y)=l∧Tl 2 endC w' ao c D∧(∀A,ao=some A→w.heap.size≤A.block)∧InIs w' b r false∧Turn [b] w w':=by
 have h0:InIs w b (smallB (l.length:Nat)++(l.flatMap endB++r)) false:=by
  have:=h;unfold listB at this;simpa only[List.append_assoc]using this
 have HLT:=η h.lt;have C1:=η (small_at b (l.length:Nat) _ w h0 (by omega));have HCR:=η CR;have EN:=readEnd_enter;obtain⟨n,hnn⟩:=ε l.length;have HN:=η hnn;rw[←hnn]at C1 hn;clear h h0 CR hnn;go_in;go_wp2_with fail;refine C1.out.mono ?_;rintro e w1 ⟨rfl,i1,t1⟩;have I1:=η i1;have T1:=η t1;clear i1 t1 C1;go_wp2_with fail;go_loopw [5,6] (fun v i wr=>∃(j:Nat) (D:List (EndV)) (u:Value),i=.int .i64 (j:Int)∧u=v∧D.length+j=n∧D.map (fun y=>y)=l.take D.length∧wr.ownsRow 0 61 2 u D.length (D.flatMap endC)∧(∀g,u.ownBlock=some g→w.heap.size≤g)∧InIs wr b ((l.drop D.length).flatMap endB++r) false∧Turn [b] w wr) (fun _ i _=>(intOf i).toNat)
 case atStart=>exact⟨n,[],.slice none 0 0,rfl,rfl,by simp,by simp,World.ownsRow_nil _ _ _ _,(by intro g hg;cases hg),by simpa using I1.out,T1.out⟩
 case round=>
  clear I1 T1;obtain⟨j,D,u,rfl,rfl,hj,hdv,hown,hlow,hin,tr⟩:=hrel;have HO:=η hown;have HL:=η hlow;have HI:=η hin;have HDV:=η hdv;have TR:=η tr;clear hown hlow hin tr hdv;cases j with
  | zero=>
   have hdn:D.length=l.length:=by rw[←HN.out];omega
   have HV2:Hid (D.map (fun y=>y)=l):=η (by rw[HDV.out,hdn,List.take_length])
   have HI2:Hid (InIs wr b r false):=η (by
    have:=HI.out;rw[hdn,List.drop_length]at this
    simpa using this)
   have ho:=HO.out;obtain⟨ao,cp,hv⟩:=slice_form ho;have HT2:Hid (Tl 2 endC wr ao cp D):=η (by rw[hv]at ho;exact Tl.of_own (n:=2) (f:=endC) (fun _=>rfl) ho);have HLA:Hid (∀A,ao=some A→w.heap.size≤A.block):=η (fun A hA=>HL.out A.block (by rw[hv,hA];rfl));rw[hv];clear ho hv hdn;go_wp2_with fail;go_ret;exact⟨ao,cp,D,rfl,HV2.out,HT2.out,HLA.out,HI2.out,TR.out⟩
  | succ j=>
   have hkl:D.length<l.length:=by rw[←HN.out];omega
   obtain⟨x,hx⟩:∃x,l[D.length]?=some x:=⟨_,List.getElem?_eq_getElem hkl⟩
   have i0:=HI.out;rw[drop_cons hx,List.flatMap_cons,List.append_assoc]at i0;have CX:=η (HCR.out x (List.mem_of_getElem? hx) wr _ i0);have hpos:(0:Int)<((j+1:Nat):Int):=by omega
   have hlen:D.length≤1000000:=by omega
   have HX:=η hx;have HLEN:=η hlen;clear i0 hx hkl hlen;go_wp2_with fail;refine(bad_calls b _ false _ HI.out).mono ?_;rintro e w2 ⟨rfl,rfl⟩;go_wp2_with fail;refine CX.out.mono ?_;rintro e w3 ⟨y,hyx,rfl,i3,t3⟩;have I3:=η i3;have T3:=η t3;have O3:=η (ownsRow_turn HO.out t3 (fun k hk hm=>by have:=HL.out k hk;have:=HLT.out;simp at hm;omega));have B3:=η (heap_alloc_new w3 (.cells (endC y).toArray 61));have R3:=η (ownsRow_turn O3.out (Turn.alloc [] w3 (.cells (endC y).toArray 61)));have HYX:=η hyx;clear i3 t3 CX hyx;have HC:Hid ((endC y).toArray=#[.int .i64 y.tid,.bool y.yes]):=η rfl;rw[HC.out]at B3 R3 ⊢
   have HVN:Hid (∀v,Value.ownBlock v=u.ownBlock→∀k,v.ownBlock=some k→k<wr.heap.size):=η (fun v e k hk=>by
    rw[e]at hk;obtain⟨cs,fr,e2⟩:=ownsRow_typed HO.out k (by rw[hk];simp)
    exact lt_of_heap e2)
   go_wp2_with(at_builtin;refine append_end rfl (.tmp 18) (.tmp 22) rfl u D rfl R3.out w3.heap.size y rfl (by rw[HC.out];exact B3.out) HLEN.out ?_;intro v5 w5 o5 g5 l5);have A5:=η (row_beside TR.out T3.out g5 HL.out HLT.out I3.out l5);have O5:=η o5
   have DV5:Hid ((D++[y]).map (fun y=>y)=l.take (D++[y]).length):=η (by
    rw[List.map_append,HDV.out,List.length_append,List.length_singleton,List.take_add_one,HX.out]
    simp[HYX.out])
   have I5:Hid (InIs w5 b ((l.drop (D++[y]).length).flatMap endB++r) false):=η (by
    rw[List.length_append,List.length_singleton]
    exact A5.out.2.1)
   clear o5 g5 l5 HVN;go_wp2_with fail;go_roundw
   case rel=>exact⟨j,_,_,by go_num,rfl,by rw[List.length_append];simp;omega,DV5.out,O5.out,A5.out.2.2,I5.out,A5.out.1⟩
   case measure=>simp[intOf]
theorem readPend_enter (args:Array Value) (w:World):(callFunc 102 args).run Tryz.prog w=.ok (.enter 102 args) w:=
 enter_run Tryz.func102 (by kernel_rfl) (by kernel_rfl) args w
theorem readPds_calls (b:Nat) (l:List PendV) (r:List UInt8) {w:World} (h:InIs w b (listB pendB l++r) false) (hn:l.length≤60000)
 (CR:∀x∈l,∀wx r',InIs wx b (pendB x++r') false→Calls Tryz.prog 102 #[.pointer (some ⟨b,0,none⟩)] wx fun e w'=>∃y:Lay PendV,y.v=x∧e=.returned (.agg (pendC y).toArray)∧(Il w' y.ao y.c y.v.parts∧(y.v.parts≠[]→∀A,y.ao=some A→wx.heap.size≤A.block∧A.block<w'.heap.size))∧InIs w' b r' false∧Turn [b] wx w'):
 Calls Tryz.prog 101 #[.pointer (some ⟨b,0,none⟩),.func (.func 102) #[] #[]] w fun e w'=>∃(ao:Option Addr) (c:Nat) (D:List (Lay PendV)),e=.returned (.slice ao D.length c)∧D.map (fun y=>y.v)=l∧Tl 2 pendC w' ao c D∧(∀A,ao=some A→w.heap.size≤A.block)∧(∀y∈D,Il w' y.ao y.c y.v.parts∧(y.v.parts≠[]→∀A,y.ao=some A→w.heap.size≤A.block∧A.block<w'.heap.size))∧InIs w' b r false∧Turn [b] w w':=by
 have h0:InIs w b (smallB (l.length:Nat)++(l.flatMap pendB++r)) false:=by
  have:=h;unfold listB at this;simpa only[List.append_assoc]using this
 have HLT:=η h.lt;have C1:=η (small_at b (l.length:Nat) _ w h0 (by omega));have HCR:=η CR;have EN:=readPend_enter;obtain⟨n,hnn⟩:=ε l.length;have HN:=η hnn;rw[←hnn]at C1 hn;clear h h0 CR hnn;go_in;go_wp2_with fail;refine C1.out.mono ?_;rintro e w1 ⟨rfl,i1,t1⟩;have I1:=η i1;have T1:=η t1;clear i1 t1 C1;go_wp2_with fail;go_loopw [5,6] (fun v i wr=>∃(j:Nat) (D:List (Lay PendV)) (u:Value),i=.int .i64 (j:Int)∧u=v∧D.length+j=n∧D.map (fun y=>y.v)=l.take D.length∧wr.ownsRow 0 65 2 u D.length (D.flatMap pendC)∧(∀g,u.ownBlock=some g→w.heap.size≤g)∧InIs wr b ((l.drop D.length).flatMap pendB++r) false∧(∀y∈D,Il wr y.ao y.c y.v.parts∧(y.v.parts≠[]→∀A,y.ao=some A→w.heap.size≤A.block∧A.block<wr.heap.size∧u.ownBlock≠some A.block))∧Turn [b] w wr) (fun _ i _=>(intOf i).toNat)
 case atStart=>exact⟨n,[],.slice none 0 0,rfl,rfl,by simp,by simp,World.ownsRow_nil _ _ _ _,(by intro g hg;cases hg),by simpa using I1.out,by simp,T1.out⟩
 case round=>
  clear I1 T1;obtain⟨j,D,u,rfl,rfl,hj,hdv,hown,hlow,hin,hkeep,tr⟩:=hrel;have HO:=η hown;have HL:=η hlow;have HI:=η hin;have HDV:=η hdv;have TR:=η tr;have HK:=η hkeep;clear hown hlow hin tr hdv hkeep;cases j with
  | zero=>
   have hdn:D.length=l.length:=by rw[←HN.out];omega
   have HV2:Hid (D.map (fun y=>y.v)=l):=η (by rw[HDV.out,hdn,List.take_length])
   have HI2:Hid (InIs wr b r false):=η (by
    have:=HI.out;rw[hdn,List.drop_length]at this
    simpa using this)
   have ho:=HO.out;obtain⟨ao,cp,hv⟩:=slice_form ho;have HT2:Hid (Tl 2 pendC wr ao cp D):=η (by rw[hv]at ho;exact Tl.of_own (n:=2) (f:=pendC) (fun _=>rfl) ho);have HLA:Hid (∀A,ao=some A→w.heap.size≤A.block):=η (fun A hA=>HL.out A.block (by rw[hv,hA];rfl));rw[hv];clear ho hv hdn;go_wp2_with fail;go_ret;exact⟨ao,cp,D,rfl,HV2.out,HT2.out,HLA.out,fun y hy=>⟨(HK.out y hy).1,fun hne A hA=>⟨((HK.out y hy).2 hne A hA).1,((HK.out y hy).2 hne A hA).2.1⟩⟩,HI2.out,TR.out⟩
  | succ j=>
   have hkl:D.length<l.length:=by rw[←HN.out];omega
   obtain⟨x,hx⟩:∃x,l[D.length]?=some x:=⟨_,List.getElem?_eq_getElem hkl⟩
   have i0:=HI.out;rw[drop_cons hx,List.flatMap_cons,List.append_assoc]at i0;have CX:=η (HCR.out x (List.mem_of_getElem? hx) wr _ i0);have hpos:(0:Int)<((j+1:Nat):Int):=by omega
   have hlen:D.length≤1000000:=by omega
   have HX:=η hx;have HLEN:=η hlen;clear i0 hx hkl hlen;go_wp2_with fail;refine(bad_calls b _ false _ HI.out).mono ?_;rintro e w2 ⟨rfl,rfl⟩;go_wp2_with fail;refine CX.out.mono ?_;rintro e w3 ⟨y,hyx,rfl,⟨ky,fy⟩,i3,t3⟩;have I3:=η i3;have T3:=η t3;have O3:=η (ownsRow_turn HO.out t3 (fun k hk hm=>by have:=HL.out k hk;have:=HLT.out;simp at hm;omega));have B3:=η (heap_alloc_new w3 (.cells (pendC y).toArray 65));have R3:=η (ownsRow_turn O3.out (Turn.alloc [] w3 (.cells (pendC y).toArray 65)));have KY:=η ky;have FY:=η fy;have HYX:=η hyx;clear i3 t3 CX hyx ky fy;have HC:Hid ((pendC y).toArray=#[.int .i64 y.v.tid,.slice y.ao y.v.parts.length y.c]):=η rfl;rw[HC.out]at B3 R3 ⊢
   have HVN:Hid (∀v,Value.ownBlock v=u.ownBlock→∀k,v.ownBlock=some k→k<wr.heap.size):=η (fun v e k hk=>by
    rw[e]at hk;obtain⟨cs,fr,e2⟩:=ownsRow_typed HO.out k (by rw[hk];simp)
    exact lt_of_heap e2)
   go_wp2_with(at_builtin;refine append_pd rfl (.tmp 18) (.tmp 22) rfl u D rfl R3.out w3.heap.size y rfl (by rw[HC.out];exact B3.out) HLEN.out ?_;intro v5 w5 o5 g5 l5);have A5:=η (row_beside TR.out T3.out g5 HL.out HLT.out I3.out l5);have O5:=η o5
   have DV5:Hid ((D++[y]).map (fun y=>y.v)=l.take (D++[y]).length):=η (by
    rw[List.map_append,HDV.out,List.length_append,List.length_singleton,List.take_add_one,HX.out]
    simp[HYX.out])
   have I5:Hid (InIs w5 b ((l.drop (D++[y]).length).flatMap pendB++r) false):=η (by
    rw[List.length_append,List.length_singleton]
    exact A5.out.2.1)
   have TG:=Turn.grown (l:=u.ownBlock.toList) g5 (fun k hk=>.inl (by simp[hk]));have TY0:=(Turn.alloc [] w3 (.cells #[.int .i64 y.v.tid,.slice y.ao y.v.parts.length y.c] 65)).mono (l':=u.ownBlock.toList) (fun i hi=>by cases hi);have TY:=TY0.trans TG (fun i hi=>.inl hi);have TZ:=(T3.out.mono (l':=b::u.ownBlock.toList) (fun i hi=>.inl (by simp at hi;simp[hi]))).trans TY (fun i hi=>.inl (by simp;exact .inr (by simpa using hi)));have s1:=TR.out.size;have s2:=T3.out.size;have s3:=TY.size;have hsz:(w3.alloc (.cells #[.int .i64 y.v.tid,.slice y.ao y.v.parts.length y.c] 65)).heap.size=w3.heap.size+1:=by simp
   have K5:Hid (∀z∈D++[y],Il w5 z.ao z.c z.v.parts∧(z.v.parts≠[]→∀A,z.ao=some A→w.heap.size≤A.block∧A.block<w5.heap.size∧v5.ownBlock≠some A.block)):=η (fun z hz=>by
    rcases List.mem_append.1 hz with hz | hz
    · obtain⟨k1,k2⟩:=HK.out z hz;refine⟨k1.turnN TZ (fun hne A hA hm=>?_),fun hne A hA=>?_⟩
      · obtain⟨q1,q2,q3⟩:=k2 hne A hA;rcases List.mem_cons.1 hm with e | hm
        · have:=HLT.out;omega
        · exact q3 (by simpa using hm)
      · obtain⟨q1,q2,q3⟩:=k2 hne A hA;refine⟨q1,by omega,?_⟩;rcases l5 with e | e
        · rw[e];exact q3
        · rw[e,hsz];intro e2;have:=Option.some.inj e2;omega
    · have hzy:z=y:=by simpa using hz
      subst hzy;refine⟨KY.out.turnN TY (fun hne A hA hm=>?_),fun hne A hA=>?_⟩
      · have q1:=(FY.out hne A hA).1;have q2:=HVN.out u rfl A.block (by simpa using hm);omega
      · obtain⟨q1,q2⟩:=FY.out hne A hA;refine⟨by omega,by omega,?_⟩;rcases l5 with e | e
        · intro e2;have:=HVN.out v5 e A.block e2;omega
        · rw[e,hsz];intro e2;have:=Option.some.inj e2
          omega)
   clear TG TY0 TY TZ s1 s2 s3 hsz;clear o5 g5 l5 HVN;go_wp2_with fail;go_roundw
   case rel=>exact⟨j,_,_,by go_num,rfl,by rw[List.length_append];simp;omega,DV5.out,O5.out,A5.out.2.2,I5.out,K5.out,A5.out.1⟩
   case measure=>simp[intOf]
end Go.Proofs.YtkjpjfghklgdhaaGreat
