/-
  PkAW
-/
import Derived.Test.YtkjpjfghklgdhaaGreatPkAV
import Derived.Shelf.SortM.Plain
import Derived.Shelf.SortM.SortNone
import Derived.Shelf.Slices.CompactS
set_option maxHeartbeats 8000000
set_option maxRecDepth 100000
namespace Go.Proofs.YtkjpjfghklgdhaaGreat
open Go.RowKit Go.Proofs.YtkjpjfghklgdhaaGreat.V
structure Ay (w0:World) (cs rs:Array Value) (w:World):Prop where
 box:w.heap[w0.heap.size]?=some (.cells cs 27)
 rcd:w.heap[w0.heap.size+1]?=some (.cells rs 37)
 res:w.heap[w0.heap.size+1+1]?=some (.cells zeroSt 27)
 turn:Turn [] w0 w
theorem Ay.still {w0 w w':World} {cs rs:Array Value} (h:Ay w0 cs rs w) (t:Turn [] w w'):Ay w0 cs rs w':=⟨t.heap h.box,t.heap h.rcd,t.heap h.res,h.turn.trans t⟩
theorem Ay.tn {lo:Nat} {w0 w w':World} {cs rs:Array Value} (h:Ay w0 cs rs w) (t:Tn lo w w') (hlo:w0.heap.size+1+1<lo):Ay w0 cs rs w':=by
 obtain⟨l,h1,h2⟩:=t;have hn:∀k,k≤w0.heap.size+1+1→k∉l:=fun k hk hm=>by have:=(h1 k hm).1;omega
 exact⟨h2.heap h.box (hn _ (by omega)),h2.heap h.rcd (hn _ (by omega)),h2.heap h.res (hn _ (by omega)),h.turn.trans h2 (fun i hi=>.inr (by have:=(h1 i hi).1;omega))⟩
theorem Ay.new (w:World) (cs rs:Array Value):Ay w cs rs (((w.alloc (.cells cs 27)).alloc (.cells rs 37)).alloc (.cells zeroSt 27)):=by
 have e1:(w.alloc (.cells cs 27)).heap.size=w.heap.size+1:=by simp
 have e2:((w.alloc (.cells cs 27)).alloc (.cells rs 37)).heap.size=w.heap.size+1+1:=by simp
 have T1:=Turn.alloc [] w (.cells cs 27);have T2:=Turn.alloc [] (w.alloc (.cells cs 27)) (.cells rs 37);have T3:=Turn.alloc [] ((w.alloc (.cells cs 27)).alloc (.cells rs 37)) (.cells zeroSt 27);have B2:=heap_alloc_new (w.alloc (.cells cs 27)) (.cells rs 37);have B3:=heap_alloc_new ((w.alloc (.cells cs 27)).alloc (.cells rs 37)) (.cells zeroSt 27);rw[e1]at B2;rw[e2]at B3;exact⟨T3.heap (T2.heap (heap_alloc_new w _)),T3.heap B2,B3,(T1.trans T2).trans T3⟩
theorem Box.rows {w:World} {lo b:Nat} {s:StV} {a:Ads} {LW:List (Lay BrV)} {LO LN:List (Lay PendV)} (h:Box w lo b s a LW LO LN):Rows w lo s a LW LO LN:=
 ⟨h.vw,h.vo,h.vn,h.ms,h.ws,h.es,h.os,h.ns,h.on,h.puts,h.parts,h.alone⟩
theorem six_ofA {w:World} {g:Nat} {v0 v1 v2 v3 v4 v5:Value} {t:TypeId} (h:w.heap[g]?=some (.cells #[v0,v1,v2,v3,v4,v5] t)):w.cell? ⟨g,0,none⟩=some v0∧w.cell? ⟨g,1,none⟩=some v1∧w.cell? ⟨g,2,none⟩=some v2∧w.cell? ⟨g,3,none⟩=some v3∧w.cell? ⟨g,4,none⟩=some v4∧w.cell? ⟨g,5,none⟩=some v5:=by
 refine⟨?_,?_,?_,?_,?_,?_⟩<;>rw[cell_of_row _ _ _ _ _ _ h]<;>rfl
theorem Rows.low {w:World} {lo lo':Nat} {s:StV} {a:Ads} {LW:List (Lay BrV)} {LO LN:List (Lay PendV)} (h:Rows w lo s a LW LO LN) (hlo:lo'≤lo):Rows w lo' s a LW LO LN:=by
 have f:∀{e:TypeId} {z n:Nat} {v:Value} {xs:List Value},w.ownsRow lo e z v n xs→w.ownsRow lo' e z v n xs:=fun r=>row_own r (fun k hk=>Nat.le_trans hlo (row_lo r k hk))
 exact⟨h.vw,h.vo,h.vn,f h.ms,f h.ws,f h.es,f h.os,f h.ns,h.on,fun x hx=>f (h.puts x hx),fun x hx=>f (h.parts x hx),h.alone⟩
theorem Rows.is {w:World} {lo:Nat} {s:StV} {a:Ads} {LW:List (Lay BrV)} {LO LN:List (Lay PendV)} (h:Rows w lo s a LW LO LN) (hd:s.deep):StIs w a s where
 ms:=Tl.of_own (n:=6) (f:=msgC) (fun _=>rfl) h.ms
 waits:=by
  refine⟨LW,h.vw,Tl.of_own (n:=2) (f:=brC) (B:=lo) (e:=81) (fun _=>rfl) ?_,fun x hx=>own_ps (ownsRow_base (h.puts x hx) (fun _ _=>Nat.zero_le _)) (hd.puts x.v (by rw[←h.vw];exact List.mem_map_of_mem hx))⟩;have:=h.ws;rw[vcells_flat,flat_map,←h.vw,List.length_map]at this;exact this
 ends:=by
  refine Tl.of_own (n:=2) (f:=endC) (B:=lo) (e:=61) (fun _=>rfl) ?_;have:=h.es;rw[vcells_flat,flat_map]at this;exact this
 open_:=by
  refine⟨LO,h.vo,Tl.of_own (n:=2) (f:=pendC) (B:=lo) (e:=65) (fun _=>rfl) ?_,fun x hx=>own_il (ownsRow_base (h.parts x (List.mem_append.2 (.inl hx))) (fun _ _=>Nat.zero_le _)) (hd.open_ x.v (by rw[←h.vo];exact List.mem_map_of_mem hx))⟩;have:=h.os;rw[vcells_flat,flat_map,←h.vo,List.length_map]at this;exact this
 noes:=by
  refine⟨LN,h.vn,Tl.of_own (n:=2) (f:=pendC) (B:=lo) (e:=65) (fun _=>rfl) ?_,fun x hx=>own_il (ownsRow_base (h.parts x (List.mem_append.2 (.inr hx))) (fun _ _=>Nat.zero_le _)) (hd.noes x.v (by rw[←h.vn];exact List.mem_map_of_mem hx))⟩;have:=h.ns;rw[vcells_flat,flat_map,←h.vn,List.length_map]at this;exact this
structure RecV.deep (r:RecV):Prop where
 tid:okI r.tid
 puts:∀i,i<r.puts.length→(r.puts.getD i putNone).1.size≤9223372036854775807∧(r.puts.getD i putNone).2.size≤9223372036854775807
 parts:∀n∈r.parts,-9223372036854775808≤n∧n≤9223372036854775807
theorem textB_few {x:ByteArray} {n:Nat} (h:x.size≤n) (hn:n≤60000):(textB x).length≤2+n:=by
 unfold textB;rw[List.length_append,smallB_len,List.length_take];omega
theorem flat_few {α:Type} (f:α→List UInt8) (l:List α) {m:Nat} (h:∀x∈l,(f x).length≤m):(l.flatMap f).length≤l.length*m:=flat_le f l h
theorem puts_all {l:List (ByteArray×ByteArray)} (h:putsB l=true):l.length≤10∧∀p∈l,putB p=true:=by
 unfold putsB at h;simp only[Bool.and_eq_true,decide_eq_true_eq,List.all_eq_true]at h;exact⟨by first | exact h.1 | exact h.2,fun p hp=>by first | exact h.2 p hp | exact h.1 p hp⟩
theorem recBytes_wait_few {x:BrV} (h:putsB x.puts=true):(recBytes (waitR x)).length≤800:=by
 obtain⟨h1,h2⟩:=puts_all h;have e:recBytes (waitR x)=smallB 4++longB x.tid++(smallB x.puts.length++putsBy x.puts):=rfl
 have h3:=flat_few (fun p:ByteArray×ByteArray=>textB p.1++textB p.2) x.puts (m:=72) (fun p hp=>by
  have:=putB_sizes (h2 p hp);have a:=textB_few this.1 (by omega);have b:=textB_few this.2 (by omega);rw[List.length_append]
  omega)
 have h4:x.puts.length*72≤10*72:=Nat.mul_le_mul_right _ h1;have e2:(putsBy x.puts).length≤x.puts.length*72:=h3;rw[e];simp only[List.length_append,smallB_len,longB_len];omega
theorem recBytes_pend_few {x:PendV} (h:risingB x.parts=true):(recBytes (pendR x)).length≤800:=by
 have h1:=(risingB_iff.1 h).2.2;have e:recBytes (pendR x)=smallB 6++longB x.tid++(smallB x.parts.length++partsBy x.parts):=rfl;rw[e];simp only[List.length_append,smallB_len,longB_len,partsBy_len];omega
theorem layNumbers_calls (s:StV) (a:Ads) (w:World):Calls Tryz.prog 104 #[.agg (s.cells a)] w fun e w'=>∃v,e=.returned v∧w'.ownsRow w.heap.size 5 1 v (stNumB s).length (u8s (stNumB s))∧Turn [] w w':=by
 have T1:=Turn.alloc [] w (.cells (s.cells a) 27);have T2:=Turn.alloc [] (w.alloc (.cells (s.cells a) 27)) (.cells #[.slice none 0 0] 184);have o0:=OutIs.new (w.alloc (.cells (s.cells a) 27)) 184;have e1:(w.alloc (.cells (s.cells a) 27)).heap.size=w.heap.size+1:=by simp
 rw[e1]at o0;have HB:Hid (∀wx,OnlyN ⟨w.heap.size+1,0,none⟩ ((w.alloc (.cells (s.cells a) 27)).alloc (.cells #[.slice none 0 0] 184)) wx→wx.heap[w.heap.size]?=some (.cells (s.cells a) 27)):=η (fun wx n=>n.turn.heap (T2.heap (heap_alloc_new w _)));have HT:Hid (∀wx,OnlyN ⟨w.heap.size+1,0,none⟩ ((w.alloc (.cells (s.cells a) 27)).alloc (.cells #[.slice none 0 0] 184)) wx→Turn [] w wx):=η (fun wx n=>(T1.trans T2).trans n.turn (fun i hi=>.inr (by simp at hi;omega)));have HSZ:Hid (w.heap.size≤((w.alloc (.cells (s.cells a) 27)).alloc (.cells #[.slice none 0 0] 184)).heap.size):=η (T1.trans T2).size;have HL:Hid (stNumB s=smallB s.broker++longB s.nextId++longB s.nextSeq++smallB s.tx):=η rfl;have B0:=T2.heap (heap_alloc_new w (.cells (s.cells a) 27));have O0:=η o0;clear o0;unfold StV.cells at*;obtain⟨L,hL⟩:=ε (stNumB s);rw[←hL]at HL ⊢;obtain⟨v0,h0⟩:=ε s.broker;obtain⟨v1,h1⟩:=ε s.nextId;obtain⟨v2,h2⟩:=ε s.nextSeq;obtain⟨v3,h3⟩:=ε s.tx;rw[←h0,←h1,←h2,←h3]at HL;rw[←h0,←h1,←h2,←h3]at B0 HB HT HSZ O0 ⊢;obtain⟨c0,c1,c2,c3,c4,c5,c6,c7,c8⟩:=nine_of B0;clear hL h0 h1 h2 h3 T1 T2 e1 B0;go_in;go_wp2_with fail;refine(small_out (w.heap.size+1) 0 [] v0 _ O0.out (by simp)).mono ?_;rintro e x1 ⟨rfl,o1,n1⟩;have N1:=η n1;have O1:=η o1;clear o1 n1 c0 c1 c2 c3 c4 c5 c6 c7 c8;obtain⟨c0,c1,c2,c3,c4,c5,c6,c7,c8⟩:=nine_of (HB.out _ N1.out);go_wp2_with fail;refine(long_out (w.heap.size+1) 0 _ v1 _ O1.out (by simp[smallB_len])).mono ?_;rintro e x2 ⟨rfl,o1,n1⟩;have N2:=η (N1.out.trans n1);have O2:=η o1;clear o1 n1 c0 c1 c2 c3 c4 c5 c6 c7 c8;obtain⟨c0,c1,c2,c3,c4,c5,c6,c7,c8⟩:=nine_of (HB.out _ N2.out);go_wp2_with fail;refine(long_out (w.heap.size+1) 0 _ v2 _ O2.out (by simp[smallB_len,longB_len])).mono ?_;rintro e x3 ⟨rfl,o1,n1⟩;have N3:=η (N2.out.trans n1);have O3:=η o1;clear o1 n1 c0 c1 c2 c3 c4 c5 c6 c7 c8;obtain⟨c0,c1,c2,c3,c4,c5,c6,c7,c8⟩:=nine_of (HB.out _ N3.out);go_wp2_with fail;refine(small_out (w.heap.size+1) 0 _ v3 _ O3.out (by simp[smallB_len,longB_len])).mono ?_;rintro e x4 ⟨rfl,o1,n1⟩;have N4:=η (N3.out.trans n1);rw[List.nil_append,←HL.out]at o1;obtain⟨ao,c,k1,k2,k3,k4⟩:=o1
 have HO:=η (ownsRow_base k4 (base':=w.heap.size) (fun k hk=>by
  cases ao with
  | none=>cases hk
  | some A=>
   have:=N4.out.fresh _ _ _ A k1 rfl;have h2:=HSZ.out;have h5:A.block=k:=by simpa[Value.ownBlock]using hk
   rw[←h5]
   exact Nat.le_trans h2 this))
 clear n1 k2 k3 k4 c0 c1 c2 c3 c4 c5 c6 c7 c8;go_wp2_with fail;go_ret;exact⟨_,rfl,HO.out,HT.out _ N4.out⟩
theorem home_ok10 {t:Int} (h:0<homeZ t):okI t:=by
 unfold homeZ at h;split at h
 · rename_i hc;obtain⟨h1,h2,h3,h4⟩:=hc;unfold okI;omega
 · omega
theorem MayP.fit {s:StV} (h:MayP s):s.fit:=by
 have hb:1≤s.broker∧s.broker≤8:=by
  have:=h.broker;unfold brokerB at this;simpa using this
 refine⟨by unfold okI;omega,by have:=h.id1;have:=h.id2;unfold okI;omega,by have:=h.seq1;have:=h.seq2;unfold okI;omega,by have:=h.tx1;have:=h.tx2;unfold okI;omega,fun m hm=>?_,fun x hx=>home_ok10 (h.waits x hx).1,fun x hx=>home_ok10 (h.ends x hx),fun x hx=>home_ok10 ?_,fun x hx=>home_ok10 ?_⟩
 · obtain⟨h1,h2,h3,h4,h5,h6,h7,h8,h9⟩:=h.ms m hm;have hs:=h.seq2;have hp:=putB_sizes (p:=(m.queue,m.body)) (by unfold putB;rw[h5,h6];rfl);dsimp only at hp;refine⟨home_ok10 (by rw[h3];omega),by unfold okI;omega,by unfold okI;omega,?_,by omega,by omega⟩;rcases h9 with h9 | h9
   · rw[h9];unfold okI;omega
   · exact home_ok10 h9.1
 · rw[(h.open_ x hx).1.1];omega
 · rw[(h.noes x hx).1.1];omega
theorem rising_nums {l:List Int} (h:risingB l=true):l.length≤7∧∀n∈l,1≤n∧n≤8:=by
 obtain⟨h1,-,h3⟩:=risingB_iff.1 h;refine⟨h3,fun n hn=>?_⟩;have:=h1 n hn;unfold brokerB at this;simpa using this
theorem MayP.few {s:StV} (h:MayP s):s.few:=
 ⟨by have:=h.lms;omega,by have:=h.lwaits;omega,by have:=h.lends;omega,by have:=h.lopen;omega,by have:=h.lnoes;omega,
  fun x hx=>by have:=(puts_all (h.waits x hx).2.2).1;omega,fun x hx=>by have:=(rising_nums (h.open_ x hx).1.2.2.1).1;omega,fun x hx=>by have:=(rising_nums (h.noes x hx).1.2.2.1).1;omega⟩
theorem MayP.deep {s:StV} (h:MayP s):s.deep where
 puts:=fun x hx i hi=>by
  have:=putB_sizes ((puts_all (h.waits x hx).2.2).2 (x.puts.getD i putNone) (by simp[List.getD,hi]));omega
 open_:=fun x hx n hn=>by have:=(rising_nums (h.open_ x hx).1.2.2.1).2 n hn;omega
 noes:=fun x hx n hn=>by have:=(rising_nums (h.noes x hx).1.2.2.1).2 n hn;omega
end Go.Proofs.YtkjpjfghklgdhaaGreat
namespace Go.Proofs
open Go.Shelf
def Tryz.sortS_ren:Go.Shelf.Ren:=⟨fun | 6=>87 | 8=>157 | 9=>156 | 19=>210 | 20=>211 | 21=>201 | 22=>202 | 23=>203 | 24=>204 | 25=>205 | 26=>206 | 27=>207 | 28=>208 | 29=>209 | 36=>240 | 31=>241 | 32=>242 | 37=>243 | 38=>244 | 39=>245 | 41=>257 | n=>n,fun | 27=>68 | 29=>9 | 3=>3 | 32=>173 | 26=>68 | 0=>0 | 44=>220 | 46=>177 | 4=>4 | 36=>213 | 35=>212 | 41=>143 | 5=>5 | 9=>9 | 53=>247 | 57=>251 | 63=>261 | 64=>262 | n=>n,fun | n=>n⟩
theorem Tryz.sortS:Go.Proofs.SlLaysM.n6 Tryz.prog Tryz.sortS_ren:={
 mixed:=by kernel_rfl
 f6:=⟨Tryz.f87.name,by decide,Tryz.func87.trans (congrArg some (by kernel_rfl))⟩
 f8:=Tryz.func157.trans (congrArg some (by kernel_rfl))
 f9:=⟨Tryz.f156.name,by decide,Tryz.func156.trans (congrArg some (by kernel_rfl))⟩
 f19:=Tryz.func210.trans (congrArg some (by kernel_rfl))
 f20:=Tryz.func211.trans (congrArg some (by kernel_rfl))
 f21:=⟨Tryz.f201.name,by decide,Tryz.func201.trans (congrArg some (by kernel_rfl))⟩
 f22:=⟨Tryz.f202.name,by decide,Tryz.func202.trans (congrArg some (by kernel_rfl))⟩
 f23:=⟨Tryz.f203.name,by decide,Tryz.func203.trans (congrArg some (by kernel_rfl))⟩
 f24:=⟨Tryz.f204.name,by decide,Tryz.func204.trans (congrArg some (by kernel_rfl))⟩
 f25:=⟨Tryz.f205.name,by decide,Tryz.func205.trans (congrArg some (by kernel_rfl))⟩
 f26:=⟨Tryz.f206.name,by decide,Tryz.func206.trans (congrArg some (by kernel_rfl))⟩
 f27:=⟨Tryz.f207.name,by decide,Tryz.func207.trans (congrArg some (by kernel_rfl))⟩
 f28:=⟨Tryz.f208.name,by decide,Tryz.func208.trans (congrArg some (by kernel_rfl))⟩
 f29:=⟨Tryz.f209.name,by decide,Tryz.func209.trans (congrArg some (by kernel_rfl))⟩
 f31:=Tryz.func241.trans (congrArg some (by kernel_rfl))
 f32:=Tryz.func242.trans (congrArg some (by kernel_rfl))
 f36:=⟨Tryz.f240.name,by decide,Tryz.func240.trans (congrArg some (by kernel_rfl))⟩
 f37:=⟨Tryz.f243.name,by decide,Tryz.func243.trans (congrArg some (by kernel_rfl))⟩
 f38:=⟨Tryz.f244.name,by decide,Tryz.func244.trans (congrArg some (by kernel_rfl))⟩
 f39:=⟨Tryz.f245.name,by decide,Tryz.func245.trans (congrArg some (by kernel_rfl))⟩
 f41:=⟨Tryz.f257.name,by decide,Tryz.func257.trans (congrArg some (by kernel_rfl))⟩
 t0:=Tryz.underlying0
 a0:=Tryz.isAgg0
 z0:=Tryz.sizeOf0
 v0:=Tryz.zeroValue0
 t3:=Tryz.underlying3
 a3:=Tryz.isAgg3
 z3:=Tryz.sizeOf3
 v3:=Tryz.zeroValue3
 t4:=Tryz.underlying4
 a4:=Tryz.isAgg4
 z4:=Tryz.sizeOf4
 v4:=Tryz.zeroValue4
 t5:=Tryz.underlying5
 a5:=Tryz.isAgg5
 z5:=Tryz.sizeOf5
 v5:=Tryz.zeroValue5
 t9:=Tryz.underlying9
 a9:=Tryz.isAgg9
 z9:=Tryz.sizeOf9
 v9:=Tryz.zeroValue9
 t26:=Tryz.underlying68
 a26:=Tryz.isAgg68
 z26:=Tryz.sizeOf68
 v26:=Tryz.zeroValue68
 t27:=Tryz.underlying68
 a27:=Tryz.isAgg68
 z27:=Tryz.sizeOf68
 v27:=Tryz.zeroValue68
 t29:=Tryz.underlying9
 a29:=Tryz.isAgg9
 z29:=Tryz.sizeOf9
 v29:=Tryz.zeroValue9
 t32:=Tryz.underlying173
 a32:=Tryz.isAgg173
 z32:=Tryz.sizeOf173
 v32:=Tryz.zeroValue173
 t35:=Tryz.underlying212
 a35:=Tryz.isAgg212
 z35:=Tryz.sizeOf212
 v35:=Tryz.zeroValue212
 t36:=Tryz.underlying213
 a36:=Tryz.isAgg213
 z36:=Tryz.sizeOf213
 v36:=Tryz.zeroValue213
 t41:=Tryz.underlying143
 a41:=Tryz.isAgg143
 z41:=Tryz.sizeOf143
 v41:=Tryz.zeroValue143
 t44:=Tryz.underlying220
 a44:=Tryz.isAgg220
 z44:=Tryz.sizeOf220
 v44:=Tryz.zeroValue220
 t46:=Tryz.underlying177
 a46:=Tryz.isAgg177
 z46:=Tryz.sizeOf177
 v46:=Tryz.zeroValue177
 t53:=Tryz.underlying247
 a53:=Tryz.isAgg247
 z53:=Tryz.sizeOf247
 v53:=Tryz.zeroValue247
 t57:=Tryz.underlying251
 a57:=Tryz.isAgg251
 z57:=Tryz.sizeOf251
 v57:=Tryz.zeroValue251
 t63:=Tryz.underlying261
 a63:=Tryz.isAgg261
 z63:=Tryz.sizeOf261
 v63:=Tryz.zeroValue261
 t64:=Tryz.underlying262
 a64:=Tryz.isAgg262
 z64:=Tryz.sizeOf262
 v64:=Tryz.zeroValue262}
def Tryz.cmpS_ren:Go.Shelf.Ren:=⟨fun | 194=>88 | n=>n,fun | 31=>68 | 9=>9 | 3=>3 | 4=>4 | 0=>0 | n=>n,fun | n=>n⟩
theorem Tryz.cmpS:Go.Proofs.Lays.n194 Tryz.prog Tryz.cmpS_ren:={
 mixed:=by kernel_rfl
 f194:=Tryz.func88.trans (congrArg some (by kernel_rfl))
 t0:=Tryz.underlying0
 a0:=Tryz.isAgg0
 z0:=Tryz.sizeOf0
 v0:=Tryz.zeroValue0
 t3:=Tryz.underlying3
 a3:=Tryz.isAgg3
 z3:=Tryz.sizeOf3
 v3:=Tryz.zeroValue3
 t4:=Tryz.underlying4
 a4:=Tryz.isAgg4
 z4:=Tryz.sizeOf4
 v4:=Tryz.zeroValue4
 t9:=Tryz.underlying9
 a9:=Tryz.isAgg9
 z9:=Tryz.sizeOf9
 v9:=Tryz.zeroValue9
 t31:=Tryz.underlying68
 a31:=Tryz.isAgg68
 z31:=Tryz.sizeOf68
 v31:=Tryz.zeroValue68}
end Go.Proofs
namespace Go.Proofs.YtkjpjfghklgdhaaGreat
open Go.RowKit Go.Proofs.YtkjpjfghklgdhaaGreat.V
open Go.Sort Go.Shelf
def bys (l:List ByteArray):List (List UInt8):=l.map fun x=>x.data.toList
theorem txs_holds {w:World} {B g n cap:Nat} {l:List ByteArray} (h:w.ownsRow B 9 1 (.slice (some ⟨g,0,none⟩) n cap) l.length (txs l)):Holds encStr w g 0 (bys l).toArray:=by
 rcases h.2 with⟨e,_⟩ | ⟨g',cap',cur,e,_,hg,h1,h2,h3,h4⟩
 · cases e
 · injection e with e1 e2 e3
   injection e1 with e1
   injection e1 with e1 _ _
   subst e1;intro j hj;have hjl:j<l.length:=by simpa[bys]using hj
   have hc:=h.cells (g:=g) rfl j (.string l[j]) (by simp[txs,hjl]);refine⟨?_,unfrozen_of hg⟩;rw[Addr.add_lit,Nat.zero_add]at hc;rw[Nat.zero_add,hc];have:(bys l).toArray[j]! =l[j].data.toList:=by
    rw[getElem!_pos _ j hj];simp[bys]
   rw[this]
theorem bys_length (l:List ByteArray):(bys l).length=l.length:=by simp[bys]
theorem putRow_turn (w:World) (g q:Nat) (d:Array (List UInt8)) (os:Array Obj):Turn [g] w (grow (putRow encStr (Sort.ahead w q) g 0 d) os):=by
 have hsz:(putRow encStr (Sort.ahead w q) g 0 d).heap.size=w.heap.size:=by
  simp[putRow,mapBlock,Sort.ahead]
 refine⟨rfl,rfl,rfl,?_,fun k hk hn=>?_⟩
 · show w.heap.size≤((putRow encStr (Sort.ahead w q) g 0 d).heap++os).size;rw[Array.size_append,hsz];omega
 · show((putRow encStr (Sort.ahead w q) g 0 d).heap++os)[k]?=w.heap[k]?;rw[Array.getElem?_append_left (by rw[hsz];exact hk)];have:g≠k:=by simpa using fun e=>hn (by simp[e])
   simp[putRow,mapBlock,Sort.ahead,Array.getElem?_modify,this]
def queuesQ (s:StV) (M:List (ByteArray×ByteArray)):List (List UInt8):=Lib.compact ((bys (namesL s M)).mergeSort fun x y=>decide (x≤y))
def Qs (w:World) (ao:Option Addr) (Q:List (List UInt8)):Prop:=∀j x,Q[j]?=some x→∃g,ao=some ⟨g,0,none⟩∧w.cell? ⟨g,j,none⟩=some (encStr x)
theorem sort_row {w:World} {g cap:Nat} {l:List (List UInt8)} (h:Holds encStr w g 0 l.toArray) (hg:g<w.heap.size) (hn:l.length≤1000000):
 Calls Tryz.prog 87 #[.slice (some ⟨g,0,none⟩) l.length cap] w fun e w'=>e=.returned (.tuple #[])∧Holds encStr w' g 0 (l.mergeSort fun x y=>decide (x≤y)).toArray∧Turn [g] w w':=by
 refine(AnyM.slices_Sort_string Tryz.sortS g 0 cap l w h hg (by omega)).mono ?_;rintro e w' ⟨rfl,q,os,rfl⟩;refine⟨rfl,?_,putRow_turn w g q _ os⟩;exact holds_grow _ _ _ _ _ _ (by simpa using hg) (holds_putRow _ _ _ _ l.toArray _ (holds_ahead _ _ _ _ _ _ h) (by simp))
theorem compact_len (l:List (List UInt8)):(Lib.compact l).length≤l.length:=by
 unfold Lib.compact Lib.compactUpTo;rw[List.length_map];exact Nat.le_trans (List.length_filter_le _ _) (by simp)
theorem compact_row {w:World} {g cap:Nat} {l:List (List UInt8)} (h:Holds encStr w g 0 l.toArray) (hn:l.length≤1000000) (hc:l.length≤cap):
 Calls Tryz.prog 88 #[.slice (some ⟨g,0,none⟩) l.length cap] w fun e w'=>e=.returned (.slice (some ⟨g,0,none⟩) (Lib.compact l).length cap)∧Qs w' (some ⟨g,0,none⟩) (Lib.compact l)∧Turn [g] w w':=by
 refine(Any.slices_Compact_string Tryz.cmpS g 0 cap l w h (by omega) hc).mono ?_;rintro e w' ⟨rfl,q,rfl⟩;have hcl:=compact_len l;have hH:=holds_putRow encStr (Sort.ahead w q) g 0 l.toArray (Lib.compact l++List.replicate (l.length-(Lib.compact l).length) []).toArray (holds_ahead _ _ _ _ _ _ h) (by simp;omega);refine⟨rfl,fun j x hj=>⟨g,rfl,?_⟩,?_⟩
 · have hjl:j<(Lib.compact l).length:=(List.getElem?_eq_some_iff.1 hj).1;have h1:=(hH j (by simp;omega)).1;rw[Nat.zero_add]at h1;rw[h1];rw[getElem!_pos _ j (by simp;omega)];have h2:=(List.getElem?_eq_some_iff.1 hj).2;simp[hjl,h2]
 · have:=putRow_turn w g q (Lib.compact l++List.replicate (l.length-(Lib.compact l).length) []).toArray #[];rw[grow_empty]at this;exact this
theorem queues_calls {w:World} {a:Ads} {s:StV} (h:StIs w a s) {am:Option Addr} {cm:Nat} {M:List (ByteArray×ByteArray)} (hm:Ps w am cm M) (hn:s.ms.length+pending s+M.length≤1000000):
 Calls Tryz.prog 36 #[.agg (s.cells a),.slice am M.length cm] w fun e w'=>∃ao c,e=.returned (.slice ao (queuesQ s M).length c)∧Qs w' ao (queuesQ s M)∧Turn [] w w':=by
 have C1:=η (fun wx (tt:Turn [] w wx)=>names_calls (h.still tt) (hm.turn tt) hn);have hnl:(namesL s M).length≤1000000:=by
  unfold namesL;have:=pend_sum s.waits s.waits.length;rw[List.take_length]at this;have e:pending s=(s.waits.map fun x:BrV=>x.puts.length).sum:=rfl;simp only[List.length_append,List.length_map];omega
 have HQ:Hid (queuesQ s M=Lib.compact ((bys (namesL s M)).mergeSort fun x y=>decide (x≤y))):=η rfl;obtain⟨Q,hQ⟩:=ε (queuesQ s M);obtain⟨Z,hZ⟩:=ε (namesL s M);rw[←hQ,←hZ]at HQ;rw[←hZ]at C1 hnl;rw[←hQ];have T0:=η (Turn.alloc [] w (.cells (s.cells a) 27));have BX0:=s.boxed a (Turn.refl [] (w.alloc (.cells (s.cells a) 27)));have HNL:=η hnl;clear hQ hZ h hm hn hnl;unfold StV.cells at*;obtain⟨b0,b1,b2,b3,b4,b5,b6,b7,b8⟩:=BX0;obtain⟨nM,hnM⟩:=ε M.length;rw[←hnM]at C1 ⊢;clear hnM;go_in;go_wp2_with fail;refine(C1.out _ T0.out).mono ?_;rintro e x1 ⟨v,rfl,r1,t1⟩;have T1:=η (T0.out.trans t1);rcases r1.2 with⟨rfl,h0⟩ | ⟨g,cap,cur,rfl,hlo,hg,hle,hmx,hsz,htk⟩
 · have hz:Z=[]:=List.eq_nil_of_length_eq_zero h0;have HQ2:Hid (Q=[]):=η (by rw[HQ.out,hz];simp[bys,Lib.compact,Lib.compactUpTo]);have CS:=η (AnyM.slices_Sort_string_none Tryz.sortS none 0 x1);have CC:=η (fun wx=>Any.slices_Compact_string_empty Tryz.cmpS none 0 wx);have e1:Tryz.sortS_ren.f 6=87:=rfl;have e2:Tryz.cmpS_ren.f 194=88:=rfl;rw[e1]at CS;rw[e2]at CC;clear hz h0 r1 t1 C1 b0 b1 b2 b3 b4 b5 b6 b7 b8 HQ e1 e2;go_wp2_with fail;refine CS.out.mono ?_;rintro e w2 ⟨rfl,rfl⟩;go_wp2_with fail;refine(CC.out _).mono ?_;rintro e w3 ⟨rfl,rfl⟩;go_wp2_with fail;go_ret;exact⟨none,0,by rw[HQ2.out];rfl,fun j x hj=>(by rw[HQ2.out]at hj;cases hj),T1.out⟩
 · have hlg:=lt_of_heap hg;have hH:=txs_holds r1;have hbl:=bys_length Z;have CS:=η (sort_row (cap:=cap) hH hlg (by rw[hbl];exact HNL.out));rw[hbl]at CS;have CC:=η (fun wx (hx:Holds encStr wx g 0 ((bys Z).mergeSort fun x y=>decide (x≤y)).toArray)=>compact_row (cap:=cap) hx (by rw[List.length_mergeSort,hbl];exact HNL.out) (by rw[List.length_mergeSort,hbl];exact hle));rw[List.length_mergeSort,hbl,←HQ.out]at CC;have HLO:=η (Nat.le_trans T0.out.size hlo);obtain⟨nz,hnz⟩:=ε Z.length;rw[←hnz]at CS CC ⊢;clear hnz hlg hH hbl hlo hg hle hmx hsz htk r1 t1 C1 b0 b1 b2 b3 b4 b5 b6 b7 b8 HQ;go_wp2_with fail;refine CS.out.mono ?_;rintro e w2 ⟨rfl,h2,t2⟩;have H2:=η h2;have T2:=η (T1.out.trans t2 (fun i hi=>.inr (by simp at hi;have:=HLO.out;omega)));clear h2 t2;go_wp2_with fail;refine(CC.out _ H2.out).mono ?_;rintro e w3 ⟨rfl,h3,t3⟩;have H3:=η h3;have T3:=η (T2.out.trans t3 (fun i hi=>.inr (by simp at hi;have:=HLO.out;omega)));clear h3 t3;go_wp2_with fail;go_ret;exact⟨_,_,rfl,H3.out,T3.out⟩
def countT (q:ByteArray) (l:List ByteArray):Nat:=(l.filter fun y=>decide (y=q)).length
def roomB (s:StV) (M:List (ByteArray×ByteArray)) (q:ByteArray):Bool:=if countT q (namesL s M)=0 then decide ((queuesQ s M).length<6)else decide (countT q (namesL s M)<12)
theorem room_calls {w:World} {a:Ads} {s:StV} (h:StIs w a s) {am:Option Addr} {cm:Nat} {M:List (ByteArray×ByteArray)} (hm:Ps w am cm M) (hn:s.ms.length+pending s+M.length≤1000000) (q:ByteArray):
 Calls Tryz.prog 32 #[.agg (s.cells a),.string q,.slice am M.length cm] w fun e w'=>e=.returned (.bool (roomB s M q))∧Turn [] w w':=by
 have C1:=η (fun wx (tt:Turn [] w wx)=>names_calls (h.still tt) (hm.turn tt) hn);have C2:=η (fun wx (tt:Turn [] w wx)=>queues_calls (h.still tt) (hm.turn tt) hn);have hnl:(namesL s M).length≤1000000:=by
  unfold namesL;have:=pend_sum s.waits s.waits.length;rw[List.take_length]at this;have e:pending s=(s.waits.map fun x:BrV=>x.puts.length).sum:=rfl;simp only[List.length_append,List.length_map];omega
 obtain⟨ans,ha⟩:=ε (roomB s M q);have HA:Hid (ans=if countT q (namesL s M)=0 then decide ((queuesQ s M).length<6)else decide (countT q (namesL s M)<12)):=η ha;obtain⟨nQ,hnQ⟩:=ε ((queuesQ s M).length);obtain⟨Z,hZ⟩:=ε (namesL s M);rw[←hZ,←hnQ]at HA;rw[←hZ]at C1 hnl;rw[←hnQ]at C2;rw[←ha];have T0:=η (Turn.alloc [] w (.cells (s.cells a) 27));have BX:=η (fun wx (tt:Turn [] (w.alloc (.cells (s.cells a) 27)) wx)=>s.boxed a tt);clear hZ hnQ ha h hm hn;unfold StV.cells at*;obtain⟨b0,b1,b2,b3,b4,b5,b6,b7,b8⟩:=BX.out _ (Turn.refl _ _);obtain⟨nM,hnM⟩:=ε M.length;rw[←hnM]at C1 C2 ⊢;clear hnM;go_in;go_wp2_with fail;refine(C1.out _ T0.out).mono ?_;rintro e x1 ⟨v,rfl,r1,t1⟩;have T1:=η t1;obtain⟨av,cv,rfl⟩:=slice_form r1;have R1:=η r1;obtain⟨n,hn⟩:=ε Z.length;have HN:=η hn;rw[←hn]at hnl ⊢;clear hn t1 r1 C1 b0 b1 b2 b3 b4 b5 b6 b7 b8;go_wp2_with fail;go_loopw [14,7] (fun vi vc wx=>∃k:Nat,k≤n∧vi=.int .i64 (k:Int)∧vc=.int .i64 (countT q (Z.take k):Nat)∧wx=x1) (fun vi _ _=>n-(intOf vi).toNat)
 case atStart=>exact⟨0,by omega,rfl,by simp[countT],rfl⟩
 case round=>
  obtain⟨k,hk,rfl,rfl,rfl⟩:=hrel;have hck:(countT q (Z.take k))≤n:=by
   have h1:=List.length_filter_le (fun y=>decide (y=q)) (Z.take k);rw[List.length_take]at h1;unfold countT;omega
  by_cases hkn:k<n
  · have hkl:k<Z.length:=by rw[←HN.out];exact hkn
    obtain⟨y,hy⟩:∃y,Z[k]?=some y:=⟨_,List.getElem?_eq_getElem hkl⟩
    have hrow:=R1.out;rcases hrow.2 with⟨_,h0⟩ | ⟨g,cap,cur,e,hlo,hg,hle,hmx,hsz,htk⟩
    · omega
    injection e with e1 _ e3
    subst e1;have q0:wr.cell? ⟨g,k,none⟩=some (.string y):=by
     have:=hrow.cells (g:=g) rfl k (.string y) (by simp[txs,hy]);rwa[Addr.add_lit,Nat.zero_add]at this
    have hb:0≤(k:Int)∧(k:Int)<(n:Int):=by omega
    have HX:Hid (countT q (Z.take (k+1))=countT q (Z.take k)+(if y=q then 1 else 0)):=η (by
     unfold countT;rw[List.take_add_one,hy,List.filter_append,List.length_append];by_cases hyq:y=q
     · simp[hyq]
     · simp[hyq])
    obtain⟨ck,hck2⟩:=ε (countT q (Z.take k));rw[←hck2]at HX hck ⊢;clear hrow e3 hlo hg hle hmx hsz htk hy hck2;by_cases hyq:y=q
    · subst hyq;have HX2:Hid (countT y (Z.take (k+1))=ck+1):=η (by rw[HX.out,if_pos rfl]);clear HX;go_wp2_with fail;go_roundw
      case rel=>exact⟨k+1,by omega,by go_num,by rw[HX2.out];go_num,trivial⟩
      case measure=>simp[intOf];omega
    · have hne:=txt_ne hyq;have HX2:Hid (countT q (Z.take (k+1))=ck):=η (by rw[HX.out,if_neg hyq,Nat.add_zero]);clear HX hyq;go_wp2_with fail;go_roundw
      case rel=>exact⟨k+1,by omega,by go_num,by rw[HX2.out],trivial⟩
      case measure=>simp[intOf];omega
  · have hkk:k=n:=by omega
    have HF:Hid (Z.take k=Z):=η (List.take_of_length_le (by rw[hkk,HN.out];exact Nat.le_refl _));rw[HF.out]at hck ⊢;obtain⟨ck,hck2⟩:=ε (countT q Z);rw[←hck2]at HA hck ⊢;clear HF hck2 hkk;by_cases h0:ck=0
    · have HA2:Hid (ans=decide (nQ<6)):=η (by rw[HA.out,if_pos h0]);subst h0;obtain⟨b0,b1,b2,b3,b4,b5,b6,b7,b8⟩:=BX.out _ T1.out;clear HA;go_wp2_with fail;refine(C2.out _ (T0.out.trans T1.out)).mono ?_;rintro e x2 ⟨aq,cq,rfl,-,t2⟩;have T2:=η ((T0.out.trans T1.out).trans t2);clear t2 C2;have HD:Hid (decide ((nQ:Int)<6)=decide (nQ<6)):=η (decide_eq_decide.2 (by omega));go_wp2_with fail;go_ret;exact⟨ret_bool (by rw[HA2.out,HD.out]),T2.out⟩
    · have HA2:Hid (ans=decide (ck<12)):=η (by rw[HA.out,if_neg h0]);have hne:((ck:Int)==0)=false:=by simpa using h0
      have HD:Hid (decide ((ck:Int)<12)=decide (ck<12)):=η (decide_eq_decide.2 (by omega));clear HA C2 h0;go_wp2_with fail;go_ret;exact⟨ret_bool (by rw[HA2.out,HD.out]),T0.out.trans T1.out⟩
def stepM (q:ByteArray) (acc:Option MsgV) (x:MsgV):Option MsgV:=if freeB q x=true then (match acc with | none=>some x | some b=>if x.seq<b.seq then some x else some b)else acc
def bestM (q:ByteArray) (l:List MsgV):Option MsgV:=l.foldl (stepM q) none
theorem bestM_next {q:ByteArray} {l:List MsgV} {k:Nat} {x:MsgV} (h:l[k]?=some x):bestM q (l.take (k+1))=stepM q (bestM q (l.take k)) x:=by
 unfold bestM;rw[List.take_add_one,h,List.foldl_append];rfl
def msg0:MsgV:=⟨0,⟨#[]⟩,⟨#[]⟩,0,0,0⟩
structure Nx (w0:World) (cs:Array Value) (m:MsgV) (w:World):Prop where
 box:w.heap[w0.heap.size]?=some (.cells cs 27)
 res:w.heap[w0.heap.size+1]?=some (.cells (msgC msg0).toArray 49)
 nxt:w.heap[w0.heap.size+1+1]?=some (.cells (msgC m).toArray 49)
 turn:Turn [] w0 w
theorem Nx.still {w0 w w':World} {cs:Array Value} {m:MsgV} (h:Nx w0 cs m w) (t:Turn [] w w'):Nx w0 cs m w':=⟨t.heap h.box,t.heap h.res,t.heap h.nxt,h.turn.trans t⟩
theorem Nx.new (w:World) (cs:Array Value):Nx w cs msg0 (((w.alloc (.cells cs 27)).alloc (.cells (msgC msg0).toArray 49)).alloc (.cells (msgC msg0).toArray 49)):=by
 have e1:(w.alloc (.cells cs 27)).heap.size=w.heap.size+1:=by simp
 have e2:((w.alloc (.cells cs 27)).alloc (.cells (msgC msg0).toArray 49)).heap.size=w.heap.size+1+1:=by simp
 have T1:=Turn.alloc [] w (.cells cs 27);have T2:=Turn.alloc [] (w.alloc (.cells cs 27)) (.cells (msgC msg0).toArray 49);have T3:=Turn.alloc [] ((w.alloc (.cells cs 27)).alloc (.cells (msgC msg0).toArray 49)) (.cells (msgC msg0).toArray 49);have B2:=heap_alloc_new (w.alloc (.cells cs 27)) (.cells (msgC msg0).toArray 49);have B3:=heap_alloc_new ((w.alloc (.cells cs 27)).alloc (.cells (msgC msg0).toArray 49)) (.cells (msgC msg0).toArray 49);rw[e1]at B2;rw[e2]at B3;exact⟨T3.heap (T2.heap (heap_alloc_new w _)),T3.heap B2,B3,(T1.trans T2).trans T3⟩
theorem six_put {w:World} {g:Nat} {m x:MsgV} (h:w.heap[g]?=some (.cells (msgC m).toArray 49)):(six w g 0 (.int .i64 x.id) (.string x.queue) (.string x.body) (.int .i64 x.seq) (.int .i64 x.count) (.int .i64 x.by_)).heap[g]?=some (.cells (msgC x).toArray 49):=by
 have h1:=block_set (i:=0+5) (block_set (i:=0+4) (block_set (i:=0+3) (block_set (i:=0+2) (block_set (i:=0+1) (block_set (i:=0) h (.int .i64 x.id)) (.string x.queue)) (.string x.body)) (.int .i64 x.seq)) (.int .i64 x.count)) (.int .i64 x.by_);exact h1
theorem Nx.put {w0 w:World} {cs:Array Value} {m:MsgV} (h:Nx w0 cs m w) (x:MsgV):Nx w0 cs x (six w (w0.heap.size+1+1) 0 (.int .i64 x.id) (.string x.queue) (.string x.body) (.int .i64 x.seq) (.int .i64 x.count) (.int .i64 x.by_)):=by
 have t:=six_turn' w (w0.heap.size+1+1) 0 (.int .i64 x.id) (.string x.queue) (.string x.body) (.int .i64 x.seq) (.int .i64 x.count) (.int .i64 x.by_);exact⟨t.heap h.box (by simp;omega),t.heap h.res,six_put h.nxt,h.turn.trans t (fun i hi=>.inr (by simp at hi;omega))⟩
theorem next_calls {w:World} {a:Ads} {s:StV} (h:StIs w a s) (q:ByteArray):
 Calls Tryz.prog 31 #[.agg (s.cells a),.string q] w fun e w'=>e=.returned (.tuple #[.agg (msgC ((bestM q s.ms).getD msg0)).toArray,.bool (bestM q s.ms).isSome])∧Turn [] w w':=by
 have HMS:=η h.ms;have hlen:=h.ms.len;obtain⟨n,hnn⟩:=ε s.ms.length;have HN:=η hnn;have NX0:=η (Nx.new w (s.cells a));have HHE:=η held_calls;have HDE:=η dead_calls;unfold StV.cells at*;rw[←hnn]at NX0 hlen ⊢;clear hnn h;obtain⟨b0,b1,b2,b3,b4,b5,b6,b7,b8⟩:=nine_of NX0.out.box;go_in;go_wp2_with fail;clear b0 b1 b2 b3 b4 b5 b6 b7 b8;obtain⟨cs,NX1⟩:=(⟨_,NX0.out⟩:∃cs,Nx w cs msg0 _)
 have NX1:=η NX1;clear NX0;go_loopw [13,7] (fun vi vb wx=>∃k:Nat,k≤n∧vi=.int .i64 (k:Int)∧vb=.bool (bestM q (s.ms.take k)).isSome∧Nx w cs ((bestM q (s.ms.take k)).getD msg0) wx) (fun vi _ _=>n-(intOf vi).toNat)
 case atStart=>exact⟨0,by omega,rfl,rfl,NX1.out⟩
 case round=>
  clear NX1;obtain⟨k,hk,rfl,rfl,hnx⟩:=hrel;have HX:=η hnx;clear hnx;by_cases hkn:k<n
  · have hkl:k<s.ms.length:=by rw[←HN.out];exact hkn
    obtain⟨x,hx⟩:∃x,s.ms[k]?=some x:=⟨_,List.getElem?_eq_getElem hkl⟩
    obtain⟨b,off,hae,hat⟩:=(HMS.out.still HX.out.turn).at hx;have HB:Hid (bestM q (s.ms.take (k+1))=stepM q (bestM q (s.ms.take k)) x):=η (bestM_next hx);have a0:a.m=some ⟨b,off,none⟩:=hae;have q0:=hat 0 (.int .i64 x.id) rfl;have q1:=hat 1 (.string x.queue) rfl;have q2:=hat 2 (.string x.body) rfl;have q3:=hat 3 (.int .i64 x.seq) rfl;have q4:=hat 4 (.int .i64 x.count) rfl;have q5:=hat 5 (.int .i64 x.by_) rfl;rw[Nat.add_zero]at q0;have CH:=η (HHE.out x);have CD:=η (HDE.out x);have HFR:Hid (freeB q x=(decide (x.queue=q)&&(decide (x.by_=0)&&!deadB x))):=η rfl;obtain⟨rf,hrf⟩:=ε (freeB q x);have HST:Hid (stepM q (bestM q (s.ms.take k)) x=if rf=true then (match bestM q (s.ms.take k)with | none=>some x | some b=>if x.seq<b.seq then some x else some b)else bestM q (s.ms.take k)):=η (by rw[hrf];rfl);rw[←hrf]at HFR;obtain⟨rb,hrb⟩:=ε (decide (x.by_=0));obtain⟨rd,hrd⟩:=ε (deadB x);rw[←hrb]at CH HFR;rw[←hrd]at CD HFR;obtain⟨bo,hbo⟩:=ε (bestM q (s.ms.take k));rw[←hbo]at HST HB HX ⊢;have hb2:0≤(k:Int)∧(k:Int)<(n:Int):=by omega
    have TB:=Turn.alloc [] wr (.cells #[.int .i64 x.id,.string x.queue,.string x.body,.int .i64 x.seq,.int .i64 x.count,.int .i64 x.by_] 49);have NB:=η (HX.out.still TB);have XB:Hid (∀wy,Turn [] (wr.alloc (.cells #[.int .i64 x.id,.string x.queue,.string x.body,.int .i64 x.seq,.int .i64 x.count,.int .i64 x.by_] 49)) wy→wy.heap[wr.heap.size]?=some (.cells (msgC x).toArray 49)):=η (fun wy ty=>ty.heap (heap_alloc_new wr _));rw[a0];obtain⟨i1,qu,bd,sq,cn,by1⟩:=x;dsimp only at q0 q1 q2 q3 q4 q5 HFR HST NB XB;unfold msgC at CH CD;dsimp only at CH CD;clear hat hae hx hrf hrb hrd hbo TB a0;by_cases hq:qu=q
    case neg=>
     have hne:(qu.toList != q.toList)=true:=by simpa using txt_ne hq
     have hne2:=txt_ne hq;have HE:Hid (bestM q (s.ms.take (k+1))=bo):=η (by rw[HB.out,HST.out,HFR.out,decide_eq_false hq];rfl);clear HB HST HFR CH CD hq;go_wp2_with fail;go_roundw
     case rel=>exact⟨k+1,by omega,by go_num,by rw[HE.out],by rw[HE.out];exact NB.out⟩
     case measure=>simp[intOf];omega
    case pos=>
     subst hq;have HFR2:Hid (rf=(rb&&!rd)):=η (by rw[HFR.out];simp);clear HFR;go_wp2_with fail;refine(CH.out _).mono ?_;rintro e x1 ⟨rfl,t1⟩;have U1:=η t1;have N1:=η (NB.out.still t1);clear t1 CH NB q0 q1 q2 q3 q4 q5;have XB1:Hid (∀wy,Turn [] x1 wy→wy.heap[wr.heap.size]?=some (.cells (msgC ⟨i1,qu,bd,sq,cn,by1⟩).toArray 49)):=η (fun wy ty=>XB.out wy (U1.out.trans ty));clear XB U1;cases rb with
     | false=>
      have HE:Hid (bestM qu (s.ms.take (k+1))=bo):=η (by rw[HB.out,HST.out,HFR2.out];rfl);clear HB HST HFR2 CD XB1;go_wp2_with fail;go_roundw
      case rel=>exact⟨k+1,by omega,by go_num,by rw[HE.out],by rw[HE.out];exact N1.out⟩
      case measure=>simp[intOf];omega
     | true=>
      obtain⟨m0,m1,m2,m3,m4,m5⟩:=six_ofA (XB1.out _ (Turn.refl _ _));go_wp2_with fail;refine(CD.out _).mono ?_;rintro e x2 ⟨rfl,t2⟩;have N2:=η (N1.out.still t2);have h2:=XB1.out _ t2;clear t2 CD N1 XB1 m0 m1 m2 m3 m4 m5;cases rd with
      | true=>
       have HE:Hid (bestM qu (s.ms.take (k+1))=bo):=η (by rw[HB.out,HST.out,HFR2.out];rfl);clear HB HST HFR2 h2;go_wp2_with fail;go_roundw
       case rel=>exact⟨k+1,by omega,by go_num,by rw[HE.out],by rw[HE.out];exact N2.out⟩
       case measure=>simp[intOf];omega
      | false=>
       obtain⟨m0,m1,m2,m3,m4,m5⟩:=six_ofA h2;have HRF:Hid (rf=true):=η (by rw[HFR2.out];rfl);have fr:∀j,x2.frozen? ⟨w.heap.size+1+1,j,none⟩=false:=fun j=>unfrozen_of N2.out.nxt
       obtain⟨z0,z1,z2,z3,z4,z5⟩:=six_ofA N2.out.nxt;clear h2 HFR2;cases bo with
       | none=>
        have HE:Hid (bestM qu (s.ms.take (k+1))=some ⟨i1,qu,bd,sq,cn,by1⟩):=η (by rw[HB.out,HST.out,HRF.out];rfl);have N3:=η (N2.out.put ⟨i1,qu,bd,sq,cn,by1⟩);unfold six at N3;clear HB HST HRF;go_wp2_with fail;go_roundw
        case rel=>exact⟨k+1,by omega,by go_num,by rw[HE.out];rfl,by rw[HE.out];exact N3.out⟩
        case measure=>simp[intOf];omega
       | some bm=>
        obtain⟨j1,ju,jd,jsq,jn,jby⟩:=bm;dsimp only[Option.getD,Option.isSome]at z0 z1 z2 z3 z4 z5 ⊢;by_cases hs:sq<jsq
        · have hd:=decide_eq_true hs;have HE:Hid (bestM qu (s.ms.take (k+1))=some ⟨i1,qu,bd,sq,cn,by1⟩):=η (by rw[HB.out,HST.out,HRF.out];simp[hs]);have N3:=η (N2.out.put ⟨i1,qu,bd,sq,cn,by1⟩);unfold six at N3;clear HB HST HRF hs;go_wp2_with fail;go_roundw
          case rel=>exact⟨k+1,by omega,by go_num,by rw[HE.out];rfl,by rw[HE.out];exact N3.out⟩
          case measure=>simp[intOf];omega
        · have hd:=decide_eq_false hs;have HE:Hid (bestM qu (s.ms.take (k+1))=some ⟨j1,ju,jd,jsq,jn,jby⟩):=η (by rw[HB.out,HST.out,HRF.out];simp[hs]);clear HB HST HRF hs;go_wp2_with fail;go_roundw
          case rel=>exact⟨k+1,by omega,by go_num,by rw[HE.out];rfl,by rw[HE.out];exact N2.out⟩
          case measure=>simp[intOf];omega
  · have hkk:k=n:=by omega
    have HF:Hid (s.ms.take k=s.ms):=η (List.take_of_length_le (by rw[hkk,HN.out];exact Nat.le_refl _));rw[HF.out]at HX ⊢;obtain⟨m,hm⟩:=ε ((bestM q s.ms).getD msg0);have HM:=η hm;rw[←hm]at HX;obtain⟨z0,z1,z2,z3,z4,z5⟩:=six_ofA HX.out.nxt;obtain⟨r0,r1,r2,r3,r4,r5⟩:=six_ofA HX.out.res;have fr:∀j,wr.frozen? ⟨w.heap.size+1,j,none⟩=false:=fun j=>unfrozen_of HX.out.res
    have NH:=six_put (x:=m) HX.out.res;have TF:=six_turn' wr (w.heap.size+1) 0 (.int .i64 m.id) (.string m.queue) (.string m.body) (.int .i64 m.seq) (.int .i64 m.count) (.int .i64 m.by_);unfold six at NH TF;have NH:=η NH;have TF:=η TF;clear HF hm hkk;go_wp2_with fail;refine bodyPost_ret_by (results_row_tmp rfl _ _ (w.heap.size+1) 49 _ (0,0) _ rfl NH.out Tryz.underlying49 rfl (by kernel_rfl)) rfl ?_;exact⟨by rw[←HM.out];rfl,HX.out.turn.trans TF.out (fun i hi=>.inr (by simp at hi;omega))⟩
end Go.Proofs.YtkjpjfghklgdhaaGreat
