/-
  PkBA
-/
import Derived.Test.YtkjpjfghklgdhaaGreatPkAZ
set_option maxHeartbeats 4000000
set_option maxRecDepth 100000
namespace Go.Proofs.YtkjpjfghklgdhaaGreat
open Go.RowKit
theorem six_stores' {w:World} {q:Nat} {a0 a1 a2 a3 a4 a5:Value} {t:TypeId} (b:w.heap[q]?=some (.cells #[a0,a1,a2,a3,a4,a5] t)) (u0 u1 u2 u3 u4 u5:Value):((((((w.setCell ⟨q,0,none⟩ u0).setCell ⟨q,1,none⟩ u1).setCell ⟨q,2,none⟩ u2).setCell ⟨q,3,none⟩ u3).setCell ⟨q,4,none⟩ u4).setCell ⟨q,5,none⟩ u5).heap[q]?=some (.cells #[u0,u1,u2,u3,u4,u5] t):=
 block_set (block_set (block_set (block_set (block_set (block_set b u0) u1) u2) u3) u4) u5
theorem six_turnR (w:World) (q:Nat) (u0 u1 u2 u3 u4 u5:Value):Turn [q] w ((((((w.setCell ⟨q,0,none⟩ u0).setCell ⟨q,1,none⟩ u1).setCell ⟨q,2,none⟩ u2).setCell ⟨q,3,none⟩ u3).setCell ⟨q,4,none⟩ u4).setCell ⟨q,5,none⟩ u5):=by
 have s:=fun(w:World) (i:Nat) (u:Value)=>Turn.setCell (l:=[q]) (b:=q) (i:=i) w (by simp) u
 exact(((((s _ _ u0).trans (s _ _ u1) (fun i hi=>.inl hi)).trans (s _ _ u2) (fun i hi=>.inl hi)).trans (s _ _ u3) (fun i hi=>.inl hi)).trans (s _ _ u4) (fun i hi=>.inl hi)).trans (s _ _ u5) (fun i hi=>.inl hi)
def zeroR:Array Value:=#[.int .i64 0,.int .i64 0,.int .i64 0,.bool false,.slice none 0 0,.slice none 0 0]
structure Dm (w0:World) (b q0 q1 q2:Nat) (cs hs:Array Value) (l:List UInt8) (bad:Bool) (w:World):Prop where
 r0:w.heap[q0]?=some (.cells zeroR 37)
 r1:w.heap[q1]?=some (.cells cs 37)
 r2:w.heap[q2]?=some (.cells hs 234)
 inn:InIs w b l bad
 turn:Turn [b] w0 w
 hb:b<w0.heap.size
 h0:w0.heap.size≤q0
 h1:q0<q1
 h2:q1<q2
theorem Dm.step {w0:World} {b q0 q1 q2:Nat} {cs hs:Array Value} {l l':List UInt8} {bad bad':Bool} {w w':World} (h:Dm w0 b q0 q1 q2 cs hs l bad w) (t:Turn [b] w w') (i:InIs w' b l' bad'):Dm w0 b q0 q1 q2 cs hs l' bad' w':=
 ⟨t.heap h.r0 (by have:=h.hb;have:=h.h0;simp;omega),t.heap h.r1 (by have:=h.hb;have:=h.h0;have:=h.h1;simp;omega),t.heap h.r2 (by have:=h.hb;have:=h.h0;have:=h.h1;have:=h.h2;simp;omega),i,h.turn.trans t (fun i hi=>.inl hi),h.hb,h.h0,h.h1,h.h2⟩
theorem Dm.set {w0:World} {b q0 q1 q2:Nat} {cs hs:Array Value} {l:List UInt8} {bad:Bool} {w:World} (h:Dm w0 b q0 q1 q2 cs hs l bad w) (i:Nat) (v:Value):Dm w0 b q0 q1 q2 (cs.setIfInBounds i v) hs l bad (w.setCell ⟨q1,i,none⟩ v):=by
 have t:Turn [q1] w (w.setCell ⟨q1,i,none⟩ v):=Turn.setCell w (by simp) v;refine⟨t.heap h.r0 (by have:=h.h1;simp;omega),block_set h.r1 v,t.heap h.r2 (by have:=h.h2;simp;omega),h.inn.turn t (by have:=h.hb;have:=h.h0;have:=h.h1;simp;omega),h.turn.trans t (fun i hi=>.inr (by have:=h.h0;have:=h.h1;simp at hi;omega)),h.hb,h.h0,h.h1,h.h2⟩
theorem Dm.ends {w0:World} {b q0 q1 q2:Nat} {cs hs:Array Value} {l:List UInt8} {bad:Bool} {w w':World} (h:Dm w0 b q0 q1 q2 cs hs l bad w) (t:Turn [q0] w w'):InIs w' b l bad∧Turn [b] w0 w':=
 ⟨h.inn.turn t (by have:=h.hb;have:=h.h0;simp;omega),h.turn.trans t (fun i hi=>.inr (by have:=h.h0;simp at hi;omega))⟩
theorem cell_at {w:World} {q i:Nat} {cs:Array Value} {t:TypeId} {v:Value} (h:w.heap[q]?=some (.cells cs t)) (hv:cs[i]?=some v):w.cell? ⟨q,i,none⟩=some v:=by
 rw[cell_of_row _ _ _ _ _ _ h];exact hv
theorem read_calls8 (b:Nat) (l:List UInt8) (w:World) (h:InIs w b l false):
 Calls Tryz.prog 223 #[.pointer (some ⟨b,0,none⟩)] w fun e w'=>∃ap cp aq cq,e=.returned (.agg ((rdRec l).1.cells ap cp aq cq))∧
  w'.ownsRow 0 3 1 (.slice ap (rdRec l).1.parts.length cp) (rdRec l).1.parts.length (i64s (rdRec l).1.parts)∧
  w'.ownsRow 0 45 2 (.slice aq (rdRec l).1.puts.length cq) (rdRec l).1.puts.length (pcells (rdRec l).1.puts)∧
  (∀k,(Value.slice ap (rdRec l).1.parts.length cp).ownBlock=some k→w.heap.size≤k)∧(∀k,(Value.slice aq (rdRec l).1.puts.length cq).ownBlock=some k→w.heap.size≤k)∧
  InIs w' b (rdRec l).2.1 (rdRec l).2.2∧Turn [b] w w':=by
 have hlt:=h.lt;have HLT:=η hlt;have I0:Hid (∀o,InIs (w.alloc o) b l false):=η (fun o=>h.turn (Turn.alloc [] w o) (by simp));unfold rdRec;obtain⟨k,hk⟩:∃k:Nat,k=leN (taken l false 2):=⟨_,rfl⟩
 obtain⟨l1,hl1⟩:=ε (after l false 2);obtain⟨b1,hb1⟩:=ε (!canTake l false 2);have C1:=η (fun wx h=>small_in b l false wx h);rw[←hk,←hl1,←hb1]at C1 ⊢;obtain⟨t,ht⟩:=ε (longN (taken l1 b1 8));obtain⟨l2,hl2⟩:=ε (after l1 b1 8);obtain⟨b2,hb2⟩:=ε (!canTake l1 b1 8);have C2:=η (fun wx h=>long_in b l1 b1 wx h);rw[←ht,←hl2,←hb2]at C2 ⊢;have CH:=η (fun w=>hasOf_calls (k:Int) w);obtain⟨x,hx⟩:=ε (rdTail (k:Int) t l2 b2);have HX:=η hx;rw[←hx];clear hx;clear hlt h hk hl1 hb1 ht hl2 hb2;go_in;go_wp2_with fail;refine(C1.out _ (I0.out _)).mono ?_;rintro e w1 ⟨rfl,i1,g1⟩;have I1:=η i1;have T1:Hid (Turn [b] w w1):=η ((Turn.alloc [b] w _).trans (grown_at g1) (fun i hi=>.inl hi));have hR1:=(grown_at g1).heap (heap_alloc_new w (.cells #[.int .i64 0,.int .i64 0,.int .i64 0,.bool false,.slice none 0 0,.slice none 0 0] 37)) (by have:=HLT.out;simp;omega);have R1:=η hR1;clear i1 g1 C1 I0 hR1;go_wp2_with fail;refine(C2.out _ I1.out).mono ?_;rintro e w2 ⟨rfl,i2,g2⟩;have I2:=η i2;have T2:=η (T1.out.trans (grown_at g2) (fun i hi=>.inl hi));have R2:=η ((grown_at g2).heap R1.out (by have:=HLT.out;simp;omega));clear i2 g2 C2 I1 T1 R1;go_wp2_with fail;refine(CH.out _).mono ?_;rintro e w3 ⟨rfl,t3⟩
 have D3:Hid (∀hs,Dm w b w.heap.size w2.heap.size w3.heap.size #[.int .i64 (k:Int),.int .i64 t,.int .i64 0,.bool false,.slice none 0 0,.slice none 0 0] hs l2 b2 (w3.alloc (.cells hs 234))):=η (fun hs=>by
  have s3:=t3.size;have s2:=lt_of_heap R2.out;have hs2:(w2.alloc (.cells #[.int .i64 (k:Int),.int .i64 t,.int .i64 0,.bool false,.slice none 0 0,.slice none 0 0] 37)).heap.size=w2.heap.size+1:=by simp
  have ta:=Turn.alloc [] w2 (.cells #[.int .i64 (k:Int),.int .i64 t,.int .i64 0,.bool false,.slice none 0 0,.slice none 0 0] 37);have tb:=Turn.alloc [] w3 (.cells hs 234)
  exact⟨tb.heap (t3.heap (ta.heap R2.out)),tb.heap (t3.heap (heap_alloc_new w2 _)),heap_alloc_new w3 _,((I2.out.turn ta (by simp)).turn t3 (by simp)).turn tb (by simp),
   ((T2.out.trans ta).trans t3).trans tb,HLT.out,Nat.le_refl _,s2,by omega⟩)
 clear t3 CH I2 T2 R2;have hk:k=2∨k=5∨(k=6∨k=8∨k=9)∨(k=4∨k=7)∨(k≠2∧k≠5∧k≠6∧k≠8∧k≠9∧k≠4∧k≠7):=by omega
 rcases hk with hk | hk | hk | hk | hk
 · have HV:Hid (hasV (k:Int)=⟨true,false,false,false⟩):=η (by subst hk;rfl);have HT:Hid (rdTail (k:Int) t l2 b2=(⟨k,t,longN (taken l2 b2 8),false,[],[]⟩,after l2 b2 8,!canTake l2 b2 8)):=η (by unfold rdTail;rw[if_pos (by omega)]);rw[HT.out]at HX;rw[HV.out];have CL:=η (fun wx h=>long_in b l2 b2 wx h);obtain⟨d,hd⟩:=ε (longN (taken l2 b2 8));obtain⟨l4,hl4⟩:=ε (after l2 b2 8);obtain⟨b4,hb4⟩:=ε (!canTake l2 b2 8);rw[←hd,←hl4,←hb4]at CL HX;clear hd hl4 hb4;unfold HasV.cells;dsimp only;clear HV HT hk;go_wp2_with fail;refine(CL.out _ (D3.out _).inn).mono ?_;rintro e w4 ⟨rfl,i4,g4⟩;have D4:=η ((D3.out _).step (grown_at g4) i4);clear i4 g4 CL;have D5:=η (D4.out.set 2 (.int .i64 d));have f1:w4.frozen? ⟨w2.heap.size,2,none⟩=false:=unfrozen_of D4.out.r1;have f2:w4.cell? ⟨w2.heap.size,2,none⟩=some (.int .i64 0):=cell_at D4.out.r1 rfl;obtain⟨W,hW⟩:=ε (w4.setCell ⟨w2.heap.size,2,none⟩ (.int .i64 d));rw[←hW]at D5;have g1:=cell_at (i:=1) D5.out.r2 rfl;have g2:=cell_at (i:=2) D5.out.r2 rfl;have g3:=cell_at (i:=3) D5.out.r2 rfl;have c0:=cell_at (i:=0) D5.out.r1 rfl;have c1:=cell_at (i:=1) D5.out.r1 rfl;have c2:=cell_at (i:=2) D5.out.r1 rfl;have c3:=cell_at (i:=3) D5.out.r1 rfl;have c4:=cell_at (i:=4) D5.out.r1 rfl;have c5:=cell_at (i:=5) D5.out.r1 rfl;have z0:=cell_at (i:=0) D5.out.r0 rfl;have z1:=cell_at (i:=1) D5.out.r0 rfl;have z2:=cell_at (i:=2) D5.out.r0 rfl;have z3:=cell_at (i:=3) D5.out.r0 rfl;have z4:=cell_at (i:=4) D5.out.r0 rfl;have z5:=cell_at (i:=5) D5.out.r0 rfl;have fz:∀i,W.frozen? ⟨w.heap.size,i,none⟩=false:=fun i=>unfrozen_of D5.out.r0
   rw[hW]at g1 g2 g3 c0 c1 c2 c3 c4 c5 z0 z1 z2 z3 z4 z5 fz;have HW:=η hW;clear hW;go_wp2_with fail;rw[←HW.out];refine bodyPost_ret_by (results_cell_row rfl _ _ w.heap.size 37 _ (0,0) _ rfl (six_stores' D5.out.r0 _ _ _ _ _ _) Tryz.underlying37 rfl recsize) rfl ?_;rw[HX.out];have E:=fun u0 u1 u2 u3 u4 u5=>D5.out.ends (six_turnR W w.heap.size u0 u1 u2 u3 u4 u5)
   exact⟨none,0,none,0,rfl,World.ownsRow_nil _ _ _ _,World.ownsRow_nil _ _ _ _,(by intro k hk;cases hk),(by intro k hk;cases hk),(E _ _ _ _ _ _).1,(E _ _ _ _ _ _).2⟩
 · have HV:Hid (hasV (k:Int)=⟨false,true,false,false⟩):=η (by subst hk;rfl);have HT:Hid (rdTail (k:Int) t l2 b2=(⟨k,t,0,truthV l2 b2,[],[]⟩,truthA l2 b2,!truthC l2 b2)):=η (by unfold rdTail;rw[if_neg (by omega),if_pos (by omega)]);rw[HT.out]at HX;rw[HV.out];have CL:=η (fun wx h=>truth_in b l2 b2 wx h);obtain⟨d,hd⟩:=ε (truthV l2 b2);obtain⟨l4,hl4⟩:=ε (truthA l2 b2);obtain⟨b4,hb4⟩:=ε (!truthC l2 b2);rw[←hd,←hl4,←hb4]at CL HX;clear hd hl4 hb4;unfold HasV.cells;dsimp only;clear HV HT hk;go_wp2_with fail;refine(CL.out _ (D3.out _).inn).mono ?_;rintro e w4 ⟨rfl,i4,g4⟩;have D4:=η ((D3.out _).step (grown_at g4) i4);clear i4 g4 CL;have D5:=η (D4.out.set 3 (.bool d));have f1:w4.frozen? ⟨w2.heap.size,3,none⟩=false:=unfrozen_of D4.out.r1;have f2:w4.cell? ⟨w2.heap.size,3,none⟩=some (.bool false):=cell_at D4.out.r1 rfl;obtain⟨W,hW⟩:=ε (w4.setCell ⟨w2.heap.size,3,none⟩ (.bool d));rw[←hW]at D5;have g2:=cell_at (i:=2) D5.out.r2 rfl;have g3:=cell_at (i:=3) D5.out.r2 rfl;have c0:=cell_at (i:=0) D5.out.r1 rfl;have c1:=cell_at (i:=1) D5.out.r1 rfl;have c2:=cell_at (i:=2) D5.out.r1 rfl;have c3:=cell_at (i:=3) D5.out.r1 rfl;have c4:=cell_at (i:=4) D5.out.r1 rfl;have c5:=cell_at (i:=5) D5.out.r1 rfl;have z0:=cell_at (i:=0) D5.out.r0 rfl;have z1:=cell_at (i:=1) D5.out.r0 rfl;have z2:=cell_at (i:=2) D5.out.r0 rfl;have z3:=cell_at (i:=3) D5.out.r0 rfl;have z4:=cell_at (i:=4) D5.out.r0 rfl;have z5:=cell_at (i:=5) D5.out.r0 rfl;have fz:∀i,W.frozen? ⟨w.heap.size,i,none⟩=false:=fun i=>unfrozen_of D5.out.r0
   rw[hW]at g2 g3 c0 c1 c2 c3 c4 c5 z0 z1 z2 z3 z4 z5 fz;have HW:=η hW;clear hW;go_wp2_with fail;rw[←HW.out];refine bodyPost_ret_by (results_cell_row rfl _ _ w.heap.size 37 _ (0,0) _ rfl (six_stores' D5.out.r0 _ _ _ _ _ _) Tryz.underlying37 rfl recsize) rfl ?_;rw[HX.out];have E:=fun u0 u1 u2 u3 u4 u5=>D5.out.ends (six_turnR W w.heap.size u0 u1 u2 u3 u4 u5)
   exact⟨none,0,none,0,rfl,World.ownsRow_nil _ _ _ _,World.ownsRow_nil _ _ _ _,(by intro k hk;cases hk),(by intro k hk;cases hk),(E _ _ _ _ _ _).1,(E _ _ _ _ _ _).2⟩
 · have HV:Hid (hasV (k:Int)=⟨false,false,true,false⟩):=η (by rcases hk with rfl | rfl | rfl<;>rfl);have HT:Hid (rdTail (k:Int) t l2 b2=(⟨k,t,0,false,(rdParts (leN (taken l2 b2 2)) (after l2 b2 2) (!canTake l2 b2 2)).1,[]⟩,(rdParts (leN (taken l2 b2 2)) (after l2 b2 2) (!canTake l2 b2 2)).2)):=η (by unfold rdTail;rw[if_neg (by omega),if_neg (by omega),if_pos (by omega)]);rw[HT.out]at HX;rw[HV.out];have CL:=η (fun wx h X l' bad' hX=>readParts_calls b l2 b2 wx h X l' bad' hX);obtain⟨X,l4,b4,hR⟩:∃(X:List Int) (l4:List UInt8) (b4:Bool),(rdParts (leN (taken l2 b2 2)) (after l2 b2 2) (!canTake l2 b2 2))=(X,l4,b4):=⟨_,_,_,rfl⟩
   have CL2:=η (fun wx h=>CL.out wx h X l4 b4 hR);rw[hR]at HX;dsimp only at HX;clear CL hR;unfold HasV.cells;dsimp only;clear HV HT hk;go_wp2_with fail;refine(CL2.out _ (D3.out _).inn).mono ?_;rintro e w4 ⟨a4,c4',rfl,o4,lw4,i4,t4⟩;have O4:=η o4;have hs3:(w3.alloc (.cells #[.bool false,.bool false,.bool true,.bool false] 234)).heap.size=w3.heap.size+1:=by simp
   have L4:Hid (∀g,(Value.slice a4 X.length c4').ownBlock=some g→w3.heap.size<g∧w2.heap.size<g∧w.heap.size<g):=η (fun g hg=>by
    have:=lw4 g hg;have:=(D3.out #[]).h1;have:=(D3.out #[]).h2
    omega)
   have D4:=η ((D3.out _).step t4 i4);clear o4 lw4 i4 t4 CL2 hs3;have D5:=η (D4.out.set 4 (.slice a4 X.length c4'));have f1:w4.frozen? ⟨w2.heap.size,4,none⟩=false:=unfrozen_of D4.out.r1;have f2:w4.cell? ⟨w2.heap.size,4,none⟩=some (.slice none 0 0):=cell_at D4.out.r1 rfl;obtain⟨W,hW⟩:=ε (w4.setCell ⟨w2.heap.size,4,none⟩ (.slice a4 X.length c4'));rw[←hW]at D5;have g3:=cell_at (i:=3) D5.out.r2 rfl;have c0:=cell_at (i:=0) D5.out.r1 rfl;have c1:=cell_at (i:=1) D5.out.r1 rfl;have c2:=cell_at (i:=2) D5.out.r1 rfl;have c3:=cell_at (i:=3) D5.out.r1 rfl;have c4:=cell_at (i:=4) D5.out.r1 rfl;have c5:=cell_at (i:=5) D5.out.r1 rfl;have z0:=cell_at (i:=0) D5.out.r0 rfl;have z1:=cell_at (i:=1) D5.out.r0 rfl;have z2:=cell_at (i:=2) D5.out.r0 rfl;have z3:=cell_at (i:=3) D5.out.r0 rfl;have z4:=cell_at (i:=4) D5.out.r0 rfl;have z5:=cell_at (i:=5) D5.out.r0 rfl;have fz:∀i,W.frozen? ⟨w.heap.size,i,none⟩=false:=fun i=>unfrozen_of D5.out.r0
   rw[hW]at g3 c0 c1 c2 c3 c4 c5 z0 z1 z2 z3 z4 z5 fz;have HW:=η hW;clear hW;go_wp2_with fail;rw[←HW.out];refine bodyPost_ret_by (results_cell_row rfl _ _ w.heap.size 37 _ (0,0) _ rfl (six_stores' D5.out.r0 _ _ _ _ _ _) Tryz.underlying37 rfl recsize) rfl ?_;rw[HX.out];have E:=fun u0 u1 u2 u3 u4 u5=>D5.out.ends (six_turnR W w.heap.size u0 u1 u2 u3 u4 u5)
   have TS:Turn [w2.heap.size] w4 W:=by rw[HW.out];exact Turn.setCell w4 (by simp) _
   exact⟨a4,c4',none,0,rfl,(ownsRow_turn (ownsRow_turn O4.out TS (fun g hg=>by have:=L4.out g hg;simp;omega)) (six_turnR W w.heap.size _ _ _ _ _ _) (fun g hg=>by have:=L4.out g hg;simp;omega)),World.ownsRow_nil _ _ _ _,(fun g hg=>by have:=L4.out g hg;omega),(by intro k hk;cases hk),(E _ _ _ _ _ _).1,(E _ _ _ _ _ _).2⟩
 · have HV:Hid (hasV (k:Int)=⟨false,false,false,true⟩):=η (by rcases hk with rfl | rfl<;>rfl);have HT:Hid (rdTail (k:Int) t l2 b2=(⟨k,t,0,false,[],(rdPuts (leN (taken l2 b2 2)) (after l2 b2 2) (!canTake l2 b2 2)).1⟩,(rdPuts (leN (taken l2 b2 2)) (after l2 b2 2) (!canTake l2 b2 2)).2)):=η (by unfold rdTail;rw[if_neg (by omega),if_neg (by omega),if_neg (by omega),if_pos (by omega)]);rw[HT.out]at HX;rw[HV.out];have CL:=η (fun wx h X l' bad' hX=>readPuts_calls b l2 b2 wx h X l' bad' hX);obtain⟨X,l4,b4,hR⟩:∃(X:List (ByteArray×ByteArray)) (l4:List UInt8) (b4:Bool),(rdPuts (leN (taken l2 b2 2)) (after l2 b2 2) (!canTake l2 b2 2))=(X,l4,b4):=⟨_,_,_,rfl⟩
   have CL2:=η (fun wx h=>CL.out wx h X l4 b4 hR);rw[hR]at HX;dsimp only at HX;clear CL hR;unfold HasV.cells;dsimp only;clear HV HT hk;go_wp2_with fail;refine(CL2.out _ (D3.out _).inn).mono ?_;rintro e w4 ⟨a4,c4',rfl,o4,lw4,i4,t4⟩;have O4:=η o4;have hs3:(w3.alloc (.cells #[.bool false,.bool false,.bool false,.bool true] 234)).heap.size=w3.heap.size+1:=by simp
   have L4:Hid (∀g,(Value.slice a4 X.length c4').ownBlock=some g→w3.heap.size<g∧w2.heap.size<g∧w.heap.size<g):=η (fun g hg=>by
    have:=lw4 g hg;have:=(D3.out #[]).h1;have:=(D3.out #[]).h2
    omega)
   have D4:=η ((D3.out _).step t4 i4);clear o4 lw4 i4 t4 CL2 hs3;have D5:=η (D4.out.set 5 (.slice a4 X.length c4'));have f1:w4.frozen? ⟨w2.heap.size,5,none⟩=false:=unfrozen_of D4.out.r1;have f2:w4.cell? ⟨w2.heap.size,5,none⟩=some (.slice none 0 0):=cell_at D4.out.r1 rfl;obtain⟨W,hW⟩:=ε (w4.setCell ⟨w2.heap.size,5,none⟩ (.slice a4 X.length c4'));rw[←hW]at D5;have c0:=cell_at (i:=0) D5.out.r1 rfl;have c1:=cell_at (i:=1) D5.out.r1 rfl;have c2:=cell_at (i:=2) D5.out.r1 rfl;have c3:=cell_at (i:=3) D5.out.r1 rfl;have c4:=cell_at (i:=4) D5.out.r1 rfl;have c5:=cell_at (i:=5) D5.out.r1 rfl;have z0:=cell_at (i:=0) D5.out.r0 rfl;have z1:=cell_at (i:=1) D5.out.r0 rfl;have z2:=cell_at (i:=2) D5.out.r0 rfl;have z3:=cell_at (i:=3) D5.out.r0 rfl;have z4:=cell_at (i:=4) D5.out.r0 rfl;have z5:=cell_at (i:=5) D5.out.r0 rfl;have fz:∀i,W.frozen? ⟨w.heap.size,i,none⟩=false:=fun i=>unfrozen_of D5.out.r0
   rw[hW]at c0 c1 c2 c3 c4 c5 z0 z1 z2 z3 z4 z5 fz;have HW:=η hW;clear hW;go_wp2_with fail;rw[←HW.out];refine bodyPost_ret_by (results_cell_row rfl _ _ w.heap.size 37 _ (0,0) _ rfl (six_stores' D5.out.r0 _ _ _ _ _ _) Tryz.underlying37 rfl recsize) rfl ?_;rw[HX.out];have E:=fun u0 u1 u2 u3 u4 u5=>D5.out.ends (six_turnR W w.heap.size u0 u1 u2 u3 u4 u5)
   have TS:Turn [w2.heap.size] w4 W:=by rw[HW.out];exact Turn.setCell w4 (by simp) _
   exact⟨none,0,a4,c4',rfl,World.ownsRow_nil _ _ _ _,(ownsRow_turn (ownsRow_turn O4.out TS (fun g hg=>by have:=L4.out g hg;simp;omega)) (six_turnR W w.heap.size _ _ _ _ _ _) (fun g hg=>by have:=L4.out g hg;simp;omega)),(by intro k hk;cases hk),(fun g hg=>by have:=L4.out g hg;omega),(E _ _ _ _ _ _).1,(E _ _ _ _ _ _).2⟩
 · have HV:Hid (hasV (k:Int)=⟨false,false,false,false⟩):=η (by unfold hasV;rw[decide_eq_false (by omega),decide_eq_false (by omega),decide_eq_false (by omega),decide_eq_false (by omega)]);have HT:Hid (rdTail (k:Int) t l2 b2=(⟨k,t,0,false,[],[]⟩,l2,b2)):=η (by unfold rdTail;rw[if_neg (by omega),if_neg (by omega),if_neg (by omega),if_neg (by omega)]);rw[HT.out]at HX;rw[HV.out];have D5:=η (D3.out #[.bool false,.bool false,.bool false,.bool false]);obtain⟨W,hW⟩:=ε (w3.alloc (.cells #[.bool false,.bool false,.bool false,.bool false] 234));rw[←hW]at D5;have g0:=cell_at (i:=0) D5.out.r2 rfl;have g1:=cell_at (i:=1) D5.out.r2 rfl;have g2:=cell_at (i:=2) D5.out.r2 rfl;have g3:=cell_at (i:=3) D5.out.r2 rfl;have c0:=cell_at (i:=0) D5.out.r1 rfl;have c1:=cell_at (i:=1) D5.out.r1 rfl;have c2:=cell_at (i:=2) D5.out.r1 rfl;have c3:=cell_at (i:=3) D5.out.r1 rfl;have c4:=cell_at (i:=4) D5.out.r1 rfl;have c5:=cell_at (i:=5) D5.out.r1 rfl;have z0:=cell_at (i:=0) D5.out.r0 rfl;have z1:=cell_at (i:=1) D5.out.r0 rfl;have z2:=cell_at (i:=2) D5.out.r0 rfl;have z3:=cell_at (i:=3) D5.out.r0 rfl;have z4:=cell_at (i:=4) D5.out.r0 rfl;have z5:=cell_at (i:=5) D5.out.r0 rfl;have fz:∀i,W.frozen? ⟨w.heap.size,i,none⟩=false:=fun i=>unfrozen_of D5.out.r0
   rw[hW]at g0 g1 g2 g3 c0 c1 c2 c3 c4 c5 z0 z1 z2 z3 z4 z5 fz;have HW:=η hW;clear hW HV HT hk;unfold HasV.cells;dsimp only;go_wp2_with fail;rw[←HW.out];refine bodyPost_ret_by (results_cell_row rfl _ _ w.heap.size 37 _ (0,0) _ rfl (six_stores' D5.out.r0 _ _ _ _ _ _) Tryz.underlying37 rfl recsize) rfl ?_;rw[HX.out];have E:=fun u0 u1 u2 u3 u4 u5=>D5.out.ends (six_turnR W w.heap.size u0 u1 u2 u3 u4 u5)
   exact⟨none,0,none,0,rfl,World.ownsRow_nil _ _ _ _,World.ownsRow_nil _ _ _ _,(by intro k hk;cases hk),(by intro k hk;cases hk),(E _ _ _ _ _ _).1,(E _ _ _ _ _ _).2⟩
theorem own_low {w:World} {ao:Option Addr} {n c s B:Nat} {e:TypeId} {xs:List Value} (h:w.ownsRow 0 e s (.slice ao n c) n xs) (hl:∀k,(Value.slice ao n c).ownBlock=some k→B≤k):∀A,ao=some A→B≤A.block:=by
 intro A hA;rcases h.2 with⟨hv,-⟩ | ⟨g,cap,cur,hv,-⟩
 · injection hv with e1 e2 e3
   rw[hA]at e1;cases e1
 · injection hv with e1 e2 e3
   rw[hA]at e1;injection e1 with e1
   subst e1;exact hl g (by rw[hA];rfl)
theorem rdTail_fit {k t:Int} (hk:okI k) (ht:okI t) (l:List UInt8) (bad:Bool):(rdTail k t l bad).1.fit:=by
 have hz:okI 0:=by unfold okI;omega
 unfold rdTail RecV.fit;by_cases h2:k=2
 · rw[if_pos h2];exact⟨hk,ht,long_ok l bad⟩
 rw[if_neg h2];by_cases h5:k=5
 · rw[if_pos h5];exact⟨hk,ht,hz⟩
 rw[if_neg h5];by_cases h6:k=6∨k=8∨k=9
 · rw[if_pos h6];exact⟨hk,ht,hz⟩
 rw[if_neg h6];by_cases h7:k=4∨k=7
 · rw[if_pos h7];exact⟨hk,ht,hz⟩
 rw[if_neg h7];exact⟨hk,ht,hz⟩
theorem rdRec_fit (l:List UInt8):(rdRec l).1.fit:=by
 unfold rdRec;have:=small_lt l false;exact rdTail_fit (by unfold okI;omega) (long_ok _ _) _ _
theorem rdTail_range (k t:Int) (l:List UInt8) (bad:Bool):(∀n∈(rdTail k t l bad).1.parts,0≤n∧n<65536)∧(∀p∈(rdTail k t l bad).1.puts,p.1.size<65536∧p.2.size<65536):=by
 unfold rdTail;by_cases h2:k=2
 · rw[if_pos h2];exact⟨by simp,by simp⟩
 rw[if_neg h2];by_cases h5:k=5
 · rw[if_pos h5];exact⟨by simp,by simp⟩
 rw[if_neg h5];by_cases h6:k=6∨k=8∨k=9
 · rw[if_pos h6];exact⟨(rdParts_range _ _ _).2,by simp⟩
 rw[if_neg h6];by_cases h7:k=4∨k=7
 · rw[if_pos h7];exact⟨by simp,(rdPuts_range _ _ _).2⟩
 rw[if_neg h7];exact⟨by simp,by simp⟩
theorem getD_mem {α:Type} {l:List α} {d:α} {i:Nat} (h:i<l.length):l.getD i d∈l:=by
 rw[show l.getD i d=l[i] by simp[List.getD,h]];exact List.getElem_mem h
theorem recNone_fit':recNone.fit:=by unfold RecV.fit okI recNone;simp
theorem decode_calls (l:List UInt8) (w:World) (ao:Option Addr) (c:Nat) (h:Sl w ao c l):
 Calls Tryz.prog 165 #[.slice ao l.length c] w fun e w'=>∃(x:RecV) (ap:Option Addr) (cp:Nat) (aq:Option Addr) (cq:Nat) (err:Int),e=.returned (.tuple #[.agg (x.cells ap cp aq cq),.int .i64 err])∧Il w' ap cp x.parts∧Ps w' aq cq x.puts∧x.fit∧
  (∀A,ap=some A→w.heap.size≤A.block)∧(∀A,aq=some A→w.heap.size≤A.block)∧Turn [] w w'∧
  ((err=0∧recB x=true∧recBytes x=l)∨(err=1∧x=recNone∧∀r,recB r=true→recBytes r≠l)):=by
 have C1:Hid (∀o,Calls Tryz.prog 92 #[.slice ao l.length c] (w.alloc o) fun e w'=>e=.returned (.pointer (some ⟨w.heap.size+1,0,none⟩))∧InIs w' (w.heap.size+1) l false∧Below (w.alloc o).heap.size (w.alloc o) w'):=η (fun o=>by
  have:=read_calls ao c l (w.alloc o) (h.belowAll (new_below w o));have hs:(w.alloc o).heap.size=w.heap.size+1:=by simp
  rw[hs]at this ⊢
  exact this)
 have C2:=η (fun wx h=>read_calls8 (w.heap.size+1) l wx h);have HF:=η (rdRec_fit l);have HRG:(∀n∈(rdRec l).1.parts,0≤n∧n<65536)∧(∀p∈(rdRec l).1.puts,p.1.size<65536∧p.2.size<65536):=rdTail_range _ _ _ _;have HP:Hid (∀n∈(rdRec l).1.parts,-9223372036854775808≤n∧n≤9223372036854775807):=η (fun n hn=>by have:=HRG.1 n hn;omega);have HQ:Hid (∀i,i<(rdRec l).1.puts.length→((rdRec l).1.puts.getD i putNone).1.size≤9223372036854775807∧((rdRec l).1.puts.getD i putNone).2.size≤9223372036854775807):=η (fun i hi=>by have:=HRG.2 _ (getD_mem (d:=putNone) hi);omega);have HS:=η (rdRec_sound l);have HU:Hid (∀r,recB r=true→recBytes r=l→rdRec l=(r,[],false)):=η (fun r hr e=>by rw[←e];exact rdRec_full r hr);obtain⟨⟨⟨kd,t,d,y,P,Q⟩,lx,bx⟩,hx⟩:∃x,x=rdRec l:=⟨_,rfl⟩
 rw[←hx]at C2 HF HP HQ HS HU;dsimp only at C2 HF HP HQ HS HU;have CE:=η (fun wx h=>end_calls (w.heap.size+1) lx bx wx h);obtain⟨n,hn⟩:=ε l.length;rw[←hn]at C1 ⊢;clear h HRG hx hn;go_in;go_wp2_with fail;refine(C1.out _).mono ?_;rintro e w1 ⟨rfl,i1,t1⟩;have I1:=η i1;have T1:Hid (Turn [] w w1):=η ((Turn.alloc [] w _).trans (Turn.of_below t1 []));have R1:=η ((Turn.of_below t1 []).heap (heap_alloc_new w _));clear i1 t1 C1;go_wp2_with fail;refine(C2.out _ I1.out).mono ?_;rintro e w2 ⟨ap,cp,aq,cq,rfl,op,oq,lp,lq,i2,t2⟩;have I2:=η i2;have OP:=η op;have OQ:=η oq;have S1:=η (lt_of_heap R1.out);have LP:Hid (∀k,(Value.slice ap P.length cp).ownBlock=some k→w.heap.size<k):=η (fun k hk=>by have:=lp k hk;have:=S1.out;omega);have LQ:Hid (∀k,(Value.slice aq Q.length cq).ownBlock=some k→w.heap.size<k):=η (fun k hk=>by have:=lq k hk;have:=S1.out;omega);have T2:Hid (Turn [] w w2):=η (T1.out.trans t2 (fun i hi=>.inr (by simp at hi;omega)));have R2:=η (t2.heap R1.out)
 have CR:Hid (∀wx,Turn [] w2 wx→Calls Tryz.prog 71 #[.agg ((RecV.mk kd t d y P Q).cells ap cp aq cq)] wx fun e w'=>e=.returned (.bool (recB ⟨kd,t,d,y,P,Q⟩))∧Turn [] wx w'):=η (fun wx tx=>
  kindRecord_calls ⟨kd,t,d,y,P,Q⟩ (own_il (ownsRow_turn OP.out tx) HP.out) (own_ps (ownsRow_turn OQ.out tx) HQ.out) HF.out.2.1 HF.out.2.2)
 have I3:Hid (∀o,InIs (w2.alloc o) (w.heap.size+1) lx bx):=η (fun o=>I2.out.turn (Turn.alloc [] w2 o) (by simp));clear op oq lp lq i2 t2 C2 I1 T1 R1 S1;obtain⟨en,hen⟩:=ε ((!bx&&decide (lx=[])));have HEN:=η hen;rw[←hen]at CE;clear hen;unfold RecV.cells at CR ⊢;dsimp only at CR ⊢;obtain⟨np,hnp⟩:=ε P.length;obtain⟨nq,hnq⟩:=ε Q.length;rw[←hnp,←hnq]at CR ⊢;have HNP:=η hnp;have HNQ:=η hnq;clear hnp hnq;cases en with
 | false=>
  have R3:=η ((Turn.alloc [] w2 (.cells #[.int .i64 kd,.int .i64 t,.int .i64 d,.bool y,.slice ap np cp,.slice aq nq cq] 37)).heap R2.out);obtain⟨W,hW⟩:=ε (w2.alloc (.cells #[.int .i64 kd,.int .i64 t,.int .i64 d,.bool y,.slice ap np cp,.slice aq nq cq] 37));have TW:Hid (Turn [] w W):=η (by rw[hW];exact T2.out.trans (Turn.alloc [] w2 _));rw[←hW]at R3;have z0:=cell_at (i:=0) R3.out rfl;have z1:=cell_at (i:=1) R3.out rfl;have z2:=cell_at (i:=2) R3.out rfl;have z3:=cell_at (i:=3) R3.out rfl;have z4:=cell_at (i:=4) R3.out rfl;have z5:=cell_at (i:=5) R3.out rfl;have fz:∀i,W.frozen? ⟨w.heap.size,i,none⟩=false:=fun i=>unfrozen_of R3.out
  rw[hW]at z0 z1 z2 z3 z4 z5 fz;have HW:=η hW;clear hW;go_wp2_with fail;refine(CE.out _ (I3.out _)).mono ?_;rintro e w3 ⟨rfl,rfl⟩;go_wp2_with fail;rw[←HW.out];refine bodyPost_ret_by (results_row_tmp rfl _ _ w.heap.size 37 _ (0,0) _ rfl (six_stores' R3.out _ _ _ _ _ _) Tryz.underlying37 rfl recsize) rfl ?_;refine⟨recNone,none,0,none,0,1,rfl,.inl ⟨rfl,rfl,rfl⟩,.inl ⟨rfl,rfl,rfl⟩,recNone_fit',(by intro A h;cases h),(by intro A h;cases h),TW.out.trans (six_turnR W w.heap.size _ _ _ _ _ _) (fun i hi=>.inr (by simp at hi;omega)),.inr ⟨rfl,rfl,fun r hr e=>?_⟩⟩;have:=HU.out r hr e;injection this with _ h2
  injection h2 with h2 h3
  have:=HEN.out;rw[h2,h3]at this;simp at this
 | true=>
  have hend:bx=false∧lx=[]:=by have:=HEN.out;simpa using this.symm
  obtain⟨hbx,hlx⟩:=hend;subst hbx hlx;have HBY:=η (HS.out rfl)
  have HUU:Hid (∀r,recB r=true→recBytes r=l→recB ⟨kd,t,d,y,P,Q⟩=true):=η (fun r hr e=>by
   have:=HU.out r hr e;injection this with h1 _
   rw[h1];exact hr)
  have R3:Hid (∀w4,Turn [] (w2.alloc (.cells #[.int .i64 kd,.int .i64 t,.int .i64 d,.bool y,.slice ap np cp,.slice aq nq cq] 37)) w4→w4.heap[w.heap.size]?=some (.cells #[.int .i64 0,.int .i64 0,.int .i64 0,.bool false,.slice none 0 0,.slice none 0 0] 37)∧w4.heap[w2.heap.size]?=some (.cells #[.int .i64 kd,.int .i64 t,.int .i64 d,.bool y,.slice ap np cp,.slice aq nq cq] 37)∧Turn [] w2 w4):=η (fun w4 t4=>
   ⟨t4.heap ((Turn.alloc [] w2 _).heap R2.out),t4.heap (heap_alloc_new w2 _),(Turn.alloc [] w2 _).trans t4⟩)
  go_wp2_with fail;refine(CE.out _ (I3.out _)).mono ?_;rintro e w3 ⟨rfl,rfl⟩;go_wp2_with fail;refine(CR.out _ (Turn.alloc [] w2 _)).mono ?_;rintro e w4 ⟨rfl,t4⟩;obtain⟨r3,r4,tt4⟩:=R3.out w4 t4;have A3:=η r3;have A4:=η tt4;have TW:=η (T2.out.trans tt4);have z0:=cell_at (i:=0) r3 rfl;have z1:=cell_at (i:=1) r3 rfl;have z2:=cell_at (i:=2) r3 rfl;have z3:=cell_at (i:=3) r3 rfl;have z4:=cell_at (i:=4) r3 rfl;have z5:=cell_at (i:=5) r3 rfl;have c0:=cell_at (i:=0) r4 rfl;have c1:=cell_at (i:=1) r4 rfl;have c2:=cell_at (i:=2) r4 rfl;have c3:=cell_at (i:=3) r4 rfl;have c4:=cell_at (i:=4) r4 rfl;have c5:=cell_at (i:=5) r4 rfl;have fz:∀i,w4.frozen? ⟨w.heap.size,i,none⟩=false:=fun i=>unfrozen_of r3
  obtain⟨rb,hrb⟩:=ε (recB ⟨kd,t,d,y,P,Q⟩);have HRB:=η hrb;rw[←hrb];clear t4 r3 r4 tt4 CR CE hrb;cases rb with
  | false=>
   go_wp2_with fail;refine bodyPost_ret_by (results_row_tmp rfl _ _ w.heap.size 37 _ (0,0) _ rfl (six_stores' A3.out _ _ _ _ _ _) Tryz.underlying37 rfl recsize) rfl ?_;refine⟨recNone,none,0,none,0,1,rfl,.inl ⟨rfl,rfl,rfl⟩,.inl ⟨rfl,rfl,rfl⟩,recNone_fit',(by intro A h;cases h),(by intro A h;cases h),TW.out.trans (six_turnR w4 w.heap.size _ _ _ _ _ _) (fun i hi=>.inr (by simp at hi;omega)),.inr ⟨rfl,rfl,fun r hr e=>?_⟩⟩;have:=HUU.out r hr e;rw[←HRB.out]at this;cases this
  | true=>
   go_wp2_with fail;refine bodyPost_ret_by (results_row_tmp rfl _ _ w.heap.size 37 _ (0,0) _ rfl (six_stores' A3.out _ _ _ _ _ _) Tryz.underlying37 rfl recsize) rfl ?_;have ts:=fun u0 u1 u2 u3 u4 u5=>(A4.out.mono (l':=[w.heap.size]) (by simp)).trans (six_turnR w4 w.heap.size u0 u1 u2 u3 u4 u5) (fun i hi=>.inl hi)
   rw[HNP.out,HNQ.out]
   refine⟨⟨kd,t,d,y,P,Q⟩,ap,cp,aq,cq,0,rfl,own_il (ownsRow_turn OP.out (ts _ _ _ _ _ _) (fun k hk=>by have:=LP.out k hk;simp;omega)) HP.out,own_ps (ownsRow_turn OQ.out (ts _ _ _ _ _ _) (fun k hk=>by have:=LQ.out k hk;simp;omega)) HQ.out,HF.out,
    own_low OP.out (fun k hk=>by have:=LP.out k hk;omega),own_low OQ.out (fun k hk=>by have:=LQ.out k hk;omega),TW.out.trans (six_turnR w4 w.heap.size _ _ _ _ _ _) (fun i hi=>.inr (by simp at hi;omega)),.inl ⟨rfl,HRB.out.symm,HBY.out⟩⟩
open Go.RowKit Go.Proofs.YtkjpjfghklgdhaaGreat.V
theorem long_at (b:Nat) (n:Int) (r:List UInt8) (w:World) (h:InIs w b (longB n++r) false) (hn:okI n):Calls Tryz.prog 94 #[.pointer (some ⟨b,0,none⟩)] w fun e w'=>e=.returned (.int .i64 n)∧InIs w' b r false∧Turn [b] w w':=by
 obtain⟨e1,e2,e3⟩:=long_full hn r;refine(long_in b _ false w h).mono ?_;rintro e w' ⟨rfl,i,g⟩;rw[e2,e3]at i;exact⟨by rw[e1],i,grown_at g⟩
theorem small_at (b:Nat) (n:Int) (r:List UInt8) (w:World) (h:InIs w b (smallB n++r) false) (hn:0≤n∧n<65536):Calls Tryz.prog 93 #[.pointer (some ⟨b,0,none⟩)] w fun e w'=>e=.returned (.int .i64 n)∧InIs w' b r false∧Turn [b] w w':=by
 obtain⟨e1,e2,e3⟩:=small_full hn r;refine(small_in b _ false w h).mono ?_;rintro e w' ⟨rfl,i,g⟩;rw[e2,e3]at i;exact⟨by rw[e1],i,grown_at g⟩
theorem text_at (b:Nat) (x:ByteArray) (r:List UInt8) (w:World) (h:InIs w b (textB x++r) false) (hn:x.size<65536):Calls Tryz.prog 164 #[.pointer (some ⟨b,0,none⟩)] w fun e w'=>e=.returned (.string x)∧InIs w' b r false∧Turn [b] w w':=by
 obtain⟨e1,e2,e3⟩:=text_full hn r;refine(text_in b _ false w h).mono ?_;rintro e w' ⟨rfl,i,g⟩;rw[e2,e3]at i;exact⟨by rw[e1],i,grown_at g⟩
theorem truth_at (b:Nat) (y:Bool) (r:List UInt8) (w:World) (h:InIs w b ([if y then (1:UInt8)else 0]++r) false):Calls Tryz.prog 166 #[.pointer (some ⟨b,0,none⟩)] w fun e w'=>e=.returned (.bool y)∧InIs w' b r false∧Turn [b] w w':=by
 obtain⟨e1,e2,e3⟩:=truth_full y r;refine(truth_in b _ false w h).mono ?_;rintro e w' ⟨rfl,i,g⟩;rw[e2,e3]at i;exact⟨by rw[e1],i,grown_at g⟩
theorem two_put {w:World} {g:Nat} {a b:Value} {T:TypeId} (h:w.heap[g]?=some (.cells #[a,b] T)) (u v:Value):((w.setCell ⟨g,0,none⟩ u).setCell ⟨g,1,none⟩ v).heap[g]?=some (.cells #[u,v] T):=by
 have h1:=block_set (i:=1) (block_set (i:=0) h u) v;exact h1
theorem two_turn (w:World) (g:Nat) (u v:Value):Turn [g] w ((w.setCell ⟨g,0,none⟩ u).setCell ⟨g,1,none⟩ v):=(Turn.setCell (l:=[g]) w (by simp) u).trans (Turn.setCell (l:=[g]) _ (by simp) v) (fun i hi=>.inl hi)
theorem readMessage_calls (b:Nat) (x:MsgV) (r:List UInt8) {w:World} (h:InIs w b (msgB x++r) false) (hi:okI x.id) (hq:x.queue.size<65536) (hb:x.body.size<65536) (hs:okI x.seq) (hc:0≤x.count∧x.count<65536) (hy:okI x.by_):
 Calls Tryz.prog 96 #[.pointer (some ⟨b,0,none⟩)] w fun e w'=>e=.returned (.agg #[.int .i64 x.id,.string x.queue,.string x.body,.int .i64 x.seq,.int .i64 x.count,.int .i64 x.by_])∧InIs w' b r false∧Turn [b] w w':=by
 obtain⟨v0,v1,v2,v3,v4,v5⟩:=x;dsimp only at*;have h0:InIs w b (longB v0++(textB v1++(textB v2++(longB v3++(smallB v4++(longB v5++r)))))) false:=by
  have:=h;unfold msgB at this;simpa only[List.append_assoc]using this
 have HLT:=η h.lt;have i0:=h0.turn (Turn.alloc [] w (.cells #[.int .i64 0,.string ⟨#[]⟩,.string ⟨#[]⟩,.int .i64 0,.int .i64 0,.int .i64 0] 49)) (by simp);have HB:Hid (∀wx,Turn [b] (w.alloc (.cells #[.int .i64 0,.string ⟨#[]⟩,.string ⟨#[]⟩,.int .i64 0,.int .i64 0,.int .i64 0] 49)) wx→wx.heap[w.heap.size]?=some (.cells #[.int .i64 0,.string ⟨#[]⟩,.string ⟨#[]⟩,.int .i64 0,.int .i64 0,.int .i64 0] 49)):=η (fun wx tt=>tt.heap (heap_alloc_new w _) (by have:=HLT.out;simp;omega));have T0:=η (Turn.alloc [] w (.cells #[.int .i64 0,.string ⟨#[]⟩,.string ⟨#[]⟩,.int .i64 0,.int .i64 0,.int .i64 0] 49));have I0:=η i0;have U0:=η (Turn.refl [b] (w.alloc (.cells #[.int .i64 0,.string ⟨#[]⟩,.string ⟨#[]⟩,.int .i64 0,.int .i64 0,.int .i64 0] 49)));clear h h0 i0;go_in;go_wp2_with fail;refine(long_at b _ _ _ I0.out hi).mono ?_;rintro e x1 ⟨rfl,i1,t1⟩;have I1:=η i1;have U1:=η (U0.out.trans t1 (fun i hi=>.inl hi));clear i1 t1;go_wp2_with fail;refine(text_at b _ _ _ I1.out hq).mono ?_;rintro e x2 ⟨rfl,i1,t1⟩;have I2:=η i1;have U2:=η (U1.out.trans t1 (fun i hi=>.inl hi));clear i1 t1;go_wp2_with fail;refine(text_at b _ _ _ I2.out hb).mono ?_;rintro e x3 ⟨rfl,i1,t1⟩;have I3:=η i1;have U3:=η (U2.out.trans t1 (fun i hi=>.inl hi));clear i1 t1;go_wp2_with fail;refine(long_at b _ _ _ I3.out hs).mono ?_;rintro e x4 ⟨rfl,i1,t1⟩;have I4:=η i1;have U4:=η (U3.out.trans t1 (fun i hi=>.inl hi));clear i1 t1;go_wp2_with fail;refine(small_at b _ _ _ I4.out hc).mono ?_;rintro e x5 ⟨rfl,i1,t1⟩;have I5:=η i1;have U5:=η (U4.out.trans t1 (fun i hi=>.inl hi));clear i1 t1;go_wp2_with fail;refine(long_at b _ _ _ I5.out hy).mono ?_;rintro e x6 ⟨rfl,i1,t1⟩;have I6:=η i1;have U6:=η (U5.out.trans t1 (fun i hi=>.inl hi));clear i1 t1;have hb:=HB.out _ U6.out;obtain⟨c0,c1,c2,c3,c4,c5⟩:=six_ofA hb;have fr:∀j,x6.frozen? ⟨w.heap.size,j,none⟩=false:=fun j=>unfrozen_of hb
 have NH:=η (six_put (m:=msg0) (x:=⟨v0,v1,v2,v3,v4,v5⟩) hb);have TF:=η (six_turn' x6 w.heap.size 0 (.int .i64 v0) (.string v1) (.string v2) (.int .i64 v3) (.int .i64 v4) (.int .i64 v5));unfold six at NH TF;clear hb;go_wp2_with fail;refine bodyPost_ret_by (results_cell_row rfl _ _ w.heap.size 49 _ (0,0) _ rfl NH.out Tryz.underlying49 rfl (by kernel_rfl)) rfl ?_;exact⟨rfl,I6.out.turn TF.out (by have:=HLT.out;simp;omega),((T0.out.mono (l':=[b]) (fun i hi=>by cases hi)).trans U6.out (fun i hi=>.inl hi)).trans TF.out (fun i hi=>.inr (by simp at hi;omega))⟩
theorem readEnd_calls (b:Nat) (x:EndV) (r:List UInt8) {w:World} (h:InIs w b (endB x++r) false) (hi:okI x.tid):
 Calls Tryz.prog 100 #[.pointer (some ⟨b,0,none⟩)] w fun e w'=>e=.returned (.agg #[.int .i64 x.tid,.bool x.yes])∧InIs w' b r false∧Turn [b] w w':=by
 obtain⟨v0,v1⟩:=x;dsimp only at*;have h0:InIs w b (longB v0++([if v1 then (1:UInt8)else 0]++r)) false:=by
  have:=h;unfold endB at this;simpa only[List.append_assoc]using this
 have HLT:=η h.lt;have i0:=h0.turn (Turn.alloc [] w (.cells #[.int .i64 0,.bool false] 61)) (by simp);have HB:Hid (∀wx,Turn [b] (w.alloc (.cells #[.int .i64 0,.bool false] 61)) wx→wx.heap[w.heap.size]?=some (.cells #[.int .i64 0,.bool false] 61)):=η (fun wx tt=>tt.heap (heap_alloc_new w _) (by have:=HLT.out;simp;omega));have T0:=η (Turn.alloc [] w (.cells #[.int .i64 0,.bool false] 61));have I0:=η i0;have U0:=η (Turn.refl [b] (w.alloc (.cells #[.int .i64 0,.bool false] 61)));clear h h0 i0;go_in;go_wp2_with fail;refine(long_at b _ _ _ I0.out hi).mono ?_;rintro e x1 ⟨rfl,i1,t1⟩;have I1:=η i1;have U1:=η (U0.out.trans t1 (fun i hi=>.inl hi));clear i1 t1;go_wp2_with fail;refine(truth_at b _ _ _ I1.out).mono ?_;rintro e x2 ⟨rfl,i1,t1⟩;have I2:=η i1;have U2:=η (U1.out.trans t1 (fun i hi=>.inl hi));clear i1 t1;have hb:=HB.out _ U2.out;obtain⟨c0,c1⟩:=two_of10 hb;have fr:∀j,x2.frozen? ⟨w.heap.size,j,none⟩=false:=fun j=>unfrozen_of hb
 have NH:=η (two_put hb (.int .i64 v0) (.bool v1));have TF:=η (two_turn x2 w.heap.size (.int .i64 v0) (.bool v1));clear hb;go_wp2_with fail;refine bodyPost_ret_by (results_cell_row rfl _ _ w.heap.size 61 _ (0,0) _ rfl NH.out Tryz.underlying61 rfl (by kernel_rfl)) rfl ?_;exact⟨rfl,I2.out.turn TF.out (by have:=HLT.out;simp;omega),((T0.out.mono (l':=[b]) (fun i hi=>by cases hi)).trans U2.out (fun i hi=>.inl hi)).trans TF.out (fun i hi=>.inr (by simp at hi;omega))⟩
theorem add_block' (A:Addr) (i:Nat):(A.add i).block=A.block:=by
 unfold Addr.add;split<;>rfl
theorem Il.turnN {l:List Nat} {w w':World} {ao:Option Addr} {c:Nat} {P:List Int} (h:Il w ao c P) (t:Turn l w w') (hn:P≠[]→∀A,ao=some A→A.block∉l):Il w' ao c P:=by
 rcases h with h | ⟨A,h1,h2,h3,h4,h5⟩
 · exact .inl h
 · exact .inr ⟨A,h1,h2,h3,fun i hi=>t.cell (h4 i hi) (by rw[add_block'];exact hn (by intro e;rw[e]at hi;simp at hi) A h1),h5⟩
theorem Ps.turnN {l:List Nat} {w w':World} {ao:Option Addr} {c:Nat} {Q:List (ByteArray×ByteArray)} (h:Ps w ao c Q) (t:Turn l w w') (hn:Q≠[]→∀A,ao=some A→A.block∉l):Ps w' ao c Q:=by
 rcases h with h | ⟨A,h1,h2,h3,h4⟩
 · exact .inl h
 · exact .inr ⟨A,h1,h2,h3,fun i hi=>by
    have hb:=hn (by intro e;rw[e]at hi;simp at hi) A h1
    exact⟨t.cell (h4 i hi).1 (by rw[add_block'];exact hb),t.cell (h4 i hi).2.1 (by rw[add_block',add_block'];exact hb),(h4 i hi).2.2⟩⟩
end Go.Proofs.YtkjpjfghklgdhaaGreat
