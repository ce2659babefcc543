/-
  PkAU
-/
import Derived.Test.YtkjpjfghklgdhaaGreatPkAT
set_option maxHeartbeats 4000000
set_option maxRecDepth 100000
namespace Go.Proofs.YtkjpjfghklgdhaaGreat
open Go.RowKit
structure Em (w0:World) (q p:Nat) (cs:Array Value) (l:List UInt8) (w:World):Prop where
 box:w.heap[q]?=some (.cells cs 37)
 out:OutIs w ⟨p,0,none⟩ l
 turn:Turn [] w0 w
 hqp:q≠p
 lo:w0.heap.size≤p
 new:∀ao n c A,w.cell? ⟨p,0,none⟩=some (.slice ao n c)→ao=some A→w0.heap.size≤A.block
theorem Em.step {w0:World} {q p:Nat} {cs:Array Value} {l l':List UInt8} {w w':World} (h:Em w0 q p cs l w) (o:OutIs w' ⟨p,0,none⟩ l') (n:OnlyN ⟨p,0,none⟩ w w'):Em w0 q p cs l' w':=
 ⟨n.turn.heap h.box (by simpa using h.hqp),o,h.turn.trans n.turn (fun i hi=>.inr (by simp at hi;have:=h.lo;omega)),h.hqp,h.lo,fun ao m c A h1 h2=>Nat.le_trans h.turn.size (n.fresh ao m c A h1 h2)⟩
theorem Em.still {w0:World} {q p:Nat} {cs:Array Value} {l:List UInt8} {w w':World} (h:Em w0 q p cs l w) (t:Turn [] w w'):Em w0 q p cs l w':=
 ⟨t.heap h.box,h.out.alloc t.belowAll,h.turn.trans t,h.hqp,h.lo,fun ao n c A h1 h2=>by
  obtain⟨a,k,h3,-⟩:=h.out;have h4:=t.cell h3;rw[h4]at h1;injection h1 with h1
  injection h1 with e1 e2 e3
  exact h.new a _ k A h3 (e1.trans h2)⟩
theorem Em.ends {w0:World} {q p:Nat} {cs:Array Value} {l:List UInt8} {w:World} (h:Em w0 q p cs l w):∃ao c,w.cell? ⟨p,0,none⟩=some (.slice ao l.length c)∧w.ownsRow w0.heap.size 5 1 (.slice ao l.length c) l.length (u8s l):=by
 obtain⟨ao,c,h1,h2,h3,h4⟩:=h.out;refine⟨ao,c,h1,ownsRow_base h4 (fun k hk=>?_)⟩;rcases h4.2 with⟨hv,-⟩ | ⟨g,cap,cur,hv,-⟩
 · rw[hv]at hk;cases hk
 · injection hv with e1 e2 e3
   have:=h.new ao _ c ⟨g,0,none⟩ h1 e1;rw[e1]at hk;injection hk with hk
   have hk:g=k:=hk;omega
theorem hasV_ways (r:RecV):(hasV r.kind=⟨true,false,false,false⟩∧recTail r=longB r.id)∨(hasV r.kind=⟨false,true,false,false⟩∧recTail r=[if r.yes then 1 else 0])
 ∨(hasV r.kind=⟨false,false,true,false⟩∧recTail r=smallB r.parts.length++partsBy r.parts)∨(hasV r.kind=⟨false,false,false,true⟩∧recTail r=smallB r.puts.length++putsBy r.puts)
 ∨(hasV r.kind=⟨false,false,false,false⟩∧recTail r=[]):=by
 unfold hasV recTail;have hk:r.kind=2∨r.kind=4∨r.kind=5∨r.kind=6∨r.kind=7∨r.kind=8∨r.kind=9∨(r.kind≠2∧r.kind≠4∧r.kind≠5∧r.kind≠6∧r.kind≠7∧r.kind≠8∧r.kind≠9):=by omega
 rcases hk with h | h | h | h | h | h | h | ⟨h2,h4,h5,h6,h7,h8,h9⟩
 · left;simp[h]
 · right;right;right;left;simp[h]
 · right;left;simp[h]
 · right;right;left;simp[h]
 · right;right;right;left;simp[h]
 · right;right;left;simp[h]
 · right;right;left;simp[h]
 · right;right;right;right;simp[h2,h4,h5,h6,h7,h8,h9]
theorem encode_calls (r:RecV) (w:World) (ap:Option Addr) (cp:Nat) (aq:Option Addr) (cq:Nat) (hp:Il w ap cp r.parts) (hq:Ps w aq cq r.puts) (hf:r.fit):
 Calls Tryz.prog 171 #[.agg (r.cells ap cp aq cq)] w fun e w'=>∃v,e=.returned v∧(recB r=true→w'.ownsRow w.heap.size 5 1 v (recBytes r).length (u8s (recBytes r)))∧(recB r=false→v=.slice none 0 0)∧Turn [] w w':=by
 have CK:=η (fun wx (tx:Turn [] w wx)=>kindRecord_calls r (hp.turn tx) (hq.turn tx) hf.2.1 hf.2.2);cases hR:recB r with
 | false=>
  rw[hR]at CK;obtain⟨k,t,d,y,P,Q⟩:=r;unfold RecV.cells at CK ⊢;dsimp only at CK ⊢;obtain⟨np,hnp⟩:=ε P.length;obtain⟨nq,hnq⟩:=ε Q.length;rw[←hnp,←hnq]at CK ⊢;clear hp hq hf hR hnp hnq;go_in;go_wp2_with fail;refine(CK.out _ (Turn.alloc [] w _)).mono ?_;rintro e w2 ⟨rfl,t2⟩;have T2:=η ((Turn.alloc [] w _).trans t2);clear t2 CK;go_wp2;go_ret;exact⟨_,rfl,by simp,fun _=>rfl,T2.out⟩
 | true=>
  have HS:=recB_says hR;have HW:=hasV_ways r;have CH:=η (fun w=>hasOf_calls r.kind w);rw[hR]at CK;have HB:Hid (recBytes r=smallB r.kind++longB r.tid++recTail r):=η rfl;have HP:=η hp;have HQ:=η hq;obtain⟨L,hL⟩:=ε (recBytes r);have HLL:=η hL;rw[←hL]at HB ⊢;obtain⟨tl,htl⟩:=ε (recTail r);rw[←htl]at HB HW;obtain⟨hv,hhv⟩:=ε (hasV r.kind);rw[←hhv]at CH HW;obtain⟨k,t,d,y,P,Q⟩:=r;dsimp only at HW HS HB CH HP HQ;obtain⟨-,-,-,-,-,-,-,-,hpn,-,hqn,hqs⟩:=HS;have HSZ:Hid (∀i,i<Q.length→(Q.getD i putNone).1.size≤1000000∧(Q.getD i putNone).2.size≤1000000):=η (fun i hi=>by have:=putB_sizes (hqs i hi);omega);have CP:Hid (∀wx p l,Turn [] w wx→OutIs wx ⟨p,0,none⟩ l→l.length≤1000000→Calls Tryz.prog 226 #[.pointer (some ⟨p,0,none⟩),.slice ap P.length cp] wx fun e w'=>e=.returned (.tuple #[])∧OutIs w' ⟨p,0,none⟩ (l++(smallB P.length++partsBy P))∧OnlyN ⟨p,0,none⟩ wx w'):=
   η (fun wx p l tx o h=>layParts_calls p 0 l o (HP.out.turn tx) h (by omega))
  have CQ:Hid (∀wx p l,Turn [] w wx→OutIs wx ⟨p,0,none⟩ l→l.length≤1000000→Calls Tryz.prog 227 #[.pointer (some ⟨p,0,none⟩),.slice aq Q.length cq] wx fun e w'=>e=.returned (.tuple #[])∧OutIs w' ⟨p,0,none⟩ (l++(smallB Q.length++putsBy Q))∧OnlyN ⟨p,0,none⟩ wx w'):=
   η (fun wx p l tx o h=>layPuts_calls p 0 l o (HQ.out.turn tx) h (by omega) HSZ.out)
  unfold RecV.cells at CK ⊢;dsimp only at CK ⊢;obtain⟨zp,hzp⟩:=ε (smallB P.length++partsBy P);obtain⟨zq,hzq⟩:=ε (smallB Q.length++putsBy Q);rw[←hzp]at HW CP;rw[←hzq]at HW CQ;obtain⟨np,hnp⟩:=ε P.length;obtain⟨nq,hnq⟩:=ε Q.length;rw[←hnp,←hnq]at CK ⊢;rw[←hnp]at CP;rw[←hnq]at CQ;clear hp hq hf hR hnp hnq hL htl hhv hpn hqn hqs hzp hzq HSZ HP HQ HLL;obtain⟨cs,hcs⟩:∃cs:Array Value,cs=#[.int .i64 k,.int .i64 t,.int .i64 d,.bool y,.slice ap np cp,.slice aq nq cq]:=⟨_,rfl⟩
  have HC:=η hcs;clear hcs;go_in;go_wp2_with fail;refine(CK.out _ (Turn.alloc [] w _)).mono ?_;rintro e w2 ⟨rfl,t2⟩;have T2:=η ((Turn.alloc [] w _).trans t2);have b2:=t2.heap (heap_alloc_new w _);rw[←HC.out]at b2
  have e2:Hid (∀o,Em w w.heap.size w2.heap.size cs [] (w2.alloc (.cells #[.slice none 0 0] o))):=η (fun o=>
   ⟨(Turn.alloc [] w2 _).heap b2,OutIs.new w2 o,T2.out.trans (Turn.alloc [] w2 _),by have:=lt_of_heap b2;omega,T2.out.size,fun ao n c A h1 h2=>by
    rw[World.cell?_alloc_at (hn:=rfl)]at h1;injection h1 with h1
    injection h1 with f1 f2 f3
    rw[←f1]at h2
    cases h2⟩)
  have x0:∀o,(w2.alloc o).cell? ⟨w.heap.size,0,none⟩=some (.int .i64 k):=fun o=>by rw[cell_of_row _ _ _ _ _ _ ((Turn.alloc [] w2 _).heap b2),HC.out];rfl
  clear t2 CK b2;go_wp2_with fail;refine(small_out w2.heap.size 0 [] k _ (e2.out _).out (by simp)).mono ?_;rintro e w3 ⟨rfl,o3,n3⟩;have E3:=η ((e2.out _).step o3 n3);have x1:w3.cell? ⟨w.heap.size,1,none⟩=some (.int .i64 t):=by rw[cell_of_row _ _ _ _ _ _ E3.out.box,HC.out];rfl
  clear o3 n3 x0 e2;go_wp2_with fail;refine(long_out w2.heap.size 0 _ t _ E3.out.out (by simp[smallB_len])).mono ?_;rintro e w4 ⟨rfl,o4,n4⟩;have E4:=η (E3.out.step o4 n4);have x0:w4.cell? ⟨w.heap.size,0,none⟩=some (.int .i64 k):=by rw[cell_of_row _ _ _ _ _ _ E4.out.box,HC.out];rfl
  clear o4 n4 x1 E3;go_wp2_with fail;refine(CH.out _).mono ?_;rintro e w5 ⟨rfl,t5⟩;have E5:=η (E4.out.still t5);obtain⟨l5,hl5⟩:=ε ([]++smallB k++longB t);have h5:l5.length≤1000000:=by rw[hl5];simp[smallB_len,longB_len]
  rw[←hl5]at E5;rw[List.nil_append]at hl5;rw[←hl5]at HB;have E6:Hid (∀o,Em w w.heap.size w2.heap.size cs l5 (w5.alloc o)):=η (fun o=>E5.out.still (Turn.alloc [] w5 o));clear t5 x0 E4 CH hl5
  have HLT:Hid (w5.heap.size≠w2.heap.size):=η (by
   obtain⟨a,c,hc,-⟩:=E5.out.out;have:w2.heap.size<w5.heap.size:=World.block_lt_of_cell? _ _ hc
   omega)
  rcases HW with⟨rfl,rfl⟩ | ⟨rfl,rfl⟩ | ⟨rfl,rfl⟩ | ⟨rfl,rfl⟩ | ⟨rfl,rfl⟩
  · unfold HasV.cells;have x2:∀o,(w5.alloc o).cell? ⟨w.heap.size,2,none⟩=some (.int .i64 d):=fun o=>by rw[cell_of_row _ _ _ _ _ _ (E6.out o).box,HC.out];rfl
    go_wp2_with fail;refine(long_out w2.heap.size 0 _ d _ (E6.out _).out (by omega)).mono ?_;rintro e w7 ⟨rfl,o7,n7⟩;have E7:=η ((E6.out _).step o7 n7);have R7:=n7.turn.heap (heap_alloc_new w5 _) (by simpa using HLT.out);have g1:w7.cell? ⟨w5.heap.size,1,none⟩=some (.bool false):=by rw[cell_of_row _ _ _ _ _ _ R7];rfl
    have g2:w7.cell? ⟨w5.heap.size,2,none⟩=some (.bool false):=by rw[cell_of_row _ _ _ _ _ _ R7];rfl
    have g3:w7.cell? ⟨w5.heap.size,3,none⟩=some (.bool false):=by rw[cell_of_row _ _ _ _ _ _ R7];rfl
    rw[←HB.out]at E7;obtain⟨ao,c,hc,hw⟩:=E7.out.ends;have HWW:=η hw;clear o7 n7 x2 R7 hw;go_wp2;go_ret;exact⟨_,rfl,fun _=>HWW.out,by simp,E7.out.turn⟩
  · unfold HasV.cells;have x2:∀o,(w5.alloc o).cell? ⟨w.heap.size,3,none⟩=some (.bool y):=fun o=>by rw[cell_of_row _ _ _ _ _ _ (E6.out o).box,HC.out];rfl
    go_wp2_with fail;refine(truth_out w2.heap.size 0 _ y _ (E6.out _).out (by omega)).mono ?_;rintro e w7 ⟨rfl,o7,n7⟩;have E7:=η ((E6.out _).step o7 n7);have R7:=n7.turn.heap (heap_alloc_new w5 _) (by simpa using HLT.out);have g2:w7.cell? ⟨w5.heap.size,2,none⟩=some (.bool false):=by rw[cell_of_row _ _ _ _ _ _ R7];rfl
    have g3:w7.cell? ⟨w5.heap.size,3,none⟩=some (.bool false):=by rw[cell_of_row _ _ _ _ _ _ R7];rfl
    rw[←HB.out]at E7;obtain⟨ao,c,hc,hw⟩:=E7.out.ends;have HWW:=η hw;clear o7 n7 x2 R7 hw;go_wp2;go_ret;exact⟨_,rfl,fun _=>HWW.out,by simp,E7.out.turn⟩
  · unfold HasV.cells;have x2:∀o,(w5.alloc o).cell? ⟨w.heap.size,4,none⟩=some (.slice ap np cp):=fun o=>by rw[cell_of_row _ _ _ _ _ _ (E6.out o).box,HC.out];rfl
    go_wp2_with fail;refine(CP.out _ w2.heap.size l5 (E6.out _).turn (E6.out _).out h5).mono ?_;rintro e w7 ⟨rfl,o7,n7⟩;have E7:=η ((E6.out _).step o7 n7);have R7:=n7.turn.heap (heap_alloc_new w5 _) (by simpa using HLT.out);have g3:w7.cell? ⟨w5.heap.size,3,none⟩=some (.bool false):=by rw[cell_of_row _ _ _ _ _ _ R7];rfl
    rw[←HB.out]at E7;obtain⟨ao,c,hc,hw⟩:=E7.out.ends;have HWW:=η hw;clear o7 n7 x2 R7 hw;go_wp2;go_ret;exact⟨_,rfl,fun _=>HWW.out,by simp,E7.out.turn⟩
  · unfold HasV.cells;have x2:∀o,(w5.alloc o).cell? ⟨w.heap.size,5,none⟩=some (.slice aq nq cq):=fun o=>by rw[cell_of_row _ _ _ _ _ _ (E6.out o).box,HC.out];rfl
    go_wp2_with fail;refine(CQ.out _ w2.heap.size l5 (E6.out _).turn (E6.out _).out h5).mono ?_;rintro e w7 ⟨rfl,o7,n7⟩;have E7:=η ((E6.out _).step o7 n7);rw[←HB.out]at E7;obtain⟨ao,c,hc,hw⟩:=E7.out.ends;have HWW:=η hw;clear o7 n7 x2 hw;go_wp2;go_ret;exact⟨_,rfl,fun _=>HWW.out,by simp,E7.out.turn⟩
  · unfold HasV.cells;rw[List.append_nil]at HB;rw[←HB.out]at E6;obtain⟨ao,c,hc,hw⟩:=(E6.out (.cells #[.bool false,.bool false,.bool false,.bool false] 234)).ends;have HWW:=η hw;clear hw;go_wp2;go_ret;exact⟨_,rfl,fun _=>HWW.out,by simp,(E6.out _).turn⟩
theorem u8_is {n:Nat} {a:UInt8} (h:n=a.toNat):UInt8.ofNat n=a:=by rw[h];exact UInt8.ofNat_toNat
theorem split_two {l:List UInt8} (h:l.length=2):∃a b,l=[a,b]:=by
 match l,h with
 | [a,b],_=>exact⟨a,b,rfl⟩
theorem small_le {l:List UInt8} (h:l.length=2):smallB (leN l:Nat)=l∧leN l<65536:=by
 obtain⟨a,b,rfl⟩:=split_two h;have ha:=a.toNat_lt;have hb:=b.toNat_lt;unfold smallB;simp only[leN];refine⟨?_,by omega⟩;rw[u8_is (a:=a) (by omega),u8_is (a:=b) (by omega)]
theorem wrap_digit {n v:Int} (h:n=v∨n=v-18446744073709551616):n%256=v%256∧n / 256%256=v / 256%256∧n / 65536%256=v / 65536%256∧n / 16777216%256=v / 16777216%256∧n / 4294967296%256=v / 4294967296%256∧n / 1099511627776%256=v / 1099511627776%256∧n / 281474976710656%256=v / 281474976710656%256∧n / 72057594037927936%256=v / 72057594037927936%256:=by
 rcases h with rfl | rfl
 · exact⟨rfl,rfl,rfl,rfl,rfl,rfl,rfl,rfl⟩
 · refine⟨?_,?_,?_,?_,?_,?_,?_,?_⟩<;>omega
theorem digit {v a r:Nat} (h:v=a+256*r) (ha:a<256):v%256=a∧v / 256=r:=by omega
theorem digits (a0 a1 a2 a3 a4 a5 a6 a7:Nat) (h0:a0<256) (h1:a1<256) (h2:a2<256) (h3:a3<256) (h4:a4<256) (h5:a5<256) (h6:a6<256) (h7:a7<256) (v:Nat)
 (h:v=a0+256*(a1+256*(a2+256*(a3+256*(a4+256*(a5+256*(a6+256*a7))))))):
 v%256=a0∧v / 256%256=a1∧v / 65536%256=a2∧v / 16777216%256=a3∧v / 4294967296%256=a4∧v / 1099511627776%256=a5∧v / 281474976710656%256=a6∧v / 72057594037927936%256=a7:=by
 obtain⟨e0,d1⟩:=digit h h0;obtain⟨e1,d2⟩:=digit d1 h1;obtain⟨e2,d3⟩:=digit d2 h2;obtain⟨e3,d4⟩:=digit d3 h3;obtain⟨e4,d5⟩:=digit d4 h4;obtain⟨e5,d6⟩:=digit d5 h5;obtain⟨e6,d7⟩:=digit d6 h6;rw[Nat.div_div_eq_div_mul]at d2 d3 d4 d5 d6 d7 e2 e3 e4 e5 e6
 repeat rw[Nat.div_div_eq_div_mul]at d3 e3
 repeat rw[Nat.div_div_eq_div_mul]at d4 e4
 repeat rw[Nat.div_div_eq_div_mul]at d5 e5
 repeat rw[Nat.div_div_eq_div_mul]at d6 e6
 repeat rw[Nat.div_div_eq_div_mul]at d7
 refine⟨e0,e1,e2,e3,e4,e5,e6,?_⟩;have:v / 72057594037927936=a7:=d7;omega
theorem long_le {l:List UInt8} (h:l.length=8):longB (longN l)=l∧okI (longN l):=by
 match l,h with
 | [a0,a1,a2,a3,a4,a5,a6,a7],_=>
  obtain⟨v,hv⟩:∃v:Nat,v=leN [a0,a1,a2,a3,a4,a5,a6,a7]:=⟨_,rfl⟩
  have hv2:v=a0.toNat+256*(a1.toNat+256*(a2.toNat+256*(a3.toNat+256*(a4.toNat+256*(a5.toNat+256*(a6.toNat+256*a7.toNat)))))):=by
   rw[hv];simp only[leN,Nat.mul_zero,Nat.add_zero]
  have hlt:v<256^8:=by rw[hv];exact leN_lt _
  obtain⟨e0,e1,e2,e3,e4,e5,e6,e7⟩:=digits _ _ _ _ _ _ _ _ a0.toNat_lt a1.toNat_lt a2.toNat_lt a3.toNat_lt a4.toNat_lt a5.toNat_lt a6.toNat_lt a7.toNat_lt v hv2;unfold longN;rw[←hv];clear hv hv2;have hw:wrap64 (v:Int)=v∨wrap64 (v:Int)=(v:Int)-18446744073709551616:=by
   rw[wrap_i64_u64 v (by omega)];split
   · exact .inl rfl
   · exact .inr rfl
  have ho:okI (wrap64 (v:Int)):=by unfold okI wrap64;omega
  generalize wrap64 (v:Int)=n at*;obtain⟨d0,d1,d2,d3,d4,d5,d6,d7⟩:=wrap_digit hw;refine⟨?_,ho⟩;unfold longB;rw[d0,d1,d2,d3,d4,d5,d6,d7];clear d0 d1 d2 d3 d4 d5 d6 d7 hw ho hlt;have c:∀x k:Nat,(((v:Int) / (k:Int))%256).toNat=x↔v / k%256=x:=fun x k=>by
   have:((v:Int) / (k:Int))%256=((v / k%256:Nat):Int):=by simp
   rw[this,Int.toNat_natCast]
  have f0:((v:Int)%256).toNat=a0.toNat:=by rw[←e0];omega
  have f1:((v:Int) / 256%256).toNat=a1.toNat:=(c _ 256).2 e1;have f2:((v:Int) / 65536%256).toNat=a2.toNat:=(c _ 65536).2 e2;have f3:((v:Int) / 16777216%256).toNat=a3.toNat:=(c _ 16777216).2 e3;have f4:((v:Int) / 4294967296%256).toNat=a4.toNat:=(c _ 4294967296).2 e4;have f5:((v:Int) / 1099511627776%256).toNat=a5.toNat:=(c _ 1099511627776).2 e5;have f6:((v:Int) / 281474976710656%256).toNat=a6.toNat:=(c _ 281474976710656).2 e6;have f7:((v:Int) / 72057594037927936%256).toNat=a7.toNat:=(c _ 72057594037927936).2 e7;rw[f0,f1,f2,f3,f4,f5,f6,f7];simp only[UInt8.ofNat_toNat]
theorem take_sound {l:List UInt8} {bad:Bool} {n:Nat} (h:canTake l bad n=true):bad=false∧l=taken l bad n++after l bad n∧(taken l bad n).length=n:=by
 unfold taken after;rw[if_pos h,if_pos h];unfold canTake at h;simp at h;exact⟨h.1,(List.take_append_drop n l).symm,by rw[List.length_take];omega⟩
theorem small_sound {l:List UInt8} {bad:Bool} (h:canTake l bad 2=true):bad=false∧l=smallB (leN (taken l bad 2):Nat)++after l bad 2∧leN (taken l bad 2)<65536:=by
 obtain⟨h1,h2,h3⟩:=take_sound h;obtain⟨h4,h5⟩:=small_le h3;exact⟨h1,by rw[h4];exact h2,h5⟩
theorem long_sound {l:List UInt8} {bad:Bool} (h:canTake l bad 8=true):bad=false∧l=longB (longN (taken l bad 8))++after l bad 8:=by
 obtain⟨h1,h2,h3⟩:=take_sound h;obtain⟨h4,h5⟩:=long_le h3;exact⟨h1,by rw[h4];exact h2⟩
theorem long_ok (l:List UInt8) (bad:Bool):okI (longN (taken l bad 8)):=by
 unfold longN wrap64 okI;omega
theorem small_lt (l:List UInt8) (bad:Bool):leN (taken l bad 2)<65536:=leN_lt' (n:=2) (taken_len l bad 2)
theorem text_sound {l:List UInt8} {bad:Bool} (h:textC l bad=true):bad=false∧l=textB ⟨(textT l bad).toArray⟩++textA l bad:=by
 unfold textC at h;obtain⟨h1,h2,h3⟩:=take_sound h;have h1:canTake l bad 2=true:=by simpa using h1
 obtain⟨h4,h5,h6⟩:=small_sound h1;have hs:(⟨(textT l bad).toArray⟩:ByteArray).size=leN (taken l bad 2):=by
  rw[size_mk];exact h3
 refine⟨h4,?_⟩;rw[textB_low _ (by rw[hs];exact h6),hs];unfold textT textA;rw[List.append_assoc,show(⟨(taken (after l bad 2) (!canTake l bad 2) (leN (taken l bad 2))).toArray⟩:ByteArray).data.toList=taken (after l bad 2) (!canTake l bad 2) (leN (taken l bad 2)) from rfl,←h2];exact h5
theorem text_size (l:List UInt8) (bad:Bool):(⟨(textT l bad).toArray⟩:ByteArray).size<65536:=by
 rw[size_mk];unfold textT;have:=taken_len (after l bad 2) (!canTake l bad 2) (leN (taken l bad 2));have:=small_lt l bad;omega
theorem truth_sound {l:List UInt8} {bad:Bool} (h:truthC l bad=true):bad=false∧l=[if truthV l bad then (1:UInt8)else 0]++truthA l bad:=by
 unfold truthC at h;simp only[Bool.and_eq_true,decide_eq_true_eq]at h;obtain⟨h0,hle⟩:=h;obtain⟨h1,h2,h3⟩:=take_sound h0;refine⟨h1,?_⟩;unfold truthV truthA;rw[if_pos hle];generalize taken l bad 1=x at*
 match x,h3 with
 | [a],_=>
  have hl:leN [a]=a.toNat:=by simp[leN]
  rw[hl]at hle;have e:(if (leN [a]==1)=true then (1:UInt8)else 0)=a:=by
   rw[hl];rcases(by omega:a.toNat=0∨a.toNat=1)with h | h
   · rw[h,if_neg (by simp)];exact UInt8.toNat_inj.1 (by rw[h];rfl)
   · rw[h,if_pos (by simp)];exact UInt8.toNat_inj.1 (by rw[h];rfl)
  rw[e];exact h2
theorem take_full (a r:List UInt8) {n:Nat} (h:a.length=n):taken (a++r) false n=a∧after (a++r) false n=r∧canTake (a++r) false n=true:=taken_front a r n h
theorem small_full {n:Int} (h:0≤n∧n<65536) (r:List UInt8):((leN (taken (smallB n++r) false 2):Nat):Int)=n∧after (smallB n++r) false 2=r∧canTake (smallB n++r) false 2=true:=by
 obtain⟨h1,h2,h3⟩:=take_full (smallB n) r (smallB_len n);refine⟨?_,h2,h3⟩;rw[h1,leN_small];omega
theorem long_full {n:Int} (h:-9223372036854775808≤n∧n≤9223372036854775807) (r:List UInt8):longN (taken (longB n++r) false 8)=n∧after (longB n++r) false 8=r∧canTake (longB n++r) false 8=true:=by
 obtain⟨h1,h2,h3⟩:=take_full (longB n) r (longB_len n);exact⟨by rw[h1,longN_long n h],h2,h3⟩
theorem text_full {x:ByteArray} (h:x.size<65536) (r:List UInt8):(⟨(textT (textB x++r) false).toArray⟩:ByteArray)=x∧textA (textB x++r) false=r∧textC (textB x++r) false=true:=by
 rw[textB_low x h,List.append_assoc];obtain⟨h1,h2,h3⟩:=small_full (n:=(x.size:Nat)) (by omega) (x.data.toList++r);have h1:leN (taken (smallB (x.size:Nat)++(x.data.toList++r)) false 2)=x.size:=by omega
 obtain⟨k1,k2,k3⟩:=take_full x.data.toList r (n:=x.size) (by simp);unfold textT textA textC;rw[h1,h2,h3];simp only[Bool.not_true];rw[k1,k2,k3];exact⟨rfl,rfl,rfl⟩
theorem truth_full (y:Bool) (r:List UInt8):truthV ([if y then (1:UInt8)else 0]++r) false=y∧truthA ([if y then (1:UInt8)else 0]++r) false=r∧truthC ([if y then (1:UInt8)else 0]++r) false=true:=by
 obtain⟨h1,h2,h3⟩:=take_full [if y then (1:UInt8)else 0] r (n:=1) rfl;unfold truthV truthA truthC;rw[h1,h2,h3];cases y
 · exact⟨rfl,rfl,rfl⟩
 · exact⟨rfl,rfl,rfl⟩
def rdParts:Nat→List UInt8→Bool→List Int×List UInt8×Bool
 | 0,l,bad=>([],l,bad)
 | n+1,l,bad=>if bad=true then ([],l,bad)else ((leN (taken l bad 2):Nat)::(rdParts n (after l bad 2) (!canTake l bad 2)).1,(rdParts n (after l bad 2) (!canTake l bad 2)).2)
def rdPuts:Nat→List UInt8→Bool→List (ByteArray×ByteArray)×List UInt8×Bool
 | 0,l,bad=>([],l,bad)
 | n+1,l,bad=>if bad=true then ([],l,bad)else
  ((⟨(textT l bad).toArray⟩,⟨(textT (textA l bad) (!textC l bad)).toArray⟩)::(rdPuts n (textA (textA l bad) (!textC l bad)) (!textC (textA l bad) (!textC l bad))).1,(rdPuts n (textA (textA l bad) (!textC l bad)) (!textC (textA l bad) (!textC l bad))).2)
theorem rdParts_sound:∀(n:Nat) (l:List UInt8) (bad:Bool),(rdParts n l bad).2.2=false→bad=false∧(rdParts n l bad).1.length=n∧l=partsBy (rdParts n l bad).1++(rdParts n l bad).2.1
 | 0,l,bad,h=>⟨h,rfl,rfl⟩
 | n+1,l,bad,h=>by
  unfold rdParts at h ⊢;cases bad with
  | true=>simp at h
  | false=>
   rw[if_neg (by simp)]at h ⊢;obtain⟨h1,h2,h3⟩:=rdParts_sound n _ _ h;have h1:canTake l false 2=true:=by simpa using h1
   obtain⟨-,h5,-⟩:=small_sound h1;refine⟨rfl,by simp[h2],?_⟩;show l=(smallB _++partsBy _)++_;rw[List.append_assoc];rw[←h3];exact h5
theorem rdPuts_sound:∀(n:Nat) (l:List UInt8) (bad:Bool),(rdPuts n l bad).2.2=false→bad=false∧(rdPuts n l bad).1.length=n∧l=putsBy (rdPuts n l bad).1++(rdPuts n l bad).2.1
 | 0,l,bad,h=>⟨h,rfl,rfl⟩
 | n+1,l,bad,h=>by
  unfold rdPuts at h ⊢;cases bad with
  | true=>simp at h
  | false=>
   rw[if_neg (by simp)]at h ⊢;obtain⟨h1,h2,h3⟩:=rdPuts_sound n _ _ h;have h1:textC (textA l false) (!textC l false)=true:=by simpa using h1
   obtain⟨h4,h5⟩:=text_sound h1;have h4:textC l false=true:=by simpa using h4
   obtain⟨-,h6⟩:=text_sound h4;refine⟨rfl,by simp[h2],?_⟩;show l=((textB _++textB _)++putsBy _)++_;rw[List.append_assoc,List.append_assoc];rw[←h3,←h5];exact h6
theorem rdParts_full:∀(P:List Int) (r:List UInt8),(∀i,i<P.length→0≤P.getD i 0∧P.getD i 0<65536)→rdParts P.length (partsBy P++r) false=(P,r,false)
 | [],r,_=>rfl
 | x::P,r,h=>by
  have hx:0≤x∧x<65536:=h 0 (by simp);obtain⟨h1,h2,h3⟩:=small_full hx (partsBy P++r);have ih:=rdParts_full P r (fun i hi=>h (i+1) (by simpa using hi));show rdParts (P.length+1) ((smallB x++partsBy P)++r) false=_;rw[List.append_assoc];unfold rdParts;rw[if_neg (by simp),h1,h2,h3,Bool.not_true,ih]
theorem rdPuts_full:∀(Q:List (ByteArray×ByteArray)) (r:List UInt8),(∀i,i<Q.length→(Q.getD i putNone).1.size<65536∧(Q.getD i putNone).2.size<65536)→rdPuts Q.length (putsBy Q++r) false=(Q,r,false)
 | [],r,_=>rfl
 | (x,y)::Q,r,h=>by
  have hx:x.size<65536∧y.size<65536:=h 0 (by simp);obtain⟨h1,h2,h3⟩:=text_full hx.1 (textB y++(putsBy Q++r));obtain⟨k1,k2,k3⟩:=text_full hx.2 (putsBy Q++r);have ih:=rdPuts_full Q r (fun i hi=>h (i+1) (by simpa using hi));show rdPuts (Q.length+1) (((textB x++textB y)++putsBy Q)++r) false=_;rw[List.append_assoc,List.append_assoc];unfold rdPuts;rw[if_neg (by simp),h1,h2,h3,Bool.not_true,k1,k2,k3,Bool.not_true,ih]
theorem rdParts_range:∀(n:Nat) (l:List UInt8) (bad:Bool),(rdParts n l bad).1.length≤n∧∀x∈(rdParts n l bad).1,0≤x∧x<65536
 | 0,l,bad=>⟨Nat.le_refl _,by simp[rdParts]⟩
 | n+1,l,bad=>by
  unfold rdParts;cases bad with
  | true=>simp
  | false=>
   rw[if_neg (by simp)];obtain⟨h1,h2⟩:=rdParts_range n (after l false 2) (!canTake l false 2);have:=small_lt l false;refine⟨by simpa using h1,fun x hx=>?_⟩;rcases List.mem_cons.1 hx with rfl | hx
   · omega
   · exact h2 x hx
theorem rdPuts_range:∀(n:Nat) (l:List UInt8) (bad:Bool),(rdPuts n l bad).1.length≤n∧∀x∈(rdPuts n l bad).1,x.1.size<65536∧x.2.size<65536
 | 0,l,bad=>⟨Nat.le_refl _,by simp[rdPuts]⟩
 | n+1,l,bad=>by
  unfold rdPuts;cases bad with
  | true=>simp
  | false=>
   rw[if_neg (by simp)];obtain⟨h1,h2⟩:=rdPuts_range n (textA (textA l false) (!textC l false)) (!textC (textA l false) (!textC l false));refine⟨by simpa using h1,fun x hx=>?_⟩;rcases List.mem_cons.1 hx with rfl | hx
   · exact⟨text_size _ _,text_size _ _⟩
   · exact h2 x hx
def rdTail (k t:Int) (l:List UInt8) (bad:Bool):RecV×List UInt8×Bool:=
 if k=2 then (⟨k,t,longN (taken l bad 8),false,[],[]⟩,after l bad 8,!canTake l bad 8)
 else if k=5 then (⟨k,t,0,truthV l bad,[],[]⟩,truthA l bad,!truthC l bad)
 else if k=6∨k=8∨k=9 then (⟨k,t,0,false,(rdParts (leN (taken l bad 2)) (after l bad 2) (!canTake l bad 2)).1,[]⟩,(rdParts (leN (taken l bad 2)) (after l bad 2) (!canTake l bad 2)).2)
 else if k=4∨k=7 then (⟨k,t,0,false,[],(rdPuts (leN (taken l bad 2)) (after l bad 2) (!canTake l bad 2)).1⟩,(rdPuts (leN (taken l bad 2)) (after l bad 2) (!canTake l bad 2)).2)
 else (⟨k,t,0,false,[],[]⟩,l,bad)
def rdRec (l:List UInt8):RecV×List UInt8×Bool:=
 rdTail (leN (taken l false 2):Nat) (longN (taken (after l false 2) (!canTake l false 2) 8)) (after (after l false 2) (!canTake l false 2) 8) (!canTake (after l false 2) (!canTake l false 2) 8)
theorem rdTail_sound (k t:Int) (l:List UInt8) (bad:Bool) (h:(rdTail k t l bad).2=([],false)):bad=false∧(rdTail k t l bad).1.kind=k∧(rdTail k t l bad).1.tid=t∧recTail (rdTail k t l bad).1=l:=by
 unfold rdTail at h ⊢;unfold recTail;by_cases h2:k=2
 · rw[if_pos h2]at h ⊢;injection h with h3 h4
   obtain⟨h5,h6⟩:=long_sound (by simpa using h4);rw[h3,List.append_nil]at h6;refine⟨h5,rfl,rfl,?_⟩;dsimp only;rw[if_pos h2];exact h6.symm
 rw[if_neg h2]at h ⊢;by_cases h5:k=5
 · rw[if_pos h5]at h ⊢;injection h with h3 h4
   obtain⟨h5',h6⟩:=truth_sound (by simpa using h4);rw[h3,List.append_nil]at h6;refine⟨h5',rfl,rfl,?_⟩;dsimp only;rw[if_neg h2,if_pos h5];exact h6.symm
 rw[if_neg h5]at h ⊢;by_cases h6:k=6∨k=8∨k=9
 · rw[if_pos h6]at h ⊢;have h4:(rdParts (leN (taken l bad 2)) (after l bad 2) (!canTake l bad 2)).2.2=false:=by rw[h]
   have h3:(rdParts (leN (taken l bad 2)) (after l bad 2) (!canTake l bad 2)).2.1=[]:=by rw[h]
   obtain⟨s1,s2,s3⟩:=rdParts_sound _ _ _ h4;obtain⟨s4,s5,-⟩:=small_sound (l:=l) (bad:=bad) (by simpa using s1);rw[h3,List.append_nil]at s3;refine⟨s4,rfl,rfl,?_⟩;dsimp only;rw[if_neg h2,if_neg h5,if_pos h6,s2,←s3];exact s5.symm
 rw[if_neg h6]at h ⊢;by_cases h7:k=4∨k=7
 · rw[if_pos h7]at h ⊢;have h4:(rdPuts (leN (taken l bad 2)) (after l bad 2) (!canTake l bad 2)).2.2=false:=by rw[h]
   have h3:(rdPuts (leN (taken l bad 2)) (after l bad 2) (!canTake l bad 2)).2.1=[]:=by rw[h]
   obtain⟨s1,s2,s3⟩:=rdPuts_sound _ _ _ h4;obtain⟨s4,s5,-⟩:=small_sound (l:=l) (bad:=bad) (by simpa using s1);rw[h3,List.append_nil]at s3;refine⟨s4,rfl,rfl,?_⟩;dsimp only;rw[if_neg h2,if_neg h5,if_neg h6,if_pos h7,s2,←s3];exact s5.symm
 rw[if_neg h7]at h ⊢;injection h with h3 h4
 refine⟨h4,rfl,rfl,?_⟩;dsimp only;rw[if_neg h2,if_neg h5,if_neg h6,if_neg h7];exact h3.symm
theorem rdRec_sound (l:List UInt8) (h:(rdRec l).2=([],false)):recBytes (rdRec l).1=l:=by
 unfold rdRec at h ⊢;obtain⟨h1,h2,h3,h4⟩:=rdTail_sound _ _ _ _ h;unfold recBytes;rw[h2,h3,h4];obtain⟨h5,h6⟩:=long_sound (l:=after l false 2) (bad:=!canTake l false 2) (by simpa using h1);obtain⟨-,h7,-⟩:=small_sound (l:=l) (bad:=false) (by simpa using h5);rw[List.append_assoc,←h6];exact h7.symm
theorem rdRec_full (r:RecV) (h:recB r=true):rdRec (recBytes r)=(r,[],false):=by
 obtain⟨a1,a9,at_,ai,ai2,ay,ap,aq,apl,apb,aql,aqb⟩:=recB_says h;obtain⟨k,t,d,y,P,Q⟩:=r;dsimp only at*;unfold rdRec recBytes;dsimp only;rw[List.append_assoc];obtain⟨h1,h2,h3⟩:=small_full (n:=k) (by omega) (longB t++recTail ⟨k,t,d,y,P,Q⟩);obtain⟨h4,h5,h6⟩:=long_full (home_ok at_) (recTail ⟨k,t,d,y,P,Q⟩);rw[h1,h2,h3,Bool.not_true,h4,h5,h6,Bool.not_true];unfold rdTail recTail;dsimp only;clear h1 h2 h3 h4 h5 h6 h;by_cases h2:k=2
 · rw[if_pos h2,if_pos h2];obtain⟨h4,h5,h6⟩:=long_full (home_ok (ai2 h2)) [];rw[List.append_nil]at h4 h5 h6;rw[h4,h5,h6];subst h2;simp at ay ap aq;simp[ay,ap,aq]
 rw[if_neg h2,if_neg h2];by_cases h5:k=5
 · rw[if_pos h5,if_pos h5];obtain⟨h4,h5',h6⟩:=truth_full y [];rw[List.append_nil]at h4 h5' h6;rw[h4,h5',h6];subst h5;simp at ai ap aq;simp[ai,ap,aq]
 rw[if_neg h5,if_neg h5];by_cases h6:k=6∨k=8∨k=9
 · rw[if_pos h6,if_pos h6];obtain⟨h4,h5',h7⟩:=small_full (n:=(P.length:Nat)) (by omega) (partsBy P);have hf:=rdParts_full P [] (fun i hi=>broker_ok (apb i hi));rw[List.append_nil]at hf;have h4:leN (taken (smallB (P.length:Nat)++partsBy P) false 2)=P.length:=by omega
   rw[h4,h5',h7,Bool.not_true,hf];have e1:d=0:=by omega
   have e2:y=false:=by rcases ay with e | e<;>first | exact e | omega
   have e3:Q=[]:=by rcases aq with e | e | e<;>first | exact e | omega
   rw[e1,e2,e3]
 rw[if_neg h6,if_neg h6];have e1:d=0:=by omega
 have e2:y=false:=by rcases ay with e | e<;>first | exact e | omega
 have e3:P=[]:=by rcases ap with e | e | e | e<;>first | exact e | omega
 by_cases h7:k=4∨k=7
 · rw[if_pos h7,if_pos h7];obtain⟨h4,h5',h8⟩:=small_full (n:=(Q.length:Nat)) (by omega) (putsBy Q);have hf:=rdPuts_full Q [] (fun i hi=>by have:=putB_sizes (aqb i hi);omega);rw[List.append_nil]at hf;have h4:leN (taken (smallB (Q.length:Nat)++putsBy Q) false 2)=Q.length:=by omega
   rw[h4,h5',h8,Bool.not_true,hf];rw[e1,e2,e3]
 rw[if_neg h7,if_neg h7];have e4:Q=[]:=by rcases aq with e | e | e<;>first | exact e | omega
 rw[e1,e2,e3,e4]
open Go.RowKit Go.Proofs.YtkjpjfghklgdhaaGreat.V
theorem conv10 {w:World} {ao:Option Addr} {c:Nat} {l:List UInt8} (h:Sl w ao c l) {n:Nat} (hn:n=l.length):(convert 52 9 (.slice ao n c)).run Tryz.prog w=.ok (.string ⟨l.toArray⟩) w:=by
 subst hn;rcases h with⟨rfl,rfl,rfl⟩ | ⟨A,rfl,_,_,hc⟩
 · exact nil_text w
 · exact run_convert_bytes_back (P:=Tryz.prog) w 52 9 5 A c l Tryz.underlying52 Tryz.underlying5 Tryz.underlying9 (fun j hj=>by rw[hc j hj];simp[List.getD,hj])
def msgB (m:MsgV):List UInt8:=longB m.id++textB m.queue++textB m.body++longB m.seq++smallB m.count++longB m.by_
def waitB (x:BrV):List UInt8:=textB ⟨(recBytes (waitR x)).toArray⟩
def endB (x:EndV):List UInt8:=longB x.tid++[if x.yes then 1 else 0]
def pendB (x:PendV):List UInt8:=textB ⟨(recBytes (pendR x)).toArray⟩
def listB {α:Type} (f:α→List UInt8) (l:List α):List UInt8:=smallB l.length++l.flatMap f
def stNumB (s:StV):List UInt8:=smallB s.broker++longB s.nextId++longB s.nextSeq++smallB s.tx
def stBytes (s:StV):List UInt8:=stNumB s++listB msgB s.ms++listB waitB s.waits++listB endB s.ends++listB pendB s.open_++listB pendB s.noes
theorem OnlyN.of_still10 {p:Nat} {w w':World} (t:Turn [] w w'):∀{x:World},OnlyN ⟨p,0,none⟩ w' x→OnlyN ⟨p,0,none⟩ w x:=by
 intro x h;exact⟨(Only.of_below t.belowAll).trans h.toOnly,fun ao n c A h1 h2=>Nat.le_trans t.size (h.fresh ao n c A h1 h2)⟩
theorem six_of10 {w:World} {g:Nat} {v0 v1 v2 v3 v4 v5:Value} {t:TypeId} (h:w.heap[g]?=some (.cells #[v0,v1,v2,v3,v4,v5] t)):w.cell? ⟨g,0,none⟩=some v0∧w.cell? ⟨g,1,none⟩=some v1∧w.cell? ⟨g,2,none⟩=some v2∧w.cell? ⟨g,3,none⟩=some v3∧w.cell? ⟨g,4,none⟩=some v4∧w.cell? ⟨g,5,none⟩=some v5:=by
 refine⟨?_,?_,?_,?_,?_,?_⟩<;>rw[cell_of_row _ _ _ _ _ _ h]<;>rfl
theorem two_of10 {w:World} {g:Nat} {v0 v1:Value} {t:TypeId} (h:w.heap[g]?=some (.cells #[v0,v1] t)):w.cell? ⟨g,0,none⟩=some v0∧w.cell? ⟨g,1,none⟩=some v1:=by
 refine⟨?_,?_⟩<;>rw[cell_of_row _ _ _ _ _ _ h]<;>rfl
structure Ey (w0:World) (q p:Nat) (cs:Array Value) (T:TypeId) (l:List UInt8) (w:World):Prop where
 box:w.heap[q]?=some (.cells cs T)
 out:OutIs w ⟨p,0,none⟩ l
 only:OnlyN ⟨p,0,none⟩ w0 w
 hqp:q≠p
theorem Ey.start {w:World} {p:Nat} {l:List UInt8} (h:OutIs w ⟨p,0,none⟩ l) (cs:Array Value) (T:TypeId):OutIs (w.alloc (.cells cs T)) ⟨p,0,none⟩ l∧(w.alloc (.cells cs T)).heap[w.heap.size]?=some (.cells cs T)∧w.heap.size≠p:=by
 refine⟨h.alloc (Turn.alloc [] w _).belowAll,heap_alloc_new w _,?_⟩;obtain⟨ao,c,h1,-⟩:=h;have:=World.block_lt_of_cell? _ _ h1;have:p<w.heap.size:=this;omega
theorem layMessage_calls (p:Nat) (x:MsgV) {w:World} (ho:OutIs w ⟨p,0,none⟩ []) (HS1:Hid (x.queue.size≤maxLen)) (HS2:Hid (x.body.size≤maxLen)) (hq:(textB x.queue).length≤100000) (hb:(textB x.body).length≤100000):
 Calls Tryz.prog 106 #[.pointer (some ⟨p,0,none⟩),.agg #[.int .i64 x.id,.string x.queue,.string x.body,.int .i64 x.seq,.int .i64 x.count,.int .i64 x.by_]] w fun e w'=>e=.returned (.tuple #[])∧OutIs w' ⟨p,0,none⟩ (msgB x)∧OnlyN ⟨p,0,none⟩ w w':=by
 obtain⟨o0,b0,n0⟩:=Ey.start ho #[.int .i64 x.id,.string x.queue,.string x.body,.int .i64 x.seq,.int .i64 x.count,.int .i64 x.by_] 49;have HF:Hid (msgB x=longB (x.id)++textB (x.queue)++textB (x.body)++longB (x.seq)++smallB (x.count)++longB (x.by_)):=η rfl;generalize hw0:w.alloc (.cells #[.int .i64 x.id,.string x.queue,.string x.body,.int .i64 x.seq,.int .i64 x.count,.int .i64 x.by_] 49)=w0 at o0 b0;have N0:Hid (∀wx,OnlyN ⟨p,0,none⟩ w0 wx→OnlyN ⟨p,0,none⟩ w wx):=η (fun wx h=>by rw[←hw0]at h;exact h.after_alloc);have B0:Hid (∀wx,OnlyN ⟨p,0,none⟩ w0 wx→wx.heap[w.heap.size]?=some (.cells #[.int .i64 x.id,.string x.queue,.string x.body,.int .i64 x.seq,.int .i64 x.count,.int .i64 x.by_] 49)):=η (fun wx h=>h.turn.heap b0 (by simpa using n0));have O0:=η o0;rw[←hw0]at O0 B0 N0 b0;obtain⟨c0,c1,c2,c3,c4,c5⟩:=six_of10 b0;clear ho o0 hw0 w0 n0 b0;obtain⟨L,hL⟩:=ε (msgB x);rw[←hL]at HF ⊢;clear hL;obtain⟨v0,v1,v2,v3,v4,v5⟩:=x;dsimp only at*;go_in;go_wp2_with fail;refine(long_out p 0 _ v0 _ O0.out (by simp)).mono ?_;rintro e x1 ⟨rfl,o1,n1⟩;have N1:=η n1;have O1:=η o1;have b1:=B0.out _ N1.out;obtain⟨c0,c1,c2,c3,c4,c5⟩:=six_of10 b1;clear o1 n1 b1;go_wp2_with fail;refine(text_out p 0 _ v1 _ O1.out HS1.out (by simp[longB_len])).mono ?_;rintro e x2 ⟨rfl,o2,n2⟩;have N2:=η (N1.out.trans n2);have O2:=η o2;have b2:=B0.out _ N2.out;obtain⟨c0,c1,c2,c3,c4,c5⟩:=six_of10 b2;clear o2 n2 b2;go_wp2_with fail;refine(text_out p 0 _ v2 _ O2.out HS2.out (by simp[longB_len];omega)).mono ?_;rintro e x3 ⟨rfl,o3,n3⟩;have N3:=η (N2.out.trans n3);have O3:=η o3;have b3:=B0.out _ N3.out;obtain⟨c0,c1,c2,c3,c4,c5⟩:=six_of10 b3;clear o3 n3 b3;go_wp2_with fail;refine(long_out p 0 _ v3 _ O3.out (by simp[longB_len];omega)).mono ?_;rintro e x4 ⟨rfl,o4,n4⟩;have N4:=η (N3.out.trans n4);have O4:=η o4;have b4:=B0.out _ N4.out;obtain⟨c0,c1,c2,c3,c4,c5⟩:=six_of10 b4;clear o4 n4 b4;go_wp2_with fail;refine(small_out p 0 _ v4 _ O4.out (by simp[longB_len];omega)).mono ?_;rintro e x5 ⟨rfl,o5,n5⟩;have N5:=η (N4.out.trans n5);have O5:=η o5;have b5:=B0.out _ N5.out;obtain⟨c0,c1,c2,c3,c4,c5⟩:=six_of10 b5;clear o5 n5 b5;go_wp2_with fail;refine(long_out p 0 _ v5 _ O5.out (by simp[smallB_len,longB_len];omega)).mono ?_;rintro e x6 ⟨rfl,o6,n6⟩;have N6:=η (N5.out.trans n6);have O6:=η o6;have b6:=B0.out _ N6.out;obtain⟨c0,c1,c2,c3,c4,c5⟩:=six_of10 b6;clear o6 n6 b6;go_wp2_with fail;go_end0;exact⟨rfl,by rw[HF.out];simpa using O6.out,N0.out _ N6.out⟩
theorem layEnd_calls (p:Nat) (x:EndV) {w:World} (ho:OutIs w ⟨p,0,none⟩ []):
 Calls Tryz.prog 110 #[.pointer (some ⟨p,0,none⟩),.agg #[.int .i64 x.tid,.bool x.yes]] w fun e w'=>e=.returned (.tuple #[])∧OutIs w' ⟨p,0,none⟩ (endB x)∧OnlyN ⟨p,0,none⟩ w w':=by
 obtain⟨o0,b0,n0⟩:=Ey.start ho #[.int .i64 x.tid,.bool x.yes] 61;have HF:Hid (endB x=longB (x.tid)++[if x.yes then 1 else 0]):=η rfl;generalize hw0:w.alloc (.cells #[.int .i64 x.tid,.bool x.yes] 61)=w0 at o0 b0;have N0:Hid (∀wx,OnlyN ⟨p,0,none⟩ w0 wx→OnlyN ⟨p,0,none⟩ w wx):=η (fun wx h=>by rw[←hw0]at h;exact h.after_alloc);have B0:Hid (∀wx,OnlyN ⟨p,0,none⟩ w0 wx→wx.heap[w.heap.size]?=some (.cells #[.int .i64 x.tid,.bool x.yes] 61)):=η (fun wx h=>h.turn.heap b0 (by simpa using n0));have O0:=η o0;rw[←hw0]at O0 B0 N0 b0;obtain⟨c0,c1⟩:=two_of10 b0;clear ho o0 hw0 w0 n0 b0;obtain⟨L,hL⟩:=ε (endB x);rw[←hL]at HF ⊢;clear hL;obtain⟨v0,v1⟩:=x;dsimp only at*;go_in;go_wp2_with fail;refine(long_out p 0 _ v0 _ O0.out (by simp)).mono ?_;rintro e x1 ⟨rfl,o1,n1⟩;have N1:=η n1;have O1:=η o1;have b1:=B0.out _ N1.out;obtain⟨c0,c1⟩:=two_of10 b1;clear o1 n1 b1;go_wp2_with fail;refine(truth_out p 0 _ v1 _ O1.out (by simp[longB_len])).mono ?_;rintro e x2 ⟨rfl,o2,n2⟩;have N2:=η (N1.out.trans n2);have O2:=η o2;have b2:=B0.out _ N2.out;obtain⟨c0,c1⟩:=two_of10 b2;clear o2 n2 b2;go_wp2_with fail;go_end0;exact⟨rfl,by rw[HF.out];simpa using O2.out,N0.out _ N2.out⟩
theorem layWait_calls (p:Nat) (x:Lay BrV) {w:World} (ho:OutIs w ⟨p,0,none⟩ []) (hx:Ps w x.ao x.c x.v.puts) (hrec:recB (waitR x.v)=true) (ht:okI x.v.tid) (hlen:(recBytes (waitR x.v)).length≤10000000):
 Calls Tryz.prog 108 #[.pointer (some ⟨p,0,none⟩),.agg #[.int .i64 x.v.tid,.slice x.ao x.v.puts.length x.c]] w fun e w'=>e=.returned (.tuple #[])∧OutIs w' ⟨p,0,none⟩ (waitB x.v)∧OnlyN ⟨p,0,none⟩ w w':=by
 have C1:=η (waitRecord_calls x.v x.ao x.c);have C2:=η (fun wx (tt:Turn [] w wx)=>encode_calls (waitR x.v) wx none 0 x.ao x.c (.inl ⟨rfl,rfl,rfl⟩) (hx.turn tt) (hf:=⟨by show okI 4;unfold okI;decide,ht,by show okI 0;unfold okI;decide⟩));have HF:Hid (waitB x.v=textB ⟨(recBytes (waitR x.v)).toArray⟩):=η rfl;have HR:=η hrec;obtain⟨L,hL⟩:=ε (waitB x.v);obtain⟨R,hR⟩:=ε (recBytes (waitR x.v));rw[←hL]at HF ⊢;rw[←hR]at HF C2 hlen;rw[HR.out]at C2;have HLF:=η HF.out;obtain⟨ra,hra⟩:=ε ((waitR x.v).cells none 0 x.ao x.c);rw[←hra]at C1 C2;have HO:=η ho;have HB:Hid (∀wx,Turn [] w wx→OutIs wx ⟨p,0,none⟩ []):=η (fun wx tt=>HO.out.alloc tt.belowAll);have HC:Hid (∀cs T wx,Turn [] (w.alloc (.cells cs T)) wx→wx.heap[w.heap.size]?=some (.cells cs T)):=η (fun cs T wx tt=>tt.heap (heap_alloc_new w _));clear hL hR hra hx ho hrec ht;obtain⟨⟨t,P⟩,ao,c⟩:=x;dsimp only at C1 C2 HF ⊢;obtain⟨n,hn⟩:=ε P.length;rw[←hn]at C1 ⊢;clear hn HR HF P;have b0:=HC.out #[.int .i64 t,.slice ao n c] 81 _ (Turn.refl _ _);obtain⟨c0,c1⟩:=two_of10 b0;go_in;go_wp2_with fail;clear c0 c1 b0;refine(C1.out _).mono ?_;rintro e x1 ⟨rfl,t1⟩;have T1:=η ((Turn.alloc [] w _).trans t1);clear t1 C1;go_wp2_with fail;refine(C2.out _ T1.out).mono ?_;rintro e x2 ⟨v,rfl,h2,-,t2⟩;have T2:=η (T1.out.trans t2);obtain⟨av,cv,rfl,hs,-⟩:=Sl.of_owns (h2 (by simp));have CV:(convert 52 9 (.slice av R.length cv)).run Tryz.prog x2=.ok (.string ⟨R.toArray⟩) x2:=conv10 hs rfl;have C3:=η (text_out p 0 [] ⟨R.toArray⟩ x2 (HB.out _ T2.out) (by simp[ByteArray.size];unfold maxLen;omega) (by simp));obtain⟨nr,hnr⟩:=ε R.length;rw[←hnr]at CV ⊢;obtain⟨tx,htx⟩:=ε ((⟨R.toArray⟩:ByteArray));rw[←htx]at CV C3 HLF;clear t2 h2 C2 T1 hs hnr htx;go_wp2_with fail;refine C3.out.mono ?_;rintro e x3 ⟨rfl,o3,n3⟩;have O3:=η o3;have N3:=η n3;clear o3 n3 C3;go_wp2_with fail;go_end0;exact⟨rfl,by rw[HLF.out];simpa using O3.out,OnlyN.of_still10 T2.out N3.out⟩
theorem layPend_calls (p:Nat) (x:Lay PendV) {w:World} (ho:OutIs w ⟨p,0,none⟩ []) (hx:Il w x.ao x.c x.v.parts) (hrec:recB (pendR x.v)=true) (ht:okI x.v.tid) (hlen:(recBytes (pendR x.v)).length≤10000000):
 Calls Tryz.prog 112 #[.pointer (some ⟨p,0,none⟩),.agg #[.int .i64 x.v.tid,.slice x.ao x.v.parts.length x.c]] w fun e w'=>e=.returned (.tuple #[])∧OutIs w' ⟨p,0,none⟩ (pendB x.v)∧OnlyN ⟨p,0,none⟩ w w':=by
 have C1:=η (pendRecord_calls x.v x.ao x.c);have C2:=η (fun wx (tt:Turn [] w wx)=>encode_calls (pendR x.v) wx x.ao x.c none 0 (hx.turn tt) (.inl ⟨rfl,rfl,rfl⟩) (hf:=⟨by show okI 6;unfold okI;decide,ht,by show okI 0;unfold okI;decide⟩));have HF:Hid (pendB x.v=textB ⟨(recBytes (pendR x.v)).toArray⟩):=η rfl;have HR:=η hrec;obtain⟨L,hL⟩:=ε (pendB x.v);obtain⟨R,hR⟩:=ε (recBytes (pendR x.v));rw[←hL]at HF ⊢;rw[←hR]at HF C2 hlen;rw[HR.out]at C2;have HLF:=η HF.out;obtain⟨ra,hra⟩:=ε ((pendR x.v).cells x.ao x.c none 0);rw[←hra]at C1 C2;have HO:=η ho;have HB:Hid (∀wx,Turn [] w wx→OutIs wx ⟨p,0,none⟩ []):=η (fun wx tt=>HO.out.alloc tt.belowAll);have HC:Hid (∀cs T wx,Turn [] (w.alloc (.cells cs T)) wx→wx.heap[w.heap.size]?=some (.cells cs T)):=η (fun cs T wx tt=>tt.heap (heap_alloc_new w _));clear hL hR hra hx ho hrec ht;obtain⟨⟨t,P⟩,ao,c⟩:=x;dsimp only at C1 C2 HF ⊢;obtain⟨n,hn⟩:=ε P.length;rw[←hn]at C1 ⊢;clear hn HR HF P;have b0:=HC.out #[.int .i64 t,.slice ao n c] 65 _ (Turn.refl _ _);obtain⟨c0,c1⟩:=two_of10 b0;go_in;go_wp2_with fail;clear c0 c1 b0;refine(C1.out _).mono ?_;rintro e x1 ⟨rfl,t1⟩;have T1:=η ((Turn.alloc [] w _).trans t1);clear t1 C1;go_wp2_with fail;refine(C2.out _ T1.out).mono ?_;rintro e x2 ⟨v,rfl,h2,-,t2⟩;have T2:=η (T1.out.trans t2);obtain⟨av,cv,rfl,hs,-⟩:=Sl.of_owns (h2 (by simp));have CV:(convert 52 9 (.slice av R.length cv)).run Tryz.prog x2=.ok (.string ⟨R.toArray⟩) x2:=conv10 hs rfl;have C3:=η (text_out p 0 [] ⟨R.toArray⟩ x2 (HB.out _ T2.out) (by simp[ByteArray.size];unfold maxLen;omega) (by simp));obtain⟨nr,hnr⟩:=ε R.length;rw[←hnr]at CV ⊢;obtain⟨tx,htx⟩:=ε ((⟨R.toArray⟩:ByteArray));rw[←htx]at CV C3 HLF;clear t2 h2 C2 T1 hs hnr htx;go_wp2_with fail;refine C3.out.mono ?_;rintro e x3 ⟨rfl,o3,n3⟩;have O3:=η o3;have N3:=η n3;clear o3 n3 C3;go_wp2_with fail;go_end0;exact⟨rfl,by rw[HLF.out];simpa using O3.out,OnlyN.of_still10 T2.out N3.out⟩
end Go.Proofs.YtkjpjfghklgdhaaGreat
