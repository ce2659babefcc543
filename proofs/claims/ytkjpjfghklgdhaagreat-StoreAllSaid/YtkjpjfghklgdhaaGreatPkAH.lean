/-
  PkAH
-/
import Derived.Test.YtkjpjfghklgdhaaGreatPkAG
set_option maxHeartbeats 2000000
set_option maxRecDepth 100000
namespace Go.Proofs.YtkjpjfghklgdhaaGreat.VB
open Go.RowKit Go.Proofs.YtkjpjfghklgdhaaGreat.V
theorem Tryz.krowVB:(Tryz.prog.info? 81).map (fun i=>(i.zero,i.size,i.bytes))=some (some (.agg #[.int .i64 0,.slice none 0 0]),2,32):=by kernel_rfl
theorem Tryz.ksizeVB:(Tryz.prog.info? 81).map (·.size)=some 2:=by kernel_rfl
theorem insert_end {w:World} {v:Value} {K:List (Int×Value)} (h:w.ownsRow 0 81 2 v K.length (vcells K)) (hfew:K.length≤2000) (p:Int×Value) (hp1:p.2.oneCell'=true) {tb:Nat}
 (hx:w.cell? ⟨tb,0,none⟩=some (.int .i64 p.1)) (hy:w.cell? ⟨tb,1,none⟩=some (p.2)):
 Calls Tryz.prog 194 #[v,.int .i64 (K.length:Int),.slice (some ⟨tb,0,none⟩) 1 1] w fun e w'=>
  ∃v',e=.returned v'∧w'.ownsRow 0 81 2 v' (K.length+1) (vcells (insV K K.length p))∧(v'.ownBlock=v.ownBlock∨v'.ownBlock=some w.heap.size)∧Turn v.ownBlock.toList w w':=by
 obtain⟨i0,hi,hz0,hz1,hz2⟩:=info_parts Tryz.krowVB;have HR:=η h;obtain⟨n,hn⟩:=ε K.length;have HN:=η hn;have HI:=η hi
 have HX:Hid (∀j u,[Value.int .i64 p.1,p.2][j]?=some u→w.cell? ((⟨tb,0,none⟩:Addr).add j)=some u):=η (fun j u hj=>by
  match j,hj with
  | 0,hj=>simp at hj;rw[←hj,Addr.add_lit];exact hx
  | 1,hj=>simp at hj;rw[←hj,Addr.add_lit];exact hy
  | j+2,hj=>simp at hj)
 have HO:Hid (∀u∈[Value.int .i64 p.1,p.2],u.oneCell'=true):=η (by intro u hu;simp at hu;rcases hu with rfl | rfl<;>first | rfl | exact hp1);have hvs:∃ao cap,v=.slice ao K.length cap∧K.length≤cap∧cap≤maxLen:=by
  rcases h.2 with⟨rfl,h0⟩ | ⟨g,cap,cur,rfl,_,_,hle,hmx,_⟩
  · exact⟨none,0,by rw[h0],by omega,by unfold maxLen;omega⟩
  · exact⟨_,cap,rfl,hle,hmx⟩
 obtain⟨ao,cap,rfl,hle,hmx⟩:=hvs;unfold maxLen at hmx;rw[←hn]at hle hfew ⊢;obtain⟨ob,hob⟩:=ε ((Value.slice ao n cap).ownBlock);have HE:=η (show ∀c',(Value.slice ao n c').ownBlock=ob from fun _=>by rw[hob];cases ao<;>rfl);rw[←hob];clear h hn hi hx hy hob;go_in;go_wp2_with(at_builtin;refine wpList_append_own_at w rfl (.tmp 23) (.tmp 24) 23 rfl 0 81 i0 _ 2 32 Tryz.underlying23 HI.out hz0 hz1 hz2 rfl (by decide) (.slice ao n cap) n (vcells K) rfl (by rw[HN.out];exact HR.out) ⟨tb,0,none⟩ 1 1 [.int .i64 p.1,p.2] rfl rfl HX.out HO.out (by unfold maxLen;omega) (by omega) (Nat.zero_le _) ?_)
 all_goals
  intro v' w' h1 h2 _ h4;rw[HE.out]at h2 h4;have H1:Hid (w'.ownsRow 0 81 2 v' (n+1) (vcells (insV K n p))):=η (by rw[HN.out,insV_end,vcells_append,←HN.out];exact h1);have H2:=η (Turn.grown h2 (fun k hk=>.inl (Option.mem_toList.2 hk)));have H4:=η h4;clear h1 h2 h4;go_wp2;go_ret;exact⟨v',rfl,H1.out,H4.out,H2.out⟩
theorem insert_shift {w:World} {g cap:Nat} {cur:Array Value} {K:List (Int×Value)} (hg:w.heap[g]?=some (.cells cur 81 (0,0))) (hsz:cur.size=cap*2) (htk:cur.toList.take (K.length*2)=vcells K) (hfew:K.length≤2000) (hmx:cap≤maxLen) {i:Nat} (hi:i<K.length) (hroom:K.length+1≤cap) (p:Int×Value) (hp1:p.2.oneCell'=true) (hO:Ones K) {tb:Nat}
 (ht:w.heap[tb]?=some (.cells #[.int .i64 p.1,p.2] 81)) (hne:tb≠g):
 Calls Tryz.prog 194 #[.slice (some ⟨g,0,none⟩) K.length cap,.int .i64 (i:Int),.slice (some ⟨tb,0,none⟩) 1 1] w fun e w'=>
  e=.returned (.slice (some ⟨g,0,none⟩) (K.length+1) cap)∧w'.ownsRow 0 81 2 (.slice (some ⟨g,0,none⟩) (K.length+1) cap) (K.length+1) (vcells (insV K i p))∧Turn [g] w w':=by
 obtain⟨n,hn⟩:=ε K.length;have hkl:=vcells_length K;unfold maxLen at hmx;have hov:∀lb cb,(callFunc 234 #[.slice (some ⟨tb,0,none⟩) 1 1,.slice (some ⟨g,(i+1)*2,none⟩) lb cb]).run Tryz.prog w=.ok (.value (.bool false)) w:=fun lb cb=>by
  have hsa:w.shape? tb=some (81,2):=by simp[World.shape?,ht]
  have hsb:w.shape? g=some (81,cap*2):=by simp[World.shape?,hg,hsz]
  rw[run_callFunc_extern Tryz.func234 (by kernel_rfl) (by kernel_rfl) (by kernel_rfl) (e:=Extern.SlicesOverlaps.overlaps #[23,23] #[4]) (by kernel_rfl),
   Lib.run_overlaps_apart w 23 4 81 Tryz.underlying23 2 (fun _=>by kernel_rfl) ⟨tb,0,none⟩ ⟨g,(i+1)*2,none⟩ 1 1 lb cb hne _ _ 2 (cap*2) hsa hsb (by omega) (by simp[World.frozen?,ht]) (by simp[World.frozen?,ht])]
  rfl
 have HN:=η hn;rw[←hn]at hi hroom hfew htk hkl ⊢;clear hn;go_in;have hb3:(i:Int)≤(n:Int):=by omega
 have hz2:((i:Int)==(n:Int))=false:=by simp;omega
 have hz3:¬(cap:Int)<(n:Int)+1:=by omega
 have hw1:IntKind.i64.wrap ((i:Int)+1)=(i:Int)+1:=by rw[IntKind.wrap_i64];omega
 have htn:((i:Int)+1).toNat=i+1:=by omega
 have hb1:(0:Int)≤(i:Int)+1:=by omega
 have hin:i≤n:=by omega
 have hb5:(i:Int)≤(n:Int)+1:=by omega
 have hb2:¬cap=i+1:=by omega
 have hb4:¬cap=i:=by omega
 go_wp2_with fail;refine wp_region_any (by kernel_rfl) ?_;refine any_tq 0 (some 69) ?_;simp only[Act.put,σa,σz,σs];refine any_tq 1 (some 70) ?_;simp only[Act.put,σa,σz,σs];refine any_tq 2 (some 71) ?_;simp only[Act.put,σa,σz,σs];refine any_tq 3 (some 72) ?_;simp only[Act.put,σa,σz,σs];refine any_take (i:=4) (d:=some 73) (v:=.slice (some ⟨g,(i+1)*2,none⟩) (n-i) (cap-(i+1))) rfl (by rfl) (by kernel_rfl) (by kernel_rfl) (by kernel_rfl) (fun _ _ _ h=>h) (by rfl) ?_ ?_
 · intro wz;go_simp
 simp only[Act.put,σa,σz,σs];refine any_tq 5 (some 74) ?_;simp only[Act.put,σa,σz,σs];refine any_tq 6 (some 75) ?_;simp only[Act.put,σa,σz,σs];refine any_take (i:=7) (d:=some 76) (v:=.slice (some ⟨g,i*2,none⟩) (n+1-i) (cap-i)) rfl (by rfl) (by kernel_rfl) (by kernel_rfl) (by kernel_rfl) (fun _ _ _ h=>h) (by rfl) ?_ ?_
 · intro wz;go_simp
 simp only[Act.put,σa,σz,σs];obtain⟨L,hL⟩:=ε (vcells K);rw[←hL]at htk hkl;obtain⟨C1,hC1⟩:=ε (cur.toList.take ((i+1)*2)++L.drop (i*2)++cur.toList.drop ((i+1)*2+(L.drop (i*2)).length));obtain⟨C2,hC2⟩:=ε (C1.take (i*2)++[.int .i64 p.1,p.2]++C1.drop (i*2+2));obtain⟨hl1,hl2,htk2⟩:=shift_row htk hkl hi (by rw[Array.length_toList];omega) hC1 hC2;have hg0:w.drew.heap[g]?=some (.cells cur 81 (0,0)):=hg;have hdl:(L.drop (i*2)).length=(n-i)*2:=by rw[List.length_drop,hkl];omega
 have hcp1:=run_copy_rowN (P:=Tryz.prog) w.drew 23 23 3 81 g ((i+1)*2) (n-i) (cap-(i+1)) ⟨g,i*2,none⟩ (n+1-i) (cap-i) 2 (n-i) cur _ (L.drop (i*2)) Tryz.underlying23 Tryz.ksizeVB hg0
  (by simp only[Nat.min_def];split<;>omega) hdl
  (fun j v hj=>by
   rw[Addr.add_lit,cell_of_row _ _ _ _ _ _ hg0];rw[List.getElem?_drop,←htk]at hj;have h9:i*2+j<n*2:=by
    rcases Nat.lt_or_ge (i*2+j) (n*2)with h | h
    · exact h
    · rw[List.getElem?_eq_none (by rw[List.length_take];omega)]at hj;cases hj
   rw[List.getElem?_take_of_lt h9]at hj
   simpa using hj)
  (by rw[hdl,hsz];omega) (fun v hv=>vcells_one hO v (by rw[←hL];exact List.mem_of_mem_drop hv))
 rw[←hC1]at hcp1;obtain⟨W1,hW1⟩:=ε (w.drew.setRow g C1.toArray);rw[←hW1]at hcp1;have hg1:W1.heap[g]?=some (.cells C1.toArray 81 (0,0)):=by rw[hW1];exact setRow_heap _ _ _ _ _ _ hg0
 have t1:Turn [g] w W1:=Turn.rows (by simp) (Turn.drew _ w) ⟨_,hW1⟩;have ht1:=t1.heap ht (by simpa using hne);have hcp2:=run_copy_rowN (P:=Tryz.prog) W1 23 23 3 81 g (i*2) (n+1-i) (cap-i) ⟨tb,0,none⟩ 1 1 2 1 C1.toArray _ [.int .i64 p.1,p.2] Tryz.underlying23 Tryz.ksizeVB hg1
  (by simp only[Nat.min_def];split<;>omega) rfl
  (fun j v hj=>by
   rw[Addr.add_lit,cell_of_row _ _ _ _ _ _ ht1]
   match j,hj with
   | 0,hj=>simpa using hj
   | 1,hj=>simpa using hj
   | j+2,hj=>simp at hj)
  (by simp[hl1,hsz];omega) (by intro u hu;simp at hu;rcases hu with rfl | rfl<;>first | rfl | exact hp1)
 have e2:(C1.toArray.toList.take (i*2)++[.int .i64 p.1,p.2]++C1.toArray.toList.drop (i*2+[Value.int .i64 p.1,p.2].length))=C2:=by rw[hC2];rfl
 rw[e2]at hcp2;obtain⟨W2,hW2⟩:=ε (W1.setRow g C2.toArray);rw[←hW2]at hcp2;have HCP2:=η hcp2;have T2:=η (Turn.rows (g:=g) (by simp) t1 ⟨_,hW2⟩)
 have R2:Hid (W2.ownsRow 0 81 2 (.slice (some ⟨g,0,none⟩) (n+1) cap) (n+1) (vcells (insV K i p))):=η (by
  refine⟨by rw[vcells_length,insV_length (by rw[←HN.out];omega),HN.out],.inr ⟨g,cap,C2.toArray,rfl,Nat.zero_le _,by rw[hW2];exact setRow_heap _ _ _ _ _ _ hg1,hroom,by unfold maxLen;omega,by simp[hl2,hsz],?_⟩⟩;rw[vcells_ins,←hL]
  exact htk2)
 refine any_one (i:=8) (by kernel_rfl) (by rfl) (fun KK hKK=>?_);refine step_copy (by rfl) (.tmp 73) (.tmp 76) 23 23 rfl _ _ rfl rfl hcp1 ?_;refine hKK _ _ ?_;show wpAny _ _ _ _ _ _ (Act.put _ (some 77) _) _;simp only[Act.put,σa,σz,σs];refine any_done (by kernel_rfl) ?_ _;clear hcp1 hcp2 hg0 hg1 hC1 hC2 hl1 hl2 htk2 t1 ht1 hW1 hW2 hdl e2 hg ht hsz htk hkl hL;go_wp2_with fail;rw[HCP2.out];go_wp2;go_ret;exact⟨rfl,R2.out,T2.out⟩
theorem insert_grow {w:World} {g cap:Nat} {cur:Array Value} {K:List (Int×Value)} (hg:w.heap[g]?=some (.cells cur 81 (0,0))) (htk:cur.toList.take (K.length*2)=vcells K) (hfew:K.length≤2000) {i:Nat} (hi:i<K.length) (hle:K.length≤cap) (hroom:cap<K.length+1) (p:Int×Value) (hp1:p.2.oneCell'=true) (hO:Ones K) {tb:Nat}
 (ht:w.heap[tb]?=some (.cells #[.int .i64 p.1,p.2] 81)):
 Calls Tryz.prog 194 #[.slice (some ⟨g,0,none⟩) K.length cap,.int .i64 (i:Int),.slice (some ⟨tb,0,none⟩) 1 1] w fun e w'=>
  ∃G,e=.returned (.slice (some ⟨w.heap.size,0,none⟩) (K.length+1) G)∧w'.ownsRow 0 81 2 (.slice (some ⟨w.heap.size,0,none⟩) (K.length+1) G) (K.length+1) (vcells (insV K i p))∧Turn [] w w':=by
 obtain⟨n,hn⟩:=ε K.length;have hkl:=vcells_length K;have HN:=η hn;obtain⟨L,hL⟩:=ε (vcells K);rw[←hL]at htk hkl;rw[←hn]at hi hroom hle hfew htk hkl ⊢;clear hn;obtain⟨i0,hi0,hz0,hz1,hz2⟩:=info_parts Tryz.krowVB;have hgw:g<w.heap.size:=lt_of_heap hg;have htw:tb<w.heap.size:=lt_of_heap ht;have hold:(Builtin.firstCells i0.size i (.slice (some ⟨g,0,none⟩) i cap)).run Tryz.prog w.drew=.ok (L.take (i*2)).toArray w.drew:=by
  rw[hz1]
  exact run_firstCells_some w.drew 2 i ⟨g,0,none⟩ i cap (L.take (i*2)) (by rw[List.length_take];omega) (fun j v hj=>by
   have hg0:w.drew.heap[g]?=some (.cells cur 81 (0,0)):=hg;rw[Addr.add_lit,Nat.zero_add,cell_of_row _ _ _ _ _ _ hg0];rw[←htk,List.take_take,Nat.min_eq_left (by omega)]at hj;have h9:j<i*2:=by
    rcases Nat.lt_or_ge j (i*2)with h | h
    · exact h
    · rw[List.getElem?_eq_none (by rw[List.length_take];omega)]at hj;cases hj
   rw[List.getElem?_take_of_lt h9]at hj
   simpa using hj)
 obtain⟨q,hq⟩:=ε w.heap.size;have hrz:=Lib.run_append_grow_zeros w 23 3 23 81 i0 _ .i64 .i64 Tryz.underlying23 Tryz.underlying3 hi0 hz0 (some ⟨g,0,none⟩) i cap (L.take (i*2)) hold (n+1-i) (by omega) (by omega) (by omega) (by omega) (by rw[hz2];omega) (by rw[hz2];exact growslice_fits (by omega) (by omega));rw[show i+(n+1-i)=n+1 by omega,←hq]at hrz;obtain⟨G,hG⟩:=ε (grownCap w (n+1) cap 81);have hGn:n+1≤G:=by rw[hG];exact grownCap_ge w _ _ _
 have hG63:G≤maxLen:=by rw[hG];exact grownCap_le_maxLen w (n+1) cap 81 (by unfold maxLen;omega)
 rw[←hG]at hrz;obtain⟨ROW,hROW⟩:∃ROW:Array Value,ROW=(L.take (i*2)).toArray++Builtin.zeroCells (Value.agg #[.int .i64 0,.slice none 0 0]).cells (n+1-i)++Builtin.zeroCells (Value.agg #[.int .i64 0,.slice none 0 0]).cells (G-(n+1)):=⟨_,rfl⟩
 rw[←hROW]at hrz;have hRs:ROW.size=G*2:=by
  rw[hROW];simp[Builtin.zeroCells,Value.cells];omega
 have hRt:ROW.toList.take (i*2)=L.take (i*2):=by
  rw[hROW];simp only[Array.toList_append,List.append_assoc];exact List.take_left' (by rw[List.length_take];omega)
 obtain⟨C1,hC1⟩:=ε (ROW.toList.take (i*2)++[.int .i64 p.1,p.2]++ROW.toList.drop (i*2+2));obtain⟨C2,hC2⟩:=ε (C1.take ((i+1)*2)++L.drop (i*2)++C1.drop ((i+1)*2+(L.drop (i*2)).length));obtain⟨hl1,hl2,htk2⟩:=grown_row hkl hi (by rw[Array.length_toList,hRs];omega) hRt hC1 hC2;have hRl:ROW.toList.length=G*2:=by rw[Array.length_toList];exact hRs
 rw[hRl]at hl1 hl2;clear hRl;obtain⟨W1,hW1⟩:=ε (w.drew.alloc (.cells ROW 81));rw[←hW1]at hrz;have t1:Turn [] w W1:=by rw[hW1];exact(Turn.drew [] w).trans (Turn.alloc [] _ _)
 have hg1:W1.heap[q]?=some (.cells ROW 81 (0,0)):=by rw[hW1,hq];exact heap_alloc_new w.drew _
 have hcp1:=run_copy_rowN (P:=Tryz.prog) W1 23 23 3 81 q (i*2) (n+1-i) (G-i) ⟨tb,0,none⟩ 1 1 2 1 ROW _ [.int .i64 p.1,p.2] Tryz.underlying23 Tryz.ksizeVB hg1
  (by simp only[Nat.min_def];split<;>omega) rfl
  (fun j v hj=>by
   rw[Addr.add_lit,cell_of_row _ _ _ _ _ _ (t1.heap ht)]
   match j,hj with
   | 0,hj=>simpa using hj
   | 1,hj=>simpa using hj
   | j+2,hj=>simp at hj)
  (by simp[hRs];omega) (by intro u hu;simp at hu;rcases hu with rfl | rfl<;>first | rfl | exact hp1)
 have e1:(ROW.toList.take (i*2)++[.int .i64 p.1,p.2]++ROW.toList.drop (i*2+[Value.int .i64 p.1,p.2].length))=C1:=by rw[hC1];rfl
 rw[e1]at hcp1;obtain⟨W2,hW2⟩:=ε (W1.setRow q C1.toArray);rw[←hW2]at hcp1;have hg2:W2.heap[q]?=some (.cells C1.toArray 81 (0,0)):=by rw[hW2];exact setRow_heap _ _ _ _ _ _ hg1
 have t2:Turn [q] w W2:=Turn.rows (by simp) (t1.mono (by simp)) ⟨_,hW2⟩;have hdl:(L.drop (i*2)).length=(n-i)*2:=by rw[List.length_drop,hkl];omega
 have hgo:=t2.heap hg (by simp;omega);have hcp2:=run_copy_rowN (P:=Tryz.prog) W2.drew 23 23 3 81 q ((i+1)*2) (n-i) (G-(i+1)) ⟨g,i*2,none⟩ (n-i) (cap-i) 2 (n-i) C1.toArray _ (L.drop (i*2)) Tryz.underlying23 Tryz.ksizeVB hg2
  (by simp) hdl
  (fun j v hj=>by
   have hgo':W2.drew.heap[g]?=some (.cells cur 81 (0,0)):=hgo;rw[Addr.add_lit,cell_of_row _ _ _ _ _ _ hgo'];rw[List.getElem?_drop,←htk]at hj;have h9:i*2+j<n*2:=by
    rcases Nat.lt_or_ge (i*2+j) (n*2)with h | h
    · exact h
    · rw[List.getElem?_eq_none (by rw[List.length_take];omega)]at hj;cases hj
   rw[List.getElem?_take_of_lt h9]at hj
   simpa using hj)
  (by rw[hdl];simp[hl1];omega) (fun v hv=>vcells_one hO v (by rw[←hL];exact List.mem_of_mem_drop hv))
 rw[show C1.toArray.toList=C1 from rfl,←hC2]at hcp2;obtain⟨W3,hW3⟩:=ε (W2.drew.setRow q C2.toArray);rw[←hW3]at hcp2;have HRZ:=η hrz;have HCP1:=η hcp1;have HCP2:=η hcp2;have T3:Hid (Turn [] w W3):=η ((Turn.rows (g:=q) (by simp) (t2.trans (Turn.drew [q] W2) (fun i hi=>.inl hi)) ⟨_,hW3⟩).mono (fun k hk=>.inr (by rw[List.mem_singleton.1 hk,hq];exact Nat.le_refl _)))
 have R3:Hid (W3.ownsRow 0 81 2 (.slice (some ⟨q,0,none⟩) (n+1) G) (n+1) (vcells (insV K i p))):=η (by
  refine⟨by rw[vcells_length,insV_length (by rw[←HN.out];omega),HN.out],.inr ⟨q,G,C2.toArray,rfl,Nat.zero_le _,by rw[hW3];exact setRow_heap W2.drew _ _ _ _ _ hg2,hGn,hG63,by simp[hl2],?_⟩⟩;rw[vcells_ins,←hL]
  exact htk2)
 rw[←hq];unfold maxLen at hG63;clear hrz hcp1 hcp2 hg1 hg2 hC1 hC2 hl1 hl2 htk2 t1 t2 hW1 hW2 hW3 hdl e1 hg ht htk hkl hL hold hROW hRs hRt hgo hG hq hi0 hz0 hz1 hz2;go_in;have hb3:(i:Int)≤(n:Int):=by omega
 have hz2:((i:Int)==(n:Int))=false:=by simp;omega
 have hz3:(cap:Int)<(n:Int)+1:=by omega
 have hw1:IntKind.i64.wrap ((i:Int)+1)=(i:Int)+1:=by rw[IntKind.wrap_i64];omega
 have htn:((i:Int)+1).toNat=i+1:=by omega
 have hb1:(0:Int)≤(i:Int)+1:=by omega
 have hin:i≤n:=by omega
 have hb5:(i:Int)≤(n:Int)+1:=by omega
 have hb4:¬cap=i:=by omega
 have hb6:¬G=i:=by omega
 have hb7:¬G=i+1:=by omega
 have hkk:(n:Int)+1-(i:Int)=((n+1-i:Nat):Int):=by omega
 go_wp2_with(at_builtin;refine Lib.wpList_append_run w rfl (.tmp 34) (.tmp 39) 23 3 rfl _ _ rfl rfl _ _ HRZ.out ?_);rw[HCP1.out];go_wp2_with fail;refine wp_region_any (by kernel_rfl) ?_;refine any_tq 0 (some 46) ?_;simp only[Act.put,σa,σz,σs];refine any_tq 1 (some 47) ?_;simp only[Act.put,σa,σz,σs];refine any_tq 2 (some 48) ?_;simp only[Act.put,σa,σz,σs];refine any_tq 3 (some 49) ?_;simp only[Act.put,σa,σz,σs];refine any_take (i:=4) (d:=some 50) (v:=.slice (some ⟨q,(i+1)*2,none⟩) (n-i) (G-(i+1))) rfl (by rfl) (by kernel_rfl) (by kernel_rfl) (by kernel_rfl) (fun _ _ _ h=>h) (by rfl) ?_ ?_
 · intro wz;go_simp
 simp only[Act.put,σa,σz,σs];refine any_tq 5 (some 51) ?_;simp only[Act.put,σa,σz,σs];refine any_tq 6 (some 52) ?_;simp only[Act.put,σa,σz,σs];refine any_take (i:=7) (d:=some 53) (v:=.slice (some ⟨g,i*2,none⟩) (n-i) (cap-i)) rfl (by rfl) (by kernel_rfl) (by kernel_rfl) (by kernel_rfl) (fun _ _ _ h=>h) (by rfl) ?_ ?_
 · intro wz;go_simp
 simp only[Act.put,σa,σz,σs];refine any_one (i:=8) (by kernel_rfl) (by rfl) (fun KK hKK=>?_);refine step_copy (by rfl) (.tmp 50) (.tmp 53) 23 23 rfl _ _ rfl rfl HCP2.out ?_;refine hKK _ _ ?_;show wpAny _ _ _ _ _ _ (Act.put _ (some 54) _) _;simp only[Act.put,σa,σz,σs];refine any_done (by kernel_rfl) ?_ _;go_wp2;go_ret;exact⟨G,rfl,R3.out,T3.out⟩
theorem insert_calls {w:World} {v:Value} {K:List (Int×Value)} (h:w.ownsRow 0 81 2 v K.length (vcells K)) (hfew:K.length≤2000) {i:Nat} (hi:i≤K.length) (p:Int×Value) (hp1:p.2.oneCell'=true) (hO:Ones K) {tb:Nat}
 (ht:w.heap[tb]?=some (.cells #[.int .i64 p.1,p.2] 81)) (hne:v.ownBlock≠some tb):
 Calls Tryz.prog 194 #[v,.int .i64 (i:Int),.slice (some ⟨tb,0,none⟩) 1 1] w fun e w'=>
  ∃v',e=.returned v'∧w'.ownsRow 0 81 2 v' (K.length+1) (vcells (insV K i p))∧(v'.ownBlock=v.ownBlock∨v'.ownBlock=some w.heap.size)∧Turn v.ownBlock.toList w w':=by
 by_cases hin:i=K.length
 · subst hin;exact insert_end h hfew p hp1 (by rw[cell_of_row _ _ _ _ _ _ ht];rfl) (by rw[cell_of_row _ _ _ _ _ _ ht];rfl)
 · rcases h.2 with⟨rfl,h0⟩ | ⟨g,cap,cur,rfl,_,hg,hle,hmx,hsz,htk⟩
   · omega
   · by_cases hroom:K.length+1≤cap
     · refine(insert_shift hg hsz htk hfew hmx (by omega) hroom p hp1 hO ht (fun e=>hne (by rw[e];rfl))).mono ?_;rintro e w' ⟨rfl,hr,t⟩;exact⟨_,rfl,hr,.inl rfl,t⟩
     · refine(insert_grow hg htk hfew (by omega) hle (by omega) p hp1 hO ht).mono ?_;rintro e w' ⟨G,rfl,hr,t⟩;exact⟨_,rfl,hr,.inr rfl,t.mono (by simp)⟩
theorem delete_calls {w:World} {v:Value} {K:List (Int×Value)} (hO:Ones K) (h:w.ownsRow 0 81 2 v K.length (vcells K)) (hfew:K.length≤2000) {i:Nat} (hi:i<K.length):
 Calls Tryz.prog 254 #[v,.int .i64 (i:Int),.int .i64 ((i+1:Nat):Int)] w fun e w'=>
  ∃v',e=.returned v'∧w'.ownsRow 0 81 2 v' (delV K i).length (vcells (delV K i))∧v'.ownBlock=v.ownBlock∧Turn v.ownBlock.toList w w':=by
 rcases h.2 with⟨rfl,h0⟩ | ⟨g,cap,cur,rfl,_,hg,hle,hmx,hsz,htk⟩
 · omega
 obtain⟨n,hn⟩:=ε K.length;have hkl:=vcells_length K;have HN:=η hn;obtain⟨L,hL⟩:=ε (vcells K);rw[delV_length hi];rw[←hL]at htk hkl;rw[←hn]at hi hle hfew htk hkl ⊢;obtain⟨i0,hi0,hz0,hz1,hz2⟩:=info_parts Tryz.krowVB;unfold maxLen at hmx;clear hn h;have hg0:w.drew.heap[g]?=some (.cells cur 81 (0,0)):=hg;have hdl:(L.drop ((i+1)*2)).length=(n-(i+1))*2:=by rw[List.length_drop,hkl];omega
 obtain⟨C1,hC1⟩:=ε (cur.toList.take (i*2)++L.drop ((i+1)*2)++cur.toList.drop (i*2+(L.drop ((i+1)*2)).length));obtain⟨C2,hC2⟩:=ε (C1.take ((n-1)*2)++[.int .i64 0,.slice none 0 0]++C1.drop ((n-1)*2+[Value.int .i64 0,.slice none 0 0].length));obtain⟨hl1,hl2,htk2⟩:=del_row htk hkl hi rfl (by rw[Array.length_toList];omega) hC1 hC2;have hap:∀a,(n-(i+1)=0∨a=(⟨g,(i+1)*2,none⟩:Addr))→_:=fun a ha=>run_append_rowN (P:=Tryz.prog) w.drew 23 23 23 81 g i cap a (n-(i+1)) (cap-(i+1)) 2 cur _ (L.drop ((i+1)*2)) i0 Tryz.underlying23 Tryz.underlying23 hi0 hz1 hg0 hdl (by omega)
  (fun j v hj=>by
   rcases ha with ha | rfl
   · rw[List.getElem?_eq_none (by omega)]at hj;cases hj
   rw[Addr.add_lit,cell_of_row _ _ _ _ _ _ hg0];rw[List.getElem?_drop,←htk]at hj;have h9:(i+1)*2+j<n*2:=by
    rcases Nat.lt_or_ge ((i+1)*2+j) (n*2)with h | h
    · exact h
    · rw[List.getElem?_eq_none (by rw[List.length_take];omega)]at hj;cases hj
   rw[List.getElem?_take_of_lt h9]at hj
   simpa using hj)
  (by rw[hdl,hsz];omega) (fun v hv=>vcells_one hO v (by rw[←hL];exact List.mem_of_mem_drop hv))
 rw[←hC1,show i+(n-(i+1))=n-1 by omega]at hap;obtain⟨W1,hW1⟩:=ε (w.drew.setRow g C1.toArray);rw[←hW1]at hap;have hg1:W1.heap[g]?=some (.cells C1.toArray 81 (0,0)):=by rw[hW1];exact setRow_heap _ _ _ _ _ _ hg0
 have t1:Turn [g] w W1:=Turn.rows (by simp) (Turn.drew _ w) ⟨_,hW1⟩;have hcl:=run_clear_rowN (P:=Tryz.prog) W1 23 0 81 g ((n-1)*2) 1 (cap-(n-1)) C1.toArray _ _ i0 Tryz.underlying23 hi0 hz0 (by omega) hg1 [.int .i64 0,.slice none 0 0] (by kernel_rfl) (by simp[hl1,hsz];omega) (by intro u hu;simp at hu;rcases hu with rfl | rfl<;>rfl);rw[show C1.toArray.toList=C1 from rfl,←hC2]at hcl;obtain⟨W2,hW2⟩:=ε (W1.setRow g C2.toArray);rw[←hW2]at hcl;have HAP:=η hap;have HCL:=η hcl;have T2:=η (Turn.rows (g:=g) (by simp) t1 ⟨_,hW2⟩)
 have R2:Hid (W2.ownsRow 0 81 2 (.slice (some ⟨g,0,none⟩) (n-1) cap) (n-1) (vcells (delV K i))):=η (by
  refine⟨by rw[vcells_length,delV_length (by rw[←HN.out];exact hi),HN.out],.inr ⟨g,cap,C2.toArray,rfl,Nat.zero_le _,by rw[hW2];exact setRow_heap _ _ _ _ _ _ hg1,by omega,by unfold maxLen;omega,by simp[hl2,hsz],?_⟩⟩;rw[vcells_del,←hL]
  exact htk2)
 clear hap hcl hg0 hg1 hC1 hC2 hl1 hl2 htk2 t1 hW1 hW2 hdl hg hsz htk hkl hL hi0 hz0 hz1 hz2;obtain⟨A,hA,hA2⟩:∃A,(if cap=i+1 then some (⟨g,0,none⟩:Addr)else some ⟨g,(i+1)*2,none⟩)=some A∧(n-(i+1)=0∨A=(⟨g,(i+1)*2,none⟩:Addr)):=by
  by_cases hc:cap=i+1
  · exact⟨_,if_pos hc,.inl (by omega)⟩
  · exact⟨_,if_neg hc,.inr rfl⟩
 have hb1:(0:Int)≤((i+1:Nat):Int):=by omega
 have hb2:((i+1:Nat):Int)≤(n:Int):=by omega
 have hb4:i+1≤n:=by omega
 have hb5:(i:Int)+1≤(n:Int):=by omega
 have hb6:¬cap<i:=by omega
 have hb7:¬(i:Int)+1<0:=by omega
 go_in;go_wp2_with fail;refine wp_region_any (by kernel_rfl) ?_;refine any_tq 0 (some 20) ?_;simp only[Act.put,σa,σz,σs];refine any_tq 1 (some 21) ?_;simp only[Act.put,σa,σz,σs];refine any_take (i:=2) (d:=some 22) (v:=.slice (some ⟨g,0,none⟩) i cap) rfl (by rfl) (by kernel_rfl) (by kernel_rfl) (by kernel_rfl) (fun _ _ _ h=>h) (by rfl) ?_ ?_
 · intro wz;go_simp
 simp only[Act.put,σa,σz,σs];refine any_tq 3 (some 23) ?_;simp only[Act.put,σa,σz,σs];refine any_tq 4 (some 24) ?_;simp only[Act.put,σa,σz,σs];refine any_take (i:=5) (d:=some 25) (v:=.slice (some A) (n-(i+1)) (cap-(i+1))) rfl (by rfl) (by kernel_rfl) (by kernel_rfl) (by kernel_rfl) (fun _ _ _ h=>h) (by rfl) ?_ ?_
 · intro wz;go_simp
 simp only[Act.put,σa,σz,σs];refine any_one (i:=6) (by kernel_rfl) (by rfl) (fun KK hKK=>?_);refine step_append (by rfl) (.tmp 22) (.tmp 25) 23 23 rfl _ _ rfl rfl (HAP.out A hA2) ?_;refine hKK _ _ ?_;show wpAny _ _ _ _ _ _ (Act.put _ (some 26) _) _;simp only[Act.put,σa,σz,σs];refine any_tq 7 (some 0) ?_;simp only[Act.put,List.setIfInBounds_toArray,List.set_cons_zero];refine any_done (by kernel_rfl) ?_ _;go_wp2_with fail;rw[show n-(n-1)=1 by omega,HCL.out];go_wp2;go_ret;exact⟨_,rfl,R2.out,rfl,T2.out⟩
def tidF:Value:=.func (.func 115) #[] #[]
theorem tid_calls (t:Int) (v:Value) (w:World):Calls Tryz.prog 115 #[.agg #[.int .i64 t,v]] w fun e w'=>e=.returned (.int .i64 t)∧Turn [] w w':=by
 go_in;go_wp2;go_ret;exact⟨rfl,Turn.alloc [] w _⟩
theorem tid_enter (args:Array Value) (w:World):(callFunc 115 args).run Tryz.prog w=.ok (.enter 115 args) w:=
 enter_run Tryz.func115 (by kernel_rfl) (by kernel_rfl) args w
theorem close_enter (args:Array Value) (w:World):(callFunc 230 args).run Tryz.prog w=.ok (.enter 230 args) w:=
 enter_run Tryz.func230 (by kernel_rfl) (by kernel_rfl) args w
theorem close_calls (y:Int) (v:Value) (t:Int) {q:Nat} {w:World} (hq:w.cell? ⟨q,0,none⟩=some tidF):Calls Tryz.prog 230 #[.agg #[.int .i64 y,v],.int .i64 t,.pointer (some ⟨q,0,none⟩)] w fun e w'=>e=.returned (.int .i64 (cmpZ y t))∧Turn [] w w':=by
 have T:=η (tid_calls y v);have EN:=tid_enter;have C:=η (compare_i64 y t);obtain⟨c,hc⟩:=ε (cmpZ y t);rw[←hc]at C ⊢;unfold tidF at hq;have hq1:=(Turn.alloc [] w (.cells #[.int .i64 y,v] 81)).cell hq;clear hc;go_in;go_wp2_with fail;refine(T.out _).mono ?_;rintro e w1 ⟨rfl,t1⟩;have T1:=η ((Turn.alloc [] w _).trans t1);clear t1 T hq hq1;go_wp2_with fail;refine(C.out _).mono ?_;rintro e w2 ⟨rfl,rfl⟩;go_wp2;go_ret;exact⟨rfl,T1.out⟩
theorem bs_calls {w:World} {ao:Option Addr} {cp:Nat} {K:List (Int×Value)} (h:Tl 2 pairC w ao cp K) (hfew:K.length≤1000000) (t:Int) {q:Nat} (hq:w.cell? ⟨q,0,none⟩=some tidF) {m:Nat} (hm:m≤K.length)
 (hlo:∀(i:Nat) x,i<m→K[i]?=some x→x.1<t) (hhi:∀(i:Nat) x,m≤i→K[i]?=some x→t≤x.1):
 Calls Tryz.prog 229 #[.slice ao K.length cp,.int .i64 t,.func (.func 230) #[] #[.pointer (some ⟨q,0,none⟩)]] w fun e w'=>
  e=.returned (.tuple #[.int .i64 (m:Int),.bool (K[m]?.any fun x=>decide (x.1=t))])∧Turn [] w w':=by
 obtain⟨n,hn⟩:=ε K.length;have H:=η h;have HN:=η hn;have EN:=close_enter;have LO:=η hlo;have HI:=η hhi;have HQ:=η hq;obtain⟨r,hr⟩:=ε ((K[m]?.any fun x=>decide (x.1=t)));have HR:=η hr;rw[←hr];rw[←hn]at hm hfew ⊢;clear h hn hlo hhi hr hq;go_in;go_wp2_with fail;go_loopw [9,10] (fun vi vj wx=>∃i j:Nat,i≤m∧m≤j∧j≤n∧vi=.int .i64 (i:Int)∧vj=.int .i64 (j:Int)∧Turn [] w wx) (fun vi vj _=>(intOf vj).toNat-(intOf vi).toNat)
 case atStart=>exact⟨0,n,by omega,hm,Nat.le_refl _,rfl,rfl,Turn.refl _ _⟩
 case round=>
  obtain⟨i,j,hi,hj,hjn,rfl,rfl,ht⟩:=hrel;have HT:=η ht;have H2:=H.out.still ht;have hq2:=ht.cell HQ.out;clear ht;by_cases hij:i<j
  · obtain⟨h,hh⟩:=ε ((i+j) / 2);have hih:i≤h∧h<j:=by omega
    have hh':((i:Int)+(j:Int)) / 2=(h:Int):=by omega
    clear hh;have hhk:h<K.length:=by rw[←HN.out];omega
    obtain⟨x,hx⟩:∃x,K[h]?=some x:=⟨_,List.getElem?_eq_getElem hhk⟩
    obtain⟨g,off,rfl,hat⟩:=H2.at hx;have hk0:=hat 0 (.int .i64 x.1) rfl;have hk1:=hat 1 x.2 rfl;rw[Nat.add_zero]at hk0;have LO1:=fun hhm:h<m=>LO.out h x hhm hx
    have HI1:=fun hhm:m≤h=>HI.out h x hhm hx
    obtain⟨y,v⟩:=x;dsimp only at hk0 hk1 LO1 HI1;have hb:0≤(h:Int)∧(h:Int)<(n:Int):=by omega
    have C:=η (close_calls y v t hq2);by_cases hg:y<t
    · have hhm:h<m:=by
       false_or_by_contra
       have:=HI1 (by omega);omega
      have hg2:cmpZ y t<0:=cmpZ_lt.2 hg;obtain⟨c,hc⟩:=ε (cmpZ y t);rw[←hc]at C hg2;clear hat hx hc hg LO1 HI1 H2 hq2;go_wp2_with fail;refine C.out.mono ?_;rintro e x1 ⟨rfl,t1⟩;have T1:=η (HT.out.trans t1);clear t1 C;go_wp2;go_roundw
      case rel=>exact⟨h+1,j,by omega,hj,hjn,by go_num,rfl,T1.out⟩
      case measure=>simp[intOf];omega
    · have hhm:m≤h:=by
       false_or_by_contra
       have:=LO1 (by omega);omega
      have hg2:¬cmpZ y t<0:=fun e=>hg (cmpZ_lt.1 e)
      obtain⟨c,hc⟩:=ε (cmpZ y t);rw[←hc]at C hg2;clear hat hx hc hg LO1 HI1 H2 hq2;go_wp2_with fail;refine C.out.mono ?_;rintro e x1 ⟨rfl,t1⟩;have T1:=η (HT.out.trans t1);clear t1 C;go_wp2;go_roundw
      case rel=>exact⟨i,h,hi,hhm,by omega,rfl,rfl,T1.out⟩
      case measure=>simp[intOf];omega
  · have him:i=m:=by omega
    subst him;by_cases hin:i<n
    · have hik:i<K.length:=by rw[←HN.out];exact hin
      obtain⟨x,hx⟩:∃x,K[i]?=some x:=⟨_,List.getElem?_eq_getElem hik⟩
      obtain⟨g,off,rfl,hat⟩:=H2.at hx;have hk0:=hat 0 (.int .i64 x.1) rfl;have hk1:=hat 1 x.2 rfl;rw[Nat.add_zero]at hk0;have HR2:Hid (r=(cmpZ x.1 t==0)):=η (by rw[HR.out,hx,cmpZ_zero];rfl);obtain⟨y,v⟩:=x;dsimp only at hk0 hk1 HR2;have hb:0≤(i:Int)∧(i:Int)<(n:Int):=by omega
      have hin1:decide ((i:Int)<(n:Int))=true:=by simp;omega
      have C:=η (close_calls y v t hq2);obtain⟨c,hc⟩:=ε (cmpZ y t);rw[←hc]at C HR2;clear hat hx hc H2 hq2;go_wp2_with fail;refine C.out.mono ?_;rintro e x1 ⟨rfl,t1⟩;have T1:=η (HT.out.trans t1);clear t1 C;go_wp2
      go_ret2
      exact⟨by rw[HR2.out];rfl,T1.out⟩
    · have hin1:decide ((i:Int)<(n:Int))=false:=by simp;omega
      have HR2:Hid (r=false):=η (by rw[HR.out,List.getElem?_eq_none (by rw[←HN.out];omega)];rfl);clear H2 hq2;go_wp2
      go_ret2
      exact⟨by rw[HR2.out];rfl,HT.out⟩
theorem place_calls {w:World} {ao:Option Addr} {cp:Nat} {K:List (Int×Value)} (h:Tl 2 pairC w ao cp K) (hr:Rising Prod.fst K) (hfew:K.length≤1000000) (t:Int):
 Calls Tryz.prog 178 #[.slice ao K.length cp,.int .i64 t,tidF] w fun e w'=>
  e=.returned (.tuple #[.int .i64 (posK Prod.fst t K:Int),.bool (keyB Prod.fst K t)])∧Turn [] w w':=by
 have t0:=Turn.alloc [] w (.cells #[tidF] 136);have hq:(w.alloc (.cells #[tidF] 136)).cell? ⟨w.heap.size,0,none⟩=some tidF:=by
  rw[cell_of_row _ _ _ _ _ _ (heap_alloc_new w _)];rfl
 have BC:=η (bs_calls (h.still t0) hfew t hq (posK_le Prod.fst t K) (fun i x hi hx=>posK_lo hi hx) (fun i x hi hx=>posK_hi hr hi hx));rw[posK_at hr]at BC;have T0:=η t0;obtain⟨p,hp⟩:=ε (posK Prod.fst t K);obtain⟨b,hb⟩:=ε (keyB Prod.fst K t);rw[←hp,←hb]at BC ⊢;obtain⟨n,hn⟩:=ε K.length;rw[←hn]at BC ⊢;unfold tidF at BC ⊢;clear h hr hfew t0 hq hp hb hn;go_in;go_wp2_with fail;refine BC.out.mono ?_;rintro e w1 ⟨rfl,t1⟩;have T1:=η (T0.out.trans t1);clear t1 BC T0;go_wp2
 go_ret2
 exact⟨rfl,T1.out⟩
def Form (K:List (Int×Value)):Prop:=∀p∈K,∃(a:Option Addr) (n c:Nat),p.2=.slice a n c
theorem rises_calls {w:World} {ao:Option Addr} {cp:Nat} {K:List (Int×Value)} (h:Tl 2 pairC w ao cp K) (hform:Form K) (hok:∀p∈K,-9223372036854775808≤p.1∧p.1≤9223372036854775807):
 Calls Tryz.prog 114 #[.slice ao K.length cp,tidF] w fun e w'=>e=.returned (.bool (decide (K.length≤2000)&&risesFrom 0 K))∧Turn [] w w':=by
 have hlen:=h.len;obtain⟨n,hn⟩:=ε K.length;have H:=η h;have HN:=η hn;have OK:=η hok;have FM:=η hform;have EN:=tid_enter;obtain⟨ans,ha⟩:=ε ((decide (K.length≤2000)&&risesFrom 0 K));have HA:=η ha;rw[←ha];rw[←hn]at hlen ⊢;unfold tidF;clear h hn hok ha hform;by_cases hbig:2000<n
 · have HF:Hid (ans=false):=η (by rw[HA.out,←HN.out,decide_eq_false (by omega),Bool.false_and]);go_in;go_wp2;go_ret;exact⟨ret_bool HF.out.symm,Turn.refl _ _⟩
 · have HS:Hid (ans=risesFrom 0 (K.drop 0)):=η (by rw[HA.out,←HN.out,decide_eq_true (by omega),Bool.true_and];rfl);go_in;go_wp2_with fail;go_loopw [5,14] (fun vz vi wx=>∃(k:Nat) (z:Int),k≤n∧vi=.int .i64 (k:Int)∧vz=.int .i64 z∧ans=risesFrom z (K.drop k)∧Turn [] w wx) (fun _ vi _=>n-(intOf vi).toNat)
   case atStart=>exact⟨0,0,by omega,rfl,rfl,HS.out,Turn.refl _ _⟩
   case round=>
    obtain⟨k,z,hk,rfl,rfl,hall,ht⟩:=hrel;have HT:=η ht;have H2:=H.out.still ht;have HL:=η hall;clear hall ht HS;by_cases hkn:k<n
    · have hkl:k<K.length:=by rw[←HN.out];exact hkn
      obtain⟨x,hx⟩:∃x,K[k]?=some x:=⟨_,List.getElem?_eq_getElem hkl⟩
      obtain⟨g,off,rfl,hat⟩:=H2.at hx;have hk0:=hat 0 (.int .i64 x.1) rfl;have hk1:=hat 1 x.2 rfl;rw[Nat.add_zero]at hk0;have hox:=OK.out x (List.mem_of_getElem? hx);have hfx:=FM.out x (List.mem_of_getElem? hx);have HD:Hid (ans=risesFrom z (x::K.drop (k+1))):=η (by rw[HL.out,drop_cons hx]);clear H2 hx hat HL;obtain⟨y,v⟩:=x;dsimp only at hk0 hk1 hox HD hfx;obtain⟨va,vn,vc,rfl⟩:=hfx;have hb:0≤(k:Int)∧(k:Int)<(n:Int):=by omega
      have C:=η (tid_calls y (.slice va vn vc));have KT:=η (fun wx=>kindTid_calls y wx hox);obtain⟨kt,hkt⟩:=ε (decide (0<homeZ y));have HKT:=η hkt;rw[←hkt]at KT;clear hkt hox;go_wp2_with fail;refine(C.out _).mono ?_;rintro e x1 ⟨rfl,t1⟩;have T1:=η ((HT.out.trans (Turn.alloc [] _ _)).trans t1);clear t1 C hk0 hk1;by_cases hyz:y≤z
      · have HF:Hid (ans=false):=η (by rw[HD.out];show(decide (z<y)&&_)=false;rw[decide_eq_false (by omega),Bool.false_and]);have hd:decide (y≤z)=true:=by simpa using hyz
        clear HD;go_wp2_with fail;go_ret;exact⟨ret_bool HF.out.symm,T1.out⟩
      · have hd:decide (y≤z)=false:=by simpa using hyz
        cases hkt:kt with
        | false=>
         have HF:Hid (ans=false):=η (by rw[HD.out];show(decide (z<y)&&(decide (0<homeZ y)&&_))=false;rw[←HKT.out,hkt,Bool.false_and,Bool.and_false]);rw[hkt]at KT;clear HD hkt HKT;go_wp2_with fail;refine(KT.out _).mono ?_;rintro e x2 ⟨rfl,rfl⟩;clear KT;go_wp2_with fail;go_ret;exact⟨ret_bool HF.out.symm,T1.out⟩
        | true=>
         have HF:Hid (ans=risesFrom y (K.drop (k+1))):=η (by rw[HD.out];show(decide (z<y)&&(decide (0<homeZ y)&&_))=_;rw[←HKT.out,hkt,decide_eq_true (by omega),Bool.true_and,Bool.true_and]);rw[hkt]at KT;clear HD hkt HKT;go_wp2_with fail;refine(KT.out _).mono ?_;rintro e x2 ⟨rfl,rfl⟩;clear KT;go_wp2_with fail;go_roundw
         case rel=>exact⟨k+1,y,by omega,by go_num,rfl,HF.out,T1.out⟩
         case measure=>simp[intOf];omega
    · have hkk:k=n:=by omega
      have HF:Hid (ans=true):=η (by
       rw[HL.out,List.drop_eq_nil_of_le (by rw[←HN.out];omega)];rfl)
      clear HL H2;go_wp2;go_ret;exact⟨ret_bool HF.out.symm,HT.out⟩
end Go.Proofs.YtkjpjfghklgdhaaGreat.VB
