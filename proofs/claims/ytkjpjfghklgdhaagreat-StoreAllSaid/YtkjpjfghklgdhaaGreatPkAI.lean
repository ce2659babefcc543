/-
  PkAI
-/
import Derived.Test.YtkjpjfghklgdhaaGreatPkAH
set_option maxHeartbeats 2000000
set_option maxRecDepth 100000
namespace Go.Proofs.YtkjpjfghklgdhaaGreat.VB
open Go.RowKit Go.Proofs.YtkjpjfghklgdhaaGreat.V
theorem row_tl {w:World} {ao:Option Addr} {n c:Nat} {K:List (Int×Value)} (hn:n=K.length) (h:w.ownsRow 0 81 2 (.slice ao n c) K.length (vcells K)):Tl 2 pairC w ao c K:=by
 subst hn;exact Tl.of_own (n:=2) (f:=pairC) (B:=0) (e:=81) (fun _=>rfl) h
theorem with_calls {w:World} {v:Value} {K:List (Int×Value)} (h:w.ownsRow 0 81 2 v K.length (vcells K)) (hr:Rising Prod.fst K) (hfew:K.length≤2000) (hO:Ones K) (y:Int) (va:Option Addr) (vn vc:Nat):
 Calls Tryz.prog 149 #[v,.agg #[.int .i64 y,.slice va vn vc],tidF] w fun e w'=>
  ∃v',e=.returned v'∧w'.ownsRow 0 81 2 v' (K.length+1) (vcells (insV K (posK Prod.fst y K) (y,.slice va vn vc)))∧(v'.ownBlock=v.ownBlock∨∃q,v'.ownBlock=some q∧w.heap.size≤q)∧Turn v.ownBlock.toList w w':=by
 obtain⟨ao,c,rfl,hle,hmx,-⟩:=pairs_at h;have hpm:=posK_le Prod.fst y K;obtain⟨m,hm⟩:=ε (posK Prod.fst y K);have C0:=η (tid_calls y (.slice va vn vc));have EN:=tid_enter;have C1:=fun wx (t:Turn [] w wx)=>place_calls (K:=K) (row_tl rfl (ownsRow_turn h t)) hr (by omega) y
 obtain⟨kb,hkb⟩:=ε (keyB Prod.fst K y);rw[←hm]at hpm ⊢;rw[←hm,←hkb]at C1;have C1:=η C1;have H:=η h;obtain⟨ob,hob⟩:=ε ((Value.slice ao K.length c).ownBlock);have HOB:=η hob
 have HLT:Hid (∀k,ob=some k→k<w.heap.size):=η (fun k hk=>by
  rcases h.2 with⟨e,_⟩ | ⟨g,cap,cur,e,_,hg,_⟩
  · rw[hob,e]at hk;simp[Value.ownBlock]at hk
  · rw[hob,e]at hk;have:g=k:=by simpa[Value.ownBlock]using hk
    rw[←this]
    exact lt_of_heap hg)
 have IC:Hid (∀wx,Turn [] w wx→Calls Tryz.prog 194 #[.slice ao K.length c,.int .i64 (m:Int),.slice (some ⟨wx.heap.size,0,none⟩) 1 1] (wx.alloc (.cells #[.int .i64 y,.slice va vn vc] 81)) fun e w'=>
  ∃v',e=.returned v'∧w'.ownsRow 0 81 2 v' (K.length+1) (vcells (insV K m (y,.slice va vn vc)))∧(v'.ownBlock=ob∨v'.ownBlock=some (wx.heap.size+1))∧Turn ob.toList (wx.alloc (.cells #[.int .i64 y,.slice va vn vc] 81)) w'):=η (fun wx t=>by
  have:=insert_calls (i:=m) (ownsRow_turn h (t.trans (Turn.alloc [] wx (.cells #[.int .i64 y,.slice va vn vc] 81)))) hfew hpm (y,.slice va vn vc) rfl hO (heap_alloc_new wx _) (fun e=>by
   have:=HLT.out _ (HOB.out.trans e);have:=t.size
   omega)
  rw[←hob,show(wx.alloc (.cells #[.int .i64 y,.slice va vn vc] 81)).heap.size=wx.heap.size+1 by simp]at this
  exact this)
 rw[←hob];have TO:Hid (∀wx w' o,Turn [] w wx→Turn ob.toList (wx.alloc o) w'→Turn ob.toList w w'):=η (fun wx w' o t1 t2=>((t1.mono (by simp)).trans (Turn.alloc _ wx o) (fun i hi=>.inl hi)).trans t2 (fun i hi=>.inl hi));obtain⟨n,hn⟩:=ε K.length;rw[←hn]at C1 IC ⊢
 have B0:Hid (∀wx,Turn [] (w.alloc (.cells #[.int .i64 y,.slice va vn vc] 81)) wx→wx.cell? ⟨w.heap.size,0,none⟩=some (.int .i64 y)∧wx.cell? ⟨w.heap.size,1,none⟩=some (.slice va vn vc)):=η (fun wx t=>by
  have:=t.heap (heap_alloc_new w _)
  refine⟨?_,?_⟩<;>rw[cell_of_row _ _ _ _ _ _ this]<;>rfl)
 have T0:=η (Turn.alloc [] w (.cells #[.int .i64 y,.slice va vn vc] 81));unfold tidF at*;clear h hr hfew hO hm hkb hob hn hle hmx hpm H HOB HLT;go_in;go_wp2_with fail;refine(C0.out _).mono ?_;rintro e x1 ⟨rfl,t1⟩;have U1:=η t1;clear t1 C0;go_wp2_with fail;refine(C1.out _ (T0.out.trans U1.out)).mono ?_;rintro e x2 ⟨rfl,t2⟩;have U2:=η (U1.out.trans t2);have V2:=η (T0.out.trans U2.out);clear t2 C1;obtain⟨q0,q1⟩:=B0.out _ U2.out;go_wp2_with fail;refine(IC.out _ V2.out).mono ?_;rintro e x3 ⟨v',rfl,r3,b3,t3⟩;have R3:=η r3
 have B3:Hid (v'.ownBlock=ob∨∃q,v'.ownBlock=some q∧w.heap.size≤q):=η (by
  rcases b3 with b | b
  · exact .inl b
  · exact .inr ⟨_,b,by have:=V2.out.size;omega⟩)
 have T3:=η (TO.out _ _ _ V2.out t3);clear r3 b3 t3 IC q0 q1;go_wp2_with fail;go_ret;exact⟨v',rfl,R3.out,B3.out,T3.out⟩
theorem without_calls {w:World} {v:Value} {K:List (Int×Value)} (h:w.ownsRow 0 81 2 v K.length (vcells K)) (hr:Rising Prod.fst K) (hfew:K.length≤2000) (hO:Ones K) (y:Int):
 Calls Tryz.prog 233 #[v,.int .i64 y,tidF] w fun e w'=>
  ∃v',e=.returned v'∧w'.ownsRow 0 81 2 v' (remK Prod.fst y K).length (vcells (remK Prod.fst y K))∧v'.ownBlock=v.ownBlock∧Turn v.ownBlock.toList w w':=by
 obtain⟨ao,c,rfl,hle,hmx,-⟩:=pairs_at h;have hpm:=posK_le Prod.fst y K;obtain⟨m,hm⟩:=ε (posK Prod.fst y K);have C1:=place_calls (K:=K) (row_tl rfl h) hr (by omega) y;obtain⟨kb,hkb⟩:=ε (keyB Prod.fst K y);rw[←hm]at hpm;rw[←hm,←hkb]at C1;have C1:=η C1;have H:=η h;cases kb with
 | false=>
  have HK:Hid (remK Prod.fst y K=K):=η (remK_none hkb.symm);rw[HK.out];have HN:Hid (∀x1,Turn [] w x1→x1.ownsRow 0 81 2 (.slice ao K.length c) K.length (vcells K)):=η (fun x1 t=>ownsRow_turn h t);obtain⟨n,hn⟩:=ε K.length;rw[←hn]at C1 HN ⊢;unfold tidF at*;clear h hr hfew hO hm hkb hle hmx hpm H HK hn;go_in;go_wp2_with fail;refine C1.out.mono ?_;rintro e x1 ⟨rfl,t1⟩;have U1:=η t1;clear t1 C1;go_wp2_with fail;go_ret;exact⟨_,rfl,HN.out _ U1.out,rfl,U1.out.mono (by simp)⟩
 | true=>
  have hmk:m<K.length:=by
   obtain⟨x,hx,-,-⟩:=posK_find hr hkb.symm;rw[←hm]at hx;exact(List.getElem?_eq_some_iff.1 hx).1
  have HK:Hid (remK Prod.fst y K=delV K m):=η (by rw[remK_pos hr hkb.symm,←hm];rfl);rw[HK.out]
  have DC:Hid (∀wx,Turn [] w wx→Calls Tryz.prog 254 #[.slice ao K.length c,.int .i64 (m:Int),.int .i64 ((m:Int)+1)] wx fun e w'=>
   ∃v',e=.returned v'∧w'.ownsRow 0 81 2 v' (delV K m).length (vcells (delV K m))∧v'.ownBlock=(Value.slice ao K.length c).ownBlock∧Turn (Value.slice ao K.length c).ownBlock.toList wx w'):=η (fun wx t=>delete_calls hO (ownsRow_turn h t) hfew hmk)
  obtain⟨n,hn⟩:=ε K.length;rw[←hn]at C1 DC ⊢;have hw:IntKind.i64.wrap ((m:Int)+1)=(m:Int)+1:=by rw[IntKind.wrap_i64];omega
  unfold tidF at*;clear h hr hO hm hkb hle hmx H HK hn hmk hfew hpm;go_in;go_wp2_with fail;refine C1.out.mono ?_;rintro e x1 ⟨rfl,t1⟩;have U1:=η t1;clear t1 C1;go_wp2_with fail;refine(DC.out _ U1.out).mono ?_;rintro e x2 ⟨v',rfl,r2,b2,t2⟩;have R2:=η r2;have B2:=η b2;have T2:=η ((U1.out.mono (l':=(Value.slice ao n c).ownBlock.toList) (by simp)).trans t2 (fun i hi=>.inl hi));clear r2 b2 t2 DC;go_wp2_with fail;go_ret;exact⟨v',rfl,R2.out,B2.out,T2.out⟩
end Go.Proofs.YtkjpjfghklgdhaaGreat.VB
namespace Go.Proofs.YtkjpjfghklgdhaaGreat.VP
open Go.RowKit Go.Proofs.YtkjpjfghklgdhaaGreat.V
theorem Tryz.krowVP:(Tryz.prog.info? 65).map (fun i=>(i.zero,i.size,i.bytes))=some (some (.agg #[.int .i64 0,.slice none 0 0]),2,32):=by kernel_rfl
theorem Tryz.ksizeVP:(Tryz.prog.info? 65).map (·.size)=some 2:=by kernel_rfl
theorem insert_end {w:World} {v:Value} {K:List (Int×Value)} (h:w.ownsRow 0 65 2 v K.length (vcells K)) (hfew:K.length≤2000) (p:Int×Value) (hp1:p.2.oneCell'=true) {tb:Nat}
 (hx:w.cell? ⟨tb,0,none⟩=some (.int .i64 p.1)) (hy:w.cell? ⟨tb,1,none⟩=some (p.2)):
 Calls Tryz.prog 197 #[v,.int .i64 (K.length:Int),.slice (some ⟨tb,0,none⟩) 1 1] w fun e w'=>
  ∃v',e=.returned v'∧w'.ownsRow 0 65 2 v' (K.length+1) (vcells (insV K K.length p))∧(v'.ownBlock=v.ownBlock∨v'.ownBlock=some w.heap.size)∧Turn v.ownBlock.toList w w':=by
 obtain⟨i0,hi,hz0,hz1,hz2⟩:=info_parts Tryz.krowVP;have HR:=η h;obtain⟨n,hn⟩:=ε K.length;have HN:=η hn;have HI:=η hi
 have HX:Hid (∀j u,[Value.int .i64 p.1,p.2][j]?=some u→w.cell? ((⟨tb,0,none⟩:Addr).add j)=some u):=η (fun j u hj=>by
  match j,hj with
  | 0,hj=>simp at hj;rw[←hj,Addr.add_lit];exact hx
  | 1,hj=>simp at hj;rw[←hj,Addr.add_lit];exact hy
  | j+2,hj=>simp at hj)
 have HO:Hid (∀u∈[Value.int .i64 p.1,p.2],u.oneCell'=true):=η (by intro u hu;simp at hu;rcases hu with rfl | rfl<;>first | rfl | exact hp1);have hvs:∃ao cap,v=.slice ao K.length cap∧K.length≤cap∧cap≤maxLen:=by
  rcases h.2 with⟨rfl,h0⟩ | ⟨g,cap,cur,rfl,_,_,hle,hmx,_⟩
  · exact⟨none,0,by rw[h0],by omega,by unfold maxLen;omega⟩
  · exact⟨_,cap,rfl,hle,hmx⟩
 obtain⟨ao,cap,rfl,hle,hmx⟩:=hvs;unfold maxLen at hmx;rw[←hn]at hle hfew ⊢;obtain⟨ob,hob⟩:=ε ((Value.slice ao n cap).ownBlock);have HE:=η (show ∀c',(Value.slice ao n c').ownBlock=ob from fun _=>by rw[hob];cases ao<;>rfl);rw[←hob];clear h hn hi hx hy hob;go_in;go_wp2_with(at_builtin;refine wpList_append_own_at w rfl (.tmp 23) (.tmp 24) 25 rfl 0 65 i0 _ 2 32 Tryz.underlying25 HI.out hz0 hz1 hz2 rfl (by decide) (.slice ao n cap) n (vcells K) rfl (by rw[HN.out];exact HR.out) ⟨tb,0,none⟩ 1 1 [.int .i64 p.1,p.2] rfl rfl HX.out HO.out (by unfold maxLen;omega) (by omega) (Nat.zero_le _) ?_)
 all_goals
  intro v' w' h1 h2 _ h4;rw[HE.out]at h2 h4;have H1:Hid (w'.ownsRow 0 65 2 v' (n+1) (vcells (insV K n p))):=η (by rw[HN.out,insV_end,vcells_append,←HN.out];exact h1);have H2:=η (Turn.grown h2 (fun k hk=>.inl (Option.mem_toList.2 hk)));have H4:=η h4;clear h1 h2 h4;go_wp2;go_ret;exact⟨v',rfl,H1.out,H4.out,H2.out⟩
theorem insert_shift {w:World} {g cap:Nat} {cur:Array Value} {K:List (Int×Value)} (hg:w.heap[g]?=some (.cells cur 65 (0,0))) (hsz:cur.size=cap*2) (htk:cur.toList.take (K.length*2)=vcells K) (hfew:K.length≤2000) (hmx:cap≤maxLen) {i:Nat} (hi:i<K.length) (hroom:K.length+1≤cap) (p:Int×Value) (hp1:p.2.oneCell'=true) (hO:Ones K) {tb:Nat}
 (ht:w.heap[tb]?=some (.cells #[.int .i64 p.1,p.2] 65)) (hne:tb≠g):
 Calls Tryz.prog 197 #[.slice (some ⟨g,0,none⟩) K.length cap,.int .i64 (i:Int),.slice (some ⟨tb,0,none⟩) 1 1] w fun e w'=>
  e=.returned (.slice (some ⟨g,0,none⟩) (K.length+1) cap)∧w'.ownsRow 0 65 2 (.slice (some ⟨g,0,none⟩) (K.length+1) cap) (K.length+1) (vcells (insV K i p))∧Turn [g] w w':=by
 obtain⟨n,hn⟩:=ε K.length;have hkl:=vcells_length K;unfold maxLen at hmx;have hov:∀lb cb,(callFunc 236 #[.slice (some ⟨tb,0,none⟩) 1 1,.slice (some ⟨g,(i+1)*2,none⟩) lb cb]).run Tryz.prog w=.ok (.value (.bool false)) w:=fun lb cb=>by
  have hsa:w.shape? tb=some (65,2):=by simp[World.shape?,ht]
  have hsb:w.shape? g=some (65,cap*2):=by simp[World.shape?,hg,hsz]
  rw[run_callFunc_extern Tryz.func236 (by kernel_rfl) (by kernel_rfl) (by kernel_rfl) (e:=Extern.SlicesOverlaps.overlaps #[25,25] #[4]) (by kernel_rfl),
   Lib.run_overlaps_apart w 25 4 65 Tryz.underlying25 2 (fun _=>by kernel_rfl) ⟨tb,0,none⟩ ⟨g,(i+1)*2,none⟩ 1 1 lb cb hne _ _ 2 (cap*2) hsa hsb (by omega) (by simp[World.frozen?,ht]) (by simp[World.frozen?,ht])]
  rfl
 have HN:=η hn;rw[←hn]at hi hroom hfew htk hkl ⊢;clear hn;go_in;have hb3:(i:Int)≤(n:Int):=by omega
 have hz2:((i:Int)==(n:Int))=false:=by simp;omega
 have hz3:¬(cap:Int)<(n:Int)+1:=by omega
 have hw1:IntKind.i64.wrap ((i:Int)+1)=(i:Int)+1:=by rw[IntKind.wrap_i64];omega
 have htn:((i:Int)+1).toNat=i+1:=by omega
 have hb1:(0:Int)≤(i:Int)+1:=by omega
 have hin:i≤n:=by omega
 have hb5:(i:Int)≤(n:Int)+1:=by omega
 have hb2:¬cap=i+1:=by omega
 have hb4:¬cap=i:=by omega
 go_wp2_with fail;refine wp_region_any (by kernel_rfl) ?_;refine any_tq 0 (some 69) ?_;simp only[Act.put,σa,σz,σs];refine any_tq 1 (some 70) ?_;simp only[Act.put,σa,σz,σs];refine any_tq 2 (some 71) ?_;simp only[Act.put,σa,σz,σs];refine any_tq 3 (some 72) ?_;simp only[Act.put,σa,σz,σs];refine any_take (i:=4) (d:=some 73) (v:=.slice (some ⟨g,(i+1)*2,none⟩) (n-i) (cap-(i+1))) rfl (by rfl) (by kernel_rfl) (by kernel_rfl) (by kernel_rfl) (fun _ _ _ h=>h) (by rfl) ?_ ?_
 · intro wz;go_simp
 simp only[Act.put,σa,σz,σs];refine any_tq 5 (some 74) ?_;simp only[Act.put,σa,σz,σs];refine any_tq 6 (some 75) ?_;simp only[Act.put,σa,σz,σs];refine any_take (i:=7) (d:=some 76) (v:=.slice (some ⟨g,i*2,none⟩) (n+1-i) (cap-i)) rfl (by rfl) (by kernel_rfl) (by kernel_rfl) (by kernel_rfl) (fun _ _ _ h=>h) (by rfl) ?_ ?_
 · intro wz;go_simp
 simp only[Act.put,σa,σz,σs];obtain⟨L,hL⟩:=ε (vcells K);rw[←hL]at htk hkl;obtain⟨C1,hC1⟩:=ε (cur.toList.take ((i+1)*2)++L.drop (i*2)++cur.toList.drop ((i+1)*2+(L.drop (i*2)).length));obtain⟨C2,hC2⟩:=ε (C1.take (i*2)++[.int .i64 p.1,p.2]++C1.drop (i*2+2));obtain⟨hl1,hl2,htk2⟩:=shift_row htk hkl hi (by rw[Array.length_toList];omega) hC1 hC2;have hg0:w.drew.heap[g]?=some (.cells cur 65 (0,0)):=hg;have hdl:(L.drop (i*2)).length=(n-i)*2:=by rw[List.length_drop,hkl];omega
 have hcp1:=run_copy_rowN (P:=Tryz.prog) w.drew 25 25 3 65 g ((i+1)*2) (n-i) (cap-(i+1)) ⟨g,i*2,none⟩ (n+1-i) (cap-i) 2 (n-i) cur _ (L.drop (i*2)) Tryz.underlying25 Tryz.ksizeVP hg0
  (by simp only[Nat.min_def];split<;>omega) hdl
  (fun j v hj=>by
   rw[Addr.add_lit,cell_of_row _ _ _ _ _ _ hg0];rw[List.getElem?_drop,←htk]at hj;have h9:i*2+j<n*2:=by
    rcases Nat.lt_or_ge (i*2+j) (n*2)with h | h
    · exact h
    · rw[List.getElem?_eq_none (by rw[List.length_take];omega)]at hj;cases hj
   rw[List.getElem?_take_of_lt h9]at hj
   simpa using hj)
  (by rw[hdl,hsz];omega) (fun v hv=>vcells_one hO v (by rw[←hL];exact List.mem_of_mem_drop hv))
 rw[←hC1]at hcp1;obtain⟨W1,hW1⟩:=ε (w.drew.setRow g C1.toArray);rw[←hW1]at hcp1;have hg1:W1.heap[g]?=some (.cells C1.toArray 65 (0,0)):=by rw[hW1];exact setRow_heap _ _ _ _ _ _ hg0
 have t1:Turn [g] w W1:=Turn.rows (by simp) (Turn.drew _ w) ⟨_,hW1⟩;have ht1:=t1.heap ht (by simpa using hne);have hcp2:=run_copy_rowN (P:=Tryz.prog) W1 25 25 3 65 g (i*2) (n+1-i) (cap-i) ⟨tb,0,none⟩ 1 1 2 1 C1.toArray _ [.int .i64 p.1,p.2] Tryz.underlying25 Tryz.ksizeVP hg1
  (by simp only[Nat.min_def];split<;>omega) rfl
  (fun j v hj=>by
   rw[Addr.add_lit,cell_of_row _ _ _ _ _ _ ht1]
   match j,hj with
   | 0,hj=>simpa using hj
   | 1,hj=>simpa using hj
   | j+2,hj=>simp at hj)
  (by simp[hl1,hsz];omega) (by intro u hu;simp at hu;rcases hu with rfl | rfl<;>first | rfl | exact hp1)
 have e2:(C1.toArray.toList.take (i*2)++[.int .i64 p.1,p.2]++C1.toArray.toList.drop (i*2+[Value.int .i64 p.1,p.2].length))=C2:=by rw[hC2];rfl
 rw[e2]at hcp2;obtain⟨W2,hW2⟩:=ε (W1.setRow g C2.toArray);rw[←hW2]at hcp2;have HCP2:=η hcp2;have T2:=η (Turn.rows (g:=g) (by simp) t1 ⟨_,hW2⟩)
 have R2:Hid (W2.ownsRow 0 65 2 (.slice (some ⟨g,0,none⟩) (n+1) cap) (n+1) (vcells (insV K i p))):=η (by
  refine⟨by rw[vcells_length,insV_length (by rw[←HN.out];omega),HN.out],.inr ⟨g,cap,C2.toArray,rfl,Nat.zero_le _,by rw[hW2];exact setRow_heap _ _ _ _ _ _ hg1,hroom,by unfold maxLen;omega,by simp[hl2,hsz],?_⟩⟩;rw[vcells_ins,←hL]
  exact htk2)
 refine any_one (i:=8) (by kernel_rfl) (by rfl) (fun KK hKK=>?_);refine step_copy (by rfl) (.tmp 73) (.tmp 76) 25 25 rfl _ _ rfl rfl hcp1 ?_;refine hKK _ _ ?_;show wpAny _ _ _ _ _ _ (Act.put _ (some 77) _) _;simp only[Act.put,σa,σz,σs];refine any_done (by kernel_rfl) ?_ _;clear hcp1 hcp2 hg0 hg1 hC1 hC2 hl1 hl2 htk2 t1 ht1 hW1 hW2 hdl e2 hg ht hsz htk hkl hL;go_wp2_with fail;rw[HCP2.out];go_wp2;go_ret;exact⟨rfl,R2.out,T2.out⟩
theorem insert_grow {w:World} {g cap:Nat} {cur:Array Value} {K:List (Int×Value)} (hg:w.heap[g]?=some (.cells cur 65 (0,0))) (htk:cur.toList.take (K.length*2)=vcells K) (hfew:K.length≤2000) {i:Nat} (hi:i<K.length) (hle:K.length≤cap) (hroom:cap<K.length+1) (p:Int×Value) (hp1:p.2.oneCell'=true) (hO:Ones K) {tb:Nat}
 (ht:w.heap[tb]?=some (.cells #[.int .i64 p.1,p.2] 65)):
 Calls Tryz.prog 197 #[.slice (some ⟨g,0,none⟩) K.length cap,.int .i64 (i:Int),.slice (some ⟨tb,0,none⟩) 1 1] w fun e w'=>
  ∃G,e=.returned (.slice (some ⟨w.heap.size,0,none⟩) (K.length+1) G)∧w'.ownsRow 0 65 2 (.slice (some ⟨w.heap.size,0,none⟩) (K.length+1) G) (K.length+1) (vcells (insV K i p))∧Turn [] w w':=by
 obtain⟨n,hn⟩:=ε K.length;have hkl:=vcells_length K;have HN:=η hn;obtain⟨L,hL⟩:=ε (vcells K);rw[←hL]at htk hkl;rw[←hn]at hi hroom hle hfew htk hkl ⊢;clear hn;obtain⟨i0,hi0,hz0,hz1,hz2⟩:=info_parts Tryz.krowVP;have hgw:g<w.heap.size:=lt_of_heap hg;have htw:tb<w.heap.size:=lt_of_heap ht;have hold:(Builtin.firstCells i0.size i (.slice (some ⟨g,0,none⟩) i cap)).run Tryz.prog w.drew=.ok (L.take (i*2)).toArray w.drew:=by
  rw[hz1]
  exact run_firstCells_some w.drew 2 i ⟨g,0,none⟩ i cap (L.take (i*2)) (by rw[List.length_take];omega) (fun j v hj=>by
   have hg0:w.drew.heap[g]?=some (.cells cur 65 (0,0)):=hg;rw[Addr.add_lit,Nat.zero_add,cell_of_row _ _ _ _ _ _ hg0];rw[←htk,List.take_take,Nat.min_eq_left (by omega)]at hj;have h9:j<i*2:=by
    rcases Nat.lt_or_ge j (i*2)with h | h
    · exact h
    · rw[List.getElem?_eq_none (by rw[List.length_take];omega)]at hj;cases hj
   rw[List.getElem?_take_of_lt h9]at hj
   simpa using hj)
 obtain⟨q,hq⟩:=ε w.heap.size;have hrz:=Lib.run_append_grow_zeros w 25 3 25 65 i0 _ .i64 .i64 Tryz.underlying25 Tryz.underlying3 hi0 hz0 (some ⟨g,0,none⟩) i cap (L.take (i*2)) hold (n+1-i) (by omega) (by omega) (by omega) (by omega) (by rw[hz2];omega) (by rw[hz2];exact growslice_fits (by omega) (by omega));rw[show i+(n+1-i)=n+1 by omega,←hq]at hrz;obtain⟨G,hG⟩:=ε (grownCap w (n+1) cap 65);have hGn:n+1≤G:=by rw[hG];exact grownCap_ge w _ _ _
 have hG63:G≤maxLen:=by rw[hG];exact grownCap_le_maxLen w (n+1) cap 65 (by unfold maxLen;omega)
 rw[←hG]at hrz;obtain⟨ROW,hROW⟩:∃ROW:Array Value,ROW=(L.take (i*2)).toArray++Builtin.zeroCells (Value.agg #[.int .i64 0,.slice none 0 0]).cells (n+1-i)++Builtin.zeroCells (Value.agg #[.int .i64 0,.slice none 0 0]).cells (G-(n+1)):=⟨_,rfl⟩
 rw[←hROW]at hrz;have hRs:ROW.size=G*2:=by
  rw[hROW];simp[Builtin.zeroCells,Value.cells];omega
 have hRt:ROW.toList.take (i*2)=L.take (i*2):=by
  rw[hROW];simp only[Array.toList_append,List.append_assoc];exact List.take_left' (by rw[List.length_take];omega)
 obtain⟨C1,hC1⟩:=ε (ROW.toList.take (i*2)++[.int .i64 p.1,p.2]++ROW.toList.drop (i*2+2));obtain⟨C2,hC2⟩:=ε (C1.take ((i+1)*2)++L.drop (i*2)++C1.drop ((i+1)*2+(L.drop (i*2)).length));obtain⟨hl1,hl2,htk2⟩:=grown_row hkl hi (by rw[Array.length_toList,hRs];omega) hRt hC1 hC2;have hRl:ROW.toList.length=G*2:=by rw[Array.length_toList];exact hRs
 rw[hRl]at hl1 hl2;clear hRl;obtain⟨W1,hW1⟩:=ε (w.drew.alloc (.cells ROW 65));rw[←hW1]at hrz;have t1:Turn [] w W1:=by rw[hW1];exact(Turn.drew [] w).trans (Turn.alloc [] _ _)
 have hg1:W1.heap[q]?=some (.cells ROW 65 (0,0)):=by rw[hW1,hq];exact heap_alloc_new w.drew _
 have hcp1:=run_copy_rowN (P:=Tryz.prog) W1 25 25 3 65 q (i*2) (n+1-i) (G-i) ⟨tb,0,none⟩ 1 1 2 1 ROW _ [.int .i64 p.1,p.2] Tryz.underlying25 Tryz.ksizeVP hg1
  (by simp only[Nat.min_def];split<;>omega) rfl
  (fun j v hj=>by
   rw[Addr.add_lit,cell_of_row _ _ _ _ _ _ (t1.heap ht)]
   match j,hj with
   | 0,hj=>simpa using hj
   | 1,hj=>simpa using hj
   | j+2,hj=>simp at hj)
  (by simp[hRs];omega) (by intro u hu;simp at hu;rcases hu with rfl | rfl<;>first | rfl | exact hp1)
 have e1:(ROW.toList.take (i*2)++[.int .i64 p.1,p.2]++ROW.toList.drop (i*2+[Value.int .i64 p.1,p.2].length))=C1:=by rw[hC1];rfl
 rw[e1]at hcp1;obtain⟨W2,hW2⟩:=ε (W1.setRow q C1.toArray);rw[←hW2]at hcp1;have hg2:W2.heap[q]?=some (.cells C1.toArray 65 (0,0)):=by rw[hW2];exact setRow_heap _ _ _ _ _ _ hg1
 have t2:Turn [q] w W2:=Turn.rows (by simp) (t1.mono (by simp)) ⟨_,hW2⟩;have hdl:(L.drop (i*2)).length=(n-i)*2:=by rw[List.length_drop,hkl];omega
 have hgo:=t2.heap hg (by simp;omega);have hcp2:=run_copy_rowN (P:=Tryz.prog) W2.drew 25 25 3 65 q ((i+1)*2) (n-i) (G-(i+1)) ⟨g,i*2,none⟩ (n-i) (cap-i) 2 (n-i) C1.toArray _ (L.drop (i*2)) Tryz.underlying25 Tryz.ksizeVP hg2
  (by simp) hdl
  (fun j v hj=>by
   have hgo':W2.drew.heap[g]?=some (.cells cur 65 (0,0)):=hgo;rw[Addr.add_lit,cell_of_row _ _ _ _ _ _ hgo'];rw[List.getElem?_drop,←htk]at hj;have h9:i*2+j<n*2:=by
    rcases Nat.lt_or_ge (i*2+j) (n*2)with h | h
    · exact h
    · rw[List.getElem?_eq_none (by rw[List.length_take];omega)]at hj;cases hj
   rw[List.getElem?_take_of_lt h9]at hj
   simpa using hj)
  (by rw[hdl];simp[hl1];omega) (fun v hv=>vcells_one hO v (by rw[←hL];exact List.mem_of_mem_drop hv))
 rw[show C1.toArray.toList=C1 from rfl,←hC2]at hcp2;obtain⟨W3,hW3⟩:=ε (W2.drew.setRow q C2.toArray);rw[←hW3]at hcp2;have HRZ:=η hrz;have HCP1:=η hcp1;have HCP2:=η hcp2;have T3:Hid (Turn [] w W3):=η ((Turn.rows (g:=q) (by simp) (t2.trans (Turn.drew [q] W2) (fun i hi=>.inl hi)) ⟨_,hW3⟩).mono (fun k hk=>.inr (by rw[List.mem_singleton.1 hk,hq];exact Nat.le_refl _)))
 have R3:Hid (W3.ownsRow 0 65 2 (.slice (some ⟨q,0,none⟩) (n+1) G) (n+1) (vcells (insV K i p))):=η (by
  refine⟨by rw[vcells_length,insV_length (by rw[←HN.out];omega),HN.out],.inr ⟨q,G,C2.toArray,rfl,Nat.zero_le _,by rw[hW3];exact setRow_heap W2.drew _ _ _ _ _ hg2,hGn,hG63,by simp[hl2],?_⟩⟩;rw[vcells_ins,←hL]
  exact htk2)
 rw[←hq];unfold maxLen at hG63;clear hrz hcp1 hcp2 hg1 hg2 hC1 hC2 hl1 hl2 htk2 t1 t2 hW1 hW2 hW3 hdl e1 hg ht htk hkl hL hold hROW hRs hRt hgo hG hq hi0 hz0 hz1 hz2;go_in;have hb3:(i:Int)≤(n:Int):=by omega
 have hz2:((i:Int)==(n:Int))=false:=by simp;omega
 have hz3:(cap:Int)<(n:Int)+1:=by omega
 have hw1:IntKind.i64.wrap ((i:Int)+1)=(i:Int)+1:=by rw[IntKind.wrap_i64];omega
 have htn:((i:Int)+1).toNat=i+1:=by omega
 have hb1:(0:Int)≤(i:Int)+1:=by omega
 have hin:i≤n:=by omega
 have hb5:(i:Int)≤(n:Int)+1:=by omega
 have hb4:¬cap=i:=by omega
 have hb6:¬G=i:=by omega
 have hb7:¬G=i+1:=by omega
 have hkk:(n:Int)+1-(i:Int)=((n+1-i:Nat):Int):=by omega
 go_wp2_with(at_builtin;refine Lib.wpList_append_run w rfl (.tmp 34) (.tmp 39) 25 3 rfl _ _ rfl rfl _ _ HRZ.out ?_);rw[HCP1.out];go_wp2_with fail;refine wp_region_any (by kernel_rfl) ?_;refine any_tq 0 (some 46) ?_;simp only[Act.put,σa,σz,σs];refine any_tq 1 (some 47) ?_;simp only[Act.put,σa,σz,σs];refine any_tq 2 (some 48) ?_;simp only[Act.put,σa,σz,σs];refine any_tq 3 (some 49) ?_;simp only[Act.put,σa,σz,σs];refine any_take (i:=4) (d:=some 50) (v:=.slice (some ⟨q,(i+1)*2,none⟩) (n-i) (G-(i+1))) rfl (by rfl) (by kernel_rfl) (by kernel_rfl) (by kernel_rfl) (fun _ _ _ h=>h) (by rfl) ?_ ?_
 · intro wz;go_simp
 simp only[Act.put,σa,σz,σs];refine any_tq 5 (some 51) ?_;simp only[Act.put,σa,σz,σs];refine any_tq 6 (some 52) ?_;simp only[Act.put,σa,σz,σs];refine any_take (i:=7) (d:=some 53) (v:=.slice (some ⟨g,i*2,none⟩) (n-i) (cap-i)) rfl (by rfl) (by kernel_rfl) (by kernel_rfl) (by kernel_rfl) (fun _ _ _ h=>h) (by rfl) ?_ ?_
 · intro wz;go_simp
 simp only[Act.put,σa,σz,σs];refine any_one (i:=8) (by kernel_rfl) (by rfl) (fun KK hKK=>?_);refine step_copy (by rfl) (.tmp 50) (.tmp 53) 25 25 rfl _ _ rfl rfl HCP2.out ?_;refine hKK _ _ ?_;show wpAny _ _ _ _ _ _ (Act.put _ (some 54) _) _;simp only[Act.put,σa,σz,σs];refine any_done (by kernel_rfl) ?_ _;go_wp2;go_ret;exact⟨G,rfl,R3.out,T3.out⟩
theorem insert_calls {w:World} {v:Value} {K:List (Int×Value)} (h:w.ownsRow 0 65 2 v K.length (vcells K)) (hfew:K.length≤2000) {i:Nat} (hi:i≤K.length) (p:Int×Value) (hp1:p.2.oneCell'=true) (hO:Ones K) {tb:Nat}
 (ht:w.heap[tb]?=some (.cells #[.int .i64 p.1,p.2] 65)) (hne:v.ownBlock≠some tb):
 Calls Tryz.prog 197 #[v,.int .i64 (i:Int),.slice (some ⟨tb,0,none⟩) 1 1] w fun e w'=>
  ∃v',e=.returned v'∧w'.ownsRow 0 65 2 v' (K.length+1) (vcells (insV K i p))∧(v'.ownBlock=v.ownBlock∨v'.ownBlock=some w.heap.size)∧Turn v.ownBlock.toList w w':=by
 by_cases hin:i=K.length
 · subst hin;exact insert_end h hfew p hp1 (by rw[cell_of_row _ _ _ _ _ _ ht];rfl) (by rw[cell_of_row _ _ _ _ _ _ ht];rfl)
 · rcases h.2 with⟨rfl,h0⟩ | ⟨g,cap,cur,rfl,_,hg,hle,hmx,hsz,htk⟩
   · omega
   · by_cases hroom:K.length+1≤cap
     · refine(insert_shift hg hsz htk hfew hmx (by omega) hroom p hp1 hO ht (fun e=>hne (by rw[e];rfl))).mono ?_;rintro e w' ⟨rfl,hr,t⟩;exact⟨_,rfl,hr,.inl rfl,t⟩
     · refine(insert_grow hg htk hfew (by omega) hle (by omega) p hp1 hO ht).mono ?_;rintro e w' ⟨G,rfl,hr,t⟩;exact⟨_,rfl,hr,.inr rfl,t.mono (by simp)⟩
theorem delete_calls {w:World} {v:Value} {K:List (Int×Value)} (hO:Ones K) (h:w.ownsRow 0 65 2 v K.length (vcells K)) (hfew:K.length≤2000) {i:Nat} (hi:i<K.length):
 Calls Tryz.prog 239 #[v,.int .i64 (i:Int),.int .i64 ((i+1:Nat):Int)] w fun e w'=>
  ∃v',e=.returned v'∧w'.ownsRow 0 65 2 v' (delV K i).length (vcells (delV K i))∧v'.ownBlock=v.ownBlock∧Turn v.ownBlock.toList w w':=by
 rcases h.2 with⟨rfl,h0⟩ | ⟨g,cap,cur,rfl,_,hg,hle,hmx,hsz,htk⟩
 · omega
 obtain⟨n,hn⟩:=ε K.length;have hkl:=vcells_length K;have HN:=η hn;obtain⟨L,hL⟩:=ε (vcells K);rw[delV_length hi];rw[←hL]at htk hkl;rw[←hn]at hi hle hfew htk hkl ⊢;obtain⟨i0,hi0,hz0,hz1,hz2⟩:=info_parts Tryz.krowVP;unfold maxLen at hmx;clear hn h;have hg0:w.drew.heap[g]?=some (.cells cur 65 (0,0)):=hg;have hdl:(L.drop ((i+1)*2)).length=(n-(i+1))*2:=by rw[List.length_drop,hkl];omega
 obtain⟨C1,hC1⟩:=ε (cur.toList.take (i*2)++L.drop ((i+1)*2)++cur.toList.drop (i*2+(L.drop ((i+1)*2)).length));obtain⟨C2,hC2⟩:=ε (C1.take ((n-1)*2)++[.int .i64 0,.slice none 0 0]++C1.drop ((n-1)*2+[Value.int .i64 0,.slice none 0 0].length));obtain⟨hl1,hl2,htk2⟩:=del_row htk hkl hi rfl (by rw[Array.length_toList];omega) hC1 hC2;have hap:∀a,(n-(i+1)=0∨a=(⟨g,(i+1)*2,none⟩:Addr))→_:=fun a ha=>run_append_rowN (P:=Tryz.prog) w.drew 25 25 25 65 g i cap a (n-(i+1)) (cap-(i+1)) 2 cur _ (L.drop ((i+1)*2)) i0 Tryz.underlying25 Tryz.underlying25 hi0 hz1 hg0 hdl (by omega)
  (fun j v hj=>by
   rcases ha with ha | rfl
   · rw[List.getElem?_eq_none (by omega)]at hj;cases hj
   rw[Addr.add_lit,cell_of_row _ _ _ _ _ _ hg0];rw[List.getElem?_drop,←htk]at hj;have h9:(i+1)*2+j<n*2:=by
    rcases Nat.lt_or_ge ((i+1)*2+j) (n*2)with h | h
    · exact h
    · rw[List.getElem?_eq_none (by rw[List.length_take];omega)]at hj;cases hj
   rw[List.getElem?_take_of_lt h9]at hj
   simpa using hj)
  (by rw[hdl,hsz];omega) (fun v hv=>vcells_one hO v (by rw[←hL];exact List.mem_of_mem_drop hv))
 rw[←hC1,show i+(n-(i+1))=n-1 by omega]at hap;obtain⟨W1,hW1⟩:=ε (w.drew.setRow g C1.toArray);rw[←hW1]at hap;have hg1:W1.heap[g]?=some (.cells C1.toArray 65 (0,0)):=by rw[hW1];exact setRow_heap _ _ _ _ _ _ hg0
 have t1:Turn [g] w W1:=Turn.rows (by simp) (Turn.drew _ w) ⟨_,hW1⟩;have hcl:=run_clear_rowN (P:=Tryz.prog) W1 25 0 65 g ((n-1)*2) 1 (cap-(n-1)) C1.toArray _ _ i0 Tryz.underlying25 hi0 hz0 (by omega) hg1 [.int .i64 0,.slice none 0 0] (by kernel_rfl) (by simp[hl1,hsz];omega) (by intro u hu;simp at hu;rcases hu with rfl | rfl<;>rfl);rw[show C1.toArray.toList=C1 from rfl,←hC2]at hcl;obtain⟨W2,hW2⟩:=ε (W1.setRow g C2.toArray);rw[←hW2]at hcl;have HAP:=η hap;have HCL:=η hcl;have T2:=η (Turn.rows (g:=g) (by simp) t1 ⟨_,hW2⟩)
 have R2:Hid (W2.ownsRow 0 65 2 (.slice (some ⟨g,0,none⟩) (n-1) cap) (n-1) (vcells (delV K i))):=η (by
  refine⟨by rw[vcells_length,delV_length (by rw[←HN.out];exact hi),HN.out],.inr ⟨g,cap,C2.toArray,rfl,Nat.zero_le _,by rw[hW2];exact setRow_heap _ _ _ _ _ _ hg1,by omega,by unfold maxLen;omega,by simp[hl2,hsz],?_⟩⟩;rw[vcells_del,←hL]
  exact htk2)
 clear hap hcl hg0 hg1 hC1 hC2 hl1 hl2 htk2 t1 hW1 hW2 hdl hg hsz htk hkl hL hi0 hz0 hz1 hz2;obtain⟨A,hA,hA2⟩:∃A,(if cap=i+1 then some (⟨g,0,none⟩:Addr)else some ⟨g,(i+1)*2,none⟩)=some A∧(n-(i+1)=0∨A=(⟨g,(i+1)*2,none⟩:Addr)):=by
  by_cases hc:cap=i+1
  · exact⟨_,if_pos hc,.inl (by omega)⟩
  · exact⟨_,if_neg hc,.inr rfl⟩
 have hb1:(0:Int)≤((i+1:Nat):Int):=by omega
 have hb2:((i+1:Nat):Int)≤(n:Int):=by omega
 have hb4:i+1≤n:=by omega
 have hb5:(i:Int)+1≤(n:Int):=by omega
 have hb6:¬cap<i:=by omega
 have hb7:¬(i:Int)+1<0:=by omega
 go_in;go_wp2_with fail;refine wp_region_any (by kernel_rfl) ?_;refine any_tq 0 (some 20) ?_;simp only[Act.put,σa,σz,σs];refine any_tq 1 (some 21) ?_;simp only[Act.put,σa,σz,σs];refine any_take (i:=2) (d:=some 22) (v:=.slice (some ⟨g,0,none⟩) i cap) rfl (by rfl) (by kernel_rfl) (by kernel_rfl) (by kernel_rfl) (fun _ _ _ h=>h) (by rfl) ?_ ?_
 · intro wz;go_simp
 simp only[Act.put,σa,σz,σs];refine any_tq 3 (some 23) ?_;simp only[Act.put,σa,σz,σs];refine any_tq 4 (some 24) ?_;simp only[Act.put,σa,σz,σs];refine any_take (i:=5) (d:=some 25) (v:=.slice (some A) (n-(i+1)) (cap-(i+1))) rfl (by rfl) (by kernel_rfl) (by kernel_rfl) (by kernel_rfl) (fun _ _ _ h=>h) (by rfl) ?_ ?_
 · intro wz;go_simp
 simp only[Act.put,σa,σz,σs];refine any_one (i:=6) (by kernel_rfl) (by rfl) (fun KK hKK=>?_);refine step_append (by rfl) (.tmp 22) (.tmp 25) 25 25 rfl _ _ rfl rfl (HAP.out A hA2) ?_;refine hKK _ _ ?_;show wpAny _ _ _ _ _ _ (Act.put _ (some 26) _) _;simp only[Act.put,σa,σz,σs];refine any_tq 7 (some 0) ?_;simp only[Act.put,List.setIfInBounds_toArray,List.set_cons_zero];refine any_done (by kernel_rfl) ?_ _;go_wp2_with fail;rw[show n-(n-1)=1 by omega,HCL.out];go_wp2;go_ret;exact⟨_,rfl,R2.out,rfl,T2.out⟩
end Go.Proofs.YtkjpjfghklgdhaaGreat.VP
