/-
  PkAT
-/
import Derived.Test.YtkjpjfghklgdhaaGreatPkAS
import Derived.Lib.SlBytesConst
set_option maxHeartbeats 4000000
set_option maxRecDepth 100000
namespace Go.Proofs.YtkjpjfghklgdhaaGreat
open Go.RowKit Go.Proofs.YtkjpjfghklgdhaaGreat.V
theorem lay_src {α:Type} {f:α→List Value} (hf:∀x,(f x).length=2) {w:World} {ao:Option Addr} {c:Nat} {L:List α} (h:Tl 2 f w ao c L):(ao=none→L.length=0∧c=0)∧(∀A,ao=some A→∀j v,(L.flatMap f)[j]?=some v→w.cell? (A.add j)=some v):=by
 refine⟨fun e=>?_,fun A e j v hj=>?_⟩
 · rcases h with⟨_,h2,rfl⟩ | ⟨b,off,h1,_⟩
   · exact⟨rfl,h2⟩
   · rw[e]at h1;cases h1
 · rcases h with⟨h1,_⟩ | ⟨b,off,h1,h2⟩
   · rw[e]at h1;cases h1
   · rw[e]at h1;injection h1 with h1
     subst h1;exact Tl.flat (c:=c) hf (.inr ⟨b,off,rfl,h2⟩) j v hj
theorem cellOne_pds (L:List (Lay PendV)):∀v∈L.flatMap pendC,v.oneCell'=true:=by
 intro v hv;obtain⟨p,-,hp⟩:=List.mem_flatMap.1 hv;simp[pendC]at hp;rcases hp with rfl | rfl<;>rfl
theorem clonePends_calls {w:World} {ao:Option Addr} {c:Nat} {l:List PendV} (h:Pds w ao c l) (hfew:l.length≤100000) (hp:∀p∈l,p.parts.length≤100000):
 Calls Tryz.prog 147 #[.slice ao l.length c] w fun e w'=>∃(ao':Option Addr) (c':Nat) (D:List (Lay PendV)),e=.returned (.slice ao' l.length c')∧D.map Lay.v=l∧w'.ownsRow w.heap.size 65 2 (.slice ao' l.length c') l.length (vcells (D.map pendP'))∧(∀x∈D,w'.ownsRow w.heap.size 3 1 (partsRow x) x.v.parts.length (i64s x.v.parts))∧(D.Pairwise fun x y=>Apart (partsRow x) (partsRow y))∧Turn [] w w':=by
 have hlen:=h.len;obtain⟨L,hL,hT,hI⟩:=h;have hn0:L.length=l.length:=by rw[←hL,List.length_map]
 obtain⟨hs1,hs2⟩:=lay_src (f:=pendC) (fun _=>rfl) hT;have C0:=clonePd_calls (w:=w) (ao:=ao) (c:=c) (l:=L.flatMap pendC) (m:=L.length) (by rw[flat_len (n:=2) (f:=pendC) (fun _=>rfl)]) (fun e=>hs1 e) hs2 (cellOne_pds L) (by omega);rw[hn0]at C0;have C0:=η C0;have CI:=η (fun(x:Lay PendV) (hx:x∈L) wx (tt:Turn [] w wx)=>cloneParts_calls ((hI x hx).turn tt) (by have:=hp x.v (by rw[←hL];exact List.mem_map_of_mem hx);omega));have HL:=η hL;obtain⟨n,hn⟩:=ε l.length;have HN:=η hn;have HN0:Hid (L.length=n):=η (by rw[hn0,hn]);rw[←hn]at C0 hfew hlen ⊢;clear hL hT hI hn0 hs1 hs2 hp hn;go_in;go_wp2_with fail;refine C0.out.mono ?_;rintro e x1 ⟨ao',c',rfl,o1,t1⟩;have U1:=η t1
 have O1:Hid (x1.ownsRow w.heap.size 65 2 (.slice ao' n c') n (vcells (([]++L.drop 0).map pendP'))):=η (by
  rw[List.nil_append,List.drop_zero,vcells_flat,flat_map]
  exact o1)
 clear o1 t1 C0;go_wp2_with fail;go_loopw [8] (fun vi wx=>∃(k:Nat) (D:List (Lay PendV)),k≤n∧vi=.int .i64 (k:Int)∧D.length=k∧D.map Lay.v=l.take k∧wx.ownsRow w.heap.size 65 2 (.slice ao' n c') n (vcells ((D++L.drop k).map pendP'))∧(∀x∈D,wx.ownsRow w.heap.size 3 1 (partsRow x) x.v.parts.length (i64s x.v.parts))∧(D.Pairwise fun x y=>Apart (partsRow x) (partsRow y))∧Turn [] w wx) (fun vi _=>n-(intOf vi).toNat)
 case atStart=>exact⟨0,[],by omega,rfl,rfl,by simp,O1.out,by simp,List.Pairwise.nil,U1.out⟩
 case round=>
  obtain⟨k,D,hk,rfl,hdl,hdv,hrow,hown,hap,ht⟩:=hrel;have HT:=η ht;have HROW:=η hrow;have HOWN:=η hown;have HAP:=η hap;have HDV:=η hdv;have HDL:=η hdl;clear hdl hdv hrow hown hap ht;by_cases hkn:k<n
  · have hkl:k<L.length:=by rw[HN0.out];exact hkn
    obtain⟨x,hx⟩:∃x,L[k]?=some x:=⟨_,List.getElem?_eq_getElem hkl⟩
    have hlx:l[k]?=some x.v:=by rw[←HL.out,List.getElem?_map,hx];rfl
    have CI1:=η (CI.out x (List.mem_of_getElem? hx) _ HT.out);have hrow:=HROW.out;rcases hrow.2 with⟨_,h0⟩ | ⟨g,cap,cur,e,hlo,hg,hle,hmx,hsz,htk⟩
    · omega
    injection e with e1 _ e3
    subst e1;have hdx:(D++L.drop k)[k]?=some x:=by
     rw[List.getElem?_append_right (by rw[HDL.out];exact Nat.le_refl _),HDL.out,Nat.sub_self,List.getElem?_drop,Nat.add_zero];exact hx
    have q1:wr.cell? ⟨g,k*2+1,none⟩=some (.slice x.ao x.v.parts.length x.c):=by
     have hT:Tl 2 pendC wr (some ⟨g,0,none⟩) c' (D++L.drop k):=Tl.of_own (n:=2) (f:=pendC) (B:=0) (e:=65) (fun _=>rfl) (by
      have:=row_zero hrow;rw[vcells_flat,flat_map]at this;have hl2:(D++L.drop k).length=n:=by rw[List.length_append,List.length_drop,HDL.out,HN0.out];omega
      rw[hl2]
      exact this)
     obtain⟨g',off',e0,hat⟩:=hT.at hdx;injection e0 with e0
     injection e0 with e4 e5 _
     subst e4 e5;have:=hat 1 _ rfl;rwa[Nat.zero_add]at this
    have HG:=η hg;have HLO:=η hlo;have hb:0≤(k:Int)∧(k:Int)<(n:Int):=by omega
    have HX:=η hx;have HLX:=η hlx;have HDX:=η hdx;clear hrow e3 hg hlo hle hmx hsz htk hx hlx hdx;go_wp2_with fail;refine CI1.out.mono ?_;rintro e x2 ⟨ao2,c2,rfl,o2,t2⟩;have hg2:=t2.heap HG.out;have fr:∀j,x2.frozen? ⟨g,j,none⟩=false:=fun j=>unfrozen_of hg2
    have q2:=t2.cell q1;have hrow2:=ownsRow_turn HROW.out t2;have hst:=(hrow2.stored (k*2+1) (.slice ao2 x.v.parts.length c2)).1;have hfs:=flat_set (n:=2) (f:=pairC) (fun _=>rfl) ((D++L.drop k).map pendP') k 1 (pendP' x) (pendP' ⟨x.v,ao2,c2⟩) (.slice ao2 x.v.parts.length c2) (by rw[List.getElem?_map,HDX.out];rfl) (by omega) rfl;rw[vcells_flat,hfs,←List.map_set]at hst;have hset:(D++L.drop k).set k (⟨x.v,ao2,c2⟩:Lay PendV)=(D++[⟨x.v,ao2,c2⟩])++L.drop (k+1):=by
     rw[drop_cons HX.out,List.set_append_right _ _ (by rw[HDL.out];exact Nat.le_refl _),HDL.out,Nat.sub_self,List.set_cons_zero,List.append_assoc];rfl
    rw[hset]at hst;have tg:Turn [g] x2 (x2.setCell ⟨g,k*2+1,none⟩ (.slice ao2 x.v.parts.length c2)):=Turn.setCell (l:=[g]) x2 (by simp) _;have hgl:∀k∈[g],∃cs fr,x2.heap[k]?=some (.cells cs 65 fr):=fun k hk=>by
     have:k=g:=by simpa using hk
     rw[this];exact⟨_,_,hg2⟩
    have R2:=η hst;have hwsz:=HT.out.size
    have N2:Hid (∀z∈D++[(⟨x.v,ao2,c2⟩:Lay PendV)],(x2.setCell ⟨g,k*2+1,none⟩ (.slice ao2 x.v.parts.length c2)).ownsRow w.heap.size 3 1 (partsRow z) z.v.parts.length (i64s z.v.parts)):=η (fun z hz=>by
     rcases List.mem_append.1 hz with hz | hz
     · exact ownsRow_keep (ownsRow_turn (HOWN.out z hz) t2) tg hgl (by decide)
     · have:z=⟨x.v,ao2,c2⟩:=by simpa using hz
       subst this
       exact ownsRow_keep (row_own o2 (fun k hk=>Nat.le_trans hwsz (row_lo o2 k hk))) tg hgl (by decide))
    have A2:Hid ((D++[(⟨x.v,ao2,c2⟩:Lay PendV)]).Pairwise fun x y=>Apart (partsRow x) (partsRow y)):=η (by
     rw[List.pairwise_append];refine⟨HAP.out,by simp,fun y hy z hz=>?_⟩;have:z=⟨x.v,ao2,c2⟩:=by simpa using hz
     subst this;refine Apart.symm ?_;rcases o2.2 with⟨e1,_⟩ | ⟨g3,cap3,cur3,e1,hlo3,_⟩
     · exact .inl (by unfold partsRow;rw[e1];rfl)
     · exact new_apart (w:=wr) (g:=g3) (HOWN.out y hy) (.inr (by unfold partsRow;rw[e1];rfl)) hlo3)
    have V2:Hid (Turn [] w (x2.setCell ⟨g,k*2+1,none⟩ (.slice ao2 x.v.parts.length c2))):=η ((HT.out.trans t2).trans tg (fun i hi=>.inr (by
     have:i=g:=by simpa using hi
     rw[this];exact HLO.out)))
    have DV:Hid ((D++[(⟨x.v,ao2,c2⟩:Lay PendV)]).map Lay.v=l.take (k+1)):=η (by rw[List.map_append,HDV.out,List.take_add_one,HLX.out];rfl);have DL:Hid ((D++[(⟨x.v,ao2,c2⟩:Lay PendV)]).length=k+1):=η (by rw[List.length_append,HDL.out];rfl);clear o2 t2 hg2 hrow2 hst hfs hset tg hgl hwsz CI1 q1;go_wp2_with fail;go_roundw
    case rel=>exact⟨k+1,_,by omega,by go_num,DL.out,DV.out,R2.out,N2.out,A2.out,V2.out⟩
    case measure=>simp[intOf];omega
  · have hkk:k=n:=by omega
    have HR:Hid (wr.ownsRow w.heap.size 65 2 (.slice ao' n c') n (vcells (D.map pendP'))):=η (by
     have:=HROW.out
     rwa[List.drop_eq_nil_of_le (by rw[HN0.out,hkk];exact Nat.le_refl _),List.append_nil]at this)
    have HV:Hid (D.map Lay.v=l):=η (by rw[HDV.out,List.take_of_length_le (by rw[hkk,HN.out];exact Nat.le_refl _)]);go_wp2_with fail;go_ret;exact⟨ao',c',D,rfl,HV.out,HR.out,HOWN.out,HAP.out,HT.out⟩
structure StV.few (s:StV):Prop where
 ms:s.ms.length≤100000
 waits:s.waits.length≤100000
 ends:s.ends.length≤100000
 open_:s.open_.length≤100000
 noes:s.noes.length≤100000
 puts:∀x∈s.waits,x.puts.length≤100000
 oparts:∀p∈s.open_,p.parts.length≤100000
 nparts:∀p∈s.noes,p.parts.length≤100000
theorem lay_srcN {α:Type} {n:Nat} {f:α→List Value} (hf:∀x,(f x).length=n) {w:World} {ao:Option Addr} {c:Nat} {L:List α} (h:Tl n f w ao c L):(ao=none→L.length=0∧c=0)∧(∀A,ao=some A→∀j v,(L.flatMap f)[j]?=some v→w.cell? (A.add j)=some v):=by
 refine⟨fun e=>?_,fun A e j v hj=>?_⟩
 · rcases h with⟨_,h2,rfl⟩ | ⟨b,off,h1,_⟩
   · exact⟨rfl,h2⟩
   · rw[e]at h1;cases h1
 · rcases h with⟨h1,_⟩ | ⟨b,off,h1,h2⟩
   · rw[e]at h1;cases h1
   · rw[e]at h1;injection h1 with h1
     subst h1;exact Tl.flat (c:=c) hf (.inr ⟨b,off,rfl,h2⟩) j v hj
theorem cellOne_ms (L:List MsgV):∀v∈L.flatMap msgC,v.oneCell'=true:=by
 intro v hv;obtain⟨p,-,hp⟩:=List.mem_flatMap.1 hv;simp[msgC]at hp;rcases hp with rfl | rfl | rfl | rfl | rfl | rfl<;>rfl
theorem cellOne_es (L:List EndV):∀v∈L.flatMap endC,v.oneCell'=true:=by
 intro v hv;obtain⟨p,-,hp⟩:=List.mem_flatMap.1 hv;simp[endC]at hp;rcases hp with rfl | rfl<;>rfl
theorem cellOne_bs (L:List (Lay BrV)):∀v∈L.flatMap brC,v.oneCell'=true:=by
 intro v hv;obtain⟨p,-,hp⟩:=List.mem_flatMap.1 hv;simp[brC]at hp;rcases hp with rfl | rfl<;>rfl
def zeroSt:Array Value:=#[.int .i64 0,.int .i64 0,.int .i64 0,.int .i64 0,.slice none 0 0,.slice none 0 0,.slice none 0 0,.slice none 0 0,.slice none 0 0]
structure Cz (w0:World) (cs:Array Value) (w:World):Prop where
 box:w.heap[w0.heap.size]?=some (.cells cs 27)
 res:w.heap[w0.heap.size+1]?=some (.cells zeroSt 27)
 turn:Turn [] w0 w
theorem Cz.still {w0 w w':World} {cs:Array Value} (h:Cz w0 cs w) (t:Turn [] w w'):Cz w0 cs w':=⟨t.heap h.box,t.heap h.res,h.turn.trans t⟩
theorem Cz.new (w:World) (cs:Array Value):Cz w cs ((w.alloc (.cells cs 27)).alloc (.cells zeroSt 27)):=by
 have T2:=Turn.alloc [] (w.alloc (.cells cs 27)) (.cells zeroSt 27);have B2:=heap_alloc_new (w.alloc (.cells cs 27)) (.cells zeroSt 27);rw[show(w.alloc (.cells cs 27)).heap.size=w.heap.size+1 by simp]at B2;exact⟨T2.heap (heap_alloc_new w _),B2,(Turn.alloc [] w _).trans T2⟩
theorem Cz.set {w0 w:World} {cs:Array Value} (h:Cz w0 cs w) (i:Nat) (u:Value):Cz w0 (cs.setIfInBounds i u) (w.setCell ⟨w0.heap.size,i,none⟩ u):=
 ⟨block_set h.box u,by rw[block_other (by omega)];exact h.res,h.turn.trans (Turn.setCell (l:=[w0.heap.size]) w (by simp) u) (fun i hi=>.inr (by simp at hi;omega))⟩
theorem Cz.row {w0 w w':World} {cs:Array Value} (h:Cz w0 cs w) {T:TypeId} {g:Nat} (t:Turn [g] w w') (hg:∃cs fr,w.heap[g]?=some (.cells cs T fr)) (hT:27≠T) (hlo:w0.heap.size≤g):Cz w0 cs w':=by
 have hl:∀k∈[g],∃cs fr,w.heap[k]?=some (.cells cs T fr):=fun k hk=>by
  have:k=g:=by simpa using hk
  rw[this];exact hg
 exact⟨heap_keep h.box t hl hT,heap_keep h.res t hl hT,h.turn.trans t (fun i hi=>.inr (by simp at hi;omega))⟩
def nine (w:World) (g:Nat) (u0 u1 u2 u3 u4 u5 u6 u7 u8:Value):World:=((((((((w.setCell ⟨g,0,none⟩ u0).setCell ⟨g,1,none⟩ u1).setCell ⟨g,2,none⟩ u2).setCell ⟨g,3,none⟩ u3).setCell ⟨g,4,none⟩ u4).setCell ⟨g,5,none⟩ u5).setCell ⟨g,6,none⟩ u6).setCell ⟨g,7,none⟩ u7).setCell ⟨g,8,none⟩ u8
theorem nine_heap {w:World} {g:Nat} (h:w.heap[g]?=some (.cells zeroSt 27)) (u0 u1 u2 u3 u4 u5 u6 u7 u8:Value):(nine w g u0 u1 u2 u3 u4 u5 u6 u7 u8).heap[g]?=some (.cells #[u0,u1,u2,u3,u4,u5,u6,u7,u8] 27):=by
 have h1:=block_set (i:=8) (block_set (i:=7) (block_set (i:=6) (block_set (i:=5) (block_set (i:=4) (block_set (i:=3) (block_set (i:=2) (block_set (i:=1) (block_set (i:=0) h u0) u1) u2) u3) u4) u5) u6) u7) u8;have e:((((((((zeroSt.setIfInBounds 0 u0).setIfInBounds 1 u1).setIfInBounds 2 u2).setIfInBounds 3 u3).setIfInBounds 4 u4).setIfInBounds 5 u5).setIfInBounds 6 u6).setIfInBounds 7 u7).setIfInBounds 8 u8=#[u0,u1,u2,u3,u4,u5,u6,u7,u8]:=by
  simp only[zeroSt,List.setIfInBounds_toArray,List.set_cons_zero,List.set_cons_succ]
 rw[e]at h1;exact h1
theorem nine_turn (w:World) (g:Nat) (u0 u1 u2 u3 u4 u5 u6 u7 u8:Value):Turn [g] w (nine w g u0 u1 u2 u3 u4 u5 u6 u7 u8):=by
 have s:=fun(w:World) (i:Nat) (u:Value)=>Turn.setCell (l:=[g]) (b:=g) (i:=i) w (by simp) u
 exact((((((((s _ 0 u0).trans (s _ 1 u1) (fun i hi=>.inl hi)).trans (s _ 2 u2) (fun i hi=>.inl hi)).trans (s _ 3 u3) (fun i hi=>.inl hi)).trans (s _ 4 u4) (fun i hi=>.inl hi)).trans (s _ 5 u5) (fun i hi=>.inl hi)).trans (s _ 6 u6) (fun i hi=>.inl hi)).trans (s _ 7 u7) (fun i hi=>.inl hi)).trans (s _ 8 u8) (fun i hi=>.inl hi)
theorem Rows.past {w w1:World} {lo g:Nat} {s:StV} {a:Ads} {LW:List (Lay BrV)} {LO LN:List (Lay PendV)} (h:Rows w lo s a LW LO LN) (t:Turn [g] w w1) (hg:∃cs fr,w.heap[g]?=some (.cells cs 27 fr)):Rows w1 lo s a LW LO LN:=by
 have hl:∀k∈[g],∃cs fr,w.heap[k]?=some (.cells cs 27 fr):=fun k hk=>by
  have:k=g:=by simpa using hk
  rw[this];exact hg
 exact⟨h.vw,h.vo,h.vn,ownsRow_keep h.ms t hl (by decide),ownsRow_keep h.ws t hl (by decide),ownsRow_keep h.es t hl (by decide),ownsRow_keep h.os t hl (by decide),ownsRow_keep h.ns t hl (by decide),h.on,
  fun x hx=>ownsRow_keep (h.puts x hx) t hl (by decide),fun x hx=>ownsRow_keep (h.parts x hx) t hl (by decide),h.alone⟩
def polyN:Nat:=2197175160
def stepN (s:Nat):Nat:=if s%2=1 then (s / 2)^^^polyN else s / 2
def stepsN:Nat→Nat→Nat
 | 0,s=>s
 | k+1,s=>stepN (stepsN k s)
def byteN (s x:Nat):Nat:=stepsN 8 (s^^^x)
def onN (s:Nat) (l:List UInt8):Nat:=l.foldl (fun s x=>byteN s x.toNat) s
def notN (s:Nat):Nat:=4294967295-s
def sumOn (s:Nat) (l:List UInt8):Nat:=notN (onN (notN s) l)
theorem polyN_lt:polyN<2^32:=by decide
theorem stepN_lt {s:Nat} (h:s<4294967296):stepN s<4294967296:=by
 unfold stepN;split
 · exact Nat.xor_lt_two_pow (n:=32) (by omega) polyN_lt
 · omega
theorem stepsN_lt {s:Nat} (h:s<4294967296):∀k,stepsN k s<4294967296
 | 0=>h
 | k+1=>stepN_lt (stepsN_lt h k)
theorem xor_lt32 {a b:Nat} (ha:a<4294967296) (hb:b<4294967296):a^^^b<4294967296:=Nat.xor_lt_two_pow (n:=32) ha hb
theorem byteN_lt {s x:Nat} (h:s<4294967296) (hx:x<256):byteN s x<4294967296:=
 stepsN_lt (xor_lt32 h (by omega)) 8
theorem onN_lt:∀(l:List UInt8) {s:Nat},s<4294967296→onN s l<4294967296
 | [],_,h=>h
 | x::l,s,h=>onN_lt l (byteN_lt h (by have:=x.toNat_lt;omega))
theorem onN_snoc (s:Nat) (l:List UInt8) (x:UInt8):onN s (l++[x])=byteN (onN s l) x.toNat:=by simp[onN]
theorem xor_all {s:Nat} (h:s<4294967296):4294967295^^^s=notN s:=by
 unfold notN;have h1:=congrArg BitVec.toNat (BitVec.allOnes_xor (x:=BitVec.ofNat 32 s));rw[BitVec.toNat_xor,BitVec.toNat_not,BitVec.toNat_allOnes,BitVec.toNat_ofNat,Nat.mod_eq_of_lt h]at h1;exact h1
theorem notN_lt (s:Nat):notN s<4294967296:=by unfold notN;omega
open Go.RowKit
def Row (w:World) (ao:Option Addr) (l:List UInt8):Prop:=
 l=[]∨∃b off,ao=some ⟨b,off,none⟩∧∀i,i<l.length→w.cell? ⟨b,off+i,none⟩=some (.int .u8 ((l.getD i 0).toNat:Int))
theorem bits_and1 {s:Nat} (h:s<4294967296):bits .and .u32 (s:Int) 1=((s%2:Nat):Int):=by
 have:=u32_and_nat s 1 h (by omega);rw[nat_mask1]at this;exact this
theorem bits_calls (s x:Nat) (w:World) (hs:s<4294967296) (hx:x<256):
 Calls Tryz.prog 265 #[.int .u32 (s:Int),.int .u8 (x:Int)] w fun e w'=>e=.returned (.int .u32 (byteN s x:Nat))∧w=w':=by
 have hx0:bits .xor .u32 (s:Int) (x:Int)=((s^^^x:Nat):Int):=u32_xor_nat s x hs (by omega);go_in;go_wp2
 go_loop [0,10] (fun v i=>∃k:Nat,k≤8∧i=.int .i64 k∧v=.int .u32 (stepsN k (s^^^x):Nat)) (fun _ i=>8-(intOf i).toNat)
 case atStart=>exact⟨0,by omega,rfl,rfl⟩
 case round=>
  obtain⟨k,hk,rfl,rfl⟩:=hrel;obtain⟨t,ht⟩:=ε (stepsN k (s^^^x));have htl:t<4294967296:=by rw[ht];exact stepsN_lt (xor_lt32 hs (by omega)) k
  rw[←ht];have HT:=η ht;have ha:=bits_and1 htl;clear ht hx0;by_cases hk8:k<8
  · by_cases hb:t%2=1
    · have hp:bits .xor .u32 ((t:Int) / 2) 2197175160=(((t / 2)^^^polyN:Nat):Int):=by
       have h:=u32_xor_nat (t / 2) polyN (by omega) (by decide);rw[Int.natCast_ediv]at h;exact h
      have hb':(((t%2:Nat):Int)==1)=true:=by rw[hb];rfl
      go_wp2
      go_round
      case rel=>exact⟨k+1,by omega,by go_num,by rw[stepsN,←HT.out,stepN,if_pos hb]⟩
      case measure=>simp[intOf];omega
    · have hb':(((t%2:Nat):Int)==1)=false:=by simp;omega
      go_wp2
      go_round
      case rel=>exact⟨k+1,by omega,by go_num,by rw[stepsN,←HT.out,stepN,if_neg hb];rfl⟩
      case measure=>simp[intOf];omega
  · go_wp2;obtain rfl:k=8:=by omega
    go_ret;exact⟨by rw[HT.out];rfl,rfl⟩
theorem on_calls (s:Nat) (ao:Option Addr) (c:Nat) (l:List UInt8) (w:World) (hs:s<4294967296) (hm:l.length≤9223372036854775807) (hl:Row w ao l):
 Calls Tryz.prog 260 #[.int .u32 (s:Int),.slice ao l.length c] w fun e w'=>e=.returned (.int .u32 (sumOn s l:Nat))∧w=w':=by
 have hx0:bits .xor .u32 IntKind.u32.max (s:Int)=((notN s:Nat):Int):=by
  rw[show IntKind.u32.max=((4294967295:Nat):Int) from rfl,u32_xor_nat _ s (by omega) hs];exact congrArg _ (xor_all hs)
 have hn:=notN_lt s;have hend:∀t:Nat,t<4294967296→bits .xor .u32 IntKind.u32.max (t:Int)=((notN t:Nat):Int):=fun t ht=>by
  rw[show IntKind.u32.max=((4294967295:Nat):Int) from rfl,u32_xor_nat _ t (by omega) ht];exact congrArg _ (xor_all ht)
 have HE:=η hend;clear hend;rcases hl with rfl | ⟨b,off,rfl,hc⟩
 · have hx1:=HE.out (notN s) hn;go_in;go_wp2;refine wp_loop_rounds 1 ?_;rw[rounds_succ];go_wp2;go_ret;exact⟨rfl,rfl⟩
 · go_in;go_wp2
   go_loop [5,12] (fun v i=>∃k:Nat,k≤l.length∧i=.int .i64 k∧v=.int .u32 (onN (notN s) (l.take k):Nat)) (fun _ i=>l.length-(intOf i).toNat)
   case atStart=>exact⟨0,by omega,rfl,rfl⟩
   case round=>
    obtain⟨k,hk,rfl,rfl⟩:=hrel;obtain⟨t,ht⟩:=ε (onN (notN s) (l.take k));have htl:t<4294967296:=by rw[ht];exact onN_lt _ hn
    rw[←ht];have HT:=η ht;clear ht hx0;by_cases hlt:k<l.length
    · have hck:=hc k hlt;have hb:=(l.getD k 0).toNat_lt
      have HS:=η (show onN (notN s) (l.take (k+1))=byteN t (l.getD k 0).toNat by
       rw[List.take_succ_eq_append_getElem hlt,onN_snoc,←HT.out]
       simp[List.getD,hlt])
      generalize (l.getD k 0).toNat=x at hck hb HS;clear hc;go_wp2_with(go_at_call 265;refine(bits_calls t x _ htl (by omega)).mono ?_;rintro e w' ⟨rfl,rfl⟩)
      go_round
      case rel=>exact⟨k+1,by omega,by go_num,by rw[HS.out]⟩
      case measure=>simp[intOf];omega
    · have hx1:=HE.out t htl;go_wp2;obtain rfl:k=l.length:=by omega
      go_ret;exact⟨by rw[HT.out,List.take_length];rfl,rfl⟩
theorem of_calls (ao:Option Addr) (c:Nat) (l:List UInt8) (w:World) (hm:l.length≤9223372036854775807) (hl:Row w ao l):
 Calls Tryz.prog 252 #[.slice ao l.length c] w fun e w'=>e=.returned (.int .u32 (sumOn 0 l:Nat))∧w=w':=by
 go_in;go_wp2_with(go_at_call 260;refine(on_calls 0 ao c l _ (by omega) hm hl).mono ?_;rintro e w' ⟨rfl,rfl⟩);go_ret;exact⟨rfl,rfl⟩
theorem OutIs.new (w:World) (e:TypeId):OutIs (w.alloc (.cells #[.slice none 0 0] e)) ⟨w.heap.size,0,none⟩ []:=
 ⟨none,0,by rw[World.cell?_alloc_at (hn:=rfl)];rfl,Sl.nil _,by rw[World.frozen?_alloc_at (hn:=rfl)],World.ownsRow_nil _ _ _ _⟩
theorem Sl.row {w:World} {ao:Option Addr} {c:Nat} {l:List UInt8} (h:Sl w ao c l):Row w ao l:=by
 rcases h with⟨_,_,rfl⟩ | ⟨A,rfl,_,_,hc⟩
 · exact .inl rfl
 · by_cases hl:l=[]
   · exact .inl hl
   · obtain⟨b,off,spot⟩:=A;have h0:=hc 0 (List.length_pos_iff.2 hl);have hs:spot=none:=by simpa[Addr.add]using World.cell?_spot h0
     subst hs;exact .inr ⟨b,off,rfl,fun i hi=>by rw[←Addr.add_lit];exact hc i hi⟩
theorem Row.at {w:World} {ao:Option Addr} {l:List UInt8} (h:Row w ao l) (hl:l≠[]):∃b off,ao=some ⟨b,off,none⟩∧b<w.heap.size∧∀i,i<l.length→w.cell? ⟨b,off+i,none⟩=some (.int .u8 ((l.getD i 0).toNat:Int)):=by
 rcases h with h | ⟨b,off,rfl,hc⟩
 · exact absurd h hl
 · exact⟨b,off,rfl,World.block_lt_of_cell? _ _ (hc 0 (List.length_pos_iff.2 hl)),hc⟩
def begunB:List UInt8:=[2,1,254,255,255,255,255,255,255,255,2,0,97,98,1]
def nineB:List UInt8:=[49,50,51,52,53,54,55,56,57]
theorem Sl.marked (w:World) (cs:Array Value) (e:TypeId) (fr:Nat×Nat) (l:List UInt8) (h:cs.toList=u8s l) (hm:l.length≤maxLen):Sl (w.alloc (.cells cs e fr)) (some ⟨w.heap.size,0,none⟩) l.length l:=by
 refine .inr ⟨_,rfl,Nat.le_refl _,hm,fun i hi=>?_⟩;rw[Addr.add_lit,Nat.zero_add,World.cell?_alloc_mark];rw[←u8s_at hi,←h];simp
theorem nine_sum:sumOn 0 nineB=3808858755:=by decide+kernel
theorem begunB_is:((([]++smallB 258)++longB (-2))++textB ⟨#[97,98]⟩)++[if true=true then 1 else 0]=begunB:=by decide+kernel
theorem in_one (b:Nat) (w:World) (h:InIs w b begunB false):Calls Tryz.prog 93 #[.pointer (some ⟨b,0,none⟩)] w fun e w'=>e=.returned (.int .i64 258)∧InIs w' b [254,255,255,255,255,255,255,255,2,0,97,98,1] false∧w.grownBy w' (some b):=by
 have C:=small_in b begunB false w h;rw[show leN (taken begunB false 2)=258 from by decide+kernel,show after begunB false 2=[254,255,255,255,255,255,255,255,2,0,97,98,1] from by decide+kernel,show canTake begunB false 2=true from by decide+kernel]at C;exact C
theorem in_two (b:Nat) (w:World) (h:InIs w b [254,255,255,255,255,255,255,255,2,0,97,98,1] false):Calls Tryz.prog 94 #[.pointer (some ⟨b,0,none⟩)] w fun e w'=>e=.returned (.int .i64 (-2))∧InIs w' b [2,0,97,98,1] false∧w.grownBy w' (some b):=by
 have C:=long_in b [254,255,255,255,255,255,255,255,2,0,97,98,1] false w h;rw[show longN (taken [254,255,255,255,255,255,255,255,2,0,97,98,1] false 8)=-2 from by decide+kernel,show after [254,255,255,255,255,255,255,255,2,0,97,98,1] false 8=[2,0,97,98,1] from by decide+kernel,show canTake [254,255,255,255,255,255,255,255,2,0,97,98,1] false 8=true from by decide+kernel]at C;exact C
theorem in_three (b:Nat) (w:World) (h:InIs w b [2,0,97,98,1] false):Calls Tryz.prog 164 #[.pointer (some ⟨b,0,none⟩)] w fun e w'=>e=.returned (.string ⟨#[97,98]⟩)∧InIs w' b [1] false∧w.grownBy w' (some b):=by
 have C:=text_in b [2,0,97,98,1] false w h;rw[show textT [2,0,97,98,1] false=[97,98] from by decide+kernel,show textA [2,0,97,98,1] false=[1] from by decide+kernel,show textC [2,0,97,98,1] false=true from by decide+kernel]at C;exact C
theorem in_four (b:Nat) (w:World) (h:InIs w b [1] false):Calls Tryz.prog 166 #[.pointer (some ⟨b,0,none⟩)] w fun e w'=>e=.returned (.bool true)∧InIs w' b [] false∧w.grownBy w' (some b):=by
 have C:=truth_in b [1] false w h;rw[show truthV [1] false=true from by decide+kernel,show truthA [1] false=[] from by decide+kernel,show truthC [1] false=true from by decide+kernel]at C;exact C
theorem in_five (b:Nat) (w:World) (h:InIs w b [] false):Calls Tryz.prog 93 #[.pointer (some ⟨b,0,none⟩)] w fun e w'=>e=.returned (.int .i64 0)∧InIs w' b [] true∧w.grownBy w' (some b):=by
 have C:=small_in b [] false w h;rw[show leN (taken [] false 2)=0 from by decide+kernel,show after [] false 2=[] from by decide+kernel,show canTake [] false 2=false from by decide+kernel]at C;exact C
theorem begun_calls (w:World):Calls Tryz.prog 228 #[] w fun e w'=>e=.returned (.bool true)∧Below w.heap.size w w':=by
 go_in;go_wp2_with fail;refine(small_out w.heap.size 0 [] 258 _ (OutIs.new w _) (by simp)).mono ?_;rintro e w1 ⟨rfl,ho1,hn1⟩;have O1:=η ho1;have B1:=η (hn1.below (Nat.le_refl _) (by simp) (new_below w _));clear ho1 hn1;go_wp2_with fail;refine(long_out w.heap.size 0 _ (-2) _ O1.out (by simp[smallB])).mono ?_;rintro e w2 ⟨rfl,ho2,hn2⟩;have O2:=η ho2;have B2:=η (hn2.below (Nat.le_refl _) B1.out.size B1.out);clear ho2 hn2 O1 B1;go_wp2_with fail;refine(text_out w.heap.size 0 _ _ _ O2.out (by decide) (by simp[smallB,longB])).mono ?_;rintro e w3 ⟨rfl,ho3,hn3⟩;have O3:=η ho3;have B3:=η (hn3.below (Nat.le_refl _) B2.out.size B2.out);clear ho3 hn3 O2 B2;go_wp2_with fail;refine(truth_out w.heap.size 0 _ true _ O3.out (by simp[smallB,longB,textB];omega)).mono ?_;rintro e w4 ⟨rfl,ho4,hn4⟩;rw[begunB_is]at ho4;have B4:=η (hn4.below (Nat.le_refl _) B3.out.size B3.out);clear hn4 O3 B3;obtain⟨ao,c,hp,hs,hf,-⟩:=ho4;have hlt:=World.block_lt_of_cell? _ _ hp;obtain⟨g,off,rfl,hg,hc⟩:=hs.row.at (by decide);have hlen:begunB.length=15:=rfl;rw[hlen]at hp;clear hlen;have HC:=η hc;have HS:=η hs;clear hc hs;go_wp2_with fail;refine(read_calls _ c begunB _ HS.out).mono ?_;rintro e w5 ⟨rfl,hi,hb5⟩;have I5:=η hi;have B5:=η (B4.out.trans (hb5.mono B4.out.size));have hp5:=(hb5.cell (p:=⟨w.heap.size,0,none⟩) hlt).trans hp;have HC5:=η (fun i (hi:i<begunB.length)=>(hb5.cell (p:=⟨g,off+i,none⟩) hg).trans (HC.out i hi));have hs5:=hb5.size;clear hi hb5 hp HC HS;have hz:w.heap.size≤w4.heap.size:=B4.out.size;clear B4;generalize w4.heap.size=q at*;go_wp2_with fail;refine(in_one q _ I5.out).mono ?_;rintro e w6 ⟨rfl,hi,hg6⟩;have I6:=η hi;have G6:=η hg6;clear hi hg6;go_wp2_with fail;refine(in_two q _ I6.out).mono ?_;rintro e w7 ⟨rfl,hi,hg7⟩;have I7:=η hi;have G7:=η (grown_trans G6.out hg7);clear hi hg7 G6 I6;go_wp2_with fail;refine(in_three q _ I7.out).mono ?_;rintro e w8 ⟨rfl,hi,hg8⟩;have I8:=η hi;have G8:=η (grown_trans G7.out hg8);clear hi hg8 G7 I7;go_wp2_with fail;refine(in_four q _ I8.out).mono ?_;rintro e w9 ⟨rfl,hi,hg9⟩;have I9:=η hi;have G9:=η (grown_trans G8.out hg9);clear hi hg9 G8 I8;have hp9:=G9.out.cell hp5 (by simp;omega);have hc0:=G9.out.cell (HC5.out 0 (by decide)) (by simp;omega);have hc1:=G9.out.cell (HC5.out 1 (by decide)) (by simp;omega);rw[Nat.add_zero,show((begunB.getD 0 0).toNat:Int)=2 from rfl]at hc0;rw[show((begunB.getD 1 0).toNat:Int)=1 from rfl]at hc1;go_wp2_with fail;refine(end_calls q [] false _ I9.out).mono ?_;rintro e w' ⟨rfl,rfl⟩;go_wp2_with fail;refine(left_calls q [] false _ I9.out).mono ?_;rintro e w' ⟨rfl,rfl⟩;go_wp2_with fail;refine(bad_calls q [] false _ I9.out).mono ?_;rintro e w' ⟨rfl,rfl⟩;go_wp2_with fail;refine(in_five q _ I9.out).mono ?_;rintro e w10 ⟨rfl,hi,hg10⟩;have I10:=η hi;have G10:=η (grown_trans G9.out hg10);clear hi hg10 G9 I9 hp9 hc0 hc1;go_wp2_with fail;refine(bad_calls q [] true _ I10.out).mono ?_;rintro e w' ⟨rfl,rfl⟩;have hrow:=(Sl.marked w10 #[.int .u8 49,.int .u8 50,.int .u8 51,.int .u8 52,.int .u8 53,.int .u8 54,.int .u8 55,.int .u8 56,.int .u8 57] 5 (9,10) nineB rfl (by decide)).row;have HR:=η hrow;clear hrow;have kc:=fun(wx:World) (C:Array Value) (n c:Nat)=>Lib.run_convert_bytes_const (P:=Tryz.prog) wx 52 5 C n c Tryz.underlying52 Tryz.underlying5
 have C:=of_calls (some ⟨w10.heap.size,0,none⟩) 9 nineB _ (by decide) HR.out;rw[nine_sum,show nineB.length=9 from rfl]at C;go_wp2_with fail;refine C.mono ?_;rintro e w' ⟨rfl,rfl⟩;go_wp2_with fail;go_ret;refine⟨rfl,?_⟩;have hb10:Below w.heap.size w w10:=B5.out.grown G10.out (by omega) (by intro k hk;cases hk;exact hz);exact hb10.trans ((new_below w10 _).mono hb10.size)
theorem Il.only {p:Addr} {w w':World} {ao:Option Addr} {c:Nat} {l:List Int} (h:Il w ao c l) (ho:Only p w w') {v:Value} (hp:w.cell? p=some v) (hv:∀n,v≠.int .i64 n):Il w' ao c l:=by
 rcases h with h | ⟨A,hA,h1,h2,hc,hb⟩
 · exact .inl h
 · refine .inr ⟨A,hA,h1,h2,fun i hi=>?_,hb⟩;have hu:=hc i hi
   rw[ho.cell _ (World.block_lt_of_cell? _ _ hu) (by
    intro e;rw[e,hp]at hu
    exact hv _ (Option.some.inj hu))]
   exact hu
theorem Ps.only {p:Addr} {w w':World} {ao:Option Addr} {c:Nat} {l:List (ByteArray×ByteArray)} (h:Ps w ao c l) (ho:Only p w w') {v:Value} (hp:w.cell? p=some v) (hv:∀n,v≠.string n):Ps w' ao c l:=by
 rcases h with h | ⟨A,hA,h1,h2,hc⟩
 · exact .inl h
 · refine .inr ⟨A,hA,h1,h2,fun i hi=>?_⟩;obtain⟨c1,c2,c3⟩:=hc i hi;refine⟨?_,?_,c3⟩
   · rw[ho.cell _ (World.block_lt_of_cell? _ _ c1) (by
      intro e;rw[e,hp]at c1
      exact hv _ (Option.some.inj c1))]
     exact c1
   · rw[ho.cell _ (World.block_lt_of_cell? _ _ c2) (by
      intro e;rw[e,hp]at c2
      exact hv _ (Option.some.inj c2))]
     exact c2
theorem OnlyN.trans {p:Addr} {a b c:World} (h:OnlyN p a b) (k:OnlyN p b c):OnlyN p a c:=
 ⟨h.toOnly.trans k.toOnly,fun ao n c A h1 h2=>Nat.le_trans h.size (k.fresh ao n c A h1 h2)⟩
theorem OnlyN.turn {p:Addr} {a b:World} (h:OnlyN p a b):Turn [p.block] a b:=
 ⟨h.os,h.tape,h.output,h.size,fun k hk hn=>h.block k hk (by simpa using hn)⟩
structure HasV where
 id:Bool
 yes:Bool
 parts:Bool
 puts:Bool
def HasV.cells (o:HasV):Array Value:=#[.bool o.id,.bool o.yes,.bool o.parts,.bool o.puts]
def hasV (k:Int):HasV:=⟨decide (k=2),decide (k=5),decide (k=6∨k=8∨k=9),decide (k=4∨k=7)⟩
theorem hassize:(Tryz.prog.info? 234).map (·.size)=some 4:=by kernel_rfl
theorem hasOf_calls (k:Int) (w:World):Calls Tryz.prog 225 #[.int .i64 k] w fun e w'=>e=.returned (.agg (hasV k).cells)∧Turn [] w w':=by
 have hk:k=2∨k=4∨k=5∨k=6∨k=7∨k=8∨k=9∨(k≠2∧k≠4∧k≠5∧k≠6∧k≠7∧k≠8∧k≠9):=by omega
 rcases hk with rfl | rfl | rfl | rfl | rfl | rfl | rfl | hk
 rotate_left 7
 · have HO:Hid (hasV k=⟨false,false,false,false⟩):=η (by unfold hasV;rw[decide_eq_false (by omega),decide_eq_false (by omega),decide_eq_false (by omega),decide_eq_false (by omega)]);rw[HO.out];have f2:(k==2)=false:=by simp;omega
   have f4:(k==4)=false:=by simp;omega
   have f5:(k==5)=false:=by simp;omega
   have f6:(k==6)=false:=by simp;omega
   have f7:(k==7)=false:=by simp;omega
   have f8:(k==8)=false:=by simp;omega
   have f9:(k==9)=false:=by simp;omega
   clear hk HO;go_in;go_wp2;refine bodyPost_ret_by (results_cell_row rfl _ _ w.heap.size 234 _ (0,0) _ rfl (heap_alloc_new w _) Tryz.underlying234 rfl hassize) rfl ?_;exact⟨rfl,Turn.alloc [] w _⟩
 all_goals
  go_in;go_wp2;refine bodyPost_ret_by (results_cell_row rfl _ _ w.heap.size 234 _ (0,0) _ rfl (heap_alloc_new w _) Tryz.underlying234 rfl hassize) rfl ?_;exact⟨rfl,Turn.alloc [] w _⟩
theorem layParts_calls (ob oo:Nat) (l:List UInt8) {w:World} {ap:Option Addr} {cp:Nat} {P:List Int} (ho:OutIs w ⟨ob,oo,none⟩ l) (hp:Il w ap cp P) (hb:l.length≤1000000) (hn:P.length≤100000):
 Calls Tryz.prog 226 #[.pointer (some ⟨ob,oo,none⟩),.slice ap P.length cp] w fun e w'=>e=.returned (.tuple #[])∧OutIs w' ⟨ob,oo,none⟩ (l++(smallB P.length++partsBy P))∧OnlyN ⟨ob,oo,none⟩ w w':=by
 have C1:=η (small_out ob oo l P.length w ho (by omega));have HOUT:=η ho;have HP:=η hp;obtain⟨n,hnn⟩:=ε P.length;have HN:=η hnn;rw[←hnn]at C1 hn ⊢;have HW:∀wx,OnlyN ⟨ob,oo,none⟩ w wx→Il wx ap cp P:=fun wx t=>by
  obtain⟨a,c,h1,-⟩:=HOUT.out;exact HP.out.only t.toOnly h1 (by intro n h;cases h)
 have HW:=η HW;clear ho hp hnn;go_in;go_wp2_with fail;refine C1.out.mono ?_;rintro e w1 ⟨rfl,o1,n1⟩;have O1:=η o1;have N1:=η n1;clear o1 n1 C1;go_wp2_with fail;go_loopw [12] (fun vi wx=>∃k:Nat,k≤n∧vi=.int .i64 (k:Int)∧OutIs wx ⟨ob,oo,none⟩ (l++(smallB n++partsBy (P.take k)))∧OnlyN ⟨ob,oo,none⟩ w wx) (fun vi _=>n-(intOf vi).toNat)
 case atStart=>exact⟨0,by omega,rfl,by simpa[partsBy]using O1.out,N1.out⟩
 case round=>
  obtain⟨k,hk,rfl,hout,hon⟩:=hrel;have HO:=η hout;have HT:=η hon;clear hout hon;by_cases hkn:k<n
  · have hkl:k<P.length:=by rw[←HN.out];exact hkn
    obtain⟨b,off,rfl,-,hat⟩:=(HW.out _ HT.out).at (by intro e;rw[e]at hkl;simp at hkl);have h0:=hat k hkl;have hlen:(l++(smallB n++partsBy (P.take k))).length≤140737488000000:=by
     rw[List.length_append,List.length_append,smallB_len,partsBy_len,List.length_take];omega
    have C:=η (small_out ob oo _ (P.getD k 0) wr HO.out hlen);have HX:Hid (l++(smallB n++partsBy (P.take k))++smallB (P.getD k 0)=l++(smallB n++partsBy (P.take (k+1)))):=η (by rw[partsBy_next hkl];simp only[List.append_assoc]);rw[HX.out]at C;have hb2:0≤(k:Int)∧(k:Int)<(n:Int):=by omega
    clear hat hlen HX;obtain⟨y,hy⟩:=ε (P.getD k 0);rw[←hy]at h0 C;clear hy;go_wp2_with fail;refine C.out.mono ?_;rintro e w2 ⟨rfl,o2,n2⟩;have O2:=η o2;have N2:=η (HT.out.trans n2);clear o2 n2 C;go_wp2;go_roundw
    case rel=>exact⟨k+1,by omega,by go_num,O2.out,N2.out⟩
    case measure=>simp[intOf];omega
  · have hkk:k=n:=by omega
    have HF:Hid (P.take k=P):=η (List.take_of_length_le (by rw[hkk,HN.out];exact Nat.le_refl _));rw[HF.out]at HO;clear HF hkk;go_wp2;go_end0;exact⟨rfl,HO.out,HT.out⟩
theorem layPuts_calls (ob oo:Nat) (l:List UInt8) {w:World} {aq:Option Addr} {cq:Nat} {Q:List (ByteArray×ByteArray)} (ho:OutIs w ⟨ob,oo,none⟩ l) (hq:Ps w aq cq Q) (hb:l.length≤1000000) (hn:Q.length≤1000)
 (hsz:∀i,i<Q.length→(Q.getD i putNone).1.size≤1000000∧(Q.getD i putNone).2.size≤1000000):
 Calls Tryz.prog 227 #[.pointer (some ⟨ob,oo,none⟩),.slice aq Q.length cq] w fun e w'=>e=.returned (.tuple #[])∧OutIs w' ⟨ob,oo,none⟩ (l++(smallB Q.length++putsBy Q))∧OnlyN ⟨ob,oo,none⟩ w w':=by
 have C1:=η (small_out ob oo l Q.length w ho (by omega));have HOUT:=η ho;have HQ:=η hq;have HSZ:=η hsz;obtain⟨n,hnn⟩:=ε Q.length;have HN:=η hnn;rw[←hnn]at C1 hn ⊢;have HW:∀wx,OnlyN ⟨ob,oo,none⟩ w wx→Ps wx aq cq Q:=fun wx t=>by
  obtain⟨a,c,h1,-⟩:=HOUT.out;exact HQ.out.only t.toOnly h1 (by intro n h;cases h)
 have HW:=η HW;clear ho hq hnn hsz;go_in;go_wp2_with fail;refine C1.out.mono ?_;rintro e w1 ⟨rfl,o1,n1⟩;have O1:=η o1;have N1:=η n1;clear o1 n1 C1;go_wp2_with fail;go_loopw [12] (fun vi wx=>∃k:Nat,k≤n∧vi=.int .i64 (k:Int)∧OutIs wx ⟨ob,oo,none⟩ (l++(smallB n++putsBy (Q.take k)))∧OnlyN ⟨ob,oo,none⟩ w wx) (fun vi _=>n-(intOf vi).toNat)
 case atStart=>exact⟨0,by omega,rfl,by simpa[putsBy]using O1.out,N1.out⟩
 case round=>
  obtain⟨k,hk,rfl,hout,hon⟩:=hrel;have HO:=η hout;have HT:=η hon;clear hout hon;by_cases hkn:k<n
  · have hkl:k<Q.length:=by rw[←HN.out];exact hkn
    obtain⟨b,off,rfl,-,hat⟩:=(HW.out _ HT.out).at (by intro e;rw[e]at hkl;simp at hkl);obtain⟨h0,h1,-,-⟩:=hat k hkl;obtain⟨z0,z1⟩:=HSZ.out k hkl;have hlen:(l++(smallB n++putsBy (Q.take k))).length≤140737400000000:=by
     have:=putsBy_len (Q.take k);rw[List.length_take]at this;rw[List.length_append,List.length_append,smallB_len];omega
    obtain⟨x,hx⟩:=ε ((Q.getD k putNone).1);obtain⟨y,hy⟩:=ε ((Q.getD k putNone).2);rw[←hx]at h0 z0;rw[←hy]at h1 z1;have C:=η (text_out ob oo _ x (wr.alloc (.cells #[.string x,.string y] 45)) (HO.out.alloc (new_below _ _)) (by unfold maxLen;omega) (by omega));have C2:=η (fun wx o=>text_out ob oo (l++(smallB n++putsBy (Q.take k))++textB x) y wx o (by unfold maxLen;omega) (by have:=textB_len x;rw[List.length_append];omega));have HX:Hid (l++(smallB n++putsBy (Q.take k))++textB x++textB y=l++(smallB n++putsBy (Q.take (k+1)))):=η (by rw[putsBy_next hkl,hx,hy];simp only[List.append_assoc]);have hb2:0≤(k:Int)∧(k:Int)<(n:Int):=by omega
    clear hat hlen z0 z1 hx hy;go_wp2_with fail;refine C.out.mono ?_;rintro e w2 ⟨rfl,o2,n2⟩;have O2:=η o2;have N2:=η (HT.out.trans n2.after_alloc)
    have R2:=n2.turn.heap (heap_alloc_new wr (.cells #[.string x,.string y] 45)) (by
     obtain⟨a,c,hc,-⟩:=HO.out;have:=World.block_lt_of_cell? _ _ hc;simp at this ⊢
     omega)
    have k1:w2.cell? ⟨wr.heap.size,1,none⟩=some (.string y):=by rw[cell_of_row _ _ _ _ _ _ R2];rfl
    clear o2 n2 C R2;go_wp2_with fail;refine(C2.out _ O2.out).mono ?_;rintro e w3 ⟨rfl,o3,n3⟩;have O3:=η o3;have N3:=η (N2.out.trans n3);rw[HX.out]at O3;clear o3 n3 C2 HX k1 O2;go_wp2;go_roundw
    case rel=>exact⟨k+1,by omega,by go_num,O3.out,N3.out⟩
    case measure=>simp[intOf];omega
  · have hkk:k=n:=by omega
    have HF:Hid (Q.take k=Q):=η (List.take_of_length_le (by rw[hkk,HN.out];exact Nat.le_refl _));rw[HF.out]at HO;clear HF hkk;go_wp2;go_end0;exact⟨rfl,HO.out,HT.out⟩
def recNone:RecV:=⟨0,0,0,false,[],[]⟩
def RecV.fit (r:RecV):Prop:=okI r.kind∧okI r.tid∧okI r.id
structure RecFace:Prop where
 enc:∀(r:RecV) (w:World) (ap:Option Addr) (cp:Nat) (aq:Option Addr) (cq:Nat),Il w ap cp r.parts→Ps w aq cq r.puts→r.fit→
  Calls Tryz.prog 171 #[.agg (r.cells ap cp aq cq)] w fun e w'=>∃v,e=.returned v∧(recB r=true→w'.ownsRow w.heap.size 5 1 v (recBytes r).length (u8s (recBytes r)))∧(recB r=false→v=.slice none 0 0)∧Turn [] w w'
 dec:∀(l:List UInt8) (w:World) (ao:Option Addr) (c:Nat),Sl w ao c l→
  Calls Tryz.prog 165 #[.slice ao l.length c] w fun e w'=>∃(x:RecV) (ap:Option Addr) (cp:Nat) (aq:Option Addr) (cq:Nat) (err:Int),e=.returned (.tuple #[.agg (x.cells ap cp aq cq),.int .i64 err])∧Il w' ap cp x.parts∧Ps w' aq cq x.puts∧x.fit∧
   (∀A,ap=some A→w.heap.size≤A.block)∧(∀A,aq=some A→w.heap.size≤A.block)∧Turn [] w w'∧
   ((err=0∧recB x=true∧recBytes x=l)∨(err=1∧x=recNone∧∀r,recB r=true→recBytes r≠l))
 eq:∀(a b:RecV) (w:World) (p1 q1 p2 q2:Option Addr) (c1 e1 c2 e2:Nat),Il w p1 c1 a.parts→Ps w q1 e1 a.puts→Il w p2 c2 b.parts→Ps w q2 e2 b.puts→
  Calls Tryz.prog 127 #[.agg (a.cells p1 c1 q1 e1),.agg (b.cells p2 c2 q2 e2)] w fun e w'=>e=.returned (.bool (eqRecB a b))∧Turn [] w w'
end Go.Proofs.YtkjpjfghklgdhaaGreat
