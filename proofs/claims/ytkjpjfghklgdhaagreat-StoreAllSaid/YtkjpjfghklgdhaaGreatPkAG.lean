/-
  PkAG
-/
import Derived.Test.YtkjpjfghklgdhaaGreatPkAF
import Derived.Sort.Walk0
import Derived.Deep.RegionHeldLaw
set_option maxHeartbeats 2000000
set_option maxRecDepth 100000
namespace Go.Proofs.YtkjpjfghklgdhaaGreat
open Go.RowKit Go.Proofs.YtkjpjfghklgdhaaGreat.V
def cmpZ (a b:Int):Int:=if a<b then-1 else if b<a then 1 else 0
theorem cmpZ_lt {a b : Int} : cmpZ a b < 0 ↔ a < b := by unfold cmpZ; split; · simp_all
                                                         · split<;>simp_all
theorem cmpZ_zero {a b:Int}:(cmpZ a b==0)=decide (a=b):=by
 unfold cmpZ;by_cases h1:a<b
 · rw[if_pos h1];simp;omega
 · by_cases h2:b<a
   · rw[if_neg h1,if_pos h2];simp;omega
   · rw[if_neg h1,if_neg h2];simp;omega
def posK {α:Type} (key:α→Int) (t:Int) (l:List α):Nat:=(l.takeWhile fun y=>decide (key y<t)).length
theorem posK_cons {α:Type} (key:α→Int) (t:Int) (x:α) (l:List α):posK key t (x::l)=if key x<t then posK key t l+1 else 0:=by
 unfold posK;rw[List.takeWhile_cons];by_cases h:key x<t
 · rw[if_pos h,if_pos (by simpa using h)];simp
 · rw[if_neg h,if_neg (by simpa using h)];simp
theorem posK_le {α:Type} (key:α→Int) (t:Int) (l:List α):posK key t l≤l.length:=(List.takeWhile_sublist _).length_le
theorem posK_map {α β:Type} (key:β→Int) (f:α→β) (t:Int) (l:List α):posK key t (l.map f)=posK (fun x=>key (f x)) t l:=by
 induction l with
 | nil=>rfl
 | cons x l ih=>rw[List.map_cons,posK_cons,posK_cons,ih]
theorem posK_lo {α:Type} {key:α→Int} {t:Int}:∀{l:List α} {i:Nat} {x:α},i<posK key t l→l[i]?=some x→key x<t
 | [],i,x,h,_=>by simp[posK]at h
 | y::l,i,x,h,hx=>by
  rw[posK_cons]at h;by_cases hy:key y<t
  · rw[if_pos hy]at h;cases i with
    | zero=>simp at hx;rw[←hx];exact hy
    | succ i=>exact posK_lo (l:=l) (i:=i) (by omega) (by simpa using hx)
  · rw[if_neg hy]at h;omega
theorem posK_hi {α:Type} {key:α→Int} {t:Int}:∀{l:List α} {i:Nat} {x:α},Rising key l→posK key t l≤i→l[i]?=some x→t≤key x
 | [],i,x,_,_,hx=>by simp at hx
 | y::l,i,x,hr,h,hx=>by
  rw[posK_cons]at h;obtain⟨h1,h2⟩:=List.pairwise_cons.1 hr;by_cases hy:key y<t
  · rw[if_pos hy]at h;cases i with
    | zero=>omega
    | succ i=>exact posK_hi (l:=l) (i:=i) h2 (by omega) (by simpa using hx)
  · cases i with
    | zero=>simp at hx;rw[←hx];omega
    | succ i=>
     have:x∈l:=List.mem_of_getElem? (by simpa using hx);have:=h1 x this;omega
theorem posK_at {α:Type} {key:α→Int} {t:Int}:∀{l:List α},Rising key l→((l[posK key t l]?).any fun x=>decide (key x=t))=keyB key l t
 | [],_=>rfl
 | y::l,hr=>by
  obtain⟨h1,h2⟩:=List.pairwise_cons.1 hr;rw[posK_cons];by_cases hy:key y<t
  · rw[if_pos hy,List.getElem?_cons_succ,posK_at h2];unfold keyB;rw[List.any_cons];have:decide (key y=t)=false:=by simp;omega
    rw[this,Bool.false_or]
  · rw[if_neg hy,List.getElem?_cons_zero];unfold keyB;rw[List.any_cons,Option.any_some];by_cases he:key y=t
    · simp[he]
    · have:(l.any fun x=>decide (key x=t))=false:=by
       rw[List.any_eq_false];intro x hx;have:=h1 x hx;simp;omega
      rw[this,Bool.or_false]
theorem posK_find {α:Type} {key:α→Int} {t:Int} {l:List α} (hr:Rising key l) (hk:keyB key l t=true):∃x,l[posK key t l]?=some x∧key x=t∧l.find? (fun p=>decide (key p=t))=some x:=by
 have h:=posK_at (t:=t) hr;rw[hk]at h;cases hx:l[posK key t l]? with
 | none=>rw[hx]at h;simp at h
 | some x=>
 rw[hx]at h;have hkx:key x=t:=by simpa using h
 refine⟨x,rfl,hkx,?_⟩;rw[List.find?_eq_some_iff_append];refine⟨by simpa using hkx,l.take (posK key t l),l.drop (posK key t l+1),?_,fun y hy=>?_⟩
 · obtain⟨hi,rfl⟩:=List.getElem?_eq_some_iff.1 hx;rw[List.getElem_cons_drop,List.take_append_drop]
 · obtain⟨i,hi,rfl⟩:=List.getElem_of_mem hy;rw[List.length_take]at hi;have:=posK_lo (key:=key) (t:=t) (l:=l) (i:=i) (x:=l[i]) (by omega) (by simp);rw[List.getElem_take];simp;omega
theorem insK_pos {α:Type} (key:α→Int) (x:α):∀(l:List α),insK key x l=l.take (posK key (key x) l)++x::l.drop (posK key (key x) l)
 | []=>rfl
 | y::l=>by
  rw[insK_cons,posK_cons];by_cases hy:key y<key x
  · rw[if_pos hy,if_pos hy,List.take_succ_cons,List.drop_succ_cons,insK_pos key x l];rfl
  · rw[if_neg hy,if_neg hy];rfl
theorem remK_pos {α:Type} {key:α→Int} {t:Int}:∀{l:List α},Rising key l→keyB key l t=true→remK key t l=l.take (posK key t l)++l.drop (posK key t l+1)
 | [],_,h=>by simp[keyB]at h
 | y::l,hr,h=>by
  obtain⟨h1,h2⟩:=List.pairwise_cons.1 hr;rw[posK_cons];by_cases hy:key y<t
  · have hk:keyB key l t=true:=by
     obtain⟨x,hx,e⟩:=keyB_iff.1 h;rcases List.mem_cons.1 hx with rfl | hx
     · omega
     · exact keyB_iff.2 ⟨x,hx,e⟩
    rw[if_pos hy,List.take_succ_cons,List.drop_succ_cons,List.cons_append,←remK_pos h2 hk];unfold remK;rw[List.eraseP_cons_of_neg (by simp;omega)]
  · have he:key y=t:=by
     obtain⟨x,hx,e⟩:=keyB_iff.1 h;rcases List.mem_cons.1 hx with rfl | hx
     · exact e
     · have:=h1 x hx;omega
    rw[if_neg hy];unfold remK;rw[List.eraseP_cons_of_pos (by simp[he])];rfl
theorem remK_none {α:Type} {key:α→Int} {t:Int} {l:List α} (h:keyB key l t=false):remK key t l=l:=by
 unfold remK;exact List.eraseP_of_forall_not fun x hx=>by have:=keyB_not.1 h x hx;simpa using this
theorem keyB_map {α β:Type} (key:β→Int) (f:α→β) (t:Int) (l:List α):keyB key (l.map f) t=keyB (fun x=>key (f x)) l t:=by
 unfold keyB;rw[List.any_map];rfl
def pairC (p:Int×Value):List Value:=[.int .i64 p.1,p.2]
theorem Tl.map {α β:Type} {n:Nat} {f:α→List Value} {g:β→List Value} {h:α→β} (hfg:∀x,f x=g (h x)) {w:World} {ao:Option Addr} {c:Nat} {l:List α} (H:Tl n f w ao c l):Tl n g w ao c (l.map h):=by
 rcases H with⟨h1,h2,rfl⟩ | ⟨b,off,h1,h2,h3,h4⟩
 · exact .inl ⟨h1,h2,rfl⟩
 · refine .inr ⟨b,off,h1,by rwa[List.length_map],h3,fun i x hx j u hu=>?_⟩;rw[List.getElem?_map]at hx;obtain⟨y,hy,rfl⟩:=Option.map_eq_some_iff.1 hx;exact h4 i y hy j u (by rw[hfg];exact hu)
def endP (e:EndV):Int×Value:=(e.tid,.bool e.yes)
def brP (x:Lay BrV):Int×Value:=(x.v.tid,.slice x.ao x.v.puts.length x.c)
def pendP' (x:Lay PendV):Int×Value:=(x.v.tid,.slice x.ao x.v.parts.length x.c)
theorem Tl.ends {w:World} {ao:Option Addr} {c:Nat} {l:List EndV} (h:Tl 2 endC w ao c l):Tl 2 pairC w ao c (l.map endP):=Tl.map (h:=endP) (fun _=>rfl) h
theorem Tl.brs {w:World} {ao:Option Addr} {c:Nat} {l:List (Lay BrV)} (h:Tl 2 brC w ao c l):Tl 2 pairC w ao c (l.map brP):=Tl.map (h:=brP) (fun _=>rfl) h
theorem Tl.pds {w:World} {ao:Option Addr} {c:Nat} {l:List (Lay PendV)} (h:Tl 2 pendC w ao c l):Tl 2 pairC w ao c (l.map pendP'):=Tl.map (h:=pendP') (fun _=>rfl) h
open Go.RowKit
theorem isNaN_i64 (a:Int) (w:World):Calls Tryz.prog 231 #[.int .i64 a] w fun e w'=>e=.returned (.bool false)∧w'=w:=by
 have h:(a != a)=false:=by simp
 go_in;go_wp2;go_ret;exact⟨by simp,rfl⟩
theorem compare_i64 (a b:Int) (w:World):Calls Tryz.prog 181 #[.int .i64 a,.int .i64 b] w fun e w'=>e=.returned (.int .i64 (cmpZ a b))∧w'=w:=by
 have A1:=η (isNaN_i64 a w);have A2:=η (isNaN_i64 b w);by_cases h1:a<b
 · go_in;go_wp2_with(first | (go_at_call 231;first | (with_reducible refine A1.out.mono ?_;rintro e w' ⟨rfl,rfl⟩) | (with_reducible refine A2.out.mono ?_;rintro e w' ⟨rfl,rfl⟩)));go_ret;exact⟨ret_int (by unfold cmpZ;rw[if_pos h1]),rfl⟩
 · by_cases h2:b<a
   · go_in;go_wp2_with(first | (go_at_call 231;first | (with_reducible refine A1.out.mono ?_;rintro e w' ⟨rfl,rfl⟩) | (with_reducible refine A2.out.mono ?_;rintro e w' ⟨rfl,rfl⟩)));go_ret;exact⟨ret_int (by unfold cmpZ;rw[if_neg (by omega),if_pos h2]),rfl⟩
   · go_in;go_wp2_with(first | (go_at_call 231;first | (with_reducible refine A1.out.mono ?_;rintro e w' ⟨rfl,rfl⟩) | (with_reducible refine A2.out.mono ?_;rintro e w' ⟨rfl,rfl⟩)));go_ret;exact⟨ret_int (by unfold cmpZ;rw[if_neg (by omega),if_neg (by omega)]),rfl⟩
def risesFrom:Int→List (Int×Value)→Bool
 | _,[]=>true
 | z,p::l=>decide (z<p.1)&&(decide (0<homeZ p.1)&&risesFrom p.1 l)
theorem risesFrom_iff:∀{l:List (Int×Value)} {z:Int},risesFrom z l=true↔((∀p∈l,z<p.1∧0<homeZ p.1)∧Rising Prod.fst l)
 | [],z=>by simp[risesFrom]
 | p::l,z=>by
  rw[risesFrom,Bool.and_eq_true,Bool.and_eq_true,decide_eq_true_eq,decide_eq_true_eq,risesFrom_iff];constructor
  · rintro⟨h1,h2,h3,h4⟩;refine⟨fun x hx=>?_,List.pairwise_cons.2 ⟨fun x hx=>(h3 x hx).1,h4⟩⟩;rcases List.mem_cons.1 hx with rfl | hx
    · exact⟨h1,h2⟩
    · have:=h3 x hx;exact⟨by omega,this.2⟩
  · rintro⟨h1,h2⟩;obtain⟨h3,h4⟩:=List.pairwise_cons.1 h2;exact⟨(h1 p (by simp)).1,(h1 p (by simp)).2,fun x hx=>⟨h3 x hx,(h1 x (by simp[hx])).2⟩,h4⟩
theorem homeZ_pos {t:Int} (h:0<homeZ t):0<t:=by
 unfold homeZ at h;split at h
 · rename_i h1;omega
 · omega
theorem risesFrom_zero (l:List (Int×Value)):risesFrom 0 l=decide ((∀p∈l,0<homeZ p.1)∧Rising Prod.fst l):=by
 rw[Bool.eq_iff_iff,risesFrom_iff,decide_eq_true_eq];constructor
 · rintro⟨h1,h2⟩;exact⟨fun p hp=>(h1 p hp).2,h2⟩
 · rintro⟨h1,h2⟩;exact⟨fun p hp=>⟨homeZ_pos (h1 p hp),h1 p hp⟩,h2⟩
theorem rising_map {α β:Type} (key:β→Int) (f:α→β) (l:List α):Rising key (l.map f)↔Rising (fun x=>key (f x)) l:=List.pairwise_map
theorem drop_cons {α:Type} {l:List α} {k:Nat} {x:α} (h:l[k]?=some x):l.drop k=x::l.drop (k+1):=by
 obtain⟨hk,rfl⟩:=List.getElem?_eq_some_iff.1 h;exact(List.getElem_cons_drop hk).symm
end Go.Proofs.YtkjpjfghklgdhaaGreat
namespace Go.Proofs.YtkjpjfghklgdhaaGreat.VE
open Go.RowKit Go.Proofs.YtkjpjfghklgdhaaGreat.V
def tidF:Value:=.func (.func 117) #[] #[]
theorem tid_calls (t:Int) (v:Value) (w:World):Calls Tryz.prog 117 #[.agg #[.int .i64 t,v]] w fun e w'=>e=.returned (.int .i64 t)∧Turn [] w w':=by
 go_in;go_wp2;go_ret;exact⟨rfl,Turn.alloc [] w _⟩
theorem tid_enter (args:Array Value) (w:World):(callFunc 117 args).run Tryz.prog w=.ok (.enter 117 args) w:=
 enter_run Tryz.func117 (by kernel_rfl) (by kernel_rfl) args w
theorem close_enter (args:Array Value) (w:World):(callFunc 180 args).run Tryz.prog w=.ok (.enter 180 args) w:=
 enter_run Tryz.func180 (by kernel_rfl) (by kernel_rfl) args w
theorem close_calls (y:Int) (v:Value) (t:Int) {q:Nat} {w:World} (hq:w.cell? ⟨q,0,none⟩=some tidF):Calls Tryz.prog 180 #[.agg #[.int .i64 y,v],.int .i64 t,.pointer (some ⟨q,0,none⟩)] w fun e w'=>e=.returned (.int .i64 (cmpZ y t))∧Turn [] w w':=by
 have T:=η (tid_calls y v);have EN:=tid_enter;have C:=η (compare_i64 y t);obtain⟨c,hc⟩:=ε (cmpZ y t);rw[←hc]at C ⊢;unfold tidF at hq;have hq1:=(Turn.alloc [] w (.cells #[.int .i64 y,v] 61)).cell hq;clear hc;go_in;go_wp2_with fail;refine(T.out _).mono ?_;rintro e w1 ⟨rfl,t1⟩;have T1:=η ((Turn.alloc [] w _).trans t1);clear t1 T hq hq1;go_wp2_with fail;refine(C.out _).mono ?_;rintro e w2 ⟨rfl,rfl⟩;go_wp2;go_ret;exact⟨rfl,T1.out⟩
theorem bs_calls {w:World} {ao:Option Addr} {cp:Nat} {K:List (Int×Value)} (h:Tl 2 pairC w ao cp K) (hfew:K.length≤1000000) (t:Int) {q:Nat} (hq:w.cell? ⟨q,0,none⟩=some tidF) {m:Nat} (hm:m≤K.length)
 (hlo:∀(i:Nat) x,i<m→K[i]?=some x→x.1<t) (hhi:∀(i:Nat) x,m≤i→K[i]?=some x→t≤x.1):
 Calls Tryz.prog 179 #[.slice ao K.length cp,.int .i64 t,.func (.func 180) #[] #[.pointer (some ⟨q,0,none⟩)]] w fun e w'=>
  e=.returned (.tuple #[.int .i64 (m:Int),.bool (K[m]?.any fun x=>decide (x.1=t))])∧Turn [] w w':=by
 obtain⟨n,hn⟩:=ε K.length;have H:=η h;have HN:=η hn;have EN:=close_enter;have LO:=η hlo;have HI:=η hhi;have HQ:=η hq;obtain⟨r,hr⟩:=ε ((K[m]?.any fun x=>decide (x.1=t)));have HR:=η hr;rw[←hr];rw[←hn]at hm hfew ⊢;clear h hn hlo hhi hr hq;go_in;go_wp2_with fail;go_loopw [9,10] (fun vi vj wx=>∃i j:Nat,i≤m∧m≤j∧j≤n∧vi=.int .i64 (i:Int)∧vj=.int .i64 (j:Int)∧Turn [] w wx) (fun vi vj _=>(intOf vj).toNat-(intOf vi).toNat)
 case atStart=>exact⟨0,n,by omega,hm,Nat.le_refl _,rfl,rfl,Turn.refl _ _⟩
 case round=>
  obtain⟨i,j,hi,hj,hjn,rfl,rfl,ht⟩:=hrel;have HT:=η ht;have H2:=H.out.still ht;have hq2:=ht.cell HQ.out;clear ht;by_cases hij:i<j
  · obtain⟨h,hh⟩:=ε ((i+j) / 2);have hih:i≤h∧h<j:=by omega
    have hh':((i:Int)+(j:Int)) / 2=(h:Int):=by omega
    clear hh;have hhk:h<K.length:=by rw[←HN.out];omega
    obtain⟨x,hx⟩:∃x,K[h]?=some x:=⟨_,List.getElem?_eq_getElem hhk⟩
    obtain⟨g,off,rfl,hat⟩:=H2.at hx;have hk0:=hat 0 (.int .i64 x.1) rfl;have hk1:=hat 1 x.2 rfl;rw[Nat.add_zero]at hk0;have LO1:=fun hhm:h<m=>LO.out h x hhm hx
    have HI1:=fun hhm:m≤h=>HI.out h x hhm hx
    obtain⟨y,v⟩:=x;dsimp only at hk0 hk1 LO1 HI1;have hb:0≤(h:Int)∧(h:Int)<(n:Int):=by omega
    have C:=η (close_calls y v t hq2);by_cases hg:y<t
    · have hhm:h<m:=by
       false_or_by_contra
       have:=HI1 (by omega);omega
      have hg2:cmpZ y t<0:=cmpZ_lt.2 hg;obtain⟨c,hc⟩:=ε (cmpZ y t);rw[←hc]at C hg2;clear hat hx hc hg LO1 HI1 H2 hq2;go_wp2_with fail;refine C.out.mono ?_;rintro e x1 ⟨rfl,t1⟩;have T1:=η (HT.out.trans t1);clear t1 C;go_wp2;go_roundw
      case rel=>exact⟨h+1,j,by omega,hj,hjn,by go_num,rfl,T1.out⟩
      case measure=>simp[intOf];omega
    · have hhm:m≤h:=by
       false_or_by_contra
       have:=LO1 (by omega);omega
      have hg2:¬cmpZ y t<0:=fun e=>hg (cmpZ_lt.1 e)
      obtain⟨c,hc⟩:=ε (cmpZ y t);rw[←hc]at C hg2;clear hat hx hc hg LO1 HI1 H2 hq2;go_wp2_with fail;refine C.out.mono ?_;rintro e x1 ⟨rfl,t1⟩;have T1:=η (HT.out.trans t1);clear t1 C;go_wp2;go_roundw
      case rel=>exact⟨i,h,hi,hhm,by omega,rfl,rfl,T1.out⟩
      case measure=>simp[intOf];omega
  · have him:i=m:=by omega
    subst him;by_cases hin:i<n
    · have hik:i<K.length:=by rw[←HN.out];exact hin
      obtain⟨x,hx⟩:∃x,K[i]?=some x:=⟨_,List.getElem?_eq_getElem hik⟩
      obtain⟨g,off,rfl,hat⟩:=H2.at hx;have hk0:=hat 0 (.int .i64 x.1) rfl;have hk1:=hat 1 x.2 rfl;rw[Nat.add_zero]at hk0;have HR2:Hid (r=(cmpZ x.1 t==0)):=η (by rw[HR.out,hx,cmpZ_zero];rfl);obtain⟨y,v⟩:=x;dsimp only at hk0 hk1 HR2;have hb:0≤(i:Int)∧(i:Int)<(n:Int):=by omega
      have hin1:decide ((i:Int)<(n:Int))=true:=by simp;omega
      have C:=η (close_calls y v t hq2);obtain⟨c,hc⟩:=ε (cmpZ y t);rw[←hc]at C HR2;clear hat hx hc H2 hq2;go_wp2_with fail;refine C.out.mono ?_;rintro e x1 ⟨rfl,t1⟩;have T1:=η (HT.out.trans t1);clear t1 C;go_wp2
      go_ret2
      exact⟨by rw[HR2.out];rfl,T1.out⟩
    · have hin1:decide ((i:Int)<(n:Int))=false:=by simp;omega
      have HR2:Hid (r=false):=η (by rw[HR.out,List.getElem?_eq_none (by rw[←HN.out];omega)];rfl);clear H2 hq2;go_wp2
      go_ret2
      exact⟨by rw[HR2.out];rfl,HT.out⟩
theorem place_calls {w:World} {ao:Option Addr} {cp:Nat} {K:List (Int×Value)} (h:Tl 2 pairC w ao cp K) (hr:Rising Prod.fst K) (hfew:K.length≤1000000) (t:Int):
 Calls Tryz.prog 123 #[.slice ao K.length cp,.int .i64 t,tidF] w fun e w'=>
  e=.returned (.tuple #[.int .i64 (posK Prod.fst t K:Int),.bool (keyB Prod.fst K t)])∧Turn [] w w':=by
 have t0:=Turn.alloc [] w (.cells #[tidF] 138);have hq:(w.alloc (.cells #[tidF] 138)).cell? ⟨w.heap.size,0,none⟩=some tidF:=by
  rw[cell_of_row _ _ _ _ _ _ (heap_alloc_new w _)];rfl
 have BC:=η (bs_calls (h.still t0) hfew t hq (posK_le Prod.fst t K) (fun i x hi hx=>posK_lo hi hx) (fun i x hi hx=>posK_hi hr hi hx));rw[posK_at hr]at BC;have T0:=η t0;obtain⟨p,hp⟩:=ε (posK Prod.fst t K);obtain⟨b,hb⟩:=ε (keyB Prod.fst K t);rw[←hp,←hb]at BC ⊢;obtain⟨n,hn⟩:=ε K.length;rw[←hn]at BC ⊢;unfold tidF at BC ⊢;clear h hr hfew t0 hq hp hb hn;go_in;go_wp2_with fail;refine BC.out.mono ?_;rintro e w1 ⟨rfl,t1⟩;have T1:=η (T0.out.trans t1);clear t1 BC T0;go_wp2
 go_ret2
 exact⟨rfl,T1.out⟩
def Form (K:List (Int×Value)):Prop:=∀p∈K,∃b:Bool,p.2=.bool b
theorem rises_calls {w:World} {ao:Option Addr} {cp:Nat} {K:List (Int×Value)} (h:Tl 2 pairC w ao cp K) (hform:Form K) (hok:∀p∈K,-9223372036854775808≤p.1∧p.1≤9223372036854775807):
 Calls Tryz.prog 116 #[.slice ao K.length cp,tidF] w fun e w'=>e=.returned (.bool (decide (K.length≤2000)&&risesFrom 0 K))∧Turn [] w w':=by
 have hlen:=h.len;obtain⟨n,hn⟩:=ε K.length;have H:=η h;have HN:=η hn;have OK:=η hok;have FM:=η hform;have EN:=tid_enter;obtain⟨ans,ha⟩:=ε ((decide (K.length≤2000)&&risesFrom 0 K));have HA:=η ha;rw[←ha];rw[←hn]at hlen ⊢;unfold tidF;clear h hn hok ha hform;by_cases hbig:2000<n
 · have HF:Hid (ans=false):=η (by rw[HA.out,←HN.out,decide_eq_false (by omega),Bool.false_and]);go_in;go_wp2;go_ret;exact⟨ret_bool HF.out.symm,Turn.refl _ _⟩
 · have HS:Hid (ans=risesFrom 0 (K.drop 0)):=η (by rw[HA.out,←HN.out,decide_eq_true (by omega),Bool.true_and];rfl);go_in;go_wp2_with fail;go_loopw [5,14] (fun vz vi wx=>∃(k:Nat) (z:Int),k≤n∧vi=.int .i64 (k:Int)∧vz=.int .i64 z∧ans=risesFrom z (K.drop k)∧Turn [] w wx) (fun _ vi _=>n-(intOf vi).toNat)
   case atStart=>exact⟨0,0,by omega,rfl,rfl,HS.out,Turn.refl _ _⟩
   case round=>
    obtain⟨k,z,hk,rfl,rfl,hall,ht⟩:=hrel;have HT:=η ht;have H2:=H.out.still ht;have HL:=η hall;clear hall ht HS;by_cases hkn:k<n
    · have hkl:k<K.length:=by rw[←HN.out];exact hkn
      obtain⟨x,hx⟩:∃x,K[k]?=some x:=⟨_,List.getElem?_eq_getElem hkl⟩
      obtain⟨g,off,rfl,hat⟩:=H2.at hx;have hk0:=hat 0 (.int .i64 x.1) rfl;have hk1:=hat 1 x.2 rfl;rw[Nat.add_zero]at hk0;have hox:=OK.out x (List.mem_of_getElem? hx);have hfx:=FM.out x (List.mem_of_getElem? hx);have HD:Hid (ans=risesFrom z (x::K.drop (k+1))):=η (by rw[HL.out,drop_cons hx]);clear H2 hx hat HL;obtain⟨y,v⟩:=x;dsimp only at hk0 hk1 hox HD hfx;obtain⟨vb,rfl⟩:=hfx;have hb:0≤(k:Int)∧(k:Int)<(n:Int):=by omega
      have C:=η (tid_calls y (.bool vb));have KT:=η (fun wx=>kindTid_calls y wx hox);obtain⟨kt,hkt⟩:=ε (decide (0<homeZ y));have HKT:=η hkt;rw[←hkt]at KT;clear hkt hox;go_wp2_with fail;refine(C.out _).mono ?_;rintro e x1 ⟨rfl,t1⟩;have T1:=η ((HT.out.trans (Turn.alloc [] _ _)).trans t1);clear t1 C hk0 hk1;by_cases hyz:y≤z
      · have HF:Hid (ans=false):=η (by rw[HD.out];show(decide (z<y)&&_)=false;rw[decide_eq_false (by omega),Bool.false_and]);have hd:decide (y≤z)=true:=by simpa using hyz
        clear HD;go_wp2_with fail;go_ret;exact⟨ret_bool HF.out.symm,T1.out⟩
      · have hd:decide (y≤z)=false:=by simpa using hyz
        cases hkt:kt with
        | false=>
         have HF:Hid (ans=false):=η (by rw[HD.out];show(decide (z<y)&&(decide (0<homeZ y)&&_))=false;rw[←HKT.out,hkt,Bool.false_and,Bool.and_false]);rw[hkt]at KT;clear HD hkt HKT;go_wp2_with fail;refine(KT.out _).mono ?_;rintro e x2 ⟨rfl,rfl⟩;clear KT;go_wp2_with fail;go_ret;exact⟨ret_bool HF.out.symm,T1.out⟩
        | true=>
         have HF:Hid (ans=risesFrom y (K.drop (k+1))):=η (by rw[HD.out];show(decide (z<y)&&(decide (0<homeZ y)&&_))=_;rw[←HKT.out,hkt,decide_eq_true (by omega),Bool.true_and,Bool.true_and]);rw[hkt]at KT;clear HD hkt HKT;go_wp2_with fail;refine(KT.out _).mono ?_;rintro e x2 ⟨rfl,rfl⟩;clear KT;go_wp2_with fail;go_roundw
         case rel=>exact⟨k+1,y,by omega,by go_num,rfl,HF.out,T1.out⟩
         case measure=>simp[intOf];omega
    · have hkk:k=n:=by omega
      have HF:Hid (ans=true):=η (by
       rw[HL.out,List.drop_eq_nil_of_le (by rw[←HN.out];omega)];rfl)
      clear HL H2;go_wp2;go_ret;exact⟨ret_bool HF.out.symm,HT.out⟩
theorem row_tl {w:World} {ao:Option Addr} {n c:Nat} {K:List (Int×Value)} (hn:n=K.length) (h:w.ownsRow 0 61 2 (.slice ao n c) K.length (vcells K)):Tl 2 pairC w ao c K:=by
 subst hn;exact Tl.of_own (n:=2) (f:=pairC) (B:=0) (e:=61) (fun _=>rfl) h
theorem with_calls {w:World} {v:Value} {K:List (Int×Value)} (h:w.ownsRow 0 61 2 v K.length (vcells K)) (hr:Rising Prod.fst K) (hfew:K.length≤2000) (hO:Ones K) (y:Int) (vb:Bool):
 Calls Tryz.prog 232 #[v,.agg #[.int .i64 y,.bool vb],tidF] w fun e w'=>
  ∃v',e=.returned v'∧w'.ownsRow 0 61 2 v' (K.length+1) (vcells (insV K (posK Prod.fst y K) (y,.bool vb)))∧(v'.ownBlock=v.ownBlock∨∃q,v'.ownBlock=some q∧w.heap.size≤q)∧Turn v.ownBlock.toList w w':=by
 obtain⟨ao,c,rfl,hle,hmx,-⟩:=pairs_at h;have hpm:=posK_le Prod.fst y K;obtain⟨m,hm⟩:=ε (posK Prod.fst y K);have C0:=η (tid_calls y (.bool vb));have EN:=tid_enter;have C1:=fun wx (t:Turn [] w wx)=>place_calls (K:=K) (row_tl rfl (ownsRow_turn h t)) hr (by omega) y
 obtain⟨kb,hkb⟩:=ε (keyB Prod.fst K y);rw[←hm]at hpm ⊢;rw[←hm,←hkb]at C1;have C1:=η C1;have H:=η h;obtain⟨ob,hob⟩:=ε ((Value.slice ao K.length c).ownBlock);have HOB:=η hob
 have HLT:Hid (∀k,ob=some k→k<w.heap.size):=η (fun k hk=>by
  rcases h.2 with⟨e,_⟩ | ⟨g,cap,cur,e,_,hg,_⟩
  · rw[hob,e]at hk;simp[Value.ownBlock]at hk
  · rw[hob,e]at hk;have:g=k:=by simpa[Value.ownBlock]using hk
    rw[←this]
    exact lt_of_heap hg)
 have IC:Hid (∀wx,Turn [] w wx→Calls Tryz.prog 253 #[.slice ao K.length c,.int .i64 (m:Int),.slice (some ⟨wx.heap.size,0,none⟩) 1 1] (wx.alloc (.cells #[.int .i64 y,.bool vb] 61)) fun e w'=>
  ∃v',e=.returned v'∧w'.ownsRow 0 61 2 v' (K.length+1) (vcells (insV K m (y,.bool vb)))∧(v'.ownBlock=ob∨v'.ownBlock=some (wx.heap.size+1))∧Turn ob.toList (wx.alloc (.cells #[.int .i64 y,.bool vb] 61)) w'):=η (fun wx t=>by
  have:=insert_calls (i:=m) (ownsRow_turn h (t.trans (Turn.alloc [] wx (.cells #[.int .i64 y,.bool vb] 61)))) hfew hpm (y,.bool vb) rfl hO (heap_alloc_new wx _) (fun e=>by
   have:=HLT.out _ (HOB.out.trans e);have:=t.size
   omega)
  rw[←hob,show(wx.alloc (.cells #[.int .i64 y,.bool vb] 61)).heap.size=wx.heap.size+1 by simp]at this
  exact this)
 rw[←hob];have TO:Hid (∀wx w' o,Turn [] w wx→Turn ob.toList (wx.alloc o) w'→Turn ob.toList w w'):=η (fun wx w' o t1 t2=>((t1.mono (by simp)).trans (Turn.alloc _ wx o) (fun i hi=>.inl hi)).trans t2 (fun i hi=>.inl hi));obtain⟨n,hn⟩:=ε K.length;rw[←hn]at C1 IC ⊢
 have B0:Hid (∀wx,Turn [] (w.alloc (.cells #[.int .i64 y,.bool vb] 61)) wx→wx.cell? ⟨w.heap.size,0,none⟩=some (.int .i64 y)∧wx.cell? ⟨w.heap.size,1,none⟩=some (.bool vb)):=η (fun wx t=>by
  have:=t.heap (heap_alloc_new w _)
  refine⟨?_,?_⟩<;>rw[cell_of_row _ _ _ _ _ _ this]<;>rfl)
 have T0:=η (Turn.alloc [] w (.cells #[.int .i64 y,.bool vb] 61));unfold tidF at*;clear h hr hfew hO hm hkb hob hn hle hmx hpm H HOB HLT;go_in;go_wp2_with fail;refine(C0.out _).mono ?_;rintro e x1 ⟨rfl,t1⟩;have U1:=η t1;clear t1 C0;go_wp2_with fail;refine(C1.out _ (T0.out.trans U1.out)).mono ?_;rintro e x2 ⟨rfl,t2⟩;have U2:=η (U1.out.trans t2);have V2:=η (T0.out.trans U2.out);clear t2 C1;obtain⟨q0,q1⟩:=B0.out _ U2.out;go_wp2_with fail;refine(IC.out _ V2.out).mono ?_;rintro e x3 ⟨v',rfl,r3,b3,t3⟩;have R3:=η r3
 have B3:Hid (v'.ownBlock=ob∨∃q,v'.ownBlock=some q∧w.heap.size≤q):=η (by
  rcases b3 with b | b
  · exact .inl b
  · exact .inr ⟨_,b,by have:=V2.out.size;omega⟩)
 have T3:=η (TO.out _ _ _ V2.out t3);clear r3 b3 t3 IC q0 q1;go_wp2_with fail;go_ret;exact⟨v',rfl,R3.out,B3.out,T3.out⟩
end Go.Proofs.YtkjpjfghklgdhaaGreat.VE
