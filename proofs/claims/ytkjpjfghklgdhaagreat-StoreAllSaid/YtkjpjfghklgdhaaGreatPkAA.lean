/-
  PkAA
-/
import Derived.Test.YtkjpjfghklgdhaaGreatProg
import Derived.WalkSpells
import Derived.WalkLawsBesides
import Derived.Lib.Hide
import Derived.BigQuiet
set_option maxHeartbeats 2000000
set_option maxRecDepth 100000
namespace Go.Proofs.YtkjpjfghklgdhaaGreat
open Go.RowKit
theorem ε {α:Type _} (e:α):∃x,x=e:=⟨_,rfl⟩
theorem η {p:Prop} (h:p):RowKit.Hid p:=h
theorem σa {α:Type _} (l:List α) (i:Nat) (a:α):l.toArray.setIfInBounds i a=(l.set i a).toArray:=List.setIfInBounds_toArray ..
theorem σz {α:Type _} (x:α) (l:List α) (y:α):(x::l).set 0 y=y::l:=rfl
theorem σs {α:Type _} (x:α) (l:List α) (n:Nat) (y:α):(x::l).set (n+1) y=x::l.set n y:=rfl
structure Turn (l:List Nat) (w w':World):Prop where
 os:w'.os=w.os
 tape:w'.tape=w.tape
 output:w'.output=w.output
 size:w.heap.size≤w'.heap.size
 block:∀k,k<w.heap.size→k∉l→w'.heap[k]?=w.heap[k]?
theorem Turn.refl (l:List Nat) (w:World):Turn l w w:=⟨rfl,rfl,rfl,Nat.le_refl _,fun _ _ _=>rfl⟩
theorem Turn.trans {l l':List Nat} {a b c:World} (h:Turn l a b) (k:Turn l' b c) (hl:∀i∈l',i∈l∨a.heap.size≤i:=by simp):Turn l a c:=
 ⟨k.os.trans h.os,k.tape.trans h.tape,k.output.trans h.output,Nat.le_trans h.size k.size,fun i hi hn=>
  (k.block i (Nat.lt_of_lt_of_le hi h.size) (fun hm=>by rcases hl i hm with h1 | h1<;>first | exact hn h1 | omega)).trans (h.block i hi hn)⟩
theorem Turn.mono {l l':List Nat} {a b:World} (h:Turn l a b) (hl:∀i∈l,i∈l'∨a.heap.size≤i):Turn l' a b:=(Turn.refl l' a).trans h hl
theorem Turn.alloc (l:List Nat) (w:World) (o:Obj):Turn l w (w.alloc o):=⟨rfl,rfl,rfl,by simp,fun k hk _=>Below.heap_alloc w o k hk⟩
theorem Turn.drew (l:List Nat) (w:World):Turn l w w.drew:=⟨rfl,rfl,rfl,Nat.le_refl _,fun _ _ _=>rfl⟩
theorem Turn.drewN (l:List Nat) (w:World) (n:Nat):Turn l w (w.drewN n):=⟨rfl,rfl,rfl,Nat.le_refl _,fun _ _ _=>rfl⟩
theorem Turn.setCell {l:List Nat} (w:World) {b i:Nat} (hb:b∈l) (u:Value):Turn l w (w.setCell ⟨b,i,none⟩ u):=
 ⟨rfl,rfl,rfl,by simp[World.setCell],fun k _ hn=>Below.heap_setCell _ _ _ _ (fun e=>hn (by rw[e];exact hb))⟩
theorem Turn.grown {l:List Nat} {w w':World} {row:Option Nat} (h:w.grownBy w' row) (hr:∀k,row=some k→k∈l∨w.heap.size≤k):Turn l w w':=
 ⟨h.os,h.tape,h.output,h.size,fun k hk hn=>h.block k hk (fun e=>by rcases hr k e.symm with h1 | h1<;>first | exact hn h1 | omega)⟩
theorem Turn.of_below {w w':World} (h:Below w.heap.size w w') (l:List Nat):Turn l w w':=⟨h.os,h.tape,h.output,h.size,fun k hk _=>h.block k hk⟩
theorem Turn.below {l:List Nat} {w w':World} {B:Nat} (h:Turn l w w') (hl:∀k∈l,B≤k) (hB:B≤w.heap.size):Below B w w':=
 ⟨h.os,h.tape,h.output,h.size,fun k hk=>h.block k (by omega) (fun hm=>by have:=hl k hm;omega)⟩
theorem Turn.belowAll {w w':World} (h:Turn [] w w'):Below w.heap.size w w':=h.below (by simp) (Nat.le_refl _)
theorem lt_of_heap {w:World} {b:Nat} {o:Obj} (h:w.heap[b]?=some o):b<w.heap.size:=(Array.getElem?_eq_some_iff.1 h).1
theorem Turn.heap {l:List Nat} {w w':World} {b:Nat} {o:Obj} (h:Turn l w w') (hb:w.heap[b]?=some o) (hn:b∉l:=by simp):w'.heap[b]?=some o:=(h.block b (lt_of_heap hb) hn).trans hb
theorem Turn.cell {l:List Nat} {w w':World} {a:Addr} {v:Value} (h:Turn l w w') (hb:w.cell? a=some v) (hn:a.block∉l:=by simp):w'.cell? a=some v:=
 (World.cell?_of_block (h.block _ (World.block_lt_of_cell? _ _ hb) hn)).trans hb
theorem block_set {w:World} {g i:Nat} {cs:Array Value} {t:TypeId} {fr:Nat×Nat} (h:w.heap[g]?=some (.cells cs t fr)) (v:Value):(w.setCell ⟨g,i,none⟩ v).heap[g]?=some (.cells (cs.setIfInBounds i v) t fr):=by
 simp[World.setCell,Array.getElem?_modify,h]
theorem block_other {w:World} {g b i:Nat} (hne:g≠b) (v:Value):(w.setCell ⟨b,i,none⟩ v).heap[g]?=w.heap[g]?:=Below.heap_setCell _ _ _ _ hne
theorem unfrozen_of {w:World} {g i:Nat} {cs:Array Value} {t:TypeId} (h:w.heap[g]?=some (.cells cs t (0,0))):w.frozen? ⟨g,i,none⟩=false:=by
 simp[World.frozen?,h]
theorem ownsRow_turn {l:List Nat} {w w':World} {base:Nat} {e:TypeId} {size:Nat} {v:Value} {n:Nat} {xs:List Value} (h:w.ownsRow base e size v n xs) (ht:Turn l w w') (hn:∀k,v.ownBlock=some k→k∉l:=by simp):w'.ownsRow base e size v n xs:=by
 refine⟨h.1,?_⟩;rcases h.2 with h0 | ⟨g,cap,cur,rfl,hB,hg,rest⟩
 · exact .inl h0
 · exact .inr ⟨g,cap,cur,rfl,hB,ht.heap hg (hn g rfl),rest⟩
theorem ownsRow_base {w:World} {base base':Nat} {e:TypeId} {size:Nat} {v:Value} {n:Nat} {xs:List Value} (h:w.ownsRow base e size v n xs) (hb:∀k,v.ownBlock=some k→base'≤k):w.ownsRow base' e size v n xs:=by
 refine⟨h.1,?_⟩;rcases h.2 with h0 | ⟨g,cap,cur,rfl,hB,rest⟩
 · exact .inl h0
 · exact .inr ⟨g,cap,cur,rfl,hb g rfl,rest⟩
theorem ret_int {k:IntKind} {a b:Int} (h:a=b):Ending.returned (.int k a)=.returned (.int k b):=by rw[h]
theorem ret_bool {a b:Bool} (h:a=b):Ending.returned (.bool a)=.returned (.bool b):=by rw[h]
def okLet (x:UInt8):Bool:=decide (97≤x)&&decide (x≤122)
def queueB (s:ByteArray):Bool:=s.data.toList.all okLet&&(decide (1≤s.size)&&decide (s.size≤8))
theorem let_next {l:List UInt8} {k:Nat} (hk:k<l.length) (h:(l.take k).all okLet=true) (h2:okLet l[k]=true):(l.take (k+1)).all okLet=true:=by
 rw[List.take_succ_eq_append_getElem hk];rw[List.all_append,h];simp[h2]
theorem let_bad {s:ByteArray} {k:Nat} (hk:k<s.data.toList.length) (h2:okLet s.data.toList[k]=false):queueB s=false:=by
 have:s.data.toList.all okLet=false:=by
  rw[List.all_eq_false];exact⟨s.data.toList[k],List.getElem_mem hk,by rw[h2];simp⟩
 unfold queueB;rw[this,Bool.false_and]
theorem okLet_is (x:UInt8) (n:Nat) (h:x.toNat=n):okLet x=decide (97≤n∧n≤122):=by
 subst h;rw[Bool.eq_iff_iff];simp[okLet,UInt8.le_iff_toNat_le]
theorem refQueue_calls (s:ByteArray) (w:World) (hs:s.size≤9223372036854775807):
 Calls Tryz.prog 54 #[.string s] w fun e w'=>e=.returned (.bool (queueB s))∧w=w':=by
 go_in;go_wp2
 go_loop [3] (fun i=>∃k:Nat,k≤s.size∧i=.int .i64 k∧(s.data.toList.take k).all okLet=true) (fun i=>s.size-(intOf i).toNat)
 case atStart=>exact⟨0,by omega,rfl,rfl⟩
 case round=>
  obtain⟨k,hk,rfl,hall⟩:=hrel;have HA:=η hall;clear hall;by_cases hlt:k<s.size
  · have hs':k<s.data.toList.length:=by simpa using hlt
    have hE:s.data.toList[k]=s[k]:=by simp[ByteArray.getElem_eq_getElem_data]
    obtain⟨x,hx⟩:∃x:Nat,x=s[k].toNat:=⟨_,rfl⟩
    have hok:=okLet_is s.data.toList[k] x (by rw[hE,hx]);have HN:=η (fun h=>let_next hs' HA.out h);have HB:=η (fun h=>let_bad hs' h);have HO:=η hok;have HX:=η hx;clear hok hx hE HA;rcases(by omega:x<97∨(97≤x∧x≤122)∨122<x)with h | h | h
    · have hf:=HB.out (by rw[HO.out];simp;omega);have HF:=η hf;have a1:(s[k].toNat:Int)<97:=by rw[←HX.out];omega
      clear hf;go_wp2;go_ret;exact⟨ret_bool (a:=false) HF.out.symm,rfl⟩
    · have a1:(97:Int)≤(s[k].toNat:Int):=by rw[←HX.out];omega
      have a2:(s[k].toNat:Int)≤122:=by rw[←HX.out];omega
      go_wp2
      all_goals
       go_round
       case rel=>exact⟨k+1,by omega,by go_num,HN.out (by rw[HO.out];simp;omega)⟩
       case measure=>simp[intOf];omega
    · have hf:=HB.out (by rw[HO.out];simp;omega);have HF:=η hf;have a1:(122:Int)<(s[k].toNat:Int):=by rw[←HX.out];omega
      have a4:(97:Int)≤(s[k].toNat:Int):=by rw[←HX.out];omega
      clear hf;go_wp2;go_ret;exact⟨ret_bool (a:=false) HF.out.symm,rfl⟩
  · have hkk:k=s.size:=by omega
    have hall:s.data.toList.all okLet=true:=by have:=HA.out;rwa[hkk,List.take_of_length_le (by simp)]at this
    have hok:queueB s=(decide (1≤s.size)&&decide (s.size≤8)):=by simp[queueB,hall]
    have HO:=η hok;clear hall hok HA hkk;by_cases h1:1≤s.size
    · go_wp2;go_ret;exact⟨ret_bool (by rw[HO.out,Bool.eq_iff_iff];simp;omega),rfl⟩
    · have h0:s.size<1:=by omega
      go_wp2;go_ret;exact⟨ret_bool (by rw[HO.out,Bool.eq_iff_iff];simp;omega),rfl⟩
def bodyB (s:ByteArray):Bool:=decide (s.size≤60)
theorem refBody_calls (s:ByteArray) (w:World):Calls Tryz.prog 55 #[.string s] w fun e w'=>e=.returned (.bool (bodyB s))∧w=w':=by
 go_in;go_wp2;go_ret;exact⟨ret_bool (by unfold bodyB;rw[Bool.eq_iff_iff];simp;try omega),rfl⟩
def brokerB (n:Int):Bool:=decide (1≤n∧n≤8)
theorem refBroker_calls (n:Int) (w:World):Calls Tryz.prog 52 #[.int .i64 n] w fun e w'=>e=.returned (.bool (brokerB n))∧w=w':=by
 by_cases h1:1≤n
 · by_cases h2:n≤8
   · have hb:brokerB n=true:=decide_eq_true ⟨h1,h2⟩;rw[hb];go_in;go_wp2;go_ret;exact⟨ret_bool (by simp),rfl⟩
   · have hb:brokerB n=false:=decide_eq_false (fun h=>h2 h.2);rw[hb];go_in;go_wp2;go_ret;exact⟨ret_bool (by simp;try omega),rfl⟩
 · have hb:brokerB n=false:=decide_eq_false (fun h=>h1 h.1);rw[hb];go_in;go_wp2;go_ret;exact⟨ret_bool (by simp;try omega),rfl⟩
def homeZ (t:Int):Int:=if 0≤t∧1≤t / 4294967296∧t / 4294967296≤8∧t%4294967296≠0 then t / 4294967296 else 0
theorem homeZ_range (t:Int):homeZ t=0∨(1≤homeZ t∧homeZ t≤8):=by
 unfold homeZ;split<;>omega
theorem homeZ_is {t b:Int} (h1:1≤b) (h8:b≤8):homeZ t=b↔(b*4294967296<t∧t<b*4294967296+4294967296):=by
 unfold homeZ;split<;>omega
theorem refHome_calls (t:Int) (w:World):Calls Tryz.prog 53 #[.int .i64 t] w fun e w'=>e=.returned (.int .i64 (homeZ t))∧w=w':=by
 obtain⟨h,hh⟩:=ε (homeZ t);have HR:=homeZ_range t;have HI:=η (fun b h1 h8=>homeZ_is (t:=t) (b:=b) h1 h8);rw[←hh]at HR HI ⊢;clear hh;go_in;go_wp2
 go_loop [3] (fun i=>∃k:Nat,1≤k∧k≤9∧i=.int .i64 k∧(h=0∨(k:Int)≤h)) (fun i=>9-(intOf i).toNat)
 case atStart=>exact⟨1,by omega,by omega,rfl,by omega⟩
 case round=>
  obtain⟨k,hk1,hk9,rfl,hkh⟩:=hrel;by_cases hk8:(k:Int)≤8
  · have hi:=HI.out (k:Int) (by omega) hk8;have hm:IntKind.i64.wrap ((k:Int)*4294967296)=(k:Int)*4294967296:=by rw[IntKind.wrap_i64];omega
    have hm2:IntKind.i64.wrap ((k:Int)*4294967296+4294967296)=(k:Int)*4294967296+4294967296:=by rw[IntKind.wrap_i64];omega
    by_cases h1:(k:Int)*4294967296<t
    · by_cases h2:t<(k:Int)*4294967296+4294967296
      · have hz:h=(k:Int):=hi.2 ⟨h1,h2⟩;have HZ:=η hz;clear hi hz hkh HR;go_wp2;go_ret;exact⟨ret_int HZ.out.symm,rfl⟩
      · have hz:h≠(k:Int):=fun e=>h2 (hi.1 e).2
        have HZ:Hid (h=0∨((k+1:Nat):Int)≤h):=η (by omega);clear hi hz hkh HR;go_wp2
        go_round
        case rel=>exact⟨k+1,by omega,by omega,by go_num,HZ.out⟩
        case measure=>simp[intOf];omega
    · have hz:h≠(k:Int):=fun e=>h1 (hi.1 e).1
      have HZ:Hid (h=0∨((k+1:Nat):Int)≤h):=η (by omega);clear hi hz hkh HR;go_wp2
      go_round
      case rel=>exact⟨k+1,by omega,by omega,by go_num,HZ.out⟩
      case measure=>simp[intOf];omega
  · have hz:0=h:=by omega
    have HZ:=η hz;clear hz hkh HR;go_wp2;go_ret;exact⟨ret_int HZ.out,rfl⟩
theorem refTid_calls (t:Int) (w:World):Calls Tryz.prog 56 #[.int .i64 t] w fun e w'=>e=.returned (.bool (decide (0<homeZ t)))∧w=w':=by
 have C:=η (refHome_calls t w);obtain⟨h,hh⟩:=ε (homeZ t);rw[←hh]at C ⊢;clear hh;go_in;go_wp2_with fail;refine C.out.mono ?_;rintro e w1 ⟨rfl,rfl⟩;clear C;go_wp2;go_ret;exact⟨rfl,rfl⟩
def makeZ (b n:Int):Int:=if brokerB b=true∧1≤n∧n<4294967296 then b*4294967296+n else 0
def Il (w:World) (ao:Option Addr) (c:Nat) (l:List Int):Prop:=
 (ao=none∧c=0∧l=[])∨
 ∃A:Addr,ao=some A∧l.length≤c∧c≤maxLen∧(∀i,i<l.length→w.cell? (A.add i)=some (.int .i64 (l.getD i 0)))∧∀n∈l,-9223372036854775808≤n∧n≤9223372036854775807
theorem Il.at {w:World} {ao:Option Addr} {c:Nat} {l:List Int} (h:Il w ao c l) (hl:l≠[]):∃b off,ao=some ⟨b,off,none⟩∧b<w.heap.size∧∀i,i<l.length→w.cell? ⟨b,off+i,none⟩=some (.int .i64 (l.getD i 0)):=by
 rcases h with⟨_,_,h⟩ | ⟨A,rfl,_,_,hc,_⟩
 · exact absurd h hl
 · obtain⟨b,off,spot⟩:=A;have h0:=hc 0 (List.length_pos_iff.2 hl);have hs:spot=none:=by simpa[Addr.add]using World.cell?_spot h0
   subst hs;have hc':∀i,i<l.length→w.cell? ⟨b,off+i,none⟩=some (.int .i64 (l.getD i 0)):=fun i hi=>by rw[←Addr.add_lit];exact hc i hi
   exact⟨b,off,rfl,World.block_lt_of_cell? _ _ (hc' 0 (List.length_pos_iff.2 hl)),hc'⟩
theorem Il.len {w:World} {ao:Option Addr} {c:Nat} {l:List Int} (h:Il w ao c l):(l.length:Int)≤9223372036854775807:=by
 rcases h with⟨_,_,rfl⟩ | ⟨A,_,q1,q2,_⟩
 · simp
 · unfold maxLen at q2;omega
def putB (p:ByteArray×ByteArray):Bool:=queueB p.1&&bodyB p.2
theorem refPut_calls (q b:ByteArray) (w:World) (hs:q.size≤9223372036854775807):Calls Tryz.prog 126 #[.agg #[.string q,.string b]] w fun e w'=>e=.returned (.bool (putB (q,b)))∧Turn [] w w':=by
 have C:=η (fun w=>refQueue_calls q w hs);have C2:=η (fun w=>refBody_calls b w);have HP:Hid (putB (q,b)=(queueB q&&bodyB b)):=η rfl;obtain⟨x,hx⟩:=ε (queueB q);obtain⟨y,hy⟩:=ε (bodyB b);rw[←hx]at C HP;rw[←hy]at C2 HP;rw[HP.out];clear hx hy HP;cases x with
 | true=>
  go_in;go_wp2_with fail;refine(C.out _).mono ?_;rintro e w1 ⟨rfl,rfl⟩;go_wp2_with fail;refine(C2.out _).mono ?_;rintro e w1 ⟨rfl,rfl⟩;go_wp2;go_ret;exact⟨ret_bool (by simp),Turn.alloc [] w _⟩
 | false=>
  go_in;go_wp2_with fail;refine(C.out _).mono ?_;rintro e w1 ⟨rfl,rfl⟩;go_wp2;go_ret;exact⟨ret_bool (by simp),Turn.alloc [] w _⟩
def putNone:ByteArray×ByteArray:=(⟨#[]⟩,⟨#[]⟩)
def Ps (w:World) (ao:Option Addr) (c:Nat) (l:List (ByteArray×ByteArray)):Prop:=
 (ao=none∧c=0∧l=[])∨
 ∃A:Addr,ao=some A∧l.length≤c∧c≤maxLen∧∀i,i<l.length→w.cell? (A.add (i*2))=some (.string (l.getD i putNone).1)∧w.cell? ((A.add (i*2)).add 1)=some (.string (l.getD i putNone).2)∧(l.getD i putNone).1.size≤9223372036854775807∧(l.getD i putNone).2.size≤9223372036854775807
theorem Ps.at {w:World} {ao:Option Addr} {c:Nat} {l:List (ByteArray×ByteArray)} (h:Ps w ao c l) (hl:l≠[]):∃b off,ao=some ⟨b,off,none⟩∧b<w.heap.size∧∀i,i<l.length→
 w.cell? ⟨b,off+i*2,none⟩=some (.string (l.getD i putNone).1)∧w.cell? ⟨b,off+i*2+1,none⟩=some (.string (l.getD i putNone).2)∧(l.getD i putNone).1.size≤9223372036854775807∧(l.getD i putNone).2.size≤9223372036854775807:=by
 rcases h with⟨_,_,h⟩ | ⟨A,rfl,_,_,hc⟩
 · exact absurd h hl
 · obtain⟨b,off,spot⟩:=A;have h0:=(hc 0 (List.length_pos_iff.2 hl)).1;have hs:spot=none:=by simpa[Addr.add]using World.cell?_spot h0
   subst hs;have hc':∀i,i<l.length→w.cell? ⟨b,off+i*2,none⟩=some (.string (l.getD i putNone).1)∧w.cell? ⟨b,off+i*2+1,none⟩=some (.string (l.getD i putNone).2)∧(l.getD i putNone).1.size≤9223372036854775807∧(l.getD i putNone).2.size≤9223372036854775807:=fun i hi=>by
    have:=hc i hi;simp only[Addr.add_lit]at this;exact this
   exact⟨b,off,rfl,World.block_lt_of_cell? _ _ (hc' 0 (List.length_pos_iff.2 hl)).1,hc'⟩
theorem Ps.len {w:World} {ao:Option Addr} {c:Nat} {l:List (ByteArray×ByteArray)} (h:Ps w ao c l):(l.length:Int)≤9223372036854775807:=by
 rcases h with⟨_,_,rfl⟩ | ⟨A,_,q1,q2,_⟩
 · simp
 · unfold maxLen at q2;omega
theorem Ps.turn {w w':World} {ao:Option Addr} {c:Nat} {l:List (ByteArray×ByteArray)} (h:Ps w ao c l) (t:Turn [] w w'):Ps w' ao c l:=by
 rcases h with h | ⟨A,h1,h2,h3,h4⟩
 · exact .inl h
 · exact .inr ⟨A,h1,h2,h3,fun i hi=>⟨t.cell (h4 i hi).1,t.cell (h4 i hi).2.1,(h4 i hi).2.2⟩⟩
def putsB (l:List (ByteArray×ByteArray)):Bool:=l.all putB&&decide (l.length≤10)
theorem puts_next {l:List (ByteArray×ByteArray)} {k:Nat} (hk:k<l.length) (h:(l.take k).all putB=true) (h2:putB (l.getD k putNone)=true):(l.take (k+1)).all putB=true:=by
 have e:l.getD k putNone=l[k]:=by simp[List.getD,hk]
 rw[e]at h2;rw[List.take_succ_eq_append_getElem hk,List.all_append,h];simp[h2]
theorem puts_bad {l:List (ByteArray×ByteArray)} {k:Nat} (hk:k<l.length) (h2:putB (l.getD k putNone)=false):putsB l=false:=by
 have e:l.getD k putNone=l[k]:=by simp[List.getD,hk]
 rw[e]at h2;have:l.all putB=false:=by
  rw[List.all_eq_false];exact⟨l[k],List.getElem_mem hk,by rw[h2];simp⟩
 unfold putsB;rw[this,Bool.false_and]
theorem refPuts_calls {w:World} {ao:Option Addr} {c:Nat} {l:List (ByteArray×ByteArray)} (h:Ps w ao c l):Calls Tryz.prog 58 #[.slice ao l.length c] w fun e w'=>e=.returned (.bool (putsB l))∧Turn [] w w':=by
 have hlen:=h.len;have H:=η h;obtain⟨n,hn⟩:=ε l.length;have HN:=η hn;rw[←hn]at hlen ⊢;clear h hn;go_in;go_wp2_with fail;go_loopw [3] (fun vi wx=>∃k:Nat,k≤n∧vi=.int .i64 (k:Int)∧(l.take k).all putB=true∧Turn [] w wx) (fun vi _=>n-(intOf vi).toNat)
 case atStart=>exact⟨0,by omega,rfl,rfl,Turn.refl _ _⟩
 case round=>
  obtain⟨k,hk,rfl,hall,ht⟩:=hrel;have HA:=η hall;have T:=η ht;clear hall ht;by_cases hkn:k<n
  · have hkl:k<l.length:=by rw[←HN.out];exact hkn
    obtain⟨b,off,rfl,-,hat⟩:=(H.out.turn T.out).at (by intro e;rw[e]at hkl;simp at hkl);obtain⟨h0,h1,hs0,-⟩:=hat k hkl;have C:=η (fun w=>refPut_calls (l.getD k putNone).1 (l.getD k putNone).2 w hs0);have HB:=η (fun h=>puts_bad hkl h);have HX:=η (fun h=>puts_next hkl HA.out h);obtain⟨q,hq⟩:=ε ((l.getD k putNone).1);obtain⟨y,hy⟩:=ε ((l.getD k putNone).2);have hqy:l.getD k putNone=(q,y):=by rw[hq,hy]
    rw[←hq]at h0 C;rw[←hy]at h1 C;rw[hqy]at HB HX;have hb:0≤(k:Int)∧(k:Int)<(n:Int):=by omega
    clear hat hq hy hqy hs0;obtain⟨r,hr⟩:=ε (putB (q,y));rw[←hr]at C HB HX;clear hr;cases r with
    | true=>
     go_wp2_with fail;refine(C.out _).mono ?_;rintro e w1 ⟨rfl,t1⟩;have T1:=η (T.out.trans t1);clear t1 C;go_wp2;go_roundw
     case rel=>exact⟨k+1,by omega,by go_num,HX.out trivial,T1.out⟩
     case measure=>simp[intOf];omega
    | false=>
     go_wp2_with fail;refine(C.out _).mono ?_;rintro e w1 ⟨rfl,t1⟩;have T1:=η (T.out.trans t1);clear t1 C;go_wp2;go_ret;exact⟨ret_bool (HB.out trivial).symm,T1.out⟩
  · have hkk:k=n:=by omega
    have hall:l.all putB=true:=by have:=HA.out;rwa[hkk,HN.out,List.take_length]at this
    have HO:Hid (putsB l=decide (n≤10)):=η (by unfold putsB;rw[hall,Bool.true_and,HN.out]);clear hall HA hkk;go_wp2;go_ret;exact⟨ret_bool (by rw[HO.out,Bool.eq_iff_iff];simp;try omega),T.out⟩
def risingB (l:List Int):Bool:=decide (∀i,i<l.length→brokerB (l.getD i 0)=true∧(0<i→l.getD (i-1) 0<l.getD i 0))&&decide (l.length≤7)
theorem rising_bad {l:List Int} {k:Nat} (hk:k<l.length) (h:¬(brokerB (l.getD k 0)=true∧(0<k→l.getD (k-1) 0<l.getD k 0))):risingB l=false:=by
 unfold risingB;rw[decide_eq_false (fun h1=>h (h1 k hk)),Bool.false_and]
theorem rising_end {l:List Int} (h:∀i,i<l.length→brokerB (l.getD i 0)=true∧(0<i→l.getD (i-1) 0<l.getD i 0)):risingB l=decide (l.length≤7):=by
 unfold risingB;rw[decide_eq_true h,Bool.true_and]
theorem refRising_calls {w:World} {ao:Option Addr} {c:Nat} {l:List Int} (h:Il w ao c l):Calls Tryz.prog 86 #[.slice ao l.length c] w fun e w'=>e=.returned (.bool (risingB l))∧∃d,w'=w.drewN d:=by
 have hlen:=h.len;have H:=η h;obtain⟨n,hn⟩:=ε l.length;have HN:=η hn;rw[←hn]at hlen ⊢;clear h hn;go_in;go_wp2_with fail;go_loopw [3] (fun vi wx=>∃k:Nat,k≤n∧vi=.int .i64 (k:Int)∧(∀i,i<k→brokerB (l.getD i 0)=true∧(0<i→l.getD (i-1) 0<l.getD i 0))∧∃d,wx=w.drewN d) (fun vi _=>n-(intOf vi).toNat)
 case atStart=>exact⟨0,by omega,rfl,fun i hi=>by omega,0,rfl⟩
 case round=>
  obtain⟨k,hk,rfl,hall,d,rfl⟩:=hrel;have HA:=η hall;clear hall;by_cases hkn:k<n
  · have hkl:k<l.length:=by rw[←HN.out];exact hkn
    obtain⟨b,off,rfl,-,hat⟩:=H.out.at (by intro e;rw[e]at hkl;simp at hkl);have h0:=hat k hkl;have C:=η (fun w=>refBroker_calls (l.getD k 0) w);have hb:0≤(k:Int)∧(k:Int)<(n:Int):=by omega
    have HB:=η (fun h=>rising_bad hkl h)
    have HX:Hid (brokerB (l.getD k 0)=true∧(0<k→l.getD (k-1) 0<l.getD k 0)→∀i,i<k+1→brokerB (l.getD i 0)=true∧(0<i→l.getD (i-1) 0<l.getD i 0)):=η (fun hq i hi=>by
     by_cases e:i=k
     · rw[e];exact hq
     · exact HA.out i (by omega))
    obtain⟨y,hy⟩:=ε (l.getD k 0);rw[←hy]at h0 C HB HX;by_cases hr:brokerB y=true
    · rw[hr]at C;rcases k with _ | k
      · have HX2:=η (HX.out ⟨hr,fun h=>by omega⟩);rw[Nat.add_zero]at h0;clear hr hat hy HB HX HA;go_wp2_with fail;go_quiet ((go_at_call 52;exact(C.out _).mono fun _ _ h=>⟨h.1,_,h.2.symm⟩));go_wp2;go_roundw
        case rel=>exact⟨0+1,by omega,by go_num,HX2.out,_,rfl⟩
        case measure=>simp[intOf];omega
      · have h1:=hat k (by omega);obtain⟨z,hz⟩:=ε (l.getD k 0);rw[←hz]at h1;have hkb:((k:Int)+1).toNat=k+1:=by omega
        have hkw:IntKind.i64.wrap (k:Int)=(k:Int):=by rw[IntKind.wrap_i64];omega
        have hk2:0≤(k:Int)+1∧(k:Int)+1<(n:Int):=by omega
        have hk3:0≤(k:Int)∧(k:Int)<(n:Int):=by omega
        have hk4:(0:Int)<(k:Int)+1:=by omega
        by_cases hzy:z<y
        · have HX2:=η (HX.out ⟨hr,fun _=>by rw[Nat.add_sub_cancel,←hz];exact hzy⟩);have hnl:¬y≤z:=by omega
          clear hr hat hy hz HB HX HA;go_wp2_with fail;go_quiet ((go_at_call 52;exact(C.out _).mono fun _ _ h=>⟨h.1,_,h.2.symm⟩));go_wp2;go_roundw
          case rel=>exact⟨(k+1)+1,by omega,by go_num,HX2.out,_,rfl⟩
          case measure=>simp[intOf];omega
        · have HB2:=η (HB.out (fun h=>hzy (by have:=h.2 (by omega);rwa[Nat.add_sub_cancel,←hz]at this)));have hnl:y≤z:=by omega
          clear hr hat hy hz HB HX HA;go_wp2_with fail;go_quiet ((go_at_call 52;exact(C.out _).mono fun _ _ h=>⟨h.1,_,h.2.symm⟩));go_wp2;go_ret;exact⟨ret_bool HB2.out.symm,_,World.drewN_drewN _ _ _⟩
    · have hrf:brokerB y=false:=by simpa using hr
      rw[hrf]at C;have HB2:=η (HB.out (fun h=>hr h.1));clear hr hrf hat hy HB HX HA;go_wp2_with fail;go_quiet ((go_at_call 52;exact(C.out _).mono fun _ _ h=>⟨h.1,_,h.2.symm⟩));go_wp2;go_ret;exact⟨ret_bool HB2.out.symm,_,World.drewN_drewN _ _ _⟩
  · have hkk:k=n:=by omega
    have HO:Hid (risingB l=decide (n≤7)):=η (by rw[rising_end (by rw[←HN.out,←hkk];exact HA.out),HN.out]);clear HA hkk;go_wp2;go_ret;exact⟨ret_bool (by rw[HO.out,Bool.eq_iff_iff];simp;try omega),_,rfl⟩
theorem kindQueue_calls (s:ByteArray) (w:World):
 Calls Tryz.prog 174 #[.string s] w fun e w'=>e=.returned (.bool (queueB s))∧Turn [] w w':=by
 by_cases hs1:s.size<1
 · have HQ:Hid (queueB s=false):=η (by unfold queueB;rw[decide_eq_false (by omega:¬1≤s.size),Bool.false_and,Bool.and_false]);go_in;go_wp2
   all_goals go_ret
   all_goals exact⟨ret_bool HQ.out.symm,Turn.refl _ _⟩
 by_cases hs8:8<s.size
 · have HQ:Hid (queueB s=false):=η (by unfold queueB;rw[decide_eq_false (by omega:¬s.size≤8),Bool.and_false,Bool.and_false]);go_in;go_wp2
   all_goals go_ret
   all_goals exact⟨ret_bool HQ.out.symm,Turn.refl _ _⟩
 have HQ:Hid (queueB s=s.data.toList.all okLet):=η (by unfold queueB;rw[decide_eq_true (by omega:1≤s.size),decide_eq_true (by omega:s.size≤8),Bool.and_self,Bool.and_true]);go_in;go_wp2;go_loopw [] (fun w'=>∃k:Nat,k≤s.size∧w'=w.iter s k∧(s.data.toList.take k).all okLet=true) (fun w'=>s.size-w'.iterPos w.heap.size)
 case atStart=>exact⟨0,by omega,rfl,rfl⟩
 case round=>
  obtain⟨k,hk,rfl,hall⟩:=hrel;have HA:=η hall;clear hall;by_cases hlt:k<s.size
  · have hs':k<s.data.toList.length:=by simpa using hlt
    have hE:s.data.toList[k]=s[k]:=by simp[ByteArray.getElem_eq_getElem_data]
    by_cases ha:(s[k]'hlt).toNat<128
    · have hnx:∀ty,(Instr.next (.pointer (some ⟨w.heap.size,0,none⟩)) true ty).run Tryz.prog (w.iter s k)=_:=fun ty=>run_next_ascii w s k ty hlt ha
      obtain⟨x,hx⟩:∃x:Nat,x=s[k].toNat:=⟨_,rfl⟩
      have hok:=okLet_is s.data.toList[k] x (by rw[hE,hx]);have HN:=η (fun h=>let_next hs' HA.out h);have HB:=η (fun h=>let_bad hs' h);have HO:=η hok;rw[←hx]at hnx ha;clear hok hE HA;have HX:=η hx;clear hx;rcases(by omega:x<97∨(97≤x∧x≤122)∨122<x)with h | h | h
      · have HF:=η (HB.out (by rw[HO.out];simp;omega));go_wp2
        all_goals go_ret
        all_goals exact⟨ret_bool (a:=false) HF.out.symm,Turn.alloc [] w _⟩
      · have HF:=η (HN.out (by rw[HO.out];simp;omega));go_wp2
        all_goals
         go_roundw
         case rel=>exact⟨k+1,by omega,rfl,HF.out⟩
         case measure=>simp;omega
      · have HF:=η (HB.out (by rw[HO.out];simp;omega));go_wp2
        all_goals go_ret
        all_goals exact⟨ret_bool (a:=false) HF.out.symm,Turn.alloc [] w _⟩
    · have hnx:∀ty,(Instr.next (.pointer (some ⟨w.heap.size,0,none⟩)) true ty).run Tryz.prog (w.iter s k)=_:=fun ty=>run_next_any w s k ty hlt
      have hd:=(decode_high s k hlt (by omega)).1;have hf:okLet s.data.toList[k]=false:=by rw[okLet_is _ _ rfl,hE];simp;omega
      have HF:=η (let_bad hs' hf);clear hf hE ha;generalize (Utf8.decode s k).1=x at*;generalize (Utf8.decode s k).2=y at*;go_wp2
      all_goals go_ret
      all_goals exact⟨ret_bool (a:=false) HF.out.symm,Turn.alloc [] w _⟩
  · have hnx:∀ty,(Instr.next (.pointer (some ⟨w.heap.size,0,none⟩)) true ty).run Tryz.prog (w.iter s k)=_:=fun ty=>run_next_end w s k ty hlt
    have hkk:k=s.size:=by omega
    have hall:s.data.toList.all okLet=true:=by have:=HA.out;rwa[hkk,List.take_of_length_le (by simp)]at this
    have HF:=η (HQ.out.trans hall);clear hall HA hkk;go_wp2;go_ret;exact⟨ret_bool HF.out.symm,Turn.alloc [] w _⟩
theorem kindBody_calls (s:ByteArray) (w:World):Calls Tryz.prog 175 #[.string s] w fun e w'=>e=.returned (.bool (bodyB s))∧w=w':=by
 go_in;go_wp2;go_ret;exact⟨ret_bool (by unfold bodyB;rw[Bool.eq_iff_iff];simp;try omega),rfl⟩
theorem kindBroker_calls (n:Int) (w:World):Calls Tryz.prog 70 #[.int .i64 n] w fun e w'=>e=.returned (.bool (brokerB n))∧w=w':=by
 by_cases h1:1≤n
 · by_cases h2:n≤8
   · have hb:brokerB n=true:=decide_eq_true ⟨h1,h2⟩;rw[hb];go_in;go_wp2;go_ret;exact⟨ret_bool (by simp),rfl⟩
   · have hb:brokerB n=false:=decide_eq_false (fun h=>h2 h.2);rw[hb];go_in;go_wp2;go_ret;exact⟨ret_bool (by simp;try omega),rfl⟩
 · have hb:brokerB n=false:=decide_eq_false (fun h=>h1 h.1);rw[hb];go_in;go_wp2;go_ret;exact⟨ret_bool (by simp;try omega),rfl⟩
theorem kindMake_calls (b n:Int) (w:World):Calls Tryz.prog 137 #[.int .i64 b,.int .i64 n] w fun e w'=>e=.returned (.int .i64 (makeZ b n))∧w=w':=by
 have C:=η (kindBroker_calls b w);by_cases hb:brokerB b=true
 · rw[hb]at C;have hb2:=of_decide_eq_true hb;by_cases h1:n<1
   · have HM:Hid (makeZ b n=0):=η (by unfold makeZ;rw[if_neg (by omega)]);clear hb;go_in;go_wp2_with fail;refine C.out.mono ?_;rintro e w1 ⟨rfl,rfl⟩;clear C;go_wp2;go_ret;exact⟨ret_int HM.out.symm,rfl⟩
   · by_cases h2:4294967296≤n
     · have HM:Hid (makeZ b n=0):=η (by unfold makeZ;rw[if_neg (by omega)]);clear hb;go_in;go_wp2_with fail;refine C.out.mono ?_;rintro e w1 ⟨rfl,rfl⟩;clear C;go_wp2;go_ret;exact⟨ret_int HM.out.symm,rfl⟩
     · have HM:Hid (makeZ b n=b*4294967296+n):=η (by unfold makeZ;rw[if_pos ⟨hb,by omega,by omega⟩]);have hm:IntKind.i64.wrap (b*4294967296)=b*4294967296:=by rw[IntKind.wrap_i64];omega
       have hm2:IntKind.i64.wrap (b*4294967296+n)=b*4294967296+n:=by rw[IntKind.wrap_i64];omega
       clear hb;go_in;go_wp2_with fail;refine C.out.mono ?_;rintro e w1 ⟨rfl,rfl⟩;clear C;go_wp2;go_ret;exact⟨ret_int HM.out.symm,rfl⟩
 · have hbf:brokerB b=false:=by simpa using hb
   rw[hbf]at C;have HM:Hid (makeZ b n=0):=η (by unfold makeZ;rw[if_neg (fun h=>hb h.1)]);clear hb hbf;go_in;go_wp2_with fail;refine C.out.mono ?_;rintro e w1 ⟨rfl,rfl⟩;clear C;go_wp2;go_ret;exact⟨ret_int HM.out.symm,rfl⟩
theorem home_make (t:Int):homeZ t=if makeZ (t.tdiv 4294967296) (t.tmod 4294967296)=t then t.tdiv 4294967296 else 0:=by
 by_cases h:0≤t
 · rw[Int.tdiv_eq_ediv_of_nonneg h,Int.tmod_eq_emod_of_nonneg h];unfold homeZ makeZ brokerB;simp only[decide_eq_true_eq]
   repeat' split
   all_goals omega
 · obtain⟨s,rfl⟩:∃s,t=-s:=⟨-t,by omega⟩
   have hs:0<s:=by omega
   have hm:makeZ ((-s).tdiv 4294967296) ((-s).tmod 4294967296)=0:=by
    rw[Int.neg_tdiv,Int.neg_tmod,Int.tdiv_eq_ediv_of_nonneg (by omega),Int.tmod_eq_emod_of_nonneg (by omega)];unfold makeZ;rw[if_neg (by omega)]
   rw[hm,if_neg (by omega)];unfold homeZ;rw[if_neg (by omega)]
theorem tdiv_wrap (t:Int) (ht:-9223372036854775808≤t∧t≤9223372036854775807):IntKind.i64.wrap (t.tdiv 4294967296)=t.tdiv 4294967296:=by
 have h:-2147483648≤t.tdiv 4294967296∧t.tdiv 4294967296≤2147483648:=by
  by_cases h:0≤t
  · rw[Int.tdiv_eq_ediv_of_nonneg h];omega
  · obtain⟨s,rfl⟩:∃s,t=-s:=⟨-t,by omega⟩
    rw[Int.neg_tdiv,Int.tdiv_eq_ediv_of_nonneg (by omega)];omega
 rw[IntKind.wrap_i64];omega
theorem kindHome_calls (t:Int) (w:World) (ht:-9223372036854775808≤t∧t≤9223372036854775807):Calls Tryz.prog 176 #[.int .i64 t] w fun e w'=>e=.returned (.int .i64 (homeZ t))∧w=w':=by
 have H:=home_make t;have hw:=tdiv_wrap t ht;clear ht;have C:=η (kindMake_calls (t.tdiv 4294967296) (t.tmod 4294967296) w);obtain⟨m,hm⟩:=ε (makeZ (t.tdiv 4294967296) (t.tmod 4294967296));rw[←hm]at C H;obtain⟨z,hz⟩:=ε (homeZ t);rw[←hz]at H ⊢;clear hm hz;by_cases hmt:m=t
 · rw[if_pos hmt]at H;rw[hmt]at C;obtain⟨d,hd⟩:=ε (t.tdiv 4294967296);have HZ:Hid (d=z):=η (hd.trans H.symm);have HD:=η hd;clear H hmt hd;go_in;go_wp2_with fail;refine C.out.mono ?_;rintro e w1 ⟨rfl,rfl⟩;go_wp2;go_ret;exact⟨ret_int (HD.out.symm.trans HZ.out),rfl⟩
 · rw[if_neg hmt]at H;have HZ:=η H;have f1:(m != t)=true:=by simpa using hmt
   clear H hmt;go_in;go_wp2_with fail;refine C.out.mono ?_;rintro e w1 ⟨rfl,rfl⟩;go_wp2;go_ret;exact⟨ret_int HZ.out.symm,rfl⟩
theorem tid_bool (t:Int):decide (0<homeZ t)=(homeZ t != 0):=by
 have:=homeZ_range t;rw[Bool.eq_iff_iff];simp;omega
theorem kindTid_calls (t:Int) (w:World) (ht:-9223372036854775808≤t∧t≤9223372036854775807):Calls Tryz.prog 131 #[.int .i64 t] w fun e w'=>e=.returned (.bool (decide (0<homeZ t)))∧w=w':=by
 have C:=η (kindHome_calls t w ht);rw[tid_bool];obtain⟨h,hh⟩:=ε (homeZ t);rw[←hh]at C ⊢;clear hh;go_in;go_wp2_with fail;refine C.out.mono ?_;rintro e w1 ⟨rfl,rfl⟩;clear C;go_wp2;go_ret;exact⟨rfl,rfl⟩
theorem kindPut_calls (q b:ByteArray) (w:World):Calls Tryz.prog 184 #[.agg #[.string q,.string b]] w fun e w'=>e=.returned (.bool (putB (q,b)))∧Turn [] w w':=by
 have C:=η (fun w=>kindQueue_calls q w);have C2:=η (fun w=>kindBody_calls b w);have HP:Hid (putB (q,b)=(queueB q&&bodyB b)):=η rfl;obtain⟨x,hx⟩:=ε (queueB q);obtain⟨y,hy⟩:=ε (bodyB b);rw[←hx]at C HP;rw[←hy]at C2 HP;rw[HP.out];clear hx hy HP;have T0:=η (Turn.alloc [] w (.cells #[.string q,.string b] 45));have H1:(w.alloc (.cells #[.string q,.string b] 45)).cell? ⟨w.heap.size,1,none⟩=some (.string b):=by
  rw[cell_of_row _ _ _ _ _ _ (heap_alloc_new w _)];rfl
 have HH:=η H1;clear H1;cases x with
 | true=>
  go_in;go_wp2_with fail;refine(C.out _).mono ?_;rintro e w1 ⟨rfl,t1⟩;have T1:=η (T0.out.trans t1);have h1:=t1.cell HH.out;clear t1;go_wp2_with fail;refine(C2.out _).mono ?_;rintro e w1 ⟨rfl,rfl⟩;go_wp2;go_ret;exact⟨ret_bool (by simp),T1.out⟩
 | false=>
  go_in;go_wp2_with fail;refine(C.out _).mono ?_;rintro e w1 ⟨rfl,t1⟩;have T1:=η (T0.out.trans t1);clear t1;go_wp2;go_ret;exact⟨ret_bool (by simp),T1.out⟩
end Go.Proofs.YtkjpjfghklgdhaaGreat
