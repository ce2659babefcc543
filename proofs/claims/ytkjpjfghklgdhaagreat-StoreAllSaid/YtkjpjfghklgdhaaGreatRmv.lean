/-
  Rmv
-/
import Derived.Test.YtkjpjfghklgdhaaGreatRsd
namespace Go.Proofs.YtkjpjfghklgdhaaGreat
def chk {α:Type} (key:α→Int) (f:Nat→α→Bool) (l:List α) (j:Nat):Bool:=
 match l[j]? with
 | none=>true
 | some p=>f j p&&(match j with
  | 0=>true
  | i+1=>match l[i]? with
   | none=>true
   | some q=>decide (key q<key p))
def chkAll {α:Type} (key:α→Int) (f:Nat→α→Bool) (l:List α):Bool:=(List.range l.length).all (chk key f l)
theorem chkAll_true {α:Type} {key:α→Int} {f:Nat→α→Bool} {l:List α} {n:Nat} (hn:n=l.length) (h:∀j,j<n→chk key f l j=true):chkAll key f l=true:=by
 unfold chkAll;rw[List.all_eq_true];intro j hj;exact h j (by rw[hn];exact List.mem_range.1 hj)
theorem chkAll_false {α:Type} {key:α→Int} {f:Nat→α→Bool} {l:List α} {j:Nat} (hj:j<l.length) (h:chk key f l j=false):chkAll key f l=false:=by
 rw[Bool.eq_false_iff];intro e;unfold chkAll at e;rw[List.all_eq_true]at e;rw[e j (List.mem_range.2 hj)]at h;cases h
theorem chk_next {α:Type} {key:α→Int} {f:Nat→α→Bool} {l:List α} {k:Nat} (h:chk key f l k=true) (hl:∀j,j<k→chk key f l j=true):∀j,j<k+1→chk key f l j=true:=fun j hj=>by
 by_cases e:j=k
 · rw[e];exact h
 · exact hl j (by omega)
theorem chk_zero {α:Type} {key:α→Int} {f:Nat→α→Bool} {l:List α} {p:α} (hp:l[0]?=some p):chk key f l 0=f 0 p:=by
 unfold chk;rw[hp];exact Bool.and_true _
theorem chk_succ {α:Type} {key:α→Int} {f:Nat→α→Bool} {l:List α} {k:Nat} {p q:α} (hp:l[k+1]?=some p) (hq:l[k]?=some q):chk key f l (k+1)=(f (k+1) p&&decide (key q<key p)):=by
 unfold chk;rw[hp];dsimp only;rw[hq]
theorem chkAll_iff {α:Type} {key:α→Int} {f:Nat→α→Bool} {l:List α}:chkAll key f l=true↔(∀j x,l[j]?=some x→f j x=true)∧Rising key l:=by
 unfold chkAll;rw[List.all_eq_true];constructor
 · intro h;have h':∀j,j<l.length→chk key f l j=true:=fun j hj=>h j (List.mem_range.2 hj)
   refine⟨fun j x hx=>?_,?_⟩
   · have hj:=(List.getElem?_eq_some_iff.1 hx).1;have:=h' j hj;unfold chk at this;rw[hx]at this;dsimp only at this;rw[Bool.and_eq_true]at this;exact this.1
   · have adj:∀i,∀hi:i+1<l.length,key (l[i]'(by omega))<key l[i+1]:=fun i hi=>by
      have:=h' (i+1) hi;rw[chk_succ (p:=l[i+1]) (q:=l[i]'(by omega)) (List.getElem?_eq_getElem hi) (List.getElem?_eq_getElem (by omega)),Bool.and_eq_true,decide_eq_true_eq]at this;exact this.2
     refine List.pairwise_iff_getElem.2 (fun i j hi hj hij=>?_)
     induction j with
     | zero=>omega
     | succ j ih=>
      by_cases e:i=j
      · subst e;exact adj i hj
      · have h1:=ih (by omega) (by omega);have h2:=adj j hj;omega
 · rintro⟨h1,h2⟩ j hj;have hj:=List.mem_range.1 hj;have hx:l[j]?=some l[j]:=List.getElem?_eq_getElem hj;cases j with
   | zero=>rw[chk_zero hx];exact h1 0 _ hx
   | succ i=>
    have hq:l[i]?=some (l[i]'(by omega)):=List.getElem?_eq_getElem (by omega);rw[chk_succ hx hq,h1 _ _ hx,decide_eq_true (List.pairwise_iff_getElem.1 h2 i (i+1) (by omega) hj (by omega))];rfl
theorem rising_same {α:Type} {key:α→Int} {l:List α} (h:Rising key l) {x y:α} (hx:x∈l) (hy:y∈l) (e:key x=key y):x=y:=by
 obtain⟨i,hi,rfl⟩:=List.getElem_of_mem hx;obtain⟨j,hj,rfl⟩:=List.getElem_of_mem hy;have hp:=List.pairwise_iff_getElem.1 h;rcases Nat.lt_trichotomy i j with q | q | q
 · have:=hp i j hi hj q;omega
 · subst q;rfl
 · have:=hp j i hj hi q;omega
def msF (s:StV) (j:Nat) (m:MsgV):Bool:=decide (1≤m.seq∧m.seq<s.nextSeq)&&(decide (placeI (fun x:MsgV=>decide (x.id=m.id)) s.ms=(j:Int))&&msgOkB s m)
def enF (_:Nat) (e:EndV):Bool:=decide (0<homeZ e.tid)
def waF (s:StV) (_:Nat) (w:BrV):Bool:=decide (0<homeZ w.tid)&&(!keyB EndV.tid s.ends w.tid&&putsB w.puts)
def pdF (s:StV) (_:Nat) (p:PendV):Bool:=decide (homeZ p.tid=s.broker)&&(decide (0<p.parts.length)&&(risingB p.parts&&!decide (s.broker∈p.parts)))
def numR (s:StV):Bool:=brokerB s.broker&&decide (1≤s.nextId∧s.nextId≤4294967296∧1≤s.nextSeq∧s.nextSeq≤1099511627776∧0≤s.tx∧s.tx≤200∧s.ms.length≤72∧s.waits.length≤2000∧s.ends.length≤2000∧s.open_.length≤2000∧s.noes.length≤2000)
def pendsB (s:StV) (l:List PendV):Bool:=chkAll PendV.tid (pdF s) l
def mayRefB (s:StV):Bool:=
 numR s&&(chkAll MsgV.seq (msF s) s.ms&&(chkAll EndV.tid enF s.ends&&(chkAll BrV.tid (waF s) s.waits&&(pendsB s s.open_&&(pendsB s s.noes&&sidesB s)))))
theorem pdF_iff {s:StV} {j:Nat} {p:PendV}:pdF s j p=true↔pendP s.broker p:=by
 unfold pdF pendP;simp only[Bool.and_eq_true,decide_eq_true_eq,Bool.not_eq_true',decide_eq_false_iff_not]
theorem find_end {l:List EndV} (h:Rising EndV.tid l) {t:Int}:(match l.find? (fun e=>decide (e.tid=t))with | some e=>!e.yes | none=>false)=true↔∃e∈l,e.tid=t∧e.yes=false:=by
 cases hf:l.find? (fun e=>decide (e.tid=t))with
 | none=>
  have h0:=List.find?_eq_none.1 hf;constructor
  · intro e;cases e
  · rintro⟨e,he,h1,_⟩;exact absurd (by simpa using h1) (h0 e he)
 | some x=>
  have h1:=List.find?_some hf;have h2:=List.mem_of_find?_eq_some hf;have h1:x.tid=t:=by simpa using h1
  dsimp only;constructor
  · intro e;exact⟨x,h2,h1,by simpa using e⟩
  · rintro⟨e,he,h3,h4⟩;have:=rising_same h h2 he (by rw[h1,h3]);subst this;rw[h4];rfl
theorem mem_at {α:Type} {l:List α} {x:α} (h:x∈l):∃j:Nat,l[j]?=some x:=by
 obtain⟨j,hj,rfl⟩:=List.getElem_of_mem h;exact⟨j,List.getElem?_eq_getElem hj⟩
theorem mayRefB_is (s:StV):mayRefB s=mayB s:=by
 rw[Bool.eq_iff_iff,mayB_iff];unfold mayRefB numR pendsB sidesB;simp only[Bool.and_eq_true,decide_eq_true_eq,chkAll_iff,List.all_eq_true];constructor
 · rintro⟨⟨h0,h1,h2,h3,h4,h5,h6,l1,l2,l3,l4,l5⟩,⟨m1,m2⟩,⟨e1,e2⟩,⟨w1,w2⟩,⟨o1,o2⟩,⟨n1,n2⟩,so,sn⟩;have mm:∀(j:Nat) (m:MsgV),s.ms[j]?=some m→(1≤m.seq∧m.seq<s.nextSeq)∧placeI (fun x:MsgV=>decide (x.id=m.id)) s.ms=(j:Int)∧msgOkB s m=true:=fun j m hj=>by
    have:=m1 j m hj;unfold msF at this;simpa only[Bool.and_eq_true,decide_eq_true_eq]using this
   refine⟨h0,h1,h2,h3,h4,h5,h6,l1,l2,l3,l4,l5,fun m hm=>?_,m2,?_,fun e he=>?_,e2,fun x hx=>?_,w2,fun p hp=>?_,o2,fun p hp=>?_,n2⟩
   · obtain⟨j,hj⟩:=mem_at hm;obtain⟨q1,_,q3⟩:=mm j m hj;exact⟨q1.1,q1.2,msgOkB_iff.1 q3⟩
   · have:=ids_of_place (l:=s.ms) (fun k m hk=>(mm k m hk).2.1);unfold idsB at this;simpa using this
   · obtain⟨j,hj⟩:=mem_at he;have:=e1 j e hj;unfold enF at this;simpa using this
   · obtain⟨j,hj⟩:=mem_at hx;have:=w1 j x hj;unfold waF at this;simpa only[Bool.and_eq_true,decide_eq_true_eq,Bool.not_eq_true']using this
   · obtain⟨j,hj⟩:=mem_at hp;have h1:=so p hp;unfold sideO at h1;simp only[Bool.and_eq_true,Bool.not_eq_true']at h1;exact⟨pdF_iff.1 (o1 j p hj),h1.1,h1.2⟩
   · obtain⟨j,hj⟩:=mem_at hp;have h1:=sn p hp;unfold sideN at h1;exact⟨pdF_iff.1 (n1 j p hj),(find_end e2).1 h1⟩
 · intro h;refine⟨⟨h.broker,h.id1,h.id2,h.seq1,h.seq2,h.tx1,h.tx2,h.lms,h.lwaits,h.lends,h.lopen,h.lnoes⟩,⟨fun j m hj=>?_,h.seqs⟩,⟨fun j e hj=>?_,h.endsR⟩,⟨fun j x hj=>?_,h.waitsR⟩,⟨fun j p hj=>?_,h.openR⟩,⟨fun j p hj=>?_,h.noesR⟩,fun p hp=>?_,fun p hp=>?_⟩
   · obtain⟨q1,q2,q3⟩:=h.ms m (List.mem_of_getElem? hj);unfold msF;simp only[Bool.and_eq_true,decide_eq_true_eq];exact⟨⟨q1,q2⟩,ids_place (by unfold idsB;simpa using h.ids) hj,msgOkB_iff.2 q3⟩
   · unfold enF;simpa using h.ends e (List.mem_of_getElem? hj)
   · unfold waF;simpa only[Bool.and_eq_true,decide_eq_true_eq,Bool.not_eq_true']using h.waits x (List.mem_of_getElem? hj)
   · exact pdF_iff.2 (h.open_ p (List.mem_of_getElem? hj)).1
   · exact pdF_iff.2 (h.noes p (List.mem_of_getElem? hj)).1
   · obtain⟨_,q1,q2⟩:=h.open_ p hp;unfold sideO;rw[q1,q2];rfl
   · unfold sideN;exact(find_end h.endsR).2 (h.noes p hp).2
end Go.Proofs.YtkjpjfghklgdhaaGreat
