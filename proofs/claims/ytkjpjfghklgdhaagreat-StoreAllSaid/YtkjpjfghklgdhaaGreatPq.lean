/-
  Pq
-/
import Derived.Test.YtkjpjfghklgdhaaGreatPkAO
namespace Go.Proofs.YtkjpjfghklgdhaaGreat
open Go
section
variable {P : Program} {md : Region.Mode} {ops : Array Oper} {Q : Exit → Act → World → Prop} {S1 S2 : World → Prop} {late : List Nat}
def Pq (P:Program) (md:Region.Mode) (ops:Array Oper) (Q:Exit→Act→World→Prop) (S1 S2:World→Prop) (late:List Nat):Nat→Array Bool→Act→World→Prop
 | 0,L,a,w=>Region.ready md ops L=[]∧Q .normal a w
 | k+1,L,a,w=>(Region.ready md ops L=[]→Q .normal a w)∧∀j,j∈Region.ready md ops L→wpOp P ops Q j (fun b x=>(S1 x∧(j∈late∨(S2 w→S2 x)))∧Pq P md ops Q S1 S2 late k (L.setIfInBounds j true) b x) a w
theorem Pq.any:∀(k:Nat) (L:Array Bool) (a:Act) (w:World),Pq P md ops Q S1 S2 late k L a w→wpAny P md ops Q k L a w
 | 0,_,_,_,h=>h
 | k+1,_,_,_,h=>⟨h.1,fun j hj=>wpOp_mono (fun b x hb=>Pq.any k _ b x hb.2) (h.2 j hj)⟩
theorem Pq.early {i:Nat} {oi:Oper} {v:Value} {R:World→Prop} (hi:ops[i]?=some oi) (hs:Region.noSelect ops=true) (hR:∀w,R w→S1 w) (hst:∀j,j≠i→(∀L,i∈Region.ready md ops L→j∈Region.ready md ops L→∀w x,R w→S1 x∧(j∈late∨(S2 w→S2 x))→R x))
 (hQ:∀c a w,Q (.panic c) (a.put oi.dst v) w→Q (.panic c) a w):∀(k:Nat) (L:Array Bool) (a:Act) (w:World),
 (∀j oj,ops[j]?=some oj→j≠i→L.getD j true=false→(∀e∈oj.after,Region.binds md e=true→e.on≠i)→oi.apart ops oj=true)→
 i∈Region.ready md ops L→YieldsIf P ops R oi v a→R w→Pq P md ops Q S1 S2 late k (L.setIfInBounds i true) (a.put oi.dst v) w→Pq P md ops Q S1 S2 late (k+1) L a w:=by
 have hsel:=Region.noSelect_spec hs;intro k
 induction k with
 | zero=>
  intro L a w _ hr hy hS H;constructor
  · intro h;rw[h]at hr;cases hr
  · intro j hj;have hji:j=i:=by
     false_or_by_contra
     rename_i hne;have h1:=ready_mono hj hne;rw[H.1]at h1;cases h1
    subst hji;exact hy.wpOp hi hS ⟨⟨hR w hS,.inr id⟩,H⟩
 | succ k ih=>
  intro L a w hfree hr hy hS H;constructor
  · intro h;rw[h]at hr;cases hr
  · intro j hj;by_cases hji:j=i
    · subst hji;exact hy.wpOp hi hS ⟨⟨hR w hS,.inr id⟩,H⟩
    · obtain⟨hun,oj,hoj,hall⟩:=mem_ready.1 hj;have hno:∀e∈oj.after,Region.binds md e=true→e.on≠i:=by
       intro e he hb hei;refine not_both (j:=j) ?_ hr hj;unfold Region.waitsFor;rw[hoj];exact Array.any_eq_true'.2 ⟨e,he,by simp[hb,hei]⟩
      have h2:=wpOp_putIf hoj (hfree j oj hoj hji hun hno) (fun cs b=>hsel i oi cs b hi) (fun cs b=>hsel j oj cs b hoj) hQ hy (H.2 j (ready_mono hj hji));refine wpOp_mono (fun b x hb=>?_) h2;obtain⟨hy2,hS2,hP2⟩:=hb;have hSx:R x:=hst j hji L hr hj w x hS hS2;refine⟨hS2,ih _ b x ?_ (ready_mono hr (Ne.symm hji)) hy2 hSx ?_⟩
      · intro m om hm hmi hmu hmo;refine hfree m om hm hmi ?_ hmo;by_cases hjm:j=m
        · rw[←hjm];exact hun
        · rwa[getD_set_ne true hjm]at hmu
      · rwa[Array.setIfInBounds_comm _ _ hji]
theorem Pq.tq (i:Nat) (d:Option Tmp) {k:Nat} {oi:Oper} {v:Value} {L:Array Bool} {a:Act} {w:World} (hS:S1 w)
 (h:Pq P md ops Q S1 S2 late k (L.setIfInBounds i true) (a.put d v) w) (hi:ops[i]?=some oi:=by rfl) (hy:∀x,S1 x→(execOp a.eval oi).run P x=.ok (.value v) x:=by(intro x hx;(repeat obtain⟨_,hx⟩:=hx);go_simp;try with_reducible rfl)) (hd:oi.dst=d:=by rfl) (hs:Region.noSelect ops=true:=by kernel_rfl) (hf:Region.free md ops L i=true:=by kernel_rfl)
 (hr:(Region.ready md ops L).contains i=true:=by kernel_rfl) (hQ:∀c a w,Q (.panic c) (a.put d v) w→Q (.panic c) a w:=by exact fun _ _ _ h=>h) (hwt:Region.wanted oi (yielded ops a.tmps)=true:=by rfl):Pq P md ops Q S1 S2 late (k+1) L a w:=by
 subst hd;exact Pq.early (R:=S1) hi hs (fun _ h=>h) (fun _ _ _ _ _ _ _ _ h=>h.1) hQ k L a w (Region.free_spec hi hf) (by simpa using hr) (.inl ⟨hwt,hy⟩) hS h
theorem Pq.tq2 (i:Nat) (d:Option Tmp) {k:Nat} {oi:Oper} {v:Value} {L:Array Bool} {a:Act} {w:World} (hS:S1 w) (hT:S2 w)
 (h:Pq P md ops Q S1 S2 late k (L.setIfInBounds i true) (a.put d v) w) (hi:ops[i]?=some oi:=by rfl) (hy:∀x,S2 x→(execOp a.eval oi).run P x=.ok (.value v) x:=by(intro x hx;(repeat obtain⟨_,hx⟩:=hx);go_simp;try with_reducible rfl)) (hd:oi.dst=d:=by rfl) (hs:Region.noSelect ops=true:=by kernel_rfl) (hw:(late.all fun j=>Region.waitsFor md ops j i)=true:=by kernel_rfl) (hf:Region.free md ops L i=true:=by kernel_rfl)
 (hr:(Region.ready md ops L).contains i=true:=by kernel_rfl) (hQ:∀c a w,Q (.panic c) (a.put d v) w→Q (.panic c) a w:=by exact fun _ _ _ h=>h) (hwt:Region.wanted oi (yielded ops a.tmps)=true:=by rfl):Pq P md ops Q S1 S2 late (k+1) L a w:=by
 subst hd;refine Pq.early (R:=fun x=>S1 x∧S2 x) hi hs (fun _ h=>h.1) (fun j hj L hiL hjL w x hr hx=>⟨hx.1,?_⟩) hQ k L a w (Region.free_spec hi hf) (by simpa using hr) (.inl ⟨hwt,fun x hx=>hy x hx.2⟩) ⟨hS,hT⟩ h;rcases hx.2 with h1 | h1
 · exact absurd hjL (not_both (List.all_eq_true.1 hw j h1) hiL)
 · exact h1 hr.2
theorem Pq.one {i k:Nat} {oi:Oper} {L:Array Bool} {a:Act} {w:World} (hr:Region.ready md ops L=[i]) (hi:ops[i]?=some oi)
 (h:∀K:Act→World→Prop,(∀b x,S1 x→(i∈late∨(S2 w→S2 x))→Pq P md ops Q S1 S2 late k (L.setIfInBounds i true) b x→K b x)→if Region.wanted oi (yielded ops a.tmps)=true then Oper.wp P oi a w K Q else K (a.put oi.dst undef) w):
 Pq P md ops Q S1 S2 late (k+1) L a w:=by
 refine⟨fun h0=>(by rw[hr]at h0;cases h0),fun j hj=>?_⟩;rw[hr]at hj;have hji:j=i:=by simpa using hj
 subst hji;exact wpOp_step hi (fun K hK=>h K (fun b x h1 h2 hP=>hK b x ⟨⟨h1,h2⟩,hP⟩))
theorem Pq.done {L:Array Bool} {a:Act} {w:World} (hr:Region.ready md ops L=[]) (h:Q .normal a w):∀k,Pq P md ops Q S1 S2 late k L a w
 | 0=>⟨hr,h⟩
 | _+1=>⟨fun _=>h,fun j hj=>by rw[hr]at hj;cases hj⟩
theorem Pq.start {id:Nat} {a:Act} {w:World} (late:List Nat) (S1 S2:World→Prop) (hm:P.follows .mixedOrders=true)
 (h:Pq P .any ops Q S1 S2 late ops.size (Array.replicate ops.size false) a w.drew):(Code.region id ops true).wp P Q a w:=
 wp_region_any hm (Pq.any _ _ _ _ h)
end
end Go.Proofs.YtkjpjfghklgdhaaGreat
