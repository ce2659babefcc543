/-
  Lx
-/
import Derived.Test.YtkjpjfghklgdhaaGreatTw
set_option maxRecDepth 100000
namespace Go.Proofs.YtkjpjfghklgdhaaGreat
open Go Go.RowKit
def regionOps (n:Nat):Code→Option (List Oper)
 | .region id ops _=>if id==n then some ops.toList else none
 | .seq a b=>match regionOps n a with
  | some l=>some l
  | none=>regionOps n b
 | .cond _ a b=>match regionOps n a with
  | some l=>some l
  | none=>regionOps n b
 | .block _ c=>regionOps n c
 | .loop c=>regionOps n c
 | .scope c=>regionOps n c
 | _=>none
noncomputable def ops7:List Oper:=(Tryz.f19.body.bind (regionOps 7)).getD []
def regionOf (n:Nat):Code→Option Code
 | .region id ops d=>if id==n then some (.region id ops d)else none
 | .seq a b=>match regionOf n a with
  | some l=>some l
  | none=>regionOf n b
 | .cond _ a b=>match regionOf n a with
  | some l=>some l
  | none=>regionOf n b
 | .block _ c=>regionOf n c
 | .loop c=>regionOf n c
 | .scope c=>regionOf n c
 | _=>none
noncomputable def reg7:Code:=(Tryz.f19.body.bind (regionOf 7)).getD .skip
def lexSeg (md:Region.Mode) (ops:Array Oper):Nat→Nat→Array Bool→Bool
 | 0,_,_=>true
 | m+1,k,L=>(Region.ready md ops L).contains k&&Region.free md ops L k&&lexSeg md ops m (k+1) (L.setIfInBounds k true)
def setN (L:Array Bool) (k:Nat):Nat→Array Bool
 | 0=>L
 | m+1=>setN (L.setIfInBounds k true) (k+1) m
theorem setN_add (L:Array Bool) (k a m:Nat):setN L k (a+m)=setN (setN L k a) (k+a) m:=by
 induction a generalizing L k with
 | zero=>rw[Nat.zero_add];rfl
 | succ a ih=>
  rw[show a+1+m=(a+m)+1 by omega,show k+(a+1)=(k+1)+a by omega];exact ih _ _
theorem lex_seg {md:Region.Mode} {ops:Array Oper}:∀(m r k:Nat) (L:Array Bool),lexSeg md ops m k L=true→Region.lexFrom md ops r (k+m) (setN L k m)=true→Region.lexFrom md ops (m+r) k L=true
 | 0,r,k,L,_,h2=>by rw[Nat.zero_add];exact h2
 | m+1,r,k,L,h1,h2=>by
  rw[show m+1+r=(m+r)+1 by omega];unfold lexSeg at h1;simp only[Bool.and_eq_true]at h1;unfold Region.lexFrom;simp only[Bool.and_eq_true];exact⟨h1.1,lex_seg m r (k+1) _ h1.2 (by rw[show k+1+m=k+(m+1) by omega];exact h2)⟩
def lat (n a:Nat):Array Bool:=setN (Array.replicate n false) 0 a
theorem lex_on {md:Region.Mode} {ops:Array Oper} {n a m r:Nat} (h1:lexSeg md ops m a (lat n a)=true) (h2:Region.lexFrom md ops r (a+m) (lat n (a+m))=true):Region.lexFrom md ops (m+r) a (lat n a)=true:=
 lex_seg m r a _ h1 (by
  have:setN (lat n a) a m=lat n (a+m):=by
   unfold lat;rw[setN_add,Nat.zero_add]
  rw[this]
  exact h2)
theorem lex7_0:lexSeg .any ops7.toArray 8 0 (lat 93 0)=true:=by kernel_rfl
theorem lex7_8:lexSeg .any ops7.toArray 8 8 (lat 93 8)=true:=by kernel_rfl
theorem lex7_16:lexSeg .any ops7.toArray 8 16 (lat 93 16)=true:=by kernel_rfl
theorem lex7_24:lexSeg .any ops7.toArray 8 24 (lat 93 24)=true:=by kernel_rfl
theorem lex7_32:lexSeg .any ops7.toArray 8 32 (lat 93 32)=true:=by kernel_rfl
theorem lex7_40:lexSeg .any ops7.toArray 8 40 (lat 93 40)=true:=by kernel_rfl
theorem lex7_48:lexSeg .any ops7.toArray 8 48 (lat 93 48)=true:=by kernel_rfl
theorem lex7_56:lexSeg .any ops7.toArray 8 56 (lat 93 56)=true:=by kernel_rfl
theorem lex7_64:lexSeg .any ops7.toArray 8 64 (lat 93 64)=true:=by kernel_rfl
theorem lex7_72:lexSeg .any ops7.toArray 8 72 (lat 93 72)=true:=by kernel_rfl
theorem lex7_80:lexSeg .any ops7.toArray 8 80 (lat 93 80)=true:=by kernel_rfl
theorem lex7_88:lexSeg .any ops7.toArray 5 88 (lat 93 88)=true:=by kernel_rfl
theorem lex7_end:Region.lexFrom .any ops7.toArray 0 93 (lat 93 93)=true:=by kernel_rfl
theorem lex7_no:Region.noSelect ops7.toArray=true:=by kernel_rfl
theorem lex7_size:ops7.toArray.size=93:=by kernel_rfl
theorem lex7:Region.lexB .any ops7.toArray=true:=by
 unfold Region.lexB;rw[lex7_no,lex7_size,Bool.true_and];have h:=lex7_end;have h:Region.lexFrom .any ops7.toArray 5 88 (lat 93 88)=true:=lex_on (m:=5) (r:=0) lex7_88 h;have h:Region.lexFrom .any ops7.toArray 13 80 (lat 93 80)=true:=lex_on (m:=8) (r:=5) lex7_80 h;have h:Region.lexFrom .any ops7.toArray 21 72 (lat 93 72)=true:=lex_on (m:=8) (r:=13) lex7_72 h;have h:Region.lexFrom .any ops7.toArray 29 64 (lat 93 64)=true:=lex_on (m:=8) (r:=21) lex7_64 h;have h:Region.lexFrom .any ops7.toArray 37 56 (lat 93 56)=true:=lex_on (m:=8) (r:=29) lex7_56 h;have h:Region.lexFrom .any ops7.toArray 45 48 (lat 93 48)=true:=lex_on (m:=8) (r:=37) lex7_48 h;have h:Region.lexFrom .any ops7.toArray 53 40 (lat 93 40)=true:=lex_on (m:=8) (r:=45) lex7_40 h;have h:Region.lexFrom .any ops7.toArray 61 32 (lat 93 32)=true:=lex_on (m:=8) (r:=53) lex7_32 h;have h:Region.lexFrom .any ops7.toArray 69 24 (lat 93 24)=true:=lex_on (m:=8) (r:=61) lex7_24 h;have h:Region.lexFrom .any ops7.toArray 77 16 (lat 93 16)=true:=lex_on (m:=8) (r:=69) lex7_16 h;have h:Region.lexFrom .any ops7.toArray 85 8 (lat 93 8)=true:=lex_on (m:=8) (r:=77) lex7_8 h;have h:Region.lexFrom .any ops7.toArray 93 0 (lat 93 0)=true:=lex_on (m:=8) (r:=85) lex7_0 h;exact h
theorem lex7_of {l:List Oper} (h:ops7=l):Region.lexB .any l.toArray=true:=by
 rw[←h];exact lex7
end Go.Proofs.YtkjpjfghklgdhaaGreat
