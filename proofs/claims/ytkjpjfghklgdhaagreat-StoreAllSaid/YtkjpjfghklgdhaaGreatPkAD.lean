/-
  PkAD
-/
import Derived.Test.YtkjpjfghklgdhaaGreatPkAC
set_option maxHeartbeats 1000000
namespace Go.Proofs.YtkjpjfghklgdhaaGreat
open Go.RowKit
def leN:List UInt8→Nat
 | []=>0
 | b::l=>b.toNat+256*leN l
theorem leN_snoc:∀(l:List UInt8) (b:UInt8),leN (l++[b])=leN l+256^l.length*b.toNat
 | [],b=>by simp[leN]
 | a::l,b=>by
  simp only[List.cons_append,leN,leN_snoc l b,List.length_cons,Nat.pow_succ];rw[Nat.mul_add,Nat.mul_comm (256^l.length) 256,Nat.mul_assoc];omega
theorem leN_lt:∀(l:List UInt8),leN l<256^l.length
 | []=>by simp[leN]
 | a::l=>by
  have h:=leN_lt l;have ha:=a.toNat_lt;simp only[leN,List.length_cons,Nat.pow_succ];omega
theorem pow_256 (k:Nat):256^k=2^(8*k):=by rw[Nat.pow_mul]
theorem leN_step {l:List UInt8} {k:Nat} (hk:k<l.length) (h8:k<8):
 bits .or .u64 ((leN (l.take k):Nat):Int) (IntKind.u64.wrap (IntKind.u64.wrap ((l[k].toNat:Nat):Int)*2^(8*k)))=((leN (l.take (k+1)):Nat):Int):=by
 have hb:l[k].toNat<256:=by have:=l[k].toNat_lt;omega
 have h1:=leN_lt (l.take k);rw[List.length_take,Nat.min_eq_left (by omega),pow_256]at h1;have hp:2^(8*k)*256≤2^64:=by
  rw[show(256:Nat)=2^8 from rfl,←Nat.pow_add];exact Nat.pow_le_pow_right (by omega) (by omega)
 have hm:2^(8*k)*l[k].toNat<18446744073709551616:=by
  have:2^(8*k)*l[k].toNat≤2^(8*k)*255:=Nat.mul_le_mul_left _ (by omega);omega
 have e1:IntKind.u64.wrap (IntKind.u64.wrap ((l[k].toNat:Nat):Int)*2^(8*k))=((2^(8*k)*l[k].toNat:Nat):Int):=by
  have e0:IntKind.u64.wrap ((l[k].toNat:Nat):Int)=((l[k].toNat:Nat):Int):=by rw[IntKind.wrap_u64];omega
  have e2:((l[k].toNat:Nat):Int)*2^(8*k)=((2^(8*k)*l[k].toNat:Nat):Int):=by
   rw[Int.natCast_mul,Int.natCast_pow,Int.mul_comm];rfl
  rw[e0,e2,IntKind.wrap_u64];omega
 rw[e1,u64_or_nat _ _ (by omega) hm,Nat.or_comm,nat_join (8*k) _ _ (by simp) h1];rw[List.take_succ_eq_append_getElem hk,leN_snoc,List.length_take,Nat.min_eq_left (by omega),pow_256];rw[Nat.add_comm]
theorem number_calls (s:ByteArray) (w:World) (hs:s.size≤8):
 Calls Tryz.prog 161 #[.string s] w fun e w'=>e=.returned (.int .u64 (leN s.data.toList:Nat))∧w=w':=by
 go_in;go_wp2
 go_loop [3,7] (fun v i=>∃k:Nat,k≤s.size∧i=.int .i64 k∧v=.int .u64 (leN (s.data.toList.take k):Nat)) (fun _ i=>s.size-(intOf i).toNat)
 case atStart=>exact⟨0,by omega,rfl,rfl⟩
 case round=>
  obtain⟨k,hk,rfl,rfl⟩:=hrel;by_cases hlt:k<s.size
  · have hs':k<s.data.toList.length:=by simpa using hlt
    have HS:=η (leN_step hs' (by omega));have hE:=η (show s.data.toList[k]=s[k] by simp[ByteArray.getElem_eq_getElem_data]);generalize leN (s.data.toList.take k)=t at HS;go_wp2
    go_round
    case rel=>exact⟨k+1,by omega,by go_num,by rw[←HS.out,hE.out]⟩
    case measure=>simp[intOf];omega
  · generalize ht:leN (s.data.toList.take k)=t;have HT:=η ht;clear ht;go_wp2;go_ret;exact⟨ret_int (by rw[←HT.out,List.take_of_length_le (by simp;omega)]),rfl⟩
def InIs (w:World) (b:Nat) (l:List UInt8) (bad:Bool):Prop:=
 w.cell? ⟨b,0,none⟩=some (.string ⟨l.toArray⟩)∧w.cell? ⟨b,1,none⟩=some (.bool bad)∧w.frozen? ⟨b,0,none⟩=false∧w.frozen? ⟨b,1,none⟩=false∧l.length≤9223372036854775807∧(bad=true→l=[])
theorem left_calls (b:Nat) (l:List UInt8) (bad:Bool) (w:World) (h:InIs w b l bad):
 Calls Tryz.prog 167 #[.pointer (some ⟨b,0,none⟩)] w fun e w'=>e=.returned (.int .i64 (l.length:Nat))∧w=w':=by
 obtain⟨h0,h1,f0,f1,hl,hb⟩:=h;clear hb;go_in;go_wp2;go_ret;exact⟨rfl,rfl⟩
theorem bad_calls (b:Nat) (l:List UInt8) (bad:Bool) (w:World) (h:InIs w b l bad):
 Calls Tryz.prog 163 #[.pointer (some ⟨b,0,none⟩)] w fun e w'=>e=.returned (.bool bad)∧w=w':=by
 obtain⟨h0,h1,f0,f1,hl,hb⟩:=h;clear hb;go_in;go_wp2;go_ret;exact⟨rfl,rfl⟩
theorem setCell_kept (w:World) (b i:Nat) (v:Value):w.grownBy (w.setCell ⟨b,i,none⟩ v) (some b):=
 ⟨rfl,rfl,rfl,by simp[World.setCell],fun k _ hk=>Below.heap_setCell _ _ _ _ (by intro e;exact hk (by rw[e]))⟩
theorem grown_trans {a b c:World} {r:Option Nat} (h:a.grownBy b r) (k:b.grownBy c r):a.grownBy c r:=
 ⟨k.os.trans h.os,k.tape.trans h.tape,k.output.trans h.output,Nat.le_trans h.size k.size,fun i hi hr=>(k.block i (Nat.lt_of_lt_of_le hi h.size) hr).trans (h.block i hi hr)⟩
theorem InIs.lt {w:World} {b:Nat} {l:List UInt8} {bad:Bool} (h:InIs w b l bad):b<w.heap.size:=World.block_lt_of_cell? _ _ h.1
theorem InIs.same {w w':World} {b:Nat} {l:List UInt8} {bad:Bool} (h:InIs w b l bad) (hb:w'.heap[b]?=w.heap[b]?):InIs w' b l bad:=by
 obtain⟨h0,h1,f0,f1,hl⟩:=h
 exact⟨(World.cell?_of_block (a:=⟨b,0,none⟩) hb).trans h0,(World.cell?_of_block (a:=⟨b,1,none⟩) hb).trans h1,
  (World.frozen?_of_block (a:=⟨b,0,none⟩) hb).trans f0,(World.frozen?_of_block (a:=⟨b,1,none⟩) hb).trans f1,hl⟩
theorem InIs.set {w:World} {b:Nat} {l:List UInt8} {bad:Bool} (h:InIs w b l bad) (l':List UInt8) (hl:l'.length≤9223372036854775807) (hb:bad=true→l'=[]):InIs (w.setCell ⟨b,0,none⟩ (.string ⟨l'.toArray⟩)) b l' bad:=by
 obtain⟨h0,h1,f0,f1,_⟩:=h;exact⟨World.cell?_setCell_same _ _ _ h0,by rw[World.cell?_setCell_other _ _ _ _ (by simp)];exact h1,by rw[World.frozen?_setCell];exact f0,by rw[World.frozen?_setCell];exact f1,hl,hb⟩
theorem InIs.spoilt {w:World} {b:Nat} {l:List UInt8} {bad:Bool} (h:InIs w b l bad):InIs ((w.setCell ⟨b,0,none⟩ (.string ⟨#[]⟩)).setCell ⟨b,1,none⟩ (.bool true)) b [] true:=by
 obtain⟨h0,h1,f0,f1,_⟩:=h;have g0:(w.setCell ⟨b,0,none⟩ (.string ⟨#[]⟩)).cell? ⟨b,1,none⟩=some (.bool bad):=by rw[World.cell?_setCell_other _ _ _ _ (by simp)];exact h1
 refine⟨?_,World.cell?_setCell_same _ _ _ g0,by rw[World.frozen?_setCell,World.frozen?_setCell];exact f0,by rw[World.frozen?_setCell,World.frozen?_setCell];exact f1,by simp,fun _=>rfl⟩;rw[World.cell?_setCell_other _ _ _ _ (by simp)];exact World.cell?_setCell_same _ _ _ h0
theorem spoil_calls (b:Nat) (l:List UInt8) (bad:Bool) (w:World) (h:InIs w b l bad):
 Calls Tryz.prog 222 #[.pointer (some ⟨b,0,none⟩)] w fun e w'=>e=.returned (.tuple #[])∧InIs w' b [] true∧w.grownBy w' (some b):=by
 have hsp:=h.spoilt;have hg:w.grownBy ((w.setCell ⟨b,0,none⟩ (.string ⟨#[]⟩)).setCell ⟨b,1,none⟩ (.bool true)) (some b):=grown_trans (setCell_kept _ _ _ _) (setCell_kept _ _ _ _);have HS:=η hsp;have HG:=η hg;obtain⟨h0,h1,f0,f1,hl,hb⟩:=h;clear hb hsp hg;go_in;go_wp2;go_end0;exact⟨rfl,HS.out,HG.out⟩
theorem take_ext (l:List UInt8) (n:Nat):(⟨l.toArray⟩:ByteArray).extract 0 n=⟨(l.take n).toArray⟩:=by rw[ByteArray.extract_mk];simp
theorem drop_ext (l:List UInt8) (n:Nat):(⟨l.toArray⟩:ByteArray).extract n l.length=⟨(l.drop n).toArray⟩:=by
 rw[ByteArray.extract_mk,List.take_of_length_le (by simp)]
def canTake (l:List UInt8) (bad:Bool) (n:Nat):Bool:=!bad&&decide (n≤l.length)
def taken (l:List UInt8) (bad:Bool) (n:Nat):List UInt8:=if canTake l bad n=true then l.take n else []
def after (l:List UInt8) (bad:Bool) (n:Nat):List UInt8:=if canTake l bad n=true then l.drop n else []
theorem take_calls (b n:Nat) (l:List UInt8) (bad:Bool) (w:World) (h:InIs w b l bad) (hn:n≤65535):
 Calls Tryz.prog 162 #[.pointer (some ⟨b,0,none⟩),.int .i64 (n:Int)] w fun e w'=>e=.returned (.string ⟨(taken l bad n).toArray⟩)∧InIs w' b (after l bad n) (!canTake l bad n)∧w.grownBy w' (some b):=by
 have H:=η h;have hl:=h.2.2.2.2.1;have hbl:=h.2.2.2.2.2;clear h;by_cases hc:canTake l bad n=true
 · have hbad:bad=false:=by simp[canTake]at hc;exact hc.1
   have hle:n≤l.length:=by simp[canTake]at hc;exact hc.2
   subst hbad;have HT:=η (show taken l false n=l.take n by rw[taken,if_pos hc]);have HA:=η (show after l false n=l.drop n by rw[after,if_pos hc]);have HC:=η hc;have HB:=η (H.out.set (l.drop n) (by simp;omega) (by simp));have HG:=η (setCell_kept w b 0 (.string ⟨(l.drop n).toArray⟩));obtain⟨h0,h1,f0,f1,_⟩:=H.out;clear hc hbl;have hle':(n:Int)≤(l.length:Int):=by omega
   go_in;go_wp2_with(first | (go_at_call 167;refine(left_calls b l false _ H.out).mono ?_;rintro e w' ⟨rfl,rfl⟩) | (go_at_call 163;refine(bad_calls b l false _ H.out).mono ?_;rintro e w' ⟨rfl,rfl⟩));go_ret;rw[HT.out,HA.out,HC.out,←take_ext,drop_ext];exact⟨rfl,HB.out,HG.out⟩
 · have HT:=η (show taken l bad n=[] by rw[taken,if_neg hc]);have HA:=η (show after l bad n=[] by rw[after,if_neg hc]);have HC:=η (show canTake l bad n=false by simpa using hc);cases bad with
   | true=>
    obtain rfl:=hbl rfl;by_cases h0:n=0
    · subst h0;clear hc hbl;go_in;go_wp2_with(first | (go_at_call 167;refine(left_calls b [] true _ H.out).mono ?_;rintro e w' ⟨rfl,rfl⟩) | (go_at_call 163;refine(bad_calls b [] true _ H.out).mono ?_;rintro e w' ⟨rfl,rfl⟩));go_ret;rw[HT.out,HA.out,HC.out];exact⟨rfl,H.out,World.grownBy.refl _ _⟩
    · have hpos:(0:Int)<(n:Int):=by omega
      clear hc hbl;go_in;go_wp2_with(first | (go_at_call 167;refine(left_calls b [] true _ H.out).mono ?_;rintro e w' ⟨rfl,rfl⟩));refine(spoil_calls b [] true _ H.out).mono ?_;rintro e w1 ⟨rfl,hin,hg⟩;have H1:=η hin;have G1:=η hg;clear hin hg;go_wp2_with(first | (go_at_call 163;refine(bad_calls b [] true _ H1.out).mono ?_;rintro e w' ⟨rfl,rfl⟩));go_ret;rw[HT.out,HA.out,HC.out];exact⟨rfl,H1.out,G1.out⟩
   | false=>
    have hpos:(l.length:Int)<(n:Int):=by simp[canTake]at hc;omega
    clear hc hbl;go_in;go_wp2_with(first | (go_at_call 167;refine(left_calls b l false _ H.out).mono ?_;rintro e w' ⟨rfl,rfl⟩));refine(spoil_calls b l false _ H.out).mono ?_;rintro e w1 ⟨rfl,hin,hg⟩;have H1:=η hin;have G1:=η hg;clear hin hg;go_wp2_with(first | (go_at_call 163;refine(bad_calls b [] true _ H1.out).mono ?_;rintro e w' ⟨rfl,rfl⟩));go_ret;rw[HT.out,HA.out,HC.out];exact⟨rfl,H1.out,G1.out⟩
theorem taken_len (l:List UInt8) (bad:Bool) (n:Nat):(taken l bad n).length≤n:=by
 unfold taken;split<;>simp
 omega
theorem size_mk (l:List UInt8):(⟨l.toArray⟩:ByteArray).size=l.length:=by simp[ByteArray.size]
theorem number_list (t:List UInt8) (w:World) (h:t.length≤8):
 Calls Tryz.prog 161 #[.string ⟨t.toArray⟩] w fun e w'=>e=.returned (.int .u64 (leN t:Nat))∧w=w':=
 number_calls ⟨t.toArray⟩ w (by rw[size_mk];exact h)
theorem leN_lt' {l:List UInt8} {n:Nat} (h:l.length≤n):leN l<256^n:=Nat.lt_of_lt_of_le (leN_lt l) (Nat.pow_le_pow_right (by omega) h)
theorem small_in (b:Nat) (l:List UInt8) (bad:Bool) (w:World) (h:InIs w b l bad):
 Calls Tryz.prog 93 #[.pointer (some ⟨b,0,none⟩)] w fun e w'=>e=.returned (.int .i64 (leN (taken l bad 2):Nat))∧InIs w' b (after l bad 2) (!canTake l bad 2)∧w.grownBy w' (some b):=by
 have hl:=leN_lt' (taken_len l bad 2);have hsz:=taken_len l bad 2;have C:=η (take_calls b 2 l bad w h (by omega));clear h;generalize taken l bad 2=t at*;have N:=η (fun wx:World=>number_list t wx (by omega));have hw:wrap64 ((leN t:Nat):Int)=((leN t:Nat):Int):=IntWalk.wrap64_in _ ⟨by omega,by omega⟩;generalize leN t=v at*;go_in;go_wp2_with fail;refine C.out.mono ?_;rintro e w1 ⟨rfl,hin,hg⟩;have H1:=η hin;have G1:=η hg;clear hin hg C;go_wp2_with fail;refine(N.out _).mono ?_;rintro e w2 ⟨rfl,rfl⟩;clear N;go_wp2;go_ret;exact⟨rfl,H1.out,G1.out⟩
theorem wrap_i64_u64 (v:Nat) (h:v<18446744073709551616):wrap64 (v:Int)=if v<9223372036854775808 then (v:Int)else (v:Int)-18446744073709551616:=by
 unfold wrap64;split<;>omega
def longN (l:List UInt8):Int:=wrap64 (leN l:Nat)
theorem long_in (b:Nat) (l:List UInt8) (bad:Bool) (w:World) (h:InIs w b l bad):
 Calls Tryz.prog 94 #[.pointer (some ⟨b,0,none⟩)] w fun e w'=>e=.returned (.int .i64 (longN (taken l bad 8)))∧InIs w' b (after l bad 8) (!canTake l bad 8)∧w.grownBy w' (some b):=by
 have hl:=leN_lt' (taken_len l bad 8);have hsz:=taken_len l bad 8;have C:=η (take_calls b 8 l bad w h (by omega));clear h;unfold longN;generalize taken l bad 8=t at*;have N:=η (fun wx:World=>number_list t wx (by omega));generalize leN t=v at*;clear hl;go_in;go_wp2_with fail;refine C.out.mono ?_;rintro e w1 ⟨rfl,hin,hg⟩;have H1:=η hin;have G1:=η hg;clear hin hg C;go_wp2_with fail;refine(N.out _).mono ?_;rintro e w2 ⟨rfl,rfl⟩;clear N;go_wp2;go_ret;exact⟨rfl,H1.out,G1.out⟩
def textT (l:List UInt8) (bad:Bool):List UInt8:=taken (after l bad 2) (!canTake l bad 2) (leN (taken l bad 2))
def textA (l:List UInt8) (bad:Bool):List UInt8:=after (after l bad 2) (!canTake l bad 2) (leN (taken l bad 2))
def textC (l:List UInt8) (bad:Bool):Bool:=canTake (after l bad 2) (!canTake l bad 2) (leN (taken l bad 2))
theorem text_in (b:Nat) (l:List UInt8) (bad:Bool) (w:World) (h:InIs w b l bad):
 Calls Tryz.prog 164 #[.pointer (some ⟨b,0,none⟩)] w fun e w'=>e=.returned (.string ⟨(textT l bad).toArray⟩)∧InIs w' b (textA l bad) (!textC l bad)∧w.grownBy w' (some b):=by
 have hl:=leN_lt' (taken_len l bad 2);have C:=η (small_in b l bad w h);clear h;unfold textT textA textC;generalize after l bad 2=l1 at*;generalize canTake l bad 2=c1 at*;generalize leN (taken l bad 2)=v at*;go_in;go_wp2_with fail;refine C.out.mono ?_;rintro e w1 ⟨rfl,hin,hg⟩;have H1:=η hin;have G1:=η hg;clear hin hg C;go_wp2_with fail;refine(take_calls b v l1 (!c1) _ H1.out (by omega)).mono ?_;rintro e w2 ⟨rfl,hin2,hg2⟩;have H2:=η hin2;have G2:=η (grown_trans G1.out hg2);clear hin2 hg2;go_wp2;go_ret;exact⟨rfl,H2.out,G2.out⟩
def truthV (l:List UInt8) (bad:Bool):Bool:=leN (taken l bad 1)==1
def truthC (l:List UInt8) (bad:Bool):Bool:=canTake l bad 1&&decide (leN (taken l bad 1)≤1)
def truthA (l:List UInt8) (bad:Bool):List UInt8:=if leN (taken l bad 1)≤1 then after l bad 1 else []
theorem truth_in (b:Nat) (l:List UInt8) (bad:Bool) (w:World) (h:InIs w b l bad):
 Calls Tryz.prog 166 #[.pointer (some ⟨b,0,none⟩)] w fun e w'=>e=.returned (.bool (truthV l bad))∧InIs w' b (truthA l bad) (!truthC l bad)∧w.grownBy w' (some b):=by
 have hsz:=taken_len l bad 1;have C:=η (take_calls b 1 l bad w h (by omega));clear h;unfold truthV truthA truthC;generalize after l bad 1=l1 at*;generalize canTake l bad 1=c1 at*;generalize taken l bad 1=t at*;have N:=η (fun wx:World=>number_list t wx (by omega));generalize leN t=v at*;by_cases hv:v≤1
 · have hle:¬(1:Int)<(v:Int):=by omega
   go_in;go_wp2_with fail;refine C.out.mono ?_;rintro e w1 ⟨rfl,hin,hg⟩;have H1:=η hin;have G1:=η hg;clear hin hg C;go_wp2_with fail;refine(N.out _).mono ?_;rintro e w2 ⟨rfl,rfl⟩;clear N;go_wp2;go_ret;exact⟨ret_bool (by rw[Bool.eq_iff_iff];simp;omega),H1.out,G1.out⟩
 · have hlt:(1:Int)<(v:Int):=by omega
   go_in;go_wp2_with fail;refine C.out.mono ?_;rintro e w1 ⟨rfl,hin,hg⟩;have H1:=η hin;have G1:=η hg;clear hin hg C;go_wp2_with fail;refine(N.out _).mono ?_;rintro e w2 ⟨rfl,rfl⟩;clear N;go_wp2_with fail;refine(spoil_calls b l1 (!c1) _ H1.out).mono ?_;rintro e w3 ⟨rfl,hin,hg⟩;have H2:=η hin;have G2:=η (grown_trans G1.out hg);clear hin hg;go_wp2;go_ret;exact⟨ret_bool (by rw[Bool.eq_iff_iff];simp;omega),H2.out,G2.out⟩
theorem end_calls (b:Nat) (l:List UInt8) (bad:Bool) (w:World) (h:InIs w b l bad):
 Calls Tryz.prog 103 #[.pointer (some ⟨b,0,none⟩)] w fun e w'=>e=.returned (.bool (!bad&&decide (l=[])))∧w=w':=by
 have H:=η h;clear h;cases bad with
 | true=>
  go_in;go_wp2_with(first | (go_at_call 163;refine(bad_calls b l true _ H.out).mono ?_;rintro e w' ⟨rfl,rfl⟩));go_ret;exact⟨rfl,rfl⟩
 | false=>
  go_in;go_wp2_with(first | (go_at_call 163;refine(bad_calls b l false _ H.out).mono ?_;rintro e w' ⟨rfl,rfl⟩) | (go_at_call 167;refine(left_calls b l false _ H.out).mono ?_;rintro e w' ⟨rfl,rfl⟩));go_ret;exact⟨ret_bool (by cases l<;>simp;omega),rfl⟩
theorem nil_text (w:World):(convert 52 9 (.slice none 0 0)).run Tryz.prog w=.ok (.string ⟨#[]⟩) w:=by kernel_rfl
theorem read_is (w:World) (l:List UInt8) (hl:l.length≤9223372036854775807):InIs (w.alloc (.cells #[.string ⟨l.toArray⟩,.bool false] 176)) w.heap.size l false:=
 ⟨by rw[World.cell?_alloc_at (hn:=rfl)];rfl,by rw[World.cell?_alloc_at (hn:=rfl)];rfl,by rw[World.frozen?_alloc_at (hn:=rfl)],by rw[World.frozen?_alloc_at (hn:=rfl)],hl,by simp⟩
theorem read_calls (ao:Option Addr) (c:Nat) (l:List UInt8) (w:World) (h:Sl w ao c l):
 Calls Tryz.prog 92 #[.slice ao l.length c] w fun e w'=>e=.returned (.pointer (some ⟨w.heap.size,0,none⟩))∧InIs w' w.heap.size l false∧Below w.heap.size w w':=by
 have hm:=h.le;unfold maxLen at hm;have HR:=η (read_is w l (by omega));have HB:=η (new_below w (.cells #[.string ⟨l.toArray⟩,.bool false] 176));rcases h with⟨rfl,rfl,rfl⟩ | ⟨A,rfl,_,_,hc⟩
 · have hc0:=nil_text w;go_in;go_wp2;go_ret;exact⟨rfl,HR.out,HB.out⟩
 · have hconv:=run_convert_bytes_back (P:=Tryz.prog) w 52 9 5 A c l Tryz.underlying52 Tryz.underlying5 Tryz.underlying9 (fun j hj=>by rw[hc j hj];simp[List.getD,hj]);clear hc;go_in;go_wp2;go_ret;exact⟨rfl,HR.out,HB.out⟩
def partsBy (l:List Int):List UInt8:=l.flatMap smallB
def putsBy (l:List (ByteArray×ByteArray)):List UInt8:=l.flatMap fun p=>textB p.1++textB p.2
def recTail (r:RecV):List UInt8:=
 if r.kind=2 then longB r.id else if r.kind=5 then [if r.yes then 1 else 0]
 else if r.kind=6∨r.kind=8∨r.kind=9 then smallB r.parts.length++partsBy r.parts
 else if r.kind=4∨r.kind=7 then smallB r.puts.length++putsBy r.puts else []
def recBytes (r:RecV):List UInt8:=smallB r.kind++longB r.tid++recTail r
theorem partsBy_next {l:List Int} {k:Nat} (h:k<l.length):partsBy (l.take (k+1))=partsBy (l.take k)++smallB (l.getD k 0):=by
 unfold partsBy;rw[List.take_succ_eq_append_getElem h,List.flatMap_append];congr 1;simp[List.getD,h]
theorem putsBy_next {l:List (ByteArray×ByteArray)} {k:Nat} (h:k<l.length):putsBy (l.take (k+1))=putsBy (l.take k)++textB (l.getD k putNone).1++textB (l.getD k putNone).2:=by
 unfold putsBy;rw[List.take_succ_eq_append_getElem h,List.flatMap_append,List.append_assoc];congr 1;simp[List.getD,h]
theorem smallB_len (n:Int):(smallB n).length=2:=rfl
theorem longB_len (n:Int):(longB n).length=8:=rfl
theorem partsBy_len (l:List Int):(partsBy l).length=2*l.length:=by
 induction l with
 | nil=>rfl
 | cons x l ih=>simp only[partsBy,List.flatMap_cons,List.length_append,List.length_cons]at ih ⊢;rw[ih,smallB_len];omega
theorem textB_len (s:ByteArray):(textB s).length≤65537+1:=by
 unfold textB;have:s.size%65536<65536:=Nat.mod_lt _ (by omega);simp[smallB_len];omega
theorem putsBy_len (l:List (ByteArray×ByteArray)):(putsBy l).length≤131076*l.length:=by
 induction l with
 | nil=>simp[putsBy]
 | cons x l ih=>
  have h1:=textB_len x.1;have h2:=textB_len x.2;simp only[putsBy,List.flatMap_cons,List.length_append,List.length_cons]at ih ⊢;omega
theorem taken_front (a r:List UInt8) (n:Nat) (h:a.length=n):taken (a++r) false n=a∧after (a++r) false n=r∧canTake (a++r) false n=true:=by
 subst h;have hc:canTake (a++r) false a.length=true:=by simp[canTake]
 exact⟨by simp[taken,hc],by simp[after,hc],hc⟩
theorem leN_small (n:Int):leN (smallB n)=(n%65536).toNat:=by
 have h0:=u8_ofNat (n:=n%256) (by omega) (by omega);have h1:=u8_ofNat (n:=n / 256%256) (by omega) (by omega);simp only[smallB,leN];omega
theorem longN_long (n:Int) (h:-9223372036854775808≤n∧n≤9223372036854775807):longN (longB n)=n:=by
 have h0:=u8_ofNat (n:=n%256) (by omega) (by omega);have h1:=u8_ofNat (n:=n / 256%256) (by omega) (by omega);have h2:=u8_ofNat (n:=n / 65536%256) (by omega) (by omega);have h3:=u8_ofNat (n:=n / 16777216%256) (by omega) (by omega);have h4:=u8_ofNat (n:=n / 4294967296%256) (by omega) (by omega);have h5:=u8_ofNat (n:=n / 1099511627776%256) (by omega) (by omega);have h6:=u8_ofNat (n:=n / 281474976710656%256) (by omega) (by omega);have h7:=u8_ofNat (n:=n / 72057594037927936%256) (by omega) (by omega);have e:((leN (longB n):Nat):Int)=n%18446744073709551616:=by
  unfold longB;simp only[leN,Int.natCast_add,Int.natCast_mul];omega
 unfold longN;rw[e];unfold wrap64;omega
theorem small_inj {a b:Int} {r s:List UInt8} (ha:0≤a∧a<65536) (hb:0≤b∧b<65536) (h:smallB a++r=smallB b++s):a=b∧r=s:=by
 obtain⟨h1,h2⟩:=List.append_inj h rfl;refine⟨?_,h2⟩;have:=congrArg leN h1;rw[leN_small,leN_small]at this;omega
theorem long_inj {a b:Int} {r s:List UInt8} (ha:-9223372036854775808≤a∧a≤9223372036854775807) (hb:-9223372036854775808≤b∧b≤9223372036854775807) (h:longB a++r=longB b++s):a=b∧r=s:=by
 obtain⟨h1,h2⟩:=List.append_inj h rfl;refine⟨?_,h2⟩;have:=congrArg longN h1;rwa[longN_long _ ha,longN_long _ hb]at this
theorem textB_low (x:ByteArray) (hx:x.size<65536):textB x=smallB (x.size:Nat)++x.data.toList:=by
 unfold textB;rw[Nat.mod_eq_of_lt hx,List.take_of_length_le (by simp)]
theorem text_inj {x y:ByteArray} {r s:List UInt8} (hx:x.size<65536) (hy:y.size<65536) (h:textB x++r=textB y++s):x=y∧r=s:=by
 rw[textB_low x hx,textB_low y hy,List.append_assoc,List.append_assoc]at h;obtain⟨h1,h2⟩:=small_inj (by omega) (by omega) h;have h1:x.size=y.size:=by omega
 obtain⟨h3,h4⟩:=List.append_inj h2 (by simpa using h1);exact⟨Go.WideShapes.bytes_inj h3,h4⟩
theorem parts_inj:∀(l m:List Int),l.length=m.length→(∀i,i<l.length→0≤l.getD i 0∧l.getD i 0<65536)→(∀i,i<m.length→0≤m.getD i 0∧m.getD i 0<65536)→partsBy l=partsBy m→l=m
 | [],[],_,_,_,_=>rfl
 | [],_::_,h,_,_,_=>by simp at h
 | _::_,[],h,_,_,_=>by simp at h
 | x::l,y::m,h,hl,hm,e=>by
  have e':smallB x++partsBy l=smallB y++partsBy m:=e;obtain⟨h1,h2⟩:=small_inj (hl 0 (by simp)) (hm 0 (by simp)) e';have h1:x=y:=h1;have:=parts_inj l m (by simpa using h) (fun i hi=>hl (i+1) (by simpa using hi)) (fun i hi=>hm (i+1) (by simpa using hi)) h2;rw[h1,this]
theorem puts_inj:∀(l m:List (ByteArray×ByteArray)),l.length=m.length→(∀i,i<l.length→(l.getD i putNone).1.size<65536∧(l.getD i putNone).2.size<65536)→(∀i,i<m.length→(m.getD i putNone).1.size<65536∧(m.getD i putNone).2.size<65536)→putsBy l=putsBy m→l=m
 | [],[],_,_,_,_=>rfl
 | [],_::_,h,_,_,_=>by simp at h
 | _::_,[],h,_,_,_=>by simp at h
 | (x1,x2)::l,(y1,y2)::m,h,hl,hm,e=>by
  have e':textB x1++(textB x2++putsBy l)=textB y1++(textB y2++putsBy m):=by
   have:putsBy ((x1,x2)::l)=putsBy ((y1,y2)::m):=e;simpa[putsBy]using this
  obtain⟨h1,h2⟩:=text_inj (hl 0 (by simp)).1 (hm 0 (by simp)).1 e';obtain⟨h3,h4⟩:=text_inj (hl 0 (by simp)).2 (hm 0 (by simp)).2 h2;have h1:x1=y1:=h1;have h3:x2=y2:=h3;have:=puts_inj l m (by simpa using h) (fun i hi=>hl (i+1) (by simpa using hi)) (fun i hi=>hm (i+1) (by simpa using hi)) h4;rw[h1,h3,this]
theorem recB_says {r:RecV} (h:recB r=true):1≤r.kind∧r.kind≤9∧0<homeZ r.tid∧(r.kind=2∨r.id=0)∧(r.kind=2→0<homeZ r.id)∧(r.kind=5∨r.yes=false)∧(r.kind=6∨r.kind=8∨r.kind=9∨r.parts=[])∧(r.kind=4∨r.kind=7∨r.puts=[])∧
 r.parts.length≤7∧(∀i,i<r.parts.length→brokerB (r.parts.getD i 0)=true)∧r.puts.length≤10∧(∀i,i<r.puts.length→putB (r.puts.getD i putNone)=true):=by
 obtain⟨k,t,d,y,P,Q⟩:=r;rw[recB_own]at h;simp only[Bool.and_eq_true,decide_eq_true_eq]at h;obtain⟨⟨h1,h9⟩,ht,hi,hy,hp,hq⟩:=h;have ht:0<homeZ t:=by simpa[tidB]using ht
 simp only[partsB,Bool.and_eq_true,decide_eq_true_eq]at hp;simp only[oputsB,Bool.and_eq_true,decide_eq_true_eq]at hq;obtain⟨⟨hp1,hp2⟩,hp3⟩:=hp;obtain⟨hq1,hq2⟩:=hq;have hput:∀i,i<Q.length→putB (Q.getD i putNone)=true:=fun i hi=>by
  have e:Q.getD i putNone=Q[i]:=by simp[List.getD,hi]
  rw[e];exact List.all_eq_true.1 hq2 _ (List.getElem_mem hi)
 have hbr:∀i,i<P.length→brokerB (P.getD i 0)=true:=fun i hi=>(hp3 i hi).1
 dsimp only;have hk:k=1∨k=2∨k=3∨k=4∨k=5∨k=6∨k=7∨k=8∨k=9:=by omega
 have hno:∀{α:Type} {l:List α},(l.length:Int)≤0→l=[]:=fun h=>List.eq_nil_of_length_eq_zero (by omega)
 refine⟨h1,h9,ht,?_,?_,?_,?_,?_,?_,hbr,?_,hput⟩
 all_goals clear hbr hput hp3 hq2
 · rcases hk with rfl | rfl | rfl | rfl | rfl | rfl | rfl | rfl | rfl<;>simp[idB,ownV]at hi ⊢<;>exact hi
 · intro e;subst e;simpa[idB,ownV,tidB]using hi
 · rcases hk with rfl | rfl | rfl | rfl | rfl | rfl | rfl | rfl | rfl<;>simp[ownV]at hy ⊢<;>exact hy
 · rcases hk with rfl | rfl | rfl | rfl | rfl | rfl | rfl | rfl | rfl<;>simp[ownV]at hp2 ⊢<;>first | exact hp2 | omega
 · rcases hk with rfl | rfl | rfl | rfl | rfl | rfl | rfl | rfl | rfl<;>simp[ownV]at hq1 ⊢<;>first | exact hq1 | omega
 · rcases hk with rfl | rfl | rfl | rfl | rfl | rfl | rfl | rfl | rfl<;>simp[ownV]at hp2<;>first | omega | (rw[hp2];simp)
 · rcases hk with rfl | rfl | rfl | rfl | rfl | rfl | rfl | rfl | rfl<;>simp[ownV]at hq1<;>first | omega | (rw[hq1];simp)
theorem home_ok {t:Int} (h:0<homeZ t):-9223372036854775808≤t∧t≤9223372036854775807:=by
 unfold homeZ at h;split at h<;>omega
theorem putB_sizes {p:ByteArray×ByteArray} (h:putB p=true):p.1.size≤8∧p.2.size≤60:=by
 unfold putB queueB bodyB at h;simp only[Bool.and_eq_true,decide_eq_true_eq]at h;omega
theorem broker_ok {n:Int} (h:brokerB n=true):0≤n∧n<65536:=by
 have:=of_decide_eq_true h;omega
theorem recBytes_inj {a b:RecV} (ha:recB a=true) (hb:recB b=true) (h:recBytes a=recBytes b):a=b:=by
 obtain⟨a1,a9,at_,ai,ai2,ay,ap,aq,apl,apb,aql,aqb⟩:=recB_says ha;obtain⟨b1,b9,bt,bi,bi2,by_,bp,bq,bpl,bpb,bql,bqb⟩:=recB_says hb;obtain⟨ka,ta,da,ya,Pa,Qa⟩:=a;obtain⟨kb,tb,db,yb,Pb,Qb⟩:=b;dsimp only at*;unfold recBytes at h;dsimp only at h;rw[List.append_assoc,List.append_assoc]at h;obtain⟨hk,h⟩:=small_inj (by omega) (by omega) h;obtain⟨ht,h⟩:=long_inj (home_ok at_) (home_ok bt) h;subst hk ht;have hk:ka=1∨ka=2∨ka=3∨ka=4∨ka=5∨ka=6∨ka=7∨ka=8∨ka=9:=by omega
 have hPs:smallB (Pa.length:Int)++partsBy Pa=smallB (Pb.length:Int)++partsBy Pb→Pa=Pb:=fun h=>by
  obtain⟨h1,h2⟩:=small_inj (by omega) (by omega) h;exact parts_inj Pa Pb (by omega) (fun i hi=>broker_ok (apb i hi)) (fun i hi=>broker_ok (bpb i hi)) h2
 have hQs:smallB (Qa.length:Int)++putsBy Qa=smallB (Qb.length:Int)++putsBy Qb→Qa=Qb:=fun h=>by
  obtain⟨h1,h2⟩:=small_inj (by omega) (by omega) h;exact puts_inj Qa Qb (by omega) (fun i hi=>by have:=putB_sizes (aqb i hi);omega) (fun i hi=>by have:=putB_sizes (bqb i hi);omega) h2
 clear apb bpb aqb bqb ha hb;rcases hk with rfl | rfl | rfl | rfl | rfl | rfl | rfl | rfl | rfl
 · simp at ai ay ap aq bi by_ bp bq;simp[ai,ay,ap,aq,bi,by_,bp,bq]
 · simp at ay ap aq by_ bp bq;have h:longB da++[]=longB db++[]:=by rw[List.append_nil,List.append_nil];exact h
   have:=(long_inj (home_ok (ai2 rfl)) (home_ok (bi2 rfl)) h).1;simp[this,ay,ap,aq,by_,bp,bq]
 · simp at ai ay ap aq bi by_ bp bq;simp[ai,ay,ap,aq,bi,by_,bp,bq]
 · simp at ai ay ap bi by_ bp;have:=hQs h;simp[ai,ay,ap,bi,by_,bp,this]
 · simp at ai ap aq bi bp bq;have h:[if ya then (1:UInt8)else 0]=[if yb then 1 else 0]:=h;have:ya=yb:=by cases ya<;>cases yb<;>simp at h ⊢
   simp[ai,ap,aq,bi,bp,bq,this]
 · simp at ai ay aq bi by_ bq;have:=hPs h;simp[ai,ay,aq,bi,by_,bq,this]
 · simp at ai ay ap bi by_ bp;have:=hQs h;simp[ai,ay,ap,bi,by_,bp,this]
 · simp at ai ay aq bi by_ bq;have:=hPs h;simp[ai,ay,aq,bi,by_,bq,this]
 · simp at ai ay aq bi by_ bq;have:=hPs h;simp[ai,ay,aq,bi,by_,bq,this]
theorem recBytes_long (r:RecV):10≤(recBytes r).length:=by
 unfold recBytes;simp[smallB_len,longB_len];omega
structure MsgV where
 id:Int
 queue:ByteArray
 body:ByteArray
 seq:Int
 count:Int
 by_:Int
structure BrV where
 tid:Int
 puts:List (ByteArray×ByteArray)
structure PendV where
 tid:Int
 parts:List Int
structure EndV where
 tid:Int
 yes:Bool
structure StV where
 broker:Int
 nextId:Int
 nextSeq:Int
 tx:Int
 ms:List MsgV
 waits:List BrV
 ends:List EndV
 open_:List PendV
 noes:List PendV
def keyB {α:Type} (key:α→Int) (l:List α) (t:Int):Bool:=l.any fun x=>decide (key x=t)
theorem keyB_iff {α:Type} {key:α→Int} {l:List α} {t:Int}:keyB key l t=true↔∃x∈l,key x=t:=by
 simp[keyB]
theorem keyB_not {α:Type} {key:α→Int} {l:List α} {t:Int}:keyB key l t=false↔∀x∈l,key x≠t:=by
 rw[Bool.eq_false_iff,ne_eq,keyB_iff];simp
abbrev Rising {α:Type} (key:α→Int) (l:List α):Prop:=l.Pairwise fun a b=>key a<key b
def insK {α:Type} (key:α→Int) (x:α) (l:List α):List α:=l.takeWhile (fun y=>decide (key y<key x))++x::l.dropWhile (fun y=>decide (key y<key x))
def remK {α:Type} (key:α→Int) (t:Int) (l:List α):List α:=l.eraseP fun y=>decide (key y=t)
theorem insK_cons {α:Type} (key:α→Int) (x y:α) (l:List α):insK key x (y::l)=if key y<key x then y::insK key x l else x::y::l:=by
 unfold insK;by_cases h:key y<key x
 · rw[if_pos h,List.takeWhile_cons_of_pos (by simpa using h),List.dropWhile_cons_of_pos (by simpa using h)];rfl
 · rw[if_neg h,List.takeWhile_cons_of_neg (by simpa using h),List.dropWhile_cons_of_neg (by simpa using h)];rfl
theorem insK_mem {α:Type} {key:α→Int} {x y:α}:∀{l:List α},y∈insK key x l↔y=x∨y∈l
 | []=>by simp[insK]
 | z::l=>by
  rw[insK_cons];split
  · rw[List.mem_cons,List.mem_cons,insK_mem (l:=l)];constructor
    · rintro(h | h | h)
      · exact .inr (.inl h)
      · exact .inl h
      · exact .inr (.inr h)
    · rintro(h | h | h)
      · exact .inr (.inl h)
      · exact .inl h
      · exact .inr (.inr h)
  · rw[List.mem_cons]
theorem insK_len {α:Type} {key:α→Int} {x:α}:∀{l:List α},(insK key x l).length=l.length+1
 | []=>by simp[insK]
 | z::l=>by
  rw[insK_cons];split
  · rw[List.length_cons,insK_len (l:=l),List.length_cons]
  · simp
theorem insK_rising {α:Type} {key:α→Int} {x:α}:∀{l:List α},Rising key l→(∀y∈l,key y≠key x)→Rising key (insK key x l)
 | [],_,_=>by simp[insK]
 | z::l,h,hn=>by
  rw[insK_cons];obtain⟨h1,h2⟩:=List.pairwise_cons.1 h;have hz:=hn z (by simp);split
  · refine List.pairwise_cons.2 ⟨fun y hy=>?_,insK_rising h2 (fun y hy=>hn y (by simp[hy]))⟩;rcases insK_mem.1 hy with rfl | hy
    · assumption
    · exact h1 y hy
  · refine List.pairwise_cons.2 ⟨fun y hy=>?_,h⟩;rcases List.mem_cons.1 hy with rfl | hy
    · omega
    · have:=h1 y hy;omega
theorem remK_sub {α:Type} {key:α→Int} {t:Int} {l:List α}:(remK key t l).Sublist l:=List.eraseP_sublist
theorem remK_rising {α:Type} {key:α→Int} {t:Int} {l:List α} (h:Rising key l):Rising key (remK key t l):=h.sublist remK_sub
theorem remK_mem {α:Type} {key:α→Int} {t:Int}:∀{l:List α},Rising key l→∀{y:α},y∈remK key t l↔y∈l∧key y≠t
 | [],_,y=>by simp[remK]
 | z::l,h,y=>by
  obtain⟨h1,h2⟩:=List.pairwise_cons.1 h;unfold remK;by_cases hz:key z=t
  · rw[List.eraseP_cons_of_pos (by simpa using hz),List.mem_cons];constructor
    · intro hy;exact⟨.inr hy,by have:=h1 y hy;omega⟩
    · rintro⟨rfl | hy,hn⟩
      · exact absurd hz hn
      · exact hy
  · rw[List.eraseP_cons_of_neg (by simpa using hz),List.mem_cons,List.mem_cons];have ih:=remK_mem (key:=key) (t:=t) h2 (y:=y);unfold remK at ih;rw[ih];constructor
    · rintro(rfl | ⟨h3,h4⟩)
      · exact⟨.inl rfl,hz⟩
      · exact⟨.inr h3,h4⟩
    · rintro⟨rfl | h3,h4⟩
      · exact .inl rfl
      · exact .inr ⟨h3,h4⟩
def msgP (s:StV) (m:MsgV):Prop:=
 1≤m.seq∧m.seq<s.nextSeq∧homeZ m.id=s.broker∧m.id-s.broker*4294967296<s.nextId∧queueB m.queue=true∧bodyB m.body=true∧0≤m.count∧m.count≤1000∧(m.by_=0∨(0<homeZ m.by_∧keyB EndV.tid s.ends m.by_=false))
instance (s:StV) (m:MsgV):Decidable (msgP s m):=by unfold msgP;infer_instance
def pendP (b:Int) (p:PendV):Prop:=homeZ p.tid=b∧0<p.parts.length∧risingB p.parts=true∧b∉p.parts
instance (b:Int) (p:PendV):Decidable (pendP b p):=by unfold pendP;infer_instance
structure MayP (s:StV):Prop where
 broker:brokerB s.broker=true
 id1:1≤s.nextId
 id2:s.nextId≤4294967296
 seq1:1≤s.nextSeq
 seq2:s.nextSeq≤1099511627776
 tx1:0≤s.tx
 tx2:s.tx≤200
 lms:s.ms.length≤72
 lwaits:s.waits.length≤2000
 lends:s.ends.length≤2000
 lopen:s.open_.length≤2000
 lnoes:s.noes.length≤2000
 ms:∀m∈s.ms,msgP s m
 seqs:Rising MsgV.seq s.ms
 ids:s.ms.Pairwise fun a b=>a.id≠b.id
 ends:∀e∈s.ends,0<homeZ e.tid
 endsR:Rising EndV.tid s.ends
 waits:∀x∈s.waits,0<homeZ x.tid∧keyB EndV.tid s.ends x.tid=false∧putsB x.puts=true
 waitsR:Rising BrV.tid s.waits
 open_:∀p∈s.open_,pendP s.broker p∧keyB EndV.tid s.ends p.tid=false∧keyB BrV.tid s.waits p.tid=false
 openR:Rising PendV.tid s.open_
 noes:∀p∈s.noes,pendP s.broker p∧∃e∈s.ends,e.tid=p.tid∧e.yes=false
 noesR:Rising PendV.tid s.noes
def newS (b:Int):StV:=if brokerB b=true then ⟨b,1,1,0,[],[],[],[],[]⟩else ⟨0,0,0,0,[],[],[],[],[]⟩
def pending (s:StV):Nat:=(s.waits.map fun x=>x.puts.length).sum
def fitsB (s:StV) (n:Nat):Bool:=decide (((pending s+n:Nat):Int)≤4294967296-s.nextId∧((pending s+n:Nat):Int)≤72-(s.ms.length:Int)∧((pending s+n:Nat):Int)≤1099511627776-s.nextSeq)
def msgOf (s:StV) (id:Int):Option MsgV:=s.ms.find? fun m=>decide (m.id=id)
def pendOf (l:List PendV) (t:Int):Option PendV:=l.find? fun p=>decide (p.tid=t)
def waitOf (l:List BrV) (t:Int):Option BrV:=l.find? fun p=>decide (p.tid=t)
def fullE (s:StV) (r:RecV):Int:=
 if ((r.kind=3∨r.kind=5∨r.kind=7∨r.kind=8)∧2000≤s.ends.length)∨(r.kind=4∧2000≤s.waits.length)∨(r.kind=6∧2000≤s.open_.length)∨(r.kind=8∧0<r.parts.length∧2000≤s.noes.length)∨((r.kind=4∨r.kind=7)∧fitsB s r.puts.length=false)then 5 else 0
def canE (s:StV) (r:RecV):Int:=
 if recB r=false then 1
 else if r.kind≠9∧keyB EndV.tid s.ends r.tid=true then 9
 else if r.kind=2 then
  match msgOf s r.id with
  | none=>6
  | some m=>if (m.by_≠0∧m.by_≠r.tid)∨keyB BrV.tid s.waits r.tid=true∨keyB PendV.tid s.open_ r.tid=true then 8 else fullE s r
 else if r.kind=5 then (if keyB BrV.tid s.waits r.tid=true then fullE s r else 6)
 else if r.kind=9 then
  match pendOf s.noes r.tid with
  | none=>6
  | some p=>if r.parts.getD 0 0∈p.parts then fullE s r else 6
 else if r.kind=1 then (if r.tid≠makeZ s.broker (s.tx+1)then 12 else if 200≤s.tx then 5 else fullE s r)
 else if r.kind=6∨r.kind=7∨r.kind=8 then
  (if homeZ r.tid≠s.broker∨keyB BrV.tid s.waits r.tid=true∨s.broker∈r.parts∨(r.kind=6∧keyB PendV.tid s.open_ r.tid=true)then 12 else fullE s r)
 else if r.kind=4 then (if keyB BrV.tid s.waits r.tid=true∨homeZ r.tid=s.broker then 12 else fullE s r)
 else if r.kind=3 then (if keyB BrV.tid s.waits r.tid=true∨keyB PendV.tid s.open_ r.tid=true then 12 else fullE s r)
 else fullE s r
def back (m:MsgV):MsgV:={m with by_:=0,count:=min 1000 (m.count+1)}
def come (b:Int):Int→Int→List (ByteArray×ByteArray)→List MsgV
 | _,_,[]=>[]
 | i,q,p::l=>⟨makeZ b i,p.1,p.2,q,0,0⟩::come b (i+1) (q+1) l
def left (t:Int) (yes:Bool):List MsgV→List MsgV
 | []=>[]
 | m::l=>if m.by_=t then (if yes=true then left t yes l else back m::left t yes l)else m::left t yes l
def endS (s:StV) (t:Int) (yes:Bool) (l:List (ByteArray×ByteArray)):StV:=
 {s with
  ms:=left t yes s.ms++(if yes=true then come s.broker s.nextId s.nextSeq l else [])
  nextId:=s.nextId+(if yes=true then (l.length:Int)else 0)
  nextSeq:=s.nextSeq+(if yes=true then (l.length:Int)else 0)
  ends:=insK EndV.tid ⟨t,yes⟩ s.ends
  waits:=remK BrV.tid t s.waits
  open_:=remK PendV.tid t s.open_}
def layS (s:StV) (r:RecV):StV:=
 if r.kind=1 then {s with tx:=s.tx+1}
 else if r.kind=2 then {s with ms:=s.ms.map fun m=>if m.id=r.id then {m with by_:=r.tid}else m}
 else if r.kind=3 then endS s r.tid false []
 else if r.kind=4 then {s with waits:=insK BrV.tid ⟨r.tid,r.puts⟩ s.waits}
 else if r.kind=5 then endS s r.tid r.yes (((waitOf s.waits r.tid).map BrV.puts).getD [])
 else if r.kind=6 then {s with open_:=insK PendV.tid ⟨r.tid,r.parts⟩ s.open_}
 else if r.kind=7 then endS s r.tid true r.puts
 else if r.kind=8 then
  let u:=endS s r.tid false []
  if 0<r.parts.length then {u with noes:=insK PendV.tid ⟨r.tid,r.parts⟩ u.noes}else u
 else
  let p:=(pendOf s.noes r.tid).getD ⟨0,[]⟩
  let l:=p.parts.filter fun n=>decide (n≠r.parts.getD 0 0)
  if 0<l.length then {s with noes:=insK PendV.tid ⟨r.tid,l⟩ (remK PendV.tid r.tid s.noes)}else {s with noes:=remK PendV.tid r.tid s.noes}
end Go.Proofs.YtkjpjfghklgdhaaGreat
