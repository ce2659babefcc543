/-
  Rm8
-/
import Derived.Test.YtkjpjfghklgdhaaGreatLx
set_option maxHeartbeats 16000000
set_option maxRecDepth 100000
namespace Go.Proofs.YtkjpjfghklgdhaaGreat
open Go Go.RowKit
theorem reg7_succ {y:World} {Q:Exit→Act→World→Prop} {B C g1 o1 nm cm nw cw ne ce no co nn cn k:Nat} {aw ae ao an:Option Addr} {br ni ns tx id sq ct by_ z1 z2 hz zq:Int} {qu bo:ByteArray} {qb bb tb eb c:Bool} {u0 u2 u5 u6 u7 u8 u9 u10 u11 u12 u13 u14 u15 u16 u17 u18 u19 u20 u21 u22 u23 u24 u25 u26 u27 u28 u29 u30 u31 u32 u33 u34 u35 u36 u37 u38 u39 u40 u41 u42 u43 u44 u45 u46 u47 u48 u49 u50 u51 u52 u53 u54 u55 u56 u57 u58 u59 u60 u61 u62 u63 u64 u65 u66 u67 u68 u69 u70 u71 u72 u73 u74 u75 u76 u77 u78 u79 u80 u81 u82 u83 u84 u85 u86 u87 u88 u89 u90 u91 u92 u93 u94 u95 u96 u97 u98 u99 u100 u101 u102 u103 u104 u105 u106 u107 u108 u109 u110 u111 u112 u113 u114 u115 u116 u117 u118 u119 u120 u121 u122 u123 u124 u125 u126 u127 u128 u129 u130 u131 u132 u133 u134 u135 u136 u137 u138 u139 u140 u141 u142 u143 u144 u145 u146 u147 u148 u149 u150 u151 u152 u153 u154 u155 u156 u157 u158 u159 u160 u161 u162 u163 u164 u165 u166 u167 u168 u169 u170 u171 u172 u173 u174 u175 u176 u177 u178 u179 u180 u181 u182 u183 u184 u185 u186 u187 u188 u189 u190 u191 u192 u193 u194 u195 u196 u197 u198 u199 u200 u201 u202 u203 u204 u205 u206 u207 u208 u209 u210 u211 u212 u213 u214 u215 u216 u217 u218 u219 u220 u221 u222 u223 u224 u225 u226 u227 u228 u229 u230 u231 u232 u233 u234 u235 u236 u237 u238 u239 u240 u241 u242 u243 u244 u245 u246 u247 u248 u249 u250 u251 u252 u253 u254 u255 u256 u257 u258 u259 u260 u261 u262 u263 u264 u265 u266 u267 u268 u269 u270:Value} (b0:y.cell? ⟨B,0,none⟩=some (.int .i64 br)) (b1:y.cell? ⟨B,1,none⟩=some (.int .i64 ni)) (b2:y.cell? ⟨B,2,none⟩=some (.int .i64 ns)) (b3:y.cell? ⟨B,3,none⟩=some (.int .i64 tx)) (b4:y.cell? ⟨B,4,none⟩=some (.slice (some ⟨g1,o1,none⟩) nm cm)) (b5:y.cell? ⟨B,5,none⟩=some (.slice aw nw cw)) (b6:y.cell? ⟨B,6,none⟩=some (.slice ae ne ce)) (b7:y.cell? ⟨B,7,none⟩=some (.slice ao no co)) (b8:y.cell? ⟨B,8,none⟩=some (.slice an nn cn)) (m0:y.cell? ⟨C,0,none⟩=some (.int .i64 id)) (m1:y.cell? ⟨C,1,none⟩=some (.string qu)) (m2:y.cell? ⟨C,2,none⟩=some (.string bo)) (m3:y.cell? ⟨C,3,none⟩=some (.int .i64 sq)) (m4:y.cell? ⟨C,4,none⟩=some (.int .i64 ct)) (m5:y.cell? ⟨C,5,none⟩=some (.int .i64 by_)) (F2:Hid (∀p:Tw y,Calls Tryz.prog 33 #[.agg #[.int .i64 br,.int .i64 ni,.int .i64 ns,.int .i64 tx,.slice (some ⟨g1,o1,none⟩) nm cm,.slice aw nw cw,.slice ae ne ce,.slice ao no co,.slice an nn cn],.int .i64 id] p.x fun e w'=>e=.returned (.int .i64 z1)∧∃q:Tw y,w'=q.x)) (F3:Hid (∀p:Tw y,Calls Tryz.prog 57 #[.agg #[.int .i64 br,.int .i64 ni,.int .i64 ns,.int .i64 tx,.slice (some ⟨g1,o1,none⟩) nm cm,.slice aw nw cw,.slice ae ne ce,.slice ao no co,.slice an nn cn],.int .i64 by_] p.x fun e w'=>e=.returned (.int .i64 z2)∧∃q:Tw y,w'=q.x)) (F4:Hid (∀p:Tw y,Calls Tryz.prog 53 #[.int .i64 id] p.x fun e w'=>e=.returned (.int .i64 hz)∧∃q:Tw y,w'=q.x)) (F5:Hid (∀p:Tw y,Calls Tryz.prog 54 #[.string qu] p.x fun e w'=>e=.returned (.bool qb)∧∃q:Tw y,w'=q.x)) (F6:Hid (∀p:Tw y,Calls Tryz.prog 55 #[.string bo] p.x fun e w'=>e=.returned (.bool bb)∧∃q:Tw y,w'=q.x)) (F7:Hid (∀p:Tw y,Calls Tryz.prog 56 #[.int .i64 by_] p.x fun e w'=>e=.returned (.bool tb)∧∃q:Tw y,w'=q.x)) (q0:y.cell? ⟨g1,o1+k*6+3,none⟩=some (.int .i64 zq)) (hk:k+1<nm)
 (hbr:1≤br∧br≤8) (hhz:hz=homeZ id) (hd2:decide (0≤z2)=eb) (hln:(nm:Int)≤9223372036854775807) (hc:c=((decide (1≤sq∧sq<ns)&&(decide (z1=((k:Int)+1))&&(decide (hz=br)&&(decide (id<br*4294967296+ni)&&((qb&&bb)&&(decide (0≤ct∧ct≤1000)&&(decide (by_=0) || (tb&&!eb))))))))&&decide (zq<sq)))
 (hQ:∀(v84 v85 v86 v87 v88 v89 v90 v91 v92 v93 v94 v95 v96 v97 v98 v99 v100 v101 v102 v103 v104 v105 v106 v107 v108 v109 v110 v111 v112 v113 v114 v115 v116 v117 v118 v119 v120 v121 v122 v123 v124 v125 v126 v127 v128 v129 v130 v131 v132 v133 v134 v135 v136 v137 v138 v139 v140 v141 v142 v143 v144 v145 v146 v147 v148 v149 v150 v151 v152 v153 v154 v155 v156 v157 v158 v159 v160 v161 v162 v163 v164 v165 v166 v167 v168 v169 v170 v171 v172 v173 v174 v175:Value) (x:World),Turn [] y x→Q .normal ⟨#[u0,.pointer (some ⟨B,0,none⟩),u2,.int .i64 ((k:Int)+1),.pointer (some ⟨C,0,none⟩),u5,u6,u7,u8,u9,u10,u11,u12,u13,u14,u15,u16,u17,u18,u19,u20,u21,u22,u23,u24,u25,u26,u27,u28,u29,u30,u31,u32,u33,u34,u35,u36,u37,u38,u39,u40,u41,u42,u43,u44,u45,u46,u47,u48,u49,u50,u51,u52,u53,u54,u55,u56,u57,u58,u59,u60,u61,u62,u63,u64,u65,u66,u67,u68,u69,u70,u71,u72,u73,u74,u75,u76,u77,u78,u79,u80,u81,u82,u83,v84,v85,v86,v87,v88,v89,v90,v91,v92,v93,v94,v95,v96,v97,v98,v99,v100,v101,v102,v103,v104,v105,v106,v107,v108,v109,v110,v111,v112,v113,v114,v115,v116,v117,v118,v119,v120,v121,v122,v123,v124,v125,v126,v127,v128,v129,v130,v131,v132,v133,v134,v135,v136,v137,v138,v139,v140,v141,v142,v143,v144,v145,v146,v147,v148,v149,v150,v151,v152,v153,v154,v155,v156,v157,v158,v159,v160,v161,v162,v163,v164,v165,v166,v167,v168,v169,v170,v171,v172,v173,v174,v175,.bool (!c),u177,u178,u179,u180,u181,u182,u183,u184,u185,u186,u187,u188,u189,u190,u191,u192,u193,u194,u195,u196,u197,u198,u199,u200,u201,u202,u203,u204,u205,u206,u207,u208,u209,u210,u211,u212,u213,u214,u215,u216,u217,u218,u219,u220,u221,u222,u223,u224,u225,u226,u227,u228,u229,u230,u231,u232,u233,u234,u235,u236,u237,u238,u239,u240,u241,u242,u243,u244,u245,u246,u247,u248,u249,u250,u251,u252,u253,u254,u255,u256,u257,u258,u259,u260,u261,u262,u263,u264,u265,u266,u267,u268,u269,u270],[]⟩ x):reg7.wp Tryz.prog Q ⟨#[u0,.pointer (some ⟨B,0,none⟩),u2,.int .i64 ((k:Int)+1),.pointer (some ⟨C,0,none⟩),u5,u6,u7,u8,u9,u10,u11,u12,u13,u14,u15,u16,u17,u18,u19,u20,u21,u22,u23,u24,u25,u26,u27,u28,u29,u30,u31,u32,u33,u34,u35,u36,u37,u38,u39,u40,u41,u42,u43,u44,u45,u46,u47,u48,u49,u50,u51,u52,u53,u54,u55,u56,u57,u58,u59,u60,u61,u62,u63,u64,u65,u66,u67,u68,u69,u70,u71,u72,u73,u74,u75,u76,u77,u78,u79,u80,u81,u82,u83,u84,u85,u86,u87,u88,u89,u90,u91,u92,u93,u94,u95,u96,u97,u98,u99,u100,u101,u102,u103,u104,u105,u106,u107,u108,u109,u110,u111,u112,u113,u114,u115,u116,u117,u118,u119,u120,u121,u122,u123,u124,u125,u126,u127,u128,u129,u130,u131,u132,u133,u134,u135,u136,u137,u138,u139,u140,u141,u142,u143,u144,u145,u146,u147,u148,u149,u150,u151,u152,u153,u154,u155,u156,u157,u158,u159,u160,u161,u162,u163,u164,u165,u166,u167,u168,u169,u170,u171,u172,u173,u174,u175,u176,u177,u178,u179,u180,u181,u182,u183,u184,u185,u186,u187,u188,u189,u190,u191,u192,u193,u194,u195,u196,u197,u198,u199,u200,u201,u202,u203,u204,u205,u206,u207,u208,u209,u210,u211,u212,u213,u214,u215,u216,u217,u218,u219,u220,u221,u222,u223,u224,u225,u226,u227,u228,u229,u230,u231,u232,u233,u234,u235,u236,u237,u238,u239,u240,u241,u242,u243,u244,u245,u246,u247,u248,u249,u250,u251,u252,u253,u254,u255,u256,u257,u258,u259,u260,u261,u262,u263,u264,u265,u266,u267,u268,u269,u270],[]⟩ y:=by
 conv=>arg 2;whnf
 simp only[List.append_eq,List.cons_append,List.nil_append];dsimp only at hQ ⊢;refine quiet_lex (lex7_of (by kernel_rfl)) ?_;intro LX;have hw1:IntKind.i64.wrap (br*4294967296)=br*4294967296:=by rw[IntKind.wrap_i64];omega
 have hb:0≤(((k:Int)+1):Int)∧(((k:Int)+1):Int)<(nm:Int):=by omega
 have HC:=η hc;have HH:Hid (hz=br→br*4294967296<id∧id<br*4294967296+4294967296):=η (fun e=>(homeZ_is hbr.1 hbr.2).1 (by rw[←hhz,e]));clear hc hhz;replace b0:=fun p:Tw y=>p.cell b0
 replace b1:=fun p:Tw y=>p.cell b1
 replace b2:=fun p:Tw y=>p.cell b2
 replace b3:=fun p:Tw y=>p.cell b3
 replace b4:=fun p:Tw y=>p.cell b4
 replace b5:=fun p:Tw y=>p.cell b5
 replace b6:=fun p:Tw y=>p.cell b6
 replace b7:=fun p:Tw y=>p.cell b7
 replace b8:=fun p:Tw y=>p.cell b8
 replace m0:=fun p:Tw y=>p.cell m0
 replace m1:=fun p:Tw y=>p.cell m1
 replace m2:=fun p:Tw y=>p.cell m2
 replace m3:=fun p:Tw y=>p.cell m3
 replace m4:=fun p:Tw y=>p.cell m4
 replace m5:=fun p:Tw y=>p.cell m5
 replace q0:=fun p:Tw y=>p.cell q0
 have hkb:((k:Int)+1).toNat=k+1:=by omega
 have hkw:IntKind.i64.wrap (k:Int)=(k:Int):=by rw[IntKind.wrap_i64];omega
 have hk3:0≤(k:Int)∧(k:Int)<(nm:Int):=by omega
 have hk4:(0:Int)<(k:Int)+1:=by omega
 by_cases h1:sq<1
 case pos=>
  have hc:c=false:=by rw[HC.out];rw[decide_eq_false (show ¬(1≤sq∧sq<ns) by omega)];rfl
  rw[hc]at hQ;refine quiet_turn (by kernel_rfl) LX.out ?_
  repeat (go_big_quiet_step (first | (go_at_call 33;exact F2.out _) | (go_at_call 57;exact F3.out _) | (go_at_call 53;exact F4.out _) | (go_at_call 54;exact F5.out _) | (go_at_call 55;exact F6.out _) | (go_at_call 56;exact F7.out _)))
  refine wpQuiet_nil ?_;rintro _ ⟨p,rfl⟩;apply hQ;exact p.t
 by_cases h2:ns≤sq
 case pos=>
  have hc:c=false:=by rw[HC.out];rw[decide_eq_false (show ¬(1≤sq∧sq<ns) by omega)];rfl
  rw[hc]at hQ;refine quiet_turn (by kernel_rfl) LX.out ?_
  repeat (go_big_quiet_step (first | (go_at_call 33;exact F2.out _) | (go_at_call 57;exact F3.out _) | (go_at_call 53;exact F4.out _) | (go_at_call 54;exact F5.out _) | (go_at_call 55;exact F6.out _) | (go_at_call 56;exact F7.out _)))
  refine wpQuiet_nil ?_;rintro _ ⟨p,rfl⟩;apply hQ;exact p.t
 by_cases h3:sq≤zq
 case pos=>
  have hc:c=false:=by rw[HC.out];rw[decide_eq_false (show ¬zq<sq by omega),Bool.and_false]
  rw[hc]at hQ;refine quiet_turn (by kernel_rfl) LX.out ?_
  repeat (go_big_quiet_step (first | (go_at_call 33;exact F2.out _) | (go_at_call 57;exact F3.out _) | (go_at_call 53;exact F4.out _) | (go_at_call 54;exact F5.out _) | (go_at_call 55;exact F6.out _) | (go_at_call 56;exact F7.out _)))
  refine wpQuiet_nil ?_;rintro _ ⟨p,rfl⟩;apply hQ;exact p.t
 by_cases h4:z1=((k:Int)+1)
 case neg=>
  have n4:(z1 != ((k:Int)+1))=true:=by simpa using h4
  have hc:c=false:=by rw[HC.out];simp[h4]
  rw[hc]at hQ;refine quiet_turn (by kernel_rfl) LX.out ?_
  repeat (go_big_quiet_step (first | (go_at_call 33;exact F2.out _) | (go_at_call 57;exact F3.out _) | (go_at_call 53;exact F4.out _) | (go_at_call 54;exact F5.out _) | (go_at_call 55;exact F6.out _) | (go_at_call 56;exact F7.out _)))
  refine wpQuiet_nil ?_;rintro _ ⟨p,rfl⟩;apply hQ;exact p.t
 have n4:(z1 != ((k:Int)+1))=false:=by simpa using h4
 by_cases h5:hz=br
 case neg=>
  have n5:(hz != br)=true:=by simpa using h5
  have hc:c=false:=by rw[HC.out];simp[h5]
  rw[hc]at hQ;refine quiet_turn (by kernel_rfl) LX.out ?_
  repeat (go_big_quiet_step (first | (go_at_call 33;exact F2.out _) | (go_at_call 57;exact F3.out _) | (go_at_call 53;exact F4.out _) | (go_at_call 54;exact F5.out _) | (go_at_call 55;exact F6.out _) | (go_at_call 56;exact F7.out _)))
  refine wpQuiet_nil ?_;rintro _ ⟨p,rfl⟩;apply hQ;exact p.t
 have n5:(hz != br)=false:=by simpa using h5
 have hh:=HH.out h5;have w2:IntKind.i64.wrap (id-br*4294967296)=id-br*4294967296:=by rw[IntKind.wrap_i64];omega
 clear hh;by_cases h6:ni≤id-br*4294967296
 case pos=>
  have hc:c=false:=by rw[HC.out];rw[decide_eq_false (show ¬id<br*4294967296+ni by omega)];simp
  rw[hc]at hQ;refine quiet_turn (by kernel_rfl) LX.out ?_
  repeat (go_big_quiet_step (first | (go_at_call 33;exact F2.out _) | (go_at_call 57;exact F3.out _) | (go_at_call 53;exact F4.out _) | (go_at_call 54;exact F5.out _) | (go_at_call 55;exact F6.out _) | (go_at_call 56;exact F7.out _)))
  refine wpQuiet_nil ?_;rintro _ ⟨p,rfl⟩;apply hQ;exact p.t
 cases qb with
 | false=>
  have hc:c=false:=by rw[HC.out];simp
  rw[hc]at hQ;refine quiet_turn (by kernel_rfl) LX.out ?_
  repeat (go_big_quiet_step (first | (go_at_call 33;exact F2.out _) | (go_at_call 57;exact F3.out _) | (go_at_call 53;exact F4.out _) | (go_at_call 54;exact F5.out _) | (go_at_call 55;exact F6.out _) | (go_at_call 56;exact F7.out _)))
  refine wpQuiet_nil ?_;rintro _ ⟨p,rfl⟩;apply hQ;exact p.t
 | true=>
  cases bb with
  | false=>
   have hc:c=false:=by rw[HC.out];simp
   rw[hc]at hQ;refine quiet_turn (by kernel_rfl) LX.out ?_
   repeat (go_big_quiet_step (first | (go_at_call 33;exact F2.out _) | (go_at_call 57;exact F3.out _) | (go_at_call 53;exact F4.out _) | (go_at_call 54;exact F5.out _) | (go_at_call 55;exact F6.out _) | (go_at_call 56;exact F7.out _)))
   refine wpQuiet_nil ?_;rintro _ ⟨p,rfl⟩;apply hQ;exact p.t
  | true=>
   by_cases h7:ct<0
   case pos=>
    have hc:c=false:=by rw[HC.out];rw[decide_eq_false (show ¬(0≤ct∧ct≤1000) by omega)];simp
    rw[hc]at hQ;refine quiet_turn (by kernel_rfl) LX.out ?_
    repeat (go_big_quiet_step (first | (go_at_call 33;exact F2.out _) | (go_at_call 57;exact F3.out _) | (go_at_call 53;exact F4.out _) | (go_at_call 54;exact F5.out _) | (go_at_call 55;exact F6.out _) | (go_at_call 56;exact F7.out _)))
    refine wpQuiet_nil ?_;rintro _ ⟨p,rfl⟩;apply hQ;exact p.t
   by_cases h8:1000<ct
   case pos=>
    have hc:c=false:=by rw[HC.out];rw[decide_eq_false (show ¬(0≤ct∧ct≤1000) by omega)];simp
    rw[hc]at hQ;refine quiet_turn (by kernel_rfl) LX.out ?_
    repeat (go_big_quiet_step (first | (go_at_call 33;exact F2.out _) | (go_at_call 57;exact F3.out _) | (go_at_call 53;exact F4.out _) | (go_at_call 54;exact F5.out _) | (go_at_call 55;exact F6.out _) | (go_at_call 56;exact F7.out _)))
    refine wpQuiet_nil ?_;rintro _ ⟨p,rfl⟩;apply hQ;exact p.t
   by_cases h11:by_=0
   case pos=>
    have n11:(by_ != 0)=false:=by simpa using h11
    have hc:c=true:=by rw[HC.out];rw[decide_eq_true (show 1≤sq∧sq<ns by omega),decide_eq_true (show 0≤ct∧ct≤1000 by omega),decide_eq_true (show id<br*4294967296+ni by omega),decide_eq_true (show zq<sq by omega)];simp[h4,h5,h11]
    rw[hc]at hQ;refine quiet_turn (by kernel_rfl) LX.out ?_
    repeat (go_big_quiet_step (first | (go_at_call 33;exact F2.out _) | (go_at_call 57;exact F3.out _) | (go_at_call 53;exact F4.out _) | (go_at_call 54;exact F5.out _) | (go_at_call 55;exact F6.out _) | (go_at_call 56;exact F7.out _)))
    refine wpQuiet_nil ?_;rintro _ ⟨p,rfl⟩;apply hQ;exact p.t
   have n11:(by_ != 0)=true:=by simpa using h11
   cases tb with
   | false=>
    have hc:c=false:=by rw[HC.out];simp[h11]
    rw[hc]at hQ;refine quiet_turn (by kernel_rfl) LX.out ?_
    repeat (go_big_quiet_step (first | (go_at_call 33;exact F2.out _) | (go_at_call 57;exact F3.out _) | (go_at_call 53;exact F4.out _) | (go_at_call 54;exact F5.out _) | (go_at_call 55;exact F6.out _) | (go_at_call 56;exact F7.out _)))
    refine wpQuiet_nil ?_;rintro _ ⟨p,rfl⟩;apply hQ;exact p.t
   | true=>
    cases eb with
    | true=>
     have hc:c=false:=by rw[HC.out];simp[h11]
     rw[hc]at hQ;refine quiet_turn (by kernel_rfl) LX.out ?_
     repeat (go_big_quiet_step (first | (go_at_call 33;exact F2.out _) | (go_at_call 57;exact F3.out _) | (go_at_call 53;exact F4.out _) | (go_at_call 54;exact F5.out _) | (go_at_call 55;exact F6.out _) | (go_at_call 56;exact F7.out _)))
     refine wpQuiet_nil ?_;rintro _ ⟨p,rfl⟩;apply hQ;exact p.t
    | false=>
     have hc:c=true:=by rw[HC.out];rw[decide_eq_true (show 1≤sq∧sq<ns by omega),decide_eq_true (show 0≤ct∧ct≤1000 by omega),decide_eq_true (show id<br*4294967296+ni by omega),decide_eq_true (show zq<sq by omega)];simp[h4,h5,h11]
     rw[hc]at hQ;refine quiet_turn (by kernel_rfl) LX.out ?_
     repeat (go_big_quiet_step (first | (go_at_call 33;exact F2.out _) | (go_at_call 57;exact F3.out _) | (go_at_call 53;exact F4.out _) | (go_at_call 54;exact F5.out _) | (go_at_call 55;exact F6.out _) | (go_at_call 56;exact F7.out _)))
     refine wpQuiet_nil ?_;rintro _ ⟨p,rfl⟩;apply hQ;exact p.t
end Go.Proofs.YtkjpjfghklgdhaaGreat
