/-
  PkBD
-/
import Derived.Test.YtlmefpanoimkcaaGreatPkBC
import Derived.Test.YtlmefpanoimkcaaGreatRows
set_option maxHeartbeats 16000000
set_option maxRecDepth 100000
namespace Go.Proofs.YtlmefpanoimkcaaGreat
open Go.RowKit Go.Proofs.YtlmefpanoimkcaaGreat.V
theorem cells_N (a : Ads) : sN.cells a = #[.int .i64 1, .int .i64 1, .int .i64 1, .int .i64 0, .slice a.m 0 a.cm, .slice a.w 0 a.cw, .slice a.e 0 a.ce, .slice a.o 0 a.co, .slice a.n 0 a.cn] := rfl
theorem cells_A (a : Ads) : sA.cells a = #[.int .i64 1, .int .i64 1, .int .i64 1, .int .i64 0, .slice a.m 0 a.cm, .slice a.w 1 a.cw, .slice a.e 0 a.ce, .slice a.o 0 a.co, .slice a.n 0 a.cn] := rfl
theorem cells_B (a : Ads) : sB.cells a = #[.int .i64 1, .int .i64 2, .int .i64 2, .int .i64 0, .slice a.m 1 a.cm, .slice a.w 0 a.cw, .slice a.e 1 a.ce, .slice a.o 0 a.co, .slice a.n 0 a.cn] := rfl
theorem cells_C (a : Ads) : sC.cells a = #[.int .i64 1, .int .i64 2, .int .i64 2, .int .i64 1, .slice a.m 1 a.cm, .slice a.w 0 a.cw, .slice a.e 1 a.ce, .slice a.o 0 a.co, .slice a.n 0 a.cn] := rfl
theorem cells_D (a : Ads) : sD.cells a = #[.int .i64 1, .int .i64 2, .int .i64 2, .int .i64 1, .slice a.m 1 a.cm, .slice a.w 0 a.cw, .slice a.e 1 a.ce, .slice a.o 0 a.co, .slice a.n 0 a.cn] := rfl
theorem cells_E (a : Ads) : sE.cells a = #[.int .i64 1, .int .i64 2, .int .i64 2, .int .i64 1, .slice a.m 1 a.cm, .slice a.w 0 a.cw, .slice a.e 2 a.ce, .slice a.o 0 a.co, .slice a.n 1 a.cn] := rfl
theorem cells_Z : sZ.cells noAds = #[.int .i64 0, .int .i64 0, .int .i64 0, .int .i64 0, .slice none 0 0, .slice none 0 0, .slice none 0 0, .slice none 0 0, .slice none 0 0] := rfl
theorem begun8W_calls (w : World) : Calls Tryz.prog 44 #[] w fun e w' => e = .returned (.bool true) ∧ Turn [] w w' := by
 have C := η (begun8_calls recFace w)
 go_enter Tryz.func44, Tryz.ntmps44
 go_wp2_with fail
 refine C.out.mono ?_
 rintro e x1 ⟨rfl, t1⟩
 have T := η t1
 clear t1 C
 go_wp2_with fail
 go_ret
 exact ⟨rfl, T.out⟩
theorem begun10_calls (w : World) : Calls Tryz.prog 16 #[] w fun e w' => e = .returned (.bool true) ∧ Turn [] w w' := by
 have CN := η (stNew_calls 1 w)
 rw [newN] at CN
 obtain ⟨aN, haN⟩ := ε noAds
 rw [← haN] at CN
 clear haN
 go_enter Tryz.func16, Tryz.ntmps16
 go_wp2_with fail
 refine CN.out.mono ?_
 rintro e xN ⟨rfl, isN, tN⟩
 have nb := Bx.new isN
 rw [cells_N] at nb
 have ta := Turn.alloc [] xN (.cells #[.int .i64 1, .int .i64 1, .int .i64 1, .int .i64 0, .slice aN.m 0 aN.cm, .slice aN.w 0 aN.cw, .slice aN.e 0 aN.ce, .slice aN.o 0 aN.co, .slice aN.n 0 aN.cn] 27)
 have TN := η ((tN).trans ta)
 have BN := η nb
 rw [cells_N]
 clear nb ta isN tN
 go_wp2_with fail
 generalize hy : xN.alloc (.cells #[.int .i64 1, .int .i64 1, .int .i64 1, .int .i64 0, .slice aN.m 0 aN.cm, .slice aN.w 0 aN.cw, .slice aN.e 0 aN.ce, .slice aN.o 0 aN.co, .slice aN.n 0 aN.cn] 27) = yN at *
 have hsN : yN.heap.size = xN.heap.size + 1 := by rw [← hy]; simp
 clear hy
 have ht := Turn.alloc [] yN (.cells #[.string ⟨#[113]⟩, .string ⟨#[120]⟩] 45)
 have hq := ps_new yN (qT, xT) (by decide +kernel) (by decide +kernel)
 rw [hsN] at hq
 have C := apply_at (BN.out.is.still ht) mN bgA none (some ⟨xN.heap.size + 1, 0, none⟩) 0 1 (il_none _) hq (by unfold okI bgA; decide) (by unfold okI bgA; decide) stA mA
 rw [cells_N, show bgA.cells none 0 (some ⟨xN.heap.size + 1, 0, none⟩) 1 = #[.int .i64 4, .int .i64 8589934593, .int .i64 0, .bool false, .slice none 0 0, .slice (some ⟨xN.heap.size + 1, 0, none⟩) 1 1] from rfl] at C
 refine C.mono ?_
 rintro e xA ⟨aA, rfl, isA, tA⟩
 clear C
 have tx := ht.trans tA
 have BN := η (BN.out.still tx)
 have T0 := η (TN.out.trans tx)
 clear ht tx hq
 have nb := Bx.new isA
 rw [cells_A] at nb
 have ta := Turn.alloc [] xA (.cells #[.int .i64 1, .int .i64 1, .int .i64 1, .int .i64 0, .slice aA.m 0 aA.cm, .slice aA.w 1 aA.cw, .slice aA.e 0 aA.ce, .slice aA.o 0 aA.co, .slice aA.n 0 aA.cn] 27)
 have TA := η ((T0.out).trans ta)
 have BA := η nb
 have BN := η (BN.out.still ta)
 rw [cells_A]
 clear nb ta isA tA
 go_wp2_with fail
 generalize hy : xA.alloc (.cells #[.int .i64 1, .int .i64 1, .int .i64 1, .int .i64 0, .slice aA.m 0 aA.cm, .slice aA.w 1 aA.cw, .slice aA.e 0 aA.ce, .slice aA.o 0 aA.co, .slice aA.n 0 aA.cn] 27) = yA at *
 have hsA : yA.heap.size = xA.heap.size + 1 := by rw [← hy]; simp
 clear hy
 clear T0
 have ht := Turn.refl [] yA
 have C := apply_at (BA.out.is.still ht) mA bgB none none 0 0 (il_none _) (ps_none _) (by unfold okI bgB; decide) (by unfold okI bgB; decide) stB mB
 rw [cells_A, show bgB.cells none 0 none 0 = #[.int .i64 5, .int .i64 8589934593, .int .i64 0, .bool true, .slice none 0 0, .slice none 0 0] from rfl] at C
 refine C.mono ?_
 rintro e xB ⟨aB, rfl, isB, tB⟩
 clear C
 have tx := ht.trans tB
 have BN := η (BN.out.still tx)
 have BA := η (BA.out.still tx)
 have T0 := η (TA.out.trans tx)
 clear ht tx
 have nb := Bx.new isB
 rw [cells_B] at nb
 have ta := Turn.alloc [] xB (.cells #[.int .i64 1, .int .i64 2, .int .i64 2, .int .i64 0, .slice aB.m 1 aB.cm, .slice aB.w 0 aB.cw, .slice aB.e 1 aB.ce, .slice aB.o 0 aB.co, .slice aB.n 0 aB.cn] 27)
 have TB := η ((T0.out).trans ta)
 have BB := η nb
 have BN := η (BN.out.still ta)
 have BA := η (BA.out.still ta)
 rw [cells_B]
 clear nb ta isB tB
 go_wp2_with fail
 generalize hy : xB.alloc (.cells #[.int .i64 1, .int .i64 2, .int .i64 2, .int .i64 0, .slice aB.m 1 aB.cm, .slice aB.w 0 aB.cw, .slice aB.e 1 aB.ce, .slice aB.o 0 aB.co, .slice aB.n 0 aB.cn] 27) = yB at *
 have hsB : yB.heap.size = xB.heap.size + 1 := by rw [← hy]; simp
 clear hy
 clear T0
 have ht := Turn.refl [] yB
 have C := apply_at (BB.out.is.still ht) mB bgC none none 0 0 (il_none _) (ps_none _) (by unfold okI bgC; decide) (by unfold okI bgC; decide) stC mC
 rw [cells_B, show bgC.cells none 0 none 0 = #[.int .i64 1, .int .i64 4294967297, .int .i64 0, .bool false, .slice none 0 0, .slice none 0 0] from rfl] at C
 refine C.mono ?_
 rintro e xC ⟨aC, rfl, isC, tC⟩
 clear C
 have tx := ht.trans tC
 have BN := η (BN.out.still tx)
 have BA := η (BA.out.still tx)
 have BB := η (BB.out.still tx)
 have T0 := η (TB.out.trans tx)
 clear ht tx
 have nb := Bx.new isC
 rw [cells_C] at nb
 have ta := Turn.alloc [] xC (.cells #[.int .i64 1, .int .i64 2, .int .i64 2, .int .i64 1, .slice aC.m 1 aC.cm, .slice aC.w 0 aC.cw, .slice aC.e 1 aC.ce, .slice aC.o 0 aC.co, .slice aC.n 0 aC.cn] 27)
 have TC := η ((T0.out).trans ta)
 have BC := η nb
 have BN := η (BN.out.still ta)
 have BA := η (BA.out.still ta)
 have BB := η (BB.out.still ta)
 rw [cells_C]
 clear nb ta isC tC
 go_wp2_with fail
 generalize hy : xC.alloc (.cells #[.int .i64 1, .int .i64 2, .int .i64 2, .int .i64 1, .slice aC.m 1 aC.cm, .slice aC.w 0 aC.cw, .slice aC.e 1 aC.ce, .slice aC.o 0 aC.co, .slice aC.n 0 aC.cn] 27) = yC at *
 have hsC : yC.heap.size = xC.heap.size + 1 := by rw [← hy]; simp
 clear hy
 clear T0
 have ht := Turn.refl [] yC
 have C := apply_at (BC.out.is.still ht) mC bgD none none 0 0 (il_none _) (ps_none _) (by unfold okI bgD; decide) (by unfold okI bgD; decide) stD mD
 rw [cells_C, show bgD.cells none 0 none 0 = #[.int .i64 2, .int .i64 4294967297, .int .i64 4294967297, .bool false, .slice none 0 0, .slice none 0 0] from rfl] at C
 refine C.mono ?_
 rintro e xD ⟨aD, rfl, isD, tD⟩
 clear C
 have tx := ht.trans tD
 have BN := η (BN.out.still tx)
 have BA := η (BA.out.still tx)
 have BB := η (BB.out.still tx)
 have BC := η (BC.out.still tx)
 have T0 := η (TC.out.trans tx)
 clear ht tx
 have nb := Bx.new isD
 rw [cells_D] at nb
 have ta := Turn.alloc [] xD (.cells #[.int .i64 1, .int .i64 2, .int .i64 2, .int .i64 1, .slice aD.m 1 aD.cm, .slice aD.w 0 aD.cw, .slice aD.e 1 aD.ce, .slice aD.o 0 aD.co, .slice aD.n 0 aD.cn] 27)
 have TD := η ((T0.out).trans ta)
 have BD := η nb
 have BN := η (BN.out.still ta)
 have BA := η (BA.out.still ta)
 have BB := η (BB.out.still ta)
 have BC := η (BC.out.still ta)
 rw [cells_D]
 clear nb ta isD tD
 go_wp2_with fail
 generalize hy : xD.alloc (.cells #[.int .i64 1, .int .i64 2, .int .i64 2, .int .i64 1, .slice aD.m 1 aD.cm, .slice aD.w 0 aD.cw, .slice aD.e 1 aD.ce, .slice aD.o 0 aD.co, .slice aD.n 0 aD.cn] 27) = yD at *
 have hsD : yD.heap.size = xD.heap.size + 1 := by rw [← hy]; simp
 clear hy
 clear T0
 have ht := Turn.alloc [] yD (.cells #[.int .i64 2] 3)
 have hp := il_new yD 2 3 (by unfold okI; decide)
 rw [hsD] at hp
 have C := apply_at (BD.out.is.still ht) mD bgE (some ⟨xD.heap.size + 1, 0, none⟩) none 1 0 hp (ps_none _) (by unfold okI bgE; decide) (by unfold okI bgE; decide) stE mE
 rw [cells_D, show bgE.cells (some ⟨xD.heap.size + 1, 0, none⟩) 1 none 0 = #[.int .i64 8, .int .i64 4294967297, .int .i64 0, .bool false, .slice (some ⟨xD.heap.size + 1, 0, none⟩) 1 1, .slice none 0 0] from rfl] at C
 refine C.mono ?_
 rintro e xE ⟨aE, rfl, isE, tE⟩
 clear C
 have tx := ht.trans tE
 have BN := η (BN.out.still tx)
 have BA := η (BA.out.still tx)
 have BB := η (BB.out.still tx)
 have BC := η (BC.out.still tx)
 have BD := η (BD.out.still tx)
 have T0 := η (TD.out.trans tx)
 clear ht tx hp
 have nb := Bx.new isE
 rw [cells_E] at nb
 have ta := Turn.alloc [] xE (.cells #[.int .i64 1, .int .i64 2, .int .i64 2, .int .i64 1, .slice aE.m 1 aE.cm, .slice aE.w 0 aE.cw, .slice aE.e 2 aE.ce, .slice aE.o 0 aE.co, .slice aE.n 1 aE.cn] 27)
 have TE := η ((T0.out).trans ta)
 have BE := η nb
 have BN := η (BN.out.still ta)
 have BA := η (BA.out.still ta)
 have BB := η (BB.out.still ta)
 have BC := η (BC.out.still ta)
 have BD := η (BD.out.still ta)
 rw [cells_E]
 clear nb ta isE tE
 go_wp2_with fail
 generalize hy : xE.alloc (.cells #[.int .i64 1, .int .i64 2, .int .i64 2, .int .i64 1, .slice aE.m 1 aE.cm, .slice aE.w 0 aE.cw, .slice aE.e 2 aE.ce, .slice aE.o 0 aE.co, .slice aE.n 1 aE.cn] 27) = yE at *
 have hsE : yE.heap.size = xE.heap.size + 1 := by rw [← hy]; simp
 clear hy
 clear T0
 have CE := stEnc_calls BE.out.is mE.fit
 rw [cells_E] at CE
 refine CE.mono ?_
 rintro e x7 ⟨v7, rfl, hv7, -, t7⟩
 obtain ⟨av, cv, rfl, sl7, -⟩ := Sl.of_owns (hv7 (mayB_iff.2 mE))
 have CD := η (stDec_calls mE mE.fit rfl sl7)
 obtain ⟨nL, hnL⟩ := ε ((stBytes sE).length)
 rw [← hnL] at CD ⊢
 have BN := η (BN.out.still t7)
 have BA := η (BA.out.still t7)
 have BB := η (BB.out.still t7)
 have BC := η (BC.out.still t7)
 have BD := η (BD.out.still t7)
 have BE := η (BE.out.still t7)
 have T0 := η (TE.out.trans t7)
 clear CE hv7 sl7 hnL t7
 go_wp2_with fail
 refine CD.out.mono ?_
 rintro e xF ⟨aF, rfl, isF, tF⟩
 have BN := η (BN.out.still tF)
 have BA := η (BA.out.still tF)
 have BB := η (BB.out.still tF)
 have BC := η (BC.out.still tF)
 have BD := η (BD.out.still tF)
 have BE := η (BE.out.still tF)
 have T1 := η (T0.out.trans tF)
 clear CD T0
 have nb := Bx.new isF
 rw [cells_E] at nb
 have ta := Turn.alloc [] xF (.cells #[.int .i64 1, .int .i64 2, .int .i64 2, .int .i64 1, .slice aF.m 1 aF.cm, .slice aF.w 0 aF.cw, .slice aF.e 2 aF.ce, .slice aF.o 0 aF.co, .slice aF.n 1 aF.cn] 27)
 have T2 := η (T1.out.trans ta)
 have BF := η nb
 have BN := η (BN.out.still ta)
 have BA := η (BA.out.still ta)
 have BB := η (BB.out.still ta)
 have BC := η (BC.out.still ta)
 have BD := η (BD.out.still ta)
 have BE := η (BE.out.still ta)
 rw [cells_E]
 clear nb ta isF tF T1
 have hh := BB.out.head
 rw [cells_B] at hh
 obtain ⟨b_0, b_1, b_2, b_3, b_4, b_5, b_6, b_7, b_8⟩ := nine_of hh
 clear hh
 go_wp2_with fail
 clear b_0 b_1 b_2 b_3 b_4 b_5 b_6 b_7 b_8
 generalize hy : xF.alloc (.cells #[.int .i64 1, .int .i64 2, .int .i64 2, .int .i64 1, .slice aF.m 1 aF.cm, .slice aF.w 0 aF.cw, .slice aF.e 2 aF.ce, .slice aF.o 0 aF.co, .slice aF.n 1 aF.cn] 27) = yF at *
 clear hy
 have CX := next_calls BB.out.is qT
 rw [bestB, cells_B] at CX
 dsimp only [Option.getD, Option.isSome, msgC] at CX
 unfold qT xT at CX
 refine CX.mono ?_
 rintro e x9 ⟨rfl, t9⟩
 have BN := η (BN.out.still t9)
 have BA := η (BA.out.still t9)
 have BB := η (BB.out.still t9)
 have BC := η (BC.out.still t9)
 have BD := η (BD.out.still t9)
 have BE := η (BE.out.still t9)
 have BF := η (BF.out.still t9)
 have T3 := η (T2.out.trans t9)
 clear CX t9 T2
 have hm9 := heap_alloc_new x9 (.cells #[.int .i64 4294967297, .string ⟨#[113]⟩, .string ⟨#[120]⟩, .int .i64 1, .int .i64 0, .int .i64 0] 49)
 have ta := Turn.alloc [] x9 (.cells #[.int .i64 4294967297, .string ⟨#[113]⟩, .string ⟨#[120]⟩, .int .i64 1, .int .i64 0, .int .i64 0] 49)
 have BN := η (BN.out.still ta)
 have BA := η (BA.out.still ta)
 have BB := η (BB.out.still ta)
 have BC := η (BC.out.still ta)
 have BD := η (BD.out.still ta)
 have BE := η (BE.out.still ta)
 have BF := η (BF.out.still ta)
 have T4 := η (T3.out.trans ta)
 have HM := η hm9
 clear hm9 ta T3
 go_wp2_with fail
 generalize hy : x9.alloc (.cells #[.int .i64 4294967297, .string ⟨#[113]⟩, .string ⟨#[120]⟩, .int .i64 1, .int .i64 0, .int .i64 0] 49) = y9 at *
 clear hy
 have CX := begun8W_calls y9
 refine CX.mono ?_
 rintro e z10 ⟨rfl, u10⟩
 have BN := η (BN.out.still u10)
 have BA := η (BA.out.still u10)
 have BB := η (BB.out.still u10)
 have BC := η (BC.out.still u10)
 have BD := η (BD.out.still u10)
 have BE := η (BE.out.still u10)
 have BF := η (BF.out.still u10)
 have HM := η (u10.heap HM.out)
 have T5 := η (T4.out.trans u10)
 clear CX u10 T4
 have hh := BN.out.head
 rw [cells_N] at hh
 obtain ⟨n_0, n_1, n_2, n_3, n_4, n_5, n_6, n_7, n_8⟩ := nine_of hh
 clear hh
 go_wp2_with fail
 clear n_0 n_1 n_2 n_3 n_4 n_5 n_6 n_7 n_8
 have CX := may_calls BN.out.is mN.fit
 rw [mayB_iff.2 mN, cells_N] at CX
 refine CX.mono ?_
 rintro e z11 ⟨rfl, u11⟩
 have BN := η (BN.out.still u11)
 have BA := η (BA.out.still u11)
 have BB := η (BB.out.still u11)
 have BC := η (BC.out.still u11)
 have BD := η (BD.out.still u11)
 have BE := η (BE.out.still u11)
 have BF := η (BF.out.still u11)
 have HM := η (u11.heap HM.out)
 have T6 := η (T5.out.trans u11)
 clear CX u11 T5
 go_wp2_with fail
 have CX := may_calls (StZ z11) fitZ
 rw [mZ, cells_Z] at CX
 refine CX.mono ?_
 rintro e z12 ⟨rfl, u12⟩
 have BN := η (BN.out.still u12)
 have BA := η (BA.out.still u12)
 have BB := η (BB.out.still u12)
 have BC := η (BC.out.still u12)
 have BD := η (BD.out.still u12)
 have BE := η (BE.out.still u12)
 have BF := η (BF.out.still u12)
 have HM := η (u12.heap HM.out)
 have T7 := η (T6.out.trans u12)
 clear CX u12 T6
 have hh := BA.out.head
 rw [cells_A] at hh
 obtain ⟨a_0, a_1, a_2, a_3, a_4, a_5, a_6, a_7, a_8⟩ := nine_of hh
 clear hh
 have hh := BB.out.head
 rw [cells_B] at hh
 obtain ⟨b_0, b_1, b_2, b_3, b_4, b_5, b_6, b_7, b_8⟩ := nine_of hh
 clear hh
 have hh := BD.out.head
 rw [cells_D] at hh
 obtain ⟨d_0, d_1, d_2, d_3, d_4, d_5, d_6, d_7, d_8⟩ := nine_of hh
 clear hh
 have hh := BE.out.head
 rw [cells_E] at hh
 obtain ⟨e_0, e_1, e_2, e_3, e_4, e_5, e_6, e_7, e_8⟩ := nine_of hh
 clear hh
 obtain ⟨gb, ob, eb, hb⟩ := BB.out.is.ms.at (i := 0) (x := ⟨4294967297, qT, xT, 1, 0, 0⟩) rfl
 rw [eb] at b_4
 have wb0 := hb 0 (.int .i64 4294967297) rfl
 rw [Nat.zero_mul, Nat.add_zero] at wb0
 have Eb := η eb
 clear eb hb
 obtain ⟨gd, od, ed, hd⟩ := BD.out.is.ms.at (i := 0) (x := ⟨4294967297, qT, xT, 1, 0, 4294967297⟩) rfl
 rw [ed] at d_4
 have wd5 := hd 5 (.int .i64 4294967297) rfl
 rw [Nat.zero_mul, Nat.add_zero] at wd5
 have Ed := η ed
 clear ed hd
 obtain ⟨ge, oe, ee, he⟩ := BE.out.is.ms.at (i := 0) (x := ⟨4294967297, qT, xT, 1, 1, 0⟩) rfl
 rw [ee] at e_4
 have we4 := he 4 (.int .i64 1) rfl
 rw [Nat.zero_mul, Nat.add_zero] at we4
 have we5 := he 5 (.int .i64 0) rfl
 rw [Nat.zero_mul, Nat.add_zero] at we5
 have Ee := η ee
 clear ee he
 go_wp2_with fail
 clear wb0 wd5 we4 we5 a_0 a_1 a_2 a_3 a_4 a_5 a_6 a_7 a_8 b_0 b_1 b_2 b_3 b_4 b_5 b_6 b_7 b_8 d_0 d_1 d_2 d_3 d_4 d_5 d_6 d_7 d_8 e_0 e_1 e_2 e_3 e_4 e_5 e_6 e_7 e_8
 have CX := can_calls BE.out.is mE bgF none none 0 0 (il_none _) (ps_none _) (by unfold okI bgF; decide) (by unfold okI bgF; decide)
 rw [canF, cells_E, Ee.out, show bgF.cells none 0 none 0 = #[.int .i64 3, .int .i64 8589934593, .int .i64 0, .bool false, .slice none 0 0, .slice none 0 0] from rfl] at CX
 refine CX.mono ?_
 rintro e z13 ⟨rfl, u13⟩
 have BN := η (BN.out.still u13)
 have BA := η (BA.out.still u13)
 have BB := η (BB.out.still u13)
 have BC := η (BC.out.still u13)
 have BD := η (BD.out.still u13)
 have BE := η (BE.out.still u13)
 have BF := η (BF.out.still u13)
 have HM := η (u13.heap HM.out)
 have T8 := η (T7.out.trans u13)
 clear CX u13 T7
 have hh := BF.out.head
 rw [cells_E] at hh
 obtain ⟨f_0, f_1, f_2, f_3, f_4, f_5, f_6, f_7, f_8⟩ := nine_of hh
 clear hh
 have hh := BE.out.head
 rw [cells_E] at hh
 obtain ⟨e_0, e_1, e_2, e_3, e_4, e_5, e_6, e_7, e_8⟩ := nine_of hh
 clear hh
 rw [Ee.out] at e_4
 go_wp2_with fail
 clear f_0 f_1 f_2 f_3 f_4 f_5 f_6 f_7 f_8 e_0 e_1 e_2 e_3 e_4 e_5 e_6 e_7 e_8
 have CX := stEq_calls BF.out.is BE.out.is
 rw [eqEE, cells_E, cells_E, Ee.out] at CX
 refine CX.mono ?_
 rintro e z14 ⟨rfl, u14⟩
 have BN := η (BN.out.still u14)
 have BA := η (BA.out.still u14)
 have BB := η (BB.out.still u14)
 have BC := η (BC.out.still u14)
 have BD := η (BD.out.still u14)
 have BE := η (BE.out.still u14)
 have BF := η (BF.out.still u14)
 have HM := η (u14.heap HM.out)
 have T9 := η (T8.out.trans u14)
 clear CX u14 T8
 have hh := BE.out.head
 rw [cells_E] at hh
 obtain ⟨e_0, e_1, e_2, e_3, e_4, e_5, e_6, e_7, e_8⟩ := nine_of hh
 clear hh
 rw [Ee.out] at e_4
 have hh := BD.out.head
 rw [cells_D] at hh
 obtain ⟨d_0, d_1, d_2, d_3, d_4, d_5, d_6, d_7, d_8⟩ := nine_of hh
 clear hh
 rw [Ed.out] at d_4
 go_wp2_with fail
 clear e_0 e_1 e_2 e_3 e_4 e_5 e_6 e_7 e_8 d_0 d_1 d_2 d_3 d_4 d_5 d_6 d_7 d_8
 have CX := stEq_calls BE.out.is BD.out.is
 rw [eqED, cells_E, cells_D, Ee.out, Ed.out] at CX
 refine CX.mono ?_
 rintro e z15 ⟨rfl, u15⟩
 have BN := η (BN.out.still u15)
 have BA := η (BA.out.still u15)
 have BB := η (BB.out.still u15)
 have BC := η (BC.out.still u15)
 have BD := η (BD.out.still u15)
 have BE := η (BE.out.still u15)
 have BF := η (BF.out.still u15)
 have HM := η (u15.heap HM.out)
 have T10 := η (T9.out.trans u15)
 clear CX u15 T9
 obtain ⟨n_0, n_1, n_2, n_3, n_4, n_5⟩ := six_ofA HM.out
 have hh := BB.out.head
 rw [cells_B] at hh
 obtain ⟨b_0, b_1, b_2, b_3, b_4, b_5, b_6, b_7, b_8⟩ := nine_of hh
 clear hh
 rw [Eb.out] at b_4
 go_wp2_with fail
 clear n_0 n_1 n_2 n_3 n_4 n_5 b_0 b_1 b_2 b_3 b_4 b_5 b_6 b_7 b_8
 have CX := room_calls BB.out.is (ps_none _) (by show 1 + pending sB + 0 ≤ 1000000; decide +kernel) qT
 rw [roomBq, cells_B, Eb.out] at CX
 unfold qT at CX
 dsimp only [List.length_nil] at CX
 refine CX.mono ?_
 rintro e z16 ⟨rfl, u16⟩
 have BN := η (BN.out.still u16)
 have BA := η (BA.out.still u16)
 have BB := η (BB.out.still u16)
 have BC := η (BC.out.still u16)
 have BD := η (BD.out.still u16)
 have BE := η (BE.out.still u16)
 have BF := η (BF.out.still u16)
 have HM := η (u16.heap HM.out)
 have T11 := η (T10.out.trans u16)
 clear CX u16 T10
 have hh := BB.out.head
 rw [cells_B] at hh
 obtain ⟨b_0, b_1, b_2, b_3, b_4, b_5, b_6, b_7, b_8⟩ := nine_of hh
 clear hh
 rw [Eb.out] at b_4
 go_wp2_with fail
 clear b_0 b_1 b_2 b_3 b_4 b_5 b_6 b_7 b_8
 have CX := queues_calls BB.out.is (ps_none _) (by show 1 + pending sB + 0 ≤ 1000000; decide +kernel)
 rw [quesB, cells_B, Eb.out] at CX
 dsimp only [List.length_nil] at CX
 refine CX.mono ?_
 rintro e z17 ⟨aq, cq, rfl, -, u17⟩
 have BN := η (BN.out.still u17)
 have BA := η (BA.out.still u17)
 have BB := η (BB.out.still u17)
 have BC := η (BC.out.still u17)
 have BD := η (BD.out.still u17)
 have BE := η (BE.out.still u17)
 have BF := η (BF.out.still u17)
 have HM := η (u17.heap HM.out)
 have T12 := η (T11.out.trans u17)
 clear CX u17 T11
 go_wp2_with fail
 go_ret
 exact ⟨rfl, T12.out⟩
open Go.ChangeShapes Go.WideShapes Go.ChangeAt Go.RowKit
end Go.Proofs.YtlmefpanoimkcaaGreat
namespace Go.Proofs.YtlmefpanoimkcaaGreat.joinMk
open Go
theorem joined_mk {P : Program} {f : FuncId} {fn : Func} {s : ChangeSpec} {c : OpenClaim}
 (k0 : (c.wf (OpenSpec.ofChange s) : Bool) = true)
 (k1 : (laidOutB P : Bool) = true)
 (k2 : (mapsRowed P : Bool) = true)
 (k3 : (fn.params.all (P.readableRec ·) : Bool) = true)
 (k4 : (namedTie P c.named s.vars : Bool) = true)
 (k5 : ((c.stops == []) : Bool) = true)
 (k6 : ((P.stops == []) : Bool) = true)
 (k7 : ((c.knobs == []) : Bool) = true)
 (k8 : ((P.stopKnobs == []) : Bool) = true)
 (k9 : ((c.inPlace == P.inPlace f) : Bool) = true)
 (k10 : ((c.unfollowed == P.unfollowed f) : Bool) = true)
 (k11 : ((c.recurses == P.recurses f) : Bool) = true)
 (k12 : ((c.named == P.varsNamed f) : Bool) = true)
 (k13 : ((c.maps == (fn.params.toList ++ s.plain.varTypes P).any (P.mapsRec ·)) : Bool) = true)
 (k14 : ((c.ifaces == (fn.params.toList ++ s.plain.varTypes P).any (P.ifacesRec ·)) : Bool) = true)
 (k15 : ((c.mapsOut == P.mapsAmong fn.resultTypes.toList) : Bool) = true)
 (k16 : ((c.loops == (fn.params.toList ++ s.plain.varTypes P).any (P.loopsFrom ·)) : Bool) = true)
 (k17 : ((c.wideKeys == (fn.params.toList ++ s.plain.varTypes P ++ fn.resultTypes.toList).any (P.wideKeysFrom ·)) : Bool) = true)
 (k18 : (s.vars.all (P.varReadable ·) : Bool) = true)
 (k19 : (fn.resultTypes.all (fun t => P.readableRec t && decide (t < P.types.size)) : Bool) = true)
 (k20 : ((c.ifacesOut == fn.resultTypes.toList.any (P.ifacesRec ·)) : Bool) = true)
 (k21 : ((c.loopsOut == fn.resultTypes.toList.any (P.loopsFrom ·)) : Bool) = true)
 (k22 : ((c.plainKeys == P.plainKeys) : Bool) = true)
 (k23 : (c.shortTexts.isNone : Bool) = true)
 (k24 : (P.stopsHeard : Bool) = true)
 (k25 : (P.mayEnter : Bool) = true)
 (k26 : ((c.lifted == P.liftsFinal) : Bool) = true)
 (k27 : ((P.make == some c.make) : Bool) = true)
 (k28 : ((c.kinds == (if c.domain.isEmpty then [] else fn.params.toList.map fun t => match P.underlying t with | some (.int k) => some k | _ => none)) : Bool) = true)
 (k29 : ((c.pinned == c.pinnedBy) : Bool) = true)
 (k30 : ((c.veiled == (fn.params.toList ++ s.plain.varTypes P ++ fn.resultTypes.toList).any (P.veiledRec ·)) : Bool) = true)
 (k31 : (c.veiledFits P fn.params.toList (fn.params.toList ++ s.plain.varTypes P ++ fn.resultTypes.toList) : Bool) = true)
 : joinedFacts P f fn s c = true := by
 have and_t : ∀ {a b : Bool}, a = true → b = true → (a && b) = true := fun h g => by rw [h, g]; rfl
 exact (and_t (and_t (and_t (and_t (and_t (and_t (and_t (and_t (and_t (and_t (and_t (and_t (and_t (and_t (and_t (and_t (and_t (and_t (and_t (and_t (and_t (and_t (and_t (and_t (and_t (and_t (and_t (and_t (and_t (and_t (and_t k0 k1) k2) k3) k4) k5) k6) k7) k8) k9) k10) k11) k12) k13) k14) k15) k16) k17) k18) k19) k20) k21) k22) k23) k24) k25) k26) k27) k28) k29) k30) k31)
end Go.Proofs.YtlmefpanoimkcaaGreat.joinMk
namespace Go.Proofs.YtlmefpanoimkcaaGreat.closed
open Go
theorem p_laidOutB : (laidOutB Tryz.prog : Bool) = true := by kernel_rfl
theorem p_mapsRowed : (mapsRowed Tryz.prog : Bool) = true := by kernel_rfl
theorem p_stops : ((Tryz.prog.stops == []) : Bool) = true := by kernel_rfl
theorem p_stopKnobs : ((Tryz.prog.stopKnobs == []) : Bool) = true := by kernel_rfl
theorem p_stopsHeard : (Tryz.prog.stopsHeard : Bool) = true := by kernel_rfl
theorem p_mayEnter : (Tryz.prog.mayEnter : Bool) = true := by kernel_rfl
theorem plainKeys_is : Tryz.prog.plainKeys = Rows.orderRoomRow.plainKeys := by kernel_rfl
theorem lifted_is : Tryz.prog.liftsFinal = Rows.orderRoomRow.lifted := by kernel_rfl
theorem make_is : Tryz.prog.make = some Rows.orderRoomRow.make := by kernel_rfl
end Go.Proofs.YtlmefpanoimkcaaGreat.closed
