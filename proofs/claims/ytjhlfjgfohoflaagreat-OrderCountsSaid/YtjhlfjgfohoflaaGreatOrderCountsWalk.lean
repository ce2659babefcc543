/-
  The walk of the law OrderCounts.
-/
import Derived.Test.YtjhlfjgfohoflaaGreatLst
import Derived.Test.YtjhlfjgfohoflaaGreatCt
import Derived.Test.YtjhlfjgfohoflaaGreatRmy
import Derived.Test.YtjhlfjgfohoflaaGreatPkBD
import Derived.Test.YtjhlfjgfohoflaaGreatPkAL
import Derived.Test.YtjhlfjgfohoflaaGreatOcv
import Derived.Test.YtjhlfjgfohoflaaGreatPkBC
import Derived.Test.YtjhlfjgfohoflaaGreatPkAW
import Derived.Test.YtjhlfjgfohoflaaGreatPkAA
set_option maxHeartbeats 16000000
set_option maxRecDepth 100000
namespace Go.Proofs.YtjhlfjgfohoflaaGreat
open Go.RowKit Go.Proofs.YtjhlfjgfohoflaaGreat.V
theorem orderCounts_walk {w : World} (s : StV) (a : Ads) (hs : StX w a s) (hf : s.fit) (hz : s.ms.length * 64 ≤ 140737488355328 ∧ s.waits.length * 32 ≤ 140737488355328 ∧ s.ends.length * 16 ≤ 140737488355328 ∧ s.open_.length * 32 ≤ 140737488355328 ∧ s.noes.length * 32 ≤ 140737488355328) :
  Calls Tryz.prog 14 #[.agg (s.cells a)] w fun e w' => e = .returned (.bool true) ∧ Below w.heap.size w w' := by
 have CS := η (fun wx (t : Turn [] w wx) => lawState_calls t hs hf hz)
 have HD := η (cut_deep hs.deep)
 have HFT := η (cut_fit hf)
 have BI := η (fun (q : ByteArray) (l : List MsgV) (h : Rising MsgV.seq l) => best_find (q := q) h)
 obtain ⟨s', hs'⟩ : ∃ x, x = cutS s := ⟨_, rfl⟩
 rw [← hs'] at CS HD HFT
 clear hs hf hz hs'
 unfold StV.cells at *
 obtain ⟨b, hbd⟩ : ∃ b, b = w.heap.size := ⟨_, rfl⟩
 have HBD := η hbd
 go_enter Tryz.func14, Tryz.ntmps14
 go_upto_region 1 with fail
 have hb1 := heap_alloc_new w (.cells #[.int .i64 s.broker, .int .i64 s.nextId, .int .i64 s.nextSeq, .int .i64 s.tx, .slice a.m s.ms.length a.cm, .slice a.w s.waits.length a.cw, .slice a.e s.ends.length a.ce, .slice a.o s.open_.length a.co, .slice a.n s.noes.length a.cn] 27)
 have T0 := η (Turn.alloc [] w (.cells #[.int .i64 s.broker, .int .i64 s.nextId, .int .i64 s.nextSeq, .int .i64 s.tx, .slice a.m s.ms.length a.cm, .slice a.w s.waits.length a.cw, .slice a.e s.ends.length a.ce, .slice a.o s.open_.length a.co, .slice a.n s.noes.length a.cn] 27))
 generalize w.alloc (.cells #[.int .i64 s.broker, .int .i64 s.nextId, .int .i64 s.nextSeq, .int .i64 s.tx, .slice a.m s.ms.length a.cm, .slice a.w s.waits.length a.cw, .slice a.e s.ends.length a.ce, .slice a.o s.open_.length a.co, .slice a.n s.noes.length a.cn] 27) = y0 at *
 rw [← hbd] at hb1 ⊢
 have HB1 := η hb1
 clear hb1 hbd
 go_wp2_with fail
 refine (begun10_calls y0).mono ?_
 rintro e x1 ⟨rfl, t1⟩
 have HC1 := η (t1.heap HB1.out (by simp))
 have T1 := η (T0.out.trans t1 (by simp))
 clear t1 HB1 T0
 obtain ⟨c0, c1, c2, c3, c4, c5, c6, c7, c8⟩ := nine_of HC1.out
 go_wp2_with fail
 clear c0 c1 c2 c3 c4 c5 c6 c7 c8
 refine (CS.out _ T1.out).mono ?_
 rintro e x2 ⟨q0, a', LW, LO, LN, rfl, hlb⟩
 have LB := η hlb
 clear hlb CS
 have T2 := η LB.out.base
 have HE1 := η (T2.out.heap HC1.out (by simp))
 obtain ⟨c0, c1, c2, c3, c4, c5, c6, c7, c8⟩ := nine_of HE1.out
 have f0 : ∀ j, x2.frozen? ⟨b, j, none⟩ = false := fun j => unfrozen_of HE1.out
 have TN4 := η (nine_turn x2 b (.int .i64 s'.broker) (.int .i64 s'.nextId) (.int .i64 s'.nextSeq) (.int .i64 s'.tx) (.slice a'.m s'.ms.length a'.cm) (.slice a'.w s'.waits.length a'.cw) (.slice a'.e s'.ends.length a'.ce) (.slice a'.o s'.open_.length a'.co) (.slice a'.n s'.noes.length a'.cn))
 have HN1 := η (nine_heapC HE1.out (.int .i64 s'.broker) (.int .i64 s'.nextId) (.int .i64 s'.nextSeq) (.int .i64 s'.tx) (.slice a'.m s'.ms.length a'.cm) (.slice a'.w s'.waits.length a'.cw) (.slice a'.e s'.ends.length a'.ce) (.slice a'.o s'.open_.length a'.co) (.slice a'.n s'.noes.length a'.cn))
 go_upto_region 5 with fail
 clear c0 c1 c2 c3 c4 c5 c6 c7 c8 f0
 obtain ⟨z, hzz⟩ : ∃ z, z = (((((((((x2.setCell ⟨b, 0, none⟩ (.int .i64 s'.broker)).setCell ⟨b, 1, none⟩ (.int .i64 s'.nextId)).setCell ⟨b, 2, none⟩ (.int .i64 s'.nextSeq)).setCell ⟨b, 3, none⟩ (.int .i64 s'.tx)).setCell ⟨b, 4, none⟩ (.slice a'.m s'.ms.length a'.cm)).setCell ⟨b, 5, none⟩ (.slice a'.w s'.waits.length a'.cw)).setCell ⟨b, 6, none⟩ (.slice a'.e s'.ends.length a'.ce)).setCell ⟨b, 7, none⟩ (.slice a'.o s'.open_.length a'.co)).setCell ⟨b, 8, none⟩ (.slice a'.n s'.noes.length a'.cn)) := ⟨_, rfl⟩
 have T4 : Hid (Turn [b] x2 z) := by rw [hzz]; exact TN4
 have HG1 : Hid (z.heap[b]? = some (.cells #[.int .i64 s'.broker, .int .i64 s'.nextId, .int .i64 s'.nextSeq, .int .i64 s'.tx, .slice a'.m s'.ms.length a'.cm, .slice a'.w s'.waits.length a'.cw, .slice a'.e s'.ends.length a'.ce, .slice a'.o s'.open_.length a'.co, .slice a'.n s'.noes.length a'.cn] 27)) := by rw [hzz]; exact HN1
 rw [← hzz]
 clear hzz TN4 HN1
 have SZ : Hid (∀ wx, Turn [] z wx → StIs wx a' s') := η (fun wx tx => by
  refine LB.out.reads HD.out (l := [b]) (T4.out.trans (tx.mono (by simp)) (fun i hi => .inl hi)) (fun k hk => ?_)
  have h1 := (Array.getElem?_eq_some_iff.1 HC1.out).1
  have h2 := HBD.out
  simp only [List.mem_cons, List.not_mem_nil, or_false] at hk
  omega)
 have TZ : Hid (Turn [] w z) := η ((T1.out.trans T2.out (by simp)).trans T4.out (fun i hi => .inr (by simp at hi; have := HBD.out; omega)))
 clear HE1 HC1 T4 LB T2 T1 HBD
 have KM := η (refMay_calls (SZ.out z (Turn.refl _ _)) HFT.out)
 have KS := η (fun wx (t : Turn [] z wx) => may_calls (SZ.out wx t) HFT.out)
 have KC := η (fun wx (t : Turn [] z wx) q => counts_calls (SZ.out wx t) q)
 have KN := η (fun wx (t : Turn [] z wx) q => next_calls (SZ.out wx t) q)
 have KQ := η (fun wx (t : Turn [] z wx) hm => queues_calls (SZ.out wx t) (ps_none wx) hm)
 have HDE := η dead_calls
 unfold StV.cells at KM KS KC KN KQ
 obtain ⟨mb, hmb⟩ : ∃ m, m = mayB s' := ⟨_, rfl⟩
 rw [← hmb] at KM KS
 have HMB := η hmb
 clear hmb
 obtain ⟨c0, c1, c2, c3, c4, c5, c6, c7, c8⟩ := nine_of HG1.out
 go_wp2_with fail
 refine KM.out.mono ?_
 rintro e x5 ⟨rfl, t5⟩
 have V5 := η t5
 clear t5 KM c0 c1 c2 c3 c4 c5 c6 c7 c8
 obtain ⟨c0, c1, c2, c3, c4, c5, c6, c7, c8⟩ := nine_of (V5.out.heap HG1.out (by simp))
 cases mb with
 | false =>
  go_wp2_with fail
  refine (KS.out _ V5.out).mono ?_
  rintro e x6 ⟨rfl, t6⟩
  have V6 := η t6
  clear t6
  go_wp2_with fail
  go_ret
  exact ⟨rfl, (TZ.out.trans (V5.out.trans V6.out (by simp)) (by simp)).belowAll⟩
 | true =>
  have HM := η (mayB_iff.1 HMB.out.symm)
  have HBS : Hid (∀ q, bestM q s'.ms = s'.ms.find? (freeB q)) := η (fun q => BI.out q _ HM.out.seqs)
  have CQ := KQ.out _ V5.out (pend_room HM.out)
  have hq6 := queues_few HM.out
  obtain ⟨Q, hQ⟩ : ∃ Q, Q = queuesQ s' [] := ⟨_, rfl⟩
  have HSM : Hid ((Q.map (ofQ s'.ms)).sum = s'.ms.length) := η (by rw [hQ]; exact queues_sum s' [])
  rw [← hQ] at CQ hq6
  obtain ⟨nq, hnq⟩ : ∃ n, n = Q.length := ⟨_, rfl⟩
  have HNQ := η hnq
  rw [← hnq] at CQ hq6
  dsimp only [List.length_nil] at CQ
  have CQ := η CQ
  have hn72 := HM.out.lms
  have lms := (SZ.out z (Turn.refl _ _)).ms.len
  obtain ⟨n, hn⟩ : ∃ n, n = s'.ms.length := ⟨_, rfl⟩
  have HN := η hn
  rw [← hn] at c4 hn72 HSM HG1 CQ KC KN
  clear hQ hnq hn KQ KS HMB lms
  go_wp2_with fail
  refine CQ.out.mono ?_
  rintro e x6 ⟨ao, cc, rfl, hq, t6⟩
  have V6 := η (V5.out.trans t6 (by simp))
  have HQ := η hq
  clear t6 hq CQ c0 c1 c2 c3 c4 c5 c6 c7 c8 V5
  go_wp2_with fail
  go_loopw [28, 4] (fun vi vs wx => ∃ k : Nat, k ≤ nq ∧ vi = .int .i64 (k : Int) ∧ vs = .int .i64 ((((Q.take k).map (ofQ s'.ms)).sum : Nat) : Int) ∧ Turn [] x6 wx) (fun vi _ _ => nq - (intOf vi).toNat)
  case atStart => exact ⟨0, by omega, rfl, rfl, Turn.refl _ _⟩
  case round =>
   obtain ⟨k, hk, rfl, rfl, ht⟩ := hrel
   have HT := η ht
   have VW := η (V6.out.trans ht (by simp))
   clear ht
   by_cases hkn : k < nq
   · have hkl : k < Q.length := by rw [← HNQ.out]; exact hkn
     obtain ⟨x, hx⟩ : ∃ x, Q[k]? = some x := ⟨_, List.getElem?_eq_getElem hkl⟩
     obtain ⟨g, hao, hcell⟩ := HQ.out k x hx
     replace hcell := HT.out.cell hcell (by simp)
     obtain ⟨q, hqq⟩ : ∃ q : ByteArray, q = ⟨x.toArray⟩ := ⟨_, rfl⟩
     replace hcell : wr.cell? ⟨g, k, none⟩ = some (.string q) := by rw [hqq]; exact hcell
     have hsn : ((Q.take (k + 1)).map (ofQ s'.ms)).sum = ((Q.take k).map (ofQ s'.ms)).sum + cnt (pQ q) s'.ms := by rw [sum_next hx, ofQ_cnt, ← hqq]
     have hsl := sum_le (ofQ s'.ms) Q (k + 1)
     rw [HSM.out, hsn] at hsl
     obtain ⟨sm, hsm⟩ : ∃ n, n = ((Q.take k).map (ofQ s'.ms)).sum := ⟨_, rfl⟩
     rw [← hsm] at hsn hsl ⊢
     have hsum := cnt_sum q s'.ms
     have hbe := best_some (HBS.out q)
     obtain ⟨cE, hcE⟩ : ∃ n, n = cnt (freeB q) s'.ms := ⟨_, rfl⟩
     obtain ⟨cH, hcH⟩ : ∃ n, n = cnt (pH q) s'.ms := ⟨_, rfl⟩
     obtain ⟨cD, hcD⟩ : ∃ n, n = cnt (pD q) s'.ms := ⟨_, rfl⟩
     obtain ⟨cn, hcn⟩ : ∃ n, n = cnt (pQ q) s'.ms := ⟨_, rfl⟩
     have KC1 := KC.out wr VW.out q
     rw [← hcE, ← hcH, ← hcD] at KC1
     rw [← hcE] at hbe
     rw [← hcE, ← hcH, ← hcD, ← hcn] at hsum
     rw [← hcn] at hsn hsl
     have HCN := η hcn
     have HSN := η hsn
     have KC1 := η KC1
     have HBE := η hbe
     have HSL := η hsl
     have HSUM := η hsum
     rw [hao]
     clear hao hqq hsn hsl hsm hsum hbe hcE hcH hcD hcn hx hkl
     obtain ⟨c0, c1, c2, c3, c4, c5, c6, c7, c8⟩ := nine_of (VW.out.heap HG1.out (by simp))
     have hb2 : 0 ≤ (k : Int) ∧ (k : Int) < (nq : Int) := by omega
     go_wp2_with fail
     clear hcell c0 c1 c2 c3 c4 c5 c6 c7 c8
     refine KC1.out.mono ?_
     rintro e x7 ⟨rfl, t7⟩
     have V7 := η (HT.out.trans t7 (by simp))
     clear t7 KC1
     go_wp2_with fail
     go_loopw [11, 10] (fun vi vn wx => ∃ j : Nat, j ≤ n ∧ vi = .int .i64 (j : Int) ∧ vn = .int .i64 (cnt (pQ q) (s'.ms.take j) : Int) ∧ Turn [] x6 wx) (fun vi _ _ => n - (intOf vi).toNat)
     case atStart => exact ⟨0, by omega, rfl, rfl, V7.out⟩
     case round =>
      obtain ⟨j, hj, rfl, rfl, hw⟩ := hrel
      have HX := η hw
      have HW := η (V6.out.trans hw (by simp))
      obtain ⟨c0, c1, c2, c3, c4, c5, c6, c7, c8⟩ := nine_of (HW.out.heap HG1.out (by simp))
      clear hw
      by_cases hjn : j < n
      · have hjl : j < s'.ms.length := by rw [← HN.out]; exact hjn
        obtain ⟨x, hx⟩ : ∃ x, s'.ms[j]? = some x := ⟨_, List.getElem?_eq_getElem hjl⟩
        obtain ⟨g2, off, hae, hat⟩ := (SZ.out _ HW.out).ms.at hx
        have q1 := hat 1 (.string x.queue) rfl
        have he := cnt_next (p := pQ q) hx
        rw [show pQ q x = decide (x.queue = q) from rfl] at he
        have hle := cnt_le (pQ q) s'.ms j
        obtain ⟨cj, hcj⟩ : ∃ n, n = cnt (pQ q) (s'.ms.take j) := ⟨_, rfl⟩
        rw [← hcj] at he hle ⊢
        obtain ⟨qu, hqu⟩ : ∃ y, y = x.queue := ⟨_, rfl⟩
        rw [← hqu] at q1 he
        rw [show a'.m = _ from hae] at c4
        have hb3 : 0 ≤ (j : Int) ∧ (j : Int) < (n : Int) := by omega
        clear hat hae hx hjl hcj hqu
        by_cases hq : qu = q
        case neg =>
         have hne2 := txt_ne hq
         have F := η (show cnt (pQ q) (s'.ms.take (j + 1)) = cj by rw [he, decide_eq_false hq]; rfl)
         clear he hq
         go_wp2_with fail
         go_roundw
         case rel => exact ⟨j + 1, by omega, by go_num, by rw [F.out], HX.out⟩
         case measure => simp [intOf]; omega
        case pos =>
         subst hq
         have F := η (show cnt (pQ qu) (s'.ms.take (j + 1)) = cj + 1 by rw [he, decide_eq_true rfl]; rfl)
         clear he
         go_wp2_with fail
         go_roundw
         case rel => exact ⟨j + 1, by omega, by go_num, by rw [F.out]; go_num, HX.out⟩
         case measure => simp [intOf]; omega
      · have hjj : j = n := by omega
        subst hjj
        have HTK : Hid (cnt (pQ q) (s'.ms.take j) = cn) := η (by rw [List.take_of_length_le (by rw [← HN.out]; exact Nat.le_refl _), HCN.out])
        rw [HTK.out]
        have hb3 : ¬ ((j : Int) < (j : Int)) := by omega
        have KN1 := KN.out _ HW.out q
        obtain ⟨bo, hbo⟩ : ∃ y, y = bestM q s'.ms := ⟨_, rfl⟩
        have HBO := η hbo
        rw [← hbo] at KN1 HBE
        have KN1 := η KN1
        clear hbo
        go_wp2_with fail
        refine KN1.out.mono ?_
        rintro e x8 ⟨rfl, t8⟩
        have V8 := η (HX.out.trans t8 (by simp))
        clear t8 KN1 c0 c1 c2 c3 c4 c5 c6 c7 c8
        have hsum := HSUM.out
        have hsl := HSL.out
        have w1 : IntKind.i64.wrap ((cE : Int) + (cH : Int)) = (cE : Int) + (cH : Int) := by rw [IntKind.wrap_i64]; omega
        have w2 : IntKind.i64.wrap ((cE : Int) + (cH : Int) + (cD : Int)) = (cn : Int) := by rw [IntKind.wrap_i64]; omega
        have hbe := HBE.out
        cases bo with
        | none =>
         have HCZ : Hid (cE = 0) := η (by simp at hbe; omega)
         clear hbe hsum
         dsimp only [Option.getD, Option.isSome]
         rw [show (msgC msg0).toArray = #[.int .i64 0, .string ⟨#[]⟩, .string ⟨#[]⟩, .int .i64 0, .int .i64 0, .int .i64 0] from rfl]
         go_wp2_with fail
         go_roundw
         case rel => exact ⟨k + 1, by omega, by go_num, by rw [HSN.out]; go_num, V8.out.trans (Turn.alloc [] _ _) (by simp)⟩
         case measure => simp [intOf]; omega
         all_goals (exfalso; have := HCZ.out; omega)
        | some m =>
         have HCZ : Hid (¬ cE = 0) := η (by simp at hbe; omega)
         obtain ⟨e1, e2, e3⟩ := best_is (HBS.out q) HBO.out.symm
         obtain ⟨i1, qu, bd, sq, ct, by1⟩ := m
         dsimp only at e1 e2 e3
         subst e1
         subst e2
         have KD := HDE.out ⟨i1, qu, bd, sq, ct, 0⟩
         rw [e3] at KD
         have KD := η KD
         unfold msgC at KD
         dsimp only at KD
         clear hbe hsum e3
         dsimp only [Option.getD, Option.isSome]
         unfold msgC
         dsimp only
         go_wp2_with fail
         refine (KD.out _).mono ?_
         rintro e x9 ⟨rfl, t9⟩
         have V9 := η (V8.out.trans ((Turn.alloc [] _ _).trans t9 (by simp)) (by simp))
         clear t9
         go_wp2_with fail
         go_roundw
         case rel => exact ⟨k + 1, by omega, by go_num, by rw [HSN.out]; go_num, V9.out⟩
         case measure => simp [intOf]; omega
         all_goals (exfalso; have := HCZ.out; omega)
   · have hkk : k = nq := by omega
     subst hkk
     have HTK : Hid (((Q.take k).map (ofQ s'.ms)).sum = n) := η (by rw [List.take_of_length_le (by rw [← HNQ.out]; exact Nat.le_refl _), HSM.out])
     rw [HTK.out]
     have hb2 : ¬ ((k : Int) < (k : Int)) := by omega
     obtain ⟨c0, c1, c2, c3, c4, c5, c6, c7, c8⟩ := nine_of (VW.out.heap HG1.out (by simp))
     go_wp2_with fail
     go_ret
     exact ⟨rfl, (TZ.out.trans VW.out (by simp)).belowAll⟩
end Go.Proofs.YtjhlfjgfohoflaaGreat
