/-
  StoreOverWalk
-/
import Derived.Test.YtjhlfjgfohoflaaGreatLst
import Derived.Test.YtjhlfjgfohoflaaGreatCt
import Derived.Test.YtjhlfjgfohoflaaGreatRmy
import Derived.Test.YtjhlfjgfohoflaaGreatPkBD
set_option maxHeartbeats 16000000
set_option maxRecDepth 100000
namespace Go.Proofs.YtjhlfjgfohoflaaGreat
open Go.RowKit Go.Proofs.YtjhlfjgfohoflaaGreat.V
theorem over_pure {s : StV} (r : RecV) (hk : r.kind ≠ 9) (ht : keyB EndV.tid s.ends r.tid = true) : canE s r = if recB r = true then 9 else 1 := by
 unfold canE
 cases h : recB r with
 | false => rw [if_pos rfl, if_neg (by simp)]
 | true => rw [if_neg (by simp), if_pos ⟨hk, ht⟩, if_pos rfl]
theorem storeOver_walk {w : World} (s : StV) (a : Ads) (hs : StX w a s) (hf : s.fit) (hz : s.ms.length * 64 ≤ 140737488355328 ∧ s.waits.length * 32 ≤ 140737488355328 ∧ s.ends.length * 16 ≤ 140737488355328 ∧ s.open_.length * 32 ≤ 140737488355328 ∧ s.noes.length * 32 ≤ 140737488355328)
 (r : RecV) (ap : Option Addr) (cp : Nat) (aq : Option Addr) (cq : Nat) (wp : Il w ap cp r.parts) (wq : Ps w aq cq r.puts) (wk : okI r.kind) (wt : okI r.tid) (wi : okI r.id) :
 Calls Tryz.prog 11 #[.agg (s.cells a), .agg (r.cells ap cp aq cq)] w fun e w' => e = .returned (.bool true) ∧ Below w.heap.size w w' := by
 have CS := η (fun wx (t : Turn [] w wx) => lawState_calls t hs hf hz)
 have CR := η (fun wx (t : Turn [] w wx) => lawCut_calls r (wp.turn t) (wq.turn t) ⟨wk, wt, wi⟩)
 have HD := η (cut_deep hs.deep)
 have HFT := η (cut_fit hf)
 obtain ⟨s', hs'⟩ : ∃ x, x = cutS s := ⟨_, rfl⟩
 obtain ⟨r', hr'⟩ : ∃ x, x = recCut r := ⟨_, rfl⟩
 rw [← hs'] at CS HD HFT
 rw [← hr'] at CR
 clear hs hf hz wp wq wk wt wi hs' hr'
 unfold StV.cells RecV.cells at *
 obtain ⟨b, hbd⟩ := ε w.heap.size
 have HBD := η hbd
 go_enter Tryz.func11, Tryz.ntmps11
 go_upto_region 1 with fail
 have hb1 := (Turn.alloc [] (w.alloc (.cells #[.int .i64 s.broker, .int .i64 s.nextId, .int .i64 s.nextSeq, .int .i64 s.tx, .slice a.m s.ms.length a.cm, .slice a.w s.waits.length a.cw, .slice a.e s.ends.length a.ce, .slice a.o s.open_.length a.co, .slice a.n s.noes.length a.cn] 27)) (.cells #[.int .i64 r.kind, .int .i64 r.tid, .int .i64 r.id, .bool r.yes, .slice ap r.parts.length cp, .slice aq r.puts.length cq] 37)).heap (heap_alloc_new w (.cells #[.int .i64 s.broker, .int .i64 s.nextId, .int .i64 s.nextSeq, .int .i64 s.tx, .slice a.m s.ms.length a.cm, .slice a.w s.waits.length a.cw, .slice a.e s.ends.length a.ce, .slice a.o s.open_.length a.co, .slice a.n s.noes.length a.cn] 27)) (by simp)
 have hb2 := heap_alloc_new (w.alloc (.cells #[.int .i64 s.broker, .int .i64 s.nextId, .int .i64 s.nextSeq, .int .i64 s.tx, .slice a.m s.ms.length a.cm, .slice a.w s.waits.length a.cw, .slice a.e s.ends.length a.ce, .slice a.o s.open_.length a.co, .slice a.n s.noes.length a.cn] 27)) (.cells #[.int .i64 r.kind, .int .i64 r.tid, .int .i64 r.id, .bool r.yes, .slice ap r.parts.length cp, .slice aq r.puts.length cq] 37)
 rw [show (w.alloc (.cells #[.int .i64 s.broker, .int .i64 s.nextId, .int .i64 s.nextSeq, .int .i64 s.tx, .slice a.m s.ms.length a.cm, .slice a.w s.waits.length a.cw, .slice a.e s.ends.length a.ce, .slice a.o s.open_.length a.co, .slice a.n s.noes.length a.cn] 27)).heap.size = w.heap.size + 1 by simp] at hb2
 have T0 := η ((Turn.alloc [] w (.cells #[.int .i64 s.broker, .int .i64 s.nextId, .int .i64 s.nextSeq, .int .i64 s.tx, .slice a.m s.ms.length a.cm, .slice a.w s.waits.length a.cw, .slice a.e s.ends.length a.ce, .slice a.o s.open_.length a.co, .slice a.n s.noes.length a.cn] 27)).trans (Turn.alloc [] (w.alloc (.cells #[.int .i64 s.broker, .int .i64 s.nextId, .int .i64 s.nextSeq, .int .i64 s.tx, .slice a.m s.ms.length a.cm, .slice a.w s.waits.length a.cw, .slice a.e s.ends.length a.ce, .slice a.o s.open_.length a.co, .slice a.n s.noes.length a.cn] 27)) (.cells #[.int .i64 r.kind, .int .i64 r.tid, .int .i64 r.id, .bool r.yes, .slice ap r.parts.length cp, .slice aq r.puts.length cq] 37)) (by simp))
 generalize (w.alloc (.cells #[.int .i64 s.broker, .int .i64 s.nextId, .int .i64 s.nextSeq, .int .i64 s.tx, .slice a.m s.ms.length a.cm, .slice a.w s.waits.length a.cw, .slice a.e s.ends.length a.ce, .slice a.o s.open_.length a.co, .slice a.n s.noes.length a.cn] 27)).alloc (.cells #[.int .i64 r.kind, .int .i64 r.tid, .int .i64 r.id, .bool r.yes, .slice ap r.parts.length cp, .slice aq r.puts.length cq] 37) = y0 at *
 rw [← hbd] at hb1 hb2 ⊢
 have HB1 := η hb1
 have HB2 := η hb2
 clear hb1 hb2 hbd
 go_wp2_with fail
 refine (begun10_calls y0).mono ?_
 rintro e x1 ⟨rfl, t1⟩
 have HC1 := η (t1.heap HB1.out (by simp))
 have HC2 := η (t1.heap HB2.out (by simp))
 have T1 := η (T0.out.trans t1 (by simp))
 clear t1 HB1 HB2 T0
 go_upto_region 4 with fail
 have TD := η (Turn.drew [] x1)
 refine Pq.start [5] (fun _ => True) (fun z => z.cell? ⟨b + 1, 0, none⟩ = some (.int .i64 r.kind) ∧ z.cell? ⟨b + 1, 1, none⟩ = some (.int .i64 r.tid) ∧ z.cell? ⟨b + 1, 2, none⟩ = some (.int .i64 r.id) ∧ z.cell? ⟨b + 1, 3, none⟩ = some (.bool r.yes) ∧ z.cell? ⟨b + 1, 4, none⟩ = some (.slice ap r.parts.length cp) ∧ z.cell? ⟨b + 1, 5, none⟩ = some (.slice aq r.puts.length cq)) (by kernel_rfl) ?_
 have hS : True := trivial
 obtain ⟨m0, m1, m2, m3, m4, m5⟩ := six_cells_of (TD.out.heap HC2.out (by simp))
 have hT : (fun z : World => z.cell? ⟨b + 1, 0, none⟩ = some (.int .i64 r.kind) ∧ z.cell? ⟨b + 1, 1, none⟩ = some (.int .i64 r.tid) ∧ z.cell? ⟨b + 1, 2, none⟩ = some (.int .i64 r.id) ∧ z.cell? ⟨b + 1, 3, none⟩ = some (.bool r.yes) ∧ z.cell? ⟨b + 1, 4, none⟩ = some (.slice ap r.parts.length cp) ∧ z.cell? ⟨b + 1, 5, none⟩ = some (.slice aq r.puts.length cq)) x1.drew := ⟨m0, m1, m2, m3, m4, m5⟩
 dsimp only at hT
 clear m0 m1 m2 m3 m4 m5
 refine Pq.tk2 2 (some 12) (v := ?_) hS hT ?_ ?_
 rotate_left
 · (intro x hx; obtain ⟨y0, y1, y2, y3, y4, y5⟩ := hx; go_simp; try with_reducible rfl)
 simp only [Act.put, σa, σz, σs]
 obtain ⟨c0, c1, c2, c3, c4, c5, c6, c7, c8⟩ := nine_of (TD.out.heap HC1.out (by simp))
 refine Pq.one (i := 0) (by kernel_rfl) rfl ?_
 intro K hK
 rw [if_pos (by rfl)]
 go_simp
 refine hK _ _ hS (.inr id) ?_
 clear hK K c0 c1 c2 c3 c4 c5 c6 c7 c8
 refine Pq.one (i := 1) (by kernel_rfl) rfl ?_
 intro K hK
 rw [if_pos (by rfl)]
 go_simp
 refine (CS.out _ (T1.out.trans TD.out (by simp))).mono ?_
 rintro e x2 ⟨q, a', LW, LO, LN, rfl, hlb⟩
 have LB := η hlb
 clear hlb
 have T2 := η LB.out.base
 refine hK _ _ hS (.inr (fun hh => ⟨T2.out.cell hh.1 (by simp), T2.out.cell hh.2.1 (by simp), T2.out.cell hh.2.2.1 (by simp), T2.out.cell hh.2.2.2.1 (by simp), T2.out.cell hh.2.2.2.2.1 (by simp), T2.out.cell hh.2.2.2.2.2 (by simp)⟩)) ?_
 clear hK K CS hT
 refine Pq.one (i := 3) (by kernel_rfl) rfl ?_
 intro K hK
 rw [if_pos (by rfl)]
 go_simp
 refine (CR.out _ (T1.out.trans (TD.out.trans T2.out (by simp)) (by simp))).mono ?_
 rintro e x3 ⟨ap', cp', aq', cq', rfl, hro, hfw, t3⟩
 have RO := η hro
 have FW := η hfw
 have T3 := η t3
 refine hK _ _ hS (.inr (fun hh => ⟨t3.cell hh.1 (by simp), t3.cell hh.2.1 (by simp), t3.cell hh.2.2.1 (by simp), t3.cell hh.2.2.2.1 (by simp), t3.cell hh.2.2.2.2.1 (by simp), t3.cell hh.2.2.2.2.2 (by simp)⟩)) ?_
 clear hK K CR hro hfw t3
 have HE1 := η ((TD.out.trans (T2.out.trans T3.out (by simp)) (by simp)).heap HC1.out (by simp))
 have HE2 := η ((TD.out.trans (T2.out.trans T3.out (by simp)) (by simp)).heap HC2.out (by simp))
 obtain ⟨c0, c1, c2, c3, c4, c5, c6, c7, c8⟩ := nine_of HE1.out
 have f0 : ∀ j, x3.frozen? ⟨b, j, none⟩ = false := fun j => unfrozen_of HE1.out
 have T4 := η (nine_turn x3 b (.int .i64 s'.broker) (.int .i64 s'.nextId) (.int .i64 s'.nextSeq) (.int .i64 s'.tx) (.slice a'.m s'.ms.length a'.cm) (.slice a'.w s'.waits.length a'.cw) (.slice a'.e s'.ends.length a'.ce) (.slice a'.o s'.open_.length a'.co) (.slice a'.n s'.noes.length a'.cn))
 have HG1 := η (nine_heapC HE1.out (.int .i64 s'.broker) (.int .i64 s'.nextId) (.int .i64 s'.nextSeq) (.int .i64 s'.tx) (.slice a'.m s'.ms.length a'.cm) (.slice a'.w s'.waits.length a'.cw) (.slice a'.e s'.ends.length a'.ce) (.slice a'.o s'.open_.length a'.co) (.slice a'.n s'.noes.length a'.cn))
 have HG2 := η (T4.out.heap HE2.out (by simp))
 refine Pq.one (i := 4) (by kernel_rfl) rfl ?_
 intro K hK
 rw [if_pos (by rfl)]
 go_simp
 obtain ⟨z4, hz4⟩ := ε ((((((((((x3.setCell ⟨b, 0, none⟩ (.int .i64 s'.broker)).setCell ⟨b, 1, none⟩ (.int .i64 s'.nextId)).setCell ⟨b, 2, none⟩ (.int .i64 s'.nextSeq)).setCell ⟨b, 3, none⟩ (.int .i64 s'.tx)).setCell ⟨b, 4, none⟩ (.slice a'.m s'.ms.length a'.cm)).setCell ⟨b, 5, none⟩ (.slice a'.w s'.waits.length a'.cw)).setCell ⟨b, 6, none⟩ (.slice a'.e s'.ends.length a'.ce)).setCell ⟨b, 7, none⟩ (.slice a'.o s'.open_.length a'.co)).setCell ⟨b, 8, none⟩ (.slice a'.n s'.noes.length a'.cn)))
 have T4 : Hid (Turn [b] x3 z4) := by rw [hz4]; exact T4
 have HG1 : Hid (z4.heap[b]? = some (.cells #[.int .i64 s'.broker, .int .i64 s'.nextId, .int .i64 s'.nextSeq, .int .i64 s'.tx, .slice a'.m s'.ms.length a'.cm, .slice a'.w s'.waits.length a'.cw, .slice a'.e s'.ends.length a'.ce, .slice a'.o s'.open_.length a'.co, .slice a'.n s'.noes.length a'.cn] 27)) := by rw [hz4]; exact HG1
 have HG2 : Hid (z4.heap[b + 1]? = some (.cells #[.int .i64 r.kind, .int .i64 r.tid, .int .i64 r.id, .bool r.yes, .slice ap r.parts.length cp, .slice aq r.puts.length cq] 37)) := by rw [hz4]; exact HG2
 rw [← hz4]
 clear hz4
 refine hK _ _ hS (.inr (fun hh => ⟨T4.out.cell hh.1 (by simp), T4.out.cell hh.2.1 (by simp), T4.out.cell hh.2.2.1 (by simp), T4.out.cell hh.2.2.2.1 (by simp), T4.out.cell hh.2.2.2.2.1 (by simp), T4.out.cell hh.2.2.2.2.2 (by simp)⟩)) ?_
 clear hK K c0 c1 c2 c3 c4 c5 c6 c7 c8 f0
 have T5 := η (six_turnR z4 (b + 1) (.int .i64 r'.kind) (.int .i64 r'.tid) (.int .i64 r'.id) (.bool r'.yes) (.slice ap' r'.parts.length cp') (.slice aq' r'.puts.length cq'))
 have HH2 := η (six_stores' HG2.out (.int .i64 r'.kind) (.int .i64 r'.tid) (.int .i64 r'.id) (.bool r'.yes) (.slice ap' r'.parts.length cp') (.slice aq' r'.puts.length cq'))
 obtain ⟨z, hzz⟩ := ε (((((((z4.setCell ⟨b + 1, 0, none⟩ (.int .i64 r'.kind)).setCell ⟨b + 1, 1, none⟩ (.int .i64 r'.tid)).setCell ⟨b + 1, 2, none⟩ (.int .i64 r'.id)).setCell ⟨b + 1, 3, none⟩ (.bool r'.yes)).setCell ⟨b + 1, 4, none⟩ (.slice ap' r'.parts.length cp')).setCell ⟨b + 1, 5, none⟩ (.slice aq' r'.puts.length cq')))
 rw [← hzz] at T5 HH2
 have HZZ := η hzz
 clear hzz
 have HH1 := η (T5.out.heap HG1.out (by simp))
 have hg2 : z4.heap[b + 1]? = some (.cells #[.int .i64 r.kind, .int .i64 r.tid, .int .i64 r.id, .bool r.yes, .slice ap r.parts.length cp, .slice aq r.puts.length cq] 37) := HG2.out
 obtain ⟨m0, m1, m2, m3, m4, m5⟩ := six_cells_of hg2
 have f0 : ∀ j, z4.frozen? ⟨b + 1, j, none⟩ = false := fun j => unfrozen_of hg2
 have SZ : Hid (∀ wx, Turn [b + 1] z wx → StIs wx a' s') := η (fun wx tx => by
  refine LB.out.reads HD.out (l := [b, b + 1]) ((T3.out.mono (by simp)).trans ((T4.out.mono (by simp)).trans ((T5.out.mono (by simp)).trans (tx.mono (by simp)) (fun i hi => .inl hi)) (fun i hi => .inl hi)) (fun i hi => .inl hi)) (fun k hk => ?_)
  have h1 := (Array.getElem?_eq_some_iff.1 (TD.out.heap HC2.out (by simp))).1
  have h2 := HBD.out
  simp only [List.mem_cons, List.not_mem_nil, or_false] at hk
  omega)
 have RZ : Hid (∀ wx, Turn [b + 1] z wx → RowsOf x2 wx r' ap' cp' aq' cq') := η (fun wx tx => by
  refine RO.out.turn (l := [b, b + 1]) ((T4.out.mono (by simp)).trans ((T5.out.mono (by simp)).trans (tx.mono (by simp)) (fun i hi => .inl hi)) (fun i hi => .inl hi)) (fun k hk => ?_)
  have h1 := (Array.getElem?_eq_some_iff.1 ((TD.out.trans T2.out (by simp)).heap HC2.out (by simp))).1
  simp only [List.mem_cons, List.not_mem_nil, or_false] at hk
  omega)
 have TZ : Hid (Turn [] w z) := η ((T1.out.trans (TD.out.trans (T2.out.trans T3.out (by simp)) (by simp)) (by simp)).trans ((T4.out.mono (l' := [b, b + 1]) (by simp)).trans (T5.out.mono (by simp)) (fun i hi => .inl hi)) (fun i hi => .inr (by simp at hi; have := HBD.out; omega)))
 clear hg2
 refine Pq.one (i := 5) (by kernel_rfl) rfl ?_
 intro K hK
 rw [if_pos (by rfl)]
 go_simp
 rw [← HZZ.out]
 refine hK _ _ hS (.inl (by simp)) (Pq.done (by kernel_rfl) ?_ _)
 clear hK K m0 m1 m2 m3 m4 m5 f0
 have HBZ : Hid (w.heap.size ≤ b) := η (by rw [HBD.out]; exact Nat.le_refl _)
 clear HG1 HG2 HE1 HE2 T4 T5 LB RO T3 T2 TD HC1 HC2 T1
 have KM := η (fun wx (t : Turn [] z wx) => refMay_calls (SZ.out wx (t.mono (by simp))) HFT.out)
 unfold StV.cells at KM
 obtain ⟨mb, hmb⟩ := ε (mayB s')
 rw [← hmb] at KM
 have HMB := η hmb
 clear hmb
 obtain ⟨c0, c1, c2, c3, c4, c5, c6, c7, c8⟩ := nine_of HH1.out
 go_wp2_with fail
 refine (KM.out _ (Turn.refl [] z)).mono ?_
 rintro e x5 ⟨rfl, t5⟩
 have V5 := η t5
 clear t5 KM c0 c1 c2 c3 c4 c5 c6 c7 c8
 cases mb with
 | false =>
  go_wp2_with fail
  go_ret
  exact ⟨rfl, (TZ.out.trans V5.out (by simp)).belowAll⟩
 | true =>
  have HM := η (mayB_iff.1 HMB.out.symm)
  obtain ⟨c0, c1, c2, c3, c4, c5, c6, c7, c8⟩ := nine_of (V5.out.heap HH1.out (by simp))
  obtain ⟨m0, m1, m2, m3, m4, m5⟩ := six_cells_of (V5.out.heap HH2.out (by simp))
  obtain ⟨ne, hne⟩ := ε s'.ends.length
  have HNE := η hne
  rw [← hne] at c6
  clear hne
  by_cases he : ne = 0
  case pos =>
   have n0 : ((ne : Int) == 0) = true := by simp [he]
   clear he
   go_wp2_with fail
   go_ret
   exact ⟨rfl, (TZ.out.trans V5.out (by simp)).belowAll⟩
  have n0 : ((ne : Int) == 0) = false := by simp [he]
  obtain ⟨kd, hkd⟩ := ε r'.kind
  have HKD := η hkd
  rw [← hkd] at m0
  clear hkd
  by_cases h9 : kd = 9
  case pos =>
   have n9 : (kd == 9) = true := by simp [h9]
   clear h9
   go_wp2_with fail
   go_ret
   exact ⟨rfl, (TZ.out.trans V5.out (by simp)).belowAll⟩
  have n9 : (kd == 9) = false := by simp [h9]
  have H9 := η h9
  obtain ⟨j, hj⟩ := ε (ne / 2)
  have hjn : j < ne := by omega
  have hlen := (SZ.out x5 (V5.out.mono (by simp))).ends.len
  rw [← HNE.out] at hlen
  obtain ⟨ev, hev⟩ : ∃ x, s'.ends[j]? = some x := ⟨_, List.getElem?_eq_getElem (by rw [← HNE.out]; exact hjn)⟩
  obtain ⟨g1, o1, eg, hat⟩ := (SZ.out x5 (V5.out.mono (by simp))).ends.at hev
  have r0 := hat 0 (.int .i64 ev.tid) rfl
  rw [Nat.add_zero] at r0
  have hq2 : ((ne : Int)).tdiv 2 = (j : Int) := by rw [Int.tdiv_eq_ediv_of_nonneg (by omega)]; omega
  have hq3 : IntKind.i64.wrap (j : Int) = (j : Int) := by rw [IntKind.wrap_i64]; omega
  have hb : 0 ≤ (j : Int) ∧ (j : Int) < (ne : Int) := by omega
  have HKY : Hid (keyB EndV.tid s'.ends ev.tid = true) := η (keyB_iff.2 ⟨ev, List.mem_of_getElem? hev, rfl⟩)
  have HOK := η (HFT.out.ends ev (List.mem_of_getElem? hev))
  obtain ⟨tt, htt⟩ := ε ev.tid
  rw [← htt] at r0 HKY HOK
  rw [eg] at c6
  have f0 : ∀ j, x5.frozen? ⟨b + 1, j, none⟩ = false := fun j => unfrozen_of (V5.out.heap HH2.out (by simp))
  have T8 := η (Turn.setCell (l := [b + 1]) (b := b + 1) (i := 1) x5 (by simp) (.int .i64 tt))
  have HI1 := η (T8.out.heap (V5.out.heap HH1.out (by simp)) (by simp))
  have HI2 := η (block_set (i := 1) (V5.out.heap HH2.out (by simp)) (.int .i64 tt))
  clear hat hev htt he h9 hj eg
  go_upto_region 8 with fail
  clear c0 c1 c2 c3 c4 c5 c6 c7 c8 m0 m1 m2 m3 m4 m5 r0 f0 n0 n9 hq2 hq3 hb
  have W8 := η ((V5.out.mono (l' := [b + 1]) (by simp)).trans T8.out (fun i hi => .inl hi))
  have TZ8 : Hid (Turn [] w (x5.setCell ⟨b + 1, 1, none⟩ (.int .i64 tt))) := η (TZ.out.trans W8.out (fun i hi => .inr (by have := HBZ.out; simp at hi; omega)))
  generalize x5.setCell ⟨b + 1, 1, none⟩ (.int .i64 tt) = z2 at *
  obtain ⟨rb, hrb⟩ := ε (recB ⟨r'.kind, tt, r'.id, r'.yes, r'.parts, r'.puts⟩)
  have hce := over_pure (s := s') ⟨r'.kind, tt, r'.id, r'.yes, r'.parts, r'.puts⟩ (by rw [← HKD.out]; exact H9.out) HKY.out
  rw [← hrb] at hce
  have KC := can_calls (SZ.out z2 W8.out) HM.out ⟨r'.kind, tt, r'.id, r'.yes, r'.parts, r'.puts⟩ ap' aq' cp' cq' ((RZ.out z2 W8.out).il FW.out) ((RZ.out z2 W8.out).ps FW.out) HOK.out FW.out.fit.2.2
  have KR := fun wx (t : Turn [] z2 wx) => refRecord_calls ⟨r'.kind, tt, r'.id, r'.yes, r'.parts, r'.puts⟩ (ap := ap') (cp := cp') (aq := aq') (cq := cq') (((RZ.out z2 W8.out).il FW.out).turn t) (((RZ.out z2 W8.out).ps FW.out).turn t)
  rw [hce] at KC
  rw [← hrb] at KR
  unfold StV.cells RecV.cells at KC
  unfold RecV.cells at KR
  dsimp only at KC KR
  have KC := η KC
  have KR := η KR
  have HJ2 : Hid (z2.heap[b + 1]? = some (.cells #[.int .i64 r'.kind, .int .i64 tt, .int .i64 r'.id, .bool r'.yes, .slice ap' r'.parts.length cp', .slice aq' r'.puts.length cq'] 37)) := HI2
  clear hce hrb HI2
  obtain ⟨c0, c1, c2, c3, c4, c5, c6, c7, c8⟩ := nine_of HI1.out
  obtain ⟨m0, m1, m2, m3, m4, m5⟩ := six_cells_of HJ2.out
  go_wp2_with fail
  refine KC.out.mono ?_
  rintro e x9 ⟨rfl, t9⟩
  have V9 := η t9
  clear t9 KC c0 c1 c2 c3 c4 c5 c6 c7 c8 m0 m1 m2 m3 m4 m5
  cases rb with
  | true =>
   rw [if_pos rfl]
   go_wp2_with fail
   go_ret
   exact ⟨rfl, (TZ8.out.trans V9.out (by simp)).belowAll⟩
  | false =>
   rw [if_neg (by simp)]
   obtain ⟨m0, m1, m2, m3, m4, m5⟩ := six_cells_of (V9.out.heap HJ2.out (by simp))
   go_wp2_with fail
   refine (KR.out _ V9.out).mono ?_
   rintro e x10 ⟨rfl, t10⟩
   have V10 := η t10
   clear t10 KR m0 m1 m2 m3 m4 m5
   go_wp2_with fail
   go_ret
   exact ⟨rfl, (TZ8.out.trans (V9.out.trans V10.out (by simp)) (by simp)).belowAll⟩
end Go.Proofs.YtjhlfjgfohoflaaGreat
