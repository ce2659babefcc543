/-
  Rcp
-/
import Derived.Test.YtlmefpanoimkcaaGreatApx
import Derived.Test.YtlmefpanoimkcaaGreatPkBF
set_option maxHeartbeats 4000000
set_option maxRecDepth 100000
namespace Go.Proofs.YtlmefpanoimkcaaGreat
open Go.RowKit Go.Proofs.YtlmefpanoimkcaaGreat.V
theorem one_msg : ∀ x : MsgV, ∀ u ∈ msgC x, u.oneCell' = true := fun x u hu => by
 simp [msgC] at hu
 rcases hu with rfl | rfl | rfl | rfl | rfl | rfl <;> rfl
theorem one_end : ∀ x : EndV, ∀ u ∈ endC x, u.oneCell' = true := fun x u hu => by
 simp [endC] at hu
 rcases hu with rfl | rfl <;> rfl
theorem one_br : ∀ x : Lay BrV, ∀ u ∈ brC x, u.oneCell' = true := fun x u hu => by
 simp [brC] at hu
 rcases hu with rfl | rfl <;> rfl
theorem one_pend : ∀ x : Lay PendV, ∀ u ∈ pendC x, u.oneCell' = true := fun x u hu => by
 simp [pendC] at hu
 rcases hu with rfl | rfl <;> rfl
theorem apart_new {w w' : World} {B : Nat} {e e' : TypeId} {z z' n n' : Nat} {v v' : Value} {xs xs' : List Value} (h : w.ownsRow B e z v n xs) (h' : w'.ownsRow w.heap.size e' z' v' n' xs') : Apart v v' := by
 rcases h.2 with ⟨rfl, _⟩ | ⟨g, cap, cur, rfl, _, hg, _⟩
 · exact .inl rfl
 · rcases h'.2 with ⟨rfl, _⟩ | ⟨g', cap', cur', rfl, hlo, _⟩
   · exact .inr (by simp [Value.ownBlock])
   · exact .inr (by have := (Array.getElem?_eq_some_iff.1 hg).1; simp [Value.ownBlock]; omega)
theorem refCopy_calls {w : World} {a : Ads} {s : StV} {LW : List (Lay BrV)} {LO LN : List (Lay PendV)} (vw : LW.map Lay.v = s.waits) (vo : LO.map Lay.v = s.open_) (vn : LN.map Lay.v = s.noes)
 (hm : Tx 6 msgC w a.m a.cm s.ms) (hw : Tx 2 brC w a.w a.cw LW) (he : Tx 2 endC w a.e a.ce s.ends) (ho : Tx 2 pendC w a.o a.co LO) (hn : Tx 2 pendC w a.n a.cn LN)
 (fm : s.ms.length * 64 ≤ 140737488355328) (fw : LW.length * 32 ≤ 140737488355328) (fe : s.ends.length * 16 ≤ 140737488355328) (fo : LO.length * 32 ≤ 140737488355328) (fn : LN.length * 32 ≤ 140737488355328) :
 Calls Tryz.prog 25 #[.agg (s.cells a)] w fun e w' => ∃ a', e = .returned (.agg (s.cells a')) ∧ w'.ownsRow w.heap.size 49 6 (.slice a'.m s.ms.length a'.cm) s.ms.length (s.ms.flatMap msgC) ∧
  w'.ownsRow w.heap.size 81 2 (.slice a'.w s.waits.length a'.cw) s.waits.length (LW.flatMap brC) ∧ w'.ownsRow w.heap.size 61 2 (.slice a'.e s.ends.length a'.ce) s.ends.length (s.ends.flatMap endC) ∧
  w'.ownsRow w.heap.size 65 2 (.slice a'.o s.open_.length a'.co) s.open_.length (LO.flatMap pendC) ∧ w'.ownsRow w.heap.size 65 2 (.slice a'.n s.noes.length a'.cn) s.noes.length (LN.flatMap pendC) ∧ Apart (.slice a'.o s.open_.length a'.co) (.slice a'.n s.noes.length a'.cn) ∧ Turn [] w w' := by
 have e5 : s.waits.length = LW.length := by rw [← vw, List.length_map]
 have e7 : s.open_.length = LO.length := by rw [← vo, List.length_map]
 have e8 : s.noes.length = LN.length := by rw [← vn, List.length_map]
 unfold StV.cells
 rw [e5, e7, e8]
 have Hm := η hm
 have Hw := η hw
 have He := η he
 have Ho := η ho
 have Hn := η hn
 clear hm hw he ho hn vw vo vn e5 e7 e8
 obtain ⟨nm, hnm⟩ := ε s.ms.length
 obtain ⟨nw, hnw⟩ := ε LW.length
 obtain ⟨ne, hne⟩ := ε s.ends.length
 obtain ⟨no, hno⟩ := ε LO.length
 obtain ⟨nn, hnn⟩ := ε LN.length
 have Nm := η (And.intro hnm fm)
 have Nw := η (And.intro hnw fw)
 have Ne := η (And.intro hne fe)
 have No := η (And.intro hno fo)
 have Nn := η (And.intro hnn fn)
 rw [← hnm, ← hnw, ← hne, ← hno, ← hnn]
 clear hnm hnw hne hno hnn fm fw fe fo fn
 go_enter Tryz.func25, Tryz.ntmps25
 go_upto_region 1 with fail
 have hb := (Turn.alloc [] (w.alloc (.cells #[.int .i64 s.broker, .int .i64 s.nextId, .int .i64 s.nextSeq, .int .i64 s.tx, .slice a.m nm a.cm, .slice a.w nw a.cw, .slice a.e ne a.ce, .slice a.o no a.co, .slice a.n nn a.cn] 27)) (.cells #[.int .i64 0, .int .i64 0, .int .i64 0, .int .i64 0, .slice none 0 0, .slice none 0 0, .slice none 0 0, .slice none 0 0, .slice none 0 0] 27)).heap (heap_alloc_new w (.cells #[.int .i64 s.broker, .int .i64 s.nextId, .int .i64 s.nextSeq, .int .i64 s.tx, .slice a.m nm a.cm, .slice a.w nw a.cw, .slice a.e ne a.ce, .slice a.o no a.co, .slice a.n nn a.cn] 27))
 have hr := heap_alloc_new (w.alloc (.cells #[.int .i64 s.broker, .int .i64 s.nextId, .int .i64 s.nextSeq, .int .i64 s.tx, .slice a.m nm a.cm, .slice a.w nw a.cw, .slice a.e ne a.ce, .slice a.o no a.co, .slice a.n nn a.cn] 27)) (.cells #[.int .i64 0, .int .i64 0, .int .i64 0, .int .i64 0, .slice none 0 0, .slice none 0 0, .slice none 0 0, .slice none 0 0, .slice none 0 0] 27)
 rw [show (w.alloc (.cells #[.int .i64 s.broker, .int .i64 s.nextId, .int .i64 s.nextSeq, .int .i64 s.tx, .slice a.m nm a.cm, .slice a.w nw a.cw, .slice a.e ne a.ce, .slice a.o no a.co, .slice a.n nn a.cn] 27)).heap.size = w.heap.size + 1 by simp] at hr
 have T0 := η ((Turn.alloc [] w (.cells #[.int .i64 s.broker, .int .i64 s.nextId, .int .i64 s.nextSeq, .int .i64 s.tx, .slice a.m nm a.cm, .slice a.w nw a.cw, .slice a.e ne a.ce, .slice a.o no a.co, .slice a.n nn a.cn] 27)).trans (Turn.alloc [] (w.alloc (.cells #[.int .i64 s.broker, .int .i64 s.nextId, .int .i64 s.nextSeq, .int .i64 s.tx, .slice a.m nm a.cm, .slice a.w nw a.cw, .slice a.e ne a.ce, .slice a.o no a.co, .slice a.n nn a.cn] 27)) (.cells #[.int .i64 0, .int .i64 0, .int .i64 0, .int .i64 0, .slice none 0 0, .slice none 0 0, .slice none 0 0, .slice none 0 0, .slice none 0 0] 27)))
 generalize (w.alloc (.cells #[.int .i64 s.broker, .int .i64 s.nextId, .int .i64 s.nextSeq, .int .i64 s.tx, .slice a.m nm a.cm, .slice a.w nw a.cw, .slice a.e ne a.ce, .slice a.o no a.co, .slice a.n nn a.cn] 27)).alloc (.cells #[.int .i64 0, .int .i64 0, .int .i64 0, .int .i64 0, .slice none 0 0, .slice none 0 0, .slice none 0 0, .slice none 0 0, .slice none 0 0] 27) = y0 at *
 have HB := η hb
 have HR := η hr
 clear hb hr
 obtain ⟨i0, hi, hz0, hz1, hz2⟩ := info_parts Tryz.crowMsg
 obtain ⟨c0, c1, c2, c3, c4, c5, c6, c7, c8⟩ := nine_of HB.out
 go_upto_region 2 with (at_builtin; refine append_tx 6 msgC (fun _ => rfl) one_msg (by decide) Tryz.underlying22 i0 _ _ hi hz0 hz1 hz2 rfl rfl (.const (.slice none 0 0)) (.tmp 4) rfl rfl a.m nm a.cm s.ms Nm.out.1 rfl (Hm.out.still T0.out) Nm.out.2 ?_; intro v1 w1 r1 t1; rw [← Nm.out.1] at r1; obtain ⟨pm, km, hv1⟩ := slice_form r1; subst hv1; clear c0 c1 c2 c3 c4 c5 c6 c7 c8; have hb1 := t1.heap HB.out; obtain ⟨c0, c1, c2, c3, c4, c5, c6, c7, c8⟩ := nine_of hb1; have fr : ∀ j, w1.frozen? ⟨w.heap.size, j, none⟩ = false := fun j => unfrozen_of hb1; have R1 := η r1; have T1 := η t1; have HB1 := η hb1; clear r1 t1 hb1)
 clear c0 c1 c2 c3 c4 c5 c6 c7 c8 fr
 have TS := η (Turn.setCell (l := [w.heap.size]) (b := w.heap.size) (i := 4) w1 (by simp) (.slice pm nm km))
 have HB2 : Hid ((w1.setCell ⟨w.heap.size, 4, none⟩ (.slice pm nm km)).heap[w.heap.size]? = some (.cells #[.int .i64 s.broker, .int .i64 s.nextId, .int .i64 s.nextSeq, .int .i64 s.tx, .slice pm nm km, .slice a.w nw a.cw, .slice a.e ne a.ce, .slice a.o no a.co, .slice a.n nn a.cn] 27)) := η (block_set (i := 4) HB1.out _)
 have HR2 := η (TS.out.heap (T1.out.heap HR.out))
 have HY : Hid (w.heap.size + 1 < y0.heap.size) := η (lt_of_heap HR.out)
 have TQ := η ((T1.out.mono (by simp)).trans TS.out (fun i hi => .inl hi))
 have RQm : Hid ((w1.setCell ⟨w.heap.size, 4, none⟩ (.slice pm nm km)).ownsRow y0.heap.size 49 6 (.slice pm nm km) nm (s.ms.flatMap msgC)) := η (ownsRow_over R1.out TS.out (by have := HY.out; omega))
 have RQm := η (ownsRow_base RQm.out (base' := w.heap.size + 2) (fun k hk => by have := ownsRow_lo RQm.out hk; have := HY.out; omega))
 have T0 : Hid (Turn [] w (w1.setCell ⟨w.heap.size, 4, none⟩ (.slice pm nm km))) := η (T0.out.trans TQ.out (fun i hi => .inr (by simp at hi; omega)))
 generalize w1.setCell ⟨w.heap.size, 4, none⟩ (.slice pm nm km) = y1 at *
 clear HB HR TS TQ HY R1 T1 HB1 hi hz0 hz1 hz2
 have HB := HB2
 have HR := HR2
 clear HB2 HR2
 obtain ⟨i0, hi, hz0, hz1, hz2⟩ := info_parts Tryz.crowEnd
 obtain ⟨c0, c1, c2, c3, c4, c5, c6, c7, c8⟩ := nine_of HB.out
 go_upto_region 3 with (at_builtin; refine append_tx 2 endC (fun _ => rfl) one_end (by decide) Tryz.underlying24 i0 _ _ hi hz0 hz1 hz2 rfl rfl (.const (.slice none 0 0)) (.tmp 8) rfl rfl a.e ne a.ce s.ends Ne.out.1 rfl (He.out.still T0.out) Ne.out.2 ?_; intro v1 w2 r1 t1; rw [← Ne.out.1] at r1; obtain ⟨pe, ke, hv1⟩ := slice_form r1; subst hv1; clear c0 c1 c2 c3 c4 c5 c6 c7 c8; have hb1 := t1.heap HB.out; obtain ⟨c0, c1, c2, c3, c4, c5, c6, c7, c8⟩ := nine_of hb1; have fr : ∀ j, w2.frozen? ⟨w.heap.size, j, none⟩ = false := fun j => unfrozen_of hb1; have R1 := η r1; have T1 := η t1; have HB1 := η hb1; clear r1 t1 hb1)
 clear c0 c1 c2 c3 c4 c5 c6 c7 c8 fr
 have TS := η (Turn.setCell (l := [w.heap.size]) (b := w.heap.size) (i := 6) w2 (by simp) (.slice pe ne ke))
 have HB2 : Hid ((w2.setCell ⟨w.heap.size, 6, none⟩ (.slice pe ne ke)).heap[w.heap.size]? = some (.cells #[.int .i64 s.broker, .int .i64 s.nextId, .int .i64 s.nextSeq, .int .i64 s.tx, .slice pm nm km, .slice a.w nw a.cw, .slice pe ne ke, .slice a.o no a.co, .slice a.n nn a.cn] 27)) := η (block_set (i := 6) HB1.out _)
 have HR2 := η (TS.out.heap (T1.out.heap HR.out))
 have HY : Hid (w.heap.size + 1 < y1.heap.size) := η (lt_of_heap HR.out)
 have TQ := η ((T1.out.mono (by simp)).trans TS.out (fun i hi => .inl hi))
 have RQe : Hid ((w2.setCell ⟨w.heap.size, 6, none⟩ (.slice pe ne ke)).ownsRow y1.heap.size 61 2 (.slice pe ne ke) ne (s.ends.flatMap endC)) := η (ownsRow_over R1.out TS.out (by have := HY.out; omega))
 have RQe := η (ownsRow_base RQe.out (base' := w.heap.size + 2) (fun k hk => by have := ownsRow_lo RQe.out hk; have := HY.out; omega))
 have RQm := η (ownsRow_over RQm.out TQ.out (by omega))
 have T0 : Hid (Turn [] w (w2.setCell ⟨w.heap.size, 6, none⟩ (.slice pe ne ke))) := η (T0.out.trans TQ.out (fun i hi => .inr (by simp at hi; omega)))
 generalize w2.setCell ⟨w.heap.size, 6, none⟩ (.slice pe ne ke) = y2 at *
 clear HB HR TS TQ HY R1 T1 HB1 hi hz0 hz1 hz2
 have HB := HB2
 have HR := HR2
 clear HB2 HR2
 obtain ⟨i0, hi, hz0, hz1, hz2⟩ := info_parts Tryz.crowBr
 obtain ⟨c0, c1, c2, c3, c4, c5, c6, c7, c8⟩ := nine_of HB.out
 go_upto_region 4 with (at_builtin; refine append_tx 2 brC (fun _ => rfl) one_br (by decide) Tryz.underlying23 i0 _ _ hi hz0 hz1 hz2 rfl rfl (.const (.slice none 0 0)) (.tmp 12) rfl rfl a.w nw a.cw LW Nw.out.1 rfl (Hw.out.still T0.out) Nw.out.2 ?_; intro v1 w3 r1 t1; rw [← Nw.out.1] at r1; obtain ⟨pw, kw, hv1⟩ := slice_form r1; subst hv1; clear c0 c1 c2 c3 c4 c5 c6 c7 c8; have hb1 := t1.heap HB.out; obtain ⟨c0, c1, c2, c3, c4, c5, c6, c7, c8⟩ := nine_of hb1; have fr : ∀ j, w3.frozen? ⟨w.heap.size, j, none⟩ = false := fun j => unfrozen_of hb1; have R1 := η r1; have T1 := η t1; have HB1 := η hb1; clear r1 t1 hb1)
 clear c0 c1 c2 c3 c4 c5 c6 c7 c8 fr
 have TS := η (Turn.setCell (l := [w.heap.size]) (b := w.heap.size) (i := 5) w3 (by simp) (.slice pw nw kw))
 have HB2 : Hid ((w3.setCell ⟨w.heap.size, 5, none⟩ (.slice pw nw kw)).heap[w.heap.size]? = some (.cells #[.int .i64 s.broker, .int .i64 s.nextId, .int .i64 s.nextSeq, .int .i64 s.tx, .slice pm nm km, .slice pw nw kw, .slice pe ne ke, .slice a.o no a.co, .slice a.n nn a.cn] 27)) := η (block_set (i := 5) HB1.out _)
 have HR2 := η (TS.out.heap (T1.out.heap HR.out))
 have HY : Hid (w.heap.size + 1 < y2.heap.size) := η (lt_of_heap HR.out)
 have TQ := η ((T1.out.mono (by simp)).trans TS.out (fun i hi => .inl hi))
 have RQw : Hid ((w3.setCell ⟨w.heap.size, 5, none⟩ (.slice pw nw kw)).ownsRow y2.heap.size 81 2 (.slice pw nw kw) nw (LW.flatMap brC)) := η (ownsRow_over R1.out TS.out (by have := HY.out; omega))
 have RQw := η (ownsRow_base RQw.out (base' := w.heap.size + 2) (fun k hk => by have := ownsRow_lo RQw.out hk; have := HY.out; omega))
 have RQm := η (ownsRow_over RQm.out TQ.out (by omega))
 have RQe := η (ownsRow_over RQe.out TQ.out (by omega))
 have T0 : Hid (Turn [] w (w3.setCell ⟨w.heap.size, 5, none⟩ (.slice pw nw kw))) := η (T0.out.trans TQ.out (fun i hi => .inr (by simp at hi; omega)))
 generalize w3.setCell ⟨w.heap.size, 5, none⟩ (.slice pw nw kw) = y3 at *
 clear HB HR TS TQ HY R1 T1 HB1 hi hz0 hz1 hz2
 have HB := HB2
 have HR := HR2
 clear HB2 HR2
 obtain ⟨i0, hi, hz0, hz1, hz2⟩ := info_parts Tryz.crowPd
 obtain ⟨c0, c1, c2, c3, c4, c5, c6, c7, c8⟩ := nine_of HB.out
 go_upto_region 5 with (at_builtin; refine append_tx 2 pendC (fun _ => rfl) one_pend (by decide) Tryz.underlying25 i0 _ _ hi hz0 hz1 hz2 rfl rfl (.const (.slice none 0 0)) (.tmp 16) rfl rfl a.o no a.co LO No.out.1 rfl (Ho.out.still T0.out) No.out.2 ?_; intro v1 w4 r1 t1; rw [← No.out.1] at r1; obtain ⟨po, ko, hv1⟩ := slice_form r1; subst hv1; clear c0 c1 c2 c3 c4 c5 c6 c7 c8; have hb1 := t1.heap HB.out; obtain ⟨c0, c1, c2, c3, c4, c5, c6, c7, c8⟩ := nine_of hb1; have fr : ∀ j, w4.frozen? ⟨w.heap.size, j, none⟩ = false := fun j => unfrozen_of hb1; have R1 := η r1; have T1 := η t1; have HB1 := η hb1; clear r1 t1 hb1)
 clear c0 c1 c2 c3 c4 c5 c6 c7 c8 fr
 have TS := η (Turn.setCell (l := [w.heap.size]) (b := w.heap.size) (i := 7) w4 (by simp) (.slice po no ko))
 have HB2 : Hid ((w4.setCell ⟨w.heap.size, 7, none⟩ (.slice po no ko)).heap[w.heap.size]? = some (.cells #[.int .i64 s.broker, .int .i64 s.nextId, .int .i64 s.nextSeq, .int .i64 s.tx, .slice pm nm km, .slice pw nw kw, .slice pe ne ke, .slice po no ko, .slice a.n nn a.cn] 27)) := η (block_set (i := 7) HB1.out _)
 have HR2 := η (TS.out.heap (T1.out.heap HR.out))
 have HY : Hid (w.heap.size + 1 < y3.heap.size) := η (lt_of_heap HR.out)
 have TQ := η ((T1.out.mono (by simp)).trans TS.out (fun i hi => .inl hi))
 have RQo : Hid ((w4.setCell ⟨w.heap.size, 7, none⟩ (.slice po no ko)).ownsRow y3.heap.size 65 2 (.slice po no ko) no (LO.flatMap pendC)) := η (ownsRow_over R1.out TS.out (by have := HY.out; omega))
 have RQo := η (ownsRow_base RQo.out (base' := w.heap.size + 2) (fun k hk => by have := ownsRow_lo RQo.out hk; have := HY.out; omega))
 have RQm := η (ownsRow_over RQm.out TQ.out (by omega))
 have RQe := η (ownsRow_over RQe.out TQ.out (by omega))
 have RQw := η (ownsRow_over RQw.out TQ.out (by omega))
 have T0 : Hid (Turn [] w (w4.setCell ⟨w.heap.size, 7, none⟩ (.slice po no ko))) := η (T0.out.trans TQ.out (fun i hi => .inr (by simp at hi; omega)))
 generalize w4.setCell ⟨w.heap.size, 7, none⟩ (.slice po no ko) = y4 at *
 clear HB HR TS TQ HY R1 T1 HB1 hi hz0 hz1 hz2
 have HB := HB2
 have HR := HR2
 clear HB2 HR2
 obtain ⟨i0, hi, hz0, hz1, hz2⟩ := info_parts Tryz.crowPd
 obtain ⟨c0, c1, c2, c3, c4, c5, c6, c7, c8⟩ := nine_of HB.out
 go_upto_region 6 with (at_builtin; refine append_tx 2 pendC (fun _ => rfl) one_pend (by decide) Tryz.underlying25 i0 _ _ hi hz0 hz1 hz2 rfl rfl (.const (.slice none 0 0)) (.tmp 20) rfl rfl a.n nn a.cn LN Nn.out.1 rfl (Hn.out.still T0.out) Nn.out.2 ?_; intro v1 w5 r1 t1; rw [← Nn.out.1] at r1; obtain ⟨pn, kn, hv1⟩ := slice_form r1; subst hv1; clear c0 c1 c2 c3 c4 c5 c6 c7 c8; have hb1 := t1.heap HB.out; obtain ⟨c0, c1, c2, c3, c4, c5, c6, c7, c8⟩ := nine_of hb1; have fr : ∀ j, w5.frozen? ⟨w.heap.size, j, none⟩ = false := fun j => unfrozen_of hb1; have R1 := η r1; have T1 := η t1; have HB1 := η hb1; clear r1 t1 hb1)
 clear c0 c1 c2 c3 c4 c5 c6 c7 c8 fr
 have AP : Hid (Apart (.slice po no ko) (.slice pn nn kn)) := η (apart_new RQo.out R1.out)
 have TS := η (Turn.setCell (l := [w.heap.size]) (b := w.heap.size) (i := 8) w5 (by simp) (.slice pn nn kn))
 have HB2 : Hid ((w5.setCell ⟨w.heap.size, 8, none⟩ (.slice pn nn kn)).heap[w.heap.size]? = some (.cells #[.int .i64 s.broker, .int .i64 s.nextId, .int .i64 s.nextSeq, .int .i64 s.tx, .slice pm nm km, .slice pw nw kw, .slice pe ne ke, .slice po no ko, .slice pn nn kn] 27)) := η (block_set (i := 8) HB1.out _)
 have HR2 := η (TS.out.heap (T1.out.heap HR.out))
 have HY : Hid (w.heap.size + 1 < y4.heap.size) := η (lt_of_heap HR.out)
 have TQ := η ((T1.out.mono (by simp)).trans TS.out (fun i hi => .inl hi))
 have RQn : Hid ((w5.setCell ⟨w.heap.size, 8, none⟩ (.slice pn nn kn)).ownsRow y4.heap.size 65 2 (.slice pn nn kn) nn (LN.flatMap pendC)) := η (ownsRow_over R1.out TS.out (by have := HY.out; omega))
 have RQn := η (ownsRow_base RQn.out (base' := w.heap.size + 2) (fun k hk => by have := ownsRow_lo RQn.out hk; have := HY.out; omega))
 have RQm := η (ownsRow_over RQm.out TQ.out (by omega))
 have RQe := η (ownsRow_over RQe.out TQ.out (by omega))
 have RQw := η (ownsRow_over RQw.out TQ.out (by omega))
 have RQo := η (ownsRow_over RQo.out TQ.out (by omega))
 have T0 : Hid (Turn [] w (w5.setCell ⟨w.heap.size, 8, none⟩ (.slice pn nn kn))) := η (T0.out.trans TQ.out (fun i hi => .inr (by simp at hi; omega)))
 generalize w5.setCell ⟨w.heap.size, 8, none⟩ (.slice pn nn kn) = y5 at *
 clear HB HR TS TQ HY R1 T1 HB1 hi hz0 hz1 hz2
 have HB := HB2
 have HR := HR2
 clear HB2 HR2
 obtain ⟨c0, c1, c2, c3, c4, c5, c6, c7, c8⟩ := nine_of HB.out
 obtain ⟨d0, d1, d2, d3, d4, d5, d6, d7, d8⟩ := nine_of HR.out
 have fr : ∀ j, y5.frozen? ⟨w.heap.size + 1, j, none⟩ = false := fun j => unfrozen_of HR.out
 have NT := η (nine_turn y5 (w.heap.size + 1) (.int .i64 s.broker) (.int .i64 s.nextId) (.int .i64 s.nextSeq) (.int .i64 s.tx) (.slice pm nm km) (.slice pw nw kw) (.slice pe ne ke) (.slice po no ko) (.slice pn nn kn))
 have HF := η (nine_heapC HR.out (.int .i64 s.broker) (.int .i64 s.nextId) (.int .i64 s.nextSeq) (.int .i64 s.tx) (.slice pm nm km) (.slice pw nw kw) (.slice pe ne ke) (.slice po no ko) (.slice pn nn kn))
 have TF : Hid (Turn [] w (nine y5 (w.heap.size + 1) (.int .i64 s.broker) (.int .i64 s.nextId) (.int .i64 s.nextSeq) (.int .i64 s.tx) (.slice pm nm km) (.slice pw nw kw) (.slice pe ne ke) (.slice po no ko) (.slice pn nn kn))) := η (T0.out.trans NT.out (fun i hi => .inr (by simp at hi; omega)))
 go_wp2_with fail
 refine bodyPost_ret_by (results_cell_row rfl _ _ (w.heap.size + 1) 27 _ (0, 0) _ rfl HF.out Tryz.underlying27 rfl (by kernel_rfl)) rfl ?_
 have rb := fun (E : TypeId) (n : Nat) (v : Value) (m : Nat) (xs : List Value) (h : y5.ownsRow (w.heap.size + 2) E n v m xs) => ownsRow_base (ownsRow_over h NT.out (by omega)) (base' := w.heap.size) (fun k hk => by have := ownsRow_lo h hk; omega)
 exact ⟨⟨pm, km, pw, kw, pe, ke, po, ko, pn, kn⟩, rfl, rb _ _ _ _ _ RQm.out, rb _ _ _ _ _ RQw.out, rb _ _ _ _ _ RQe.out, rb _ _ _ _ _ RQo.out, rb _ _ _ _ _ RQn.out, AP.out, TF.out⟩
end Go.Proofs.YtlmefpanoimkcaaGreat
