/-
  PkAQ
-/
import Derived.Test.YtlmefpanoimkcaaGreatPkAP
set_option maxHeartbeats 4000000
set_option maxRecDepth 100000
namespace Go.Proofs.YtlmefpanoimkcaaGreat
open Go.RowKit Go.Proofs.YtlmefpanoimkcaaGreat.V
theorem MayP.counts {s : StV} (h : MayP s) : ∀ m ∈ s.ms, 0 ≤ m.count ∧ m.count ≤ 1000000 := fun m hm => by
 obtain ⟨-, -, -, -, -, -, h1, h2, -⟩ := h.ms m hm
 omega
theorem turn1_calls {w : World} {lo b : Nat} {s : StV} {a : Ads} {LW : List (Lay BrV)} {LO LN : List (Lay PendV)} (h : Box w lo b s a LW LO LN) (hm : MayP s) (t d : Int) (y : Bool) (P : List Int) (Q : List (ByteArray × ByteArray)) (ap aq : Option Addr) (cp cq : Nat)  :
 Calls Tryz.prog 80 #[.pointer (some ⟨b, 0, none⟩), .agg #[.int .i64 1, .int .i64 t, .int .i64 d, .bool y, .slice ap P.length cp, .slice aq Q.length cq]] w fun e w' => e = .returned (.tuple #[]) ∧ ∃ a' LW' LO' LN', Box w' lo b ({ s with tx := s.tx + 1 }) a' LW' LO' LN' ∧ Tn lo w w' := by
 obtain ⟨np, hnp⟩ := ε P.length
 obtain ⟨nq, hnq⟩ := ε Q.length
 have HNP := η hnp
 have HNQ := η hnq
 rw [← hnp, ← hnq]
 have HX := η (h.still (Turn.alloc [] w (.cells #[.int .i64 1, .int .i64 t, .int .i64 d, .bool y, .slice ap np cp, .slice aq nq cq] 37)))
 have T0 := η (Turn.alloc [] w (.cells #[.int .i64 1, .int .i64 t, .int .i64 d, .bool y, .slice ap np cp, .slice aq nq cq] 37))
 have HR := η (heap_alloc_new w (.cells #[.int .i64 1, .int .i64 t, .int .i64 d, .bool y, .slice ap np cp, .slice aq nq cq] 37))
 obtain ⟨c0, c1, c2, c3, c4, c5, c6, c7, c8⟩ := nine_of HX.out.head
 have fr : ∀ j, (w.alloc (.cells #[.int .i64 1, .int .i64 t, .int .i64 d, .bool y, .slice ap np cp, .slice aq nq cq] 37)).frozen? ⟨b, j, none⟩ = false := fun j => unfrozen_of HX.out.head
 have hw : IntKind.i64.wrap (s.tx + 1) = s.tx + 1 := by have := hm.tx1; have := hm.tx2; rw [IntKind.wrap_i64]; omega
 have B2 := η (HX.out.setNum (s' := { s with tx := s.tx + 1 }) 3 (.int .i64 (s.tx + 1)) rfl rfl rfl rfl rfl rfl)
 have V2 := η ((Tn.still (lo := lo) T0.out).trans (Tn.cell HX.out.lob ⟨_, _, _, HX.out.head, by decide⟩ 3 (.int .i64 (s.tx + 1))))
 clear h hm hnp hnq
 go_enter Tryz.func80, Tryz.ntmps80
 go_wp2_with fail
 go_end0
 exact ⟨rfl, _, _, _, _, B2.out, V2.out⟩
theorem turn3_calls {w : World} {lo b : Nat} {s : StV} {a : Ads} {LW : List (Lay BrV)} {LO LN : List (Lay PendV)} (h : Box w lo b s a LW LO LN) (hm : MayP s) (t d : Int) (y : Bool) (P : List Int) (Q : List (ByteArray × ByteArray)) (ap aq : Option Addr) (cp cq : Nat)  :
 Calls Tryz.prog 80 #[.pointer (some ⟨b, 0, none⟩), .agg #[.int .i64 3, .int .i64 t, .int .i64 d, .bool y, .slice ap P.length cp, .slice aq Q.length cq]] w fun e w' => e = .returned (.tuple #[]) ∧ ∃ a' LW' LO' LN', Box w' lo b (endS s t false []) a' LW' LO' LN' ∧ Tn lo w w' := by
 obtain ⟨np, hnp⟩ := ε P.length
 obtain ⟨nq, hnq⟩ := ε Q.length
 have HNP := η hnp
 have HNQ := η hnq
 rw [← hnp, ← hnq]
 have HX := η (h.still (Turn.alloc [] w (.cells #[.int .i64 3, .int .i64 t, .int .i64 d, .bool y, .slice ap np cp, .slice aq nq cq] 37)))
 have T0 := η (Turn.alloc [] w (.cells #[.int .i64 3, .int .i64 t, .int .i64 d, .bool y, .slice ap np cp, .slice aq nq cq] 37))
 have HR := η (heap_alloc_new w (.cells #[.int .i64 3, .int .i64 t, .int .i64 d, .bool y, .slice ap np cp, .slice aq nq cq] 37))
 obtain ⟨c0, c1, c2, c3, c4, c5, c6, c7, c8⟩ := nine_of HX.out.head
 have fr : ∀ j, (w.alloc (.cells #[.int .i64 3, .int .i64 t, .int .i64 d, .bool y, .slice ap np cp, .slice aq nq cq] 37)).frozen? ⟨b, j, none⟩ = false := fun j => unfrozen_of HX.out.head
 have C1 := η (endIll_calls HX.out hm.endsR hm.lends hm.waitsR hm.lwaits hm.openR hm.lopen hm.counts (by have := hm.lms; omega) t)
 clear h hm hnp hnq
 go_enter Tryz.func80, Tryz.ntmps80
 go_wp2_with fail
 refine C1.out.mono ?_
 rintro e x1 ⟨rfl, a', LW', LO', b1, t1⟩
 have B1 := η b1
 have V1 := η ((Tn.still (lo := lo) T0.out).trans t1)
 clear b1 t1 C1
 go_wp2_with fail
 go_end0
 exact ⟨rfl, _, _, _, _, B1.out, V1.out⟩
theorem turn7_calls {w : World} {lo b : Nat} {s : StV} {a : Ads} {LW : List (Lay BrV)} {LO LN : List (Lay PendV)} (h : Box w lo b s a LW LO LN) (hm : MayP s) (t d : Int) (y : Bool) (P : List Int) (Q : List (ByteArray × ByteArray)) (ap aq : Option Addr) (cp cq : Nat) (hq : ∀ wx, TnP lo w wx → Ps wx aq cq Q) (hql : Q.length ≤ 10000) :
 Calls Tryz.prog 80 #[.pointer (some ⟨b, 0, none⟩), .agg #[.int .i64 7, .int .i64 t, .int .i64 d, .bool y, .slice ap P.length cp, .slice aq Q.length cq]] w fun e w' => e = .returned (.tuple #[]) ∧ ∃ a' LW' LO' LN', Box w' lo b (endS s t true Q) a' LW' LO' LN' ∧ Tn lo w w' := by
 have hst := fun (wx : World) (o : Obj) (tt : TnP lo (w.alloc o) wx) => hq wx (by
  obtain ⟨l, h1, h2⟩ := tt
  refine ⟨l, fun k hk => ⟨(h1 k hk).1, fun cs T fr e => (h1 k hk).2 cs T fr ((Turn.alloc [] w o).heap e)⟩, ((Turn.alloc [] w o).mono (l' := l) (by simp)).trans h2 (fun i hi => .inl hi)⟩)
 obtain ⟨np, hnp⟩ := ε P.length
 obtain ⟨nq, hnq⟩ := ε Q.length
 have HNP := η hnp
 have HNQ := η hnq
 rw [← hnp, ← hnq]
 have HX := η (h.still (Turn.alloc [] w (.cells #[.int .i64 7, .int .i64 t, .int .i64 d, .bool y, .slice ap np cp, .slice aq nq cq] 37)))
 have T0 := η (Turn.alloc [] w (.cells #[.int .i64 7, .int .i64 t, .int .i64 d, .bool y, .slice ap np cp, .slice aq nq cq] 37))
 have HR := η (heap_alloc_new w (.cells #[.int .i64 7, .int .i64 t, .int .i64 d, .bool y, .slice ap np cp, .slice aq nq cq] 37))
 obtain ⟨c0, c1, c2, c3, c4, c5, c6, c7, c8⟩ := nine_of HX.out.head
 have fr : ∀ j, (w.alloc (.cells #[.int .i64 7, .int .i64 t, .int .i64 d, .bool y, .slice ap np cp, .slice aq nq cq] 37)).frozen? ⟨b, j, none⟩ = false := fun j => unfrozen_of HX.out.head
 have C1 := endWell_calls HX.out hm.endsR hm.lends hm.waitsR hm.lwaits hm.openR hm.lopen (by have := hm.lms; omega) (by have := hm.id1; have := hm.id2; omega) (by have := hm.seq1; have := hm.seq2; omega) t Q aq cq (fun wx tt => hst wx _ tt) hql
 rw [← hnq] at C1
 have C1 := η C1
 clear h hm hnp hnq hst hq hql
 go_enter Tryz.func80, Tryz.ntmps80
 go_wp2_with fail
 refine C1.out.mono ?_
 rintro e x1 ⟨rfl, a', LW', LO', b1, t1⟩
 have B1 := η b1
 have V1 := η ((Tn.still (lo := lo) T0.out).trans t1)
 clear b1 t1 C1
 go_wp2_with fail
 go_end0
 exact ⟨rfl, _, _, _, _, B1.out, V1.out⟩
theorem turn9_calls {w : World} {lo b : Nat} {s : StV} {a : Ads} {LW : List (Lay BrV)} {LO LN : List (Lay PendV)} (h : Box w lo b s a LW LO LN) (hm : MayP s) (t d : Int) (y : Bool) (P : List Int) (Q : List (ByteArray × ByteArray)) (ap aq : Option Addr) (cp cq : Nat) (hk : keyB PendV.tid s.noes t = true) (hi : Il w ap cp P) (hl : 0 < P.length) :
 Calls Tryz.prog 80 #[.pointer (some ⟨b, 0, none⟩), .agg #[.int .i64 9, .int .i64 t, .int .i64 d, .bool y, .slice ap P.length cp, .slice aq Q.length cq]] w fun e w' => e = .returned (.tuple #[]) ∧ ∃ a' LW' LO' LN', Box w' lo b ({ s with noes := toldL s t (P.getD 0 0) }) a' LW' LO' LN' ∧ Tn lo w w' := by
 have hne : P ≠ [] := by intro e; rw [e] at hl; simp at hl
 obtain ⟨pb, po, rfl, -, hat⟩ := hi.at hne
 have hp0 := hat 0 hl
 rw [Nat.add_zero] at hp0
 obtain ⟨np, hnp⟩ := ε P.length
 obtain ⟨nq, hnq⟩ := ε Q.length
 have HNP := η hnp
 have HNQ := η hnq
 rw [← hnp, ← hnq]
 have HX := η (h.still (Turn.alloc [] w (.cells #[.int .i64 9, .int .i64 t, .int .i64 d, .bool y, .slice (some ⟨pb, po, none⟩) np cp, .slice aq nq cq] 37)))
 have T0 := η (Turn.alloc [] w (.cells #[.int .i64 9, .int .i64 t, .int .i64 d, .bool y, .slice (some ⟨pb, po, none⟩) np cp, .slice aq nq cq] 37))
 have HR := η (heap_alloc_new w (.cells #[.int .i64 9, .int .i64 t, .int .i64 d, .bool y, .slice (some ⟨pb, po, none⟩) np cp, .slice aq nq cq] 37))
 obtain ⟨c0, c1, c2, c3, c4, c5, c6, c7, c8⟩ := nine_of HX.out.head
 have fr : ∀ j, (w.alloc (.cells #[.int .i64 9, .int .i64 t, .int .i64 d, .bool y, .slice (some ⟨pb, po, none⟩) np cp, .slice aq nq cq] 37)).frozen? ⟨b, j, none⟩ = false := fun j => unfrozen_of HX.out.head
 have C1 := η (fun wx (tt : Turn [] (w.alloc (.cells #[.int .i64 9, .int .i64 t, .int .i64 d, .bool y, .slice (some ⟨pb, po, none⟩) np cp, .slice aq nq cq] 37)) wx) => told_calls (HX.out.still tt) hm.noesR hm.lnoes t (P.getD 0 0) hk (fun p hp => by
  obtain ⟨-, -, h3, -⟩ := (hm.noes p hp).1
  have := (risingB_iff.1 h3).2.2
  omega))
 obtain ⟨part, hpart⟩ := ε (P.getD 0 0)
 rw [← hpart] at C1 hp0 ⊢
 have HP := η hp0
 have hnp0 : 0 < np := by omega
 clear h hm hnp hnq hk hi hl hne hat hp0 hpart
 go_enter Tryz.func80, Tryz.ntmps80
 go_wp2_with fail
 obtain ⟨x0, hx0⟩ := ε ((w.alloc (.cells #[.int .i64 9, .int .i64 t, .int .i64 d, .bool y, .slice (some ⟨pb, po, none⟩) np cp, .slice aq nq cq] 37)))
 rw [← hx0] at HX T0 HR C1 c0 c1 c2 c3 c4 c5 c6 c7 c8 ⊢
 clear hx0 fr
 have hr0 := HR.out
 have q1 : x0.cell? ⟨w.heap.size, 1, none⟩ = some (.int .i64 t) := by rw [cell_of_row _ _ _ _ _ _ hr0]; rfl
 have q4 : x0.cell? ⟨w.heap.size, 4, none⟩ = some (.slice (some ⟨pb, po, none⟩) np cp) := by rw [cell_of_row _ _ _ _ _ _ hr0]; rfl
 have qp : x0.cell? ⟨pb, po, none⟩ = some (.int .i64 part) := T0.out.cell HP.out
 have hb0 : (0 : Int) < (np : Int) := by omega
 clear hr0 c0 c1 c2 c3 c4 c5 c6 c7 c8
 go_region_with ((go_at_call 154; refine (C1.out _ (Turn.drew [] x0)).mono ?_; rintro e x1 ⟨rfl, a', LN', b1, t1⟩; have B1 := η b1; have V1 := η (((Tn.still (lo := lo) T0.out).trans (Tn.still (Turn.drew [] x0))).trans t1); clear b1 t1))
 all_goals
  go_wp2_with fail
  go_end0
  exact ⟨rfl, _, _, _, _, B1.out, V1.out⟩
theorem turn6_calls {w : World} {lo b : Nat} {s : StV} {a : Ads} {LW : List (Lay BrV)} {LO LN : List (Lay PendV)} (h : Box w lo b s a LW LO LN) (hm : MayP s) (t d : Int) (y : Bool) (P : List Int) (Q : List (ByteArray × ByteArray)) (ap aq : Option Addr) (cp cq : Nat) (hi : Il w ap cp P) (hl : P.length ≤ 100000) :
 Calls Tryz.prog 80 #[.pointer (some ⟨b, 0, none⟩), .agg #[.int .i64 6, .int .i64 t, .int .i64 d, .bool y, .slice ap P.length cp, .slice aq Q.length cq]] w fun e w' => e = .returned (.tuple #[]) ∧ ∃ a' LW' LO' LN', Box w' lo b ({ s with open_ := insK PendV.tid ⟨t, P⟩ s.open_ }) a' LW' LO' LN' ∧ Tn lo w w' := by
 obtain ⟨np, hnp⟩ := ε P.length
 obtain ⟨nq, hnq⟩ := ε Q.length
 have HNP := η hnp
 have HNQ := η hnq
 rw [← hnp, ← hnq]
 have HX := η (h.still (Turn.alloc [] w (.cells #[.int .i64 6, .int .i64 t, .int .i64 d, .bool y, .slice ap np cp, .slice aq nq cq] 37)))
 have T0 := η (Turn.alloc [] w (.cells #[.int .i64 6, .int .i64 t, .int .i64 d, .bool y, .slice ap np cp, .slice aq nq cq] 37))
 have HR := η (heap_alloc_new w (.cells #[.int .i64 6, .int .i64 t, .int .i64 d, .bool y, .slice ap np cp, .slice aq nq cq] 37))
 obtain ⟨c0, c1, c2, c3, c4, c5, c6, c7, c8⟩ := nine_of HX.out.head
 have fr : ∀ j, (w.alloc (.cells #[.int .i64 6, .int .i64 t, .int .i64 d, .bool y, .slice ap np cp, .slice aq nq cq] 37)).frozen? ⟨b, j, none⟩ = false := fun j => unfrozen_of HX.out.head
 have HSZ := box_lo h
 have C1 := fun wx (tt : Turn [] w wx) => pendOf_calls ⟨6, t, d, y, P, Q⟩ (ap := ap) (cp := cp) aq cq (hi.turn tt) (by dsimp only; omega)
 unfold RecV.cells at C1
 dsimp only at C1
 rw [← hnp, ← hnq] at C1
 have C1 := η C1
 have C2 : Hid (∀ wx ao c (hx : Turn [] (w.alloc (.cells #[.int .i64 6, .int .i64 t, .int .i64 d, .bool y, .slice ap np cp, .slice aq nq cq] 37)) wx), ∀ wy, Turn [] wx wy → wy.ownsRow wx.heap.size 3 1 (.slice ao np c) np (i64s P) → Calls Tryz.prog 152 #[.slice a.o s.open_.length a.co, .agg #[.int .i64 t, .slice ao np c], .func (.func 119) #[] #[]] wy fun e w1 => ∃ ao2 c2, e = .returned (.slice ao2 (insK PendV.tid ⟨t, P⟩ s.open_).length c2) ∧ Rest w1 lo b s a LW LO LN 65 ∧
  Box (w1.setCell ⟨b, 7, none⟩ (.slice ao2 (insK PendV.tid ⟨t, P⟩ s.open_).length c2)) lo b { s with open_ := insK PendV.tid ⟨t, P⟩ s.open_ } { a with o := ao2, co := c2 } LW (insK (fun y : Lay PendV => y.v.tid) ⟨⟨t, P⟩, ao, c⟩ LO) LN ∧ Tn lo wy (w1.setCell ⟨b, 7, none⟩ (.slice ao2 (insK PendV.tid ⟨t, P⟩ s.open_).length c2)) ∧ Turn (Value.slice a.o s.open_.length a.co).ownBlock.toList wy w1) := η (fun wx ao c hx wy hy hr => by
  have hbx := HX.out.still hx
  have hby := hbx.still hy
  rw [HNP.out] at hr ⊢
  have hsz := box_lo hbx
  have := box_with_open hby hm.openR hm.lopen (⟨⟨t, P⟩, ao, c⟩ : Lay PendV) (row_own hr (fun k hk => Nat.le_trans hsz (row_lo hr k hk))) (fun z hz => by
   have hz2 := hbx.parts z hz
   rcases hr.2 with ⟨e1, _⟩ | ⟨g, cap, cur, e1, hlo, _⟩
   · exact .inl (by unfold partsRow; rw [e1]; rfl)
   · exact new_apart (w := wx) (g := g) hz2 (.inr (by unfold partsRow; rw [e1]; rfl)) hlo)
  exact this)
 obtain ⟨no, hno⟩ := ε s.open_.length
 rw [← hno] at C2 c7
 have HNO := η hno
 obtain ⟨ni, hni⟩ := ε ((insK PendV.tid ⟨t, P⟩ s.open_).length)
 rw [← hni] at C2
 clear h hm hnp hnq hi hl hno hni
 go_enter Tryz.func80, Tryz.ntmps80
 go_wp2_with fail
 obtain ⟨x0, hx0⟩ := ε ((w.alloc (.cells #[.int .i64 6, .int .i64 t, .int .i64 d, .bool y, .slice ap np cp, .slice aq nq cq] 37)))
 rw [← hx0] at HX T0 HR C2 c0 c1 c2 c3 c4 c5 c6 c7 c8 ⊢
 clear hx0 fr
 have HSX : Hid (∀ x, Turn [] x0 x → x.cell? ⟨w.heap.size, 0, none⟩ = some (.int .i64 6) ∧ x.cell? ⟨w.heap.size, 1, none⟩ = some (.int .i64 t) ∧ x.cell? ⟨w.heap.size, 2, none⟩ = some (.int .i64 d) ∧ x.cell? ⟨w.heap.size, 3, none⟩ = some (.bool y) ∧ x.cell? ⟨w.heap.size, 4, none⟩ = some (.slice ap np cp) ∧ x.cell? ⟨w.heap.size, 5, none⟩ = some (.slice aq nq cq) ∧ x.cell? ⟨b, 7, none⟩ = some (.slice a.o no a.co)) := η (fun x tt => by
  have := tt.heap HR.out
  refine ⟨?_, ?_, ?_, ?_, ?_, ?_, ?_⟩
  rotate_right
  · exact tt.cell c7
  all_goals rw [cell_of_row _ _ _ _ _ _ this]; rfl)
 refine Ph.start [10] (fun x => x.cell? ⟨w.heap.size, 0, none⟩ = some (.int .i64 6) ∧ x.cell? ⟨w.heap.size, 1, none⟩ = some (.int .i64 t) ∧ x.cell? ⟨w.heap.size, 2, none⟩ = some (.int .i64 d) ∧ x.cell? ⟨w.heap.size, 3, none⟩ = some (.bool y) ∧ x.cell? ⟨w.heap.size, 4, none⟩ = some (.slice ap np cp) ∧ x.cell? ⟨w.heap.size, 5, none⟩ = some (.slice aq nq cq) ∧ x.cell? ⟨b, 7, none⟩ = some (.slice a.o no a.co)) (by kernel_rfl) (HSX.out _ (Turn.drew [] x0)) ?_
 intro hS
 refine Ph.tq 0 (some 73) hS ?_
 simp only [Act.put, σa, σz, σs]
 refine Ph.tq 1 (some 74) hS ?_
 simp only [Act.put, σa, σz, σs]
 refine Ph.tq 2 (some 75) hS ?_
 simp only [Act.put, σa, σz, σs]
 refine Ph.tq 3 (some 76) hS ?_
 simp only [Act.put, σa, σz, σs]
 refine Ph.tq 4 (some 77) hS ?_
 simp only [Act.put, σa, σz, σs]
 refine Ph.tq 5 (some 78) hS ?_
 simp only [Act.put, σa, σz, σs]
 refine Ph.one (i := 6) (by kernel_rfl) rfl ?_
 intro K hK
 rw [if_pos (by rfl)]
 go_simp
 refine (C1.out _ (T0.out.trans (Turn.drew [] x0))).mono ?_
 rintro e x1 ⟨ao, c, rfl, o1, t1⟩
 dsimp only
 have U1 := η t1
 have O1 := η o1
 refine hK _ _ (HSX.out _ ((Turn.drew [] x0).trans t1)) (fun hS1 => ?_)
 clear hK K o1 t1
 refine Ph.one (i := 7) (by kernel_rfl) rfl ?_
 intro K hK
 rw [if_pos (by rfl)]
 go_simp
 refine (C2.out _ _ _ (Turn.drew [] x0) _ U1.out O1.out).mono ?_
 rintro e x2 ⟨ao2, c2, rfl, r2, b2, t2, tt2⟩
 dsimp only
 have B2 := η b2
 have V2 := η ((((Tn.still (lo := lo) T0.out).trans (Tn.still (Turn.drew [] x0))).trans (Tn.still U1.out)).trans t2)
 obtain ⟨d0, d1, d2, d3, d4, d5, d6, d7, d8⟩ := nine_of r2.head
 rw [← HNO.out] at d7
 have fr : ∀ j, x2.frozen? ⟨b, j, none⟩ = false := fun j => unfrozen_of r2.head
 have htp := ownsRow_typed ((HX.out.still ((Turn.drew [] x0).trans U1.out)).os)
 rw [← HNO.out] at htp
 have hr2 := heap_keep (((Turn.drew [] x0).trans U1.out).heap HR.out) tt2 htp (by decide)
 have hS2 : x2.cell? ⟨w.heap.size, 0, none⟩ = some (.int .i64 6) ∧ x2.cell? ⟨w.heap.size, 1, none⟩ = some (.int .i64 t) ∧ x2.cell? ⟨w.heap.size, 2, none⟩ = some (.int .i64 d) ∧ x2.cell? ⟨w.heap.size, 3, none⟩ = some (.bool y) ∧ x2.cell? ⟨w.heap.size, 4, none⟩ = some (.slice ap np cp) ∧ x2.cell? ⟨w.heap.size, 5, none⟩ = some (.slice aq nq cq) ∧ x2.cell? ⟨b, 7, none⟩ = some (.slice a.o no a.co) := by
  refine ⟨?_, ?_, ?_, ?_, ?_, ?_, d7⟩ <;> rw [cell_of_row _ _ _ _ _ _ hr2] <;> rfl
 refine hK _ _ hS2 (fun _ => ?_)
 clear hK K b2 t2 tt2 r2 htp hr2
 refine Ph.one (i := 8) (by kernel_rfl) rfl ?_
 intro K hK
 rw [if_pos (by rfl)]
 go_simp
 refine hK _ _ hS2 (fun _ => ?_)
 clear hK K
 refine Ph.tq 9 (some 82) hS2 ?_
 simp only [Act.put, σa, σz, σs]
 refine Ph.tardy (i := 10) (by kernel_rfl) (by kernel_rfl) rfl ?_
 intro K hK
 rw [if_pos (by rfl)]
 go_simp
 refine hK _ _ (Ph.done (by kernel_rfl) ?_ _)
 clear hK K
 go_wp2_with fail
 go_end0
 exact ⟨rfl, _, _, _, _, B2.out, V2.out⟩
theorem turn4_calls {w : World} {lo b : Nat} {s : StV} {a : Ads} {LW : List (Lay BrV)} {LO LN : List (Lay PendV)} (h : Box w lo b s a LW LO LN) (hm : MayP s) (t d : Int) (y : Bool) (P : List Int) (Q : List (ByteArray × ByteArray)) (ap aq : Option Addr) (cp cq : Nat) (hi : Ps w aq cq Q) (hl : Q.length ≤ 100000) :
 Calls Tryz.prog 80 #[.pointer (some ⟨b, 0, none⟩), .agg #[.int .i64 4, .int .i64 t, .int .i64 d, .bool y, .slice ap P.length cp, .slice aq Q.length cq]] w fun e w' => e = .returned (.tuple #[]) ∧ ∃ a' LW' LO' LN', Box w' lo b ({ s with waits := insK BrV.tid ⟨t, Q⟩ s.waits }) a' LW' LO' LN' ∧ Tn lo w w' := by
 obtain ⟨np, hnp⟩ := ε P.length
 obtain ⟨nq, hnq⟩ := ε Q.length
 have HNP := η hnp
 have HNQ := η hnq
 rw [← hnp, ← hnq]
 have HX := η (h.still (Turn.alloc [] w (.cells #[.int .i64 4, .int .i64 t, .int .i64 d, .bool y, .slice ap np cp, .slice aq nq cq] 37)))
 have T0 := η (Turn.alloc [] w (.cells #[.int .i64 4, .int .i64 t, .int .i64 d, .bool y, .slice ap np cp, .slice aq nq cq] 37))
 have HR := η (heap_alloc_new w (.cells #[.int .i64 4, .int .i64 t, .int .i64 d, .bool y, .slice ap np cp, .slice aq nq cq] 37))
 obtain ⟨c0, c1, c2, c3, c4, c5, c6, c7, c8⟩ := nine_of HX.out.head
 have fr : ∀ j, (w.alloc (.cells #[.int .i64 4, .int .i64 t, .int .i64 d, .bool y, .slice ap np cp, .slice aq nq cq] 37)).frozen? ⟨b, j, none⟩ = false := fun j => unfrozen_of HX.out.head
 have C1 := fun wx (tt : Turn [] w wx) => clonePuts_calls (hi.turn tt) (by omega)
 rw [← hnq] at C1
 have C1 := η C1
 have C2 : Hid (∀ wx ao c (hx : Turn [] (w.alloc (.cells #[.int .i64 4, .int .i64 t, .int .i64 d, .bool y, .slice ap np cp, .slice aq nq cq] 37)) wx), ∀ wy, Turn [] wx wy → wy.ownsRow wx.heap.size 45 2 (.slice ao nq c) nq (pcells Q) → Calls Tryz.prog 149 #[.slice a.w s.waits.length a.cw, .agg #[.int .i64 t, .slice ao nq c], .func (.func 115) #[] #[]] wy fun e w1 => ∃ ao2 c2, e = .returned (.slice ao2 (insK BrV.tid ⟨t, Q⟩ s.waits).length c2) ∧ Rest w1 lo b s a LW LO LN 81 ∧
  Box (w1.setCell ⟨b, 5, none⟩ (.slice ao2 (insK BrV.tid ⟨t, Q⟩ s.waits).length c2)) lo b { s with waits := insK BrV.tid ⟨t, Q⟩ s.waits } { a with w := ao2, cw := c2 } (insK (fun y : Lay BrV => y.v.tid) ⟨⟨t, Q⟩, ao, c⟩ LW) LO LN ∧ Tn lo wy (w1.setCell ⟨b, 5, none⟩ (.slice ao2 (insK BrV.tid ⟨t, Q⟩ s.waits).length c2)) ∧ Turn (Value.slice a.w s.waits.length a.cw).ownBlock.toList wy w1) := η (fun wx ao c hx wy hy hr => by
  have hbx := HX.out.still hx
  have hby := hbx.still hy
  rw [HNQ.out] at hr ⊢
  have hsz := box_lo hbx
  exact box_with_waits hby hm.waitsR hm.lwaits (⟨⟨t, Q⟩, ao, c⟩ : Lay BrV) (row_own hr (fun k hk => Nat.le_trans hsz (row_lo hr k hk))))
 obtain ⟨no, hno⟩ := ε s.waits.length
 rw [← hno] at C2 c5
 have HNO := η hno
 obtain ⟨ni, hni⟩ := ε ((insK BrV.tid ⟨t, Q⟩ s.waits).length)
 rw [← hni] at C2
 clear h hm hnp hnq hi hl hno hni
 go_enter Tryz.func80, Tryz.ntmps80
 go_wp2_with fail
 obtain ⟨x0, hx0⟩ := ε ((w.alloc (.cells #[.int .i64 4, .int .i64 t, .int .i64 d, .bool y, .slice ap np cp, .slice aq nq cq] 37)))
 rw [← hx0] at HX T0 HR C2 c0 c1 c2 c3 c4 c5 c6 c7 c8 ⊢
 clear hx0 fr
 have HSX : Hid (∀ x, Turn [] x0 x → x.cell? ⟨w.heap.size, 1, none⟩ = some (.int .i64 t) ∧ x.cell? ⟨w.heap.size, 5, none⟩ = some (.slice aq nq cq) ∧ x.cell? ⟨b, 5, none⟩ = some (.slice a.w no a.cw)) := η (fun x tt => by
  have := tt.heap HR.out
  refine ⟨?_, ?_, ?_⟩
  rotate_right
  · exact tt.cell c5
  all_goals rw [cell_of_row _ _ _ _ _ _ this]; rfl)
 refine Ph.start [14] (fun x => x.cell? ⟨w.heap.size, 1, none⟩ = some (.int .i64 t) ∧ x.cell? ⟨w.heap.size, 5, none⟩ = some (.slice aq nq cq) ∧ x.cell? ⟨b, 5, none⟩ = some (.slice a.w no a.cw)) (by kernel_rfl) (HSX.out _ (Turn.drew [] x0)) ?_
 intro hS
 refine Ph.tq 0 (some 39) hS ?_
 simp only [Act.put, σa, σz, σs]
 refine Ph.tq 1 (some 40) hS ?_
 simp only [Act.put, σa, σz, σs]
 refine Ph.tq 2 (some 41) hS ?_
 simp only [Act.put, σa, σz, σs]
 refine Ph.tq 3 (some 42) hS ?_
 simp only [Act.put, σa, σz, σs]
 refine Ph.tq 4 (some 43) hS ?_
 simp only [Act.put, σa, σz, σs]
 refine Ph.tq 5 (some 44) hS ?_
 simp only [Act.put, σa, σz, σs]
 refine Ph.tq 6 (some 45) hS ?_
 simp only [Act.put, σa, σz, σs]
 refine Ph.tq 7 (some 46) hS ?_
 simp only [Act.put, σa, σz, σs]
 refine Ph.tq 8 (some 47) hS ?_
 simp only [Act.put, σa, σz, σs]
 refine Ph.one (i := 9) (by kernel_rfl) rfl ?_
 intro K hK
 rw [if_pos (by rfl)]
 go_simp
 refine (C1.out _ (T0.out.trans (Turn.drew [] x0))).mono ?_
 rintro e x1 ⟨ao, c, rfl, o1, t1⟩
 dsimp only
 have U1 := η t1
 have O1 := η o1
 refine hK _ _ (HSX.out _ ((Turn.drew [] x0).trans t1)) (fun hS1 => ?_)
 clear hK K o1 t1
 refine Ph.tq 10 (some 49) hS1 ?_
 simp only [Act.put, σa, σz, σs]
 refine Ph.one (i := 11) (by kernel_rfl) rfl ?_
 intro K hK
 rw [if_pos (by rfl)]
 go_simp
 refine (C2.out _ _ _ (Turn.drew [] x0) _ U1.out O1.out).mono ?_
 rintro e x2 ⟨ao2, c2, rfl, r2, b2, t2, tt2⟩
 dsimp only
 have B2 := η b2
 have V2 := η ((((Tn.still (lo := lo) T0.out).trans (Tn.still (Turn.drew [] x0))).trans (Tn.still U1.out)).trans t2)
 obtain ⟨d0, d1, d2, d3, d4, d5, d6, d7, d8⟩ := nine_of r2.head
 rw [← HNO.out] at d5
 have fr : ∀ j, x2.frozen? ⟨b, j, none⟩ = false := fun j => unfrozen_of r2.head
 have htp := ownsRow_typed ((HX.out.still ((Turn.drew [] x0).trans U1.out)).ws)
 rw [← HNO.out] at htp
 have hr2 := heap_keep (((Turn.drew [] x0).trans U1.out).heap HR.out) tt2 htp (by decide)
 have hS2 : x2.cell? ⟨w.heap.size, 1, none⟩ = some (.int .i64 t) ∧ x2.cell? ⟨w.heap.size, 5, none⟩ = some (.slice aq nq cq) ∧ x2.cell? ⟨b, 5, none⟩ = some (.slice a.w no a.cw) := by
  refine ⟨?_, ?_, d5⟩ <;> rw [cell_of_row _ _ _ _ _ _ hr2] <;> rfl
 refine hK _ _ hS2 (fun _ => ?_)
 clear hK K b2 t2 tt2 r2 htp hr2
 refine Ph.one (i := 12) (by kernel_rfl) rfl ?_
 intro K hK
 rw [if_pos (by rfl)]
 go_simp
 refine hK _ _ hS2 (fun _ => ?_)
 clear hK K
 refine Ph.tq 13 (some 52) hS2 ?_
 simp only [Act.put, σa, σz, σs]
 refine Ph.tardy (i := 14) (by kernel_rfl) (by kernel_rfl) rfl ?_
 intro K hK
 rw [if_pos (by rfl)]
 go_simp
 refine hK _ _ (Ph.done (by kernel_rfl) ?_ _)
 clear hK K
 go_wp2_with fail
 go_end0
 exact ⟨rfl, _, _, _, _, B2.out, V2.out⟩
theorem messageAtTl_calls {w : World} (s : StV) (a : Ads) (h : Tl 6 msgC w a.m a.cm s.ms) (t : Int) : Calls Tryz.prog 124 #[.agg (s.cells a), .int .i64 t] w fun e w' => e = .returned (.int .i64 (placeI (fun m : MsgV => decide (m.id = t)) s.ms)) ∧ Turn [] w w' := by
 have t0 := (Turn.alloc [] w (.cells (s.cells a) 27)).trans (Turn.alloc [] _ (.cells #[.int .i64 t] 2))
 have hq := cell_new (w.alloc (.cells (s.cells a) 27)) (.int .i64 t) 2
 rw [show (w.alloc (.cells (s.cells a) 27)).heap.size = w.heap.size + 1 by simp] at hq
 have C := η (indexId_calls (h.still t0) t hq)
 have T0 := η t0
 obtain ⟨b, hb⟩ := ε (placeI (fun m : MsgV => decide (m.id = t)) s.ms)
 rw [← hb] at C ⊢
 clear h hb t0 hq
 unfold StV.cells at *
 go_enter Tryz.func124, Tryz.ntmps124
 go_wp2_with fail
 refine C.out.mono ?_
 rintro e w1 ⟨rfl, t1⟩
 have T1 := η (T0.out.trans t1)
 clear t1 C T0
 go_wp2_with fail
 go_ret
 exact ⟨rfl, T1.out⟩
theorem taken_map {l : List MsgV} {d t : Int} {k : Nat} {m : MsgV} (hd : l.Pairwise fun a b => a.id ≠ b.id) (hk : l[k]? = some m) (hm : m.id = d) : (l.map fun x => if x.id = d then { x with by_ := t } else x) = l.set k { m with by_ := t } := by
 apply List.ext_getElem?
 intro j
 rw [List.getElem?_map, List.getElem?_set]
 obtain ⟨hkl, hke⟩ := List.getElem?_eq_some_iff.1 hk
 by_cases e : k = j
 · subst e
   rw [if_pos rfl, if_pos hkl, hk]
   simp [hm]
 · rw [if_neg e]
   cases hj : l[j]? with
   | none => rfl
   | some x =>
    obtain ⟨hjl, hje⟩ := List.getElem?_eq_some_iff.1 hj
    have hp := List.pairwise_iff_getElem.1 hd
    have : x.id ≠ d := by
     rw [← hje, ← hm, ← hke]
     rcases Nat.lt_or_ge k j with h1 | h1
     · exact fun e2 => hp k j hkl hjl h1 e2.symm
     · exact hp j k hjl hkl (by omega)
    simp [this]
theorem turn2_calls {w : World} {lo b : Nat} {s : StV} {a : Ads} {LW : List (Lay BrV)} {LO LN : List (Lay PendV)} (h : Box w lo b s a LW LO LN) (hm : MayP s) (t d : Int) (y : Bool) (P : List Int) (Q : List (ByteArray × ByteArray)) (ap aq : Option Addr) (cp cq : Nat) (hk : 0 ≤ placeI (fun m : MsgV => decide (m.id = d)) s.ms) :
 Calls Tryz.prog 80 #[.pointer (some ⟨b, 0, none⟩), .agg #[.int .i64 2, .int .i64 t, .int .i64 d, .bool y, .slice ap P.length cp, .slice aq Q.length cq]] w fun e w' => e = .returned (.tuple #[]) ∧ ∃ a' LW' LO' LN', Box w' lo b ({ s with ms := s.ms.map fun m => if m.id = d then { m with by_ := t } else m }) a' LW' LO' LN' ∧ Tn lo w w' := by
 rcases place_find (fun m : MsgV => decide (m.id = d)) s.ms with ⟨h1, -⟩ | ⟨pk, m, hpk, hmm, hmf⟩
 · omega
 have hmd : m.id = d := by have := List.find?_some hmf; simpa using this
 rw [taken_map hm.ids hmm hmd]
 have hpl := (List.getElem?_eq_some_iff.1 hmm).1
 obtain ⟨np, hnp⟩ := ε P.length
 obtain ⟨nq, hnq⟩ := ε Q.length
 have HNP := η hnp
 have HNQ := η hnq
 rw [← hnp, ← hnq]
 have HX := η (h.still (Turn.alloc [] w (.cells #[.int .i64 2, .int .i64 t, .int .i64 d, .bool y, .slice ap np cp, .slice aq nq cq] 37)))
 have T0 := η (Turn.alloc [] w (.cells #[.int .i64 2, .int .i64 t, .int .i64 d, .bool y, .slice ap np cp, .slice aq nq cq] 37))
 have HR := η (heap_alloc_new w (.cells #[.int .i64 2, .int .i64 t, .int .i64 d, .bool y, .slice ap np cp, .slice aq nq cq] 37))
 obtain ⟨c0, c1, c2, c3, c4, c5, c6, c7, c8⟩ := nine_of HX.out.head
 have fr : ∀ j, (w.alloc (.cells #[.int .i64 2, .int .i64 t, .int .i64 d, .bool y, .slice ap np cp, .slice aq nq cq] 37)).frozen? ⟨b, j, none⟩ = false := fun j => unfrozen_of HX.out.head
 have C1 : Hid (∀ wx, Turn [] (w.alloc (.cells #[.int .i64 2, .int .i64 t, .int .i64 d, .bool y, .slice ap np cp, .slice aq nq cq] 37)) wx → Calls Tryz.prog 124 #[.agg (s.cells a), .int .i64 d] wx fun e w' => e = .returned (.int .i64 (pk : Int)) ∧ Turn [] wx w') := η (fun wx tt => by
  have := messageAtTl_calls s a (Tl.of_own (n := 6) (f := msgC) (fun _ => rfl) (HX.out.still tt).ms) d
  rwa [hpk] at this)
 have hrow := HX.out.ms
 rcases hrow.2 with ⟨e, h0⟩ | ⟨g, cap, cur, e, hlo, hg, hle, hmx, hsz, htk⟩
 · omega
 injection e with e1 _ e3
 rw [e1] at hrow
 have hst := (hrow.stored (pk * 6 + 5) (.int .i64 t)).1
 obtain ⟨i0, qu, bo, sq, co, by_⟩ := m
 have hfs := flat_set msgC_len s.ms pk 5 _ ⟨i0, qu, bo, sq, co, t⟩ (.int .i64 t) hmm (by omega) rfl
 rw [hfs] at hst
 have hlx : (s.ms.set pk ⟨i0, qu, bo, sq, co, t⟩).length = s.ms.length := List.length_set
 have HG := η hg
 have HLO := η hlo
 have HFIN : Hid (∀ x, Turn [] (w.alloc (.cells #[.int .i64 2, .int .i64 t, .int .i64 d, .bool y, .slice ap np cp, .slice aq nq cq] 37)) x → Box (x.setCell ⟨g, pk * 6 + 5, none⟩ (.int .i64 t)) lo b { s with ms := s.ms.set pk ⟨i0, qu, bo, sq, co, t⟩ } a LW LO LN) := η (fun x tt => by
  have hbx := HX.out.still tt
  have hrx := hbx.ms
  rw [e1] at hrx
  have hsx := (hrx.stored (pk * 6 + 5) (.int .i64 t)).1
  rw [hfs] at hsx
  exact hbx.inMs hlx (by rw [e1]; exact Turn.setCell (l := [g]) x (by simp) _) (by rw [e1, hlx]; exact hsx))
 obtain ⟨nm, hnm⟩ := ε s.ms.length
 rw [e1] at c4
 rw [← hnm] at c4 hpl hle
 unfold StV.cells at C1
 rw [e1, ← hnm] at C1
 have HSZ : Hid (pk * 6 + 5 < cur.size) := η (by omega)
 have hb : 0 ≤ (pk : Int) ∧ (pk : Int) < (nm : Int) := by omega
 dsimp only
 obtain ⟨ms', hms'⟩ : ∃ z, z = s.ms.set pk ⟨i0, qu, bo, sq, co, t⟩ := ⟨_, rfl⟩
 rw [← hms'] at HFIN ⊢
 clear h hm hk hpk hmm hmf hmd hpl hnp hnq hrow e1 e3 hlo hg hle hmx hsz htk hst hfs hlx hnm fr hms'
 go_enter Tryz.func80, Tryz.ntmps80
 go_wp2_with fail
 obtain ⟨x0, hx0⟩ := ε ((w.alloc (.cells #[.int .i64 2, .int .i64 t, .int .i64 d, .bool y, .slice ap np cp, .slice aq nq cq] 37)))
 rw [← hx0] at HX T0 HR C1 HG HFIN c0 c1 c2 c3 c4 c5 c6 c7 c8 ⊢
 clear hx0
 have HSX : Hid (∀ x, Turn [] x0 x → x.cell? ⟨w.heap.size, 1, none⟩ = some (.int .i64 t) ∧ x.cell? ⟨w.heap.size, 2, none⟩ = some (.int .i64 d) ∧ x.cell? ⟨b, 0, none⟩ = some (.int .i64 s.broker) ∧ x.cell? ⟨b, 1, none⟩ = some (.int .i64 s.nextId) ∧ x.cell? ⟨b, 2, none⟩ = some (.int .i64 s.nextSeq) ∧ x.cell? ⟨b, 3, none⟩ = some (.int .i64 s.tx) ∧ x.cell? ⟨b, 4, none⟩ = some (.slice (some ⟨g, 0, none⟩) nm a.cm) ∧ x.cell? ⟨b, 5, none⟩ = some (.slice a.w s.waits.length a.cw) ∧ x.cell? ⟨b, 6, none⟩ = some (.slice a.e s.ends.length a.ce) ∧ x.cell? ⟨b, 7, none⟩ = some (.slice a.o s.open_.length a.co) ∧ x.cell? ⟨b, 8, none⟩ = some (.slice a.n s.noes.length a.cn)) := η (fun x tt => by
  have := tt.heap HR.out
  refine ⟨?_, ?_, tt.cell c0, tt.cell c1, tt.cell c2, tt.cell c3, tt.cell c4, tt.cell c5, tt.cell c6, tt.cell c7, tt.cell c8⟩ <;> rw [cell_of_row _ _ _ _ _ _ this] <;> rfl)
 clear c0 c1 c2 c3 c4 c5 c6 c7 c8
 refine Ph.start [14] (fun x => x.cell? ⟨w.heap.size, 1, none⟩ = some (.int .i64 t) ∧ x.cell? ⟨w.heap.size, 2, none⟩ = some (.int .i64 d) ∧ x.cell? ⟨b, 0, none⟩ = some (.int .i64 s.broker) ∧ x.cell? ⟨b, 1, none⟩ = some (.int .i64 s.nextId) ∧ x.cell? ⟨b, 2, none⟩ = some (.int .i64 s.nextSeq) ∧ x.cell? ⟨b, 3, none⟩ = some (.int .i64 s.tx) ∧ x.cell? ⟨b, 4, none⟩ = some (.slice (some ⟨g, 0, none⟩) nm a.cm) ∧ x.cell? ⟨b, 5, none⟩ = some (.slice a.w s.waits.length a.cw) ∧ x.cell? ⟨b, 6, none⟩ = some (.slice a.e s.ends.length a.ce) ∧ x.cell? ⟨b, 7, none⟩ = some (.slice a.o s.open_.length a.co) ∧ x.cell? ⟨b, 8, none⟩ = some (.slice a.n s.noes.length a.cn)) (by kernel_rfl) (HSX.out _ (Turn.drew [] x0)) ?_
 intro hS
 refine Ph.tq 0 (some 17) hS ?_
 simp only [Act.put, σa, σz, σs]
 refine Ph.tq 1 (some 18) hS ?_
 simp only [Act.put, σa, σz, σs]
 refine Ph.tq 2 (some 19) hS ?_
 simp only [Act.put, σa, σz, σs]
 refine Ph.tq 3 (some 20) hS ?_
 simp only [Act.put, σa, σz, σs]
 refine Ph.tq 4 (some 21) hS ?_
 simp only [Act.put, σa, σz, σs]
 refine Ph.tq 5 (some 22) hS ?_
 simp only [Act.put, σa, σz, σs]
 refine Ph.tq 6 (some 23) hS ?_
 simp only [Act.put, σa, σz, σs]
 refine Ph.tq 7 (some 24) hS ?_
 simp only [Act.put, σa, σz, σs]
 refine Ph.tq 8 (some 25) hS ?_
 simp only [Act.put, σa, σz, σs]
 refine Ph.tq 10 (some 27) hS ?_
 simp only [Act.put, σa, σz, σs]
 refine Ph.tq 11 (some 28) hS ?_
 simp only [Act.put, σa, σz, σs]
 refine Ph.one (i := 9) (by kernel_rfl) rfl ?_
 intro K hK
 rw [if_pos (by rfl)]
 go_simp
 refine (C1.out _ (Turn.drew [] x0)).mono ?_
 rintro e x1 ⟨rfl, t1⟩
 dsimp only
 have U1 := η ((Turn.drew [] x0).trans t1)
 refine hK _ _ (HSX.out _ U1.out) (fun hS1 => ?_)
 clear hK K t1 C1
 refine Ph.one (i := 12) (by kernel_rfl) rfl ?_
 intro K hK
 rw [if_pos (by rfl)]
 go_simp
 refine hK _ _ hS1 (fun _ => ?_)
 clear hK K
 refine Ph.tq 13 (some 30) hS1 ?_
 simp only [Act.put, σa, σz, σs]
 have h1 := U1.out.heap HG.out
 have fr : ∀ j, x1.frozen? ⟨g, j, none⟩ = false := fun j => unfrozen_of h1
 obtain ⟨v0, e0⟩ : ∃ v, x1.cell? ⟨g, pk * 6 + 5, none⟩ = some v := ⟨_, (cell_of_row x1 g (pk * 6 + 5) _ _ _ h1).trans (Array.getElem?_eq_getElem HSZ.out)⟩
 have B2 := η (HFIN.out _ U1.out)
 have V2 := η (((Tn.still (lo := lo) T0.out).trans (Tn.still U1.out)).trans (Tn.cell HLO.out ⟨_, _, _, U1.out.heap HG.out, by decide⟩ (pk * 6 + 5) (.int .i64 t)))
 clear h1
 refine Ph.tardy (i := 14) (by kernel_rfl) (by kernel_rfl) rfl ?_
 intro K hK
 rw [if_pos (by rfl)]
 go_simp
 refine hK _ _ (Ph.done (by kernel_rfl) ?_ _)
 clear hK K
 go_wp2_with fail
 go_end0
 exact ⟨rfl, _, _, _, _, B2.out, V2.out⟩
end Go.Proofs.YtlmefpanoimkcaaGreat
