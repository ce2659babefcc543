/-
  Of the texts Txs Ph2 Rct StoreTxWalk StoreTx, in build order, each as it was built alone.
-/
import Derived.Test.YtjhlfjgfohoflaaGreatPkAX
import Derived.Test.YtjhlfjgfohoflaaGreatPkAO
import Derived.Test.YtjhlfjgfohoflaaGreatPkAJ
import Derived.Test.YtjhlfjgfohoflaaGreatPkAB
import Derived.Test.YtjhlfjgfohoflaaGreatPkAW
import Derived.Test.YtjhlfjgfohoflaaGreatPkBD
import Derived.Test.YtjhlfjgfohoflaaGreatPkBF
import Derived.Test.YtjhlfjgfohoflaaGreatRows
import Derived.ProofKit
import Derived.OpenShut
import Derived.ShutString
import Derived.ChangeOld
import Derived.Below

/-
  The states of StoreTx, as values.
-/
namespace Go.Proofs.YtjhlfjgfohoflaaGreat
open Go.RowKit Go.Proofs.YtjhlfjgfohoflaaGreat.V

def sX (k : Nat) : StV := ⟨6, 1, 1, (k : Int), [], [], [], [], []⟩
def rX (i : Nat) : RecV := ⟨1, 25769803776 + (i : Int), 0, false, [], []⟩

theorem newX : newS 6 = sX 0 := (eqStB_iff _ _).1 (by decide +kernel)
theorem makeX' : ∀ i : Fin 206, makeZ 6 ((i.1 + 1 : Nat) : Int) = 25769803776 + ((i.1 + 1 : Nat) : Int) := by decide +kernel
theorem mX' : ∀ i : Fin 201, mayB (sX i.1) = true := by decide +kernel
theorem canX' : ∀ i : Fin 206, (canE (sX (min i.1 200)) (rX (i.1 + 1)) = 0 ∧ i.1 + 1 ≤ 200) ∨ ((canE (sX (min i.1 200)) (rX (i.1 + 1)) = 5 ∨ canE (sX (min i.1 200)) (rX (i.1 + 1)) = 12) ∧ 200 < i.1 + 1) := by decide +kernel
theorem stX' : ∀ i : Fin 206, eqStB (applyS (sX (min i.1 200)) (rX (i.1 + 1))) (sX (min (i.1 + 1) 200)) = true := by decide +kernel
theorem mX (i : Nat) : MayP (sX (min i 200)) := mayB_iff.1 (mX' ⟨min i 200, by omega⟩)
theorem stX {i : Nat} (h : i ≤ 205) : applyS (sX (min i 200)) (rX (i + 1)) = sX (min (i + 1) 200) := (eqStB_iff _ _).1 (stX' ⟨i, by omega⟩)

end Go.Proofs.YtjhlfjgfohoflaaGreat

/-
  A region that draws its order, where two operations may come up next.
-/
namespace Go.Proofs.YtjhlfjgfohoflaaGreat
open Go

section
variable {P : Program} {md : Region.Mode} {ops : Array Oper} {Q : Exit → Act → World → Prop} {S : World → Prop} {late : List Nat}

/-- One of the two that come up. -/
theorem Ph.two {i j k : Nat} {oi oj : Oper} {L : Array Bool} {a : Act} {w : World} (hr : Region.ready md ops L = [i, j]) (hi : ops[i]? = some oi) (hj : ops[j]? = some oj)
    (h1 : ∀ K : Act → World → Prop, (∀ b x, S x → (S x → Ph P md ops Q S late k (L.setIfInBounds i true) b x) → K b x) → if Region.wanted oi (yielded ops a.tmps) = true then Oper.wp P oi a w K Q else K (a.put oi.dst undef) w)
    (h2 : ∀ K : Act → World → Prop, (∀ b x, S x → (S x → Ph P md ops Q S late k (L.setIfInBounds j true) b x) → K b x) → if Region.wanted oj (yielded ops a.tmps) = true then Oper.wp P oj a w K Q else K (a.put oj.dst undef) w) :
    Ph P md ops Q S late (k + 1) L a w := by
  refine ⟨fun h0 => (by rw [hr] at h0; cases h0), fun m hm => ?_⟩
  rw [hr] at hm
  rcases List.mem_cons.1 hm with e | hm
  · subst e
    exact wpOp_step hi (fun K hK => h1 K (fun b x hS hP => hK b x ⟨.inr hS, hP hS⟩))
  · have e : m = j := by simpa using hm
    subst e
    exact wpOp_step hj (fun K hK => h2 K (fun b x hS hP => hK b x ⟨.inr hS, hP hS⟩))

/-- An operation that isn't wanted is taken first. -/
theorem Ph.skip {i k : Nat} {oi : Oper} {d : Option Tmp} {L : Array Bool} {a : Act} {w : World} (hi : ops[i]? = some oi) (hd : oi.dst = d) (hs : Region.noSelect ops = true) (hw : (late.all fun j => Region.waitsFor md ops j i) = true) (hf : Region.free md ops L i = true)
    (hr : (Region.ready md ops L).contains i = true) (hQ : ∀ c a w, Q (.panic c) (a.put d undef) w → Q (.panic c) a w) (hwt : Region.wanted oi (yielded ops a.tmps) = false) (hS : S w)
    (h : Ph P md ops Q S late k (L.setIfInBounds i true) (a.put d undef) w) : Ph P md ops Q S late (k + 1) L a w := by
  subst hd
  exact Ph.early hi hs hw hQ k L a w (Region.free_spec hi hf) (by simpa using hr) (.inr ⟨hwt, rfl⟩) hS h

end

end Go.Proofs.YtjhlfjgfohoflaaGreat

/-
  The reference's Can of a transaction's beginning, where nothing is held.
-/
namespace Go.Proofs.YtjhlfjgfohoflaaGreat
open Go.RowKit Go.Proofs.YtjhlfjgfohoflaaGreat.V

def rcX (t : Int) : RecV := ⟨1, t, 0, false, [], []⟩

theorem canX_is (k : Nat) (t : Int) (h : recB (rcX t) = true) : canE (sX k) (rcX t) = if t ≠ makeZ 6 ((k : Int) + 1) then 12 else if 200 ≤ k then 5 else 0 := by
  unfold canE
  rw [if_neg (by rw [h]; simp), if_neg (by rintro ⟨-, e⟩; cases e), if_neg (by show ¬ (1 : Int) = 2; decide), if_neg (by show ¬ (1 : Int) = 5; decide), if_neg (by show ¬ (1 : Int) = 9; decide), if_pos (show (rcX t).kind = 1 from rfl)]
  have e1 : fullE (sX k) (rcX t) = 0 := by
    unfold fullE
    rw [if_neg (by simp [rcX])]
  rw [e1]
  show (if t ≠ makeZ 6 ((k : Int) + 1) then (12 : Int) else if (200 : Int) ≤ (k : Int) then 5 else 0) = _
  by_cases c : 200 ≤ k
  · rw [if_pos (show (200 : Int) ≤ (k : Int) by omega), if_pos c]
  · rw [if_neg (show ¬ (200 : Int) ≤ (k : Int) by omega), if_neg c]

/-- The two boxes of a state and a record. -/
theorem boxX (k : Nat) (a : Ads) (t : Int) (w x : World) (tt : Turn [] ((w.alloc (.cells #[.int .i64 6, .int .i64 1, .int .i64 1, .int .i64 (k : Int), .slice a.m 0 a.cm, .slice a.w 0 a.cw, .slice a.e 0 a.ce, .slice a.o 0 a.co, .slice a.n 0 a.cn] 27)).alloc (.cells #[.int .i64 1, .int .i64 t, .int .i64 0, .bool false, .slice none 0 0, .slice none 0 0] 37)) x) : x.cell? ⟨w.heap.size, 0, none⟩ = some (.int .i64 6) ∧ x.cell? ⟨w.heap.size, 1, none⟩ = some (.int .i64 1) ∧ x.cell? ⟨w.heap.size, 2, none⟩ = some (.int .i64 1) ∧ x.cell? ⟨w.heap.size, 3, none⟩ = some (.int .i64 (k : Int)) ∧ x.cell? ⟨w.heap.size, 4, none⟩ = some (.slice a.m 0 a.cm) ∧ x.cell? ⟨w.heap.size, 5, none⟩ = some (.slice a.w 0 a.cw) ∧ x.cell? ⟨w.heap.size, 6, none⟩ = some (.slice a.e 0 a.ce) ∧ x.cell? ⟨w.heap.size, 7, none⟩ = some (.slice a.o 0 a.co) ∧ x.cell? ⟨w.heap.size, 8, none⟩ = some (.slice a.n 0 a.cn) ∧ x.cell? ⟨w.heap.size + 1, 0, none⟩ = some (.int .i64 1) ∧ x.cell? ⟨w.heap.size + 1, 1, none⟩ = some (.int .i64 t) ∧ x.cell? ⟨w.heap.size + 1, 2, none⟩ = some (.int .i64 0) ∧ x.cell? ⟨w.heap.size + 1, 3, none⟩ = some (.bool false) ∧ x.cell? ⟨w.heap.size + 1, 4, none⟩ = some (.slice none 0 0) ∧ x.cell? ⟨w.heap.size + 1, 5, none⟩ = some (.slice none 0 0) := by
  have h1 := tt.heap ((Turn.alloc [] _ _).heap (heap_alloc_new w (.cells #[.int .i64 6, .int .i64 1, .int .i64 1, .int .i64 (k : Int), .slice a.m 0 a.cm, .slice a.w 0 a.cw, .slice a.e 0 a.ce, .slice a.o 0 a.co, .slice a.n 0 a.cn] 27)) (by simp)) (by simp)
  have h2 := heap_alloc_new (w.alloc (.cells #[.int .i64 6, .int .i64 1, .int .i64 1, .int .i64 (k : Int), .slice a.m 0 a.cm, .slice a.w 0 a.cw, .slice a.e 0 a.ce, .slice a.o 0 a.co, .slice a.n 0 a.cn] 27)) (.cells #[.int .i64 1, .int .i64 t, .int .i64 0, .bool false, .slice none 0 0, .slice none 0 0] 37)
  rw [show (w.alloc (.cells #[.int .i64 6, .int .i64 1, .int .i64 1, .int .i64 (k : Int), .slice a.m 0 a.cm, .slice a.w 0 a.cw, .slice a.e 0 a.ce, .slice a.o 0 a.co, .slice a.n 0 a.cn] 27)).heap.size = w.heap.size + 1 by simp] at h2
  have h2 := tt.heap h2 (by simp)
  obtain ⟨b0, b1, b2, b3, b4, b5, b6, b7, b8⟩ := nine_of h1
  exact ⟨b0, b1, b2, b3, b4, b5, b6, b7, b8, by rw [cell_of_row _ _ _ _ _ _ h2]; rfl, by rw [cell_of_row _ _ _ _ _ _ h2]; rfl, by rw [cell_of_row _ _ _ _ _ _ h2]; rfl, by rw [cell_of_row _ _ _ _ _ _ h2]; rfl, by rw [cell_of_row _ _ _ _ _ _ h2]; rfl, by rw [cell_of_row _ _ _ _ _ _ h2]; rfl⟩

set_option maxHeartbeats 2000000 in
set_option maxRecDepth 100000 in
theorem refFullX (k : Nat) (a : Ads) (t : Int) (w : World) : Calls Tryz.prog 78 #[.agg #[.int .i64 6, .int .i64 1, .int .i64 1, .int .i64 (k : Int), .slice a.m 0 a.cm, .slice a.w 0 a.cw, .slice a.e 0 a.ce, .slice a.o 0 a.co, .slice a.n 0 a.cn], .agg #[.int .i64 1, .int .i64 t, .int .i64 0, .bool false, .slice none 0 0, .slice none 0 0]] w fun e w' => e = .returned (.int .i64 0) ∧ Turn [] w w' := by
  have T0 := Lib.hid ((Turn.alloc [] w (.cells #[.int .i64 6, .int .i64 1, .int .i64 1, .int .i64 (k : Int), .slice a.m 0 a.cm, .slice a.w 0 a.cw, .slice a.e 0 a.ce, .slice a.o 0 a.co, .slice a.n 0 a.cn] 27)).trans (Turn.alloc [] _ (.cells #[.int .i64 1, .int .i64 t, .int .i64 0, .bool false, .slice none 0 0, .slice none 0 0] 37)) (by simp))
  go_enter Tryz.func78, Tryz.ntmps78
  go_wp2_with fail
  go_ret
  exact ⟨rfl, T0.out⟩

set_option maxHeartbeats 4000000 in
set_option maxRecDepth 100000 in
theorem refCanX {w : World} (k : Nat) (hk : k ≤ 200) (t : Int) (a : Ads) (h : StIs w a (sX k)) (hr : recB (rcX t) = true) :
    Calls Tryz.prog 27 #[.agg #[.int .i64 6, .int .i64 1, .int .i64 1, .int .i64 (k : Int), .slice a.m 0 a.cm, .slice a.w 0 a.cw, .slice a.e 0 a.ce, .slice a.o 0 a.co, .slice a.n 0 a.cn], .agg #[.int .i64 1, .int .i64 t, .int .i64 0, .bool false, .slice none 0 0, .slice none 0 0]] w fun e w' => e = .returned (.int .i64 (canE (sX k) (rcX t))) ∧ Turn [] w w' := by
  rw [canX_is k t hr]
  obtain ⟨mk, hmk⟩ : ∃ z, z = makeZ 6 ((k : Int) + 1) := ⟨_, rfl⟩
  rw [← hmk]
  obtain ⟨ans, ha⟩ : ∃ z : Int, z = if t ≠ mk then 12 else if 200 ≤ k then 5 else 0 := ⟨_, rfl⟩
  have HA := Lib.hid ha
  rw [← ha]
  have C1 := fun wx (q : Turn [] w wx) => refRecord_calls (w := wx) (ap := none) (aq := none) (cp := 0) (cq := 0) (rcX t) (.inl ⟨rfl, rfl, rfl⟩) (.inl ⟨rfl, rfl, rfl⟩)
  have C2 := fun wx (q : Turn [] w wx) => refAtEnds_calls t (h.still q)
  have C3 := fun wx (q : Turn [] w wx) => refAtWaits_calls t (h.still q)
  have C4 := fun wx (q : Turn [] w wx) => refAtPend_calls t (h.still q).open_
  have C5 := fun wx => refHome_calls t wx
  have C9 := fun wx => refMake_calls 6 ((k : Int) + 1) wx
  have C11 := fun wx => refFullX k a t wx
  rw [show (rcX t).cells none 0 none 0 = #[.int .i64 1, .int .i64 t, .int .i64 0, .bool false, .slice none 0 0, .slice none 0 0] from rfl, hr] at C1
  rw [show (sX k).cells a = #[.int .i64 6, .int .i64 1, .int .i64 1, .int .i64 (k : Int), .slice a.m 0 a.cm, .slice a.w 0 a.cw, .slice a.e 0 a.ce, .slice a.o 0 a.co, .slice a.n 0 a.cn] from rfl, show placeI (fun m : EndV => decide (m.tid = t)) (sX k).ends = -1 from rfl] at C2
  rw [show (sX k).cells a = #[.int .i64 6, .int .i64 1, .int .i64 1, .int .i64 (k : Int), .slice a.m 0 a.cm, .slice a.w 0 a.cw, .slice a.e 0 a.ce, .slice a.o 0 a.co, .slice a.n 0 a.cn] from rfl, show placeI (fun m : BrV => decide (m.tid = t)) (sX k).waits = -1 from rfl] at C3
  rw [show (sX k).open_.length = 0 from rfl, show placeI (fun m : PendV => decide (m.tid = t)) (sX k).open_ = -1 from rfl] at C4
  rw [← hmk] at C9
  obtain ⟨hz, ehz⟩ : ∃ b, b = homeZ t := ⟨_, rfl⟩
  rw [← ehz] at C5
  have K1 := Lib.hid C1
  have K2 := Lib.hid C2
  have K3 := Lib.hid C3
  have K4 := Lib.hid C4
  have K5 := Lib.hid C5
  have K9 := Lib.hid C9
  have K11 := Lib.hid C11
  have T0 := Lib.hid ((Turn.alloc [] w (.cells #[.int .i64 6, .int .i64 1, .int .i64 1, .int .i64 (k : Int), .slice a.m 0 a.cm, .slice a.w 0 a.cw, .slice a.e 0 a.ce, .slice a.o 0 a.co, .slice a.n 0 a.cn] 27)).trans (Turn.alloc [] _ (.cells #[.int .i64 1, .int .i64 t, .int .i64 0, .bool false, .slice none 0 0, .slice none 0 0] 37)) (by simp))
  have U0 := Lib.hid (Turn.refl [] ((w.alloc (.cells #[.int .i64 6, .int .i64 1, .int .i64 1, .int .i64 (k : Int), .slice a.m 0 a.cm, .slice a.w 0 a.cw, .slice a.e 0 a.ce, .slice a.o 0 a.co, .slice a.n 0 a.cn] 27)).alloc (.cells #[.int .i64 1, .int .i64 t, .int .i64 0, .bool false, .slice none 0 0, .slice none 0 0] 37)))
  have HSX : Hid (∀ x, Turn [] ((w.alloc (.cells #[.int .i64 6, .int .i64 1, .int .i64 1, .int .i64 (k : Int), .slice a.m 0 a.cm, .slice a.w 0 a.cw, .slice a.e 0 a.ce, .slice a.o 0 a.co, .slice a.n 0 a.cn] 27)).alloc (.cells #[.int .i64 1, .int .i64 t, .int .i64 0, .bool false, .slice none 0 0, .slice none 0 0] 37)) x → x.cell? ⟨w.heap.size, 0, none⟩ = some (.int .i64 6) ∧ x.cell? ⟨w.heap.size, 1, none⟩ = some (.int .i64 1) ∧ x.cell? ⟨w.heap.size, 2, none⟩ = some (.int .i64 1) ∧ x.cell? ⟨w.heap.size, 3, none⟩ = some (.int .i64 (k : Int)) ∧ x.cell? ⟨w.heap.size, 4, none⟩ = some (.slice a.m 0 a.cm) ∧ x.cell? ⟨w.heap.size, 5, none⟩ = some (.slice a.w 0 a.cw) ∧ x.cell? ⟨w.heap.size, 6, none⟩ = some (.slice a.e 0 a.ce) ∧ x.cell? ⟨w.heap.size, 7, none⟩ = some (.slice a.o 0 a.co) ∧ x.cell? ⟨w.heap.size, 8, none⟩ = some (.slice a.n 0 a.cn) ∧ x.cell? ⟨w.heap.size + 1, 0, none⟩ = some (.int .i64 1) ∧ x.cell? ⟨w.heap.size + 1, 1, none⟩ = some (.int .i64 t) ∧ x.cell? ⟨w.heap.size + 1, 2, none⟩ = some (.int .i64 0) ∧ x.cell? ⟨w.heap.size + 1, 3, none⟩ = some (.bool false) ∧ x.cell? ⟨w.heap.size + 1, 4, none⟩ = some (.slice none 0 0) ∧ x.cell? ⟨w.heap.size + 1, 5, none⟩ = some (.slice none 0 0)) := Lib.hid (fun x tt => boxX k a t w x tt)
  obtain ⟨xb, hxb⟩ : ∃ x, x = ((w.alloc (.cells #[.int .i64 6, .int .i64 1, .int .i64 1, .int .i64 (k : Int), .slice a.m 0 a.cm, .slice a.w 0 a.cw, .slice a.e 0 a.ce, .slice a.o 0 a.co, .slice a.n 0 a.cn] 27)).alloc (.cells #[.int .i64 1, .int .i64 t, .int .i64 0, .bool false, .slice none 0 0, .slice none 0 0] 37)) := ⟨_, rfl⟩
  have HXB := Lib.hid hxb
  rw [← hxb] at T0 U0 HSX
  have hw : IntKind.i64.wrap ((k : Int) + 1) = (k : Int) + 1 := by rw [IntKind.wrap_i64]; omega
  clear C1 C2 C3 C4 C5 C9 C11 hxb h hr ha hmk ehz
  go_enter Tryz.func27, Tryz.ntmps27
  go_wp2_with fail
  rw [← HXB.out]
  clear HXB
  refine (K1.out _ T0.out).mono ?_
  rintro e x1 ⟨rfl, t1⟩
  have U1 := Lib.hid t1
  clear t1 K1
  obtain ⟨b0, b1, b2, b3, b4, b5, b6, b7, b8, m0, m1, m2, m3, m4, m5⟩ := HSX.out _ U1.out
  go_wp2_with fail
  refine (K2.out _ (T0.out.trans U1.out (by simp))).mono ?_
  rintro e x2 ⟨rfl, t2⟩
  have U2 := Lib.hid (U1.out.trans t2 (by simp))
  clear t2 K2 b0 b1 b2 b3 b4 b5 b6 b7 b8 m0 m1 m2 m3 m4 m5
  go_upto_region 5 with fail
  have td := Turn.drew [] x2
  have TD := Lib.hid (U2.out.trans td (by simp))
  refine Ph.start [] (fun x => x.cell? ⟨w.heap.size, 0, none⟩ = some (.int .i64 6) ∧ x.cell? ⟨w.heap.size, 1, none⟩ = some (.int .i64 1) ∧ x.cell? ⟨w.heap.size, 2, none⟩ = some (.int .i64 1) ∧ x.cell? ⟨w.heap.size, 3, none⟩ = some (.int .i64 (k : Int)) ∧ x.cell? ⟨w.heap.size, 4, none⟩ = some (.slice a.m 0 a.cm) ∧ x.cell? ⟨w.heap.size, 5, none⟩ = some (.slice a.w 0 a.cw) ∧ x.cell? ⟨w.heap.size, 6, none⟩ = some (.slice a.e 0 a.ce) ∧ x.cell? ⟨w.heap.size, 7, none⟩ = some (.slice a.o 0 a.co) ∧ x.cell? ⟨w.heap.size, 8, none⟩ = some (.slice a.n 0 a.cn) ∧ x.cell? ⟨w.heap.size + 1, 0, none⟩ = some (.int .i64 1) ∧ x.cell? ⟨w.heap.size + 1, 1, none⟩ = some (.int .i64 t) ∧ x.cell? ⟨w.heap.size + 1, 2, none⟩ = some (.int .i64 0) ∧ x.cell? ⟨w.heap.size + 1, 3, none⟩ = some (.bool false) ∧ x.cell? ⟨w.heap.size + 1, 4, none⟩ = some (.slice none 0 0) ∧ x.cell? ⟨w.heap.size + 1, 5, none⟩ = some (.slice none 0 0)) (by kernel_rfl) (HSX.out _ TD.out) ?_
  clear td
  intro hS
  refine Ph.take (i := 0) (d := some 23) (v := ?_) rfl (by rfl) (by kernel_rfl) (by kernel_rfl) (by kernel_rfl) (by kernel_rfl) (fun _ _ _ h => h) (by rfl) hS ?_ ?_
  rotate_left
  · intro x hx
    obtain ⟨y0, y1, y2, y3, y4, y5, y6, y7, y8, y9, y10, y11, y12, y13, y14⟩ := hx
    go_simp
    try with_reducible rfl
  simp only [Act.put, List.setIfInBounds_toArray, List.set_cons_zero, List.set_cons_succ]
  refine Ph.take (i := 1) (d := some 24) (v := ?_) rfl (by rfl) (by kernel_rfl) (by kernel_rfl) (by kernel_rfl) (by kernel_rfl) (fun _ _ _ h => h) (by rfl) hS ?_ ?_
  rotate_left
  · intro x hx
    go_simp
    try with_reducible rfl
  simp only [Act.put, List.setIfInBounds_toArray, List.set_cons_zero, List.set_cons_succ]
  refine Ph.take (i := 2) (d := some 25) (v := ?_) rfl (by rfl) (by kernel_rfl) (by kernel_rfl) (by kernel_rfl) (by kernel_rfl) (fun _ _ _ h => h) (by rfl) hS ?_ ?_
  rotate_left
  · intro x hx
    obtain ⟨y0, y1, y2, y3, y4, y5, y6, y7, y8, y9, y10, y11, y12, y13, y14⟩ := hx
    go_simp
    try with_reducible rfl
  simp only [Act.put, List.setIfInBounds_toArray, List.set_cons_zero, List.set_cons_succ]
  refine Ph.take (i := 5) (d := some 28) (v := ?_) rfl (by rfl) (by kernel_rfl) (by kernel_rfl) (by kernel_rfl) (by kernel_rfl) (fun _ _ _ h => h) (by rfl) hS ?_ ?_
  rotate_left
  · intro x hx
    go_simp
    try with_reducible rfl
  simp only [Act.put, List.setIfInBounds_toArray, List.set_cons_zero, List.set_cons_succ]
  refine Ph.take (i := 6) (d := some 29) (v := ?_) rfl (by rfl) (by kernel_rfl) (by kernel_rfl) (by kernel_rfl) (by kernel_rfl) (fun _ _ _ h => h) (by rfl) hS ?_ ?_
  rotate_left
  · intro x hx
    obtain ⟨y0, y1, y2, y3, y4, y5, y6, y7, y8, y9, y10, y11, y12, y13, y14⟩ := hx
    go_simp
    try with_reducible rfl
  simp only [Act.put, List.setIfInBounds_toArray, List.set_cons_zero, List.set_cons_succ]
  refine Ph.take (i := 7) (d := some 30) (v := ?_) rfl (by rfl) (by kernel_rfl) (by kernel_rfl) (by kernel_rfl) (by kernel_rfl) (fun _ _ _ h => h) (by rfl) hS ?_ ?_
  rotate_left
  · intro x hx
    go_simp
    try with_reducible rfl
  simp only [Act.put, List.setIfInBounds_toArray, List.set_cons_zero, List.set_cons_succ]
  refine Ph.take (i := 8) (d := some 31) (v := ?_) rfl (by rfl) (by kernel_rfl) (by kernel_rfl) (by kernel_rfl) (by kernel_rfl) (fun _ _ _ h => h) (by rfl) hS ?_ ?_
  rotate_left
  · intro x hx
    obtain ⟨y0, y1, y2, y3, y4, y5, y6, y7, y8, y9, y10, y11, y12, y13, y14⟩ := hx
    go_simp
    try with_reducible rfl
  simp only [Act.put, List.setIfInBounds_toArray, List.set_cons_zero, List.set_cons_succ]
  refine Ph.one (i := 3) (by kernel_rfl) rfl ?_
  intro K hK
  rw [if_pos (by rfl)]
  go_simp
  refine (K3.out _ (T0.out.trans TD.out (by simp))).mono ?_
  rintro e x3 ⟨rfl, t3⟩
  have U3 := Lib.hid (TD.out.trans t3 (by simp))
  clear t3
  refine hK _ _ (HSX.out _ U3.out) (fun hS3 => ?_)
  clear hK K hS K3
  refine Ph.take (i := 4) (d := some 27) (v := ?_) rfl (by rfl) (by kernel_rfl) (by kernel_rfl) (by kernel_rfl) (by kernel_rfl) (fun _ _ _ h => h) (by rfl) hS3 ?_ ?_
  rotate_left
  · intro x hx
    go_simp
    try with_reducible rfl
  simp only [Act.put, List.setIfInBounds_toArray, List.set_cons_zero, List.set_cons_succ]
  refine Ph.one (i := 9) (by kernel_rfl) rfl ?_
  intro K hK
  rw [if_pos (by rfl)]
  go_simp
  refine (K4.out _ (T0.out.trans U3.out (by simp))).mono ?_
  rintro e x4 ⟨rfl, rfl⟩
  refine hK _ _ (HSX.out _ U3.out) (fun hS4 => ?_)
  clear hK K hS3 K4
  refine Ph.take (i := 10) (d := some 33) (v := ?_) rfl (by rfl) (by kernel_rfl) (by kernel_rfl) (by kernel_rfl) (by kernel_rfl) (fun _ _ _ h => h) (by rfl) hS4 ?_ ?_
  rotate_left
  · intro x hx
    go_simp
    try with_reducible rfl
  simp only [Act.put, List.setIfInBounds_toArray, List.set_cons_zero, List.set_cons_succ]
  refine Ph.take (i := 11) (d := some 5) (v := ?_) rfl (by rfl) (by kernel_rfl) (by kernel_rfl) (by kernel_rfl) (by kernel_rfl) (fun _ _ _ h => h) (by rfl) hS4 ?_ ?_
  rotate_left
  · intro x hx
    go_simp
    try with_reducible rfl
  simp only [Act.put, List.setIfInBounds_toArray, List.set_cons_zero, List.set_cons_succ]
  refine Ph.one (i := 12) (by kernel_rfl) rfl ?_
  intro K hK
  rw [if_pos (by rfl)]
  go_simp
  refine hK _ _ (HSX.out _ U3.out) (fun _ => Ph.done (by kernel_rfl) ?_ _)
  clear hK K hS4
  obtain ⟨b0, b1, b2, b3, b4, b5, b6, b7, b8, m0, m1, m2, m3, m4, m5⟩ := HSX.out _ U3.out
  go_wp2_with fail
  go_quiet ((go_at_call 53; exact (K5.out _).mono fun _ _ h => ⟨h.1, _, h.2.symm⟩))
  have U4 := Lib.hid (U3.out.trans (Turn.drewN [] x3 nq) (by simp))
  generalize x3.drewN nq = x5 at *
  clear b0 b1 b2 b3 b4 b5 b6 b7 b8 m0 m1 m2 m3 m4 m5
  obtain ⟨b0, b1, b2, b3, b4, b5, b6, b7, b8, m0, m1, m2, m3, m4, m5⟩ := HSX.out _ U4.out
  by_cases c0 : t = mk
  · have n0 : (t != mk) = false := by simpa using c0
    by_cases c1 : 200 ≤ k
    · have d1 : decide (200 ≤ k) = true := decide_eq_true c1
      have d2 : decide ((200 : Int) ≤ (k : Int)) = true := decide_eq_true (by omega)
      have HF : Hid (ans = 5) := Lib.hid (by rw [HA.out, if_neg (by simpa using c0), if_pos c1])
      clear HA c0 c1
      go_wp2_with fail
      go_quiet ((go_at_call 34; exact (K9.out _).mono fun _ _ h => ⟨h.1, _, h.2.symm⟩))
      go_wp2_with fail
      go_ret
      exact ⟨ret_int HF.out.symm, T0.out.trans (U4.out.trans (Turn.drewN [] _ _) (by simp)) (by simp)⟩
    · have d1 : decide (200 ≤ k) = false := decide_eq_false c1
      have d2 : decide ((200 : Int) ≤ (k : Int)) = false := decide_eq_false (by omega)
      have HF : Hid (ans = 0) := Lib.hid (by rw [HA.out, if_neg (by simpa using c0), if_neg c1])
      clear HA c0 c1
      go_wp2_with fail
      go_quiet ((go_at_call 34; exact (K9.out _).mono fun _ _ h => ⟨h.1, _, h.2.symm⟩))
      have U5 := fun nq => U4.out.trans (Turn.drewN [] _ nq) (by simp)
      go_wp2_with fail
      refine (K11.out _).mono ?_
      rintro e x9 ⟨rfl, t9⟩
      have U9 := Lib.hid ((U5 _).trans t9 (by simp))
      clear t9
      go_wp2_with fail
      go_ret
      exact ⟨ret_int HF.out.symm, T0.out.trans U9.out (by simp)⟩
  · have n0 : (t != mk) = true := by simpa using c0
    have HF : Hid (ans = 12) := Lib.hid (by rw [HA.out, if_pos c0])
    clear HA c0
    go_wp2_with fail
    go_quiet ((go_at_call 34; exact (K9.out _).mono fun _ _ h => ⟨h.1, _, h.2.symm⟩))
    go_wp2_with fail
    go_ret
    exact ⟨ret_int HF.out.symm, T0.out.trans (U4.out.trans (Turn.drewN [] _ _) (by simp)) (by simp)⟩

end Go.Proofs.YtjhlfjgfohoflaaGreat

/-
  The walk of the law StoreTx.
-/
namespace Go.Proofs.YtjhlfjgfohoflaaGreat
open Go.RowKit Go.Proofs.YtjhlfjgfohoflaaGreat.V

theorem tx_at {i : Nat} (h : i ≤ 205) : (canE (sX (min i 200)) (rX (i + 1)) = 0 ∧ i + 1 ≤ 200) ∨ ((canE (sX (min i 200)) (rX (i + 1)) = 5 ∨ canE (sX (min i 200)) (rX (i + 1)) = 12) ∧ 200 < i + 1) := canX' ⟨i, by omega⟩
theorem make_at {i : Nat} (h : i ≤ 205) : makeZ 6 ((i + 1 : Nat) : Int) = 25769803776 + ((i + 1 : Nat) : Int) := makeX' ⟨i, by omega⟩

set_option maxHeartbeats 16000000 in
set_option maxRecDepth 100000 in
theorem storeTx_walk {w : World} (n : Int) (_ : (Lit.int .i64 n).wf = true) (sk : Int) (_ : (Lit.int .i64 sk).wf = true) : Calls Tryz.prog 13 #[.int .i64 n, .int .i64 sk] w fun e w' => e = .returned (.bool true) ∧ Below w.heap.size w w' := by
  have CB := Lib.hid (begun10_calls w)
  go_enter Tryz.func13, Tryz.ntmps13
  by_cases h0 : n < 0
  · have d0 := decide_eq_true h0
    go_wp2_with fail
    refine CB.out.mono ?_
    rintro e x1 ⟨rfl, t1⟩
    have T1 := Lib.hid t1
    clear t1 CB
    go_wp2_with fail
    go_ret
    exact ⟨rfl, T1.out.belowAll⟩
  have d0 := decide_eq_false h0
  by_cases h1 : n > 205
  · have d1 := decide_eq_true h1
    go_wp2_with fail
    refine CB.out.mono ?_
    rintro e x1 ⟨rfl, t1⟩
    have T1 := Lib.hid t1
    clear t1 CB
    go_wp2_with fail
    go_ret
    exact ⟨rfl, T1.out.belowAll⟩
  have d1 := decide_eq_false h1
  obtain ⟨n, rfl⟩ : ∃ k : Nat, n = (k : Int) := ⟨n.toNat, by omega⟩
  have hn : n ≤ 205 := by omega
  clear h0 h1
  go_wp2_with fail
  refine CB.out.mono ?_
  rintro e x1 ⟨rfl, t1⟩
  have CN := Lib.hid (stNew_calls 6 x1)
  rw [newX] at CN
  have T1 := Lib.hid t1
  obtain ⟨aN, haN⟩ : ∃ a, a = noAds := ⟨_, rfl⟩
  rw [← haN] at CN
  clear haN t1 CB
  go_wp2_with fail
  refine CN.out.mono ?_
  rintro e xN ⟨rfl, isN, tN⟩
  have nb := Bx.new isN
  rw [show (sX 0).cells aN = #[.int .i64 6, .int .i64 1, .int .i64 1, .int .i64 0, .slice aN.m 0 aN.cm, .slice aN.w 0 aN.cw, .slice aN.e 0 aN.ce, .slice aN.o 0 aN.co, .slice aN.n 0 aN.cn] from rfl] at nb
  have ta := Turn.alloc [] xN (.cells #[.int .i64 6, .int .i64 1, .int .i64 1, .int .i64 0, .slice aN.m 0 aN.cm, .slice aN.w 0 aN.cw, .slice aN.e 0 aN.ce, .slice aN.o 0 aN.co, .slice aN.n 0 aN.cn] 27)
  have TN := Lib.hid ((T1.out.trans tN (by simp)).trans ta (by simp))
  have HWB : Hid (w.heap.size ≤ xN.heap.size) := Lib.hid (T1.out.trans tN (by simp)).size
  have BN := Lib.hid nb
  rw [show (sX 0).cells aN = #[.int .i64 6, .int .i64 1, .int .i64 1, .int .i64 0, .slice aN.m 0 aN.cm, .slice aN.w 0 aN.cw, .slice aN.e 0 aN.ce, .slice aN.o 0 aN.co, .slice aN.n 0 aN.cn] from rfl]
  clear nb ta isN tN T1 CN d0 d1
  go_upto_region 8 with fail
  generalize hy : xN.alloc (.cells #[.int .i64 6, .int .i64 1, .int .i64 1, .int .i64 0, .slice aN.m 0 aN.cm, .slice aN.w 0 aN.cw, .slice aN.e 0 aN.ce, .slice aN.o 0 aN.co, .slice aN.n 0 aN.cn] 27) = y at *
  obtain ⟨b, hb⟩ : ∃ b, b = xN.heap.size := ⟨_, rfl⟩
  rw [← hb] at BN HWB ⊢
  clear hy hb
  go_loopw [7, 8, 9] (fun v7 v8 v9 wx => ∃ (i ii : Nat) (a : Ads) (u8 u9 : Value), u8 = v8 ∧ u9 = v9 ∧ ii = i + 1 ∧ v7 = .int .i64 (ii : Int) ∧ i ≤ n ∧ Bx wx b a (sX (min i 200)) ∧ Turn [] w wx) (fun v7 _ _ _ => n + 1 - (intOf v7).toNat)
  case atStart => exact ⟨0, 1, aN, _, _, rfl, rfl, rfl, rfl, by omega, BN.out, TN.out⟩
  case round =>
    obtain ⟨i, ii, a, u8, u9, rfl, rfl, hii, rfl, hi, hbx, ht⟩ := hrel
    have HX := Lib.hid hbx
    have HT := Lib.hid ht
    have HII := Lib.hid hii
    clear hbx ht BN TN
    obtain ⟨k, hk⟩ : ∃ k, k = min i 200 := ⟨_, rfl⟩
    have HK := Lib.hid hk
    rw [← hk] at HX
    have hk200 : k ≤ 200 := by omega
    by_cases hin : i < n
    · have hle : ii ≤ n := by omega
      have d0 : decide (ii ≤ n) = true := decide_eq_true hle
      have CM := refMake_calls 6 (ii : Int) wr
      rw [show makeZ 6 (ii : Int) = 25769803776 + (ii : Int) by rw [hii]; exact make_at (by omega)] at CM
      have C1 := Lib.hid CM
      clear CM hk hii
      go_wp2_with fail
      refine C1.out.mono ?_
      rintro e x2 ⟨rfl, rfl⟩
      clear C1
      go_upto_region 11 with fail
      have BX2 := Lib.hid (HX.out.still (Turn.alloc [] wr (.cells #[.int .i64 1, .int .i64 (25769803776 + (ii : Int)), .int .i64 0, .bool false, .slice none 0 0, .slice none 0 0] 37)))
      have TA := Lib.hid (HT.out.trans (Turn.alloc [] wr (.cells #[.int .i64 1, .int .i64 (25769803776 + (ii : Int)), .int .i64 0, .bool false, .slice none 0 0, .slice none 0 0] 37)) (by simp))
      have RB2 := Lib.hid (heap_alloc_new wr (.cells #[.int .i64 1, .int .i64 (25769803776 + (ii : Int)), .int .i64 0, .bool false, .slice none 0 0, .slice none 0 0] 37))
      generalize hy2 : wr.alloc (.cells #[.int .i64 1, .int .i64 (25769803776 + (ii : Int)), .int .i64 0, .bool false, .slice none 0 0, .slice none 0 0] 37) = y2 at *
      obtain ⟨rb, hrb⟩ : ∃ x, x = wr.heap.size := ⟨_, rfl⟩
      rw [← hrb] at RB2 ⊢
      clear hy2 hrb HX HT
      have C := can_calls BX2.out.is (by rw [HK.out]; exact mX i) (rX ii) none none 0 0 (il_none _) (ps_none _) (by show okI (25769803776 + (ii : Int)); unfold okI; omega) (by show okI 0; unfold okI; decide)
      rw [show (sX k).cells a = #[.int .i64 6, .int .i64 1, .int .i64 1, .int .i64 (k : Int), .slice a.m 0 a.cm, .slice a.w 0 a.cw, .slice a.e 0 a.ce, .slice a.o 0 a.co, .slice a.n 0 a.cn] from rfl, show (rX ii).cells none 0 none 0 = #[.int .i64 1, .int .i64 (25769803776 + (ii : Int)), .int .i64 0, .bool false, .slice none 0 0, .slice none 0 0] from rfl] at C
      obtain ⟨ev, hev⟩ : ∃ x, x = canE (sX k) (rX ii) := ⟨_, rfl⟩
      have HEV : Hid ((ev = 0 ∧ ii ≤ 200) ∨ ((ev = 5 ∨ ev = 12) ∧ 200 < ii)) := Lib.hid (by rw [hev, HK.out, HII.out]; exact tx_at (by omega))
      rw [← hev] at C
      have C1 := Lib.hid C
      have hh := BX2.out.head
      rw [show (sX k).cells a = #[.int .i64 6, .int .i64 1, .int .i64 1, .int .i64 (k : Int), .slice a.m 0 a.cm, .slice a.w 0 a.cw, .slice a.e 0 a.ce, .slice a.o 0 a.co, .slice a.n 0 a.cn] from rfl] at hh
      obtain ⟨c0, c1, c2, c3, c4, c5, c6, c7, c8⟩ := nine_of hh
      obtain ⟨m0, m1, m2, m3, m4, m5⟩ := six_of10 RB2.out
      clear C hev hh
      go_wp2_with fail
      clear c0 c1 c2 c3 c4 c5 c6 c7 c8 m0 m1 m2 m3 m4 m5
      refine C1.out.mono ?_
      rintro e x3 ⟨rfl, t3⟩
      have T3 := Lib.hid (TA.out.trans t3 (by simp))
      have BX3 := Lib.hid (BX2.out.still t3)
      have RB3 := Lib.hid (t3.heap RB2.out (by simp))
      clear t3 C1 BX2 RB2 TA
      obtain ⟨k2, hk2⟩ : ∃ k, k = min (i + 1) 200 := ⟨_, rfl⟩
      have HK2 := Lib.hid hk2
      clear hk2
      rcases HEV.out with ⟨he, hi2⟩ | ⟨he, hi2⟩
      · subst he
        have e1 : decide (ii ≤ 200) = true := decide_eq_true hi2
        have e2 : decide ((ii : Int) ≤ 200) = true := decide_eq_true (by omega)
        clear HEV
        have C := apply_rows BX3.out.is (by rw [HK.out]; exact mX i) (rX ii) none none 0 0 (il_none _) (ps_none _) (by show okI (25769803776 + (ii : Int)); unfold okI; omega) (by show okI 0; unfold okI; decide) (u := sX k2) (by rw [HK.out, HK2.out, HII.out]; exact stX (by omega))
        rw [show (sX k).cells a = #[.int .i64 6, .int .i64 1, .int .i64 1, .int .i64 (k : Int), .slice a.m 0 a.cm, .slice a.w 0 a.cw, .slice a.e 0 a.ce, .slice a.o 0 a.co, .slice a.n 0 a.cn] from rfl, show (rX ii).cells none 0 none 0 = #[.int .i64 1, .int .i64 (25769803776 + (ii : Int)), .int .i64 0, .bool false, .slice none 0 0, .slice none 0 0] from rfl] at C
        have C1 := Lib.hid C
        have hh := BX3.out.head
        rw [show (sX k).cells a = #[.int .i64 6, .int .i64 1, .int .i64 1, .int .i64 (k : Int), .slice a.m 0 a.cm, .slice a.w 0 a.cw, .slice a.e 0 a.ce, .slice a.o 0 a.co, .slice a.n 0 a.cn] from rfl] at hh
        obtain ⟨c0, c1, c2, c3, c4, c5, c6, c7, c8⟩ := nine_of hh
        obtain ⟨m0, m1, m2, m3, m4, m5⟩ := six_of10 RB3.out
        clear C hh
        go_wp2_with fail
        clear c0 c1 c2 c3 c4 c5 c6 c7 c8 m0 m1 m2 m3 m4 m5
        refine C1.out.mono ?_
        rintro e x4 ⟨a4, LWa4, LOa4, LNa4, rfl, rA, tA⟩
        have BX := Lib.hid (BX3.out.still tA)
        have sx := bx_store2 BX.out rA (by rw [HK2.out]; exact mX (i + 1))
        have SX : Hid (Bx (((((((((x4.setCell ⟨b, 0, none⟩ (.int .i64 6)).setCell ⟨b, 1, none⟩ (.int .i64 1)).setCell ⟨b, 2, none⟩ (.int .i64 1)).setCell ⟨b, 3, none⟩ (.int .i64 (k2 : Int))).setCell ⟨b, 4, none⟩ (.slice a4.m 0 a4.cm)).setCell ⟨b, 5, none⟩ (.slice a4.w 0 a4.cw)).setCell ⟨b, 6, none⟩ (.slice a4.e 0 a4.ce)).setCell ⟨b, 7, none⟩ (.slice a4.o 0 a4.co)).setCell ⟨b, 8, none⟩ (.slice a4.n 0 a4.cn)) b a4 (sX k2) ∧ Turn [b] x4 (((((((((x4.setCell ⟨b, 0, none⟩ (.int .i64 6)).setCell ⟨b, 1, none⟩ (.int .i64 1)).setCell ⟨b, 2, none⟩ (.int .i64 1)).setCell ⟨b, 3, none⟩ (.int .i64 (k2 : Int))).setCell ⟨b, 4, none⟩ (.slice a4.m 0 a4.cm)).setCell ⟨b, 5, none⟩ (.slice a4.w 0 a4.cw)).setCell ⟨b, 6, none⟩ (.slice a4.e 0 a4.ce)).setCell ⟨b, 7, none⟩ (.slice a4.o 0 a4.co)).setCell ⟨b, 8, none⟩ (.slice a4.n 0 a4.cn)) ∧ Rows (((((((((x4.setCell ⟨b, 0, none⟩ (.int .i64 6)).setCell ⟨b, 1, none⟩ (.int .i64 1)).setCell ⟨b, 2, none⟩ (.int .i64 1)).setCell ⟨b, 3, none⟩ (.int .i64 (k2 : Int))).setCell ⟨b, 4, none⟩ (.slice a4.m 0 a4.cm)).setCell ⟨b, 5, none⟩ (.slice a4.w 0 a4.cw)).setCell ⟨b, 6, none⟩ (.slice a4.e 0 a4.ce)).setCell ⟨b, 7, none⟩ (.slice a4.o 0 a4.co)).setCell ⟨b, 8, none⟩ (.slice a4.n 0 a4.cn)) _ (sX k2) a4 LWa4 LOa4 LNa4) := Lib.hid sx
        have TX := Lib.hid tA
        have hh := BX.out.head
        rw [show (sX k).cells a = #[.int .i64 6, .int .i64 1, .int .i64 1, .int .i64 (k : Int), .slice a.m 0 a.cm, .slice a.w 0 a.cw, .slice a.e 0 a.ce, .slice a.o 0 a.co, .slice a.n 0 a.cn] from rfl] at hh
        obtain ⟨c0, c1, c2, c3, c4, c5, c6, c7, c8⟩ := nine_of hh
        have f0 : ∀ j, x4.frozen? ⟨b, j, none⟩ = false := fun j => unfrozen_of hh
        rw [show (sX k2).cells a4 = #[.int .i64 6, .int .i64 1, .int .i64 1, .int .i64 (k2 : Int), .slice a4.m 0 a4.cm, .slice a4.w 0 a4.cw, .slice a4.e 0 a4.ce, .slice a4.o 0 a4.co, .slice a4.n 0 a4.cn] from rfl]
        clear C1 sx rA tA hh BX3
        go_upto_region 9 with fail
        clear c0 c1 c2 c3 c4 c5 c6 c7 c8 f0 BX
        generalize hy : (((((((((x4.setCell ⟨b, 0, none⟩ (.int .i64 6)).setCell ⟨b, 1, none⟩ (.int .i64 1)).setCell ⟨b, 2, none⟩ (.int .i64 1)).setCell ⟨b, 3, none⟩ (.int .i64 (k2 : Int))).setCell ⟨b, 4, none⟩ (.slice a4.m 0 a4.cm)).setCell ⟨b, 5, none⟩ (.slice a4.w 0 a4.cw)).setCell ⟨b, 6, none⟩ (.slice a4.e 0 a4.ce)).setCell ⟨b, 7, none⟩ (.slice a4.o 0 a4.co)).setCell ⟨b, 8, none⟩ (.slice a4.n 0 a4.cn)) = yB at *
        clear hy
        have T4 := Lib.hid ((T3.out.trans TX.out (by simp)).trans SX.out.2.1 (fun i hi => .inr (by have := HWB.out; simp at hi; omega)))
        have B4 := Lib.hid SX.out.1
        clear SX TX RB3 T3
        go_wp2_with fail
        go_roundw
        case rel => exact ⟨i + 1, ii + 1, a4, _, _, rfl, rfl, by have := HII.out; omega, by go_num, by omega, (by rw [← HK2.out]; exact B4.out), T4.out⟩
        case measure => simp [intOf]; omega
      · have e1 : decide (ii ≤ 200) = false := decide_eq_false (by omega)
        have e2 : decide ((ii : Int) ≤ 200) = false := decide_eq_false (by omega)
        have e3 : decide (200 < ii) = true := decide_eq_true hi2
        have e4 : decide ((ii : Int) > 200) = true := decide_eq_true (by omega)
        clear HEV
        rcases he with he | he
        · subst he
          have C := apply_rows BX3.out.is (by rw [HK.out]; exact mX i) (rX ii) none none 0 0 (il_none _) (ps_none _) (by show okI (25769803776 + (ii : Int)); unfold okI; omega) (by show okI 0; unfold okI; decide) (u := sX k2) (by rw [HK.out, HK2.out, HII.out]; exact stX (by omega))
          rw [show (sX k).cells a = #[.int .i64 6, .int .i64 1, .int .i64 1, .int .i64 (k : Int), .slice a.m 0 a.cm, .slice a.w 0 a.cw, .slice a.e 0 a.ce, .slice a.o 0 a.co, .slice a.n 0 a.cn] from rfl, show (rX ii).cells none 0 none 0 = #[.int .i64 1, .int .i64 (25769803776 + (ii : Int)), .int .i64 0, .bool false, .slice none 0 0, .slice none 0 0] from rfl] at C
          have C1 := Lib.hid C
          have hh := BX3.out.head
          rw [show (sX k).cells a = #[.int .i64 6, .int .i64 1, .int .i64 1, .int .i64 (k : Int), .slice a.m 0 a.cm, .slice a.w 0 a.cw, .slice a.e 0 a.ce, .slice a.o 0 a.co, .slice a.n 0 a.cn] from rfl] at hh
          obtain ⟨c0, c1, c2, c3, c4, c5, c6, c7, c8⟩ := nine_of hh
          obtain ⟨m0, m1, m2, m3, m4, m5⟩ := six_of10 RB3.out
          clear C hh
          go_wp2_with fail
          clear c0 c1 c2 c3 c4 c5 c6 c7 c8 m0 m1 m2 m3 m4 m5
          refine C1.out.mono ?_
          rintro e x4 ⟨a4, LWa4, LOa4, LNa4, rfl, rA, tA⟩
          have BX := Lib.hid (BX3.out.still tA)
          have sx := bx_store2 BX.out rA (by rw [HK2.out]; exact mX (i + 1))
          have SX : Hid (Bx (((((((((x4.setCell ⟨b, 0, none⟩ (.int .i64 6)).setCell ⟨b, 1, none⟩ (.int .i64 1)).setCell ⟨b, 2, none⟩ (.int .i64 1)).setCell ⟨b, 3, none⟩ (.int .i64 (k2 : Int))).setCell ⟨b, 4, none⟩ (.slice a4.m 0 a4.cm)).setCell ⟨b, 5, none⟩ (.slice a4.w 0 a4.cw)).setCell ⟨b, 6, none⟩ (.slice a4.e 0 a4.ce)).setCell ⟨b, 7, none⟩ (.slice a4.o 0 a4.co)).setCell ⟨b, 8, none⟩ (.slice a4.n 0 a4.cn)) b a4 (sX k2) ∧ Turn [b] x4 (((((((((x4.setCell ⟨b, 0, none⟩ (.int .i64 6)).setCell ⟨b, 1, none⟩ (.int .i64 1)).setCell ⟨b, 2, none⟩ (.int .i64 1)).setCell ⟨b, 3, none⟩ (.int .i64 (k2 : Int))).setCell ⟨b, 4, none⟩ (.slice a4.m 0 a4.cm)).setCell ⟨b, 5, none⟩ (.slice a4.w 0 a4.cw)).setCell ⟨b, 6, none⟩ (.slice a4.e 0 a4.ce)).setCell ⟨b, 7, none⟩ (.slice a4.o 0 a4.co)).setCell ⟨b, 8, none⟩ (.slice a4.n 0 a4.cn)) ∧ Rows (((((((((x4.setCell ⟨b, 0, none⟩ (.int .i64 6)).setCell ⟨b, 1, none⟩ (.int .i64 1)).setCell ⟨b, 2, none⟩ (.int .i64 1)).setCell ⟨b, 3, none⟩ (.int .i64 (k2 : Int))).setCell ⟨b, 4, none⟩ (.slice a4.m 0 a4.cm)).setCell ⟨b, 5, none⟩ (.slice a4.w 0 a4.cw)).setCell ⟨b, 6, none⟩ (.slice a4.e 0 a4.ce)).setCell ⟨b, 7, none⟩ (.slice a4.o 0 a4.co)).setCell ⟨b, 8, none⟩ (.slice a4.n 0 a4.cn)) _ (sX k2) a4 LWa4 LOa4 LNa4) := Lib.hid sx
          have TX := Lib.hid tA
          have hh := BX.out.head
          rw [show (sX k).cells a = #[.int .i64 6, .int .i64 1, .int .i64 1, .int .i64 (k : Int), .slice a.m 0 a.cm, .slice a.w 0 a.cw, .slice a.e 0 a.ce, .slice a.o 0 a.co, .slice a.n 0 a.cn] from rfl] at hh
          obtain ⟨c0, c1, c2, c3, c4, c5, c6, c7, c8⟩ := nine_of hh
          have f0 : ∀ j, x4.frozen? ⟨b, j, none⟩ = false := fun j => unfrozen_of hh
          rw [show (sX k2).cells a4 = #[.int .i64 6, .int .i64 1, .int .i64 1, .int .i64 (k2 : Int), .slice a4.m 0 a4.cm, .slice a4.w 0 a4.cw, .slice a4.e 0 a4.ce, .slice a4.o 0 a4.co, .slice a4.n 0 a4.cn] from rfl]
          clear C1 sx rA tA hh BX3
          go_upto_region 9 with fail
          clear c0 c1 c2 c3 c4 c5 c6 c7 c8 f0 BX
          generalize hy : (((((((((x4.setCell ⟨b, 0, none⟩ (.int .i64 6)).setCell ⟨b, 1, none⟩ (.int .i64 1)).setCell ⟨b, 2, none⟩ (.int .i64 1)).setCell ⟨b, 3, none⟩ (.int .i64 (k2 : Int))).setCell ⟨b, 4, none⟩ (.slice a4.m 0 a4.cm)).setCell ⟨b, 5, none⟩ (.slice a4.w 0 a4.cw)).setCell ⟨b, 6, none⟩ (.slice a4.e 0 a4.ce)).setCell ⟨b, 7, none⟩ (.slice a4.o 0 a4.co)).setCell ⟨b, 8, none⟩ (.slice a4.n 0 a4.cn)) = yB at *
          clear hy
          have T4 := Lib.hid ((T3.out.trans TX.out (by simp)).trans SX.out.2.1 (fun i hi => .inr (by have := HWB.out; simp at hi; omega)))
          have B4 := Lib.hid SX.out.1
          clear SX TX RB3 T3
          go_wp2_with fail
          go_roundw
          case rel => exact ⟨i + 1, ii + 1, a4, _, _, rfl, rfl, by have := HII.out; omega, by go_num, by omega, (by rw [← HK2.out]; exact B4.out), T4.out⟩
          case measure => simp [intOf]; omega
        · subst he
          have C := apply_rows BX3.out.is (by rw [HK.out]; exact mX i) (rX ii) none none 0 0 (il_none _) (ps_none _) (by show okI (25769803776 + (ii : Int)); unfold okI; omega) (by show okI 0; unfold okI; decide) (u := sX k2) (by rw [HK.out, HK2.out, HII.out]; exact stX (by omega))
          rw [show (sX k).cells a = #[.int .i64 6, .int .i64 1, .int .i64 1, .int .i64 (k : Int), .slice a.m 0 a.cm, .slice a.w 0 a.cw, .slice a.e 0 a.ce, .slice a.o 0 a.co, .slice a.n 0 a.cn] from rfl, show (rX ii).cells none 0 none 0 = #[.int .i64 1, .int .i64 (25769803776 + (ii : Int)), .int .i64 0, .bool false, .slice none 0 0, .slice none 0 0] from rfl] at C
          have C1 := Lib.hid C
          have hh := BX3.out.head
          rw [show (sX k).cells a = #[.int .i64 6, .int .i64 1, .int .i64 1, .int .i64 (k : Int), .slice a.m 0 a.cm, .slice a.w 0 a.cw, .slice a.e 0 a.ce, .slice a.o 0 a.co, .slice a.n 0 a.cn] from rfl] at hh
          obtain ⟨c0, c1, c2, c3, c4, c5, c6, c7, c8⟩ := nine_of hh
          obtain ⟨m0, m1, m2, m3, m4, m5⟩ := six_of10 RB3.out
          clear C hh
          go_wp2_with fail
          clear c0 c1 c2 c3 c4 c5 c6 c7 c8 m0 m1 m2 m3 m4 m5
          refine C1.out.mono ?_
          rintro e x4 ⟨a4, LWa4, LOa4, LNa4, rfl, rA, tA⟩
          have BX := Lib.hid (BX3.out.still tA)
          have sx := bx_store2 BX.out rA (by rw [HK2.out]; exact mX (i + 1))
          have SX : Hid (Bx (((((((((x4.setCell ⟨b, 0, none⟩ (.int .i64 6)).setCell ⟨b, 1, none⟩ (.int .i64 1)).setCell ⟨b, 2, none⟩ (.int .i64 1)).setCell ⟨b, 3, none⟩ (.int .i64 (k2 : Int))).setCell ⟨b, 4, none⟩ (.slice a4.m 0 a4.cm)).setCell ⟨b, 5, none⟩ (.slice a4.w 0 a4.cw)).setCell ⟨b, 6, none⟩ (.slice a4.e 0 a4.ce)).setCell ⟨b, 7, none⟩ (.slice a4.o 0 a4.co)).setCell ⟨b, 8, none⟩ (.slice a4.n 0 a4.cn)) b a4 (sX k2) ∧ Turn [b] x4 (((((((((x4.setCell ⟨b, 0, none⟩ (.int .i64 6)).setCell ⟨b, 1, none⟩ (.int .i64 1)).setCell ⟨b, 2, none⟩ (.int .i64 1)).setCell ⟨b, 3, none⟩ (.int .i64 (k2 : Int))).setCell ⟨b, 4, none⟩ (.slice a4.m 0 a4.cm)).setCell ⟨b, 5, none⟩ (.slice a4.w 0 a4.cw)).setCell ⟨b, 6, none⟩ (.slice a4.e 0 a4.ce)).setCell ⟨b, 7, none⟩ (.slice a4.o 0 a4.co)).setCell ⟨b, 8, none⟩ (.slice a4.n 0 a4.cn)) ∧ Rows (((((((((x4.setCell ⟨b, 0, none⟩ (.int .i64 6)).setCell ⟨b, 1, none⟩ (.int .i64 1)).setCell ⟨b, 2, none⟩ (.int .i64 1)).setCell ⟨b, 3, none⟩ (.int .i64 (k2 : Int))).setCell ⟨b, 4, none⟩ (.slice a4.m 0 a4.cm)).setCell ⟨b, 5, none⟩ (.slice a4.w 0 a4.cw)).setCell ⟨b, 6, none⟩ (.slice a4.e 0 a4.ce)).setCell ⟨b, 7, none⟩ (.slice a4.o 0 a4.co)).setCell ⟨b, 8, none⟩ (.slice a4.n 0 a4.cn)) _ (sX k2) a4 LWa4 LOa4 LNa4) := Lib.hid sx
          have TX := Lib.hid tA
          have hh := BX.out.head
          rw [show (sX k).cells a = #[.int .i64 6, .int .i64 1, .int .i64 1, .int .i64 (k : Int), .slice a.m 0 a.cm, .slice a.w 0 a.cw, .slice a.e 0 a.ce, .slice a.o 0 a.co, .slice a.n 0 a.cn] from rfl] at hh
          obtain ⟨c0, c1, c2, c3, c4, c5, c6, c7, c8⟩ := nine_of hh
          have f0 : ∀ j, x4.frozen? ⟨b, j, none⟩ = false := fun j => unfrozen_of hh
          rw [show (sX k2).cells a4 = #[.int .i64 6, .int .i64 1, .int .i64 1, .int .i64 (k2 : Int), .slice a4.m 0 a4.cm, .slice a4.w 0 a4.cw, .slice a4.e 0 a4.ce, .slice a4.o 0 a4.co, .slice a4.n 0 a4.cn] from rfl]
          clear C1 sx rA tA hh BX3
          go_upto_region 9 with fail
          clear c0 c1 c2 c3 c4 c5 c6 c7 c8 f0 BX
          generalize hy : (((((((((x4.setCell ⟨b, 0, none⟩ (.int .i64 6)).setCell ⟨b, 1, none⟩ (.int .i64 1)).setCell ⟨b, 2, none⟩ (.int .i64 1)).setCell ⟨b, 3, none⟩ (.int .i64 (k2 : Int))).setCell ⟨b, 4, none⟩ (.slice a4.m 0 a4.cm)).setCell ⟨b, 5, none⟩ (.slice a4.w 0 a4.cw)).setCell ⟨b, 6, none⟩ (.slice a4.e 0 a4.ce)).setCell ⟨b, 7, none⟩ (.slice a4.o 0 a4.co)).setCell ⟨b, 8, none⟩ (.slice a4.n 0 a4.cn)) = yB at *
          clear hy
          have T4 := Lib.hid ((T3.out.trans TX.out (by simp)).trans SX.out.2.1 (fun i hi => .inr (by have := HWB.out; simp at hi; omega)))
          have B4 := Lib.hid SX.out.1
          clear SX TX RB3 T3
          go_wp2_with fail
          go_roundw
          case rel => exact ⟨i + 1, ii + 1, a4, _, _, rfl, rfl, by have := HII.out; omega, by go_num, by omega, (by rw [← HK2.out]; exact B4.out), T4.out⟩
          case measure => simp [intOf]; omega
    · have hin2 : i = n := by omega
      subst hin2
      have d0 : decide (ii ≤ i) = false := decide_eq_false (by omega)
      have hle : ¬ ii ≤ i := by omega
      have HT2 : Hid (∀ x, okI (makeZ 6 x)) := Lib.hid (fun x => by
        unfold okI makeZ
        split
        · rename_i hh; omega
        · omega)
      have CM := refMake_calls 6 sk wr
      obtain ⟨t, hmt⟩ : ∃ t, t = makeZ 6 sk := ⟨_, rfl⟩
      have HOK : Hid (okI t) := Lib.hid (by rw [hmt]; exact HT2.out sk)
      rw [← hmt] at CM
      have C1 := Lib.hid CM
      clear CM hk hii hmt HT2
      go_wp2_with fail
      refine C1.out.mono ?_
      rintro e x2 ⟨rfl, rfl⟩
      clear C1
      go_upto_region 16 with fail
      have BX2 := Lib.hid (HX.out.still (Turn.alloc [] wr (.cells #[.int .i64 1, .int .i64 t, .int .i64 0, .bool false, .slice none 0 0, .slice none 0 0] 37)))
      have TA := Lib.hid (HT.out.trans (Turn.alloc [] wr (.cells #[.int .i64 1, .int .i64 t, .int .i64 0, .bool false, .slice none 0 0, .slice none 0 0] 37)) (by simp))
      have RB2 := Lib.hid (heap_alloc_new wr (.cells #[.int .i64 1, .int .i64 t, .int .i64 0, .bool false, .slice none 0 0, .slice none 0 0] 37))
      generalize hy2 : wr.alloc (.cells #[.int .i64 1, .int .i64 t, .int .i64 0, .bool false, .slice none 0 0, .slice none 0 0] 37) = y2 at *
      obtain ⟨rb, hrb⟩ : ∃ x, x = wr.heap.size := ⟨_, rfl⟩
      rw [← hrb] at RB2 ⊢
      clear hy2 hrb HX HT
      have hh := BX2.out.head
      rw [show (sX k).cells a = #[.int .i64 6, .int .i64 1, .int .i64 1, .int .i64 (k : Int), .slice a.m 0 a.cm, .slice a.w 0 a.cw, .slice a.e 0 a.ce, .slice a.o 0 a.co, .slice a.n 0 a.cn] from rfl] at hh
      obtain ⟨c0, c1, c2, c3, c4, c5, c6, c7, c8⟩ := nine_of hh
      obtain ⟨m0, m1, m2, m3, m4, m5⟩ := six_of10 RB2.out
      have HSX : Hid (∀ x, Turn [] y2 x → x.cell? ⟨b, 0, none⟩ = some (.int .i64 6) ∧ x.cell? ⟨b, 1, none⟩ = some (.int .i64 1) ∧ x.cell? ⟨b, 2, none⟩ = some (.int .i64 1) ∧ x.cell? ⟨b, 3, none⟩ = some (.int .i64 (k : Int)) ∧ x.cell? ⟨b, 4, none⟩ = some (.slice a.m 0 a.cm) ∧ x.cell? ⟨b, 5, none⟩ = some (.slice a.w 0 a.cw) ∧ x.cell? ⟨b, 6, none⟩ = some (.slice a.e 0 a.ce) ∧ x.cell? ⟨b, 7, none⟩ = some (.slice a.o 0 a.co) ∧ x.cell? ⟨b, 8, none⟩ = some (.slice a.n 0 a.cn) ∧ x.cell? ⟨rb, 0, none⟩ = some (.int .i64 1) ∧ x.cell? ⟨rb, 1, none⟩ = some (.int .i64 t) ∧ x.cell? ⟨rb, 2, none⟩ = some (.int .i64 0) ∧ x.cell? ⟨rb, 3, none⟩ = some (.bool false) ∧ x.cell? ⟨rb, 4, none⟩ = some (.slice none 0 0) ∧ x.cell? ⟨rb, 5, none⟩ = some (.slice none 0 0)) := Lib.hid (fun x t => ⟨t.cell c0 (by simp), t.cell c1 (by simp), t.cell c2 (by simp), t.cell c3 (by simp), t.cell c4 (by simp), t.cell c5 (by simp), t.cell c6 (by simp), t.cell c7 (by simp), t.cell c8 (by simp), t.cell m0 (by simp), t.cell m1 (by simp), t.cell m2 (by simp), t.cell m3 (by simp), t.cell m4 (by simp), t.cell m5 (by simp)⟩)
      clear c0 c1 c2 c3 c4 c5 c6 c7 c8 m0 m1 m2 m3 m4 m5 hh
      have C := fun x => refRecord_calls (w := x) (ap := none) (aq := none) (cp := 0) (cq := 0) (rcX t) (.inl ⟨rfl, rfl, rfl⟩) (.inl ⟨rfl, rfl, rfl⟩)
      rw [show (rcX t).cells none 0 none 0 = #[.int .i64 1, .int .i64 t, .int .i64 0, .bool false, .slice none 0 0, .slice none 0 0] from rfl] at C
      have K1 := Lib.hid C
      have C := fun x (q : Turn [] y2 x) => can_calls (BX2.out.is.still q) (by rw [HK.out]; exact mX i) (rcX t) none none 0 0 (il_none x) (ps_none x) HOK.out (by show okI 0; unfold okI; decide)
      rw [show (sX k).cells a = #[.int .i64 6, .int .i64 1, .int .i64 1, .int .i64 (k : Int), .slice a.m 0 a.cm, .slice a.w 0 a.cw, .slice a.e 0 a.ce, .slice a.o 0 a.co, .slice a.n 0 a.cn] from rfl, show (rcX t).cells none 0 none 0 = #[.int .i64 1, .int .i64 t, .int .i64 0, .bool false, .slice none 0 0, .slice none 0 0] from rfl] at C
      have K2 := Lib.hid C
      have K3 := Lib.hid (fun (g : recB (rcX t) = true) x (q : Turn [] y2 x) => refCanX k hk200 t a (BX2.out.is.still q) g)
      obtain ⟨rr, hrr⟩ : ∃ r, r = recB (rcX t) := ⟨_, rfl⟩
      obtain ⟨ev, hev⟩ : ∃ x, x = canE (sX k) (rcX t) := ⟨_, rfl⟩
      rw [← hrr] at K1 K3
      rw [← hev] at K2 K3
      have hmin : min (i : Int) 200 = (k : Int) := by rw [HK.out]; omega
      have TD := Lib.hid (Turn.drew [] y2)
      clear C hrr hev
      refine Ph.start [] (fun x => x.cell? ⟨b, 0, none⟩ = some (.int .i64 6) ∧ x.cell? ⟨b, 1, none⟩ = some (.int .i64 1) ∧ x.cell? ⟨b, 2, none⟩ = some (.int .i64 1) ∧ x.cell? ⟨b, 3, none⟩ = some (.int .i64 (k : Int)) ∧ x.cell? ⟨b, 4, none⟩ = some (.slice a.m 0 a.cm) ∧ x.cell? ⟨b, 5, none⟩ = some (.slice a.w 0 a.cw) ∧ x.cell? ⟨b, 6, none⟩ = some (.slice a.e 0 a.ce) ∧ x.cell? ⟨b, 7, none⟩ = some (.slice a.o 0 a.co) ∧ x.cell? ⟨b, 8, none⟩ = some (.slice a.n 0 a.cn) ∧ x.cell? ⟨rb, 0, none⟩ = some (.int .i64 1) ∧ x.cell? ⟨rb, 1, none⟩ = some (.int .i64 t) ∧ x.cell? ⟨rb, 2, none⟩ = some (.int .i64 0) ∧ x.cell? ⟨rb, 3, none⟩ = some (.bool false) ∧ x.cell? ⟨rb, 4, none⟩ = some (.slice none 0 0) ∧ x.cell? ⟨rb, 5, none⟩ = some (.slice none 0 0)) (by kernel_rfl) (HSX.out _ TD.out) ?_
      intro hS
      refine Ph.take (i := 0) (d := some 55) (v := ?_) rfl (by rfl) (by kernel_rfl) (by kernel_rfl) (by kernel_rfl) (by kernel_rfl) (fun _ _ _ h => h) (by rfl) hS ?_ ?_
      rotate_left
      · intro x hx
        go_simp
        try with_reducible rfl
      simp only [Act.put, List.setIfInBounds_toArray, List.set_cons_zero, List.set_cons_succ]
      refine Ph.take (i := 1) (d := some 56) (v := ?_) rfl (by rfl) (by kernel_rfl) (by kernel_rfl) (by kernel_rfl) (by kernel_rfl) (fun _ _ _ h => h) (by rfl) hS ?_ ?_
      rotate_left
      · intro x hx
        obtain ⟨y0, y1, y2, y3, y4, y5, y6, y7, y8, y9, y10, y11, y12, y13, y14⟩ := hx
        go_simp
        try with_reducible rfl
      simp only [Act.put, List.setIfInBounds_toArray, List.set_cons_zero, List.set_cons_succ]
      refine Ph.take (i := 2) (d := some 57) (v := ?_) rfl (by rfl) (by kernel_rfl) (by kernel_rfl) (by kernel_rfl) (by kernel_rfl) (fun _ _ _ h => h) (by rfl) hS ?_ ?_
      rotate_left
      · intro x hx
        go_simp
        try with_reducible rfl
      simp only [Act.put, List.setIfInBounds_toArray, List.set_cons_zero, List.set_cons_succ]
      refine Ph.one (i := 3) (by kernel_rfl) rfl ?_
      intro K hK
      rw [if_pos (by rfl)]
      go_simp
      refine hK _ _ (HSX.out _ TD.out) (fun hS3 => ?_)
      clear hK K
      try rw [hmin]
      refine Ph.take (i := 4) (d := some 59) (v := ?_) rfl (by rfl) (by kernel_rfl) (by kernel_rfl) (by kernel_rfl) (by kernel_rfl) (fun _ _ _ h => h) (by rfl) hS3 ?_ ?_
      rotate_left
      · intro x hx
        go_simp
        try with_reducible rfl
      simp only [Act.put, List.setIfInBounds_toArray, List.set_cons_zero, List.set_cons_succ]
      refine Ph.take (i := 5) (d := some 60) (v := ?_) rfl (by rfl) (by kernel_rfl) (by kernel_rfl) (by kernel_rfl) (by kernel_rfl) (fun _ _ _ h => h) (by rfl) hS3 ?_ ?_
      rotate_left
      · intro x hx
        go_simp
        try with_reducible rfl
      simp only [Act.put, List.setIfInBounds_toArray, List.set_cons_zero, List.set_cons_succ]
      refine Ph.take (i := 6) (d := some 61) (v := ?_) rfl (by rfl) (by kernel_rfl) (by kernel_rfl) (by kernel_rfl) (by kernel_rfl) (fun _ _ _ h => h) (by rfl) hS3 ?_ ?_
      rotate_left
      · intro x hx
        obtain ⟨y0, y1, y2, y3, y4, y5, y6, y7, y8, y9, y10, y11, y12, y13, y14⟩ := hx
        go_simp
        try with_reducible rfl
      simp only [Act.put, List.setIfInBounds_toArray, List.set_cons_zero, List.set_cons_succ]
      refine Ph.one (i := 7) (by kernel_rfl) rfl ?_
      intro K hK
      rw [if_pos (by rfl)]
      go_simp
      refine (K1.out _).mono ?_
      rintro e x7 ⟨rfl, t7⟩
      have T7 := Lib.hid (TD.out.trans t7 (by simp))
      clear t7
      refine hK _ _ (HSX.out _ T7.out) (fun hS7 => ?_)
      clear hK K K1 hS hS3
      cases rr with
      | false =>
        refine Ph.take (i := 8) (d := some 63) (v := ?_) rfl (by rfl) (by kernel_rfl) (by kernel_rfl) (by kernel_rfl) (by kernel_rfl) (fun _ _ _ h => h) (by rfl) hS7 ?_ ?_
        rotate_left
        · intro x hx
          go_simp
          try with_reducible rfl
        simp only [Act.put, List.setIfInBounds_toArray, List.set_cons_zero, List.set_cons_succ]
        refine Ph.take (i := 9) (d := some 64) (v := ?_) rfl (by rfl) (by kernel_rfl) (by kernel_rfl) (by kernel_rfl) (by kernel_rfl) (fun _ _ _ h => h) (by rfl) hS7 ?_ ?_
        rotate_left
        · intro x hx
          go_simp
          try with_reducible rfl
        simp only [Act.put, List.setIfInBounds_toArray, List.set_cons_zero, List.set_cons_succ]
        refine Ph.skip (i := 10) (d := some 65) rfl (by rfl) (by kernel_rfl) (by kernel_rfl) (by kernel_rfl) (by kernel_rfl) (fun _ _ _ h => h) (by rfl) hS7 ?_
        simp only [Act.put, List.setIfInBounds_toArray, List.set_cons_zero, List.set_cons_succ]
        refine Ph.skip (i := 11) (d := some 66) rfl (by rfl) (by kernel_rfl) (by kernel_rfl) (by kernel_rfl) (by kernel_rfl) (fun _ _ _ h => h) (by rfl) hS7 ?_
        simp only [Act.put, List.setIfInBounds_toArray, List.set_cons_zero, List.set_cons_succ]
        refine Ph.skip (i := 13) (d := some 68) rfl (by rfl) (by kernel_rfl) (by kernel_rfl) (by kernel_rfl) (by kernel_rfl) (fun _ _ _ h => h) (by rfl) hS7 ?_
        simp only [Act.put, List.setIfInBounds_toArray, List.set_cons_zero, List.set_cons_succ]
        refine Ph.skip (i := 14) (d := some 69) rfl (by rfl) (by kernel_rfl) (by kernel_rfl) (by kernel_rfl) (by kernel_rfl) (fun _ _ _ h => h) (by rfl) hS7 ?_
        simp only [Act.put, List.setIfInBounds_toArray, List.set_cons_zero, List.set_cons_succ]
        refine Ph.one (i := 12) (by kernel_rfl) rfl ?_
        intro K hK
        rw [if_neg (Bool.eq_false_iff.1 (by rfl))]
        simp only [Act.put, List.setIfInBounds_toArray]
        refine hK _ _ (HSX.out _ T7.out) (fun hS12 => ?_)
        clear hK K
        refine Ph.one (i := 15) (by kernel_rfl) rfl ?_
        intro K hK
        rw [if_neg (Bool.eq_false_iff.1 (by rfl))]
        simp only [Act.put]
        refine hK _ _ (HSX.out _ T7.out) (fun hS15 => ?_)
        clear hK K
        refine Ph.one (i := 16) (by kernel_rfl) rfl ?_
        intro K hK
        rw [if_neg (Bool.eq_false_iff.1 (by rfl))]
        simp only [Act.put]
        refine hK _ _ (HSX.out _ T7.out) (fun hS16 => ?_)
        clear hK K
        refine Ph.take (i := 17) (d := some 72) (v := ?_) rfl (by rfl) (by kernel_rfl) (by kernel_rfl) (by kernel_rfl) (by kernel_rfl) (fun _ _ _ h => h) (by rfl) hS16 ?_ ?_
        rotate_left
        · intro x hx
          go_simp
          try with_reducible rfl
        simp only [Act.put]
        refine Ph.take (i := 18) (d := some 73) (v := ?_) rfl (by rfl) (by kernel_rfl) (by kernel_rfl) (by kernel_rfl) (by kernel_rfl) (fun _ _ _ h => h) (by rfl) hS16 ?_ ?_
        rotate_left
        · intro x hx
          go_simp
          try with_reducible rfl
        simp only [Act.put]
        refine Ph.one (i := 19) (by kernel_rfl) rfl ?_
        intro K hK
        rw [if_pos (by rfl)]
        go_simp
        refine hK _ _ (HSX.out _ T7.out) (fun _ => Ph.done (by kernel_rfl) ?_ _)
        clear hK K
        go_wp2_with fail
        go_ret
        exact ⟨rfl, (TA.out.trans T7.out (by simp)).belowAll⟩
      | true =>
        have K3 := Lib.hid (K3.out rfl)
        refine Ph.take (i := 8) (d := some 63) (v := ?_) rfl (by rfl) (by kernel_rfl) (by kernel_rfl) (by kernel_rfl) (by kernel_rfl) (fun _ _ _ h => h) (by rfl) hS7 ?_ ?_
        rotate_left
        · intro x hx
          go_simp
          try with_reducible rfl
        simp only [Act.put, List.setIfInBounds_toArray, List.set_cons_zero, List.set_cons_succ]
        refine Ph.take (i := 9) (d := some 64) (v := ?_) rfl (by rfl) (by kernel_rfl) (by kernel_rfl) (by kernel_rfl) (by kernel_rfl) (fun _ _ _ h => h) (by rfl) hS7 ?_ ?_
        rotate_left
        · intro x hx
          go_simp
          try with_reducible rfl
        simp only [Act.put, List.setIfInBounds_toArray, List.set_cons_zero, List.set_cons_succ]
        refine Ph.take (i := 10) (d := some 65) (v := ?_) rfl (by rfl) (by kernel_rfl) (by kernel_rfl) (by kernel_rfl) (by kernel_rfl) (fun _ _ _ h => h) (by rfl) hS7 ?_ ?_
        rotate_left
        · intro x hx
          obtain ⟨y0, y1, y2, y3, y4, y5, y6, y7, y8, y9, y10, y11, y12, y13, y14⟩ := hx
          go_simp
          try with_reducible rfl
        simp only [Act.put, List.setIfInBounds_toArray, List.set_cons_zero, List.set_cons_succ]
        refine Ph.take (i := 11) (d := some 66) (v := ?_) rfl (by rfl) (by kernel_rfl) (by kernel_rfl) (by kernel_rfl) (by kernel_rfl) (fun _ _ _ h => h) (by rfl) hS7 ?_ ?_
        rotate_left
        · intro x hx
          obtain ⟨y0, y1, y2, y3, y4, y5, y6, y7, y8, y9, y10, y11, y12, y13, y14⟩ := hx
          go_simp
          try with_reducible rfl
        simp only [Act.put, List.setIfInBounds_toArray, List.set_cons_zero, List.set_cons_succ]
        refine Ph.take (i := 13) (d := some 68) (v := ?_) rfl (by rfl) (by kernel_rfl) (by kernel_rfl) (by kernel_rfl) (by kernel_rfl) (fun _ _ _ h => h) (by rfl) hS7 ?_ ?_
        rotate_left
        · intro x hx
          obtain ⟨y0, y1, y2, y3, y4, y5, y6, y7, y8, y9, y10, y11, y12, y13, y14⟩ := hx
          go_simp
          try with_reducible rfl
        simp only [Act.put, List.setIfInBounds_toArray, List.set_cons_zero, List.set_cons_succ]
        refine Ph.take (i := 14) (d := some 69) (v := ?_) rfl (by rfl) (by kernel_rfl) (by kernel_rfl) (by kernel_rfl) (by kernel_rfl) (fun _ _ _ h => h) (by rfl) hS7 ?_ ?_
        rotate_left
        · intro x hx
          obtain ⟨y0, y1, y2, y3, y4, y5, y6, y7, y8, y9, y10, y11, y12, y13, y14⟩ := hx
          go_simp
          try with_reducible rfl
        simp only [Act.put, List.setIfInBounds_toArray, List.set_cons_zero, List.set_cons_succ]
        refine Ph.one (i := 12) (by kernel_rfl) rfl ?_
        intro K hK
        rw [if_pos (by rfl)]
        go_simp
        refine (K2.out _ T7.out).mono ?_
        rintro e x8 ⟨rfl, t8⟩
        have T8 := Lib.hid (T7.out.trans t8 (by simp))
        clear t8
        refine hK _ _ (HSX.out _ T8.out) (fun hS8 => ?_)
        clear hK K K2 hS7
        refine Ph.one (i := 15) (by kernel_rfl) rfl ?_
        intro K hK
        rw [if_pos (by rfl)]
        go_simp
        refine (K3.out _ T8.out).mono ?_
        rintro e x9 ⟨rfl, t9⟩
        have T9 := Lib.hid (T8.out.trans t9 (by simp))
        clear t9
        refine hK _ _ (HSX.out _ T9.out) (fun hS9 => ?_)
        clear hK K K3 hS8
        refine Ph.take (i := 16) (d := some 71) (v := ?_) rfl (by rfl) (by kernel_rfl) (by kernel_rfl) (by kernel_rfl) (by kernel_rfl) (fun _ _ _ h => h) (by rfl) hS9 ?_ ?_
        rotate_left
        · intro x hx
          go_simp
          try with_reducible rfl
        simp only [Act.put, List.setIfInBounds_toArray, List.set_cons_zero, List.set_cons_succ]
        refine Ph.take (i := 17) (d := some 72) (v := ?_) rfl (by rfl) (by kernel_rfl) (by kernel_rfl) (by kernel_rfl) (by kernel_rfl) (fun _ _ _ h => h) (by rfl) hS9 ?_ ?_
        rotate_left
        · intro x hx
          go_simp
          try with_reducible rfl
        simp only [Act.put, List.setIfInBounds_toArray, List.set_cons_zero, List.set_cons_succ]
        refine Ph.take (i := 18) (d := some 73) (v := ?_) rfl (by rfl) (by kernel_rfl) (by kernel_rfl) (by kernel_rfl) (by kernel_rfl) (fun _ _ _ h => h) (by rfl) hS9 ?_ ?_
        rotate_left
        · intro x hx
          go_simp
          try with_reducible rfl
        simp only [Act.put, List.setIfInBounds_toArray, List.set_cons_zero, List.set_cons_succ]
        refine Ph.one (i := 19) (by kernel_rfl) rfl ?_
        intro K hK
        rw [if_pos (by rfl)]
        go_simp
        refine hK _ _ (HSX.out _ T9.out) (fun _ => Ph.done (by kernel_rfl) ?_ _)
        clear hK K
        go_wp2_with fail
        go_ret
        exact ⟨rfl, (TA.out.trans T9.out (by simp)).belowAll⟩

end Go.Proofs.YtjhlfjgfohoflaaGreat

/-
  The law 'postillionlaw10.StoreTx' answers true at every input, and each argument reads behind the call as it read before: for every input, no condition; the frame round the walk 'storeTx_walk'.
-/
namespace Go.Proofs.YtjhlfjgfohoflaaGreat.storeTx
open Go.ChangeShapes Go.WideShapes Go.ChangeAt Go.RowKit
open Go.ChangeMaps (open_string shut_string)
set_option linter.unusedVariables false

theorem own : ownKnob Tryz.prog.godebug = none := by kernel_rfl
theorem laidOut : laidOutB Tryz.prog = true := closed.p_laidOutB

set_option maxRecDepth 100000 in
theorem lifted (os : Os) (started : os.Started) (H : Type) (enc : TypeId × Value → H) :
    ReturnsInHanded {} Tryz.checked os 13 .any (Rows.storeTxSpec.pre6 enc Tryz.prog Tryz.f13 Rows.storeTxRow.domain false) (Rows.storeTxSpec.post enc Tryz.prog Tryz.f13 false true false false) := by
  refine returnsInHanded_of_change (C := Tryz.checked) own started (by kernel_rfl) Tryz.func13
    (ChangeSpec.witness6 (enc := enc) (C := Tryz.checked) false ⟨#[], #[.int .i64 0, .int .i64 0], []⟩ 8 (by kernel_rfl) (by kernel_rfl) (by kernel_rfl) (by kernel_rfl)) ?_
  intro W base args ds gs before hval0 hW hcnd _
  have hval : ∀ (j : Nat) t v, Tryz.f13.params[j]? = some t → args[j]? = some v → Value.okWide Tryz.prog W .any base t v := hval0
  have hW' := hW
  obtain ⟨p, q, hA0, hV, rfl, hfz, hnd⟩ := hW
  have hA : DataW.TrodAll enc Tryz.prog W 0 (fun _ => true) true Tryz.f13.params.toList args.toList ds p := hA0
  rw [Tryz.params13] at hA hval
  obtain ⟨v0, vs0, d0, ds0, p0, q0, hargs, rfl, rfl, h0, r0⟩ := trodAll_cons hA
  obtain ⟨v1, vs1, d1, ds1, p1, q1, rfl, rfl, rfl, h1, r1⟩ := trodAll_cons r0
  obtain ⟨rfl, rfl, rfl⟩ := trodAll_nil r1
  obtain rfl : args = #[v0, v1] := by cases args; simp_all
  obtain ⟨rfl, rfl⟩ := trodVars_none hV
  obtain ⟨a0, rfl, rfl, rfl, w0⟩ := open_int Tryz.underlying3 (hval 0 3 v0 rfl rfl) h0
  obtain ⟨a1, rfl, rfl, rfl, w1⟩ := open_int Tryz.underlying2 (hval 1 2 v1 rfl rfl) h1
  clear hA0 hval0
  refine (storeTx_walk (w := W) a0 w0 a1 w1).mono fun e W' ⟨he, bel⟩ => ?_
  subst he
  exact ⟨_, rfl, _, _, _, [], _, [], hW', trodAll_mk1 (shut_bool Tryz.underlying4 _), (trodAll_cons_mk (shut_int Tryz.underlying3 w0) (trodAll_cons_mk (shut_int Tryz.underlying2 w1) trodAll_mk0)), rfl, bel.frame _, fun h => by cases h⟩

theorem closed0 : (Rows.storeTxRow.wf (OpenSpec.ofChange Rows.storeTxSpec) : Bool) = true := by kernel_rfl

theorem closed3 : (Tryz.f13.params.all (Tryz.prog.readableRec ·) : Bool) = true := by kernel_rfl

theorem closed4 : (namedTie Tryz.prog Rows.storeTxRow.named Rows.storeTxSpec.vars : Bool) = true := by kernel_rfl

theorem closed5 : ((Rows.storeTxRow.stops == []) : Bool) = true := by kernel_rfl

theorem closed7 : ((Rows.storeTxRow.knobs == []) : Bool) = true := by kernel_rfl

theorem closed9 : ((Rows.storeTxRow.inPlace == Tryz.prog.inPlace 13) : Bool) = true := by kernel_rfl

theorem closed10 : ((Rows.storeTxRow.unfollowed == Tryz.prog.unfollowed 13) : Bool) = true := by kernel_rfl

theorem closed11 : ((Rows.storeTxRow.recurses == Tryz.prog.recurses 13) : Bool) = true := by kernel_rfl

theorem closed12 : ((Rows.storeTxRow.named == Tryz.prog.varsNamed 13) : Bool) = true := by kernel_rfl

theorem closed13 : ((Rows.storeTxRow.maps == (Tryz.f13.params.toList ++ Rows.storeTxSpec.plain.varTypes Tryz.prog).any (Tryz.prog.mapsRec ·)) : Bool) = true := by kernel_rfl

theorem closed14 : ((Rows.storeTxRow.ifaces == (Tryz.f13.params.toList ++ Rows.storeTxSpec.plain.varTypes Tryz.prog).any (Tryz.prog.ifacesRec ·)) : Bool) = true := by kernel_rfl

theorem closed15 : ((Rows.storeTxRow.mapsOut == Tryz.prog.mapsAmong Tryz.f13.resultTypes.toList) : Bool) = true := by kernel_rfl

theorem closed16 : ((Rows.storeTxRow.loops == (Tryz.f13.params.toList ++ Rows.storeTxSpec.plain.varTypes Tryz.prog).any (Tryz.prog.loopsFrom ·)) : Bool) = true := by kernel_rfl

theorem closed17 : ((Rows.storeTxRow.wideKeys == (Tryz.f13.params.toList ++ Rows.storeTxSpec.plain.varTypes Tryz.prog ++ Tryz.f13.resultTypes.toList).any (Tryz.prog.wideKeysFrom ·)) : Bool) = true := by kernel_rfl

theorem closed18 : (Rows.storeTxSpec.vars.all (Tryz.prog.varReadable ·) : Bool) = true := by kernel_rfl

theorem closed19 : (Tryz.f13.resultTypes.all (fun t => Tryz.prog.readableRec t && decide (t < Tryz.prog.types.size)) : Bool) = true := by kernel_rfl

theorem closed20 : ((Rows.storeTxRow.ifacesOut == Tryz.f13.resultTypes.toList.any (Tryz.prog.ifacesRec ·)) : Bool) = true := by kernel_rfl

theorem closed21 : ((Rows.storeTxRow.loopsOut == Tryz.f13.resultTypes.toList.any (Tryz.prog.loopsFrom ·)) : Bool) = true := by kernel_rfl

theorem closed22 : ((Rows.storeTxRow.plainKeys == Tryz.prog.plainKeys) : Bool) = true := by show (_ == _) = true; rw [closed.plainKeys_is]; kernel_rfl

theorem closed23 : (Rows.storeTxRow.shortTexts.isNone : Bool) = true := by kernel_rfl

theorem closed26 : ((Rows.storeTxRow.lifted == Tryz.prog.liftsFinal) : Bool) = true := by show (_ == _) = true; rw [closed.lifted_is]; kernel_rfl

theorem closed27 : ((Tryz.prog.make == some Rows.storeTxRow.make) : Bool) = true := by show (_ == _) = true; rw [closed.make_is]; kernel_rfl

theorem closed28 : ((Rows.storeTxRow.kinds == (if Rows.storeTxRow.domain.isEmpty then [] else Tryz.f13.params.toList.map fun t => match Tryz.prog.underlying t with | some (.int k) => some k | _ => none)) : Bool) = true := by kernel_rfl

theorem closed29 : ((Rows.storeTxRow.pinned == Rows.storeTxRow.pinnedBy) : Bool) = true := by kernel_rfl

theorem closed30 : ((Rows.storeTxRow.veiled == (Tryz.f13.params.toList ++ Rows.storeTxSpec.plain.varTypes Tryz.prog ++ Tryz.f13.resultTypes.toList).any (Tryz.prog.veiledRec ·)) : Bool) = true := by kernel_rfl

theorem closed31 : (Rows.storeTxRow.veiledFits Tryz.prog Tryz.f13.params.toList (Tryz.f13.params.toList ++ Rows.storeTxSpec.plain.varTypes Tryz.prog ++ Tryz.f13.resultTypes.toList) : Bool) = true := by kernel_rfl

set_option maxRecDepth 100000 in
theorem closedAll : joinedFacts Tryz.prog 13 Tryz.f13 Rows.storeTxSpec Rows.storeTxRow = true :=
  joinMk.joined_mk closed0 closed.p_laidOutB closed.p_mapsRowed closed3 closed4 closed5 closed.p_stops closed7 closed.p_stopKnobs closed9 closed10 closed11 closed12 closed13 closed14 closed15 closed16 closed17 closed18 closed19 closed20 closed21 closed22 closed23 closed.p_stopsHeard closed.p_mayEnter closed26 closed27 closed28 closed29 closed30 closed31

theorem over : Rows.storeTxRow.holds Tryz.pinned (OpenSpec.ofChange Rows.storeTxSpec) :=
  OpenClaim.holds_of_wide 13 Tryz.f13 rfl rfl rfl rfl rfl rfl rfl ⟨rfl, rfl, rfl, rfl, rfl⟩ rfl rfl rfl rfl rfl (by kernel_rfl) Tryz.func13 closedAll
    (of_decide_eq_true (by kernel_rfl)) (by unfold Func.isWrapper; first | (rw [if_pos (by decide +kernel)]; kernel_rfl) | (rw [if_neg (by decide +kernel)]; exact ⟨rfl, rfl⟩))
    (fun os started H enc _ => lifted os started H enc)

/-- The statement. -/
theorem proved : Rows.StoreTxSaid := over
end Go.Proofs.YtjhlfjgfohoflaaGreat.storeTx
