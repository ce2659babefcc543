/-
  The walk of rec's read.
-/
import Derived.Test.YtanjbbmgpodbgaaRecD
import Derived.Test.YtanjbbmgpodbgaaRecE
namespace Go.Proofs.Ytanjbbmgpodbgaa
open Go.RowKit

theorem six_stores' {w : World} {q : Nat} {a0 a1 a2 a3 a4 a5 : Value} {t : TypeId} (b : w.heap[q]? = some (.cells #[a0, a1, a2, a3, a4, a5] t)) (u0 u1 u2 u3 u4 u5 : Value) : ((((((w.setCell ⟨q, 0, none⟩ u0).setCell ⟨q, 1, none⟩ u1).setCell ⟨q, 2, none⟩ u2).setCell ⟨q, 3, none⟩ u3).setCell ⟨q, 4, none⟩ u4).setCell ⟨q, 5, none⟩ u5).heap[q]? = some (.cells #[u0, u1, u2, u3, u4, u5] t) :=
  block_set (block_set (block_set (block_set (block_set (block_set b u0) u1) u2) u3) u4) u5

theorem six_turn' (w : World) (q : Nat) (u0 u1 u2 u3 u4 u5 : Value) : Turn [q] w ((((((w.setCell ⟨q, 0, none⟩ u0).setCell ⟨q, 1, none⟩ u1).setCell ⟨q, 2, none⟩ u2).setCell ⟨q, 3, none⟩ u3).setCell ⟨q, 4, none⟩ u4).setCell ⟨q, 5, none⟩ u5) := by
  have s := fun (w : World) (i : Nat) (u : Value) => Turn.setCell (l := [q]) (b := q) (i := i) w (by simp) u
  exact (((((s _ _ u0).trans (s _ _ u1) (fun i hi => .inl hi)).trans (s _ _ u2) (fun i hi => .inl hi)).trans (s _ _ u3) (fun i hi => .inl hi)).trans (s _ _ u4) (fun i hi => .inl hi)).trans (s _ _ u5) (fun i hi => .inl hi)

/-- A record's zero. -/
def zeroR : Array Value := #[.int .i64 0, .int .i64 0, .int .i64 0, .bool false, .slice none 0 0, .slice none 0 0]

/-- In the midst of read: the answer's box, the record's, what it has, the In. -/
structure Dm (w0 : World) (b q0 q1 q2 : Nat) (cs hs : Array Value) (l : List UInt8) (bad : Bool) (w : World) : Prop where
  r0 : w.heap[q0]? = some (.cells zeroR 38)
  r1 : w.heap[q1]? = some (.cells cs 38)
  r2 : w.heap[q2]? = some (.cells hs 69)
  inn : InIs w b l bad
  turn : Turn [b] w0 w
  hb : b < w0.heap.size
  h0 : w0.heap.size ≤ q0
  h1 : q0 < q1
  h2 : q1 < q2

theorem Dm.step {w0 : World} {b q0 q1 q2 : Nat} {cs hs : Array Value} {l l' : List UInt8} {bad bad' : Bool} {w w' : World} (h : Dm w0 b q0 q1 q2 cs hs l bad w) (t : Turn [b] w w') (i : InIs w' b l' bad') : Dm w0 b q0 q1 q2 cs hs l' bad' w' :=
  ⟨t.heap h.r0 (by have := h.hb; have := h.h0; simp; omega), t.heap h.r1 (by have := h.hb; have := h.h0; have := h.h1; simp; omega), t.heap h.r2 (by have := h.hb; have := h.h0; have := h.h1; have := h.h2; simp; omega), i, h.turn.trans t (fun i hi => .inl hi), h.hb, h.h0, h.h1, h.h2⟩

theorem Dm.set {w0 : World} {b q0 q1 q2 : Nat} {cs hs : Array Value} {l : List UInt8} {bad : Bool} {w : World} (h : Dm w0 b q0 q1 q2 cs hs l bad w) (i : Nat) (v : Value) : Dm w0 b q0 q1 q2 (cs.setIfInBounds i v) hs l bad (w.setCell ⟨q1, i, none⟩ v) := by
  have t : Turn [q1] w (w.setCell ⟨q1, i, none⟩ v) := Turn.setCell w (by simp) v
  refine ⟨t.heap h.r0 (by have := h.h1; simp; omega), block_set h.r1 v, t.heap h.r2 (by have := h.h2; simp; omega), h.inn.turn t (by have := h.hb; have := h.h0; have := h.h1; simp; omega), h.turn.trans t (fun i hi => .inr (by have := h.h0; have := h.h1; simp at hi; omega)), h.hb, h.h0, h.h1, h.h2⟩

/-- What is left to be said at the end. -/
theorem Dm.ends {w0 : World} {b q0 q1 q2 : Nat} {cs hs : Array Value} {l : List UInt8} {bad : Bool} {w w' : World} (h : Dm w0 b q0 q1 q2 cs hs l bad w) (t : Turn [q0] w w') : InIs w' b l bad ∧ Turn [b] w0 w' :=
  ⟨h.inn.turn t (by have := h.hb; have := h.h0; simp; omega), h.turn.trans t (fun i hi => .inr (by have := h.h0; simp at hi; omega))⟩

theorem cell_at {w : World} {q i : Nat} {cs : Array Value} {t : TypeId} {v : Value} (h : w.heap[q]? = some (.cells cs t)) (hv : cs[i]? = some v) : w.cell? ⟨q, i, none⟩ = some v := by
  rw [cell_of_row _ _ _ _ _ _ h]
  exact hv

set_option maxHeartbeats 4000000 in
set_option maxRecDepth 100000 in
theorem read_calls8 (b : Nat) (l : List UInt8) (w : World) (h : InIs w b l false) :
    Calls Try.prog 60 #[.pointer (some ⟨b, 0, none⟩)] w fun e w' => ∃ ap cp aq cq, e = .returned (.agg ((rdRec l).1.cells ap cp aq cq)) ∧
      w'.ownsRow 0 3 1 (.slice ap (rdRec l).1.parts.length cp) (rdRec l).1.parts.length (i64s (rdRec l).1.parts) ∧
      w'.ownsRow 0 29 2 (.slice aq (rdRec l).1.puts.length cq) (rdRec l).1.puts.length (pcells (rdRec l).1.puts) ∧
      (∀ k, (Value.slice ap (rdRec l).1.parts.length cp).ownBlock = some k → w.heap.size ≤ k) ∧ (∀ k, (Value.slice aq (rdRec l).1.puts.length cq).ownBlock = some k → w.heap.size ≤ k) ∧
      InIs w' b (rdRec l).2.1 (rdRec l).2.2 ∧ Turn [b] w w' := by
  have hlt := h.lt
  have HLT := Lib.hid hlt
  have I0 : Hid (∀ o, InIs (w.alloc o) b l false) := Lib.hid (fun o => h.turn (Turn.alloc [] w o) (by simp))
  unfold rdRec
  obtain ⟨k, hk⟩ : ∃ k : Nat, k = leN (taken l false 2) := ⟨_, rfl⟩
  obtain ⟨l1, hl1⟩ : ∃ l1, l1 = after l false 2 := ⟨_, rfl⟩
  obtain ⟨b1, hb1⟩ : ∃ b1, b1 = !canTake l false 2 := ⟨_, rfl⟩
  have C1 := Lib.hid (fun wx h => small_in b l false wx h)
  rw [← hk, ← hl1, ← hb1] at C1 ⊢
  obtain ⟨t, ht⟩ : ∃ t, t = longN (taken l1 b1 8) := ⟨_, rfl⟩
  obtain ⟨l2, hl2⟩ : ∃ l2, l2 = after l1 b1 8 := ⟨_, rfl⟩
  obtain ⟨b2, hb2⟩ : ∃ b2, b2 = !canTake l1 b1 8 := ⟨_, rfl⟩
  have C2 := Lib.hid (fun wx h => long_in b l1 b1 wx h)
  rw [← ht, ← hl2, ← hb2] at C2 ⊢
  have CH := Lib.hid (fun w => hasOf_calls (k : Int) w)
  obtain ⟨x, hx⟩ : ∃ x, x = rdTail (k : Int) t l2 b2 := ⟨_, rfl⟩
  have HX := Lib.hid hx
  rw [← hx]
  clear hx
  clear hlt h hk hl1 hb1 ht hl2 hb2
  go_enter Try.func60, Try.ntmps60
  go_wp2_with fail
  refine (C1.out _ (I0.out _)).mono ?_
  rintro e w1 ⟨rfl, i1, g1⟩
  have I1 := Lib.hid i1
  have T1 : Hid (Turn [b] w w1) := Lib.hid ((Turn.alloc [b] w _).trans (grown_at g1) (fun i hi => .inl hi))
  have hR1 := (grown_at g1).heap (heap_alloc_new w (.cells #[.int .i64 0, .int .i64 0, .int .i64 0, .bool false, .slice none 0 0, .slice none 0 0] 38)) (by have := HLT.out; simp; omega)
  have R1 := Lib.hid hR1
  clear i1 g1 C1 I0 hR1
  go_wp2_with fail
  refine (C2.out _ I1.out).mono ?_
  rintro e w2 ⟨rfl, i2, g2⟩
  have I2 := Lib.hid i2
  have T2 := Lib.hid (T1.out.trans (grown_at g2) (fun i hi => .inl hi))
  have R2 := Lib.hid ((grown_at g2).heap R1.out (by have := HLT.out; simp; omega))
  clear i2 g2 C2 I1 T1 R1
  go_wp2_with fail
  refine (CH.out _).mono ?_
  rintro e w3 ⟨rfl, t3⟩
  have D3 : Hid (∀ hs, Dm w b w.heap.size w2.heap.size w3.heap.size #[.int .i64 (k : Int), .int .i64 t, .int .i64 0, .bool false, .slice none 0 0, .slice none 0 0] hs l2 b2 (w3.alloc (.cells hs 69))) := Lib.hid (fun hs => by
    have s3 := t3.size
    have s2 := lt_of_heap R2.out
    have hs2 : (w2.alloc (.cells #[.int .i64 (k : Int), .int .i64 t, .int .i64 0, .bool false, .slice none 0 0, .slice none 0 0] 38)).heap.size = w2.heap.size + 1 := by simp
    have ta := Turn.alloc [] w2 (.cells #[.int .i64 (k : Int), .int .i64 t, .int .i64 0, .bool false, .slice none 0 0, .slice none 0 0] 38)
    have tb := Turn.alloc [] w3 (.cells hs 69)
    exact ⟨tb.heap (t3.heap (ta.heap R2.out (by simp)) (by simp)) (by simp), tb.heap (t3.heap (heap_alloc_new w2 _) (by simp)) (by simp), heap_alloc_new w3 _, ((I2.out.turn ta (by simp)).turn t3 (by simp)).turn tb (by simp),
      ((T2.out.trans ta (by simp)).trans t3 (by simp)).trans tb (by simp), HLT.out, Nat.le_refl _, s2, by omega⟩)
  clear t3 CH I2 T2 R2
  have hk : k = 2 ∨ k = 5 ∨ (k = 6 ∨ k = 8 ∨ k = 9) ∨ (k = 4 ∨ k = 7) ∨ (k ≠ 2 ∧ k ≠ 5 ∧ k ≠ 6 ∧ k ≠ 8 ∧ k ≠ 9 ∧ k ≠ 4 ∧ k ≠ 7) := by omega
  rcases hk with hk | hk | hk | hk | hk
  · have HV : Hid (hasV (k : Int) = ⟨true, false, false, false⟩) := Lib.hid (by subst hk; rfl)
    have HT : Hid (rdTail (k : Int) t l2 b2 = (⟨k, t, longN (taken l2 b2 8), false, [], []⟩, after l2 b2 8, !canTake l2 b2 8)) := Lib.hid (by unfold rdTail; rw [if_pos (by omega)])
    rw [HT.out] at HX
    rw [HV.out]
    have CL := Lib.hid (fun wx h => long_in b l2 b2 wx h)
    obtain ⟨d, hd⟩ : ∃ d, d = longN (taken l2 b2 8) := ⟨_, rfl⟩
    obtain ⟨l4, hl4⟩ : ∃ l4, l4 = after l2 b2 8 := ⟨_, rfl⟩
    obtain ⟨b4, hb4⟩ : ∃ b4, b4 = !canTake l2 b2 8 := ⟨_, rfl⟩
    rw [← hd, ← hl4, ← hb4] at CL HX
    clear hd hl4 hb4
    unfold HasV.cells
    dsimp only
    clear HV HT hk
    go_wp2_with fail
    refine (CL.out _ (D3.out _).inn).mono ?_
    rintro e w4 ⟨rfl, i4, g4⟩
    have D4 := Lib.hid ((D3.out _).step (grown_at g4) i4)
    clear i4 g4 CL
    have D5 := Lib.hid (D4.out.set 2 (.int .i64 d))
    have f1 : w4.frozen? ⟨w2.heap.size, 2, none⟩ = false := unfrozen_of D4.out.r1
    have f2 : w4.cell? ⟨w2.heap.size, 2, none⟩ = some (.int .i64 0) := cell_at D4.out.r1 rfl
    obtain ⟨W, hW⟩ : ∃ W, W = w4.setCell ⟨w2.heap.size, 2, none⟩ (.int .i64 d) := ⟨_, rfl⟩
    rw [← hW] at D5
    have g1 := cell_at (i := 1) D5.out.r2 rfl
    have g2 := cell_at (i := 2) D5.out.r2 rfl
    have g3 := cell_at (i := 3) D5.out.r2 rfl
    have c0 := cell_at (i := 0) D5.out.r1 rfl
    have c1 := cell_at (i := 1) D5.out.r1 rfl
    have c2 := cell_at (i := 2) D5.out.r1 rfl
    have c3 := cell_at (i := 3) D5.out.r1 rfl
    have c4 := cell_at (i := 4) D5.out.r1 rfl
    have c5 := cell_at (i := 5) D5.out.r1 rfl
    have z0 := cell_at (i := 0) D5.out.r0 rfl
    have z1 := cell_at (i := 1) D5.out.r0 rfl
    have z2 := cell_at (i := 2) D5.out.r0 rfl
    have z3 := cell_at (i := 3) D5.out.r0 rfl
    have z4 := cell_at (i := 4) D5.out.r0 rfl
    have z5 := cell_at (i := 5) D5.out.r0 rfl
    have fz : ∀ i, W.frozen? ⟨w.heap.size, i, none⟩ = false := fun i => unfrozen_of D5.out.r0
    rw [hW] at g1 g2 g3 c0 c1 c2 c3 c4 c5 z0 z1 z2 z3 z4 z5 fz
    have HW := Lib.hid hW
    clear hW
    go_wp2_with fail
    rw [← HW.out]
    refine bodyPost_ret_by (results_cell_row rfl _ _ w.heap.size 38 _ (0, 0) _ rfl (six_stores' D5.out.r0 _ _ _ _ _ _) Try.underlying38 rfl recsize) rfl ?_
    rw [HX.out]
    have E := fun u0 u1 u2 u3 u4 u5 => D5.out.ends (six_turn' W w.heap.size u0 u1 u2 u3 u4 u5)
    exact ⟨none, 0, none, 0, rfl, World.ownsRow_nil _ _ _ _, World.ownsRow_nil _ _ _ _, (by intro k hk; cases hk), (by intro k hk; cases hk), (E _ _ _ _ _ _).1, (E _ _ _ _ _ _).2⟩
  · have HV : Hid (hasV (k : Int) = ⟨false, true, false, false⟩) := Lib.hid (by subst hk; rfl)
    have HT : Hid (rdTail (k : Int) t l2 b2 = (⟨k, t, 0, truthV l2 b2, [], []⟩, truthA l2 b2, !truthC l2 b2)) := Lib.hid (by unfold rdTail; rw [if_neg (by omega), if_pos (by omega)])
    rw [HT.out] at HX
    rw [HV.out]
    have CL := Lib.hid (fun wx h => truth_in b l2 b2 wx h)
    obtain ⟨d, hd⟩ : ∃ d, d = truthV l2 b2 := ⟨_, rfl⟩
    obtain ⟨l4, hl4⟩ : ∃ l4, l4 = truthA l2 b2 := ⟨_, rfl⟩
    obtain ⟨b4, hb4⟩ : ∃ b4, b4 = !truthC l2 b2 := ⟨_, rfl⟩
    rw [← hd, ← hl4, ← hb4] at CL HX
    clear hd hl4 hb4
    unfold HasV.cells
    dsimp only
    clear HV HT hk
    go_wp2_with fail
    refine (CL.out _ (D3.out _).inn).mono ?_
    rintro e w4 ⟨rfl, i4, g4⟩
    have D4 := Lib.hid ((D3.out _).step (grown_at g4) i4)
    clear i4 g4 CL
    have D5 := Lib.hid (D4.out.set 3 (.bool d))
    have f1 : w4.frozen? ⟨w2.heap.size, 3, none⟩ = false := unfrozen_of D4.out.r1
    have f2 : w4.cell? ⟨w2.heap.size, 3, none⟩ = some (.bool false) := cell_at D4.out.r1 rfl
    obtain ⟨W, hW⟩ : ∃ W, W = w4.setCell ⟨w2.heap.size, 3, none⟩ (.bool d) := ⟨_, rfl⟩
    rw [← hW] at D5
    have g2 := cell_at (i := 2) D5.out.r2 rfl
    have g3 := cell_at (i := 3) D5.out.r2 rfl
    have c0 := cell_at (i := 0) D5.out.r1 rfl
    have c1 := cell_at (i := 1) D5.out.r1 rfl
    have c2 := cell_at (i := 2) D5.out.r1 rfl
    have c3 := cell_at (i := 3) D5.out.r1 rfl
    have c4 := cell_at (i := 4) D5.out.r1 rfl
    have c5 := cell_at (i := 5) D5.out.r1 rfl
    have z0 := cell_at (i := 0) D5.out.r0 rfl
    have z1 := cell_at (i := 1) D5.out.r0 rfl
    have z2 := cell_at (i := 2) D5.out.r0 rfl
    have z3 := cell_at (i := 3) D5.out.r0 rfl
    have z4 := cell_at (i := 4) D5.out.r0 rfl
    have z5 := cell_at (i := 5) D5.out.r0 rfl
    have fz : ∀ i, W.frozen? ⟨w.heap.size, i, none⟩ = false := fun i => unfrozen_of D5.out.r0
    rw [hW] at g2 g3 c0 c1 c2 c3 c4 c5 z0 z1 z2 z3 z4 z5 fz
    have HW := Lib.hid hW
    clear hW
    go_wp2_with fail
    rw [← HW.out]
    refine bodyPost_ret_by (results_cell_row rfl _ _ w.heap.size 38 _ (0, 0) _ rfl (six_stores' D5.out.r0 _ _ _ _ _ _) Try.underlying38 rfl recsize) rfl ?_
    rw [HX.out]
    have E := fun u0 u1 u2 u3 u4 u5 => D5.out.ends (six_turn' W w.heap.size u0 u1 u2 u3 u4 u5)
    exact ⟨none, 0, none, 0, rfl, World.ownsRow_nil _ _ _ _, World.ownsRow_nil _ _ _ _, (by intro k hk; cases hk), (by intro k hk; cases hk), (E _ _ _ _ _ _).1, (E _ _ _ _ _ _).2⟩
  · have HV : Hid (hasV (k : Int) = ⟨false, false, true, false⟩) := Lib.hid (by rcases hk with rfl | rfl | rfl <;> rfl)
    have HT : Hid (rdTail (k : Int) t l2 b2 = (⟨k, t, 0, false, (rdParts (leN (taken l2 b2 2)) (after l2 b2 2) (!canTake l2 b2 2)).1, []⟩, (rdParts (leN (taken l2 b2 2)) (after l2 b2 2) (!canTake l2 b2 2)).2)) := Lib.hid (by unfold rdTail; rw [if_neg (by omega), if_neg (by omega), if_pos (by omega)])
    rw [HT.out] at HX
    rw [HV.out]
    have CL := Lib.hid (fun wx h X l' bad' hX => readParts_calls b l2 b2 wx h X l' bad' hX)
    obtain ⟨X, l4, b4, hR⟩ : ∃ (X : List Int) (l4 : List UInt8) (b4 : Bool), (rdParts (leN (taken l2 b2 2)) (after l2 b2 2) (!canTake l2 b2 2)) = (X, l4, b4) := ⟨_, _, _, rfl⟩
    have CL2 := Lib.hid (fun wx h => CL.out wx h X l4 b4 hR)
    rw [hR] at HX
    dsimp only at HX
    clear CL hR
    unfold HasV.cells
    dsimp only
    clear HV HT hk
    go_wp2_with fail
    refine (CL2.out _ (D3.out _).inn).mono ?_
    rintro e w4 ⟨a4, c4', rfl, o4, lw4, i4, t4⟩
    have O4 := Lib.hid o4
    have hs3 : (w3.alloc (.cells #[.bool false, .bool false, .bool true, .bool false] 69)).heap.size = w3.heap.size + 1 := by simp
    have L4 : Hid (∀ g, (Value.slice a4 X.length c4').ownBlock = some g → w3.heap.size < g ∧ w2.heap.size < g ∧ w.heap.size < g) := Lib.hid (fun g hg => by
      have := lw4 g hg
      have := (D3.out #[]).h1
      have := (D3.out #[]).h2
      omega)
    have D4 := Lib.hid ((D3.out _).step t4 i4)
    clear o4 lw4 i4 t4 CL2 hs3
    have D5 := Lib.hid (D4.out.set 4 (.slice a4 X.length c4'))
    have f1 : w4.frozen? ⟨w2.heap.size, 4, none⟩ = false := unfrozen_of D4.out.r1
    have f2 : w4.cell? ⟨w2.heap.size, 4, none⟩ = some (.slice none 0 0) := cell_at D4.out.r1 rfl
    obtain ⟨W, hW⟩ : ∃ W, W = w4.setCell ⟨w2.heap.size, 4, none⟩ (.slice a4 X.length c4') := ⟨_, rfl⟩
    rw [← hW] at D5
    have g3 := cell_at (i := 3) D5.out.r2 rfl
    have c0 := cell_at (i := 0) D5.out.r1 rfl
    have c1 := cell_at (i := 1) D5.out.r1 rfl
    have c2 := cell_at (i := 2) D5.out.r1 rfl
    have c3 := cell_at (i := 3) D5.out.r1 rfl
    have c4 := cell_at (i := 4) D5.out.r1 rfl
    have c5 := cell_at (i := 5) D5.out.r1 rfl
    have z0 := cell_at (i := 0) D5.out.r0 rfl
    have z1 := cell_at (i := 1) D5.out.r0 rfl
    have z2 := cell_at (i := 2) D5.out.r0 rfl
    have z3 := cell_at (i := 3) D5.out.r0 rfl
    have z4 := cell_at (i := 4) D5.out.r0 rfl
    have z5 := cell_at (i := 5) D5.out.r0 rfl
    have fz : ∀ i, W.frozen? ⟨w.heap.size, i, none⟩ = false := fun i => unfrozen_of D5.out.r0
    rw [hW] at g3 c0 c1 c2 c3 c4 c5 z0 z1 z2 z3 z4 z5 fz
    have HW := Lib.hid hW
    clear hW
    go_wp2_with fail
    rw [← HW.out]
    refine bodyPost_ret_by (results_cell_row rfl _ _ w.heap.size 38 _ (0, 0) _ rfl (six_stores' D5.out.r0 _ _ _ _ _ _) Try.underlying38 rfl recsize) rfl ?_
    rw [HX.out]
    have E := fun u0 u1 u2 u3 u4 u5 => D5.out.ends (six_turn' W w.heap.size u0 u1 u2 u3 u4 u5)
    have TS : Turn [w2.heap.size] w4 W := by rw [HW.out]; exact Turn.setCell w4 (by simp) _
    exact ⟨a4, c4', none, 0, rfl, (ownsRow_turn (ownsRow_turn O4.out TS (fun g hg => by have := L4.out g hg; simp; omega)) (six_turn' W w.heap.size _ _ _ _ _ _) (fun g hg => by have := L4.out g hg; simp; omega)), World.ownsRow_nil _ _ _ _, (fun g hg => by have := L4.out g hg; omega), (by intro k hk; cases hk), (E _ _ _ _ _ _).1, (E _ _ _ _ _ _).2⟩
  · have HV : Hid (hasV (k : Int) = ⟨false, false, false, true⟩) := Lib.hid (by rcases hk with rfl | rfl <;> rfl)
    have HT : Hid (rdTail (k : Int) t l2 b2 = (⟨k, t, 0, false, [], (rdPuts (leN (taken l2 b2 2)) (after l2 b2 2) (!canTake l2 b2 2)).1⟩, (rdPuts (leN (taken l2 b2 2)) (after l2 b2 2) (!canTake l2 b2 2)).2)) := Lib.hid (by unfold rdTail; rw [if_neg (by omega), if_neg (by omega), if_neg (by omega), if_pos (by omega)])
    rw [HT.out] at HX
    rw [HV.out]
    have CL := Lib.hid (fun wx h X l' bad' hX => readPuts_calls b l2 b2 wx h X l' bad' hX)
    obtain ⟨X, l4, b4, hR⟩ : ∃ (X : List (ByteArray × ByteArray)) (l4 : List UInt8) (b4 : Bool), (rdPuts (leN (taken l2 b2 2)) (after l2 b2 2) (!canTake l2 b2 2)) = (X, l4, b4) := ⟨_, _, _, rfl⟩
    have CL2 := Lib.hid (fun wx h => CL.out wx h X l4 b4 hR)
    rw [hR] at HX
    dsimp only at HX
    clear CL hR
    unfold HasV.cells
    dsimp only
    clear HV HT hk
    go_wp2_with fail
    refine (CL2.out _ (D3.out _).inn).mono ?_
    rintro e w4 ⟨a4, c4', rfl, o4, lw4, i4, t4⟩
    have O4 := Lib.hid o4
    have hs3 : (w3.alloc (.cells #[.bool false, .bool false, .bool false, .bool true] 69)).heap.size = w3.heap.size + 1 := by simp
    have L4 : Hid (∀ g, (Value.slice a4 X.length c4').ownBlock = some g → w3.heap.size < g ∧ w2.heap.size < g ∧ w.heap.size < g) := Lib.hid (fun g hg => by
      have := lw4 g hg
      have := (D3.out #[]).h1
      have := (D3.out #[]).h2
      omega)
    have D4 := Lib.hid ((D3.out _).step t4 i4)
    clear o4 lw4 i4 t4 CL2 hs3
    have D5 := Lib.hid (D4.out.set 5 (.slice a4 X.length c4'))
    have f1 : w4.frozen? ⟨w2.heap.size, 5, none⟩ = false := unfrozen_of D4.out.r1
    have f2 : w4.cell? ⟨w2.heap.size, 5, none⟩ = some (.slice none 0 0) := cell_at D4.out.r1 rfl
    obtain ⟨W, hW⟩ : ∃ W, W = w4.setCell ⟨w2.heap.size, 5, none⟩ (.slice a4 X.length c4') := ⟨_, rfl⟩
    rw [← hW] at D5
    have c0 := cell_at (i := 0) D5.out.r1 rfl
    have c1 := cell_at (i := 1) D5.out.r1 rfl
    have c2 := cell_at (i := 2) D5.out.r1 rfl
    have c3 := cell_at (i := 3) D5.out.r1 rfl
    have c4 := cell_at (i := 4) D5.out.r1 rfl
    have c5 := cell_at (i := 5) D5.out.r1 rfl
    have z0 := cell_at (i := 0) D5.out.r0 rfl
    have z1 := cell_at (i := 1) D5.out.r0 rfl
    have z2 := cell_at (i := 2) D5.out.r0 rfl
    have z3 := cell_at (i := 3) D5.out.r0 rfl
    have z4 := cell_at (i := 4) D5.out.r0 rfl
    have z5 := cell_at (i := 5) D5.out.r0 rfl
    have fz : ∀ i, W.frozen? ⟨w.heap.size, i, none⟩ = false := fun i => unfrozen_of D5.out.r0
    rw [hW] at  c0 c1 c2 c3 c4 c5 z0 z1 z2 z3 z4 z5 fz
    have HW := Lib.hid hW
    clear hW
    go_wp2_with fail
    rw [← HW.out]
    refine bodyPost_ret_by (results_cell_row rfl _ _ w.heap.size 38 _ (0, 0) _ rfl (six_stores' D5.out.r0 _ _ _ _ _ _) Try.underlying38 rfl recsize) rfl ?_
    rw [HX.out]
    have E := fun u0 u1 u2 u3 u4 u5 => D5.out.ends (six_turn' W w.heap.size u0 u1 u2 u3 u4 u5)
    have TS : Turn [w2.heap.size] w4 W := by rw [HW.out]; exact Turn.setCell w4 (by simp) _
    exact ⟨none, 0, a4, c4', rfl, World.ownsRow_nil _ _ _ _, (ownsRow_turn (ownsRow_turn O4.out TS (fun g hg => by have := L4.out g hg; simp; omega)) (six_turn' W w.heap.size _ _ _ _ _ _) (fun g hg => by have := L4.out g hg; simp; omega)), (by intro k hk; cases hk), (fun g hg => by have := L4.out g hg; omega), (E _ _ _ _ _ _).1, (E _ _ _ _ _ _).2⟩
  · have HV : Hid (hasV (k : Int) = ⟨false, false, false, false⟩) := Lib.hid (by unfold hasV; rw [decide_eq_false (by omega), decide_eq_false (by omega), decide_eq_false (by omega), decide_eq_false (by omega)])
    have HT : Hid (rdTail (k : Int) t l2 b2 = (⟨k, t, 0, false, [], []⟩, l2, b2)) := Lib.hid (by unfold rdTail; rw [if_neg (by omega), if_neg (by omega), if_neg (by omega), if_neg (by omega)])
    rw [HT.out] at HX
    rw [HV.out]
    have D5 := Lib.hid (D3.out #[.bool false, .bool false, .bool false, .bool false])
    obtain ⟨W, hW⟩ : ∃ W, W = w3.alloc (.cells #[.bool false, .bool false, .bool false, .bool false] 69) := ⟨_, rfl⟩
    rw [← hW] at D5
    have g0 := cell_at (i := 0) D5.out.r2 rfl
    have g1 := cell_at (i := 1) D5.out.r2 rfl
    have g2 := cell_at (i := 2) D5.out.r2 rfl
    have g3 := cell_at (i := 3) D5.out.r2 rfl
    have c0 := cell_at (i := 0) D5.out.r1 rfl
    have c1 := cell_at (i := 1) D5.out.r1 rfl
    have c2 := cell_at (i := 2) D5.out.r1 rfl
    have c3 := cell_at (i := 3) D5.out.r1 rfl
    have c4 := cell_at (i := 4) D5.out.r1 rfl
    have c5 := cell_at (i := 5) D5.out.r1 rfl
    have z0 := cell_at (i := 0) D5.out.r0 rfl
    have z1 := cell_at (i := 1) D5.out.r0 rfl
    have z2 := cell_at (i := 2) D5.out.r0 rfl
    have z3 := cell_at (i := 3) D5.out.r0 rfl
    have z4 := cell_at (i := 4) D5.out.r0 rfl
    have z5 := cell_at (i := 5) D5.out.r0 rfl
    have fz : ∀ i, W.frozen? ⟨w.heap.size, i, none⟩ = false := fun i => unfrozen_of D5.out.r0
    rw [hW] at g0 g1 g2 g3 c0 c1 c2 c3 c4 c5 z0 z1 z2 z3 z4 z5 fz
    have HW := Lib.hid hW
    clear hW HV HT hk
    unfold HasV.cells
    dsimp only
    go_wp2_with fail
    rw [← HW.out]
    refine bodyPost_ret_by (results_cell_row rfl _ _ w.heap.size 38 _ (0, 0) _ rfl (six_stores' D5.out.r0 _ _ _ _ _ _) Try.underlying38 rfl recsize) rfl ?_
    rw [HX.out]
    have E := fun u0 u1 u2 u3 u4 u5 => D5.out.ends (six_turn' W w.heap.size u0 u1 u2 u3 u4 u5)
    exact ⟨none, 0, none, 0, rfl, World.ownsRow_nil _ _ _ _, World.ownsRow_nil _ _ _ _, (by intro k hk; cases hk), (by intro k hk; cases hk), (E _ _ _ _ _ _).1, (E _ _ _ _ _ _).2⟩

end Go.Proofs.Ytanjbbmgpodbgaa
