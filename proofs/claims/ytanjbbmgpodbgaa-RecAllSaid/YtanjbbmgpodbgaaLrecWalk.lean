/-
  The walk of the law's own Record.
-/
import Derived.Test.YtanjbbmgpodbgaaLrec
import Derived.Test.YtanjbbmgpodbgaaIs8
namespace Go.Proofs.Ytanjbbmgpodbgaa
open Go.RowKit

def cutP (p : ByteArray × ByteArray) : ByteArray × ByteArray := (cutN p.1 10, cutN p.2 62)

/-- A record, cut to a size. -/
def recCut (r : RecV) : RecV := { r with parts := r.parts.take 9, puts := (r.puts.take 12).map cutP }

theorem cell_new2 (w : World) (x y : Value) (t : TypeId) : (w.alloc (.cells #[x, y] t)).cell? ⟨w.heap.size, 0, none⟩ = some x ∧ (w.alloc (.cells #[x, y] t)).cell? ⟨w.heap.size, 1, none⟩ = some y := by
  have h : (w.alloc (.cells #[x, y] t)).heap[w.heap.size]? = some (.cells #[x, y] t) := heap_alloc_new w _
  constructor <;> rw [cell_of_row _ _ _ _ _ _ h] <;> rfl

theorem put_up (wr : World) (o : Obj) : Turn [] wr (wr.alloc o).drew := (Turn.alloc [] wr o).trans (Turn.drew [] _) (by simp)

theorem turn_row {w1 wr w5 : World} {o : Obj} {r : Option Nat} (t : Turn [] w1 wr) (g : (wr.alloc o).drew.grownBy w5 r) (h : ∀ k, r = some k → w1.heap.size ≤ k) : Turn [] w1 w5 :=
  (t.trans (put_up wr o) (by simp)).trans (Turn.grown (l := r.toList) g (fun k hk => .inl (by simp [hk]))) (fun i hi => .inr (h i (by simpa using hi)))

theorem low_row {w1 wr : World} {o : Obj} {a r : Option Nat} (t : Turn [] w1 wr) (h : ∀ k, r = some k → w1.heap.size ≤ k) (e : a = r ∨ a = some (wr.alloc o).drew.heap.size) : ∀ k, a = some k → w1.heap.size ≤ k := by
  intro k hk
  rcases e with e | e
  · exact h k (e.symm.trans hk)
  · rw [e] at hk
    have := (t.trans (put_up wr o) (by simp)).size
    injection hk with hk
    omega

theorem six_cells (w7 : World) (q : Nat) (u0 u1 u2 u3 u4 u5 u6 : Value) : Turn [q, q + 1] w7 (((((((w7.setCell ⟨q, 4, none⟩ u0).setCell ⟨q + 1, 0, none⟩ u1).setCell ⟨q + 1, 1, none⟩ u2).setCell ⟨q + 1, 2, none⟩ u3).setCell ⟨q + 1, 3, none⟩ u4).setCell ⟨q + 1, 4, none⟩ u5).setCell ⟨q + 1, 5, none⟩ u6) := by
  have s := fun (w : World) (i : Nat) (u : Value) => Turn.setCell (l := [q, q + 1]) (b := q + 1) (i := i) w (by simp) u
  exact ((((((Turn.setCell w7 (by simp) u0).trans (s _ _ u1) (fun i hi => .inl hi)).trans (s _ _ u2) (fun i hi => .inl hi)).trans (s _ _ u3) (fun i hi => .inl hi)).trans (s _ _ u4) (fun i hi => .inl hi)).trans (s _ _ u5) (fun i hi => .inl hi)).trans (s _ _ u6) (fun i hi => .inl hi)

theorem six_heap {w7 : World} {q : Nat} {a0 a1 a2 a3 a4 a5 : Value} {t : TypeId} (b : w7.heap[q + 1]? = some (.cells #[a0, a1, a2, a3, a4, a5] t)) (u0 u1 u2 u3 u4 u5 u6 : Value) : (((((((w7.setCell ⟨q, 4, none⟩ u0).setCell ⟨q + 1, 0, none⟩ u1).setCell ⟨q + 1, 1, none⟩ u2).setCell ⟨q + 1, 2, none⟩ u3).setCell ⟨q + 1, 3, none⟩ u4).setCell ⟨q + 1, 4, none⟩ u5).setCell ⟨q + 1, 5, none⟩ u6).heap[q + 1]? = some (.cells #[u1, u2, u3, u4, u5, u6] t) := by
  have e0 := (block_other (show q + 1 ≠ q by omega) u0 (i := 4)).trans b
  exact block_set (block_set (block_set (block_set (block_set (block_set e0 u1) u2) u3) u4) u5) u6

theorem recsize : (Try.prog.info? 38).map (·.size) = some 6 := by kernel_rfl

set_option maxHeartbeats 4000000 in
set_option maxRecDepth 100000 in
theorem lawRecord_calls (r : RecV) {w : World} {ap aq : Option Addr} {cp cq : Nat} (hp : Il w ap cp r.parts) (hq : Ps w aq cq r.puts) :
    Calls Try.prog 30 #[.agg (r.cells ap cp aq cq)] w fun e w' => ∃ ap' cp' aq' cq', e = .returned (.agg ((recCut r).cells ap' cp' aq' cq')) ∧
      w'.ownsRow 0 3 1 (.slice ap' (r.parts.take 9).length cp') (r.parts.take 9).length (i64s (r.parts.take 9)) ∧
      w'.ownsRow 0 29 2 (.slice aq' ((r.puts.take 12).map cutP).length cq') ((r.puts.take 12).map cutP).length (pcells ((r.puts.take 12).map cutP)) ∧
      (∀ k, (Value.slice ap' (r.parts.take 9).length cp').ownBlock = some k → w.heap.size ≤ k) ∧ (∀ k, (Value.slice aq' ((r.puts.take 12).map cutP).length cq').ownBlock = some k → w.heap.size ≤ k) ∧ Turn [] w w' := by
  obtain ⟨kd, t, d, y, P, Q⟩ := r
  have hp : Il w ap cp P := hp
  have hq : Ps w aq cq Q := hq
  have hpl := hp.len
  have hql := hq.len
  have HP := Lib.hid hp
  have HQ := Lib.hid hq
  unfold RecV.cells recCut
  dsimp only
  obtain ⟨np, hnp⟩ : ∃ n, n = P.length := ⟨_, rfl⟩
  obtain ⟨nq, hnq⟩ : ∃ n, n = Q.length := ⟨_, rfl⟩
  have HNP := Lib.hid hnp
  have HNQ := Lib.hid hnq
  rw [← hnp] at hpl ⊢
  rw [← hnq] at hql ⊢
  clear hp hq hnp hnq
  go_enter Try.func30, Try.ntmps30
  obtain ⟨q, hqd⟩ : ∃ q, q = w.heap.size := ⟨_, rfl⟩
  obtain ⟨w1, hw1⟩ : ∃ w1, w1 = (w.alloc (.cells #[.int .i64 kd, .int .i64 t, .int .i64 d, .bool y, .slice ap np cp, .slice aq nq cq] 38)).alloc (.cells #[.int .i64 0, .int .i64 0, .int .i64 0, .bool false, .slice none 0 0, .slice none 0 0] 38) := ⟨_, rfl⟩
  have t1 : Turn [] w w1 := by rw [hw1]; exact (Turn.alloc [] w _).trans (Turn.alloc [] _ _) (by simp)
  have hs1 : w1.heap.size = q + 2 := by rw [hw1, hqd]; simp
  have hr0 : w1.heap[q]? = some (.cells #[.int .i64 kd, .int .i64 t, .int .i64 d, .bool y, .slice ap np cp, .slice aq nq cq] 38) := by
    rw [hw1, hqd]; exact (Turn.alloc [] _ _).heap (heap_alloc_new w _) (by simp)
  have hr1 : w1.heap[q + 1]? = some (.cells #[.int .i64 0, .int .i64 0, .int .i64 0, .bool false, .slice none 0 0, .slice none 0 0] 38) := by
    rw [hw1, hqd, show w.heap.size + 1 = (w.alloc (.cells #[.int .i64 kd, .int .i64 t, .int .i64 d, .bool y, .slice ap np cp, .slice aq nq cq] 38)).heap.size by simp]; exact heap_alloc_new _ _
  have c4 : w1.cell? ⟨q, 4, none⟩ = some (.slice ap np cp) := by rw [cell_of_row _ _ _ _ _ _ hr0]; rfl
  have c5 : w1.cell? ⟨q, 5, none⟩ = some (.slice aq nq cq) := by rw [cell_of_row _ _ _ _ _ _ hr0]; rfl
  have HP1 := Lib.hid (HP.out.turn t1)
  have HQ1 := Lib.hid (HQ.out.turn t1)
  have T1 := Lib.hid t1
  have R0 := Lib.hid hr0
  have R1 := Lib.hid hr1
  go_wp2_with fail
  rw [← hw1]
  rw [← hqd]
  have HQD := Lib.hid hqd
  clear hw1 t1 hr0 hr1 hqd
  go_loopw [3, 4] (fun v i wr => ∃ k : Nat, k ≤ nq ∧ k ≤ 12 ∧ i = .int .i64 k ∧ wr.ownsRow 0 29 2 v ((Q.take k).map cutP).length (pcells ((Q.take k).map cutP)) ∧ (∀ g, v.ownBlock = some g → w1.heap.size ≤ g) ∧ Turn [] w1 wr) (fun _ i _ => 12 - (intOf i).toNat)
  case atStart => exact ⟨0, by omega, by omega, rfl, World.ownsRow_nil _ _ _ _, (by intro g hg; cases hg), Turn.refl _ _⟩
  case round =>
    obtain ⟨k, hk1, hk2, rfl, hown, hlow, tr⟩ := hrel
    have HO := Lib.hid hown
    have HL := Lib.hid hlow
    have TR := Lib.hid tr
    have c4 := tr.cell c4 (by simp)
    have c5' := c5
    have c5 := tr.cell c5 (by simp)
    clear hown hlow tr
    by_cases hlt : k < nq ∧ k < 12
    · obtain ⟨hlt1, hlt2⟩ := hlt
      have r1 : (k : Int) < (nq : Int) := by omega
      have r2 : (k : Int) < 12 := by omega
      have hkq : k < Q.length := by have := HNQ.out; omega
      obtain ⟨b, off, ha, hb, hc⟩ := HQ1.out.at (by intro e; rw [e] at hkq; simp at hkq)
      subst ha
      obtain ⟨e0, e1, z0, z1⟩ := hc k hkq
      have E0 := Lib.hid e0
      have E1 := Lib.hid e1
      have e0 := TR.out.cell e0 (by simp)
      have e1 := TR.out.cell e1 (by simp)
      have HT : Hid ((Q.take (k + 1)).map cutP = (Q.take k).map cutP ++ [cutP (Q.getD k putNone)]) := Lib.hid (by
        rw [List.take_add_one, List.map_append, show Q[k]? = some (Q.getD k putNone) by simp [List.getD, hkq]]; rfl)
      have hll : ((Q.take k).map cutP).length ≤ 1000000 := by simp; omega
      clear hc
      generalize Q.getD k putNone = x at *
      obtain ⟨L, hL⟩ : ∃ L, L = (Q.take k).map cutP := ⟨_, rfl⟩
      rw [← hL] at HO HT hll
      obtain ⟨x1, x2⟩ := x
      simp only at e0 e1 z0 z1 E0 E1
      have C1 : Hid (∀ wx : World, Calls Try.prog 15 #[.string x1, .int .i64 10] wx fun e w' => e = .returned (.string (cutN x1 10)) ∧ w' = wx) := Lib.hid (fun wx : World => cut8_calls x1 10 wx z0 (by omega))
      have C2 : Hid (∀ wx : World, Calls Try.prog 15 #[.string x2, .int .i64 62] wx fun e w' => e = .returned (.string (cutN x2 62)) ∧ w' = wx) := Lib.hid (fun wx : World => cut8_calls x2 62 wx z1 (by omega))
      have D5 := Lib.hid c5'
      clear hL z0 z1 c5'
      go_wp2_with fail
      go_region_held_law (fun w' => w'.cell? ⟨q, 5, none⟩ = some (.slice (some ⟨b, off, none⟩) nq cq) ∧ w'.cell? ⟨b, off + k * 2, none⟩ = some (.string x1) ∧ w'.cell? ⟨b, off + k * 2 + 1, none⟩ = some (.string x2))
        (go_keep)
        (first
          | (go_at_call 15; ((with_reducible refine (C1.out _).mono ?_); rintro e w' ⟨rfl, rfl⟩))
          | (go_at_call 15; ((with_reducible refine (C2.out _).mono ?_); rintro e w' ⟨rfl, rfl⟩))
          | (refine step_append_put rfl (.tmp 16) (.tmp 32) rfl u3 L rfl (ownsRow_turn HO.out (put_up _ _) (fun _ _ => by simp)) wr.heap.size (cutP (x1, x2)) rfl ((Turn.drew [] _).cell (cell_new2 wr _ _ _).1 (by simp)) ((Turn.drew [] _).cell (cell_new2 wr _ _ _).2 (by simp)) hll ?_
             intro v5 w5 ow5 gr5 bl5
             have T5 := Lib.hid (turn_row TR.out gr5 HL.out)
             have L5 := Lib.hid (low_row TR.out HL.out bl5)
             have O5 := Lib.hid ow5
             clear gr5 bl5 ow5
             have q5 := T5.out.cell D5.out (by simp)
             have p5 := T5.out.cell E0.out (by simp)
             have p6 := T5.out.cell E1.out (by simp)))
      clear q5 p5 p6 c5 e0 e1
      go_wp2_with fail
      go_roundw
      case rel => exact ⟨k + 1, by omega, by omega, by go_num, by rw [HT.out]; exact O5.out, L5.out, T5.out⟩
      case measure => simp [intOf]; omega
    · have HK : Hid ((Q.take k).map cutP = (Q.take 12).map cutP) := Lib.hid (by
        have := HNQ.out
        by_cases h12 : k = 12
        · rw [h12]
        · rw [List.take_of_length_le (by omega : Q.length ≤ k), List.take_of_length_le (by omega : Q.length ≤ 12)])
      rw [HK.out] at HO
      clear HK
      obtain ⟨L, hL⟩ : ∃ L, L = (Q.take 12).map cutP := ⟨_, rfl⟩
      rw [← hL] at HO
      have HLL := Lib.hid hL
      have h0 := TR.out.heap R0.out (by simp)
      have h1 := TR.out.heap R1.out (by simp)
      obtain ⟨aq', cq', hv⟩ : ∃ aq' cq', u3 = .slice aq' L.length cq' := by
        rcases HO.out.2 with ⟨hv, hl⟩ | ⟨g, cap, cur, hv, _⟩
        · exact ⟨none, 0, by rw [hv, hl]⟩
        · exact ⟨_, _, hv⟩
      subst hv
      clear hL
      obtain ⟨hcp, hSr⟩ : np ≤ cp ∧ ∀ wx, Turn [q] wr wx → Sr wx ap cp (P.take 9) := by
        have := HNP.out
        rcases HP.out with ⟨rfl, rfl, rfl⟩ | ⟨A, rfl, hle, _, hc, _⟩
        · exact ⟨by rw [this]; exact Nat.le_refl _, fun wx _ => .inl ⟨rfl, rfl, rfl⟩⟩
        · refine ⟨by omega, fun wx tx => .inr ⟨A, rfl, fun j hj => ?_⟩⟩
          rw [List.length_take] at hj
          have hcj := hc j (by omega)
          have hab : (A.add j).block = A.block := by unfold Addr.add; split <;> rfl
          have hbl : (A.add j).block < q := by have := World.block_lt_of_cell? _ _ hcj; rw [HQD.out]; exact this
          rw [show (P.take 9).getD j 0 = P.getD j 0 by simp only [List.getD, List.getElem?_take]; rw [if_pos (by omega)]]
          exact tx.cell (TR.out.cell (T1.out.cell hcj (by simp)) (by simp)) (by intro hm; have := List.mem_singleton.1 hm; omega)
      have fz : wr.frozen? ⟨q, 5, none⟩ = false := unfrozen_of h0
      have hmm : 0 ≤ min (np : Int) 9 ∧ min (np : Int) 9 ≤ (cp : Int) := by omega
      have HSr := Lib.hid hSr
      clear hSr
      have hor : ¬ ((k : Int) < (nq : Int)) ∨ ((k : Int) < (nq : Int)) ∧ ¬ ((k : Int) < 12) := by omega
      rcases hor with r1 | ⟨r1, r2⟩
      all_goals
        go_wp2_with
          (at_builtin
           refine append_ints rfl (.const (.slice none 0 0)) (.tmp 42) rfl (.slice none 0 0) [] rfl (World.ownsRow_nil _ _ _ _) ap (min (np : Int) 9).toNat cp (P.take 9) (by rw [List.length_take, ← HNP.out]; omega) rfl (HSr.out _ (Turn.setCell wr (by simp) _)) (by simp; omega) ?_
           intro v7 w7 o7 g7 l7
           obtain ⟨ap', cp', rfl, -⟩ := row_form o7
           have T7 := Lib.hid (Turn.grown (l := []) g7 (by intro k hk; cases hk))
           have b0 := T7.out.heap (block_set h0 (Value.slice aq' L.length cq')) (by simp)
           have b1 := T7.out.heap ((block_other (by omega) _).trans h1) (by simp)
           have fq : w7.frozen? ⟨q, 4, none⟩ = false := unfrozen_of b0
           have fr : ∀ j, w7.frozen? ⟨q + 1, j, none⟩ = false := fun j => unfrozen_of b1
           have k0 : w7.cell? ⟨q, 0, none⟩ = some (.int .i64 kd) := by rw [cell_of_row _ _ _ _ _ _ b0]; rfl
           have k1 : w7.cell? ⟨q, 1, none⟩ = some (.int .i64 t) := by rw [cell_of_row _ _ _ _ _ _ b0]; rfl
           have k2 : w7.cell? ⟨q, 2, none⟩ = some (.int .i64 d) := by rw [cell_of_row _ _ _ _ _ _ b0]; rfl
           have k3 : w7.cell? ⟨q, 3, none⟩ = some (.bool y) := by rw [cell_of_row _ _ _ _ _ _ b0]; rfl
           have k4 : w7.cell? ⟨q, 4, none⟩ = some (.slice ap np cp) := by rw [cell_of_row _ _ _ _ _ _ b0]; rfl
           have k5 : w7.cell? ⟨q, 5, none⟩ = some (.slice aq' L.length cq') := by rw [cell_of_row _ _ _ _ _ _ b0]; rfl
           have m0 : w7.cell? ⟨q + 1, 0, none⟩ = some (.int .i64 0) := by rw [cell_of_row _ _ _ _ _ _ b1]; rfl
           have m1 : w7.cell? ⟨q + 1, 1, none⟩ = some (.int .i64 0) := by rw [cell_of_row _ _ _ _ _ _ b1]; rfl
           have m2 : w7.cell? ⟨q + 1, 2, none⟩ = some (.int .i64 0) := by rw [cell_of_row _ _ _ _ _ _ b1]; rfl
           have m3 : w7.cell? ⟨q + 1, 3, none⟩ = some (.bool false) := by rw [cell_of_row _ _ _ _ _ _ b1]; rfl
           have m4 : w7.cell? ⟨q + 1, 4, none⟩ = some (.slice none 0 0) := by rw [cell_of_row _ _ _ _ _ _ b1]; rfl
           have m5 : w7.cell? ⟨q + 1, 5, none⟩ = some (.slice none 0 0) := by rw [cell_of_row _ _ _ _ _ _ b1]; rfl
           have O7 := Lib.hid o7
           have L7 := Lib.hid l7
           have B1 := Lib.hid b1
           clear g7 o7 l7 b0 b1)
        have hL2 : List.take 12 (List.map cutP Q) = L := by rw [HLL.out, List.map_take]
        have hL1 : min 12 Q.length = L.length := by rw [HLL.out]; simp
        rw [hL1, hL2]
        have TS : Hid (∀ (u0 u1 u2 u3 u4 u5 u6 : Value), Turn [q, q + 1] w7 (((((((w7.setCell ⟨q, 4, none⟩ u0).setCell ⟨q + 1, 0, none⟩ u1).setCell ⟨q + 1, 1, none⟩ u2).setCell ⟨q + 1, 2, none⟩ u3).setCell ⟨q + 1, 3, none⟩ u4).setCell ⟨q + 1, 4, none⟩ u5).setCell ⟨q + 1, 5, none⟩ u6)) := Lib.hid (fun u0 u1 u2 u3 u4 u5 u6 => six_cells w7 q u0 u1 u2 u3 u4 u5 u6)
        have T8 := Lib.hid ((Turn.setCell (l := [q, q + 1]) (b := q) (i := 5) wr (by simp) (.slice aq' L.length cq')).trans T7.out (by simp))
        have hs8 := TR.out.size
        refine bodyPost_ret_by (results_cell_row rfl _ _ (q + 1) 38 _ (0, 0) _ rfl (six_heap B1.out _ _ _ _ _ _ _) Try.underlying38 rfl recsize) rfl ?_
        have o7 := O7.out
        simp only [List.nil_append, List.length_take] at o7
        have hqw := HQD.out
        have l7 : ∀ g, (Value.slice ap' (min 9 P.length) cp').ownBlock = some g → q + 2 ≤ g := by
          intro g hg
          rcases L7.out with h | h
          · simp only [List.nil_append, List.length_take] at h
            rw [hg] at h; cases h
          · simp only [List.nil_append, List.length_take] at h
            rw [hg] at h
            injection h with h
            rw [h]
            have : wr.heap.size ≤ (wr.setCell ⟨q, 5, none⟩ (.slice aq' L.length cq')).heap.size := by simp [World.setCell]
            omega
        have l8 : ∀ g, (Value.slice aq' L.length cq').ownBlock = some g → q + 2 ≤ g := fun g hg => by have := HL.out g hg; omega
        refine ⟨ap', cp', aq', cq', rfl, ownsRow_turn o7 (TS.out _ _ _ _ _ _ _) (fun g hg => by have := l7 g hg; simp; omega), ownsRow_turn HO.out (T8.out.trans (TS.out _ _ _ _ _ _ _) (fun i hi => .inl hi)) (fun g hg => by have := l8 g hg; simp; omega), fun g hg => by have := l7 g hg; omega, fun g hg => by have := l8 g hg; omega, ?_⟩
        exact ((T1.out.trans TR.out (by simp)).trans (T8.out.trans (TS.out _ _ _ _ _ _ _) (fun i hi => .inl hi)) (fun i hi => .inr (by simp at hi; omega)))

end Go.Proofs.Ytanjbbmgpodbgaa
