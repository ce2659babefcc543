/-
  The walk of the law KindTurn.
-/
import Derived.Test.YtanjbbmgpodbgaaLcut
import Derived.Test.YtanjbbmgpodbgaaKindPacketsWalk
import Derived.Lib.LazyBuf
namespace Go.Proofs.Ytanjbbmgpodbgaa
open Go.RowKit

/-- What Encode answers, as far as nil goes. -/
theorem enc_is (F : RecFace) (r : RecV) {w : World} {ap aq : Option Addr} {cp cq : Nat} (hp : Il w ap cp r.parts) (hq : Ps w aq cq r.puts) (hf : r.fit) :
    Calls Try.prog 35 #[.agg (r.cells ap cp aq cq)] w fun e w' => ∃ a n c, e = .returned (.slice a n c) ∧ a.isNone = (!recB r) ∧ Turn [] w w' := by
  refine (F.enc r w ap cp aq cq hp hq hf).mono ?_
  rintro e w' ⟨v, rfl, h1, h2, t⟩
  cases hr : recB r with
  | false => exact ⟨none, 0, 0, by rw [h2 hr], rfl, t⟩
  | true =>
    have hl := recBytes_long r
    obtain ⟨ao, c, hv, hs, -⟩ := Sl.of_owns (h1 hr)
    rcases hs with ⟨-, -, e⟩ | ⟨A, rfl, -⟩
    · rw [e] at hl; simp at hl
    · exact ⟨some A, _, c, by rw [hv], rfl, t⟩

theorem neq_nil (w : World) (a : Option Addr) (n c : Nat) {r : Bool} (h : a.isNone = (!r)) : (binOp .neq 24 (.slice a n c) (.slice none 0 0)).run Try.prog w = .ok (.bool r) w := by
  have := run_neq_slice_nil8 w a n c
  rw [h, Bool.not_not] at this
  exact this
where
  run_neq_slice_nil8 (w : World) (a : Option Addr) (n c : Nat) : (binOp .neq 24 (.slice a n c) (.slice none 0 0)).run Try.prog w = .ok (.bool (!a.isNone)) w :=
    run_neq_slice_nil w _ _ a n c Try.underlying24

/-- A record in a box. -/
structure Rw8 (w x : World) (q : Nat) (r : RecV) (ap : Option Addr) (cp : Nat) (aq : Option Addr) (cq : Nat) : Prop where
  box : x.heap[q]? = some (.cells (r.cells ap cp aq cq) 38)
  il : Il x ap cp r.parts
  ps : Ps x aq cq r.puts
  fit : r.fit
  turn : Turn [q] w x

theorem Rw8.set {w x : World} {q : Nat} {r r' : RecV} {ap aq ap' aq' : Option Addr} {cp cq cp' cq' : Nat} (h : Rw8 w x q r ap cp aq cq) (i : Nat) (v : Value) (hb : (r.cells ap cp aq cq).setIfInBounds i v = r'.cells ap' cp' aq' cq') (hil : Il (x.setCell ⟨q, i, none⟩ v) ap' cp' r'.parts) (hps : Ps (x.setCell ⟨q, i, none⟩ v) aq' cq' r'.puts) (hf : r'.fit) :
    Rw8 w (x.setCell ⟨q, i, none⟩ v) q r' ap' cp' aq' cq' :=
  ⟨by rw [← hb]; exact block_set h.box v, hil, hps, hf, h.turn.trans (Turn.setCell x (by simp) v) (fun i hi => .inl hi)⟩

theorem apart {w : World} {B B' e e' s s' n n' : Nat} {v v' : Value} {xs xs' : List Value} (h : w.ownsRow B e s v n xs) (h' : w.ownsRow B' e' s' v' n' xs') (he : e ≠ e') : v.ownBlock = none ∨ v.ownBlock ≠ v'.ownBlock := by
  rcases h.2 with ⟨rfl, _⟩ | ⟨g, cap, cur, rfl, _, hg, _⟩
  · exact .inl rfl
  · refine .inr fun e1 => ?_
    rcases h'.2 with ⟨rfl, _⟩ | ⟨g', cap', cur', rfl, _, hg', _⟩
    · simp [Value.ownBlock] at e1
    · simp only [Value.ownBlock, Option.some.injEq] at e1
      subst e1
      rw [hg] at hg'
      simp only [Option.some.injEq, Obj.cells.injEq] at hg'
      exact he hg'.2.1

theorem turn_append {w x1 x x5 : World} {q : Nat} {r : RecV} {ap aq : Option Addr} {cp cq : Nat} {o : Obj} {y : Int} {v5 : Value} (h : Rw8 w x q r ap cp aq cq) (ho : RowsOf x1 x r ap cp aq cq) (hq : q < x1.heap.size) (hwx : w.heap.size ≤ x1.heap.size) (hf : Few r) (hy : okI y)
    (o5 : x5.ownsRow 0 3 1 v5 (r.parts ++ [y]).length (i64s (r.parts ++ [y]))) (g5 : (x.alloc o).grownBy x5 (Value.slice ap r.parts.length cp).ownBlock) (l5 : v5.ownBlock = (Value.slice ap r.parts.length cp).ownBlock ∨ v5.ownBlock = some (x.alloc o).heap.size) :
    x5.heap[q]? = some (.cells (r.cells ap cp aq cq) 38) ∧ ∃ a5 c5, v5 = .slice a5 (r.parts ++ [y]).length c5 ∧ Rw8 w (x5.setCell ⟨q, 4, none⟩ (.slice a5 (r.parts ++ [y]).length c5)) q ⟨r.kind, r.tid, r.id, r.yes, r.parts ++ [y], r.puts⟩ a5 c5 aq cq := by
  have hx := lt_of_heap h.box
  have tg : Turn (Value.slice ap r.parts.length cp).ownBlock.toList (x.alloc o) x5 := Turn.grown g5 (fun k hk => .inl (by simp [hk]))
  have hl : ∀ i ∈ (Value.slice ap r.parts.length cp).ownBlock.toList, x1.heap.size ≤ i := fun i hi => ho.lp i (by simpa using hi)
  have ta : Turn (Value.slice ap r.parts.length cp).ownBlock.toList x x5 := (Turn.alloc _ x o).trans tg (fun i hi => .inl hi)
  have b5 := ta.heap h.box (fun hm => by have := hl q hm; omega)
  obtain ⟨a5, c5, hv, -⟩ := row_form o5
  subst hv
  refine ⟨b5, a5, c5, rfl, ?_⟩
  have hs := (Turn.alloc [] x o).size
  have ts : Turn [q] x5 (x5.setCell ⟨q, 4, none⟩ (.slice a5 (r.parts ++ [y]).length c5)) := Turn.setCell x5 (by simp) _
  have hne : ∀ k, (Value.slice a5 (r.parts ++ [y]).length c5).ownBlock = some k → k ∉ [q] := fun k hk hm => by
    have hm : k = q := by simpa using hm
    subst hm
    rcases l5 with e | e
    · have := ho.lp k (e.symm.trans hk); omega
    · rw [e] at hk
      injection hk with hk
      omega
  have oq := ownsRow_turn ho.q ta (fun k hk hm => by
    have hm : (Value.slice ap r.parts.length cp).ownBlock = some k := by simpa using hm
    rcases apart ho.q ho.p (by decide) with e | e
    · rw [e] at hk; cases hk
    · exact e (hk.trans hm.symm))
  have oq2 := ownsRow_turn oq ts (fun k hk hm => by have := ho.lq k hk; simp at hm; omega)
  exact ⟨block_set b5 _, own_il (ownsRow_turn o5 ts hne) (fun n hn => by
      rcases List.mem_append.1 hn with hn | hn
      · exact hf.all n hn
      · have : n = y := by simpa using hn
        rw [this]; exact hy),
    own_ps oq2 (fun i hi => by have := hf.size i hi; exact ⟨Nat.le_trans this.1 (by omega), Nat.le_trans this.2 (by omega)⟩), h.fit, (h.turn.trans ta (fun i hi => .inr (Nat.le_trans hwx (hl i hi)))).trans ts (fun i hi => .inl hi)⟩

theorem getD_mem8 {α : Type} {l : List α} {d : α} {i : Nat} (h : i < l.length) : l.getD i d ∈ l := by
  rw [show l.getD i d = l[i] by simp [List.getD, h]]
  exact List.getElem_mem h

theorem turn_append_put {w x1 x x5 : World} {q : Nat} {r : RecV} {ap aq : Option Addr} {cp cq : Nat} {o : Obj} {y : ByteArray × ByteArray} {v5 : Value} (h : Rw8 w x q r ap cp aq cq) (ho : RowsOf x1 x r ap cp aq cq) (hq : q < x1.heap.size) (hwx : w.heap.size ≤ x1.heap.size) (hf : Few r) (hy : y.1.size ≤ 62 ∧ y.2.size ≤ 62)
    (o5 : x5.ownsRow 0 29 2 v5 (r.puts ++ [y]).length (pcells (r.puts ++ [y]))) (g5 : (x.alloc o).grownBy x5 (Value.slice aq r.puts.length cq).ownBlock) (l5 : v5.ownBlock = (Value.slice aq r.puts.length cq).ownBlock ∨ v5.ownBlock = some (x.alloc o).heap.size) :
    x5.heap[q]? = some (.cells (r.cells ap cp aq cq) 38) ∧ ∃ a5 c5, v5 = .slice a5 (r.puts ++ [y]).length c5 ∧ Rw8 w (x5.setCell ⟨q, 5, none⟩ (.slice a5 (r.puts ++ [y]).length c5)) q ⟨r.kind, r.tid, r.id, r.yes, r.parts, r.puts ++ [y]⟩ ap cp a5 c5 := by
  have hx := lt_of_heap h.box
  have tg : Turn (Value.slice aq r.puts.length cq).ownBlock.toList (x.alloc o) x5 := Turn.grown g5 (fun k hk => .inl (by simp [hk]))
  have hl : ∀ i ∈ (Value.slice aq r.puts.length cq).ownBlock.toList, x1.heap.size ≤ i := fun i hi => ho.lq i (by simpa using hi)
  have ta : Turn (Value.slice aq r.puts.length cq).ownBlock.toList x x5 := (Turn.alloc _ x o).trans tg (fun i hi => .inl hi)
  have b5 := ta.heap h.box (fun hm => by have := hl q hm; omega)
  obtain ⟨a5, c5, hv⟩ := put_form o5
  subst hv
  refine ⟨b5, a5, c5, rfl, ?_⟩
  have hs := (Turn.alloc [] x o).size
  have ts : Turn [q] x5 (x5.setCell ⟨q, 5, none⟩ (.slice a5 (r.puts ++ [y]).length c5)) := Turn.setCell x5 (by simp) _
  have hne : ∀ k, (Value.slice a5 (r.puts ++ [y]).length c5).ownBlock = some k → k ∉ [q] := fun k hk hm => by
    have hm : k = q := by simpa using hm
    subst hm
    rcases l5 with e | e
    · have := ho.lq k (e.symm.trans hk); omega
    · rw [e] at hk
      injection hk with hk
      omega
  have oq := ownsRow_turn ho.p ta (fun k hk hm => by
    have hm : (Value.slice aq r.puts.length cq).ownBlock = some k := by simpa using hm
    rcases apart ho.p ho.q (by decide) with e | e
    · rw [e] at hk; cases hk
    · exact e (hk.trans hm.symm))
  have oq2 := ownsRow_turn oq ts (fun k hk hm => by have := ho.lp k hk; simp at hm; omega)
  exact ⟨block_set b5 _, own_il oq2 hf.all,
    own_ps (ownsRow_turn o5 ts hne) (fun i hi => by
      rcases List.mem_append.1 (getD_mem8 (d := putNone) hi) with hn | hn
      · obtain ⟨j, hj, e⟩ := List.getElem_of_mem hn
        have := hf.size j hj
        rw [show r.puts.getD j putNone = r.puts[j] by simp [List.getD, hj], e] at this
        exact ⟨Nat.le_trans this.1 (by omega), Nat.le_trans this.2 (by omega)⟩
      · have e : (r.puts ++ [y]).getD i putNone = y := by simpa using hn
        rw [e]; exact ⟨Nat.le_trans hy.1 (by omega), Nat.le_trans hy.2 (by omega)⟩), h.fit, (h.turn.trans ta (fun i hi => .inr (Nat.le_trans hwx (hl i hi)))).trans ts (fun i hi => .inl hi)⟩

set_option maxHeartbeats 8000000 in
set_option maxRecDepth 100000 in
theorem kindTurn_0 (F : RecFace) (a0 : RecV) (ap : Option Addr) (cp : Nat) (aq : Option Addr) (cq : Nat) {w : World} (wp : Il w ap cp a0.parts) (wq : Ps w aq cq a0.puts) (wk : okI a0.kind) (wt : okI a0.tid) (wi : okI a0.id)
    (a1 : Int) (a2 : Int) (h2 : okI a2) (hj : a1 % 7 = 0) :
    Calls Try.prog 6 #[.agg (a0.cells ap cp aq cq), .int .i64 a1, .int .i64 a2] w fun e w' => e = .returned (.bool true) ∧ Below w.heap.size w w' := by
  have m1 := tmod_turn a1 7 (by omega)
  have m2 := tmod_small a1 7 (by omega) (by omega)
  rw [hj] at m1
  have HWP := Lib.hid wp
  have HWQ := Lib.hid wq
  have H2 := Lib.hid h2
  have HF0 : Hid (a0.fit) := Lib.hid ⟨wk, wt, wi⟩
  obtain ⟨k, t, d, y, P, Q⟩ := a0
  clear wk wt wi wp wq hj h2
  have HC : Hid (∀ wx, Turn [] w wx → Calls Try.prog 30 #[.agg #[.int .i64 k, .int .i64 t, .int .i64 d, .bool y, .slice ap P.length cp, .slice aq Q.length cq]] wx fun e w' => ∃ ap' cp' aq' cq', e = .returned (.agg ((recCut ⟨k, t, d, y, P, Q⟩).cells ap' cp' aq' cq')) ∧ RowsOf wx w' (recCut ⟨k, t, d, y, P, Q⟩) ap' cp' aq' cq' ∧ Few (recCut ⟨k, t, d, y, P, Q⟩) ∧ Turn [] wx w') :=
    Lib.hid (fun wx tx => lawCut_calls ⟨k, t, d, y, P, Q⟩ (HWP.out.turn tx) (HWQ.out.turn tx) HF0.out)
  unfold RecV.cells
  dsimp only
  obtain ⟨np, hnp⟩ : ∃ n, n = P.length := ⟨_, rfl⟩
  obtain ⟨nq, hnq⟩ : ∃ n, n = Q.length := ⟨_, rfl⟩
  rw [← hnp, ← hnq] at HC
  rw [← hnp, ← hnq]
  clear hnp hnq HWP HWQ HF0
  obtain ⟨q, hq⟩ : ∃ q, q = w.heap.size := ⟨_, rfl⟩
  obtain ⟨x0, hx0⟩ : ∃ x0, x0 = w.alloc (.cells #[.int .i64 k, .int .i64 t, .int .i64 d, .bool y, .slice ap np cp, .slice aq nq cq] 38) := ⟨_, rfl⟩
  have t0 : Turn [] w x0 := by rw [hx0]; exact Turn.alloc [] w _
  have b0 : x0.heap[q]? = some (.cells #[.int .i64 k, .int .i64 t, .int .i64 d, .bool y, .slice ap np cp, .slice aq nq cq] 38) := by rw [hx0, hq]; exact heap_alloc_new w _
  have T0 := Lib.hid t0
  have B0 := Lib.hid b0
  clear t0 b0
  go_enter Try.func6, Try.ntmps6
  go_wp2_with fail
  rw [← hx0, ← hq]
  have HQ := Lib.hid hq
  clear hx0 hq
  refine (begun8_calls F _).mono ?_
  rintro e x1 ⟨rfl, t1'⟩
  have T1 := Lib.hid (T0.out.trans t1' (by simp))
  have b1 := t1'.heap B0.out (by simp)
  have B1 := Lib.hid b1
  obtain ⟨k0, k1', k2, k3, k4, k5⟩ := six_of b1
  clear t1' b1
  go_wp2_with fail
  refine (HC.out x1 T1.out).mono ?_
  rintro e x2 ⟨ap2, cp2, aq2, cq2, rfl, ho, hf, t2⟩
  have T2 := Lib.hid (T1.out.trans t2 (by simp))
  have b2 := t2.heap B1.out (by simp)
  have HO := Lib.hid ho
  have HF := Lib.hid hf
  have hqs : q < x1.heap.size := lt_of_heap B1.out
  have HQS := Lib.hid hqs
  obtain ⟨m0, m1', m2', m3, m4, m5⟩ := six_of b2
  have fr : ∀ j, x2.frozen? ⟨q, j, none⟩ = false := fun j => unfrozen_of b2
  have B2 := Lib.hid b2
  clear t2 b2 ho hf k0 k1' k2 k3 k4 k5 hqs
  generalize recCut ⟨k, t, d, y, P, Q⟩ = r at *
  obtain ⟨rk, rt, rd, ry, RP, RQ⟩ := r
  have t3 : Turn [q] x2 ((((((x2.setCell ⟨q, 0, none⟩ (.int .i64 rk)).setCell ⟨q, 1, none⟩ (.int .i64 rt)).setCell ⟨q, 2, none⟩ (.int .i64 rd)).setCell ⟨q, 3, none⟩ (.bool ry)).setCell ⟨q, 4, none⟩ (.slice ap2 RP.length cp2)).setCell ⟨q, 5, none⟩ (.slice aq2 RQ.length cq2)) := six_turn x2 q _ _ _ _ _ _
  have ho3 := HO.out.turn t3 (fun i hi => by have := HQS.out; simp at hi; omega)
  have b3 : ((((((x2.setCell ⟨q, 0, none⟩ (.int .i64 rk)).setCell ⟨q, 1, none⟩ (.int .i64 rt)).setCell ⟨q, 2, none⟩ (.int .i64 rd)).setCell ⟨q, 3, none⟩ (.bool ry)).setCell ⟨q, 4, none⟩ (.slice ap2 RP.length cp2)).setCell ⟨q, 5, none⟩ (.slice aq2 RQ.length cq2)).heap[q]? = some (.cells #[.int .i64 rk, .int .i64 rt, .int .i64 rd, .bool ry, .slice ap2 RP.length cp2, .slice aq2 RQ.length cq2] 38) := six_stores B2.out _ _ _ _ _ _
  have HR4 : Hid (Rw8 w ((((((x2.setCell ⟨q, 0, none⟩ (.int .i64 rk)).setCell ⟨q, 1, none⟩ (.int .i64 rt)).setCell ⟨q, 2, none⟩ (.int .i64 rd)).setCell ⟨q, 3, none⟩ (.bool ry)).setCell ⟨q, 4, none⟩ (.slice ap2 RP.length cp2)).setCell ⟨q, 5, none⟩ (.slice aq2 RQ.length cq2)) q ⟨rk, rt, rd, ry, RP, RQ⟩ ap2 cp2 aq2 cq2) := Lib.hid
    ⟨b3, ho3.il HF.out, ho3.ps HF.out, HF.out.fit, (T2.out.mono (l' := [q]) (fun i hi => by cases hi)).trans t3 (fun i hi => .inl hi)⟩
  unfold RecV.cells
  dsimp only
  have HWX := Lib.hid T1.out.size
  clear t3 ho3 b3 T0 T1 B0 B1 HC
  have HT4 : Hid (∀ i v, RowsOf x1 (((((((x2.setCell ⟨q, 0, none⟩ (.int .i64 rk)).setCell ⟨q, 1, none⟩ (.int .i64 rt)).setCell ⟨q, 2, none⟩ (.int .i64 rd)).setCell ⟨q, 3, none⟩ (.bool ry)).setCell ⟨q, 4, none⟩ (.slice ap2 RP.length cp2)).setCell ⟨q, 5, none⟩ (.slice aq2 RQ.length cq2)).setCell ⟨q, i, none⟩ v) ⟨rk, rt, rd, ry, RP, RQ⟩ ap2 cp2 aq2 cq2) := Lib.hid (fun i v => (HO.out.turn (six_turn x2 q _ _ _ _ _ _) (fun i hi => by have := HQS.out; simp at hi; omega)).turn (Turn.setCell (l := [q]) _ (by simp) v) (fun i hi => by have := HQS.out; simp at hi; omega))
  have HS := Lib.hid (HR4.out.set (r' := ⟨a2, rt, rd, ry, RP, RQ⟩) (ap' := ap2) (cp' := cp2) (aq' := aq2) (cq' := cq2) 0 (.int .i64 a2) rfl ((HT4.out _ _).il HF.out) ((HT4.out _ _).ps HF.out) ⟨H2.out, HR4.out.fit.2.1, HR4.out.fit.2.2⟩)
  have fr2 := fr
  clear HT4 HR4 HO HF B2 T2
  go_wp2_with fail
  obtain ⟨x4, hx4⟩ : ∃ x4, x4 = ((((((x2.setCell ⟨q, 0, none⟩ (.int .i64 rk)).setCell ⟨q, 1, none⟩ (.int .i64 rt)).setCell ⟨q, 2, none⟩ (.int .i64 rd)).setCell ⟨q, 3, none⟩ (.bool ry)).setCell ⟨q, 4, none⟩ (.slice ap2 RP.length cp2)).setCell ⟨q, 5, none⟩ (.slice aq2 RQ.length cq2)).setCell ⟨q, 0, none⟩ (.int .i64 a2) := ⟨_, rfl⟩
  rw [← hx4] at HS
  rw [← hx4]
  clear hx4
  have C1 := Lib.hid (fun wx (tx : Turn [] x4 wx) => kindRecord_calls ⟨a2, rt, rd, ry, RP, RQ⟩ (HS.out.il.turn tx) (HS.out.ps.turn tx) HS.out.fit.2.1 HS.out.fit.2.2)
  have C2 := Lib.hid (fun wx (tx : Turn [] x4 wx) => refRecord_calls ⟨a2, rt, rd, ry, RP, RQ⟩ (HS.out.il.turn tx) (HS.out.ps.turn tx))
  have C3 := Lib.hid (fun wx (tx : Turn [] x4 wx) => enc_is F ⟨a2, rt, rd, ry, RP, RQ⟩ (HS.out.il.turn tx) (HS.out.ps.turn tx) HS.out.fit)
  have HB := Lib.hid (fun wx (tx : Turn [] x4 wx) => tx.heap HS.out.box (by simp))
  have T3 := Lib.hid HS.out.turn
  generalize recB ⟨a2, rt, rd, ry, RP, RQ⟩ = r2 at C1 C2 C3
  unfold RecV.cells at C1 C2 C3 HB
  dsimp only at C1 C2 C3 HB
  generalize RP.length = rnp at *
  generalize RQ.length = rnq at *
  obtain ⟨z0, z1, z2, z3, z4, z5⟩ := six_of (HB.out x4 (Turn.refl _ _))
  clear HS
  go_region_held_law (fun w' => w'.cell? ⟨q, 0, none⟩ = some (.int .i64 a2) ∧ w'.cell? ⟨q, 1, none⟩ = some (.int .i64 rt) ∧ w'.cell? ⟨q, 2, none⟩ = some (.int .i64 rd) ∧ w'.cell? ⟨q, 3, none⟩ = some (.bool ry) ∧ w'.cell? ⟨q, 4, none⟩ = some (.slice ap2 rnp cp2) ∧ w'.cell? ⟨q, 5, none⟩ = some (.slice aq2 rnq cq2))
    (go_keep)
    (first
      | (go_at_call 31; ((with_reducible refine (C1.out _ (Turn.drew [] x4)).mono ?_); rintro e w3 ⟨rfl, t3⟩; have S3 := Lib.hid ((Turn.drew [] x4).trans t3 (by simp)); obtain ⟨f0, f1, f2, f3, f4, f5⟩ := six_of (HB.out w3 S3.out); clear t3))
      | (go_at_call 32; ((with_reducible refine (C2.out _ S3.out).mono ?_); rintro e w4 ⟨rfl, t4⟩; have S4 := Lib.hid (S3.out.trans t4 (by simp)); obtain ⟨g0, g1, g2, g3, g4, g5⟩ := six_of (HB.out w4 S4.out); clear t4))
      | (go_at_call 35; ((with_reducible refine (C3.out _ S4.out).mono ?_); rintro e w5 ⟨v1, v2, v3, rfl, hv, t5⟩; have S5 := Lib.hid (S4.out.trans t5 (by simp)); obtain ⟨i0, i1, i2, i3, i4, i5⟩ := six_of (HB.out w5 S5.out); have nt := fun wx : World => neq_nil wx v1 v2 v3 hv; clear t5 hv))
      | (go_at_call 32; ((with_reducible refine (C2.out _ S5.out).mono ?_); rintro e w6 ⟨rfl, t6⟩; have S6 := Lib.hid (S5.out.trans t6 (by simp)); obtain ⟨l0, l1, l2, l3, l4, l5⟩ := six_of (HB.out w6 S6.out); clear t6)))
  go_wp2
  go_ret
  refine ⟨ret_bool (by simp), ((T3.out.trans S6.out (by simp)).below ?_ (Nat.le_refl _))⟩
  intro i hi
  have := HQ.out
  simp at hi
  omega

set_option maxHeartbeats 8000000 in
set_option maxRecDepth 100000 in
theorem kindTurn_1 (F : RecFace) (a0 : RecV) (ap : Option Addr) (cp : Nat) (aq : Option Addr) (cq : Nat) {w : World} (wp : Il w ap cp a0.parts) (wq : Ps w aq cq a0.puts) (wk : okI a0.kind) (wt : okI a0.tid) (wi : okI a0.id)
    (a1 : Int) (a2 : Int) (h2 : okI a2) (hj : a1 % 7 = 1) :
    Calls Try.prog 6 #[.agg (a0.cells ap cp aq cq), .int .i64 a1, .int .i64 a2] w fun e w' => e = .returned (.bool true) ∧ Below w.heap.size w w' := by
  have m1 := tmod_turn a1 7 (by omega)
  have m2 := tmod_small a1 7 (by omega) (by omega)
  rw [hj] at m1
  have HWP := Lib.hid wp
  have HWQ := Lib.hid wq
  have H2 := Lib.hid h2
  have HF0 : Hid (a0.fit) := Lib.hid ⟨wk, wt, wi⟩
  obtain ⟨k, t, d, y, P, Q⟩ := a0
  clear wk wt wi wp wq hj h2
  have HC : Hid (∀ wx, Turn [] w wx → Calls Try.prog 30 #[.agg #[.int .i64 k, .int .i64 t, .int .i64 d, .bool y, .slice ap P.length cp, .slice aq Q.length cq]] wx fun e w' => ∃ ap' cp' aq' cq', e = .returned (.agg ((recCut ⟨k, t, d, y, P, Q⟩).cells ap' cp' aq' cq')) ∧ RowsOf wx w' (recCut ⟨k, t, d, y, P, Q⟩) ap' cp' aq' cq' ∧ Few (recCut ⟨k, t, d, y, P, Q⟩) ∧ Turn [] wx w') :=
    Lib.hid (fun wx tx => lawCut_calls ⟨k, t, d, y, P, Q⟩ (HWP.out.turn tx) (HWQ.out.turn tx) HF0.out)
  unfold RecV.cells
  dsimp only
  obtain ⟨np, hnp⟩ : ∃ n, n = P.length := ⟨_, rfl⟩
  obtain ⟨nq, hnq⟩ : ∃ n, n = Q.length := ⟨_, rfl⟩
  rw [← hnp, ← hnq] at HC
  rw [← hnp, ← hnq]
  clear hnp hnq HWP HWQ HF0
  obtain ⟨q, hq⟩ : ∃ q, q = w.heap.size := ⟨_, rfl⟩
  obtain ⟨x0, hx0⟩ : ∃ x0, x0 = w.alloc (.cells #[.int .i64 k, .int .i64 t, .int .i64 d, .bool y, .slice ap np cp, .slice aq nq cq] 38) := ⟨_, rfl⟩
  have t0 : Turn [] w x0 := by rw [hx0]; exact Turn.alloc [] w _
  have b0 : x0.heap[q]? = some (.cells #[.int .i64 k, .int .i64 t, .int .i64 d, .bool y, .slice ap np cp, .slice aq nq cq] 38) := by rw [hx0, hq]; exact heap_alloc_new w _
  have T0 := Lib.hid t0
  have B0 := Lib.hid b0
  clear t0 b0
  go_enter Try.func6, Try.ntmps6
  go_wp2_with fail
  rw [← hx0, ← hq]
  have HQ := Lib.hid hq
  clear hx0 hq
  refine (begun8_calls F _).mono ?_
  rintro e x1 ⟨rfl, t1'⟩
  have T1 := Lib.hid (T0.out.trans t1' (by simp))
  have b1 := t1'.heap B0.out (by simp)
  have B1 := Lib.hid b1
  obtain ⟨k0, k1', k2, k3, k4, k5⟩ := six_of b1
  clear t1' b1
  go_wp2_with fail
  refine (HC.out x1 T1.out).mono ?_
  rintro e x2 ⟨ap2, cp2, aq2, cq2, rfl, ho, hf, t2⟩
  have T2 := Lib.hid (T1.out.trans t2 (by simp))
  have b2 := t2.heap B1.out (by simp)
  have HO := Lib.hid ho
  have HF := Lib.hid hf
  have hqs : q < x1.heap.size := lt_of_heap B1.out
  have HQS := Lib.hid hqs
  obtain ⟨m0, m1', m2', m3, m4, m5⟩ := six_of b2
  have fr : ∀ j, x2.frozen? ⟨q, j, none⟩ = false := fun j => unfrozen_of b2
  have B2 := Lib.hid b2
  clear t2 b2 ho hf k0 k1' k2 k3 k4 k5 hqs
  generalize recCut ⟨k, t, d, y, P, Q⟩ = r at *
  obtain ⟨rk, rt, rd, ry, RP, RQ⟩ := r
  have t3 : Turn [q] x2 ((((((x2.setCell ⟨q, 0, none⟩ (.int .i64 rk)).setCell ⟨q, 1, none⟩ (.int .i64 rt)).setCell ⟨q, 2, none⟩ (.int .i64 rd)).setCell ⟨q, 3, none⟩ (.bool ry)).setCell ⟨q, 4, none⟩ (.slice ap2 RP.length cp2)).setCell ⟨q, 5, none⟩ (.slice aq2 RQ.length cq2)) := six_turn x2 q _ _ _ _ _ _
  have ho3 := HO.out.turn t3 (fun i hi => by have := HQS.out; simp at hi; omega)
  have b3 : ((((((x2.setCell ⟨q, 0, none⟩ (.int .i64 rk)).setCell ⟨q, 1, none⟩ (.int .i64 rt)).setCell ⟨q, 2, none⟩ (.int .i64 rd)).setCell ⟨q, 3, none⟩ (.bool ry)).setCell ⟨q, 4, none⟩ (.slice ap2 RP.length cp2)).setCell ⟨q, 5, none⟩ (.slice aq2 RQ.length cq2)).heap[q]? = some (.cells #[.int .i64 rk, .int .i64 rt, .int .i64 rd, .bool ry, .slice ap2 RP.length cp2, .slice aq2 RQ.length cq2] 38) := six_stores B2.out _ _ _ _ _ _
  have HR4 : Hid (Rw8 w ((((((x2.setCell ⟨q, 0, none⟩ (.int .i64 rk)).setCell ⟨q, 1, none⟩ (.int .i64 rt)).setCell ⟨q, 2, none⟩ (.int .i64 rd)).setCell ⟨q, 3, none⟩ (.bool ry)).setCell ⟨q, 4, none⟩ (.slice ap2 RP.length cp2)).setCell ⟨q, 5, none⟩ (.slice aq2 RQ.length cq2)) q ⟨rk, rt, rd, ry, RP, RQ⟩ ap2 cp2 aq2 cq2) := Lib.hid
    ⟨b3, ho3.il HF.out, ho3.ps HF.out, HF.out.fit, (T2.out.mono (l' := [q]) (fun i hi => by cases hi)).trans t3 (fun i hi => .inl hi)⟩
  unfold RecV.cells
  dsimp only
  have HWX := Lib.hid T1.out.size
  clear t3 ho3 b3 T0 T1 B0 B1 HC
  have HT4 : Hid (∀ i v, RowsOf x1 (((((((x2.setCell ⟨q, 0, none⟩ (.int .i64 rk)).setCell ⟨q, 1, none⟩ (.int .i64 rt)).setCell ⟨q, 2, none⟩ (.int .i64 rd)).setCell ⟨q, 3, none⟩ (.bool ry)).setCell ⟨q, 4, none⟩ (.slice ap2 RP.length cp2)).setCell ⟨q, 5, none⟩ (.slice aq2 RQ.length cq2)).setCell ⟨q, i, none⟩ v) ⟨rk, rt, rd, ry, RP, RQ⟩ ap2 cp2 aq2 cq2) := Lib.hid (fun i v => (HO.out.turn (six_turn x2 q _ _ _ _ _ _) (fun i hi => by have := HQS.out; simp at hi; omega)).turn (Turn.setCell (l := [q]) _ (by simp) v) (fun i hi => by have := HQS.out; simp at hi; omega))
  have HS := Lib.hid (HR4.out.set (r' := ⟨rk, a2, rd, ry, RP, RQ⟩) (ap' := ap2) (cp' := cp2) (aq' := aq2) (cq' := cq2) 1 (.int .i64 a2) rfl ((HT4.out _ _).il HF.out) ((HT4.out _ _).ps HF.out) ⟨HR4.out.fit.1, H2.out, HR4.out.fit.2.2⟩)
  have fr2 := fr
  clear HT4 HR4 HO HF B2 T2
  go_wp2_with fail
  obtain ⟨x4, hx4⟩ : ∃ x4, x4 = ((((((x2.setCell ⟨q, 0, none⟩ (.int .i64 rk)).setCell ⟨q, 1, none⟩ (.int .i64 rt)).setCell ⟨q, 2, none⟩ (.int .i64 rd)).setCell ⟨q, 3, none⟩ (.bool ry)).setCell ⟨q, 4, none⟩ (.slice ap2 RP.length cp2)).setCell ⟨q, 5, none⟩ (.slice aq2 RQ.length cq2)).setCell ⟨q, 1, none⟩ (.int .i64 a2) := ⟨_, rfl⟩
  rw [← hx4] at HS
  rw [← hx4]
  clear hx4
  have C1 := Lib.hid (fun wx (tx : Turn [] x4 wx) => kindRecord_calls ⟨rk, a2, rd, ry, RP, RQ⟩ (HS.out.il.turn tx) (HS.out.ps.turn tx) HS.out.fit.2.1 HS.out.fit.2.2)
  have C2 := Lib.hid (fun wx (tx : Turn [] x4 wx) => refRecord_calls ⟨rk, a2, rd, ry, RP, RQ⟩ (HS.out.il.turn tx) (HS.out.ps.turn tx))
  have C3 := Lib.hid (fun wx (tx : Turn [] x4 wx) => enc_is F ⟨rk, a2, rd, ry, RP, RQ⟩ (HS.out.il.turn tx) (HS.out.ps.turn tx) HS.out.fit)
  have HB := Lib.hid (fun wx (tx : Turn [] x4 wx) => tx.heap HS.out.box (by simp))
  have T3 := Lib.hid HS.out.turn
  generalize recB ⟨rk, a2, rd, ry, RP, RQ⟩ = r2 at C1 C2 C3
  unfold RecV.cells at C1 C2 C3 HB
  dsimp only at C1 C2 C3 HB
  generalize RP.length = rnp at *
  generalize RQ.length = rnq at *
  obtain ⟨z0, z1, z2, z3, z4, z5⟩ := six_of (HB.out x4 (Turn.refl _ _))
  clear HS
  go_region_held_law (fun w' => w'.cell? ⟨q, 0, none⟩ = some (.int .i64 rk) ∧ w'.cell? ⟨q, 1, none⟩ = some (.int .i64 a2) ∧ w'.cell? ⟨q, 2, none⟩ = some (.int .i64 rd) ∧ w'.cell? ⟨q, 3, none⟩ = some (.bool ry) ∧ w'.cell? ⟨q, 4, none⟩ = some (.slice ap2 rnp cp2) ∧ w'.cell? ⟨q, 5, none⟩ = some (.slice aq2 rnq cq2))
    (go_keep)
    (first
      | (go_at_call 31; ((with_reducible refine (C1.out _ (Turn.drew [] x4)).mono ?_); rintro e w3 ⟨rfl, t3⟩; have S3 := Lib.hid ((Turn.drew [] x4).trans t3 (by simp)); obtain ⟨f0, f1, f2, f3, f4, f5⟩ := six_of (HB.out w3 S3.out); clear t3))
      | (go_at_call 32; ((with_reducible refine (C2.out _ S3.out).mono ?_); rintro e w4 ⟨rfl, t4⟩; have S4 := Lib.hid (S3.out.trans t4 (by simp)); obtain ⟨g0, g1, g2, g3, g4, g5⟩ := six_of (HB.out w4 S4.out); clear t4))
      | (go_at_call 35; ((with_reducible refine (C3.out _ S4.out).mono ?_); rintro e w5 ⟨v1, v2, v3, rfl, hv, t5⟩; have S5 := Lib.hid (S4.out.trans t5 (by simp)); obtain ⟨i0, i1, i2, i3, i4, i5⟩ := six_of (HB.out w5 S5.out); have nt := fun wx : World => neq_nil wx v1 v2 v3 hv; clear t5 hv))
      | (go_at_call 32; ((with_reducible refine (C2.out _ S5.out).mono ?_); rintro e w6 ⟨rfl, t6⟩; have S6 := Lib.hid (S5.out.trans t6 (by simp)); obtain ⟨l0, l1, l2, l3, l4, l5⟩ := six_of (HB.out w6 S6.out); clear t6)))
  go_wp2
  go_ret
  refine ⟨ret_bool (by simp), ((T3.out.trans S6.out (by simp)).below ?_ (Nat.le_refl _))⟩
  intro i hi
  have := HQ.out
  simp at hi
  omega

set_option maxHeartbeats 8000000 in
set_option maxRecDepth 100000 in
theorem kindTurn_2 (F : RecFace) (a0 : RecV) (ap : Option Addr) (cp : Nat) (aq : Option Addr) (cq : Nat) {w : World} (wp : Il w ap cp a0.parts) (wq : Ps w aq cq a0.puts) (wk : okI a0.kind) (wt : okI a0.tid) (wi : okI a0.id)
    (a1 : Int) (a2 : Int) (h2 : okI a2) (hj : a1 % 7 = 2) :
    Calls Try.prog 6 #[.agg (a0.cells ap cp aq cq), .int .i64 a1, .int .i64 a2] w fun e w' => e = .returned (.bool true) ∧ Below w.heap.size w w' := by
  have m1 := tmod_turn a1 7 (by omega)
  have m2 := tmod_small a1 7 (by omega) (by omega)
  rw [hj] at m1
  have HWP := Lib.hid wp
  have HWQ := Lib.hid wq
  have H2 := Lib.hid h2
  have HF0 : Hid (a0.fit) := Lib.hid ⟨wk, wt, wi⟩
  obtain ⟨k, t, d, y, P, Q⟩ := a0
  clear wk wt wi wp wq hj h2
  have HC : Hid (∀ wx, Turn [] w wx → Calls Try.prog 30 #[.agg #[.int .i64 k, .int .i64 t, .int .i64 d, .bool y, .slice ap P.length cp, .slice aq Q.length cq]] wx fun e w' => ∃ ap' cp' aq' cq', e = .returned (.agg ((recCut ⟨k, t, d, y, P, Q⟩).cells ap' cp' aq' cq')) ∧ RowsOf wx w' (recCut ⟨k, t, d, y, P, Q⟩) ap' cp' aq' cq' ∧ Few (recCut ⟨k, t, d, y, P, Q⟩) ∧ Turn [] wx w') :=
    Lib.hid (fun wx tx => lawCut_calls ⟨k, t, d, y, P, Q⟩ (HWP.out.turn tx) (HWQ.out.turn tx) HF0.out)
  unfold RecV.cells
  dsimp only
  obtain ⟨np, hnp⟩ : ∃ n, n = P.length := ⟨_, rfl⟩
  obtain ⟨nq, hnq⟩ : ∃ n, n = Q.length := ⟨_, rfl⟩
  rw [← hnp, ← hnq] at HC
  rw [← hnp, ← hnq]
  clear hnp hnq HWP HWQ HF0
  obtain ⟨q, hq⟩ : ∃ q, q = w.heap.size := ⟨_, rfl⟩
  obtain ⟨x0, hx0⟩ : ∃ x0, x0 = w.alloc (.cells #[.int .i64 k, .int .i64 t, .int .i64 d, .bool y, .slice ap np cp, .slice aq nq cq] 38) := ⟨_, rfl⟩
  have t0 : Turn [] w x0 := by rw [hx0]; exact Turn.alloc [] w _
  have b0 : x0.heap[q]? = some (.cells #[.int .i64 k, .int .i64 t, .int .i64 d, .bool y, .slice ap np cp, .slice aq nq cq] 38) := by rw [hx0, hq]; exact heap_alloc_new w _
  have T0 := Lib.hid t0
  have B0 := Lib.hid b0
  clear t0 b0
  go_enter Try.func6, Try.ntmps6
  go_wp2_with fail
  rw [← hx0, ← hq]
  have HQ := Lib.hid hq
  clear hx0 hq
  refine (begun8_calls F _).mono ?_
  rintro e x1 ⟨rfl, t1'⟩
  have T1 := Lib.hid (T0.out.trans t1' (by simp))
  have b1 := t1'.heap B0.out (by simp)
  have B1 := Lib.hid b1
  obtain ⟨k0, k1', k2, k3, k4, k5⟩ := six_of b1
  clear t1' b1
  go_wp2_with fail
  refine (HC.out x1 T1.out).mono ?_
  rintro e x2 ⟨ap2, cp2, aq2, cq2, rfl, ho, hf, t2⟩
  have T2 := Lib.hid (T1.out.trans t2 (by simp))
  have b2 := t2.heap B1.out (by simp)
  have HO := Lib.hid ho
  have HF := Lib.hid hf
  have hqs : q < x1.heap.size := lt_of_heap B1.out
  have HQS := Lib.hid hqs
  obtain ⟨m0, m1', m2', m3, m4, m5⟩ := six_of b2
  have fr : ∀ j, x2.frozen? ⟨q, j, none⟩ = false := fun j => unfrozen_of b2
  have B2 := Lib.hid b2
  clear t2 b2 ho hf k0 k1' k2 k3 k4 k5 hqs
  generalize recCut ⟨k, t, d, y, P, Q⟩ = r at *
  obtain ⟨rk, rt, rd, ry, RP, RQ⟩ := r
  have t3 : Turn [q] x2 ((((((x2.setCell ⟨q, 0, none⟩ (.int .i64 rk)).setCell ⟨q, 1, none⟩ (.int .i64 rt)).setCell ⟨q, 2, none⟩ (.int .i64 rd)).setCell ⟨q, 3, none⟩ (.bool ry)).setCell ⟨q, 4, none⟩ (.slice ap2 RP.length cp2)).setCell ⟨q, 5, none⟩ (.slice aq2 RQ.length cq2)) := six_turn x2 q _ _ _ _ _ _
  have ho3 := HO.out.turn t3 (fun i hi => by have := HQS.out; simp at hi; omega)
  have b3 : ((((((x2.setCell ⟨q, 0, none⟩ (.int .i64 rk)).setCell ⟨q, 1, none⟩ (.int .i64 rt)).setCell ⟨q, 2, none⟩ (.int .i64 rd)).setCell ⟨q, 3, none⟩ (.bool ry)).setCell ⟨q, 4, none⟩ (.slice ap2 RP.length cp2)).setCell ⟨q, 5, none⟩ (.slice aq2 RQ.length cq2)).heap[q]? = some (.cells #[.int .i64 rk, .int .i64 rt, .int .i64 rd, .bool ry, .slice ap2 RP.length cp2, .slice aq2 RQ.length cq2] 38) := six_stores B2.out _ _ _ _ _ _
  have HR4 : Hid (Rw8 w ((((((x2.setCell ⟨q, 0, none⟩ (.int .i64 rk)).setCell ⟨q, 1, none⟩ (.int .i64 rt)).setCell ⟨q, 2, none⟩ (.int .i64 rd)).setCell ⟨q, 3, none⟩ (.bool ry)).setCell ⟨q, 4, none⟩ (.slice ap2 RP.length cp2)).setCell ⟨q, 5, none⟩ (.slice aq2 RQ.length cq2)) q ⟨rk, rt, rd, ry, RP, RQ⟩ ap2 cp2 aq2 cq2) := Lib.hid
    ⟨b3, ho3.il HF.out, ho3.ps HF.out, HF.out.fit, (T2.out.mono (l' := [q]) (fun i hi => by cases hi)).trans t3 (fun i hi => .inl hi)⟩
  unfold RecV.cells
  dsimp only
  have HWX := Lib.hid T1.out.size
  clear t3 ho3 b3 T0 T1 B0 B1 HC
  have HT4 : Hid (∀ i v, RowsOf x1 (((((((x2.setCell ⟨q, 0, none⟩ (.int .i64 rk)).setCell ⟨q, 1, none⟩ (.int .i64 rt)).setCell ⟨q, 2, none⟩ (.int .i64 rd)).setCell ⟨q, 3, none⟩ (.bool ry)).setCell ⟨q, 4, none⟩ (.slice ap2 RP.length cp2)).setCell ⟨q, 5, none⟩ (.slice aq2 RQ.length cq2)).setCell ⟨q, i, none⟩ v) ⟨rk, rt, rd, ry, RP, RQ⟩ ap2 cp2 aq2 cq2) := Lib.hid (fun i v => (HO.out.turn (six_turn x2 q _ _ _ _ _ _) (fun i hi => by have := HQS.out; simp at hi; omega)).turn (Turn.setCell (l := [q]) _ (by simp) v) (fun i hi => by have := HQS.out; simp at hi; omega))
  have HS := Lib.hid (HR4.out.set (r' := ⟨rk, rt, a2, ry, RP, RQ⟩) (ap' := ap2) (cp' := cp2) (aq' := aq2) (cq' := cq2) 2 (.int .i64 a2) rfl ((HT4.out _ _).il HF.out) ((HT4.out _ _).ps HF.out) ⟨HR4.out.fit.1, HR4.out.fit.2.1, H2.out⟩)
  have fr2 := fr
  clear HT4 HR4 HO HF B2 T2
  go_wp2_with fail
  obtain ⟨x4, hx4⟩ : ∃ x4, x4 = ((((((x2.setCell ⟨q, 0, none⟩ (.int .i64 rk)).setCell ⟨q, 1, none⟩ (.int .i64 rt)).setCell ⟨q, 2, none⟩ (.int .i64 rd)).setCell ⟨q, 3, none⟩ (.bool ry)).setCell ⟨q, 4, none⟩ (.slice ap2 RP.length cp2)).setCell ⟨q, 5, none⟩ (.slice aq2 RQ.length cq2)).setCell ⟨q, 2, none⟩ (.int .i64 a2) := ⟨_, rfl⟩
  rw [← hx4] at HS
  rw [← hx4]
  clear hx4
  have C1 := Lib.hid (fun wx (tx : Turn [] x4 wx) => kindRecord_calls ⟨rk, rt, a2, ry, RP, RQ⟩ (HS.out.il.turn tx) (HS.out.ps.turn tx) HS.out.fit.2.1 HS.out.fit.2.2)
  have C2 := Lib.hid (fun wx (tx : Turn [] x4 wx) => refRecord_calls ⟨rk, rt, a2, ry, RP, RQ⟩ (HS.out.il.turn tx) (HS.out.ps.turn tx))
  have C3 := Lib.hid (fun wx (tx : Turn [] x4 wx) => enc_is F ⟨rk, rt, a2, ry, RP, RQ⟩ (HS.out.il.turn tx) (HS.out.ps.turn tx) HS.out.fit)
  have HB := Lib.hid (fun wx (tx : Turn [] x4 wx) => tx.heap HS.out.box (by simp))
  have T3 := Lib.hid HS.out.turn
  generalize recB ⟨rk, rt, a2, ry, RP, RQ⟩ = r2 at C1 C2 C3
  unfold RecV.cells at C1 C2 C3 HB
  dsimp only at C1 C2 C3 HB
  generalize RP.length = rnp at *
  generalize RQ.length = rnq at *
  obtain ⟨z0, z1, z2, z3, z4, z5⟩ := six_of (HB.out x4 (Turn.refl _ _))
  clear HS
  go_region_held_law (fun w' => w'.cell? ⟨q, 0, none⟩ = some (.int .i64 rk) ∧ w'.cell? ⟨q, 1, none⟩ = some (.int .i64 rt) ∧ w'.cell? ⟨q, 2, none⟩ = some (.int .i64 a2) ∧ w'.cell? ⟨q, 3, none⟩ = some (.bool ry) ∧ w'.cell? ⟨q, 4, none⟩ = some (.slice ap2 rnp cp2) ∧ w'.cell? ⟨q, 5, none⟩ = some (.slice aq2 rnq cq2))
    (go_keep)
    (first
      | (go_at_call 31; ((with_reducible refine (C1.out _ (Turn.drew [] x4)).mono ?_); rintro e w3 ⟨rfl, t3⟩; have S3 := Lib.hid ((Turn.drew [] x4).trans t3 (by simp)); obtain ⟨f0, f1, f2, f3, f4, f5⟩ := six_of (HB.out w3 S3.out); clear t3))
      | (go_at_call 32; ((with_reducible refine (C2.out _ S3.out).mono ?_); rintro e w4 ⟨rfl, t4⟩; have S4 := Lib.hid (S3.out.trans t4 (by simp)); obtain ⟨g0, g1, g2, g3, g4, g5⟩ := six_of (HB.out w4 S4.out); clear t4))
      | (go_at_call 35; ((with_reducible refine (C3.out _ S4.out).mono ?_); rintro e w5 ⟨v1, v2, v3, rfl, hv, t5⟩; have S5 := Lib.hid (S4.out.trans t5 (by simp)); obtain ⟨i0, i1, i2, i3, i4, i5⟩ := six_of (HB.out w5 S5.out); have nt := fun wx : World => neq_nil wx v1 v2 v3 hv; clear t5 hv))
      | (go_at_call 32; ((with_reducible refine (C2.out _ S5.out).mono ?_); rintro e w6 ⟨rfl, t6⟩; have S6 := Lib.hid (S5.out.trans t6 (by simp)); obtain ⟨l0, l1, l2, l3, l4, l5⟩ := six_of (HB.out w6 S6.out); clear t6)))
  go_wp2
  go_ret
  refine ⟨ret_bool (by simp), ((T3.out.trans S6.out (by simp)).below ?_ (Nat.le_refl _))⟩
  intro i hi
  have := HQ.out
  simp at hi
  omega

set_option maxHeartbeats 8000000 in
set_option maxRecDepth 100000 in
theorem kindTurn_3 (F : RecFace) (a0 : RecV) (ap : Option Addr) (cp : Nat) (aq : Option Addr) (cq : Nat) {w : World} (wp : Il w ap cp a0.parts) (wq : Ps w aq cq a0.puts) (wk : okI a0.kind) (wt : okI a0.tid) (wi : okI a0.id)
    (a1 : Int) (a2 : Int) (h2 : okI a2) (hj : a1 % 7 = 3) :
    Calls Try.prog 6 #[.agg (a0.cells ap cp aq cq), .int .i64 a1, .int .i64 a2] w fun e w' => e = .returned (.bool true) ∧ Below w.heap.size w w' := by
  have m1 := tmod_turn a1 7 (by omega)
  have m2 := tmod_small a1 7 (by omega) (by omega)
  rw [hj] at m1
  have HWP := Lib.hid wp
  have HWQ := Lib.hid wq
  have H2 := Lib.hid h2
  have HF0 : Hid (a0.fit) := Lib.hid ⟨wk, wt, wi⟩
  obtain ⟨k, t, d, y, P, Q⟩ := a0
  clear wk wt wi wp wq hj h2
  have HC : Hid (∀ wx, Turn [] w wx → Calls Try.prog 30 #[.agg #[.int .i64 k, .int .i64 t, .int .i64 d, .bool y, .slice ap P.length cp, .slice aq Q.length cq]] wx fun e w' => ∃ ap' cp' aq' cq', e = .returned (.agg ((recCut ⟨k, t, d, y, P, Q⟩).cells ap' cp' aq' cq')) ∧ RowsOf wx w' (recCut ⟨k, t, d, y, P, Q⟩) ap' cp' aq' cq' ∧ Few (recCut ⟨k, t, d, y, P, Q⟩) ∧ Turn [] wx w') :=
    Lib.hid (fun wx tx => lawCut_calls ⟨k, t, d, y, P, Q⟩ (HWP.out.turn tx) (HWQ.out.turn tx) HF0.out)
  unfold RecV.cells
  dsimp only
  obtain ⟨np, hnp⟩ : ∃ n, n = P.length := ⟨_, rfl⟩
  obtain ⟨nq, hnq⟩ : ∃ n, n = Q.length := ⟨_, rfl⟩
  rw [← hnp, ← hnq] at HC
  rw [← hnp, ← hnq]
  clear hnp hnq HWP HWQ HF0
  obtain ⟨q, hq⟩ : ∃ q, q = w.heap.size := ⟨_, rfl⟩
  obtain ⟨x0, hx0⟩ : ∃ x0, x0 = w.alloc (.cells #[.int .i64 k, .int .i64 t, .int .i64 d, .bool y, .slice ap np cp, .slice aq nq cq] 38) := ⟨_, rfl⟩
  have t0 : Turn [] w x0 := by rw [hx0]; exact Turn.alloc [] w _
  have b0 : x0.heap[q]? = some (.cells #[.int .i64 k, .int .i64 t, .int .i64 d, .bool y, .slice ap np cp, .slice aq nq cq] 38) := by rw [hx0, hq]; exact heap_alloc_new w _
  have T0 := Lib.hid t0
  have B0 := Lib.hid b0
  clear t0 b0
  go_enter Try.func6, Try.ntmps6
  go_wp2_with fail
  rw [← hx0, ← hq]
  have HQ := Lib.hid hq
  clear hx0 hq
  refine (begun8_calls F _).mono ?_
  rintro e x1 ⟨rfl, t1'⟩
  have T1 := Lib.hid (T0.out.trans t1' (by simp))
  have b1 := t1'.heap B0.out (by simp)
  have B1 := Lib.hid b1
  obtain ⟨k0, k1', k2, k3, k4, k5⟩ := six_of b1
  clear t1' b1
  go_wp2_with fail
  refine (HC.out x1 T1.out).mono ?_
  rintro e x2 ⟨ap2, cp2, aq2, cq2, rfl, ho, hf, t2⟩
  have T2 := Lib.hid (T1.out.trans t2 (by simp))
  have b2 := t2.heap B1.out (by simp)
  have HO := Lib.hid ho
  have HF := Lib.hid hf
  have hqs : q < x1.heap.size := lt_of_heap B1.out
  have HQS := Lib.hid hqs
  obtain ⟨m0, m1', m2', m3, m4, m5⟩ := six_of b2
  have fr : ∀ j, x2.frozen? ⟨q, j, none⟩ = false := fun j => unfrozen_of b2
  have B2 := Lib.hid b2
  clear t2 b2 ho hf k0 k1' k2 k3 k4 k5 hqs
  generalize recCut ⟨k, t, d, y, P, Q⟩ = r at *
  obtain ⟨rk, rt, rd, ry, RP, RQ⟩ := r
  have t3 : Turn [q] x2 ((((((x2.setCell ⟨q, 0, none⟩ (.int .i64 rk)).setCell ⟨q, 1, none⟩ (.int .i64 rt)).setCell ⟨q, 2, none⟩ (.int .i64 rd)).setCell ⟨q, 3, none⟩ (.bool ry)).setCell ⟨q, 4, none⟩ (.slice ap2 RP.length cp2)).setCell ⟨q, 5, none⟩ (.slice aq2 RQ.length cq2)) := six_turn x2 q _ _ _ _ _ _
  have ho3 := HO.out.turn t3 (fun i hi => by have := HQS.out; simp at hi; omega)
  have b3 : ((((((x2.setCell ⟨q, 0, none⟩ (.int .i64 rk)).setCell ⟨q, 1, none⟩ (.int .i64 rt)).setCell ⟨q, 2, none⟩ (.int .i64 rd)).setCell ⟨q, 3, none⟩ (.bool ry)).setCell ⟨q, 4, none⟩ (.slice ap2 RP.length cp2)).setCell ⟨q, 5, none⟩ (.slice aq2 RQ.length cq2)).heap[q]? = some (.cells #[.int .i64 rk, .int .i64 rt, .int .i64 rd, .bool ry, .slice ap2 RP.length cp2, .slice aq2 RQ.length cq2] 38) := six_stores B2.out _ _ _ _ _ _
  have HR4 : Hid (Rw8 w ((((((x2.setCell ⟨q, 0, none⟩ (.int .i64 rk)).setCell ⟨q, 1, none⟩ (.int .i64 rt)).setCell ⟨q, 2, none⟩ (.int .i64 rd)).setCell ⟨q, 3, none⟩ (.bool ry)).setCell ⟨q, 4, none⟩ (.slice ap2 RP.length cp2)).setCell ⟨q, 5, none⟩ (.slice aq2 RQ.length cq2)) q ⟨rk, rt, rd, ry, RP, RQ⟩ ap2 cp2 aq2 cq2) := Lib.hid
    ⟨b3, ho3.il HF.out, ho3.ps HF.out, HF.out.fit, (T2.out.mono (l' := [q]) (fun i hi => by cases hi)).trans t3 (fun i hi => .inl hi)⟩
  unfold RecV.cells
  dsimp only
  have HWX := Lib.hid T1.out.size
  clear t3 ho3 b3 T0 T1 B0 B1 HC
  have HT4 : Hid (∀ i v, RowsOf x1 (((((((x2.setCell ⟨q, 0, none⟩ (.int .i64 rk)).setCell ⟨q, 1, none⟩ (.int .i64 rt)).setCell ⟨q, 2, none⟩ (.int .i64 rd)).setCell ⟨q, 3, none⟩ (.bool ry)).setCell ⟨q, 4, none⟩ (.slice ap2 RP.length cp2)).setCell ⟨q, 5, none⟩ (.slice aq2 RQ.length cq2)).setCell ⟨q, i, none⟩ v) ⟨rk, rt, rd, ry, RP, RQ⟩ ap2 cp2 aq2 cq2) := Lib.hid (fun i v => (HO.out.turn (six_turn x2 q _ _ _ _ _ _) (fun i hi => by have := HQS.out; simp at hi; omega)).turn (Turn.setCell (l := [q]) _ (by simp) v) (fun i hi => by have := HQS.out; simp at hi; omega))
  have HS := Lib.hid (HR4.out.set (r' := ⟨rk, rt, rd, (!ry), RP, RQ⟩) (ap' := ap2) (cp' := cp2) (aq' := aq2) (cq' := cq2) 3 (.bool (!ry)) rfl ((HT4.out _ _).il HF.out) ((HT4.out _ _).ps HF.out) HR4.out.fit)
  have fr2 := fr
  clear HT4 HR4 HO HF B2 T2
  go_wp2_with fail
  obtain ⟨x4, hx4⟩ : ∃ x4, x4 = ((((((x2.setCell ⟨q, 0, none⟩ (.int .i64 rk)).setCell ⟨q, 1, none⟩ (.int .i64 rt)).setCell ⟨q, 2, none⟩ (.int .i64 rd)).setCell ⟨q, 3, none⟩ (.bool ry)).setCell ⟨q, 4, none⟩ (.slice ap2 RP.length cp2)).setCell ⟨q, 5, none⟩ (.slice aq2 RQ.length cq2)).setCell ⟨q, 3, none⟩ (.bool (!ry)) := ⟨_, rfl⟩
  rw [← hx4] at HS
  rw [← hx4]
  clear hx4
  have C1 := Lib.hid (fun wx (tx : Turn [] x4 wx) => kindRecord_calls ⟨rk, rt, rd, (!ry), RP, RQ⟩ (HS.out.il.turn tx) (HS.out.ps.turn tx) HS.out.fit.2.1 HS.out.fit.2.2)
  have C2 := Lib.hid (fun wx (tx : Turn [] x4 wx) => refRecord_calls ⟨rk, rt, rd, (!ry), RP, RQ⟩ (HS.out.il.turn tx) (HS.out.ps.turn tx))
  have C3 := Lib.hid (fun wx (tx : Turn [] x4 wx) => enc_is F ⟨rk, rt, rd, (!ry), RP, RQ⟩ (HS.out.il.turn tx) (HS.out.ps.turn tx) HS.out.fit)
  have HB := Lib.hid (fun wx (tx : Turn [] x4 wx) => tx.heap HS.out.box (by simp))
  have T3 := Lib.hid HS.out.turn
  generalize recB ⟨rk, rt, rd, (!ry), RP, RQ⟩ = r2 at C1 C2 C3
  unfold RecV.cells at C1 C2 C3 HB
  dsimp only at C1 C2 C3 HB
  generalize RP.length = rnp at *
  generalize RQ.length = rnq at *
  obtain ⟨z0, z1, z2, z3, z4, z5⟩ := six_of (HB.out x4 (Turn.refl _ _))
  clear HS
  go_region_held_law (fun w' => w'.cell? ⟨q, 0, none⟩ = some (.int .i64 rk) ∧ w'.cell? ⟨q, 1, none⟩ = some (.int .i64 rt) ∧ w'.cell? ⟨q, 2, none⟩ = some (.int .i64 rd) ∧ w'.cell? ⟨q, 3, none⟩ = some (.bool (!ry)) ∧ w'.cell? ⟨q, 4, none⟩ = some (.slice ap2 rnp cp2) ∧ w'.cell? ⟨q, 5, none⟩ = some (.slice aq2 rnq cq2))
    (go_keep)
    (first
      | (go_at_call 31; ((with_reducible refine (C1.out _ (Turn.drew [] x4)).mono ?_); rintro e w3 ⟨rfl, t3⟩; have S3 := Lib.hid ((Turn.drew [] x4).trans t3 (by simp)); obtain ⟨f0, f1, f2, f3, f4, f5⟩ := six_of (HB.out w3 S3.out); clear t3))
      | (go_at_call 32; ((with_reducible refine (C2.out _ S3.out).mono ?_); rintro e w4 ⟨rfl, t4⟩; have S4 := Lib.hid (S3.out.trans t4 (by simp)); obtain ⟨g0, g1, g2, g3, g4, g5⟩ := six_of (HB.out w4 S4.out); clear t4))
      | (go_at_call 35; ((with_reducible refine (C3.out _ S4.out).mono ?_); rintro e w5 ⟨v1, v2, v3, rfl, hv, t5⟩; have S5 := Lib.hid (S4.out.trans t5 (by simp)); obtain ⟨i0, i1, i2, i3, i4, i5⟩ := six_of (HB.out w5 S5.out); have nt := fun wx : World => neq_nil wx v1 v2 v3 hv; clear t5 hv))
      | (go_at_call 32; ((with_reducible refine (C2.out _ S5.out).mono ?_); rintro e w6 ⟨rfl, t6⟩; have S6 := Lib.hid (S5.out.trans t6 (by simp)); obtain ⟨l0, l1, l2, l3, l4, l5⟩ := six_of (HB.out w6 S6.out); clear t6)))
  go_wp2
  go_ret
  refine ⟨ret_bool (by simp), ((T3.out.trans S6.out (by simp)).below ?_ (Nat.le_refl _))⟩
  intro i hi
  have := HQ.out
  simp at hi
  omega

set_option maxHeartbeats 8000000 in
set_option maxRecDepth 100000 in
theorem kindTurn_4 (F : RecFace) (a0 : RecV) (ap : Option Addr) (cp : Nat) (aq : Option Addr) (cq : Nat) {w : World} (wp : Il w ap cp a0.parts) (wq : Ps w aq cq a0.puts) (wk : okI a0.kind) (wt : okI a0.tid) (wi : okI a0.id)
    (a1 : Int) (a2 : Int) (h2 : okI a2) (hj : a1 % 7 = 4) :
    Calls Try.prog 6 #[.agg (a0.cells ap cp aq cq), .int .i64 a1, .int .i64 a2] w fun e w' => e = .returned (.bool true) ∧ Below w.heap.size w w' := by
  have m1 := tmod_turn a1 7 (by omega)
  have m2 := tmod_small a1 7 (by omega) (by omega)
  rw [hj] at m1
  have HWP := Lib.hid wp
  have HWQ := Lib.hid wq
  have H2 := Lib.hid h2
  have HF0 : Hid (a0.fit) := Lib.hid ⟨wk, wt, wi⟩
  obtain ⟨k, t, d, y, P, Q⟩ := a0
  clear wk wt wi wp wq hj h2
  have HC : Hid (∀ wx, Turn [] w wx → Calls Try.prog 30 #[.agg #[.int .i64 k, .int .i64 t, .int .i64 d, .bool y, .slice ap P.length cp, .slice aq Q.length cq]] wx fun e w' => ∃ ap' cp' aq' cq', e = .returned (.agg ((recCut ⟨k, t, d, y, P, Q⟩).cells ap' cp' aq' cq')) ∧ RowsOf wx w' (recCut ⟨k, t, d, y, P, Q⟩) ap' cp' aq' cq' ∧ Few (recCut ⟨k, t, d, y, P, Q⟩) ∧ Turn [] wx w') :=
    Lib.hid (fun wx tx => lawCut_calls ⟨k, t, d, y, P, Q⟩ (HWP.out.turn tx) (HWQ.out.turn tx) HF0.out)
  unfold RecV.cells
  dsimp only
  obtain ⟨np, hnp⟩ : ∃ n, n = P.length := ⟨_, rfl⟩
  obtain ⟨nq, hnq⟩ : ∃ n, n = Q.length := ⟨_, rfl⟩
  rw [← hnp, ← hnq] at HC
  rw [← hnp, ← hnq]
  clear hnp hnq HWP HWQ HF0
  obtain ⟨q, hq⟩ : ∃ q, q = w.heap.size := ⟨_, rfl⟩
  obtain ⟨x0, hx0⟩ : ∃ x0, x0 = w.alloc (.cells #[.int .i64 k, .int .i64 t, .int .i64 d, .bool y, .slice ap np cp, .slice aq nq cq] 38) := ⟨_, rfl⟩
  have t0 : Turn [] w x0 := by rw [hx0]; exact Turn.alloc [] w _
  have b0 : x0.heap[q]? = some (.cells #[.int .i64 k, .int .i64 t, .int .i64 d, .bool y, .slice ap np cp, .slice aq nq cq] 38) := by rw [hx0, hq]; exact heap_alloc_new w _
  have T0 := Lib.hid t0
  have B0 := Lib.hid b0
  clear t0 b0
  go_enter Try.func6, Try.ntmps6
  go_wp2_with fail
  rw [← hx0, ← hq]
  have HQ := Lib.hid hq
  clear hx0 hq
  refine (begun8_calls F _).mono ?_
  rintro e x1 ⟨rfl, t1'⟩
  have T1 := Lib.hid (T0.out.trans t1' (by simp))
  have b1 := t1'.heap B0.out (by simp)
  have B1 := Lib.hid b1
  obtain ⟨k0, k1', k2, k3, k4, k5⟩ := six_of b1
  clear t1' b1
  go_wp2_with fail
  refine (HC.out x1 T1.out).mono ?_
  rintro e x2 ⟨ap2, cp2, aq2, cq2, rfl, ho, hf, t2⟩
  have T2 := Lib.hid (T1.out.trans t2 (by simp))
  have b2 := t2.heap B1.out (by simp)
  have HO := Lib.hid ho
  have HF := Lib.hid hf
  have hqs : q < x1.heap.size := lt_of_heap B1.out
  have HQS := Lib.hid hqs
  obtain ⟨m0, m1', m2', m3, m4, m5⟩ := six_of b2
  have fr : ∀ j, x2.frozen? ⟨q, j, none⟩ = false := fun j => unfrozen_of b2
  have B2 := Lib.hid b2
  clear t2 b2 ho hf k0 k1' k2 k3 k4 k5 hqs
  generalize recCut ⟨k, t, d, y, P, Q⟩ = r at *
  obtain ⟨rk, rt, rd, ry, RP, RQ⟩ := r
  have t3 : Turn [q] x2 ((((((x2.setCell ⟨q, 0, none⟩ (.int .i64 rk)).setCell ⟨q, 1, none⟩ (.int .i64 rt)).setCell ⟨q, 2, none⟩ (.int .i64 rd)).setCell ⟨q, 3, none⟩ (.bool ry)).setCell ⟨q, 4, none⟩ (.slice ap2 RP.length cp2)).setCell ⟨q, 5, none⟩ (.slice aq2 RQ.length cq2)) := six_turn x2 q _ _ _ _ _ _
  have ho3 := HO.out.turn t3 (fun i hi => by have := HQS.out; simp at hi; omega)
  have b3 : ((((((x2.setCell ⟨q, 0, none⟩ (.int .i64 rk)).setCell ⟨q, 1, none⟩ (.int .i64 rt)).setCell ⟨q, 2, none⟩ (.int .i64 rd)).setCell ⟨q, 3, none⟩ (.bool ry)).setCell ⟨q, 4, none⟩ (.slice ap2 RP.length cp2)).setCell ⟨q, 5, none⟩ (.slice aq2 RQ.length cq2)).heap[q]? = some (.cells #[.int .i64 rk, .int .i64 rt, .int .i64 rd, .bool ry, .slice ap2 RP.length cp2, .slice aq2 RQ.length cq2] 38) := six_stores B2.out _ _ _ _ _ _
  have HR4 : Hid (Rw8 w ((((((x2.setCell ⟨q, 0, none⟩ (.int .i64 rk)).setCell ⟨q, 1, none⟩ (.int .i64 rt)).setCell ⟨q, 2, none⟩ (.int .i64 rd)).setCell ⟨q, 3, none⟩ (.bool ry)).setCell ⟨q, 4, none⟩ (.slice ap2 RP.length cp2)).setCell ⟨q, 5, none⟩ (.slice aq2 RQ.length cq2)) q ⟨rk, rt, rd, ry, RP, RQ⟩ ap2 cp2 aq2 cq2) := Lib.hid
    ⟨b3, ho3.il HF.out, ho3.ps HF.out, HF.out.fit, (T2.out.mono (l' := [q]) (fun i hi => by cases hi)).trans t3 (fun i hi => .inl hi)⟩
  unfold RecV.cells
  dsimp only
  have HWX := Lib.hid T1.out.size
  clear t3 ho3 b3 T0 T1 B0 B1 HC
  have HT4 : Hid (RowsOf x1 ((((((x2.setCell ⟨q, 0, none⟩ (.int .i64 rk)).setCell ⟨q, 1, none⟩ (.int .i64 rt)).setCell ⟨q, 2, none⟩ (.int .i64 rd)).setCell ⟨q, 3, none⟩ (.bool ry)).setCell ⟨q, 4, none⟩ (.slice ap2 RP.length cp2)).setCell ⟨q, 5, none⟩ (.slice aq2 RQ.length cq2)) ⟨rk, rt, rd, ry, RP, RQ⟩ ap2 cp2 aq2 cq2) := Lib.hid (HO.out.turn (six_turn x2 q _ _ _ _ _ _) (fun i hi => by have := HQS.out; simp at hi; omega))
  obtain ⟨x3, hx3⟩ : ∃ x3, x3 = (((((x2.setCell ⟨q, 0, none⟩ (.int .i64 rk)).setCell ⟨q, 1, none⟩ (.int .i64 rt)).setCell ⟨q, 2, none⟩ (.int .i64 rd)).setCell ⟨q, 3, none⟩ (.bool ry)).setCell ⟨q, 4, none⟩ (.slice ap2 RP.length cp2)).setCell ⟨q, 5, none⟩ (.slice aq2 RQ.length cq2) := ⟨_, rfl⟩
  have hsz : x3.heap.size = x2.heap.size := by rw [hx3]; simp [World.setCell]
  have HX3 := Lib.hid hx3
  rw [← hx3] at HT4 HR4
  have SR4 : Hid (∀ t, Sr (x3.alloc (.cells #[.int .i64 a2] t)) (some ⟨x2.heap.size, 0, none⟩) 1 [a2]) := Lib.hid (fun t => by rw [← hsz]; exact Sr.new x3 a2 t)
  clear hx3 hsz
  have hlen : RP.length + 1 ≤ 1000000 := by have : RP.length ≤ 9 := HF.out.parts; omega
  clear HO B2 T2
  go_wp2_with
    (at_builtin
     rw [← HX3.out]
     (refine append_ints rfl (.tmp 39) (.tmp 41) rfl (.slice ap2 RP.length cp2) RP rfl (ownsRow_turn HT4.out.p (Turn.alloc [] x3 _) (fun _ _ => by simp)) (some ⟨x2.heap.size, 0, none⟩) 1 1 [a2] rfl rfl (SR4.out _) (by simpa using hlen) ?_)
     intro v5 x5 o5 g5 l5
     obtain ⟨b5, a5, c5, hv, hs5⟩ := turn_append (r := ⟨rk, rt, rd, ry, RP, RQ⟩) HR4.out HT4.out HQS.out HWX.out HF.out H2.out o5 g5 l5
     obtain ⟨nn, hm5⟩ : ∃ m, m = (RP ++ [a2]).length := ⟨_, rfl⟩
     rw [← hm5] at hv hs5
     subst hv
     have HS := Lib.hid hs5
     have HM := Lib.hid hm5
     have fr5 : ∀ j, x5.frozen? ⟨q, j, none⟩ = false := fun j => unfrozen_of b5
     obtain ⟨n0, n1, n2, n3, n4, n5⟩ := six_of b5
     clear hm5 b5 hs5
     clear o5 g5 l5 m0 m1' m2' m3 m4 m5 fr)
  obtain ⟨x4, hx4⟩ : ∃ x4, x4 = x5.setCell ⟨q, 4, none⟩ (.slice a5 nn c5) := ⟨_, rfl⟩
  rw [← hx4] at HS
  rw [← hx4]
  clear hx4
  have C1 := Lib.hid (fun wx (tx : Turn [] x4 wx) => kindRecord_calls ⟨rk, rt, rd, ry, (RP ++ [a2]), RQ⟩ (HS.out.il.turn tx) (HS.out.ps.turn tx) HS.out.fit.2.1 HS.out.fit.2.2)
  have C2 := Lib.hid (fun wx (tx : Turn [] x4 wx) => refRecord_calls ⟨rk, rt, rd, ry, (RP ++ [a2]), RQ⟩ (HS.out.il.turn tx) (HS.out.ps.turn tx))
  have C3 := Lib.hid (fun wx (tx : Turn [] x4 wx) => enc_is F ⟨rk, rt, rd, ry, (RP ++ [a2]), RQ⟩ (HS.out.il.turn tx) (HS.out.ps.turn tx) HS.out.fit)
  have HB := Lib.hid (fun wx (tx : Turn [] x4 wx) => tx.heap HS.out.box (by simp))
  have T3 := Lib.hid HS.out.turn
  generalize recB ⟨rk, rt, rd, ry, (RP ++ [a2]), RQ⟩ = r2 at C1 C2 C3
  unfold RecV.cells at C1 C2 C3 HB
  dsimp only at C1 C2 C3 HB
  rw [← HM.out] at C1 C2 C3 HB
  generalize nn = rnp at *
  generalize RQ.length = rnq at *
  obtain ⟨z0, z1, z2, z3, z4, z5⟩ := six_of (HB.out x4 (Turn.refl _ _))
  clear HS
  go_region_held_law (fun w' => w'.cell? ⟨q, 0, none⟩ = some (.int .i64 rk) ∧ w'.cell? ⟨q, 1, none⟩ = some (.int .i64 rt) ∧ w'.cell? ⟨q, 2, none⟩ = some (.int .i64 rd) ∧ w'.cell? ⟨q, 3, none⟩ = some (.bool ry) ∧ w'.cell? ⟨q, 4, none⟩ = some (.slice a5 rnp c5) ∧ w'.cell? ⟨q, 5, none⟩ = some (.slice aq2 rnq cq2))
    (go_keep)
    (first
      | (go_at_call 31; ((with_reducible refine (C1.out _ (Turn.drew [] x4)).mono ?_); rintro e w3 ⟨rfl, t3⟩; have S3 := Lib.hid ((Turn.drew [] x4).trans t3 (by simp)); obtain ⟨f0, f1, f2, f3, f4, f5⟩ := six_of (HB.out w3 S3.out); clear t3))
      | (go_at_call 32; ((with_reducible refine (C2.out _ S3.out).mono ?_); rintro e w4 ⟨rfl, t4⟩; have S4 := Lib.hid (S3.out.trans t4 (by simp)); obtain ⟨g0, g1, g2, g3, g4, g5⟩ := six_of (HB.out w4 S4.out); clear t4))
      | (go_at_call 35; ((with_reducible refine (C3.out _ S4.out).mono ?_); rintro e w5 ⟨v1, v2, v3, rfl, hv, t5⟩; have S5 := Lib.hid (S4.out.trans t5 (by simp)); obtain ⟨i0, i1, i2, i3, i4, i5⟩ := six_of (HB.out w5 S5.out); have nt := fun wx : World => neq_nil wx v1 v2 v3 hv; clear t5 hv))
      | (go_at_call 32; ((with_reducible refine (C2.out _ S5.out).mono ?_); rintro e w6 ⟨rfl, t6⟩; have S6 := Lib.hid (S5.out.trans t6 (by simp)); obtain ⟨l0, l1, l2, l3, l4, l5⟩ := six_of (HB.out w6 S6.out); clear t6)))
  go_wp2
  go_ret
  refine ⟨ret_bool (by simp), ((T3.out.trans S6.out (by simp)).below ?_ (Nat.le_refl _))⟩
  intro i hi
  have := HQ.out
  simp at hi
  omega

set_option maxHeartbeats 8000000 in
set_option maxRecDepth 100000 in
theorem kindTurn_5 (F : RecFace) (a0 : RecV) (ap : Option Addr) (cp : Nat) (aq : Option Addr) (cq : Nat) {w : World} (wp : Il w ap cp a0.parts) (wq : Ps w aq cq a0.puts) (wk : okI a0.kind) (wt : okI a0.tid) (wi : okI a0.id)
    (a1 : Int) (a2 : Int) (h2 : okI a2) (hj : a1 % 7 = 5) :
    Calls Try.prog 6 #[.agg (a0.cells ap cp aq cq), .int .i64 a1, .int .i64 a2] w fun e w' => e = .returned (.bool true) ∧ Below w.heap.size w w' := by
  have m1 := tmod_turn a1 7 (by omega)
  have m2 := tmod_small a1 7 (by omega) (by omega)
  rw [hj] at m1
  have HWP := Lib.hid wp
  have HWQ := Lib.hid wq
  have H2 := Lib.hid h2
  have HF0 : Hid (a0.fit) := Lib.hid ⟨wk, wt, wi⟩
  obtain ⟨k, t, d, y, P, Q⟩ := a0
  clear wk wt wi wp wq hj h2
  have HC : Hid (∀ wx, Turn [] w wx → Calls Try.prog 30 #[.agg #[.int .i64 k, .int .i64 t, .int .i64 d, .bool y, .slice ap P.length cp, .slice aq Q.length cq]] wx fun e w' => ∃ ap' cp' aq' cq', e = .returned (.agg ((recCut ⟨k, t, d, y, P, Q⟩).cells ap' cp' aq' cq')) ∧ RowsOf wx w' (recCut ⟨k, t, d, y, P, Q⟩) ap' cp' aq' cq' ∧ Few (recCut ⟨k, t, d, y, P, Q⟩) ∧ Turn [] wx w') :=
    Lib.hid (fun wx tx => lawCut_calls ⟨k, t, d, y, P, Q⟩ (HWP.out.turn tx) (HWQ.out.turn tx) HF0.out)
  unfold RecV.cells
  dsimp only
  obtain ⟨np, hnp⟩ : ∃ n, n = P.length := ⟨_, rfl⟩
  obtain ⟨nq, hnq⟩ : ∃ n, n = Q.length := ⟨_, rfl⟩
  rw [← hnp, ← hnq] at HC
  rw [← hnp, ← hnq]
  clear hnp hnq HWP HWQ HF0
  obtain ⟨q, hq⟩ : ∃ q, q = w.heap.size := ⟨_, rfl⟩
  obtain ⟨x0, hx0⟩ : ∃ x0, x0 = w.alloc (.cells #[.int .i64 k, .int .i64 t, .int .i64 d, .bool y, .slice ap np cp, .slice aq nq cq] 38) := ⟨_, rfl⟩
  have t0 : Turn [] w x0 := by rw [hx0]; exact Turn.alloc [] w _
  have b0 : x0.heap[q]? = some (.cells #[.int .i64 k, .int .i64 t, .int .i64 d, .bool y, .slice ap np cp, .slice aq nq cq] 38) := by rw [hx0, hq]; exact heap_alloc_new w _
  have T0 := Lib.hid t0
  have B0 := Lib.hid b0
  clear t0 b0
  go_enter Try.func6, Try.ntmps6
  go_wp2_with fail
  rw [← hx0, ← hq]
  have HQ := Lib.hid hq
  clear hx0 hq
  refine (begun8_calls F _).mono ?_
  rintro e x1 ⟨rfl, t1'⟩
  have T1 := Lib.hid (T0.out.trans t1' (by simp))
  have b1 := t1'.heap B0.out (by simp)
  have B1 := Lib.hid b1
  obtain ⟨k0, k1', k2, k3, k4, k5⟩ := six_of b1
  clear t1' b1
  go_wp2_with fail
  refine (HC.out x1 T1.out).mono ?_
  rintro e x2 ⟨ap2, cp2, aq2, cq2, rfl, ho, hf, t2⟩
  have T2 := Lib.hid (T1.out.trans t2 (by simp))
  have b2 := t2.heap B1.out (by simp)
  have HO := Lib.hid ho
  have HF := Lib.hid hf
  have hqs : q < x1.heap.size := lt_of_heap B1.out
  have HQS := Lib.hid hqs
  obtain ⟨m0, m1', m2', m3, m4, m5⟩ := six_of b2
  have fr : ∀ j, x2.frozen? ⟨q, j, none⟩ = false := fun j => unfrozen_of b2
  have B2 := Lib.hid b2
  clear t2 b2 ho hf k0 k1' k2 k3 k4 k5 hqs
  generalize recCut ⟨k, t, d, y, P, Q⟩ = r at *
  obtain ⟨rk, rt, rd, ry, RP, RQ⟩ := r
  have t3 : Turn [q] x2 ((((((x2.setCell ⟨q, 0, none⟩ (.int .i64 rk)).setCell ⟨q, 1, none⟩ (.int .i64 rt)).setCell ⟨q, 2, none⟩ (.int .i64 rd)).setCell ⟨q, 3, none⟩ (.bool ry)).setCell ⟨q, 4, none⟩ (.slice ap2 RP.length cp2)).setCell ⟨q, 5, none⟩ (.slice aq2 RQ.length cq2)) := six_turn x2 q _ _ _ _ _ _
  have ho3 := HO.out.turn t3 (fun i hi => by have := HQS.out; simp at hi; omega)
  have b3 : ((((((x2.setCell ⟨q, 0, none⟩ (.int .i64 rk)).setCell ⟨q, 1, none⟩ (.int .i64 rt)).setCell ⟨q, 2, none⟩ (.int .i64 rd)).setCell ⟨q, 3, none⟩ (.bool ry)).setCell ⟨q, 4, none⟩ (.slice ap2 RP.length cp2)).setCell ⟨q, 5, none⟩ (.slice aq2 RQ.length cq2)).heap[q]? = some (.cells #[.int .i64 rk, .int .i64 rt, .int .i64 rd, .bool ry, .slice ap2 RP.length cp2, .slice aq2 RQ.length cq2] 38) := six_stores B2.out _ _ _ _ _ _
  have HR4 : Hid (Rw8 w ((((((x2.setCell ⟨q, 0, none⟩ (.int .i64 rk)).setCell ⟨q, 1, none⟩ (.int .i64 rt)).setCell ⟨q, 2, none⟩ (.int .i64 rd)).setCell ⟨q, 3, none⟩ (.bool ry)).setCell ⟨q, 4, none⟩ (.slice ap2 RP.length cp2)).setCell ⟨q, 5, none⟩ (.slice aq2 RQ.length cq2)) q ⟨rk, rt, rd, ry, RP, RQ⟩ ap2 cp2 aq2 cq2) := Lib.hid
    ⟨b3, ho3.il HF.out, ho3.ps HF.out, HF.out.fit, (T2.out.mono (l' := [q]) (fun i hi => by cases hi)).trans t3 (fun i hi => .inl hi)⟩
  unfold RecV.cells
  dsimp only
  have HWX := Lib.hid T1.out.size
  clear t3 ho3 b3 T0 T1 B0 B1 HC
  have HT4 : Hid (RowsOf x1 ((((((x2.setCell ⟨q, 0, none⟩ (.int .i64 rk)).setCell ⟨q, 1, none⟩ (.int .i64 rt)).setCell ⟨q, 2, none⟩ (.int .i64 rd)).setCell ⟨q, 3, none⟩ (.bool ry)).setCell ⟨q, 4, none⟩ (.slice ap2 RP.length cp2)).setCell ⟨q, 5, none⟩ (.slice aq2 RQ.length cq2)) ⟨rk, rt, rd, ry, RP, RQ⟩ ap2 cp2 aq2 cq2) := Lib.hid (HO.out.turn (six_turn x2 q _ _ _ _ _ _) (fun i hi => by have := HQS.out; simp at hi; omega))
  obtain ⟨x3, hx3⟩ : ∃ x3, x3 = (((((x2.setCell ⟨q, 0, none⟩ (.int .i64 rk)).setCell ⟨q, 1, none⟩ (.int .i64 rt)).setCell ⟨q, 2, none⟩ (.int .i64 rd)).setCell ⟨q, 3, none⟩ (.bool ry)).setCell ⟨q, 4, none⟩ (.slice ap2 RP.length cp2)).setCell ⟨q, 5, none⟩ (.slice aq2 RQ.length cq2) := ⟨_, rfl⟩
  have hsz : x3.heap.size = x2.heap.size := by rw [hx3]; simp [World.setCell]
  have HX3 := Lib.hid hx3
  rw [← hx3] at HT4 HR4
  obtain ⟨py, hpy⟩ : ∃ p : ByteArray × ByteArray, p = (⟨#[113]⟩, ⟨#[]⟩) := ⟨_, rfl⟩
  have SR4 : Hid (∀ t, (x3.alloc (.cells #[.string ⟨#[113]⟩, .string ⟨#[]⟩] t)).cell? ⟨x2.heap.size, 0, none⟩ = some (.string py.1) ∧ (x3.alloc (.cells #[.string ⟨#[113]⟩, .string ⟨#[]⟩] t)).cell? ⟨x2.heap.size, 1, none⟩ = some (.string py.2)) := Lib.hid (fun t => by rw [← hsz, hpy]; exact cell_new2 x3 _ _ t)
  have HPY : Hid (py.1.size ≤ 62 ∧ py.2.size ≤ 62) := Lib.hid (by rw [hpy]; decide +kernel)
  clear hx3 hsz hpy
  have hlen : RQ.length ≤ 1000000 := by have : RQ.length ≤ 12 := HF.out.puts; omega
  clear HO B2 T2
  go_wp2_with
    (at_builtin
     rw [← HX3.out]
     (refine append_put rfl (.tmp 47) (.tmp 49) rfl (.slice aq2 RQ.length cq2) RQ rfl (ownsRow_turn HT4.out.q (Turn.alloc [] x3 _) (fun _ _ => by simp)) x2.heap.size py rfl (SR4.out _).1 (SR4.out _).2 hlen ?_)
     intro v5 x5 o5 g5 l5
     obtain ⟨b5, a5, c5, hv, hs5⟩ := turn_append_put (r := ⟨rk, rt, rd, ry, RP, RQ⟩) HR4.out HT4.out HQS.out HWX.out HF.out HPY.out o5 g5 l5
     obtain ⟨nn, hm5⟩ : ∃ m, m = (RQ ++ [py]).length := ⟨_, rfl⟩
     rw [← hm5] at hv hs5
     subst hv
     have HS := Lib.hid hs5
     have HM := Lib.hid hm5
     have fr5 : ∀ j, x5.frozen? ⟨q, j, none⟩ = false := fun j => unfrozen_of b5
     obtain ⟨n0, n1, n2, n3, n4, n5⟩ := six_of b5
     clear hm5 b5 hs5
     clear o5 g5 l5 m0 m1' m2' m3 m4 m5 fr)
  obtain ⟨x4, hx4⟩ : ∃ x4, x4 = x5.setCell ⟨q, 5, none⟩ (.slice a5 nn c5) := ⟨_, rfl⟩
  rw [← hx4] at HS
  rw [← hx4]
  clear hx4
  have C1 := Lib.hid (fun wx (tx : Turn [] x4 wx) => kindRecord_calls ⟨rk, rt, rd, ry, RP, (RQ ++ [py])⟩ (HS.out.il.turn tx) (HS.out.ps.turn tx) HS.out.fit.2.1 HS.out.fit.2.2)
  have C2 := Lib.hid (fun wx (tx : Turn [] x4 wx) => refRecord_calls ⟨rk, rt, rd, ry, RP, (RQ ++ [py])⟩ (HS.out.il.turn tx) (HS.out.ps.turn tx))
  have C3 := Lib.hid (fun wx (tx : Turn [] x4 wx) => enc_is F ⟨rk, rt, rd, ry, RP, (RQ ++ [py])⟩ (HS.out.il.turn tx) (HS.out.ps.turn tx) HS.out.fit)
  have HB := Lib.hid (fun wx (tx : Turn [] x4 wx) => tx.heap HS.out.box (by simp))
  have T3 := Lib.hid HS.out.turn
  generalize recB ⟨rk, rt, rd, ry, RP, (RQ ++ [py])⟩ = r2 at C1 C2 C3
  unfold RecV.cells at C1 C2 C3 HB
  dsimp only at C1 C2 C3 HB
  rw [← HM.out] at C1 C2 C3 HB
  generalize RP.length = rnp at *
  generalize nn = rnq at *
  obtain ⟨z0, z1, z2, z3, z4, z5⟩ := six_of (HB.out x4 (Turn.refl _ _))
  clear HS
  go_region_held_law (fun w' => w'.cell? ⟨q, 0, none⟩ = some (.int .i64 rk) ∧ w'.cell? ⟨q, 1, none⟩ = some (.int .i64 rt) ∧ w'.cell? ⟨q, 2, none⟩ = some (.int .i64 rd) ∧ w'.cell? ⟨q, 3, none⟩ = some (.bool ry) ∧ w'.cell? ⟨q, 4, none⟩ = some (.slice ap2 rnp cp2) ∧ w'.cell? ⟨q, 5, none⟩ = some (.slice a5 rnq c5))
    (go_keep)
    (first
      | (go_at_call 31; ((with_reducible refine (C1.out _ (Turn.drew [] x4)).mono ?_); rintro e w3 ⟨rfl, t3⟩; have S3 := Lib.hid ((Turn.drew [] x4).trans t3 (by simp)); obtain ⟨f0, f1, f2, f3, f4, f5⟩ := six_of (HB.out w3 S3.out); clear t3))
      | (go_at_call 32; ((with_reducible refine (C2.out _ S3.out).mono ?_); rintro e w4 ⟨rfl, t4⟩; have S4 := Lib.hid (S3.out.trans t4 (by simp)); obtain ⟨g0, g1, g2, g3, g4, g5⟩ := six_of (HB.out w4 S4.out); clear t4))
      | (go_at_call 35; ((with_reducible refine (C3.out _ S4.out).mono ?_); rintro e w5 ⟨v1, v2, v3, rfl, hv, t5⟩; have S5 := Lib.hid (S4.out.trans t5 (by simp)); obtain ⟨i0, i1, i2, i3, i4, i5⟩ := six_of (HB.out w5 S5.out); have nt := fun wx : World => neq_nil wx v1 v2 v3 hv; clear t5 hv))
      | (go_at_call 32; ((with_reducible refine (C2.out _ S5.out).mono ?_); rintro e w6 ⟨rfl, t6⟩; have S6 := Lib.hid (S5.out.trans t6 (by simp)); obtain ⟨l0, l1, l2, l3, l4, l5⟩ := six_of (HB.out w6 S6.out); clear t6)))
  go_wp2
  go_ret
  refine ⟨ret_bool (by simp), ((T3.out.trans S6.out (by simp)).below ?_ (Nat.le_refl _))⟩
  intro i hi
  have := HQ.out
  simp at hi
  omega

set_option maxHeartbeats 8000000 in
set_option maxRecDepth 100000 in
theorem kindTurn_6 (F : RecFace) (a0 : RecV) (ap : Option Addr) (cp : Nat) (aq : Option Addr) (cq : Nat) {w : World} (wp : Il w ap cp a0.parts) (wq : Ps w aq cq a0.puts) (wk : okI a0.kind) (wt : okI a0.tid) (wi : okI a0.id)
    (a1 : Int) (a2 : Int) (h2 : okI a2) (hj : a1 % 7 = 6) :
    Calls Try.prog 6 #[.agg (a0.cells ap cp aq cq), .int .i64 a1, .int .i64 a2] w fun e w' => e = .returned (.bool true) ∧ Below w.heap.size w w' := by
  have m1 := tmod_turn a1 7 (by omega)
  have m2 := tmod_small a1 7 (by omega) (by omega)
  rw [hj] at m1
  have HWP := Lib.hid wp
  have HWQ := Lib.hid wq
  have H2 := Lib.hid h2
  have HF0 : Hid (a0.fit) := Lib.hid ⟨wk, wt, wi⟩
  obtain ⟨k, t, d, y, P, Q⟩ := a0
  clear wk wt wi wp wq hj h2
  have HC : Hid (∀ wx, Turn [] w wx → Calls Try.prog 30 #[.agg #[.int .i64 k, .int .i64 t, .int .i64 d, .bool y, .slice ap P.length cp, .slice aq Q.length cq]] wx fun e w' => ∃ ap' cp' aq' cq', e = .returned (.agg ((recCut ⟨k, t, d, y, P, Q⟩).cells ap' cp' aq' cq')) ∧ RowsOf wx w' (recCut ⟨k, t, d, y, P, Q⟩) ap' cp' aq' cq' ∧ Few (recCut ⟨k, t, d, y, P, Q⟩) ∧ Turn [] wx w') :=
    Lib.hid (fun wx tx => lawCut_calls ⟨k, t, d, y, P, Q⟩ (HWP.out.turn tx) (HWQ.out.turn tx) HF0.out)
  unfold RecV.cells
  dsimp only
  obtain ⟨np, hnp⟩ : ∃ n, n = P.length := ⟨_, rfl⟩
  obtain ⟨nq, hnq⟩ : ∃ n, n = Q.length := ⟨_, rfl⟩
  rw [← hnp, ← hnq] at HC
  rw [← hnp, ← hnq]
  clear hnp hnq HWP HWQ HF0
  obtain ⟨q, hq⟩ : ∃ q, q = w.heap.size := ⟨_, rfl⟩
  obtain ⟨x0, hx0⟩ : ∃ x0, x0 = w.alloc (.cells #[.int .i64 k, .int .i64 t, .int .i64 d, .bool y, .slice ap np cp, .slice aq nq cq] 38) := ⟨_, rfl⟩
  have t0 : Turn [] w x0 := by rw [hx0]; exact Turn.alloc [] w _
  have b0 : x0.heap[q]? = some (.cells #[.int .i64 k, .int .i64 t, .int .i64 d, .bool y, .slice ap np cp, .slice aq nq cq] 38) := by rw [hx0, hq]; exact heap_alloc_new w _
  have T0 := Lib.hid t0
  have B0 := Lib.hid b0
  clear t0 b0
  go_enter Try.func6, Try.ntmps6
  go_wp2_with fail
  rw [← hx0, ← hq]
  have HQ := Lib.hid hq
  clear hx0 hq
  refine (begun8_calls F _).mono ?_
  rintro e x1 ⟨rfl, t1'⟩
  have T1 := Lib.hid (T0.out.trans t1' (by simp))
  have b1 := t1'.heap B0.out (by simp)
  have B1 := Lib.hid b1
  obtain ⟨k0, k1', k2, k3, k4, k5⟩ := six_of b1
  clear t1' b1
  go_wp2_with fail
  refine (HC.out x1 T1.out).mono ?_
  rintro e x2 ⟨ap2, cp2, aq2, cq2, rfl, ho, hf, t2⟩
  have T2 := Lib.hid (T1.out.trans t2 (by simp))
  have b2 := t2.heap B1.out (by simp)
  have HO := Lib.hid ho
  have HF := Lib.hid hf
  have hqs : q < x1.heap.size := lt_of_heap B1.out
  have HQS := Lib.hid hqs
  obtain ⟨m0, m1', m2', m3, m4, m5⟩ := six_of b2
  have fr : ∀ j, x2.frozen? ⟨q, j, none⟩ = false := fun j => unfrozen_of b2
  have B2 := Lib.hid b2
  clear t2 b2 ho hf k0 k1' k2 k3 k4 k5 hqs
  generalize recCut ⟨k, t, d, y, P, Q⟩ = r at *
  obtain ⟨rk, rt, rd, ry, RP, RQ⟩ := r
  have t3 : Turn [q] x2 ((((((x2.setCell ⟨q, 0, none⟩ (.int .i64 rk)).setCell ⟨q, 1, none⟩ (.int .i64 rt)).setCell ⟨q, 2, none⟩ (.int .i64 rd)).setCell ⟨q, 3, none⟩ (.bool ry)).setCell ⟨q, 4, none⟩ (.slice ap2 RP.length cp2)).setCell ⟨q, 5, none⟩ (.slice aq2 RQ.length cq2)) := six_turn x2 q _ _ _ _ _ _
  have ho3 := HO.out.turn t3 (fun i hi => by have := HQS.out; simp at hi; omega)
  have b3 : ((((((x2.setCell ⟨q, 0, none⟩ (.int .i64 rk)).setCell ⟨q, 1, none⟩ (.int .i64 rt)).setCell ⟨q, 2, none⟩ (.int .i64 rd)).setCell ⟨q, 3, none⟩ (.bool ry)).setCell ⟨q, 4, none⟩ (.slice ap2 RP.length cp2)).setCell ⟨q, 5, none⟩ (.slice aq2 RQ.length cq2)).heap[q]? = some (.cells #[.int .i64 rk, .int .i64 rt, .int .i64 rd, .bool ry, .slice ap2 RP.length cp2, .slice aq2 RQ.length cq2] 38) := six_stores B2.out _ _ _ _ _ _
  have HR4 : Hid (Rw8 w ((((((x2.setCell ⟨q, 0, none⟩ (.int .i64 rk)).setCell ⟨q, 1, none⟩ (.int .i64 rt)).setCell ⟨q, 2, none⟩ (.int .i64 rd)).setCell ⟨q, 3, none⟩ (.bool ry)).setCell ⟨q, 4, none⟩ (.slice ap2 RP.length cp2)).setCell ⟨q, 5, none⟩ (.slice aq2 RQ.length cq2)) q ⟨rk, rt, rd, ry, RP, RQ⟩ ap2 cp2 aq2 cq2) := Lib.hid
    ⟨b3, ho3.il HF.out, ho3.ps HF.out, HF.out.fit, (T2.out.mono (l' := [q]) (fun i hi => by cases hi)).trans t3 (fun i hi => .inl hi)⟩
  unfold RecV.cells
  dsimp only
  have HWX := Lib.hid T1.out.size
  clear t3 ho3 b3 T0 T1 B0 B1 HC
  have HT4 : Hid (∀ i v, RowsOf x1 (((((((x2.setCell ⟨q, 0, none⟩ (.int .i64 rk)).setCell ⟨q, 1, none⟩ (.int .i64 rt)).setCell ⟨q, 2, none⟩ (.int .i64 rd)).setCell ⟨q, 3, none⟩ (.bool ry)).setCell ⟨q, 4, none⟩ (.slice ap2 RP.length cp2)).setCell ⟨q, 5, none⟩ (.slice aq2 RQ.length cq2)).setCell ⟨q, i, none⟩ v) ⟨rk, rt, rd, ry, RP, RQ⟩ ap2 cp2 aq2 cq2) := Lib.hid (fun i v => (HO.out.turn (six_turn x2 q _ _ _ _ _ _) (fun i hi => by have := HQS.out; simp at hi; omega)).turn (Turn.setCell (l := [q]) _ (by simp) v) (fun i hi => by have := HQS.out; simp at hi; omega))
  have HS := Lib.hid (HR4.out.set (r' := ⟨rk, rt, rd, ry, [], RQ⟩) (ap' := none) (cp' := 0) (aq' := aq2) (cq' := cq2) 4 (.slice none 0 0) rfl (.inl ⟨rfl, rfl, rfl⟩) ((HT4.out _ _).ps HF.out) HR4.out.fit)
  have fr2 := fr
  clear HT4 HR4 HO HF B2 T2
  go_wp2_with fail
  obtain ⟨x4, hx4⟩ : ∃ x4, x4 = ((((((x2.setCell ⟨q, 0, none⟩ (.int .i64 rk)).setCell ⟨q, 1, none⟩ (.int .i64 rt)).setCell ⟨q, 2, none⟩ (.int .i64 rd)).setCell ⟨q, 3, none⟩ (.bool ry)).setCell ⟨q, 4, none⟩ (.slice ap2 RP.length cp2)).setCell ⟨q, 5, none⟩ (.slice aq2 RQ.length cq2)).setCell ⟨q, 4, none⟩ (.slice none 0 0) := ⟨_, rfl⟩
  rw [← hx4] at HS
  rw [← hx4]
  clear hx4
  have C1 := Lib.hid (fun wx (tx : Turn [] x4 wx) => kindRecord_calls ⟨rk, rt, rd, ry, [], RQ⟩ (HS.out.il.turn tx) (HS.out.ps.turn tx) HS.out.fit.2.1 HS.out.fit.2.2)
  have C2 := Lib.hid (fun wx (tx : Turn [] x4 wx) => refRecord_calls ⟨rk, rt, rd, ry, [], RQ⟩ (HS.out.il.turn tx) (HS.out.ps.turn tx))
  have C3 := Lib.hid (fun wx (tx : Turn [] x4 wx) => enc_is F ⟨rk, rt, rd, ry, [], RQ⟩ (HS.out.il.turn tx) (HS.out.ps.turn tx) HS.out.fit)
  have HB := Lib.hid (fun wx (tx : Turn [] x4 wx) => tx.heap HS.out.box (by simp))
  have T3 := Lib.hid HS.out.turn
  generalize recB ⟨rk, rt, rd, ry, [], RQ⟩ = r2 at C1 C2 C3
  unfold RecV.cells at C1 C2 C3 HB
  dsimp only at C1 C2 C3 HB
  rw [List.length_nil] at C1 C2 C3 HB
  generalize RQ.length = rnq at *
  obtain ⟨z0, z1, z2, z3, z4, z5⟩ := six_of (HB.out x4 (Turn.refl _ _))
  clear HS
  go_region_held_law (fun w' => w'.cell? ⟨q, 0, none⟩ = some (.int .i64 rk) ∧ w'.cell? ⟨q, 1, none⟩ = some (.int .i64 rt) ∧ w'.cell? ⟨q, 2, none⟩ = some (.int .i64 rd) ∧ w'.cell? ⟨q, 3, none⟩ = some (.bool ry) ∧ w'.cell? ⟨q, 4, none⟩ = some (.slice none 0 0) ∧ w'.cell? ⟨q, 5, none⟩ = some (.slice aq2 rnq cq2))
    (go_keep)
    (first
      | (go_at_call 31; ((with_reducible refine (C1.out _ (Turn.drew [] x4)).mono ?_); rintro e w3 ⟨rfl, t3⟩; have S3 := Lib.hid ((Turn.drew [] x4).trans t3 (by simp)); obtain ⟨f0, f1, f2, f3, f4, f5⟩ := six_of (HB.out w3 S3.out); clear t3))
      | (go_at_call 32; ((with_reducible refine (C2.out _ S3.out).mono ?_); rintro e w4 ⟨rfl, t4⟩; have S4 := Lib.hid (S3.out.trans t4 (by simp)); obtain ⟨g0, g1, g2, g3, g4, g5⟩ := six_of (HB.out w4 S4.out); clear t4))
      | (go_at_call 35; ((with_reducible refine (C3.out _ S4.out).mono ?_); rintro e w5 ⟨v1, v2, v3, rfl, hv, t5⟩; have S5 := Lib.hid (S4.out.trans t5 (by simp)); obtain ⟨i0, i1, i2, i3, i4, i5⟩ := six_of (HB.out w5 S5.out); have nt := fun wx : World => neq_nil wx v1 v2 v3 hv; clear t5 hv))
      | (go_at_call 32; ((with_reducible refine (C2.out _ S5.out).mono ?_); rintro e w6 ⟨rfl, t6⟩; have S6 := Lib.hid (S5.out.trans t6 (by simp)); obtain ⟨l0, l1, l2, l3, l4, l5⟩ := six_of (HB.out w6 S6.out); clear t6)))
  go_wp2
  go_ret
  refine ⟨ret_bool (by simp), ((T3.out.trans S6.out (by simp)).below ?_ (Nat.le_refl _))⟩
  intro i hi
  have := HQ.out
  simp at hi
  omega

theorem kindTurn_walk (F : RecFace) (a0 : RecV) (ap : Option Addr) (cp : Nat) (aq : Option Addr) (cq : Nat) {w : World} (wp : Il w ap cp a0.parts) (wq : Ps w aq cq a0.puts) (wk : okI a0.kind) (wt : okI a0.tid) (wi : okI a0.id)
    (a1 : Int) (_w1 : (Lit.int .i64 a1).wf = true) (a2 : Int) (w2 : (Lit.int .i64 a2).wf = true) :
    Calls Try.prog 6 #[.agg (a0.cells ap cp aq cq), .int .i64 a1, .int .i64 a2] w fun e w' => e = .returned (.bool true) ∧ Below w.heap.size w w' := by
  have h2 : okI a2 := bounds_i64 w2
  rcases (by omega : a1 % 7 = 0 ∨ a1 % 7 = 1 ∨ a1 % 7 = 2 ∨ a1 % 7 = 3 ∨ a1 % 7 = 4 ∨ a1 % 7 = 5 ∨ a1 % 7 = 6) with h | h | h | h | h | h | h
  · exact kindTurn_0 F a0 ap cp aq cq wp wq wk wt wi a1 a2 h2 h
  · exact kindTurn_1 F a0 ap cp aq cq wp wq wk wt wi a1 a2 h2 h
  · exact kindTurn_2 F a0 ap cp aq cq wp wq wk wt wi a1 a2 h2 h
  · exact kindTurn_3 F a0 ap cp aq cq wp wq wk wt wi a1 a2 h2 h
  · exact kindTurn_4 F a0 ap cp aq cq wp wq wk wt wi a1 a2 h2 h
  · exact kindTurn_5 F a0 ap cp aq cq wp wq wk wt wi a1 a2 h2 h
  · exact kindTurn_6 F a0 ap cp aq cq wp wq wk wt wi a1 a2 h2 h

end Go.Proofs.Ytanjbbmgpodbgaa
