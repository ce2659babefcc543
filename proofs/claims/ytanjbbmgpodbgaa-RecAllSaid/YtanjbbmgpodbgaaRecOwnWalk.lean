/-
  The walk of the law RecOwn.
-/
import Derived.Test.YtanjbbmgpodbgaaKindTurnWalk
namespace Go.Proofs.Ytanjbbmgpodbgaa
open Go.RowKit

theorem Il.turn2 {l : List Nat} {w w' : World} {ao : Option Addr} {c : Nat} {P : List Int} (h : Il w ao c P) (t : Turn l w w') (hn : ∀ A, ao = some A → A.block ∉ l) : Il w' ao c P := by
  rcases h with h | ⟨A, h1, h2, h3, h4, h5⟩
  · exact .inl h
  · exact .inr ⟨A, h1, h2, h3, fun i hi => t.cell (h4 i hi) (by rw [add_block]; exact hn A h1), h5⟩

theorem Ps.turn2 {l : List Nat} {w w' : World} {ao : Option Addr} {c : Nat} {Q : List (ByteArray × ByteArray)} (h : Ps w ao c Q) (t : Turn l w w') (hn : ∀ A, ao = some A → A.block ∉ l) : Ps w' ao c Q := by
  rcases h with h | ⟨A, h1, h2, h3, h4⟩
  · exact .inl h
  · exact .inr ⟨A, h1, h2, h3, fun i hi => ⟨t.cell (h4 i hi).1 (by rw [add_block]; exact hn A h1), t.cell (h4 i hi).2.1 (by rw [add_block, add_block]; exact hn A h1), (h4 i hi).2.2⟩⟩

/-- Cells of bytes that may be written. -/
def BR (w : World) (g n : Nat) : Prop := ∀ i, i < n → (∃ z, w.cell? ⟨g, i, none⟩ = some (.int .u8 z)) ∧ w.frozen? ⟨g, i, none⟩ = false

theorem BR.set {w : World} {g n : Nat} (h : BR w g n) {k : Nat} (hk : k < n) (z : Int) : BR (w.setCell ⟨g, k, none⟩ (.int .u8 z)) g n := by
  intro i hi
  obtain ⟨⟨y, hy⟩, hf⟩ := h i hi
  refine ⟨?_, by rw [World.frozen?_setCell]; exact hf⟩
  by_cases e : i = k
  · subst e
    exact ⟨z, World.cell?_setCell_same _ _ _ hy⟩
  · exact ⟨y, by rw [World.cell?_setCell_other _ _ _ _ (by intro h; injection h with _ h2; exact e h2.symm)]; exact hy⟩

theorem BR.turn {w w' : World} {l : List Nat} {g n : Nat} (h : BR w g n) (t : Turn l w w') (hg : g ∉ l) : BR w' g n := by
  intro i hi
  obtain ⟨⟨y, hy⟩, hf⟩ := h i hi
  have hb := t.block g (World.block_lt_of_cell? _ _ hy) hg
  exact ⟨⟨y, t.cell hy hg⟩, (World.frozen?_of_block (a := ⟨g, i, none⟩) hb).trans hf⟩

theorem BR.of_own {w : World} {B g c : Nat} {l : List UInt8} (h : w.ownsRow B 5 1 (.slice (some ⟨g, 0, none⟩) l.length c) l.length (u8s l)) : BR w g l.length := by
  intro i hi
  refine ⟨⟨_, (h.cellAt i (by omega)).trans (u8s_at hi)⟩, h.frozenAt i⟩

/-- What Encode answers, as a row. -/
theorem enc_row (F : RecFace) (r : RecV) {w : World} {ap aq : Option Addr} {cp cq : Nat} (hp : Il w ap cp r.parts) (hq : Ps w aq cq r.puts) (hf : r.fit) :
    Calls Try.prog 35 #[.agg (r.cells ap cp aq cq)] w fun e w' => Turn [] w w' ∧ ((recB r = true ∧ ∃ g c, e = .returned (.slice (some ⟨g, 0, none⟩) (recBytes r).length c) ∧ w.heap.size ≤ g ∧ w'.ownsRow w.heap.size 5 1 (.slice (some ⟨g, 0, none⟩) (recBytes r).length c) (recBytes r).length (u8s (recBytes r))) ∨ (recB r = false ∧ e = .returned (.slice none 0 0))) := by
  refine (F.enc r w ap cp aq cq hp hq hf).mono ?_
  rintro e w' ⟨v, rfl, h1, h2, t⟩
  refine ⟨t, ?_⟩
  cases hr : recB r with
  | false => exact .inr ⟨rfl, by rw [h2 hr]⟩
  | true =>
    have hl := recBytes_long r
    have ho := h1 hr
    rcases ho.2 with ⟨hv, h0⟩ | ⟨g, c, cur, hv, hg, _⟩
    · omega
    · subst hv
      exact .inl ⟨rfl, g, c, rfl, hg, ho⟩

set_option maxHeartbeats 8000000 in
set_option maxRecDepth 100000 in
theorem recOwn_walk (F : RecFace) (a0 : RecV) (ap : Option Addr) (cp : Nat) (aq : Option Addr) (cq : Nat) {w : World} (wp : Il w ap cp a0.parts) (wq : Ps w aq cq a0.puts) (wk : okI a0.kind) (wt : okI a0.tid) (wi : okI a0.id) :
    Calls Try.prog 9 #[.agg (a0.cells ap cp aq cq)] w fun e w' => e = .returned (.bool true) ∧ Below w.heap.size w w' := by
  have HWP := Lib.hid wp
  have HWQ := Lib.hid wq
  have HF0 : Hid (a0.fit) := Lib.hid ⟨wk, wt, wi⟩
  obtain ⟨k, t, d, y, P, Q⟩ := a0
  clear wk wt wi wp wq
  have HC : Hid (∀ wx, Turn [] w wx → Calls Try.prog 30 #[.agg #[.int .i64 k, .int .i64 t, .int .i64 d, .bool y, .slice ap P.length cp, .slice aq Q.length cq]] wx fun e w' => ∃ ap' cp' aq' cq', e = .returned (.agg ((recCut ⟨k, t, d, y, P, Q⟩).cells ap' cp' aq' cq')) ∧ RowsOf wx w' (recCut ⟨k, t, d, y, P, Q⟩) ap' cp' aq' cq' ∧ Few (recCut ⟨k, t, d, y, P, Q⟩) ∧ Turn [] wx w') :=
    Lib.hid (fun wx tx => lawCut_calls ⟨k, t, d, y, P, Q⟩ (HWP.out.turn tx) (HWQ.out.turn tx) HF0.out)
  unfold RecV.cells
  dsimp only
  obtain ⟨np, hnp⟩ : ∃ n, n = P.length := ⟨_, rfl⟩
  obtain ⟨nq, hnq⟩ : ∃ n, n = Q.length := ⟨_, rfl⟩
  rw [← hnp, ← hnq] at HC
  rw [← hnp, ← hnq]
  clear hnp hnq HWP HWQ HF0
  obtain ⟨q, hq⟩ : ∃ q, q = w.heap.size := ⟨_, rfl⟩
  obtain ⟨x0, hx0⟩ : ∃ x0, x0 = w.alloc (.cells #[.int .i64 k, .int .i64 t, .int .i64 d, .bool y, .slice ap np cp, .slice aq nq cq] 38) := ⟨_, rfl⟩
  have t0 : Turn [] w x0 := by rw [hx0]; exact Turn.alloc [] w _
  have b0 : x0.heap[q]? = some (.cells #[.int .i64 k, .int .i64 t, .int .i64 d, .bool y, .slice ap np cp, .slice aq nq cq] 38) := by rw [hx0, hq]; exact heap_alloc_new w _
  have T0 := Lib.hid t0
  have B0 := Lib.hid b0
  clear t0 b0
  go_enter Try.func9, Try.ntmps9
  go_wp2_with fail
  rw [← hx0, ← hq]
  have HQ := Lib.hid hq
  clear hx0 hq
  refine (begun8_calls F _).mono ?_
  rintro e x1 ⟨rfl, t1'⟩
  have T1 := Lib.hid (T0.out.trans t1' (by simp))
  have b1 := t1'.heap B0.out (by simp)
  have B1 := Lib.hid b1
  obtain ⟨k0, k1', k2, k3, k4, k5⟩ := six_of b1
  clear t1' b1
  go_wp2_with fail
  refine (HC.out x1 T1.out).mono ?_
  rintro e x2 ⟨ap2, cp2, aq2, cq2, rfl, ho, hf, t2⟩
  have T2 := Lib.hid (T1.out.trans t2 (by simp))
  have b2 := t2.heap B1.out (by simp)
  have HO := Lib.hid ho
  have HF := Lib.hid hf
  have hqs : q < x1.heap.size := lt_of_heap B1.out
  have HQS := Lib.hid hqs
  obtain ⟨m0, m1', m2', m3, m4, m5⟩ := six_of b2
  have fr : ∀ j, x2.frozen? ⟨q, j, none⟩ = false := fun j => unfrozen_of b2
  have B2 := Lib.hid b2
  clear t2 b2 ho hf k0 k1' k2 k3 k4 k5 hqs
  generalize recCut ⟨k, t, d, y, P, Q⟩ = r at *
  obtain ⟨rk, rt, rd, ry, RP, RQ⟩ := r
  unfold RecV.cells
  dsimp only
  go_wp2_with fail
  obtain ⟨x3, hx3⟩ : ∃ x3, x3 = (((((x2.setCell ⟨q, 0, none⟩ (.int .i64 rk)).setCell ⟨q, 1, none⟩ (.int .i64 rt)).setCell ⟨q, 2, none⟩ (.int .i64 rd)).setCell ⟨q, 3, none⟩ (.bool ry)).setCell ⟨q, 4, none⟩ (.slice ap2 RP.length cp2)).setCell ⟨q, 5, none⟩ (.slice aq2 RQ.length cq2) := ⟨_, rfl⟩
  rw [← hx3]
  have t3 : Turn [q] x2 x3 := by rw [hx3]; exact six_turn x2 q _ _ _ _ _ _
  have ho3 := HO.out.turn t3 (fun i hi => by have := HQS.out; simp at hi; omega)
  have b3 : x3.heap[q]? = some (.cells #[.int .i64 rk, .int .i64 rt, .int .i64 rd, .bool ry, .slice ap2 RP.length cp2, .slice aq2 RQ.length cq2] 38) := by rw [hx3]; exact six_stores B2.out _ _ _ _ _ _
  have HS : Hid (Rw8 w x3 q ⟨rk, rt, rd, ry, RP, RQ⟩ ap2 cp2 aq2 cq2) := Lib.hid
    ⟨b3, ho3.il HF.out, ho3.ps HF.out, HF.out.fit, (T2.out.mono (l' := [q]) (fun i hi => by cases hi)).trans t3 (fun i hi => .inl hi)⟩
  clear t3 ho3 b3 hx3 T0 T1 T2 B0 B1 B2 HC HO HQS fr m0 m1' m2' m3 m4 m5
  have CE := Lib.hid (enc_row F ⟨rk, rt, rd, ry, RP, RQ⟩ HS.out.il HS.out.ps HS.out.fit)
  have HB := Lib.hid (fun wx (tx : Turn [] x3 wx) => tx.heap HS.out.box (by simp))
  have HIP := Lib.hid (fun wx (tx : Turn [] x3 wx) => (And.intro (HS.out.il.turn tx) (HS.out.ps.turn tx)))
  have T3 := Lib.hid HS.out.turn
  obtain ⟨r, hr⟩ : ∃ r : RecV, r = ⟨rk, rt, rd, ry, RP, RQ⟩ := ⟨_, rfl⟩
  have HR : Hid (r.parts = RP ∧ r.puts = RQ) := Lib.hid (by rw [hr]; exact ⟨rfl, rfl⟩)
  have HCS : Hid (∀ a b c d, r.cells a b c d = #[.int .i64 rk, .int .i64 rt, .int .i64 rd, .bool ry, .slice a RP.length b, .slice c RQ.length d]) := Lib.hid (by rw [hr]; intros; rfl)
  rw [← hr] at CE
  rw [HCS.out] at CE
  unfold RecV.cells at HB
  dsimp only at HB
  have HIP2 : Hid (∀ wx, Turn [] x3 wx → Il wx ap2 cp2 r.parts ∧ Ps wx aq2 cq2 r.puts) := Lib.hid (by rw [hr]; exact HIP.out)
  clear hr HS HIP HF HR
  generalize RP.length = rnp at *
  generalize RQ.length = rnq at *
  refine CE.out.mono ?_
  rintro e x4 ⟨t4, ⟨hb, g, c, rfl, hg, ho⟩ | ⟨hb, rfl⟩⟩
  · have T4 := Lib.hid t4
    have HG : Hid (x3.heap.size ≤ g ∧ g < x4.heap.size) := Lib.hid ⟨hg, (ho.lt g rfl).2⟩
    have hsl : Sl x4 (some ⟨g, 0, none⟩) c (recBytes r) := by
      obtain ⟨a, cc, e1, e2, _⟩ := Sl.of_owns ho
      injection e1 with e3 e4 e5
      subst e3 e5
      exact e2
    have CD := Lib.hid (F.dec (recBytes r) x4 (some ⟨g, 0, none⟩) c hsl)
    have HBR := Lib.hid (BR.of_own ho)
    have HIN : Hid (∀ x, recB x = true → recBytes x = recBytes r → x = r) := Lib.hid (fun x h1 h2 => recBytes_inj h1 hb h2)
    have HNO : Hid (¬ ∀ x, recB x = true → recBytes x ≠ recBytes r) := Lib.hid (fun h => h r hb rfl)
    have hlen : ((recBytes r).length : Int) ≤ 9223372036854775807 := by
      have := hsl.le
      unfold maxLen at this
      omega
    have hpos : (0 : Int) < ((recBytes r).length : Int) := by have := recBytes_long r; omega
    obtain ⟨n, hn⟩ : ∃ n, n = (recBytes r).length := ⟨_, rfl⟩
    rw [← hn] at HBR hlen hpos ⊢
    rw [← hn] at CD
    have nt := nil_test x4 (some ⟨g, 0, none⟩) n c
    clear t4 hg ho hsl hn hb CE
    go_wp2_with fail
    refine CD.out.mono ?_
    rintro e x5 ⟨x, ap5, cp5, aq5, cq5, err, rfl, hp5, hq5, -, lp5, lq5, t5, hx⟩
    have hx2 : err = 0 ∧ x = r := by
      rcases hx with ⟨h1, h2, h3⟩ | ⟨h1, h2, h3⟩
      · exact ⟨h1, HIN.out x h2 h3⟩
      · exact absurd h3 HNO.out
    obtain ⟨rfl, rfl⟩ := hx2
    have T5 := Lib.hid (T4.out.trans t5 (by simp))
    have R5 := Lib.hid (HBR.out.turn t5 (by simp))
    have HP5 := Lib.hid hp5
    have HQ5 := Lib.hid hq5
    have LP5 := Lib.hid lp5
    have LQ5 := Lib.hid lq5
    have HS5 := Lib.hid t5.size
    clear CD hx t5 hp5 hq5 lp5 lq5 HBR HIN HNO T4
    rw [HCS.out]
    go_wp2_with fail
    obtain ⟨q5, hq5⟩ : ∃ q5, q5 = x5.heap.size := ⟨_, rfl⟩
    obtain ⟨x6, hx6⟩ : ∃ x6, x6 = x5.alloc (.cells #[.int .i64 rk, .int .i64 rt, .int .i64 rd, .bool ry, .slice ap5 rnp cp5, .slice aq5 rnq cq5] 38) := ⟨_, rfl⟩
    have t6 : Turn [] x5 x6 := by rw [hx6]; exact Turn.alloc [] x5 _
    have b6 : x6.heap[q5]? = some (.cells #[.int .i64 rk, .int .i64 rt, .int .i64 rd, .bool ry, .slice ap5 rnp cp5, .slice aq5 rnq cq5] 38) := by rw [hx6, hq5]; exact heap_alloc_new x5 _
    rw [← hx6, ← hq5]
    have T6 := Lib.hid (T5.out.trans t6 (by simp))
    have R6 := Lib.hid (R5.out.turn t6 (by simp))
    have B6 := Lib.hid b6
    have HGQ : Hid (g ≠ q5) := Lib.hid (by have := HG.out.2; have := HS5.out; omega)
    have P6 := Lib.hid (HP5.out.turn t6)
    have Q6 := Lib.hid (HQ5.out.turn t6)
    clear hx6 hq5 t6 b6 T5 R5 HP5 HQ5 HS5
    go_loopw [27] (fun i wr => ∃ k : Nat, k ≤ n ∧ i = .int .i64 (k : Int) ∧ BR wr g n ∧ Turn [g] x6 wr) (fun i _ => n - (intOf i).toNat)
    case atStart => exact ⟨0, by omega, rfl, R6.out, Turn.refl _ _⟩
    case round =>
      obtain ⟨k, hk, rfl, hbr, htr⟩ := hrel
      have HBR := Lib.hid hbr
      have HTR := Lib.hid htr
      clear hbr htr
      by_cases hkn : k < n
      · obtain ⟨⟨z, hz⟩, hf⟩ := HBR.out k hkn
        have r1 : 0 ≤ (k : Int) ∧ (k : Int) < (n : Int) := by omega
        go_wp2
        go_roundw
        case rel => exact ⟨k + 1, by omega, by go_num, HBR.out.set hkn _, HTR.out.trans (Turn.setCell wr (by simp) _) (fun i hi => .inl hi)⟩
        case measure => simp [intOf]; omega
      · have r1 : ¬ (k : Int) < (n : Int) := by omega
        have TT : Hid (Turn [] x3 wr) := Lib.hid (T6.out.trans HTR.out (fun i hi => .inr (by have := HG.out.1; simp at hi; omega)))
        have hi1 := HIP2.out wr TT.out
        have hi2 := P6.out.turn2 HTR.out (fun A hA hm => by have := LP5.out A hA; have := HG.out.2; simp at hm; omega)
        have hi3 := Q6.out.turn2 HTR.out (fun A hA hm => by have := LQ5.out A hA; have := HG.out.2; simp at hm; omega)
        have CQ := Lib.hid (eqRecord_calls x x hi2 hi3 hi1.1 hi1.2)
        rw [HCS.out, HCS.out, (eqRecB_iff x x).2 rfl] at CQ
        obtain ⟨z0, z1, z2, z3, z4, z5⟩ := six_of (HB.out wr TT.out)
        obtain ⟨y0, y1, y2, y3, y4, y5⟩ := six_of (HTR.out.heap B6.out (fun hm => by have := HGQ.out; simp at hm; omega))
        clear hi1 hi2 hi3 hk hkn
        go_wp2_with fail
        refine CQ.out.mono ?_
        rintro e x7 ⟨rfl, t7⟩
        have T7 := Lib.hid ((T3.out.trans TT.out (by simp)).trans t7 (by simp))
        clear t7 z0 z1 z2 z3 z4 z5 y0 y1 y2 y3 y4 y5
        go_wp2
        go_ret
        refine ⟨rfl, T7.out.below ?_ (Nat.le_refl _)⟩
        intro i hi
        have := HQ.out
        simp at hi
        omega
  · have T4 := Lib.hid t4
    obtain ⟨y0, y1, y2, y3, y4, y5⟩ := six_of (HB.out x4 t4)
    have CQ := Lib.hid (refRecord_calls r (HIP2.out x4 t4).1 (HIP2.out x4 t4).2)
    rw [HCS.out, hb] at CQ
    have nt := nil_test x4 none 0 0
    clear t4 CE
    go_wp2_with fail
    refine CQ.out.mono ?_
    rintro e x7 ⟨rfl, t7⟩
    have T7 := Lib.hid ((T3.out.trans T4.out (by simp)).trans t7 (by simp))
    clear t7 y0 y1 y2 y3 y4 y5
    go_wp2
    go_ret
    refine ⟨rfl, T7.out.below ?_ (Nat.le_refl _)⟩
    intro i hi
    have := HQ.out
    simp at hi
    omega

end Go.Proofs.Ytanjbbmgpodbgaa
