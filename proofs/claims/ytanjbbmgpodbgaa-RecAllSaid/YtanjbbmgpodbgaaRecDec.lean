/-
  The walk of rec's Decode.
-/
import Derived.Test.YtanjbbmgpodbgaaRecRd
namespace Go.Proofs.Ytanjbbmgpodbgaa
open Go.RowKit

theorem own_low {w : World} {ao : Option Addr} {n c s B : Nat} {e : TypeId} {xs : List Value} (h : w.ownsRow 0 e s (.slice ao n c) n xs) (hl : ∀ k, (Value.slice ao n c).ownBlock = some k → B ≤ k) : ∀ A, ao = some A → B ≤ A.block := by
  intro A hA
  rcases h.2 with ⟨hv, -⟩ | ⟨g, cap, cur, hv, -⟩
  · injection hv with e1 e2 e3
    rw [hA] at e1
    cases e1
  · injection hv with e1 e2 e3
    rw [hA] at e1
    injection e1 with e1
    subst e1
    exact hl g (by rw [hA]; rfl)

theorem rdTail_fit {k t : Int} (hk : okI k) (ht : okI t) (l : List UInt8) (bad : Bool) : (rdTail k t l bad).1.fit := by
  have hz : okI 0 := by unfold okI; omega
  unfold rdTail RecV.fit
  by_cases h2 : k = 2
  · rw [if_pos h2]; exact ⟨hk, ht, long_ok l bad⟩
  rw [if_neg h2]
  by_cases h5 : k = 5
  · rw [if_pos h5]; exact ⟨hk, ht, hz⟩
  rw [if_neg h5]
  by_cases h6 : k = 6 ∨ k = 8 ∨ k = 9
  · rw [if_pos h6]; exact ⟨hk, ht, hz⟩
  rw [if_neg h6]
  by_cases h7 : k = 4 ∨ k = 7
  · rw [if_pos h7]; exact ⟨hk, ht, hz⟩
  rw [if_neg h7]; exact ⟨hk, ht, hz⟩

theorem rdRec_fit (l : List UInt8) : (rdRec l).1.fit := by
  unfold rdRec
  have := small_lt l false
  exact rdTail_fit (by unfold okI; omega) (long_ok _ _) _ _

theorem rdTail_range (k t : Int) (l : List UInt8) (bad : Bool) : (∀ n ∈ (rdTail k t l bad).1.parts, 0 ≤ n ∧ n < 65536) ∧ (∀ p ∈ (rdTail k t l bad).1.puts, p.1.size < 65536 ∧ p.2.size < 65536) := by
  unfold rdTail
  by_cases h2 : k = 2
  · rw [if_pos h2]; exact ⟨by simp, by simp⟩
  rw [if_neg h2]
  by_cases h5 : k = 5
  · rw [if_pos h5]; exact ⟨by simp, by simp⟩
  rw [if_neg h5]
  by_cases h6 : k = 6 ∨ k = 8 ∨ k = 9
  · rw [if_pos h6]; exact ⟨(rdParts_range _ _ _).2, by simp⟩
  rw [if_neg h6]
  by_cases h7 : k = 4 ∨ k = 7
  · rw [if_pos h7]; exact ⟨by simp, (rdPuts_range _ _ _).2⟩
  rw [if_neg h7]; exact ⟨by simp, by simp⟩

theorem getD_mem {α : Type} {l : List α} {d : α} {i : Nat} (h : i < l.length) : l.getD i d ∈ l := by
  rw [show l.getD i d = l[i] by simp [List.getD, h]]
  exact List.getElem_mem h

theorem recNone_fit' : recNone.fit := by unfold RecV.fit okI recNone; simp

set_option maxHeartbeats 4000000 in
set_option maxRecDepth 100000 in
theorem decode_calls (l : List UInt8) (w : World) (ao : Option Addr) (c : Nat) (h : Sl w ao c l) :
    Calls Try.prog 38 #[.slice ao l.length c] w fun e w' => ∃ (x : RecV) (ap : Option Addr) (cp : Nat) (aq : Option Addr) (cq : Nat) (err : Int), e = .returned (.tuple #[.agg (x.cells ap cp aq cq), .int .i64 err]) ∧ Il w' ap cp x.parts ∧ Ps w' aq cq x.puts ∧ x.fit ∧
      (∀ A, ap = some A → w.heap.size ≤ A.block) ∧ (∀ A, aq = some A → w.heap.size ≤ A.block) ∧ Turn [] w w' ∧
      ((err = 0 ∧ recB x = true ∧ recBytes x = l) ∨ (err = 1 ∧ x = recNone ∧ ∀ r, recB r = true → recBytes r ≠ l)) := by
  have C1 : Hid (∀ o, Calls Try.prog 59 #[.slice ao l.length c] (w.alloc o) fun e w' => e = .returned (.pointer (some ⟨w.heap.size + 1, 0, none⟩)) ∧ InIs w' (w.heap.size + 1) l false ∧ Below (w.alloc o).heap.size (w.alloc o) w') := Lib.hid (fun o => by
    have := read_calls ao c l (w.alloc o) (h.belowAll (new_below w o))
    have hs : (w.alloc o).heap.size = w.heap.size + 1 := by simp
    rw [hs] at this ⊢
    exact this)
  have C2 := Lib.hid (fun wx h => read_calls8 (w.heap.size + 1) l wx h)
  have HF := Lib.hid (rdRec_fit l)
  have HRG : (∀ n ∈ (rdRec l).1.parts, 0 ≤ n ∧ n < 65536) ∧ (∀ p ∈ (rdRec l).1.puts, p.1.size < 65536 ∧ p.2.size < 65536) := rdTail_range _ _ _ _
  have HP : Hid (∀ n ∈ (rdRec l).1.parts, -9223372036854775808 ≤ n ∧ n ≤ 9223372036854775807) := Lib.hid (fun n hn => by have := HRG.1 n hn; omega)
  have HQ : Hid (∀ i, i < (rdRec l).1.puts.length → ((rdRec l).1.puts.getD i putNone).1.size ≤ 9223372036854775807 ∧ ((rdRec l).1.puts.getD i putNone).2.size ≤ 9223372036854775807) := Lib.hid (fun i hi => by have := HRG.2 _ (getD_mem (d := putNone) hi); omega)
  have HS := Lib.hid (rdRec_sound l)
  have HU : Hid (∀ r, recB r = true → recBytes r = l → rdRec l = (r, [], false)) := Lib.hid (fun r hr e => by rw [← e]; exact rdRec_full r hr)
  obtain ⟨⟨⟨kd, t, d, y, P, Q⟩, lx, bx⟩, hx⟩ : ∃ x, x = rdRec l := ⟨_, rfl⟩
  rw [← hx] at C2 HF HP HQ HS HU
  dsimp only at C2 HF HP HQ HS HU
  have CE := Lib.hid (fun wx h => end_calls (w.heap.size + 1) lx bx wx h)
  obtain ⟨n, hn⟩ : ∃ n, n = l.length := ⟨_, rfl⟩
  rw [← hn] at C1 ⊢
  clear h HRG hx hn
  go_enter Try.func38, Try.ntmps38
  go_wp2_with fail
  refine (C1.out _).mono ?_
  rintro e w1 ⟨rfl, i1, t1⟩
  have I1 := Lib.hid i1
  have T1 : Hid (Turn [] w w1) := Lib.hid ((Turn.alloc [] w _).trans (Turn.of_below t1 []) (by simp))
  have R1 := Lib.hid ((Turn.of_below t1 []).heap (heap_alloc_new w _) (by simp))
  clear i1 t1 C1
  go_wp2_with fail
  refine (C2.out _ I1.out).mono ?_
  rintro e w2 ⟨ap, cp, aq, cq, rfl, op, oq, lp, lq, i2, t2⟩
  have I2 := Lib.hid i2
  have OP := Lib.hid op
  have OQ := Lib.hid oq
  have S1 := Lib.hid (lt_of_heap R1.out)
  have LP : Hid (∀ k, (Value.slice ap P.length cp).ownBlock = some k → w.heap.size < k) := Lib.hid (fun k hk => by have := lp k hk; have := S1.out; omega)
  have LQ : Hid (∀ k, (Value.slice aq Q.length cq).ownBlock = some k → w.heap.size < k) := Lib.hid (fun k hk => by have := lq k hk; have := S1.out; omega)
  have T2 : Hid (Turn [] w w2) := Lib.hid (T1.out.trans t2 (fun i hi => .inr (by simp at hi; omega)))
  have R2 := Lib.hid (t2.heap R1.out (by simp))
  have CR : Hid (∀ wx, Turn [] w2 wx → Calls Try.prog 31 #[.agg ((RecV.mk kd t d y P Q).cells ap cp aq cq)] wx fun e w' => e = .returned (.bool (recB ⟨kd, t, d, y, P, Q⟩)) ∧ Turn [] wx w') := Lib.hid (fun wx tx =>
    kindRecord_calls ⟨kd, t, d, y, P, Q⟩ (own_il (ownsRow_turn OP.out tx (by simp)) HP.out) (own_ps (ownsRow_turn OQ.out tx (by simp)) HQ.out) HF.out.2.1 HF.out.2.2)
  have I3 : Hid (∀ o, InIs (w2.alloc o) (w.heap.size + 1) lx bx) := Lib.hid (fun o => I2.out.turn (Turn.alloc [] w2 o) (by simp))
  clear op oq lp lq i2 t2 C2 I1 T1 R1 S1
  obtain ⟨en, hen⟩ : ∃ en, en = (!bx && decide (lx = [])) := ⟨_, rfl⟩
  have HEN := Lib.hid hen
  rw [← hen] at CE
  clear hen
  unfold RecV.cells at CR ⊢
  dsimp only at CR ⊢
  obtain ⟨np, hnp⟩ : ∃ n, n = P.length := ⟨_, rfl⟩
  obtain ⟨nq, hnq⟩ : ∃ n, n = Q.length := ⟨_, rfl⟩
  rw [← hnp, ← hnq] at CR ⊢
  have HNP := Lib.hid hnp
  have HNQ := Lib.hid hnq
  clear hnp hnq
  cases en with
  | false =>
    have R3 := Lib.hid ((Turn.alloc [] w2 (.cells #[.int .i64 kd, .int .i64 t, .int .i64 d, .bool y, .slice ap np cp, .slice aq nq cq] 38)).heap R2.out (by simp))
    obtain ⟨W, hW⟩ : ∃ W, W = w2.alloc (.cells #[.int .i64 kd, .int .i64 t, .int .i64 d, .bool y, .slice ap np cp, .slice aq nq cq] 38) := ⟨_, rfl⟩
    have TW : Hid (Turn [] w W) := Lib.hid (by rw [hW]; exact T2.out.trans (Turn.alloc [] w2 _) (by simp))
    rw [← hW] at R3
    have z0 := cell_at (i := 0) R3.out rfl
    have z1 := cell_at (i := 1) R3.out rfl
    have z2 := cell_at (i := 2) R3.out rfl
    have z3 := cell_at (i := 3) R3.out rfl
    have z4 := cell_at (i := 4) R3.out rfl
    have z5 := cell_at (i := 5) R3.out rfl
    have fz : ∀ i, W.frozen? ⟨w.heap.size, i, none⟩ = false := fun i => unfrozen_of R3.out
    rw [hW] at z0 z1 z2 z3 z4 z5 fz
    have HW := Lib.hid hW
    clear hW
    go_wp2_with fail
    refine (CE.out _ (I3.out _)).mono ?_
    rintro e w3 ⟨rfl, rfl⟩
    go_wp2_with fail
    rw [← HW.out]
    refine bodyPost_ret_by (results_row_tmp rfl _ _ w.heap.size 38 _ (0, 0) _ rfl (six_stores' R3.out _ _ _ _ _ _) Try.underlying38 rfl recsize) rfl ?_
    refine ⟨recNone, none, 0, none, 0, 1, rfl, .inl ⟨rfl, rfl, rfl⟩, .inl ⟨rfl, rfl, rfl⟩, recNone_fit', (by intro A h; cases h), (by intro A h; cases h), TW.out.trans (six_turn' W w.heap.size _ _ _ _ _ _) (fun i hi => .inr (by simp at hi; omega)), .inr ⟨rfl, rfl, fun r hr e => ?_⟩⟩
    have := HU.out r hr e
    injection this with _ h2
    injection h2 with h2 h3
    have := HEN.out
    rw [h2, h3] at this
    simp at this
  | true =>
    have hend : bx = false ∧ lx = [] := by have := HEN.out; simpa using this.symm
    obtain ⟨hbx, hlx⟩ := hend
    subst hbx hlx
    have HBY := Lib.hid (HS.out rfl)
    have HUU : Hid (∀ r, recB r = true → recBytes r = l → recB ⟨kd, t, d, y, P, Q⟩ = true) := Lib.hid (fun r hr e => by
      have := HU.out r hr e
      injection this with h1 _
      rw [h1]; exact hr)
    have R3 : Hid (∀ w4, Turn [] (w2.alloc (.cells #[.int .i64 kd, .int .i64 t, .int .i64 d, .bool y, .slice ap np cp, .slice aq nq cq] 38)) w4 → w4.heap[w.heap.size]? = some (.cells #[.int .i64 0, .int .i64 0, .int .i64 0, .bool false, .slice none 0 0, .slice none 0 0] 38) ∧ w4.heap[w2.heap.size]? = some (.cells #[.int .i64 kd, .int .i64 t, .int .i64 d, .bool y, .slice ap np cp, .slice aq nq cq] 38) ∧ Turn [] w2 w4) := Lib.hid (fun w4 t4 =>
      ⟨t4.heap ((Turn.alloc [] w2 _).heap R2.out (by simp)) (by simp), t4.heap (heap_alloc_new w2 _) (by simp), (Turn.alloc [] w2 _).trans t4 (by simp)⟩)
    go_wp2_with fail
    refine (CE.out _ (I3.out _)).mono ?_
    rintro e w3 ⟨rfl, rfl⟩
    go_wp2_with fail
    refine (CR.out _ (Turn.alloc [] w2 _)).mono ?_
    rintro e w4 ⟨rfl, t4⟩
    obtain ⟨r3, r4, tt4⟩ := R3.out w4 t4
    have A3 := Lib.hid r3
    have A4 := Lib.hid tt4
    have TW := Lib.hid (T2.out.trans tt4 (by simp))
    have z0 := cell_at (i := 0) r3 rfl
    have z1 := cell_at (i := 1) r3 rfl
    have z2 := cell_at (i := 2) r3 rfl
    have z3 := cell_at (i := 3) r3 rfl
    have z4 := cell_at (i := 4) r3 rfl
    have z5 := cell_at (i := 5) r3 rfl
    have c0 := cell_at (i := 0) r4 rfl
    have c1 := cell_at (i := 1) r4 rfl
    have c2 := cell_at (i := 2) r4 rfl
    have c3 := cell_at (i := 3) r4 rfl
    have c4 := cell_at (i := 4) r4 rfl
    have c5 := cell_at (i := 5) r4 rfl
    have fz : ∀ i, w4.frozen? ⟨w.heap.size, i, none⟩ = false := fun i => unfrozen_of r3
    obtain ⟨rb, hrb⟩ : ∃ rb, rb = recB ⟨kd, t, d, y, P, Q⟩ := ⟨_, rfl⟩
    have HRB := Lib.hid hrb
    rw [← hrb]
    clear t4 r3 r4 tt4 CR CE hrb
    cases rb with
    | false =>
      go_wp2_with fail
      refine bodyPost_ret_by (results_row_tmp rfl _ _ w.heap.size 38 _ (0, 0) _ rfl (six_stores' A3.out _ _ _ _ _ _) Try.underlying38 rfl recsize) rfl ?_
      refine ⟨recNone, none, 0, none, 0, 1, rfl, .inl ⟨rfl, rfl, rfl⟩, .inl ⟨rfl, rfl, rfl⟩, recNone_fit', (by intro A h; cases h), (by intro A h; cases h), TW.out.trans (six_turn' w4 w.heap.size _ _ _ _ _ _) (fun i hi => .inr (by simp at hi; omega)), .inr ⟨rfl, rfl, fun r hr e => ?_⟩⟩
      have := HUU.out r hr e
      rw [← HRB.out] at this
      cases this
    | true =>
      go_wp2_with fail
      refine bodyPost_ret_by (results_row_tmp rfl _ _ w.heap.size 38 _ (0, 0) _ rfl (six_stores' A3.out _ _ _ _ _ _) Try.underlying38 rfl recsize) rfl ?_
      have ts := fun u0 u1 u2 u3 u4 u5 => (A4.out.mono (l' := [w.heap.size]) (by simp)).trans (six_turn' w4 w.heap.size u0 u1 u2 u3 u4 u5) (fun i hi => .inl hi)
      rw [HNP.out, HNQ.out]
      refine ⟨⟨kd, t, d, y, P, Q⟩, ap, cp, aq, cq, 0, rfl, own_il (ownsRow_turn OP.out (ts _ _ _ _ _ _) (fun k hk => by have := LP.out k hk; simp; omega)) HP.out, own_ps (ownsRow_turn OQ.out (ts _ _ _ _ _ _) (fun k hk => by have := LQ.out k hk; simp; omega)) HQ.out, HF.out,
        own_low OP.out (fun k hk => by have := LP.out k hk; omega), own_low OQ.out (fun k hk => by have := LQ.out k hk; omega), TW.out.trans (six_turn' w4 w.heap.size _ _ _ _ _ _) (fun i hi => .inr (by simp at hi; omega)), .inl ⟨rfl, HRB.out.symm, HBY.out⟩⟩

end Go.Proofs.Ytanjbbmgpodbgaa
