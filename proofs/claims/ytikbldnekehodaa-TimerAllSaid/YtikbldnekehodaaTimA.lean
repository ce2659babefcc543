/-
  A timer of numbers: All, Tick.
-/
import Derived.Test.YtikbldnekehodaaTimH
namespace Go.Proofs.Ytikbldnekehodaa.T
open Go.RowKit

set_option maxHeartbeats 2000000 in
set_option maxRecDepth 100000 in
/-- All: those who are there, in a row of its own. -/
theorem all_calls {w : World} {b : Nat} {most ticks : Int} {v : Value} {K : List (Int × Int)} (h : TimI w b most ticks v K) : Calls Try.prog 25 #[.pointer (some ⟨b, 0, none⟩)] w fun e w' =>
    e = .returned (.slice (some ⟨w.heap.size, 0, none⟩) K.length K.length) ∧ w'.ownsRow w.heap.size 3 1 (.slice (some ⟨w.heap.size, 0, none⟩) K.length K.length) K.length (K.map fun p => Value.int .i64 p.1) ∧ Below w.heap.size w w' := by
  obtain ⟨n, hn⟩ : ∃ n, n = K.length := ⟨_, rfl⟩
  have H := Lib.hid h
  have HN := Lib.hid hn
  have hfew := h.few
  obtain ⟨ao0, cp0, rfl, hle0, hmx0, -⟩ := ones_at h.row
  obtain ⟨c0, c1, c2⟩ := h.cells
  rw [← hn] at hfew c2 hle0 ⊢
  clear h hn
  have mk := make_ints w n (by omega)
  have c13 : (w.alloc (.cells (madeCells #[.int .i64 0] n) 3)).cell? ⟨b, 2, none⟩ = some (.slice ao0 n cp0) := (Turn.alloc [] w _).cell c2 (by simp)
  go_enter Try.func25, Try.ntmps25
  go_wp2_with fail
  obtain ⟨w3, hw3⟩ : ∃ w3, w3 = w.alloc (.cells (madeCells #[.int .i64 0] n) 3) := ⟨_, rfl⟩
  obtain ⟨q, hq⟩ : ∃ q, q = w.heap.size := ⟨_, rfl⟩
  have N3 : Hid (Below q w w3) := Lib.hid (by rw [hw3, hq]; exact (Turn.alloc [] w _).belowAll)
  have M3 : Hid (w3.ownsRow q 3 1 (.slice (some ⟨q, 0, none⟩) n n) n (firsts K n 0)) := Lib.hid (by
    rw [hw3, hq]
    refine ⟨by simp [firsts], .inr ⟨w.heap.size, n, madeCells #[.int .i64 0] n, rfl, Nat.le_refl _, heap_alloc_new w _, Nat.le_refl _, by unfold maxLen; omega, by simp [madeCells], ?_⟩⟩
    rw [toList_madeCells_one]
    simp [firsts])
  have HQ := Lib.hid hq
  rw [← hw3, ← hq]
  clear mk c1 c0 c2 c13 hw3 hq
  go_loopw [4, 18] (fun _ v18 wr => ∃ (k : Nat), k ≤ n ∧ v18 = .int .i64 (k : Int) ∧ wr.ownsRow q 3 1 (.slice (some ⟨q, 0, none⟩) n n) n (firsts K n k) ∧ Below q w wr) (fun _ v18 _ => n - (intOf v18).toNat)
  case atStart => exact ⟨0, by omega, rfl, M3.out, N3.out⟩
  case round =>
    obtain ⟨k, hk, rfl, hmd, hbel⟩ := hrel
    have HM := Lib.hid hmd
    have HB := Lib.hid hbel
    clear hmd hbel M3 N3
    by_cases hlt : k < n
    · have hkl : k < K.length := by rw [← HN.out]; exact hlt
      have hr := H.out.turn (Turn.of_below (by have h8 := HB.out; rw [HQ.out] at h8; exact h8) []) (by simp) (fun _ _ => by simp)
      obtain ⟨ao, cp, he, -, -, hat⟩ := ones_at hr.row
      obtain ⟨g, rfl, hk0, -⟩ := hat k hkl
      obtain ⟨d0, d1, d2⟩ := hr.cells
      rw [he, ← HN.out] at d2
      obtain ⟨x, hx⟩ : ∃ x, x = K[k].1 := ⟨_, rfl⟩
      rw [← hx] at hk0
      have hb : 0 ≤ (k : Int) ∧ (k : Int) < (n : Int) := by omega
      have hf5 := HM.out.frozenAt k
      obtain ⟨u, hu⟩ : ∃ u, wr.cell? ⟨q, k, none⟩ = some u := by
        rw [HM.out.cellAt k (by omega)]
        exact ⟨_, List.getElem?_eq_getElem (by have := HM.out.1; omega)⟩
      have M6 : Hid ((wr.setCell ⟨q, k, none⟩ (.int .i64 x)).ownsRow q 3 1 (.slice (some ⟨q, 0, none⟩) n n) n (firsts K n (k + 1))) := Lib.hid (by
        have h1 := (HM.out.stored k (.int .i64 x)).1
        rw [hx, HN.out, firsts_set hkl] at h1
        rw [hx, HN.out]
        exact h1)
      have B6 := Lib.hid (HB.out.setCell (p := ⟨q, k, none⟩) (Nat.le_refl _) (.int .i64 x))
      clear hr he hat hx HM
      go_wp2
      go_roundw
      case rel => exact ⟨k + 1, by omega, by go_num, M6.out, B6.out⟩
      case measure => simp [intOf]; omega
    · obtain rfl : k = n := by omega
      have r3 : ¬ (k : Int) < (k : Int) := by omega
      have HR : Hid (wr.ownsRow q 3 1 (.slice (some ⟨q, 0, none⟩) k k) k (K.map fun p => Value.int .i64 p.1)) := Lib.hid (by
        have h1 := HM.out
        have e : firsts K k k = K.map fun p => Value.int .i64 p.1 := by
          unfold firsts
          rw [Nat.sub_self, List.replicate_zero, List.append_nil, HN.out, List.take_length]
        rw [e] at h1
        exact h1)
      go_wp2
      go_ret
      rw [HQ.out] at HR HB
      rw [HQ.out]
      exact ⟨rfl, HR.out, HB.out⟩

theorem append_one {w : World} {ops : Array Oper} {rest : List Oper} {o : Oper} {a : Act} {Q : Exit → Act → World → Prop} (hgd : o.guard = none) (s x : Operand)
    (ho : o.op = .call { callee := .builtin .append, args := #[s, x], argTypes := #[28, 28] })
    (v : Value) (xs : List Value) (hs : a.eval s = v) (hown : w.ownsRow 0 3 1 v xs.length xs) (A : Nat) (y : Int) (hx : a.eval x = .slice (some ⟨A, 0, none⟩) 1 1) (hc : w.cell? ⟨A, 0, none⟩ = some (.int .i64 y))
    (hlen : xs.length ≤ 100000)
    (h : ∀ v' w', w'.ownsRow 0 3 1 v' (xs ++ [Value.int .i64 y]).length (xs ++ [Value.int .i64 y]) → w.grownBy w' v.ownBlock → (v'.ownBlock = v.ownBlock ∨ v'.ownBlock = some w.heap.size) → wpList Try.prog ops Q rest (a.put o.dst v') w') : wpList Try.prog ops Q (o :: rest) a w := by
  obtain ⟨i0, hi, hz0, hz1, hz2⟩ := info_parts Try.introw
  refine wpList_append_own_at w hgd s x 28 ho 0 3 i0 (.int .i64 0) 1 8 Try.underlying28 hi hz0 hz1 hz2 rfl (by decide) v xs.length xs hs hown ⟨A, 0, none⟩ 1 1 [.int .i64 y] hx (by simp)
    (fun j u hj => by
      match j, hj with
      | 0, hj => simp at hj; rw [← hj, Addr.add_lit]; exact hc
      | j + 1, hj => simp at hj) (by intro u hu; simp at hu; rw [hu]; rfl) (by unfold maxLen; omega) (by omega) (Nat.zero_le _) ?_
  intro v' w' hown' hg hn hloc
  exact h v' w' (by rw [List.length_append]; exact hown') hg hloc

/-- Who was silent for so long. -/
def silK (most t : Int) (K : List (Int × Int)) : List Value := (K.filter fun p => decide (most ≤ t - p.2)).map fun p => Value.int .i64 p.1

theorem silK_length (most t : Int) (K : List (Int × Int)) : (silK most t K).length ≤ K.length := by
  unfold silK
  rw [List.length_map]
  exact List.length_filter_le _ _

theorem silK_succ {most t : Int} {K : List (Int × Int)} {k : Nat} (h : k < K.length) : silK most t (K.take (k + 1)) = if most ≤ t - K[k].2 then silK most t (K.take k) ++ [.int .i64 K[k].1] else silK most t (K.take k) := by
  unfold silK
  rw [List.take_succ_eq_append_getElem h, List.filter_append, List.map_append]
  by_cases hc : most ≤ t - K[k].2
  · rw [if_pos hc, List.filter_cons_of_pos (by simpa using hc)]
    rfl
  · rw [if_neg hc, List.filter_cons_of_neg (by simpa using hc)]
    simp

set_option maxHeartbeats 4000000 in
set_option maxRecDepth 100000 in
/-- Tick. -/
theorem tick_calls {w : World} {b : Nat} {most ticks : Int} {v : Value} {K : List (Int × Int)} (h : TimI w b most ticks v K) (hti : ticks ≤ 999999) : Calls Try.prog 24 #[.pointer (some ⟨b, 0, none⟩)] w fun e w' =>
    ∃ sv, e = .returned sv ∧ w'.ownsRow 0 3 1 sv (silK most (ticks + 1) K).length (silK most (ticks + 1) K) ∧ (∀ q, sv.ownBlock = some q → w.heap.size ≤ q) ∧ TimI w' b most (ticks + 1) v K ∧ Turn [b] w w' := by
  obtain ⟨n, hn⟩ : ∃ n, n = K.length := ⟨_, rfl⟩
  have HN := Lib.hid hn
  obtain ⟨ao0, cp0, rfl, hle0, hmx0, -⟩ := ones_at h.row
  have htb := h.ti
  obtain ⟨w1, hw1⟩ : ∃ w1, w1 = w.setCell ⟨b, 1, none⟩ (.int .i64 (ticks + 1)) := ⟨_, rfl⟩
  have ts : Turn [b] w w1 := by rw [hw1]; exact Turn.setCell _ (by simp) _
  have h1 : TimI w1 b most (ticks + 1) (.slice ao0 K.length cp0) K := ⟨by rw [hw1, block_set h.head]; rfl, ownsRow_turn h.row ts (fun k hk hm => h.apart (by rw [hk, List.mem_singleton.1 hm])), h.apart, h.mo, by omega, fun p hp => by have := h.nums p hp; omega, h.few⟩
  obtain ⟨c0, c1, c2⟩ := h.cells
  have hfz : w.frozen? ⟨b, 1, none⟩ = false := unfrozen_of h.head
  have H1 := Lib.hid h1
  have T1 := Lib.hid ts
  have HW := Lib.hid hw1
  have hfew := h.few
  obtain ⟨t, ht⟩ : ∃ t, t = ticks + 1 := ⟨_, rfl⟩
  rw [← hn] at hfew c2 hle0
  rw [← ht]
  rw [← ht] at H1
  have htb2 : 0 ≤ t ∧ t ≤ 1000000 := by omega
  have hmo := h.mo
  unfold inI64 at hmo
  clear h h1 hn ts hw1 ht
  go_enter Try.func24, Try.ntmps24
  go_wp2_with fail
  rw [← HW.out]
  clear c0 c1 c2 hfz
  go_loopw [3, 19] (fun sv vk wx => ∃ k : Nat, k ≤ n ∧ vk = .int .i64 (k : Int) ∧ wx.ownsRow 0 3 1 sv (silK most t (K.take k)).length (silK most t (K.take k)) ∧ (∀ q, sv.ownBlock = some q → w1.heap.size ≤ q) ∧ Turn [] w1 wx) (fun _ vk _ => n - (intOf vk).toNat)
  case atStart => exact ⟨0, by omega, rfl, World.ownsRow_nil _ _ _ _, (by intro q e; cases e), Turn.refl _ _⟩
  case round =>
    obtain ⟨k, hk, rfl, hr, ho, ht⟩ := hrel
    have hx := H1.out.turn ht (by simp) (fun _ _ => by simp)
    have R := Lib.hid hr
    have O := Lib.hid ho
    have T := Lib.hid ht
    obtain ⟨d0, d1, d2⟩ := hx.cells
    rw [← HN.out] at d2
    by_cases hkn : k < n
    · have hkl : k < K.length := by rw [← HN.out]; exact hkn
      obtain ⟨ao, cp, he, -, -, hat⟩ := ones_at hx.row
      obtain ⟨g, rfl, hk0, hk1⟩ := hat k hkl
      simp only [Value.slice.injEq, true_and] at he
      obtain ⟨rfl, rfl⟩ := he
      have AC := Lib.hid (fun d => age_calls (hx.turn (Turn.drewN [] _ d) (by simp) (fun _ _ => by simp)) hkl)
      have hgd : K.getD k (0, 0) = K[k] := by simp [List.getD, hkl]
      rw [hgd] at AC
      have hsl := silK_length most t (K.take k)
      have hsl2 : (K.take k).length ≤ n := by rw [List.length_take]; omega
      have SC := silK_succ (most := most) (t := t) hkl
      obtain ⟨x, hxx⟩ : ∃ x, x = K[k].1 := ⟨_, rfl⟩
      obtain ⟨y, hyy⟩ : ∃ y, y = K[k].2 := ⟨_, rfl⟩
      rw [← hxx, ← hyy] at SC
      rw [← hyy] at AC
      rw [← hxx] at hk0
      obtain ⟨s, hs⟩ : ∃ s, s = silK most t (K.take k) := ⟨_, rfl⟩
      rw [← hs] at R SC hsl
      have HS := Lib.hid hs
      have hsl3 : s.length ≤ 100000 := by omega
      obtain ⟨a, ha⟩ : ∃ a, a = t - y := ⟨_, rfl⟩
      rw [← ha] at AC SC
      have hb : 0 ≤ (k : Int) ∧ (k : Int) < (n : Int) := by omega
      by_cases hm : most ≤ a
      · rw [if_pos hm] at SC
        have hSC := Lib.hid SC
        clear hr ho ht hx hat hxx hyy hs hsl hsl2 hk1 SC hgd ha
        go_wp2_with fail
        go_quiet ((go_at_call 55; exact Calls.quiet_of (AC.out _)))
        have RQ := Lib.hid (ownsRow_turn R.out (Turn.drewN [] wr nq) (fun _ _ => by simp))
        obtain ⟨wq, hwq⟩ : ∃ wq, wq = wr.drewN nq := ⟨_, rfl⟩
        have d0q : wq.cell? ⟨b, 0, none⟩ = some (.int .i64 most) := by rw [hwq]; exact d0
        have d2q : wq.cell? ⟨b, 2, none⟩ = some (.slice (some ⟨g, 0, none⟩) n cp0) := by rw [hwq]; exact d2
        have hk0q : wq.cell? ⟨g, k * 2, none⟩ = some (.int .i64 x) := by rw [hwq]; exact hk0
        have TQ := Lib.hid (T.out.trans (Turn.drewN [] wr nq) (by simp))
        rw [← hwq] at RQ TQ ⊢
        clear hwq R T AC d0 d1 d2 hk0
        go_wp2_with (at_builtin; refine append_one rfl (.tmp 30) (.tmp 39) rfl _ s rfl (ownsRow_turn RQ.out (Turn.alloc [] _ _) (fun _ _ => by simp)) wq.heap.size x rfl (cell_new _ _ _) hsl3 ?_; intro v2 w2 r2 g2 o2)
        have T2 : Turn [] w1 w2 := (TQ.out.trans (Turn.alloc [] _ _) (by simp)).trans (Turn.grown (l := _) g2 (fun k hk => .inl (Option.mem_toList.2 hk))) (fun q hq => .inr (O.out q (Option.mem_toList.1 hq)))
        have O2 : ∀ q, v2.ownBlock = some q → w1.heap.size ≤ q := fun q hq => by
          rcases o2 with e | e <;> rw [hq] at e
          · exact O.out q e.symm
          · cases e
            exact Nat.le_trans TQ.out.size (Turn.alloc [] _ _).size
        have T2H := Lib.hid T2
        have O2H := Lib.hid O2
        have R2H := Lib.hid r2
        clear T2 O2 r2 g2 o2
        go_roundw
        case rel => exact ⟨k + 1, by omega, by go_num, by rw [hSC.out]; exact R2H.out, O2H.out, T2H.out⟩
        case measure => simp [intOf]; omega
      · rw [if_neg hm] at SC
        have hSC := Lib.hid SC
        clear hr ho ht hx hat hxx hyy hs hsl hsl2 hk1 SC hgd ha
        go_wp2_with fail
        go_quiet ((go_at_call 55; exact Calls.quiet_of (AC.out _)))
        have RQ := Lib.hid (ownsRow_turn R.out (Turn.drewN [] wr nq) (fun _ _ => by simp))
        have TQ := Lib.hid (T.out.trans (Turn.drewN [] wr nq) (by simp))
        clear R T AC d0 d1 d2 hk0
        go_wp2
        go_roundw
        case rel => exact ⟨k + 1, by omega, by go_num, by rw [hSC.out]; exact RQ.out, O.out, TQ.out⟩
        case measure => simp [intOf]; omega
    · have hkn2 : k = n := by omega
      have hkl : K.take k = K := by rw [hkn2, HN.out, List.take_length]
      rw [hkl] at R
      have HX := Lib.hid hx
      clear hr ho ht hx
      go_wp2
      go_ret
      exact ⟨_, rfl, R.out, fun q hq => Nat.le_trans T1.out.size (O.out q hq), HX.out, T1.out.trans T.out (by simp)⟩

end Go.Proofs.Ytikbldnekehodaa.T
