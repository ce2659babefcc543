/-
  A timer of int64s: All, Tick.
-/
import Derived.Test.YtikbldnekehodaaLTimH
namespace Go.Proofs.Ytikbldnekehodaa.L
open Go.RowKit

theorem Try.introw : (Try.prog.info? 2).map (fun i => (i.zero, i.size, i.bytes)) = some (some (.int .i64 0), 1, 8) := by kernel_rfl

theorem append_one {w : World} {ops : Array Oper} {rest : List Oper} {o : Oper} {a : Act} {Q : Exit → Act → World → Prop} (hgd : o.guard = none) (s x : Operand)
    (ho : o.op = .call { callee := .builtin .append, args := #[s, x], argTypes := #[62, 62] })
    (v : Value) (xs : List Value) (hs : a.eval s = v) (hown : w.ownsRow 0 2 1 v xs.length xs) (A : Nat) (y : Int) (hx : a.eval x = .slice (some ⟨A, 0, none⟩) 1 1) (hc : w.cell? ⟨A, 0, none⟩ = some (.int .i64 y))
    (hlen : xs.length ≤ 100000)
    (h : ∀ v' w', w'.ownsRow 0 2 1 v' (xs ++ [Value.int .i64 y]).length (xs ++ [Value.int .i64 y]) → w.grownBy w' v.ownBlock → (v'.ownBlock = v.ownBlock ∨ v'.ownBlock = some w.heap.size) → wpList Try.prog ops Q rest (a.put o.dst v') w') : wpList Try.prog ops Q (o :: rest) a w := by
  obtain ⟨i0, hi, hz0, hz1, hz2⟩ := info_parts Try.introw
  refine wpList_append_own_at w hgd s x 62 ho 0 2 i0 (.int .i64 0) 1 8 Try.underlying62 hi hz0 hz1 hz2 rfl (by decide) v xs.length xs hs hown ⟨A, 0, none⟩ 1 1 [.int .i64 y] hx (by simp)
    (fun j u hj => by
      match j, hj with
      | 0, hj => simp at hj; rw [← hj, Addr.add_lit]; exact hc
      | j + 1, hj => simp at hj) (by intro u hu; simp at hu; rw [hu]; rfl) (by unfold maxLen; omega) (by omega) (Nat.zero_le _) ?_
  intro v' w' hown' hg hn hloc
  exact h v' w' (by rw [List.length_append]; exact hown') hg hloc

/-- Who was silent for so long. -/
def silK (most t : Int) (K : List (Int × Int)) : List Value := (K.filter fun p => decide (most ≤ t - p.2)).map fun p => Value.int .i64 p.1

theorem silK_length (most t : Int) (K : List (Int × Int)) : (silK most t K).length ≤ K.length := by
  unfold silK
  rw [List.length_map]
  exact List.length_filter_le _ _

theorem silK_succ {most t : Int} {K : List (Int × Int)} {k : Nat} (h : k < K.length) : silK most t (K.take (k + 1)) = if most ≤ t - K[k].2 then silK most t (K.take k) ++ [.int .i64 K[k].1] else silK most t (K.take k) := by
  unfold silK
  rw [List.take_succ_eq_append_getElem h, List.filter_append, List.map_append]
  by_cases hc : most ≤ t - K[k].2
  · rw [if_pos hc, List.filter_cons_of_pos (by simpa using hc)]
    rfl
  · rw [if_neg hc, List.filter_cons_of_neg (by simpa using hc)]
    simp

set_option maxHeartbeats 4000000 in
set_option maxRecDepth 100000 in
/-- Tick. -/
theorem tick_calls {w : World} {b : Nat} {most ticks : Int} {v : Value} {K : List (Int × Int)} (h : TimI w b most ticks v K) (hti : ticks ≤ 999999) : Calls Try.prog 43 #[.pointer (some ⟨b, 0, none⟩)] w fun e w' =>
    ∃ sv, e = .returned sv ∧ w'.ownsRow 0 2 1 sv (silK most (ticks + 1) K).length (silK most (ticks + 1) K) ∧ (∀ q, sv.ownBlock = some q → w.heap.size ≤ q) ∧ TimI w' b most (ticks + 1) v K ∧ Turn [b] w w' := by
  obtain ⟨n, hn⟩ : ∃ n, n = K.length := ⟨_, rfl⟩
  have HN := Lib.hid hn
  obtain ⟨ao0, cp0, rfl, hle0, hmx0, -⟩ := ones_at h.row
  have htb := h.ti
  obtain ⟨w1, hw1⟩ : ∃ w1, w1 = w.setCell ⟨b, 1, none⟩ (.int .i64 (ticks + 1)) := ⟨_, rfl⟩
  have ts : Turn [b] w w1 := by rw [hw1]; exact Turn.setCell _ (by simp) _
  have h1 : TimI w1 b most (ticks + 1) (.slice ao0 K.length cp0) K := ⟨by rw [hw1, block_set h.head]; rfl, ownsRow_turn h.row ts (fun k hk hm => h.apart (by rw [hk, List.mem_singleton.1 hm])), h.apart, h.mo, by omega, fun p hp => by have := h.nums p hp; omega, h.few⟩
  obtain ⟨c0, c1, c2⟩ := h.cells
  have hfz : w.frozen? ⟨b, 1, none⟩ = false := unfrozen_of h.head
  have H1 := Lib.hid h1
  have T1 := Lib.hid ts
  have HW := Lib.hid hw1
  have hfew := h.few
  obtain ⟨t, ht⟩ : ∃ t, t = ticks + 1 := ⟨_, rfl⟩
  rw [← hn] at hfew c2 hle0
  rw [← ht]
  rw [← ht] at H1
  have htb2 : 0 ≤ t ∧ t ≤ 1000000 := by omega
  have hmo := h.mo
  unfold inI64 at hmo
  clear h h1 hn ts hw1 ht
  go_enter Try.func43, Try.ntmps43
  go_wp2_with fail
  rw [← HW.out]
  clear c0 c1 c2 hfz
  go_loopw [3, 19] (fun sv vk wx => ∃ k : Nat, k ≤ n ∧ vk = .int .i64 (k : Int) ∧ wx.ownsRow 0 2 1 sv (silK most t (K.take k)).length (silK most t (K.take k)) ∧ (∀ q, sv.ownBlock = some q → w1.heap.size ≤ q) ∧ Turn [] w1 wx) (fun _ vk _ => n - (intOf vk).toNat)
  case atStart => exact ⟨0, by omega, rfl, World.ownsRow_nil _ _ _ _, (by intro q e; cases e), Turn.refl _ _⟩
  case round =>
    obtain ⟨k, hk, rfl, hr, ho, ht⟩ := hrel
    have hx := H1.out.turn ht (by simp) (fun _ _ => by simp)
    have R := Lib.hid hr
    have O := Lib.hid ho
    have T := Lib.hid ht
    obtain ⟨d0, d1, d2⟩ := hx.cells
    rw [← HN.out] at d2
    by_cases hkn : k < n
    · have hkl : k < K.length := by rw [← HN.out]; exact hkn
      obtain ⟨ao, cp, he, -, -, hat⟩ := ones_at hx.row
      obtain ⟨g, rfl, hk0, hk1⟩ := hat k hkl
      simp only [Value.slice.injEq, true_and] at he
      obtain ⟨rfl, rfl⟩ := he
      have AC := Lib.hid (fun d => age_calls (hx.turn (Turn.drewN [] _ d) (by simp) (fun _ _ => by simp)) hkl)
      have hgd : K.getD k (0, 0) = K[k] := by simp [List.getD, hkl]
      rw [hgd] at AC
      have hsl := silK_length most t (K.take k)
      have hsl2 : (K.take k).length ≤ n := by rw [List.length_take]; omega
      have SC := silK_succ (most := most) (t := t) hkl
      obtain ⟨x, hxx⟩ : ∃ x, x = K[k].1 := ⟨_, rfl⟩
      obtain ⟨y, hyy⟩ : ∃ y, y = K[k].2 := ⟨_, rfl⟩
      rw [← hxx, ← hyy] at SC
      rw [← hyy] at AC
      rw [← hxx] at hk0
      obtain ⟨s, hs⟩ : ∃ s, s = silK most t (K.take k) := ⟨_, rfl⟩
      rw [← hs] at R SC hsl
      have HS := Lib.hid hs
      have hsl3 : s.length ≤ 100000 := by omega
      obtain ⟨a, ha⟩ : ∃ a, a = t - y := ⟨_, rfl⟩
      rw [← ha] at AC SC
      have hb : 0 ≤ (k : Int) ∧ (k : Int) < (n : Int) := by omega
      by_cases hm : most ≤ a
      · rw [if_pos hm] at SC
        have hSC := Lib.hid SC
        clear hr ho ht hx hat hxx hyy hs hsl hsl2 hk1 SC hgd ha
        go_wp2_with fail
        go_quiet ((go_at_call 66; exact Calls.quiet_of (AC.out _)))
        have RQ := Lib.hid (ownsRow_turn R.out (Turn.drewN [] wr nq) (fun _ _ => by simp))
        obtain ⟨wq, hwq⟩ : ∃ wq, wq = wr.drewN nq := ⟨_, rfl⟩
        have d0q : wq.cell? ⟨b, 0, none⟩ = some (.int .i64 most) := by rw [hwq]; exact d0
        have d2q : wq.cell? ⟨b, 2, none⟩ = some (.slice (some ⟨g, 0, none⟩) n cp0) := by rw [hwq]; exact d2
        have hk0q : wq.cell? ⟨g, k * 2, none⟩ = some (.int .i64 x) := by rw [hwq]; exact hk0
        have TQ := Lib.hid (T.out.trans (Turn.drewN [] wr nq) (by simp))
        rw [← hwq] at RQ TQ ⊢
        clear hwq R T AC d0 d1 d2 hk0
        go_wp2_with (at_builtin; refine append_one rfl (.tmp 30) (.tmp 39) rfl _ s rfl (ownsRow_turn RQ.out (Turn.alloc [] _ _) (fun _ _ => by simp)) wq.heap.size x rfl (cell_new _ _ _) hsl3 ?_; intro v2 w2 r2 g2 o2)
        have T2 : Turn [] w1 w2 := (TQ.out.trans (Turn.alloc [] _ _) (by simp)).trans (Turn.grown (l := _) g2 (fun k hk => .inl (Option.mem_toList.2 hk))) (fun q hq => .inr (O.out q (Option.mem_toList.1 hq)))
        have O2 : ∀ q, v2.ownBlock = some q → w1.heap.size ≤ q := fun q hq => by
          rcases o2 with e | e <;> rw [hq] at e
          · exact O.out q e.symm
          · cases e
            exact Nat.le_trans TQ.out.size (Turn.alloc [] _ _).size
        have T2H := Lib.hid T2
        have O2H := Lib.hid O2
        have R2H := Lib.hid r2
        clear T2 O2 r2 g2 o2
        go_roundw
        case rel => exact ⟨k + 1, by omega, by go_num, by rw [hSC.out]; exact R2H.out, O2H.out, T2H.out⟩
        case measure => simp [intOf]; omega
      · rw [if_neg hm] at SC
        have hSC := Lib.hid SC
        clear hr ho ht hx hat hxx hyy hs hsl hsl2 hk1 SC hgd ha
        go_wp2_with fail
        go_quiet ((go_at_call 66; exact Calls.quiet_of (AC.out _)))
        have RQ := Lib.hid (ownsRow_turn R.out (Turn.drewN [] wr nq) (fun _ _ => by simp))
        have TQ := Lib.hid (T.out.trans (Turn.drewN [] wr nq) (by simp))
        clear R T AC d0 d1 d2 hk0
        go_wp2
        go_roundw
        case rel => exact ⟨k + 1, by omega, by go_num, by rw [hSC.out]; exact RQ.out, O.out, TQ.out⟩
        case measure => simp [intOf]; omega
    · have hkn2 : k = n := by omega
      have hkl : K.take k = K := by rw [hkn2, HN.out, List.take_length]
      rw [hkl] at R
      have HX := Lib.hid hx
      clear hr ho ht hx
      go_wp2
      go_ret
      exact ⟨_, rfl, R.out, fun q hq => Nat.le_trans T1.out.size (O.out q hq), HX.out, T1.out.trans T.out (by simp)⟩

end Go.Proofs.Ytikbldnekehodaa.L
