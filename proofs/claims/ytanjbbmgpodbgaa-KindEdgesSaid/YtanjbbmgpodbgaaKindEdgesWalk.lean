/-
  The walk of the law KindEdges.
-/
import Derived.Test.YtanjbbmgpodbgaaKindNamesWalk
import Derived.LoopTactic
namespace Go.Proofs.Ytanjbbmgpodbgaa
open Go.RowKit Go.ChangeShapes Go.WideShapes Go.ChangeAt

theorem fill_start (n : Nat) (c : UInt8) : List.replicate n (Value.int .u8 0) = u8s (List.replicate 0 c ++ List.replicate (n - 0) 0) := by
  simp [u8s]

theorem fill_step (n k : Nat) (c : UInt8) (h : k < n) : (u8s (List.replicate k c ++ List.replicate (n - k) 0)).set k (.int .u8 (c.toNat : Int)) = u8s (List.replicate (k + 1) c ++ List.replicate (n - (k + 1)) 0) := by
  unfold u8s
  rw [← List.map_set (f := fun b : UInt8 => Value.int .u8 (b.toNat : Int))]
  congr 1
  obtain ⟨m, rfl⟩ : ∃ m, n = k + 1 + m := ⟨n - (k + 1), by omega⟩
  rw [show k + 1 + m - k = m + 1 by omega, show k + 1 + m - (k + 1) = m by omega, List.set_append_right _ _ (by simp)]
  simp [List.replicate_succ]
  rw [← List.cons_append, ← List.replicate_succ, List.replicate_succ', List.append_assoc]
  rfl

theorem queue_same (n : Nat) (c : UInt8) : queueB ⟨(List.replicate n c).toArray⟩ = decide (1 ≤ n ∧ n ≤ 8 ∧ 97 ≤ c.toNat ∧ c.toNat ≤ 122) := by
  have hs : (⟨(List.replicate n c).toArray⟩ : ByteArray).size = n := by rw [size_mk]; simp
  unfold queueB
  rw [hs, Bool.eq_iff_iff]
  show ((List.replicate n c).all okLet && (decide (1 ≤ n) && decide (n ≤ 8))) = true ↔ _
  rw [okLet_all n c]
  simp only [Bool.and_eq_true, Bool.or_eq_true, decide_eq_true_eq, okLet_is c c.toNat rfl]
  omega
where
  okLet_all (n : Nat) (c : UInt8) : (List.replicate n c).all okLet = (decide (n = 0) || okLet c) := by
    cases n with
    | zero => simp
    | succ n => simp [List.all_replicate]

theorem body_same (n : Nat) (c : UInt8) : bodyB ⟨(List.replicate n c).toArray⟩ = decide (n ≤ 60) := by
  unfold bodyB
  rw [size_mk, List.length_replicate]

set_option maxHeartbeats 4000000 in
set_option maxRecDepth 100000 in
theorem kindEdges_nat (F : RecFace) (n : Nat) (hn : n ≤ 70) (c : UInt8) (w : World) :
    Calls Try.prog 10 #[.int .i64 (n : Int), .int .u8 (c.toNat : Int)] w fun e w' => e = .returned (.bool true) ∧ Below w.heap.size w w' := by
  obtain ⟨i0, hi, hz0, hz1, hz2⟩ := info_parts Try.u8row
  have hc := c.toNat_lt
  have CQ := Lib.hid (fun w => kindQueue_calls ⟨(List.replicate n c).toArray⟩ w)
  have CB := Lib.hid (fun w => kindBody_calls ⟨(List.replicate n c).toArray⟩ w)
  rw [queue_same] at CQ
  rw [body_same] at CB
  obtain ⟨s, hs⟩ : ∃ s : ByteArray, s = ⟨(List.replicate n c).toArray⟩ := ⟨_, rfl⟩
  rw [← hs] at CQ CB
  have HSS := Lib.hid hs
  clear hs
  go_enter Try.func10, Try.ntmps10
  go_wp2_with fail
  refine (begun8_calls F _).mono ?_
  rintro e w1 ⟨rfl, t1⟩
  have T1 := Lib.hid t1
  have hz := t1.size
  clear t1
  have r1 : (n : Int) ≤ 70 := by omega
  go_wp2_with (at_make; refine wpList_make_full _ rfl _ _ 24 rfl w1.heap.size 5 i0 (.int .u8 0) 1 Try.underlying24 hi hz0 hz1 .i64 .i64 _ _ n rfl rfl rfl rfl (by rw [hz2]; omega) (by unfold maxLen; omega) (Nat.le_refl _) ?_)
  intro w3 hown3 hg3
  have N3 : Hid (Turn [] w1 w3) := Lib.hid (Turn.grown hg3 (fun k hk => by cases hk))
  have O3 : Hid (w3.ownsRow w1.heap.size 5 1 (.slice (some ⟨w1.heap.size, 0, none⟩) n n) n (u8s (List.replicate 0 c ++ List.replicate (n - 0) 0))) := by
    rw [← fill_start, ← toList_madeCells_one (.int .u8 0) n]
    exact hown3
  clear hown3 hg3 hi hz0 hz1 hz2
  generalize hq : w1.heap.size = q at *
  have HQ := Lib.hid hq
  clear hq
  go_wp2_with fail
  go_loopw [7, 22] (fun _ i wr => ∃ k : Nat, k ≤ n ∧ i = .int .i64 k ∧ wr.ownsRow q 5 1 (.slice (some ⟨q, 0, none⟩) n n) n (u8s (List.replicate k c ++ List.replicate (n - k) 0)) ∧ Turn [] w1 wr) (fun _ i _ => n - (intOf i).toNat)
  case atStart => exact ⟨0, by omega, rfl, O3.out, N3.out⟩
  case round =>
    obtain ⟨k, hk, rfl, hown, hbel⟩ := hrel
    have HO := Lib.hid hown
    have HB := Lib.hid hbel
    clear hown hbel O3 N3
    by_cases hlt : k < n
    · have r2 : (k : Int) < (n : Int) := by omega
      have hcell : ∃ u, wr.cell? ⟨q, k, none⟩ = some u := by
        rw [HO.out.cellAt k (by omega)]
        have hl : k < (u8s (List.replicate k c ++ List.replicate (n - k) 0)).length := by simp [u8s]; omega
        exact ⟨_, List.getElem?_eq_getElem hl⟩
      obtain ⟨u, hcell⟩ := hcell
      have hfz := HO.out.frozenAt k
      have O4 : Hid ((wr.setCell ⟨q, k, none⟩ (.int .u8 (c.toNat : Int))).ownsRow q 5 1 (.slice (some ⟨q, 0, none⟩) n n) n (u8s (List.replicate (k + 1) c ++ List.replicate (n - (k + 1)) 0))) := Lib.hid (by rw [← fill_step n k c hlt]; exact (HO.out.stored k _).1)
      have B4 : Hid (Turn [] w1 (wr.setCell ⟨q, k, none⟩ (.int .u8 (c.toNat : Int)))) := Lib.hid (HB.out.trans (Turn.setCell (l := [q]) wr (by simp) _) (fun i hi => .inr (by have := HQ.out; simp at hi; omega)))
      go_wp2
      go_roundw
      case rel => exact ⟨k + 1, by omega, by go_num, O4.out, B4.out⟩
      case measure => simp [intOf]; omega
    · obtain rfl : k = n := by omega
      have hown2 := HO.out
      rw [Nat.sub_self, List.replicate_zero, List.append_nil] at hown2
      have hsl : Sl wr (some ⟨q, 0, none⟩) k (List.replicate k c) := by
        obtain ⟨a, cc, h1, h2, _⟩ := Sl.of_owns (l := List.replicate k c) (by exact hown2)
        injection h1 with e1 e2 e3
        subst e1 e3
        exact h2
      have cv : ∀ wx, Turn [] wr wx → (convert 24 9 (.slice (some ⟨q, 0, none⟩) k k)).run Try.prog wx = .ok (.string s) wx := fun wx tx => by
        rw [HSS.out]
        exact conv_sl (hsl.belowAll tx.belowAll) (by simp)
      have CV := Lib.hid cv
      have cv1 := cv wr (Turn.refl _ _)
      clear hown2 hsl HO cv HSS hlt hk
      have TE := Lib.hid (T1.out.trans HB.out (by simp))
      obtain ⟨x, hx⟩ : ∃ x, x = c.toNat := ⟨_, rfl⟩
      rw [← hx] at CQ hc ⊢
      clear hx
      obtain ⟨b1, hb1⟩ : ∃ b, b = decide (1 ≤ k ∧ k ≤ 8 ∧ 97 ≤ x ∧ x ≤ 122) := ⟨_, rfl⟩
      obtain ⟨b2, hb2⟩ : ∃ b, b = decide (k ≤ 60) := ⟨_, rfl⟩
      rw [← hb1] at CQ
      rw [← hb2] at CB
      have H1 : Hid (b1 = true ↔ 1 ≤ k ∧ k ≤ 8 ∧ 97 ≤ x ∧ x ≤ 122) := Lib.hid (by rw [hb1]; simp)
      have H2 : Hid (b2 = true ↔ k ≤ 60) := Lib.hid (by rw [hb2]; simp)
      clear hb1 hb2
      cases b1 <;> cases b2
      all_goals
        go_wp2_with fail
      all_goals
        refine (CQ.out _).mono ?_
        rintro e w5 ⟨rfl, t5⟩
        have T5 := Lib.hid (TE.out.trans t5 (by simp))
        have cv2 := CV.out w5 t5
        clear t5 cv1
        go_wp2_with (go_at_call 18; ((with_reducible refine (CB.out _).mono ?_); rintro e w' ⟨rfl, rfl⟩))
      all_goals
        go_ret
      all_goals
        refine ⟨ret_bool ?_, T5.out.belowAll⟩
        have p1 := H1.out
        have p2 := H2.out
        simp at p1 p2
        first
          | rfl
          | (exfalso; omega)
          | (rw [Bool.eq_iff_iff]; simp; omega)

set_option maxHeartbeats 4000000 in
set_option maxRecDepth 100000 in
theorem kindEdges_walk (F : RecFace) (a0 : Int) (_w0 : (Lit.int .i64 a0).wf = true) (a1 : Int) (w1 : (Lit.int .u8 a1).wf = true) {w : World} :
    Calls Try.prog 10 #[.int .i64 a0, .int .u8 a1] w fun e w' => e = .returned (.bool true) ∧ Below w.heap.size w w' := by
  have hb := bounds_u8 w1
  by_cases h : 0 ≤ a0 ∧ a0 ≤ 70
  · have := kindEdges_nat F a0.toNat (by omega) (UInt8.ofNat a1.toNat) w
    rw [show ((a0.toNat : Nat) : Int) = a0 by omega, u8_ofNat hb.1 (by omega)] at this
    exact this
  · clear w1 _w0 hb
    have C := Lib.hid (fun w => begun8_calls F w)
    rcases (by omega : a0 < 0 ∨ (0 ≤ a0 ∧ 70 < a0)) with h | ⟨h, h2⟩
    all_goals
      go_enter Try.func10, Try.ntmps10
      go_wp2_with fail
      refine (C.out _).mono ?_
      rintro e x1 ⟨rfl, t1⟩
      have T1 := Lib.hid t1
      clear t1
      go_wp2
      go_ret
      exact ⟨rfl, T1.out.belowAll⟩

end Go.Proofs.Ytanjbbmgpodbgaa
