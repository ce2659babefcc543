/-
  The walk of All once more: each copy is a row of the caller's own.
-/
import Derived.Test.YtgachdaphdjddaaGreatDoorSegAll
namespace Go.Proofs.YtgachdaphdjddaaGreatDoor
open Go.RowKit

/-- The first ones of these texts, in a row that has its places already. -/
def MadeO (wr : World) (q n k : Nat) (T : List (List UInt8)) (xs : List Value) : Prop :=
  xs.length = k ∧ wr.ownsRow q 22 1 (.slice (some ⟨q, 0, none⟩) n n) n (xs ++ List.replicate (n - k) (.slice none 0 0)) ∧
    ∀ i (h : i < T.length), i < k → ∃ v, xs[i]? = some v ∧ wr.ownsRow (q + 1) 5 1 v (T[i]).length (u8s T[i])

theorem MadeO.cell {wr : World} {q n k : Nat} {T : List (List UInt8)} {xs : List Value} (h : MadeO wr q n k T xs) (hk : k < n) : wr.cell? ⟨q, k, none⟩ = some (.slice none 0 0) ∧ wr.frozen? ⟨q, k, none⟩ = false ∧ q < wr.heap.size := by
  obtain ⟨h1, h2, h3⟩ := h
  refine ⟨?_, h2.frozenAt k, (h2.lt q rfl).2⟩
  rw [h2.cellAt k (by omega), List.getElem?_append_right (by omega), h1, Nat.sub_self, List.getElem?_replicate, if_pos (by omega)]

theorem MadeO.below {wr w' : World} {q n k : Nat} {T : List (List UInt8)} {xs : List Value} (h : MadeO wr q n k T xs) (hb : Below wr.heap.size wr w') : MadeO w' q n k T xs := by
  obtain ⟨h1, h2, h3⟩ := h
  refine ⟨h1, ownsRow_turn h2 (Turn.of_below hb []) (by simp), fun i hi hk => ?_⟩
  obtain ⟨v, e, hs⟩ := h3 i hi hk
  exact ⟨v, e, ownsRow_turn hs (Turn.of_below hb []) (by simp)⟩

theorem MadeO.step {wr : World} {q n k : Nat} {T : List (List UInt8)} {xs : List Value} (h : MadeO wr q n k T xs) (hk : k < n) (hkT : k < T.length) {v : Value} (hs : wr.ownsRow (q + 1) 5 1 v (T[k]'hkT).length (u8s (T[k]'hkT))) :
    MadeO (wr.setCell ⟨q, k, none⟩ v) q n (k + 1) T (xs ++ [v]) := by
  obtain ⟨h1, h2, h3⟩ := h
  have t : Turn [q] wr (wr.setCell ⟨q, k, none⟩ v) := Turn.setCell wr (by simp) _
  have off : ∀ {u : Value} {m : Nat} {ys : List Value}, wr.ownsRow (q + 1) 5 1 u m ys → ∀ g, u.ownBlock = some g → g ∉ [q] := fun hr g hg hm => by have := (hr.lt g hg).1; simp at hm; omega
  refine ⟨by simp [h1], ?_, fun i hi hlt => ?_⟩
  · have h4 := (h2.stored k v).1
    rw [List.set_append_right _ _ (by omega), h1, Nat.sub_self, show n - k = (n - (k + 1)) + 1 by omega, List.replicate_succ, List.set_cons_zero] at h4
    rw [List.append_assoc]
    exact h4
  · by_cases hik : i < k
    · obtain ⟨u, e, hs'⟩ := h3 i hi hik
      exact ⟨u, by rw [List.getElem?_append_left (by omega)]; exact e, ownsRow_turn hs' t (off hs')⟩
    · obtain rfl : i = k := by omega
      exact ⟨v, by rw [List.getElem?_append_right (by omega), h1, Nat.sub_self]; rfl, ownsRow_turn hs t (off hs)⟩

theorem madeO_new (w : World) (n : Nat) (hn : n ≤ 1000000) (T : List (List UInt8)) : MadeO (w.alloc (.cells (madeCells #[.slice none 0 0] n) 22)) w.heap.size n 0 T [] := by
  refine ⟨rfl, ⟨by simp, .inr ⟨w.heap.size, n, madeCells #[.slice none 0 0] n, rfl, Nat.le_refl _, heap_alloc_new w _, Nat.le_refl _, by unfold maxLen; omega, by simp [madeCells], ?_⟩⟩, fun i hi hk => absurd hk (by omega)⟩
  rw [toList_madeCells_one]
  simp

set_option maxHeartbeats 4000000 in
set_option maxRecDepth 100000 in
theorem all_own {L : List Nat} {wq w : World} {lb d room num : Nat} {T : List (List UInt8)} {M : List Fm} (h : Lg L wq w lb d room num T M) (hT : ∀ i (hi : i < T.length), T[i].length ≤ 1048576) :
    Calls Tryz.prog 27 #[.pointer (some ⟨lb, 0, none⟩)] w fun e w' => e = .returned (.slice (some ⟨w.heap.size, 0, none⟩) T.length T.length) ∧ (∃ xs, MadeO w' w.heap.size T.length T.length T xs) ∧ Below w.heap.size w w' := by
  obtain ⟨_, _, _, _, hT5, v, l, hc, _, _, ht⟩ := h
  obtain ⟨ao, cap, rfl, hcap, hmx, hao⟩ := ht.form
  obtain ⟨-, -, c2, -, -, -⟩ := three_cells hc
  obtain ⟨n, hn⟩ : ∃ n, n = T.length := ⟨_, rfl⟩
  have HT := Lib.hid ht
  have HTT := Lib.hid hT
  have HAO := Lib.hid hao
  have HN := Lib.hid hn
  rw [← hn] at c2 hT5 ⊢
  clear ht hT hao hc hn
  have mk := make_texts w n hT5
  go_enter Tryz.func27, Tryz.ntmps27
  have c23 : (w.alloc (.cells (madeCells #[.slice none 0 0] n) 22)).cell? ⟨lb, 2, none⟩ = some (.slice ao n cap) := ((Turn.alloc [] w _).cell c2 (by simp))
  go_wp2_with fail
  have N3 := Lib.hid (new_below w (.cells (madeCells #[.slice none 0 0] n) 22))
  have M3 := Lib.hid (madeO_new w n hT5 T)
  clear mk c2
  generalize w.alloc (.cells (madeCells #[.slice none 0 0] n) 22) = w3 at *
  generalize hq : w.heap.size = q at *
  have HQ := Lib.hid hq
  clear hq
  go_loopw [4, 5, 19] (fun _ _ v19 wr => ∃ (k : Nat) (xs : List Value), k ≤ n ∧ v19 = .int .i64 k ∧ MadeO wr q n k T xs ∧ Below q w wr) (fun _ _ v19 _ => n - (intOf v19).toNat)
  case atStart => exact ⟨0, [], by omega, rfl, M3.out, N3.out⟩
  case round =>
    obtain ⟨k, xs, hk, rfl, hmd, hbel⟩ := hrel
    have HM := Lib.hid hmd
    have HB := Lib.hid hbel
    clear hmd hbel M3 N3
    by_cases hlt : k < n
    · have r2 : (k : Int) < (n : Int) := by omega
      have hkT : k < T.length := by have := HN.out; omega
      rcases HAO.out with ⟨_, hnil, _⟩ | ⟨g, rfl⟩
      · rw [hnil] at hkT; exact absurd hkT (by simp)
      obtain ⟨af, cf, hcell, hsf⟩ := (HT.out.turn (by have h8 := HB.out; rw [← HQ.out] at h8; exact Turn.of_below h8 []) (by simp)).at hkT
      have C := Lib.hid (clone_calls af cf _ wr hsf (by have := HTT.out k hkT; omega))
      have HM0 := Lib.hid (HM.out.cell hlt)
      clear hsf
      go_wp2_with fail
      refine C.out.mono ?_
      rintro e w5 ⟨v5, rfl, hr5, hb5⟩
      have hr5' := ownsRow_base hr5 (base' := q + 1) (fun g hg => Nat.le_trans HM0.out.2.2 (hr5.lt g hg).1)
      obtain ⟨a5, c5, rfl, -, -⟩ := row_read hr5
      have M5 := Lib.hid (HM.out.below hb5)
      obtain ⟨k5, f5, -⟩ := M5.out.cell hlt
      have M6 := Lib.hid (M5.out.step hlt hkT hr5')
      have B6 := Lib.hid ((HB.out.trans (hb5.mono (Nat.le_of_lt HM0.out.2.2))).setCell (p := ⟨q, k, none⟩) (Nat.le_refl _) (.slice a5 (T[k]'hkT).length c5))
      clear hr5 hr5' hb5 C HM
      go_wp2
      go_roundw
      case rel => exact ⟨k + 1, _, by omega, by go_num, M6.out, B6.out⟩
      case measure => simp [intOf]; omega
    · obtain rfl : k = n := by omega
      have r3 : ¬ (k : Int) < (k : Int) := by omega
      go_wp2
      go_ret
      rw [HQ.out]
      exact ⟨rfl, ⟨_, HM.out⟩, HB.out⟩

end Go.Proofs.YtgachdaphdjddaaGreatDoor
