/-
  The walk of All: copies, in blocks of the call's own.
-/
import Derived.Test.YtjdpglmphacfjaaGreatDoorSegOpn
namespace Go.Proofs.YtjdpglmphacfjaaGreatDoor
open Go.RowKit

/-- The first ones of these texts, in a row that has its places already. -/
def Made (wr : World) (q n k : Nat) (T : List (List UInt8)) (xs : List Value) : Prop :=
  xs.length = k ∧ wr.ownsRow q 31 1 (.slice (some ⟨q, 0, none⟩) n n) n (xs ++ List.replicate (n - k) (.slice none 0 0)) ∧
    ∀ i (h : i < T.length), i < k → ∃ ao c, xs[i]? = some (.slice ao T[i].length c) ∧ Sl wr ao c T[i] ∧ ∀ A, ao = some A → q < A.block

theorem Made.cell {wr : World} {q n k : Nat} {T : List (List UInt8)} {xs : List Value} (h : Made wr q n k T xs) (hk : k < n) : wr.cell? ⟨q, k, none⟩ = some (.slice none 0 0) ∧ wr.frozen? ⟨q, k, none⟩ = false ∧ q < wr.heap.size := by
  obtain ⟨h1, h2, h3⟩ := h
  refine ⟨?_, h2.frozenAt k, (h2.lt q rfl).2⟩
  rw [h2.cellAt k (by omega), List.getElem?_append_right (by omega), h1, Nat.sub_self, List.getElem?_replicate, if_pos (by omega)]

theorem Made.below {wr w' : World} {q n k : Nat} {T : List (List UInt8)} {xs : List Value} (h : Made wr q n k T xs) (hb : Below wr.heap.size wr w') : Made w' q n k T xs := by
  obtain ⟨h1, h2, h3⟩ := h
  refine ⟨h1, ownsRow_turn h2 (Turn.of_below hb []) (by simp), fun i hi hk => ?_⟩
  obtain ⟨ao, c, e, hs, ha⟩ := h3 i hi hk
  exact ⟨ao, c, e, hs.turn (Turn.of_below hb []) (by simp), ha⟩

theorem Made.step {wr : World} {q n k : Nat} {T : List (List UInt8)} {xs : List Value} (h : Made wr q n k T xs) (hk : k < n) (hkT : k < T.length) {ao : Option Addr} {c : Nat} (hs : Sl wr ao c (T[k]'hkT)) (ha : ∀ A, ao = some A → q < A.block) :
    Made (wr.setCell ⟨q, k, none⟩ (.slice ao (T[k]'hkT).length c)) q n (k + 1) T (xs ++ [.slice ao (T[k]'hkT).length c]) := by
  obtain ⟨h1, h2, h3⟩ := h
  have t : Turn [q] wr (wr.setCell ⟨q, k, none⟩ (.slice ao (T[k]'hkT).length c)) := Turn.setCell wr (by simp) _
  refine ⟨by simp [h1], ?_, fun i hi hlt => ?_⟩
  · have h4 := (h2.stored k (.slice ao (T[k]'hkT).length c)).1
    rw [List.set_append_right _ _ (by omega), h1, Nat.sub_self, show n - k = (n - (k + 1)) + 1 by omega, List.replicate_succ, List.set_cons_zero] at h4
    rw [List.append_assoc]
    exact h4
  · by_cases hik : i < k
    · obtain ⟨ao', c', e, hs', ha'⟩ := h3 i hi hik
      exact ⟨ao', c', by rw [List.getElem?_append_left (by omega)]; exact e, hs'.turn t (fun A hA _ hm => by have := ha' A hA; simp at hm; omega), ha'⟩
    · obtain rfl : i = k := by omega
      exact ⟨ao, c, by rw [List.getElem?_append_right (by omega), h1, Nat.sub_self]; rfl, hs.turn t (fun A hA _ hm => by have := ha A hA; simp at hm; omega), ha⟩

theorem Made.txs {wr : World} {q n : Nat} {T : List (List UInt8)} {xs : List Value} (h : Made wr q n n T xs) (hn : n = T.length) : Txs wr (fun k => q ≤ k) (.slice (some ⟨q, 0, none⟩) n n) T := by
  subst hn
  obtain ⟨h1, h2, h3⟩ := h
  rw [Nat.sub_self, List.replicate_zero, List.append_nil] at h2
  refine ⟨fun k hk => by cases hk; exact Nat.le_refl _, xs, ⟨h2.1, h2.2.imp id (fun ⟨g, cap, cur, hv, hb, hr⟩ => ⟨g, cap, cur, hv, Nat.zero_le _, hr⟩)⟩, h1, fun i hi => ?_⟩
  obtain ⟨ao, c, e, hs, ha⟩ := h3 i hi hi
  exact ⟨ao, c, e, hs, fun A hA _ => ⟨Nat.le_of_lt (ha A hA), fun e2 => by have := ha A hA; have h5 := Option.some.inj e2; simp at h5; omega⟩⟩

/-- 'make([][]byte, n)'. -/
theorem make_texts (w : World) (n : Nat) (hn : n ≤ 1000000) : (Instr.makeSlice 34 (.int .i64 (n : Int)) (.int .i64 (n : Int))).run Tryz.prog w = .ok (.slice (some ⟨w.heap.size, 0, none⟩) n n) (w.alloc (.cells (madeCells #[.slice none 0 0] n) 31)) := by
  obtain ⟨i0, hi, hz0, hz1, hz2⟩ := info_parts Tryz.slrow
  have h := run_make (P := Tryz.prog) w 34 31 i0 (.slice none 0 0) Tryz.underlying34 hi hz0 .i64 .i64 (n : Int) (n : Int) (by omega) (by omega) (by rw [hz2]; omega) (by omega)
  rw [hz1] at h
  simp only [Int.toNat_natCast, Nat.mul_one] at h
  exact h

theorem made_new (w : World) (n : Nat) (hn : n ≤ 1000000) (T : List (List UInt8)) : Made (w.alloc (.cells (madeCells #[.slice none 0 0] n) 31)) w.heap.size n 0 T [] := by
  refine ⟨rfl, ⟨by simp, .inr ⟨w.heap.size, n, madeCells #[.slice none 0 0] n, rfl, Nat.le_refl _, heap_alloc_new w _, Nat.le_refl _, by unfold maxLen; omega, by simp [madeCells], ?_⟩⟩, fun i hi hk => absurd hk (by omega)⟩
  rw [toList_madeCells_one]
  simp

set_option maxHeartbeats 4000000 in
set_option maxRecDepth 100000 in
theorem all_calls {L : List Nat} {wq w : World} {lb d room num : Nat} {T : List (List UInt8)} {M : List Fm} (h : Lg L wq w lb d room num T M) (hT : ∀ i (hi : i < T.length), T[i].length ≤ 1048576) :
    Calls Tryz.prog 16 #[.pointer (some ⟨lb, 0, none⟩)] w fun e w' => e = .returned (.slice (some ⟨w.heap.size, 0, none⟩) T.length T.length) ∧ Txs w' (fun k => w.heap.size ≤ k) (.slice (some ⟨w.heap.size, 0, none⟩) T.length T.length) T ∧ Below w.heap.size w w' := by
  obtain ⟨_, _, _, _, hT5, v, l, hc, _, _, ht⟩ := h
  obtain ⟨ao, cap, rfl, hcap, hmx, hao⟩ := ht.form
  obtain ⟨-, -, c2, -, -, -⟩ := three_cells hc
  obtain ⟨n, hn⟩ : ∃ n, n = T.length := ⟨_, rfl⟩
  have HT := Lib.hid ht
  have HTT := Lib.hid hT
  have HAO := Lib.hid hao
  have HN := Lib.hid hn
  rw [← hn] at c2 hT5 ⊢
  clear ht hT hao hc hn
  have mk := make_texts w n hT5
  go_enter Tryz.func16, Tryz.ntmps16
  have c23 : (w.alloc (.cells (madeCells #[.slice none 0 0] n) 31)).cell? ⟨lb, 2, none⟩ = some (.slice ao n cap) := ((Turn.alloc [] w _).cell c2 (by simp))
  go_wp2_with fail
  have N3 := Lib.hid (new_below w (.cells (madeCells #[.slice none 0 0] n) 31))
  have M3 := Lib.hid (made_new w n hT5 T)
  clear mk c2
  generalize w.alloc (.cells (madeCells #[.slice none 0 0] n) 31) = w3 at *
  generalize hq : w.heap.size = q at *
  have HQ := Lib.hid hq
  clear hq
  go_loopw [4, 5, 19] (fun _ _ v19 wr => ∃ (k : Nat) (xs : List Value), k ≤ n ∧ v19 = .int .i64 k ∧ Made wr q n k T xs ∧ Below q w wr) (fun _ _ v19 _ => n - (intOf v19).toNat)
  case atStart => exact ⟨0, [], by omega, rfl, M3.out, N3.out⟩
  case round =>
    obtain ⟨k, xs, hk, rfl, hmd, hbel⟩ := hrel
    have HM := Lib.hid hmd
    have HB := Lib.hid hbel
    clear hmd hbel M3 N3
    by_cases hlt : k < n
    · have r2 : (k : Int) < (n : Int) := by omega
      have hkT : k < T.length := by have := HN.out; omega
      rcases HAO.out with ⟨_, hnil, _⟩ | ⟨g, rfl⟩
      · rw [hnil] at hkT; exact absurd hkT (by simp)
      obtain ⟨af, cf, hcell, hsf⟩ := (HT.out.turn (by have h8 := HB.out; rw [← HQ.out] at h8; exact Turn.of_below h8 []) (by simp)).at hkT
      have C := Lib.hid (clone_its af cf _ wr hsf (HTT.out k hkT))
      have HM0 := Lib.hid (HM.out.cell hlt)
      clear hsf
      go_wp2_with fail
      refine C.out.mono ?_
      rintro e w5 ⟨a5, c5, rfl, hs5, ha5, hb5⟩
      have M5 := Lib.hid (HM.out.below hb5)
      obtain ⟨k5, f5, -⟩ := M5.out.cell hlt
      have M6 := Lib.hid (M5.out.step hlt hkT hs5 (fun A hA => Nat.lt_of_lt_of_le HM0.out.2.2 (ha5 A hA)))
      have B6 := Lib.hid ((HB.out.trans (hb5.mono (Nat.le_of_lt HM0.out.2.2))).setCell (p := ⟨q, k, none⟩) (Nat.le_refl _) (.slice a5 (T[k]'hkT).length c5))
      clear hs5 ha5 hb5 C HM
      go_wp2
      go_roundw
      case rel => exact ⟨k + 1, _, by omega, by go_num, M6.out, B6.out⟩
      case measure => simp [intOf]; omega
    · obtain rfl : k = n := by omega
      have r3 : ¬ (k : Int) < (k : Int) := by omega
      go_wp2
      go_ret
      rw [HQ.out]
      exact ⟨rfl, HM.out.txs HN.out, HB.out⟩

end Go.Proofs.YtjdpglmphacfjaaGreatDoor
