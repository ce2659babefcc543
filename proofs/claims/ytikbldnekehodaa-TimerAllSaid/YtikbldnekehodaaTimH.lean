/-
  A timer of numbers: Heard.
-/
import Derived.Test.YtikbldnekehodaaTimQ
import Derived.Deep.RegionWith
namespace Go.Proofs.Ytikbldnekehodaa.T
open Go.RowKit

theorem mem_set {K : List (Int × Int)} {m : Nat} {t : Int} (h : ∀ p ∈ K, 0 ≤ p.2 ∧ p.2 ≤ t) (h0 : 0 ≤ t) : ∀ p ∈ K.set m ((K.getD m (0, 0)).1, t), 0 ≤ p.2 ∧ p.2 ≤ t := by
  intro p hp
  rcases List.mem_or_eq_of_mem_set hp with h1 | rfl
  · exact h p h1
  · exact ⟨h0, Int.le_refl _⟩

set_option maxHeartbeats 2000000 in
set_option maxRecDepth 100000 in
/-- Heard of somebody. -/
theorem heard_is {w : World} {b : Nat} {most ticks : Int} {v : Value} {K : List (Int × Int)} (h : TimI w b most ticks v K) (x : Int) {m : Nat} (hm : m < K.length)
    (hlo : ∀ i (hi : i < K.length), i < m → cmpZ K[i].1 x < 0) (hhi : ∀ i (hi : i < K.length), m ≤ i → 0 ≤ cmpZ K[i].1 x) (hf : cmpZ (K.getD m (0, 0)).1 x = 0) :
    Calls Try.prog 22 #[.pointer (some ⟨b, 0, none⟩), .int .i64 x] w fun e w' =>
      e = .returned (.bool false) ∧ TimI w' b most ticks v (K.set m ((K.getD m (0, 0)).1, ticks)) ∧ Turn (b :: v.ownBlock.toList) w w' := by
  have FC := Lib.hid (find_calls h x (Nat.le_of_lt hm) hlo hhi)
  rw [show (decide (m < K.length) && (cmpZ (K.getD m (0, 0)).1 x == 0)) = true by rw [hf]; simp [hm]] at FC
  have hgd : K.getD m (0, 0) = K[m] := by simp [List.getD, hm]
  obtain ⟨-, ⟨-, h0⟩ | ⟨g, cap, cur, rfl, -, hg, hle, hmx, hsz, htk⟩⟩ := id h.row
  · omega
  have hgb : g ≠ b := fun e => h.apart (by rw [← e]; rfl)
  obtain ⟨L, hL⟩ : ∃ L, L = K.length := ⟨_, rfl⟩
  have ST : Hid (∀ wx, Turn [] w wx → TimI (wx.setCell ⟨g, m * 2 + 1, none⟩ (.int .i64 ticks)) b most ticks (.slice (some ⟨g, 0, none⟩) K.length cap) (K.set m ((K.getD m (0, 0)).1, ticks)) ∧ Turn (b :: (Value.slice (some ⟨g, 0, none⟩) K.length cap).ownBlock.toList) w (wx.setCell ⟨g, m * 2 + 1, none⟩ (.int .i64 ticks))) := Lib.hid (fun wx tx => by
    have hx := h.turn tx (by simp) (fun _ _ => by simp)
    have ts : Turn [g] wx (wx.setCell ⟨g, m * 2 + 1, none⟩ (.int .i64 ticks)) := Turn.setCell _ (by simp) _
    refine ⟨⟨ts.heap hx.head (by simpa using fun e => hgb e.symm), ?_, h.apart, h.mo, h.ti, mem_set h.nums h.ti.1, by rw [List.length_set]; exact h.few⟩, (tx.mono (by simp)).trans ts (fun i hi => .inl (by rw [List.mem_singleton.1 hi]; simp [Value.ownBlock]))⟩
    have h1 := (hx.row.stored (m * 2 + 1) (.int .i64 ticks)).1
    rw [List.length_set, hgd, kcells_set K m hm ticks]
    exact h1)
  have H := Lib.hid h
  rw [← hL] at hm hle
  have HL := Lib.hid hL
  have hb1 : 0 ≤ (m : Int) ∧ (m : Int) < (L : Int) := by omega
  rw [← hL]
  rw [← hL] at ST H
  clear h hlo hhi hf hL hsz htk hgd
  go_enter Try.func22, Try.ntmps22
  go_wp2_with fail
  refine FC.out.mono ?_
  rintro e w1 ⟨rfl, t1⟩
  have h1 := H.out.turn t1 (by simp) (fun _ _ => by simp)
  obtain ⟨c0, c1, c2⟩ := h1.cells
  have hfz : w1.frozen? ⟨g, m * 2 + 1, none⟩ = false := unfrozen_of (t1.heap hg (by simp))
  obtain ⟨y, hy⟩ : ∃ y, w1.cell? ⟨g, m * 2 + 1, none⟩ = some y := by
    obtain ⟨ao, cp, he, -, -, hat⟩ := ones_at h1.row
    obtain ⟨g', rfl, -, h2⟩ := hat m (by rw [← HL.out]; exact hm)
    simp only [Value.slice.injEq, Option.some.injEq, Addr.mk.injEq, and_true] at he
    rw [he.1]
    exact ⟨_, h2⟩
  have ST1 := Lib.hid (ST.out _ t1)
  clear h1 t1 FC hg ST
  go_wp2_with fail
  go_region
  go_wp2
  go_ret
  exact ⟨rfl, ST1.out.1.turn (Turn.drew [] _) (by simp) (fun _ _ => by simp), ST1.out.2.trans (Turn.drew [] _) (by simp)⟩

set_option maxHeartbeats 2000000 in
set_option maxRecDepth 100000 in
/-- Heard of somebody new. -/
theorem heard_new {w : World} {b : Nat} {most ticks : Int} {v : Value} {K : List (Int × Int)} (h : TimI w b most ticks v K) (x : Int) (hfew : K.length ≤ 999) {m : Nat} (hm : m ≤ K.length)
    (hlo : ∀ i (hi : i < K.length), i < m → cmpZ K[i].1 x < 0) (hhi : ∀ i (hi : i < K.length), m ≤ i → 0 ≤ cmpZ K[i].1 x) (hf : ¬ (m < K.length ∧ cmpZ (K.getD m (0, 0)).1 x = 0)) :
    Calls Try.prog 22 #[.pointer (some ⟨b, 0, none⟩), .int .i64 x] w fun e w' =>
      ∃ v', e = .returned (.bool true) ∧ TimI w' b most ticks v' (insK K m (x, ticks)) ∧ (v'.ownBlock = v.ownBlock ∨ ∀ k, v'.ownBlock = some k → w.heap.size ≤ k) ∧ Turn (b :: v.ownBlock.toList) w w' := by
  have FC := Lib.hid (find_calls h x hm hlo hhi)
  rw [found_no hf] at FC
  have H := Lib.hid h
  obtain ⟨ao0, cp0, hv0, -⟩ := ones_at h.row
  obtain ⟨L, hL⟩ : ∃ L, L = K.length := ⟨_, rfl⟩
  rw [← hL] at hv0 hm hfew
  have HL := Lib.hid hL
  have HM := Lib.hid hm
  have HF := Lib.hid hfew
  subst hv0
  clear h hlo hhi hf hL
  go_enter Try.func22, Try.ntmps22
  go_wp2_with fail
  refine FC.out.mono ?_
  rintro e w1 ⟨rfl, t1⟩
  have h1 := H.out.turn t1 (by simp) (fun _ _ => by simp)
  obtain ⟨c0, c1, c2⟩ := h1.cells
  have H1 := Lib.hid h1
  have T1 := Lib.hid t1
  have IC : Hid (∀ wx, Turn [] w1 wx → wx.heap[w1.heap.size]? = some (.cells #[.int .i64 x, .int .i64 ticks] 77) →
      Calls Try.prog 53 #[.slice ao0 L cp0, .int .i64 (m : Int), .slice (some ⟨w1.heap.size, 0, none⟩) 1 1] wx fun e w3 =>
        ∃ ao3 cp3, e = .returned (.slice ao3 (L + 1) cp3) ∧ w3.cell? ⟨b, 2, none⟩ = some (.slice ao0 L cp0) ∧ w3.frozen? ⟨b, 2, none⟩ = false ∧
          TimI (w3.setCell ⟨b, 2, none⟩ (.slice ao3 (L + 1) cp3)) b most ticks (.slice ao3 (L + 1) cp3) (insK K m (x, ticks)) ∧
          ((Value.slice ao3 (L + 1) cp3).ownBlock = (Value.slice ao0 L cp0).ownBlock ∨ ∀ k, (Value.slice ao3 (L + 1) cp3).ownBlock = some k → w.heap.size ≤ k) ∧
          Turn (b :: (Value.slice ao0 L cp0).ownBlock.toList) w (w3.setCell ⟨b, 2, none⟩ (.slice ao3 (L + 1) cp3))) := Lib.hid (fun wx tx hx => by
    have h2 := H1.out.turn tx (by simp) (fun _ _ => by simp)
    have hne : (Value.slice ao0 L cp0).ownBlock ≠ some w1.heap.size := fun e => by have := (H1.out.row.lt _ e).2; omega
    refine (insert_calls h2.row h2.few (i := m) (by rw [← HL.out]; exact HM.out) (x, ticks) hx hne).mono ?_
    rintro e w3 ⟨v3, rfl, hr3, ho3, t3⟩
    have hl3 : (insK K m (x, ticks)).length = L + 1 := by rw [insK_length (by rw [← HL.out]; exact HM.out), HL.out]
    rw [← HL.out] at hr3
    obtain ⟨ao3, cp3, hv3⟩ := owns_slice hr3
    subst hv3
    have ho3' : (Value.slice ao3 (L + 1) cp3).ownBlock = (Value.slice ao0 L cp0).ownBlock ∨ ∀ k, (Value.slice ao3 (L + 1) cp3).ownBlock = some k → w1.heap.size ≤ k := by
      rcases ho3 with e | e
      · exact .inl e
      · refine .inr (fun k hk => ?_)
        rw [e] at hk
        have := Option.some.inj hk
        have := tx.size
        omega
    have t13 := (tx.mono (l' := (Value.slice ao0 L cp0).ownBlock.toList) (by simp)).trans t3 (fun i hi => .inl hi)
    obtain ⟨hd3, h4, t4⟩ := H1.out.put (K2 := insK K m (x, ticks)) t13 (by rw [hl3]; exact hr3) ho3' (fun p hp => by
      rcases List.mem_append.1 hp with h5 | h5
      · exact H1.out.nums p (List.mem_of_mem_take h5)
      · rcases List.mem_cons.1 h5 with rfl | h6
        · exact ⟨H1.out.ti.1, Int.le_refl _⟩
        · exact H1.out.nums p (List.mem_of_mem_drop h6)) (by rw [hl3]; have := HF.out; omega)
    obtain ⟨d0, d1, d2, d3⟩ := cells_of_head hd3
    exact ⟨ao3, cp3, rfl, d2, d3, h4, ho3'.imp id (fun h5 k hk => Nat.le_trans T1.out.size (h5 k hk)), (T1.out.mono (by simp)).trans t4 (fun i hi => .inl hi)⟩)
  clear h1 t1 FC
  go_wp2_with fail
  have c2a : (w1.alloc (.cells #[.int .i64 x, .int .i64 ticks] 77)).cell? ⟨b, 2, none⟩ = some (.slice ao0 L cp0) := (Turn.alloc [] w1 _).cell c2 (by simp)
  go_region_with (go_at_call 53; refine (IC.out _ ?h1 ?h2).mono ?_; (case h1 => first | exact (Turn.alloc [] w1 _).trans (Turn.drew [] _) (by simp) | exact (Turn.drew [] w1).trans (Turn.alloc [] _ _) (by simp)); (case h2 => exact heap_alloc_new w1 _); rintro e w3 ⟨ao3, cp3, rfl, d2, d3, h4, ho4, t4⟩; have H4 := Lib.hid h4; have HO4 := Lib.hid ho4; have T4 := Lib.hid t4; clear h4 ho4 t4)
  all_goals go_wp2
  all_goals go_ret
  all_goals exact ⟨_, rfl, H4.out, HO4.out, T4.out⟩

end Go.Proofs.Ytikbldnekehodaa.T
