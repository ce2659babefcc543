/-
  What a timer of int64s tells: New, Has, Age, Heard, Gone.
-/
import Derived.Test.YtikbldnekehodaaLTimI
namespace Go.Proofs.Ytikbldnekehodaa.L
open Go.RowKit

set_option maxRecDepth 100000 in
theorem new_calls (most : Int) (hm : inI64 most) (w : World) : Calls Try.prog 40 #[.int .i64 most] w fun e w' =>
    e = .returned (.pointer (some ⟨w.heap.size, 0, none⟩)) ∧ TimI w' w.heap.size most 0 (.slice none 0 0) [] ∧ Turn [] w w' := by
  go_enter Try.func40, Try.ntmps40
  go_wp2
  go_ret
  exact ⟨rfl, ⟨heap_alloc_new w _, World.ownsRow_nil _ _ _ _, (by intro e; cases e), hm, by omega, by simp, by simp⟩, Turn.alloc [] w _⟩

set_option maxRecDepth 100000 in
theorem has_calls {w : World} {b : Nat} {most ticks : Int} {v : Value} {K : List (Int × Int)} (h : TimI w b most ticks v K) (x : Int) {m : Nat} (hm : m ≤ K.length)
    (hlo : ∀ i (hi : i < K.length), i < m → cmpZ K[i].1 x < 0) (hhi : ∀ i (hi : i < K.length), m ≤ i → 0 ≤ cmpZ K[i].1 x) :
    Calls Try.prog 46 #[.pointer (some ⟨b, 0, none⟩), .int .i64 x] w fun e w' => e = .returned (.bool (decide (m < K.length) && (cmpZ (K.getD m (0, 0)).1 x == 0))) ∧ Turn [] w w' := by
  have FC := Lib.hid (find_calls h x hm hlo hhi)
  obtain ⟨r, hr⟩ : ∃ r, r = (decide (m < K.length) && (cmpZ (K.getD m (0, 0)).1 x == 0)) := ⟨_, rfl⟩
  rw [← hr] at FC ⊢
  clear h hlo hhi hr
  go_enter Try.func46, Try.ntmps46
  go_wp2_with fail
  refine FC.out.mono ?_
  rintro e w1 ⟨rfl, t1⟩
  have T1 := Lib.hid t1
  clear t1 FC
  go_wp2
  go_ret
  exact ⟨rfl, T1.out⟩

set_option maxRecDepth 100000 in
/-- Age of somebody. -/
theorem age_is {w : World} {b : Nat} {most ticks : Int} {v : Value} {K : List (Int × Int)} (h : TimI w b most ticks v K) (x : Int) {m : Nat} (hm : m < K.length)
    (hlo : ∀ i (hi : i < K.length), i < m → cmpZ K[i].1 x < 0) (hhi : ∀ i (hi : i < K.length), m ≤ i → 0 ≤ cmpZ K[i].1 x) (hf : cmpZ (K.getD m (0, 0)).1 x = 0) :
    Calls Try.prog 44 #[.pointer (some ⟨b, 0, none⟩), .int .i64 x] w fun e w' => e = .returned (.int .i64 (ticks - (K.getD m (0, 0)).2)) ∧ Turn [] w w' := by
  have FC := Lib.hid (find_calls h x (Nat.le_of_lt hm) hlo hhi)
  rw [show (decide (m < K.length) && (cmpZ (K.getD m (0, 0)).1 x == 0)) = true by rw [hf]; simp [hm]] at FC
  have H := Lib.hid h
  obtain ⟨y, hy⟩ : ∃ y, y = (K.getD m (0, 0)).2 := ⟨_, rfl⟩
  have HR := Lib.hid hy
  rw [← hy]
  have HM := Lib.hid hm
  clear h hlo hhi hf hy hm
  go_enter Try.func44, Try.ntmps44
  go_wp2_with fail
  refine FC.out.mono ?_
  rintro e w1 ⟨rfl, t1⟩
  have AC := age_calls (H.out.turn t1 (by simp) (fun _ _ => by simp)) HM.out
  rw [← HR.out] at AC
  have HA := Lib.hid AC
  have T1 := Lib.hid t1
  clear t1 FC AC
  go_wp2_with fail
  refine HA.out.mono ?_
  rintro e w2 ⟨rfl, d2, rfl⟩
  have T2 := Lib.hid (T1.out.trans (Turn.drewN [] w1 d2) (by simp))
  clear HA
  go_wp2
  go_ret
  exact ⟨rfl, T2.out⟩

set_option maxRecDepth 100000 in
/-- Age of nobody. -/
theorem age_none {w : World} {b : Nat} {most ticks : Int} {v : Value} {K : List (Int × Int)} (h : TimI w b most ticks v K) (x : Int) {m : Nat} (hm : m ≤ K.length)
    (hlo : ∀ i (hi : i < K.length), i < m → cmpZ K[i].1 x < 0) (hhi : ∀ i (hi : i < K.length), m ≤ i → 0 ≤ cmpZ K[i].1 x) (hf : ¬ (m < K.length ∧ cmpZ (K.getD m (0, 0)).1 x = 0)) :
    Calls Try.prog 44 #[.pointer (some ⟨b, 0, none⟩), .int .i64 x] w fun e w' => e = .returned (.int .i64 (-1)) ∧ Turn [] w w' := by
  have FC := Lib.hid (find_calls h x hm hlo hhi)
  rw [found_no hf] at FC
  clear h hlo hhi hf hm
  go_enter Try.func44, Try.ntmps44
  go_wp2_with fail
  refine FC.out.mono ?_
  rintro e w1 ⟨rfl, t1⟩
  have T1 := Lib.hid t1
  clear t1 FC
  go_wp2
  go_ret
  exact ⟨rfl, T1.out⟩

/-- The ones' slice is another one now. -/
theorem TimI.put {w w2 : World} {b : Nat} {most ticks : Int} {v v2 : Value} {K K2 : List (Int × Int)} (h : TimI w b most ticks v K) (t : Turn v.ownBlock.toList w w2) (hr : w2.ownsRow 0 99 2 v2 K2.length (kcells K2))
    (ho : v2.ownBlock = v.ownBlock ∨ ∀ k, v2.ownBlock = some k → w.heap.size ≤ k) (hn : ∀ p ∈ K2, 0 ≤ p.2 ∧ p.2 ≤ ticks) (hf : K2.length ≤ 1000) :
    w2.heap[b]? = some (.cells #[.int .i64 most, .int .i64 ticks, v] 96) ∧ TimI (w2.setCell ⟨b, 2, none⟩ v2) b most ticks v2 K2 ∧ Turn (b :: v.ownBlock.toList) w (w2.setCell ⟨b, 2, none⟩ v2) := by
  have hb : b ∉ v.ownBlock.toList := fun hm => h.apart (Option.mem_toList.1 hm)
  have hd := t.heap h.head hb
  have hbw := lt_of_heap h.head
  have hap : v2.ownBlock ≠ some b := by
    intro e
    rcases ho with h1 | h1
    · exact h.apart (by rw [← h1]; exact e)
    · have := h1 b e; omega
  have ts : Turn [b] w2 (w2.setCell ⟨b, 2, none⟩ v2) := Turn.setCell _ (by simp) _
  refine ⟨hd, ⟨by rw [block_set hd]; rfl, ownsRow_turn hr ts (fun k hk hm => hap (by rw [hk, List.mem_singleton.1 hm])), hap, h.mo, h.ti, hn, hf⟩, ?_⟩
  exact (t.mono (fun i hi => .inl (List.mem_cons_of_mem _ hi))).trans ts (fun i hi => .inl (by rw [List.mem_singleton.1 hi]; simp))

theorem cells_of_head {w : World} {b : Nat} {x y v : Value} {t : TypeId} (h : w.heap[b]? = some (.cells #[x, y, v] t)) : w.cell? ⟨b, 0, none⟩ = some x ∧ w.cell? ⟨b, 1, none⟩ = some y ∧ w.cell? ⟨b, 2, none⟩ = some v ∧ w.frozen? ⟨b, 2, none⟩ = false := by
  refine ⟨?_, ?_, ?_, unfrozen_of h⟩ <;> rw [cell_of_row _ _ _ _ _ _ h] <;> rfl

set_option maxHeartbeats 2000000 in
set_option maxRecDepth 100000 in
/-- Gone of somebody. -/
theorem gone_is {w : World} {b : Nat} {most ticks : Int} {v : Value} {K : List (Int × Int)} (h : TimI w b most ticks v K) (x : Int) {m : Nat} (hm : m < K.length)
    (hlo : ∀ i (hi : i < K.length), i < m → cmpZ K[i].1 x < 0) (hhi : ∀ i (hi : i < K.length), m ≤ i → 0 ≤ cmpZ K[i].1 x) (hf : cmpZ (K.getD m (0, 0)).1 x = 0) :
    Calls Try.prog 45 #[.pointer (some ⟨b, 0, none⟩), .int .i64 x] w fun e w' =>
      ∃ v', e = .returned (.bool true) ∧ TimI w' b most ticks v' (delK K m) ∧ v'.ownBlock = v.ownBlock ∧ Turn (b :: v.ownBlock.toList) w w' := by
  have FC := Lib.hid (find_calls h x (Nat.le_of_lt hm) hlo hhi)
  rw [show (decide (m < K.length) && (cmpZ (K.getD m (0, 0)).1 x == 0)) = true by rw [hf]; simp [hm]] at FC
  have H := Lib.hid h
  have hfew := h.few
  obtain ⟨ao0, cp0, hv0, -⟩ := ones_at h.row
  obtain ⟨L, hL⟩ : ∃ L, L = K.length := ⟨_, rfl⟩
  rw [← hL] at hv0 hm hfew
  have HL := Lib.hid hL
  have HM := Lib.hid hm
  subst hv0
  clear h hlo hhi hf hL
  have hb1 : (m : Int) < (L : Int) := by omega
  go_enter Try.func45, Try.ntmps45
  go_wp2_with fail
  refine FC.out.mono ?_
  rintro e w1 ⟨rfl, t1⟩
  have h1 := H.out.turn t1 (by simp) (fun _ _ => by simp)
  obtain ⟨c0, c1, c2⟩ := h1.cells
  have DC := delete_calls h1.row h1.few (i := m) (by rw [← HL.out]; exact HM.out)
  rw [show ((m + 1 : Nat) : Int) = (m : Int) + 1 by omega] at DC
  have HDC := Lib.hid DC
  have H1 := Lib.hid h1
  have T1 := Lib.hid t1
  clear h1 DC t1 FC
  go_wp2_with fail
  refine HDC.out.mono ?_
  rintro e w2 ⟨v2, rfl, hr2, ho2, t2⟩
  obtain ⟨l2, hl2⟩ : ∃ l, l = (delK K m).length := ⟨_, rfl⟩
  obtain ⟨ao2, cp2, hv2⟩ := owns_slice hr2
  rw [← hl2] at hv2
  subst hv2
  obtain ⟨hd2, h3, t3⟩ := H1.out.put t2 hr2 (.inl ho2) (fun p hp => H1.out.nums p (delK_mem hp)) (by rw [delK_length (by rw [← HL.out]; exact HM.out), ← HL.out]; omega)
  obtain ⟨d0, d1, d2, d3⟩ := cells_of_head hd2
  have H3 := Lib.hid h3
  have T3 := Lib.hid ((T1.out.mono (by simp)).trans t3 (fun i hi => .inl hi))
  have HO := Lib.hid ho2
  clear hd2 h3 t3 hr2 ho2 t2 HDC hl2
  go_wp2
  go_ret
  exact ⟨_, rfl, H3.out, HO.out, T3.out⟩

set_option maxRecDepth 100000 in
/-- Gone of nobody. -/
theorem gone_none {w : World} {b : Nat} {most ticks : Int} {v : Value} {K : List (Int × Int)} (h : TimI w b most ticks v K) (x : Int) {m : Nat} (hm : m ≤ K.length)
    (hlo : ∀ i (hi : i < K.length), i < m → cmpZ K[i].1 x < 0) (hhi : ∀ i (hi : i < K.length), m ≤ i → 0 ≤ cmpZ K[i].1 x) (hf : ¬ (m < K.length ∧ cmpZ (K.getD m (0, 0)).1 x = 0)) :
    Calls Try.prog 45 #[.pointer (some ⟨b, 0, none⟩), .int .i64 x] w fun e w' => e = .returned (.bool false) ∧ Turn [] w w' := by
  have FC := Lib.hid (find_calls h x hm hlo hhi)
  rw [found_no hf] at FC
  clear h hlo hhi hf hm
  go_enter Try.func45, Try.ntmps45
  go_wp2_with fail
  refine FC.out.mono ?_
  rintro e w1 ⟨rfl, t1⟩
  have T1 := Lib.hid t1
  clear t1 FC
  go_wp2
  go_ret
  exact ⟨rfl, T1.out⟩

end Go.Proofs.Ytikbldnekehodaa.L
