/-
  Of the texts LTimQ LTimH LTimA LTimAll Kd Il Kr Krec Keq Lrec Is8 Own8 ClnP Srx Phase Pq, in build order, each as it was built alone.
-/
import Derived.Test.YtjmainefmiefcaaGreatPkAA
import Derived.Deep.RegionWith
import Derived.LoopTactic
import Derived.BigQuiet
import Derived.Deep.QuietTactic
import Derived.WideShapes
import Derived.Deep.RegionHeldLaw
import Derived.Maps.AppendAt
import Derived.Lib.MinMax
import Derived.Laws.AppendOwnNone
import Derived.Laws.OwnMore
import Derived.OrdersHeld
import Derived.StillTail
import Derived.Deep.RegionHeld3

/-
  What a timer of int64s tells: New, Has, Age, Heard, Gone.
-/
namespace Go.Proofs.YtjmainefmiefcaaGreat.L
open Go.RowKit

set_option maxRecDepth 100000 in
theorem new_calls (most : Int) (hm : inI64 most) (w : World) : Calls Tryz.prog 38 #[.int .i64 most] w fun e w' =>
    e = .returned (.pointer (some ⟨w.heap.size, 0, none⟩)) ∧ TimI w' w.heap.size most 0 (.slice none 0 0) [] ∧ Turn [] w w' := by
  go_enter Tryz.func38, Tryz.ntmps38
  go_wp2
  go_ret
  exact ⟨rfl, ⟨heap_alloc_new w _, World.ownsRow_nil _ _ _ _, (by intro e; cases e), hm, by omega, by simp, by simp⟩, Turn.alloc [] w _⟩

set_option maxRecDepth 100000 in
theorem has_calls {w : World} {b : Nat} {most ticks : Int} {v : Value} {K : List (Int × Int)} (h : TimI w b most ticks v K) (x : Int) {m : Nat} (hm : m ≤ K.length)
    (hlo : ∀ i (hi : i < K.length), i < m → cmpZ K[i].1 x < 0) (hhi : ∀ i (hi : i < K.length), m ≤ i → 0 ≤ cmpZ K[i].1 x) :
    Calls Tryz.prog 41 #[.pointer (some ⟨b, 0, none⟩), .int .i64 x] w fun e w' => e = .returned (.bool (decide (m < K.length) && (cmpZ (K.getD m (0, 0)).1 x == 0))) ∧ Turn [] w w' := by
  have FC := Lib.hid (find_calls h x hm hlo hhi)
  obtain ⟨r, hr⟩ : ∃ r, r = (decide (m < K.length) && (cmpZ (K.getD m (0, 0)).1 x == 0)) := ⟨_, rfl⟩
  rw [← hr] at FC ⊢
  clear h hlo hhi hr
  go_enter Tryz.func41, Tryz.ntmps41
  go_wp2_with fail
  refine FC.out.mono ?_
  rintro e w1 ⟨rfl, t1⟩
  have T1 := Lib.hid t1
  clear t1 FC
  go_wp2
  go_ret
  exact ⟨rfl, T1.out⟩

set_option maxRecDepth 100000 in
/-- Age of somebody. -/
theorem age_is {w : World} {b : Nat} {most ticks : Int} {v : Value} {K : List (Int × Int)} (h : TimI w b most ticks v K) (x : Int) {m : Nat} (hm : m < K.length)
    (hlo : ∀ i (hi : i < K.length), i < m → cmpZ K[i].1 x < 0) (hhi : ∀ i (hi : i < K.length), m ≤ i → 0 ≤ cmpZ K[i].1 x) (hf : cmpZ (K.getD m (0, 0)).1 x = 0) :
    Calls Tryz.prog 65 #[.pointer (some ⟨b, 0, none⟩), .int .i64 x] w fun e w' => e = .returned (.int .i64 (ticks - (K.getD m (0, 0)).2)) ∧ Turn [] w w' := by
  have FC := Lib.hid (find_calls h x (Nat.le_of_lt hm) hlo hhi)
  rw [show (decide (m < K.length) && (cmpZ (K.getD m (0, 0)).1 x == 0)) = true by rw [hf]; simp [hm]] at FC
  have H := Lib.hid h
  obtain ⟨y, hy⟩ : ∃ y, y = (K.getD m (0, 0)).2 := ⟨_, rfl⟩
  have HR := Lib.hid hy
  rw [← hy]
  have HM := Lib.hid hm
  clear h hlo hhi hf hy hm
  go_enter Tryz.func65, Tryz.ntmps65
  go_wp2_with fail
  refine FC.out.mono ?_
  rintro e w1 ⟨rfl, t1⟩
  have AC := age_calls (H.out.turn t1 (by simp) (fun _ _ => by simp)) HM.out
  rw [← HR.out] at AC
  have HA := Lib.hid AC
  have T1 := Lib.hid t1
  clear t1 FC AC
  go_wp2_with fail
  refine HA.out.mono ?_
  rintro e w2 ⟨rfl, d2, rfl⟩
  have T2 := Lib.hid (T1.out.trans (Turn.drewN [] w1 d2) (by simp))
  clear HA
  go_wp2
  go_ret
  exact ⟨rfl, T2.out⟩

set_option maxRecDepth 100000 in
/-- Age of nobody. -/
theorem age_none {w : World} {b : Nat} {most ticks : Int} {v : Value} {K : List (Int × Int)} (h : TimI w b most ticks v K) (x : Int) {m : Nat} (hm : m ≤ K.length)
    (hlo : ∀ i (hi : i < K.length), i < m → cmpZ K[i].1 x < 0) (hhi : ∀ i (hi : i < K.length), m ≤ i → 0 ≤ cmpZ K[i].1 x) (hf : ¬ (m < K.length ∧ cmpZ (K.getD m (0, 0)).1 x = 0)) :
    Calls Tryz.prog 65 #[.pointer (some ⟨b, 0, none⟩), .int .i64 x] w fun e w' => e = .returned (.int .i64 (-1)) ∧ Turn [] w w' := by
  have FC := Lib.hid (find_calls h x hm hlo hhi)
  rw [found_no hf] at FC
  clear h hlo hhi hf hm
  go_enter Tryz.func65, Tryz.ntmps65
  go_wp2_with fail
  refine FC.out.mono ?_
  rintro e w1 ⟨rfl, t1⟩
  have T1 := Lib.hid t1
  clear t1 FC
  go_wp2
  go_ret
  exact ⟨rfl, T1.out⟩

/-- The ones' slice is another one now. -/
theorem TimI.put {w w2 : World} {b : Nat} {most ticks : Int} {v v2 : Value} {K K2 : List (Int × Int)} (h : TimI w b most ticks v K) (t : Turn v.ownBlock.toList w w2) (hr : w2.ownsRow 0 86 2 v2 K2.length (kcells K2))
    (ho : v2.ownBlock = v.ownBlock ∨ ∀ k, v2.ownBlock = some k → w.heap.size ≤ k) (hn : ∀ p ∈ K2, 0 ≤ p.2 ∧ p.2 ≤ ticks) (hf : K2.length ≤ 1000) :
    w2.heap[b]? = some (.cells #[.int .i64 most, .int .i64 ticks, v] 82) ∧ TimI (w2.setCell ⟨b, 2, none⟩ v2) b most ticks v2 K2 ∧ Turn (b :: v.ownBlock.toList) w (w2.setCell ⟨b, 2, none⟩ v2) := by
  have hb : b ∉ v.ownBlock.toList := fun hm => h.apart (Option.mem_toList.1 hm)
  have hd := t.heap h.head hb
  have hbw := lt_of_heap h.head
  have hap : v2.ownBlock ≠ some b := by
    intro e
    rcases ho with h1 | h1
    · exact h.apart (by rw [← h1]; exact e)
    · have := h1 b e; omega
  have ts : Turn [b] w2 (w2.setCell ⟨b, 2, none⟩ v2) := Turn.setCell _ (by simp) _
  refine ⟨hd, ⟨by rw [block_set hd]; rfl, ownsRow_turn hr ts (fun k hk hm => hap (by rw [hk, List.mem_singleton.1 hm])), hap, h.mo, h.ti, hn, hf⟩, ?_⟩
  exact (t.mono (fun i hi => .inl (List.mem_cons_of_mem _ hi))).trans ts (fun i hi => .inl (by rw [List.mem_singleton.1 hi]; simp))

theorem cells_of_head {w : World} {b : Nat} {x y v : Value} {t : TypeId} (h : w.heap[b]? = some (.cells #[x, y, v] t)) : w.cell? ⟨b, 0, none⟩ = some x ∧ w.cell? ⟨b, 1, none⟩ = some y ∧ w.cell? ⟨b, 2, none⟩ = some v ∧ w.frozen? ⟨b, 2, none⟩ = false := by
  refine ⟨?_, ?_, ?_, unfrozen_of h⟩ <;> rw [cell_of_row _ _ _ _ _ _ h] <;> rfl

set_option maxHeartbeats 2000000 in
set_option maxRecDepth 100000 in
/-- Gone of somebody. -/
theorem gone_is {w : World} {b : Nat} {most ticks : Int} {v : Value} {K : List (Int × Int)} (h : TimI w b most ticks v K) (x : Int) {m : Nat} (hm : m < K.length)
    (hlo : ∀ i (hi : i < K.length), i < m → cmpZ K[i].1 x < 0) (hhi : ∀ i (hi : i < K.length), m ≤ i → 0 ≤ cmpZ K[i].1 x) (hf : cmpZ (K.getD m (0, 0)).1 x = 0) :
    Calls Tryz.prog 43 #[.pointer (some ⟨b, 0, none⟩), .int .i64 x] w fun e w' =>
      ∃ v', e = .returned (.bool true) ∧ TimI w' b most ticks v' (delK K m) ∧ v'.ownBlock = v.ownBlock ∧ Turn (b :: v.ownBlock.toList) w w' := by
  have FC := Lib.hid (find_calls h x (Nat.le_of_lt hm) hlo hhi)
  rw [show (decide (m < K.length) && (cmpZ (K.getD m (0, 0)).1 x == 0)) = true by rw [hf]; simp [hm]] at FC
  have H := Lib.hid h
  have hfew := h.few
  obtain ⟨ao0, cp0, hv0, -⟩ := ones_at h.row
  obtain ⟨L, hL⟩ : ∃ L, L = K.length := ⟨_, rfl⟩
  rw [← hL] at hv0 hm hfew
  have HL := Lib.hid hL
  have HM := Lib.hid hm
  subst hv0
  clear h hlo hhi hf hL
  have hb1 : (m : Int) < (L : Int) := by omega
  go_enter Tryz.func43, Tryz.ntmps43
  go_wp2_with fail
  refine FC.out.mono ?_
  rintro e w1 ⟨rfl, t1⟩
  have h1 := H.out.turn t1 (by simp) (fun _ _ => by simp)
  obtain ⟨c0, c1, c2⟩ := h1.cells
  have DC := delete_calls h1.row h1.few (i := m) (by rw [← HL.out]; exact HM.out)
  rw [show ((m + 1 : Nat) : Int) = (m : Int) + 1 by omega] at DC
  have HDC := Lib.hid DC
  have H1 := Lib.hid h1
  have T1 := Lib.hid t1
  clear h1 DC t1 FC
  go_wp2_with fail
  refine HDC.out.mono ?_
  rintro e w2 ⟨v2, rfl, hr2, ho2, t2⟩
  obtain ⟨l2, hl2⟩ : ∃ l, l = (delK K m).length := ⟨_, rfl⟩
  obtain ⟨ao2, cp2, hv2⟩ := owns_slice hr2
  rw [← hl2] at hv2
  subst hv2
  obtain ⟨hd2, h3, t3⟩ := H1.out.put t2 hr2 (.inl ho2) (fun p hp => H1.out.nums p (delK_mem hp)) (by rw [delK_length (by rw [← HL.out]; exact HM.out), ← HL.out]; omega)
  obtain ⟨d0, d1, d2, d3⟩ := cells_of_head hd2
  have H3 := Lib.hid h3
  have T3 := Lib.hid ((T1.out.mono (by simp)).trans t3 (fun i hi => .inl hi))
  have HO := Lib.hid ho2
  clear hd2 h3 t3 hr2 ho2 t2 HDC hl2
  go_wp2
  go_ret
  exact ⟨_, rfl, H3.out, HO.out, T3.out⟩

set_option maxRecDepth 100000 in
/-- Gone of nobody. -/
theorem gone_none {w : World} {b : Nat} {most ticks : Int} {v : Value} {K : List (Int × Int)} (h : TimI w b most ticks v K) (x : Int) {m : Nat} (hm : m ≤ K.length)
    (hlo : ∀ i (hi : i < K.length), i < m → cmpZ K[i].1 x < 0) (hhi : ∀ i (hi : i < K.length), m ≤ i → 0 ≤ cmpZ K[i].1 x) (hf : ¬ (m < K.length ∧ cmpZ (K.getD m (0, 0)).1 x = 0)) :
    Calls Tryz.prog 43 #[.pointer (some ⟨b, 0, none⟩), .int .i64 x] w fun e w' => e = .returned (.bool false) ∧ Turn [] w w' := by
  have FC := Lib.hid (find_calls h x hm hlo hhi)
  rw [found_no hf] at FC
  clear h hlo hhi hf hm
  go_enter Tryz.func43, Tryz.ntmps43
  go_wp2_with fail
  refine FC.out.mono ?_
  rintro e w1 ⟨rfl, t1⟩
  have T1 := Lib.hid t1
  clear t1 FC
  go_wp2
  go_ret
  exact ⟨rfl, T1.out⟩

end Go.Proofs.YtjmainefmiefcaaGreat.L


/-
  A timer of int64s: Heard.
-/
namespace Go.Proofs.YtjmainefmiefcaaGreat.L
open Go.RowKit

theorem mem_set {K : List (Int × Int)} {m : Nat} {t : Int} (h : ∀ p ∈ K, 0 ≤ p.2 ∧ p.2 ≤ t) (h0 : 0 ≤ t) : ∀ p ∈ K.set m ((K.getD m (0, 0)).1, t), 0 ≤ p.2 ∧ p.2 ≤ t := by
  intro p hp
  rcases List.mem_or_eq_of_mem_set hp with h1 | rfl
  · exact h p h1
  · exact ⟨h0, Int.le_refl _⟩

set_option maxHeartbeats 2000000 in
set_option maxRecDepth 100000 in
/-- Heard of somebody. -/
theorem heard_is {w : World} {b : Nat} {most ticks : Int} {v : Value} {K : List (Int × Int)} (h : TimI w b most ticks v K) (x : Int) {m : Nat} (hm : m < K.length)
    (hlo : ∀ i (hi : i < K.length), i < m → cmpZ K[i].1 x < 0) (hhi : ∀ i (hi : i < K.length), m ≤ i → 0 ≤ cmpZ K[i].1 x) (hf : cmpZ (K.getD m (0, 0)).1 x = 0) :
    Calls Tryz.prog 42 #[.pointer (some ⟨b, 0, none⟩), .int .i64 x] w fun e w' =>
      e = .returned (.bool false) ∧ TimI w' b most ticks v (K.set m ((K.getD m (0, 0)).1, ticks)) ∧ Turn (b :: v.ownBlock.toList) w w' := by
  have FC := Lib.hid (find_calls h x (Nat.le_of_lt hm) hlo hhi)
  rw [show (decide (m < K.length) && (cmpZ (K.getD m (0, 0)).1 x == 0)) = true by rw [hf]; simp [hm]] at FC
  have hgd : K.getD m (0, 0) = K[m] := by simp [List.getD, hm]
  obtain ⟨-, ⟨-, h0⟩ | ⟨g, cap, cur, rfl, -, hg, hle, hmx, hsz, htk⟩⟩ := id h.row
  · omega
  have hgb : g ≠ b := fun e => h.apart (by rw [← e]; rfl)
  obtain ⟨L, hL⟩ : ∃ L, L = K.length := ⟨_, rfl⟩
  have ST : Hid (∀ wx, Turn [] w wx → TimI (wx.setCell ⟨g, m * 2 + 1, none⟩ (.int .i64 ticks)) b most ticks (.slice (some ⟨g, 0, none⟩) K.length cap) (K.set m ((K.getD m (0, 0)).1, ticks)) ∧ Turn (b :: (Value.slice (some ⟨g, 0, none⟩) K.length cap).ownBlock.toList) w (wx.setCell ⟨g, m * 2 + 1, none⟩ (.int .i64 ticks))) := Lib.hid (fun wx tx => by
    have hx := h.turn tx (by simp) (fun _ _ => by simp)
    have ts : Turn [g] wx (wx.setCell ⟨g, m * 2 + 1, none⟩ (.int .i64 ticks)) := Turn.setCell _ (by simp) _
    refine ⟨⟨ts.heap hx.head (by simpa using fun e => hgb e.symm), ?_, h.apart, h.mo, h.ti, mem_set h.nums h.ti.1, by rw [List.length_set]; exact h.few⟩, (tx.mono (by simp)).trans ts (fun i hi => .inl (by rw [List.mem_singleton.1 hi]; simp [Value.ownBlock]))⟩
    have h1 := (hx.row.stored (m * 2 + 1) (.int .i64 ticks)).1
    rw [List.length_set, hgd, kcells_set K m hm ticks]
    exact h1)
  have H := Lib.hid h
  rw [← hL] at hm hle
  have HL := Lib.hid hL
  have hb1 : 0 ≤ (m : Int) ∧ (m : Int) < (L : Int) := by omega
  rw [← hL]
  rw [← hL] at ST H
  clear h hlo hhi hf hL hsz htk hgd
  go_enter Tryz.func42, Tryz.ntmps42
  go_wp2_with fail
  refine FC.out.mono ?_
  rintro e w1 ⟨rfl, t1⟩
  have h1 := H.out.turn t1 (by simp) (fun _ _ => by simp)
  obtain ⟨c0, c1, c2⟩ := h1.cells
  have hfz : w1.frozen? ⟨g, m * 2 + 1, none⟩ = false := unfrozen_of (t1.heap hg (by simp))
  obtain ⟨y, hy⟩ : ∃ y, w1.cell? ⟨g, m * 2 + 1, none⟩ = some y := by
    obtain ⟨ao, cp, he, -, -, hat⟩ := ones_at h1.row
    obtain ⟨g', rfl, -, h2⟩ := hat m (by rw [← HL.out]; exact hm)
    simp only [Value.slice.injEq, Option.some.injEq, Addr.mk.injEq, and_true] at he
    rw [he.1]
    exact ⟨_, h2⟩
  have ST1 := Lib.hid (ST.out _ t1)
  clear h1 t1 FC hg ST
  go_wp2_with fail
  go_region
  go_wp2
  go_ret
  exact ⟨rfl, ST1.out.1.turn (Turn.drew [] _) (by simp) (fun _ _ => by simp), ST1.out.2.trans (Turn.drew [] _) (by simp)⟩

set_option maxHeartbeats 2000000 in
set_option maxRecDepth 100000 in
/-- Heard of somebody new. -/
theorem heard_new {w : World} {b : Nat} {most ticks : Int} {v : Value} {K : List (Int × Int)} (h : TimI w b most ticks v K) (x : Int) (hfew : K.length ≤ 999) {m : Nat} (hm : m ≤ K.length)
    (hlo : ∀ i (hi : i < K.length), i < m → cmpZ K[i].1 x < 0) (hhi : ∀ i (hi : i < K.length), m ≤ i → 0 ≤ cmpZ K[i].1 x) (hf : ¬ (m < K.length ∧ cmpZ (K.getD m (0, 0)).1 x = 0)) :
    Calls Tryz.prog 42 #[.pointer (some ⟨b, 0, none⟩), .int .i64 x] w fun e w' =>
      ∃ v', e = .returned (.bool true) ∧ TimI w' b most ticks v' (insK K m (x, ticks)) ∧ (v'.ownBlock = v.ownBlock ∨ ∀ k, v'.ownBlock = some k → w.heap.size ≤ k) ∧ Turn (b :: v.ownBlock.toList) w w' := by
  have FC := Lib.hid (find_calls h x hm hlo hhi)
  rw [found_no hf] at FC
  have H := Lib.hid h
  obtain ⟨ao0, cp0, hv0, -⟩ := ones_at h.row
  obtain ⟨L, hL⟩ : ∃ L, L = K.length := ⟨_, rfl⟩
  rw [← hL] at hv0 hm hfew
  have HL := Lib.hid hL
  have HM := Lib.hid hm
  have HF := Lib.hid hfew
  subst hv0
  clear h hlo hhi hf hL
  go_enter Tryz.func42, Tryz.ntmps42
  go_wp2_with fail
  refine FC.out.mono ?_
  rintro e w1 ⟨rfl, t1⟩
  have h1 := H.out.turn t1 (by simp) (fun _ _ => by simp)
  obtain ⟨c0, c1, c2⟩ := h1.cells
  have H1 := Lib.hid h1
  have T1 := Lib.hid t1
  have IC : Hid (∀ wx, Turn [] w1 wx → wx.heap[w1.heap.size]? = some (.cells #[.int .i64 x, .int .i64 ticks] 86) →
      Calls Tryz.prog 54 #[.slice ao0 L cp0, .int .i64 (m : Int), .slice (some ⟨w1.heap.size, 0, none⟩) 1 1] wx fun e w3 =>
        ∃ ao3 cp3, e = .returned (.slice ao3 (L + 1) cp3) ∧ w3.cell? ⟨b, 2, none⟩ = some (.slice ao0 L cp0) ∧ w3.frozen? ⟨b, 2, none⟩ = false ∧
          TimI (w3.setCell ⟨b, 2, none⟩ (.slice ao3 (L + 1) cp3)) b most ticks (.slice ao3 (L + 1) cp3) (insK K m (x, ticks)) ∧
          ((Value.slice ao3 (L + 1) cp3).ownBlock = (Value.slice ao0 L cp0).ownBlock ∨ ∀ k, (Value.slice ao3 (L + 1) cp3).ownBlock = some k → w.heap.size ≤ k) ∧
          Turn (b :: (Value.slice ao0 L cp0).ownBlock.toList) w (w3.setCell ⟨b, 2, none⟩ (.slice ao3 (L + 1) cp3))) := Lib.hid (fun wx tx hx => by
    have h2 := H1.out.turn tx (by simp) (fun _ _ => by simp)
    have hne : (Value.slice ao0 L cp0).ownBlock ≠ some w1.heap.size := fun e => by have := (H1.out.row.lt _ e).2; omega
    refine (insert_calls h2.row h2.few (i := m) (by rw [← HL.out]; exact HM.out) (x, ticks) hx hne).mono ?_
    rintro e w3 ⟨v3, rfl, hr3, ho3, t3⟩
    have hl3 : (insK K m (x, ticks)).length = L + 1 := by rw [insK_length (by rw [← HL.out]; exact HM.out), HL.out]
    rw [← HL.out] at hr3
    obtain ⟨ao3, cp3, hv3⟩ := owns_slice hr3
    subst hv3
    have ho3' : (Value.slice ao3 (L + 1) cp3).ownBlock = (Value.slice ao0 L cp0).ownBlock ∨ ∀ k, (Value.slice ao3 (L + 1) cp3).ownBlock = some k → w1.heap.size ≤ k := by
      rcases ho3 with e | e
      · exact .inl e
      · refine .inr (fun k hk => ?_)
        rw [e] at hk
        have := Option.some.inj hk
        have := tx.size
        omega
    have t13 := (tx.mono (l' := (Value.slice ao0 L cp0).ownBlock.toList) (by simp)).trans t3 (fun i hi => .inl hi)
    obtain ⟨hd3, h4, t4⟩ := H1.out.put (K2 := insK K m (x, ticks)) t13 (by rw [hl3]; exact hr3) ho3' (fun p hp => by
      rcases List.mem_append.1 hp with h5 | h5
      · exact H1.out.nums p (List.mem_of_mem_take h5)
      · rcases List.mem_cons.1 h5 with rfl | h6
        · exact ⟨H1.out.ti.1, Int.le_refl _⟩
        · exact H1.out.nums p (List.mem_of_mem_drop h6)) (by rw [hl3]; have := HF.out; omega)
    obtain ⟨d0, d1, d2, d3⟩ := cells_of_head hd3
    exact ⟨ao3, cp3, rfl, d2, d3, h4, ho3'.imp id (fun h5 k hk => Nat.le_trans T1.out.size (h5 k hk)), (T1.out.mono (by simp)).trans t4 (fun i hi => .inl hi)⟩)
  clear h1 t1 FC
  go_wp2_with fail
  have c2a : (w1.alloc (.cells #[.int .i64 x, .int .i64 ticks] 86)).cell? ⟨b, 2, none⟩ = some (.slice ao0 L cp0) := (Turn.alloc [] w1 _).cell c2 (by simp)
  go_region_with (go_at_call 54; refine (IC.out _ ?h1 ?h2).mono ?_; (case h1 => first | exact (Turn.alloc [] w1 _).trans (Turn.drew [] _) (by simp) | exact (Turn.drew [] w1).trans (Turn.alloc [] _ _) (by simp)); (case h2 => exact heap_alloc_new w1 _); rintro e w3 ⟨ao3, cp3, rfl, d2, d3, h4, ho4, t4⟩; have H4 := Lib.hid h4; have HO4 := Lib.hid ho4; have T4 := Lib.hid t4; clear h4 ho4 t4)
  all_goals go_wp2
  all_goals go_ret
  all_goals exact ⟨_, rfl, H4.out, HO4.out, T4.out⟩

end Go.Proofs.YtjmainefmiefcaaGreat.L


/-
  A timer of int64s: All, Tick.
-/
namespace Go.Proofs.YtjmainefmiefcaaGreat.L
open Go.RowKit

theorem Tryz.introw : (Tryz.prog.info? 2).map (fun i => (i.zero, i.size, i.bytes)) = some (some (.int .i64 0), 1, 8) := by kernel_rfl

theorem append_one {w : World} {ops : Array Oper} {rest : List Oper} {o : Oper} {a : Act} {Q : Exit → Act → World → Prop} (hgd : o.guard = none) (s x : Operand)
    (ho : o.op = .call { callee := .builtin .append, args := #[s, x], argTypes := #[37, 37] })
    (v : Value) (xs : List Value) (hs : a.eval s = v) (hown : w.ownsRow 0 2 1 v xs.length xs) (A : Nat) (y : Int) (hx : a.eval x = .slice (some ⟨A, 0, none⟩) 1 1) (hc : w.cell? ⟨A, 0, none⟩ = some (.int .i64 y))
    (hlen : xs.length ≤ 100000)
    (h : ∀ v' w', w'.ownsRow 0 2 1 v' (xs ++ [Value.int .i64 y]).length (xs ++ [Value.int .i64 y]) → w.grownBy w' v.ownBlock → (v'.ownBlock = v.ownBlock ∨ v'.ownBlock = some w.heap.size) → wpList Tryz.prog ops Q rest (a.put o.dst v') w') : wpList Tryz.prog ops Q (o :: rest) a w := by
  obtain ⟨i0, hi, hz0, hz1, hz2⟩ := info_parts Tryz.introw
  refine wpList_append_own_at w hgd s x 37 ho 0 2 i0 (.int .i64 0) 1 8 Tryz.underlying37 hi hz0 hz1 hz2 rfl (by decide) v xs.length xs hs hown ⟨A, 0, none⟩ 1 1 [.int .i64 y] hx (by simp)
    (fun j u hj => by
      match j, hj with
      | 0, hj => simp at hj; rw [← hj, Addr.add_lit]; exact hc
      | j + 1, hj => simp at hj) (by intro u hu; simp at hu; rw [hu]; rfl) (by unfold maxLen; omega) (by omega) (Nat.zero_le _) ?_
  intro v' w' hown' hg hn hloc
  exact h v' w' (by rw [List.length_append]; exact hown') hg hloc

/-- Who was silent for so long. -/
def silK (most t : Int) (K : List (Int × Int)) : List Value := (K.filter fun p => decide (most ≤ t - p.2)).map fun p => Value.int .i64 p.1

theorem silK_length (most t : Int) (K : List (Int × Int)) : (silK most t K).length ≤ K.length := by
  unfold silK
  rw [List.length_map]
  exact List.length_filter_le _ _

theorem silK_succ {most t : Int} {K : List (Int × Int)} {k : Nat} (h : k < K.length) : silK most t (K.take (k + 1)) = if most ≤ t - K[k].2 then silK most t (K.take k) ++ [.int .i64 K[k].1] else silK most t (K.take k) := by
  unfold silK
  rw [List.take_succ_eq_append_getElem h, List.filter_append, List.map_append]
  by_cases hc : most ≤ t - K[k].2
  · rw [if_pos hc, List.filter_cons_of_pos (by simpa using hc)]
    rfl
  · rw [if_neg hc, List.filter_cons_of_neg (by simpa using hc)]
    simp

set_option maxHeartbeats 4000000 in
set_option maxRecDepth 100000 in
/-- Tick. -/
theorem tick_calls {w : World} {b : Nat} {most ticks : Int} {v : Value} {K : List (Int × Int)} (h : TimI w b most ticks v K) (hti : ticks ≤ 999999) : Calls Tryz.prog 44 #[.pointer (some ⟨b, 0, none⟩)] w fun e w' =>
    ∃ sv, e = .returned sv ∧ w'.ownsRow 0 2 1 sv (silK most (ticks + 1) K).length (silK most (ticks + 1) K) ∧ (∀ q, sv.ownBlock = some q → w.heap.size ≤ q) ∧ TimI w' b most (ticks + 1) v K ∧ Turn [b] w w' := by
  obtain ⟨n, hn⟩ : ∃ n, n = K.length := ⟨_, rfl⟩
  have HN := Lib.hid hn
  obtain ⟨ao0, cp0, rfl, hle0, hmx0, -⟩ := ones_at h.row
  have htb := h.ti
  obtain ⟨w1, hw1⟩ : ∃ w1, w1 = w.setCell ⟨b, 1, none⟩ (.int .i64 (ticks + 1)) := ⟨_, rfl⟩
  have ts : Turn [b] w w1 := by rw [hw1]; exact Turn.setCell _ (by simp) _
  have h1 : TimI w1 b most (ticks + 1) (.slice ao0 K.length cp0) K := ⟨by rw [hw1, block_set h.head]; rfl, ownsRow_turn h.row ts (fun k hk hm => h.apart (by rw [hk, List.mem_singleton.1 hm])), h.apart, h.mo, by omega, fun p hp => by have := h.nums p hp; omega, h.few⟩
  obtain ⟨c0, c1, c2⟩ := h.cells
  have hfz : w.frozen? ⟨b, 1, none⟩ = false := unfrozen_of h.head
  have H1 := Lib.hid h1
  have T1 := Lib.hid ts
  have HW := Lib.hid hw1
  have hfew := h.few
  obtain ⟨t, ht⟩ : ∃ t, t = ticks + 1 := ⟨_, rfl⟩
  rw [← hn] at hfew c2 hle0
  rw [← ht]
  rw [← ht] at H1
  have htb2 : 0 ≤ t ∧ t ≤ 1000000 := by omega
  have hmo := h.mo
  unfold inI64 at hmo
  clear h h1 hn ts hw1 ht
  go_enter Tryz.func44, Tryz.ntmps44
  go_wp2_with fail
  rw [← HW.out]
  clear c0 c1 c2 hfz
  go_loopw [3, 19] (fun sv vk wx => ∃ k : Nat, k ≤ n ∧ vk = .int .i64 (k : Int) ∧ wx.ownsRow 0 2 1 sv (silK most t (K.take k)).length (silK most t (K.take k)) ∧ (∀ q, sv.ownBlock = some q → w1.heap.size ≤ q) ∧ Turn [] w1 wx) (fun _ vk _ => n - (intOf vk).toNat)
  case atStart => exact ⟨0, by omega, rfl, World.ownsRow_nil _ _ _ _, (by intro q e; cases e), Turn.refl _ _⟩
  case round =>
    obtain ⟨k, hk, rfl, hr, ho, ht⟩ := hrel
    have hx := H1.out.turn ht (by simp) (fun _ _ => by simp)
    have R := Lib.hid hr
    have O := Lib.hid ho
    have T := Lib.hid ht
    obtain ⟨d0, d1, d2⟩ := hx.cells
    rw [← HN.out] at d2
    by_cases hkn : k < n
    · have hkl : k < K.length := by rw [← HN.out]; exact hkn
      obtain ⟨ao, cp, he, -, -, hat⟩ := ones_at hx.row
      obtain ⟨g, rfl, hk0, hk1⟩ := hat k hkl
      simp only [Value.slice.injEq, true_and] at he
      obtain ⟨rfl, rfl⟩ := he
      have AC := Lib.hid (fun d => age_calls (hx.turn (Turn.drewN [] _ d) (by simp) (fun _ _ => by simp)) hkl)
      have hgd : K.getD k (0, 0) = K[k] := by simp [List.getD, hkl]
      rw [hgd] at AC
      have hsl := silK_length most t (K.take k)
      have hsl2 : (K.take k).length ≤ n := by rw [List.length_take]; omega
      have SC := silK_succ (most := most) (t := t) hkl
      obtain ⟨x, hxx⟩ : ∃ x, x = K[k].1 := ⟨_, rfl⟩
      obtain ⟨y, hyy⟩ : ∃ y, y = K[k].2 := ⟨_, rfl⟩
      rw [← hxx, ← hyy] at SC
      rw [← hyy] at AC
      rw [← hxx] at hk0
      obtain ⟨s, hs⟩ : ∃ s, s = silK most t (K.take k) := ⟨_, rfl⟩
      rw [← hs] at R SC hsl
      have HS := Lib.hid hs
      have hsl3 : s.length ≤ 100000 := by omega
      obtain ⟨a, ha⟩ : ∃ a, a = t - y := ⟨_, rfl⟩
      rw [← ha] at AC SC
      have hb : 0 ≤ (k : Int) ∧ (k : Int) < (n : Int) := by omega
      by_cases hm : most ≤ a
      · rw [if_pos hm] at SC
        have hSC := Lib.hid SC
        clear hr ho ht hx hat hxx hyy hs hsl hsl2 hk1 SC hgd ha
        go_wp2_with fail
        go_quiet ((go_at_call 56; exact Calls.quiet_of (AC.out _)))
        have RQ := Lib.hid (ownsRow_turn R.out (Turn.drewN [] wr nq) (fun _ _ => by simp))
        obtain ⟨wq, hwq⟩ : ∃ wq, wq = wr.drewN nq := ⟨_, rfl⟩
        have d0q : wq.cell? ⟨b, 0, none⟩ = some (.int .i64 most) := by rw [hwq]; exact d0
        have d2q : wq.cell? ⟨b, 2, none⟩ = some (.slice (some ⟨g, 0, none⟩) n cp0) := by rw [hwq]; exact d2
        have hk0q : wq.cell? ⟨g, k * 2, none⟩ = some (.int .i64 x) := by rw [hwq]; exact hk0
        have TQ := Lib.hid (T.out.trans (Turn.drewN [] wr nq) (by simp))
        rw [← hwq] at RQ TQ ⊢
        clear hwq R T AC d0 d1 d2 hk0
        go_wp2_with (at_builtin; refine append_one rfl (.tmp 30) (.tmp 39) rfl _ s rfl (ownsRow_turn RQ.out (Turn.alloc [] _ _) (fun _ _ => by simp)) wq.heap.size x rfl (cell_new _ _ _) hsl3 ?_; intro v2 w2 r2 g2 o2)
        have T2 : Turn [] w1 w2 := (TQ.out.trans (Turn.alloc [] _ _) (by simp)).trans (Turn.grown (l := _) g2 (fun k hk => .inl (Option.mem_toList.2 hk))) (fun q hq => .inr (O.out q (Option.mem_toList.1 hq)))
        have O2 : ∀ q, v2.ownBlock = some q → w1.heap.size ≤ q := fun q hq => by
          rcases o2 with e | e <;> rw [hq] at e
          · exact O.out q e.symm
          · cases e
            exact Nat.le_trans TQ.out.size (Turn.alloc [] _ _).size
        have T2H := Lib.hid T2
        have O2H := Lib.hid O2
        have R2H := Lib.hid r2
        clear T2 O2 r2 g2 o2
        go_roundw
        case rel => exact ⟨k + 1, by omega, by go_num, by rw [hSC.out]; exact R2H.out, O2H.out, T2H.out⟩
        case measure => simp [intOf]; omega
      · rw [if_neg hm] at SC
        have hSC := Lib.hid SC
        clear hr ho ht hx hat hxx hyy hs hsl hsl2 hk1 SC hgd ha
        go_wp2_with fail
        go_quiet ((go_at_call 56; exact Calls.quiet_of (AC.out _)))
        have RQ := Lib.hid (ownsRow_turn R.out (Turn.drewN [] wr nq) (fun _ _ => by simp))
        have TQ := Lib.hid (T.out.trans (Turn.drewN [] wr nq) (by simp))
        clear R T AC d0 d1 d2 hk0
        go_wp2
        go_roundw
        case rel => exact ⟨k + 1, by omega, by go_num, by rw [hSC.out]; exact RQ.out, O.out, TQ.out⟩
        case measure => simp [intOf]; omega
    · have hkn2 : k = n := by omega
      have hkl : K.take k = K := by rw [hkn2, HN.out, List.take_length]
      rw [hkl] at R
      have HX := Lib.hid hx
      clear hr ho ht hx
      go_wp2
      go_ret
      exact ⟨_, rfl, R.out, fun q hq => Nat.le_trans T1.out.size (O.out q hq), HX.out, T1.out.trans T.out (by simp)⟩

end Go.Proofs.YtjmainefmiefcaaGreat.L


/-
  A timer of int64s: All.
-/
namespace Go.Proofs.YtjmainefmiefcaaGreat.L
open Go.RowKit

theorem make_i64s (w : World) (n : Nat) (hn : n ≤ 1000000) : (Instr.makeSlice 37 (.int .i64 (n : Int)) (.int .i64 (n : Int))).run Tryz.prog w = .ok (.slice (some ⟨w.heap.size, 0, none⟩) n n) (w.alloc (.cells (madeCells #[.int .i64 0] n) 2)) := by
  obtain ⟨i0, hi, hz0, hz1, hz2⟩ := info_parts Tryz.introw
  have h := run_make (P := Tryz.prog) w 37 2 i0 (.int .i64 0) Tryz.underlying37 hi hz0 .i64 .i64 (n : Int) (n : Int) (by omega) (by omega) (by rw [hz2]; omega) (by omega)
  rw [hz1] at h
  simp only [Int.toNat_natCast, Nat.mul_one] at h
  exact h

set_option maxHeartbeats 2000000 in
set_option maxRecDepth 100000 in
/-- All: those who are there, in a row of its own. -/
theorem all_calls {w : World} {b : Nat} {most ticks : Int} {v : Value} {K : List (Int × Int)} (h : TimI w b most ticks v K) : Calls Tryz.prog 47 #[.pointer (some ⟨b, 0, none⟩)] w fun e w' =>
    e = .returned (.slice (some ⟨w.heap.size, 0, none⟩) K.length K.length) ∧ w'.ownsRow w.heap.size 2 1 (.slice (some ⟨w.heap.size, 0, none⟩) K.length K.length) K.length (K.map fun p => Value.int .i64 p.1) ∧ Below w.heap.size w w' := by
  obtain ⟨n, hn⟩ : ∃ n, n = K.length := ⟨_, rfl⟩
  have H := Lib.hid h
  have HN := Lib.hid hn
  have hfew := h.few
  obtain ⟨ao0, cp0, rfl, hle0, hmx0, -⟩ := ones_at h.row
  obtain ⟨c0, c1, c2⟩ := h.cells
  rw [← hn] at hfew c2 hle0 ⊢
  clear h hn
  have mk := make_i64s w n (by omega)
  have c13 : (w.alloc (.cells (madeCells #[.int .i64 0] n) 2)).cell? ⟨b, 2, none⟩ = some (.slice ao0 n cp0) := (Turn.alloc [] w _).cell c2 (by simp)
  go_enter Tryz.func47, Tryz.ntmps47
  go_wp2_with fail
  obtain ⟨w3, hw3⟩ : ∃ w3, w3 = w.alloc (.cells (madeCells #[.int .i64 0] n) 2) := ⟨_, rfl⟩
  obtain ⟨q, hq⟩ : ∃ q, q = w.heap.size := ⟨_, rfl⟩
  have N3 : Hid (Below q w w3) := Lib.hid (by rw [hw3, hq]; exact (Turn.alloc [] w _).belowAll)
  have M3 : Hid (w3.ownsRow q 2 1 (.slice (some ⟨q, 0, none⟩) n n) n (firsts K n 0)) := Lib.hid (by
    rw [hw3, hq]
    refine ⟨by simp [firsts], .inr ⟨w.heap.size, n, madeCells #[.int .i64 0] n, rfl, Nat.le_refl _, heap_alloc_new w _, Nat.le_refl _, by unfold maxLen; omega, by simp [madeCells], ?_⟩⟩
    rw [toList_madeCells_one]
    simp [firsts])
  have HQ := Lib.hid hq
  rw [← hw3, ← hq]
  clear mk c1 c0 c2 c13 hw3 hq
  go_loopw [4, 18] (fun _ v18 wr => ∃ (k : Nat), k ≤ n ∧ v18 = .int .i64 (k : Int) ∧ wr.ownsRow q 2 1 (.slice (some ⟨q, 0, none⟩) n n) n (firsts K n k) ∧ Below q w wr) (fun _ v18 _ => n - (intOf v18).toNat)
  case atStart => exact ⟨0, by omega, rfl, M3.out, N3.out⟩
  case round =>
    obtain ⟨k, hk, rfl, hmd, hbel⟩ := hrel
    have HM := Lib.hid hmd
    have HB := Lib.hid hbel
    clear hmd hbel M3 N3
    by_cases hlt : k < n
    · have hkl : k < K.length := by rw [← HN.out]; exact hlt
      have hr := H.out.turn (Turn.of_below (by have h8 := HB.out; rw [HQ.out] at h8; exact h8) []) (by simp) (fun _ _ => by simp)
      obtain ⟨ao, cp, he, -, -, hat⟩ := ones_at hr.row
      obtain ⟨g, rfl, hk0, -⟩ := hat k hkl
      obtain ⟨d0, d1, d2⟩ := hr.cells
      rw [he, ← HN.out] at d2
      obtain ⟨x, hx⟩ : ∃ x, x = K[k].1 := ⟨_, rfl⟩
      rw [← hx] at hk0
      have hb : 0 ≤ (k : Int) ∧ (k : Int) < (n : Int) := by omega
      have hf5 := HM.out.frozenAt k
      obtain ⟨u, hu⟩ : ∃ u, wr.cell? ⟨q, k, none⟩ = some u := by
        rw [HM.out.cellAt k (by omega)]
        exact ⟨_, List.getElem?_eq_getElem (by have := HM.out.1; omega)⟩
      have M6 : Hid ((wr.setCell ⟨q, k, none⟩ (.int .i64 x)).ownsRow q 2 1 (.slice (some ⟨q, 0, none⟩) n n) n (firsts K n (k + 1))) := Lib.hid (by
        have h1 := (HM.out.stored k (.int .i64 x)).1
        rw [hx, HN.out, firsts_set hkl] at h1
        rw [hx, HN.out]
        exact h1)
      have B6 := Lib.hid (HB.out.setCell (p := ⟨q, k, none⟩) (Nat.le_refl _) (.int .i64 x))
      clear hr he hat hx HM
      go_wp2
      go_roundw
      case rel => exact ⟨k + 1, by omega, by go_num, M6.out, B6.out⟩
      case measure => simp [intOf]; omega
    · obtain rfl : k = n := by omega
      have r3 : ¬ (k : Int) < (k : Int) := by omega
      have HR : Hid (wr.ownsRow q 2 1 (.slice (some ⟨q, 0, none⟩) k k) k (K.map fun p => Value.int .i64 p.1)) := Lib.hid (by
        have h1 := HM.out
        have e : firsts K k k = K.map fun p => Value.int .i64 p.1 := by
          unfold firsts
          rw [Nat.sub_self, List.replicate_zero, List.append_nil, HN.out, List.take_length]
        rw [e] at h1
        exact h1)
      go_wp2
      go_ret
      rw [HQ.out] at HR HB
      rw [HQ.out]
      exact ⟨rfl, HR.out, HB.out⟩

end Go.Proofs.YtjmainefmiefcaaGreat.L


/-
  What may be, by the reference: queues, bodies, brokers, numbers and their homes.
-/
namespace Go.Proofs.YtjmainefmiefcaaGreat
open Go.RowKit

def okLet (x : UInt8) : Bool := decide (97 ≤ x) && decide (x ≤ 122)

def queueB (s : ByteArray) : Bool := s.data.toList.all okLet && (decide (1 ≤ s.size) && decide (s.size ≤ 8))

theorem let_next {l : List UInt8} {k : Nat} (hk : k < l.length) (h : (l.take k).all okLet = true) (h2 : okLet l[k] = true) : (l.take (k + 1)).all okLet = true := by
  rw [List.take_succ_eq_append_getElem hk]
  rw [List.all_append, h]
  simp [h2]

theorem let_bad {s : ByteArray} {k : Nat} (hk : k < s.data.toList.length) (h2 : okLet s.data.toList[k] = false) : queueB s = false := by
  have : s.data.toList.all okLet = false := by
    rw [List.all_eq_false]
    exact ⟨s.data.toList[k], List.getElem_mem hk, by rw [h2]; simp⟩
  unfold queueB
  rw [this, Bool.false_and]

theorem okLet_is (x : UInt8) (n : Nat) (h : x.toNat = n) : okLet x = decide (97 ≤ n ∧ n ≤ 122) := by
  subst h
  rw [Bool.eq_iff_iff]
  simp [okLet, UInt8.le_iff_toNat_le]

def bodyB (s : ByteArray) : Bool := decide (s.size ≤ 60)

def brokerB (n : Int) : Bool := decide (1 ≤ n ∧ n ≤ 8)

theorem refBroker_calls (n : Int) (w : World) : Calls Tryz.prog 48 #[.int .i64 n] w fun e w' => e = .returned (.bool (brokerB n)) ∧ w = w' := by
  by_cases h1 : 1 ≤ n
  · by_cases h2 : n ≤ 8
    · have hb : brokerB n = true := decide_eq_true ⟨h1, h2⟩
      rw [hb]
      go_enter Tryz.func48, Tryz.ntmps48
      go_wp2
      go_ret
      exact ⟨ret_bool (by simp), rfl⟩
    · have hb : brokerB n = false := decide_eq_false (fun h => h2 h.2)
      rw [hb]
      go_enter Tryz.func48, Tryz.ntmps48
      go_wp2
      go_ret
      exact ⟨ret_bool (by simp; try omega), rfl⟩
  · have hb : brokerB n = false := decide_eq_false (fun h => h1 h.1)
    rw [hb]
    go_enter Tryz.func48, Tryz.ntmps48
    go_wp2
    go_ret
    exact ⟨ret_bool (by simp; try omega), rfl⟩

/-- The home of a number; nought: it is none. -/
def homeZ (t : Int) : Int := if 0 ≤ t ∧ 1 ≤ t / 4294967296 ∧ t / 4294967296 ≤ 8 ∧ t % 4294967296 ≠ 0 then t / 4294967296 else 0

theorem homeZ_range (t : Int) : homeZ t = 0 ∨ (1 ≤ homeZ t ∧ homeZ t ≤ 8) := by
  unfold homeZ
  split <;> omega

theorem homeZ_is {t b : Int} (h1 : 1 ≤ b) (h8 : b ≤ 8) : homeZ t = b ↔ (b * 4294967296 < t ∧ t < b * 4294967296 + 4294967296) := by
  unfold homeZ
  split <;> omega

set_option maxHeartbeats 1000000 in
set_option maxRecDepth 100000 in
theorem refHome_calls (t : Int) (w : World) : Calls Tryz.prog 35 #[.int .i64 t] w fun e w' => e = .returned (.int .i64 (homeZ t)) ∧ w = w' := by
  obtain ⟨h, hh⟩ : ∃ h, h = homeZ t := ⟨_, rfl⟩
  have HR := homeZ_range t
  have HI := Lib.hid (fun b h1 h8 => homeZ_is (t := t) (b := b) h1 h8)
  rw [← hh] at HR HI ⊢
  clear hh
  go_enter Tryz.func35, Tryz.ntmps35
  go_wp2
  go_loop [3] (fun i => ∃ k : Nat, 1 ≤ k ∧ k ≤ 9 ∧ i = .int .i64 k ∧ (h = 0 ∨ (k : Int) ≤ h)) (fun i => 9 - (intOf i).toNat)
  case atStart => exact ⟨1, by omega, by omega, rfl, by omega⟩
  case round =>
    obtain ⟨k, hk1, hk9, rfl, hkh⟩ := hrel
    by_cases hk8 : (k : Int) ≤ 8
    · have hi := HI.out (k : Int) (by omega) hk8
      have hm : IntKind.i64.wrap ((k : Int) * 4294967296) = (k : Int) * 4294967296 := by rw [IntKind.wrap_i64]; omega
      have hm2 : IntKind.i64.wrap ((k : Int) * 4294967296 + 4294967296) = (k : Int) * 4294967296 + 4294967296 := by rw [IntKind.wrap_i64]; omega
      by_cases h1 : (k : Int) * 4294967296 < t
      · by_cases h2 : t < (k : Int) * 4294967296 + 4294967296
        · have hz : h = (k : Int) := hi.2 ⟨h1, h2⟩
          have HZ := Lib.hid hz
          clear hi hz hkh HR
          go_wp2
          go_ret
          exact ⟨ret_int HZ.out.symm, rfl⟩
        · have hz : h ≠ (k : Int) := fun e => h2 (hi.1 e).2
          have HZ : Hid (h = 0 ∨ ((k + 1 : Nat) : Int) ≤ h) := Lib.hid (by omega)
          clear hi hz hkh HR
          go_wp2
          go_round
          case rel => exact ⟨k + 1, by omega, by omega, by go_num, HZ.out⟩
          case measure => simp [intOf]; omega
      · have hz : h ≠ (k : Int) := fun e => h1 (hi.1 e).1
        have HZ : Hid (h = 0 ∨ ((k + 1 : Nat) : Int) ≤ h) := Lib.hid (by omega)
        clear hi hz hkh HR
        go_wp2
        go_round
        case rel => exact ⟨k + 1, by omega, by omega, by go_num, HZ.out⟩
        case measure => simp [intOf]; omega
    · have hz : 0 = h := by omega
      have HZ := Lib.hid hz
      clear hz hkh HR
      go_wp2
      go_ret
      exact ⟨ret_int HZ.out, rfl⟩

def makeZ (b n : Int) : Int := if brokerB b = true ∧ 1 ≤ n ∧ n < 4294967296 then b * 4294967296 + n else 0

set_option maxHeartbeats 1000000 in
theorem refMake_calls (b n : Int) (w : World) : Calls Tryz.prog 27 #[.int .i64 b, .int .i64 n] w fun e w' => e = .returned (.int .i64 (makeZ b n)) ∧ w = w' := by
  have C := Lib.hid (refBroker_calls b w)
  by_cases hb : brokerB b = true
  · rw [hb] at C
    have hb2 := of_decide_eq_true hb
    by_cases h1 : n < 1
    · have HM : Hid (makeZ b n = 0) := Lib.hid (by unfold makeZ; rw [if_neg (by omega)])
      clear hb
      go_enter Tryz.func27, Tryz.ntmps27
      go_wp2_with fail
      refine C.out.mono ?_
      rintro e w1 ⟨rfl, rfl⟩
      clear C
      go_wp2
      go_ret
      exact ⟨ret_int HM.out.symm, rfl⟩
    · by_cases h2 : 4294967296 ≤ n
      · have HM : Hid (makeZ b n = 0) := Lib.hid (by unfold makeZ; rw [if_neg (by omega)])
        clear hb
        go_enter Tryz.func27, Tryz.ntmps27
        go_wp2_with fail
        refine C.out.mono ?_
        rintro e w1 ⟨rfl, rfl⟩
        clear C
        go_wp2
        go_ret
        exact ⟨ret_int HM.out.symm, rfl⟩
      · have HM : Hid (makeZ b n = b * 4294967296 + n) := Lib.hid (by unfold makeZ; rw [if_pos ⟨hb, by omega, by omega⟩])
        have hm : IntKind.i64.wrap (b * 4294967296) = b * 4294967296 := by rw [IntKind.wrap_i64]; omega
        have hm2 : IntKind.i64.wrap (b * 4294967296 + n) = b * 4294967296 + n := by rw [IntKind.wrap_i64]; omega
        clear hb
        go_enter Tryz.func27, Tryz.ntmps27
        go_wp2_with fail
        refine C.out.mono ?_
        rintro e w1 ⟨rfl, rfl⟩
        clear C
        go_wp2
        go_ret
        exact ⟨ret_int HM.out.symm, rfl⟩
  · have hbf : brokerB b = false := by simpa using hb
    rw [hbf] at C
    have HM : Hid (makeZ b n = 0) := Lib.hid (by unfold makeZ; rw [if_neg (fun h => hb h.1)])
    clear hb hbf
    go_enter Tryz.func27, Tryz.ntmps27
    go_wp2_with fail
    refine C.out.mono ?_
    rintro e w1 ⟨rfl, rfl⟩
    clear C
    go_wp2
    go_ret
    exact ⟨ret_int HM.out.symm, rfl⟩

end Go.Proofs.YtjmainefmiefcaaGreat


/-
  A slice of numbers that came in, as cells.
-/
namespace Go.Proofs.YtjmainefmiefcaaGreat
open Go.RowKit

/-- A slice of ints, as cells. -/
def Il (w : World) (ao : Option Addr) (c : Nat) (l : List Int) : Prop :=
  (ao = none ∧ c = 0 ∧ l = []) ∨
  ∃ A : Addr, ao = some A ∧ l.length ≤ c ∧ c ≤ maxLen ∧ (∀ i, i < l.length → w.cell? (A.add i) = some (.int .i64 (l.getD i 0))) ∧ ∀ n ∈ l, -9223372036854775808 ≤ n ∧ n ≤ 9223372036854775807

theorem Il.at {w : World} {ao : Option Addr} {c : Nat} {l : List Int} (h : Il w ao c l) (hl : l ≠ []) : ∃ b off, ao = some ⟨b, off, none⟩ ∧ b < w.heap.size ∧ ∀ i, i < l.length → w.cell? ⟨b, off + i, none⟩ = some (.int .i64 (l.getD i 0)) := by
  rcases h with ⟨_, _, h⟩ | ⟨A, rfl, _, _, hc, _⟩
  · exact absurd h hl
  · obtain ⟨b, off, spot⟩ := A
    have h0 := hc 0 (List.length_pos_iff.2 hl)
    have hs : spot = none := by simpa [Addr.add] using World.cell?_spot h0
    subst hs
    have hc' : ∀ i, i < l.length → w.cell? ⟨b, off + i, none⟩ = some (.int .i64 (l.getD i 0)) := fun i hi => by rw [← Addr.add_lit]; exact hc i hi
    exact ⟨b, off, rfl, World.block_lt_of_cell? _ _ (hc' 0 (List.length_pos_iff.2 hl)), hc'⟩

theorem Il.len {w : World} {ao : Option Addr} {c : Nat} {l : List Int} (h : Il w ao c l) : (l.length : Int) ≤ 9223372036854775807 := by
  rcases h with ⟨_, _, rfl⟩ | ⟨A, _, q1, q2, _⟩
  · simp
  · unfold maxLen at q2; omega

theorem Il.bound {w : World} {ao : Option Addr} {c : Nat} {l : List Int} (h : Il w ao c l) (i : Nat) : -9223372036854775808 ≤ l.getD i 0 ∧ l.getD i 0 ≤ 9223372036854775807 := by
  by_cases hi : i < l.length
  · rw [show l.getD i 0 = l[i] by simp [List.getD, hi]]
    rcases h with ⟨_, _, rfl⟩ | ⟨A, _, _, _, _, hb⟩
    · simp at hi
    · exact hb _ (List.getElem_mem hi)
  · rw [show l.getD i 0 = 0 by simp [List.getD, List.getElem?_eq_none (by omega : l.length ≤ i)]]
    omega

end Go.Proofs.YtjmainefmiefcaaGreat


/-
  What may be, by the reference: puts, brokers that rise.
-/
namespace Go.Proofs.YtjmainefmiefcaaGreat
open Go.RowKit

def putB (p : ByteArray × ByteArray) : Bool := queueB p.1 && bodyB p.2

def putNone : ByteArray × ByteArray := (⟨#[]⟩, ⟨#[]⟩)

/-- A slice of puts, as cells, two a put. -/
def Ps (w : World) (ao : Option Addr) (c : Nat) (l : List (ByteArray × ByteArray)) : Prop :=
  (ao = none ∧ c = 0 ∧ l = []) ∨
  ∃ A : Addr, ao = some A ∧ l.length ≤ c ∧ c ≤ maxLen ∧ ∀ i, i < l.length → w.cell? (A.add (i * 2)) = some (.string (l.getD i putNone).1) ∧ w.cell? ((A.add (i * 2)).add 1) = some (.string (l.getD i putNone).2) ∧ (l.getD i putNone).1.size ≤ 9223372036854775807 ∧ (l.getD i putNone).2.size ≤ 9223372036854775807

theorem Ps.at {w : World} {ao : Option Addr} {c : Nat} {l : List (ByteArray × ByteArray)} (h : Ps w ao c l) (hl : l ≠ []) : ∃ b off, ao = some ⟨b, off, none⟩ ∧ b < w.heap.size ∧ ∀ i, i < l.length →
    w.cell? ⟨b, off + i * 2, none⟩ = some (.string (l.getD i putNone).1) ∧ w.cell? ⟨b, off + i * 2 + 1, none⟩ = some (.string (l.getD i putNone).2) ∧ (l.getD i putNone).1.size ≤ 9223372036854775807 ∧ (l.getD i putNone).2.size ≤ 9223372036854775807 := by
  rcases h with ⟨_, _, h⟩ | ⟨A, rfl, _, _, hc⟩
  · exact absurd h hl
  · obtain ⟨b, off, spot⟩ := A
    have h0 := (hc 0 (List.length_pos_iff.2 hl)).1
    have hs : spot = none := by simpa [Addr.add] using World.cell?_spot h0
    subst hs
    have hc' : ∀ i, i < l.length → w.cell? ⟨b, off + i * 2, none⟩ = some (.string (l.getD i putNone).1) ∧ w.cell? ⟨b, off + i * 2 + 1, none⟩ = some (.string (l.getD i putNone).2) ∧ (l.getD i putNone).1.size ≤ 9223372036854775807 ∧ (l.getD i putNone).2.size ≤ 9223372036854775807 := fun i hi => by
      have := hc i hi
      simp only [Addr.add_lit] at this
      exact this
    exact ⟨b, off, rfl, World.block_lt_of_cell? _ _ (hc' 0 (List.length_pos_iff.2 hl)).1, hc'⟩

theorem Ps.len {w : World} {ao : Option Addr} {c : Nat} {l : List (ByteArray × ByteArray)} (h : Ps w ao c l) : (l.length : Int) ≤ 9223372036854775807 := by
  rcases h with ⟨_, _, rfl⟩ | ⟨A, _, q1, q2, _⟩
  · simp
  · unfold maxLen at q2; omega

theorem Ps.turn {w w' : World} {ao : Option Addr} {c : Nat} {l : List (ByteArray × ByteArray)} (h : Ps w ao c l) (t : Turn [] w w') : Ps w' ao c l := by
  rcases h with h | ⟨A, h1, h2, h3, h4⟩
  · exact .inl h
  · exact .inr ⟨A, h1, h2, h3, fun i hi => ⟨t.cell (h4 i hi).1 (by simp), t.cell (h4 i hi).2.1 (by simp), (h4 i hi).2.2⟩⟩

def putsB (l : List (ByteArray × ByteArray)) : Bool := l.all putB && decide (l.length ≤ 10)

theorem puts_next {l : List (ByteArray × ByteArray)} {k : Nat} (hk : k < l.length) (h : (l.take k).all putB = true) (h2 : putB (l.getD k putNone) = true) : (l.take (k + 1)).all putB = true := by
  have e : l.getD k putNone = l[k] := by simp [List.getD, hk]
  rw [e] at h2
  rw [List.take_succ_eq_append_getElem hk, List.all_append, h]
  simp [h2]

theorem puts_bad {l : List (ByteArray × ByteArray)} {k : Nat} (hk : k < l.length) (h2 : putB (l.getD k putNone) = false) : putsB l = false := by
  have e : l.getD k putNone = l[k] := by simp [List.getD, hk]
  rw [e] at h2
  have : l.all putB = false := by
    rw [List.all_eq_false]
    exact ⟨l[k], List.getElem_mem hk, by rw [h2]; simp⟩
  unfold putsB
  rw [this, Bool.false_and]

def risingB (l : List Int) : Bool := decide (∀ i, i < l.length → brokerB (l.getD i 0) = true ∧ (0 < i → l.getD (i - 1) 0 < l.getD i 0)) && decide (l.length ≤ 7)

theorem rising_bad {l : List Int} {k : Nat} (hk : k < l.length) (h : ¬ (brokerB (l.getD k 0) = true ∧ (0 < k → l.getD (k - 1) 0 < l.getD k 0))) : risingB l = false := by
  unfold risingB
  rw [decide_eq_false (fun h1 => h (h1 k hk)), Bool.false_and]

theorem rising_end {l : List Int} (h : ∀ i, i < l.length → brokerB (l.getD i 0) = true ∧ (0 < i → l.getD (i - 1) 0 < l.getD i 0)) : risingB l = decide (l.length ≤ 7) := by
  unfold risingB
  rw [decide_eq_true h, Bool.true_and]

end Go.Proofs.YtjmainefmiefcaaGreat


/-
  What may be, by the reference: records, packets.
-/
namespace Go.Proofs.YtjmainefmiefcaaGreat
open Go.RowKit

structure RecV where
  kind : Int
  tid : Int
  id : Int
  yes : Bool
  parts : List Int
  puts : List (ByteArray × ByteArray)

structure PacV where
  kind : Int
  src : Int
  dst : Int
  tid : Int
  n : Int
  yes : Bool

def tidB (t : Int) : Bool := decide (0 < homeZ t)

/-- What may be of a packet. -/
def pacB (p : PacV) : Bool :=
  decide (1 ≤ p.kind ∧ p.kind ≤ 5) && (brokerB p.src && (brokerB p.dst && (tidB p.tid && ((!p.yes || decide (p.kind = 2 ∨ p.kind = 3)) && (if p.kind = 1 then decide (1 ≤ p.n ∧ p.n ≤ 10) else decide (p.n = 0))))))

def PacV.cells (p : PacV) : Array Value := #[.int .i64 p.kind, .int .i64 p.src, .int .i64 p.dst, .int .i64 p.tid, .int .i64 p.n, .bool p.yes]

/-- What may be of a record. -/
def recB (r : RecV) : Bool :=
  tidB r.tid && ((decide (r.kind = 2) || decide (r.id = 0)) && ((decide (r.kind = 5) || !r.yes) && ((decide (r.kind = 4 ∨ r.kind = 7) || decide (r.puts.length = 0)) && ((decide (r.kind = 6 ∨ r.kind = 8 ∨ r.kind = 9) || decide (r.parts.length = 0)) &&
    (if r.kind = 1 ∨ r.kind = 3 ∨ r.kind = 5 then true else if r.kind = 2 then tidB r.id else if r.kind = 4 ∨ r.kind = 7 then putsB r.puts
      else if r.kind = 6 then (decide (0 < r.parts.length) && risingB r.parts) else if r.kind = 8 then risingB r.parts else if r.kind = 9 then (decide (r.parts.length = 1) && brokerB (r.parts.getD 0 0)) else false)))))

def RecV.cells (r : RecV) (ap : Option Addr) (cp : Nat) (aq : Option Addr) (cq : Nat) : Array Value := #[.int .i64 r.kind, .int .i64 r.tid, .int .i64 r.id, .bool r.yes, .slice ap r.parts.length cp, .slice aq r.puts.length cq]

end Go.Proofs.YtjmainefmiefcaaGreat


/-
  The same, by the reference: rows of numbers, of puts, records.
-/
namespace Go.Proofs.YtjmainefmiefcaaGreat
open Go.RowKit

theorem txt_ne {x y : ByteArray} (h : x ≠ y) : (x.toList == y.toList) = false := by
  rw [beq_eq_false_iff_ne]
  intro e
  exact h (Go.WideShapes.bytes_inj (by simpa [ByteArray.toList_eq] using e))

theorem list_same {α : Type} {d : α} {l m : List α} (hl : l.length = m.length) (h : ∀ i, i < l.length → l.getD i d = m.getD i d) : l = m := by
  apply List.ext_getElem hl
  intro i h1 h2
  have := h i h1
  simpa [List.getD, h1, h2] using this

theorem Il.turn {w w' : World} {ao : Option Addr} {c : Nat} {l : List Int} (h : Il w ao c l) (t : Turn [] w w') : Il w' ao c l := by
  rcases h with h | ⟨A, h1, h2, h3, h4, h5⟩
  · exact .inl h
  · exact .inr ⟨A, h1, h2, h3, fun i hi => t.cell (h4 i hi) (by simp), h5⟩

set_option maxHeartbeats 2000000 in
set_option maxRecDepth 100000 in
theorem eqPuts_calls {w : World} {a1 a2 : Option Addr} {c1 c2 : Nat} {l m : List (ByteArray × ByteArray)} (h1 : Ps w a1 c1 l) (h2 : Ps w a2 c2 m) : Calls Tryz.prog 22 #[.slice a1 l.length c1, .slice a2 m.length c2] w fun e w' => e = .returned (.bool (decide (l = m))) ∧ ∃ d, w' = w.drewN d := by
  have hlen1 := h1.len
  have hlen2 := h2.len
  by_cases hlm : l.length = m.length
  · have H1 := Lib.hid h1
    have H2 := Lib.hid h2
    rw [← hlm] at hlen2 ⊢
    obtain ⟨n, hn⟩ : ∃ n, n = l.length := ⟨_, rfl⟩
    have HN := Lib.hid hn
    have HLM := Lib.hid hlm
    rw [← hn] at hlen1 hlen2 ⊢
    obtain ⟨ans, ha⟩ : ∃ ans, ans = decide (l = m) := ⟨_, rfl⟩
    have HA := Lib.hid ha
    rw [← ha]
    clear h1 h2 hn hlm ha
    go_enter Tryz.func22, Tryz.ntmps22
    go_wp2_with fail
    go_loopw [5] (fun vi wx => ∃ k : Nat, k ≤ n ∧ vi = .int .i64 (k : Int) ∧ (∀ i, i < k → l.getD i putNone = m.getD i putNone) ∧ ∃ d, wx = w.drewN d) (fun vi _ => n - (intOf vi).toNat)
    case atStart => exact ⟨0, by omega, rfl, fun i hi => by omega, 0, rfl⟩
    case round =>
      obtain ⟨k, hk, rfl, hall, d, rfl⟩ := hrel
      have HS := Lib.hid hall
      clear hall
      by_cases hkn : k < n
      · have hkl : k < l.length := by rw [← HN.out]; exact hkn
        have hkm : k < m.length := by rw [← HLM.out]; exact hkl
        obtain ⟨b1, o1, rfl, -, hat1⟩ := H1.out.at (by intro e; rw [e] at hkl; simp at hkl)
        obtain ⟨b2, o2, rfl, -, hat2⟩ := H2.out.at (by intro e; rw [e] at hkm; simp at hkm)
        obtain ⟨q1, q2, -, -⟩ := hat1 k hkl
        obtain ⟨q3, q4, -, -⟩ := hat2 k hkm
        have hb : 0 ≤ (k : Int) ∧ (k : Int) < (n : Int) := by omega
        obtain ⟨p1, hp1⟩ : ∃ p, p = l.getD k putNone := ⟨_, rfl⟩
        obtain ⟨p2, hp2⟩ : ∃ p, p = m.getD k putNone := ⟨_, rfl⟩
        have HF : Hid (p1 ≠ p2 → ans = false) := Lib.hid (fun h => by rw [HA.out]; exact decide_eq_false (fun e => h (by rw [hp1, hp2, e])))
        have HS2 : Hid (p1 = p2 → ∀ i, i < k + 1 → l.getD i putNone = m.getD i putNone) := Lib.hid (fun h i hi => by
          by_cases e : i = k
          · rw [e, ← hp1, ← hp2]; exact h
          · exact HS.out i (by omega))
        rw [← hp1] at q1 q2
        rw [← hp2] at q3 q4
        obtain ⟨x1, y1⟩ := p1
        obtain ⟨x2, y2⟩ := p2
        clear hat1 hat2 hp1 hp2 HS
        dsimp only at q1 q2 q3 q4
        by_cases hx : x1 = x2
        · subst hx
          by_cases hy : y1 = y2
          · subst hy
            have HS3 := Lib.hid (HS2.out rfl)
            clear HS2 HF
            go_wp2_with fail
            go_quiet (fail)
            go_wp2
            go_roundw
            case rel => exact ⟨k + 1, by omega, by go_num, HS3.out, _, rfl⟩
            case measure => simp [intOf]; omega
          · have HF2 := Lib.hid (HF.out (fun e => hy (by cases e; rfl)))
            have hne := txt_ne hy
            clear HS2 HF hy
            go_wp2_with fail
            go_quiet (fail)
            go_wp2
            go_ret
            exact ⟨ret_bool HF2.out.symm, _, World.drewN_drewN _ _ _⟩
        · have HF2 := Lib.hid (HF.out (fun e => hx (by cases e; rfl)))
          have hne := txt_ne hx
          clear HS2 HF hx
          go_wp2_with fail
          go_quiet (fail)
          go_wp2
          go_ret
          exact ⟨ret_bool HF2.out.symm, _, World.drewN_drewN _ _ _⟩
      · have hkk : k = n := by omega
        have HF : Hid (ans = true) := Lib.hid (by
          rw [HA.out]
          exact decide_eq_true (list_same HLM.out (by rw [← HN.out, ← hkk]; exact HS.out)))
        clear HS
        go_wp2
        go_ret
        exact ⟨ret_bool HF.out.symm, _, rfl⟩
  · have HF : Hid (decide (l = m) = false) := Lib.hid (decide_eq_false (fun e => hlm (by rw [e])))
    have hne : ((l.length : Int) != (m.length : Int)) = true := by simp; omega
    obtain ⟨n, hn⟩ : ∃ n, n = l.length := ⟨_, rfl⟩
    obtain ⟨n2, hn2⟩ : ∃ n, n = m.length := ⟨_, rfl⟩
    rw [HF.out]
    rw [← hn, ← hn2] at hne
    rw [← hn, ← hn2]
    clear h1 h2 hlm hlen1 hlen2 hn hn2
    go_enter Tryz.func22, Tryz.ntmps22
    go_wp2
    go_ret
    exact ⟨rfl, 0, rfl⟩

def eqRecB (a b : RecV) : Bool := decide (a.kind = b.kind) && (decide (a.tid = b.tid) && (decide (a.id = b.id) && (decide (a.yes = b.yes) && (decide (a.parts = b.parts) && decide (a.puts = b.puts)))))

theorem eqRecB_iff (a b : RecV) : eqRecB a b = true ↔ a = b := by
  obtain ⟨k1, t1, d1, y1, p1, q1⟩ := a
  obtain ⟨k2, t2, d2, y2, p2, q2⟩ := b
  simp [eqRecB]

end Go.Proofs.YtjmainefmiefcaaGreat


/-
  The law's own Record: a record cut to a size.
-/
namespace Go.Proofs.YtjmainefmiefcaaGreat
open Go.RowKit

/-- A text's front. -/
def cutN (s : ByteArray) (n : Nat) : ByteArray := ⟨(s.data.toList.take n).toArray⟩

theorem cutN_ext (s : ByteArray) (n : Nat) : s.extract 0 (min (s.size : Int) (n : Int)).toNat = cutN s n := by
  refine Go.WideShapes.bytes_inj ?_
  rw [ByteArray.data_extract, Array.toList_extract]
  have e : (min (s.size : Int) (n : Int)).toNat = min s.size n := by omega
  rw [e]
  show List.take (min s.size n - 0) (List.drop 0 s.data.toList) = s.data.toList.take n
  rw [List.drop_zero, Nat.sub_zero]
  by_cases h : s.size ≤ n
  · rw [Nat.min_eq_left h, List.take_of_length_le (by simp), List.take_of_length_le (by simpa using h)]
  · rw [Nat.min_eq_right (by omega)]

theorem cut8_calls (s : ByteArray) (n : Nat) (w : World) (hs : s.size ≤ 9223372036854775807) (hn : n ≤ 1000) :
    Calls Tryz.prog 14 #[.string s, .int .i64 (n : Int)] w fun e w' => e = .returned (.string (cutN s n)) ∧ w' = w := by
  have HC := Lib.hid (cutN_ext s n)
  have hb : 0 ≤ min (s.size : Int) (n : Int) ∧ min (s.size : Int) (n : Int) ≤ (s.size : Int) := by omega
  go_enter Tryz.func14, Tryz.ntmps14
  go_wp2
  go_ret
  exact ⟨by rw [← HC.out]; rfl, rfl⟩

theorem Tryz.putrow : (Tryz.prog.info? 28).map (fun i => (i.zero, i.size, i.bytes)) = some (some (.agg #[.string ⟨#[]⟩, .string ⟨#[]⟩]), 2, 32) := by kernel_rfl

def pcells (l : List (ByteArray × ByteArray)) : List Value := l.flatMap fun p => [.string p.1, .string p.2]

theorem pcells_length (l : List (ByteArray × ByteArray)) : (pcells l).length = l.length * 2 := by
  induction l with
  | nil => rfl
  | cons p l ih => simp only [pcells, List.flatMap_cons, List.length_append, List.length_cons, List.length_nil] at ih ⊢; omega

theorem pcells_append (a b : List (ByteArray × ByteArray)) : pcells (a ++ b) = pcells a ++ pcells b := by simp [pcells]

/-- 'append(x, Put{..})' within a region that draws its order. -/
theorem step_append_put {ops : Array Oper} {o : Oper} {a : Act} {w : World} {K : Act → World → Prop} {Q : Exit → Act → World → Prop} {E : Prop} (hgd : o.guard = none) (s x : Operand)
    (ho : o.op = .call { callee := .builtin .append, args := #[s, x], argTypes := #[32, 32] })
    (v : Value) (l : List (ByteArray × ByteArray)) (hs : a.eval s = v) (hown : w.ownsRow 0 28 2 v l.length (pcells l))
    (A : Nat) (p : ByteArray × ByteArray) (hx : a.eval x = .slice (some ⟨A, 0, none⟩) 1 1) (hc0 : w.cell? ⟨A, 0, none⟩ = some (.string p.1)) (hc1 : w.cell? ⟨A, 1, none⟩ = some (.string p.2)) (hb : l.length ≤ 1000000)
    (h : ∀ v' w', w'.ownsRow 0 28 2 v' (l ++ [p]).length (pcells (l ++ [p])) → w.grownBy w' v.ownBlock → (v'.ownBlock = v.ownBlock ∨ v'.ownBlock = some w.heap.size) → K (a.put o.dst v') w') :
    if Region.wanted o (yielded ops a.tmps) = true then Oper.wp Tryz.prog o a w K Q else E := by
  have hw : Region.wanted o (yielded ops a.tmps) = true := by simp [Region.wanted, hgd]
  rw [if_pos hw]
  obtain ⟨i0, hi, hz0, hz1, hz2⟩ := info_parts Tryz.putrow
  obtain ⟨v', w', hr, h2, h3, h4, h5⟩ := run_append_own_at (P := Tryz.prog) w 0 32 o.type 28 i0 _ 2 32 Tryz.underlying32 hi hz0 hz1 hz2 rfl (by decide) v l.length (pcells l) hown ⟨A, 0, none⟩ 1 1 [.string p.1, .string p.2] rfl
    (fun j u hj => by
      match j, hj with
      | 0, hj => simp at hj; rw [← hj, Addr.add_lit]; exact hc0
      | 1, hj => simp at hj; rw [← hj, Addr.add_lit]; exact hc1
      | j + 2, hj => simp at hj) (by intro u hu; simp at hu; rcases hu with rfl | rfl <;> rfl) (by unfold maxLen; omega) (by omega) (Nat.zero_le _)
  unfold Oper.wp execOp
  simp only [ho, resolve, invoke, builtin, Sem.run_bind, Sem.run_pure, Result.andThen_ok, List.map_toArray, List.map_cons, List.map_nil, hs, hx, hr]
  exact h v' w' (by rw [List.length_append, pcells_append]; exact h2) h3 h5

end Go.Proofs.YtjmainefmiefcaaGreat


/-
  A row of ints that is the law's own: its parts, and what append leaves.
-/
namespace Go.Proofs.YtjmainefmiefcaaGreat
open Go.RowKit

theorem Tryz.introw_ofIs8 : (Tryz.prog.info? 3).map (fun i => (i.zero, i.size, i.bytes)) = some (some (.int .i64 0), 1, 8) := by kernel_rfl

def i64s (l : List Int) : List Value := l.map (Value.int .i64)

theorem i64s_length (l : List Int) : (i64s l).length = l.length := by simp [i64s]
theorem i64s_append (l l2 : List Int) : i64s (l ++ l2) = i64s l ++ i64s l2 := by simp [i64s]
theorem i64s_one (l : List Int) : ∀ u ∈ i64s l, u.oneCell' = true := by
  intro u hu
  obtain ⟨x, -, rfl⟩ := List.mem_map.1 hu
  rfl

/-- A slice's cells. -/
def Sr (w : World) (ao : Option Addr) (c : Nat) (l : List Int) : Prop :=
  (ao = none ∧ c = 0 ∧ l = []) ∨ ∃ A : Addr, ao = some A ∧ ∀ j, j < l.length → w.cell? (A.add j) = some (.int .i64 (l.getD j 0))

theorem Sr.cells {w : World} {A : Addr} {l : List Int} (h : ∀ j, j < l.length → w.cell? (A.add j) = some (.int .i64 (l.getD j 0))) : ∀ j u, (i64s l)[j]? = some u → w.cell? (A.add j) = some u := by
  intro j u hj
  have hjl : j < l.length := by
    have := (List.getElem?_eq_some_iff.1 hj).1
    rwa [i64s_length] at this
  rw [h j hjl]
  simp only [i64s, List.getElem?_map] at hj
  rw [← hj]
  simp [List.getD, hjl]

theorem Sr.new (w : World) (x : Int) (t : TypeId) : Sr (w.alloc (.cells #[.int .i64 x] t)) (some ⟨w.heap.size, 0, none⟩) 1 [x] := by
  refine .inr ⟨_, rfl, fun j hj => ?_⟩
  have : j = 0 := by simpa using hj
  subst this
  rw [Addr.add_lit, World.cell?_alloc_at (hn := rfl)]
  rfl

theorem append_ints {w : World} {ops : Array Oper} {rest : List Oper} {o : Oper} {a : Act} {Q : Exit → Act → World → Prop} (hgd : o.guard = none) (s x : Operand)
    (ho : o.op = .call { callee := .builtin .append, args := #[s, x], argTypes := #[62, 62] })
    (v : Value) (l : List Int) (hs : a.eval s = v) (hown : w.ownsRow 0 3 1 v l.length (i64s l))
    (ao : Option Addr) (n2 c : Nat) (l2 : List Int) (hn2 : n2 = l2.length) (hx : a.eval x = .slice ao n2 c) (hsl : Sr w ao c l2)
    (hlen : l.length + l2.length ≤ 1000000)
    (h : ∀ v' w', w'.ownsRow 0 3 1 v' (l ++ l2).length (i64s (l ++ l2)) → w.grownBy w' v.ownBlock → (v'.ownBlock = v.ownBlock ∨ v'.ownBlock = some w.heap.size) → wpList Tryz.prog ops Q rest (a.put o.dst v') w') : wpList Tryz.prog ops Q (o :: rest) a w := by
  obtain ⟨i0, hi, hz0, hz1, hz2⟩ := info_parts Tryz.introw_ofIs8
  subst hn2
  rcases hsl with ⟨rfl, rfl, rfl⟩ | ⟨A, rfl, hc⟩
  · refine wpList_append_own_none hgd s x 62 ho 0 3 i0 1 Tryz.underlying62 hi v l.length (i64s l) hs hown hx ?_
    exact h v w (by simpa using hown) (World.grownBy.refl _ _) (.inl rfl)
  · refine wpList_append_own_at w hgd s x 62 ho 0 3 i0 (.int .i64 0) 1 8 Tryz.underlying62 hi hz0 hz1 hz2 rfl (by decide) v l.length (i64s l) hs hown A l2.length c (i64s l2) hx (by rw [i64s_length]; omega)
      (Sr.cells hc) (i64s_one l2) (by unfold maxLen; omega) (by omega) (Nat.zero_le _) ?_
    intro v' w' hown' hg hn hloc
    exact h v' w' (by rw [List.length_append, i64s_append]; exact hown') hg hloc

/-- A row's value, laid out. -/
theorem row_form {w : World} {base : Nat} {v : Value} {l : List Int} (h : w.ownsRow base 3 1 v l.length (i64s l)) :
    ∃ ao cp, v = .slice ao l.length cp ∧ l.length ≤ cp ∧ cp ≤ maxLen ∧ ((ao = none ∧ l = [] ∧ cp = 0) ∨ ∃ g, ao = some ⟨g, 0, none⟩ ∧ base ≤ g ∧ g < w.heap.size ∧ ∀ j, j < l.length → w.cell? ⟨g, j, none⟩ = some (.int .i64 (l.getD j 0))) := by
  rcases h.2 with ⟨hv, hl⟩ | ⟨g, cap, cur, hv, hB, hg, h1, h2, h3, h4⟩
  · have : l = [] := List.eq_nil_of_length_eq_zero hl
    subst this
    exact ⟨none, 0, hv, Nat.le_refl _, by unfold maxLen; omega, .inl ⟨rfl, rfl, rfl⟩⟩
  · refine ⟨_, cap, hv, h1, h2, .inr ⟨g, rfl, hB, lt_of_heap hg, fun j hj => ?_⟩⟩
    have := h.cells (g := g) (by rw [hv]; rfl) j (.int .i64 (l.getD j 0)) (by simp [i64s, List.getD, hj])
    simpa [Addr.add_lit] using this

end Go.Proofs.YtjmainefmiefcaaGreat


/-
  Rows of the call's own as slices of numbers, of puts; append of a put.
-/
namespace Go.Proofs.YtjmainefmiefcaaGreat
open Go.RowKit

theorem own_il {w : World} {ao : Option Addr} {c : Nat} {l : List Int} (h : w.ownsRow 0 3 1 (.slice ao l.length c) l.length (i64s l)) (hb : ∀ n ∈ l, -9223372036854775808 ≤ n ∧ n ≤ 9223372036854775807) : Il w ao c l := by
  obtain ⟨ao', c', e, h1, h2, h3⟩ := row_form h
  injection e with e1 e2 e3
  subst e1 e3
  rcases h3 with ⟨h4, h5, h6⟩ | ⟨g, h4, -, -, h5⟩
  · exact .inl ⟨h4, h6, h5⟩
  · exact .inr ⟨_, h4, h1, h2, fun i hi => by rw [Addr.add_lit, Nat.zero_add]; exact h5 i hi, hb⟩

theorem pcells_at : ∀ (l : List (ByteArray × ByteArray)) (i : Nat), i < l.length → (pcells l)[i * 2]? = some (.string (l.getD i putNone).1) ∧ (pcells l)[i * 2 + 1]? = some (.string (l.getD i putNone).2)
  | [], _, h => by simp at h
  | p :: l, 0, _ => ⟨rfl, rfl⟩
  | p :: l, i + 1, h => by
    have := pcells_at l i (by simpa using h)
    have e : pcells (p :: l) = .string p.1 :: .string p.2 :: pcells l := rfl
    rw [e, show (i + 1) * 2 = i * 2 + 1 + 1 by omega]
    exact this

theorem own_ps {w : World} {ao : Option Addr} {c : Nat} {l : List (ByteArray × ByteArray)} (h : w.ownsRow 0 28 2 (.slice ao l.length c) l.length (pcells l)) (hb : ∀ i, i < l.length → (l.getD i putNone).1.size ≤ 9223372036854775807 ∧ (l.getD i putNone).2.size ≤ 9223372036854775807) : Ps w ao c l := by
  rcases h.2 with ⟨e, h0⟩ | ⟨g, cap, cur, e, _, hg, h1, h2, h3, h4⟩
  · injection e with e1 e2 e3
    exact .inl ⟨e1, e3, List.eq_nil_of_length_eq_zero h0⟩
  · injection e with e1 e2 e3
    subst e1 e3
    refine .inr ⟨_, rfl, h1, h2, fun i hi => ?_⟩
    obtain ⟨p1, p2⟩ := pcells_at l i hi
    rw [Addr.add_lit, Addr.add_lit, Nat.zero_add]
    exact ⟨(h.cellAt (i * 2) (by omega)).trans p1, (h.cellAt (i * 2 + 1) (by omega)).trans p2, (hb i hi).1, (hb i hi).2⟩

/-- A row of puts, laid out. -/
theorem put_form {w : World} {base : Nat} {v : Value} {l : List (ByteArray × ByteArray)} (h : w.ownsRow base 28 2 v l.length (pcells l)) : ∃ ao cp, v = .slice ao l.length cp := by
  rcases h.2 with ⟨hv, hl⟩ | ⟨g, cap, cur, hv, _⟩
  · exact ⟨none, 0, by rw [hv, hl]⟩
  · exact ⟨_, _, hv⟩

/-- 'append(x, Put{..})' in a region that keeps its order. -/
theorem append_put {w : World} {ops : Array Oper} {rest : List Oper} {o : Oper} {a : Act} {Q : Exit → Act → World → Prop} (hgd : o.guard = none) (s x : Operand)
    (ho : o.op = .call { callee := .builtin .append, args := #[s, x], argTypes := #[32, 32] })
    (v : Value) (l : List (ByteArray × ByteArray)) (hs : a.eval s = v) (hown : w.ownsRow 0 28 2 v l.length (pcells l))
    (A : Nat) (p : ByteArray × ByteArray) (hx : a.eval x = .slice (some ⟨A, 0, none⟩) 1 1) (hc0 : w.cell? ⟨A, 0, none⟩ = some (.string p.1)) (hc1 : w.cell? ⟨A, 1, none⟩ = some (.string p.2)) (hb : l.length ≤ 1000000)
    (h : ∀ v' w', w'.ownsRow 0 28 2 v' (l ++ [p]).length (pcells (l ++ [p])) → w.grownBy w' v.ownBlock → (v'.ownBlock = v.ownBlock ∨ v'.ownBlock = some w.heap.size) → wpList Tryz.prog ops Q rest (a.put o.dst v') w') : wpList Tryz.prog ops Q (o :: rest) a w := by
  obtain ⟨i0, hi, hz0, hz1, hz2⟩ := info_parts Tryz.putrow
  refine wpList_append_own_at w hgd s x 32 ho 0 28 i0 _ 2 32 Tryz.underlying32 hi hz0 hz1 hz2 rfl (by decide) v l.length (pcells l) hs hown ⟨A, 0, none⟩ 1 1 [.string p.1, .string p.2] hx rfl
    (fun j u hj => by
      match j, hj with
      | 0, hj => simp at hj; rw [← hj, Addr.add_lit]; exact hc0
      | 1, hj => simp at hj; rw [← hj, Addr.add_lit]; exact hc1
      | j + 2, hj => simp at hj) (by intro u hu; simp at hu; rcases hu with rfl | rfl <;> rfl) (by unfold maxLen; omega) (by omega) (Nat.zero_le _) ?_
  intro v' w' h2 h3 _ h5
  exact h v' w' (by rw [List.length_append, pcells_append]; exact h2) h3 h5

end Go.Proofs.YtjmainefmiefcaaGreat


/-
  slices.Clone of puts.
-/
namespace Go.Proofs.YtjmainefmiefcaaGreat
open Go.RowKit

theorem Tryz.crowPut : (Tryz.prog.info? 28).map (fun i => (i.zero, i.size, i.bytes)) = some (some (.agg #[.string ⟨#[]⟩, .string ⟨#[]⟩]), 2, 32) := by kernel_rfl

set_option maxHeartbeats 2000000 in
set_option maxRecDepth 100000 in
theorem clonePut_calls {w : World} {ao : Option Addr} {c : Nat} {l : List Value} {m : Nat} (hl : l.length = m * 2) (hnil : ao = none → m = 0 ∧ c = 0) (hsrc : ∀ A, ao = some A → ∀ j v, l[j]? = some v → w.cell? (A.add j) = some v) (h1 : ∀ v ∈ l, v.oneCell' = true) (hfew : m ≤ 1000000) :
    Calls Tryz.prog 46 #[.slice ao m c] w fun e w' => ∃ ao' c', e = .returned (.slice ao' m c') ∧ w'.ownsRow w.heap.size 28 2 (.slice ao' m c') m l ∧ Turn [] w w' := by
  cases ao with
  | none =>
    obtain ⟨rfl, rfl⟩ := hnil rfl
    have hl0 : l = [] := List.eq_nil_of_length_eq_zero (by omega)
    subst hl0
    clear hsrc hnil h1 hl hfew
    have q : (binOp .eql 32 (.slice none 0 0) (.slice none 0 0)).run Tryz.prog w = .ok (.bool true) w := Lib.run_eql_slice_nil w _ _ none 0 0 0 0 Tryz.underlying32
    go_enter Tryz.func46, Tryz.ntmps46
    go_wp2_with fail
    go_ret
    exact ⟨none, 0, rfl, World.ownsRow_nil _ _ _ _, Turn.refl _ _⟩
  | some A =>
    have q : (binOp .eql 32 (.slice (some A) m c) (.slice none 0 0)).run Tryz.prog w = .ok (.bool false) w := Lib.run_eql_slice_nil w _ _ (some A) m c 0 0 Tryz.underlying32
    obtain ⟨i0, hi, hz0, hz1, hz2⟩ := info_parts Tryz.crowPut
    have HI := Lib.hid hi
    have HL := Lib.hid hl
    have H1 := Lib.hid h1
    have HS := Lib.hid (hsrc A rfl)
    clear hsrc hnil h1 hl hi
    go_enter Tryz.func46, Tryz.ntmps46
    have O0 : Hid ((w.alloc (.cells #[] 28)).ownsRow w.heap.size 28 2 (.slice (some ⟨w.heap.size, 0, none⟩) 0 0) 0 []) := Lib.hid ⟨rfl, .inr ⟨w.heap.size, 0, #[], rfl, Nat.le_refl _, heap_alloc_new w _, Nat.le_refl _, by unfold maxLen; omega, rfl, rfl⟩⟩
    have T0 := Lib.hid (Turn.alloc [] w (.cells #[] 28))
    have HX : Hid (∀ j v, l[j]? = some v → (w.alloc (.cells #[] 28)).cell? (A.add j) = some v) := Lib.hid (fun j v hv => T0.out.cell (HS.out j v hv) (by simp))
    go_wp2_with (at_builtin; refine wpList_append_own_at (w.alloc (.cells #[] 28)) rfl (.tmp 5) (.tmp 6) 32 rfl w.heap.size 28 i0 _ 2 32 Tryz.underlying32 HI.out hz0 hz1 hz2 rfl (by decide) (.slice (some ⟨w.heap.size, 0, none⟩) 0 0) 0 [] rfl O0.out A m c l rfl HL.out HX.out H1.out (by unfold maxLen; omega) (by omega) (by simp) ?_)
    all_goals
      intro v' w' o1 o2 _ o4
      try rw [List.nil_append, Nat.zero_add] at o1
      have hform : ∃ ao' c', v' = .slice ao' m c' := by
        rcases o1.2 with ⟨hv, h0⟩ | ⟨g, cap, cur, hv, _⟩
        · exact ⟨none, 0, by rw [hv, h0]⟩
        · exact ⟨_, _, hv⟩
      obtain ⟨ao', c', rfl⟩ := hform
      have O1 := Lib.hid o1
      have T2 := Lib.hid (T0.out.trans (Turn.grown (l := [w.heap.size]) o2 (fun k hk => .inl (by simp [Value.ownBlock] at hk; simp [hk]))) (fun i hi => .inr (by simp at hi; omega)))
      clear o1 o2 o4
      go_wp2_with fail
      go_ret
      exact ⟨_, _, rfl, O1.out, T2.out⟩

theorem Tryz.crowInt : (Tryz.prog.info? 3).map (fun i => (i.zero, i.size, i.bytes)) = some (some (.int .i64 0), 1, 8) := by kernel_rfl

end Go.Proofs.YtjmainefmiefcaaGreat


/-
  'append' onto a row of the call's own, of things of n cells each, in a region that draws its order, and in one that doesn't.
-/
namespace Go.Proofs.YtjmainefmiefcaaGreat
open Go.RowKit

/-- What stands in a slice, as cells: m things of n cells each. -/
def Src (n : Nat) (w : World) (ao : Option Addr) (m c : Nat) (xs : List Value) : Prop :=
  (ao = none ∧ m = 0 ∧ c = 0 ∧ xs = []) ∨ ∃ A : Addr, ao = some A ∧ xs.length = m * n ∧ ∀ j u, xs[j]? = some u → w.cell? (A.add j) = some u

theorem Src.turn {n : Nat} {w w' : World} {ao : Option Addr} {m c : Nat} {xs : List Value} (h : Src n w ao m c xs) (t : Turn [] w w') : Src n w' ao m c xs := by
  rcases h with h | ⟨A, h1, h2, h3⟩
  · exact .inl h
  · exact .inr ⟨A, h1, h2, fun j u hj => t.cell (h3 j u hj) (by simp)⟩

theorem step_append_src {n E T bytes : Nat} {i0 : TypeInfo} {z : Value} (ht : Tryz.prog.underlying T = some (.slice E)) (hi : Tryz.prog.info? E = some i0) (hz : i0.zero = some z) (hsize : i0.size = n) (hby : i0.bytes = bytes) (hzs : z.cells.size = n) (hn : 0 < n)
    {ops : Array Oper} {o : Oper} {a : Act} {w : World} {K : Act → World → Prop} {Q : Exit → Act → World → Prop} {X : Prop} (hgd : o.guard = none) (s x : Operand)
    (ho : o.op = .call { callee := .builtin .append, args := #[s, x], argTypes := #[T, T] })
    (B : Nat) (v : Value) (m0 : Nat) (xs0 : List Value) (hs : a.eval s = v) (hown : w.ownsRow B E n v m0 xs0) (hB : B ≤ w.heap.size)
    (ao : Option Addr) (m c : Nat) (xs : List Value) (hx : a.eval x = .slice ao m c) (hsrc : Src n w ao m c xs) (hone : ∀ u ∈ xs, u.oneCell' = true) (hlen : (m0 + m) * bytes ≤ 140737488355328) (hml : m0 + m ≤ 2000000)
    (h : ∀ v' w', w'.ownsRow B E n v' (m0 + m) (xs0 ++ xs) → w.grownBy w' v.ownBlock → (v'.ownBlock = v.ownBlock ∨ v'.ownBlock = some w.heap.size) → K (a.put o.dst v') w') :
    if Region.wanted o (yielded ops a.tmps) = true then Oper.wp Tryz.prog o a w K Q else X := by
  have hw : Region.wanted o (yielded ops a.tmps) = true := by simp [Region.wanted, hgd]
  rw [if_pos hw]
  rcases hsrc with ⟨rfl, rfl, rfl, rfl⟩ | ⟨A, rfl, h2, h3⟩
  · have hrun := run_append_owned_none (P := Tryz.prog) (w := w) B T o.type E i0 n ht hi v m0 xs0 hown
    unfold Oper.wp execOp
    simp only [ho, resolve, invoke, builtin, Sem.run_bind, Sem.run_pure, Result.andThen_ok, List.map_toArray, List.map_cons, List.map_nil, hs, hx, hrun]
    exact h v w (by simpa using hown) (World.grownBy.refl _ _) (.inl rfl)
  · obtain ⟨v', w', hr, r2, r3, r4, r5⟩ := run_append_own_at (P := Tryz.prog) w B T o.type E i0 z n bytes ht hi hz hsize hby hzs hn v m0 xs0 hown A m c xs h2 h3 hone (by unfold maxLen; omega) hlen hB
    unfold Oper.wp execOp
    simp only [ho, resolve, invoke, builtin, Sem.run_bind, Sem.run_pure, Result.andThen_ok, List.map_toArray, List.map_cons, List.map_nil, hs, hx, hr]
    exact h v' w' r2 r3 r5

/-- The same in a region that keeps its order. -/
theorem append_srcL {n E T bytes : Nat} {i0 : TypeInfo} {z : Value} (ht : Tryz.prog.underlying T = some (.slice E)) (hi : Tryz.prog.info? E = some i0) (hz : i0.zero = some z) (hsize : i0.size = n) (hby : i0.bytes = bytes) (hzs : z.cells.size = n) (hn : 0 < n)
    {ops : Array Oper} {rest : List Oper} {o : Oper} {a : Act} {w : World} {Q : Exit → Act → World → Prop} (hgd : o.guard = none) (s x : Operand)
    (ho : o.op = .call { callee := .builtin .append, args := #[s, x], argTypes := #[T, T] })
    (B : Nat) (v : Value) (m0 : Nat) (xs0 : List Value) (hs : a.eval s = v) (hown : w.ownsRow B E n v m0 xs0) (hB : B ≤ w.heap.size)
    (ao : Option Addr) (m c : Nat) (xs : List Value) (hx : a.eval x = .slice ao m c) (hsrc : Src n w ao m c xs) (hone : ∀ u ∈ xs, u.oneCell' = true) (hlen : (m0 + m) * bytes ≤ 140737488355328) (hml : m0 + m ≤ 2000000)
    (h : ∀ v' w', w'.ownsRow B E n v' (m0 + m) (xs0 ++ xs) → w.grownBy w' v.ownBlock → wpList Tryz.prog ops Q rest (a.put o.dst v') w') : wpList Tryz.prog ops Q (o :: rest) a w := by
  rcases hsrc with ⟨rfl, rfl, rfl, rfl⟩ | ⟨A, rfl, h2, h3⟩
  · exact wpList_append_own_none hgd s x T ho B E i0 n ht hi v m0 xs0 hs hown hx (h v w (by simpa using hown) (World.grownBy.refl _ _))
  · exact wpList_append_own_at w hgd s x T ho B E i0 z n bytes ht hi hz hsize hby hzs hn v m0 xs0 hs hown A m c xs hx h2 h3 hone (by unfold maxLen; omega) hlen hB (fun v' w' r g _ _ => h v' w' r g)

end Go.Proofs.YtjmainefmiefcaaGreat


/-
  A region that draws its order, of loads, calls and of what makes memory, and whose last operations are stores: until the first store comes up a condition holds of the world, under which the loads may be taken first.
-/
namespace Go.Proofs.YtjmainefmiefcaaGreat
open Go

section
variable {P : Program} {md : Region.Mode} {ops : Array Oper} {Q : Exit → Act → World → Prop} {S : World → Prop} {late : List Nat}

/-- Whatever comes up next; S holds behind it, unless it is one of the late ones. -/
def Ph (P : Program) (md : Region.Mode) (ops : Array Oper) (Q : Exit → Act → World → Prop) (S : World → Prop) (late : List Nat) : Nat → Array Bool → Act → World → Prop
  | 0, L, a, w => Region.ready md ops L = [] ∧ Q .normal a w
  | k + 1, L, a, w => (Region.ready md ops L = [] → Q .normal a w) ∧ ∀ j, j ∈ Region.ready md ops L → wpOp P ops Q j (fun b x => (j ∈ late ∨ S x) ∧ Ph P md ops Q S late k (L.setIfInBounds j true) b x) a w

theorem Ph.any : ∀ (k : Nat) (L : Array Bool) (a : Act) (w : World), Ph P md ops Q S late k L a w → wpAny P md ops Q k L a w
  | 0, _, _, _, h => h
  | k + 1, _, _, _, h => ⟨h.1, fun j hj => wpOp_mono (fun b x hb => Ph.any k _ b x hb.2) (h.2 j hj)⟩

/-- Who waits for i does not come up ahead of it. -/
theorem not_both {i j : Nat} {L : Array Bool} (hw : Region.waitsFor md ops j i = true) (hi : i ∈ Region.ready md ops L) : j ∉ Region.ready md ops L := by
  intro hj
  obtain ⟨oj, hoj, e, he, hb, hei⟩ := Region.waitsFor_spec hw
  obtain ⟨-, o2, ho2, hall⟩ := mem_ready.1 hj
  rw [hoj] at ho2
  cases ho2
  have h1 := hall e he hb
  have h0 := (mem_ready.1 hi).1
  rw [hei] at h1
  by_cases hlt : i < L.size
  · simp [hlt] at h0 h1
    rw [h0] at h1
    cases h1
  · simp [Array.getElem?_eq_none (by omega : L.size ≤ i)] at h1

theorem Ph.early {i : Nat} {oi : Oper} {v : Value} (hi : ops[i]? = some oi) (hs : Region.noSelect ops = true) (hw : (late.all fun j => Region.waitsFor md ops j i) = true)
    (hQ : ∀ c a w, Q (.panic c) (a.put oi.dst v) w → Q (.panic c) a w) : ∀ (k : Nat) (L : Array Bool) (a : Act) (w : World),
    (∀ j oj, ops[j]? = some oj → j ≠ i → L.getD j true = false → (∀ e ∈ oj.after, Region.binds md e = true → e.on ≠ i) → oi.apart ops oj = true) →
    i ∈ Region.ready md ops L → YieldsIf P ops S oi v a → S w → Ph P md ops Q S late k (L.setIfInBounds i true) (a.put oi.dst v) w → Ph P md ops Q S late (k + 1) L a w := by
  have hsel := Region.noSelect_spec hs
  intro k
  induction k with
  | zero =>
    intro L a w _ hr hy hS H
    constructor
    · intro h
      rw [h] at hr
      cases hr
    · intro j hj
      have hji : j = i := by
        false_or_by_contra
        rename_i hne
        have h1 := ready_mono hj hne
        rw [H.1] at h1
        cases h1
      subst hji
      exact hy.wpOp hi hS ⟨.inr hS, H⟩
  | succ k ih =>
    intro L a w hfree hr hy hS H
    constructor
    · intro h
      rw [h] at hr
      cases hr
    · intro j hj
      by_cases hji : j = i
      · subst hji
        exact hy.wpOp hi hS ⟨.inr hS, H⟩
      · have hjn : j ∉ late := fun e => not_both (List.all_eq_true.1 hw j e) hr hj
        obtain ⟨hun, oj, hoj, hall⟩ := mem_ready.1 hj
        have hno : ∀ e ∈ oj.after, Region.binds md e = true → e.on ≠ i := by
          intro e he hb hei
          refine not_both (j := j) ?_ hr hj
          unfold Region.waitsFor
          rw [hoj]
          exact Array.any_eq_true'.2 ⟨e, he, by simp [hb, hei]⟩
        have h2 := wpOp_putIf hoj (hfree j oj hoj hji hun hno) (fun cs b => hsel i oi cs b hi) (fun cs b => hsel j oj cs b hoj) hQ hy (H.2 j (ready_mono hj hji))
        refine wpOp_mono (fun b x hb => ?_) h2
        obtain ⟨hy2, hS2, hP2⟩ := hb
        have hSx : S x := hS2.resolve_left hjn
        refine ⟨.inr hSx, ih _ b x ?_ (ready_mono hr (Ne.symm hji)) hy2 hSx ?_⟩
        · intro m om hm hmi hmu hmo
          refine hfree m om hm hmi ?_ hmo
          by_cases hjm : j = m
          · rw [← hjm]; exact hun
          · rwa [getD_set_ne true hjm] at hmu
        · rwa [Array.setIfInBounds_comm _ _ hji]

/-- A load is taken first. -/
theorem Ph.take {i k : Nat} {oi : Oper} {d : Option Tmp} {v : Value} {L : Array Bool} {a : Act} {w : World} (hi : ops[i]? = some oi) (hd : oi.dst = d) (hs : Region.noSelect ops = true) (hw : (late.all fun j => Region.waitsFor md ops j i) = true) (hf : Region.free md ops L i = true)
    (hr : (Region.ready md ops L).contains i = true) (hQ : ∀ c a w, Q (.panic c) (a.put d v) w → Q (.panic c) a w) (hwt : Region.wanted oi (yielded ops a.tmps) = true) (hS : S w)
    (hy : ∀ x, S x → (execOp a.eval oi).run P x = .ok (.value v) x)
    (h : Ph P md ops Q S late k (L.setIfInBounds i true) (a.put d v) w) : Ph P md ops Q S late (k + 1) L a w := by
  subst hd
  exact Ph.early hi hs hw hQ k L a w (Region.free_spec hi hf) (by simpa using hr) (.inl ⟨hwt, hy⟩) hS h

/-- The one that comes up. -/
theorem Ph.one {i k : Nat} {oi : Oper} {L : Array Bool} {a : Act} {w : World} (hr : Region.ready md ops L = [i]) (hi : ops[i]? = some oi)
    (h : ∀ K : Act → World → Prop, (∀ b x, S x → (S x → Ph P md ops Q S late k (L.setIfInBounds i true) b x) → K b x) → if Region.wanted oi (yielded ops a.tmps) = true then Oper.wp P oi a w K Q else K (a.put oi.dst undef) w) :
    Ph P md ops Q S late (k + 1) L a w := by
  refine ⟨fun h0 => (by rw [hr] at h0; cases h0), fun j hj => ?_⟩
  rw [hr] at hj
  have hji : j = i := by simpa using hj
  subst hji
  exact wpOp_step hi (fun K hK => h K (fun b x hS hP => hK b x ⟨.inr hS, hP hS⟩))

/-- A late one. -/
theorem Ph.tardy {i k : Nat} {oi : Oper} {L : Array Bool} {a : Act} {w : World} (hr : Region.ready md ops L = [i]) (hl : late.contains i = true) (hi : ops[i]? = some oi)
    (h : ∀ K : Act → World → Prop, (∀ b x, Ph P md ops Q S late k (L.setIfInBounds i true) b x → K b x) → if Region.wanted oi (yielded ops a.tmps) = true then Oper.wp P oi a w K Q else K (a.put oi.dst undef) w) :
    Ph P md ops Q S late (k + 1) L a w := by
  refine ⟨fun h0 => (by rw [hr] at h0; cases h0), fun j hj => ?_⟩
  rw [hr] at hj
  have hji : j = i := by simpa using hj
  subst hji
  exact wpOp_step hi (fun K hK => h K (fun b x hP => hK b x ⟨.inl (by simpa using hl), hP⟩))

/-- All have come up. -/
theorem Ph.done {L : Array Bool} {a : Act} {w : World} (hr : Region.ready md ops L = []) (h : Q .normal a w) : ∀ k, Ph P md ops Q S late k L a w
  | 0 => ⟨hr, h⟩
  | _ + 1 => ⟨fun _ => h, fun j hj => by rw [hr] at hj; cases hj⟩

/-- The beginning. -/
theorem Ph.start {id : Nat} {a : Act} {w : World} (late : List Nat) (S : World → Prop) (hm : P.follows .mixedOrders = true) (hS : S w.drew)
    (h : S w.drew → Ph P .any ops Q S late ops.size (Array.replicate ops.size false) a w.drew) : (Code.region id ops true).wp P Q a w :=
  wp_region_any hm (Ph.any _ _ _ _ (h hS))

end

end Go.Proofs.YtjmainefmiefcaaGreat


/-
  A region that draws its order, of loads, calls and stores: what holds behind every operation, under which some loads may be taken first; and what holds until a late one has come up, under which the others may.
-/
namespace Go.Proofs.YtjmainefmiefcaaGreat
open Go

section
variable {P : Program} {md : Region.Mode} {ops : Array Oper} {Q : Exit → Act → World → Prop} {S1 S2 : World → Prop} {late : List Nat}

/-- Whatever comes up next; S1 holds behind it, and S2 stays, unless it is one of the late ones. -/
def Pq (P : Program) (md : Region.Mode) (ops : Array Oper) (Q : Exit → Act → World → Prop) (S1 S2 : World → Prop) (late : List Nat) : Nat → Array Bool → Act → World → Prop
  | 0, L, a, w => Region.ready md ops L = [] ∧ Q .normal a w
  | k + 1, L, a, w => (Region.ready md ops L = [] → Q .normal a w) ∧ ∀ j, j ∈ Region.ready md ops L → wpOp P ops Q j (fun b x => (S1 x ∧ (j ∈ late ∨ (S2 w → S2 x))) ∧ Pq P md ops Q S1 S2 late k (L.setIfInBounds j true) b x) a w

theorem Pq.any : ∀ (k : Nat) (L : Array Bool) (a : Act) (w : World), Pq P md ops Q S1 S2 late k L a w → wpAny P md ops Q k L a w
  | 0, _, _, _, h => h
  | k + 1, _, _, _, h => ⟨h.1, fun j hj => wpOp_mono (fun b x hb => Pq.any k _ b x hb.2) (h.2 j hj)⟩

theorem Pq.early {i : Nat} {oi : Oper} {v : Value} {R : World → Prop} (hi : ops[i]? = some oi) (hs : Region.noSelect ops = true) (hR : ∀ w, R w → S1 w) (hst : ∀ j, j ≠ i → (∀ L, i ∈ Region.ready md ops L → j ∈ Region.ready md ops L → ∀ w x, R w → S1 x ∧ (j ∈ late ∨ (S2 w → S2 x)) → R x))
    (hQ : ∀ c a w, Q (.panic c) (a.put oi.dst v) w → Q (.panic c) a w) : ∀ (k : Nat) (L : Array Bool) (a : Act) (w : World),
    (∀ j oj, ops[j]? = some oj → j ≠ i → L.getD j true = false → (∀ e ∈ oj.after, Region.binds md e = true → e.on ≠ i) → oi.apart ops oj = true) →
    i ∈ Region.ready md ops L → YieldsIf P ops R oi v a → R w → Pq P md ops Q S1 S2 late k (L.setIfInBounds i true) (a.put oi.dst v) w → Pq P md ops Q S1 S2 late (k + 1) L a w := by
  have hsel := Region.noSelect_spec hs
  intro k
  induction k with
  | zero =>
    intro L a w _ hr hy hS H
    constructor
    · intro h
      rw [h] at hr
      cases hr
    · intro j hj
      have hji : j = i := by
        false_or_by_contra
        rename_i hne
        have h1 := ready_mono hj hne
        rw [H.1] at h1
        cases h1
      subst hji
      exact hy.wpOp hi hS ⟨⟨hR w hS, .inr id⟩, H⟩
  | succ k ih =>
    intro L a w hfree hr hy hS H
    constructor
    · intro h
      rw [h] at hr
      cases hr
    · intro j hj
      by_cases hji : j = i
      · subst hji
        exact hy.wpOp hi hS ⟨⟨hR w hS, .inr id⟩, H⟩
      · obtain ⟨hun, oj, hoj, hall⟩ := mem_ready.1 hj
        have hno : ∀ e ∈ oj.after, Region.binds md e = true → e.on ≠ i := by
          intro e he hb hei
          refine not_both (j := j) ?_ hr hj
          unfold Region.waitsFor
          rw [hoj]
          exact Array.any_eq_true'.2 ⟨e, he, by simp [hb, hei]⟩
        have h2 := wpOp_putIf hoj (hfree j oj hoj hji hun hno) (fun cs b => hsel i oi cs b hi) (fun cs b => hsel j oj cs b hoj) hQ hy (H.2 j (ready_mono hj hji))
        refine wpOp_mono (fun b x hb => ?_) h2
        obtain ⟨hy2, hS2, hP2⟩ := hb
        have hSx : R x := hst j hji L hr hj w x hS hS2
        refine ⟨hS2, ih _ b x ?_ (ready_mono hr (Ne.symm hji)) hy2 hSx ?_⟩
        · intro m om hm hmi hmu hmo
          refine hfree m om hm hmi ?_ hmo
          by_cases hjm : j = m
          · rw [← hjm]; exact hun
          · rwa [getD_set_ne true hjm] at hmu
        · rwa [Array.setIfInBounds_comm _ _ hji]

/-- What reads under S1 is taken first. -/
theorem Pq.tk (i : Nat) (d : Option Tmp) {k : Nat} {oi : Oper} {v : Value} {L : Array Bool} {a : Act} {w : World} (hS : S1 w)
    (hy : ∀ x, S1 x → (execOp a.eval oi).run P x = .ok (.value v) x)
    (h : Pq P md ops Q S1 S2 late k (L.setIfInBounds i true) (a.put d v) w) (hi : ops[i]? = some oi := by rfl) (hd : oi.dst = d := by rfl) (hs : Region.noSelect ops = true := by kernel_rfl) (hf : Region.free md ops L i = true := by kernel_rfl)
    (hr : (Region.ready md ops L).contains i = true := by kernel_rfl) (hQ : ∀ c a w, Q (.panic c) (a.put d v) w → Q (.panic c) a w := by exact fun _ _ _ h => h) (hwt : Region.wanted oi (yielded ops a.tmps) = true := by rfl) : Pq P md ops Q S1 S2 late (k + 1) L a w := by
  subst hd
  exact Pq.early (R := S1) hi hs (fun _ h => h) (fun _ _ _ _ _ _ _ _ h => h.1) hQ k L a w (Region.free_spec hi hf) (by simpa using hr) (.inl ⟨hwt, hy⟩) hS h

/-- What reads under S2, too: the late ones wait for it. -/
theorem Pq.tk2 (i : Nat) (d : Option Tmp) {k : Nat} {oi : Oper} {v : Value} {L : Array Bool} {a : Act} {w : World} (hS : S1 w) (hT : S2 w)
    (hy : ∀ x, S2 x → (execOp a.eval oi).run P x = .ok (.value v) x)
    (h : Pq P md ops Q S1 S2 late k (L.setIfInBounds i true) (a.put d v) w) (hi : ops[i]? = some oi := by rfl) (hd : oi.dst = d := by rfl) (hs : Region.noSelect ops = true := by kernel_rfl) (hw : (late.all fun j => Region.waitsFor md ops j i) = true := by kernel_rfl) (hf : Region.free md ops L i = true := by kernel_rfl)
    (hr : (Region.ready md ops L).contains i = true := by kernel_rfl) (hQ : ∀ c a w, Q (.panic c) (a.put d v) w → Q (.panic c) a w := by exact fun _ _ _ h => h) (hwt : Region.wanted oi (yielded ops a.tmps) = true := by rfl) : Pq P md ops Q S1 S2 late (k + 1) L a w := by
  subst hd
  refine Pq.early (R := fun x => S1 x ∧ S2 x) hi hs (fun _ h => h.1) (fun j hj L hiL hjL w x hr hx => ⟨hx.1, ?_⟩) hQ k L a w (Region.free_spec hi hf) (by simpa using hr) (.inl ⟨hwt, fun x hx => hy x hx.2⟩) ⟨hS, hT⟩ h
  rcases hx.2 with h1 | h1
  · exact absurd hjL (not_both (List.all_eq_true.1 hw j h1) hiL)
  · exact h1 hr.2

/-- The one that comes up. -/
theorem Pq.one {i k : Nat} {oi : Oper} {L : Array Bool} {a : Act} {w : World} (hr : Region.ready md ops L = [i]) (hi : ops[i]? = some oi)
    (h : ∀ K : Act → World → Prop, (∀ b x, S1 x → (i ∈ late ∨ (S2 w → S2 x)) → Pq P md ops Q S1 S2 late k (L.setIfInBounds i true) b x → K b x) → if Region.wanted oi (yielded ops a.tmps) = true then Oper.wp P oi a w K Q else K (a.put oi.dst undef) w) :
    Pq P md ops Q S1 S2 late (k + 1) L a w := by
  refine ⟨fun h0 => (by rw [hr] at h0; cases h0), fun j hj => ?_⟩
  rw [hr] at hj
  have hji : j = i := by simpa using hj
  subst hji
  exact wpOp_step hi (fun K hK => h K (fun b x h1 h2 hP => hK b x ⟨⟨h1, h2⟩, hP⟩))

/-- All have come up. -/
theorem Pq.done {L : Array Bool} {a : Act} {w : World} (hr : Region.ready md ops L = []) (h : Q .normal a w) : ∀ k, Pq P md ops Q S1 S2 late k L a w
  | 0 => ⟨hr, h⟩
  | _ + 1 => ⟨fun _ => h, fun j hj => by rw [hr] at hj; cases hj⟩

/-- The beginning. -/
theorem Pq.start {id : Nat} {a : Act} {w : World} (late : List Nat) (S1 S2 : World → Prop) (hm : P.follows .mixedOrders = true)
    (h : Pq P .any ops Q S1 S2 late ops.size (Array.replicate ops.size false) a w.drew) : (Code.region id ops true).wp P Q a w :=
  wp_region_any hm (Pq.any _ _ _ _ h)

end

end Go.Proofs.YtjmainefmiefcaaGreat
