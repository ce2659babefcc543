/-
  A lane: a channel with room, behind whose pointers what waits lies in blocks of its own; a hatch: two lanes and a number. What stays of them while other blocks turn.
-/
import Derived.Test.YtijpfahiedggmaaTurn
import Derived.Conc.LoneCalls
import Derived.Conc.LoneSelect
import Derived.Conc.LoneSelectN
import Derived.Laws.Rows
namespace Go.Proofs.Ytijpfahiedggmaa
open Go.RowKit Go.Conc

/-- A pointer to a block's head. -/
def pt (b : Nat) : Value := .pointer (some ⟨b, 0, none⟩)

/-- A lane: its channel's room and what waits, the eldest first: where it lies and what it is. -/
def Lane (t : TypeId) (w : World) (c room : Nat) (L : List (Nat × Value)) : Prop :=
  (∃ s r, w.heap[c]? = some (.chan room (L.map fun p => pt p.1).toArray false s r false)) ∧ ∀ p ∈ L, w.heap[p.1]? = some (.cells #[p.2] t (0, 0))

theorem Lane.turn {t : TypeId} {w w' : World} {c room : Nat} {L : List (Nat × Value)} {l : List Nat} (h : Lane t w c room L) (ht : Turn l w w') (hc : c ∉ l) (hl : ∀ p ∈ L, p.1 ∉ l) : Lane t w' c room L := by
  obtain ⟨⟨s, r, h1⟩, h2⟩ := h
  exact ⟨⟨s, r, ht.heap h1 hc⟩, fun p hp => ht.heap (h2 p hp) (hl p hp)⟩

theorem Turn.setChan (w : World) (c cap : Nat) (buf : Array Value) (cl : Bool) (s r : Nat) (tm : Bool) : Turn [c] w (w.setChan c cap buf cl s r tm) :=
  ⟨rfl, rfl, rfl, by simp [World.setChan], fun k _ hn => by
    simp only [World.setChan]
    rw [Array.getElem?_setIfInBounds_ne (by simp at hn; omega)]⟩

theorem chan_ne {w : World} {c b cap s r : Nat} {buf cs : Array Value} {cl tm : Bool} {t : TypeId} {fz : Nat × Nat} (h1 : w.heap[c]? = some (.chan cap buf cl s r tm)) (h2 : w.heap[b]? = some (.cells cs t fz)) : b ≠ c := by
  rintro rfl
  rw [h1] at h2
  cases h2

/-- A hatch at b, its lanes' channels c1 and c2. -/
structure HIs (ht t : TypeId) (w : World) (b c1 c2 room : Nat) (F S : List (Nat × Value)) (lost : Nat) : Prop where
  head : w.heap[b]? = some (.cells #[.chan (some c1), .chan (some c2), .int .i64 (lost : Int)] ht (0, 0))
  fast : Lane t w c1 room F
  slow : Lane t w c2 room S
  ne : c1 ≠ c2

theorem HIs.bc {ht t : TypeId} {w : World} {b c1 c2 room lost : Nat} {F S : List (Nat × Value)} (h : HIs ht t w b c1 c2 room F S lost) : b ≠ c1 ∧ b ≠ c2 := by
  obtain ⟨h0, ⟨⟨s, r, h1⟩, -⟩, ⟨⟨s', r', h2⟩, -⟩, -⟩ := h
  exact ⟨chan_ne h1 h0, chan_ne h2 h0⟩

theorem HIs.pts {ht t : TypeId} {w : World} {b c1 c2 room lost : Nat} {F S : List (Nat × Value)} (h : HIs ht t w b c1 c2 room F S lost) : ∀ p ∈ F ++ S, p.1 ≠ b ∧ p.1 ≠ c1 ∧ p.1 ≠ c2 ∧ p.1 < w.heap.size := by
  obtain ⟨h0, ⟨⟨s, r, h1⟩, h3⟩, ⟨⟨s', r', h2⟩, h4⟩, -⟩ := h
  intro p hp
  have hp' : w.heap[p.1]? = some (.cells #[p.2] t (0, 0)) := by
    rcases List.mem_append.1 hp with h | h
    · exact h3 p h
    · exact h4 p h
  refine ⟨fun e => ?_, chan_ne h1 hp', chan_ne h2 hp', lt_of_heap hp'⟩
  rw [e, h0] at hp'
  simp at hp'

theorem HIs.turn {ht t : TypeId} {w w' : World} {b c1 c2 room lost : Nat} {F S : List (Nat × Value)} {l : List Nat} (h : HIs ht t w b c1 c2 room F S lost) (hw : Turn l w w') (hb : b ∉ l) (h1 : c1 ∉ l) (h2 : c2 ∉ l) (hl : ∀ p ∈ F ++ S, p.1 ∉ l) : HIs ht t w' b c1 c2 room F S lost :=
  ⟨hw.heap h.head hb, h.fast.turn hw h1 (fun p hp => hl p (by simp [hp])), h.slow.turn hw h2 (fun p hp => hl p (by simp [hp])), h.ne⟩

theorem HIs.nil {ht t : TypeId} {w w' : World} {b c1 c2 room lost : Nat} {F S : List (Nat × Value)} (h : HIs ht t w b c1 c2 room F S lost) (hw : Turn [] w w') : HIs ht t w' b c1 c2 room F S lost := h.turn hw (by simp) (by simp) (by simp) (by simp)

theorem HIs.lt {ht t : TypeId} {w : World} {b c1 c2 room lost : Nat} {F S : List (Nat × Value)} (h : HIs ht t w b c1 c2 room F S lost) : b < w.heap.size ∧ c1 < w.heap.size ∧ c2 < w.heap.size := by
  obtain ⟨h0, ⟨⟨s, r, h1⟩, -⟩, ⟨⟨s', r', h2⟩, -⟩, -⟩ := h
  exact ⟨lt_of_heap h0, lt_of_heap h1, lt_of_heap h2⟩

theorem three_cells {w : World} {b : Nat} {x y z : Value} {T : TypeId} (h : w.heap[b]? = some (.cells #[x, y, z] T (0, 0))) :
    w.cell? ⟨b, 0, none⟩ = some x ∧ w.cell? ⟨b, 1, none⟩ = some y ∧ w.cell? ⟨b, 2, none⟩ = some z ∧ w.frozen? ⟨b, 0, none⟩ = false ∧ w.frozen? ⟨b, 1, none⟩ = false ∧ w.frozen? ⟨b, 2, none⟩ = false :=
  ⟨by rw [cell_of_row w b 0 _ _ _ h]; rfl, by rw [cell_of_row w b 1 _ _ _ h]; rfl, by rw [cell_of_row w b 2 _ _ _ h]; rfl, unfrozen_of h, unfrozen_of h, unfrozen_of h⟩

/-- One thing more waits. -/
theorem Lane.put {t : TypeId} {w : World} {c room : Nat} {L : List (Nat × Value)} (h : Lane t w c room L) (x : Value) {s r : Nat} :
    Lane t ((w.alloc (.cells #[x] t (0, 0))).setChan c room ((L.map fun p => pt p.1).toArray.push (pt w.heap.size)) false s r false) c room (L ++ [(w.heap.size, x)]) := by
  obtain ⟨⟨s0, r0, h1⟩, h2⟩ := h
  have hlt := lt_of_heap h1
  refine ⟨⟨s, r, ?_⟩, fun p hp => ?_⟩
  · rw [heap_setChan _ _ _ _ _ _ _ _ (by simp; omega)]
    simp
  · rcases List.mem_append.1 hp with hp | hp
    · have hc := chan_ne h1 (h2 p hp)
      exact (Turn.setChan _ _ _ _ _ _ _ _).heap ((Turn.alloc [] _ _).heap (h2 p hp) (by simp)) (by simpa using hc)
    · simp only [List.mem_singleton] at hp
      subst hp
      exact (Turn.setChan _ _ _ _ _ _ _ _).heap (heap_alloc_new w _) (by simp; omega)

/-- The eldest goes. -/
theorem Lane.take {t : TypeId} {w : World} {c room : Nat} {L : List (Nat × Value)} {p : Nat × Value} (h : Lane t w c room (p :: L)) {s r : Nat} :
    Lane t (w.setChan c room (((p :: L).map fun p => pt p.1).toArray.extract 1 ((p :: L).map fun p => pt p.1).toArray.size) false s r false) c room L := by
  obtain ⟨⟨s0, r0, h1⟩, h2⟩ := h
  have hlt := lt_of_heap h1
  refine ⟨⟨s, r, ?_⟩, fun q hq => ?_⟩
  · rw [heap_setChan _ _ _ _ _ _ _ _ hlt]
    simp
    exact List.take_of_length_le (by simp)
  · have hc := chan_ne h1 (h2 q (by simp [hq]))
    exact (Turn.setChan _ _ _ _ _ _ _ _).heap (h2 q (by simp [hq])) (by simpa using hc)

theorem lane_new (t : TypeId) (w : World) {c n : Nat} (h : w.heap[c]? = some (.chan n #[] false 0 0 false)) : Lane t w c n [] := ⟨⟨0, 0, by simpa using h⟩, by simp⟩

/-- How much room each lane has. -/
def roomOf (n : Int) : Nat := (max 1 (min n 64)).toNat

theorem roomOf_is (n : Int) : ((roomOf n : Nat) : Int) = max 1 (min n 64) ∧ 1 ≤ roomOf n ∧ roomOf n ≤ 64 := by unfold roomOf; omega

/-- A hatch that was just made. -/
theorem made (ht t : TypeId) (w : World) (m c1 c2 : Nat) (hc : (c1 = w.heap.size ∧ c2 = w.heap.size + 1) ∨ (c1 = w.heap.size + 1 ∧ c2 = w.heap.size)) :
    HIs ht t (((w.alloc (.chan m #[] false 0 0 false)).alloc (.chan m #[] false 0 0 false)).alloc (.cells #[.chan (some c1), .chan (some c2), .int .i64 0] ht (0, 0))).drew (w.heap.size + 1 + 1) c1 c2 m [] [] 0 ∧
      Turn [] w (((w.alloc (.chan m #[] false 0 0 false)).alloc (.chan m #[] false 0 0 false)).alloc (.cells #[.chan (some c1), .chan (some c2), .int .i64 0] ht (0, 0))).drew := by
  have t3 : Turn [] ((w.alloc (.chan m #[] false 0 0 false)).alloc (.chan m #[] false 0 0 false)) (((w.alloc (.chan m #[] false 0 0 false)).alloc (.chan m #[] false 0 0 false)).alloc (.cells #[.chan (some c1), .chan (some c2), .int .i64 0] ht (0, 0))).drew := (Turn.alloc [] _ _).trans (Turn.drew [] _) (by simp)
  have h0 : ((w.alloc (.chan m #[] false 0 0 false)).alloc (.chan m #[] false 0 0 false)).heap[w.heap.size]? = some (.chan m #[] false 0 0 false) := (Turn.alloc [] _ _).heap (heap_alloc_new w _) (by simp)
  have h1 : ((w.alloc (.chan m #[] false 0 0 false)).alloc (.chan m #[] false 0 0 false)).heap[w.heap.size + 1]? = some (.chan m #[] false 0 0 false) := by
    have := heap_alloc_new (w.alloc (.chan m #[] false 0 0 false)) (.chan m #[] false 0 0 false)
    simpa only [World.size_alloc] using this
  have h2 : (((w.alloc (.chan m #[] false 0 0 false)).alloc (.chan m #[] false 0 0 false)).alloc (.cells #[.chan (some c1), .chan (some c2), .int .i64 0] ht (0, 0))).drew.heap[w.heap.size + 1 + 1]? = some (.cells #[.chan (some c1), .chan (some c2), .int .i64 0] ht (0, 0)) := by
    have := heap_alloc_new ((w.alloc (.chan m #[] false 0 0 false)).alloc (.chan m #[] false 0 0 false)) (.cells #[.chan (some c1), .chan (some c2), .int .i64 0] ht (0, 0))
    simp only [World.size_alloc] at this
    exact this
  refine ⟨?_, (Turn.alloc [] _ _).trans ((Turn.alloc [] _ _).trans t3 (by simp)) (by simp)⟩
  rcases hc with ⟨rfl, rfl⟩ | ⟨rfl, rfl⟩
  · exact ⟨by simpa using h2, lane_new _ _ (t3.heap h0 (by simp)), lane_new _ _ (t3.heap h1 (by simp)), by omega⟩
  · exact ⟨by simpa using h2, lane_new _ _ (t3.heap h1 (by simp)), lane_new _ _ (t3.heap h0 (by simp)), by omega⟩

end Go.Proofs.Ytijpfahiedggmaa
