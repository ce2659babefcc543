/-
  What turns and what stays: a world in which only the blocks of a list may have turned.
-/
import Derived.Test.YtanjbbmgpodbgaaProg
import Derived.WalkKit
import Derived.WalkSpells
import Derived.WalkLawsBesides
import Derived.Lib.Hide
import Derived.Below
import Derived.Maps.OwnSet
import Derived.Maps.AppendAt
import Derived.ArgAppend
namespace Go.Proofs.Ytanjbbmgpodbgaa
open Go.RowKit

/-- w' is w but for the blocks of l and new ones. -/
structure Turn (l : List Nat) (w w' : World) : Prop where
  os : w'.os = w.os
  tape : w'.tape = w.tape
  output : w'.output = w.output
  size : w.heap.size ≤ w'.heap.size
  block : ∀ k, k < w.heap.size → k ∉ l → w'.heap[k]? = w.heap[k]?

theorem Turn.refl (l : List Nat) (w : World) : Turn l w w := ⟨rfl, rfl, rfl, Nat.le_refl _, fun _ _ _ => rfl⟩

/-- One behind the other: what the second may turn is the first's or new. -/
theorem Turn.trans {l l' : List Nat} {a b c : World} (h : Turn l a b) (k : Turn l' b c) (hl : ∀ i ∈ l', i ∈ l ∨ a.heap.size ≤ i) : Turn l a c :=
  ⟨k.os.trans h.os, k.tape.trans h.tape, k.output.trans h.output, Nat.le_trans h.size k.size, fun i hi hn =>
    (k.block i (Nat.lt_of_lt_of_le hi h.size) (fun hm => by rcases hl i hm with h1 | h1 <;> first | exact hn h1 | omega)).trans (h.block i hi hn)⟩

theorem Turn.mono {l l' : List Nat} {a b : World} (h : Turn l a b) (hl : ∀ i ∈ l, i ∈ l' ∨ a.heap.size ≤ i) : Turn l' a b := (Turn.refl l' a).trans h hl

theorem Turn.alloc (l : List Nat) (w : World) (o : Obj) : Turn l w (w.alloc o) := ⟨rfl, rfl, rfl, by simp, fun k hk _ => Below.heap_alloc w o k hk⟩

theorem Turn.drew (l : List Nat) (w : World) : Turn l w w.drew := ⟨rfl, rfl, rfl, Nat.le_refl _, fun _ _ _ => rfl⟩

theorem Turn.drewN (l : List Nat) (w : World) (n : Nat) : Turn l w (w.drewN n) := ⟨rfl, rfl, rfl, Nat.le_refl _, fun _ _ _ => rfl⟩

theorem Turn.setCell {l : List Nat} (w : World) {b i : Nat} (hb : b ∈ l) (u : Value) : Turn l w (w.setCell ⟨b, i, none⟩ u) :=
  ⟨rfl, rfl, rfl, by simp [World.setCell], fun k _ hn => Below.heap_setCell _ _ _ _ (fun e => hn (by rw [e]; exact hb))⟩

theorem Turn.grown {l : List Nat} {w w' : World} {row : Option Nat} (h : w.grownBy w' row) (hr : ∀ k, row = some k → k ∈ l ∨ w.heap.size ≤ k) : Turn l w w' :=
  ⟨h.os, h.tape, h.output, h.size, fun k hk hn => h.block k hk (fun e => by rcases hr k e.symm with h1 | h1 <;> first | exact hn h1 | omega)⟩

theorem Turn.of_below {w w' : World} (h : Below w.heap.size w w') (l : List Nat) : Turn l w w' := ⟨h.os, h.tape, h.output, h.size, fun k hk _ => h.block k hk⟩

/-- Nothing below B has turned, where the list is above it. -/
theorem Turn.below {l : List Nat} {w w' : World} {B : Nat} (h : Turn l w w') (hl : ∀ k ∈ l, B ≤ k) (hB : B ≤ w.heap.size) : Below B w w' :=
  ⟨h.os, h.tape, h.output, h.size, fun k hk => h.block k (by omega) (fun hm => by have := hl k hm; omega)⟩

theorem Turn.belowAll {w w' : World} (h : Turn [] w w') : Below w.heap.size w w' := h.below (by simp) (Nat.le_refl _)

theorem lt_of_heap {w : World} {b : Nat} {o : Obj} (h : w.heap[b]? = some o) : b < w.heap.size := (Array.getElem?_eq_some_iff.1 h).1

theorem Turn.heap {l : List Nat} {w w' : World} {b : Nat} {o : Obj} (h : Turn l w w') (hb : w.heap[b]? = some o) (hn : b ∉ l) : w'.heap[b]? = some o := (h.block b (lt_of_heap hb) hn).trans hb

theorem Turn.cell {l : List Nat} {w w' : World} {a : Addr} {v : Value} (h : Turn l w w') (hb : w.cell? a = some v) (hn : a.block ∉ l) : w'.cell? a = some v :=
  (World.cell?_of_block (h.block _ (World.block_lt_of_cell? _ _ hb) hn)).trans hb

/-- A block of cells is written at one place. -/
theorem block_set {w : World} {g i : Nat} {cs : Array Value} {t : TypeId} {fr : Nat × Nat} (h : w.heap[g]? = some (.cells cs t fr)) (v : Value) : (w.setCell ⟨g, i, none⟩ v).heap[g]? = some (.cells (cs.setIfInBounds i v) t fr) := by
  simp [World.setCell, Array.getElem?_modify, h]

theorem block_other {w : World} {g b i : Nat} (hne : g ≠ b) (v : Value) : (w.setCell ⟨b, i, none⟩ v).heap[g]? = w.heap[g]? := Below.heap_setCell _ _ _ _ hne

theorem unfrozen_of {w : World} {g i : Nat} {cs : Array Value} {t : TypeId} (h : w.heap[g]? = some (.cells cs t (0, 0))) : w.frozen? ⟨g, i, none⟩ = false := by
  simp [World.frozen?, h]

/-- A row of the call's own stays while other blocks turn. -/
theorem ownsRow_turn {l : List Nat} {w w' : World} {base : Nat} {e : TypeId} {size : Nat} {v : Value} {n : Nat} {xs : List Value} (h : w.ownsRow base e size v n xs) (ht : Turn l w w') (hn : ∀ k, v.ownBlock = some k → k ∉ l) : w'.ownsRow base e size v n xs := by
  refine ⟨h.1, ?_⟩
  rcases h.2 with h0 | ⟨g, cap, cur, rfl, hB, hg, rest⟩
  · exact .inl h0
  · exact .inr ⟨g, cap, cur, rfl, hB, ht.heap hg (hn g rfl), rest⟩

theorem ownsRow_base {w : World} {base base' : Nat} {e : TypeId} {size : Nat} {v : Value} {n : Nat} {xs : List Value} (h : w.ownsRow base e size v n xs) (hb : ∀ k, v.ownBlock = some k → base' ≤ k) : w.ownsRow base' e size v n xs := by
  refine ⟨h.1, ?_⟩
  rcases h.2 with h0 | ⟨g, cap, cur, rfl, hB, rest⟩
  · exact .inl h0
  · exact .inr ⟨g, cap, cur, rfl, hb g rfl, rest⟩


theorem ret_int {k : IntKind} {a b : Int} (h : a = b) : Ending.returned (.int k a) = .returned (.int k b) := by rw [h]

theorem ret_bool {a b : Bool} (h : a = b) : Ending.returned (.bool a) = .returned (.bool b) := by rw [h]

end Go.Proofs.Ytanjbbmgpodbgaa
