/-
  A slice of Ops that came in: its cells, three a value.
-/
import Derived.Test.YtikbldnekehodaaTurn
namespace Go.Proofs.Ytikbldnekehodaa
open Go.RowKit

/-- An op's three numbers. -/
structure OpV where
  kind : Int
  x : Int
  n : Int

def i64ok (x : Int) : Prop := -9223372036854775808 ≤ x ∧ x ≤ 9223372036854775807

def OpV.ok (o : OpV) : Prop := i64ok o.kind ∧ i64ok o.x ∧ i64ok o.n

def opNone : OpV := ⟨0, 0, 0⟩

/-- A slice of values, as cells. -/
def Ol (w : World) (ao : Option Addr) (c : Nat) (l : List OpV) : Prop :=
  (ao = none ∧ c = 0 ∧ l = []) ∨
  ∃ A : Addr, ao = some A ∧ l.length ≤ c ∧ c ≤ maxLen ∧ ∀ i, i < l.length → (l.getD i opNone).ok ∧
    w.cell? (A.add (i * 3)) = some (.int .i64 (l.getD i opNone).kind) ∧ w.cell? ((A.add (i * 3)).add 1) = some (.int .i64 (l.getD i opNone).x) ∧ w.cell? ((A.add (i * 3)).add 2) = some (.int .i64 (l.getD i opNone).n)

/-- A value's three cells. -/
def OpAt (w : World) (b off : Nat) (o : OpV) : Prop :=
  o.ok ∧ w.cell? ⟨b, off, none⟩ = some (.int .i64 o.kind) ∧ w.cell? ⟨b, off + 1, none⟩ = some (.int .i64 o.x) ∧ w.cell? ⟨b, off + 2, none⟩ = some (.int .i64 o.n)

theorem OpAt.below {w w' : World} {B b off : Nat} {o : OpV} (h : OpAt w b off o) (hb : Below B w w') (hB : b < B) : OpAt w' b off o :=
  ⟨h.1, (hb.cell (p := ⟨b, off, none⟩) hB).trans h.2.1, (hb.cell (p := ⟨b, off + 1, none⟩) hB).trans h.2.2.1, (hb.cell (p := ⟨b, off + 2, none⟩) hB).trans h.2.2.2⟩

theorem Ol.at {w : World} {ao : Option Addr} {c : Nat} {l : List OpV} (h : Ol w ao c l) (hl : l ≠ []) : ∃ b off, ao = some ⟨b, off, none⟩ ∧ b < w.heap.size ∧ ∀ i, i < l.length → OpAt w b (off + i * 3) (l.getD i opNone) := by
  rcases h with ⟨_, _, h⟩ | ⟨A, rfl, _, _, hc⟩
  · exact absurd h hl
  · obtain ⟨b, off, spot⟩ := A
    have h0 := (hc 0 (List.length_pos_iff.2 hl)).2.1
    have hs : spot = none := by simpa [Addr.add] using World.cell?_spot h0
    subst hs
    have hc' : ∀ i, i < l.length → OpAt w b (off + i * 3) (l.getD i opNone) := fun i hi => by
      have := hc i hi
      simp only [Addr.add_lit] at this
      exact this
    exact ⟨b, off, rfl, World.block_lt_of_cell? _ _ (hc' 0 (List.length_pos_iff.2 hl)).2.1, hc'⟩

theorem Ol.len {w : World} {ao : Option Addr} {c : Nat} {l : List OpV} (h : Ol w ao c l) : (l.length : Int) ≤ 9223372036854775807 := by
  rcases h with ⟨_, _, rfl⟩ | ⟨A, _, q1, q2, _⟩
  · simp
  · unfold maxLen at q2; omega

end Go.Proofs.Ytikbldnekehodaa
