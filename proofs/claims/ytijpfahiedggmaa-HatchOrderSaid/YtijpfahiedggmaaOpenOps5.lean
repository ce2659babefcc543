/-
  A slice of Ops that came in: its cells, two a value. A slice of truths.
-/
import Derived.Test.YtijpfahiedggmaaChecked
import Derived.Test.YtijpfahiedggmaaTurn
import Derived.ProofKit
import Derived.OpenShut
import Derived.Deep.Slices
import Derived.Deep.Grids
namespace Go.Proofs.Ytijpfahiedggmaa
open Go.RowKit Go.ChangeShapes Go.WideShapes Go.ChangeAt Go.Deep

/-- A call's kind and its number. -/
structure OpV where
  kind : Int
  n : Int

def OpV.ok (x : OpV) : Prop := (-9223372036854775808 ≤ x.kind ∧ x.kind ≤ 9223372036854775807) ∧ (-9223372036854775808 ≤ x.n ∧ x.n ≤ 9223372036854775807)

def opNone : OpV := ⟨0, 0⟩

/-- A slice of values, as cells. -/
def Ol (w : World) (ao : Option Addr) (c : Nat) (l : List OpV) : Prop :=
  (ao = none ∧ c = 0 ∧ l = []) ∨
  ∃ A : Addr, ao = some A ∧ l.length ≤ c ∧ c ≤ maxLen ∧ ∀ i, i < l.length → (l.getD i opNone).ok ∧
    w.cell? (A.add (i * 2)) = some (.int .i64 (l.getD i opNone).kind) ∧ w.cell? ((A.add (i * 2)).add 1) = some (.int .i64 (l.getD i opNone).n)

/-- A value's two cells. -/
def OpAt (w : World) (b off : Nat) (x : OpV) : Prop :=
  x.ok ∧ w.cell? ⟨b, off, none⟩ = some (.int .i64 x.kind) ∧ w.cell? ⟨b, off + 1, none⟩ = some (.int .i64 x.n)

theorem OpAt.below {w w' : World} {B b off : Nat} {x : OpV} (h : OpAt w b off x) (hb : Below B w w') (hB : b < B) : OpAt w' b off x :=
  ⟨h.1, (hb.cell (p := ⟨b, off, none⟩) hB).trans h.2.1, (hb.cell (p := ⟨b, off + 1, none⟩) hB).trans h.2.2⟩

theorem Ol.at {w : World} {ao : Option Addr} {c : Nat} {l : List OpV} (h : Ol w ao c l) (hl : l ≠ []) : ∃ b off, ao = some ⟨b, off, none⟩ ∧ b < w.heap.size ∧ ∀ i, i < l.length → OpAt w b (off + i * 2) (l.getD i opNone) := by
  rcases h with ⟨_, _, h⟩ | ⟨A, rfl, _, _, hc⟩
  · exact absurd h hl
  · obtain ⟨b, off, spot⟩ := A
    have h0 := (hc 0 (List.length_pos_iff.2 hl)).2.1
    have hs : spot = none := by simpa [Addr.add] using World.cell?_spot h0
    subst hs
    have hc' : ∀ i, i < l.length → OpAt w b (off + i * 2) (l.getD i opNone) := fun i hi => by
      have := hc i hi
      simp only [Addr.add_lit] at this
      exact this
    exact ⟨b, off, rfl, World.block_lt_of_cell? _ _ (hc' 0 (List.length_pos_iff.2 hl)).2.1, hc'⟩

theorem Ol.len {w : World} {ao : Option Addr} {c : Nat} {l : List OpV} (h : Ol w ao c l) : (l.length : Int) ≤ 9223372036854775807 := by
  rcases h with ⟨_, _, rfl⟩ | ⟨A, _, q1, q2, _⟩
  · simp
  · unfold maxLen at q2; omega

theorem exists_list {α : Type} (d : α) (P : Nat → α → Prop) : ∀ n, (∀ i, i < n → ∃ x, P i x) → ∃ l : List α, l.length = n ∧ ∀ i, i < n → P i (l.getD i d)
  | 0, _ => ⟨[], rfl, fun i hi => by omega⟩
  | n + 1, h => by
    obtain ⟨l, hl, hp⟩ := exists_list d P n (fun i hi => h i (by omega))
    obtain ⟨x, hx⟩ := h n (by omega)
    refine ⟨l ++ [x], by simp [hl], fun i hi => ?_⟩
    by_cases e : i < n
    · have : (l ++ [x]).getD i d = l.getD i d := by simp [List.getD, List.getElem?_append, hl, e]
      rw [this]
      exact hp i e
    · obtain rfl : i = n := by omega
      have : (l ++ [x]).getD i d = x := by simp [List.getD, ← hl]
      rw [this]
      exact hx

theorem cells2 : Try.prog.cellsOf 28 = 2 := by kernel_rfl

theorem cellsI : Try.prog.cellsOf 3 = 1 := by kernel_rfl
theorem cellsB : Try.prog.cellsOf 4 = 1 := by kernel_rfl

theorem open_ops5 {H : Type} {enc : TypeId × Value → H} {W : World} {a : Option Addr} {len cap : Nat} {d : DataW H} {p : List MemPlace}
    (h : DataW.Trod enc Try.prog W 0 (fun _ => true) true 22 (.slice a len cap) d p) : ∃ l : List OpV, len = l.length ∧ Ol W a cap l := by
  obtain ⟨fuel, hf⟩ := h
  rcases open_slice Try.underlying22 hf with ⟨hcs, _⟩ | ⟨x, l, c, m, n, D, Pl, hcs, _, hl, hm, hmm, _, hel⟩
  · simp [Value.cells] at hcs
    obtain ⟨rfl, rfl, rfl⟩ := hcs
    exact ⟨[], rfl, .inl ⟨rfl, rfl, rfl⟩⟩
  · simp [Value.cells] at hcs
    obtain ⟨rfl, rfl, rfl⟩ := hcs
    simp only [if_true] at hmm
    rw [cells2] at hel
    obtain ⟨ops, hol, hop⟩ := exists_list opNone (fun i (o : OpV) => o.ok ∧ W.cell? (x.add (i * 2)) = some (.int .i64 o.kind) ∧ W.cell? ((x.add (i * 2)).add 1) = some (.int .i64 o.n)) len (by
      intro i hi
      obtain ⟨cs, hc, ht⟩ := hel i (by omega)
      obtain ⟨y0, y1, k, _, hlen, t0, t1⟩ := trod_struct2 Try.underlying28 ht
      rw [cells2] at hlen
      obtain ⟨_, _, hat⟩ := World.cells?_some hc
      match cs, hlen with
      | [v0, v1], _ =>
        obtain ⟨kd, e0, _, w0⟩ := DataW.trod_int Try.underlying3 t0
        obtain ⟨nn, e1, _, w1⟩ := DataW.trod_int Try.underlying3 t1
        have q0 := hat 0 (by omega)
        have q1 := hat 1 (by omega)
        dsimp only at e0 e1
        rw [cellsI] at e0 e1
        simp only [List.drop_zero, List.drop_succ_cons, List.take_succ_cons, List.take_zero, List.cons.injEq, and_true] at e0 e1
        subst e0 e1
        have a0 : (x.add (i * 2)).add 0 = x.add (i * 2) := by simp [Addr.add]
        rw [a0] at q0
        exact ⟨⟨kd, nn⟩, ⟨bounds_i64 w0, bounds_i64 w1⟩, q0, q1⟩)
    refine ⟨ops, hol.symm, .inr ⟨x, rfl, by omega, hm, fun i hi => hop i (by omega)⟩⟩

/-- A slice of truths, as cells. -/
def Bl (w : World) (ao : Option Addr) (c : Nat) (l : List Bool) : Prop :=
  (ao = none ∧ c = 0 ∧ l = []) ∨
  ∃ A : Addr, ao = some A ∧ l.length ≤ c ∧ c ≤ maxLen ∧ ∀ i, i < l.length → w.cell? (A.add i) = some (.bool (l.getD i false))

theorem Bl.at {w : World} {ao : Option Addr} {c : Nat} {l : List Bool} (h : Bl w ao c l) (hl : l ≠ []) : ∃ b off, ao = some ⟨b, off, none⟩ ∧ b < w.heap.size ∧ ∀ i, i < l.length → w.cell? ⟨b, off + i, none⟩ = some (.bool (l.getD i false)) := by
  rcases h with ⟨_, _, h⟩ | ⟨A, rfl, _, _, hc⟩
  · exact absurd h hl
  · obtain ⟨b, off, spot⟩ := A
    have h0 := hc 0 (List.length_pos_iff.2 hl)
    have hs : spot = none := by simpa [Addr.add] using World.cell?_spot h0
    subst hs
    have hc' : ∀ i, i < l.length → w.cell? ⟨b, off + i, none⟩ = some (.bool (l.getD i false)) := fun i hi => by
      have := hc i hi
      rwa [Addr.add_lit] at this
    exact ⟨b, off, rfl, World.block_lt_of_cell? _ _ (hc' 0 (List.length_pos_iff.2 hl)), hc'⟩

theorem Bl.len {w : World} {ao : Option Addr} {c : Nat} {l : List Bool} (h : Bl w ao c l) : (l.length : Int) ≤ 9223372036854775807 := by
  rcases h with ⟨_, _, rfl⟩ | ⟨A, _, q1, q2, _⟩
  · simp
  · unfold maxLen at q2; omega

theorem open_truths {H : Type} {enc : TypeId × Value → H} {W : World} {a : Option Addr} {len cap : Nat} {d : DataW H} {p : List MemPlace}
    (h : DataW.Trod enc Try.prog W 0 (fun _ => true) true 42 (.slice a len cap) d p) : ∃ l : List Bool, len = l.length ∧ Bl W a cap l := by
  obtain ⟨fuel, hf⟩ := h
  rcases open_bools Try.underlying42 Try.underlying4 (by kernel_rfl) hf with ⟨hcs, _⟩ | ⟨x, l, c, B, hcs, _, hl, hm, _, hcell⟩
  · simp [Value.cells] at hcs
    obtain ⟨rfl, rfl, rfl⟩ := hcs
    exact ⟨[], rfl, .inl ⟨rfl, rfl, rfl⟩⟩
  · simp [Value.cells] at hcs
    obtain ⟨rfl, rfl, rfl⟩ := hcs
    refine ⟨(List.range len).map B, by simp, .inr ⟨x, rfl, by simpa using hl, hm, fun i hi => ?_⟩⟩
    have hi2 : i < len := by simpa using hi
    rw [hcell i (by omega)]
    simp [List.getD, hi2]

end Go.Proofs.Ytijpfahiedggmaa
