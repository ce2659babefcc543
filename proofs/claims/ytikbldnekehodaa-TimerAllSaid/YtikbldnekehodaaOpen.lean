/-
  What opens the arguments of the laws of bag and timer: slices of ints, slices of Ops.
-/
import Derived.Test.YtikbldnekehodaaChecked
import Derived.Test.YtikbldnekehodaaIl
import Derived.Test.YtikbldnekehodaaOl6
import Derived.ProofKit
import Derived.OpenShut
import Derived.Deep.Slices
import Derived.Deep.Grids
import Derived.Deep.Strs
namespace Go.Proofs.Ytikbldnekehodaa
open Go.RowKit Go.ChangeShapes Go.WideShapes Go.ChangeAt Go.Deep

theorem open_nums {H : Type} {enc : TypeId × Value → H} {W : World} {a : Option Addr} {len cap : Nat} {d : DataW H} {p : List MemPlace}
    (h : DataW.Trod enc Try.prog W 0 (fun _ => true) true 28 (.slice a len cap) d p) : ∃ l : List Int, len = l.length ∧ Il W a cap l := by
  obtain ⟨fuel, hf⟩ := h
  rcases open_ints Try.underlying28 Try.underlying3 (by kernel_rfl) hf with ⟨hcs, _⟩ | ⟨x, l, c, zs, hcs, _, hl, hm, hz, _, hcell, hwz⟩
  · simp [Value.cells] at hcs
    obtain ⟨rfl, rfl, rfl⟩ := hcs
    exact ⟨[], rfl, .inl ⟨rfl, rfl, rfl⟩⟩
  · simp [Value.cells] at hcs
    obtain ⟨rfl, rfl, rfl⟩ := hcs
    simp only [if_true] at hz
    refine ⟨zs.take len, by simp; omega, .inr ⟨x, rfl, by simp; omega, hm, fun i hi => ?_, fun n hn => bounds_i64 (hwz n (List.mem_of_mem_take hn))⟩⟩
    have hi2 : i < len := by simp at hi; omega
    rw [hcell i (by omega)]
    simp [List.getD, hi2]

theorem exists_list {α : Type} (d : α) (P : Nat → α → Prop) : ∀ n, (∀ i, i < n → ∃ x, P i x) → ∃ l : List α, l.length = n ∧ ∀ i, i < n → P i (l.getD i d)
  | 0, _ => ⟨[], rfl, fun i hi => by omega⟩
  | n + 1, h => by
    obtain ⟨l, hl, hp⟩ := exists_list d P n (fun i hi => h i (by omega))
    obtain ⟨x, hx⟩ := h n (by omega)
    refine ⟨l ++ [x], by simp [hl], fun i hi => ?_⟩
    by_cases e : i < n
    · have : (l ++ [x]).getD i d = l.getD i d := by simp [List.getD, List.getElem?_append, hl, e]
      rw [this]
      exact hp i e
    · obtain rfl : i = n := by omega
      have : (l ++ [x]).getD i d = x := by simp [List.getD, ← hl]
      rw [this]
      exact hx

theorem cells3 : Try.prog.cellsOf 30 = 3 := by kernel_rfl

theorem cellsI : Try.prog.cellsOf 3 = 1 := by kernel_rfl

set_option maxRecDepth 100000 in
theorem open_ops6 {H : Type} {enc : TypeId × Value → H} {W : World} {a : Option Addr} {len cap : Nat} {d : DataW H} {p : List MemPlace}
    (h : DataW.Trod enc Try.prog W 0 (fun _ => true) true 22 (.slice a len cap) d p) : ∃ l : List OpV, len = l.length ∧ Ol W a cap l := by
  obtain ⟨fuel, hf⟩ := h
  rcases open_slice Try.underlying22 hf with ⟨hcs, _⟩ | ⟨x, l, c, m, n, D, Pl, hcs, _, hl, hm, hmm, _, hel⟩
  · simp [Value.cells] at hcs
    obtain ⟨rfl, rfl, rfl⟩ := hcs
    exact ⟨[], rfl, .inl ⟨rfl, rfl, rfl⟩⟩
  · simp [Value.cells] at hcs
    obtain ⟨rfl, rfl, rfl⟩ := hcs
    simp only [if_true] at hmm
    rw [cells3] at hel
    obtain ⟨ops, hol, hop⟩ := exists_list opNone (fun i (o : OpV) => o.ok ∧ W.cell? (x.add (i * 3)) = some (.int .i64 o.kind) ∧ W.cell? ((x.add (i * 3)).add 1) = some (.int .i64 o.x) ∧ W.cell? ((x.add (i * 3)).add 2) = some (.int .i64 o.n)) len (by
      intro i hi
      obtain ⟨cs, hc, ht⟩ := hel i (by omega)
      obtain ⟨y0, y1, y2, k, _, hlen, t0, t1, t2⟩ := trod_struct3 Try.underlying30 ht
      rw [cells3] at hlen
      obtain ⟨_, _, hat⟩ := World.cells?_some hc
      match cs, hlen with
      | [v0, v1, v2], _ =>
        obtain ⟨kd, e0, _, w0⟩ := DataW.trod_int Try.underlying3 t0
        obtain ⟨xx, e1, _, w1⟩ := DataW.trod_int Try.underlying3 t1
        obtain ⟨nn, e2, _, w2⟩ := DataW.trod_int Try.underlying3 t2
        have q0 := hat 0 (by omega)
        have q1 := hat 1 (by omega)
        have q2 := hat 2 (by omega)
        dsimp only at e0 e1 e2
        rw [cellsI] at e0 e1 e2
        simp only [List.drop_zero, List.drop_succ_cons, List.take_succ_cons, List.take_zero, List.cons.injEq, and_true] at e0 e1 e2
        subst e0 e1 e2
        have a0 : (x.add (i * 3)).add 0 = x.add (i * 3) := by simp [Addr.add]
        rw [a0] at q0
        exact ⟨⟨kd, xx, nn⟩, ⟨bounds_i64 w0, bounds_i64 w1, bounds_i64 w2⟩, q0, q1, q2⟩)
    refine ⟨ops, hol.symm, .inr ⟨x, rfl, by omega, hm, fun i hi => hop i (by omega)⟩⟩

end Go.Proofs.Ytikbldnekehodaa
