/-
  Rows of the call's own as slices of numbers, of puts; append of a put.
-/
import Derived.Test.YtanjbbmgpodbgaaLrec
import Derived.Test.YtanjbbmgpodbgaaIs8
namespace Go.Proofs.Ytanjbbmgpodbgaa
open Go.RowKit

theorem own_il {w : World} {ao : Option Addr} {c : Nat} {l : List Int} (h : w.ownsRow 0 3 1 (.slice ao l.length c) l.length (i64s l)) (hb : ∀ n ∈ l, -9223372036854775808 ≤ n ∧ n ≤ 9223372036854775807) : Il w ao c l := by
  obtain ⟨ao', c', e, h1, h2, h3⟩ := row_form h
  injection e with e1 e2 e3
  subst e1 e3
  rcases h3 with ⟨h4, h5, h6⟩ | ⟨g, h4, -, -, h5⟩
  · exact .inl ⟨h4, h6, h5⟩
  · exact .inr ⟨_, h4, h1, h2, fun i hi => by rw [Addr.add_lit, Nat.zero_add]; exact h5 i hi, hb⟩

theorem pcells_at : ∀ (l : List (ByteArray × ByteArray)) (i : Nat), i < l.length → (pcells l)[i * 2]? = some (.string (l.getD i putNone).1) ∧ (pcells l)[i * 2 + 1]? = some (.string (l.getD i putNone).2)
  | [], _, h => by simp at h
  | p :: l, 0, _ => ⟨rfl, rfl⟩
  | p :: l, i + 1, h => by
    have := pcells_at l i (by simpa using h)
    have e : pcells (p :: l) = .string p.1 :: .string p.2 :: pcells l := rfl
    rw [e, show (i + 1) * 2 = i * 2 + 1 + 1 by omega]
    exact this

theorem own_ps {w : World} {ao : Option Addr} {c : Nat} {l : List (ByteArray × ByteArray)} (h : w.ownsRow 0 29 2 (.slice ao l.length c) l.length (pcells l)) (hb : ∀ i, i < l.length → (l.getD i putNone).1.size ≤ 9223372036854775807 ∧ (l.getD i putNone).2.size ≤ 9223372036854775807) : Ps w ao c l := by
  rcases h.2 with ⟨e, h0⟩ | ⟨g, cap, cur, e, _, hg, h1, h2, h3, h4⟩
  · injection e with e1 e2 e3
    exact .inl ⟨e1, e3, List.eq_nil_of_length_eq_zero h0⟩
  · injection e with e1 e2 e3
    subst e1 e3
    refine .inr ⟨_, rfl, h1, h2, fun i hi => ?_⟩
    obtain ⟨p1, p2⟩ := pcells_at l i hi
    rw [Addr.add_lit, Addr.add_lit, Nat.zero_add]
    exact ⟨(h.cellAt (i * 2) (by omega)).trans p1, (h.cellAt (i * 2 + 1) (by omega)).trans p2, (hb i hi).1, (hb i hi).2⟩

/-- A row of puts, laid out. -/
theorem put_form {w : World} {base : Nat} {v : Value} {l : List (ByteArray × ByteArray)} (h : w.ownsRow base 29 2 v l.length (pcells l)) : ∃ ao cp, v = .slice ao l.length cp := by
  rcases h.2 with ⟨hv, hl⟩ | ⟨g, cap, cur, hv, _⟩
  · exact ⟨none, 0, by rw [hv, hl]⟩
  · exact ⟨_, _, hv⟩

/-- 'append(x, Put{..})' in a region that keeps its order. -/
theorem append_put {w : World} {ops : Array Oper} {rest : List Oper} {o : Oper} {a : Act} {Q : Exit → Act → World → Prop} (hgd : o.guard = none) (s x : Operand)
    (ho : o.op = .call { callee := .builtin .append, args := #[s, x], argTypes := #[36, 36] })
    (v : Value) (l : List (ByteArray × ByteArray)) (hs : a.eval s = v) (hown : w.ownsRow 0 29 2 v l.length (pcells l))
    (A : Nat) (p : ByteArray × ByteArray) (hx : a.eval x = .slice (some ⟨A, 0, none⟩) 1 1) (hc0 : w.cell? ⟨A, 0, none⟩ = some (.string p.1)) (hc1 : w.cell? ⟨A, 1, none⟩ = some (.string p.2)) (hb : l.length ≤ 1000000)
    (h : ∀ v' w', w'.ownsRow 0 29 2 v' (l ++ [p]).length (pcells (l ++ [p])) → w.grownBy w' v.ownBlock → (v'.ownBlock = v.ownBlock ∨ v'.ownBlock = some w.heap.size) → wpList Try.prog ops Q rest (a.put o.dst v') w') : wpList Try.prog ops Q (o :: rest) a w := by
  obtain ⟨i0, hi, hz0, hz1, hz2⟩ := info_parts Try.putrow
  refine wpList_append_own_at w hgd s x 36 ho 0 29 i0 _ 2 32 Try.underlying36 hi hz0 hz1 hz2 rfl (by decide) v l.length (pcells l) hs hown ⟨A, 0, none⟩ 1 1 [.string p.1, .string p.2] hx rfl
    (fun j u hj => by
      match j, hj with
      | 0, hj => simp at hj; rw [← hj, Addr.add_lit]; exact hc0
      | 1, hj => simp at hj; rw [← hj, Addr.add_lit]; exact hc1
      | j + 2, hj => simp at hj) (by intro u hu; simp at hu; rcases hu with rfl | rfl <;> rfl) (by unfold maxLen; omega) (by omega) (Nat.zero_le _) ?_
  intro v' w' h2 h3 _ h5
  exact h v' w' (by rw [List.length_append, pcells_append]; exact h2) h3 h5

end Go.Proofs.Ytanjbbmgpodbgaa
