/-
  A row of ints that is the law's own: its parts, and what append leaves.
-/
import Derived.Test.YtanjbbmgpodbgaaTurn
import Derived.Laws.AppendOwnNone
namespace Go.Proofs.Ytanjbbmgpodbgaa
open Go.RowKit

theorem Try.introw : (Try.prog.info? 3).map (fun i => (i.zero, i.size, i.bytes)) = some (some (.int .i64 0), 1, 8) := by kernel_rfl

def i64s (l : List Int) : List Value := l.map (Value.int .i64)

theorem i64s_length (l : List Int) : (i64s l).length = l.length := by simp [i64s]
theorem i64s_append (l l2 : List Int) : i64s (l ++ l2) = i64s l ++ i64s l2 := by simp [i64s]
theorem i64s_one (l : List Int) : ∀ u ∈ i64s l, u.oneCell' = true := by
  intro u hu
  obtain ⟨x, -, rfl⟩ := List.mem_map.1 hu
  rfl

/-- A slice's cells. -/
def Sr (w : World) (ao : Option Addr) (c : Nat) (l : List Int) : Prop :=
  (ao = none ∧ c = 0 ∧ l = []) ∨ ∃ A : Addr, ao = some A ∧ ∀ j, j < l.length → w.cell? (A.add j) = some (.int .i64 (l.getD j 0))

theorem Sr.cells {w : World} {A : Addr} {l : List Int} (h : ∀ j, j < l.length → w.cell? (A.add j) = some (.int .i64 (l.getD j 0))) : ∀ j u, (i64s l)[j]? = some u → w.cell? (A.add j) = some u := by
  intro j u hj
  have hjl : j < l.length := by
    have := (List.getElem?_eq_some_iff.1 hj).1
    rwa [i64s_length] at this
  rw [h j hjl]
  simp only [i64s, List.getElem?_map] at hj
  rw [← hj]
  simp [List.getD, hjl]

theorem Sr.new (w : World) (x : Int) (t : TypeId) : Sr (w.alloc (.cells #[.int .i64 x] t)) (some ⟨w.heap.size, 0, none⟩) 1 [x] := by
  refine .inr ⟨_, rfl, fun j hj => ?_⟩
  have : j = 0 := by simpa using hj
  subst this
  rw [Addr.add_lit, World.cell?_alloc_at (hn := rfl)]
  rfl

theorem append_ints {w : World} {ops : Array Oper} {rest : List Oper} {o : Oper} {a : Act} {Q : Exit → Act → World → Prop} (hgd : o.guard = none) (s x : Operand)
    (ho : o.op = .call { callee := .builtin .append, args := #[s, x], argTypes := #[35, 35] })
    (v : Value) (l : List Int) (hs : a.eval s = v) (hown : w.ownsRow 0 3 1 v l.length (i64s l))
    (ao : Option Addr) (n2 c : Nat) (l2 : List Int) (hn2 : n2 = l2.length) (hx : a.eval x = .slice ao n2 c) (hsl : Sr w ao c l2)
    (hlen : l.length + l2.length ≤ 1000000)
    (h : ∀ v' w', w'.ownsRow 0 3 1 v' (l ++ l2).length (i64s (l ++ l2)) → w.grownBy w' v.ownBlock → (v'.ownBlock = v.ownBlock ∨ v'.ownBlock = some w.heap.size) → wpList Try.prog ops Q rest (a.put o.dst v') w') : wpList Try.prog ops Q (o :: rest) a w := by
  obtain ⟨i0, hi, hz0, hz1, hz2⟩ := info_parts Try.introw
  subst hn2
  rcases hsl with ⟨rfl, rfl, rfl⟩ | ⟨A, rfl, hc⟩
  · refine wpList_append_own_none hgd s x 35 ho 0 3 i0 1 Try.underlying35 hi v l.length (i64s l) hs hown hx ?_
    exact h v w (by simpa using hown) (World.grownBy.refl _ _) (.inl rfl)
  · refine wpList_append_own_at w hgd s x 35 ho 0 3 i0 (.int .i64 0) 1 8 Try.underlying35 hi hz0 hz1 hz2 rfl (by decide) v l.length (i64s l) hs hown A l2.length c (i64s l2) hx (by rw [i64s_length]; omega)
      (Sr.cells hc) (i64s_one l2) (by unfold maxLen; omega) (by omega) (Nat.zero_le _) ?_
    intro v' w' hown' hg hn hloc
    exact h v' w' (by rw [List.length_append, i64s_append]; exact hown') hg hloc

/-- A row's value, laid out. -/
theorem row_form {w : World} {base : Nat} {v : Value} {l : List Int} (h : w.ownsRow base 3 1 v l.length (i64s l)) :
    ∃ ao cp, v = .slice ao l.length cp ∧ l.length ≤ cp ∧ cp ≤ maxLen ∧ ((ao = none ∧ l = [] ∧ cp = 0) ∨ ∃ g, ao = some ⟨g, 0, none⟩ ∧ base ≤ g ∧ g < w.heap.size ∧ ∀ j, j < l.length → w.cell? ⟨g, j, none⟩ = some (.int .i64 (l.getD j 0))) := by
  rcases h.2 with ⟨hv, hl⟩ | ⟨g, cap, cur, hv, hB, hg, h1, h2, h3, h4⟩
  · have : l = [] := List.eq_nil_of_length_eq_zero hl
    subst this
    exact ⟨none, 0, hv, Nat.le_refl _, by unfold maxLen; omega, .inl ⟨rfl, rfl, rfl⟩⟩
  · refine ⟨_, cap, hv, h1, h2, .inr ⟨g, rfl, hB, lt_of_heap hg, fun j hj => ?_⟩⟩
    have := h.cells (g := g) (by rw [hv]; rfl) j (.int .i64 (l.getD j 0)) (by simp [i64s, List.getD, hj])
    simpa [Addr.add_lit] using this

end Go.Proofs.Ytanjbbmgpodbgaa
