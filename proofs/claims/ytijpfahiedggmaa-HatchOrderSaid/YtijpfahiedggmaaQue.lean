/-
  A row of numbers at whose front some may have been cut off; 'append' to it, and its cut.
-/
import Derived.Test.YtijpfahiedggmaaTurn
import Derived.Laws.Rows
namespace Go.Proofs.Ytijpfahiedggmaa
open Go.RowKit

def ints (l : List Int) : List Value := l.map fun x => .int .i64 x

theorem ints_length (l : List Int) : (ints l).length = l.length := by simp [ints]

/-- What is left of 'x[k:]': the address, where something is left. -/
def cutAt (ao : Option Addr) (cp k : Nat) : Option Addr := if cp = k then ao else ao.map (fun A => A.add k)

theorem slice_back (ao : Option Addr) (nl cp k : Nat) (h : k ≤ nl) (w : World) : (Instr.slice 26 (.slice ao nl cp) (some (.int .i64 (k : Int))) none none).run Try.prog w = .ok (.slice (cutAt ao cp k) (nl - k) (cp - k)) w := by
  have hu : Try.prog.underlying 26 = some (.slice (Try.prog.elem 26)) := by kernel_rfl
  have hs : ∀ wx, (sizeOf (Try.prog.elem 26)).run Try.prog wx = .ok 1 wx := fun _ => by kernel_rfl
  rw [run_slice_l (P := Try.prog) w 26 ao nl cp hu .i64 (k : Int) (by omega) (by omega), hs]
  simp [Result.andThen, sliced, cutAt]

/-- The row. -/
def Que (w : World) (base : Nat) (v : Value) (xs : List Int) : Prop :=
  ∃ ao cap, v = .slice ao xs.length cap ∧ xs.length ≤ cap ∧ cap ≤ maxLen ∧ ((ao = none ∧ cap = 0) ∨ ∃ g k cur, ao = some ⟨g, k, none⟩ ∧ base ≤ g ∧ w.heap[g]? = some (.cells cur 3 (0, 0)) ∧ k + cap ≤ cur.size ∧ ∀ j u, (ints xs)[j]? = some u → cur[k + j]? = some u)

theorem Que.nil (w : World) (base : Nat) : Que w base (.slice none 0 0) [] := ⟨none, 0, rfl, Nat.le_refl _, by simp [maxLen], .inl ⟨rfl, rfl⟩⟩

theorem Que.turn {w w' : World} {base : Nat} {v : Value} {xs : List Int} {l : List Nat} (h : Que w base v xs) (ht : Turn l w w') (hn : ∀ g, v.ownBlock = some g → g ∉ l) : Que w' base v xs := by
  obtain ⟨ao, cap, rfl, h1, h2, h4⟩ := h
  refine ⟨ao, cap, rfl, h1, h2, ?_⟩
  rcases h4 with h4 | ⟨g, k, cur, rfl, hb, hg, hk, hc⟩
  · exact .inl h4
  · exact .inr ⟨g, k, cur, rfl, hb, ht.heap hg (hn g rfl), hk, hc⟩

theorem Que.blk {w : World} {base : Nat} {v : Value} {xs : List Int} (h : Que w base v xs) {g : Nat} (hg : v.ownBlock = some g) : base ≤ g ∧ ∃ cur, w.heap[g]? = some (.cells cur 3 (0, 0)) := by
  obtain ⟨ao, cap, rfl, h1, h2, ⟨rfl, -⟩ | ⟨g', k, cur, rfl, hb, hh, -⟩⟩ := h
  · cases hg
  · cases hg
    exact ⟨hb, cur, hh⟩

theorem Que.of_owns {w : World} {base : Nat} {v : Value} {xs : List Int} (h : w.ownsRow base 3 1 v xs.length (ints xs)) : Que w base v xs := by
  obtain ⟨-, ⟨rfl, h0⟩ | ⟨g, cap, cur, rfl, hB, hg, hn, hm, hs, ht⟩⟩ := h
  · have := List.eq_nil_of_length_eq_zero h0
    subst this
    exact Que.nil w base
  · refine ⟨_, cap, rfl, hn, hm, .inr ⟨g, 0, cur, rfl, hB, hg, by omega, fun j u hj => ?_⟩⟩
    rw [← ht] at hj
    rw [List.getElem?_take] at hj
    split at hj
    · simpa using hj
    · cases hj

/-- The eldest goes. -/
theorem Que.cut {w : World} {base : Nat} {ao : Option Addr} {cap n : Nat} {x : Int} {xs : List Int} (h : Que w base (.slice ao n cap) (x :: xs)) :
    n = xs.length + 1 ∧ 1 ≤ cap ∧ Que w base (.slice (cutAt ao cap 1) (n - 1) (cap - 1)) xs ∧ (Value.slice (cutAt ao cap 1) (n - 1) (cap - 1)).ownBlock = (Value.slice ao n cap).ownBlock ∧ ∃ g k, ao = some ⟨g, k, none⟩ ∧ w.cell? ⟨g, k, none⟩ = some (.int .i64 x) := by
  obtain ⟨ao', cap', he, h1, h2, h4⟩ := h
  injection he with e1 e2 e3
  subst e1 e2 e3
  simp only [List.length_cons] at *
  rcases h4 with ⟨-, h4⟩ | ⟨g, k, cur, rfl, hb, hg, hk, hc⟩
  · omega
  · have hx : w.cell? ⟨g, k, none⟩ = some (.int .i64 x) := by
      rw [cell_of_row w g k _ _ _ hg]
      exact hc 0 (.int .i64 x) rfl
    by_cases hcap : cap = 1
    · subst hcap
      have h0 : xs = [] := List.eq_nil_of_length_eq_zero (by omega)
      subst h0
      refine ⟨trivial, by omega, ⟨_, _, rfl, by omega, by omega, .inr ⟨g, k, cur, by simp [cutAt], hb, hg, by omega, by simp [ints]⟩⟩, by simp [cutAt, Value.ownBlock], g, k, rfl, hx⟩
    · refine ⟨trivial, by omega, ⟨_, _, rfl, by omega, by omega, .inr ⟨g, k + 1, cur, by simp [cutAt, hcap, Addr.add], hb, hg, by omega, fun j u hj => ?_⟩⟩, by simp [cutAt, hcap, Addr.add, Value.ownBlock], g, k, rfl, hx⟩
      have := hc (j + 1) u (by simpa [ints] using hj)
      rw [← this]
      congr 1
      omega

theorem Try.introw : (Try.prog.info? 3).map (fun i => (i.zero, i.size, i.bytes)) = some (some (.int .i64 0), 1, 8) := by kernel_rfl

/-- 'append(x, n)'. -/
theorem append_que {w : World} {ops : Array Oper} {rest : List Oper} {o : Oper} {a : Act} {Q : Exit → Act → World → Prop} (hgd : o.guard = none) (s x : Operand)
    (ho : o.op = .call { callee := .builtin .append, args := #[s, x], argTypes := #[26, 26] })
    (base : Nat) (v : Value) (xs : List Int) (hs : a.eval s = v) (hq : Que w base v xs)
    (g0 : Nat) (c : Nat) (y : Int) (hx : a.eval x = .slice (some ⟨g0, 0, none⟩) 1 c) (hy : w.cell? ⟨g0, 0, none⟩ = some (.int .i64 y))
    (hlen : xs.length ≤ 1000) (hbase : base ≤ w.heap.size)
    (h : ∀ v' w', Que w' base v' (xs ++ [y]) → w.grownBy w' v.ownBlock → (v'.ownBlock = v.ownBlock ∨ ∀ k, v'.ownBlock = some k → w.heap.size ≤ k) → wpList Try.prog ops Q rest (a.put o.dst v') w') : wpList Try.prog ops Q (o :: rest) a w := by
  obtain ⟨i0, hi, hz0, hz1, hz2⟩ := info_parts Try.introw
  have hadd : ∀ j u, ([Value.int .i64 y])[j]? = some u → w.cell? ((⟨g0, 0, none⟩ : Addr).add j) = some u := by
    intro j u hj
    rcases j with _ | j
    · simp at hj
      subst hj
      exact hy
    · simp at hj
  have hone : ∀ u ∈ [Value.int .i64 y], u.oneCell' = true := by simp [Value.oneCell']
  obtain ⟨ao, cap, rfl, h1, h2, h4⟩ := id hq
  have hgrow : ∀ v' w', w'.ownsRow w.heap.size 3 1 v' (xs.length + 1) (ints xs ++ [.int .i64 y]) → w.grownBy w' none → wpList Try.prog ops Q rest (a.put o.dst v') w' := by
    intro v' w' r1 r2
    have r3 : w'.ownsRow w.heap.size 3 1 v' (xs ++ [y]).length (ints (xs ++ [y])) := by simpa [ints] using r1
    have hB : ∀ k, v'.ownBlock = some k → w.heap.size ≤ k := by
      intro k hk
      obtain ⟨-, ⟨rfl, h0⟩ | ⟨g, cap', cur, rfl, hB, rest⟩⟩ := r3
      · cases hk
      · cases hk
        exact hB
    exact h v' w' (Que.of_owns (ownsRow_base r3 (fun k hk => Nat.le_trans hbase (hB k hk)))) ⟨r2.os, r2.tape, r2.output, r2.size, fun k hk _ => r2.block k hk (by simp)⟩ (.inr hB)
  rcases h4 with ⟨rfl, rfl⟩ | ⟨g, k, cur, rfl, hb, hg, hk, hc⟩
  · have hn0 : xs = [] := List.eq_nil_of_length_eq_zero (by omega)
    subst hn0
    exact wpList_append_grows w hgd s x 26 ho 3 i0 (.int .i64 0) 1 8 Try.underlying26 hi hz0 hz1 hz2 rfl (by decide) none 0 0 [] hs (fun e => ⟨rfl, rfl⟩) rfl (by simp) ⟨g0, 0, none⟩ 1 c [.int .i64 y] hx rfl hadd hone (by omega) (by unfold maxLen; omega) (by omega) hgrow
  · have hcl : ∀ j u, (ints xs)[j]? = some u → w.cell? ⟨g, k + j, none⟩ = some u := fun j u hj => by
      rw [cell_of_row w g (k + j) _ _ _ hg]
      exact hc j u hj
    refine wpList_append_arg w hgd s x 26 ho 3 i0 (.int .i64 0) 1 8 Try.underlying26 hi hz0 hz1 hz2 rfl (by decide) g k xs.length cap (ints xs) hs (by rw [ints_length]; omega) hcl ⟨g0, 0, none⟩ 1 c [.int .i64 y] hx rfl hadd hone ?_ (by unfold maxLen; omega) (by omega) ?_ (fun _ => hgrow)
    · intro hr j hj
      refine ⟨?_, unfrozen_of hg⟩
      simp at hj
      subst hj
      rw [cell_of_row w g _ _ _ _ hg]
      simp
      omega
    · intro hr
      refine h _ _ ?_ ?_ (.inl rfl)
      · refine ⟨_, cap, by simp, by simpa using hr, h2, .inr ⟨g, k, cur.setIfInBounds (k + xs.length * 1) (.int .i64 y), rfl, hb, by simpa [World.setCells] using block_set hg _, by simpa using hk, fun j u hj => ?_⟩⟩
        by_cases hjl : j = xs.length
        · subst hjl
          have : u = .int .i64 y := by simp [ints] at hj; exact hj.symm
          subst this
          rw [Nat.mul_one, Array.getElem?_setIfInBounds_self_of_lt (by omega)]
        · have hlt : j < xs.length := by
            have := (List.getElem?_eq_some_iff.1 hj).1
            rw [ints_length, List.length_append, List.length_singleton] at this
            omega
          rw [Array.getElem?_setIfInBounds_ne (by omega)]
          refine hc j u ?_
          simpa [ints, List.getElem?_append, hlt] using hj
      · refine ⟨rfl, rfl, rfl, by simp [World.setCells, World.setCell], fun k' hk' hne => ?_⟩
        have hne' : k' ≠ g := fun e => hne (by rw [e]; rfl)
        simpa [World.setCells] using Below.heap_setCell w _ _ k' hne'

end Go.Proofs.Ytijpfahiedggmaa
