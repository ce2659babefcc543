/-
  Slices of bytes in memory: what it means that a slice value reads as a list of bytes, the laws of append for such, and the walks of slices.Grow and slices.Concat at bytes.
-/
import Derived.Test.YtanjbbmgpodbgaaProg
import Derived.WalkKit
import Derived.WalkSpells
import Derived.WalkLawsBesides
import Derived.Lib.Hide
import Derived.Lib.AppendZeros
import Derived.Laws.AppendOwnNone
namespace Go.Proofs.Ytanjbbmgpodbgaa
open Go.RowKit

theorem ret_int {k : IntKind} {a b : Int} (h : a = b) : Ending.returned (.int k a) = .returned (.int k b) := by rw [h]

theorem ret_bool {a b : Bool} (h : a = b) : Ending.returned (.bool a) = .returned (.bool b) := by rw [h]

/-- Bytes as cells. -/
def u8s (l : List UInt8) : List Value := l.map fun b => Value.int .u8 (b.toNat : Int)

/-- A slice value's address and capacity, and the bytes that stand there. -/
def Sl (w : World) (ao : Option Addr) (c : Nat) (l : List UInt8) : Prop :=
  (ao = none ∧ c = 0 ∧ l = []) ∨
  ∃ A : Addr, ao = some A ∧ l.length ≤ c ∧ c ≤ maxLen ∧ ∀ i, i < l.length → w.cell? (A.add i) = some (.int .u8 ((l.getD i 0).toNat : Int))

theorem add_block (A : Addr) (i : Nat) : (A.add i).block = A.block := by
  unfold Addr.add
  split <;> rfl

theorem u8s_length (l : List UInt8) : (u8s l).length = l.length := by simp [u8s]
theorem u8s_append (a b : List UInt8) : u8s (a ++ b) = u8s a ++ u8s b := by simp [u8s]
theorem u8s_oneCell (l : List UInt8) : ∀ u ∈ u8s l, u.oneCell' = true := by
  intro u hu
  obtain ⟨_, _, rfl⟩ := List.mem_map.1 hu
  rfl
theorem u8s_at {l : List UInt8} {i : Nat} (h : i < l.length) : (u8s l)[i]? = some (.int .u8 ((l.getD i 0).toNat : Int)) := by
  simp [u8s, List.getD, h]

theorem Sl.nil (w : World) : Sl w none 0 [] := .inl ⟨rfl, rfl, rfl⟩

theorem Sl.le {w : World} {ao : Option Addr} {c : Nat} {l : List UInt8} (h : Sl w ao c l) : l.length ≤ c ∧ c ≤ maxLen := by
  rcases h with ⟨_, rfl, rfl⟩ | ⟨A, _, h1, h2, _⟩
  · exact ⟨by simp, by unfold maxLen; omega⟩
  · exact ⟨h1, h2⟩

theorem Sl.cells {w : World} {A : Addr} {c : Nat} {l : List UInt8} (h : Sl w (some A) c l) : ∀ j u, (u8s l)[j]? = some u → w.cell? (A.add j) = some u := by
  intro j u hu
  rcases h with ⟨h, _⟩ | ⟨A', hA, _, _, hc⟩
  · cases h
  · cases hA
    have hj : j < l.length := by have := (List.getElem?_eq_some_iff.1 hu).1; simpa [u8s] using this
    rw [u8s_at hj] at hu
    rw [hc j hj]
    exact hu

/-- Another world in which the same blocks stand. -/
theorem Sl.mono {w w' : World} {ao : Option Addr} {c : Nat} {l : List UInt8} (h : Sl w ao c l) (hw : ∀ A v, ao = some A → ∀ i, w.cell? (A.add i) = some v → w'.cell? (A.add i) = some v) : Sl w' ao c l := by
  rcases h with h | ⟨A, hA, h1, h2, hc⟩
  · exact .inl h
  · exact .inr ⟨A, hA, h1, h2, fun i hi => hw A _ hA i (hc i hi)⟩

theorem Sl.below {w w' : World} {B : Nat} {ao : Option Addr} {c : Nat} {l : List UInt8} (h : Sl w ao c l) (hb : Below B w w') (hB : ∀ A, ao = some A → l ≠ [] → A.block < B) : Sl w' ao c l := by
  rcases h with h | ⟨A, hA, h1, h2, hc⟩
  · exact .inl h
  · refine .inr ⟨A, hA, h1, h2, fun i hi => ?_⟩
    rw [hb.cell (p := A.add i) (by rw [add_block]; exact hB A hA (by intro e; subst e; simp at hi))]
    exact hc i hi

/-- A slice of which a byte is there lies in a block. -/
theorem Sl.lt {w : World} {A : Addr} {c : Nat} {l : List UInt8} (h : Sl w (some A) c l) (hl : l ≠ []) : A.block < w.heap.size := by
  rcases h with ⟨h, _⟩ | ⟨A', hA, _, _, hc⟩
  · cases h
  · cases hA
    have := hc 0 (List.length_pos_iff.2 hl)
    have := World.block_lt_of_cell? _ _ this
    rwa [add_block] at this

theorem Sl.belowAll {w w' : World} {ao : Option Addr} {c : Nat} {l : List UInt8} (h : Sl w ao c l) (hb : Below w.heap.size w w') : Sl w' ao c l :=
  h.below hb (by
    intro A hA hl
    subst hA
    exact h.lt hl)

/-- A slice that owns its row reads so. -/
theorem Sl.of_owns {w : World} {B e n : Nat} {v : Value} {l : List UInt8} (h : w.ownsRow B e 1 v n (u8s l)) : ∃ ao c, v = .slice ao l.length c ∧ Sl w ao c l ∧ (∀ A, ao = some A → B ≤ A.block) := by
  have hn : n = l.length := by have := h.1; rw [u8s_length] at this; omega
  subst hn
  rcases h.2 with ⟨rfl, h0⟩ | ⟨g, cap, cur, rfl, hB, hg, hle, hm, hs, htk⟩
  · have : l = [] := List.eq_nil_of_length_eq_zero h0
    subst this
    exact ⟨none, 0, rfl, Sl.nil _, by intro A hA; cases hA⟩
  · refine ⟨_, cap, rfl, .inr ⟨_, rfl, hle, hm, fun i hi => ?_⟩, by intro A hA; cases hA; exact hB⟩
    have := h.cellAt i (by omega)
    rw [u8s_at hi] at this
    rw [Addr.add_lit, Nat.zero_add]
    exact this

theorem Try.u8row : (Try.prog.info? 5).map (fun i => (i.zero, i.size, i.bytes)) = some (some (.int .u8 0), 1, 1) := by kernel_rfl

/-- 'append(x, y...)', x the call's own, y whatever slice of bytes. -/
theorem append_bytes {w : World} {ops : Array Oper} {rest : List Oper} {o : Oper} {a : Act} {Q : Exit → Act → World → Prop} (hgd : o.guard = none) (s x : Operand)
    (ho : o.op = .call { callee := .builtin .append, args := #[s, x], argTypes := #[24, 24] })
    (base : Nat) (v : Value) (l : List UInt8) (hs : a.eval s = v) (hown : w.ownsRow base 5 1 v l.length (u8s l))
    (ao : Option Addr) (c : Nat) (l2 : List UInt8) (hx : a.eval x = .slice ao l2.length c) (hsl : Sl w ao c l2)
    (hbytes : l.length + l2.length ≤ 140737488355328) (hbase : base ≤ w.heap.size)
    (h : ∀ v' w', w'.ownsRow base 5 1 v' (l ++ l2).length (u8s (l ++ l2)) → w.grownBy w' v.ownBlock → (v' = .slice none 0 0 ↔ v = .slice none 0 0 ∧ l2.length = 0) → wpList Try.prog ops Q rest (a.put o.dst v') w') : wpList Try.prog ops Q (o :: rest) a w := by
  obtain ⟨i0, hi, hz0, hz1, hz2⟩ := info_parts Try.u8row
  rcases hsl with ⟨rfl, rfl, rfl⟩ | ⟨A, rfl, h1, h2, hc⟩
  · refine wpList_append_own_none hgd s x 24 ho base 5 i0 1 Try.underlying24 hi v l.length (u8s l) hs hown hx ?_
    have := h v w (by simpa using hown) (World.grownBy.refl _ _) ⟨fun h => ⟨h, rfl⟩, fun h => h.1⟩
    exact this
  · refine wpList_append_own w hgd s x 24 ho base 5 i0 (.int .u8 0) 1 1 Try.underlying24 hi hz0 hz1 hz2 rfl (by decide) v l.length (u8s l) hs hown A l2.length c (u8s l2) hx (by rw [u8s_length]; omega)
      (Sl.cells (.inr ⟨A, rfl, h1, h2, hc⟩)) (u8s_oneCell l2) (by unfold maxLen; omega) (by omega) hbase ?_
    intro v' w' hown' hg hn
    exact h v' w' (by rw [List.length_append, u8s_append]; exact hown') hg hn

set_option maxHeartbeats 400000 in
set_option maxRecDepth 100000 in
/-- Room for n bytes: nothing is in it yet. -/
theorem grow_calls (n : Nat) (w : World) (hn : n ≤ 140737488355328) :
    Calls Try.prog 83 #[.slice none 0 0, .int .i64 (n : Int)] w fun e w' => ∃ v, e = .returned v ∧ w'.ownsRow w.heap.size 5 1 v 0 [] ∧ Below w.heap.size w w' := by
  obtain ⟨i0, hi, hz0, hz1, hz2⟩ := info_parts Try.u8row
  by_cases h0 : n = 0
  · subst h0
    go_enter Try.func83, Try.ntmps83
    go_wp2
    go_ret
    exact ⟨_, rfl, World.ownsRow_nil _ _ _ _, Below.refl _ _⟩
  · have hrun := Lib.run_append_nil_zeros (P := Try.prog) w 24 3 24 5 i0 (.int .u8 0) .i64 .i64 Try.underlying24 Try.underlying3 hi hz0 n (by omega) (by omega) (by omega) (by rw [hz2]; omega)
    have hpos : (0 : Int) < (n : Int) := by omega
    go_enter Try.func83, Try.ntmps83
    go_wp2_with (at_builtin; refine Lib.wpList_append_run _ rfl (.tmp 20) (.tmp 21) 24 3 rfl _ _ rfl rfl _ _ hrun ?_)
    go_ret
    have hcap := grownCap_ge w n 0 5
    have hmax := grownCap_le_maxLen w n 0 5 (by unfold maxLen; omega)
    refine ⟨_, rfl, (World.ownsRow_made w _ _ (Nat.le_refl _) hmax ?_).drew, ((Below.refl _ _).alloc (Nat.le_refl _) _).drew⟩
    rw [Array.size_append, size_zeroCells, size_zeroCells]
    show n * 1 + (grownCap w n 0 5 - n) * 1 = grownCap w n 0 5 * 1
    omega

set_option maxRecDepth 100000 in
/-- Two slices of bytes, one behind the other, in new memory. -/
theorem concat_calls (sb so : Nat) (cc : Nat) (a1 a2 : Option Addr) (c1 c2 : Nat) (l1 l2 : List UInt8) (w : World)
    (hs1 : w.cell? ⟨sb, so, none⟩ = some (.slice a1 l1.length c1)) (hs2 : w.cell? ⟨sb, so + 1, none⟩ = some (.slice a2 l2.length c2)) (h1 : Sl w a1 c1 l1) (h2 : Sl w a2 c2 l2)
    (hb : l1.length + l2.length ≤ 140737488355328) :
    Calls Try.prog 78 #[.slice (some ⟨sb, so, none⟩) 2 cc] w fun e w' => ∃ v, e = .returned v ∧ w'.ownsRow w.heap.size 5 1 v (l1 ++ l2).length (u8s (l1 ++ l2)) ∧ Below w.heap.size w w' := by
  go_enter Try.func78, Try.ntmps78
  go_wp2_with fail
  refine wp_loop_rounds 3 ?_
  rw [rounds_succ]
  go_wp2_with fail
  rw [rounds_succ]
  go_wp2_with fail
  rw [rounds_succ]
  go_wp2_with fail
  refine (grow_calls (l1.length + l2.length) _ hb).mono ?_
  rintro e w1 ⟨v0, rfl, hown0, hb0⟩
  have hs1' := (hb0.cell (p := ⟨sb, so, none⟩) (World.block_lt_of_cell? _ _ hs1)).trans hs1
  have hs2' := (hb0.cell (p := ⟨sb, so + 1, none⟩) (World.block_lt_of_cell? _ _ hs2)).trans hs2
  have h1' := h1.belowAll hb0
  have h2' := h2.belowAll hb0
  have hsz0 := hb0.size
  go_wp2_with fail
  refine wp_loop_rounds 3 ?_
  rw [rounds_succ]
  go_wp2_with (at_builtin; refine append_bytes rfl (.tmp 31) (.tmp 32) rfl w.heap.size v0 [] rfl hown0 a1 c1 l1 rfl h1' (by simp; omega) hsz0 ?_)
  intro v1 w2 hown1 hg1 _

  have hlt : ∀ k, v0.ownBlock = some k → w.heap.size ≤ k := fun k hk => (hown0.lt k hk).1
  have hb1 : Below w.heap.size w w2 := hb0.grown hg1 hsz0 hlt
  have hs2'' := (hb1.cell (p := ⟨sb, so + 1, none⟩) (World.block_lt_of_cell? _ _ hs2)).trans hs2
  have h2'' := h2.belowAll hb1
  have hsz1 := hb1.size
  have hlt1 : ∀ k, v1.ownBlock = some k → w.heap.size ≤ k := fun k hk => (hown1.lt k hk).1
  clear hs1' hs2' h1' h2' hg1 hown0 hb0 hlt
  go_wp2_with fail
  rw [rounds_succ]
  go_wp2_with (at_builtin; refine append_bytes rfl (.tmp 31) (.tmp 32) rfl w.heap.size v1 l1 rfl hown1 a2 c2 l2 rfl h2'' (by omega) hsz1 ?_)
  intro v2 w3 hown2 hg2 _
  have hb2 : Below w.heap.size w w3 := hb1.grown hg2 hsz1 hlt1
  clear hs2'' h2'' hg2 hown1 hb1 hlt1
  go_wp2_with fail
  rw [rounds_succ]
  go_wp2_with fail
  go_ret
  exact ⟨v2, rfl, by rw [List.length_append]; exact hown2, hb2⟩

end Go.Proofs.Ytanjbbmgpodbgaa
