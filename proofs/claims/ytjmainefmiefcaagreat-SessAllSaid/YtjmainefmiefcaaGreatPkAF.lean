/-
  Of the texts Slice Out In Crc Sum Begun Bits Ref, in build order, each as it was built alone.
-/
import Derived.Test.YtjmainefmiefcaaGreatProg
import Derived.WalkKit
import Derived.WalkSpells
import Derived.WalkLawsBesides
import Derived.Lib.Hide
import Derived.Lib.AppendZeros
import Derived.Laws.AppendOwnNone
import Derived.Lib.SlBytesConst
import Derived.Lib.AppendStr
import Derived.Deep.RegionLaw

/-
  Slices of bytes in memory: what it means that a slice value reads as a list of bytes, the laws of append for such, and the walks of slices.Grow and slices.Concat at bytes.
-/
namespace Go.Proofs.YtjmainefmiefcaaGreat
open Go.RowKit

theorem ret_int_ofSlice {k : IntKind} {a b : Int} (h : a = b) : Ending.returned (.int k a) = .returned (.int k b) := by rw [h]

theorem ret_bool_ofSlice {a b : Bool} (h : a = b) : Ending.returned (.bool a) = .returned (.bool b) := by rw [h]

/-- Bytes as cells. -/
def u8s (l : List UInt8) : List Value := l.map fun b => Value.int .u8 (b.toNat : Int)

/-- A slice value's address and capacity, and the bytes that stand there. -/
def Sl (w : World) (ao : Option Addr) (c : Nat) (l : List UInt8) : Prop :=
  (ao = none ∧ c = 0 ∧ l = []) ∨
  ∃ A : Addr, ao = some A ∧ l.length ≤ c ∧ c ≤ maxLen ∧ ∀ i, i < l.length → w.cell? (A.add i) = some (.int .u8 ((l.getD i 0).toNat : Int))

theorem add_block (A : Addr) (i : Nat) : (A.add i).block = A.block := by
  unfold Addr.add
  split <;> rfl

theorem u8s_length (l : List UInt8) : (u8s l).length = l.length := by simp [u8s]
theorem u8s_append (a b : List UInt8) : u8s (a ++ b) = u8s a ++ u8s b := by simp [u8s]
theorem u8s_oneCell (l : List UInt8) : ∀ u ∈ u8s l, u.oneCell' = true := by
  intro u hu
  obtain ⟨_, _, rfl⟩ := List.mem_map.1 hu
  rfl
theorem u8s_at {l : List UInt8} {i : Nat} (h : i < l.length) : (u8s l)[i]? = some (.int .u8 ((l.getD i 0).toNat : Int)) := by
  simp [u8s, List.getD, h]

theorem Sl.nil (w : World) : Sl w none 0 [] := .inl ⟨rfl, rfl, rfl⟩

theorem Sl.le {w : World} {ao : Option Addr} {c : Nat} {l : List UInt8} (h : Sl w ao c l) : l.length ≤ c ∧ c ≤ maxLen := by
  rcases h with ⟨_, rfl, rfl⟩ | ⟨A, _, h1, h2, _⟩
  · exact ⟨by simp, by unfold maxLen; omega⟩
  · exact ⟨h1, h2⟩

theorem Sl.cells {w : World} {A : Addr} {c : Nat} {l : List UInt8} (h : Sl w (some A) c l) : ∀ j u, (u8s l)[j]? = some u → w.cell? (A.add j) = some u := by
  intro j u hu
  rcases h with ⟨h, _⟩ | ⟨A', hA, _, _, hc⟩
  · cases h
  · cases hA
    have hj : j < l.length := by have := (List.getElem?_eq_some_iff.1 hu).1; simpa [u8s] using this
    rw [u8s_at hj] at hu
    rw [hc j hj]
    exact hu

/-- Another world in which the same blocks stand. -/
theorem Sl.mono {w w' : World} {ao : Option Addr} {c : Nat} {l : List UInt8} (h : Sl w ao c l) (hw : ∀ A v, ao = some A → ∀ i, w.cell? (A.add i) = some v → w'.cell? (A.add i) = some v) : Sl w' ao c l := by
  rcases h with h | ⟨A, hA, h1, h2, hc⟩
  · exact .inl h
  · exact .inr ⟨A, hA, h1, h2, fun i hi => hw A _ hA i (hc i hi)⟩

theorem Sl.below {w w' : World} {B : Nat} {ao : Option Addr} {c : Nat} {l : List UInt8} (h : Sl w ao c l) (hb : Below B w w') (hB : ∀ A, ao = some A → l ≠ [] → A.block < B) : Sl w' ao c l := by
  rcases h with h | ⟨A, hA, h1, h2, hc⟩
  · exact .inl h
  · refine .inr ⟨A, hA, h1, h2, fun i hi => ?_⟩
    rw [hb.cell (p := A.add i) (by rw [add_block]; exact hB A hA (by intro e; subst e; simp at hi))]
    exact hc i hi

/-- A slice of which a byte is there lies in a block. -/
theorem Sl.lt {w : World} {A : Addr} {c : Nat} {l : List UInt8} (h : Sl w (some A) c l) (hl : l ≠ []) : A.block < w.heap.size := by
  rcases h with ⟨h, _⟩ | ⟨A', hA, _, _, hc⟩
  · cases h
  · cases hA
    have := hc 0 (List.length_pos_iff.2 hl)
    have := World.block_lt_of_cell? _ _ this
    rwa [add_block] at this

theorem Sl.belowAll {w w' : World} {ao : Option Addr} {c : Nat} {l : List UInt8} (h : Sl w ao c l) (hb : Below w.heap.size w w') : Sl w' ao c l :=
  h.below hb (by
    intro A hA hl
    subst hA
    exact h.lt hl)

/-- A slice that owns its row reads so. -/
theorem Sl.of_owns {w : World} {B e n : Nat} {v : Value} {l : List UInt8} (h : w.ownsRow B e 1 v n (u8s l)) : ∃ ao c, v = .slice ao l.length c ∧ Sl w ao c l ∧ (∀ A, ao = some A → B ≤ A.block) := by
  have hn : n = l.length := by have := h.1; rw [u8s_length] at this; omega
  subst hn
  rcases h.2 with ⟨rfl, h0⟩ | ⟨g, cap, cur, rfl, hB, hg, hle, hm, hs, htk⟩
  · have : l = [] := List.eq_nil_of_length_eq_zero h0
    subst this
    exact ⟨none, 0, rfl, Sl.nil _, by intro A hA; cases hA⟩
  · refine ⟨_, cap, rfl, .inr ⟨_, rfl, hle, hm, fun i hi => ?_⟩, by intro A hA; cases hA; exact hB⟩
    have := h.cellAt i (by omega)
    rw [u8s_at hi] at this
    rw [Addr.add_lit, Nat.zero_add]
    exact this

theorem Tryz.u8row : (Tryz.prog.info? 5).map (fun i => (i.zero, i.size, i.bytes)) = some (some (.int .u8 0), 1, 1) := by kernel_rfl

/-- 'append(x, y...)', x the call's own, y whatever slice of bytes. -/
theorem append_bytes {w : World} {ops : Array Oper} {rest : List Oper} {o : Oper} {a : Act} {Q : Exit → Act → World → Prop} (hgd : o.guard = none) (s x : Operand)
    (ho : o.op = .call { callee := .builtin .append, args := #[s, x], argTypes := #[45, 45] })
    (base : Nat) (v : Value) (l : List UInt8) (hs : a.eval s = v) (hown : w.ownsRow base 5 1 v l.length (u8s l))
    (ao : Option Addr) (c : Nat) (l2 : List UInt8) (hx : a.eval x = .slice ao l2.length c) (hsl : Sl w ao c l2)
    (hbytes : l.length + l2.length ≤ 140737488355328) (hbase : base ≤ w.heap.size)
    (h : ∀ v' w', w'.ownsRow base 5 1 v' (l ++ l2).length (u8s (l ++ l2)) → w.grownBy w' v.ownBlock → (v' = .slice none 0 0 ↔ v = .slice none 0 0 ∧ l2.length = 0) → wpList Tryz.prog ops Q rest (a.put o.dst v') w') : wpList Tryz.prog ops Q (o :: rest) a w := by
  obtain ⟨i0, hi, hz0, hz1, hz2⟩ := info_parts Tryz.u8row
  rcases hsl with ⟨rfl, rfl, rfl⟩ | ⟨A, rfl, h1, h2, hc⟩
  · refine wpList_append_own_none hgd s x 45 ho base 5 i0 1 Tryz.underlying45 hi v l.length (u8s l) hs hown hx ?_
    have := h v w (by simpa using hown) (World.grownBy.refl _ _) ⟨fun h => ⟨h, rfl⟩, fun h => h.1⟩
    exact this
  · refine wpList_append_own w hgd s x 45 ho base 5 i0 (.int .u8 0) 1 1 Tryz.underlying45 hi hz0 hz1 hz2 rfl (by decide) v l.length (u8s l) hs hown A l2.length c (u8s l2) hx (by rw [u8s_length]; omega)
      (Sl.cells (.inr ⟨A, rfl, h1, h2, hc⟩)) (u8s_oneCell l2) (by unfold maxLen; omega) (by omega) hbase ?_
    intro v' w' hown' hg hn
    exact h v' w' (by rw [List.length_append, u8s_append]; exact hown') hg hn

set_option maxHeartbeats 400000 in
set_option maxRecDepth 100000 in
/-- Room for n bytes: nothing is in it yet. -/
theorem grow_calls (n : Nat) (w : World) (hn : n ≤ 140737488355328) :
    Calls Tryz.prog 131 #[.slice none 0 0, .int .i64 (n : Int)] w fun e w' => ∃ v, e = .returned v ∧ w'.ownsRow w.heap.size 5 1 v 0 [] ∧ Below w.heap.size w w' := by
  obtain ⟨i0, hi, hz0, hz1, hz2⟩ := info_parts Tryz.u8row
  by_cases h0 : n = 0
  · subst h0
    go_enter Tryz.func131, Tryz.ntmps131
    go_wp2
    go_ret
    exact ⟨_, rfl, World.ownsRow_nil _ _ _ _, Below.refl _ _⟩
  · have hrun := Lib.run_append_nil_zeros (P := Tryz.prog) w 45 3 45 5 i0 (.int .u8 0) .i64 .i64 Tryz.underlying45 Tryz.underlying3 hi hz0 n (by omega) (by omega) (by omega) (by rw [hz2]; omega)
    have hpos : (0 : Int) < (n : Int) := by omega
    go_enter Tryz.func131, Tryz.ntmps131
    go_wp2_with (at_builtin; refine Lib.wpList_append_run _ rfl (.tmp 20) (.tmp 21) 45 3 rfl _ _ rfl rfl _ _ hrun ?_)
    go_ret
    have hcap := grownCap_ge w n 0 5
    have hmax := grownCap_le_maxLen w n 0 5 (by unfold maxLen; omega)
    refine ⟨_, rfl, (World.ownsRow_made w _ _ (Nat.le_refl _) hmax ?_).drew, ((Below.refl _ _).alloc (Nat.le_refl _) _).drew⟩
    rw [Array.size_append, size_zeroCells, size_zeroCells]
    show n * 1 + (grownCap w n 0 5 - n) * 1 = grownCap w n 0 5 * 1
    omega

set_option maxRecDepth 100000 in
/-- Two slices of bytes, one behind the other, in new memory. -/
theorem concat_calls (sb so : Nat) (cc : Nat) (a1 a2 : Option Addr) (c1 c2 : Nat) (l1 l2 : List UInt8) (w : World)
    (hs1 : w.cell? ⟨sb, so, none⟩ = some (.slice a1 l1.length c1)) (hs2 : w.cell? ⟨sb, so + 1, none⟩ = some (.slice a2 l2.length c2)) (h1 : Sl w a1 c1 l1) (h2 : Sl w a2 c2 l2)
    (hb : l1.length + l2.length ≤ 140737488355328) :
    Calls Tryz.prog 125 #[.slice (some ⟨sb, so, none⟩) 2 cc] w fun e w' => ∃ v, e = .returned v ∧ w'.ownsRow w.heap.size 5 1 v (l1 ++ l2).length (u8s (l1 ++ l2)) ∧ Below w.heap.size w w' := by
  go_enter Tryz.func125, Tryz.ntmps125
  go_wp2_with fail
  refine wp_loop_rounds 3 ?_
  rw [rounds_succ]
  go_wp2_with fail
  rw [rounds_succ]
  go_wp2_with fail
  rw [rounds_succ]
  go_wp2_with fail
  refine (grow_calls (l1.length + l2.length) _ hb).mono ?_
  rintro e w1 ⟨v0, rfl, hown0, hb0⟩
  have hs1' := (hb0.cell (p := ⟨sb, so, none⟩) (World.block_lt_of_cell? _ _ hs1)).trans hs1
  have hs2' := (hb0.cell (p := ⟨sb, so + 1, none⟩) (World.block_lt_of_cell? _ _ hs2)).trans hs2
  have h1' := h1.belowAll hb0
  have h2' := h2.belowAll hb0
  have hsz0 := hb0.size
  go_wp2_with fail
  refine wp_loop_rounds 3 ?_
  rw [rounds_succ]
  go_wp2_with (at_builtin; refine append_bytes rfl (.tmp 31) (.tmp 32) rfl w.heap.size v0 [] rfl hown0 a1 c1 l1 rfl h1' (by simp; omega) hsz0 ?_)
  intro v1 w2 hown1 hg1 _

  have hlt : ∀ k, v0.ownBlock = some k → w.heap.size ≤ k := fun k hk => (hown0.lt k hk).1
  have hb1 : Below w.heap.size w w2 := hb0.grown hg1 hsz0 hlt
  have hs2'' := (hb1.cell (p := ⟨sb, so + 1, none⟩) (World.block_lt_of_cell? _ _ hs2)).trans hs2
  have h2'' := h2.belowAll hb1
  have hsz1 := hb1.size
  have hlt1 : ∀ k, v1.ownBlock = some k → w.heap.size ≤ k := fun k hk => (hown1.lt k hk).1
  clear hs1' hs2' h1' h2' hg1 hown0 hb0 hlt
  go_wp2_with fail
  rw [rounds_succ]
  go_wp2_with (at_builtin; refine append_bytes rfl (.tmp 31) (.tmp 32) rfl w.heap.size v1 l1 rfl hown1 a2 c2 l2 rfl h2'' (by omega) hsz1 ?_)
  intro v2 w3 hown2 hg2 _
  have hb2 : Below w.heap.size w w3 := hb1.grown hg2 hsz1 hlt1
  clear hs2'' h2'' hg2 hown1 hb1 hlt1
  go_wp2_with fail
  rw [rounds_succ]
  go_wp2_with fail
  go_ret
  exact ⟨v2, rfl, by rw [List.length_append]; exact hown2, hb2⟩

end Go.Proofs.YtjmainefmiefcaaGreat


/-
  The walks of byt.Out: put, Small, Long, Text, Truth: what stands in B behind each.
-/
namespace Go.Proofs.YtjmainefmiefcaaGreat
open Go.RowKit

/-- From w to w' nothing that was there has turned but the cell at p. -/
structure Only (p : Addr) (w w' : World) : Prop where
  os : w'.os = w.os
  tape : w'.tape = w.tape
  output : w'.output = w.output
  size : w.heap.size ≤ w'.heap.size
  block : ∀ k, k < w.heap.size → k ≠ p.block → w'.heap[k]? = w.heap[k]?
  cell : ∀ q : Addr, q.block < w.heap.size → q ≠ p → w'.cell? q = w.cell? q
  frozen : ∀ q : Addr, q.block < w.heap.size → w'.frozen? q = w.frozen? q

theorem new_below (w : World) (o : Obj) : Below w.heap.size w (w.alloc o) := (Below.refl _ _).alloc (Nat.le_refl _) o

theorem Only.refl (p : Addr) (w : World) : Only p w w := ⟨rfl, rfl, rfl, Nat.le_refl _, fun _ _ _ => rfl, fun _ _ _ => rfl, fun _ _ => rfl⟩

theorem Only.trans {p : Addr} {a b c : World} (h : Only p a b) (k : Only p b c) : Only p a c :=
  ⟨k.os.trans h.os, k.tape.trans h.tape, k.output.trans h.output, Nat.le_trans h.size k.size,
   fun i hi hp => (k.block i (Nat.lt_of_lt_of_le hi h.size) hp).trans (h.block i hi hp),
   fun q hq hp => (k.cell q (Nat.lt_of_lt_of_le hq h.size) hp).trans (h.cell q hq hp),
   fun q hq => (k.frozen q (Nat.lt_of_lt_of_le hq h.size)).trans (h.frozen q hq)⟩

theorem Only.of_below {p : Addr} {w w' : World} (h : Below w.heap.size w w') : Only p w w' :=
  ⟨h.os, h.tape, h.output, h.size, fun k hk _ => h.block k hk, fun _ hq _ => h.cell hq, fun _ hq => h.frozen hq⟩

theorem Only.below {p : Addr} {B : Nat} {a w w' : World} (h : Only p w w') (hp : B ≤ p.block) (hB : B ≤ w.heap.size) (hb : Below B a w) : Below B a w' :=
  hb.trans ⟨h.os, h.tape, h.output, h.size, fun k hk => h.block k (by omega) (by omega)⟩

theorem Only.store {p : Addr} {w w1 : World} (h : Below w.heap.size w w1) (v : Value) : Only p w (w1.setCell p v) := by
  refine ⟨h.os, h.tape, h.output, by simpa [World.setCell] using h.size, fun k hk hp => ?_, fun q hq hp => ?_, fun q hq => ?_⟩
  · rw [Below.heap_setCell _ _ _ _ hp]; exact h.block k hk
  · rw [← h.cell hq]; exact World.cell?_setCell_other _ _ _ _ (Ne.symm hp)
  · rw [← h.frozen hq]; exact World.frozen?_setCell ..

/-- .. and the slice that stands at p lies in new memory. -/
structure OnlyN (p : Addr) (w w' : World) : Prop extends Only p w w' where
  fresh : ∀ ao n c A, w'.cell? p = some (.slice ao n c) → ao = some A → w.heap.size ≤ A.block

/-- A slice's bytes stay where one cell that holds no byte turns. -/
theorem Sl.only {p : Addr} {w w' : World} {ao : Option Addr} {c : Nat} {l : List UInt8} (h : Sl w ao c l) (ho : Only p w w') {v : Value} (hp : w.cell? p = some v) (hv : ∀ n, v ≠ .int .u8 n) : Sl w' ao c l := by
  rcases h with h | ⟨A, hA, h1, h2, hc⟩
  · exact .inl h
  · refine .inr ⟨A, hA, h1, h2, fun i hi => ?_⟩
    have hu := hc i hi
    rw [ho.cell _ (World.block_lt_of_cell? _ _ hu) (by
      intro e
      rw [e, hp] at hu
      exact hv _ (Option.some.inj hu))]
    exact hu

theorem own_below {w w' : World} {B e s n : Nat} {v : Value} {xs : List Value} (h : w.ownsRow B e s v n xs) (hb : Below w.heap.size w w') : w'.ownsRow B e s v n xs := by
  refine ⟨h.1, ?_⟩
  rcases h.2 with h0 | ⟨g, cap, cur, hv, hB, hg, rest⟩
  · exact .inl h0
  · exact .inr ⟨g, cap, cur, hv, hB, (hb.block g (Array.getElem?_eq_some_iff.1 hg).1).trans hg, rest⟩

theorem own_zero {w : World} {B e s n : Nat} {v : Value} {xs : List Value} (h : w.ownsRow B e s v n xs) : w.ownsRow 0 e s v n xs := by
  refine ⟨h.1, ?_⟩
  rcases h.2 with h0 | ⟨g, cap, cur, hv, hB, rest⟩
  · exact .inl h0
  · exact .inr ⟨g, cap, cur, hv, Nat.zero_le _, rest⟩

/-- An Out at p has the bytes l. -/
def OutIs (w : World) (p : Addr) (l : List UInt8) : Prop :=
  ∃ ao c, w.cell? p = some (.slice ao l.length c) ∧ Sl w ao c l ∧ w.frozen? p = false ∧ w.ownsRow 0 5 1 (.slice ao l.length c) l.length (u8s l)

set_option maxHeartbeats 400000 in
theorem put_calls (ob oo : Nat) (a1 a2 : Option Addr) (c1 c2 : Nat) (l1 l2 : List UInt8) (w : World)
    (hp : w.cell? ⟨ob, oo, none⟩ = some (.slice a1 l1.length c1)) (hf : w.frozen? ⟨ob, oo, none⟩ = false) (h1 : Sl w a1 c1 l1) (h2 : Sl w a2 c2 l2)
    (hb : l1.length + l2.length ≤ 140737488355328) :
    Calls Tryz.prog 111 #[.pointer (some ⟨ob, oo, none⟩), .slice a2 l2.length c2] w fun e w' => e = .returned (.tuple #[]) ∧ OutIs w' ⟨ob, oo, none⟩ (l1 ++ l2) ∧ OnlyN ⟨ob, oo, none⟩ w w' := by
  have hlt := World.block_lt_of_cell? _ _ hp
  go_enter Tryz.func111, Tryz.ntmps111
  go_wp2_with fail
  have hA : ∀ o, Sl (w.alloc o) a1 c1 l1 := fun o => h1.belowAll ((Below.refl _ _).alloc (Nat.le_refl _) o)
  have hB : ∀ o, Sl (w.alloc o) a2 c2 l2 := fun o => h2.belowAll ((Below.refl _ _).alloc (Nat.le_refl _) o)
  refine (concat_calls w.heap.size 0 2 a1 a2 c1 c2 l1 l2 _ (by go_simp) (by go_simp) (hA _) (hB _) hb).mono ?_
  rintro e w1 ⟨v, rfl, hown, hbel⟩
  have hb1 : Below w.heap.size w w1 := ((Below.refl _ _).alloc (Nat.le_refl _) _).trans (hbel.mono (by simp))
  have hp1 := (hb1.cell (p := ⟨ob, oo, none⟩) hlt).trans hp
  have hf1 := (hb1.frozen (p := ⟨ob, oo, none⟩) hlt).trans hf
  obtain ⟨ao, c, hv, hsl, hnew⟩ := Sl.of_owns hown
  have HNew := Lib.hid hnew
  clear hnew
  subst hv
  have HOwn := Lib.hid (own_zero (ownsRow_setCell_below hown (a := ⟨ob, oo, none⟩) (Nat.lt_of_lt_of_le hlt (new_below w _).size) (.slice ao (l1 ++ l2).length c)))
  go_wp2_with fail
  go_end0
  have ho := Only.store (p := ⟨ob, oo, none⟩) hb1 (.slice ao (l1 ++ l2).length c)
  rw [← List.length_append]
  refine ⟨rfl, ⟨ao, c, World.cell?_setCell_same _ _ _ hp1, ?_, by rw [World.frozen?_setCell]; exact hf1, HOwn.out⟩, ho, fun ao' n' c' A h1 h2 => ?_⟩
  exact hsl.only (p := ⟨ob, oo, none⟩) ⟨rfl, rfl, rfl, by simp [World.setCell], fun k _ hk => Below.heap_setCell _ _ _ _ hk, fun q _ hq => World.cell?_setCell_other _ _ _ _ (Ne.symm hq), fun q _ => World.frozen?_setCell ..⟩ hp1 (by intro n h; cases h)
  rw [World.cell?_setCell_same _ _ _ hp1] at h1
  injection h1 with h1
  injection h1 with e1 e2 e3
  rw [← e1] at h2
  exact Nat.le_trans (new_below w _).size (HNew.out A h2)

theorem OutIs.alloc {w : World} {p : Addr} {l : List UInt8} (h : OutIs w p l) {w' : World} (hb : Below w.heap.size w w') : OutIs w' p l := by
  obtain ⟨ao, c, hp, hs, hf, hw⟩ := h
  have hlt := World.block_lt_of_cell? _ _ hp
  exact ⟨ao, c, (hb.cell hlt).trans hp, hs.belowAll hb, (hb.frozen hlt).trans hf, own_below hw hb⟩

theorem put_out (ob oo : Nat) (a2 : Option Addr) (c2 n2 : Nat) (l1 l2 : List UInt8) (w : World) (ho : OutIs w ⟨ob, oo, none⟩ l1) (hn : l2.length = n2) (h2 : Sl w a2 c2 l2)
    (hb : l1.length + l2.length ≤ 140737488355328) :
    Calls Tryz.prog 111 #[.pointer (some ⟨ob, oo, none⟩), .slice a2 n2 c2] w fun e w' => e = .returned (.tuple #[]) ∧ OutIs w' ⟨ob, oo, none⟩ (l1 ++ l2) ∧ OnlyN ⟨ob, oo, none⟩ w w' := by
  obtain ⟨a1, c1, hp, hs, hf, -⟩ := ho
  subst hn
  exact put_calls ob oo a1 a2 c1 c2 l1 l2 w hp hf hs h2 hb

theorem OnlyN.after_alloc {p : Addr} {w w' : World} {o : Obj} (h : OnlyN p (w.alloc o) w') : OnlyN p w w' :=
  ⟨(Only.of_below (new_below w o)).trans h.toOnly, fun ao n c A h1 h2 => Nat.le_trans (new_below w o).size (h.fresh ao n c A h1 h2)⟩

/-- A new row of bytes. -/
theorem Sl.made (w : World) (cs : Array Value) (e : TypeId) (l : List UInt8) (h : cs.toList = u8s l) (hm : l.length ≤ maxLen) : Sl (w.alloc (.cells cs e)) (some ⟨w.heap.size, 0, none⟩) l.length l := by
  refine .inr ⟨_, rfl, Nat.le_refl _, hm, fun i hi => ?_⟩
  rw [Addr.add_lit, Nat.zero_add, World.cell?_alloc_at (hn := rfl)]
  rw [← u8s_at hi, ← h]
  simp

/-- '[]byte(x)' in new memory. -/
theorem Sl.bytes (w : World) (x : ByteArray) (cap : Nat) (e : TypeId) (fr : Nat × Nat) (h : x.size ≤ cap) (hm : cap ≤ maxLen) :
    Sl (w.alloc (.cells (bytesRow x cap) e fr)).drew (some ⟨w.heap.size, 0, none⟩) cap x.data.toList := by
  refine .inr ⟨_, rfl, by simpa using h, hm, fun i hi => ?_⟩
  have hi' : i < x.data.size := by simpa using hi
  rw [Addr.add_lit, Nat.zero_add]
  show (w.alloc (.cells (bytesRow x cap) e fr)).cell? _ = _
  rw [World.cell?_alloc_mark, bytesRow_at x cap i hi']
  simp [List.getD]
  rw [Array.getElem?_eq_getElem hi']
  rfl

theorem extract_front (s : ByteArray) (n : Nat) : (s.extract 0 n).data.toList = s.data.toList.take n := by
  rw [ByteArray.data_extract, Array.toList_extract]
  simp [List.extract]

/-- The two bytes of a number. -/
def smallB (n : Int) : List UInt8 := [UInt8.ofNat (n % 256).toNat, UInt8.ofNat (n / 256 % 256).toNat]

theorem u8_ofNat {n : Int} (h0 : 0 ≤ n) (h1 : n < 256) : ((UInt8.ofNat n.toNat).toNat : Int) = n := by
  rw [UInt8.toNat_ofNat']
  omega

theorem smallB_cells (n : Int) : u8s (smallB n) = [.int .u8 (n % 256), .int .u8 (n / 256 % 256)] := by
  unfold u8s smallB
  simp only [List.map_cons, List.map_nil]
  rw [u8_ofNat (by omega) (by omega), u8_ofNat (by omega) (by omega)]

set_option maxHeartbeats 400000 in
theorem small_out (ob oo : Nat) (l : List UInt8) (n : Int) (w : World) (ho : OutIs w ⟨ob, oo, none⟩ l) (hb : l.length ≤ 140737488000000) :
    Calls Tryz.prog 87 #[.pointer (some ⟨ob, oo, none⟩), .int .i64 n] w fun e w' => e = .returned (.tuple #[]) ∧ OutIs w' ⟨ob, oo, none⟩ (l ++ smallB n) ∧ OnlyN ⟨ob, oo, none⟩ w w' := by
  go_enter Tryz.func87, Tryz.ntmps87
  go_wp2_with fail
  refine (put_out ob oo _ 2 2 l (smallB n) _ (ho.alloc (new_below _ _)) rfl (Sl.made w _ 5 (smallB n) (smallB_cells n).symm (by simp [smallB, maxLen])) (by simp [smallB]; omega)).mono ?_
  rintro e w1 ⟨rfl, hout, hon⟩
  have HO := Lib.hid hout
  clear hout
  go_wp2_with fail
  go_end0
  exact ⟨rfl, HO.out, hon.after_alloc⟩

set_option maxHeartbeats 400000 in
theorem truth_out (ob oo : Nat) (l : List UInt8) (b : Bool) (w : World) (ho : OutIs w ⟨ob, oo, none⟩ l) (hb : l.length ≤ 140737488000000) :
    Calls Tryz.prog 90 #[.pointer (some ⟨ob, oo, none⟩), .bool b] w fun e w' => e = .returned (.tuple #[]) ∧ OutIs w' ⟨ob, oo, none⟩ (l ++ [if b then 1 else 0]) ∧ OnlyN ⟨ob, oo, none⟩ w w' := by
  cases b
  · have hs := Sl.made w #[.int .u8 0] 5 [0] rfl (by decide)
    go_enter Tryz.func90, Tryz.ntmps90
    go_wp2_with fail
    refine (put_out ob oo _ 1 1 l [0] _ (ho.alloc (new_below _ _)) rfl hs (by simp; omega)).mono ?_
    rintro e w1 ⟨rfl, hout, hon⟩
    have HO := Lib.hid hout
    clear hout
    go_wp2_with fail
    go_end0
    exact ⟨rfl, HO.out, hon.after_alloc⟩
  · have hs := Sl.made w #[.int .u8 1] 5 [1] rfl (by decide)
    go_enter Tryz.func90, Tryz.ntmps90
    go_wp2_with fail
    refine (put_out ob oo _ 1 1 l [1] _ (ho.alloc (new_below _ _)) rfl hs (by simp; omega)).mono ?_
    rintro e w1 ⟨rfl, hout, hon⟩
    have HO := Lib.hid hout
    clear hout
    go_wp2_with fail
    go_end0
    exact ⟨rfl, HO.out, hon.after_alloc⟩

/-- The eight bytes of a number. -/
def longB (n : Int) : List UInt8 := [UInt8.ofNat (n % 256).toNat, UInt8.ofNat (n / 256 % 256).toNat, UInt8.ofNat (n / 65536 % 256).toNat, UInt8.ofNat (n / 16777216 % 256).toNat,
  UInt8.ofNat (n / 4294967296 % 256).toNat, UInt8.ofNat (n / 1099511627776 % 256).toNat, UInt8.ofNat (n / 281474976710656 % 256).toNat, UInt8.ofNat (n / 72057594037927936 % 256).toNat]

theorem longB_cells (n : Int) : u8s (longB n) = [.int .u8 (n % 256), .int .u8 (n / 256 % 256), .int .u8 (n / 65536 % 256), .int .u8 (n / 16777216 % 256),
    .int .u8 (n / 4294967296 % 256), .int .u8 (n / 1099511627776 % 256), .int .u8 (n / 281474976710656 % 256), .int .u8 (n / 72057594037927936 % 256)] := by
  unfold u8s longB
  simp only [List.map_cons, List.map_nil]
  repeat rw [u8_ofNat (by omega) (by omega)]

set_option maxHeartbeats 1000000 in
theorem long_out (ob oo : Nat) (l : List UInt8) (n : Int) (w : World) (ho : OutIs w ⟨ob, oo, none⟩ l) (hb : l.length ≤ 140737488000000) :
    Calls Tryz.prog 88 #[.pointer (some ⟨ob, oo, none⟩), .int .i64 n] w fun e w' => e = .returned (.tuple #[]) ∧ OutIs w' ⟨ob, oo, none⟩ (l ++ longB n) ∧ OnlyN ⟨ob, oo, none⟩ w w' := by
  go_enter Tryz.func88, Tryz.ntmps88
  go_wp2_with fail
  refine wp_loop_rounds 9 ?_
  iterate 9 (rw [rounds_succ]; go_wp2_with fail)
  refine (put_out ob oo _ 8 8 l (longB n) _ (ho.alloc (new_below _ _)) rfl (Sl.made w _ _ (longB n) (longB_cells n).symm (by simp [longB, maxLen])) (by simp [longB]; omega)).mono ?_
  rintro e w1 ⟨rfl, hout, hon⟩
  have HO := Lib.hid hout
  clear hout
  go_wp2_with fail
  go_end0
  exact ⟨rfl, HO.out, hon.after_alloc⟩

/-- A text's bytes: its length's two, and as many as they say. -/
def textB (s : ByteArray) : List UInt8 := smallB (s.size % 65536 : Nat) ++ s.data.toList.take (s.size % 65536)

set_option maxHeartbeats 1000000 in
theorem text_out (ob oo : Nat) (l : List UInt8) (s : ByteArray) (w : World) (ho : OutIs w ⟨ob, oo, none⟩ l) (_hs : s.size ≤ maxLen) (hb : l.length ≤ 140737487000000) :
    Calls Tryz.prog 112 #[.pointer (some ⟨ob, oo, none⟩), .string s] w fun e w' => e = .returned (.tuple #[]) ∧ OutIs w' ⟨ob, oo, none⟩ (l ++ textB s) ∧ OnlyN ⟨ob, oo, none⟩ w w' := by
  unfold maxLen at _hs
  have h16 : wrap64 (IntKind.u16.wrap (s.size : Int)) = ((s.size % 65536 : Nat) : Int) := by
    rw [IntKind.wrap_u16]
    have := IntWalk.wrap64_in ((s.size : Int) % 65536) ⟨by omega, by omega⟩
    rw [this]
    omega
  have hconv := fun (wx : World) (x : ByteArray) => run_bytes_of_string (P := Tryz.prog) wx 9 45 5 x Tryz.underlying9 Tryz.underlying45 Tryz.underlying5
  have hlt : s.size % 65536 < 65536 := Nat.mod_lt _ (by omega)
  have hle : s.size % 65536 ≤ s.size := Nat.mod_le _ _
  unfold textB
  generalize s.size % 65536 = n at *
  have hle' : ((n : Nat) : Int) ≤ (s.size : Int) := by omega
  go_enter Tryz.func112, Tryz.ntmps112
  go_wp2_with fail
  refine (small_out ob oo l n _ ho (by omega)).mono ?_
  rintro e w1 ⟨rfl, hout, hon⟩
  have HO := Lib.hid hout
  clear hout
  go_wp2_with fail
  have hx : (s.extract 0 n).size = n := by rw [ByteArray.size_extract]; omega
  have hd : (s.extract 0 n).data.toList.length = n := by rw [← hx]; simp
  have hcap := grownCap_ge w1 n 0 5
  have hmax := grownCap_le_maxLen w1 n 0 5 (by unfold maxLen; omega)
  refine (put_out ob oo _ _ n (l ++ smallB n) (s.extract 0 n).data.toList _ (HO.out.alloc (new_below _ _).drew) hd (Sl.bytes w1 (s.extract 0 n) _ _ _ (by omega) hmax) (by rw [hd]; simp [smallB]; omega)).mono ?_
  rintro e w2 ⟨rfl, hout2, hon2⟩
  have HO2 := Lib.hid hout2
  clear hout2 hconv
  go_wp2_with fail
  go_end0
  refine ⟨rfl, ?_, ⟨hon.toOnly.trans ((Only.of_below (new_below _ _).drew).trans hon2.toOnly), fun ao n c A h1 h2 => Nat.le_trans hon.size (Nat.le_trans (new_below _ _).drew.size (hon2.fresh ao n c A h1 h2))⟩⟩
  rw [← List.append_assoc, ← extract_front]
  exact HO2.out

end Go.Proofs.YtjmainefmiefcaaGreat


/-
  The walks of byt.In: number, take, spoil, Left, Bad, End, Small, Long, Text, Truth, Read.
-/
namespace Go.Proofs.YtjmainefmiefcaaGreat
open Go.RowKit

/-- What bytes say, the lowest first. -/
def leN : List UInt8 → Nat
  | [] => 0
  | b :: l => b.toNat + 256 * leN l

theorem leN_snoc : ∀ (l : List UInt8) (b : UInt8), leN (l ++ [b]) = leN l + 256 ^ l.length * b.toNat
  | [], b => by simp [leN]
  | a :: l, b => by
    simp only [List.cons_append, leN, leN_snoc l b, List.length_cons, Nat.pow_succ]
    rw [Nat.mul_add, Nat.mul_comm (256 ^ l.length) 256, Nat.mul_assoc]
    omega

theorem leN_lt : ∀ (l : List UInt8), leN l < 256 ^ l.length
  | [] => by simp [leN]
  | a :: l => by
    have h := leN_lt l
    have ha := a.toNat_lt
    simp only [leN, List.length_cons, Nat.pow_succ]
    omega

theorem pow_256 (k : Nat) : 256 ^ k = 2 ^ (8 * k) := by rw [Nat.pow_mul]

theorem leN_step {l : List UInt8} {k : Nat} (hk : k < l.length) (h8 : k < 8) :
    bits .or .u64 ((leN (l.take k) : Nat) : Int) (IntKind.u64.wrap (IntKind.u64.wrap ((l[k].toNat : Nat) : Int) * 2 ^ (8 * k))) = ((leN (l.take (k + 1)) : Nat) : Int) := by
  have hb : l[k].toNat < 256 := by have := l[k].toNat_lt; omega
  have h1 := leN_lt (l.take k)
  rw [List.length_take, Nat.min_eq_left (by omega), pow_256] at h1
  have hp : 2 ^ (8 * k) * 256 ≤ 2 ^ 64 := by
    rw [show (256 : Nat) = 2 ^ 8 from rfl, ← Nat.pow_add]
    exact Nat.pow_le_pow_right (by omega) (by omega)
  have hm : 2 ^ (8 * k) * l[k].toNat < 18446744073709551616 := by
    have : 2 ^ (8 * k) * l[k].toNat ≤ 2 ^ (8 * k) * 255 := Nat.mul_le_mul_left _ (by omega)
    omega
  have e1 : IntKind.u64.wrap (IntKind.u64.wrap ((l[k].toNat : Nat) : Int) * 2 ^ (8 * k)) = ((2 ^ (8 * k) * l[k].toNat : Nat) : Int) := by
    have e0 : IntKind.u64.wrap ((l[k].toNat : Nat) : Int) = ((l[k].toNat : Nat) : Int) := by rw [IntKind.wrap_u64]; omega
    have e2 : ((l[k].toNat : Nat) : Int) * 2 ^ (8 * k) = ((2 ^ (8 * k) * l[k].toNat : Nat) : Int) := by
      rw [Int.natCast_mul, Int.natCast_pow, Int.mul_comm]
      rfl
    rw [e0, e2, IntKind.wrap_u64]
    omega
  rw [e1, u64_or_nat _ _ (by omega) hm, Nat.or_comm, nat_join (8 * k) _ _ (by simp) h1]
  rw [List.take_succ_eq_append_getElem hk, leN_snoc, List.length_take, Nat.min_eq_left (by omega), pow_256]
  rw [Nat.add_comm]

set_option maxHeartbeats 400000 in
theorem number_calls (s : ByteArray) (w : World) (hs : s.size ≤ 8) :
    Calls Tryz.prog 126 #[.string s] w fun e w' => e = .returned (.int .u64 (leN s.data.toList : Nat)) ∧ w = w' := by
  go_enter Tryz.func126, Tryz.ntmps126
  go_wp2
  go_loop [3, 7] (fun v i => ∃ k : Nat, k ≤ s.size ∧ i = .int .i64 k ∧ v = .int .u64 (leN (s.data.toList.take k) : Nat)) (fun _ i => s.size - (intOf i).toNat)
  case atStart => exact ⟨0, by omega, rfl, rfl⟩
  case round =>
    obtain ⟨k, hk, rfl, rfl⟩ := hrel
    by_cases hlt : k < s.size
    · have hs' : k < s.data.toList.length := by simpa using hlt
      have HS := Lib.hid (leN_step hs' (by omega))
      have hE := Lib.hid (show s.data.toList[k] = s[k] by simp [ByteArray.getElem_eq_getElem_data])
      generalize leN (s.data.toList.take k) = t at HS
      go_wp2
      go_round
      case rel => exact ⟨k + 1, by omega, by go_num, by rw [← HS.out, hE.out]⟩
      case measure => simp [intOf]; omega
    · generalize ht : leN (s.data.toList.take k) = t
      have HT := Lib.hid ht
      clear ht
      go_wp2
      go_ret
      exact ⟨ret_int_ofSlice (by rw [← HT.out, List.take_of_length_le (by simp; omega)]), rfl⟩

/-- What is left of an In whose two cells are the block b. -/
def InIs (w : World) (b : Nat) (l : List UInt8) (bad : Bool) : Prop :=
  w.cell? ⟨b, 0, none⟩ = some (.string ⟨l.toArray⟩) ∧ w.cell? ⟨b, 1, none⟩ = some (.bool bad) ∧ w.frozen? ⟨b, 0, none⟩ = false ∧ w.frozen? ⟨b, 1, none⟩ = false ∧ l.length ≤ 9223372036854775807 ∧ (bad = true → l = [])

set_option maxHeartbeats 400000 in
theorem left_calls (b : Nat) (l : List UInt8) (bad : Bool) (w : World) (h : InIs w b l bad) :
    Calls Tryz.prog 119 #[.pointer (some ⟨b, 0, none⟩)] w fun e w' => e = .returned (.int .i64 (l.length : Nat)) ∧ w = w' := by
  obtain ⟨h0, h1, f0, f1, hl, hb⟩ := h
  clear hb
  go_enter Tryz.func119, Tryz.ntmps119
  go_wp2
  go_ret
  exact ⟨rfl, rfl⟩

set_option maxHeartbeats 400000 in
theorem left_nil (w : World) :
    Calls Tryz.prog 119 #[.pointer none] w fun e w' => e = .returned (.int .i64 0) ∧ w = w' := by
  go_enter Tryz.func119, Tryz.ntmps119
  go_wp2
  go_ret
  exact ⟨rfl, rfl⟩

set_option maxHeartbeats 400000 in
theorem bad_calls (b : Nat) (l : List UInt8) (bad : Bool) (w : World) (h : InIs w b l bad) :
    Calls Tryz.prog 118 #[.pointer (some ⟨b, 0, none⟩)] w fun e w' => e = .returned (.bool bad) ∧ w = w' := by
  obtain ⟨h0, h1, f0, f1, hl, hb⟩ := h
  clear hb
  go_enter Tryz.func118, Tryz.ntmps118
  go_wp2
  go_ret
  exact ⟨rfl, rfl⟩

set_option maxHeartbeats 400000 in
theorem bad_nil (w : World) :
    Calls Tryz.prog 118 #[.pointer none] w fun e w' => e = .returned (.bool true) ∧ w = w' := by
  go_enter Tryz.func118, Tryz.ntmps118
  go_wp2
  go_ret
  exact ⟨rfl, rfl⟩

theorem setCell_kept (w : World) (b i : Nat) (v : Value) : w.grownBy (w.setCell ⟨b, i, none⟩ v) (some b) :=
  ⟨rfl, rfl, rfl, by simp [World.setCell], fun k _ hk => Below.heap_setCell _ _ _ _ (by intro e; exact hk (by rw [e]))⟩

theorem grown_trans {a b c : World} {r : Option Nat} (h : a.grownBy b r) (k : b.grownBy c r) : a.grownBy c r :=
  ⟨k.os.trans h.os, k.tape.trans h.tape, k.output.trans h.output, Nat.le_trans h.size k.size, fun i hi hr => (k.block i (Nat.lt_of_lt_of_le hi h.size) hr).trans (h.block i hi hr)⟩

theorem InIs.lt {w : World} {b : Nat} {l : List UInt8} {bad : Bool} (h : InIs w b l bad) : b < w.heap.size := World.block_lt_of_cell? _ _ h.1

theorem InIs.same {w w' : World} {b : Nat} {l : List UInt8} {bad : Bool} (h : InIs w b l bad) (hb : w'.heap[b]? = w.heap[b]?) : InIs w' b l bad := by
  obtain ⟨h0, h1, f0, f1, hl⟩ := h
  exact ⟨(World.cell?_of_block (a := ⟨b, 0, none⟩) hb).trans h0, (World.cell?_of_block (a := ⟨b, 1, none⟩) hb).trans h1,
    (World.frozen?_of_block (a := ⟨b, 0, none⟩) hb).trans f0, (World.frozen?_of_block (a := ⟨b, 1, none⟩) hb).trans f1, hl⟩

/-- The two cells of an In are written anew. -/
theorem InIs.set {w : World} {b : Nat} {l : List UInt8} {bad : Bool} (h : InIs w b l bad) (l' : List UInt8) (hl : l'.length ≤ 9223372036854775807) (hb : bad = true → l' = []) : InIs (w.setCell ⟨b, 0, none⟩ (.string ⟨l'.toArray⟩)) b l' bad := by
  obtain ⟨h0, h1, f0, f1, _⟩ := h
  exact ⟨World.cell?_setCell_same _ _ _ h0, by rw [World.cell?_setCell_other _ _ _ _ (by simp)]; exact h1, by rw [World.frozen?_setCell]; exact f0, by rw [World.frozen?_setCell]; exact f1, hl, hb⟩

theorem InIs.spoilt {w : World} {b : Nat} {l : List UInt8} {bad : Bool} (h : InIs w b l bad) : InIs ((w.setCell ⟨b, 0, none⟩ (.string ⟨#[]⟩)).setCell ⟨b, 1, none⟩ (.bool true)) b [] true := by
  obtain ⟨h0, h1, f0, f1, _⟩ := h
  have g0 : (w.setCell ⟨b, 0, none⟩ (.string ⟨#[]⟩)).cell? ⟨b, 1, none⟩ = some (.bool bad) := by rw [World.cell?_setCell_other _ _ _ _ (by simp)]; exact h1
  refine ⟨?_, World.cell?_setCell_same _ _ _ g0, by rw [World.frozen?_setCell, World.frozen?_setCell]; exact f0, by rw [World.frozen?_setCell, World.frozen?_setCell]; exact f1, by simp, fun _ => rfl⟩
  rw [World.cell?_setCell_other _ _ _ _ (by simp)]
  exact World.cell?_setCell_same _ _ _ h0

set_option maxHeartbeats 400000 in
theorem spoil_calls (b : Nat) (l : List UInt8) (bad : Bool) (w : World) (h : InIs w b l bad) :
    Calls Tryz.prog 128 #[.pointer (some ⟨b, 0, none⟩)] w fun e w' => e = .returned (.tuple #[]) ∧ InIs w' b [] true ∧ w.grownBy w' (some b) := by
  have hsp := h.spoilt
  have hg : w.grownBy ((w.setCell ⟨b, 0, none⟩ (.string ⟨#[]⟩)).setCell ⟨b, 1, none⟩ (.bool true)) (some b) := grown_trans (setCell_kept _ _ _ _) (setCell_kept _ _ _ _)
  have HS := Lib.hid hsp
  have HG := Lib.hid hg
  obtain ⟨h0, h1, f0, f1, hl, hb⟩ := h
  clear hb hsp hg
  go_enter Tryz.func128, Tryz.ntmps128
  go_wp2
  go_end0
  exact ⟨rfl, HS.out, HG.out⟩

set_option maxHeartbeats 400000 in
theorem spoil_nil (w : World) :
    Calls Tryz.prog 128 #[.pointer none] w fun e w' => e = .returned (.tuple #[]) ∧ w = w' := by
  go_enter Tryz.func128, Tryz.ntmps128
  go_wp2
  go_end0
  exact ⟨rfl, rfl⟩

theorem take_ext (l : List UInt8) (n : Nat) : (⟨l.toArray⟩ : ByteArray).extract 0 n = ⟨(l.take n).toArray⟩ := by rw [ByteArray.extract_mk]; simp
theorem drop_ext (l : List UInt8) (n : Nat) : (⟨l.toArray⟩ : ByteArray).extract n l.length = ⟨(l.drop n).toArray⟩ := by
  rw [ByteArray.extract_mk, List.take_of_length_le (by simp)]

/-- Is there as much? -/
def canTake (l : List UInt8) (bad : Bool) (n : Nat) : Bool := !bad && decide (n ≤ l.length)
/-- What is taken; what is left. -/
def taken (l : List UInt8) (bad : Bool) (n : Nat) : List UInt8 := if canTake l bad n = true then l.take n else []
def after (l : List UInt8) (bad : Bool) (n : Nat) : List UInt8 := if canTake l bad n = true then l.drop n else []

set_option maxHeartbeats 1000000 in
theorem take_calls (b n : Nat) (l : List UInt8) (bad : Bool) (w : World) (h : InIs w b l bad) (hn : n ≤ 65535) :
    Calls Tryz.prog 127 #[.pointer (some ⟨b, 0, none⟩), .int .i64 (n : Int)] w fun e w' => e = .returned (.string ⟨(taken l bad n).toArray⟩) ∧ InIs w' b (after l bad n) (!canTake l bad n) ∧ w.grownBy w' (some b) := by
  have H := Lib.hid h
  have hl := h.2.2.2.2.1
  have hbl := h.2.2.2.2.2
  clear h
  by_cases hc : canTake l bad n = true
  · have hbad : bad = false := by simp [canTake] at hc; exact hc.1
    have hle : n ≤ l.length := by simp [canTake] at hc; exact hc.2
    subst hbad
    have HT := Lib.hid (show taken l false n = l.take n by rw [taken, if_pos hc])
    have HA := Lib.hid (show after l false n = l.drop n by rw [after, if_pos hc])
    have HC := Lib.hid hc
    have HB := Lib.hid (H.out.set (l.drop n) (by simp; omega) (by simp))
    have HG := Lib.hid (setCell_kept w b 0 (.string ⟨(l.drop n).toArray⟩))
    obtain ⟨h0, h1, f0, f1, _⟩ := H.out
    clear hc hbl
    have hle' : (n : Int) ≤ (l.length : Int) := by omega
    go_enter Tryz.func127, Tryz.ntmps127
    go_wp2_with (first | (go_at_call 119; refine (left_calls b l false _ H.out).mono ?_; rintro e w' ⟨rfl, rfl⟩) | (go_at_call 118; refine (bad_calls b l false _ H.out).mono ?_; rintro e w' ⟨rfl, rfl⟩))
    go_ret
    rw [HT.out, HA.out, HC.out, ← take_ext, drop_ext]
    exact ⟨rfl, HB.out, HG.out⟩
  · have HT := Lib.hid (show taken l bad n = [] by rw [taken, if_neg hc])
    have HA := Lib.hid (show after l bad n = [] by rw [after, if_neg hc])
    have HC := Lib.hid (show canTake l bad n = false by simpa using hc)
    cases bad with
    | true =>
      obtain rfl := hbl rfl
      by_cases h0 : n = 0
      · subst h0
        clear hc hbl
        go_enter Tryz.func127, Tryz.ntmps127
        go_wp2_with (first | (go_at_call 119; refine (left_calls b [] true _ H.out).mono ?_; rintro e w' ⟨rfl, rfl⟩) | (go_at_call 118; refine (bad_calls b [] true _ H.out).mono ?_; rintro e w' ⟨rfl, rfl⟩))
        go_ret
        rw [HT.out, HA.out, HC.out]
        exact ⟨rfl, H.out, World.grownBy.refl _ _⟩
      · have hpos : (0 : Int) < (n : Int) := by omega
        clear hc hbl
        go_enter Tryz.func127, Tryz.ntmps127
        go_wp2_with (first | (go_at_call 119; refine (left_calls b [] true _ H.out).mono ?_; rintro e w' ⟨rfl, rfl⟩))
        refine (spoil_calls b [] true _ H.out).mono ?_
        rintro e w1 ⟨rfl, hin, hg⟩
        have H1 := Lib.hid hin
        have G1 := Lib.hid hg
        clear hin hg
        go_wp2_with (first | (go_at_call 118; refine (bad_calls b [] true _ H1.out).mono ?_; rintro e w' ⟨rfl, rfl⟩))
        go_ret
        rw [HT.out, HA.out, HC.out]
        exact ⟨rfl, H1.out, G1.out⟩
    | false =>
      have hpos : (l.length : Int) < (n : Int) := by simp [canTake] at hc; omega
      clear hc hbl
      go_enter Tryz.func127, Tryz.ntmps127
      go_wp2_with (first | (go_at_call 119; refine (left_calls b l false _ H.out).mono ?_; rintro e w' ⟨rfl, rfl⟩))
      refine (spoil_calls b l false _ H.out).mono ?_
      rintro e w1 ⟨rfl, hin, hg⟩
      have H1 := Lib.hid hin
      have G1 := Lib.hid hg
      clear hin hg
      go_wp2_with (first | (go_at_call 118; refine (bad_calls b [] true _ H1.out).mono ?_; rintro e w' ⟨rfl, rfl⟩))
      go_ret
      rw [HT.out, HA.out, HC.out]
      exact ⟨rfl, H1.out, G1.out⟩

theorem taken_len (l : List UInt8) (bad : Bool) (n : Nat) : (taken l bad n).length ≤ n := by
  unfold taken
  split <;> simp
  omega

theorem size_mk (l : List UInt8) : (⟨l.toArray⟩ : ByteArray).size = l.length := by simp [ByteArray.size]

theorem number_list (t : List UInt8) (w : World) (h : t.length ≤ 8) :
    Calls Tryz.prog 126 #[.string ⟨t.toArray⟩] w fun e w' => e = .returned (.int .u64 (leN t : Nat)) ∧ w = w' :=
  number_calls ⟨t.toArray⟩ w (by rw [size_mk]; exact h)

theorem number_empty (w : World) :
    Calls Tryz.prog 126 #[.string ⟨#[]⟩] w fun e w' => e = .returned (.int .u64 0) ∧ w = w' :=
  number_list [] w (by simp)

theorem leN_lt' {l : List UInt8} {n : Nat} (h : l.length ≤ n) : leN l < 256 ^ n := Nat.lt_of_lt_of_le (leN_lt l) (Nat.pow_le_pow_right (by omega) h)

set_option maxHeartbeats 400000 in
theorem small_in (b : Nat) (l : List UInt8) (bad : Bool) (w : World) (h : InIs w b l bad) :
    Calls Tryz.prog 113 #[.pointer (some ⟨b, 0, none⟩)] w fun e w' => e = .returned (.int .i64 (leN (taken l bad 2) : Nat)) ∧ InIs w' b (after l bad 2) (!canTake l bad 2) ∧ w.grownBy w' (some b) := by
  have hl := leN_lt' (taken_len l bad 2)
  have hsz := taken_len l bad 2
  have C := Lib.hid (take_calls b 2 l bad w h (by omega))
  clear h
  generalize taken l bad 2 = t at *
  have N := Lib.hid (fun wx : World => number_list t wx (by omega))
  have hw : wrap64 ((leN t : Nat) : Int) = ((leN t : Nat) : Int) := IntWalk.wrap64_in _ ⟨by omega, by omega⟩
  generalize leN t = v at *
  go_enter Tryz.func113, Tryz.ntmps113
  go_wp2_with fail
  refine C.out.mono ?_
  rintro e w1 ⟨rfl, hin, hg⟩
  have H1 := Lib.hid hin
  have G1 := Lib.hid hg
  clear hin hg C
  go_wp2_with fail
  refine (N.out _).mono ?_
  rintro e w2 ⟨rfl, rfl⟩
  clear N
  go_wp2
  go_ret
  exact ⟨rfl, H1.out, G1.out⟩

theorem wrap_i64_u64 (v : Nat) (h : v < 18446744073709551616) : wrap64 (v : Int) = if v < 9223372036854775808 then (v : Int) else (v : Int) - 18446744073709551616 := by
  unfold wrap64
  split <;> omega

/-- Eight bytes as a number with its sign. -/
def longN (l : List UInt8) : Int := wrap64 (leN l : Nat)

set_option maxHeartbeats 400000 in
theorem long_in (b : Nat) (l : List UInt8) (bad : Bool) (w : World) (h : InIs w b l bad) :
    Calls Tryz.prog 114 #[.pointer (some ⟨b, 0, none⟩)] w fun e w' => e = .returned (.int .i64 (longN (taken l bad 8))) ∧ InIs w' b (after l bad 8) (!canTake l bad 8) ∧ w.grownBy w' (some b) := by
  have hl := leN_lt' (taken_len l bad 8)
  have hsz := taken_len l bad 8
  have C := Lib.hid (take_calls b 8 l bad w h (by omega))
  clear h
  unfold longN
  generalize taken l bad 8 = t at *
  have N := Lib.hid (fun wx : World => number_list t wx (by omega))
  generalize leN t = v at *
  clear hl
  go_enter Tryz.func114, Tryz.ntmps114
  go_wp2_with fail
  refine C.out.mono ?_
  rintro e w1 ⟨rfl, hin, hg⟩
  have H1 := Lib.hid hin
  have G1 := Lib.hid hg
  clear hin hg C
  go_wp2_with fail
  refine (N.out _).mono ?_
  rintro e w2 ⟨rfl, rfl⟩
  clear N
  go_wp2
  go_ret
  exact ⟨rfl, H1.out, G1.out⟩

/-- The text that is next; what is left. -/
def textT (l : List UInt8) (bad : Bool) : List UInt8 := taken (after l bad 2) (!canTake l bad 2) (leN (taken l bad 2))
def textA (l : List UInt8) (bad : Bool) : List UInt8 := after (after l bad 2) (!canTake l bad 2) (leN (taken l bad 2))
def textC (l : List UInt8) (bad : Bool) : Bool := canTake (after l bad 2) (!canTake l bad 2) (leN (taken l bad 2))

set_option maxHeartbeats 400000 in
theorem text_in (b : Nat) (l : List UInt8) (bad : Bool) (w : World) (h : InIs w b l bad) :
    Calls Tryz.prog 120 #[.pointer (some ⟨b, 0, none⟩)] w fun e w' => e = .returned (.string ⟨(textT l bad).toArray⟩) ∧ InIs w' b (textA l bad) (!textC l bad) ∧ w.grownBy w' (some b) := by
  have hl := leN_lt' (taken_len l bad 2)
  have C := Lib.hid (small_in b l bad w h)
  clear h
  unfold textT textA textC
  generalize after l bad 2 = l1 at *
  generalize canTake l bad 2 = c1 at *
  generalize leN (taken l bad 2) = v at *
  go_enter Tryz.func120, Tryz.ntmps120
  go_wp2_with fail
  refine C.out.mono ?_
  rintro e w1 ⟨rfl, hin, hg⟩
  have H1 := Lib.hid hin
  have G1 := Lib.hid hg
  clear hin hg C
  go_wp2_with fail
  refine (take_calls b v l1 (!c1) _ H1.out (by omega)).mono ?_
  rintro e w2 ⟨rfl, hin2, hg2⟩
  have H2 := Lib.hid hin2
  have G2 := Lib.hid (grown_trans G1.out hg2)
  clear hin2 hg2
  go_wp2
  go_ret
  exact ⟨rfl, H2.out, G2.out⟩

/-- The truth that is next; whether it is one. -/
def truthV (l : List UInt8) (bad : Bool) : Bool := leN (taken l bad 1) == 1
def truthC (l : List UInt8) (bad : Bool) : Bool := canTake l bad 1 && decide (leN (taken l bad 1) ≤ 1)
def truthA (l : List UInt8) (bad : Bool) : List UInt8 := if leN (taken l bad 1) ≤ 1 then after l bad 1 else []

set_option maxHeartbeats 400000 in
theorem truth_in (b : Nat) (l : List UInt8) (bad : Bool) (w : World) (h : InIs w b l bad) :
    Calls Tryz.prog 115 #[.pointer (some ⟨b, 0, none⟩)] w fun e w' => e = .returned (.bool (truthV l bad)) ∧ InIs w' b (truthA l bad) (!truthC l bad) ∧ w.grownBy w' (some b) := by
  have hsz := taken_len l bad 1
  have C := Lib.hid (take_calls b 1 l bad w h (by omega))
  clear h
  unfold truthV truthA truthC
  generalize after l bad 1 = l1 at *
  generalize canTake l bad 1 = c1 at *
  generalize taken l bad 1 = t at *
  have N := Lib.hid (fun wx : World => number_list t wx (by omega))
  generalize leN t = v at *
  by_cases hv : v ≤ 1
  · have hle : ¬ (1 : Int) < (v : Int) := by omega
    go_enter Tryz.func115, Tryz.ntmps115
    go_wp2_with fail
    refine C.out.mono ?_
    rintro e w1 ⟨rfl, hin, hg⟩
    have H1 := Lib.hid hin
    have G1 := Lib.hid hg
    clear hin hg C
    go_wp2_with fail
    refine (N.out _).mono ?_
    rintro e w2 ⟨rfl, rfl⟩
    clear N
    go_wp2
    go_ret
    exact ⟨ret_bool_ofSlice (by rw [Bool.eq_iff_iff]; simp; omega), H1.out, G1.out⟩
  · have hlt : (1 : Int) < (v : Int) := by omega
    go_enter Tryz.func115, Tryz.ntmps115
    go_wp2_with fail
    refine C.out.mono ?_
    rintro e w1 ⟨rfl, hin, hg⟩
    have H1 := Lib.hid hin
    have G1 := Lib.hid hg
    clear hin hg C
    go_wp2_with fail
    refine (N.out _).mono ?_
    rintro e w2 ⟨rfl, rfl⟩
    clear N
    go_wp2_with fail
    refine (spoil_calls b l1 (!c1) _ H1.out).mono ?_
    rintro e w3 ⟨rfl, hin, hg⟩
    have H2 := Lib.hid hin
    have G2 := Lib.hid (grown_trans G1.out hg)
    clear hin hg
    go_wp2
    go_ret
    exact ⟨ret_bool_ofSlice (by rw [Bool.eq_iff_iff]; simp; omega), H2.out, G2.out⟩

set_option maxHeartbeats 400000 in
theorem end_calls (b : Nat) (l : List UInt8) (bad : Bool) (w : World) (h : InIs w b l bad) :
    Calls Tryz.prog 95 #[.pointer (some ⟨b, 0, none⟩)] w fun e w' => e = .returned (.bool (!bad && decide (l = []))) ∧ w = w' := by
  have H := Lib.hid h
  clear h
  cases bad with
  | true =>
    go_enter Tryz.func95, Tryz.ntmps95
    go_wp2_with (first | (go_at_call 118; refine (bad_calls b l true _ H.out).mono ?_; rintro e w' ⟨rfl, rfl⟩))
    go_ret
    exact ⟨rfl, rfl⟩
  | false =>
    go_enter Tryz.func95, Tryz.ntmps95
    go_wp2_with (first | (go_at_call 118; refine (bad_calls b l false _ H.out).mono ?_; rintro e w' ⟨rfl, rfl⟩) | (go_at_call 119; refine (left_calls b l false _ H.out).mono ?_; rintro e w' ⟨rfl, rfl⟩))
    go_ret
    exact ⟨ret_bool_ofSlice (by cases l <;> simp; omega), rfl⟩

set_option maxHeartbeats 400000 in
/-- A nil In. -/
theorem take_nil (n : Nat) (w : World) (hn : n ≤ 65535) :
    Calls Tryz.prog 127 #[.pointer none, .int .i64 (n : Int)] w fun e w' => e = .returned (.string ⟨#[]⟩) ∧ w = w' := by
  by_cases h0 : n = 0
  · subst h0
    go_enter Tryz.func127, Tryz.ntmps127
    go_wp2_with (first | (go_at_call 119; refine (left_nil _).mono ?_; rintro e w' ⟨rfl, rfl⟩) | (go_at_call 118; refine (bad_nil _).mono ?_; rintro e w' ⟨rfl, rfl⟩))
    go_ret
    exact ⟨rfl, rfl⟩
  · have hpos : (0 : Int) < (n : Int) := by omega
    go_enter Tryz.func127, Tryz.ntmps127
    go_wp2_with (first | (go_at_call 119; refine (left_nil _).mono ?_; rintro e w' ⟨rfl, rfl⟩) | (go_at_call 118; refine (bad_nil _).mono ?_; rintro e w' ⟨rfl, rfl⟩) | (go_at_call 128; refine (spoil_nil _).mono ?_; rintro e w' ⟨rfl, rfl⟩))
    go_ret
    exact ⟨rfl, rfl⟩

set_option maxHeartbeats 400000 in
theorem small_nil (w : World) :
    Calls Tryz.prog 113 #[.pointer none] w fun e w' => e = .returned (.int .i64 0) ∧ w = w' := by
  go_enter Tryz.func113, Tryz.ntmps113
  go_wp2_with (first | (go_at_call 127; refine (take_nil 2 _ (by omega)).mono ?_; rintro e w' ⟨rfl, rfl⟩) | (go_at_call 126; refine (number_empty _).mono ?_; rintro e w' ⟨rfl, rfl⟩))
  go_ret
  exact ⟨rfl, rfl⟩

set_option maxHeartbeats 400000 in
theorem long_nil (w : World) :
    Calls Tryz.prog 114 #[.pointer none] w fun e w' => e = .returned (.int .i64 0) ∧ w = w' := by
  go_enter Tryz.func114, Tryz.ntmps114
  go_wp2_with (first | (go_at_call 127; refine (take_nil 8 _ (by omega)).mono ?_; rintro e w' ⟨rfl, rfl⟩) | (go_at_call 126; refine (number_empty _).mono ?_; rintro e w' ⟨rfl, rfl⟩))
  go_ret
  exact ⟨rfl, rfl⟩

set_option maxHeartbeats 400000 in
theorem text_nil (w : World) :
    Calls Tryz.prog 120 #[.pointer none] w fun e w' => e = .returned (.string ⟨#[]⟩) ∧ w = w' := by
  go_enter Tryz.func120, Tryz.ntmps120
  go_wp2_with (first | (go_at_call 113; refine (small_nil _).mono ?_; rintro e w' ⟨rfl, rfl⟩) | (go_at_call 127; refine (take_nil 0 _ (by omega)).mono ?_; rintro e w' ⟨rfl, rfl⟩))
  go_ret
  exact ⟨rfl, rfl⟩

set_option maxHeartbeats 400000 in
theorem truth_nil (w : World) :
    Calls Tryz.prog 115 #[.pointer none] w fun e w' => e = .returned (.bool false) ∧ w = w' := by
  go_enter Tryz.func115, Tryz.ntmps115
  go_wp2_with (first | (go_at_call 127; refine (take_nil 1 _ (by omega)).mono ?_; rintro e w' ⟨rfl, rfl⟩) | (go_at_call 126; refine (number_empty _).mono ?_; rintro e w' ⟨rfl, rfl⟩))
  go_ret
  exact ⟨rfl, rfl⟩

set_option maxHeartbeats 400000 in
theorem end_nil (w : World) :
    Calls Tryz.prog 95 #[.pointer none] w fun e w' => e = .returned (.bool false) ∧ w = w' := by
  go_enter Tryz.func95, Tryz.ntmps95
  go_wp2_with (first | (go_at_call 118; refine (bad_nil _).mono ?_; rintro e w' ⟨rfl, rfl⟩))
  go_ret
  exact ⟨rfl, rfl⟩

theorem nil_text (w : World) : (convert 45 9 (.slice none 0 0)).run Tryz.prog w = .ok (.string ⟨#[]⟩) w := by kernel_rfl

theorem read_is (w : World) (l : List UInt8) (hl : l.length ≤ 9223372036854775807) : InIs (w.alloc (.cells #[.string ⟨l.toArray⟩, .bool false] 157)) w.heap.size l false :=
  ⟨by rw [World.cell?_alloc_at (hn := rfl)]; rfl, by rw [World.cell?_alloc_at (hn := rfl)]; rfl, by rw [World.frozen?_alloc_at (hn := rfl)], by rw [World.frozen?_alloc_at (hn := rfl)], hl, by simp⟩

set_option maxHeartbeats 400000 in
theorem read_calls (ao : Option Addr) (c : Nat) (l : List UInt8) (w : World) (h : Sl w ao c l) :
    Calls Tryz.prog 93 #[.slice ao l.length c] w fun e w' => e = .returned (.pointer (some ⟨w.heap.size, 0, none⟩)) ∧ InIs w' w.heap.size l false ∧ Below w.heap.size w w' := by
  have hm := h.le
  unfold maxLen at hm
  have HR := Lib.hid (read_is w l (by omega))
  have HB := Lib.hid (new_below w (.cells #[.string ⟨l.toArray⟩, .bool false] 157))
  rcases h with ⟨rfl, rfl, rfl⟩ | ⟨A, rfl, _, _, hc⟩
  · have hc0 := nil_text w
    go_enter Tryz.func93, Tryz.ntmps93
    go_wp2
    go_ret
    exact ⟨rfl, HR.out, HB.out⟩
  · have hconv := run_convert_bytes_back (P := Tryz.prog) w 45 9 5 A c l Tryz.underlying45 Tryz.underlying5 Tryz.underlying9 (fun j hj => by rw [hc j hj]; simp [List.getD, hj])
    clear hc
    go_enter Tryz.func93, Tryz.ntmps93
    go_wp2
    go_ret
    exact ⟨rfl, HR.out, HB.out⟩

end Go.Proofs.YtjmainefmiefcaaGreat


/-
  Plain mathematics of Castagnoli's sum: the register's step, its line over bits, that it can be undone. No program is named here.
-/
namespace Go.Proofs.YtjmainefmiefcaaGreat

/-- The polynomial, its bits turned round. -/
def polyN : Nat := 2197175160

/-- One bit goes. -/
def stepN (s : Nat) : Nat := if s % 2 = 1 then (s / 2) ^^^ polyN else s / 2

/-- k bits go. -/
def stepsN : Nat → Nat → Nat
  | 0, s => s
  | k + 1, s => stepN (stepsN k s)

/-- A byte is put in. -/
def byteN (s x : Nat) : Nat := stepsN 8 (s ^^^ x)

/-- Bytes are put in, one behind the other. -/
def onN (s : Nat) (l : List UInt8) : Nat := l.foldl (fun s x => byteN s x.toNat) s

/-- All thirty-two bits turned. -/
def notN (s : Nat) : Nat := 4294967295 - s

/-- The sum of bytes behind what s is the sum of. -/
def sumOn (s : Nat) (l : List UInt8) : Nat := notN (onN (notN s) l)

theorem polyN_lt : polyN < 2 ^ 32 := by decide

theorem stepN_lt {s : Nat} (h : s < 4294967296) : stepN s < 4294967296 := by
  unfold stepN
  split
  · exact Nat.xor_lt_two_pow (n := 32) (by omega) polyN_lt
  · omega

theorem stepsN_lt {s : Nat} (h : s < 4294967296) : ∀ k, stepsN k s < 4294967296
  | 0 => h
  | k + 1 => stepN_lt (stepsN_lt h k)

theorem xor_lt32 {a b : Nat} (ha : a < 4294967296) (hb : b < 4294967296) : a ^^^ b < 4294967296 := Nat.xor_lt_two_pow (n := 32) ha hb

theorem byteN_lt {s x : Nat} (h : s < 4294967296) (hx : x < 256) : byteN s x < 4294967296 :=
  stepsN_lt (xor_lt32 h (by omega)) 8

theorem onN_lt : ∀ (l : List UInt8) {s : Nat}, s < 4294967296 → onN s l < 4294967296
  | [], _, h => h
  | x :: l, s, h => onN_lt l (byteN_lt h (by have := x.toNat_lt; omega))

theorem onN_append (s : Nat) (a b : List UInt8) : onN s (a ++ b) = onN (onN s a) b := by simp [onN, List.foldl_append]
theorem onN_cons (s : Nat) (x : UInt8) (l : List UInt8) : onN s (x :: l) = onN (byteN s x.toNat) l := by unfold onN; rw [List.foldl_cons]
theorem onN_snoc (s : Nat) (l : List UInt8) (x : UInt8) : onN s (l ++ [x]) = byteN (onN s l) x.toNat := by simp [onN]

/-- Turned with all ones. -/
theorem xor_all {s : Nat} (h : s < 4294967296) : 4294967295 ^^^ s = notN s := by
  unfold notN
  have h1 := congrArg BitVec.toNat (BitVec.allOnes_xor (x := BitVec.ofNat 32 s))
  rw [BitVec.toNat_xor, BitVec.toNat_not, BitVec.toNat_allOnes, BitVec.toNat_ofNat, Nat.mod_eq_of_lt h] at h1
  exact h1

theorem notN_lt (s : Nat) : notN s < 4294967296 := by unfold notN; omega
theorem notN_notN {s : Nat} (h : s < 4294967296) : notN (notN s) = s := by unfold notN; omega
theorem sumOn_lt (s : Nat) (l : List UInt8) : sumOn s l < 4294967296 := notN_lt _

/-- Two parts, one behind the other. -/
theorem sumOn_append (s : Nat) (a b : List UInt8) : sumOn s (a ++ b) = sumOn (sumOn s a) b := by
  unfold sumOn
  rw [onN_append, notN_notN (onN_lt a (notN_lt s))]

/-! ### The step is a line over bits -/

theorem xor_mod_two (a b : Nat) : (a ^^^ b) % 2 = (a % 2 + b % 2) % 2 := by
  have h := Nat.xor_mod_two_pow (a := a) (b := b) (n := 1)
  simp only [Nat.pow_one] at h
  rw [h]
  rcases Nat.mod_two_eq_zero_or_one a with ha | ha <;> rcases Nat.mod_two_eq_zero_or_one b with hb | hb <;> rw [ha, hb] <;> rfl

theorem xor_div_two (a b : Nat) : (a ^^^ b) / 2 = (a / 2) ^^^ (b / 2) := Nat.xor_div_two

theorem stepN_xor (a b : Nat) : stepN (a ^^^ b) = stepN a ^^^ stepN b := by
  unfold stepN
  rw [xor_mod_two, xor_div_two]
  rcases Nat.mod_two_eq_zero_or_one a with ha | ha <;> rcases Nat.mod_two_eq_zero_or_one b with hb | hb <;> simp only [ha, hb]
  · simp
  · simp [Nat.xor_assoc]
  · simp
    ac_rfl
  · simp
    rw [show ((a / 2) ^^^ polyN) ^^^ ((b / 2) ^^^ polyN) = ((a / 2) ^^^ (b / 2)) ^^^ (polyN ^^^ polyN) by ac_rfl]
    simp

theorem stepsN_xor (a b : Nat) : ∀ k, stepsN k (a ^^^ b) = stepsN k a ^^^ stepsN k b
  | 0 => rfl
  | k + 1 => by simp only [stepsN]; rw [stepsN_xor a b k, stepN_xor]

theorem byteN_xor (s t x y : Nat) : byteN (s ^^^ t) (x ^^^ y) = byteN s x ^^^ byteN t y := by
  unfold byteN
  rw [show (s ^^^ t) ^^^ (x ^^^ y) = (s ^^^ x) ^^^ (t ^^^ y) by ac_rfl, stepsN_xor]

end Go.Proofs.YtjmainefmiefcaaGreat


/-
  The walks of package sum: Bits, On, Of: what each answers, said by plain lists of bytes.
-/
namespace Go.Proofs.YtjmainefmiefcaaGreat
open Go.RowKit

/-- WHAT A SLICE OF BYTES IS, AS CELLS: nothing, or a row of cells in one block. -/
def Row (w : World) (ao : Option Addr) (l : List UInt8) : Prop :=
  l = [] ∨ ∃ b off, ao = some ⟨b, off, none⟩ ∧ ∀ i, i < l.length → w.cell? ⟨b, off + i, none⟩ = some (.int .u8 ((l.getD i 0).toNat : Int))

theorem bits_and1 {s : Nat} (h : s < 4294967296) : bits .and .u32 (s : Int) 1 = ((s % 2 : Nat) : Int) := by
  have := u32_and_nat s 1 h (by omega)
  rw [nat_mask1] at this
  exact this

set_option maxHeartbeats 400000 in
theorem bits_calls (s x : Nat) (w : World) (hs : s < 4294967296) (hx : x < 256) :
    Calls Tryz.prog 132 #[.int .u32 (s : Int), .int .u8 (x : Int)] w fun e w' => e = .returned (.int .u32 (byteN s x : Nat)) ∧ w = w' := by
  have hx0 : bits .xor .u32 (s : Int) (x : Int) = ((s ^^^ x : Nat) : Int) := u32_xor_nat s x hs (by omega)
  go_enter Tryz.func132, Tryz.ntmps132
  go_wp2
  go_loop [0, 10] (fun v i => ∃ k : Nat, k ≤ 8 ∧ i = .int .i64 k ∧ v = .int .u32 (stepsN k (s ^^^ x) : Nat)) (fun _ i => 8 - (intOf i).toNat)
  case atStart => exact ⟨0, by omega, rfl, rfl⟩
  case round =>
    obtain ⟨k, hk, rfl, rfl⟩ := hrel
    obtain ⟨t, ht⟩ : ∃ t, t = stepsN k (s ^^^ x) := ⟨_, rfl⟩
    have htl : t < 4294967296 := by rw [ht]; exact stepsN_lt (xor_lt32 hs (by omega)) k
    rw [← ht]
    have HT := Lib.hid ht
    have ha := bits_and1 htl
    clear ht hx0
    by_cases hk8 : k < 8
    · by_cases hb : t % 2 = 1
      · have hp : bits .xor .u32 ((t : Int) / 2) 2197175160 = (((t / 2) ^^^ polyN : Nat) : Int) := by
          have h := u32_xor_nat (t / 2) polyN (by omega) (by decide)
          rw [Int.natCast_ediv] at h
          exact h
        have hb' : (((t % 2 : Nat) : Int) == 1) = true := by rw [hb]; rfl
        go_wp2
        go_round
        case rel => exact ⟨k + 1, by omega, by go_num, by rw [stepsN, ← HT.out, stepN, if_pos hb]⟩
        case measure => simp [intOf]; omega
      · have hb' : (((t % 2 : Nat) : Int) == 1) = false := by simp; omega
        go_wp2
        go_round
        case rel => exact ⟨k + 1, by omega, by go_num, by rw [stepsN, ← HT.out, stepN, if_neg hb]; rfl⟩
        case measure => simp [intOf]; omega
    · go_wp2
      obtain rfl : k = 8 := by omega
      go_ret
      exact ⟨by rw [HT.out]; rfl, rfl⟩

set_option maxHeartbeats 400000 in
/-- Bytes are put in, one behind the other. -/
theorem on_calls (s : Nat) (ao : Option Addr) (c : Nat) (l : List UInt8) (w : World) (hs : s < 4294967296) (hm : l.length ≤ 9223372036854775807) (hl : Row w ao l) :
    Calls Tryz.prog 129 #[.int .u32 (s : Int), .slice ao l.length c] w fun e w' => e = .returned (.int .u32 (sumOn s l : Nat)) ∧ w = w' := by
  have hx0 : bits .xor .u32 IntKind.u32.max (s : Int) = ((notN s : Nat) : Int) := by
    rw [show IntKind.u32.max = ((4294967295 : Nat) : Int) from rfl, u32_xor_nat _ s (by omega) hs]
    exact congrArg _ (xor_all hs)
  have hn := notN_lt s
  have hend : ∀ t : Nat, t < 4294967296 → bits .xor .u32 IntKind.u32.max (t : Int) = ((notN t : Nat) : Int) := fun t ht => by
    rw [show IntKind.u32.max = ((4294967295 : Nat) : Int) from rfl, u32_xor_nat _ t (by omega) ht]
    exact congrArg _ (xor_all ht)
  have HE := Lib.hid hend
  clear hend
  rcases hl with rfl | ⟨b, off, rfl, hc⟩
  · have hx1 := HE.out (notN s) hn
    go_enter Tryz.func129, Tryz.ntmps129
    go_wp2
    refine wp_loop_rounds 1 ?_
    rw [rounds_succ]
    go_wp2
    go_ret
    exact ⟨rfl, rfl⟩
  · go_enter Tryz.func129, Tryz.ntmps129
    go_wp2
    go_loop [5, 12] (fun v i => ∃ k : Nat, k ≤ l.length ∧ i = .int .i64 k ∧ v = .int .u32 (onN (notN s) (l.take k) : Nat)) (fun _ i => l.length - (intOf i).toNat)
    case atStart => exact ⟨0, by omega, rfl, rfl⟩
    case round =>
      obtain ⟨k, hk, rfl, rfl⟩ := hrel
      obtain ⟨t, ht⟩ : ∃ t, t = onN (notN s) (l.take k) := ⟨_, rfl⟩
      have htl : t < 4294967296 := by rw [ht]; exact onN_lt _ hn
      rw [← ht]
      have HT := Lib.hid ht
      clear ht hx0
      by_cases hlt : k < l.length
      · have hck := hc k hlt
        have hb := (l.getD k 0).toNat_lt
        have HS := Lib.hid (show onN (notN s) (l.take (k + 1)) = byteN t (l.getD k 0).toNat by
          rw [List.take_succ_eq_append_getElem hlt, onN_snoc, ← HT.out]
          simp [List.getD, hlt])
        generalize (l.getD k 0).toNat = x at hck hb HS
        clear hc
        go_wp2_with (go_at_call 132; refine (bits_calls t x _ htl (by omega)).mono ?_; rintro e w' ⟨rfl, rfl⟩)
        go_round
        case rel => exact ⟨k + 1, by omega, by go_num, by rw [HS.out]⟩
        case measure => simp [intOf]; omega
      · have hx1 := HE.out t htl
        go_wp2
        obtain rfl : k = l.length := by omega
        go_ret
        exact ⟨by rw [HT.out, List.take_length]; rfl, rfl⟩

set_option maxHeartbeats 400000 in
theorem of_calls (ao : Option Addr) (c : Nat) (l : List UInt8) (w : World) (hm : l.length ≤ 9223372036854775807) (hl : Row w ao l) :
    Calls Tryz.prog 121 #[.slice ao l.length c] w fun e w' => e = .returned (.int .u32 (sumOn 0 l : Nat)) ∧ w = w' := by
  go_enter Tryz.func121, Tryz.ntmps121
  go_wp2_with (go_at_call 129; refine (on_calls 0 ao c l _ (by omega) hm hl).mono ?_; rintro e w' ⟨rfl, rfl⟩)
  go_ret
  exact ⟨rfl, rfl⟩

end Go.Proofs.YtjmainefmiefcaaGreat


/-
  The walk of the law's own 'begun': it answers true, and turns nothing that was there.
-/
namespace Go.Proofs.YtjmainefmiefcaaGreat
open Go.RowKit

theorem OutIs.new (w : World) (e : TypeId) : OutIs (w.alloc (.cells #[.slice none 0 0] e)) ⟨w.heap.size, 0, none⟩ [] :=
  ⟨none, 0, by rw [World.cell?_alloc_at (hn := rfl)]; rfl, Sl.nil _, by rw [World.frozen?_alloc_at (hn := rfl)], World.ownsRow_nil _ _ _ _⟩

theorem OutIs.lt {w : World} {p : Addr} {l : List UInt8} (h : OutIs w p l) : p.block < w.heap.size := by
  obtain ⟨ao, c, hp, _⟩ := h
  exact World.block_lt_of_cell? _ _ hp

theorem Sl.row {w : World} {ao : Option Addr} {c : Nat} {l : List UInt8} (h : Sl w ao c l) : Row w ao l := by
  rcases h with ⟨_, _, rfl⟩ | ⟨A, rfl, _, _, hc⟩
  · exact .inl rfl
  · by_cases hl : l = []
    · exact .inl hl
    · obtain ⟨b, off, spot⟩ := A
      have h0 := hc 0 (List.length_pos_iff.2 hl)
      have hs : spot = none := by simpa [Addr.add] using World.cell?_spot h0
      subst hs
      exact .inr ⟨b, off, rfl, fun i hi => by rw [← Addr.add_lit]; exact hc i hi⟩

/-- A slice that is not empty lies in a block. -/
theorem Row.at {w : World} {ao : Option Addr} {l : List UInt8} (h : Row w ao l) (hl : l ≠ []) : ∃ b off, ao = some ⟨b, off, none⟩ ∧ b < w.heap.size ∧ ∀ i, i < l.length → w.cell? ⟨b, off + i, none⟩ = some (.int .u8 ((l.getD i 0).toNat : Int)) := by
  rcases h with h | ⟨b, off, rfl, hc⟩
  · exact absurd h hl
  · exact ⟨b, off, rfl, World.block_lt_of_cell? _ _ (hc 0 (List.length_pos_iff.2 hl)), hc⟩

def begunB : List UInt8 := [2, 1, 254, 255, 255, 255, 255, 255, 255, 255, 2, 0, 97, 98, 1]
def nineB : List UInt8 := [49, 50, 51, 52, 53, 54, 55, 56, 57]

/-- A new row of bytes that bears the run-time's mark behind its end. -/
theorem Sl.marked (w : World) (cs : Array Value) (e : TypeId) (fr : Nat × Nat) (l : List UInt8) (h : cs.toList = u8s l) (hm : l.length ≤ maxLen) : Sl (w.alloc (.cells cs e fr)) (some ⟨w.heap.size, 0, none⟩) l.length l := by
  refine .inr ⟨_, rfl, Nat.le_refl _, hm, fun i hi => ?_⟩
  rw [Addr.add_lit, Nat.zero_add, World.cell?_alloc_mark]
  rw [← u8s_at hi, ← h]
  simp

theorem nine_sum : sumOn 0 nineB = 3808858755 := by decide +kernel

theorem begunB_is : ((([] ++ smallB 258) ++ longB (-2)) ++ textB ⟨#[97, 98]⟩) ++ [if true = true then 1 else 0] = begunB := by decide +kernel

theorem in_one (b : Nat) (w : World) (h : InIs w b begunB false) : Calls Tryz.prog 113 #[.pointer (some ⟨b, 0, none⟩)] w fun e w' => e = .returned (.int .i64 258) ∧ InIs w' b [254, 255, 255, 255, 255, 255, 255, 255, 2, 0, 97, 98, 1] false ∧ w.grownBy w' (some b) := by
  have C := small_in b begunB false w h
  rw [show leN (taken begunB false 2) = 258 from by decide +kernel, show after begunB false 2 = [254, 255, 255, 255, 255, 255, 255, 255, 2, 0, 97, 98, 1] from by decide +kernel, show canTake begunB false 2 = true from by decide +kernel] at C
  exact C

theorem in_two (b : Nat) (w : World) (h : InIs w b [254, 255, 255, 255, 255, 255, 255, 255, 2, 0, 97, 98, 1] false) : Calls Tryz.prog 114 #[.pointer (some ⟨b, 0, none⟩)] w fun e w' => e = .returned (.int .i64 (-2)) ∧ InIs w' b [2, 0, 97, 98, 1] false ∧ w.grownBy w' (some b) := by
  have C := long_in b [254, 255, 255, 255, 255, 255, 255, 255, 2, 0, 97, 98, 1] false w h
  rw [show longN (taken [254, 255, 255, 255, 255, 255, 255, 255, 2, 0, 97, 98, 1] false 8) = -2 from by decide +kernel, show after [254, 255, 255, 255, 255, 255, 255, 255, 2, 0, 97, 98, 1] false 8 = [2, 0, 97, 98, 1] from by decide +kernel, show canTake [254, 255, 255, 255, 255, 255, 255, 255, 2, 0, 97, 98, 1] false 8 = true from by decide +kernel] at C
  exact C

theorem in_three (b : Nat) (w : World) (h : InIs w b [2, 0, 97, 98, 1] false) : Calls Tryz.prog 120 #[.pointer (some ⟨b, 0, none⟩)] w fun e w' => e = .returned (.string ⟨#[97, 98]⟩) ∧ InIs w' b [1] false ∧ w.grownBy w' (some b) := by
  have C := text_in b [2, 0, 97, 98, 1] false w h
  rw [show textT [2, 0, 97, 98, 1] false = [97, 98] from by decide +kernel, show textA [2, 0, 97, 98, 1] false = [1] from by decide +kernel, show textC [2, 0, 97, 98, 1] false = true from by decide +kernel] at C
  exact C

theorem in_four (b : Nat) (w : World) (h : InIs w b [1] false) : Calls Tryz.prog 115 #[.pointer (some ⟨b, 0, none⟩)] w fun e w' => e = .returned (.bool true) ∧ InIs w' b [] false ∧ w.grownBy w' (some b) := by
  have C := truth_in b [1] false w h
  rw [show truthV [1] false = true from by decide +kernel, show truthA [1] false = [] from by decide +kernel, show truthC [1] false = true from by decide +kernel] at C
  exact C

theorem in_five (b : Nat) (w : World) (h : InIs w b [] false) : Calls Tryz.prog 113 #[.pointer (some ⟨b, 0, none⟩)] w fun e w' => e = .returned (.int .i64 0) ∧ InIs w' b [] true ∧ w.grownBy w' (some b) := by
  have C := small_in b [] false w h
  rw [show leN (taken [] false 2) = 0 from by decide +kernel, show after [] false 2 = [] from by decide +kernel, show canTake [] false 2 = false from by decide +kernel] at C
  exact C

set_option maxHeartbeats 2000000 in
set_option maxRecDepth 100000 in
theorem begun_calls (w : World) : Calls Tryz.prog 96 #[] w fun e w' => e = .returned (.bool true) ∧ Below w.heap.size w w' := by
  go_enter Tryz.func96, Tryz.ntmps96
  go_wp2_with fail
  refine (small_out w.heap.size 0 [] 258 _ (OutIs.new w _) (by simp)).mono ?_
  rintro e w1 ⟨rfl, ho1, hn1⟩
  have O1 := Lib.hid ho1
  have B1 := Lib.hid (hn1.below (Nat.le_refl _) (by simp) (new_below w _))
  clear ho1 hn1
  go_wp2_with fail
  refine (long_out w.heap.size 0 _ (-2) _ O1.out (by simp [smallB])).mono ?_
  rintro e w2 ⟨rfl, ho2, hn2⟩
  have O2 := Lib.hid ho2
  have B2 := Lib.hid (hn2.below (Nat.le_refl _) B1.out.size B1.out)
  clear ho2 hn2 O1 B1
  go_wp2_with fail
  refine (text_out w.heap.size 0 _ _ _ O2.out (by decide) (by simp [smallB, longB])).mono ?_
  rintro e w3 ⟨rfl, ho3, hn3⟩
  have O3 := Lib.hid ho3
  have B3 := Lib.hid (hn3.below (Nat.le_refl _) B2.out.size B2.out)
  clear ho3 hn3 O2 B2
  go_wp2_with fail
  refine (truth_out w.heap.size 0 _ true _ O3.out (by simp [smallB, longB, textB]; omega)).mono ?_
  rintro e w4 ⟨rfl, ho4, hn4⟩
  rw [begunB_is] at ho4
  have B4 := Lib.hid (hn4.below (Nat.le_refl _) B3.out.size B3.out)
  clear hn4 O3 B3
  obtain ⟨ao, c, hp, hs, hf, -⟩ := ho4
  have hlt := World.block_lt_of_cell? _ _ hp
  obtain ⟨g, off, rfl, hg, hc⟩ := hs.row.at (by decide)
  have hlen : begunB.length = 15 := rfl
  rw [hlen] at hp
  clear hlen
  have HC := Lib.hid hc
  have HS := Lib.hid hs
  clear hc hs
  go_wp2_with fail
  refine (read_calls _ c begunB _ HS.out).mono ?_
  rintro e w5 ⟨rfl, hi, hb5⟩
  have I5 := Lib.hid hi
  have B5 := Lib.hid (B4.out.trans (hb5.mono B4.out.size))
  have hp5 := (hb5.cell (p := ⟨w.heap.size, 0, none⟩) hlt).trans hp
  have HC5 := Lib.hid (fun i (hi : i < begunB.length) => (hb5.cell (p := ⟨g, off + i, none⟩) hg).trans (HC.out i hi))
  have hs5 := hb5.size
  clear hi hb5 hp HC HS
  have hz : w.heap.size ≤ w4.heap.size := B4.out.size
  clear B4
  generalize w4.heap.size = q at *
  go_wp2_with fail
  refine (in_one q _ I5.out).mono ?_
  rintro e w6 ⟨rfl, hi, hg6⟩
  have I6 := Lib.hid hi
  have G6 := Lib.hid hg6
  clear hi hg6
  go_wp2_with fail
  refine (in_two q _ I6.out).mono ?_
  rintro e w7 ⟨rfl, hi, hg7⟩
  have I7 := Lib.hid hi
  have G7 := Lib.hid (grown_trans G6.out hg7)
  clear hi hg7 G6 I6
  go_wp2_with fail
  refine (in_three q _ I7.out).mono ?_
  rintro e w8 ⟨rfl, hi, hg8⟩
  have I8 := Lib.hid hi
  have G8 := Lib.hid (grown_trans G7.out hg8)
  clear hi hg8 G7 I7
  go_wp2_with fail
  refine (in_four q _ I8.out).mono ?_
  rintro e w9 ⟨rfl, hi, hg9⟩
  have I9 := Lib.hid hi
  have G9 := Lib.hid (grown_trans G8.out hg9)
  clear hi hg9 G8 I8
  have hp9 := G9.out.cell hp5 (by simp; omega)
  have hc0 := G9.out.cell (HC5.out 0 (by decide)) (by simp; omega)
  have hc1 := G9.out.cell (HC5.out 1 (by decide)) (by simp; omega)
  rw [Nat.add_zero, show ((begunB.getD 0 0).toNat : Int) = 2 from rfl] at hc0
  rw [show ((begunB.getD 1 0).toNat : Int) = 1 from rfl] at hc1
  go_wp2_with fail
  refine (end_calls q [] false _ I9.out).mono ?_
  rintro e w' ⟨rfl, rfl⟩
  go_wp2_with fail
  refine (left_calls q [] false _ I9.out).mono ?_
  rintro e w' ⟨rfl, rfl⟩
  go_wp2_with fail
  refine (bad_calls q [] false _ I9.out).mono ?_
  rintro e w' ⟨rfl, rfl⟩
  go_wp2_with fail
  refine (in_five q _ I9.out).mono ?_
  rintro e w10 ⟨rfl, hi, hg10⟩
  have I10 := Lib.hid hi
  have G10 := Lib.hid (grown_trans G9.out hg10)
  clear hi hg10 G9 I9 hp9 hc0 hc1
  go_wp2_with fail
  refine (bad_calls q [] true _ I10.out).mono ?_
  rintro e w' ⟨rfl, rfl⟩
  have hrow := (Sl.marked w10 #[.int .u8 49, .int .u8 50, .int .u8 51, .int .u8 52, .int .u8 53, .int .u8 54, .int .u8 55, .int .u8 56, .int .u8 57] 5 (9, 10) nineB rfl (by decide)).row
  have HR := Lib.hid hrow
  clear hrow
  have kc := fun (wx : World) (C : Array Value) (n c : Nat) => Lib.run_convert_bytes_const (P := Tryz.prog) wx 45 5 C n c Tryz.underlying45 Tryz.underlying5
  have C := of_calls (some ⟨w10.heap.size, 0, none⟩) 9 nineB _ (by decide) HR.out
  rw [nine_sum, show nineB.length = 9 from rfl] at C
  go_wp2_with fail
  refine C.mono ?_
  rintro e w' ⟨rfl, rfl⟩
  go_wp2_with fail
  go_ret
  refine ⟨rfl, ?_⟩
  have hb10 : Below w.heap.size w w10 := B5.out.grown G10.out (by omega) (by intro k hk; cases hk; exact hz)
  exact hb10.trans ((new_below w10 _).mono hb10.size)

end Go.Proofs.YtjmainefmiefcaaGreat


/-
  Plain lemmas on bits of Go's integers: what a mask leaves.
-/
namespace Go.Proofs.YtjmainefmiefcaaGreat

theorem i64_mask (n : Int) (k : Nat) (m : Int) (hm : (BitVec.ofInt 64 m).toNat = 2 ^ k - 1) (hk : 2 ^ k ≤ 9223372036854775808) : bits .and .i64 n m = (((n % 18446744073709551616).toNat % 2 ^ k : Nat) : Int) := by
  have key : (BitVec.ofInt 64 n &&& BitVec.ofInt 64 m).toNat = (n % ((2 ^ 64 : Nat) : Int)).toNat % 2 ^ k := by
    rw [BitVec.toNat_and, BitVec.toNat_ofInt, hm, Nat.and_two_pow_sub_one_eq_mod]
  show IntKind.i64.wrap ((BitVec.ofInt 64 n &&& BitVec.ofInt 64 m).toNat : Nat) = _
  rw [key, IntKind.wrap_i64]
  have : (n % ((2 ^ 64 : Nat) : Int)).toNat % 2 ^ k < 2 ^ k := Nat.mod_lt _ (Nat.two_pow_pos k)
  have e : ((2 ^ 64 : Nat) : Int) = 18446744073709551616 := by decide
  rw [e] at this ⊢
  omega

theorem i64_and65535 (n : Int) : bits .and .i64 n 65535 = n % 65536 := by
  rw [i64_mask n 16 65535 (by decide) (by decide)]; omega
theorem i64_and255 (n : Int) : bits .and .i64 n 255 = n % 256 := by
  rw [i64_mask n 8 255 (by decide) (by decide)]; omega
theorem i64_and3 (n : Int) : bits .and .i64 n 3 = n % 4 := by
  rw [i64_mask n 2 3 (by decide) (by decide)]; omega
theorem i64_and1 (n : Int) : bits .and .i64 n 1 = n % 2 := by
  rw [i64_mask n 1 1 (by decide) (by decide)]; omega

end Go.Proofs.YtjmainefmiefcaaGreat


/-
  The walks of the reference's Small, Long, Text, Truth, and of the law's own Cut: plain bytes in rows of the call's own.
-/
namespace Go.Proofs.YtjmainefmiefcaaGreat
open Go.RowKit

theorem owns_lit {w : World} (l : List UInt8) (cs : Array Value) (h : cs.toList = u8s l) (hm : l.length ≤ maxLen) :
    (w.alloc (.cells cs 5)).ownsRow w.heap.size 5 1 (.slice (some ⟨w.heap.size, 0, none⟩) l.length l.length) l.length (u8s l) := by
  have hs : cs.size = l.length * 1 := by
    rw [← Array.length_toList, h, u8s_length]; omega
  have := World.ownsRow_lit (base := w.heap.size) (e := 5) (size := 1) w cs l.length (Nat.le_refl _) hm hs
  rw [h] at this
  exact this

/-- A row of the call's own that reads as l. -/
def Own (B : Nat) (w : World) (v : Value) (l : List UInt8) : Prop := w.ownsRow B 5 1 v l.length (u8s l)

theorem strCells_u8s (s : ByteArray) : Lib.strCells s = u8s s.data.toList := rfl

theorem step_append_text {ops : Array Oper} {o : Oper} {a : Act} {w : World} {K : Act → World → Prop} {Q : Exit → Act → World → Prop} {E : Prop}
    (hg : o.guard = none) (sl x : Operand) (hop : o.op = Op.call { callee := Callee.builtin Builtin.append, args := #[sl, x], argTypes := #[45, 9] })
    (base : Nat) (v : Value) (l : List UInt8) (hs : a.eval sl = v) (hown : w.ownsRow base 5 1 v l.length (u8s l)) (s : ByteArray) (hx : a.eval x = .string s)
    (hb : l.length + s.size ≤ 140737488355328) (hbase : base ≤ w.heap.size)
    (hK : ∀ v' w', w'.ownsRow base 5 1 v' (l.length + s.size) (u8s (l ++ s.data.toList)) → w.grownBy w' v.ownBlock → K (a.put o.dst v') w') :
    if Region.wanted o (yielded ops a.tmps) = true then Oper.wp Tryz.prog o a w K Q else E := by
  have hw : Region.wanted o (yielded ops a.tmps) = true := by simp [Region.wanted, hg]
  rw [if_pos hw]
  obtain ⟨i0, hi, hz0, hz1, hz2⟩ := info_parts Tryz.u8row
  obtain ⟨v', w', hr, h2, h3, _⟩ := Lib.run_append_own_string (P := Tryz.prog) w base 45 9 o.type 5 i0 Tryz.underlying45 Tryz.underlying9 hi hz0 hz1 hz2 v l.length (u8s l) hown s (by unfold maxLen; omega) hb hbase
  unfold Oper.wp execOp
  simp only [hop, resolve, invoke, builtin, Sem.run_bind, Sem.run_pure, Result.andThen_ok, List.map_toArray, List.map_cons, List.map_nil, hs, hx, hr]
  exact hK v' w' (by rw [u8s_append, ← strCells_u8s]; exact h2) h3

theorem longB_at (n : Int) : ∀ k, k < 8 → (longB n).take (k + 1) = (longB n).take k ++ [UInt8.ofNat (n / 2 ^ (8 * k) % 256).toNat]
  | 0, _ => by simp [longB]
  | 1, _ => rfl
  | 2, _ => rfl
  | 3, _ => rfl
  | 4, _ => rfl
  | 5, _ => rfl
  | 6, _ => rfl
  | 7, _ => rfl

theorem cut_list (s : ByteArray) (n : Nat) : (s.extract 0 n).data.toList = s.data.toList.take n := extract_front s n

set_option maxHeartbeats 400000 in
theorem cut_calls (s : ByteArray) (n : Nat) (w : World) (_hs : s.size ≤ maxLen) (_hn : n ≤ 1000) :
    Calls Tryz.prog 14 #[.string s, .int .i64 (n : Int)] w fun e w' => (∃ x : ByteArray, e = .returned (.string x) ∧ x.size ≤ n ∧ x.data.toList = s.data.toList.take n) ∧ w = w' := by
  unfold maxLen at _hs
  by_cases h : s.size ≤ n
  · have hlt : ((s.size : Nat) : Int) ≤ (n : Int) := by omega
    go_enter Tryz.func14, Tryz.ntmps14
    go_wp2
    go_ret
    exact ⟨⟨s, rfl, h, by rw [List.take_of_length_le (by simpa using h)]⟩, rfl⟩
  · have hlt : (n : Int) < ((s.size : Nat) : Int) := by omega
    go_enter Tryz.func14, Tryz.ntmps14
    go_wp2
    go_ret
    exact ⟨⟨s.extract 0 n, rfl, by rw [ByteArray.size_extract]; omega, extract_front s n⟩, rfl⟩

end Go.Proofs.YtjmainefmiefcaaGreat
