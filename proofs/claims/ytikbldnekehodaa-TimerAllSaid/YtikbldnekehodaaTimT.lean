/-
  What the law TimerAll keeps: a timer, a row of those who are there, a row of how long each was silent.
-/
import Derived.Test.YtikbldnekehodaaTimP
import Derived.Test.YtikbldnekehodaaIs
import Derived.Test.YtikbldnekehodaaBagO
import Derived.Test.YtikbldnekehodaaRegInv
namespace Go.Proofs.Ytikbldnekehodaa
open Go.RowKit

/-- 'append(x, y...)' on ints within a region that draws its order. -/
theorem step_append_i {ops : Array Oper} {o : Oper} {a : Act} {w : World} {K : Act → World → Prop} {Q : Exit → Act → World → Prop} {E : Prop} (hgd : o.guard = none) (s x : Operand)
    (ho : o.op = .call { callee := .builtin .append, args := #[s, x], argTypes := #[28, 28] })
    (v : Value) (l : List Int) (hs : a.eval s = v) (hown : w.ownsRow 0 3 1 v l.length (i64s l))
    (ao : Option Addr) (n2 c : Nat) (l2 : List Int) (hn2 : n2 = l2.length) (hx : a.eval x = .slice ao n2 c) (hsl : Sr w ao c l2) (hb : l.length + l2.length ≤ 1000000)
    (h : ∀ v' w', w'.ownsRow 0 3 1 v' (l ++ l2).length (i64s (l ++ l2)) → w.grownBy w' v.ownBlock → (v'.ownBlock = v.ownBlock ∨ v'.ownBlock = some w.heap.size) → K (a.put o.dst v') w') :
    if Region.wanted o (yielded ops a.tmps) = true then Oper.wp Try.prog o a w K Q else E := by
  have hw : Region.wanted o (yielded ops a.tmps) = true := by simp [Region.wanted, hgd]
  rw [if_pos hw]
  subst hn2
  obtain ⟨i0, hi, hz0, hz1, hz2⟩ := info_parts Try.introw
  rcases hsl with ⟨rfl, rfl, rfl⟩ | ⟨A, rfl, hc⟩
  · have hr := run_append_owned_none (P := Try.prog) (w := w) 0 28 o.type 3 i0 1 Try.underlying28 hi v l.length (i64s l) hown
    unfold Oper.wp execOp
    simp only [ho, resolve, invoke, builtin, Sem.run_bind, Sem.run_pure, Result.andThen_ok, List.map_toArray, List.map_cons, List.map_nil, hs, hx, List.length_nil, hr]
    exact h v w (by simpa using hown) (World.grownBy.refl _ _) (.inl rfl)
  · obtain ⟨v', w', hr, h2, h3, h4, h5⟩ := run_append_own_at (P := Try.prog) w 0 28 o.type 3 i0 (.int .i64 0) 1 8 Try.underlying28 hi hz0 hz1 hz2 rfl (by decide) v l.length (i64s l) hown A l2.length c (i64s l2) (by rw [i64s_length]; omega) (Sr.cells hc) (i64s_one l2) (by unfold maxLen; omega) (by omega) (Nat.zero_le _)
    unfold Oper.wp execOp
    simp only [ho, resolve, invoke, builtin, Sem.run_bind, Sem.run_pure, Result.andThen_ok, List.map_toArray, List.map_cons, List.map_nil, hs, hx, hr]
    exact h v' w' (by rw [List.length_append, i64s_append]; exact h2) h3 h5

/-- A part of a row, from a place on. -/
theorem Sr.part {w : World} {g o c : Nat} {L l2 : List Int} (h : ∀ j, j < L.length → w.cell? ⟨g, j, none⟩ = some (.int .i64 (L.getD j 0))) (hl : ∀ j, j < l2.length → o + j < L.length ∧ l2.getD j 0 = L.getD (o + j) 0) : Sr w (some ⟨g, o, none⟩) c l2 := by
  refine .inr ⟨_, rfl, fun j hj => ?_⟩
  obtain ⟨h1, h2⟩ := hl j hj
  rw [Addr.add_lit, h _ h1, h2]

theorem Sr.turn {w w' : World} {ao : Option Addr} {c : Nat} {l : List Int} (h : Sr w ao c l) (t : Turn [] w w') : Sr w' ao c l := by
  rcases h with h | ⟨A, h1, h2⟩
  · exact .inl h
  · exact .inr ⟨A, h1, fun j hj => t.cell (h2 j hj) (by simp)⟩

/-- The timer's ones are K; the rows are L and D. -/
structure AT (w wr : World) (b : Nat) (most t : Int) (v vk va : Value) (K : List (Int × Int)) (L D : List Int) : Prop where
  lt : T.LT w wr b most t v K
  kr : wr.ownsRow 0 3 1 vk L.length (i64s L)
  ar : wr.ownsRow 0 3 1 va D.length (i64s D)
  kb : ∀ k, vk.ownBlock = some k → w.heap.size ≤ k ∧ k ≠ b ∧ v.ownBlock ≠ some k
  ab : ∀ k, va.ownBlock = some k → w.heap.size ≤ k ∧ k ≠ b ∧ v.ownBlock ≠ some k
  ka : ∀ k, vk.ownBlock = some k → va.ownBlock ≠ some k

theorem AT.quiet {w wr w' : World} {b : Nat} {most t : Int} {v vk va : Value} {K : List (Int × Int)} {L D : List Int} (h : AT w wr b most t v vk va K L D) (q : Turn [] wr w') : AT w w' b most t v vk va K L D :=
  ⟨h.lt.quiet q, ownsRow_turn h.kr q (fun _ _ => by simp), ownsRow_turn h.ar q (fun _ _ => by simp), h.kb, h.ab, h.ka⟩

/-- The timer has turned. -/
theorem AT.timer {w wr w' : World} {b : Nat} {most t t' : Int} {v v' vk va : Value} {K K' : List (Int × Int)} {L D : List Int} (h : AT w wr b most t v vk va K L D) (o : T.LT w w' b most t' v' K') (ho : v'.ownBlock = v.ownBlock ∨ ∀ k, v'.ownBlock = some k → wr.heap.size ≤ k) (q : Turn (b :: v.ownBlock.toList) wr w') :
    AT w w' b most t' v' vk va K' L D := by
  have sep : ∀ {x : Value} {n : Nat} {xs : List Value}, wr.ownsRow 0 3 1 x n xs → (∀ k, x.ownBlock = some k → w.heap.size ≤ k ∧ k ≠ b ∧ v.ownBlock ≠ some k) → ∀ k, x.ownBlock = some k → w.heap.size ≤ k ∧ k ≠ b ∧ v'.ownBlock ≠ some k := by
    intro x n xs hr hx k hk
    obtain ⟨h1, h2, h3⟩ := hx k hk
    refine ⟨h1, h2, fun e => ?_⟩
    rcases ho with e2 | e2
    · exact h3 (by rw [← e2]; exact e)
    · have := e2 k e
      have := own_lt hr hk
      omega
  have nl : ∀ {x : Value}, (∀ k, x.ownBlock = some k → w.heap.size ≤ k ∧ k ≠ b ∧ v.ownBlock ≠ some k) → ∀ k, x.ownBlock = some k → k ∉ b :: v.ownBlock.toList := by
    intro x hx k hk hm
    obtain ⟨h1, h2, h3⟩ := hx k hk
    rcases List.mem_cons.1 hm with e | hm
    · exact h2 e
    · exact h3 (Option.mem_toList.1 hm)
  exact ⟨o, ownsRow_turn h.kr q (nl h.kb), ownsRow_turn h.ar q (nl h.ab), sep h.kr h.kb, sep h.ar h.ab, h.ka⟩

theorem AT.fresh {w wr : World} {b : Nat} {most t : Int} {v vk va : Value} {K : List (Int × Int)} {L D : List Int} (h : AT w wr b most t v vk va K L D) {k : Nat} (hk : wr.heap.size ≤ k) : w.heap.size ≤ k ∧ k ≠ b ∧ v.ownBlock ≠ some k := by
  have h1 := lt_of_heap h.lt.tim.head
  refine ⟨Nat.le_trans h.lt.bel.size hk, by omega, fun e => ?_⟩
  have := (h.lt.tim.row.lt _ e).2
  omega

/-- The row of those who are there is another one now. -/
theorem AT.setK {w wr w' : World} {b : Nat} {most t : Int} {v vk vk' va : Value} {K : List (Int × Int)} {L L' D : List Int} (h : AT w wr b most t v vk va K L D) (q : Turn [] wr w') (hr : w'.ownsRow 0 3 1 vk' L'.length (i64s L')) (ho : ∀ k, vk'.ownBlock = some k → wr.heap.size ≤ k) : AT w w' b most t v vk' va K L' D := by
  have h2 := h.quiet q
  refine ⟨h2.lt, hr, h2.ar, fun k hk => h.fresh (ho k hk), h2.ab, fun k hk e => ?_⟩
  have h1 := ho k hk
  have := own_lt h.ar e
  omega

theorem AT.setA {w wr w' : World} {b : Nat} {most t : Int} {v vk va va' : Value} {K : List (Int × Int)} {L D D' : List Int} (h : AT w wr b most t v vk va K L D) (q : Turn [] wr w') (hr : w'.ownsRow 0 3 1 va' D'.length (i64s D')) (ho : ∀ k, va'.ownBlock = some k → wr.heap.size ≤ k) : AT w w' b most t v vk va' K L D' := by
  have h2 := h.quiet q
  refine ⟨h2.lt, h2.kr, hr, h2.kb, fun k hk => h.fresh (ho k hk), fun k hk e => ?_⟩
  have h1 := ho k e
  have := own_lt h.kr hk
  omega

theorem i64s_set (D : List Int) (j : Nat) (x : Int) : (i64s D).set j (.int .i64 x) = i64s (D.set j x) := by simp [i64s, List.map_set]

/-- An age is written. -/
theorem AT.store {w wr : World} {b g c : Nat} {most t : Int} {v vk : Value} {K : List (Int × Int)} {L D : List Int} (h : AT w wr b most t v vk (.slice (some ⟨g, 0, none⟩) D.length c) K L D) {j : Nat} (x : Int) :
    AT w (wr.setCell ⟨g, j, none⟩ (.int .i64 x)) b most t v vk (.slice (some ⟨g, 0, none⟩) D.length c) K L (D.set j x) ∧ Turn [g] wr (wr.setCell ⟨g, j, none⟩ (.int .i64 x)) := by
  have ts : Turn [g] wr (wr.setCell ⟨g, j, none⟩ (.int .i64 x)) := Turn.setCell _ (by simp) _
  obtain ⟨h1, h2, h3⟩ := h.ab g rfl
  refine ⟨⟨⟨h.lt.tim.turn ts (by simpa using Ne.symm h2) (fun k hk hm => h3 (by rw [hk, List.mem_singleton.1 hm])), h.lt.b, h.lt.v, h.lt.bel.trans (ts.below (fun k hk => by rw [List.mem_singleton.1 hk]; exact h1) h.lt.bel.size)⟩, ownsRow_turn h.kr ts (fun k hk hm => h.ka k hk (by rw [List.mem_singleton.1 hm]; rfl)), ?_, h.kb, h.ab, h.ka⟩, ts⟩
  have hs := (h.ar.stored j (.int .i64 x)).1
  rw [List.length_set, ← i64s_set]
  exact hs

/-- Sorted, and small. -/
def Sm (K : List (Int × Int)) : Prop := (K.Pairwise fun p q => p.1 < q.1) ∧ ∀ p ∈ K, -11 ≤ p.1 ∧ p.1 ≤ 11

/-- The ones below x, and from x on. -/
theorem split_at : ∀ (K : List (Int × Int)) (x : Int), Sm K → ∃ A R, K = A ++ R ∧ (∀ p ∈ A, p.1 < x) ∧ (∀ p ∈ R, x ≤ p.1)
  | [], x, _ => ⟨[], [], rfl, by simp, by simp⟩
  | p :: K, x, h => by
    obtain ⟨h1, h2⟩ := h
    rw [List.pairwise_cons] at h1
    by_cases hp : p.1 < x
    · obtain ⟨A, R, e, hA, hR⟩ := split_at K x ⟨h1.2, fun q hq => h2 q (by simp [hq])⟩
      exact ⟨p :: A, R, by rw [e]; rfl, by
        intro q hq
        rcases List.mem_cons.1 hq with rfl | hq
        · exact hp
        · exact hA q hq, hR⟩
    · exact ⟨[], p :: K, rfl, by simp, by
        intro q hq
        rcases List.mem_cons.1 hq with rfl | hq
        · omega
        · have := h1.1 q hq
          omega⟩

theorem Sm.tail {p : Int × Int} {B : List (Int × Int)} : ∀ {A : List (Int × Int)}, Sm (A ++ p :: B) → (∀ q ∈ A, q.1 < p.1) ∧ (∀ q ∈ B, p.1 < q.1) := by
  intro A h
  obtain ⟨h1, h2⟩ := h
  rw [List.pairwise_append] at h1
  obtain ⟨-, h3, h4⟩ := h1
  rw [List.pairwise_cons] at h3
  exact ⟨fun q hq => h4 q hq p (by simp), h3.1⟩

theorem Sm.ins {A B : List (Int × Int)} {x y : Int} (h : Sm (A ++ B)) (hA : ∀ p ∈ A, p.1 < x) (hB : ∀ p ∈ B, x < p.1) (hx : -11 ≤ x ∧ x ≤ 11) : Sm (A ++ (x, y) :: B) := by
  obtain ⟨h1, h2⟩ := h
  rw [List.pairwise_append] at h1
  obtain ⟨a1, a2, a3⟩ := h1
  refine ⟨?_, fun p hp => ?_⟩
  · rw [List.pairwise_append, List.pairwise_cons]
    refine ⟨a1, ⟨fun q hq => hB q hq, a2⟩, fun p hp q hq => ?_⟩
    rcases List.mem_cons.1 hq with rfl | hq
    · exact hA p hp
    · exact a3 p hp q hq
  · rcases List.mem_append.1 hp with hp | hp
    · exact h2 p (by simp [hp])
    · rcases List.mem_cons.1 hp with rfl | hp
      · exact hx
      · exact h2 p (by simp [hp])

theorem Sm.del {A B : List (Int × Int)} {p : Int × Int} (h : Sm (A ++ p :: B)) : Sm (A ++ B) := by
  obtain ⟨h1, h2⟩ := h
  rw [List.pairwise_append, List.pairwise_cons] at h1
  obtain ⟨a1, ⟨-, a2⟩, a3⟩ := h1
  refine ⟨?_, fun q hq => h2 q ?_⟩
  · rw [List.pairwise_append]
    exact ⟨a1, a2, fun p hp q hq => a3 p hp q (by simp [hq])⟩
  · rcases List.mem_append.1 hq with hq | hq
    · simp [hq]
    · simp [hq]

theorem new_none (w : World) : ∀ v1 : Value, (v1.ownBlock = (Value.slice none 0 0).ownBlock ∨ v1.ownBlock = some w.drew.heap.size) → ∀ i, v1.ownBlock = some i → w.heap.size ≤ i := by
  intro v1 hv i hi
  rcases hv with e | e <;> rw [hi] at e
  · cases e
  · cases e
    exact Nat.le_refl _

theorem new_none2 {w w1 : World} {v1 : Value} (hs : w.heap.size ≤ w1.heap.size) (hv : v1.ownBlock = (Value.slice none 0 0).ownBlock ∨ v1.ownBlock = some w1.heap.size) : ∀ i, v1.ownBlock = some i → w.heap.size ≤ i := by
  intro i hi
  rcases hv with e | e <;> rw [hi] at e
  · cases e
  · cases e
    exact hs

/-- A row's slice, with a block or without. -/
theorem own_form {w : World} {ao : Option Addr} {c n : Nat} {L : List Int} (h : w.ownsRow 0 3 1 (.slice ao n c) L.length (i64s L)) : (ao = none ∧ L.length = 0 ∧ c = 0) ∨ ∃ g, ao = some ⟨g, 0, none⟩ := by
  rcases h.2 with ⟨e, h0⟩ | ⟨g, cap, cur, e, _⟩
  · cases e
    exact .inl ⟨rfl, h0, rfl⟩
  · cases e
    exact .inr ⟨g, rfl⟩

theorem new_of {w w1 : World} {v1 v2 : Value} (h : ∀ i, v1.ownBlock = some i → w.heap.size ≤ i) (hs : w.heap.size ≤ w1.heap.size) (hv : v2.ownBlock = v1.ownBlock ∨ v2.ownBlock = some w1.heap.size) : ∀ i, v2.ownBlock = some i → w.heap.size ≤ i := by
  intro i hi
  rcases hv with e | e <;> rw [hi] at e
  · exact h i e.symm
  · cases e
    exact hs

theorem own_cells {w : World} {g c n : Nat} {L : List Int} (h : w.ownsRow 0 3 1 (.slice (some ⟨g, 0, none⟩) n c) L.length (i64s L)) : ∀ j, j < L.length → w.cell? ⟨g, j, none⟩ = some (.int .i64 (L.getD j 0)) := by
  intro j hj
  have := h.cells (g := g) rfl j (.int .i64 (L.getD j 0)) (by simp [i64s, List.getD, hj])
  rwa [Addr.add_lit, Nat.zero_add] at this

/-- A row that holds something has a block. -/
theorem own_some {w : World} {ao : Option Addr} {c n : Nat} {L : List Int} (h : w.ownsRow 0 3 1 (.slice ao n c) L.length (i64s L)) (hn : 0 < L.length) : ∃ g, ao = some ⟨g, 0, none⟩ := by
  rcases h.2 with ⟨e, h0⟩ | ⟨g, cap, cur, e, _⟩
  · omega
  · cases e
    exact ⟨g, rfl⟩

theorem in_true {K A R : List (Int × Int)} {x : Int} (hK : K = A ++ R) (h : (decide (A.length < K.length) && ((K.map (·.1)).getD A.length 0 == x)) = true) : ∃ y B, R = (x, y) :: B := by
  rw [Bool.and_eq_true] at h
  obtain ⟨h1, h2⟩ := h
  have h1 := of_decide_eq_true h1
  have h2 := eq_of_beq h2
  cases R with
  | nil => rw [hK] at h1; simp at h1
  | cons q B =>
    rw [hK] at h2
    have h3 : ((A ++ q :: B).map (·.1)).getD A.length 0 = q.1 := by simp [List.getD]
    rw [h3] at h2
    exact ⟨q.2, B, by rw [← h2]⟩

theorem in_false {K A R : List (Int × Int)} {x : Int} (hK : K = A ++ R) (hs : Sm K) (hR : ∀ p ∈ R, x ≤ p.1) (h : (decide (A.length < K.length) && ((K.map (·.1)).getD A.length 0 == x)) = false) : ∀ p ∈ R, x < p.1 := by
  cases R with
  | nil => intro p hp; cases hp
  | cons q B =>
    rw [hK] at h hs
    have h3 : ((A ++ q :: B).map (·.1)).getD A.length 0 = q.1 := by simp [List.getD]
    rw [h3, decide_eq_true (by simp), Bool.true_and] at h
    have h4 : ¬ q.1 = x := by simpa using h
    have h5 := hR q (by simp)
    intro p hp
    rcases List.mem_cons.1 hp with rfl | hp
    · omega
    · have := hs.tail.2 p hp
      omega

theorem map_cut (f : Int × Int → Int) (A B : List (Int × Int)) (p : Int × Int) : ((A ++ p :: B).map f).take A.length ++ ((A ++ p :: B).map f).drop (A.length + 1) = (A ++ B).map f := by
  have e : A.map f ++ f p :: B.map f = (A.map f ++ [f p]) ++ B.map f := by simp
  rw [List.map_append, List.map_cons, List.take_left' (by simp), e, List.drop_left' (by simp), List.map_append]

theorem map_put (f : Int × Int → Int) (A B : List (Int × Int)) (x : Int) : ((A ++ B).map f).take A.length ++ [x] ++ ((A ++ B).map f).drop A.length = A.map f ++ x :: B.map f := by simp

theorem map_set (f : Int × Int → Int) (A B : List (Int × Int)) (p : Int × Int) (x : Int) : ((A ++ p :: B).map f).set A.length x = A.map f ++ x :: B.map f := by simp

theorem take_get (L : List Int) (k j : Nat) (h : j < (L.take k).length) : 0 + j < L.length ∧ (L.take k).getD j 0 = L.getD (0 + j) 0 := by
  rw [List.length_take] at h
  refine ⟨by omega, ?_⟩
  simp only [List.getD, List.getElem?_take_of_lt (show j < k by omega), Nat.zero_add]

theorem drop_get (L : List Int) (k j : Nat) (h : j < (L.drop k).length) : k + j < L.length ∧ (L.drop k).getD j 0 = L.getD (k + j) 0 := by
  rw [List.length_drop] at h
  refine ⟨by omega, ?_⟩
  simp only [List.getD, List.getElem?_drop]

/-- The ages while a tick counts them on: the first j are done. -/
def midD (t : Int) (K : List (Int × Int)) (j : Nat) : List Int := (K.take j).map (fun p => t + 1 - p.2) ++ (K.drop j).map (fun p => t - p.2)

theorem midD_zero (t : Int) (K : List (Int × Int)) : midD t K 0 = K.map fun p => t - p.2 := by simp [midD]

theorem midD_end (t : Int) (K : List (Int × Int)) : midD t K K.length = K.map fun p => t + 1 - p.2 := by simp [midD]

theorem midD_length (t : Int) (K : List (Int × Int)) (j : Nat) : (midD t K j).length = K.length := by
  unfold midD
  rw [List.length_append, List.length_map, List.length_map, List.length_take, List.length_drop]
  omega

theorem midD_form (t : Int) {K : List (Int × Int)} {j : Nat} (h : j < K.length) : midD t K j = (K.take j).map (fun p => t + 1 - p.2) ++ (t - (K.getD j (0, 0)).2) :: (K.drop (j + 1)).map (fun p => t - p.2) := by
  have e : K.getD j (0, 0) = K[j] := by simp [List.getD, h]
  unfold midD
  rw [List.drop_eq_getElem_cons h, e]
  rfl

theorem midD_get (t : Int) {K : List (Int × Int)} {j : Nat} (h : j < K.length) : (midD t K j).getD j 0 = t - (K.getD j (0, 0)).2 := by
  rw [midD_form t h]
  have hl : ((K.take j).map (fun p => t + 1 - p.2)).length = j := by rw [List.length_map, List.length_take]; omega
  simp only [List.getD, List.getElem?_append_right (show ((K.take j).map (fun p => t + 1 - p.2)).length ≤ j by omega), hl, Nat.sub_self, List.getElem?_cons_zero, Option.getD_some]

theorem midD_set (t : Int) {K : List (Int × Int)} {j : Nat} (h : j < K.length) : (midD t K j).set j (t + 1 - (K.getD j (0, 0)).2) = midD t K (j + 1) := by
  rw [midD_form t h]
  have hl : ((K.take j).map (fun p => t + 1 - p.2)).length = j := by rw [List.length_map, List.length_take]; omega
  have e : K.getD j (0, 0) = K[j] := by simp [List.getD, h]
  rw [List.set_append_right _ _ (by omega), hl, Nat.sub_self, List.set_cons_zero]
  unfold midD
  rw [List.take_succ_eq_append_getElem h, List.map_append, e, List.append_assoc]
  rfl

theorem keys_get {K : List (Int × Int)} {j : Nat} (h : j < K.length) : (K.map (·.1)).getD j 0 = (K.getD j (0, 0)).1 := by
  simp [List.getD, h]

theorem split_get {K : List (Int × Int)} {j : Nat} (h : j < K.length) : K = K.take j ++ K.getD j (0, 0) :: K.drop (j + 1) := by
  have e : K.getD j (0, 0) = K[j] := by simp [List.getD, h]
  rw [e, ← List.drop_eq_getElem_cons h, List.take_append_drop]

/-- The one told at its turn stands at its place among those told. -/
theorem sil_at {most t : Int} {K : List (Int × Int)} {j : Nat} (h : j < K.length) (hc : most ≤ t - (K.getD j (0, 0)).2) : (T.silK most t K)[(T.silK most t (K.take j)).length]? = some (.int .i64 (K.getD j (0, 0)).1) := by
  have e : K.getD j (0, 0) = K[j] := by simp [List.getD, h]
  have e2 : T.silK most t K = T.silK most t (K.take (j + 1)) ++ T.silK most t (K.drop (j + 1)) := by
    unfold T.silK
    rw [← List.map_append, ← List.filter_append, List.take_append_drop]
  rw [e] at hc ⊢
  rw [e2, T.silK_succ h, if_pos hc, List.append_assoc, List.getElem?_append_right (Nat.le_refl _), Nat.sub_self]
  rfl

theorem sil_next {most t : Int} {K : List (Int × Int)} {j : Nat} (h : j < K.length) : (T.silK most t (K.take (j + 1))).length = (T.silK most t (K.take j)).length + if most ≤ t - (K.getD j (0, 0)).2 then 1 else 0 := by
  have e : K.getD j (0, 0) = K[j] := by simp [List.getD, h]
  rw [T.silK_succ h, e]
  split <;> simp

theorem sil_le (most t : Int) (K : List (Int × Int)) (j : Nat) : (T.silK most t (K.take j)).length ≤ j := by
  have := T.silK_length most t (K.take j)
  rw [List.length_take] at this
  omega

theorem lt_cmp {A : List (Int × Int)} {x : Int} (h : ∀ p ∈ A, p.1 < x) : ∀ p ∈ A, cmpZ p.1 x < 0 := fun p hp => by
  unfold cmpZ
  rw [if_pos (h p hp)]
  omega

theorem gt_cmp {A : List (Int × Int)} {x : Int} (h : ∀ p ∈ A, x < p.1) : ∀ p ∈ A, 0 < cmpZ p.1 x := fun p hp => by
  have := h p hp
  unfold cmpZ
  rw [if_neg (by omega), if_pos (by omega)]
  omega

theorem cmpZ_refl (x : Int) : cmpZ x x = 0 := by
  unfold cmpZ
  rw [if_neg (by omega), if_neg (by omega)]

end Go.Proofs.Ytikbldnekehodaa
