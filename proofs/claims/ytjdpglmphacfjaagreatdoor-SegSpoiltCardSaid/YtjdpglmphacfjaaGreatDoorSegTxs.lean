/-
  Texts of bytes in memory: a row of slices; appending to it; the walk of unframe.
-/
import Derived.Test.YtjdpglmphacfjaaGreatDoorSegCut
namespace Go.Proofs.YtjdpglmphacfjaaGreatDoor
open Go.RowKit

/-- A row of slices that read as these texts; its block, and theirs, are P's; none of theirs is its own. -/
def Txs (w : World) (P : Nat → Prop) (v : Value) (T : List (List UInt8)) : Prop :=
  (∀ k, v.ownBlock = some k → P k) ∧ ∃ xs : List Value, w.ownsRow 0 31 1 v T.length xs ∧ xs.length = T.length ∧
    ∀ i (h : i < T.length), ∃ ao c, xs[i]? = some (.slice ao T[i].length c) ∧ Sl w ao c T[i] ∧ ∀ A, ao = some A → T[i] ≠ [] → P A.block ∧ v.ownBlock ≠ some A.block

theorem Txs.nil (w : World) (P : Nat → Prop) : Txs w P (.slice none 0 0) [] := ⟨(fun k hk => by cases hk), [], World.ownsRow_nil _ _ _ _, rfl, (fun i h => by simp at h)⟩

theorem Txs.turn {w w' : World} {P : Nat → Prop} {v : Value} {T : List (List UInt8)} {l : List Nat} (h : Txs w P v T) (t : Turn l w w') (hl : ∀ k, P k → k ∉ l) : Txs w' P v T := by
  obtain ⟨h1, xs, hr, hx, hc⟩ := h
  refine ⟨h1, xs, ownsRow_turn hr t (fun k hk => hl k (h1 k hk)), hx, fun i hi => ?_⟩
  obtain ⟨ao, c, e, hs, hb⟩ := hc i hi
  exact ⟨ao, c, e, hs.turn t (fun A hA hne => hl _ (hb A hA hne).1), hb⟩

theorem Txs.imp {w : World} {P Q : Nat → Prop} {v : Value} {T : List (List UInt8)} (h : Txs w P v T) (hpq : ∀ k, k < w.heap.size → P k → Q k) : Txs w Q v T := by
  obtain ⟨h1, xs, hr, hx, hc⟩ := h
  refine ⟨fun k hk => hpq k (hr.lt k hk).2 (h1 k hk), xs, hr, hx, fun i hi => ?_⟩
  obtain ⟨ao, c, e, hs, hb⟩ := hc i hi
  refine ⟨ao, c, e, hs, fun A hA hne => ?_⟩
  have hs2 := hs
  rw [hA] at hs2
  exact ⟨hpq _ (hs2.lt hne) (hb A hA hne).1, (hb A hA hne).2⟩

theorem Txs.form {w : World} {P : Nat → Prop} {v : Value} {T : List (List UInt8)} (h : Txs w P v T) : ∃ ao cap, v = .slice ao T.length cap ∧ T.length ≤ cap ∧ cap ≤ maxLen ∧ (ao = none ∧ T = [] ∧ cap = 0 ∨ ∃ g, ao = some ⟨g, 0, none⟩) := by
  obtain ⟨h1, xs, hr, hx, hc⟩ := h
  rcases hr.2 with ⟨rfl, h0⟩ | ⟨g, cap, cur, rfl, _, _, h2, h3, _⟩
  · exact ⟨none, 0, by rw [h0], by omega, by unfold maxLen; omega, .inl ⟨rfl, List.length_eq_zero_iff.1 h0, rfl⟩⟩
  · exact ⟨_, cap, rfl, h2, h3, .inr ⟨g, rfl⟩⟩

/-- What stands at a place. -/
theorem Txs.at {w : World} {P : Nat → Prop} {g cap : Nat} {T : List (List UInt8)} (h : Txs w P (.slice (some ⟨g, 0, none⟩) T.length cap) T) {i : Nat} (hi : i < T.length) :
    ∃ ao c, w.cell? ⟨g, i, none⟩ = some (.slice ao T[i].length c) ∧ Sl w ao c T[i] := by
  obtain ⟨h1, xs, hr, hx, hc⟩ := h
  obtain ⟨ao, c, e, hs, hb⟩ := hc i hi
  have h2 := hr.cells (g := g) rfl i _ e
  rw [Addr.add_lit, Nat.zero_add] at h2
  exact ⟨ao, c, h2, hs⟩

theorem Tryz.slrow : (Tryz.prog.info? 31).map (fun i => (i.zero, i.size, i.bytes)) = some (some (.slice none 0 0), 1, 24) := by kernel_rfl

/-- 'append(x, y...)' on slices of bytes. -/
theorem append_tx {w : World} {ops : Array Oper} {rest : List Oper} {o : Oper} {a : Act} {Q : Exit → Act → World → Prop} (hgd : o.guard = none) (s x : Operand)
    (ho : o.op = .call { callee := .builtin .append, args := #[s, x], argTypes := #[34, 34] })
    (v : Value) (n : Nat) (xs : List Value) (hs : a.eval s = v) (hown : w.ownsRow 0 31 1 v n xs)
    (ad : Addr) (m c : Nat) (ys : List Value) (hx : a.eval x = .slice (some ad) m c) (hm : ys.length = m) (hsl : ∀ j u, ys[j]? = some u → w.cell? (ad.add j) = some u) (hone : ∀ u ∈ ys, u.oneCell' = true) (hb : n + m ≤ 2000000)
    (h : ∀ v' w', w'.ownsRow 0 31 1 v' (n + m) (xs ++ ys) → w.grownBy w' v.ownBlock → (v'.ownBlock = v.ownBlock ∨ v'.ownBlock = some w.heap.size) → wpList Tryz.prog ops Q rest (a.put o.dst v') w') : wpList Tryz.prog ops Q (o :: rest) a w := by
  obtain ⟨i0, hi, hz0, hz1, hz2⟩ := info_parts Tryz.slrow
  refine wpList_append_own_at w hgd s x 34 ho 0 31 i0 _ 1 24 Tryz.underlying34 hi hz0 hz1 hz2 rfl (by decide) v n xs hs hown ad m c ys hx (by omega) hsl hone (by unfold maxLen; omega) (by omega) (Nat.zero_le _) ?_
  intro v' w' hown' hg _ hloc
  exact h v' w' hown' hg hloc

theorem append_tx_none {w : World} {ops : Array Oper} {rest : List Oper} {o : Oper} {a : Act} {Q : Exit → Act → World → Prop} (hgd : o.guard = none) (s x : Operand)
    (ho : o.op = .call { callee := .builtin .append, args := #[s, x], argTypes := #[34, 34] })
    (v : Value) (n : Nat) (xs : List Value) (hs : a.eval s = v) (hown : w.ownsRow 0 31 1 v n xs) (hx : a.eval x = .slice none 0 0)
    (h : wpList Tryz.prog ops Q rest (a.put o.dst v) w) : wpList Tryz.prog ops Q (o :: rest) a w := by
  obtain ⟨i0, hi, hz0, hz1, hz2⟩ := info_parts Tryz.slrow
  exact wpList_append_own_none hgd s x 34 ho 0 31 i0 1 Tryz.underlying34 hi v n xs hs hown hx h

/-- The same within a region that draws its order. -/
theorem step_append_tx {ops : Array Oper} {o : Oper} {a : Act} {w : World} {K : Act → World → Prop} {Q : Exit → Act → World → Prop} {E : Prop} (hgd : o.guard = none) (s x : Operand)
    (ho : o.op = .call { callee := .builtin .append, args := #[s, x], argTypes := #[34, 34] })
    (v : Value) (n : Nat) (xs : List Value) (hs : a.eval s = v) (hown : w.ownsRow 0 31 1 v n xs)
    (ad : Addr) (m c : Nat) (ys : List Value) (hx : a.eval x = .slice (some ad) m c) (hm : ys.length = m) (hsl : ∀ j u, ys[j]? = some u → w.cell? (ad.add j) = some u) (hone : ∀ u ∈ ys, u.oneCell' = true) (hb : n + m ≤ 2000000)
    (h : ∀ v' w', w'.ownsRow 0 31 1 v' (n + m) (xs ++ ys) → w.grownBy w' v.ownBlock → (v'.ownBlock = v.ownBlock ∨ v'.ownBlock = some w.heap.size) → K (a.put o.dst v') w') :
    if Region.wanted o (yielded ops a.tmps) = true then Oper.wp Tryz.prog o a w K Q else E := by
  have hw : Region.wanted o (yielded ops a.tmps) = true := by simp [Region.wanted, hgd]
  rw [if_pos hw]
  obtain ⟨i0, hi, hz0, hz1, hz2⟩ := info_parts Tryz.slrow
  obtain ⟨v', w', hr, h2, h3, h4, h5⟩ := run_append_own_at (P := Tryz.prog) w 0 34 o.type 31 i0 _ 1 24 Tryz.underlying34 hi hz0 hz1 hz2 rfl (by decide) v n xs hown ad m c ys (by omega) hsl hone (by unfold maxLen; omega) (by omega) (Nat.zero_le _)
  unfold Oper.wp execOp
  simp only [ho, resolve, invoke, builtin, Sem.run_bind, Sem.run_pure, Result.andThen_ok, List.map_toArray, List.map_cons, List.map_nil, hs, hx, hr]
  exact h v' w' h2 h3 h5

/-- What stands behind an append: w1 when it began, w2 when it has ended; the new ones' texts lay there. -/
theorem Txs.appended {w1 : World} {P Q : Nat → Prop} {v : Value} {T U : List (List UInt8)} (h : Txs w1 P v T) (ys : List Value) (hys : ys.length = U.length)
    (hu : ∀ i (hi : i < U.length), ∃ ao c, ys[i]? = some (.slice ao U[i].length c) ∧ Sl w1 ao c U[i] ∧ ∀ A, ao = some A → U[i] ≠ [] → Q A.block ∧ v.ownBlock ≠ some A.block)
    (hpq : ∀ k, P k → Q k) (hnew : ∀ k, w1.heap.size ≤ k → Q k) :
    ∃ xs, w1.ownsRow 0 31 1 v T.length xs ∧ (∀ v' w2, w2.ownsRow 0 31 1 v' (T.length + U.length) (xs ++ ys) → w1.grownBy w2 v.ownBlock → (v'.ownBlock = v.ownBlock ∨ v'.ownBlock = some w1.heap.size) → Txs w2 Q v' (T ++ U)) := by
  obtain ⟨h1, xs, hr, hx, hc⟩ := h
  refine ⟨xs, hr, fun v' w2 hr2 hg hloc => ?_⟩
  have t : Turn v.ownBlock.toList w1 w2 := Turn.grown hg (fun k hk => .inl (by simp [hk]))
  have hall : ∀ i (hi : i < (T ++ U).length), ∃ ao c, (xs ++ ys)[i]? = some (.slice ao (T ++ U)[i].length c) ∧ Sl w1 ao c (T ++ U)[i] ∧ ∀ A, ao = some A → (T ++ U)[i] ≠ [] → Q A.block ∧ v.ownBlock ≠ some A.block := by
    intro i hi
    by_cases hlt : i < T.length
    · obtain ⟨ao, c, e, hs, hb⟩ := hc i hlt
      rw [List.getElem_append_left hlt, List.getElem?_append_left (by omega)]
      exact ⟨ao, c, e, hs, fun A hA hne => ⟨hpq _ (hb A hA hne).1, (hb A hA hne).2⟩⟩
    · rw [List.getElem_append_right (by omega), List.getElem?_append_right (by omega), hx]
      exact hu (i - T.length) (by rw [List.length_append] at hi; omega)
  refine ⟨?_, xs ++ ys, by rw [List.length_append]; exact hr2, by simp [hx, hys], fun i hi => ?_⟩
  · intro k hk
    rcases hloc with e | e <;> rw [hk] at e
    · exact hpq _ (h1 k e.symm)
    · have := Option.some.inj e
      exact hnew _ (by omega)
  · obtain ⟨ao, c, e, hs, hb⟩ := hall i hi
    refine ⟨ao, c, e, hs.turn t (fun A hA hne hm => (hb A hA hne).2 (by simpa using hm)), fun A hA hne => ⟨(hb A hA hne).1, fun e2 => ?_⟩⟩
    have hs2 := hs
    rw [hA] at hs2
    have hlt := hs2.lt hne
    rcases hloc with e3 | e3
    · exact (hb A hA hne).2 (by rw [← e3]; exact e2)
    · rw [e2] at e3
      have := Option.some.inj e3
      omega

theorem one_new (w : World) (x : Value) (T : TypeId) : ∀ j u, [x][j]? = some u → (w.alloc (.cells #[x] T)).cell? ((⟨w.heap.size, 0, none⟩ : Addr).add j) = some u := by
  intro j u hu
  rw [Addr.add_lit, Nat.zero_add, cell_of_row _ _ _ _ _ _ (heap_alloc_new w (.cells #[x] T)), ← hu]
  simp

/-! ### unframe -/
theorem cut_ok {ao : Option Addr} {c : Nat} {b t : List UInt8} (w : World) (hs : Sl w ao c b) (h : cutR b = .ok t) :
    Calls Tryz.prog 22 #[.slice ao b.length c] w fun e w' => ∃ ao' c', e = .returned (.tuple #[.slice ao' t.length c', .int .i64 ((6 + t.length : Nat) : Int), .int .i64 0]) ∧ Sl w' ao' c' t ∧ (∀ A, ao' = some A → w.heap.size ≤ A.block) ∧ Below w.heap.size w w' := by
  obtain ⟨h1, h2, h3, h4, h5⟩ := cutR_ok h
  have hsum : cutSum b = sumOn 0 (b.take 2 ++ (b.drop 6).take (cutLen b)) := by
    unfold cutR at h
    rw [if_neg (by omega), if_neg (by omega), if_neg (by omega)] at h
    split at h
    · assumption
    · cases h
  refine (cut_whole ao c b w hs (by omega) (by omega)).mono ?_
  rintro e w' ⟨hb, hg, -⟩
  obtain ⟨ao', c', rfl, hs', ha'⟩ := hg hsum
  rw [← h4] at hs'
  rw [← h4, ← h5]
  exact ⟨ao', c', rfl, hs', ha', hb⟩

theorem cut_err {ao : Option Addr} {c : Nat} {b : List UInt8} (w : World) (hs : Sl w ao c b) (h : ∀ t, cutR b ≠ .ok t) :
    Calls Tryz.prog 22 #[.slice ao b.length c] w fun e w' => e = .returned (.tuple #[.slice none 0 0, .int .i64 0, .int .i64 (errOf (cutR b))]) ∧ Below w.heap.size w w' := by
  unfold cutR at h ⊢
  by_cases h1 : b.length < 2
  · rw [if_pos h1]
    exact cut_few ao c b w h1
  · rw [if_neg h1] at h ⊢
    by_cases h2 : cutLen b < 1 ∨ 4000 < cutLen b
    · rw [if_pos h2]
      exact cut_wrong ao c b w hs (by omega) h2
    · rw [if_neg h2] at h ⊢
      by_cases h3 : b.length < 6 + cutLen b
      · rw [if_pos h3]
        exact cut_short ao c b w hs (by omega) (by omega) h3
      · rw [if_neg h3] at h ⊢
        by_cases h4 : cutSum b = sumOn 0 (b.take 2 ++ (b.drop 6).take (cutLen b))
        · rw [if_pos h4] at h
          exact absurd rfl (h _)
        · rw [if_neg h4]
          refine (cut_whole ao c b w hs (by omega) (by omega)).mono ?_
          rintro e w' ⟨hb, -, hg⟩
          exact ⟨hg h4, hb⟩

end Go.Proofs.YtjdpglmphacfjaaGreatDoor
