/-
  The law TimerAges' four, whom the law holds in an array, and the timer's ones.
-/
import Derived.Test.YtikbldnekehodaaUTimP
import Derived.Laws.IdiomStrings
namespace Go.Proofs.Ytikbldnekehodaa
open Go.RowKit

/-- The text of the j-th. -/
def tx (j : Nat) : ByteArray := ⟨#[(97 + j).toUInt8]⟩

theorem cmp_tx_all : ((List.range 4).all fun i => (List.range 4).all fun j => cmpS (tx i) (tx j) == cmpZ (i : Int) (j : Int)) = true := by kernel_rfl

theorem cmp_tx {i j : Nat} (hi : i < 4) (hj : j < 4) : cmpS (tx i) (tx j) = cmpZ (i : Int) (j : Int) := by
  have h1 := List.all_eq_true.1 cmp_tx_all i (List.mem_range.2 hi)
  have h2 := List.all_eq_true.1 h1 j (List.mem_range.2 hj)
  exact eq_of_beq h2

/-- The timer's ones, where the law's array is C from the s-th on. -/
def agesF : Nat → List Int → List (ByteArray × Int)
  | _, [] => []
  | s, c :: C => if 0 ≤ c then (tx s, c) :: agesF (s + 1) C else agesF (s + 1) C

theorem agesF_cons (s : Nat) (c : Int) (C : List Int) : agesF s (c :: C) = if 0 ≤ c then (tx s, c) :: agesF (s + 1) C else agesF (s + 1) C := rfl

theorem agesF_app : ∀ (A B : List Int) (s : Nat), agesF s (A ++ B) = agesF s A ++ agesF (s + A.length) B
  | [], B, s => by simp [agesF]
  | a :: A, B, s => by
    have ih := agesF_app A B (s + 1)
    rw [List.cons_append]
    have e : s + (a :: A).length = s + 1 + A.length := by simp; omega
    rw [e, agesF_cons, agesF_cons, ih]
    split <;> simp

theorem agesF_mem : ∀ (C : List Int) (s : Nat) (p : ByteArray × Int), p ∈ agesF s C → ∃ i, s ≤ i ∧ i < s + C.length ∧ p.1 = tx i
  | [], s, p, h => by simp [agesF] at h
  | c :: C, s, p, h => by
    have ih := agesF_mem C (s + 1) p
    unfold agesF at h
    by_cases hc : 0 ≤ c
    · rw [if_pos hc] at h
      rcases List.mem_cons.1 h with rfl | h
      · exact ⟨s, Nat.le_refl _, by simp, rfl⟩
      · obtain ⟨i, h1, h2, h3⟩ := ih h
        exact ⟨i, by omega, by simp; omega, h3⟩
    · rw [if_neg hc] at h
      obtain ⟨i, h1, h2, h3⟩ := ih h
      exact ⟨i, by omega, by simp; omega, h3⟩

theorem agesF_length : ∀ (C : List Int) (s : Nat), (agesF s C).length ≤ C.length
  | [], s => by simp [agesF]
  | c :: C, s => by
    have ih := agesF_length C (s + 1)
    unfold agesF
    split <;> simp <;> omega

/-- The ones below the j-th, and above it. -/
theorem ages_lo {C : List Int} (h4 : C.length = 4) {j : Nat} (hj : j < 4) : ∀ p ∈ agesF 0 (C.take j), cmpS p.1 (tx j) < 0 := by
  intro p hp
  obtain ⟨i, -, h2, h3⟩ := agesF_mem _ _ _ hp
  rw [List.length_take] at h2
  rw [h3, cmp_tx (by omega) hj]
  unfold cmpZ
  rw [if_pos (by omega)]
  omega

theorem ages_hi {C : List Int} (h4 : C.length = 4) {j : Nat} (hj : j < 4) : ∀ p ∈ agesF (j + 1) (C.drop (j + 1)), 0 < cmpS p.1 (tx j) := by
  intro p hp
  obtain ⟨i, h1, h2, h3⟩ := agesF_mem _ _ _ hp
  rw [List.length_drop] at h2
  rw [h3, cmp_tx (by omega) hj]
  unfold cmpZ
  rw [if_neg (by omega), if_pos (by omega)]
  omega

theorem ages_split {C : List Int} {j : Nat} (hj : j < C.length) : agesF 0 C = agesF 0 (C.take j) ++ (if 0 ≤ C.getD j 0 then (tx j, C.getD j 0) :: agesF (j + 1) (C.drop (j + 1)) else agesF (j + 1) (C.drop (j + 1))) := by
  have e : C = C.take j ++ C.getD j 0 :: C.drop (j + 1) := by
    have h1 : C.getD j 0 = C[j] := by simp [List.getD, hj]
    rw [h1, ← List.drop_eq_getElem_cons hj, List.take_append_drop]
  have hl : (C.take j).length = j := by rw [List.length_take]; omega
  conv => lhs; rw [e, agesF_app, hl, Nat.zero_add]; arg 2; unfold agesF

theorem ages_set {C : List Int} {j : Nat} (hj : j < C.length) {t : Int} (ht : 0 ≤ t) : agesF 0 (C.set j t) = agesF 0 (C.take j) ++ (tx j, t) :: agesF (j + 1) (C.drop (j + 1)) := by
  have h1 : (C.set j t).getD j 0 = t := by simp [List.getD, hj]
  rw [ages_split (C := C.set j t) (j := j) (by rw [List.length_set]; exact hj), h1, if_pos ht]
  congr 1
  · rw [List.take_set_of_le (Nat.le_refl _)]
  · rw [List.drop_set_of_lt (by omega)]

/-- How many of C were silent for so long. -/
def silN (most t : Int) : List Int → Nat
  | [] => 0
  | c :: C => (if 0 ≤ c ∧ most ≤ t - c then 1 else 0) + silN most t C

theorem silN_eq (most t : Int) : ∀ (C : List Int) (s : Nat), (S.T.silK most t (agesF s C)).length = silN most t C
  | [], s => rfl
  | c :: C, s => by
    have ih := silN_eq most t C (s + 1)
    unfold S.T.silK at ih ⊢
    rw [List.length_map] at ih ⊢
    unfold agesF silN
    by_cases h0 : 0 ≤ c
    · rw [if_pos h0]
      by_cases h1 : most ≤ t - c
      · rw [List.filter_cons_of_pos (by simpa using h1), if_pos ⟨h0, h1⟩, List.length_cons, ih]
        omega
      · rw [List.filter_cons_of_neg (by simpa using h1), if_neg (fun h => h1 h.2), ih]
        omega
    · rw [if_neg h0, if_neg (fun h => h0 h.1), ih]
      omega

theorem silN_take (most t : Int) : ∀ (C : List Int) (k : Nat), k < C.length → silN most t (C.take (k + 1)) = silN most t (C.take k) + (if 0 ≤ C.getD k 0 ∧ most ≤ t - C.getD k 0 then 1 else 0)
  | c :: C, 0, _ => by
    show (if 0 ≤ c ∧ most ≤ t - c then 1 else 0) + 0 = 0 + (if 0 ≤ c ∧ most ≤ t - c then 1 else 0)
    omega
  | c :: C, k + 1, hk => by
    have ih := silN_take most t C k (by simpa using hk)
    have e : (c :: C).getD (k + 1) 0 = C.getD k 0 := by simp [List.getD]
    rw [e, List.take_succ_cons, List.take_succ_cons]
    show (if 0 ≤ c ∧ most ≤ t - c then 1 else 0) + silN most t (C.take (k + 1)) = (if 0 ≤ c ∧ most ≤ t - c then 1 else 0) + silN most t (C.take k) + _
    rw [ih]
    omega

theorem silN_le (most t : Int) : ∀ (C : List Int), silN most t C ≤ C.length
  | [] => Nat.le_refl _
  | c :: C => by
    have := silN_le most t C
    show (if 0 ≤ c ∧ most ≤ t - c then 1 else 0) + silN most t C ≤ _
    simp only [List.length_cons]
    split <;> omega

def ints4 (C : List Int) : List Value := C.map (Value.int .i64)

/-- What holds between the timer and the law's array: the timer's ones are C's, the array is D. -/
structure Ag (w wr : World) (b q : Nat) (t : Int) (C D : List Int) (v : Value) : Prop where
  lt : S.T.LT w wr b 5 t v (agesF 0 C)
  arr : wr.heap[q]? = some (.cells (ints4 D).toArray 55)
  hq : w.heap.size ≤ q
  hne : b ≠ q
  nv : v.ownBlock ≠ some q
  four : C.length = 4
  four2 : D.length = 4
  low : ∀ j, j < 4 → -1 ≤ C.getD j 0 ∧ C.getD j 0 ≤ 1000
  low2 : ∀ j, j < 4 → -1 ≤ D.getD j 0 ∧ D.getD j 0 ≤ 1000

theorem ints4_at {C : List Int} {j : Nat} (h : j < C.length) : (ints4 C)[j]? = some (.int .i64 (C.getD j 0)) := by
  simp [ints4, List.getD, h]

theorem Ag.quiet {w wr w' : World} {b q : Nat} {t : Int} {C D : List Int} {v : Value} (h : Ag w wr b q t C D v) (s : Turn [] wr w') : Ag w w' b q t C D v :=
  ⟨h.lt.quiet s, s.heap h.arr (by simp), h.hq, h.hne, h.nv, h.four, h.four2, h.low, h.low2⟩

theorem Ag.cell {w wr : World} {b q : Nat} {t : Int} {C D : List Int} {v : Value} (h : Ag w wr b q t C D v) {j : Nat} (hj : j < 4) : wr.cell? ⟨q, j, none⟩ = some (.int .i64 (D.getD j 0)) := by
  rw [cell_of_row _ _ _ _ _ _ h.arr]
  simp only [List.getElem?_toArray]
  exact ints4_at (by rw [h.four2]; exact hj)

theorem getD_set {C : List Int} {j : Nat} (hj : j < C.length) (t : Int) (i : Nat) : (C.set j t).getD i 0 = if i = j then t else C.getD i 0 := by
  by_cases hij : i = j
  · subst hij
    rw [if_pos rfl]
    simp [List.getD, hj]
  · rw [if_neg hij]
    simp [List.getD, Ne.symm hij]

/-- The array's cell is written. -/
theorem Ag.store {w wr : World} {b q : Nat} {t : Int} {C D : List Int} {v : Value} (h : Ag w wr b q t C D v) {j : Nat} (hj : j < 4) {x : Int} (hx : -1 ≤ x ∧ x ≤ 1000) : Ag w (wr.setCell ⟨q, j, none⟩ (.int .i64 x)) b q t C (D.set j x) v := by
  have ts : Turn [q] wr (wr.setCell ⟨q, j, none⟩ (.int .i64 x)) := Turn.setCell _ (by simp) _
  refine ⟨⟨h.lt.tim.turn ts (by simpa using h.hne) (fun k hk hm => h.nv (by rw [hk, List.mem_singleton.1 hm])), h.lt.b, h.lt.v, h.lt.bel.trans (ts.below (fun k hk => by rw [List.mem_singleton.1 hk]; exact h.hq) h.lt.bel.size)⟩, ?_, h.hq, h.hne, h.nv, h.four, by rw [List.length_set]; exact h.four2, h.low, fun i hi => ?_⟩
  · rw [block_set h.arr]
    simp [ints4, List.map_set]
  · rw [getD_set (by rw [h.four2]; exact hj)]
    have := h.low2 i hi
    split <;> omega

theorem cmpS_tx {j : Nat} (hj : j < 4) : cmpS (tx j) (tx j) = 0 := by
  rw [cmp_tx hj hj]
  unfold cmpZ
  rw [if_neg (by omega), if_neg (by omega)]

/-- The j-th speaks. -/
theorem Ag.heard {w wr : World} {b q : Nat} {t : Int} {C D : List Int} {v : Value} (h : Ag w wr b q t C D v) {j : Nat} (hj : j < 4) (ht : 0 ≤ t ∧ t ≤ 1000) :
    Calls Try.prog 29 #[.pointer (some ⟨b, 0, none⟩), .string (tx j)] wr fun e w' => ∃ v', e = .returned (.bool (decide (C.getD j 0 < 0))) ∧ Ag w w' b q t (C.set j t) D v' := by
  have hj4 : j < C.length := by rw [h.four]; exact hj
  have hset := ages_set hj4 ht.1
  have hsp := ages_split hj4
  have hl4 : (agesF 0 C).length ≤ 4 := by have := agesF_length C 0; rw [h.four] at this; exact this
  have hqb := lt_of_heap h.arr
  have hfin : ∀ {w' v'}, Turn (b :: v.ownBlock.toList) wr w' → (v'.ownBlock = v.ownBlock ∨ ∀ k, v'.ownBlock = some k → wr.heap.size ≤ k) → S.T.LT w w' b 5 t v' (agesF 0 (C.set j t)) → Ag w w' b q t (C.set j t) D v' := by
    intro w' v' s ho o
    refine ⟨o, s.heap h.arr ?_, h.hq, h.hne, ?_, by rw [List.length_set]; exact h.four, h.four2, fun i hi => ?_, h.low2⟩
    · intro hm
      rcases List.mem_cons.1 hm with e | hm
      · exact h.hne e.symm
      · exact h.nv (Option.mem_toList.1 hm)
    · intro e
      rcases ho with e2 | e2
      · exact h.nv (by rw [← e2]; exact e)
      · have := e2 q e; omega
    · rw [getD_set hj4]
      have := h.low i hi
      split <;> omega
  by_cases hc : 0 ≤ C.getD j 0
  · rw [if_pos hc] at hsp
    have hlt := h.lt
    rw [hsp] at hlt
    refine (S.T.p_heard_is (tx j) (cmpS_tx hj) hlt (ages_lo h.four hj) (ages_hi h.four hj)).mono ?_
    rintro e w' ⟨rfl, s, o⟩
    rw [← hset] at o
    exact ⟨v, by rw [show decide (C.getD j 0 < 0) = false by simpa using hc], hfin s (.inl rfl) o⟩
  · rw [if_neg hc] at hsp
    have hlt := h.lt
    rw [hsp] at hlt hl4
    refine (S.T.p_heard_new (tx j) hlt (by omega) (ages_lo h.four hj) (ages_hi h.four hj)).mono ?_
    rintro e w' ⟨v', rfl, ho, s, o⟩
    rw [← hset] at o
    exact ⟨v', by rw [show decide (C.getD j 0 < 0) = true from decide_eq_true (by omega)], hfin s ho o⟩

/-- How long the j-th was silent. -/
theorem Ag.age {w wr : World} {b q : Nat} {t : Int} {C D : List Int} {v : Value} (h : Ag w wr b q t C D v) {j : Nat} (hj : j < 4) :
    Calls Try.prog 31 #[.pointer (some ⟨b, 0, none⟩), .string (tx j)] wr fun e w' => e = .returned (.int .i64 (if 0 ≤ C.getD j 0 then t - C.getD j 0 else -1)) ∧ Turn [] wr w' := by
  have hj4 : j < C.length := by rw [h.four]; exact hj
  have hsp := ages_split hj4
  by_cases hc : 0 ≤ C.getD j 0
  · rw [if_pos hc] at hsp ⊢
    have hlt := h.lt
    rw [hsp] at hlt
    exact S.T.p_age_is (tx j) (cmpS_tx hj) hlt (ages_lo h.four hj) (ages_hi h.four hj)
  · rw [if_neg hc] at hsp ⊢
    have hlt := h.lt
    rw [hsp] at hlt
    exact S.T.p_age_none (tx j) hlt (ages_lo h.four hj) (ages_hi h.four hj)

/-- A tick. -/
theorem Ag.tick {w wr : World} {b q : Nat} {t : Int} {C D : List Int} {v : Value} (h : Ag w wr b q t C D v) (ht : t ≤ 999999) :
    Calls Try.prog 30 #[.pointer (some ⟨b, 0, none⟩)] wr fun e w' => ∃ ao c, e = .returned (.slice ao (silN 5 (t + 1) C) c) ∧ Ag w w' b q (t + 1) C D v := by
  refine (S.T.tick_calls h.lt.tim ht).mono ?_
  rintro e w' ⟨sv, rfl, hr, ho, h2, s⟩
  obtain ⟨ao, c, rfl, -⟩ := S.T.sil_slice hr
  refine ⟨ao, c, by rw [silN_eq], ⟨h.lt.step h2 (.inl rfl) (s.mono (by intro i hi; exact .inl (by rw [List.mem_singleton.1 hi]; simp))), s.heap h.arr (by simpa using Ne.symm h.hne), h.hq, h.hne, h.nv, h.four, h.four2, h.low, h.low2⟩⟩

/-- A byte of its own as a text. -/
theorem one_text (w : World) (A : Nat) {j : Nat} (hj : j < 4) (h : w.cell? ⟨A, 0, none⟩ = some (.int .u8 (97 + (j : Int)))) : (convert 56 9 (.slice (some ⟨A, 0, none⟩) 1 1)).run Try.prog w = .ok (.string (tx j)) w := by
  refine run_convert_bytes_back (P := Try.prog) w 56 9 5 ⟨A, 0, none⟩ 1 [(97 + j).toUInt8] Try.underlying56 Try.underlying5 Try.underlying9 (fun i hi => ?_)
  have hi0 : i = 0 := by simpa using hi
  subst hi0
  rw [Addr.add_lit, h]
  have : j = 0 ∨ j = 1 ∨ j = 2 ∨ j = 3 := by omega
  rcases this with rfl | rfl | rfl | rfl <;> rfl

end Go.Proofs.Ytikbldnekehodaa
