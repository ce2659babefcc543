/-
  The bag and the counts of the law BagEqual.
-/
import Derived.Test.YtikbldnekehodaaBagL
import Derived.Deep.RegionHeld3
namespace Go.Proofs.Ytikbldnekehodaa
open Go.RowKit

def key5 (x : Int) : Int := x % 5

theorem by5 : ByKey key5 (fun a b => cmpZ (a % 5) (b % 5)) := fun _ _ _ _ => rfl

/-- How many are above nought. -/
def nz : List Int → Nat
  | [] => 0
  | c :: C => (if 0 < c then 1 else 0) + nz C

theorem nz_set : ∀ (C : List Int) (k : Nat), k < C.length → 0 ≤ C.getD k 0 → nz (C.set k (C.getD k 0 + 1)) = nz C + (if C.getD k 0 = 0 then 1 else 0)
  | c :: C, 0, _, h => by
    have h' : 0 ≤ c := h
    show (if 0 < c + 1 then 1 else 0) + nz C = (if 0 < c then 1 else 0) + nz C + (if c = 0 then 1 else 0)
    by_cases h0 : c = 0
    · subst h0; simp; omega
    · rw [if_pos (by omega), if_pos (by omega), if_neg h0]; rfl
  | c :: C, k + 1, hk, h => by
    have ih := nz_set C k (by simpa using hk) (by simpa [List.getD] using h)
    have e : (c :: C).getD (k + 1) 0 = C.getD k 0 := by simp [List.getD]
    rw [e, List.set_cons_succ]
    show (if 0 < c then 1 else 0) + nz (C.set k (C.getD k 0 + 1)) = (if 0 < c then 1 else 0) + nz C + _
    rw [ih]
    omega

theorem nz_take : ∀ (C : List Int) (k : Nat), k < C.length → nz (C.take (k + 1)) = nz (C.take k) + (if 0 < C.getD k 0 then 1 else 0)
  | c :: C, 0, _ => by
    show (if 0 < c then 1 else 0) + 0 = 0 + (if 0 < c then 1 else 0)
    omega
  | c :: C, k + 1, hk => by
    have ih := nz_take C k (by simpa using hk)
    have e : (c :: C).getD (k + 1) 0 = C.getD k 0 := by simp [List.getD]
    rw [e, List.take_succ_cons, List.take_succ_cons]
    show (if 0 < c then 1 else 0) + nz (C.take (k + 1)) = (if 0 < c then 1 else 0) + nz (C.take k) + _
    rw [ih]
    omega

def ints (C : List Int) : List Value := C.map (Value.int .i64)

/-- What holds between the bag and the counts. -/
structure Eq5 (w wr : World) (b cb k : Nat) (K : List (Int × Int)) (C : List Int) (v : Value) : Prop where
  lb : LB key5 w wr b (.func (.func 38) #[] #[]) v K
  arr : wr.heap[cb]? = some (.cells (ints C).toArray 54)
  hcb : w.heap.size ≤ cb
  hne : b ≠ cb
  nv : v.ownBlock ≠ some cb
  five : C.length = 5
  cnt : ∀ j, j < 5 → C.getD j 0 = getK key5 K (j : Int)
  tot : totK K = (k : Int)
  len : K.length = nz C
  low : ∀ j, j < 5 → 0 ≤ C.getD j 0 ∧ C.getD j 0 ≤ (k : Int)
  bel : Below w.heap.size w wr

theorem nz_le : ∀ (C : List Int), nz C ≤ C.length
  | [] => Nat.le_refl _
  | c :: C => by
    have := nz_le C
    show (if 0 < c then 1 else 0) + nz C ≤ _
    simp only [List.length_cons]
    split <;> omega

theorem ints_at {C : List Int} {j : Nat} (h : j < C.length) : (ints C)[j]? = some (.int .i64 (C.getD j 0)) := by
  simp [ints, List.getD, h]

theorem Eq5.quiet {w wr w' : World} {b cb k : Nat} {K : List (Int × Int)} {C : List Int} {v : Value} (h : Eq5 w wr b cb k K C v) (t : Turn [] wr w') : Eq5 w w' b cb k K C v :=
  ⟨h.lb.quiet t, t.heap h.arr (by simp), h.hcb, h.hne, h.nv, h.five, h.cnt, h.tot, h.len, h.low, h.bel.trans (t.belowAll.mono h.bel.size)⟩

theorem Eq5.cell {w wr : World} {b cb k : Nat} {K : List (Int × Int)} {C : List Int} {v : Value} (h : Eq5 w wr b cb k K C v) {j : Nat} (hj : j < 5) : wr.cell? ⟨cb, j, none⟩ = some (.int .i64 (C.getD j 0)) := by
  rw [cell_of_row _ _ _ _ _ _ h.arr]
  simp only [List.getElem?_toArray]
  exact ints_at (by rw [h.five]; exact hj)

/-- One more: counted, then put in. -/
theorem Eq5.add {w wr : World} {b cb k : Nat} {K : List (Int × Int)} {C : List Int} {v : Value} (h : Eq5 w wr b cb k K C v) (hk : k ≤ 1000) {x : Int} (hx : inI64 x) {j : Nat} (hj : x % 5 = (j : Int)) {w2 : World} (hw2 : w2 = wr.setCell ⟨cb, j, none⟩ (.int .i64 (C.getD j 0 + 1))) :
    Calls Try.prog 15 #[.pointer (some ⟨b, 0, none⟩), .int .i64 x, .int .i64 1] w2.drew fun e w' =>
      ∃ K' v', e = .returned (.int .i64 (C.getD j 0 + 1)) ∧ Eq5 w w' b cb (k + 1) K' (C.set j (C.getD j 0 + 1)) v' ∧ Turn (b :: v.ownBlock.toList) w2.drew w' := by
  have hj5 : j < 5 := by omega
  have ts : Turn [cb] wr w2 := by rw [hw2]; exact Turn.setCell _ (by simp) _
  have td : Turn [cb] wr w2.drew := ts.trans (Turn.drew [] w2) (by simp)
  have hlow := h.low j hj5
  have hg : getK key5 K (key5 x) = C.getD j 0 := by rw [show key5 x = (j : Int) from hj, ← h.cnt j hj5]
  have hlb := h.lb.turn td (by simpa using h.hne) (fun k hk hm => h.nv (by rw [hk, List.mem_singleton.1 hm]))
  have hfew : K.length ≤ 5 := by rw [h.len, ← h.five]; exact nz_le C
  have hsz : w.heap.size ≤ w2.drew.heap.size := Nat.le_trans h.bel.size td.size
  have hm : max 0 (getK key5 K (key5 x) + 1) = C.getD j 0 + 1 := by rw [hg]; omega
  refine (lb_add hlb hsz be1_ok by5 trivial hx (n := 1) (by omega) (by omega) (by rw [hm]; omega)).mono ?_
  rintro e w' ⟨v', rfl, h2, ho, t⟩
  rw [hm]
  have hgd : ∀ z, getK key5 (addR key5 K x 1) z = if z = (j : Int) then C.getD j 0 + 1 else getK key5 K z := fun z => by
    rw [(addR_get K x 1 hlb.srt hlb.pos (by omega)).1 z, show key5 x = (j : Int) from hj]
    by_cases hz : z = (j : Int)
    · rw [if_pos hz, if_pos hz, hz, ← h.cnt j hj5]
      omega
    · rw [if_neg hz, if_neg hz]
  obtain ⟨-, m2, m3⟩ := addR_more K x 1 hlb.srt hlb.pos (by omega) (by rw [hm]; omega)
  rw [hm, hg] at m2 m3
  have harr2 : w2.drew.heap[cb]? = some (.cells (ints (C.set j (C.getD j 0 + 1))).toArray 54) := by
    show w2.heap[cb]? = _
    rw [hw2, block_set h.arr]
    simp [ints, List.map_set]
  have hgs : ∀ i, i < 5 → (C.set j (C.getD j 0 + 1)).getD i 0 = if i = j then C.getD j 0 + 1 else C.getD i 0 := fun i hi => by
    by_cases hij : i = j
    · subst hij
      rw [if_pos rfl]
      simp [List.getD, h.five, hi]
    · rw [if_neg hij]
      simp [List.getD, Ne.symm hij]
  refine ⟨_, v', rfl, ⟨h2, t.heap harr2 ?_, h.hcb, h.hne, ?_, by rw [List.length_set]; exact h.five, fun i hi => ?_, by rw [m2, h.tot]; omega, ?_, fun i hi => ?_, h.bel.trans ((td.below (fun k hk => by rw [List.mem_singleton.1 hk]; exact h.hcb) h.bel.size).trans ((t.below hlb.low hsz)))⟩, t⟩
  · intro hm
    rcases List.mem_cons.1 hm with e | hm
    · exact h.hne e.symm
    · exact h.nv (Option.mem_toList.1 hm)
  · intro e
    rcases ho with e2 | e2
    · exact h.nv (by rw [← e2]; exact e)
    · have h9 := e2 cb e
      have h8 := lt_of_heap h.arr
      have h7 := td.size
      omega
  · rw [hgs i hi, hgd]
    by_cases hij : i = j
    · rw [if_pos hij, if_pos (by rw [hij])]
    · rw [if_neg hij, if_neg (by omega), h.cnt i hi]
  · rw [nz_set C j (by rw [h.five]; exact hj5) hlow.1, ← h.len]
    by_cases h0 : C.getD j 0 = 0
    · rw [if_pos h0] at m3 ⊢
      simp at m3
      omega
    · rw [if_neg h0] at m3 ⊢
      rw [if_neg (by omega)] at m3
      omega
  · rw [hgs i hi]
    have := h.low i hi
    split <;> omega

end Go.Proofs.Ytikbldnekehodaa
