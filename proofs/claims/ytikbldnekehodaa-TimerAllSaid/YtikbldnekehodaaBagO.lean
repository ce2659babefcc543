/-
  The order of the laws BagAll and BagOrder as a key; how often a key is met; two bags side by side.
-/
import Derived.Test.YtikbldnekehodaaBagL
namespace Go.Proofs.Ytikbldnekehodaa
open Go.RowKit

/-- The last digit first, then the number. -/
def keyT (x : Int) : Int := x.tmod 10 * 1180591620717411303424 + x

def keyO (back : Bool) (x : Int) : Int := if back then -keyT x else keyT x

theorem cmpZ_neg (a b : Int) : cmpZ (-a) (-b) = -cmpZ a b := by
  unfold cmpZ
  by_cases h1 : a < b
  · rw [if_pos h1, if_neg (by omega), if_pos (by omega)]; rfl
  · rw [if_neg h1]
    by_cases h2 : b < a
    · rw [if_pos h2, if_pos (by omega)]
    · rw [if_neg h2, if_neg (by omega), if_neg (by omega)]; rfl

theorem cmpZ_keyT {x y : Int} (hx : inI64 x) (hy : inI64 y) : (if cmpZ (x.tmod 10) (y.tmod 10) = 0 then cmpZ x y else cmpZ (x.tmod 10) (y.tmod 10)) = cmpZ (keyT x) (keyT y) := by
  unfold inI64 at hx hy
  unfold keyT cmpZ
  generalize x.tmod 10 = a
  generalize y.tmod 10 = b
  rcases Int.lt_trichotomy a b with h | h | h
  · rw [if_pos h, if_neg (by omega), if_pos (by omega)]
  · subst h
    rw [if_pos (show (if a < a then (-1 : Int) else if a < a then 1 else 0) = 0 by simp)]
    by_cases h1 : x < y
    · rw [if_pos h1, if_pos (by omega)]
    · by_cases h2 : y < x
      · rw [if_neg h1, if_pos h2, if_neg (by omega), if_pos (by omega)]
      · rw [if_neg h1, if_neg h2, if_neg (by omega), if_neg (by omega)]
  · rw [if_neg (show ¬ a < b by omega), if_pos h, if_neg (by omega), if_neg (by omega), if_pos (by omega)]

theorem byO (back : Bool) : ByKey (keyO back) (ordT back) := fun x y hx hy => by
  have h := cmpZ_keyT hx hy
  unfold ordT keyO
  cases back
  · simpa using h
  · simp only [if_true]
    rw [cmpZ_neg, ← h]

theorem keyT_inj {x y : Int} (hx : inI64 x) (hy : inI64 y) (h : keyT x = keyT y) : x = y := by
  unfold inI64 at hx hy
  unfold keyT at h
  generalize x.tmod 10 = a at h
  generalize y.tmod 10 = b at h
  rcases Int.lt_trichotomy a b with h1 | h1 | h1 <;> omega

theorem keyO_inj {back : Bool} {x y : Int} (hx : inI64 x) (hy : inI64 y) (h : keyO back x = keyO back y) : x = y := by
  unfold keyO at h
  cases back
  · exact keyT_inj hx hy (by simpa using h)
  · exact keyT_inj hx hy (by simp at h; omega)

/-- How often z is met among the first k. -/
def cnt (f : Nat → Int) : Nat → Int → Int
  | 0, _ => 0
  | k + 1, z => cnt f k z + if f k = z then 1 else 0

theorem cnt_nonneg (f : Nat → Int) : ∀ (k : Nat) (z : Int), 0 ≤ cnt f k z ∧ cnt f k z ≤ k
  | 0, _ => ⟨Int.le_refl _, Int.le_refl _⟩
  | k + 1, z => by
    have := cnt_nonneg f k z
    show 0 ≤ cnt f k z + _ ∧ cnt f k z + _ ≤ _
    split <;> omega

theorem cnt_none {f : Nat → Int} : ∀ {k : Nat} {z : Int}, (∀ i, i < k → f i ≠ z) → cnt f k z = 0
  | 0, _, _ => rfl
  | k + 1, z, h => by
    show cnt f k z + (if f k = z then 1 else 0) = 0
    rw [cnt_none (fun i hi => h i (by omega)), if_neg (h k (by omega))]
    rfl

theorem cnt_congr {f g : Nat → Int} : ∀ {k : Nat} {z : Int}, (∀ i, i < k → f i = g i) → cnt f k z = cnt g k z
  | 0, _, _ => rfl
  | k + 1, z, h => by
    show cnt f k z + (if f k = z then 1 else 0) = cnt g k z + (if g k = z then 1 else 0)
    rw [cnt_congr (fun i hi => h i (by omega)), h k (by omega)]

theorem cnt_add (f : Nat → Int) (a : Nat) : ∀ (b : Nat) (z : Int), cnt f (a + b) z = cnt f a z + cnt (fun i => f (a + i)) b z
  | 0, z => by show cnt f a z = cnt f a z + 0; omega
  | b + 1, z => by
    show cnt f (a + b) z + (if f (a + b) = z then 1 else 0) = cnt f a z + (cnt (fun i => f (a + i)) b z + (if f (a + b) = z then 1 else 0))
    rw [cnt_add f a b z]
    omega

/-- Turned round, they are met as often. -/
theorem cnt_turn (f : Nat → Int) (n r : Nat) (hr : r < n) (z : Int) : cnt (fun i => f ((i + r) % n)) n z = cnt f n z := by
  have e1 : cnt (fun i => f ((i + r) % n)) n z = cnt (fun i => f ((i + r) % n)) ((n - r) + r) z := by rw [show (n - r) + r = n by omega]
  have e2 : cnt f n z = cnt f (r + (n - r)) z := by rw [show r + (n - r) = n by omega]
  rw [e1, e2, cnt_add, cnt_add]
  have e3 : cnt (fun i => f ((i + r) % n)) (n - r) z = cnt (fun i => f (r + i)) (n - r) z := cnt_congr (fun i hi => by
    show f ((i + r) % n) = f (r + i)
    rw [Nat.mod_eq_of_lt (by omega), Nat.add_comm])
  have e4 : cnt (fun i => (fun i => f ((i + r) % n)) (n - r + i)) r z = cnt f r z := cnt_congr (fun i hi => by
    show f ((n - r + i + r) % n) = f i
    rw [show n - r + i + r = i + n by omega, Nat.add_mod_right, Nat.mod_eq_of_lt (by omega)])
  rw [e3, e4]
  omega

theorem len_le_tot : ∀ {K : List (Int × Int)}, Pos K → (K.length : Int) ≤ totK K
  | [], _ => Int.le_refl _
  | p :: K, h => by
    have h1 := len_le_tot (K := K) (fun q hq => h q (by simp [hq]))
    have h2 := h p (by simp)
    rw [totK_cons, List.length_cons]
    omega

theorem getK_le_tot (κ : Int → Int) : ∀ {K : List (Int × Int)}, Pos K → ∀ z, 0 ≤ getK κ K z ∧ getK κ K z ≤ totK K
  | [], _, _ => ⟨Int.le_refl _, Int.le_refl _⟩
  | p :: K, h, z => by
    have hT : Pos K := fun q hq => h q (by simp [hq])
    have h1 := getK_le_tot κ hT z
    have h2 := h p (by simp)
    have h3 := totK_nonneg hT
    rw [totK_cons]
    show 0 ≤ (if κ p.1 = z then p.2 else getK κ K z) ∧ (if κ p.1 = z then p.2 else getK κ K z) ≤ _
    split <;> omega

theorem own_lt {w : World} {base : Nat} {e : TypeId} {size : Nat} {v : Value} {n : Nat} {xs : List Value} (h : w.ownsRow base e size v n xs) {k : Nat} (hk : v.ownBlock = some k) : k < w.heap.size := by
  rcases h.2 with ⟨rfl, _⟩ | ⟨g, cap, cur, rfl, _, hg, _⟩
  · cases hk
  · cases hk
    exact lt_of_heap hg

/-- The function value of the law's order. -/
def fO (c : Nat) : Value := .func (.func 47) #[] #[.pointer (some ⟨c, 0, none⟩)]

/-- A bag and what must stay while it turns: another bag, two cells. -/
structure TwoB (back : Bool) (w wr : World) (b1 b2 c1 c2 : Nat) (v1 v2 : Value) (K1 K2 : List (Int × Int)) : Prop where
  l1 : LB (keyO back) w wr b1 (fO c1) v1 K1
  l2 : LB (keyO back) w wr b2 (fO c2) v2 K2
  k1 : wr.cell? ⟨c1, 0, none⟩ = some (.bool back)
  k2 : wr.cell? ⟨c2, 0, none⟩ = some (.bool back)
  bb : b1 ≠ b2
  cb : c1 ≠ b1 ∧ c1 ≠ b2 ∧ c2 ≠ b1 ∧ c2 ≠ b2
  o1 : ∀ k, v1.ownBlock = some k → k ≠ b2 ∧ k ≠ c1 ∧ k ≠ c2
  o2 : ∀ k, v2.ownBlock = some k → k ≠ b1 ∧ k ≠ c1 ∧ k ≠ c2
  oo : ∀ k, v1.ownBlock = some k → v2.ownBlock ≠ some k
  bel : Below w.heap.size w wr

theorem TwoB.swap {back : Bool} {w wr : World} {b1 b2 c1 c2 : Nat} {v1 v2 : Value} {K1 K2 : List (Int × Int)} (h : TwoB back w wr b1 b2 c1 c2 v1 v2 K1 K2) : TwoB back w wr b2 b1 c2 c1 v2 v1 K2 K1 :=
  ⟨h.l2, h.l1, h.k2, h.k1, h.bb.symm, ⟨h.cb.2.2.2, h.cb.2.2.1, h.cb.2.1, h.cb.1⟩, fun k hk => ⟨(h.o2 k hk).1, (h.o2 k hk).2.2, (h.o2 k hk).2.1⟩, fun k hk => ⟨(h.o1 k hk).1, (h.o1 k hk).2.2, (h.o1 k hk).2.1⟩, fun k hk e => h.oo k e hk, h.bel⟩

theorem TwoB.quiet {back : Bool} {w wr w' : World} {b1 b2 c1 c2 : Nat} {v1 v2 : Value} {K1 K2 : List (Int × Int)} (h : TwoB back w wr b1 b2 c1 c2 v1 v2 K1 K2) (t : Turn [] wr w') : TwoB back w w' b1 b2 c1 c2 v1 v2 K1 K2 :=
  ⟨h.l1.quiet t, h.l2.quiet t, t.cell h.k1 (by simp), t.cell h.k2 (by simp), h.bb, h.cb, h.o1, h.o2, h.oo, h.bel.trans (t.belowAll.mono h.bel.size)⟩

theorem TwoB.add {back : Bool} {w wr : World} {b1 b2 c1 c2 : Nat} {v1 v2 : Value} {K1 K2 : List (Int × Int)} (h : TwoB back w wr b1 b2 c1 c2 v1 v2 K1 K2) {x : Int} (hx : inI64 x) {n : Int} (hn : -1000 ≤ n ∧ n ≤ 1000) (ht : totK K1 ≤ 900) :
    Calls Try.prog 15 #[.pointer (some ⟨b1, 0, none⟩), .int .i64 x, .int .i64 n] wr fun e w' =>
      ∃ v', e = .returned (.int .i64 (max 0 (getK (keyO back) K1 (keyO back x) + n))) ∧ TwoB back w w' b1 b2 c1 c2 v' v2 (addR (keyO back) K1 x n) K2 := by
  have hlen := len_le_tot h.l1.pos
  have hg : getK (keyO back) K1 (keyO back x) ≤ 1000000 - 1000 := by
    have := getK_le_tot (keyO back) h.l1.pos (keyO back x)
    omega
  refine (lb_add (ok := fun w => w.cell? ⟨c1, 0, none⟩ = some (.bool back)) h.l1 h.bel.size (by1_ok back c1) (byO back) h.k1 hx (n := n) (by omega) (by omega) (by omega)).mono ?_
  rintro e w' ⟨v', rfl, h2, ho, t⟩
  have hb2 : b2 < wr.heap.size := lt_of_heap h.l2.bag.head
  have hc1 : c1 < wr.heap.size := World.block_lt_of_cell? _ _ h.k1
  have hc2 : c2 < wr.heap.size := World.block_lt_of_cell? _ _ h.k2
  have nl : ∀ k, k ≠ b1 → v1.ownBlock ≠ some k → k ∉ b1 :: v1.ownBlock.toList := fun k h1 h3 hm => by
    rcases List.mem_cons.1 hm with e | hm
    · exact h1 e
    · exact h3 (Option.mem_toList.1 hm)
  refine ⟨v', rfl, ⟨h2, h.l2.turn t (nl _ h.bb.symm (fun e => (h.o1 _ e).1 rfl)) (fun k hk => nl k (h.o2 k hk).1 (fun e => h.oo k e hk)), t.cell h.k1 (nl _ h.cb.1 (fun e => (h.o1 _ e).2.1 rfl)), t.cell h.k2 (nl _ h.cb.2.2.1 (fun e => (h.o1 _ e).2.2 rfl)), h.bb, h.cb, fun k hk => ?_, h.o2, fun k hk e => ?_, h.bel.trans (t.below h.l1.low h.bel.size)⟩⟩
  · rcases ho with e | e
    · rw [e] at hk; exact h.o1 k hk
    · have := e k hk
      omega
  · rcases ho with e2 | e2
    · rw [e2] at hk; exact h.oo k hk e
    · have h1 := e2 k hk
      have h3 := own_lt h.l2.bag.row e
      omega

end Go.Proofs.Ytikbldnekehodaa
