/-
  Bags as lists, by a key: where a thing stands, how many of it there are, what Add leaves.
-/
import Derived.Test.YtikbldnekehodaaCmpS
namespace Go.Proofs.Ytikbldnekehodaa
open Go.RowKit

section
variable {κ : Int → Int}

/-- Rising by the key. -/
def Srt (κ : Int → Int) (K : List (Int × Int)) : Prop := K.Pairwise fun p q => κ p.1 < κ q.1

/-- How many of a key there are. -/
def getK (κ : Int → Int) : List (Int × Int) → Int → Int
  | [], _ => 0
  | p :: K, z => if κ p.1 = z then p.2 else getK κ K z

/-- Where a key stands, or would. -/
def plc (κ : Int → Int) : List (Int × Int) → Int → Nat
  | [], _ => 0
  | p :: K, z => if κ p.1 < z then plc κ K z + 1 else 0

theorem plc_le : ∀ (K : List (Int × Int)) (z : Int), plc κ K z ≤ K.length
  | [], _ => Nat.le_refl _
  | p :: K, z => by
    unfold plc
    split
    · have := plc_le K z; simp; omega
    · exact Nat.zero_le _

theorem plc_lo : ∀ (K : List (Int × Int)) (z : Int) (i : Nat) (hi : i < K.length), i < plc κ K z → κ K[i].1 < z
  | p :: K, z, i, hi, hp => by
    unfold plc at hp
    split at hp
    · rename_i h
      cases i with
      | zero => exact h
      | succ i => exact plc_lo K z i (by simpa using hi) (by omega)
    · omega

theorem plc_hi : ∀ (K : List (Int × Int)) (z : Int), Srt κ K → ∀ (i : Nat) (hi : i < K.length), plc κ K z ≤ i → z ≤ κ K[i].1
  | p :: K, z, hs, i, hi, hp => by
    obtain ⟨h1, h2⟩ := List.pairwise_cons.1 hs
    unfold plc at hp
    split at hp
    · cases i with
      | zero => omega
      | succ i => exact plc_hi K z h2 i (by simpa using hi) (by omega)
    · rename_i h
      cases i with
      | zero => show z ≤ κ p.1; omega
      | succ i =>
        have hik : i < K.length := by simpa using hi
        have h3 := h1 K[i] (List.getElem_mem hik)
        show z ≤ κ K[i].1
        omega

/-- Is it there? -/
def fnd (κ : Int → Int) (K : List (Int × Int)) (z : Int) : Prop := plc κ K z < K.length ∧ κ (K.getD (plc κ K z) (0, 0)).1 = z

instance (K : List (Int × Int)) (z : Int) : Decidable (fnd κ K z) := by unfold fnd; infer_instance

theorem fnd_cons_lt {p : Int × Int} {K : List (Int × Int)} {z : Int} (h : κ p.1 < z) : fnd κ (p :: K) z ↔ fnd κ K z := by
  unfold fnd
  have e : plc κ (p :: K) z = plc κ K z + 1 := by conv => lhs; unfold plc
                                                  rw [if_pos h]
  rw [e]
  simp [List.getD]

theorem getK_none : ∀ {K : List (Int × Int)} {z : Int}, (∀ p ∈ K, κ p.1 ≠ z) → getK κ K z = 0
  | [], _, _ => rfl
  | p :: K, z, h => by
    unfold getK
    rw [if_neg (h p (by simp)), getK_none (fun q hq => h q (by simp [hq]))]

theorem getK_fnd : ∀ {K : List (Int × Int)} {z : Int}, Srt κ K → fnd κ K z → getK κ K z = (K.getD (plc κ K z) (0, 0)).2
  | [], z, _, h => by simp [fnd] at h
  | p :: K, z, hs, h => by
    obtain ⟨h1, h2⟩ := List.pairwise_cons.1 hs
    by_cases hl : κ p.1 < z
    · have e : plc κ (p :: K) z = plc κ K z + 1 := by conv => lhs; unfold plc
                                                      rw [if_pos hl]
      have ih := getK_fnd h2 ((fnd_cons_lt hl).1 h)
      unfold getK
      rw [if_neg (by omega), ih, e]
      simp [List.getD]
    · have e : plc κ (p :: K) z = 0 := by unfold plc; rw [if_neg hl]
      have hz := h.2
      rw [e] at hz ⊢
      replace hz : κ p.1 = z := hz
      unfold getK
      rw [if_pos hz]
      rfl

theorem not_fnd : ∀ {K : List (Int × Int)} {z : Int}, Srt κ K → ¬ fnd κ K z → ∀ p ∈ K, κ p.1 ≠ z := by
  intro K z hs hf p hp hz
  obtain ⟨i, hi, rfl⟩ := List.getElem_of_mem hp
  apply hf
  have h1 : plc κ K z ≤ i := by
    rcases Nat.lt_or_ge i (plc κ K z) with h | h
    · have := plc_lo K z i hi h; omega
    · exact h
  have h2 : i ≤ plc κ K z := by
    rcases Nat.lt_or_ge (plc κ K z) i with h | h
    · have h3 := plc_hi K z hs (plc κ K z) (by omega) (Nat.le_refl _)
      have h4 := (List.pairwise_iff_getElem.1 hs) (plc κ K z) i (by omega) hi h
      omega
    · exact h
  have e : plc κ K z = i := by omega
  rw [fnd, e]
  exact ⟨hi, by rw [show K.getD i (0, 0) = K[i] by simp [List.getD, hi]]; exact hz⟩

/-- What Add leaves, and what it answers. -/
def addK (κ : Int → Int) (K : List (Int × Int)) (x n : Int) : List (Int × Int) :=
  if fnd κ K (κ x) then chgK K (plc κ K (κ x)) n else if n ≤ 0 then K else insK K (plc κ K (κ x)) (x, n)

def ansK (κ : Int → Int) (K : List (Int × Int)) (x n : Int) : Int :=
  if fnd κ K (κ x) then nowK (K.getD (plc κ K (κ x)) (0, 0)).2 n else if n ≤ 0 then 0 else n

theorem cmpZ_lt {a b : Int} : 0 < cmpZ a b ↔ b < a := by
  unfold cmpZ
  split
  · constructor <;> intro h <;> omega
  · split
    · constructor <;> intro h <;> omega
    · constructor <;> intro h <;> omega

theorem cmpZ_eq {a b : Int} : cmpZ a b = 0 ↔ a = b := by
  unfold cmpZ
  split
  · constructor <;> intro h <;> omega
  · split
    · constructor <;> intro h <;> omega
    · constructor <;> intro h <;> omega

/-- A compare that goes by a key. -/
def ByKey (κ : Int → Int) (c : Int → Int → Int) : Prop := ∀ x y, inI64 x → inI64 y → c x y = cmpZ (κ x) (κ y)

/-- Add, whatever is there. -/
theorem add_calls {w : World} {b kc : Nat} {cap : Array Value} {v : Value} {K : List (Int × Int)} {c : Int → Int → Int} {ok : World → Prop} (h : BagI w b (.func (.func kc) #[] cap) v K) (hc : CmpOk kc cap c ok) (hk : ByKey κ c) (hok : ok w) (hs : Srt κ K) {x : Int} (hx : inI64 x) {n : Int} (hn : inI64 n) (hfew : K.length ≤ 999) :
    Calls Try.prog 15 #[.pointer (some ⟨b, 0, none⟩), .int .i64 x, .int .i64 n] w fun e w' =>
      ∃ v', e = .returned (.int .i64 (ansK κ K x n)) ∧ BagI w' b (.func (.func kc) #[] cap) v' (addK κ K x n) ∧ (v'.ownBlock = v.ownBlock ∨ ∀ k, v'.ownBlock = some k → w.heap.size ≤ k) ∧ Turn (b :: v.ownBlock.toList) w w' := by
  have hlo : ∀ i (hi : i < K.length), i < plc κ K (κ x) → 0 < c x K[i].1 := fun i hi hp => by
    rw [hk x _ hx (h.nums _ (List.getElem_mem hi)).1]
    exact cmpZ_lt.2 (plc_lo K _ i hi hp)
  have hhi : ∀ i (hi : i < K.length), plc κ K (κ x) ≤ i → c x K[i].1 ≤ 0 := fun i hi hp => by
    rw [hk x _ hx (h.nums _ (List.getElem_mem hi)).1]
    have h1 := plc_hi K _ hs i hi hp
    have h2 := cmpZ_lt (a := κ x) (b := κ K[i].1)
    omega
  by_cases hf : fnd κ K (κ x)
  · have hgd : K.getD (plc κ K (κ x)) (0, 0) = K[plc κ K (κ x)]'hf.1 := by simp [List.getD, hf.1]
    have h0 : c x (K.getD (plc κ K (κ x)) (0, 0)).1 = 0 := by
      rw [hgd, hk x _ hx (h.nums _ (List.getElem_mem hf.1)).1]
      have := hf.2
      rw [hgd] at this
      exact cmpZ_eq.2 this.symm
    refine (addI_found h hc hok hx hn hf.1 hlo hhi h0).mono ?_
    rintro e w' ⟨v', rfl, h2, ho, t⟩
    unfold ansK addK
    rw [if_pos hf, if_pos hf]
    exact ⟨v', rfl, h2, .inl ho, t⟩
  · have hf' : ¬ (plc κ K (κ x) < K.length ∧ c x (K.getD (plc κ K (κ x)) (0, 0)).1 = 0) := fun ⟨h1, h2⟩ => by
      have hgd : K.getD (plc κ K (κ x)) (0, 0) = K[plc κ K (κ x)]'h1 := by simp [List.getD, h1]
      rw [hgd, hk x _ hx (h.nums _ (List.getElem_mem h1)).1] at h2
      exact hf ⟨h1, by rw [hgd]; exact (cmpZ_eq.1 h2).symm⟩
    by_cases hn0 : n ≤ 0
    · refine (addI_none h hc hok hx hn0 (plc_le _ _) hlo hhi hf').mono ?_
      rintro e w' ⟨rfl, t⟩
      unfold ansK addK
      rw [if_neg hf, if_neg hf, if_pos hn0, if_pos hn0]
      exact ⟨v, rfl, h.turn t (by simp) (fun _ _ => by simp), .inl rfl, t.mono (by simp)⟩
    · refine (addI_new h hc hok hx (by omega) hn.2 hfew (plc_le _ _) hlo hhi hf').mono ?_
      rintro e w' ⟨v', rfl, h2, ho, t⟩
      unfold ansK addK
      rw [if_neg hf, if_neg hf, if_neg hn0, if_neg hn0]
      exact ⟨v', rfl, h2, ho, t⟩

/-- Count, whatever is there. -/
theorem count_calls {w : World} {b kc : Nat} {cap : Array Value} {v : Value} {K : List (Int × Int)} {c : Int → Int → Int} {ok : World → Prop} (h : BagI w b (.func (.func kc) #[] cap) v K) (hc : CmpOk kc cap c ok) (hk : ByKey κ c) (hok : ok w) (hs : Srt κ K) {x : Int} (hx : inI64 x) :
    Calls Try.prog 16 #[.pointer (some ⟨b, 0, none⟩), .int .i64 x] w fun e w' => e = .returned (.int .i64 (getK κ K (κ x))) ∧ Turn [] w w' := by
  have hlo : ∀ i (hi : i < K.length), i < plc κ K (κ x) → 0 < c x K[i].1 := fun i hi hp => by
    rw [hk x _ hx (h.nums _ (List.getElem_mem hi)).1]
    exact cmpZ_lt.2 (plc_lo K _ i hi hp)
  have hhi : ∀ i (hi : i < K.length), plc κ K (κ x) ≤ i → c x K[i].1 ≤ 0 := fun i hi hp => by
    rw [hk x _ hx (h.nums _ (List.getElem_mem hi)).1]
    have h1 := plc_hi K _ hs i hi hp
    have h2 := cmpZ_lt (a := κ x) (b := κ K[i].1)
    omega
  refine (countI h hc hok hx (plc_le _ _) hlo hhi).mono ?_
  rintro e w' ⟨rfl, t⟩
  refine ⟨?_, t⟩
  by_cases hf : fnd κ K (κ x)
  · have hgd : K.getD (plc κ K (κ x)) (0, 0) = K[plc κ K (κ x)]'hf.1 := by simp [List.getD, hf.1]
    rw [if_pos ⟨hf.1, by
      rw [hgd, hk x _ hx (h.nums _ (List.getElem_mem hf.1)).1]
      have := hf.2
      rw [hgd] at this
      exact cmpZ_eq.2 this.symm⟩, getK_fnd hs hf]
  · rw [if_neg (fun ⟨h1, h2⟩ => by
      have hgd : K.getD (plc κ K (κ x)) (0, 0) = K[plc κ K (κ x)]'h1 := by simp [List.getD, h1]
      rw [hgd, hk x _ hx (h.nums _ (List.getElem_mem h1)).1] at h2
      exact hf ⟨h1, by rw [hgd]; exact (cmpZ_eq.1 h2).symm⟩), getK_none (not_fnd hs hf)]

end

end Go.Proofs.Ytikbldnekehodaa
