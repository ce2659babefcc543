/-
  A bag written out: each thing as often as it is there.
-/
import Derived.Test.YtikbldnekehodaaBagR
namespace Go.Proofs.Ytikbldnekehodaa
open Go.RowKit
section
variable {κ : Int → Int}

def expK : List (Int × Int) → List Int
  | [] => []
  | p :: K => List.replicate p.2.toNat p.1 ++ expK K

/-- How many stand ahead of a key. -/
def lowN (κ : Int → Int) : List (Int × Int) → Int → Nat
  | [], _ => 0
  | p :: K, z => if κ p.1 < z then p.2.toNat + lowN κ K z else 0

theorem pos_tail {p : Int × Int} {K : List (Int × Int)} (h : Pos (p :: K)) : Pos K := fun q hq => h q (by simp [hq])

theorem exp_len : ∀ {K : List (Int × Int)}, Pos K → ((expK K).length : Int) = totK K
  | [], _ => rfl
  | p :: K, h => by
    have h1 := exp_len (pos_tail h)
    have h2 := h p (by simp)
    rw [totK_cons]
    show ((List.replicate p.2.toNat p.1 ++ expK K).length : Int) = _
    rw [List.length_append, List.length_replicate]
    omega

theorem exp_at (p : Int × Int) (K : List (Int × Int)) (i : Nat) : (expK (p :: K)).getD i 0 = if i < p.2.toNat then p.1 else (expK K).getD (i - p.2.toNat) 0 := by
  show (List.replicate p.2.toNat p.1 ++ expK K).getD i 0 = _
  split
  · next h => simp [List.getD, List.getElem?_append, h]
  · next h => simp [List.getD, List.getElem?_append, h]

theorem exp_mem : ∀ {K : List (Int × Int)} {x : Int}, x ∈ expK K → ∃ p ∈ K, p.1 = x
  | p :: K, x, h => by
    rcases List.mem_append.1 (show x ∈ List.replicate p.2.toNat p.1 ++ expK K from h) with h | h
    · exact ⟨p, by simp, (List.eq_of_mem_replicate h).symm⟩
    · obtain ⟨q, hq, e⟩ := exp_mem h
      exact ⟨q, by simp [hq], e⟩

theorem getD_mem {l : List Int} {i : Nat} (h : i < l.length) : l.getD i 0 ∈ l := by
  rw [show l.getD i 0 = l[i] by simp [List.getD, h]]
  exact List.getElem_mem h

/-- All behind a head of a greater key are greater. -/
theorem exp_gt {K : List (Int × Int)} {z : Int} (h : ∀ q ∈ K, z < κ q.1) {i : Nat} (hi : i < (expK K).length) : z < κ ((expK K).getD i 0) := by
  obtain ⟨p, hp, e⟩ := exp_mem (getD_mem hi)
  rw [← e]
  exact h p hp

theorem exp_cons_len (p : Int × Int) (K : List (Int × Int)) : (expK (p :: K)).length = p.2.toNat + (expK K).length := by
  show (List.replicate p.2.toNat p.1 ++ expK K).length = _
  rw [List.length_append, List.length_replicate]

theorem low_cons (p : Int × Int) (K : List (Int × Int)) (z : Int) : lowN κ (p :: K) z = if κ p.1 < z then p.2.toNat + lowN κ K z else 0 := rfl

theorem get_cons (p : Int × Int) (K : List (Int × Int)) (z : Int) : getK κ (p :: K) z = if κ p.1 = z then p.2 else getK κ K z := rfl

theorem exp_lo : ∀ (K : List (Int × Int)) (z : Int) (i : Nat), i < lowN κ K z → κ ((expK K).getD i 0) < z
  | [], _, i, h => absurd h (Nat.not_lt_zero i)
  | p :: K, z, i, h => by
    rw [low_cons] at h
    rw [exp_at]
    by_cases hp : κ p.1 < z
    · rw [if_pos hp] at h
      by_cases hi : i < p.2.toNat
      · rw [if_pos hi]; exact hp
      · rw [if_neg hi]; exact exp_lo K z _ (by omega)
    · rw [if_neg hp] at h
      omega

theorem exp_mid : ∀ (K : List (Int × Int)) (z : Int), Srt κ K → ∀ i, lowN κ K z ≤ i → i < lowN κ K z + (getK κ K z).toNat → κ ((expK K).getD i 0) = z
  | [], z, _, i, _, h => by
    have : i < 0 + 0 := h
    omega
  | p :: K, z, hs, i, h1, h2 => by
    obtain ⟨hs1, hs2⟩ := srt_tail hs
    rw [low_cons] at h1 h2
    rw [get_cons] at h2
    rw [exp_at]
    rcases Int.lt_trichotomy (κ p.1) z with hp | hp | hp
    · rw [if_pos hp] at h1 h2
      rw [if_neg (by omega : ¬ κ p.1 = z)] at h2
      rw [if_neg (by omega)]
      exact exp_mid K z hs1 _ (by omega) (by omega)
    · rw [if_neg (by omega)] at h1 h2
      rw [if_pos hp] at h2
      rw [if_pos (by omega)]
      exact hp
    · rw [if_neg (by omega)] at h1 h2
      rw [if_neg (by omega : ¬ κ p.1 = z), getK_gt (fun q hq => by have := hs2 q hq; omega)] at h2
      have : i < 0 + 0 := h2
      omega

theorem exp_hi : ∀ (K : List (Int × Int)) (z : Int), Srt κ K → ∀ i, lowN κ K z + (getK κ K z).toNat ≤ i → i < (expK K).length → z < κ ((expK K).getD i 0)
  | [], z, _, i, _, h => absurd h (Nat.not_lt_zero i)
  | p :: K, z, hs, i, h1, h2 => by
    obtain ⟨hs1, hs2⟩ := srt_tail hs
    rw [low_cons, get_cons] at h1
    rw [exp_cons_len] at h2
    rcases Int.lt_trichotomy (κ p.1) z with hp | hp | hp
    · rw [if_pos hp, if_neg (by omega : ¬ κ p.1 = z)] at h1
      rw [exp_at, if_neg (by omega)]
      exact exp_hi K z hs1 _ (by omega) (by omega)
    · rw [if_neg (by omega : ¬ κ p.1 < z), if_pos hp] at h1
      rw [exp_at, if_neg (by omega)]
      exact exp_gt (fun q hq => by have := hs2 q hq; omega) (by omega)
    · refine exp_gt (K := p :: K) (fun q hq => ?_) (by rw [exp_cons_len]; omega)
      rcases List.mem_cons.1 hq with rfl | hq
      · exact hp
      · have := hs2 q hq; omega

theorem low_le : ∀ (K : List (Int × Int)) (z : Int), Srt κ K → lowN κ K z + (getK κ K z).toNat ≤ (expK K).length
  | [], _, _ => Nat.le_refl _
  | p :: K, z, hs => by
    obtain ⟨hs1, hs2⟩ := srt_tail hs
    have ih := low_le K z hs1
    rw [low_cons, get_cons, exp_cons_len]
    rcases Int.lt_trichotomy (κ p.1) z with hp | hp | hp
    · rw [if_pos hp, if_neg (by omega : ¬ κ p.1 = z)]
      omega
    · rw [if_neg (by omega : ¬ κ p.1 < z), if_pos hp]
      omega
    · rw [if_neg (by omega : ¬ κ p.1 < z), if_neg (by omega : ¬ κ p.1 = z), getK_gt (fun q hq => by have := hs2 q hq; omega)]
      simp

theorem exp_add : ∀ (K : List (Int × Int)) (x n : Int), Srt κ K → Pos K → n ≤ 1000000 → (∀ p ∈ K, κ p.1 = κ x → p.1 = x) →
    expK (addR κ K x n) = (expK K).take (lowN κ K (κ x)) ++ List.replicate (max 0 (getK κ K (κ x) + n)).toNat x ++ (expK K).drop (lowN κ K (κ x) + (getK κ K (κ x)).toNat)
  | [], x, n, _, _, _, _ => by
    show expK (if n ≤ 0 then [] else [(x, n)]) = [].take 0 ++ List.replicate (max 0 (0 + n)).toNat x ++ [].drop (0 + 0)
    by_cases h : n ≤ 0
    · rw [if_pos h, show (max 0 (0 + n)).toNat = 0 by omega]
      rfl
    · rw [if_neg h, show (max 0 (0 + n)).toNat = n.toNat by omega]
      simp [expK]
  | p :: K, x, n, hs, hp, hn, hx => by
    obtain ⟨hs1, hs2⟩ := srt_tail hs
    have h1 := hp p (by simp)
    have ih := exp_add K x n hs1 (pos_tail hp) hn (fun q hq => hx q (by simp [hq]))
    obtain ⟨c, hc⟩ : ∃ c, c = p.2.toNat := ⟨_, rfl⟩
    have hE : expK (p :: K) = List.replicate c p.1 ++ expK K := by rw [hc]; rfl
    have hL : (List.replicate c p.1).length = c := List.length_replicate
    rw [low_cons, get_cons, hE, ← hc]
    unfold addR
    rcases Int.lt_trichotomy (κ p.1) (κ x) with h | h | h
    · rw [if_pos h, if_pos h, if_neg (by omega : ¬ κ p.1 = κ x)]
      show List.replicate p.2.toNat p.1 ++ expK (addR κ K x n) = _
      rw [ih, ← hc, Nat.add_assoc]
      conv =>
        rhs
        rw [show c + lowN κ K (κ x) = (List.replicate c p.1).length + lowN κ K (κ x) by rw [hL], List.take_length_add_append,
          show c + (lowN κ K (κ x) + (getK κ K (κ x)).toNat) = (List.replicate c p.1).length + (lowN κ K (κ x) + (getK κ K (κ x)).toNat) by rw [hL], List.drop_length_add_append]
      simp only [List.append_assoc]
    · have hn1 : ¬ κ p.1 < κ x := by omega
      rw [if_neg hn1, if_neg hn1, if_pos h, if_pos h, nowK_small h1.2 hn]
      have e := hx p (by simp) h
      have hd : (List.replicate c p.1 ++ expK K).drop (0 + p.2.toNat) = expK K := by
        rw [Nat.zero_add, ← hc, List.drop_left' hL]
      rw [hd, e]
      by_cases h0 : max 0 (p.2 + n) = 0
      · rw [if_pos h0, h0]
        rfl
      · rw [if_neg h0]
        rfl
    · have hg : getK κ K (κ x) = 0 := getK_gt (fun q hq => by have := hs2 q hq; omega)
      have hn1 : ¬ κ p.1 < κ x := by omega
      have hn2 : ¬ κ p.1 = κ x := by omega
      rw [if_neg hn1, if_neg hn1, if_neg hn2, if_neg hn2, hg]
      by_cases h0 : n ≤ 0
      · rw [if_pos h0, show (max 0 (0 + n)).toNat = 0 by omega, hE]
        rfl
      · rw [if_neg h0, show (max 0 (0 + n)).toNat = n.toNat by omega]
        show List.replicate n.toNat x ++ expK (p :: K) = _
        rw [hE]
        rfl

end
end Go.Proofs.Ytikbldnekehodaa
