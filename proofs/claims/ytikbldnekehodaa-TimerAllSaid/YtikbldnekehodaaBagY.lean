/-
  A bag written out: what is at a place; where each kind begins.
-/
import Derived.Test.YtikbldnekehodaaBagX
import Derived.Test.YtikbldnekehodaaBagQ
namespace Go.Proofs.Ytikbldnekehodaa
open Go.RowKit
section
variable {κ : Int → Int}

theorem at_exp : ∀ {K : List (Int × Int)}, Pos K → ∀ (i : Nat), i < (expK K).length → atK K (i : Int) = some ((expK K).getD i 0)
  | [], _, i, h => absurd h (Nat.not_lt_zero i)
  | p :: K, hp, i, h => by
    have h1 := hp p (by simp)
    rw [exp_cons_len] at h
    rw [exp_at]
    show (if (i : Int) < p.2 then some p.1 else atK K ((i : Int) - p.2)) = _
    by_cases hi : i < p.2.toNat
    · rw [if_pos hi, if_pos (by omega)]
    · rw [if_neg hi, if_neg (by omega), show (i : Int) - p.2 = ((i - p.2.toNat : Nat) : Int) by omega]
      exact at_exp (pos_tail hp) _ (by omega)

theorem at_none : ∀ {K : List (Int × Int)}, Pos K → ∀ (i : Nat), (expK K).length ≤ i → atK K (i : Int) = none
  | [], _, _, _ => rfl
  | p :: K, hp, i, h => by
    have h1 := hp p (by simp)
    rw [exp_cons_len] at h
    show (if (i : Int) < p.2 then some p.1 else atK K ((i : Int) - p.2)) = _
    rw [if_neg (by omega), show (i : Int) - p.2 = ((i - p.2.toNat : Nat) : Int) by omega]
    exact at_none (pos_tail hp) _ (by omega)

/-- How many kinds begin ahead of a place. -/
def kk : List (Int × Int) → Nat → Nat
  | [], _ => 0
  | p :: K, i => if i = 0 then 0 else 1 + kk K (i - p.2.toNat)

theorem kk_zero : ∀ (K : List (Int × Int)), kk K 0 = 0
  | [] => rfl
  | _ :: _ => rfl

theorem kk_cons (p : Int × Int) (K : List (Int × Int)) (i : Nat) : kk (p :: K) i = if i = 0 then 0 else 1 + kk K (i - p.2.toNat) := rfl

theorem kk_end : ∀ {K : List (Int × Int)}, Pos K → kk K (expK K).length = K.length
  | [], _ => rfl
  | p :: K, hp => by
    have h1 := hp p (by simp)
    rw [kk_cons, exp_cons_len, if_neg (by omega), show p.2.toNat + (expK K).length - p.2.toNat = (expK K).length by omega, kk_end (pos_tail hp), List.length_cons]
    omega

/-- Does a kind begin here? -/
def starts (K : List (Int × Int)) (i : Nat) : Prop := i = 0 ∨ (expK K).getD i 0 ≠ (expK K).getD (i - 1) 0

instance (K : List (Int × Int)) (i : Nat) : Decidable (starts K i) := inferInstanceAs (Decidable (_ ∨ _))

theorem kk_step : ∀ {K : List (Int × Int)}, Srt κ K → Pos K → ∀ (i : Nat), i < (expK K).length →
    (starts K i → kk K (i + 1) = kk K i + 1 ∧ kk K i < K.length ∧ (K.map (·.1)).getD (kk K i) 0 = (expK K).getD i 0) ∧ (¬ starts K i → kk K (i + 1) = kk K i)
  | [], _, _, i, h => absurd h (Nat.not_lt_zero i)
  | p :: K, hs, hp, i, h => by
    obtain ⟨hs1, hs2⟩ := srt_tail hs
    have h1 := hp p (by simp)
    have ih := fun j hj => kk_step hs1 (pos_tail hp) j hj
    rw [exp_cons_len] at h
    obtain ⟨c, hc⟩ : ∃ c, c = p.2.toNat := ⟨_, rfl⟩
    have hc1 : 1 ≤ c := by omega
    have hm : ∀ j, ((p :: K).map (·.1)).getD (1 + j) 0 = (K.map (·.1)).getD j 0 := fun j => by
      rw [Nat.add_comm]
      simp [List.getD]
    by_cases h0 : i = 0
    · subst h0
      refine ⟨fun _ => ?_, fun hn => absurd (.inl rfl) hn⟩
      rw [kk_zero, kk_cons, if_neg (by omega), ← hc, show 0 + 1 - c = 0 by omega, kk_zero, exp_at, if_pos (by omega)]
      exact ⟨rfl, by simp, by simp [List.getD]⟩
    · rw [kk_cons, kk_cons, if_neg h0, if_neg (by omega), ← hc]
      by_cases hi : i < c
      · have hns : ¬ starts (p :: K) i := by
          rintro (h | h)
          · exact h0 h
          · rw [exp_at, exp_at, if_pos (by omega), if_pos (by omega)] at h
            exact h rfl
        refine ⟨fun hst => absurd hst hns, fun _ => ?_⟩
        rw [show i + 1 - c = 0 by omega, show i - c = 0 by omega]
      · have hj : i - c < (expK K).length := by omega
        obtain ⟨j, hjj⟩ : ∃ j, j = i - c := ⟨_, rfl⟩
        rw [← hjj] at hj ⊢
        have e1 : (expK (p :: K)).getD i 0 = (expK K).getD j 0 := by rw [exp_at, if_neg (by omega), ← hc, hjj]
        have hst : starts (p :: K) i ↔ starts K j := by
          by_cases hj0 : j = 0
          · refine ⟨fun _ => .inl hj0, fun _ => .inr ?_⟩
            rw [e1, exp_at, if_pos (by omega)]
            intro e
            have hgt := exp_gt (κ := κ) (z := κ p.1) hs2 hj
            rw [e] at hgt
            omega
          · have e2 : (expK (p :: K)).getD (i - 1) 0 = (expK K).getD (j - 1) 0 := by rw [exp_at, if_neg (by omega), ← hc, hjj, show i - 1 - c = i - c - 1 by omega]
            unfold starts
            rw [e1, e2]
            constructor
            · rintro (h | h)
              · exact absurd h h0
              · exact .inr h
            · rintro (h | h)
              · exact absurd h hj0
              · exact .inr h
        obtain ⟨i1, i2⟩ := ih j hj
        rw [hst, show i + 1 - c = j + 1 by omega, e1, hm]
        refine ⟨fun h => ?_, fun h => by rw [i2 h]⟩
        obtain ⟨a1, a2, a3⟩ := i1 h
        exact ⟨by rw [a1]; omega, by rw [List.length_cons]; omega, a3⟩

end
end Go.Proofs.Ytikbldnekehodaa
