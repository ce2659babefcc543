/-
  What Add leaves of a bag, kind by kind: it stays rising, how many of each there are, how many in all, how many kinds.
-/
import Derived.Test.YtikbldnekehodaaBagM
namespace Go.Proofs.Ytikbldnekehodaa
open Go.RowKit

section
variable {κ : Int → Int}

def addR (κ : Int → Int) : List (Int × Int) → Int → Int → List (Int × Int)
  | [], x, n => if n ≤ 0 then [] else [(x, n)]
  | p :: K, x, n => if κ p.1 < κ x then p :: addR κ K x n else if κ p.1 = κ x then (if nowK p.2 n = 0 then K else (p.1, nowK p.2 n) :: K) else if n ≤ 0 then p :: K else (x, n) :: p :: K

def ansR (κ : Int → Int) : List (Int × Int) → Int → Int → Int
  | [], _, n => if n ≤ 0 then 0 else n
  | p :: K, x, n => if κ p.1 < κ x then ansR κ K x n else if κ p.1 = κ x then nowK p.2 n else if n ≤ 0 then 0 else n

theorem plc_lt {p : Int × Int} {K : List (Int × Int)} {z : Int} (h : κ p.1 < z) : plc κ (p :: K) z = plc κ K z + 1 := by
  conv => lhs; unfold plc
  rw [if_pos h]

theorem plc_ge {p : Int × Int} {K : List (Int × Int)} {z : Int} (h : ¬ κ p.1 < z) : plc κ (p :: K) z = 0 := by
  unfold plc
  rw [if_neg h]

theorem addK_eq : ∀ (K : List (Int × Int)) (x n : Int), addK κ K x n = addR κ K x n ∧ ansK κ K x n = ansR κ K x n
  | [], x, n => by
    have hf : ¬ fnd κ [] (κ x) := by simp [fnd]
    unfold addK ansK addR ansR
    rw [if_neg hf, if_neg hf]
    exact ⟨by by_cases h : n ≤ 0 <;> simp [h, insK], rfl⟩
  | p :: K, x, n => by
    obtain ⟨ih1, ih2⟩ := addK_eq K x n
    by_cases hl : κ p.1 < κ x
    · unfold addR ansR
      rw [if_pos hl, if_pos hl, ← ih1, ← ih2]
      unfold addK ansK
      have e := plc_lt (K := K) hl
      have hg : (p :: K).getD (plc κ K (κ x) + 1) (0, 0) = K.getD (plc κ K (κ x)) (0, 0) := by simp [List.getD]
      by_cases hf : fnd κ K (κ x)
      · have hf2 := (fnd_cons_lt (K := K) hl).2 hf
        rw [if_pos hf2, if_pos hf2, if_pos hf, if_pos hf, e, hg]
        refine ⟨?_, rfl⟩
        unfold chgK
        rw [hg]
        split
        · simp [delK]
        · rw [List.set_cons_succ]
      · have hf2 : ¬ fnd κ (p :: K) (κ x) := fun h => hf ((fnd_cons_lt (K := K) hl).1 h)
        rw [if_neg hf2, if_neg hf2, if_neg hf, if_neg hf, e]
        refine ⟨?_, rfl⟩
        by_cases hn : n ≤ 0
        · rw [if_pos hn, if_pos hn]
        · rw [if_neg hn, if_neg hn]
          simp [insK]
    · unfold addR ansR
      rw [if_neg hl, if_neg hl]
      have e := plc_ge (K := K) hl
      by_cases hq : κ p.1 = κ x
      · rw [if_pos hq, if_pos hq]
        have hf : fnd κ (p :: K) (κ x) := by
          rw [fnd, e]
          exact ⟨by simp, hq⟩
        unfold addK ansK
        rw [if_pos hf, if_pos hf, e]
        refine ⟨?_, rfl⟩
        unfold chgK
        show (if nowK p.2 n = 0 then delK (p :: K) 0 else (p :: K).set 0 (p.1, nowK p.2 n)) = _
        split
        · simp [delK]
        · rfl
      · rw [if_neg hq, if_neg hq]
        have hf : ¬ fnd κ (p :: K) (κ x) := by
          rw [fnd, e]
          intro h
          exact hq h.2
        unfold addK ansK
        rw [if_neg hf, if_neg hf, e]
        exact ⟨by by_cases h : n ≤ 0 <;> simp [h, insK], rfl⟩

/-- Counts are positive, and leave room. -/
def Pos (K : List (Int × Int)) : Prop := ∀ p ∈ K, 1 ≤ p.2 ∧ p.2 ≤ 1000000

theorem nowK_small {a n : Int} (ha : a ≤ 1000000) (hn : n ≤ 1000000) : nowK a n = max 0 (a + n) := by
  unfold nowK plusZ
  rw [if_neg (by omega), Int.max_comm]

theorem srt_tail {p : Int × Int} {K : List (Int × Int)} (h : Srt κ (p :: K)) : Srt κ K ∧ ∀ q ∈ K, κ p.1 < κ q.1 := by
  obtain ⟨h1, h2⟩ := List.pairwise_cons.1 h
  exact ⟨h2, h1⟩

/-- Whose they are. -/
theorem addR_mem : ∀ (K : List (Int × Int)) (x n : Int), ∀ p ∈ addR κ K x n, p.1 = x ∨ ∃ q ∈ K, q.1 = p.1
  | [], x, n, p, hp => by
    unfold addR at hp
    split at hp
    · simp at hp
    · simp at hp
      exact .inl (by rw [hp])
  | q :: K, x, n, p, hp => by
    unfold addR at hp
    split at hp
    · rcases List.mem_cons.1 hp with rfl | hp
      · exact .inr ⟨p, by simp, rfl⟩
      · rcases addR_mem K x n p hp with h1 | ⟨r, hr, he⟩
        · exact .inl h1
        · exact .inr ⟨r, by simp [hr], he⟩
    · split at hp
      · split at hp
        · exact .inr ⟨p, by simp [hp], rfl⟩
        · rcases List.mem_cons.1 hp with rfl | hp
          · exact .inr ⟨q, by simp, rfl⟩
          · exact .inr ⟨p, by simp [hp], rfl⟩
      · split at hp
        · exact .inr ⟨p, hp, rfl⟩
        · rcases List.mem_cons.1 hp with rfl | hp
          · exact .inl rfl
          · exact .inr ⟨p, hp, rfl⟩

theorem addR_srt : ∀ (K : List (Int × Int)) (x n : Int), Srt κ K → Srt κ (addR κ K x n)
  | [], x, n, _ => by
    unfold addR
    split <;> simp [Srt]
  | p :: K, x, n, h => by
    obtain ⟨h2, h1⟩ := srt_tail h
    unfold addR
    split
    · rename_i hl
      refine List.pairwise_cons.2 ⟨fun q hq => ?_, addR_srt K x n h2⟩
      rcases addR_mem K x n q hq with e | ⟨r, hr, e⟩
      · rw [e]; exact hl
      · rw [← e]; exact h1 r hr
    · rename_i hl
      split
      · split
        · exact h2
        · exact List.pairwise_cons.2 ⟨h1, h2⟩
      · rename_i hq
        split
        · exact h
        · refine List.pairwise_cons.2 ⟨fun q hq2 => ?_, h⟩
          rcases List.mem_cons.1 hq2 with rfl | hq2
          · show κ x < κ q.1; omega
          · have := h1 q hq2
            show κ x < κ q.1; omega

theorem getK_gt {K : List (Int × Int)} {z : Int} (h : ∀ q ∈ K, z < κ q.1) : getK κ K z = 0 := getK_none (fun p hp => by have := h p hp; omega)

/-- How many of each there are then. -/
theorem addR_get : ∀ (K : List (Int × Int)) (x n : Int), Srt κ K → Pos K → n ≤ 1000000 → (∀ z, getK κ (addR κ K x n) z = if z = κ x then max 0 (getK κ K z + n) else getK κ K z) ∧ ansR κ K x n = max 0 (getK κ K (κ x) + n)
  | [], x, n, _, _, _ => by
    unfold addR ansR
    by_cases hn : n ≤ 0
    · rw [if_pos hn, if_pos hn]
      refine ⟨fun z => ?_, ?_⟩
      · show (0 : Int) = if z = κ x then max 0 (0 + n) else 0
        split <;> omega
      · show (0 : Int) = max 0 (0 + n)
        omega
    · rw [if_neg hn, if_neg hn]
      refine ⟨fun z => ?_, ?_⟩
      · show (if κ x = z then n else 0) = if z = κ x then max 0 (0 + n) else 0
        by_cases hz : z = κ x
        · rw [if_pos hz, if_pos hz.symm]; omega
        · rw [if_neg hz, if_neg (fun e => hz e.symm)]
      · show n = max 0 (0 + n)
        omega
  | p :: K, x, n, hs, hp, hn => by
    obtain ⟨h2, h1⟩ := srt_tail hs
    have hp2 : Pos K := fun q hq => hp q (by simp [hq])
    have hpp := hp p (by simp)
    have gp : ∀ (Z : List (Int × Int)) (q : Int × Int) (z : Int), getK κ (q :: Z) z = if κ q.1 = z then q.2 else getK κ Z z := fun _ _ _ => rfl
    unfold addR ansR
    by_cases hl : κ p.1 < κ x
    · rw [if_pos hl, if_pos hl]
      obtain ⟨ih1, ih2⟩ := addR_get K x n h2 hp2 hn
      refine ⟨fun z => ?_, ?_⟩
      · rw [gp, gp, ih1]
        by_cases hz : z = κ x
        · have hne : ¬ κ p.1 = z := by omega
          simp only [if_neg hne, if_pos hz]
        · simp only [if_neg hz]
      · rw [gp, if_neg (by omega)]
        exact ih2
    · rw [if_neg hl, if_neg hl]
      by_cases hq : κ p.1 = κ x
      · rw [if_pos hq, if_pos hq, nowK_small hpp.2 hn]
        have h0 : getK κ K (κ x) = 0 := getK_gt (fun q hq2 => by have := h1 q hq2; omega)
        refine ⟨fun z => ?_, by rw [gp, if_pos hq]⟩
        by_cases hr : max 0 (p.2 + n) = 0
        · rw [if_pos hr, gp]
          by_cases hz : z = κ x
          · rw [if_pos hz, if_pos (by rw [hz]; exact hq), hz, h0, hr]
          · rw [if_neg hz, if_neg (by omega)]
        · rw [if_neg hr, gp, gp]
          by_cases hz : z = κ x
          · rw [if_pos (by rw [hz]; exact hq), if_pos hz, if_pos (by rw [hz]; exact hq)]
          · rw [if_neg (by show ¬ κ p.1 = z; omega), if_neg hz, if_neg (by omega)]
      · rw [if_neg hq, if_neg hq]
        have h0 : getK κ (p :: K) (κ x) = 0 := getK_gt (fun q hq2 => by
          rcases List.mem_cons.1 hq2 with rfl | hq2
          · omega
          · have := h1 q hq2; omega)
        rw [h0]
        by_cases hn0 : n ≤ 0
        · rw [if_pos hn0, if_pos hn0]
          refine ⟨fun z => ?_, by omega⟩
          by_cases hz : z = κ x
          · rw [if_pos hz, hz, h0]; omega
          · rw [if_neg hz]
        · rw [if_neg hn0, if_neg hn0]
          refine ⟨fun z => ?_, by omega⟩
          rw [gp]
          by_cases hz : z = κ x
          · rw [if_pos (show κ x = z from hz.symm), if_pos hz, hz, h0]; omega
          · rw [if_neg (show ¬ κ x = z from fun e => hz e.symm), if_neg hz]

def totK (K : List (Int × Int)) : Int := (K.map (·.2)).sum

theorem totK_cons (p : Int × Int) (K : List (Int × Int)) : totK (p :: K) = p.2 + totK K := by simp [totK]

theorem totK_nonneg : ∀ {K : List (Int × Int)}, Pos K → 0 ≤ totK K
  | [], _ => by simp [totK]
  | p :: K, h => by
    rw [totK_cons]
    have h1 := h p (by simp)
    have h2 := totK_nonneg (K := K) (fun q hq => h q (by simp [hq]))
    omega

theorem sumK_from : ∀ (K : List (Int × Int)) (a : Int), Pos K → 0 ≤ a → a + totK K ≤ 9223372036854775807 → K.foldl (fun a p => plusZ a p.2) a = a + totK K
  | [], a, _, _, _ => by simp [totK]
  | p :: K, a, h, ha, hb => by
    rw [totK_cons] at hb ⊢
    have h1 := h p (by simp)
    have hK : Pos K := fun q hq => h q (by simp [hq])
    have h2 := totK_nonneg hK
    rw [List.foldl_cons]
    have e : plusZ a p.2 = a + p.2 := by unfold plusZ; rw [if_neg (by omega)]
    rw [e, sumK_from K (a + p.2) hK (by omega) (by omega)]
    omega

theorem sumK_tot {K : List (Int × Int)} (h : Pos K) (hb : totK K ≤ 9223372036854775807) : sumK K = totK K := by
  unfold sumK
  rw [sumK_from K 0 h (by omega) (by omega)]
  omega

theorem addR_more : ∀ (K : List (Int × Int)) (x n : Int), Srt κ K → Pos K → n ≤ 1000000 → max 0 (getK κ K (κ x) + n) ≤ 1000000 →
    Pos (addR κ K x n) ∧ totK (addR κ K x n) = totK K + (max 0 (getK κ K (κ x) + n) - getK κ K (κ x)) ∧ ((addR κ K x n).length : Int) = K.length + (if getK κ K (κ x) = 0 then (if n ≤ 0 then 0 else 1) else if max 0 (getK κ K (κ x) + n) = 0 then -1 else 0)
  | [], x, n, _, _, hn, hb => by
    have g0 : getK κ [] (κ x) = 0 := rfl
    rw [g0] at hb ⊢
    unfold addR
    by_cases hn0 : n ≤ 0
    · rw [if_pos hn0]
      refine ⟨fun p hp => by simp at hp, ?_, ?_⟩
      · simp [totK]; omega
      · simp [hn0]
    · rw [if_neg hn0]
      refine ⟨fun p hp => ?_, ?_, ?_⟩
      · simp at hp
        rw [hp]
        show 1 ≤ n ∧ n ≤ 1000000
        omega
      · simp [totK]; omega
      · simp [hn0]
  | p :: K, x, n, hs, hp, hn, hb => by
    obtain ⟨h2, h1⟩ := srt_tail hs
    have hp2 : Pos K := fun q hq => hp q (by simp [hq])
    have hpp := hp p (by simp)
    have gp : ∀ (Z : List (Int × Int)) (q : Int × Int) (z : Int), getK κ (q :: Z) z = if κ q.1 = z then q.2 else getK κ Z z := fun _ _ _ => rfl
    unfold addR
    by_cases hl : κ p.1 < κ x
    · have hne : ¬ κ p.1 = κ x := by omega
      rw [gp, if_neg hne] at hb ⊢
      obtain ⟨i1, i2, i3⟩ := addR_more K x n h2 hp2 hn hb
      rw [if_pos hl, totK_cons, totK_cons, i2]
      refine ⟨fun q hq => ?_, by omega, ?_⟩
      · rcases List.mem_cons.1 hq with rfl | hq
        · exact hpp
        · exact i1 q hq
      · rw [List.length_cons, List.length_cons]
        omega
    · rw [if_neg hl]
      by_cases hq : κ p.1 = κ x
      · rw [gp, if_pos hq] at hb ⊢
        rw [if_pos hq, nowK_small hpp.2 hn, if_neg (by omega : ¬ p.2 = 0)]
        by_cases hr : max 0 (p.2 + n) = 0
        · rw [if_pos hr, if_pos hr, totK_cons, List.length_cons]
          exact ⟨hp2, by omega, by omega⟩
        · rw [if_neg hr, if_neg hr, totK_cons, totK_cons]
          refine ⟨fun q hq2 => ?_, by show max 0 (p.2 + n) + totK K = _; omega, by simp⟩
          rcases List.mem_cons.1 hq2 with rfl | hq2
          · show 1 ≤ max 0 (p.2 + n) ∧ max 0 (p.2 + n) ≤ 1000000
            omega
          · exact hp2 q hq2
      · have h0 : getK κ (p :: K) (κ x) = 0 := getK_gt (fun q hq2 => by
          rcases List.mem_cons.1 hq2 with rfl | hq2
          · omega
          · have := h1 q hq2; omega)
        rw [h0] at hb ⊢
        rw [if_neg hq, if_pos rfl]
        by_cases hn0 : n ≤ 0
        · rw [if_pos hn0, if_pos hn0]
          exact ⟨hp, by omega, by omega⟩
        · rw [if_neg hn0, if_neg hn0, totK_cons]
          refine ⟨fun q hq2 => ?_, by show n + totK (p :: K) = _; omega, by simp⟩
          rcases List.mem_cons.1 hq2 with rfl | hq2
          · show 1 ≤ n ∧ n ≤ 1000000
            omega
          · exact hp q hq2

/-- Bags with the same counts are the same. -/
theorem same_K : ∀ {K K' : List (Int × Int)}, Srt κ K → Srt κ K' → Pos K → Pos K' → (∀ z, getK κ K z = getK κ K' z) → (∀ p ∈ K, ∀ q ∈ K', κ p.1 = κ q.1 → p.1 = q.1) → K = K'
  | [], [], _, _, _, _, _, _ => rfl
  | [], q :: T', _, _, _, hp', hg, _ => by
    have h1 := hg (κ q.1)
    have h2 := hp' q (by simp)
    have e : getK κ (q :: T') (κ q.1) = q.2 := by show (if κ q.1 = κ q.1 then q.2 else _) = _; rw [if_pos rfl]
    rw [e] at h1
    have : getK κ [] (κ q.1) = 0 := rfl
    omega
  | p :: T, [], _, _, hp, _, hg, _ => by
    have h1 := hg (κ p.1)
    have h2 := hp p (by simp)
    have e : getK κ (p :: T) (κ p.1) = p.2 := by show (if κ p.1 = κ p.1 then p.2 else _) = _; rw [if_pos rfl]
    rw [e] at h1
    have : getK κ [] (κ p.1) = 0 := rfl
    omega
  | p :: T, q :: T', hs, hs', hp, hp', hg, hx => by
    obtain ⟨s1, s2⟩ := srt_tail hs
    obtain ⟨s1', s2'⟩ := srt_tail hs'
    have gp : ∀ (Z : List (Int × Int)) (q : Int × Int) (z : Int), getK κ (q :: Z) z = if κ q.1 = z then q.2 else getK κ Z z := fun _ _ _ => rfl
    have h2 := hp p (by simp)
    have h2' := hp' q (by simp)
    have hk : κ p.1 = κ q.1 := by
      rcases Int.lt_trichotomy (κ p.1) (κ q.1) with h | h | h
      · have h1 := hg (κ p.1)
        rw [gp, if_pos rfl, getK_gt (K := q :: T') (fun r hr => by
          rcases List.mem_cons.1 hr with rfl | hr
          · exact h
          · have := s2' r hr; omega)] at h1
        omega
      · exact h
      · have h1 := hg (κ q.1)
        rw [gp T', if_pos rfl, getK_gt (K := p :: T) (fun r hr => by
          rcases List.mem_cons.1 hr with rfl | hr
          · exact h
          · have := s2 r hr; omega)] at h1
        omega
    have e1 : p.1 = q.1 := hx p (by simp) q (by simp) hk
    have e2 : p.2 = q.2 := by
      have h1 := hg (κ p.1)
      rw [gp, if_pos rfl, gp, if_pos hk.symm] at h1
      exact h1
    have e3 : T = T' := same_K s1 s1' (fun r hr => hp r (by simp [hr])) (fun r hr => hp' r (by simp [hr])) (fun z => by
      by_cases hz : κ p.1 = z
      · rw [getK_gt (K := T) (fun r hr => by have := s2 r hr; omega), getK_gt (K := T') (fun r hr => by have := s2' r hr; omega)]
      · have h1 := hg z
        rw [gp, if_neg hz, gp, if_neg (by rw [← hk]; exact hz)] at h1
        exact h1) (fun r hr t ht => hx r (by simp [hr]) t (by simp [ht]))
    rw [e3, show p = q from Prod.ext e1 e2]

end

end Go.Proofs.Ytikbldnekehodaa
