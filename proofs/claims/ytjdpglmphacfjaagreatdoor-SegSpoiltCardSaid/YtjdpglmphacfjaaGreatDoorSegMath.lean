/-
  Frames as lists of bytes: what a frame is, what is cut off a front, what a row of frames tells; the segments' names.
-/
import Derived.Test.YtjdpglmphacfjaaGreatDoorIn
import Derived.Test.YtjdpglmphacfjaaGreatDoorCrc
namespace Go.Proofs.YtjdpglmphacfjaaGreatDoor

def frSum (b : List UInt8) : Nat := sumOn 0 (smallB (b.length : Nat) ++ b)
def frHead (b : List UInt8) : List UInt8 := smallB (b.length : Nat) ++ (smallB (frSum b : Nat) ++ smallB (frSum b / 65536 : Nat))
def frB (b : List UInt8) : List UInt8 := frHead b ++ b
def okF (b : List UInt8) : Bool := decide (1 ≤ b.length) && decide (b.length ≤ 4000)

theorem okF_iff {b : List UInt8} : okF b = true ↔ 1 ≤ b.length ∧ b.length ≤ 4000 := by simp [okF]
theorem smallB_length (n : Int) : (smallB n).length = 2 := rfl
theorem frHead_length (b : List UInt8) : (frHead b).length = 6 := by simp [frHead, smallB_length]
theorem frB_length (b : List UInt8) : (frB b).length = 6 + b.length := by simp [frB, frHead_length]
theorem frSum_lt (b : List UInt8) : frSum b < 4294967296 := sumOn_lt _ _

theorem leN_small (n : Nat) : leN (smallB (n : Nat)) = n % 65536 := by
  have h1 := u8_ofNat (n := (n : Int) % 256) (by omega) (by omega)
  have h2 := u8_ofNat (n := (n : Int) / 256 % 256) (by omega) (by omega)
  simp only [smallB, leN]
  omega

/-- How long the text is to be; which sum it is to have. -/
def cutLen (b : List UInt8) : Nat := leN (b.take 2)
def cutSum (b : List UInt8) : Nat := leN ((b.drop 2).take 2) + 65536 * leN ((b.drop 4).take 2)

inductive Cr where
  | more
  | bad
  | ok (t : List UInt8)

def cutR (b : List UInt8) : Cr :=
  if b.length < 2 then .more
  else if cutLen b < 1 ∨ 4000 < cutLen b then .bad
  else if b.length < 6 + cutLen b then .more
  else if cutSum b = sumOn 0 (b.take 2 ++ (b.drop 6).take (cutLen b)) then .ok ((b.drop 6).take (cutLen b)) else .bad

theorem cutR_ok {b t : List UInt8} (h : cutR b = .ok t) : 1 ≤ t.length ∧ t.length ≤ 4000 ∧ 6 + t.length ≤ b.length ∧ t = (b.drop 6).take (cutLen b) ∧ t.length = cutLen b := by
  unfold cutR at h
  split at h
  · cases h
  · split at h
    · cases h
    · split at h
      · cases h
      · split at h
        · cases h
          have hl : ((b.drop 6).take (cutLen b)).length = cutLen b := by rw [List.length_take, List.length_drop]; omega
          rw [hl]
          exact ⟨by omega, by omega, by omega, rfl, rfl⟩
        · cases h

theorem head_take2 (b r : List UInt8) : (frB b ++ r).take 2 = smallB (b.length : Nat) := rfl
theorem head_sum1 (b r : List UInt8) : ((frB b ++ r).drop 2).take 2 = smallB (frSum b : Nat) := rfl
theorem head_sum2 (b r : List UInt8) : ((frB b ++ r).drop 4).take 2 = smallB (frSum b / 65536 : Nat) := rfl
theorem head_drop6 (b r : List UInt8) : (frB b ++ r).drop 6 = b ++ r := rfl

theorem cutLen_fr {b : List UInt8} (h : okF b = true) (r : List UInt8) : cutLen (frB b ++ r) = b.length := by
  have := okF_iff.1 h
  rw [cutLen, head_take2, leN_small]
  omega

theorem cutSum_fr (b r : List UInt8) : cutSum (frB b ++ r) = frSum b := by
  have := frSum_lt b
  rw [cutSum, head_sum1, head_sum2, leN_small, leN_small]
  omega

/-- What stands in front of a row. -/
theorem cut_fr {b : List UInt8} (h : okF b = true) (r : List UInt8) : cutR (frB b ++ r) = .ok b := by
  have h1 := okF_iff.1 h
  unfold cutR
  rw [cutLen_fr h, cutSum_fr, head_take2, head_drop6]
  have hl : (frB b ++ r).length = 6 + b.length + r.length := by rw [List.length_append, frB_length]
  rw [if_neg (by omega), if_neg (by omega), if_neg (by omega), List.take_left' rfl]
  exact if_pos rfl

/-- A torn frame. -/
theorem cut_torn {b : List UInt8} (h : okF b = true) {k : Nat} (hk : k < (frB b).length) : cutR ((frB b).take k) = .more := by
  have h1 := okF_iff.1 h
  have hl : ((frB b).take k).length = k := by rw [List.length_take]; omega
  unfold cutR
  by_cases h2 : k < 2
  · rw [if_pos (by omega)]
  · have hc : cutLen ((frB b).take k) = b.length := by
      have := cutLen_fr h []
      rw [List.append_nil] at this
      rw [← this, cutLen, cutLen, List.take_take, Nat.min_eq_left (by omega)]
    rw [hc, if_neg (by omega), if_neg (by omega), if_pos]
    rw [frB_length] at hk
    omega

/-- What a row of frames tells: the texts, how many bytes they take, what is wrong behind them (0, 2, 3). -/
def unfrN : Nat → List UInt8 → List (List UInt8) × Nat × Nat
  | 0, _ => ([], 0, 0)
  | k + 1, b => if b.length = 0 then ([], 0, 0) else match cutR b with
    | .more => ([], 0, 2)
    | .bad => ([], 0, 3)
    | .ok t => (t :: (unfrN k (b.drop (6 + t.length))).1, 6 + t.length + (unfrN k (b.drop (6 + t.length))).2.1, (unfrN k (b.drop (6 + t.length))).2.2)

theorem unfrN_fuel : ∀ (k j : Nat) (b : List UInt8), b.length ≤ k → b.length ≤ j → unfrN k b = unfrN j b
  | 0, 0, _, _, _ => rfl
  | 0, j + 1, b, h, _ => by simp [unfrN, show b.length = 0 by omega]
  | k + 1, 0, b, _, h => by simp [unfrN, show b.length = 0 by omega]
  | k + 1, j + 1, b, h1, h2 => by
    unfold unfrN
    by_cases h0 : b.length = 0
    · rw [if_pos h0, if_pos h0]
    · rw [if_neg h0, if_neg h0]
      cases hc : cutR b with
      | more => rfl
      | bad => rfl
      | ok t =>
        have hl : (b.drop (6 + t.length)).length ≤ b.length - 1 := by rw [List.length_drop]; omega
        simp only [unfrN_fuel k j (b.drop (6 + t.length)) (by omega) (by omega)]

def unfr (b : List UInt8) : List (List UInt8) × Nat × Nat := unfrN b.length b

theorem unfr_nil : unfr [] = ([], 0, 0) := rfl

theorem unfr_more {b : List UInt8} (h0 : 0 < b.length) (h : cutR b = .more) : unfr b = ([], 0, 2) := by
  unfold unfr
  obtain ⟨k, hk⟩ : ∃ k, b.length = k + 1 := ⟨b.length - 1, by omega⟩
  rw [hk, unfrN, if_neg (by omega), h]

theorem unfr_bad {b : List UInt8} (h : cutR b = .bad) : unfr b = ([], 0, 3) := by
  unfold unfr
  cases hk : b.length with
  | zero =>
    exfalso
    unfold cutR at h
    rw [if_pos (by omega)] at h
    cases h
  | succ k => rw [unfrN, if_neg (by omega), h]

theorem unfr_ok {b t : List UInt8} (h : cutR b = .ok t) : unfr b = (t :: (unfr (b.drop (6 + t.length))).1, 6 + t.length + (unfr (b.drop (6 + t.length))).2.1, (unfr (b.drop (6 + t.length))).2.2) := by
  have hc := cutR_ok h
  unfold unfr
  obtain ⟨k, hk⟩ : ∃ k, b.length = k + 1 := ⟨b.length - 1, by omega⟩
  rw [hk, unfrN, if_neg (by omega), h]
  simp only [unfrN_fuel k (b.drop (6 + t.length)).length (b.drop (6 + t.length)) (by rw [List.length_drop]; omega) (Nat.le_refl _)]

/-- How many bytes stand is not more than there are. -/
theorem unfr_le : ∀ (k : Nat) (b : List UInt8), b.length ≤ k → (unfr b).2.1 ≤ b.length
  | 0, b, h => by
    have : b = [] := List.length_eq_zero_iff.1 (by omega)
    subst this
    simp [unfr_nil]
  | k + 1, b, h => by
    cases hc : cutR b with
    | more =>
      by_cases h0 : 0 < b.length
      · rw [unfr_more h0 hc]; exact Nat.zero_le _
      · have : b = [] := List.length_eq_zero_iff.1 (by omega)
        subst this
        simp [unfr_nil]
    | bad => rw [unfr_bad hc]; exact Nat.zero_le _
    | ok t =>
      have h1 := cutR_ok hc
      rw [unfr_ok hc]
      have := unfr_le k (b.drop (6 + t.length)) (by rw [List.length_drop]; omega)
      rw [List.length_drop] at this
      show 6 + t.length + _ ≤ _
      omega

/-- Frames, one behind the other. -/
def frs (T : List (List UInt8)) : List UInt8 := T.flatMap frB

theorem frs_nil : frs [] = [] := rfl
theorem frs_cons (t : List UInt8) (T : List (List UInt8)) : frs (t :: T) = frB t ++ frs T := rfl
theorem frs_append (A B : List (List UInt8)) : frs (A ++ B) = frs A ++ frs B := by simp [frs]
theorem frs_one (t : List UInt8) : frs [t] = frB t := by simp [frs]

theorem unfr_frs : ∀ (T : List (List UInt8)) (r : List UInt8), (∀ t ∈ T, okF t = true) → unfr (frs T ++ r) = (T ++ (unfr r).1, (frs T).length + (unfr r).2.1, (unfr r).2.2)
  | [], r, _ => by simp [frs_nil]
  | t :: T, r, h => by
    have ht := h t (by simp)
    have h1 := cut_fr ht (frs T ++ r)
    rw [frs_cons, List.append_assoc, unfr_ok h1]
    have h2 : (frB t ++ (frs T ++ r)).drop (6 + t.length) = frs T ++ r := List.drop_left' (frB_length t)
    rw [h2, unfr_frs T r (fun x hx => h x (by simp [hx]))]
    simp [frB_length, Nat.add_assoc]

theorem unfr_whole {T : List (List UInt8)} (h : ∀ t ∈ T, okF t = true) : unfr (frs T) = (T, (frs T).length, 0) := by
  have := unfr_frs T [] h
  rw [List.append_nil, unfr_nil] at this
  simpa using this

theorem unfr_torn {T : List (List UInt8)} (h : ∀ t ∈ T, okF t = true) {t : List UInt8} (ht : okF t = true) {k : Nat} (h0 : 0 < k) (hk : k < (frB t).length) :
    unfr (frs T ++ (frB t).take k) = (T, (frs T).length, 2) := by
  have hl : ((frB t).take k).length = k := by rw [List.length_take]; omega
  rw [unfr_frs T _ h, unfr_more (by omega) (cut_torn ht hk)]
  simp

/-! ### The segments' names -/
def segName (n : Nat) : List UInt8 := [108, 111, 103, UInt8.ofNat (48 + n / 100), UInt8.ofNat (48 + n / 10 % 10), UInt8.ofNat (48 + n % 10)]

theorem segName_inj {a b : Nat} (ha : a ≤ 999) (hb : b ≤ 999) (h : segName a = segName b) : a = b := by
  simp only [segName, List.cons.injEq, and_true, true_and] at h
  obtain ⟨h1, h2, h3⟩ := h
  have e1 := congrArg UInt8.toNat h1
  have e2 := congrArg UInt8.toNat h2
  have e3 := congrArg UInt8.toNat h3
  rw [UInt8.toNat_ofNat', UInt8.toNat_ofNat'] at e1 e2 e3
  omega

def newName : List UInt8 := [110, 101, 119]

theorem segName_new (n : Nat) : segName n ≠ newName := by simp [segName, newName]

end Go.Proofs.YtjdpglmphacfjaaGreatDoor
