/-
  Add from anywhere: a log that was opened long ago, a text that lies in a block of its own; a disk with one segment alone.
-/
import Derived.Test.YtgachdaphdjddaaDoorSegOne
namespace Go.Proofs.YtgachdaphdjddaaDoor
open Go.RowKit

/-- Add, where the text's block is none of the log's. -/
theorem add_at {w0 w1 w : World} {lb d room num : Nat} {T : List (List UInt8)} {M : List Fm} (h : Lg [] w0 w1 lb d room num T M) (t : Turn [] w1 w) (ao : Option Addr) (c : Nat) (b : List UInt8) (hb : okF b = true) (hs : Sl w ao c b)
    (hf : ∀ A, ao = some A → A.block < w0.heap.size ∨ w1.heap.size ≤ A.block) (hto : addTo M num ≤ 999) (hT : T.length < 1000000) :
    Calls Tryd.prog 10 #[.pointer (some ⟨lb, 0, none⟩), .slice ao b.length c] w fun e w' => e = .returned (.int .i64 (appE room (addM M num) (segName (addTo M num)) (frB b))) ∧
      (appE room (addM M num) (segName (addTo M num)) (frB b) = 0 → Lg [] w0 w' lb d room (addTo M num) (T ++ [b]) (appM room (addM M num) (segName (addTo M num)) (frB b))) ∧
      (appE room (addM M num) (segName (addTo M num)) (frB b) ≠ 0 → Lg [] w0 w' lb d room num T (appM room (addM M num) (segName (addTo M num)) (frB b))) := by
  have H := h.rebase t
  have h0 := (h.turn t).1
  have hL : ∀ A, ao = some A → b ≠ [] → A.block ∉ mine [] w0 w1 := by
    intro A hA _ hm
    have h2 := mem_mine.1 hm
    simp only [List.not_mem_nil, false_or] at h2
    rcases hf A hA with h3 | h3 <;> omega
  refine (add_calls H ao c b hb hs hL hto hT).mono ?_
  rintro e w' ⟨rfl, h1, h2⟩
  exact ⟨rfl, fun he => (h1 he).back h0 h.2.1, fun he => (h2 he).back h0 h.2.1⟩

theorem made_sl (w : World) (n : Nat) (hn : n ≤ 1000000) : Sl (w.alloc (.cells (madeCells #[.int .u8 0] n) 5)) (some ⟨w.heap.size, 0, none⟩) n (List.replicate n 0) := by
  refine .inr ⟨_, rfl, by simp, by unfold maxLen; omega, fun i hi => ?_⟩
  simp at hi
  rw [Addr.add_lit, Nat.zero_add, cell_of_row _ w.heap.size i _ _ (0, 0) (heap_alloc_new w _)]
  simp [madeCells, hi, Nat.mod_one]

/-- An empty disk, opened from the first segment on. -/
theorem open_empty (room : Nat) : openF room [] 0 = (0, [], []) ∧ openAt [] 0 = 0 := ⟨by kernel_rfl, by kernel_rfl⟩

/-- The first segment alone, with these texts; none: no file. -/
def oneM (T : List (List UInt8)) : List Fm := if T = [] then [] else [⟨segName 0, frs T, 0, false⟩]

theorem oneM_bytes (T : List (List UInt8)) : bytesOf (oneM T) (segName 0) = frs T := by
  unfold oneM bytesOf
  by_cases h : T = []
  · subst h; rfl
  · rw [if_neg h]
    simp

theorem oneM_has (T : List (List UInt8)) : hasF (oneM T) (segName 0) = !(T.isEmpty) := by
  unfold oneM hasF
  by_cases h : T = []
  · subst h; rfl
  · rw [if_neg h]
    cases T with
    | nil => exact absurd rfl h
    | cons a T => simp

theorem oneM_tot (T : List (List UInt8)) : tot (oneM T) = (frs T).length := by
  unfold oneM
  by_cases h : T = []
  · subst h; rfl
  · rw [if_neg h]
    simp [tot]

theorem oneM_to {T : List (List UInt8)} (h : (frs T).length < 2000) : addTo (oneM T) 0 = 0 ∧ addM (oneM T) 0 = oneM T := by
  unfold addTo addM
  rw [oneM_bytes, if_neg (by omega), if_neg (by omega)]
  exact ⟨rfl, rfl⟩

theorem oneM_app {room : Nat} {T : List (List UInt8)} {b : List UInt8} : appE room (oneM T) (segName 0) (frB b) = (if room < (frs T).length + (6 + b.length) then 5 else 0) ∧
    appM room (oneM T) (segName 0) (frB b) = (if room < (frs T).length + (6 + b.length) then oneM T else oneM (T ++ [b])) := by
  have hok : okName (segName 0) = true := by decide
  unfold appE appM
  rw [if_pos hok, if_pos hok, oneM_tot, frB_length]
  refine ⟨rfl, ?_⟩
  split
  · rfl
  · unfold oneM
    rw [if_neg (by simp : ¬ T ++ [b] = [])]
    by_cases h : T = []
    · subst h
      simp [mApp, hasF, frs_one]
    · rw [if_neg h]
      simp [mApp, hasF, mUp, longer, frs_append, frs_one]

end Go.Proofs.YtgachdaphdjddaaDoor
