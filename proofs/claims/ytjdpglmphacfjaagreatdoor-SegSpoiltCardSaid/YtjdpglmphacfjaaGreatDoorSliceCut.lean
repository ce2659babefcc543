/-
  A front of a slice of bytes, whatever the slice.
-/
import Derived.Test.YtjdpglmphacfjaaGreatDoorSlice
namespace Go.Proofs.YtjdpglmphacfjaaGreatDoor
open Go.RowKit

/-- 'x[:m]'. -/
theorem slice_front (ao : Option Addr) (nl cp m : Nat) (h : m ≤ cp) (w : World) : (Instr.slice 31 (.slice ao nl cp) none (some (.int .i64 (m : Int))) none).run Tryz.prog w = .ok (.slice ao m cp) w := by
  have hu : Tryz.prog.underlying 31 = some (.slice (Tryz.prog.elem 31)) := by kernel_rfl
  have hs : ∀ wx, (sizeOf (Tryz.prog.elem 31)).run Tryz.prog wx = .ok 1 wx := fun _ => by kernel_rfl
  rw [run_slice_h (P := Tryz.prog) w 31 ao nl cp hu .i64 (m : Int) (by omega) (by omega), hs]
  have ha : ao.map (fun A : Addr => A.add 0) = ao := by
    cases ao with
    | none => rfl
    | some A =>
      obtain ⟨b, o, s⟩ := A
      cases s <;> simp [Addr.add]
  simp [Result.andThen, sliced, ha]

/-- What of 'x[k:]' is left: the address, where something is left. -/
def cutAt (ao : Option Addr) (cp k : Nat) : Option Addr := if cp = k then ao else ao.map (fun A => A.add k)

theorem slice_back (ao : Option Addr) (nl cp k : Nat) (h : k ≤ nl) (w : World) : (Instr.slice 31 (.slice ao nl cp) (some (.int .i64 (k : Int))) none none).run Tryz.prog w = .ok (.slice (cutAt ao cp k) (nl - k) (cp - k)) w := by
  have hu : Tryz.prog.underlying 31 = some (.slice (Tryz.prog.elem 31)) := by kernel_rfl
  have hs : ∀ wx, (sizeOf (Tryz.prog.elem 31)).run Tryz.prog wx = .ok 1 wx := fun _ => by kernel_rfl
  rw [run_slice_l (P := Tryz.prog) w 31 ao nl cp hu .i64 (k : Int) (by omega) (by omega), hs]
  simp [Result.andThen, sliced, cutAt]

/-- 'x[k:m]'. -/
theorem slice_mid (ao : Option Addr) (nl cp k m : Nat) (h : k ≤ m) (h2 : m ≤ cp) (w : World) : (Instr.slice 31 (.slice ao nl cp) (some (.int .i64 (k : Int))) (some (.int .i64 (m : Int))) none).run Tryz.prog w = .ok (.slice (cutAt ao cp k) (m - k) (cp - k)) w := by
  have hu : Tryz.prog.underlying 31 = some (.slice (Tryz.prog.elem 31)) := by kernel_rfl
  have hs : ∀ wx, (sizeOf (Tryz.prog.elem 31)).run Tryz.prog wx = .ok 1 wx := fun _ => by kernel_rfl
  rw [run_slice_lh (P := Tryz.prog) w 31 ao nl cp hu .i64 .i64 (k : Int) (m : Int) (by omega) (by omega) (by omega), hs]
  simp [Result.andThen, sliced, cutAt]

theorem add_add (A : Addr) (i j : Nat) : (A.add i).add j = A.add (i + j) := by
  obtain ⟨b, o, s⟩ := A
  unfold Addr.add
  by_cases hi : i = 0 <;> by_cases hj : j = 0 <;> simp [hi, hj] <;> omega

theorem cutAt_block {ao : Option Addr} {cp k : Nat} {A : Addr} (h : cutAt ao cp k = some A) : ∃ B, ao = some B ∧ A.block = B.block := by
  unfold cutAt at h
  split at h
  · exact ⟨A, h, rfl⟩
  · cases ao with
    | none => cases h
    | some B => simp at h; exact ⟨B, rfl, by rw [← h, add_block]⟩

/-- What is left of a slice that reads so. -/
theorem Sl.drop {w : World} {ao : Option Addr} {c : Nat} {l : List UInt8} (h : Sl w ao c l) {k : Nat} (hk : k ≤ l.length) : Sl w (cutAt ao c k) (c - k) (l.drop k) := by
  rcases h with ⟨rfl, rfl, rfl⟩ | ⟨A, rfl, h1, h2, hc⟩
  · refine .inl ⟨?_, by simp, by simp⟩
    unfold cutAt
    split <;> rfl
  · by_cases he : c = k
    · refine .inr ⟨A, by simp [cutAt, he], by rw [List.length_drop]; omega, by unfold maxLen at *; omega, fun i hi => ?_⟩
      rw [List.length_drop] at hi
      omega
    · refine .inr ⟨A.add k, by simp [cutAt, he], by rw [List.length_drop]; omega, by unfold maxLen at *; omega, fun i hi => ?_⟩
      rw [List.length_drop] at hi
      rw [add_add, hc (k + i) (by omega)]
      simp [List.getD, List.getElem?_drop]

theorem Sl.front {w : World} {ao : Option Addr} {c : Nat} {l : List UInt8} (h : Sl w ao c l) (m : Nat) : Sl w ao c (l.take m) := by
  rcases h with ⟨h1, h2, rfl⟩ | ⟨A, hA, h1, h2, hc⟩
  · exact .inl ⟨h1, h2, by simp⟩
  · refine .inr ⟨A, hA, by simp; omega, h2, fun i hi => ?_⟩
    have hi2 : i < l.length ∧ i < m := by simp at hi; omega
    rw [hc i hi2.1]
    simp [List.getD, hi2.2]

end Go.Proofs.YtjdpglmphacfjaaGreatDoor
