/-
  A slice of slices of bytes that came in.
-/
import Derived.Test.YtjdpglmphacfjaaGreatDoorOpen
import Derived.Deep.Slices
import Derived.Deep.Matrix
namespace Go.Proofs.YtjdpglmphacfjaaGreatDoor
open Go.RowKit Go.ChangeShapes Go.WideShapes Go.ChangeAt Go.Deep

/-- As cells. -/
def Tl (w : World) (ao : Option Addr) (c : Nat) (l : List (List UInt8)) : Prop :=
  (ao = none ∧ c = 0 ∧ l = []) ∨
  ∃ A : Addr, ao = some A ∧ l.length ≤ c ∧ c ≤ maxLen ∧ ∀ i, i < l.length → ∃ a' c', w.cell? (A.add i) = some (.slice a' (l.getD i []).length c') ∧ Sl w a' c' (l.getD i [])

theorem Tl.at {w : World} {ao : Option Addr} {c : Nat} {l : List (List UInt8)} (h : Tl w ao c l) (hl : l ≠ []) : ∃ b off, ao = some ⟨b, off, none⟩ ∧ b < w.heap.size ∧ ∀ i, i < l.length → ∃ a' c', w.cell? ⟨b, off + i, none⟩ = some (.slice a' (l.getD i []).length c') ∧ Sl w a' c' (l.getD i []) := by
  rcases h with ⟨_, _, h⟩ | ⟨A, rfl, _, _, hc⟩
  · exact absurd h hl
  · obtain ⟨b, off, spot⟩ := A
    obtain ⟨a0, c0, h0, -⟩ := hc 0 (List.length_pos_iff.2 hl)
    have hs : spot = none := by simpa [Addr.add] using World.cell?_spot h0
    subst hs
    have hc' : ∀ i, i < l.length → ∃ a' c', w.cell? ⟨b, off + i, none⟩ = some (.slice a' (l.getD i []).length c') ∧ Sl w a' c' (l.getD i []) := fun i hi => by
      have := hc i hi
      simp only [Addr.add_lit] at this
      exact this
    obtain ⟨a1, c1, h1, -⟩ := hc' 0 (List.length_pos_iff.2 hl)
    exact ⟨b, off, rfl, World.block_lt_of_cell? _ _ h1, hc'⟩

theorem Tl.len {w : World} {ao : Option Addr} {c : Nat} {l : List (List UInt8)} (h : Tl w ao c l) : (l.length : Int) ≤ 9223372036854775807 := by
  rcases h with ⟨_, _, rfl⟩ | ⟨A, _, q1, q2, _⟩
  · simp
  · unfold maxLen at q2; omega

theorem cellsR : Tryz.prog.cellsOf 31 = 1 := by kernel_rfl
theorem cellsU : Tryz.prog.cellsOf 5 = 1 := by kernel_rfl

theorem open_texts {H : Type} {enc : TypeId × Value → H} {W : World} {a : Option Addr} {len cap : Nat} {d : DataW H} {p : List MemPlace}
    (h : DataW.Trod enc Tryz.prog W 0 (fun _ => true) true 34 (.slice a len cap) d p) : ∃ l : List (List UInt8), len = l.length ∧ Tl W a cap l := by
  obtain ⟨fuel, hf⟩ := h
  rcases open_int_rows Tryz.underlying34 Tryz.underlying31 Tryz.underlying5 cellsR cellsU hf with ⟨hcs, _⟩ | ⟨x, l, c, A, L, C, Z, hcs, _, hl, hm, _, hel⟩
  · simp [Value.cells] at hcs
    obtain ⟨rfl, rfl, rfl⟩ := hcs
    exact ⟨[], rfl, .inl ⟨rfl, rfl, rfl⟩⟩
  · simp [Value.cells] at hcs
    obtain ⟨rfl, rfl, rfl⟩ := hcs
    refine ⟨(List.range len).map fun r => ((Z r).take (L r)).map fun n => UInt8.ofNat n.toNat, by simp, .inr ⟨x, rfl, by simpa using hl, hm, fun i hi => ?_⟩⟩
    have hi2 : i < len := by simpa using hi
    obtain ⟨h1, h2, h3, h4, h5, h6, h7⟩ := hel i (by omega)
    have hg : ((List.range len).map fun r => ((Z r).take (L r)).map fun n => UInt8.ofNat n.toNat).getD i [] = ((Z i).take (L i)).map fun n => UInt8.ofNat n.toNat := by
      simp [List.getD, hi2]
    rw [hg]
    have hlen : (((Z i).take (L i)).map fun n => UInt8.ofNat n.toNat).length = L i := by
      rw [List.length_map, List.length_take]; omega
    refine ⟨A i, C i, by rw [hlen]; exact h1, ?_⟩
    cases hA : A i with
    | none =>
      have hc0 := h6 hA
      have hl0 : L i = 0 := by omega
      exact .inl ⟨rfl, hc0, by simp [hl0]⟩
    | some a' =>
      refine .inr ⟨a', rfl, by rw [hlen]; exact h2, h3, fun j hj => ?_⟩
      rw [hlen] at hj
      rw [bytes_of _ (fun n hn => h5 n (List.mem_of_mem_take hn)) j (by rw [List.length_take]; omega), (h7 a' hA).2 j (by omega)]
      simp [List.getD, hj]

end Go.Proofs.YtjdpglmphacfjaaGreatDoor
