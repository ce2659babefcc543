/-
  What a slice argument is, as cells: from the readings of a row's arguments to plain lists.
-/
import Derived.Test.YtjdpglmphacfjaaGreatDoorChecked
import Derived.Test.YtjdpglmphacfjaaGreatDoorBegun
import Derived.ProofKit
import Derived.OpenShut
namespace Go.Proofs.YtjdpglmphacfjaaGreatDoor
open Go.ChangeShapes Go.WideShapes Go.ChangeAt Go.RowKit

/-- A slice of ints, as cells. -/
def Il (w : World) (ao : Option Addr) (c : Nat) (l : List Int) : Prop :=
  (ao = none ∧ c = 0 ∧ l = []) ∨
  ∃ A : Addr, ao = some A ∧ l.length ≤ c ∧ c ≤ maxLen ∧ (∀ i, i < l.length → w.cell? (A.add i) = some (.int .i64 (l.getD i 0))) ∧ ∀ n ∈ l, -9223372036854775808 ≤ n ∧ n ≤ 9223372036854775807

theorem Il.at {w : World} {ao : Option Addr} {c : Nat} {l : List Int} (h : Il w ao c l) (hl : l ≠ []) : ∃ b off, ao = some ⟨b, off, none⟩ ∧ b < w.heap.size ∧ ∀ i, i < l.length → w.cell? ⟨b, off + i, none⟩ = some (.int .i64 (l.getD i 0)) := by
  rcases h with ⟨_, _, h⟩ | ⟨A, rfl, _, _, hc, _⟩
  · exact absurd h hl
  · obtain ⟨b, off, spot⟩ := A
    have h0 := hc 0 (List.length_pos_iff.2 hl)
    have hs : spot = none := by simpa [Addr.add] using World.cell?_spot h0
    subst hs
    have hc' : ∀ i, i < l.length → w.cell? ⟨b, off + i, none⟩ = some (.int .i64 (l.getD i 0)) := fun i hi => by rw [← Addr.add_lit]; exact hc i hi
    exact ⟨b, off, rfl, World.block_lt_of_cell? _ _ (hc' 0 (List.length_pos_iff.2 hl)), hc'⟩

theorem bytes_of (zs : List Int) (h : ∀ n ∈ zs, (Lit.int .u8 n).wf = true) (i : Nat) (hi : i < zs.length) : (((zs.map fun n => UInt8.ofNat n.toNat).getD i 0).toNat : Int) = zs.getD i 0 := by
  have hm := h zs[i] (List.getElem_mem hi)
  have hb := bounds_u8 hm
  simp only [List.getD, List.getElem?_map, List.getElem?_eq_getElem hi, Option.map_some, Option.getD_some]
  exact u8_ofNat hb.1 (by omega)

theorem open_bytes {H : Type} {enc : TypeId × Value → H} {W : World} {a : Option Addr} {len cap : Nat} {d : DataW H} {p : List MemPlace}
    (h : DataW.Trod enc Tryz.prog W 0 (fun _ => true) true 31 (.slice a len cap) d p) : ∃ l : List UInt8, len = l.length ∧ Sl W a cap l := by
  obtain ⟨fuel, hf⟩ := h
  rcases open_ints Tryz.underlying31 Tryz.underlying5 (by kernel_rfl) hf with ⟨hcs, _⟩ | ⟨x, l, c, zs, hcs, _, hl, hm, hz, _, hcell, hwz⟩
  · simp [Value.cells] at hcs
    obtain ⟨rfl, rfl, rfl⟩ := hcs
    exact ⟨[], rfl, Sl.nil _⟩
  · simp [Value.cells] at hcs
    obtain ⟨rfl, rfl, rfl⟩ := hcs
    simp only [if_true] at hz
    refine ⟨(zs.take len).map fun n => UInt8.ofNat n.toNat, by simp; omega, .inr ⟨x, rfl, by simp; omega, hm, fun i hi => ?_⟩⟩
    have hi' : i < (zs.take len).length := by simpa using hi
    have hi2 : i < len := by simp at hi'; omega
    rw [bytes_of _ (fun n hn => hwz n (List.mem_of_mem_take hn)) i hi', hcell i (by omega)]
    simp [List.getD, hi2]

theorem open_nums {H : Type} {enc : TypeId × Value → H} {W : World} {a : Option Addr} {len cap : Nat} {d : DataW H} {p : List MemPlace}
    (h : DataW.Trod enc Tryz.prog W 0 (fun _ => true) true 22 (.slice a len cap) d p) : ∃ l : List Int, len = l.length ∧ Il W a cap l := by
  obtain ⟨fuel, hf⟩ := h
  rcases open_ints Tryz.underlying22 Tryz.underlying3 (by kernel_rfl) hf with ⟨hcs, _⟩ | ⟨x, l, c, zs, hcs, _, hl, hm, hz, _, hcell, hwz⟩
  · simp [Value.cells] at hcs
    obtain ⟨rfl, rfl, rfl⟩ := hcs
    exact ⟨[], rfl, .inl ⟨rfl, rfl, rfl⟩⟩
  · simp [Value.cells] at hcs
    obtain ⟨rfl, rfl, rfl⟩ := hcs
    simp only [if_true] at hz
    refine ⟨zs.take len, by simp; omega, .inr ⟨x, rfl, by simp; omega, hm, fun i hi => ?_, fun n hn => bounds_i64 (hwz n (List.mem_of_mem_take hn))⟩⟩
    have hi2 : i < len := by simp at hi; omega
    rw [hcell i (by omega)]
    simp [List.getD, hi2]

end Go.Proofs.YtjdpglmphacfjaaGreatDoor
