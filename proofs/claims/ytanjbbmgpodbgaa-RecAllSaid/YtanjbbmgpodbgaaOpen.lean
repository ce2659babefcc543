/-
  What a slice argument is, as cells: from the readings of a row's arguments to plain lists.
-/
import Derived.Test.YtanjbbmgpodbgaaChecked
import Derived.Test.YtanjbbmgpodbgaaBegun
import Derived.Test.YtanjbbmgpodbgaaIl
import Derived.ProofKit
import Derived.OpenShut
namespace Go.Proofs.Ytanjbbmgpodbgaa
open Go.ChangeShapes Go.WideShapes Go.ChangeAt Go.RowKit

theorem bytes_of (zs : List Int) (h : ∀ n ∈ zs, (Lit.int .u8 n).wf = true) (i : Nat) (hi : i < zs.length) : (((zs.map fun n => UInt8.ofNat n.toNat).getD i 0).toNat : Int) = zs.getD i 0 := by
  have hm := h zs[i] (List.getElem_mem hi)
  have hb := bounds_u8 hm
  simp only [List.getD, List.getElem?_map, List.getElem?_eq_getElem hi, Option.map_some, Option.getD_some]
  exact u8_ofNat hb.1 (by omega)

theorem open_bytes {H : Type} {enc : TypeId × Value → H} {W : World} {a : Option Addr} {len cap : Nat} {d : DataW H} {p : List MemPlace}
    (h : DataW.Trod enc Try.prog W 0 (fun _ => true) true 24 (.slice a len cap) d p) : ∃ l : List UInt8, len = l.length ∧ Sl W a cap l := by
  obtain ⟨fuel, hf⟩ := h
  rcases open_ints Try.underlying24 Try.underlying5 (by kernel_rfl) hf with ⟨hcs, _⟩ | ⟨x, l, c, zs, hcs, _, hl, hm, hz, _, hcell, hwz⟩
  · simp [Value.cells] at hcs
    obtain ⟨rfl, rfl, rfl⟩ := hcs
    exact ⟨[], rfl, Sl.nil _⟩
  · simp [Value.cells] at hcs
    obtain ⟨rfl, rfl, rfl⟩ := hcs
    simp only [if_true] at hz
    refine ⟨(zs.take len).map fun n => UInt8.ofNat n.toNat, by simp; omega, .inr ⟨x, rfl, by simp; omega, hm, fun i hi => ?_⟩⟩
    have hi' : i < (zs.take len).length := by simpa using hi
    have hi2 : i < len := by simp at hi'; omega
    rw [bytes_of _ (fun n hn => hwz n (List.mem_of_mem_take hn)) i hi', hcell i (by omega)]
    simp [List.getD, hi2]

theorem open_nums {H : Type} {enc : TypeId × Value → H} {W : World} {a : Option Addr} {len cap : Nat} {d : DataW H} {p : List MemPlace}
    (h : DataW.Trod enc Try.prog W 0 (fun _ => true) true 35 (.slice a len cap) d p) : ∃ l : List Int, len = l.length ∧ Il W a cap l := by
  obtain ⟨fuel, hf⟩ := h
  rcases open_ints Try.underlying35 Try.underlying3 (by kernel_rfl) hf with ⟨hcs, _⟩ | ⟨x, l, c, zs, hcs, _, hl, hm, hz, _, hcell, hwz⟩
  · simp [Value.cells] at hcs
    obtain ⟨rfl, rfl, rfl⟩ := hcs
    exact ⟨[], rfl, .inl ⟨rfl, rfl, rfl⟩⟩
  · simp [Value.cells] at hcs
    obtain ⟨rfl, rfl, rfl⟩ := hcs
    simp only [if_true] at hz
    refine ⟨zs.take len, by simp; omega, .inr ⟨x, rfl, by simp; omega, hm, fun i hi => ?_, fun n hn => bounds_i64 (hwz n (List.mem_of_mem_take hn))⟩⟩
    have hi2 : i < len := by simp at hi; omega
    rw [hcell i (by omega)]
    simp [List.getD, hi2]

end Go.Proofs.Ytanjbbmgpodbgaa
