/-
  The walks of file.Disk that only read: find, Used, Sure; New.
-/
import Derived.Test.YtjdpglmphacfjaaGreatDoorMayName
import Derived.Lib.MinMax
namespace Go.Proofs.YtjdpglmphacfjaaGreatDoor
open Go.RowKit

/-- Where the file of that name is. -/
def locE (L : List Ent) (n : List UInt8) : Option Addr := locOf (L.map Ent.key) n

theorem locE_none {L : List Ent} {n : List UInt8} (h : n ∉ L.map (fun e => e.f.name)) : locE L n = none := by
  unfold locE locOf
  rw [List.find?_eq_none.2 ?_]
  · rfl
  · intro p hp
    obtain ⟨e, he, rfl⟩ := List.mem_map.1 hp
    intro hh
    exact h (List.mem_map.2 ⟨e, he, by simpa [Ent.key] using hh⟩)

theorem locE_some {L : List Ent} {e : Ent} (hnd : (L.map fun e => e.f.name).Nodup) (he : e ∈ L) : locE L e.f.name = some ⟨e.c, 0, none⟩ := by
  unfold locE locOf
  have := mem_find (L := L.map Ent.key) (p := e.key) (by rw [List.map_map]; exact hnd) (List.mem_map_of_mem he)
  simp only [Ent.key] at this ⊢
  rw [this]
  rfl

set_option maxHeartbeats 400000 in
theorem find_calls (b room : Nat) (mb : Option Nat) (L : List Ent) (n : List UInt8) (w : World) (h : DiskIs w b room mb L) (hn : n.length ≤ 9223372036854775807) :
    Calls Tryz.prog 37 #[.pointer (some ⟨b, 0, none⟩), .string ⟨n.toArray⟩] w fun e w' => e = .returned (.pointer (locE L n)) ∧ w = w' := by
  obtain ⟨-, -, c2, -, -, -⟩ := three_cells h.head
  have hl := h.map.look (n := n) (by unfold maxLen; omega)
  clear h
  go_enter Tryz.func37, Tryz.ntmps37
  go_wp2
  go_ret
  exact ⟨rfl, rfl⟩

set_option maxHeartbeats 400000 in
theorem find_nil (s : ByteArray) (w : World) :
    Calls Tryz.prog 37 #[.pointer none, .string s] w fun e w' => e = .returned (.pointer none) ∧ w = w' := by
  go_enter Tryz.func37, Tryz.ntmps37
  go_wp2
  go_ret
  exact ⟨rfl, rfl⟩

set_option maxHeartbeats 400000 in
theorem used_calls (b room : Nat) (l : List Nat) (M : List Fm) (w : World) (h : DiskM w b room l M) :
    Calls Tryz.prog 64 #[.pointer (some ⟨b, 0, none⟩)] w fun e w' => e = .returned (.int .i64 (tot M : Nat)) ∧ w = w' := by
  obtain ⟨mb, L, hd, rfl, rfl⟩ := h
  obtain ⟨-, c1, -, -, -, -⟩ := three_cells hd.head
  clear hd
  go_enter Tryz.func64, Tryz.ntmps64
  go_wp2
  go_ret
  exact ⟨rfl, rfl⟩

/-- What is asked of a disk for its room. -/
def roomOf (n : Int) : Nat := (min (max n 0) 1048576).toNat

set_option maxHeartbeats 400000 in
theorem new_calls (n : Int) (w : World) :
    Calls Tryz.prog 8 #[.int .i64 n] w fun e w' => e = .returned (.pointer (some ⟨w.heap.size, 0, none⟩)) ∧ DiskM w' w.heap.size (roomOf n) [w.heap.size] [] ∧ Below w.heap.size w w' := by
  have hm : min (max n 0) 1048576 = ((roomOf n : Nat) : Int) := by unfold roomOf; omega
  have hr : roomOf n ≤ 1048576 := by unfold roomOf; omega
  have hD : DiskM (w.alloc (.cells #[.int .i64 (roomOf n : Nat), .int .i64 0, .map none] 55)) w.heap.size (roomOf n) [w.heap.size] [] := by
    refine ⟨none, [], ⟨heap_alloc_new w _, ⟨by simp, .inl ⟨rfl, rfl⟩⟩, by simp, by simp [blk], by simp [tot], hr, by simp⟩, rfl, rfl⟩
  have HD := Lib.hid hD
  have HB := Lib.hid (new_below w (.cells #[.int .i64 (roomOf n : Nat), .int .i64 0, .map none] 55))
  clear hD
  go_enter Tryz.func8, Tryz.ntmps8
  go_wp2
  go_ret
  exact ⟨rfl, HD.out, HB.out⟩

end Go.Proofs.YtjdpglmphacfjaaGreatDoor
