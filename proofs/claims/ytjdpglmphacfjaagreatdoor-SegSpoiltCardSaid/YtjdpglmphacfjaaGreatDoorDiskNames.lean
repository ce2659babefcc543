/-
  The walk of file.Disk's Names.
-/
import Derived.Test.YtjdpglmphacfjaaGreatDoorDiskRead
import Derived.Test.YtjdpglmphacfjaaGreatDoorIter
namespace Go.Proofs.YtjdpglmphacfjaaGreatDoor
open Go.RowKit Go.Maps Go.Sort

/-- The names, rising. -/
def sortedN (ss : List (List UInt8)) : List (List UInt8) := ss.mergeSort (fun x y => decide (x ≤ y))

theorem strKeys_perm {es : List (Lit × DataW Unit)} {L : List (List UInt8 × Nat)} (h : es.Perm (L.map entOf)) : (strKeys (.map es)).Perm (L.map Prod.fst) := by
  show (es.map fun p => strOf p.1).Perm _
  refine (h.map _).trans (List.Perm.of_eq ?_)
  rw [List.map_map]
  rfl

set_option maxHeartbeats 1000000 in
set_option maxRecDepth 100000 in
theorem names_calls {b room : Nat} {l : List Nat} {M : List Fm} (w : World) (h : DiskM w b room l M) (hfew : M.length ≤ 8000000000000) :
    Calls Tryz.prog 17 #[.pointer (some ⟨b, 0, none⟩)] w fun e w' => ∃ v ss, e = .returned v ∧ ss.Perm (M.map Fm.name) ∧
      w'.ownsRow w.heap.size 9 1 v ss.length ((sortedN ss).map encStr) ∧ Below w.heap.size w w' := by
  obtain ⟨mb, L, hd, rfl, rfl⟩ := h
  have hsz := lt_of_heap hd.head
  obtain ⟨-, -, c2, -, -, -⟩ := three_cells hd.head
  refine (callsIn_wide (n := 6)).1 ?_
  have hfK : Fence.wide.fn 36 := trivial
  have hfS : Fence.wide.fn 35 := trivial
  refine callsIn_of_wp Tryz.func17 rfl trivial ?_ rfl
  simp only [Tryz.ntmps17, List.size_toArray, List.length_cons, List.length_nil, Nat.reduceAdd, Nat.reduceSub, Array.replicate_succ, Array.replicate_zero, List.push_toArray, List.append_toArray, List.nil_append, List.cons_append]
  obtain ⟨hnd, ⟨rfl, hL⟩ | ⟨m, es, rfl, ho, hp⟩⟩ := hd.map
  · obtain rfl : L = [] := List.map_eq_nil_iff.1 hL
    clear hd hL hnd
    gi_wp2_with (first
      | (gi_at_call 36; refine (Tryz.maps_Keys_36 _ _).mono ?_; rintro e w' ⟨rfl, rfl⟩)
      | (gi_at_call 35; refine (Tryz.slices_Sorted_keys_nil_35_36 w).mono ?_; rintro e w' ⟨v, ss, rfl, hS, hrow, hnil, hb⟩))
    go_ret
    subst hS
    exact ⟨v, [], rfl, by simp, ownsRow_base_a hrow (by simp), ((Below.refl _ w).alloc (Nat.le_refl _) _).trans (hb.mono (by simp))⟩
  · have hsize : Maps.size (DataW.map es) = L.length := by
      show es.length = _
      rw [hp.length_eq]
      simp
    rw [List.length_map] at hfew
    have h1 : Maps.size (DataW.map es) ≤ maxLen := by rw [hsize]; unfold maxLen; omega
    have h2 : Maps.size (DataW.map es) * 16 ≤ 140737488355328 := by rw [hsize]; omega
    have hperm := strKeys_perm hp
    rw [List.map_map] at hperm
    have HP := Lib.hid hperm
    have HO := Lib.hid ho
    have H1 := Lib.hid h1
    have H2 := Lib.hid h2
    clear hd hnd hsize hfew ho hp h1 h2 hperm
    gi_wp2_with (first
      | (gi_at_call 36; refine (Tryz.maps_Keys_36 _ _).mono ?_; rintro e w' ⟨rfl, rfl⟩)
      | (gi_at_call 35; refine (Tryz.slices_Sorted_keys_35_36 m _ _ ptrR w HO.out H1.out H2.out).mono ?_; rintro e w' ⟨v, ss, rfl, hS, hrow, hnil, hb⟩))
    go_ret
    refine ⟨v, ss, rfl, hS.trans (HP.out.trans (List.Perm.of_eq ?_)), ownsRow_base_a hrow (by simp), ((Below.refl _ w).alloc (Nat.le_refl _) _).trans (hb.mono (by simp))⟩
    rw [List.map_map]
    rfl

end Go.Proofs.YtjdpglmphacfjaaGreatDoor
