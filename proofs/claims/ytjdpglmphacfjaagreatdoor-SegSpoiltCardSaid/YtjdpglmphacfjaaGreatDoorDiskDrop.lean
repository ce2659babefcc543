/-
  The walk of file.Disk's drop.
-/
import Derived.Test.YtjdpglmphacfjaaGreatDoorDiskOpen
import Derived.RegionTactic
import Derived.ChangeAlike
namespace Go.Proofs.YtjdpglmphacfjaaGreatDoor
open Go.RowKit

/-- A file less. -/
theorem DiskIs.less {w w' : World} {b room m : Nat} {L1 L2 : List Ent} {e : Ent} (h : DiskIs w b room (some m) (L1 ++ e :: L2)) (ht : Turn [b, m] w w')
    (hb : w'.heap[b]? = some (.cells #[.int .i64 (room : Int), .int .i64 (tot ((L1 ++ L2).map Ent.f) : Nat), .map (some m)] 55 (0, 0)))
    (hmap : MapIs w' (some m) ((L1 ++ L2).map Ent.key)) : DiskIs w' b room (some m) (L1 ++ L2) := by
  have hap := h.apart
  have htot : tot ((L1 ++ L2).map Ent.f) ≤ tot ((L1 ++ e :: L2).map Ent.f) := by
    simp only [List.map_append, List.map_cons, tot_append, tot_cons]
    omega
  have hr := h.room1
  refine ⟨hb, hmap, ?_, ?_, by omega, h.room2, ?_⟩
  · intro x hx
    have hx' : x ∈ L1 ++ e :: L2 := by simp at hx ⊢; rcases hx with h | h <;> simp [h]
    refine (h.ents x hx').turn ht (fun k hk hm => ?_)
    have hk' : k ∈ (L1 ++ e :: L2).flatMap Ent.blocks := List.mem_flatMap.2 ⟨x, hx', hk⟩
    clear htot hr hmap hb ht
    simp only [blk, Option.toList_some] at hap
    generalize (L1 ++ e :: L2).flatMap Ent.blocks = B at *
    simp at hap hm
    grind
  · refine hap.sublist ?_
    unfold blk
    refine List.Sublist.cons_cons _ (List.Sublist.append (List.Sublist.refl _) ?_)
    simp
  · intro x hx
    exact h.names x (by simp at hx ⊢; rcases hx with h | h <;> simp [h])

theorem filter_split {L1 L2 : List Ent} {e : Ent} (hnd : ((L1 ++ e :: L2).map fun e => e.f.name).Nodup) : ((L1 ++ e :: L2).map Ent.key).filter (fun p => !(p.1 == e.f.name)) = (L1 ++ L2).map Ent.key := by
  have h1 : ∀ x ∈ L1 ++ L2, x.f.name ≠ e.f.name := by
    intro x hx
    simp [List.nodup_append] at hnd
    rcases List.mem_append.1 hx with hx | hx
    · exact (hnd.2.2 x hx).1
    · exact fun e2 => hnd.2.1.1 x hx e2
  rw [List.map_append, List.map_cons, List.filter_append, List.filter_cons_of_neg (by simp [Ent.key]), ← List.filter_append, ← List.map_append]
  refine List.filter_eq_self.2 (fun p hp => ?_)
  obtain ⟨x, hx, rfl⟩ := List.mem_map.1 hp
  simpa [Ent.key] using h1 x hx

set_option maxHeartbeats 400000 in
theorem drop_none {b room : Nat} {mb : Option Nat} {L : List Ent} {n : List UInt8} (w : World) (h : DiskIs w b room mb L) (hn : n ∉ L.map (fun e => e.f.name)) (hl : n.length ≤ 9223372036854775807) :
    Calls Tryz.prog 49 #[.pointer (some ⟨b, 0, none⟩), .string ⟨n.toArray⟩] w fun e w' => e = .returned (.bool false) ∧ w = w' := by
  have H := Lib.hid h
  have HN := Lib.hid hn
  clear h hn
  go_enter Tryz.func49, Tryz.ntmps49
  go_wp2_with fail
  refine (find_none _ H.out HN.out hl).mono ?_
  rintro e w' ⟨rfl, rfl⟩
  go_wp2
  go_ret
  exact ⟨rfl, rfl⟩

set_option maxHeartbeats 1000000 in
set_option maxRecDepth 100000 in
theorem drop_some {b room : Nat} {mb : Option Nat} {L1 L2 : List Ent} {e0 : Ent} (w : World) (h : DiskIs w b room mb (L1 ++ e0 :: L2)) :
    Calls Tryz.prog 49 #[.pointer (some ⟨b, 0, none⟩), .string ⟨e0.f.name.toArray⟩] w fun e w' =>
      e = .returned (.bool true) ∧ DiskIs w' b room mb (L1 ++ L2) ∧ (∀ m, mb = some m → Turn [b, m] w w') := by
  have H := Lib.hid h
  have hblt := lt_of_heap h.head
  obtain ⟨c0, c1, c2, f0, f1, f2⟩ := three_cells h.head
  obtain ⟨hnd, ⟨h0, hL⟩ | ⟨m, es, rfl, ho, hp⟩⟩ := h.map
  · simp at hL
  obtain ⟨v, he1, he2, he3, he4⟩ := h.ents e0 (by simp)
  obtain ⟨ao, cp, rfl, hsl⟩ := row_slice he2
  obtain ⟨d0, -, -, -, -, -⟩ := three_cells he1
  have hne := lt_of_heap he1
  have hbm : b ≠ m := by
    have := h.apart
    simp [blk] at this
    exact this.1.1
  have htot : tot ((L1 ++ e0 :: L2).map Ent.f) = tot ((L1 ++ L2).map Ent.f) + e0.f.b.length := by
    simp only [List.map_append, List.map_cons, tot_append, tot_cons]
    omega
  have hroom := h.room1
  have hroom2 := h.room2
  have hnm := okName_len (h.names e0 (by simp))
  obtain ⟨T, hT⟩ : ∃ T, T = tot ((L1 ++ L2).map Ent.f) := ⟨_, rfl⟩
  obtain ⟨U, hU⟩ : ∃ U, U = tot ((L1 ++ e0 :: L2).map Ent.f) := ⟨_, rfl⟩
  rw [← hU] at c1 htot hroom
  rw [← hT] at htot
  have HT := Lib.hid hT
  have HU := Lib.hid hU
  have hle : e0.f.b.length ≤ U := by omega
  have HTU := Lib.hid htot
  have HND := Lib.hid hnd
  have HP := Lib.hid hp
  have HO := Lib.hid ho
  have hkey := key_string (n := e0.f.name) (by unfold maxLen; omega)
  obtain ⟨nl, hnl⟩ : ∃ nl, nl = e0.f.b.length := ⟨_, rfl⟩
  rw [← hnl] at d0 hle HTU
  clear he2 he3 he4 hsl hnd hp ho hT hU htot hnl c0 h
  go_enter Tryz.func49, Tryz.ntmps49
  go_wp2_with fail
  refine (find_some _ H.out (by simp)).mono ?_
  rintro e w' ⟨rfl, rfl⟩
  have HO1 := Lib.hid ((HO.out.setCell (a := ⟨b, 1, none⟩) (fun e => hbm e.symm) (.int .i64 ((U : Int) - (nl : Int)))).drew)
  go_wp2
  go_region
  go_wp2_with (at_delete; refine wpList_delete_own _ rfl _ _ 53 9 rfl 68 string_law Tryz.underlying53 ptrR m _ _ rfl HO1.out _ _ rfl hkey ?_; intro w1 hown1 hturn1)
  go_ret
  have hg := hturn1.grown
  have t1 : Turn [b, m] w w1 := ((Turn.setCell w (by simp) _).trans (Turn.drew [] _) (by simp)).trans (Turn.grown hg (fun k hk => .inl (by cases hk; exact List.mem_singleton.2 rfl))) (l' := [m]) (by simp)
  have hfil := filter_split H.out.nodup
  have hb1 := hg.block b (by simp [World.setCell, World.drew]; omega) (by simpa using hbm)
  refine ⟨rfl, H.out.less t1 ?_ ?_, fun m' hm' => by cases hm'; exact t1⟩
  · rw [hb1]
    show (w.setCell ⟨b, 1, none⟩ _).heap[b]? = _
    rw [block_set H.out.head, ← HT.out]
    have e1 : ((U : Int) - (nl : Int)) = (T : Int) := by have := HTU.out; omega
    rw [e1]
    rfl
  · have := MapIs.deleted HND.out HP.out e0.f.name hown1
    rw [hfil] at this
    exact this

end Go.Proofs.YtjdpglmphacfjaaGreatDoor
