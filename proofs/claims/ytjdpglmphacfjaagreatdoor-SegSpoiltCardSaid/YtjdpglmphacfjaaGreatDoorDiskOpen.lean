/-
  The walks of file.Disk's open and drop.
-/
import Derived.Test.YtjdpglmphacfjaaGreatDoorDiskReads
namespace Go.Proofs.YtjdpglmphacfjaaGreatDoor
open Go.RowKit

theorem find_some {b room : Nat} {mb : Option Nat} {L : List Ent} {e0 : Ent} (w : World) (h : DiskIs w b room mb L) (he : e0 ∈ L) :
    Calls Tryz.prog 37 #[.pointer (some ⟨b, 0, none⟩), .string ⟨e0.f.name.toArray⟩] w fun e w' => e = .returned (.pointer (some ⟨e0.c, 0, none⟩)) ∧ w = w' := by
  have h1 := okName_len (h.names e0 he)
  have := find_calls b room mb L e0.f.name w h (by omega)
  rw [locE_some h.nodup he] at this
  exact this

theorem find_none {b room : Nat} {mb : Option Nat} {L : List Ent} {n : List UInt8} (w : World) (h : DiskIs w b room mb L) (hn : n ∉ L.map (fun e => e.f.name)) (hl : n.length ≤ 9223372036854775807) :
    Calls Tryz.prog 37 #[.pointer (some ⟨b, 0, none⟩), .string ⟨n.toArray⟩] w fun e w' => e = .returned (.pointer none) ∧ w = w' := by
  have := find_calls b room mb L n w h hl
  rw [locE_none hn] at this
  exact this

set_option maxHeartbeats 400000 in
theorem open_old {b room : Nat} {mb : Option Nat} {L : List Ent} {e0 : Ent} (w : World) (h : DiskIs w b room mb L) (he : e0 ∈ L) :
    Calls Tryz.prog 39 #[.pointer (some ⟨b, 0, none⟩), .string ⟨e0.f.name.toArray⟩] w fun e w' => e = .returned (.pointer (some ⟨e0.c, 0, none⟩)) ∧ w = w' := by
  have H := Lib.hid h
  have HE := Lib.hid he
  clear h he
  go_enter Tryz.func39, Tryz.ntmps39
  go_wp2_with fail
  refine (find_some _ H.out HE.out).mono ?_
  rintro e w' ⟨rfl, rfl⟩
  go_wp2
  go_ret
  exact ⟨rfl, rfl⟩

/-- What is made of a name. -/
def fresh (n : List UInt8) (c : Nat) : Ent := ⟨⟨n, [], 0, false⟩, c, none⟩

theorem fresh_name (n : List UInt8) (c : Nat) : (fresh n c).f.name = n := rfl

/-- A file more. -/
theorem DiskIs.more {w w' : World} {b room : Nat} {mb mb' : Option Nat} {L : List Ent} {n : List UInt8} {c : Nat} (h : DiskIs w b room mb L) (hok : okName n = true) (hc : w.heap.size ≤ c) (ht : Turn (b :: mb.toList) w w')
    (hb : w'.heap[b]? = some (.cells #[.int .i64 (room : Int), .int .i64 (tot (L.map Ent.f) : Nat), .map mb'] 55 (0, 0)))
    (hmap : MapIs w' mb' (L.map Ent.key ++ [(n, c)])) (hcont : w'.heap[c]? = some (.cells #[.slice none 0 0, .int .i64 0, .bool false] 71 (0, 0)))
    (hmb : ∀ m, mb' = some m → mb = some m ∨ (w.heap.size ≤ m ∧ m ≠ c)) : DiskIs w' b room mb' (L ++ [fresh n c]) := by
  have hap := h.apart
  have hlt := h.lt
  have e1 : (L ++ [fresh n c]).map Ent.f = L.map Ent.f ++ [⟨n, [], 0, false⟩] := by simp [fresh]
  have e2 : tot ((L ++ [fresh n c]).map Ent.f) = tot (L.map Ent.f) := by rw [e1, tot_append]; simp [tot]
  have e3 : (L ++ [fresh n c]).map Ent.key = L.map Ent.key ++ [(n, c)] := by simp [fresh, Ent.key]
  refine ⟨by rw [e2]; exact hb, by rw [e3]; exact hmap, ?_, ?_, by rw [e2]; exact h.room1, h.room2, ?_⟩
  · intro x hx
    rcases List.mem_append.1 hx with hx | hx
    · refine (h.ents x hx).turn ht (fun k hk hm => ?_)
      have hk' : k ∈ L.flatMap Ent.blocks := List.mem_flatMap.2 ⟨x, hx, hk⟩
      clear hlt hmb hmap hcont hb ht
      unfold blk at hap
      grind [List.nodup_append]
    · obtain rfl : x = fresh n c := by simpa using hx
      exact ⟨.slice none 0 0, hcont, World.ownsRow_nil _ _ _ _, rfl, by simp [fresh]⟩
  · have e4 : blk b mb' (L ++ [fresh n c]) = b :: (mb'.toList ++ (L.flatMap Ent.blocks ++ [c])) := by simp [blk, fresh, Ent.blocks]
    rw [e4]
    have hb1 : b < w.heap.size := hlt b (by simp [blk])
    have hL1 : ∀ k ∈ L.flatMap Ent.blocks, k < w.heap.size := fun k hk => hlt k (by simp only [blk, List.mem_cons, List.mem_append]; exact .inr (.inr hk))
    have hm1 : ∀ m, mb = some m → m < w.heap.size := fun m hm => hlt m (by simp [blk, hm])
    unfold blk at hap
    clear hmap hcont hb ht hlt e1 e2 e3 e4
    generalize L.flatMap Ent.blocks = B at *
    cases mb' with
    | none => cases mb <;> grind [List.nodup_append]
    | some m =>
      rcases hmb m rfl with h1 | h1
      · subst h1; have := hm1 m rfl; grind [List.nodup_append]
      · cases mb <;> grind [List.nodup_append]
  · intro x hx
    rcases List.mem_append.1 hx with hx | hx
    · exact h.names x hx
    · obtain rfl : x = fresh n c := by simpa using hx
      exact hok

set_option maxHeartbeats 1000000 in
set_option maxRecDepth 100000 in
theorem open_new {b room : Nat} {mb : Option Nat} {L : List Ent} {n : List UInt8} (w : World) (h : DiskIs w b room mb L) (hn : n ∉ L.map (fun e => e.f.name)) (hok : okName n = true) :
    Calls Tryz.prog 39 #[.pointer (some ⟨b, 0, none⟩), .string ⟨n.toArray⟩] w fun e w' =>
      ∃ c mb', e = .returned (.pointer (some ⟨c, 0, none⟩)) ∧ DiskIs w' b room mb' (L ++ [fresh n c]) ∧ Turn (blk b mb L) w w' ∧ w.heap.size ≤ c ∧ (∀ m, mb' = some m → mb = some m ∨ w.heap.size ≤ m) := by
  have H := Lib.hid h
  have HN := Lib.hid hn
  have hlen := okName_len hok
  have hl : n.length ≤ 9223372036854775807 := by omega
  have hblt := lt_of_heap h.head
  obtain ⟨c0, c1, c2, f0, f1, f2⟩ := three_cells h.head
  clear h hn hlen
  cases mb with
  | some m =>
    have hm := H.out.map.lt
    obtain ⟨hnd, ⟨h0, _⟩ | ⟨m', es, hme, ho, hp⟩⟩ := H.out.map
    · cases h0
    · cases hme
      have HO := Lib.hid (ho.alloc (.cells #[.slice none 0 0, .int .i64 0, .bool false] 71))
      have hkey := key_string (n := n) (by unfold maxLen; omega)
      have hq := fun wx : World => run_eql_map_nil (P := Tryz.prog) wx 53 9 68 (some m) Tryz.underlying53
      have hfew := H.out.few
      have HF : Hid ((L.map Ent.key).length < maxLen) := by rw [List.length_map]; unfold maxLen; show _ < _; omega
      clear ho c0 c1 hfew
      go_enter Tryz.func39, Tryz.ntmps39
      go_wp2_with fail
      refine (find_none _ H.out HN.out hl).mono ?_
      rintro e w' ⟨rfl, rfl⟩
      go_wp2_with (at_mapUpdate; refine wpList_mapUpdate_in _ rfl _ _ _ 53 rfl 9 68 string_law Tryz.underlying53 ptrR m _ _ rfl HO.out HF.out _ _ _ rfl rfl hkey (.lit (.int .i64 (w.heap.size : Nat))) [] rfl ?_; intro w1 hown1 hturn1)
      go_ret
      have hnk : n ∉ (L.map Ent.key).map Prod.fst := by rw [List.map_map]; exact HN.out
      have hnew := heap_alloc_new w (.cells #[.slice none 0 0, .int .i64 0, .bool false] 71)
      have t1 : Turn (b :: (some m).toList) w w1 := (Turn.alloc _ w _).trans (Turn.grown hturn1.grown (fun k hk => .inl (by cases hk; exact List.mem_singleton.2 rfl))) (l' := [m]) (by simp)
      have hbm : b ≠ m := by
        have := H.out.apart
        simp [blk] at this
        exact this.1.1
      have hbn : b ≠ w.heap.size := by omega
      have hb1 := hturn1.grown.block b (by simp; omega) (by simpa using hbm)
      refine ⟨w.heap.size, some m, rfl, H.out.more hok (Nat.le_refl _) t1 ?_ (MapIs.stored hnd hp n w.heap.size hnk hown1) ?_ (fun m' hm' => .inl hm'), ?_, Nat.le_refl _, fun m' hm' => .inl hm'⟩
      · rw [hb1, Below.heap_alloc w _ b hblt]
        exact H.out.head
      · rw [hturn1.grown.block w.heap.size (by simp) (by simpa using fun e => by omega)]
        exact hnew
      · exact t1.mono (fun i hi => .inl (by simp [blk] at hi ⊢; rcases hi with h | h <;> simp [h]))
  | none =>
    obtain ⟨hnd, ⟨_, hL⟩ | ⟨m', es, hme, ho, hp⟩⟩ := H.out.map
    · have hkey := key_string (n := n) (by unfold maxLen; omega)
      have hq := fun wx : World => run_eql_map_nil (P := Tryz.prog) wx 53 9 68 none Tryz.underlying53
      have hmm := @run_makeMap Tryz.prog
      obtain rfl : L = [] := List.map_eq_nil_iff.1 hL
      have hsz : (w.setCell ⟨b, 2, none⟩ (.map (some w.heap.size))).heap.size = w.heap.size := by simp [World.setCell]
      have ho := (World.ownsMap_made (w.setCell ⟨b, 2, none⟩ (.map (some w.heap.size))) Tryz.prog 9 ptrR).alloc (.cells #[.slice none 0 0, .int .i64 0, .bool false] 71)
      rw [hsz] at ho
      have HO := Lib.hid ho
      have HZ := Lib.hid hsz
      clear c0 c1 ho hsz
      go_enter Tryz.func39, Tryz.ntmps39
      go_wp2_with fail
      refine (find_none _ H.out HN.out hl).mono ?_
      rintro e w' ⟨rfl, rfl⟩
      go_wp2_with (at_mapUpdate; refine wpList_mapUpdate_in _ rfl _ _ _ 53 rfl 9 68 string_law Tryz.underlying53 ptrR w.heap.size 0 _ rfl HO.out (by unfold maxLen; omega) _ _ _ rfl rfl hkey (.lit (.int .i64 ((w.heap.size + 1 : Nat) : Int))) [] rfl ?_; intro w1 hown1 hturn1)
      go_ret
      have hsz := HZ.out
      have t0 : Turn (b :: (none : Option Nat).toList) w (((w.setCell ⟨b, 2, none⟩ (.map (some w.heap.size))).alloc (.map #[] 0)).alloc (.cells #[.slice none 0 0, .int .i64 0, .bool false] 71)) :=
        ((Turn.setCell w (by simp) _).trans (Turn.alloc [] _ _) (by simp)).trans (Turn.alloc [] _ _) (by simp)
      have t1 : Turn (b :: (none : Option Nat).toList) w w1 := t0.trans (Turn.grown hturn1.grown (fun k hk => .inl (by cases hk; exact List.mem_singleton.2 rfl))) (l' := [w.heap.size]) (by simp)
      have hg := hturn1.grown
      have hb1 := hg.block b (by simp; omega) (by simpa using fun e => by omega)
      refine ⟨w.heap.size + 1, some w.heap.size, rfl, H.out.more hok (by omega) t1 ?_ (MapIs.stored (L := []) hnd (es := []) (by simp) n (w.heap.size + 1) (by simp) hown1) ?_ (fun m' hm' => .inr (by cases hm'; omega)), ?_, by omega, fun m' hm' => .inr (by cases hm'; omega)⟩
      · rw [hb1, Below.heap_alloc _ _ b (by simp; omega), Below.heap_alloc _ _ b (by omega), block_set H.out.head]
        rfl
      · rw [hg.block (w.heap.size + 1) (by simp) (by simp)]
        have := heap_alloc_new ((w.setCell ⟨b, 2, none⟩ (.map (some w.heap.size))).alloc (.map #[] 0)) (.cells #[.slice none 0 0, .int .i64 0, .bool false] 71)
        rw [show ((w.setCell ⟨b, 2, none⟩ (.map (some w.heap.size))).alloc (.map #[] 0)).heap.size = w.heap.size + 1 by simp] at this
        exact this
      · exact t1.mono (fun i hi => .inl (by simp [blk] at hi ⊢; exact hi))
    · cases hme

end Go.Proofs.YtjdpglmphacfjaaGreatDoor
