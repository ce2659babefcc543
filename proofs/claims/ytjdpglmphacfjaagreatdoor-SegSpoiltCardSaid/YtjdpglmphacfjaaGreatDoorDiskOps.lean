/-
  The walks of file.Disk's Sync, Delete, Sure, Append, Rename, stays.
-/
import Derived.Test.YtjdpglmphacfjaaGreatDoorDiskDrop
import Derived.Deep.QuietTactic
import Derived.BigQuiet
namespace Go.Proofs.YtjdpglmphacfjaaGreatDoor
open Go.RowKit

theorem DiskM.split {w : World} {b room : Nat} {l : List Nat} {M1 M2 : List Fm} {f : Fm} (h : DiskM w b room l (M1 ++ f :: M2)) :
    ∃ mb L1 e L2, DiskIs w b room mb (L1 ++ e :: L2) ∧ L1.map Ent.f = M1 ∧ e.f = f ∧ L2.map Ent.f = M2 ∧ blk b mb (L1 ++ e :: L2) = l := by
  obtain ⟨mb, L, hd, hm, rfl⟩ := h
  obtain ⟨L1, L', rfl, h1, h2⟩ := List.map_eq_append_iff.1 hm
  obtain ⟨e, L2, rfl, h3, h4⟩ := List.map_eq_cons_iff.1 h2
  exact ⟨mb, L1, e, L2, hd, h1, h3, h4, rfl⟩

theorem Sl.turn {w w' : World} {k : List Nat} {ao : Option Addr} {c : Nat} {l : List UInt8} (h : Sl w ao c l) (ht : Turn k w w') (hk : ∀ A, ao = some A → l ≠ [] → A.block ∉ k) : Sl w' ao c l := by
  rcases h with h | ⟨A, hA, h1, h2, hc⟩
  · exact .inl h
  · exact .inr ⟨A, hA, h1, h2, fun i hi => ht.cell (hc i hi) (by rw [add_block]; exact hk A hA (by intro e; subst e; simp at hi))⟩

/-- 'append(x, y...)' with the word on where the new row lies. -/
theorem append_bytes_at {w : World} {ops : Array Oper} {rest : List Oper} {o : Oper} {a : Act} {Q : Exit → Act → World → Prop} (hgd : o.guard = none) (s x : Operand)
    (ho : o.op = .call { callee := .builtin .append, args := #[s, x], argTypes := #[31, 31] })
    (v : Value) (l : List UInt8) (hs : a.eval s = v) (hown : w.ownsRow 0 5 1 v l.length (u8s l))
    (ao : Option Addr) (c : Nat) (l2 : List UInt8) (hx : a.eval x = .slice ao l2.length c) (hsl : Sl w ao c l2)
    (hbytes : l.length + l2.length ≤ 140737488355328)
    (h : ∀ v' w', w'.ownsRow 0 5 1 v' (l ++ l2).length (u8s (l ++ l2)) → w.grownBy w' v.ownBlock → (v'.ownBlock = v.ownBlock ∨ v'.ownBlock = some w.heap.size) → wpList Tryz.prog ops Q rest (a.put o.dst v') w') : wpList Tryz.prog ops Q (o :: rest) a w := by
  obtain ⟨i0, hi, hz0, hz1, hz2⟩ := info_parts Tryz.u8row
  rcases hsl with ⟨rfl, rfl, rfl⟩ | ⟨A, rfl, h1, h2, hc⟩
  · refine wpList_append_own_none hgd s x 31 ho 0 5 i0 1 Tryz.underlying31 hi v l.length (u8s l) hs hown hx ?_
    exact h v w (by simpa using hown) (World.grownBy.refl _ _) (.inl rfl)
  · refine wpList_append_own_at w hgd s x 31 ho 0 5 i0 (.int .u8 0) 1 1 Tryz.underlying31 hi hz0 hz1 hz2 rfl (by decide) v l.length (u8s l) hs hown A l2.length c (u8s l2) hx (by rw [u8s_length]; omega)
      (Sl.cells (.inr ⟨A, rfl, h1, h2, hc⟩)) (u8s_oneCell l2) (by unfold maxLen; omega) (by omega) (Nat.zero_le _) ?_
    intro v' w' hown' hg hn hloc
    exact h v' w' (by rw [List.length_append, u8s_append]; exact hown') hg hloc

theorem DiskIs.row_ne {w : World} {b room : Nat} {mb : Option Nat} {L1 L2 : List Ent} {e : Ent} (h : DiskIs w b room mb (L1 ++ e :: L2)) : b ≠ e.c ∧ e.r ≠ some e.c ∧ e.r ≠ some b := by
  have hap := h.apart
  rw [blk_split] at hap
  cases hr : e.r with
  | none => rw [hr] at hap; simp at hap; grind
  | some k => rw [hr] at hap; simp [List.nodup_append] at hap; grind

/-- What is synced. -/
def synced (f : Fm) : Fm := ⟨f.name, f.b, f.b.length, true⟩

set_option maxHeartbeats 1000000 in
theorem sync_some {b room : Nat} {l : List Nat} {M1 M2 : List Fm} {f : Fm} (w : World) (h : DiskM w b room l (M1 ++ f :: M2)) :
    Calls Tryz.prog 34 #[.pointer (some ⟨b, 0, none⟩), .string ⟨f.name.toArray⟩] w fun e w' =>
      e = .returned (.int .i64 0) ∧ DiskM w' b room l (M1 ++ synced f :: M2) ∧ Turn l w w' := by
  obtain ⟨mb, L1, e0, L2, hd, rfl, rfl, rfl, rfl⟩ := h.split
  have H := Lib.hid hd
  obtain ⟨v, he1, he2, he3, he4⟩ := hd.ents e0 (by simp)
  obtain ⟨hbc, hrc, hrb⟩ := hd.row_ne
  have HR := Lib.hid he2
  have HV := Lib.hid he3
  have HE := Lib.hid he1
  obtain ⟨ao, cp, rfl, hsl⟩ := row_slice he2
  obtain ⟨d0, d1, d2, g0, g1, g2⟩ := three_cells he1
  have hsz := lt_of_heap he1
  obtain ⟨nl, hnl⟩ : ∃ nl, nl = e0.f.b.length := ⟨_, rfl⟩
  rw [← hnl] at d0
  have HN := Lib.hid hnl
  clear he1 he2 he3 he4 hsl hd h hnl
  go_enter Tryz.func34, Tryz.ntmps34
  go_wp2_with fail
  refine (find_some _ H.out (by simp)).mono ?_
  rintro e w' ⟨rfl, rfl⟩
  go_wp2
  go_ret
  have t1 : Turn [e0.c] w ((w.setCell ⟨e0.c, 1, none⟩ (.int .i64 (nl : Int))).setCell ⟨e0.c, 2, none⟩ (.bool true)) :=
    (Turn.setCell w (by simp) _).trans (Turn.setCell (l := [e0.c]) _ (by simp) _) (by simp)
  have t2 : Turn (blk b mb (L1 ++ e0 :: L2)) w ((w.setCell ⟨e0.c, 1, none⟩ (.int .i64 (nl : Int))).setCell ⟨e0.c, 2, none⟩ (.bool true)) := t1.mono (fun i hi => .inl (by rw [blk_split]; simp at hi ⊢; simp [hi]))
  have hb := HE.out
  refine ⟨rfl, ⟨mb, L1 ++ ⟨synced e0.f, e0.c, e0.r⟩ :: L2, H.out.put (t1.mono (fun i hi => .inl (by simp at hi; simp [Ent.blocks, hi]))) ?_ ?_ rfl rfl (fun k hk => .inl hk) ?_, by simp, by simp [blk_split]⟩, t2⟩
  · rw [block_other hbc, block_other hbc, H.out.head]
    simp [tot, synced]
  · refine ⟨_, ?_, ownsRow_turn HR.out t1 (fun k hk hm => hrc (by rw [← HV.out, hk]; simp at hm; rw [hm])), HV.out, by simp [synced]⟩
    rw [block_set (block_set HE.out _) _, HN.out]
    rfl
  · have := H.out.room1
    simp [tot, synced] at this ⊢
    exact this

set_option maxHeartbeats 400000 in
theorem sync_none {b room : Nat} {l : List Nat} {M : List Fm} {n : List UInt8} (w : World) (h : DiskM w b room l M) (hn : n ∉ M.map Fm.name) (hl : n.length ≤ 9223372036854775807) :
    Calls Tryz.prog 34 #[.pointer (some ⟨b, 0, none⟩), .string ⟨n.toArray⟩] w fun e w' => e = .returned (.int .i64 6) ∧ w = w' := by
  obtain ⟨mb, L, hd, rfl, rfl⟩ := h
  rw [List.map_map] at hn
  have H := Lib.hid hd
  have HN := Lib.hid hn
  clear hd hn
  go_enter Tryz.func34, Tryz.ntmps34
  go_wp2_with fail
  refine (find_none _ H.out HN.out hl).mono ?_
  rintro e w' ⟨rfl, rfl⟩
  go_wp2
  go_ret
  exact ⟨rfl, rfl⟩

set_option maxHeartbeats 400000 in
theorem sure_some {b room : Nat} {l : List Nat} {M1 M2 : List Fm} {f : Fm} (w : World) (h : DiskM w b room l (M1 ++ f :: M2)) :
    Calls Tryz.prog 63 #[.pointer (some ⟨b, 0, none⟩), .string ⟨f.name.toArray⟩] w fun e w' => e = .returned (.int .i64 (f.sure : Int)) ∧ w = w' := by
  obtain ⟨mb, L1, e0, L2, hd, rfl, rfl, rfl, rfl⟩ := h.split
  have H := Lib.hid hd
  obtain ⟨v, he1, -, -, -⟩ := hd.ents e0 (by simp)
  obtain ⟨d0, d1, d2, g0, g1, g2⟩ := three_cells he1
  clear he1 hd h d0
  go_enter Tryz.func63, Tryz.ntmps63
  go_wp2_with fail
  refine (find_some _ H.out (by simp)).mono ?_
  rintro e w' ⟨rfl, rfl⟩
  go_wp2
  go_ret
  exact ⟨rfl, rfl⟩

set_option maxHeartbeats 400000 in
theorem sure_none {b room : Nat} {l : List Nat} {M : List Fm} {n : List UInt8} (w : World) (h : DiskM w b room l M) (hn : n ∉ M.map Fm.name) (hl : n.length ≤ 9223372036854775807) :
    Calls Tryz.prog 63 #[.pointer (some ⟨b, 0, none⟩), .string ⟨n.toArray⟩] w fun e w' => e = .returned (.int .i64 0) ∧ w = w' := by
  obtain ⟨mb, L, hd, rfl, rfl⟩ := h
  rw [List.map_map] at hn
  have H := Lib.hid hd
  have HN := Lib.hid hn
  clear hd hn
  go_enter Tryz.func63, Tryz.ntmps63
  go_wp2_with fail
  refine (find_none _ H.out HN.out hl).mono ?_
  rintro e w' ⟨rfl, rfl⟩
  go_wp2
  go_ret
  exact ⟨rfl, rfl⟩

set_option maxHeartbeats 400000 in
theorem delete_some {b room : Nat} {l : List Nat} {M1 M2 : List Fm} {f : Fm} (w : World) (h : DiskM w b room l (M1 ++ f :: M2)) :
    Calls Tryz.prog 28 #[.pointer (some ⟨b, 0, none⟩), .string ⟨f.name.toArray⟩] w fun e w' =>
      e = .returned (.int .i64 0) ∧ Turn l w w' ∧ ∃ l', DiskM w' b room l' (M1 ++ M2) ∧ ∀ i ∈ l', i ∈ l := by
  obtain ⟨mb, L1, e0, L2, hd, rfl, rfl, rfl, rfl⟩ := h.split
  have H := Lib.hid hd
  clear hd h
  go_enter Tryz.func28, Tryz.ntmps28
  go_wp2_with fail
  refine (drop_some _ H.out).mono ?_
  rintro e w1 ⟨rfl, hd1, ht1⟩
  have H1 := Lib.hid hd1
  have T1 := Lib.hid ht1
  clear hd1 ht1
  go_wp2
  go_ret
  have hsub : ∀ i ∈ blk b mb (L1 ++ L2), i ∈ blk b mb (L1 ++ e0 :: L2) := by
    intro i hi
    simp only [blk, List.flatMap_append, List.flatMap_cons, List.mem_cons, List.mem_append] at hi ⊢
    grind
  refine ⟨rfl, ?_, _, ⟨mb, L1 ++ L2, H1.out, by simp, rfl⟩, hsub⟩
  cases mb with
  | none =>
    have := H.out.map.2
    simp at this
  | some m => exact (T1.out m rfl).mono (fun i hi => .inl (by simp at hi; rcases hi with rfl | rfl <;> simp [blk]))

set_option maxHeartbeats 400000 in
theorem delete_none {b room : Nat} {l : List Nat} {M : List Fm} {n : List UInt8} (w : World) (h : DiskM w b room l M) (hn : n ∉ M.map Fm.name) (hl : n.length ≤ 9223372036854775807) :
    Calls Tryz.prog 28 #[.pointer (some ⟨b, 0, none⟩), .string ⟨n.toArray⟩] w fun e w' => e = .returned (.int .i64 6) ∧ w = w' := by
  obtain ⟨mb, L, hd, rfl, rfl⟩ := h
  rw [List.map_map] at hn
  have H := Lib.hid hd
  have HN := Lib.hid hn
  clear hd hn
  go_enter Tryz.func28, Tryz.ntmps28
  go_wp2_with fail
  refine (drop_none _ H.out HN.out hl).mono ?_
  rintro e w' ⟨rfl, rfl⟩
  go_wp2
  go_ret
  exact ⟨rfl, rfl⟩

end Go.Proofs.YtjdpglmphacfjaaGreatDoor
