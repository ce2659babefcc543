/-
  The walk of file.Disk's Append.
-/
import Derived.Test.YtjdpglmphacfjaaGreatDoorDiskOps
namespace Go.Proofs.YtjdpglmphacfjaaGreatDoor
open Go.RowKit

set_option maxHeartbeats 400000 in
theorem append_form {b : Nat} {ao : Option Addr} {c k : Nat} {n : List UInt8} (w : World) (hl : n.length ≤ 9223372036854775807) (hok : okName n = false) :
    Calls Tryz.prog 20 #[.pointer (some ⟨b, 0, none⟩), .string ⟨n.toArray⟩, .slice ao k c] w fun e w' => e = .returned (.int .i64 1) ∧ w = w' := by
  go_enter Tryz.func20, Tryz.ntmps20
  go_wp2_with fail
  refine (mayName_calls n _ hl).mono ?_
  rintro e w' ⟨rfl, rfl⟩
  go_wp2
  go_ret
  exact ⟨rfl, rfl⟩

set_option maxHeartbeats 400000 in
theorem append_full {b room : Nat} {l : List Nat} {M : List Fm} {ao : Option Addr} {c k : Nat} {n : List UInt8} (w : World) (h : DiskM w b room l M) (hok : okName n = true) (hfull : room < tot M + k) :
    Calls Tryz.prog 20 #[.pointer (some ⟨b, 0, none⟩), .string ⟨n.toArray⟩, .slice ao k c] w fun e w' => e = .returned (.int .i64 5) ∧ Turn [] w w' := by
  have hlen := okName_len hok
  obtain ⟨ht1, ht2⟩ := h.total
  obtain ⟨mb, L, hd, rfl, rfl⟩ := h
  obtain ⟨c0, c1, -, -, -, -⟩ := three_cells hd.head
  clear hd
  generalize tot (L.map Ent.f) = T at *
  have hlt : (room : Int) - (T : Int) < (k : Int) := by omega
  have hlt2 : decide ((room : Int) - (T : Int) < (k : Int)) = true := by simpa using hlt
  go_enter Tryz.func20, Tryz.ntmps20
  go_wp2_with fail
  refine (mayName_calls n _ (by omega)).mono ?_
  rintro e w' ⟨rfl, rfl⟩
  go_wp2
  go_quiet (fail)
  go_wp2
  go_ret
  exact ⟨rfl, Turn.drewN [] _ _⟩

/-- What is appended to. -/
def longer (f : Fm) (bs : List UInt8) : Fm := ⟨f.name, f.b ++ bs, f.sure, f.named⟩

/-- The append's end: behind 'open'. -/
theorem DiskIs.longer {w w' : World} {b room : Nat} {mb : Option Nat} {L1 L2 : List Ent} {e : Ent} {bs : List UInt8} {v v' : Value} {w2 : World} (h : DiskIs w b room mb (L1 ++ e :: L2)) (he : w.heap[e.c]? = some (.cells #[v, .int .i64 (e.f.sure : Int), .bool e.f.named] 71 (0, 0)))
    (hv : v.ownBlock = e.r) (hg : w.grownBy w2 v.ownBlock) (hown : w2.ownsRow 0 5 1 v' (e.f.b ++ bs).length (u8s (e.f.b ++ bs))) (hloc : v'.ownBlock = v.ownBlock ∨ v'.ownBlock = some w.heap.size)
    (hw : w' = (w2.setCell ⟨e.c, 0, none⟩ v').setCell ⟨b, 1, none⟩ (.int .i64 ((tot ((L1 ++ e :: L2).map Ent.f) + bs.length : Nat) : Int))) (hroom : tot ((L1 ++ e :: L2).map Ent.f) + bs.length ≤ room) :
    DiskIs w' b room mb (L1 ++ ⟨Fm.mk e.f.name (e.f.b ++ bs) e.f.sure e.f.named, e.c, v'.ownBlock⟩ :: L2) ∧ Turn (blk b mb (L1 ++ e :: L2)) w w' := by
  obtain ⟨hbc, hrc, hrb⟩ := h.row_ne
  have hes : e.f.sure ≤ e.f.b.length := by obtain ⟨_, _, _, _, h4⟩ := h.ents e (by simp); exact h4
  have hbl := lt_of_heap h.head
  have hcl := lt_of_heap he
  have t0 : Turn e.r.toList w w2 := Turn.grown hg (fun k hk => .inl (by rw [hv] at hk; simp [hk]))
  have htot : tot ((L1 ++ ⟨Fm.mk e.f.name (e.f.b ++ bs) e.f.sure e.f.named, e.c, v'.ownBlock⟩ :: L2).map Ent.f) = tot ((L1 ++ e :: L2).map Ent.f) + bs.length := by
    simp only [List.map_append, List.map_cons, tot_append, tot_cons, List.length_append]
    omega
  have t1 : Turn (b :: e.blocks) w w' := by
    subst hw
    refine ((t0.mono (l' := b :: e.blocks) (fun i hi => .inl (by simp at hi; simp [Ent.blocks, hi]))).trans (Turn.setCell (l := [e.c]) _ (by simp) _) (by simp [Ent.blocks])).trans (Turn.setCell (l := [b]) _ (by simp) _) (by simp)
  refine ⟨h.put t1 ?_ ?_ rfl rfl ?_ (by rw [htot]; exact hroom), t1.mono (fun i hi => .inl (by rw [blk_split]; simp [Ent.blocks] at hi ⊢; rcases hi with h | h | h <;> simp [h]))⟩
  · have hb2 := t0.heap h.head (by simpa using hrb)
    rw [hw, htot, block_set (by rw [block_other hbc]; exact hb2)]
    rfl
  · refine ⟨v', ?_, ?_, rfl, by simp; omega⟩
    · have hc2 := t0.heap he (by simpa using hrc)
      rw [hw, block_other (fun e => hbc e.symm), block_set hc2]
      rfl
    · rw [hw]
      have hk : ∀ k, v'.ownBlock = some k → k ≠ e.c ∧ k ≠ b := by
        intro k hk
        rcases hloc with h1 | h1
        · rw [hk, hv] at h1
          exact ⟨fun e2 => hrc (by rw [← h1, e2]), fun e2 => hrb (by rw [← h1, e2])⟩
        · rw [hk] at h1
          cases h1
          exact ⟨by omega, by omega⟩
      exact ownsRow_turn (ownsRow_turn hown (Turn.setCell (l := [e.c]) _ (by simp) _) (fun k h1 => by simpa using (hk k h1).1)) (Turn.setCell (l := [b]) _ (by simp) _) (fun k h1 => by simpa using (hk k h1).2)
  · intro k hk
    rcases hloc with h1 | h1
    · exact .inl (by rw [← hv, ← h1]; exact hk)
    · have hk' : v'.ownBlock = some k := hk
      rw [hk'] at h1
      cases h1
      exact .inr (Nat.le_refl _)

/-- Where a file of that name stands, or is to stand. -/
def OpenTo (M : List Fm) (n : List UInt8) (A : List Fm) (g : Fm) (B : List Fm) : Prop :=
  (M = A ++ g :: B ∧ g.name = n) ∨ (M = A ∧ B = [] ∧ g = ⟨n, [], 0, false⟩ ∧ n ∉ M.map Fm.name)

theorem OpenTo.tot {M A B : List Fm} {n : List UInt8} {g : Fm} (h : OpenTo M n A g B) : tot (A ++ g :: B) = tot M := by
  rcases h with ⟨rfl, _⟩ | ⟨rfl, rfl, rfl, _⟩
  · rfl
  · simp [Go.Proofs.YtjdpglmphacfjaaGreatDoor.tot]

theorem open_any {b room : Nat} {l : List Nat} {M A B : List Fm} {n : List UInt8} {g : Fm} (w : World) (h : DiskM w b room l M) (ho : OpenTo M n A g B) (hok : okName n = true) :
    Calls Tryz.prog 39 #[.pointer (some ⟨b, 0, none⟩), .string ⟨n.toArray⟩] w fun e w' =>
      ∃ mb L1 e0 L2, e = .returned (.pointer (some ⟨e0.c, 0, none⟩)) ∧ DiskIs w' b room mb (L1 ++ e0 :: L2) ∧ L1.map Ent.f = A ∧ e0.f = g ∧ L2.map Ent.f = B ∧ Turn l w w' ∧ ∀ i ∈ blk b mb (L1 ++ e0 :: L2), i ∈ l ∨ w.heap.size ≤ i := by
  rcases ho with ⟨rfl, rfl⟩ | ⟨rfl, rfl, rfl, hn⟩
  · obtain ⟨mb, L1, e0, L2, hd, rfl, rfl, rfl, rfl⟩ := h.split
    refine (open_old w hd (e0 := e0) (by simp)).mono ?_
    rintro e w' ⟨rfl, rfl⟩
    exact ⟨mb, L1, e0, L2, rfl, hd, rfl, rfl, rfl, Turn.refl _ _, fun i hi => .inl hi⟩
  · obtain ⟨mb, L, hd, rfl, rfl⟩ := h
    rw [List.map_map] at hn
    refine (open_new w hd hn hok).mono ?_
    rintro e w' ⟨c, mb', rfl, hd', ht, hc, hmb⟩
    refine ⟨mb', L, fresh n c, [], rfl, hd', rfl, rfl, rfl, ht, fun i hi => ?_⟩
    simp only [blk, List.flatMap_append, List.flatMap_cons, List.flatMap_nil, List.mem_cons, List.mem_append, fresh, Ent.blocks, Option.mem_toList, Option.toList_none, List.not_mem_nil, or_false] at hi ⊢
    rcases hi with h | h | h | h
    · exact .inl (.inl h)
    · rcases hmb i h with h1 | h1
      · exact .inl (.inr (.inl h1))
      · exact .inr h1
    · exact .inl (.inr (.inr h))
    · exact .inr (by omega)

set_option maxHeartbeats 2000000 in
set_option maxRecDepth 100000 in
theorem append_any {b room : Nat} {l : List Nat} {M A B : List Fm} {n : List UInt8} {g : Fm} {ao : Option Addr} {c : Nat} {bs : List UInt8} (w : World) (h : DiskM w b room l M) (ho : OpenTo M n A g B) (hok : okName n = true)
    (hs : Sl w ao c bs) (hsl : ∀ x, ao = some x → bs ≠ [] → x.block ∉ l) (hroom : tot M + bs.length ≤ room) :
    Calls Tryz.prog 20 #[.pointer (some ⟨b, 0, none⟩), .string ⟨n.toArray⟩, .slice ao bs.length c] w fun e w' =>
      e = .returned (.int .i64 0) ∧ Turn l w w' ∧ ∃ l', DiskM w' b room l' (A ++ longer g bs :: B) ∧ ∀ i ∈ l', i ∈ l ∨ w.heap.size ≤ i := by
  obtain ⟨ht1, ht2⟩ := h.total
  have hlen := okName_len hok
  have htot := ho.tot
  have HO := Lib.hid (fun (wx : World) (hx : DiskM wx b room l M) => open_any wx hx ho hok)
  have HD := Lib.hid h
  have HS := Lib.hid hs
  have HSL := Lib.hid hsl
  obtain ⟨c0, c1, -, -, -, -⟩ : w.cell? ⟨b, 0, none⟩ = some (.int .i64 (room : Int)) ∧ w.cell? ⟨b, 1, none⟩ = some (.int .i64 (tot M : Nat)) ∧ True ∧ True ∧ True ∧ True := by
    obtain ⟨mb, L, hd, rfl, rfl⟩ := h
    obtain ⟨c0, c1, -, -, -, -⟩ := three_cells hd.head
    exact ⟨c0, c1, trivial, trivial, trivial, trivial⟩
  obtain ⟨T, hT⟩ : ∃ T, T = tot M := ⟨_, rfl⟩
  rw [← hT] at c1 ht1 hroom htot
  have HT := Lib.hid htot
  obtain ⟨nl, hnl⟩ : ∃ nl, nl = bs.length := ⟨_, rfl⟩
  have hle : ¬ (room : Int) - (T : Int) < (nl : Int) := by omega
  have hle2 : decide ((room : Int) - (T : Int) < (nl : Int)) = false := by simpa using hle
  rw [← hnl] at hroom
  have HN := Lib.hid hnl
  rw [show Value.slice ao bs.length c = Value.slice ao nl c by rw [hnl]]
  clear h ho hs hsl htot hT hnl
  go_enter Tryz.func20, Tryz.ntmps20
  go_wp2_with fail
  refine (mayName_calls n _ (by omega)).mono ?_
  rintro e w' ⟨rfl, rfl⟩
  go_wp2
  go_quiet (fail)
  go_wp2_with fail
  refine (HO.out _ (HD.out.turn (Turn.drewN [] w _) (by simp))).mono ?_
  rintro e w1 ⟨mb, L1, e0, L2, rfl, hd1, hA, hg1, hB, ht, hsub⟩
  have H1 := Lib.hid hd1
  have hes := Lib.hid (show tot ((L1 ++ e0 :: L2).map Ent.f) = T by rw [List.map_append, List.map_cons, hA, hg1, hB]; exact HT.out)
  obtain ⟨v, he1, he2, he3, he4⟩ := hd1.ents e0 (by simp)
  have hel : e0.f.b.length ≤ T := by
    have h1 : e0.f.b.length ≤ tot ((L1 ++ e0 :: L2).map Ent.f) := by simp only [List.map_append, List.map_cons, tot_append, tot_cons]; omega
    rw [hes.out] at h1
    exact h1
  have HR := Lib.hid he2
  have HV := Lib.hid he3
  have HE := Lib.hid he1
  have HA := Lib.hid hA
  have HG := Lib.hid hg1
  have HB := Lib.hid hB
  have T1 := Lib.hid ht
  have HSUB := Lib.hid hsub
  obtain ⟨d0, -, -, g0, -, -⟩ := three_cells he1
  have k1 := (three_cells hd1.head).2.1
  have q1 := (three_cells hd1.head).2.2.2.2.1
  rw [hes.out] at k1
  obtain ⟨hbc, hrc, hrb⟩ := hd1.row_ne
  have t1 : Turn l w w1 := ⟨ht.os, ht.tape, ht.output, ht.size, ht.block⟩
  have HS1 := Lib.hid (HS.out.turn t1 HSL.out)
  have T2 := Lib.hid t1
  have hcl := lt_of_heap he1
  have hbl := lt_of_heap hd1.head
  clear he1 he2 he3 he4 hA hg1 hB ht hsub hd1 t1 c0 c1
  go_wp2_with (at_builtin; refine append_bytes_at rfl (.tmp 35) (.tmp 36) rfl v e0.f.b rfl HR.out ao c bs (by rw [← HN.out]; rfl) HS1.out (by rw [← HN.out]; omega) ?_; intro v' w2 hown hg hloc; obtain ⟨ao', cp', hv', _⟩ := row_slice hown; have t0 : Turn e0.r.toList w1 w2 := Turn.grown hg (fun k hk => .inl (by rw [HV.out] at hk; simp [hk])); have he2 := t0.heap HE.out (by simpa using hrc); have hb2 := t0.heap H1.out.head (by simpa using hrb); rw [hes.out] at hb2; obtain ⟨m0, -, -, n0, -, -⟩ := three_cells he2; obtain ⟨-, m1, -, -, n1, -⟩ := three_cells hb2; clear k1 q1 d0 g0 he2 hb2 t0; have HG2 := Lib.hid hg; have HL2 := Lib.hid hloc; have HV2 := Lib.hid hv'; have HW2 := Lib.hid hown; clear hg hloc hown; subst hv')
  go_ret
  have hfin := H1.out.longer (bs := bs) HE.out HV.out HG2.out HW2.out HL2.out rfl (by rw [hes.out, ← HN.out]; exact hroom)
  rw [hes.out, ← HN.out] at hfin
  rw [List.length_append, Int.natCast_add] at hfin
  refine ⟨rfl, T2.out.trans hfin.2 HSUB.out, _, ⟨mb, _, hfin.1, ?_, rfl⟩, ?_⟩
  · rw [List.map_append, List.map_cons, HA.out, HB.out]
    show _ ++ Fm.mk e0.f.name (e0.f.b ++ bs) e0.f.sure e0.f.named :: _ = _
    rw [HG.out]
    rfl
  · intro i hi
    have hold : i ∈ blk b mb (L1 ++ e0 :: L2) ∨ w1.heap.size ≤ i := by
      have hl2 := HL2.out
      rw [HV.out, List.length_append] at hl2
      rw [blk_split] at hi ⊢
      simp only [List.mem_append, List.mem_cons, Option.mem_toList] at hi ⊢
      rcases hi with (h | h | h) | h
      · exact .inl (.inl (.inl h))
      · exact .inl (.inl (.inr (.inl h)))
      · rcases hl2 with h2 | h2
        · exact .inl (.inl (.inr (.inr (by rw [← h2]; exact h))))
        · have h' : Value.ownBlock (.slice ao' (e0.f.b.length + bs.length) cp') = some i := h
          rw [h'] at h2
          cases h2
          exact .inr (Nat.le_refl _)
      · exact .inl (.inr h)
    rcases hold with h | h
    · exact HSUB.out i h
    · exact .inr (Nat.le_trans T2.out.size h)

/-- The model's append. -/
theorem longer_name (f : Fm) (bs : List UInt8) : (longer f bs).name = f.name := rfl

end Go.Proofs.YtjdpglmphacfjaaGreatDoor
