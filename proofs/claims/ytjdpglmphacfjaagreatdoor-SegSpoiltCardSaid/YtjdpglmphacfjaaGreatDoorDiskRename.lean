/-
  The walk of file.Disk's Rename.
-/
import Derived.Test.YtjdpglmphacfjaaGreatDoorDiskAppend
namespace Go.Proofs.YtjdpglmphacfjaaGreatDoor
open Go.RowKit

/-- What is left without the file of that name. -/
def mDel (n : List UInt8) (M : List Fm) : List Fm := M.filter fun f => !(f.name == n)

theorem mDel_not {n : List UInt8} {M : List Fm} (h : n ∉ M.map Fm.name) : mDel n M = M :=
  List.filter_eq_self.2 fun f hf => by
    have : f.name ≠ n := fun e => h (by rw [← e]; exact List.mem_map_of_mem hf)
    simp [this]

theorem mDel_split {M1 M2 : List Fm} {f : Fm} (hnd : ((M1 ++ f :: M2).map Fm.name).Nodup) : mDel f.name (M1 ++ f :: M2) = M1 ++ M2 := by
  have h1 : ∀ x ∈ M1 ++ M2, x.name ≠ f.name := by
    intro x hx
    simp [List.nodup_append] at hnd
    rcases List.mem_append.1 hx with hx | hx
    · exact (hnd.2.2 x hx).1
    · exact fun e2 => hnd.2.1.1 x hx e2
  unfold mDel
  rw [List.filter_append, List.filter_cons_of_neg (by simp), ← List.filter_append]
  exact List.filter_eq_self.2 fun x hx => by simpa using h1 x hx

def eDel (n : List UInt8) (L : List Ent) : List Ent := L.filter fun e => !(e.f.name == n)

theorem eDel_f (n : List UInt8) (L : List Ent) : (eDel n L).map Ent.f = mDel n (L.map Ent.f) := by
  unfold eDel mDel
  rw [List.filter_map]
  rfl

theorem eDel_key (n : List UInt8) (L : List Ent) : (eDel n L).map Ent.key = (L.map Ent.key).filter (fun p => !(p.1 == n)) := by
  unfold eDel
  rw [List.filter_map]
  rfl

theorem eDel_split {L1 L2 : List Ent} {e : Ent} (hnd : ((L1 ++ e :: L2).map fun e => e.f.name).Nodup) : eDel e.f.name (L1 ++ e :: L2) = L1 ++ L2 := by
  have h1 : ∀ x ∈ L1 ++ L2, x.f.name ≠ e.f.name := by
    intro x hx
    simp [List.nodup_append] at hnd
    rcases List.mem_append.1 hx with hx | hx
    · exact (hnd.2.2 x hx).1
    · exact fun e2 => hnd.2.1.1 x hx e2
  unfold eDel
  rw [List.filter_append, List.filter_cons_of_neg (by simp), ← List.filter_append]
  exact List.filter_eq_self.2 fun x hx => by simpa using h1 x hx

theorem eDel_not {n : List UInt8} {L : List Ent} (h : n ∉ L.map (fun e => e.f.name)) : eDel n L = L :=
  List.filter_eq_self.2 fun f hf => by
    have : f.f.name ≠ n := fun e => h (by rw [← e]; exact List.mem_map_of_mem (f := fun e : Ent => e.f.name) hf)
    simp [this]

theorem eDel_blk (b : Nat) (mb : Option Nat) (n : List UInt8) (L : List Ent) : ∀ i ∈ blk b mb (eDel n L), i ∈ blk b mb L := by
  intro i hi
  simp only [blk, List.mem_cons, List.mem_append, List.mem_flatMap] at hi ⊢
  rcases hi with h | h | ⟨e, he, h⟩
  · exact .inl h
  · exact .inr (.inl h)
  · exact .inr (.inr ⟨e, (List.mem_filter.1 he).1, h⟩)

theorem drop_any {b room : Nat} {mb : Option Nat} {L : List Ent} {n : List UInt8} (w : World) (h : DiskIs w b room mb L) (hl : n.length ≤ 9223372036854775807) :
    Calls Tryz.prog 49 #[.pointer (some ⟨b, 0, none⟩), .string ⟨n.toArray⟩] w fun e w' =>
      (∃ x, e = .returned (.bool x)) ∧ DiskIs w' b room mb (eDel n L) ∧ Turn (blk b mb L) w w' := by
  by_cases hn : n ∈ L.map (fun e => e.f.name)
  · obtain ⟨e0, he, rfl⟩ := List.mem_map.1 hn
    obtain ⟨L1, L2, rfl⟩ := List.append_of_mem he
    refine (drop_some w h).mono ?_
    rintro e w' ⟨rfl, hd, ht⟩
    refine ⟨⟨true, rfl⟩, by rw [eDel_split h.nodup]; exact hd, ?_⟩
    cases mb with
    | none =>
      have := h.map.2
      simp at this
    | some m => exact (ht m rfl).mono (fun i hi => .inl (by simp at hi; rcases hi with rfl | rfl <;> simp [blk]))
  · refine (drop_none w h hn hl).mono ?_
    rintro e w' ⟨rfl, rfl⟩
    exact ⟨⟨false, rfl⟩, by rw [eDel_not hn]; exact h, Turn.refl _ _⟩

theorem MapIs.owns {w : World} {m : Nat} {L : List (List UInt8 × Nat)} (h : MapIs w (some m) L) : ∃ es, w.ownsMap Tryz.prog 9 ptrR m L.length (.map es) ∧ es.Perm (L.map entOf) := by
  obtain ⟨_, ⟨h0, _⟩ | ⟨m', es, hme, ho, hp⟩⟩ := h
  · cases h0
  · cases hme
    exact ⟨es, ho, hp⟩

/-- What has another name now. -/
def renamed (f : Fm) (n : List UInt8) : Fm := ⟨n, f.b, f.sure, true⟩

theorem DiskIs.renamed {w w3 : World} {b room m : Nat} {L1 L2 : List Ent} {e : Ent} {n : List UInt8} {v : Value} (h : DiskIs w b room (some m) (L1 ++ e :: L2)) (hok : okName n = true) (he : w.heap[e.c]? = some (.cells #[v, .int .i64 (e.f.sure : Int), .bool e.f.named] 71 (0, 0)))
    (hv : v.ownBlock = e.r) (hrow : w.ownsRow 0 5 1 v e.f.b.length (u8s e.f.b)) (ht : Turn [m] w w3) (hmap : MapIs w3 (some m) ((L1 ++ L2).map Ent.key ++ [(n, e.c)])) :
    DiskIs (w3.setCell ⟨e.c, 2, none⟩ (.bool true)) b room (some m) (L1 ++ ⟨Fm.mk n e.f.b e.f.sure true, e.c, e.r⟩ :: L2) ∧ Turn (blk b (some m) (L1 ++ e :: L2)) w (w3.setCell ⟨e.c, 2, none⟩ (.bool true)) := by
  obtain ⟨hbc, hrc, hrb⟩ := h.row_ne
  have hes : e.f.sure ≤ e.f.b.length := by obtain ⟨_, _, _, _, h4⟩ := h.ents e (by simp); exact h4
  have hap := h.apart
  have hbm : b ≠ m := by
    simp [blk] at hap
    exact hap.1.1
  have hmc : m ≠ e.c ∧ e.r ≠ some m := by
    rw [blk_split] at hap
    cases hr : e.r with
    | none => rw [hr] at hap; simp at hap; grind
    | some k => rw [hr] at hap; simp [List.nodup_append] at hap; grind
  have hoth : ∀ x ∈ L1 ++ L2, ∀ k ∈ x.blocks, k ≠ m ∧ k ≠ e.c := by
    intro x hx k hk
    have hk' : k ∈ L1.flatMap Ent.blocks ∨ k ∈ L2.flatMap Ent.blocks := by
      rcases List.mem_append.1 hx with hx | hx
      · exact .inl (List.mem_flatMap.2 ⟨x, hx, hk⟩)
      · exact .inr (List.mem_flatMap.2 ⟨x, hx, hk⟩)
    rw [blk_split] at hap
    clear hmap ht hrow he
    simp [List.nodup_append] at hap
    grind
  have t1 : Turn [m, e.c] w (w3.setCell ⟨e.c, 2, none⟩ (.bool true)) := (ht.mono (fun i hi => .inl (by simp at hi; simp [hi]))).trans (Turn.setCell (l := [e.c]) _ (by simp) _) (by simp)
  have htot : tot ((L1 ++ ⟨Fm.mk n e.f.b e.f.sure true, e.c, e.r⟩ :: L2).map Ent.f) = tot ((L1 ++ e :: L2).map Ent.f) := by
    simp only [List.map_append, List.map_cons, tot_append, tot_cons]
  have hperm : ((L1 ++ ⟨Fm.mk n e.f.b e.f.sure true, e.c, e.r⟩ :: L2).map Ent.key).Perm ((L1 ++ L2).map Ent.key ++ [(n, e.c)]) := by
    simp only [List.map_append, List.map_cons, Ent.key, List.append_assoc]
    exact ((List.perm_append_comm (l₁ := [(n, e.c)]) (l₂ := L2.map Ent.key))).append_left _
  refine ⟨⟨?_, (hmap.turn (Turn.setCell (l := [e.c]) _ (by simp) _) (fun k hk => by cases hk; simpa using hmc.1)).perm hperm, ?_, ?_, by rw [htot]; exact h.room1, h.room2, ?_⟩, t1.mono (fun i hi => .inl (by rw [blk_split]; simp at hi ⊢; rcases hi with h | h <;> simp [h]))⟩
  · rw [htot]
    exact t1.heap h.head (by simp; exact ⟨hbm, hbc⟩)
  · intro x hx
    have hcase : x ∈ L1 ++ L2 ∨ x = ⟨Fm.mk n e.f.b e.f.sure true, e.c, e.r⟩ := by simp at hx ⊢; grind
    rcases hcase with hx | rfl
    · exact (h.ents x (by simp at hx ⊢; rcases hx with h | h <;> simp [h])).turn t1 (fun k hk => by simpa using hoth x hx k hk)
    · refine ⟨v, ?_, ownsRow_turn hrow t1 (fun k hk hm => ?_), hv, hes⟩
      · rw [block_set (ht.heap he (by simpa using fun e2 => hmc.1 e2.symm))]
        rfl
      · rw [hv] at hk
        simp at hm
        rcases hm with rfl | rfl
        · exact hmc.2 hk
        · exact hrc hk
  · have : blk b (some m) (L1 ++ ⟨Fm.mk n e.f.b e.f.sure true, e.c, e.r⟩ :: L2) = blk b (some m) (L1 ++ e :: L2) := by simp [blk_split]
    rw [this]
    exact hap
  · intro x hx
    have hcase : x ∈ L1 ++ L2 ∨ x = ⟨Fm.mk n e.f.b e.f.sure true, e.c, e.r⟩ := by simp at hx ⊢; grind
    rcases hcase with hx | rfl
    · exact h.names x (by simp at hx ⊢; rcases hx with h | h <;> simp [h])
    · exact hok

set_option maxHeartbeats 400000 in
theorem rename_form {b : Nat} {s : ByteArray} {n : List UInt8} (w : World) (hl : n.length ≤ 9223372036854775807) (hok : okName n = false) :
    Calls Tryz.prog 61 #[.pointer (some ⟨b, 0, none⟩), .string s, .string ⟨n.toArray⟩] w fun e w' => e = .returned (.int .i64 1) ∧ w = w' := by
  go_enter Tryz.func61, Tryz.ntmps61
  go_wp2_with fail
  refine (mayName_calls n _ hl).mono ?_
  rintro e w' ⟨rfl, rfl⟩
  go_wp2
  go_ret
  exact ⟨rfl, rfl⟩

set_option maxHeartbeats 400000 in
theorem rename_none {b room : Nat} {l : List Nat} {M : List Fm} {s n : List UInt8} (w : World) (h : DiskM w b room l M) (hok : okName n = true) (hs : s ∉ M.map Fm.name) (hl : s.length ≤ 9223372036854775807) :
    Calls Tryz.prog 61 #[.pointer (some ⟨b, 0, none⟩), .string ⟨s.toArray⟩, .string ⟨n.toArray⟩] w fun e w' => e = .returned (.int .i64 6) ∧ w = w' := by
  have hlen := okName_len hok
  obtain ⟨mb, L, hd, rfl, rfl⟩ := h
  rw [List.map_map] at hs
  have H := Lib.hid hd
  have HN := Lib.hid hs
  clear hd hs
  go_enter Tryz.func61, Tryz.ntmps61
  go_wp2_with fail
  refine (mayName_calls n _ (by omega)).mono ?_
  rintro e w' ⟨rfl, rfl⟩
  go_wp2_with fail
  refine (find_none _ H.out HN.out hl).mono ?_
  rintro e w' ⟨rfl, rfl⟩
  go_wp2
  go_ret
  exact ⟨rfl, rfl⟩

set_option maxHeartbeats 400000 in
theorem rename_same {b room : Nat} {l : List Nat} {M1 M2 : List Fm} {f : Fm} (w : World) (h : DiskM w b room l (M1 ++ f :: M2)) :
    Calls Tryz.prog 61 #[.pointer (some ⟨b, 0, none⟩), .string ⟨f.name.toArray⟩, .string ⟨f.name.toArray⟩] w fun e w' => e = .returned (.int .i64 0) ∧ w = w' := by
  obtain ⟨mb, L1, e0, L2, hd, rfl, rfl, rfl, rfl⟩ := h.split
  have H := Lib.hid hd
  have hok := hd.names e0 (by simp)
  have hlen := okName_len hok
  clear hd h
  go_enter Tryz.func61, Tryz.ntmps61
  go_wp2_with fail
  refine (mayName_calls e0.f.name _ (by omega)).mono ?_
  rintro e w' ⟨rfl, rfl⟩
  go_wp2_with fail
  refine (find_some _ H.out (by simp)).mono ?_
  rintro e w' ⟨rfl, rfl⟩
  go_wp2
  go_ret
  exact ⟨rfl, rfl⟩

set_option maxHeartbeats 2000000 in
set_option maxRecDepth 100000 in
theorem rename_some {b room : Nat} {l : List Nat} {M A B : List Fm} {g : Fm} {n : List UInt8} (w : World) (h : DiskM w b room l M) (hok : okName n = true) (hM : mDel n M = A ++ g :: B) :
    Calls Tryz.prog 61 #[.pointer (some ⟨b, 0, none⟩), .string ⟨g.name.toArray⟩, .string ⟨n.toArray⟩] w fun e w' =>
      e = .returned (.int .i64 0) ∧ Turn l w w' ∧ ∃ l', DiskM w' b room l' (A ++ renamed g n :: B) ∧ ∀ i ∈ l', i ∈ l := by
  have hlen := okName_len hok
  obtain ⟨mb, L, hd, rfl, rfl⟩ := h
  rw [← eDel_f] at hM
  obtain ⟨L1, L', hL, rfl, h2⟩ := List.map_eq_append_iff.1 hM
  obtain ⟨e0, L2, rfl, rfl, rfl⟩ := List.map_eq_cons_iff.1 h2
  have hmem : e0 ∈ eDel n L := by rw [hL]; simp
  have hmem2 := List.mem_filter.1 hmem
  have hne : e0.f.name ≠ n := by simpa using hmem2.2
  have hbne : (e0.f.name == n) = false := by simpa using hne
  have hnn : n ∉ (eDel n L).map (fun e => e.f.name) := by
    intro h
    obtain ⟨x, hx, hxn⟩ := List.mem_map.1 h
    have := (List.mem_filter.1 hx).2
    simp at this
    exact this hxn
  have H := Lib.hid hd
  have HM := Lib.hid hmem2.1
  have HL := Lib.hid hL
  have HNN := Lib.hid hnn
  have hkey := key_string (n := n) (by unfold maxLen; omega)
  have hkey2 := key_string (n := e0.f.name) (by have := okName_len (hd.names e0 hmem2.1); unfold maxLen; omega)
  clear hd hM h2 hL hmem hmem2 hnn hne
  go_enter Tryz.func61, Tryz.ntmps61
  go_wp2_with fail
  refine (mayName_calls n _ (by omega)).mono ?_
  rintro e w' ⟨rfl, rfl⟩
  go_wp2_with fail
  refine (find_some _ H.out HM.out).mono ?_
  rintro e w' ⟨rfl, rfl⟩
  go_wp2_with fail
  refine (drop_any (n := n) _ H.out (by omega)).mono ?_
  rintro e w1 ⟨⟨x, rfl⟩, hd1, ht1⟩
  rw [HL.out] at hd1
  obtain ⟨hnd, ⟨h0, hL⟩ | ⟨m, es, hmb, ho, hp⟩⟩ := hd1.map
  · simp at hL
  cases hmb
  have H1 := Lib.hid hd1
  have T1 := Lib.hid ht1
  obtain ⟨v, he1, he2, he3, he4⟩ := hd1.ents e0 (by simp)
  have HR := Lib.hid he2
  have HV := Lib.hid he3
  have HE := Lib.hid he1
  obtain ⟨hbc, hrc, hrb⟩ := hd1.row_ne
  have hbm : b ≠ m := by
    have := hd1.apart
    simp [blk] at this
    exact this.1.1
  have hmc : e0.c ≠ m := by
    have := hd1.apart
    rw [blk_split] at this
    simp [List.nodup_append] at this
    grind
  have HO := Lib.hid ho
  have HP := Lib.hid hp
  have HND := Lib.hid hnd
  have c2 := (three_cells hd1.head).2.2.1
  clear he1 he2 he3 he4 ho hp hnd hd1 ht1
  have hfil := filter_split H1.out.nodup
  have hfew := H1.out.few
  have hlen2 : (L1 ++ L2).length < (L1 ++ e0 :: L2).length := by simp
  have HF := Lib.hid (show ((L1 ++ L2).map Ent.key).length < maxLen by rw [List.length_map]; unfold maxLen; show _ < _; omega)
  have HFIL := Lib.hid hfil
  have hnd1 := H1.out.nodup
  have hnL : n ∉ ((L1 ++ L2).map Ent.key).map Prod.fst := by
    rw [List.map_map]
    intro h
    obtain ⟨y, hy, hyn⟩ := List.mem_map.1 h
    refine HNN.out ?_
    rw [HL.out]
    exact List.mem_map.2 ⟨y, by simp at hy ⊢; rcases hy with h | h <;> simp [h], hyn⟩
  have HNL := Lib.hid hnL
  clear hfil hfew hlen2 hnd1 hnL
  go_wp2_with (first
    | (at_delete; refine wpList_delete_own _ rfl _ _ 53 9 rfl 68 string_law Tryz.underlying53 ptrR m _ _ rfl HO.out _ _ rfl hkey2 ?_; intro w2 hown2 hturn2; have c2' := (hturn2.grown.cell c2 (by simpa using hbm)); have hm2 := MapIs.deleted HND.out HP.out e0.f.name hown2; rw [HFIL.out] at hm2; have M2 := Lib.hid hm2; obtain ⟨es2, ho2, hp2⟩ := hm2.owns; have HO2 := Lib.hid ho2; have HP2 := Lib.hid hp2; have g2 := Lib.hid hturn2.grown; clear hown2 hturn2 c2 hm2 ho2 hp2)
    | (at_mapUpdate; refine wpList_mapUpdate_in _ rfl _ _ _ 53 rfl 9 68 string_law Tryz.underlying53 ptrR m _ _ rfl HO2.out HF.out _ _ _ rfl rfl hkey (.lit (.int .i64 ((e0.c : Nat) : Int))) [] rfl ?_; intro w3 hown3 hturn3; have M3 := Lib.hid (MapIs.stored M2.out.1 HP2.out n e0.c HNL.out hown3); have t3 := Lib.hid ((Turn.grown (l := [m]) g2.out (fun k hk => .inl (by cases hk; exact List.mem_singleton.2 rfl))).trans (Turn.grown (l := [m]) hturn3.grown (fun k hk => .inl (by cases hk; exact List.mem_singleton.2 rfl))) (fun i hi => .inl hi)); have he3 := t3.out.heap HE.out (by simpa using hmc); obtain ⟨-, -, -, -, -, z5⟩ := three_cells he3; have z4 := (three_cells he3).2.2.1; clear he3 hown3 hturn3))
  go_ret
  have hfin := H1.out.renamed hok HE.out HV.out HR.out t3.out M3.out
  have hsub : ∀ i ∈ blk b (some m) (L1 ++ e0 :: L2), i ∈ blk b (some m) L := by rw [← HL.out]; exact eDel_blk _ _ _ _
  refine ⟨rfl, T1.out.trans hfin.2 (fun i hi => .inl (hsub i hi)), _, ⟨some m, _, hfin.1, by simp [Go.Proofs.YtjdpglmphacfjaaGreatDoor.renamed], rfl⟩, fun i hi => hsub i ?_⟩
  rw [blk_split] at hi ⊢
  exact hi

end Go.Proofs.YtjdpglmphacfjaaGreatDoor
