/-
  A disk in memory: the struct, its map, its files' blocks and rows; what of it stays while other blocks turn.
-/
import Derived.Test.YtjdpglmphacfjaaGreatDoorTurn
namespace Go.Proofs.YtjdpglmphacfjaaGreatDoor
open Go.RowKit

/-- A file: its name, its bytes, how many of them are sure, whether its name is. -/
structure Fm where
  name : List UInt8
  b : List UInt8
  sure : Nat
  named : Bool

/-- Bytes of all files. -/
def tot (M : List Fm) : Nat := (M.map fun f => f.b.length).sum

theorem tot_nil : tot [] = 0 := rfl
theorem tot_cons (f : Fm) (M : List Fm) : tot (f :: M) = f.b.length + tot M := rfl
theorem tot_append (M N : List Fm) : tot (M ++ N) = tot M + tot N := by simp [tot]

/-- A name that may be. -/
def okSign (x : UInt8) : Bool := (97 ≤ x && x ≤ 122) || (48 ≤ x && x ≤ 57)
def okName (n : List UInt8) : Bool := decide (1 ≤ n.length) && decide (n.length ≤ 12) && n.all okSign

theorem okName_len {n : List UInt8} (h : okName n = true) : 1 ≤ n.length ∧ n.length ≤ 12 := by
  simp [okName] at h
  omega

/-- A file in memory: its struct's block, its row's block. -/
structure Ent where
  f : Fm
  c : Nat
  r : Option Nat

def Ent.blocks (e : Ent) : List Nat := e.c :: e.r.toList
def Ent.key (e : Ent) : List UInt8 × Nat := (e.f.name, e.c)
def blk (b : Nat) (mb : Option Nat) (L : List Ent) : List Nat := b :: (mb.toList ++ L.flatMap Ent.blocks)

def EntIs (w : World) (e : Ent) : Prop :=
  ∃ v, w.heap[e.c]? = some (.cells #[v, .int .i64 (e.f.sure : Int), .bool e.f.named] 71 (0, 0)) ∧ w.ownsRow 0 5 1 v e.f.b.length (u8s e.f.b) ∧ v.ownBlock = e.r ∧ e.f.sure ≤ e.f.b.length

structure DiskIs (w : World) (b room : Nat) (mb : Option Nat) (L : List Ent) : Prop where
  head : w.heap[b]? = some (.cells #[.int .i64 (room : Int), .int .i64 (tot (L.map Ent.f) : Nat), .map mb] 55 (0, 0))
  map : MapIs w mb (L.map Ent.key)
  ents : ∀ e ∈ L, EntIs w e
  apart : (blk b mb L).Nodup
  room1 : tot (L.map Ent.f) ≤ room
  room2 : room ≤ 1048576
  names : ∀ e ∈ L, okName e.f.name = true

/-- A disk of these files, over the blocks of l. -/
def DiskM (w : World) (b room : Nat) (l : List Nat) (M : List Fm) : Prop := ∃ mb L, DiskIs w b room mb L ∧ L.map Ent.f = M ∧ blk b mb L = l

theorem EntIs.turn {l : List Nat} {w w' : World} {e : Ent} (h : EntIs w e) (ht : Turn l w w') (hn : ∀ k ∈ e.blocks, k ∉ l) : EntIs w' e := by
  obtain ⟨v, h1, h2, h3, h4⟩ := h
  exact ⟨v, ht.heap h1 (hn _ (by simp [Ent.blocks])), ownsRow_turn h2 ht (fun k hk => hn k (by simp [Ent.blocks, ← h3, hk])), h3, h4⟩

theorem EntIs.lt {w : World} {e : Ent} (h : EntIs w e) : ∀ k ∈ e.blocks, k < w.heap.size := by
  obtain ⟨v, h1, h2, h3, h4⟩ := h
  intro k hk
  simp [Ent.blocks] at hk
  rcases hk with rfl | hk
  · exact lt_of_heap h1
  · exact (h2.lt k (by rw [h3, hk])).2

theorem DiskIs.turn {l : List Nat} {w w' : World} {b room : Nat} {mb : Option Nat} {L : List Ent} (h : DiskIs w b room mb L) (ht : Turn l w w') (hn : ∀ k ∈ blk b mb L, k ∉ l) : DiskIs w' b room mb L := by
  refine ⟨ht.heap h.head (hn _ (by simp [blk])), h.map.turn ht (fun m hm => hn _ (by simp [blk, hm])), fun e he => (h.ents e he).turn ht (fun k hk => hn k ?_), h.apart, h.room1, h.room2, h.names⟩
  simp only [blk, List.mem_cons, List.mem_append, List.mem_flatMap]
  exact .inr (.inr ⟨e, he, hk⟩)

theorem DiskIs.lt {w : World} {b room : Nat} {mb : Option Nat} {L : List Ent} (h : DiskIs w b room mb L) : ∀ k ∈ blk b mb L, k < w.heap.size := by
  intro k hk
  simp only [blk, List.mem_cons, List.mem_append, List.mem_flatMap] at hk
  rcases hk with rfl | hk | ⟨e, he, hk⟩
  · exact lt_of_heap h.head
  · have hm : mb = some k := by simpa using hk
    subst hm
    exact h.map.lt
  · exact (h.ents e he).lt k hk

theorem DiskM.turn {l k : List Nat} {w w' : World} {b room : Nat} {M : List Fm} (h : DiskM w b room l M) (ht : Turn k w w') (hn : ∀ i ∈ l, i ∉ k) : DiskM w' b room l M := by
  obtain ⟨mb, L, hd, rfl, rfl⟩ := h
  exact ⟨mb, L, hd.turn ht hn, rfl, rfl⟩

theorem DiskM.lt {l : List Nat} {w : World} {b room : Nat} {M : List Fm} (h : DiskM w b room l M) : ∀ i ∈ l, i < w.heap.size := by
  obtain ⟨mb, L, hd, rfl, rfl⟩ := h
  exact hd.lt

theorem DiskM.belowAll {l : List Nat} {w w' : World} {b room : Nat} {M : List Fm} (h : DiskM w b room l M) (ht : Below w.heap.size w w') : DiskM w' b room l M := h.turn (Turn.of_below ht []) (by simp)

/-- The order does not matter. -/
theorem DiskM.perm {l : List Nat} {w : World} {b room : Nat} {M M' : List Fm} (h : DiskM w b room l M) (hp : M'.Perm M) : ∃ l', DiskM w b room l' M' ∧ ∀ i, i ∈ l' ↔ i ∈ l := by
  obtain ⟨mb, L, hd, rfl, rfl⟩ := h
  obtain ⟨L', hL, rfl⟩ : ∃ L' : List Ent, L'.Perm L ∧ L'.map Ent.f = M' := by
    clear hd
    generalize hN : L.map Ent.f = N at hp
    induction hp generalizing L with
    | nil => exact ⟨[], by simp at hN; subst hN; exact .refl _, rfl⟩
    | cons x _ ih =>
      cases L with
      | nil => cases hN
      | cons e L =>
        simp at hN
        obtain ⟨L', h1, h2⟩ := ih L hN.2
        exact ⟨e :: L', h1.cons e, by simp [h2, hN.1]⟩
    | swap x y l =>
      match L, hN with
      | e1 :: e2 :: L, hN =>
        simp at hN
        exact ⟨e2 :: e1 :: L, .swap _ _ _, by simp [hN]⟩
    | trans _ _ ih1 ih2 =>
      obtain ⟨L2, h1, h2⟩ := ih2 L hN
      obtain ⟨L3, h3, h4⟩ := ih1 L2 h2
      exact ⟨L3, h3.trans h1, h4⟩
  have hpb : (blk b mb L').Perm (blk b mb L) := ((hL.flatMap_right _).append_left _).cons _
  have ht : tot (L'.map Ent.f) = tot (L.map Ent.f) := by
    unfold tot
    exact ((hL.map Ent.f).map _).sum_nat
  refine ⟨blk b mb L', ⟨mb, L', ⟨by rw [ht]; exact hd.head, hd.map.perm (hL.map _), fun e he => hd.ents e (hL.mem_iff.1 he), hpb.nodup_iff.2 hd.apart, by rw [ht]; exact hd.room1, hd.room2, fun e he => hd.names e (hL.mem_iff.1 he)⟩, rfl, rfl⟩, fun i => hpb.mem_iff⟩

theorem DiskIs.nodup {w : World} {b room : Nat} {mb : Option Nat} {L : List Ent} (h : DiskIs w b room mb L) : (L.map fun e => e.f.name).Nodup := by
  have := h.map.1
  rw [List.map_map] at this
  exact this

theorem DiskM.nodup {l : List Nat} {w : World} {b room : Nat} {M : List Fm} (h : DiskM w b room l M) : (M.map Fm.name).Nodup := by
  obtain ⟨mb, L, hd, rfl, rfl⟩ := h
  rw [List.map_map]
  exact hd.nodup

theorem DiskM.total {l : List Nat} {w : World} {b room : Nat} {M : List Fm} (h : DiskM w b room l M) : tot M ≤ room ∧ room ≤ 1048576 := by
  obtain ⟨mb, L, hd, rfl, rfl⟩ := h
  exact ⟨hd.room1, hd.room2⟩

theorem nodup_row {A B : List Nat} {c : Nat} {r r' : Option Nat} (h : (A ++ (c :: r.toList) ++ B).Nodup) (hr : ∀ k, r' = some k → r = some k ∨ k ∉ (A ++ (c :: r.toList) ++ B)) : (A ++ (c :: r'.toList) ++ B).Nodup := by
  cases r' <;> cases r <;> grind [List.nodup_append]

theorem blk_split (b : Nat) (mb : Option Nat) (L1 L2 : List Ent) (e : Ent) : blk b mb (L1 ++ e :: L2) = (b :: (mb.toList ++ L1.flatMap Ent.blocks)) ++ (e.c :: e.r.toList) ++ L2.flatMap Ent.blocks := by
  simp [blk, Ent.blocks]

/-- One file is another one now, of the same name, in the same block. -/
theorem DiskIs.put {w w' : World} {b room : Nat} {mb : Option Nat} {L1 L2 : List Ent} {e e' : Ent} (h : DiskIs w b room mb (L1 ++ e :: L2)) (ht : Turn (b :: e.blocks) w w')
    (hb : w'.heap[b]? = some (.cells #[.int .i64 (room : Int), .int .i64 (tot ((L1 ++ e' :: L2).map Ent.f) : Nat), .map mb] 55 (0, 0))) (he : EntIs w' e') (hc : e'.c = e.c) (hname : e'.f.name = e.f.name)
    (hr : ∀ k, e'.r = some k → e.r = some k ∨ w.heap.size ≤ k) (hroom : tot ((L1 ++ e' :: L2).map Ent.f) ≤ room) : DiskIs w' b room mb (L1 ++ e' :: L2) := by
  have hap := h.apart
  have hlt := h.lt
  rw [blk_split] at hap
  rw [blk_split] at hlt
  have hoth : ∀ x ∈ L1 ++ L2, ∀ k ∈ x.blocks, k ∉ b :: e.blocks := by
    intro x hx k hk hm
    have hm' : k = b ∨ k ∈ e.c :: e.r.toList := by simpa [Ent.blocks] using hm
    have hk' : k ∈ L1.flatMap Ent.blocks ∨ k ∈ L2.flatMap Ent.blocks := by
      rcases List.mem_append.1 hx with hx | hx
      · exact .inl (List.mem_flatMap.2 ⟨x, hx, hk⟩)
      · exact .inr (List.mem_flatMap.2 ⟨x, hx, hk⟩)
    clear hlt hr hb ht
    grind [List.nodup_append]
  have hmb : ∀ m, mb = some m → m ∉ b :: e.blocks := by
    intro m hm hmm
    subst hm
    have hm' : m = b ∨ m ∈ e.c :: e.r.toList := by simpa [Ent.blocks] using hmm
    clear hlt hr hb ht hoth
    simp at hap
    grind
  have hkey : ((L1 ++ e' :: L2).map Ent.key) = ((L1 ++ e :: L2).map Ent.key) := by simp [Ent.key, hc, hname]
  refine ⟨hb, by rw [hkey]; exact h.map.turn ht hmb, ?_, ?_, hroom, h.room2, ?_⟩
  · intro x hx
    rcases List.mem_append.1 hx with hx | hx
    · exact (h.ents x (by simp [hx])).turn ht (hoth x (by simp [hx]))
    · rcases List.mem_cons.1 hx with rfl | hx
      · exact he
      · exact (h.ents x (by simp [hx])).turn ht (hoth x (by simp [hx]))
  · rw [blk_split, hc]
    refine nodup_row hap (fun k hk => (hr k hk).imp id (fun h1 h2 => ?_))
    have := hlt k h2
    omega
  · intro x hx
    rcases List.mem_append.1 hx with hx | hx
    · exact h.names x (by simp [hx])
    · rcases List.mem_cons.1 hx with rfl | hx
      · rw [hname]; exact h.names e (by simp)
      · exact h.names x (by simp [hx])

/-- What a block of three cells says. -/
theorem three_cells {w : World} {b : Nat} {x y z : Value} {T : TypeId} (h : w.heap[b]? = some (.cells #[x, y, z] T (0, 0))) :
    w.cell? ⟨b, 0, none⟩ = some x ∧ w.cell? ⟨b, 1, none⟩ = some y ∧ w.cell? ⟨b, 2, none⟩ = some z ∧ w.frozen? ⟨b, 0, none⟩ = false ∧ w.frozen? ⟨b, 1, none⟩ = false ∧ w.frozen? ⟨b, 2, none⟩ = false :=
  ⟨by rw [cell_of_row w b 0 _ _ _ h]; rfl, by rw [cell_of_row w b 1 _ _ _ h]; rfl, by rw [cell_of_row w b 2 _ _ _ h]; rfl, unfrozen_of h, unfrozen_of h, unfrozen_of h⟩

/-- A row of bytes as a slice that reads so. -/
theorem row_slice {w : World} {v : Value} {l : List UInt8} (h : w.ownsRow 0 5 1 v l.length (u8s l)) : ∃ ao c, v = .slice ao l.length c ∧ Sl w ao c l := by
  obtain ⟨ao, c, h1, h2, _⟩ := Sl.of_owns h
  exact ⟨ao, c, h1, h2⟩

/-! ### There are not many names -/
def dig (x : UInt8) : Nat := if 97 ≤ x.toNat then x.toNat - 96 else x.toNat - 21
def num : List UInt8 → Nat
  | [] => 0
  | x :: l => dig x + 37 * num l

theorem dig_ok {x : UInt8} (h : okSign x = true) : 1 ≤ dig x ∧ dig x ≤ 36 := by
  simp [okSign, UInt8.le_iff_toNat_le] at h
  unfold dig
  split <;> omega

theorem dig_inj {x y : UInt8} (h : okSign x = true) (k : okSign y = true) (e : dig x = dig y) : x = y := by
  simp [okSign, UInt8.le_iff_toNat_le] at h k
  unfold dig at e
  apply UInt8.toNat_inj.1
  split at e <;> split at e <;> omega

theorem num_inj : ∀ (l m : List UInt8), l.all okSign = true → m.all okSign = true → num l = num m → l = m
  | [], [], _, _, _ => rfl
  | [], y :: m, _, hm, e => by
    simp at hm
    have := dig_ok hm.1
    simp [num] at e
    omega
  | x :: l, [], hl, _, e => by
    simp at hl
    have := dig_ok hl.1
    simp [num] at e
    omega
  | x :: l, y :: m, hl, hm, e => by
    simp at hl hm
    have h1 := dig_ok hl.1
    have h2 := dig_ok hm.1
    simp only [num] at e
    rw [dig_inj hl.1 hm.1 (by omega), num_inj l m (by simpa using hl.2) (by simpa using hm.2) (by omega)]

theorem num_lt : ∀ l : List UInt8, l.all okSign = true → num l < 37 ^ l.length
  | [], _ => by simp [num]
  | x :: l, h => by
    simp at h
    have h1 := dig_ok h.1
    have h2 := num_lt l (by simpa using h.2)
    simp only [num, List.length_cons, Nat.pow_succ]
    omega

theorem nodup_le : ∀ (n : Nat) (l : List Nat), l.Nodup → (∀ x ∈ l, x < n) → l.length ≤ n
  | 0, l, _, h => by
    cases l with
    | nil => simp
    | cons a l => exact absurd (h a (by simp)) (by omega)
  | n + 1, l, hd, h => by
    have h1 := nodup_le n (l.erase n) (hd.erase n) (fun x hx => by
      have h2 := h x (List.mem_of_mem_erase hx)
      have h3 : x ≠ n := fun e => by subst e; exact (List.Nodup.not_mem_erase hd) hx
      omega)
    have h4 := List.length_erase (a := n) (l := l)
    split at h4 <;> omega

theorem names_few {N : List (List UInt8)} (hd : N.Nodup) (hok : ∀ n ∈ N, okName n = true) : N.length ≤ 6582952005840035281 := by
  have hs : ∀ n ∈ N, n.all okSign = true ∧ n.length ≤ 12 := fun n hn => by
    have h := hok n hn
    have h2 := okName_len h
    simp only [okName, Bool.and_eq_true] at h
    exact ⟨h.2, h2.2⟩
  have h1 : (N.map num).Nodup := by
    rw [List.Nodup, List.pairwise_map]
    refine List.Pairwise.imp_of_mem ?_ hd
    intro a b ha hb hne e
    exact hne (num_inj a b (hs a ha).1 (hs b hb).1 e)
  have h2 := nodup_le 6582952005840035281 (N.map num) h1 (fun x hx => by
    obtain ⟨n, hn, rfl⟩ := List.mem_map.1 hx
    have h3 := num_lt n (hs n hn).1
    have h4 : 37 ^ n.length ≤ 37 ^ 12 := Nat.pow_le_pow_right (by omega) (hs n hn).2
    have h5 : 37 ^ 12 = 6582952005840035281 := by decide
    omega)
  simpa using h2

theorem DiskIs.few {w : World} {b room : Nat} {mb : Option Nat} {L : List Ent} (h : DiskIs w b room mb L) : L.length ≤ 6582952005840035281 := by
  have := names_few h.nodup (fun n hn => by
    obtain ⟨e, he, rfl⟩ := List.mem_map.1 hn
    exact h.names e he)
  simpa using this

end Go.Proofs.YtjdpglmphacfjaaGreatDoor
