/-
  A log in memory: its struct, its disk, its texts; the walks of At, Force, full, leave, Next.
-/
import Derived.Test.YtjdpglmphacfjaaGreatDoorSegUnf
import Derived.Test.YtjdpglmphacfjaaGreatDoorFn
import Derived.Test.YtjdpglmphacfjaaGreatDoorPhase
namespace Go.Proofs.YtjdpglmphacfjaaGreatDoor
open Go.RowKit

def bytesOf (M : List Fm) (n : List UInt8) : List UInt8 := match M.find? (fun f => f.name == n) with | some f => f.b | none => []

theorem bytesOf_split {A B : List Fm} {g : Fm} (hnd : ((A ++ g :: B).map Fm.name).Nodup) : bytesOf (A ++ g :: B) g.name = g.b := by
  have h : (A ++ g :: B).find? (fun f => f.name == g.name) = some g := by
    rw [List.find?_append]
    have h1 : A.find? (fun f => f.name == g.name) = none := by
      rw [List.find?_eq_none]
      intro f hf he
      simp [List.nodup_append] at hnd
      exact (hnd.2.2 f hf).1 (by simpa using he)
    rw [h1]
    simp
  unfold bytesOf
  rw [h]

theorem bytesOf_not {M : List Fm} {n : List UInt8} (h : hasF M n = false) : bytesOf M n = [] := by
  have : M.find? (fun f => f.name == n) = none := by
    rw [List.find?_eq_none]
    exact List.any_eq_false.1 h
  unfold bytesOf
  rw [this]

theorem bytesOf_le {M : List Fm} (n : List UInt8) : (bytesOf M n).length ≤ tot M := by
  unfold bytesOf
  cases h : M.find? (fun f => f.name == n) with
  | none => simp
  | some f =>
    have hm := List.mem_of_find?_eq_some h
    show f.b.length ≤ (M.map fun f => f.b.length).sum
    clear h
    induction M with
    | nil => simp at hm
    | cons x M ih =>
      rw [List.map_cons, List.sum_cons]
      rcases List.mem_cons.1 hm with rfl | h1
      · omega
      · have := ih h1
        omega

theorem read_fn {b room : Nat} {l : List Nat} {M : List Fm} {n : List UInt8} (w : World) (h : DiskM w b room l M) (hn : n.length ≤ 9223372036854775807) :
    Calls Tryz.prog 19 #[.pointer (some ⟨b, 0, none⟩), .string ⟨n.toArray⟩] w fun e w' =>
      ∃ ao c, e = .returned (.tuple #[.slice ao (bytesOf M n).length c, .bool (hasF M n)]) ∧ Sl w' ao c (bytesOf M n) ∧ (∀ A, ao = some A → w.heap.size ≤ A.block) ∧ Below w.heap.size w w' := by
  by_cases hh : hasF M n = true
  · obtain ⟨A, g, B, rfl, rfl⟩ := hasF_split hh
    rw [bytesOf_split h.nodup, hh]
    refine (read_some w h).mono ?_
    rintro e w' ⟨v, rfl, hrow, hb⟩
    obtain ⟨ao, c, rfl, hs, ha⟩ := row_read hrow
    exact ⟨ao, c, rfl, hs, ha, hb⟩
  · have hh2 : hasF M n = false := by simpa using hh
    rw [bytesOf_not hh2, hh2]
    refine (read_none w h (hasF_not hh2) hn).mono ?_
    rintro e w' ⟨rfl, rfl⟩
    exact ⟨none, 0, rfl, Sl.nil _, (fun A hA => by cases hA), Below.refl _ _⟩

/-- A log at lb on the disk d: its last number, its texts, the disk's files; all blocks are of L, or new since wq; all others stay. -/
def Lg (L : List Nat) (wq w : World) (lb d room num : Nat) (T : List (List UInt8)) (M : List Fm) : Prop :=
  Turn L wq w ∧ (Tab wq ∧ tabB ∉ L) ∧ (lb ∈ L ∨ wq.heap.size ≤ lb) ∧ num ≤ 999 ∧ T.length ≤ 1000000 ∧ ∃ v l, w.heap[lb]? = some (.cells #[.pointer (some ⟨d, 0, none⟩), .int .i64 (num : Int), v] 61 (0, 0)) ∧ DiskM w d room l M ∧ (∀ i ∈ l, (i ∈ L ∨ wq.heap.size ≤ i) ∧ i ≠ lb) ∧
    Txs w (fun k => (k ∈ L ∨ wq.heap.size ≤ k) ∧ k ≠ lb ∧ k ∉ l) v T

theorem Lg.tab {L : List Nat} {wq w : World} {lb d room num : Nat} {T : List (List UInt8)} {M : List Fm} (h : Lg L wq w lb d room num T M) : Tab w := h.2.1.1.turn h.1 h.2.1.2

theorem Lg.dk {wq w : World} {lb d room num : Nat} {T : List (List UInt8)} {M : List Fm} (h : Lg [] wq w lb d room num T M) : Dk wq w d room M := by
  obtain ⟨h1, _, _, _, _, v, l, _, hd, hl, _⟩ := h
  exact ⟨h1.belowAll, l, hd, fun i hi => by simpa using (hl i hi).1⟩

theorem Lg.below {L : List Nat} {wq w w' : World} {lb d room num : Nat} {T : List (List UInt8)} {M : List Fm} (h : Lg L wq w lb d room num T M) (hb : Below w.heap.size w w') : Lg L wq w' lb d room num T M := by
  obtain ⟨h1, h2, h3, h4, h5, v, l, hc, hd, hl, ht⟩ := h
  exact ⟨h1.trans (Turn.of_below hb []) (by simp), h2, h3, h4, h5, v, l, (Turn.of_below hb []).heap hc (by simp), hd.belowAll hb, hl, ht.turn (Turn.of_below hb []) (by simp)⟩

theorem Lg.turn {L : List Nat} {wq w w' : World} {lb d room num : Nat} {T : List (List UInt8)} {M : List Fm} (h : Lg L wq w lb d room num T M) (hb : Turn [] w w') : Lg L wq w' lb d room num T M := h.below hb.belowAll

/-- Where the disk's blocks alone turn. -/
theorem Lg.over {L : List Nat} {wq w : World} {lb d room num : Nat} {T : List (List UInt8)} {M : List Fm} (h : Lg L wq w lb d room num T M) :
    ∃ l, DiskM w d room l M ∧ (∀ i ∈ l, (i ∈ L ∨ wq.heap.size ≤ i) ∧ i ≠ lb) ∧ ∀ w' M' l', Turn l w w' → DiskM w' d room l' M' → (∀ i ∈ l', i ∈ l ∨ w.heap.size ≤ i) → Lg L wq w' lb d room num T M' := by
  obtain ⟨h1, h2, h3, h4, h5, v, l, hc, hdm, hl, ht⟩ := h
  refine ⟨l, hdm, hl, fun w' M' l' t hd' hl' => ?_⟩
  have hlb : lb < w.heap.size := lt_of_heap hc
  refine ⟨h1.trans t (fun i hi => (hl i hi).1), h2, h3, h4, h5, v, l', t.heap hc (fun hm => (hl lb hm).2 rfl), hd', fun i hi => ?_, ((ht.imp (Q := fun k => ((k ∈ L ∨ wq.heap.size ≤ k) ∧ k ≠ lb ∧ k ∉ l) ∧ k < w.heap.size) (fun k hk hp => ⟨hp, hk⟩)).turn t (fun k hk => hk.1.2.2)).imp (fun k _ hp => ⟨hp.1.1, hp.1.2.1, fun hm => ?_⟩)⟩
  · rcases hl' i hi with h6 | h6
    · exact hl i h6
    · have := h1.size
      exact ⟨.inr (by omega), by omega⟩
  · rcases hl' k hm with h6 | h6
    · exact hp.1.2.2 h6
    · have := hp.2
      omega

/-- The blocks that may be the log's. -/
def mine (L : List Nat) (wq w : World) : List Nat := (List.range w.heap.size).filter fun k => decide (k ∈ L) || decide (wq.heap.size ≤ k)

theorem mem_mine {L : List Nat} {wq w : World} {k : Nat} : k ∈ mine L wq w ↔ k < w.heap.size ∧ (k ∈ L ∨ wq.heap.size ≤ k) := by simp [mine]

/-- Begun anew at a later world: what came later stays, too. -/
theorem Lg.rebase {L : List Nat} {wq w0 w : World} {lb d room num : Nat} {T : List (List UInt8)} {M : List Fm} (h : Lg L wq w0 lb d room num T M) (t : Turn [] w0 w) : Lg (mine L wq w0) w w lb d room num T M := by
  have htab := h.tab
  obtain ⟨h1, h2, h3, h4, h5, v, l, hc, hd, hl, ht⟩ := h
  have hlb : lb < w0.heap.size := lt_of_heap hc
  refine ⟨Turn.refl _ _, ⟨htab.turn t (by simp), fun hm => ?_⟩, .inl (mem_mine.2 ⟨hlb, h3⟩), h4, h5, v, l, t.heap hc (by simp), hd.turn t (by simp), fun i hi => ⟨.inl (mem_mine.2 ⟨hd.lt i hi, (hl i hi).1⟩), (hl i hi).2⟩,
    (ht.imp (fun k hk hp => ⟨.inl (mem_mine.2 ⟨hk, hp.1⟩), hp.2⟩)).turn t (by simp)⟩
  rcases (mem_mine.1 hm).2 with h6 | h6
  · exact h2.2 h6
  · have := h2.1.lt
    omega

/-- And back. -/
theorem Lg.back {L : List Nat} {wq w0 w w' : World} {lb d room num : Nat} {T : List (List UInt8)} {M : List Fm} (h : Lg (mine L wq w0) w w' lb d room num T M) (t : Turn L wq w) (ht : Tab wq ∧ tabB ∉ L) : Lg L wq w' lb d room num T M := by
  obtain ⟨h1, h2, h3, h4, h5, v, l, hc, hd, hl, htx⟩ := h
  have hof : ∀ k, (k ∈ mine L wq w0 ∨ w.heap.size ≤ k) → (k ∈ L ∨ wq.heap.size ≤ k) := fun k hk => by
    rcases hk with hk | hk
    · exact (mem_mine.1 hk).2
    · exact .inr (Nat.le_trans t.size hk)
  exact ⟨t.trans h1 (fun i hi => hof i (.inl hi)), ht, hof lb h3, h4, h5, v, l, hc, hd, fun i hi => ⟨hof i (hl i hi).1, (hl i hi).2⟩, htx.imp (fun k _ hp => ⟨hof k hp.1, hp.2⟩)⟩

theorem Lg.sl {L : List Nat} {wq w : World} {lb d room num : Nat} {T : List (List UInt8)} {M : List Fm} (h : Lg L wq w lb d room num T M) {ao : Option Addr} {c : Nat} {b : List UInt8} (hs : Sl wq ao c b) (hL : ∀ A, ao = some A → b ≠ [] → A.block ∉ L) : Sl w ao c b := hs.turn h.1 hL

theorem Lg.head {L : List Nat} {wq w : World} {lb d room num : Nat} {T : List (List UInt8)} {M : List Fm} (h : Lg L wq w lb d room num T M) :
    w.cell? ⟨lb, 0, none⟩ = some (.pointer (some ⟨d, 0, none⟩)) ∧ w.cell? ⟨lb, 1, none⟩ = some (.int .i64 (num : Int)) ∧ w.frozen? ⟨lb, 1, none⟩ = false ∧ w.frozen? ⟨lb, 2, none⟩ = false := by
  obtain ⟨_, _, _, _, _, v, l, hc, _⟩ := h
  obtain ⟨c0, c1, _, _, z1, z2⟩ := three_cells hc
  exact ⟨c0, c1, z1, z2⟩

set_option maxHeartbeats 400000 in
theorem at_calls {L : List Nat} {wq w : World} {lb d room num : Nat} {T : List (List UInt8)} {M : List Fm} (h : Lg L wq w lb d room num T M) :
    Calls Tryz.prog 11 #[.pointer (some ⟨lb, 0, none⟩)] w fun e w' => e = .returned (.int .i64 (num : Int)) ∧ w = w' := by
  obtain ⟨-, c1, -, -⟩ := h.head
  clear h
  go_enter Tryz.func11, Tryz.ntmps11
  go_wp2
  go_ret
  exact ⟨rfl, rfl⟩

theorem segName_len (n : Nat) : (segName n).length ≤ 9223372036854775807 := by simp [segName]

theorem lg_sync {L : List Nat} {wq w : World} {lb d room num : Nat} {T : List (List UInt8)} {M : List Fm} {n : List UInt8} (h : Lg L wq w lb d room num T M) (hn : n.length ≤ 9223372036854775807) :
    Calls Tryz.prog 34 #[.pointer (some ⟨d, 0, none⟩), .string ⟨n.toArray⟩] w fun e w' => e = .returned (.int .i64 (synE M n)) ∧ Lg L wq w' lb d room num T (synM M n) := by
  obtain ⟨l, hd, hl, hk⟩ := h.over
  refine (sync_fn w hd hn).mono ?_
  rintro e w' ⟨rfl, ht, hd'⟩
  exact ⟨rfl, hk _ _ _ ht hd' (fun i hi => .inl hi)⟩

theorem lg_append {L : List Nat} {wq w : World} {lb d room num : Nat} {T : List (List UInt8)} {M : List Fm} {n bs : List UInt8} {ao : Option Addr} {c : Nat} (h : Lg L wq w lb d room num T M) (hn : n.length ≤ 9223372036854775807) (hs : Sl wq ao c bs)
    (hL : ∀ A, ao = some A → bs ≠ [] → A.block ∉ L) :
    Calls Tryz.prog 20 #[.pointer (some ⟨d, 0, none⟩), .string ⟨n.toArray⟩, .slice ao bs.length c] w fun e w' => e = .returned (.int .i64 (appE room M n bs)) ∧ Lg L wq w' lb d room num T (appM room M n bs) := by
  have hsw := h.sl hs hL
  obtain ⟨l, hd, hl, hk⟩ := h.over
  refine (append_fn w hd hn hsw (fun A hA hne hm => ?_)).mono ?_
  · subst hA
    have := hs.lt hne
    rcases (hl _ hm).1 with h2 | h2
    · exact hL A rfl hne h2
    · omega
  · rintro e w' ⟨rfl, ht, l', hd', hl'⟩
    exact ⟨rfl, hk _ _ _ ht hd' hl'⟩

theorem lg_delete {L : List Nat} {wq w : World} {lb d room num : Nat} {T : List (List UInt8)} {M : List Fm} {n : List UInt8} (h : Lg L wq w lb d room num T M) (hn : n.length ≤ 9223372036854775807) :
    Calls Tryz.prog 28 #[.pointer (some ⟨d, 0, none⟩), .string ⟨n.toArray⟩] w fun e w' => e = .returned (.int .i64 (synE M n)) ∧ Lg L wq w' lb d room num T (mDel n M) := by
  obtain ⟨l, hd, hl, hk⟩ := h.over
  refine (delete_fn w hd hn).mono ?_
  rintro e w' ⟨rfl, ht, l', hd', hl'⟩
  exact ⟨rfl, hk _ _ _ ht hd' (fun i hi => .inl (hl' i hi))⟩

theorem lg_read {L : List Nat} {wq w : World} {lb d room num : Nat} {T : List (List UInt8)} {M : List Fm} {n : List UInt8} (h : Lg L wq w lb d room num T M) (hn : n.length ≤ 9223372036854775807) :
    Calls Tryz.prog 19 #[.pointer (some ⟨d, 0, none⟩), .string ⟨n.toArray⟩] w fun e w' =>
      ∃ ao c, e = .returned (.tuple #[.slice ao (bytesOf M n).length c, .bool (hasF M n)]) ∧ Sl w' ao c (bytesOf M n) ∧ (∀ A, ao = some A → w.heap.size ≤ A.block) ∧ Lg L wq w' lb d room num T M ∧ Below w.heap.size w w' := by
  obtain ⟨l, hd, hl, hk⟩ := h.over
  refine (read_fn w hd hn).mono ?_
  rintro e w' ⟨ao, c, rfl, hs, ha, hb⟩
  exact ⟨ao, c, rfl, hs, ha, h.below hb, hb⟩

theorem lg_name {L : List Nat} {wq w : World} {lb d room num : Nat} {T : List (List UInt8)} {M : List Fm} (h : Lg L wq w lb d room num T M) {n : Nat} (hn : n ≤ 999) :
    Calls Tryz.prog 25 #[.int .i64 (n : Int)] w fun e w' => e = .returned (.string ⟨(segName n).toArray⟩) ∧ Lg L wq w' lb d room num T M := by
  refine (name_calls n hn w h.tab).mono ?_
  rintro e w' ⟨rfl, hb⟩
  exact ⟨rfl, h.below hb⟩

theorem unless6_syn (M : List Fm) (n : List UInt8) : unless6 (synE M n) = 0 := by
  unfold unless6 synE
  split <;> simp_all

set_option maxHeartbeats 2000000 in
set_option maxRecDepth 100000 in
theorem force_calls {L : List Nat} {wq w : World} {lb d room num : Nat} {T : List (List UInt8)} {M : List Fm} (h : Lg L wq w lb d room num T M) :
    Calls Tryz.prog 13 #[.pointer (some ⟨lb, 0, none⟩)] w fun e w' => e = .returned (.int .i64 0) ∧ Lg L wq w' lb d room num T (synM M (segName num)) := by
  obtain ⟨c0, c1, -, -⟩ := h.head
  have hn : num ≤ 999 := h.2.2.2.1
  have H := Lib.hid h
  clear h
  go_enter Tryz.func13, Tryz.ntmps13
  go_wp2_with fail
  go_region_held3 (fun w' => w'.cell? ⟨lb, 0, none⟩ = some (.pointer (some ⟨d, 0, none⟩)) ∧ w'.cell? ⟨lb, 1, none⟩ = some (.int .i64 (num : Int)))
    (go_keep)
    (first
      | (go_at_call 25; ((with_reducible refine (lg_name (H.out.turn (Turn.drew [] w)) hn).mono ?_); rintro e w1 ⟨rfl, h1⟩); obtain ⟨q0, q1, -, -⟩ := h1.head; have H1 := Lib.hid h1; clear h1)
      | (go_at_call 34; ((with_reducible refine (lg_sync H1.out (segName_len num)).mono ?_); rintro e w2 ⟨rfl, h2⟩); obtain ⟨q2, q3, -, -⟩ := h2.head; have H2 := Lib.hid h2; clear h2)
      | (go_at_call 27; ((with_reducible refine (unlessNone_calls _ _).mono ?_); rintro e w3 ⟨rfl, rfl⟩)))
  rw [unless6_syn]
  go_wp2
  go_ret
  exact ⟨rfl, H2.out⟩

end Go.Proofs.YtjdpglmphacfjaaGreatDoor
